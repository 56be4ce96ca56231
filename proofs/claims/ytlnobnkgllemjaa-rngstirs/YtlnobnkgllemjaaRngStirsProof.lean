/- What is stirred in twice is stirred in with both, a stir changes just the two parts, and with 0 none but modulo 65521: for every place and every two words; no condition. -/
import Derived.Test.YtlnobnkgllemjaaRows
import Derived.Test.YtlnobnkgllemjaaRngHeld
import Derived.WalkKit
import Derived.ProofKit
import Derived.OpenShut
import Derived.ShutString
import Derived.ChangeOld
import Derived.Below
namespace Go.Proofs.Ytlnobnkgllemjaa.rngStirs
open Go.ChangeShapes Go.WideShapes Go.ChangeAt Go.RowKit
open Go.ChangeMaps (open_string shut_string)
set_option linter.unusedVariables false

theorem own : ownKnob Try.prog.godebug = none := by kernel_rfl
theorem laidOut : laidOutB Try.prog = true := by kernel_rfl

theorem two_mod (x m n : Int) : ((x + m) % 65521 % 65521 + n) % 65521 = ((x + n) % 65521 % 65521 + m) % 65521 := by
  rw [Int.emod_emod, Int.emod_emod, Int.emod_add_emod, Int.emod_add_emod, show x + m + n = x + n + m by omega]

theorem no_stir (a : Int) : (a % 65521 + 0 % 65536 % 65521) % 65521 = a % 65521 ∧ (a % 65521 + 0 / 65536 % 65521) % 65521 = a % 65521 := by
  rw [show (0 : Int) % 65536 % 65521 = 0 by decide, show (0 : Int) / 65536 % 65521 = 0 by decide, Int.add_zero, Int.emod_emod]
  exact ⟨rfl, rfl⟩

/-- Two stirs, in both orders; a skip of none, a stir of none. -/
theorem stirs_all (a b c d m n : Int) (hm : 0 ≤ m ∧ m ≤ 4294967295) (hn : 0 ≤ n ∧ n ≤ 4294967295) : ∃ p q p' q' P Q u v P0 Q0 : Int,
    (∀ w, Calls Try.prog 14 #[.agg #[.int .i64 a, .int .i64 b, .int .i64 c, .int .i64 d], .int .u32 m] w fun e w' => e = .returned (.agg #[.int .i64 p, .int .i64 q, .int .i64 u, .int .i64 v]) ∧ Below w.heap.size w w') ∧
    (∀ w, Calls Try.prog 14 #[.agg #[.int .i64 p, .int .i64 q, .int .i64 u, .int .i64 v], .int .u32 n] w fun e w' => e = .returned (.agg #[.int .i64 P, .int .i64 Q, .int .i64 u, .int .i64 v]) ∧ Below w.heap.size w w') ∧
    (∀ w, Calls Try.prog 14 #[.agg #[.int .i64 a, .int .i64 b, .int .i64 c, .int .i64 d], .int .u32 n] w fun e w' => e = .returned (.agg #[.int .i64 p', .int .i64 q', .int .i64 u, .int .i64 v]) ∧ Below w.heap.size w w') ∧
    (∀ w, Calls Try.prog 14 #[.agg #[.int .i64 p', .int .i64 q', .int .i64 u, .int .i64 v], .int .u32 m] w fun e w' => e = .returned (.agg #[.int .i64 P, .int .i64 Q, .int .i64 u, .int .i64 v]) ∧ Below w.heap.size w w') ∧
    (∀ w, Calls Try.prog 16 #[.agg #[.int .i64 a, .int .i64 b, .int .i64 c, .int .i64 d], .int .i64 0] w fun e w' => e = .returned (.agg #[.int .i64 P0, .int .i64 Q0, .int .i64 u, .int .i64 v]) ∧ Below w.heap.size w w') ∧
    (∀ w, Calls Try.prog 14 #[.agg #[.int .i64 a, .int .i64 b, .int .i64 c, .int .i64 d], .int .u32 0] w fun e w' => e = .returned (.agg #[.int .i64 P0, .int .i64 Q0, .int .i64 u, .int .i64 v]) ∧ Below w.heap.size w w') := by
  refine ⟨_, _, _, _, ((a % 65521 + m % 65536 % 65521) % 65521 % 65521 + n % 65536 % 65521) % 65521, ((b % 65521 + m / 65536 % 65521) % 65521 % 65521 + n / 65536 % 65521) % 65521, _, _, a % 65521, b % 65521,
    fun w => stir_any a b c d m hm w, fun w => ?_, fun w => stir_any a b c d n hn w, fun w => ?_, fun w => ?_, fun w => ?_⟩
  · have := stir_any ((a % 65521 + m % 65536 % 65521) % 65521) ((b % 65521 + m / 65536 % 65521) % 65521) (c % 65521) (d % 65521) n hn w
    rw [Int.emod_emod c, Int.emod_emod d] at this
    exact this
  · have := stir_any ((a % 65521 + n % 65536 % 65521) % 65521) ((b % 65521 + n / 65536 % 65521) % 65521) (c % 65521) (d % 65521) m hm w
    rw [Int.emod_emod c, Int.emod_emod d, two_mod (a % 65521) (n % 65536 % 65521), two_mod (b % 65521) (n / 65536 % 65521)] at this
    exact this
  · exact skip_any a b c d 0 w
  · have := stir_any a b c d 0 (by omega) w
    rw [(no_stir a).1, (no_stir b).2] at this
    exact this

set_option maxHeartbeats 4000000 in
theorem walk (a0 a0i a0u a0v : Int) (a1 : Int) (a2 : Int) (w : World) (w0 : Fits4 a0 a0i a0u a0v) (w1 : (Lit.int .u32 a1).wf = true) (w2 : (Lit.int .u32 a2).wf = true) :
    Calls Try.prog 8 #[.agg #[.int .i64 a0, .int .i64 a0i, .int .i64 a0u, .int .i64 a0v], .int .u32 a1, .int .u32 a2] w fun e w' => e = .returned (.bool true) ∧ Below w.heap.size w w' := by
  obtain ⟨p, q, p', q', P, Q, u, v, P0, Q0, h1, h2, h3, h4, h5, h6⟩ := stirs_all a0 a0i a0u a0v a1 a2 (bounds_u32 w1) (bounds_u32 w2)
  go_enter Try.func8, Try.ntmps8
  go_wp2_with fail
  refine (h1 _).mono ?_
  rintro e x1 ⟨rfl, b1⟩
  obtain ⟨c1, f1⟩ := bcell b1
  have z1 : w.heap.size < x1.heap.size := by have := b1.size; simp at this; omega
  go_wp2_with fail
  refine (h2 _).mono ?_
  rintro e x2 ⟨rfl, b2⟩
  obtain ⟨c2, f2⟩ := bcell b2
  have z2 : w.heap.size < x2.heap.size := by have := b2.size; omega
  go_wp2_with fail
  refine (h3 _).mono ?_
  rintro e x3 ⟨rfl, b3⟩
  obtain ⟨c3, f3⟩ := bcell b3
  have z3 : x2.heap.size < x3.heap.size := by have := b3.size; simp at this; omega
  have y3 : w.heap.size < x3.heap.size := by omega
  go_wp2_with fail
  refine (h4 _).mono ?_
  rintro e x4 ⟨rfl, b4⟩
  obtain ⟨c4, f4⟩ := bcell b4
  have z4 : x2.heap.size < x4.heap.size := by have := b4.size; omega
  have y4 : w.heap.size < x4.heap.size := by omega
  go_wp2_with fail
  refine (h5 _).mono ?_
  rintro e x5 ⟨rfl, b5⟩
  obtain ⟨c5, f5⟩ := bcell b5
  have z5 : x4.heap.size < x5.heap.size := by have := b5.size; simp at this; omega
  go_wp2_with fail
  generalize hW : x5.alloc (.cells #[.int .i64 P0, .int .i64 Q0, .int .i64 u, .int .i64 v] 24) = W
  have hb : Below w.heap.size w W := by
    rw [← hW]
    have s1 := ((Below.refl _ w).alloc (Nat.le_refl _) _).trans (b1.mono (by simp))
    have s2 := (s1.trans (b2.mono (by omega))).alloc (by omega : w.heap.size ≤ x2.heap.size) (.cells #[.int .i64 P, .int .i64 Q, .int .i64 u, .int .i64 v] 24)
    have s3 := s2.trans (b3.mono (by simp; omega))
    have s4 := (s3.trans (b4.mono (by omega))).alloc (by omega : w.heap.size ≤ x4.heap.size) (.cells #[.int .i64 P, .int .i64 Q, .int .i64 u, .int .i64 v] 24)
    exact (s4.trans (b5.mono (by simp; omega))).alloc (by omega) _
  have zA : w.heap.size < W.heap.size := by rw [← hW]; simp; omega
  have zB : x2.heap.size < W.heap.size := by rw [← hW]; simp; omega
  have zC : x4.heap.size < W.heap.size := by rw [← hW]; simp; omega
  have zD : x5.heap.size < W.heap.size := by rw [← hW]; simp
  have q1 : w.heap.size < x2.heap.size + 1 := by omega
  have q2 : w.heap.size < x4.heap.size + 1 := by omega
  have q3 : w.heap.size < x5.heap.size := by omega
  have q4 : x2.heap.size < x4.heap.size + 1 := by omega
  have q5 : x2.heap.size < x5.heap.size := by omega
  have hS : (W.cell? ⟨w.heap.size, 0, none⟩ = some (.int .i64 a0) ∧ W.cell? ⟨w.heap.size, 1, none⟩ = some (.int .i64 a0i) ∧ W.cell? ⟨w.heap.size, 2, none⟩ = some (.int .i64 a0u) ∧ W.cell? ⟨w.heap.size, 3, none⟩ = some (.int .i64 a0v)) ∧
      (W.cell? ⟨x2.heap.size, 0, none⟩ = some (.int .i64 P) ∧ W.cell? ⟨x2.heap.size, 1, none⟩ = some (.int .i64 Q) ∧ W.cell? ⟨x2.heap.size, 2, none⟩ = some (.int .i64 u) ∧ W.cell? ⟨x2.heap.size, 3, none⟩ = some (.int .i64 v)) ∧
      (W.cell? ⟨x4.heap.size, 0, none⟩ = some (.int .i64 P) ∧ W.cell? ⟨x4.heap.size, 1, none⟩ = some (.int .i64 Q) ∧ W.cell? ⟨x4.heap.size, 2, none⟩ = some (.int .i64 u) ∧ W.cell? ⟨x4.heap.size, 3, none⟩ = some (.int .i64 v)) ∧
      (W.cell? ⟨x5.heap.size, 0, none⟩ = some (.int .i64 P0) ∧ W.cell? ⟨x5.heap.size, 1, none⟩ = some (.int .i64 Q0) ∧ W.cell? ⟨x5.heap.size, 2, none⟩ = some (.int .i64 u) ∧ W.cell? ⟨x5.heap.size, 3, none⟩ = some (.int .i64 v)) := by
    refine ⟨⟨?_, ?_, ?_, ?_⟩, ⟨?_, ?_, ?_, ?_⟩, ⟨?_, ?_, ?_, ?_⟩, ⟨?_, ?_, ?_, ?_⟩⟩ <;> rw [← hW] <;> simp [go_sem, c1, c2, c3, c4, c5, z1, z2, z3, y3, z4, y4, z5, q1, q2, q3, q4, q5]
  obtain ⟨⟨k0, k1, k2, k3⟩, ⟨l0, l1, l2, l3⟩, ⟨m0, m1, m2, m3⟩, ⟨n0, n1, n2, n3⟩⟩ := hS
  clear hW c1 c2 c3 c4 c5 f1 f2 f3 f4 f5 b1 b2 b3 b4 b5 z1 z2 z3 y3 z4 y4 z5 q1 q2 q3 q4 q5 h1 h2 h3 h4 h5
  generalize hL : w.heap.size = L at zA k0 k1 k2 k3 ⊢
  generalize x2.heap.size = M at *
  generalize x4.heap.size = N at *
  generalize x5.heap.size = O at *
  go_region_held3 (fun x => (∀ b o, b < W.heap.size → x.cell? ⟨b, o, none⟩ = W.cell? ⟨b, o, none⟩) ∧ Below W.heap.size W x)
    (first | exact since_refl W | assumption)
    (first
      | (go_at_call 13; refine (fixed_any _).mono ?_; rintro e w' ⟨rfl, hn⟩; have hT := since_on (by assumption) hn; clear hn)
      | (go_at_call 14; refine (h6 _).mono ?_; rintro e w' ⟨rfl, hn⟩; have hT := since_on (by assumption) hn; clear hn))
  all_goals
    go_wp2
    go_ret
    exact ⟨rfl, hL ▸ hb.trans (hT.2.mono hb.size)⟩

set_option maxRecDepth 100000 in
theorem lifted (os : Os) (started : os.Started) (H : Type) (enc : TypeId × Value → H) :
    ReturnsInHanded {} Try.checked os 8 .any (Rows.rngStirsSpec.pre6 enc Try.prog Try.f8 Rows.rngStirsRow.domain false) (Rows.rngStirsSpec.post enc Try.prog Try.f8 false true false false) := by
  refine returnsInHanded_of_change (C := Try.checked) own started (by kernel_rfl) Try.func8
    (ChangeSpec.witness6 (enc := enc) (C := Try.checked) false ⟨#[], #[.agg #[.int .i64 0, .int .i64 0, .int .i64 0, .int .i64 0], .int .u32 0, .int .u32 0], []⟩ 8 (by kernel_rfl) (by kernel_rfl) (by kernel_rfl) (by kernel_rfl)) ?_
  intro W base args ds gs before hval0 hW hcnd _
  have hval : ∀ (j : Nat) t v, Try.f8.params[j]? = some t → args[j]? = some v → Value.okWide Try.prog W .any base t v := hval0
  have hW' := hW
  obtain ⟨p, q, hA0, hV, rfl, hfz, hnd⟩ := hW
  have hA : DataW.TrodAll enc Try.prog W 0 (fun _ => true) true Try.f8.params.toList args.toList ds p := hA0
  rw [Try.params8] at hA hval
  obtain ⟨v0, vs0, d0, ds0, p0, q0, hargs, rfl, rfl, h0, r0⟩ := trodAll_cons hA
  obtain ⟨v1, vs1, d1, ds1, p1, q1, rfl, rfl, rfl, h1, r1⟩ := trodAll_cons r0
  obtain ⟨v2, vs2, d2, ds2, p2, q2, rfl, rfl, rfl, h2, r2⟩ := trodAll_cons r1
  obtain ⟨rfl, rfl, rfl⟩ := trodAll_nil r2
  obtain rfl : args = #[v0, v1, v2] := by cases args; simp_all
  obtain ⟨rfl, rfl⟩ := trodVars_none hV
  obtain ⟨a0, a0i, a0u, a0v, rfl, rfl, rfl, w0⟩ := open_place (hval 0 24 v0 rfl rfl) h0
  obtain ⟨a1, rfl, rfl, rfl, w1⟩ := open_int Try.underlying22 (hval 1 22 v1 rfl rfl) h1
  obtain ⟨a2, rfl, rfl, rfl, w2⟩ := open_int Try.underlying22 (hval 2 22 v2 rfl rfl) h2
  clear hA0 hval0
  refine (walk a0 a0i a0u a0v a1 a2 W w0 w1 w2).mono fun e W' ⟨he, bel⟩ => ?_
  subst he
  exact ⟨_, rfl, _, _, _, [], _, [], hW', trodAll_mk1 (shut_bool Try.underlying4 _), (trodAll_cons_mk (shut_place w0) (trodAll_cons_mk (shut_int Try.underlying22 w1) (trodAll_cons_mk (shut_int Try.underlying22 w2) trodAll_mk0))), rfl, bel.frame _, fun h => by cases h⟩

theorem over : Rows.rngStirsRow.holds Try.pinned (OpenSpec.ofChange Rows.rngStirsSpec) :=
  OpenClaim.holds_of_wide 8 Try.f8 rfl rfl rfl rfl rfl rfl rfl ⟨rfl, rfl, rfl, rfl, rfl⟩ rfl rfl rfl rfl rfl (by kernel_rfl) Try.func8 (by kernel_rfl)
    (of_decide_eq_true (by kernel_rfl)) (by unfold Func.isWrapper; first | (rw [if_pos (by decide +kernel)]; kernel_rfl) | (rw [if_neg (by decide +kernel)]; exact ⟨rfl, rfl⟩))
    (fun os started H enc _ => lifted os started H enc)

theorem proved : Rows.RngStirsSaid := over
end Go.Proofs.Ytlnobnkgllemjaa.rngStirs
namespace Go.Proofs.Ytlnobnkgllemjaa
theorem rngStirs_holds : Rows.RngStirsSaid := rngStirs.proved
#print axioms rngStirs_holds
end Go.Proofs.Ytlnobnkgllemjaa
