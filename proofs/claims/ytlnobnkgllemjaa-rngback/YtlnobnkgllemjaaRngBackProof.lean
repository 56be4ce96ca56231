/- A row that is skipped in two goes stands where it stands when skipped at once, its parts are 0 to 65520, and the same place goes on the same: for every place and every two numbers (of which the statement takes 9 and 8 bits); no condition. -/
import Derived.Test.YtlnobnkgllemjaaRows
import Derived.Test.YtlnobnkgllemjaaRngPair
import Derived.Test.YtlnobnkgllemjaaRngMask
import Derived.Deep.CutRange
import Derived.WalkKit
import Derived.ProofKit
import Derived.OpenShut
import Derived.ShutString
import Derived.ChangeOld
import Derived.Below
namespace Go.Proofs.Ytlnobnkgllemjaa.rngBack
open Go.ChangeShapes Go.WideShapes Go.ChangeAt Go.RowKit
open Go.ChangeMaps (open_string shut_string)
set_option linter.unusedVariables false

theorem own : ownKnob Try.prog.godebug = none := by kernel_rfl
theorem laidOut : laidOutB Try.prog = true := by kernel_rfl

theorem since_new {W x : World} (h : (∀ b o, b < W.heap.size → x.cell? ⟨b, o, none⟩ = W.cell? ⟨b, o, none⟩) ∧ Below W.heap.size W x) (o : Obj) :
    (∀ b o', b < W.heap.size → (x.alloc o).cell? ⟨b, o', none⟩ = W.cell? ⟨b, o', none⟩) ∧ Below W.heap.size W (x.alloc o) :=
  since_on h ((Below.refl _ _).alloc (Nat.le_refl _) _)

theorem since_set4 {W x : World} {b : Nat} {v0 v1 v2 v3 : Value} (h : (∀ b o, b < W.heap.size → x.cell? ⟨b, o, none⟩ = W.cell? ⟨b, o, none⟩) ∧ Below W.heap.size W x) (hb : W.heap.size ≤ b) :
    let y := (((x.setCell ⟨b, 0, none⟩ v0).setCell ⟨b, 1, none⟩ v1).setCell ⟨b, 2, none⟩ v2).setCell ⟨b, 3, none⟩ v3
    (∀ b o, b < W.heap.size → y.cell? ⟨b, o, none⟩ = W.cell? ⟨b, o, none⟩) ∧ Below W.heap.size W y := by
  refine ⟨fun c o hc => ?_, set4 h.2 hb⟩
  have hn : b ≠ c := by omega
  simp [World.cell?_setCell_far, hn, h.1 c o hc]

/-- Skips as functions; a row along n and m words, in two goes and at once; the next word of that place. -/
theorem back_all (a b c d n m : Int) (hn : 0 ≤ n ∧ n ≤ 511) (hm : 0 ≤ m ∧ m ≤ 255) : ∃ (F G : Int → Int → Int → Int → Int → Int) (H : Int → Int) (P Q u v g P' Q' U' V' : Int),
    (∀ a b c d m w, Calls Try.prog 16 #[.agg #[.int .i64 a, .int .i64 b, .int .i64 c, .int .i64 d], .int .i64 m] w fun e w' => e = .returned (.agg #[.int .i64 (F a b c d m), .int .i64 (G a b c d m), .int .i64 (H c), .int .i64 (H d)]) ∧ Below w.heap.size w w') ∧
    Hid (F a b c d (n + m) = P ∧ G a b c d (n + m) = Q ∧ H c = u ∧ H d = v) ∧
    Hid (F (F a b c d n) (G a b c d n) (H c) (H d) m = P ∧ G (F a b c d n) (G a b c d n) (H c) (H d) m = Q ∧ H (H c) = u ∧ H (H d) = v) ∧
    (∀ w, Calls Try.prog 11 #[.agg #[.int .i64 P, .int .i64 Q, .int .i64 u, .int .i64 v]] w fun e w' => e = .returned (.tuple #[.int .u32 g, .agg #[.int .i64 P', .int .i64 Q', .int .i64 U', .int .i64 V']]) ∧ Below w.heap.size w w') ∧
    ((0 ≤ P ∧ P ≤ 65520) ∧ (0 ≤ Q ∧ Q ≤ 65520)) ∧ (0 ≤ u ∧ u ≤ 65520) ∧ (0 ≤ v ∧ v ≤ 65520) := by
  have hr := Rng.row_in (a % 65521) (b % 65521) (c % 65521) (d % 65521) (Rng.md_in a) (Rng.md_in b)
  refine ⟨fun a b c d m => (Rng.row (a % 65521) (b % 65521) (c % 65521) (d % 65521) (min m 1000).toNat).1, fun a b c d m => (Rng.row (a % 65521) (b % 65521) (c % 65521) (d % 65521) (min m 1000).toNat).2, fun c => c % 65521,
    _, _, _, _, _, _, _, _, _, skip_any, hide ⟨rfl, rfl, rfl, rfl⟩, hide ?_, fun w => next_any _ _ _ _ w, hr _, Rng.md_in c, Rng.md_in d⟩
  have e := Rng.row_add (a % 65521) (b % 65521) (c % 65521) (d % 65521) (min n 1000).toNat (min m 1000).toNat
  rw [show (min n 1000).toNat + (min m 1000).toNat = (min (n + m) 1000).toNat by omega] at e
  show (Rng.row _ _ _ _ _).1 = _ ∧ (Rng.row _ _ _ _ _).2 = _ ∧ _ ∧ _
  rw [Int.emod_emod c, Int.emod_emod d, Rng.md_id _ (hr _).1, Rng.md_id _ (hr _).2, ← e]
  exact ⟨rfl, rfl, Int.emod_emod .., Int.emod_emod ..⟩

theorem inside_any (n : Int) (h1 : 0 ≤ n) (h2 : n ≤ 65520) (w : World) : Calls Try.prog 18 #[.int .i64 n] w fun e w' => e = .returned (.bool true) ∧ w' = w := by
  go_enter Try.func18, Try.ntmps18
  go_wp2
  go_ret
  exact ⟨rfl, rfl⟩

set_option maxHeartbeats 4000000 in
theorem walk (a0 a0i a0u a0v : Int) (a1 : Int) (a2 : Int) (w : World) (w0 : Fits4 a0 a0i a0u a0v) (w1 : (Lit.int .i64 a1).wf = true) (w2 : (Lit.int .i64 a2).wf = true) :
    Calls Try.prog 6 #[.agg #[.int .i64 a0, .int .i64 a0i, .int .i64 a0u, .int .i64 a0v], .int .i64 a1, .int .i64 a2] w fun e w' => e = .returned (.bool true) ∧ Below w.heap.size w w' := by
  obtain ⟨n, hn, en⟩ : ∃ n, (0 ≤ n ∧ n ≤ 511) ∧ bits .and .i64 a1 511 = n := ⟨_, mask511 a1, rfl⟩
  obtain ⟨m, hm, em⟩ : ∃ m, (0 ≤ m ∧ m ≤ 255) ∧ bits .and .i64 a2 255 = m := ⟨_, mask255 a2, rfl⟩
  obtain ⟨F, G, H, P, Q, u, v, g, P', Q', U', V', h1, E1, E2, h4, ⟨⟨P1, P2⟩, ⟨Q1, Q2⟩⟩, ⟨u1, u2⟩, ⟨v1, v2⟩⟩ := back_all a0 a0i a0u a0v n m hn hm
  obtain ⟨n1, n2⟩ := hn
  obtain ⟨m1, m2⟩ := hm
  go_enter Try.func6, Try.ntmps6
  go_wp2
  generalize hW : w.alloc (.cells #[.int .i64 a0, .int .i64 a0i, .int .i64 a0u, .int .i64 a0v] 24) = W
  have hb : Below w.heap.size w W := hW ▸ (Below.refl _ w).alloc (Nat.le_refl _) _
  have zL : w.heap.size < W.heap.size := by rw [← hW]; simp
  have k0 : W.cell? ⟨w.heap.size, 0, none⟩ = some (.int .i64 a0) := by rw [← hW]; simp [go_sem]
  have k1 : W.cell? ⟨w.heap.size, 1, none⟩ = some (.int .i64 a0i) := by rw [← hW]; simp [go_sem]
  have k2 : W.cell? ⟨w.heap.size, 2, none⟩ = some (.int .i64 a0u) := by rw [← hW]; simp [go_sem]
  have k3 : W.cell? ⟨w.heap.size, 3, none⟩ = some (.int .i64 a0v) := by rw [← hW]; simp [go_sem]
  clear hW
  generalize hL : w.heap.size = L at zL k0 k1 k2 k3 ⊢
  have hw : IntKind.i64.wrap (n + m) = n + m := by rw [IntKind.wrap_i64]; omega
  have hq0 : Zeros [] W.drew := trivial
  have hq1 : Zeros [] W := trivial
  go_cut [9, 10] from 19 (fun s t x => ∃ A B, s = .pointer (some ⟨A, 0, none⟩) ∧ t = .pointer (some ⟨B, 0, none⟩) ∧ Pair A B w.heap.size w (F a0 a0i a0u a0v (n + m)) (G a0 a0i a0u a0v (n + m)) (H a0u) (H a0v)
    (F (F a0 a0i a0u a0v n) (G a0 a0i a0u a0v n) (H a0u) (H a0v) m) (G (F a0 a0i a0u a0v n) (G a0 a0i a0u a0v n) (H a0u) (H a0v) m) (H (H a0u)) (H (H a0v)) x)
  case first =>
    go_region_held3 (fun x => (∀ b o, b < W.heap.size → x.cell? ⟨b, o, none⟩ = W.cell? ⟨b, o, none⟩) ∧ Below W.heap.size W x)
      (first | with_reducible exact since_refl W | (repeat (first | with_reducible assumption | with_reducible exact since_self W | with_reducible refine since_drew ?_ | with_reducible refine since_new ?_ _ | with_reducible refine since_set4 ?_ (by first | assumption | omega | (simp; done) | (simp; omega)))))
      (first | (go_at_call 16; refine (h1 _ _ _ _ _ _).mono ?_; rintro e w' ⟨rfl, hn⟩; have hT := since_on (by assumption) hn; have hy := hT.2.size; (first | (with_reducible have hq := Zeros.on2 (by assumption) hn) | (with_reducible have hq := Zeros.on1 (by assumption) hn) | (with_reducible have hq := Zeros.on2d (by assumption) hn) | (with_reducible have hq := Zeros.on1d (by assumption) hn) | (with_reducible have hq := Zeros.on (by assumption) hn)); have hp := hq; (simp only [Zeros, Zero, and_true] at hp); clear hn))
    all_goals
      have hb2 : Below w.heap.size w w' := hb.trans (hT.2.mono hb.size)
      go_wp2_with fail
      go_meet
      case rel =>
        refine ⟨_, _, rfl, rfl, ?_⟩
        first
          | with_reducible exact Pair.start hb2
          | with_reducible exact (Pair.start hb2).flip
          | with_reducible exact Pair.lay1 _ _ _ _ _ _ _ _ (Zeros.hd hq) (by omega) hb2
          | with_reducible exact (Pair.lay1 _ _ _ _ _ _ _ _ (Zeros.hd hq) (by omega) hb2).flip
          | with_reducible exact Pair.lay2 _ _ _ _ _ _ _ _ (Zeros.hd hq) (Zeros.hd2 hq) (by omega) (by omega) (by omega) hb2
          | with_reducible exact Pair.lay2 _ _ _ _ _ _ _ _ (Zeros.hd2 hq) (Zeros.hd hq) (by omega) (by omega) (by omega) hb2
  case rest =>
    obtain ⟨A, B, rfl, rfl, hT⟩ := hcut
    obtain ⟨e1, e2, e3, e4⟩ := E1.out
    obtain ⟨e5, e6, e7, e8⟩ := E2.out
    rw [e5, e6, e7, e8, e1, e2, e3, e4] at hT
    clear E1 E2 e1 e2 e3 e4 e5 e6 e7 e8 h1 hq0 hq1 hb zL k0 k1 k2 k3 hw
    obtain ⟨l0, l1, l2, l3, r0, r1, r2, r3, fl, fr, zl, zr, ne, nl, nr, nw, be⟩ := id hT
    go_wp2_with fail
    refine (h4 _).mono ?_
    rintro e x1 ⟨rfl, b1⟩
    have hT1 := (hT.on b1).new (.cells #[.int .i64 P', .int .i64 Q', .int .i64 U', .int .i64 V'] 24)
    have hT0 := hT.on b1
    clear hT l0 l1 l2 l3 r0 r1 r2 r3 fl fr zl zr ne nl nr nw be b1
    obtain ⟨l0, l1, l2, l3, r0, r1, r2, r3, fl, fr, zl, zr, ne, nl, nr, nw, be⟩ := id hT0
    go_wp2_with fail
    refine (h4 _).mono ?_
    rintro e x2 ⟨rfl, b2⟩
    have hT2 := hT1.on b2
    obtain ⟨c2, f2⟩ := bcell b2
    have z2 : x1.heap.size < x2.heap.size := by have := b2.size; simp at this; omega
    clear hT0 hT1 l0 l1 l2 l3 r0 r1 r2 r3 fl fr zl zr ne nl nr nw be b2
    obtain ⟨l0, l1, l2, l3, r0, r1, r2, r3, fl, fr, zl, zr, ne, nl, nr, nw, be⟩ := id hT2
    go_wp2_with fail
    refine (fixed_any _).mono ?_
    rintro e x3 ⟨rfl, b3⟩
    have hT3 := (hT2.new _).on b3
    obtain ⟨c3, f3⟩ := bcell b3
    have zC : x1.heap.size < x2.heap.size + 1 := by omega
    have hS : (x3.cell? ⟨x1.heap.size, 0, none⟩ = some (.int .i64 P') ∧ x3.cell? ⟨x1.heap.size, 1, none⟩ = some (.int .i64 Q') ∧ x3.cell? ⟨x1.heap.size, 2, none⟩ = some (.int .i64 U') ∧ x3.cell? ⟨x1.heap.size, 3, none⟩ = some (.int .i64 V')) ∧
        (x3.cell? ⟨x2.heap.size, 0, none⟩ = some (.int .i64 P') ∧ x3.cell? ⟨x2.heap.size, 1, none⟩ = some (.int .i64 Q') ∧ x3.cell? ⟨x2.heap.size, 2, none⟩ = some (.int .i64 U') ∧ x3.cell? ⟨x2.heap.size, 3, none⟩ = some (.int .i64 V')) := by
      refine ⟨⟨?_, ?_, ?_, ?_⟩, ⟨?_, ?_, ?_, ?_⟩⟩ <;> simp [go_sem, c3, c2, z2, zC]
    obtain ⟨⟨s0, s1, s2, s3⟩, ⟨t0, t1, t2, t3⟩⟩ := hS
    clear hT2 l0 l1 l2 l3 r0 r1 r2 r3 fl fr zl zr ne nl nr nw be b3 c2 c3 f2 f3 z2 zC h4 hL
    obtain ⟨l0, l1, l2, l3, r0, r1, r2, r3, fl, fr, zl, zr, ne, nl, nr, nw, be⟩ := id hT3
    clear hT3 fl fr zl zr ne nl nr nw
    generalize x1.heap.size = C at *
    generalize x2.heap.size = D at *
    go_wp2_with fail
    refine (inside_any _ P1 P2 _).mono ?_
    rintro e w' ⟨rfl, rfl⟩
    go_wp2_with fail
    refine (inside_any _ Q1 Q2 _).mono ?_
    rintro e w' ⟨rfl, rfl⟩
    go_wp2_with fail
    refine (inside_any _ u1 u2 _).mono ?_
    rintro e w' ⟨rfl, rfl⟩
    go_wp2_with fail
    refine (inside_any _ v1 v2 _).mono ?_
    rintro e w' ⟨rfl, rfl⟩
    go_wp2
    go_ret
    exact ⟨rfl, be⟩

set_option maxRecDepth 100000 in
theorem lifted (os : Os) (started : os.Started) (H : Type) (enc : TypeId × Value → H) :
    ReturnsInHanded {} Try.checked os 6 .any (Rows.rngBackSpec.pre6 enc Try.prog Try.f6 Rows.rngBackRow.domain false) (Rows.rngBackSpec.post enc Try.prog Try.f6 false true false false) := by
  refine returnsInHanded_of_change (C := Try.checked) own started (by kernel_rfl) Try.func6
    (ChangeSpec.witness6 (enc := enc) (C := Try.checked) false ⟨#[], #[.agg #[.int .i64 0, .int .i64 0, .int .i64 0, .int .i64 0], .int .i64 0, .int .i64 0], []⟩ 8 (by kernel_rfl) (by kernel_rfl) (by kernel_rfl) (by kernel_rfl)) ?_
  intro W base args ds gs before hval0 hW hcnd _
  have hval : ∀ (j : Nat) t v, Try.f6.params[j]? = some t → args[j]? = some v → Value.okWide Try.prog W .any base t v := hval0
  have hW' := hW
  obtain ⟨p, q, hA0, hV, rfl, hfz, hnd⟩ := hW
  have hA : DataW.TrodAll enc Try.prog W 0 (fun _ => true) true Try.f6.params.toList args.toList ds p := hA0
  rw [Try.params6] at hA hval
  obtain ⟨v0, vs0, d0, ds0, p0, q0, hargs, rfl, rfl, h0, r0⟩ := trodAll_cons hA
  obtain ⟨v1, vs1, d1, ds1, p1, q1, rfl, rfl, rfl, h1, r1⟩ := trodAll_cons r0
  obtain ⟨v2, vs2, d2, ds2, p2, q2, rfl, rfl, rfl, h2, r2⟩ := trodAll_cons r1
  obtain ⟨rfl, rfl, rfl⟩ := trodAll_nil r2
  obtain rfl : args = #[v0, v1, v2] := by cases args; simp_all
  obtain ⟨rfl, rfl⟩ := trodVars_none hV
  obtain ⟨a0, a0i, a0u, a0v, rfl, rfl, rfl, w0⟩ := open_place (hval 0 24 v0 rfl rfl) h0
  obtain ⟨a1, rfl, rfl, rfl, w1⟩ := open_int Try.underlying3 (hval 1 3 v1 rfl rfl) h1
  obtain ⟨a2, rfl, rfl, rfl, w2⟩ := open_int Try.underlying3 (hval 2 3 v2 rfl rfl) h2
  clear hA0 hval0
  refine (walk a0 a0i a0u a0v a1 a2 W w0 w1 w2).mono fun e W' ⟨he, bel⟩ => ?_
  subst he
  exact ⟨_, rfl, _, _, _, [], _, [], hW', trodAll_mk1 (shut_bool Try.underlying4 _), (trodAll_cons_mk (shut_place w0) (trodAll_cons_mk (shut_int Try.underlying3 w1) (trodAll_cons_mk (shut_int Try.underlying3 w2) trodAll_mk0))), rfl, bel.frame _, fun h => by cases h⟩

theorem over : Rows.rngBackRow.holds Try.pinned (OpenSpec.ofChange Rows.rngBackSpec) :=
  OpenClaim.holds_of_wide 6 Try.f6 rfl rfl rfl rfl rfl rfl rfl ⟨rfl, rfl, rfl, rfl, rfl⟩ rfl rfl rfl rfl rfl (by kernel_rfl) Try.func6 (by kernel_rfl)
    (of_decide_eq_true (by kernel_rfl)) (by unfold Func.isWrapper; first | (rw [if_pos (by decide +kernel)]; kernel_rfl) | (rw [if_neg (by decide +kernel)]; exact ⟨rfl, rfl⟩))
    (fun os started H enc _ => lifted os started H enc)

theorem proved : Rows.RngBackSaid := over
end Go.Proofs.Ytlnobnkgllemjaa.rngBack
namespace Go.Proofs.Ytlnobnkgllemjaa
theorem rngBack_holds : Rows.RngBackSaid := rngBack.proved
#print axioms rngBack_holds
end Go.Proofs.Ytlnobnkgllemjaa
