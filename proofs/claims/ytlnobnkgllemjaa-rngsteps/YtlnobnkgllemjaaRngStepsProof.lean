/- The next word of any place, and what is stirred in, is as the document says: for every place and every word; no condition. -/
import Derived.Test.YtlnobnkgllemjaaRows
import Derived.Test.YtlnobnkgllemjaaRngHeld
import Derived.WalkKit
import Derived.ProofKit
import Derived.OpenShut
import Derived.ShutString
import Derived.ChangeOld
import Derived.Below
namespace Go.Proofs.Ytlnobnkgllemjaa.rngSteps
open Go.ChangeShapes Go.WideShapes Go.ChangeAt Go.RowKit
open Go.ChangeMaps (open_string shut_string)
set_option linter.unusedVariables false

theorem own : ownKnob Try.prog.godebug = none := by kernel_rfl
theorem laidOut : laidOutB Try.prog = true := by kernel_rfl

set_option maxHeartbeats 4000000 in
theorem walk (a0 a0i a0u a0v : Int) (a1 : Int) (w : World) (w0 : Fits4 a0 a0i a0u a0v) (w1 : (Lit.int .u32 a1).wf = true) :
    Calls Try.prog 4 #[.agg #[.int .i64 a0, .int .i64 a0i, .int .i64 a0u, .int .i64 a0v], .int .u32 a1] w fun e w' => e = .returned (.bool true) ∧ Below w.heap.size w w' := by
  obtain ⟨g, p, q, u, v, h1, h2⟩ := next_both a0 a0i a0u a0v
  obtain ⟨p', q', u', v', h3, h4⟩ := stir_both a0 a0i a0u a0v a1 (bounds_u32 w1)
  go_enter Try.func4, Try.ntmps4
  go_wp2_with fail
  refine (h1 _).mono ?_
  rintro e x1 ⟨rfl, b1⟩
  obtain ⟨c1, f1⟩ := bcell b1
  have z1 : w.heap.size < x1.heap.size := by have := b1.size; simp at this; omega
  go_wp2_with fail
  refine (h2 _).mono ?_
  rintro e x2 ⟨rfl, b2⟩
  obtain ⟨c2, f2⟩ := bcell b2
  have z2 : x1.heap.size < x2.heap.size := by have := b2.size; simp at this; omega
  go_wp2_with fail
  generalize hW : x2.alloc (.cells #[.int .i64 p, .int .i64 q, .int .i64 u, .int .i64 v] 24) = W
  have hb : Below w.heap.size w W := hW ▸ (((((Below.refl _ w).alloc (Nat.le_refl _) _).trans (b1.mono (by simp))).alloc (by omega) _).trans (b2.mono (by simp; omega))).alloc (by omega) _
  have zA : w.heap.size < W.heap.size := by rw [← hW]; simp; omega
  have zB : x1.heap.size < W.heap.size := by rw [← hW]; simp; omega
  have zC : x2.heap.size < W.heap.size := by rw [← hW]; simp
  have za : w.heap.size < x1.heap.size + 1 := by omega
  have zb : w.heap.size < x2.heap.size := by omega
  have hS : (W.cell? ⟨w.heap.size, 0, none⟩ = some (.int .i64 a0) ∧ W.cell? ⟨w.heap.size, 1, none⟩ = some (.int .i64 a0i) ∧ W.cell? ⟨w.heap.size, 2, none⟩ = some (.int .i64 a0u) ∧ W.cell? ⟨w.heap.size, 3, none⟩ = some (.int .i64 a0v)) ∧
      (W.cell? ⟨x1.heap.size, 0, none⟩ = some (.int .i64 p) ∧ W.cell? ⟨x1.heap.size, 1, none⟩ = some (.int .i64 q) ∧ W.cell? ⟨x1.heap.size, 2, none⟩ = some (.int .i64 u) ∧ W.cell? ⟨x1.heap.size, 3, none⟩ = some (.int .i64 v)) ∧
      (W.cell? ⟨x2.heap.size, 0, none⟩ = some (.int .i64 p) ∧ W.cell? ⟨x2.heap.size, 1, none⟩ = some (.int .i64 q) ∧ W.cell? ⟨x2.heap.size, 2, none⟩ = some (.int .i64 u) ∧ W.cell? ⟨x2.heap.size, 3, none⟩ = some (.int .i64 v)) := by
    refine ⟨⟨?_, ?_, ?_, ?_⟩, ⟨?_, ?_, ?_, ?_⟩, ⟨?_, ?_, ?_, ?_⟩⟩ <;> rw [← hW] <;> simp [go_sem, c1, c2, z1, z2, za, zb]
  obtain ⟨⟨k0, k1, k2, k3⟩, ⟨l0, l1, l2, l3⟩, ⟨m0, m1, m2, m3⟩⟩ := hS
  clear hW c1 c2 f1 f2 b1 b2 z1 z2 za zb h1 h2
  generalize hL : w.heap.size = L at zA k0 k1 k2 k3 ⊢
  generalize x1.heap.size = M at *
  generalize x2.heap.size = N at *
  go_region_held3 (fun x => (∀ b o, b < W.heap.size → x.cell? ⟨b, o, none⟩ = W.cell? ⟨b, o, none⟩) ∧ Below W.heap.size W x)
    (first | exact since_refl W | assumption)
    (first
      | (go_at_call 13; refine (fixed_any _).mono ?_; rintro e w' ⟨rfl, hn⟩; have hT := since_on (by assumption) hn; clear hn)
      | (go_at_call 14; refine (h3 _).mono ?_; rintro e w' ⟨rfl, hn⟩; have hT := since_on (by assumption) hn; clear hn)
      | (go_at_call 15; refine (h4 _).mono ?_; rintro e w' ⟨rfl, hn⟩; have hT := since_on (by assumption) hn; clear hn))
  all_goals
    go_wp2
    go_ret
    exact ⟨rfl, hL ▸ hb.trans (hT.2.mono hb.size)⟩

set_option maxRecDepth 100000 in
theorem lifted (os : Os) (started : os.Started) (H : Type) (enc : TypeId × Value → H) :
    ReturnsInHanded {} Try.checked os 4 .any (Rows.rngStepsSpec.pre6 enc Try.prog Try.f4 Rows.rngStepsRow.domain false) (Rows.rngStepsSpec.post enc Try.prog Try.f4 false true false false) := by
  refine returnsInHanded_of_change (C := Try.checked) own started (by kernel_rfl) Try.func4
    (ChangeSpec.witness6 (enc := enc) (C := Try.checked) false ⟨#[], #[.agg #[.int .i64 0, .int .i64 0, .int .i64 0, .int .i64 0], .int .u32 0], []⟩ 8 (by kernel_rfl) (by kernel_rfl) (by kernel_rfl) (by kernel_rfl)) ?_
  intro W base args ds gs before hval0 hW hcnd _
  have hval : ∀ (j : Nat) t v, Try.f4.params[j]? = some t → args[j]? = some v → Value.okWide Try.prog W .any base t v := hval0
  have hW' := hW
  obtain ⟨p, q, hA0, hV, rfl, hfz, hnd⟩ := hW
  have hA : DataW.TrodAll enc Try.prog W 0 (fun _ => true) true Try.f4.params.toList args.toList ds p := hA0
  rw [Try.params4] at hA hval
  obtain ⟨v0, vs0, d0, ds0, p0, q0, hargs, rfl, rfl, h0, r0⟩ := trodAll_cons hA
  obtain ⟨v1, vs1, d1, ds1, p1, q1, rfl, rfl, rfl, h1, r1⟩ := trodAll_cons r0
  obtain ⟨rfl, rfl, rfl⟩ := trodAll_nil r1
  obtain rfl : args = #[v0, v1] := by cases args; simp_all
  obtain ⟨rfl, rfl⟩ := trodVars_none hV
  obtain ⟨a0, a0i, a0u, a0v, rfl, rfl, rfl, w0⟩ := open_place (hval 0 24 v0 rfl rfl) h0
  obtain ⟨a1, rfl, rfl, rfl, w1⟩ := open_int Try.underlying22 (hval 1 22 v1 rfl rfl) h1
  clear hA0 hval0
  refine (walk a0 a0i a0u a0v a1 W w0 w1).mono fun e W' ⟨he, bel⟩ => ?_
  subst he
  exact ⟨_, rfl, _, _, _, [], _, [], hW', trodAll_mk1 (shut_bool Try.underlying4 _), (trodAll_cons_mk (shut_place w0) (trodAll_cons_mk (shut_int Try.underlying22 w1) trodAll_mk0)), rfl, bel.frame _, fun h => by cases h⟩

theorem over : Rows.rngStepsRow.holds Try.pinned (OpenSpec.ofChange Rows.rngStepsSpec) :=
  OpenClaim.holds_of_wide 4 Try.f4 rfl rfl rfl rfl rfl rfl rfl ⟨rfl, rfl, rfl, rfl, rfl⟩ rfl rfl rfl rfl rfl (by kernel_rfl) Try.func4 (by kernel_rfl)
    (of_decide_eq_true (by kernel_rfl)) (by unfold Func.isWrapper; first | (rw [if_pos (by decide +kernel)]; kernel_rfl) | (rw [if_neg (by decide +kernel)]; exact ⟨rfl, rfl⟩))
    (fun os started H enc _ => lifted os started H enc)

theorem proved : Rows.RngStepsSaid := over
end Go.Proofs.Ytlnobnkgllemjaa.rngSteps
namespace Go.Proofs.Ytlnobnkgllemjaa
theorem rngSteps_holds : Rows.RngStepsSaid := rngSteps.proved
#print axioms rngSteps_holds
end Go.Proofs.Ytlnobnkgllemjaa
