/- Where any word's row begins, and what its first words are, is as the document says: for every word; no condition. -/
import Derived.Test.YtlnobnkgllemjaaRows
import Derived.Test.YtlnobnkgllemjaaRngPair
import Derived.WalkKit
import Derived.ProofKit
import Derived.OpenShut
import Derived.ShutString
import Derived.ChangeOld
import Derived.Below
namespace Go.Proofs.Ytlnobnkgllemjaa.rngSeeds
open Go.ChangeShapes Go.WideShapes Go.ChangeAt Go.RowKit
open Go.ChangeMaps (open_string shut_string)
set_option linter.unusedVariables false

theorem own : ownKnob Try.prog.godebug = none := by kernel_rfl
theorem laidOut : laidOutB Try.prog = true := by kernel_rfl

set_option maxHeartbeats 4000000 in
theorem walk (a0 : Int) (w : World) (w0 : (Lit.int .u32 a0).wf = true) :
    Calls Try.prog 3 #[.int .u32 a0] w fun e w' => e = .returned (.bool true) ∧ Below w.heap.size w w' := by
  obtain ⟨p0, q0, h1, h2⟩ : ∃ p q : Int, (∀ w, Calls Try.prog 9 #[.int .u32 a0] w fun e w' => e = .returned (.agg #[.int .i64 p, .int .i64 q, .int .i64 12345, .int .i64 6789]) ∧ Below w.heap.size w w') ∧
      (∀ w, Calls Try.prog 10 #[.int .u32 a0] w fun e w' => e = .returned (.agg #[.int .i64 p, .int .i64 q, .int .i64 12345, .int .i64 6789]) ∧ Below w.heap.size w w') :=
    ⟨_, _, fun w => seed_any a0 (bounds_u32 w0) w, fun w => rseed_any a0 (bounds_u32 w0) w⟩
  go_enter Try.func3, Try.ntmps3
  go_wp2_with fail
  refine (h1 _).mono ?_
  rintro e x1 ⟨rfl, b1⟩
  go_wp2_with fail
  refine (h2 _).mono ?_
  rintro e x2 ⟨rfl, b2⟩
  have z1 := b1.size
  have z2 := b2.size
  have hb := b1.trans (b2.mono z1)
  clear b1 b2 h1 h2
  go_wp2_with fail
  have hS := Pair.start (p := p0) (q := q0) (u := 12345) (v := 6789) (p' := p0) (q' := q0) (u' := 12345) (v' := 6789) hb
  generalize (x2.alloc (.cells #[.int .i64 p0, .int .i64 q0, .int .i64 12345, .int .i64 6789] 24)).alloc (.cells #[.int .i64 p0, .int .i64 q0, .int .i64 12345, .int .i64 6789] 24) = W at *
  clear hb z1 z2
  generalize x2.heap.size = L at *
  generalize L + 1 = R at *
  go_loopw [5] (fun i x => ∃ (k : Nat) (p q u v : Int), k ≤ 20 ∧ i = .int .i64 k ∧ Pair L R w.heap.size w p q u v p q u v x) (fun i _ => 20 - (intOf i).toNat)
  case atStart => exact ⟨0, p0, q0, 12345, 6789, by omega, rfl, hS⟩
  case round =>
    obtain ⟨k, p, q, u, v, hk, rfl, hT⟩ := hrel
    obtain ⟨l0, l1, l2, l3, r0, r1, r2, r3, fl, fr, zl, zr, ne, nl, nr, nw, be⟩ := id hT
    clear hS
    by_cases hlt : k < 20
    · have hlt' : (k : Int) < 20 := by omega
      obtain ⟨g, p', q', u', v', h1, h2⟩ := next_both p q u v
      go_wp2_with fail
      refine (h1 _).mono ?_
      rintro e x1 ⟨rfl, b1⟩
      have hT1 := hT.on b1
      have hT1' := hT1.new (.cells #[.int .i64 p', .int .i64 q', .int .i64 u', .int .i64 v'] 24)
      clear hT l0 l1 l2 l3 r0 r1 r2 r3 fl fr zl zr ne nl nr nw be
      obtain ⟨l0, l1, l2, l3, r0, r1, r2, r3, fl, fr, zl, zr, ne, nl, nr, nw, be⟩ := id hT1
      clear b1
      go_wp2_with fail
      refine (h2 _).mono ?_
      rintro e x3 ⟨rfl, b2⟩
      have hT2 := hT1'.on b2
      obtain ⟨c2, f2⟩ := bcell b2
      have y2 : x1.heap.size < x3.heap.size := by have := b2.size; simp at this; omega
      clear hT1 hT1' l0 l1 l2 l3 r0 r1 r2 r3 fl fr zl zr ne nl nr nw be
      obtain ⟨l0, l1, l2, l3, r0, r1, r2, r3, fl, fr, zl, zr, ne, nl, nr, nw, be⟩ := id hT2
      clear b2 h1 h2
      go_wp2_with fail
      go_roundw
      case rel => exact ⟨k + 1, p', q', u', v', by omega, by go_num, ((hT2.put p' q' u' v').flip.put p' q' u' v').flip.new _⟩
      case measure => simp [intOf]; omega
    · have hx : k = 20 := by omega
      subst hx
      go_wp2_with fail
      refine (fixed_any _).mono ?_
      rintro e x3 ⟨rfl, b3⟩
      have hT3 := hT.on b3
      go_wp2
      go_ret
      exact ⟨rfl, hT3.be⟩

set_option maxRecDepth 100000 in
theorem lifted (os : Os) (started : os.Started) (H : Type) (enc : TypeId × Value → H) :
    ReturnsInHanded {} Try.checked os 3 .any (Rows.rngSeedsSpec.pre6 enc Try.prog Try.f3 Rows.rngSeedsRow.domain false) (Rows.rngSeedsSpec.post enc Try.prog Try.f3 false true false false) := by
  refine returnsInHanded_of_change (C := Try.checked) own started (by kernel_rfl) Try.func3
    (ChangeSpec.witness6 (enc := enc) (C := Try.checked) false ⟨#[], #[.int .u32 0], []⟩ 8 (by kernel_rfl) (by kernel_rfl) (by kernel_rfl) (by kernel_rfl)) ?_
  intro W base args ds gs before hval0 hW hcnd _
  have hval : ∀ (j : Nat) t v, Try.f3.params[j]? = some t → args[j]? = some v → Value.okWide Try.prog W .any base t v := hval0
  have hW' := hW
  obtain ⟨p, q, hA0, hV, rfl, hfz, hnd⟩ := hW
  have hA : DataW.TrodAll enc Try.prog W 0 (fun _ => true) true Try.f3.params.toList args.toList ds p := hA0
  rw [Try.params3] at hA hval
  obtain ⟨v0, vs0, d0, ds0, p0, q0, hargs, rfl, rfl, h0, r0⟩ := trodAll_cons hA
  obtain ⟨rfl, rfl, rfl⟩ := trodAll_nil r0
  obtain rfl : args = #[v0] := by cases args; simp_all
  obtain ⟨rfl, rfl⟩ := trodVars_none hV
  obtain ⟨a0, rfl, rfl, rfl, w0⟩ := open_int Try.underlying22 (hval 0 22 v0 rfl rfl) h0
  clear hA0 hval0
  refine (walk a0 W w0).mono fun e W' ⟨he, bel⟩ => ?_
  subst he
  exact ⟨_, rfl, _, _, _, [], _, [], hW', trodAll_mk1 (shut_bool Try.underlying4 _), (trodAll_cons_mk (shut_int Try.underlying22 w0) trodAll_mk0), rfl, bel.frame _, fun h => by cases h⟩

theorem over : Rows.rngSeedsRow.holds Try.pinned (OpenSpec.ofChange Rows.rngSeedsSpec) :=
  OpenClaim.holds_of_wide 3 Try.f3 rfl rfl rfl rfl rfl rfl rfl ⟨rfl, rfl, rfl, rfl, rfl⟩ rfl rfl rfl rfl rfl (by kernel_rfl) Try.func3 (by kernel_rfl)
    (of_decide_eq_true (by kernel_rfl)) (by unfold Func.isWrapper; first | (rw [if_pos (by decide +kernel)]; kernel_rfl) | (rw [if_neg (by decide +kernel)]; exact ⟨rfl, rfl⟩))
    (fun os started H enc _ => lifted os started H enc)

theorem proved : Rows.RngSeedsSaid := over
end Go.Proofs.Ytlnobnkgllemjaa.rngSeeds
namespace Go.Proofs.Ytlnobnkgllemjaa
theorem rngSeeds_holds : Rows.RngSeedsSaid := rngSeeds.proved
#print axioms rngSeeds_holds
end Go.Proofs.Ytlnobnkgllemjaa
