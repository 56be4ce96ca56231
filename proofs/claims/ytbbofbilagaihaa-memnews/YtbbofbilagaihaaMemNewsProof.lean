/- How many pages a memory may have is as the document says: for every number; no condition. -/
import Derived.Test.YtbbofbilagaihaaRows
import Derived.Test.YtbbofbilagaihaaMemR1
import Derived.Deep.RegionHeld3
import Derived.WalkKit
import Derived.ProofKit
import Derived.OpenShut
import Derived.ShutString
import Derived.ChangeOld
import Derived.Below
namespace Go.Proofs.Ytbbofbilagaihaa.memNews
open Go.ChangeShapes Go.WideShapes Go.ChangeAt Go.RowKit
open Go.ChangeMaps (open_string shut_string)
set_option linter.unusedVariables false

theorem own : ownKnob Try.prog.godebug = none := by kernel_rfl
theorem laidOut : laidOutB Try.prog = true := by kernel_rfl

theorem news_on {w x y : World} {p g pr gb gd n : Nat} {T : ByteArray} (hT : T = textOf (256 * n) (fun _ => 0))
    (h : Mem x p g n n (fun _ => 0) (fun _ => false) ∧ RMem x pr gb gd n (fun _ => 0) (fun _ => false) ∧ Below w.heap.size w x ∧ x.cell? ⟨pr, 0, none⟩ = some (.slice (some ⟨gb, 0, none⟩) (256 * n) (256 * n)) ∧ (convert 32 9 (.slice (some ⟨gb, 0, none⟩) (256 * n) (256 * n))).run Try.prog x = .ok (.string T) x)
    (hb : Below x.heap.size x y) :
    Mem y p g n n (fun _ => 0) (fun _ => false) ∧ RMem y pr gb gd n (fun _ => 0) (fun _ => false) ∧ Below w.heap.size w y ∧ y.cell? ⟨pr, 0, none⟩ = some (.slice (some ⟨gb, 0, none⟩) (256 * n) (256 * n)) ∧ (convert 32 9 (.slice (some ⟨gb, 0, none⟩) (256 * n) (256 * n))).run Try.prog y = .ok (.string T) y :=
  ⟨h.1.on hb, h.2.1.on hb, h.2.2.1.trans (hb.mono h.2.2.1.size), (h.2.1.on hb).hb, by rw [hT]; exact rtext (h.2.1.on hb)⟩

/-- A region that draws its order, walked once, in a class of worlds in which each of its operations tells one value. -/
theorem region_calm {P : Program} {id : Nat} {Q : Exit → Act → World → Prop} {a : Act} {w : World} {l : List Oper} (C : World → Prop) (hm : P.follows .mixedOrders = true) (hB : Region.lexB .any l.toArray = true) (hC : C w.drew)
    (h : wpQuiet P l.toArray C (fun a' => ∀ w', C w' → Q .normal a' w') l a) : (Code.region id l.toArray true).wp P Q a w :=
  wp_region_quiet (C := C) hm hB hC (by simpa using h)

/-- A world that has grown out of w. -/
structure Onto (w : World) where
  x : World
  b : Below w.heap.size w x

theorem fix_clean_n (n : Nat) : dirts (fun _ => false) n = [] := by simp [dirts]

set_option maxHeartbeats 4000000 in
set_option maxRecDepth 100000 in
theorem walk (a0 : Int) (w : World) (w0 : (Lit.int .i64 a0).wf = true) :
    Calls Try.prog 3 #[.int .i64 a0] w fun e w' => e = .returned (.bool true) ∧ Below w.heap.size w w' := by
  by_cases hr : 4 ≤ a0 ∧ a0 ≤ 64
  · obtain ⟨n, hn⟩ : ∃ n : Nat, a0 = (n : Int) := ⟨a0.toNat, by omega⟩
    subst hn
    have h4 : 4 ≤ n := by omega
    have h64 : n ≤ 64 := by omega
    go_enter Try.func3, Try.ntmps3
    go_wp2_with fail
    refine (new_any n h4 h64 w).mono ?_
    rintro e w1 ⟨p, g, rfl, M1, hp, hg, b1⟩
    go_wp2_with fail
    refine (rnew_any n h4 h64 w1).mono ?_
    rintro e w2 ⟨pr, gb, gd, rfl, R2, -, -, -, b2⟩
    have M2 := M1.on b2
    have c2 := b1.trans (b2.mono b1.size)
    obtain ⟨T, hT⟩ : ∃ T, T = textOf (256 * n) (fun _ => 0) := ⟨_, rfl⟩
    have S0 : Mem w2.drew p g n n (fun _ => 0) (fun _ => false) ∧ RMem w2.drew pr gb gd n (fun _ => 0) (fun _ => false) ∧ Below w.heap.size w w2.drew ∧ w2.drew.cell? ⟨pr, 0, none⟩ = some (.slice (some ⟨gb, 0, none⟩) (256 * n) (256 * n)) ∧ (convert 32 9 (.slice (some ⟨gb, 0, none⟩) (256 * n) (256 * n))).run Try.prog w2.drew = .ok (.string T) w2.drew :=
      news_on hT ⟨M2, R2, c2, R2.hb, by rw [hT]; exact rtext R2⟩ (Below.refl _ _).drew
    have HT := hide hT
    clear M1 b1 b2 M2 c2 R2 hT
    go_wp2_with fail
    go_region_held3 (fun x => Mem x p g n n (fun _ => 0) (fun _ => false) ∧ RMem x pr gb gd n (fun _ => 0) (fun _ => false) ∧ Below w.heap.size w x ∧ x.cell? ⟨pr, 0, none⟩ = some (.slice (some ⟨gb, 0, none⟩) (256 * n) (256 * n)) ∧ (convert 32 9 (.slice (some ⟨gb, 0, none⟩) (256 * n) (256 * n))).run Try.prog x = .ok (.string T) x) (first | exact S0 | assumption | exact news_on HT.out (by assumption) (by assumption)) (first | (go_at_call 11; refine (fixed_any _).mono ?_; rintro e wf ⟨rfl, bf⟩) | (go_at_call 12; refine (pages_any (And.left (by assumption))).mono ?_; rintro e w' ⟨rfl, rfl⟩) | (go_at_call 13; refine (image_any (And.left (by assumption))).mono ?_; rw [← HT.out]; rintro e wi ⟨rfl, bi⟩) | (go_at_call 14; refine (dirty_any (And.left (by assumption))).mono ?_; rintro e wd ⟨⟨v, rfl, O⟩, bd⟩; rw [fix_clean_n] at O; obtain ⟨a7, k7, rfl⟩ := own_none O))
    have HS : Mem wd p g n n (fun _ => 0) (fun _ => false) ∧ RMem wd pr gb gd n (fun _ => 0) (fun _ => false) ∧ Below w.heap.size w wd ∧ wd.cell? ⟨pr, 0, none⟩ = some (.slice (some ⟨gb, 0, none⟩) (256 * n) (256 * n)) ∧ (convert 32 9 (.slice (some ⟨gb, 0, none⟩) (256 * n) (256 * n))).run Try.prog wd = .ok (.string T) wd := by assumption
    have hbw := HS.2.2.1
    clear HS
    go_wp2
    go_ret
    exact ⟨rfl, hbw⟩
  · go_enter Try.func3, Try.ntmps3
    go_wp2_with fail
    refine (new_bad a0 hr w).mono ?_
    rintro e w' ⟨rfl, rfl⟩
    go_wp2_with fail
    refine (rnew_bad a0 hr _).mono ?_
    rintro e w' ⟨rfl, rfl⟩
    clear hr
    go_wp2_with fail
    have hne : Nonempty (Onto w') := ⟨⟨w', Below.refl _ _⟩⟩
    refine region_calm (fun x => ∃ y : Onto w', x = y.x) (by kernel_rfl) (by kernel_rfl) ⟨⟨_, (Below.refl _ _).drew⟩, rfl⟩ ?_
    repeat (go_big_quiet_step ((refine (fixed_any _).mono ?_; rintro e wf ⟨rfl, bf⟩; exact ⟨rfl, ⟨wf, (Onto.b _).trans (bf.mono (Onto.b _).size)⟩, rfl⟩)))
    refine wpQuiet_nil ?_
    rintro _ ⟨⟨wf, hbw⟩, rfl⟩
    go_wp2
    go_ret
    exact ⟨rfl, hbw⟩

set_option maxRecDepth 100000 in
theorem lifted (os : Os) (started : os.Started) (H : Type) (enc : TypeId × Value → H) :
    ReturnsInHanded {} Try.checked os 3 .any (Rows.memNewsSpec.pre6 enc Try.prog Try.f3 Rows.memNewsRow.domain false) (Rows.memNewsSpec.post enc Try.prog Try.f3 false true false false) := by
  refine returnsInHanded_of_change (C := Try.checked) own started (by kernel_rfl) Try.func3
    (ChangeSpec.witness6 (enc := enc) (C := Try.checked) false ⟨#[], #[.int .i64 0], []⟩ 8 (by kernel_rfl) (by kernel_rfl) (by kernel_rfl) (by kernel_rfl)) ?_
  intro W base args ds gs before hval0 hW hcnd _
  have hval : ∀ (j : Nat) t v, Try.f3.params[j]? = some t → args[j]? = some v → Value.okWide Try.prog W .any base t v := hval0
  have hW' := hW
  obtain ⟨p, q, hA0, hV, rfl, hfz, hnd⟩ := hW
  have hA : DataW.TrodAll enc Try.prog W 0 (fun _ => true) true Try.f3.params.toList args.toList ds p := hA0
  rw [Try.params3] at hA hval
  obtain ⟨v0, vs0, d0, ds0, p0, q0, hargs, rfl, rfl, h0, r0⟩ := trodAll_cons hA
  obtain ⟨rfl, rfl, rfl⟩ := trodAll_nil r0
  obtain rfl : args = #[v0] := by cases args; simp_all
  obtain ⟨rfl, rfl⟩ := trodVars_none hV
  obtain ⟨a0, rfl, rfl, rfl, w0⟩ := open_int Try.underlying3 (hval 0 3 v0 rfl rfl) h0
  clear hA0 hval0
  refine (walk a0 W w0).mono fun e W' ⟨he, bel⟩ => ?_
  subst he
  exact ⟨_, rfl, _, _, _, [], _, [], hW', trodAll_mk1 (shut_bool Try.underlying4 _), (trodAll_cons_mk (shut_int Try.underlying3 w0) trodAll_mk0), rfl, bel.frame _, fun h => by cases h⟩

theorem over : Rows.memNewsRow.holds Try.pinned (OpenSpec.ofChange Rows.memNewsSpec) :=
  OpenClaim.holds_of_wide 3 Try.f3 rfl rfl rfl rfl rfl rfl rfl ⟨rfl, rfl, rfl, rfl, rfl⟩ rfl rfl rfl rfl rfl (by kernel_rfl) Try.func3 (by kernel_rfl)
    (of_decide_eq_true (by kernel_rfl)) (by unfold Func.isWrapper; first | (rw [if_pos (by decide +kernel)]; kernel_rfl) | (rw [if_neg (by decide +kernel)]; exact ⟨rfl, rfl⟩))
    (fun os started H enc _ => lifted os started H enc)

theorem proved : Rows.MemNewsSaid := over
end Go.Proofs.Ytbbofbilagaihaa.memNews
namespace Go.Proofs.Ytbbofbilagaihaa
theorem memNews_holds : Rows.MemNewsSaid := memNews.proved
#print axioms memNews_holds
end Go.Proofs.Ytbbofbilagaihaa
