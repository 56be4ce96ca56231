/- What some steps make of a timer, one by one, or at once, is as the document says. -/
import Derived.Test.YtbcebcapbhadpaaTmOpen
import Derived.Deep.RegionHeld3
import Derived.RegionTactic
namespace Go.Proofs.Ytbcebcapbhadpaa
open Go.RowKit
set_option linter.unusedVariables false

theorem and255 (n : Int) : bits .and .i64 n 255 = n % 256 := by
  have e : (BitVec.ofInt 64 n &&& BitVec.ofInt 64 255).toNat = (n % 18446744073709551616).toNat % 256 := by
    rw [BitVec.toNat_and, BitVec.toNat_ofInt, BitVec.toNat_ofInt]
    have := Nat.and_two_pow_sub_one_eq_mod (n % 18446744073709551616).toNat 8
    exact this
  show IntKind.i64.wrap ((BitVec.ofInt 64 n &&& BitVec.ofInt 64 255).toNat : Int) = n % 256
  rw [e]
  simp [IntKind.wrap, IntKind.bits, IntKind.signed]
  omega

/-- The timer as it was, and the two that go on. -/
def Three (w : World) (t a b : Tm) (p q : Nat) (x : World) : Prop := Rat x w.heap.size t ∧ Rat x p a ∧ Rat x q b ∧ Below w.heap.size w x

theorem Three.on {w x y : World} {t a b : Tm} {p q : Nat} (h : Three w t a b p q x) (hb : Below x.heap.size x y) : Three w t a b p q y := ⟨h.1.on hb, h.2.1.on hb, h.2.2.1.on hb, onto h.2.2.2 (Nat.le_refl _) hb⟩

theorem Three.turn {w x : World} {t a b : Tm} {p q : Nat} (h : Three w t a b p q x) : Three w t b a q p x := ⟨h.1, h.2.2.1, h.2.1, h.2.2.2⟩

theorem Rat.setElse {w : World} {b : Nat} {r : Tm} (h : Rat w b r) (g : Nat) (c : Array Value) (hg : b ≠ g) : Rat (w.setRow g c) b r := h.of_heap (setRow_other w g b c hg)

theorem Three.setA {w x : World} {t a b : Tm} {p q : Nat} (h : Three w t a b p q x) (v : Tm) (hp : w.heap.size < p) (hn : p ≠ q) : Three w t v b p q (x.setRow p (cellsT v)) :=
  ⟨h.1.setElse _ _ (by omega), h.2.1.set v, h.2.2.1.setElse _ _ (by omega), below_setRow h.2.2.2 (by omega) _⟩

theorem Three.setB {w x : World} {t a b : Tm} {p q : Nat} (h : Three w t a b p q x) (v : Tm) (hq : w.heap.size < q) (hn : p ≠ q) : Three w t a v p q (x.setRow q (cellsT v)) :=
  ⟨h.1.setElse _ _ (by omega), h.2.1.setElse _ _ (by omega), h.2.2.1.set v, below_setRow h.2.2.2 (by omega) _⟩

theorem Three.start (w : World) (t : Tm) (i : TypeId) : Three w t t t (w.heap.size + 1) (w.heap.size + 1 + 1) ((((w.alloc (.cells (cellsT t) i)).alloc (.cells (cellsT t) i)).alloc (.cells (cellsT t) i)).drew) := by
  have r1 := (Rat.new (w.alloc (.cells (cellsT t) i)) t i)
  have r2 := (Rat.new ((w.alloc (.cells (cellsT t) i)).alloc (.cells (cellsT t) i)) t i)
  rw [show (w.alloc (.cells (cellsT t) i)).heap.size = w.heap.size + 1 by simp] at r1
  rw [show ((w.alloc (.cells (cellsT t) i)).alloc (.cells (cellsT t) i)).heap.size = w.heap.size + 1 + 1 by simp] at r2
  have h : Three w t t t (w.heap.size + 1) (w.heap.size + 1 + 1) (((w.alloc (.cells (cellsT t) i)).alloc (.cells (cellsT t) i)).alloc (.cells (cellsT t) i)) :=
    ⟨((Rat.new w t i).on (grow _ _)).on (grow _ _), r1.on (grow _ _), r2, ((grow w _).alloc (by simp) _).alloc (by simp; omega) _⟩
  exact h.on (Below.refl _ _).drew

/-- The loads of a region, behind a call. -/
theorem loads_on {w x y : World} {t a b : Tm} {p q : Nat}
    (h : (loadCellsFrom ⟨w.heap.size, 0, none⟩ 0 N3 #[]).run Try.prog x = .ok (cellsT t) x ∧ (loadCellsFrom ⟨q, 0, none⟩ 0 N3 #[]).run Try.prog x = .ok (cellsT b) x ∧ Three w t a b p q x) (hb : Below x.heap.size x y) :
    (loadCellsFrom ⟨w.heap.size, 0, none⟩ 0 N3 #[]).run Try.prog y = .ok (cellsT t) y ∧ (loadCellsFrom ⟨q, 0, none⟩ 0 N3 #[]).run Try.prog y = .ok (cellsT b) y ∧ Three w t a b p q y :=
  have h' := h.2.2.on hb
  ⟨h'.1.load, h'.2.2.1.load, h'⟩

theorem steps_next {t : Tm} (ht : Wt t) (k : Nat) : tickV (stepsV t k) = stepsV t ((k + 1 : Nat) : Int) := by
  rw [← tick_is (steps_w ht _), steps_add ht (by omega) (by omega)]
  rfl

set_option maxRecDepth 100000 in
set_option maxHeartbeats 4000000 in
theorem ticks_walk (w : World) (t : Tm) (ht : Wt t) (n : Int) (wn : (Lit.int .i64 n).wf = true) :
    Calls Try.prog 4 #[.agg (cellsT t), .int .i64 n] w fun e w' => e = .returned (.bool true) ∧ Below w.heap.size w w' := by
  obtain ⟨t1, t2, t3, t4, t5, t6, t7, t8, t9⟩ := tmRules
  obtain ⟨d1, d2, d3⟩ := tmDrew
  have a1 := and255 n
  obtain ⟨N, hN⟩ : ∃ N : Nat, n % 256 = N := ⟨(n % 256).toNat, by omega⟩
  have N1 : N < 256 := by omega
  rw [hN] at a1
  clear hN wn
  replace ht := hide ht
  have e1 : ticksV t (N : Int) = stepsV t (N : Int) := by unfold ticksV cutV; rw [if_pos (by omega)]
  have e2 : ticksV t (IntKind.i64.wrap (-(N : Int))) = t := by rw [show IntKind.i64.wrap (-(N : Int)) = -(N : Int) by rw [IntKind.wrap_i64]; omega]; unfold ticksV cutV stepsV; rw [if_pos (show -(N : Int) ≤ 1099511627776 by omega), if_pos (Or.inr (by omega))]
  have c := hide fun m W => ticks_any ht.out m W
  replace e1 := hide e1
  replace e2 := hide e2
  go_enter Try.func4, Try.ntmps4
  go_wp2
  go_region
  all_goals go_wp2
  · have hT := Three.start w t 24
    generalize (((w.alloc (.cells (cellsT t) 24)).alloc (.cells (cellsT t) 24)).alloc (.cells (cellsT t) 24)).drew = W0 at *
    have o1 : w.heap.size < w.heap.size + 1 + 1 := by omega
    have o2 : w.heap.size < w.heap.size + 1 := by omega
    have o3 : w.heap.size + 1 + 1 ≠ w.heap.size + 1 := by omega
    generalize w.heap.size + 1 + 1 = q at *
    generalize w.heap.size + 1 = p at *
    replace o3 := o3.symm
    replace hT := hide hT
    go_loopw [8] (fun i wr => ∃ k : Nat, k ≤ N ∧ i = .int .i64 k ∧ Hid (Three w t (stepsV t k) (stepsV t k) p q wr)) (fun i _ => N - (intOf i).toNat)
    case atStart => exact ⟨0, by omega, rfl, hide (by rw [show ((0 : Nat) : Int) = 0 from rfl, steps_zero]; exact hT.out)⟩
    case round =>
      obtain ⟨k, hk, rfl, hT⟩ := hrel
      by_cases hlt : k < N
      · have h1 : (k : Int) < (N : Int) := by omega
        have ct := hide fun W => tick_any (steps_w ht.out (k : Int)) W
        have rt := hide fun W => rtick_any (steps_w ht.out (k : Int)) W
        rw [steps_next ht.out k] at ct rt
        generalize stepsV t (k : Int) = a at *
        obtain ⟨a', ha'⟩ : ∃ a', stepsV t ((k + 1 : Nat) : Int) = a' := ⟨_, rfl⟩
        rw [ha'] at ct rt
        replace ha' := hide ha'
        have l1 := hT.out.2.1.load
        go_wp2_with fail
        refine (ct.out _).mono ?_
        rintro e w1 ⟨rfl, b1⟩
        replace hT := hide (hT.out.on b1)
        have x1 := hT.out.2.1.1
        have x2 := hT.out.2.1.2.1
        replace hT := hide (hT.out.setA a' (by omega) o3)
        have l2 := hT.out.2.2.1.load
        clear b1 l1 ct
        go_wp2_with fail
        clear l2 x1 x2
        generalize w1.setRow p (cellsT a') = v1 at *
        refine (rt.out _).mono ?_
        rintro e w2 ⟨rfl, b2⟩
        replace hT := hide (hT.out.on b2)
        have x1 := hT.out.2.2.1.1
        have x2 := hT.out.2.2.1.2.1
        replace hT := hide (hT.out.setB a' (by omega) o3)
        have l1 := hT.out.2.1.load
        have l2 := hT.out.2.2.1.load
        have hne := fun W => neq_self a' W
        clear b2 rt
        go_wp2
        go_roundw
        case rel => exact ⟨k + 1, by omega, by go_num, hide (by rw [ha'.out]; exact hT.out)⟩
        case measure => simp [intOf]; omega
      · have hx : k = N := by omega
        subst hx
        have h1 : ¬ (k : Int) < (k : Int) := by omega
        generalize ticksV t = F at *
        generalize stepsV t (k : Int) = a at *
        have he1 : ∀ W, (binOp .eql 24 (.agg (cellsT (F (k : Int)))) (.agg (cellsT a))).run Try.prog W = .ok (.bool true) W := fun W => by rw [e1.out]; exact eq_self a W
        have he2 : ∀ W, (binOp .eql 24 (.agg (cellsT (F (IntKind.i64.wrap (-(k : Int)))))) (.agg (cellsT t))).run Try.prog W = .ok (.bool true) W := fun W => by rw [e2.out]; exact eq_self t W
        have hS := loads_on ⟨hT.out.1.load, hT.out.2.2.1.load, hT.out⟩ (Below.refl _ wr).drew
        clear e1 e2 hT ht
        go_wp2_with fail
        go_region_held3 (fun x => (loadCellsFrom ⟨w.heap.size, 0, none⟩ 0 N3 #[]).run Try.prog x = .ok (cellsT t) x ∧ (loadCellsFrom ⟨q, 0, none⟩ 0 N3 #[]).run Try.prog x = .ok (cellsT a) x ∧ Three w t a a p q x)
          (first | exact hS | assumption)
          (first
            | (go_at_call 13; refine (fixed_any _).mono ?_; rintro e w' ⟨rfl, hn⟩; have hR := loads_on (by assumption) hn; clear hn)
            | (go_at_call 16; refine (c.out _ _).mono ?_; rintro e w' ⟨rfl, hn⟩; have hR := loads_on (by assumption) hn; clear hn))
        all_goals
          go_wp2
          go_ret
          exact ⟨rfl, hR.2.2.2.2.2⟩
  · have hT := Three.start w t 24
    generalize (((w.alloc (.cells (cellsT t) 24)).alloc (.cells (cellsT t) 24)).alloc (.cells (cellsT t) 24)).drew = W0 at *
    have o1 : w.heap.size < w.heap.size + 1 + 1 := by omega
    have o2 : w.heap.size < w.heap.size + 1 := by omega
    have o3 : w.heap.size + 1 + 1 ≠ w.heap.size + 1 := by omega
    generalize w.heap.size + 1 + 1 = p at *
    generalize w.heap.size + 1 = q at *
    replace hT := hT.turn
    replace hT := hide hT
    go_loopw [8] (fun i wr => ∃ k : Nat, k ≤ N ∧ i = .int .i64 k ∧ Hid (Three w t (stepsV t k) (stepsV t k) p q wr)) (fun i _ => N - (intOf i).toNat)
    case atStart => exact ⟨0, by omega, rfl, hide (by rw [show ((0 : Nat) : Int) = 0 from rfl, steps_zero]; exact hT.out)⟩
    case round =>
      obtain ⟨k, hk, rfl, hT⟩ := hrel
      by_cases hlt : k < N
      · have h1 : (k : Int) < (N : Int) := by omega
        have ct := hide fun W => tick_any (steps_w ht.out (k : Int)) W
        have rt := hide fun W => rtick_any (steps_w ht.out (k : Int)) W
        rw [steps_next ht.out k] at ct rt
        generalize stepsV t (k : Int) = a at *
        obtain ⟨a', ha'⟩ : ∃ a', stepsV t ((k + 1 : Nat) : Int) = a' := ⟨_, rfl⟩
        rw [ha'] at ct rt
        replace ha' := hide ha'
        have l1 := hT.out.2.1.load
        go_wp2_with fail
        refine (ct.out _).mono ?_
        rintro e w1 ⟨rfl, b1⟩
        replace hT := hide (hT.out.on b1)
        have x1 := hT.out.2.1.1
        have x2 := hT.out.2.1.2.1
        replace hT := hide (hT.out.setA a' (by omega) o3)
        have l2 := hT.out.2.2.1.load
        clear b1 l1 ct
        go_wp2_with fail
        clear l2 x1 x2
        generalize w1.setRow p (cellsT a') = v1 at *
        refine (rt.out _).mono ?_
        rintro e w2 ⟨rfl, b2⟩
        replace hT := hide (hT.out.on b2)
        have x1 := hT.out.2.2.1.1
        have x2 := hT.out.2.2.1.2.1
        replace hT := hide (hT.out.setB a' (by omega) o3)
        have l1 := hT.out.2.1.load
        have l2 := hT.out.2.2.1.load
        have hne := fun W => neq_self a' W
        clear b2 rt
        go_wp2
        go_roundw
        case rel => exact ⟨k + 1, by omega, by go_num, hide (by rw [ha'.out]; exact hT.out)⟩
        case measure => simp [intOf]; omega
      · have hx : k = N := by omega
        subst hx
        have h1 : ¬ (k : Int) < (k : Int) := by omega
        generalize ticksV t = F at *
        generalize stepsV t (k : Int) = a at *
        have he1 : ∀ W, (binOp .eql 24 (.agg (cellsT (F (k : Int)))) (.agg (cellsT a))).run Try.prog W = .ok (.bool true) W := fun W => by rw [e1.out]; exact eq_self a W
        have he2 : ∀ W, (binOp .eql 24 (.agg (cellsT (F (IntKind.i64.wrap (-(k : Int)))))) (.agg (cellsT t))).run Try.prog W = .ok (.bool true) W := fun W => by rw [e2.out]; exact eq_self t W
        have hS := loads_on ⟨hT.out.1.load, hT.out.2.2.1.load, hT.out⟩ (Below.refl _ wr).drew
        clear e1 e2 hT ht
        go_wp2_with fail
        go_region_held3 (fun x => (loadCellsFrom ⟨w.heap.size, 0, none⟩ 0 N3 #[]).run Try.prog x = .ok (cellsT t) x ∧ (loadCellsFrom ⟨q, 0, none⟩ 0 N3 #[]).run Try.prog x = .ok (cellsT a) x ∧ Three w t a a p q x)
          (first | exact hS | assumption)
          (first
            | (go_at_call 13; refine (fixed_any _).mono ?_; rintro e w' ⟨rfl, hn⟩; have hR := loads_on (by assumption) hn; clear hn)
            | (go_at_call 16; refine (c.out _ _).mono ?_; rintro e w' ⟨rfl, hn⟩; have hR := loads_on (by assumption) hn; clear hn))
        all_goals
          go_wp2
          go_ret
          exact ⟨rfl, hR.2.2.2.2.2⟩

end Go.Proofs.Ytbcebcapbhadpaa
