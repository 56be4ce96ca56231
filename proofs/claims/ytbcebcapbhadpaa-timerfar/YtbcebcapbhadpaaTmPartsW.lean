/- Steps in two goes are steps at once, however many; a timer that is set rings with the last of its steps, not ahead of it. -/
import Derived.Test.YtbcebcapbhadpaaTmOpen
import Derived.Deep.RegionHeld3
import Derived.RegionTactic
import Derived.Deep.CutRange
namespace Go.Proofs.Ytbcebcapbhadpaa
open Go.RowKit
set_option linter.unusedVariables false

theorem and38 (n : Int) : bits .and .i64 n 274877906943 = n % 274877906944 := by
  have e : (BitVec.ofInt 64 n &&& BitVec.ofInt 64 274877906943).toNat = (n % 18446744073709551616).toNat % 274877906944 := by
    rw [BitVec.toNat_and, BitVec.toNat_ofInt, BitVec.toNat_ofInt]
    have := Nat.and_two_pow_sub_one_eq_mod (n % 18446744073709551616).toNat 38
    exact this
  show IntKind.i64.wrap ((BitVec.ofInt 64 n &&& BitVec.ofInt 64 274877906943).toNat : Int) = n % 274877906944
  rw [e]
  simp [IntKind.wrap, IntKind.bits, IntKind.signed]
  omega

theorem before_v {V : Int} (hV : W32 V) : (ticksV ⟨V, V, false⟩ (V - 1)).r = false := by
  obtain ⟨V0, V1⟩ := hV
  unfold ticksV cutV stepsV goV firstV
  rw [if_pos (show V - 1 ≤ 1099511627776 by omega)]
  split
  · rfl
  next h =>
    simp only at h ⊢
    rw [if_pos (show 1 ≤ V by omega), if_pos (show V - 1 < V by omega)]

theorem with_v {V : Int} (hV : W32 V) : (ticksV ⟨V, V, false⟩ V).r = decide (0 < V) := by
  obtain ⟨V0, V1⟩ := hV
  unfold ticksV cutV stepsV goV firstV
  rw [if_pos (show V ≤ 1099511627776 by omega)]
  split
  next h =>
    simp only at h ⊢
    rw [decide_eq_false (by omega)]
  next h =>
    simp only at h ⊢
    rw [if_pos (show 1 ≤ V by omega), if_neg (show ¬ V < V by omega), decide_eq_true (by omega)]

/-- What came in lies in block b. -/
def Fat (w : World) (b : Nat) (t : Tm) (A B V : Int) : Prop := isRow w b = true ∧ rowAt w b = cellsF t A B V ∧ b < w.heap.size

theorem Fat.new (w : World) (t : Tm) (A B V : Int) (i : TypeId) : Fat (w.alloc (.cells (cellsF t A B V) i)) w.heap.size t A B V := ⟨isRow_new _ _ _, rowAt_new _ _ _, by simp⟩

theorem Fat.on {w y : World} {b : Nat} {t : Tm} {A B V : Int} (h : Fat w b t A B V) (hb : Below w.heap.size w y) : Fat y b t A B V :=
  ⟨by rw [(brow hb).2 _ h.2.2]; exact h.1, by rw [(brow hb).1 _ h.2.2]; exact h.2.1, Nat.lt_of_lt_of_le h.2.2 hb.size⟩

theorem Fat.cells {w : World} {b : Nat} {t : Tm} {A B V : Int} (h : Fat w b t A B V) :
    (loadCellsFrom ⟨b, 0, none⟩ 0 N3 #[]).run Try.prog w = .ok (cellsT t) w ∧ w.cell? ⟨b, 3, none⟩ = some (.int .i64 A) ∧ w.cell? ⟨b, 4, none⟩ = some (.int .i64 B) ∧ w.cell? ⟨b, 5, none⟩ = some (.int .u32 V) := by
  have hc : ∀ j, w.cell? ⟨b, j, none⟩ = (cellsF t A B V)[j]? := fun j => by rw [cell_rowAt w b j h.1, h.2.1]
  refine ⟨?_, hc 3, hc 4, hc 5⟩
  have := run_loadCells_list (P := Try.prog) w ⟨b, 0, none⟩ (cellsT t).toList (fun j v hv => by
    rw [Addr.add_lit, hc, Nat.zero_add]
    have hj : j < 3 := by simpa [cellsT] using (List.getElem?_eq_some_iff.1 hv).1
    match j, hj with
    | 0, _ => exact hv
    | 1, _ => exact hv
    | 2, _ => exact hv)
  simpa [loadCells, N3, cellsT] using this

/-- What the first statement reads. -/
theorem first_on {n L : Nat} {w x y : World} {t : Tm} {A B V : Int} (h : Fat x L t A B V ∧ Below n w x) (hn : n ≤ w.heap.size) (hb : Below x.heap.size x y) :
    (loadCellsFrom ⟨L, 0, none⟩ 0 N3 #[]).run Try.prog y = .ok (cellsT t) y ∧ y.cell? ⟨L, 5, none⟩ = some (.int .u32 V) ∧ (Fat y L t A B V ∧ Below n w y) :=
  ⟨(h.1.on hb).cells.1, (h.1.on hb).cells.2.2.2, h.1.on hb, onto h.2 hn hb⟩

/-- A timer that is loaded, behind a call. -/
theorem load_on {n L : Nat} {w x y : World} {r : Tm}
    (hS : (loadCellsFrom ⟨L, 0, none⟩ 0 N3 #[]).run Try.prog x = .ok (cellsT r) x ∧ Rat x L r ∧ Below n w x) (hn : n ≤ w.heap.size) (hb : Below x.heap.size x y) :
    (loadCellsFrom ⟨L, 0, none⟩ 0 N3 #[]).run Try.prog y = .ok (cellsT r) y ∧ Rat y L r ∧ Below n w y :=
  ⟨(hS.2.1.on hb).load, hS.2.1.on hb, onto hS.2.2 hn hb⟩

theorem drew_size (w : World) : w.drew.heap.size = w.heap.size := rfl
theorem alloc_size (w : World) (o : Obj) : (w.alloc o).heap.size = w.heap.size + 1 := by simp

/-- The blocks l hold timers of noughts, the youngest first. -/
def Zs : List Nat → World → Prop
  | [], _ => True
  | g :: l, x => Rat x g T0 ∧ Zs l x

theorem Zs.hd {g : Nat} {l : List Nat} {x : World} (h : Zs (g :: l) x) : Rat x g T0 := h.1

theorem Zs.hd2 {g k : Nat} {l : List Nat} {x : World} (h : Zs (g :: k :: l) x) : Rat x k T0 := h.2.1

theorem Zs.on {l : List Nat} {x y : World} (h : Zs l x) (hb : Below x.heap.size x y) : Zs l y := by
  induction l with
  | nil => trivial
  | cons g l ih => exact ⟨h.1.on hb, ih h.2⟩

theorem Zs.on1 {l : List Nat} {x y : World} {i : TypeId} (h : Zs l x) (hb : Below (x.alloc (.cells (cellsT T0) i)).heap.size (x.alloc (.cells (cellsT T0) i)) y) : Zs (x.heap.size :: l) y :=
  ⟨(Rat.new x T0 i).on hb, (h.on (grow x _)).on hb⟩

theorem Zs.on2 {l : List Nat} {x y : World} {i j : TypeId} (h : Zs l x) (hb : Below ((x.alloc (.cells (cellsT T0) i)).alloc (.cells (cellsT T0) j)).heap.size ((x.alloc (.cells (cellsT T0) i)).alloc (.cells (cellsT T0) j)) y) : Zs ((x.heap.size + 1) :: x.heap.size :: l) y := by
  have r := (Rat.new (x.alloc (.cells (cellsT T0) i)) T0 j).on hb
  rw [alloc_size] at r
  exact ⟨r, ((Rat.new x T0 i).on (grow _ _)).on hb, ((h.on (grow x _)).on (grow _ _)).on hb⟩

theorem Zs.on1d {l : List Nat} {x y : World} {i : TypeId} (h : Zs l x) (hb : Below (x.alloc (.cells (cellsT T0) i)).drew.heap.size (x.alloc (.cells (cellsT T0) i)).drew y) : Zs (x.heap.size :: l) y :=
  h.on1 ((Below.refl _ _).drew.trans hb)

theorem Zs.on2d {l : List Nat} {x y : World} {i j : TypeId} (h : Zs l x) (hb : Below ((x.alloc (.cells (cellsT T0) i)).alloc (.cells (cellsT T0) j)).drew.heap.size ((x.alloc (.cells (cellsT T0) i)).alloc (.cells (cellsT T0) j)).drew y) : Zs ((x.heap.size + 1) :: x.heap.size :: l) y :=
  h.on2 ((Below.refl _ _).drew.trans hb)

theorem new2 (x : World) (o : Obj) (i : TypeId) : Rat ((x.alloc o).alloc (.cells (cellsT T0) i)) (x.heap.size + 1) T0 := by
  have r := Rat.new (x.alloc o) T0 i
  rwa [alloc_size] at r

/-- Two timers are laid. -/
theorem two_set {w y : World} {n A B : Nat} (ha : Rat y A T0) (hb : Rat y B T0) (hne : A ≠ B) (f h : Tm) (hB : Below n w y) (na : n ≤ A) (nb : n ≤ B) :
    Rat ((y.setRow A (cellsT f)).setRow B (cellsT h)) A f ∧ Rat ((y.setRow A (cellsT f)).setRow B (cellsT h)) B h ∧ Below n w ((y.setRow A (cellsT f)).setRow B (cellsT h)) :=
  ⟨(ha.set f).of_heap (setRow_other _ B A _ hne), (hb.of_heap (setRow_other _ A B _ hne.symm)).set h, below_setRow (below_setRow hB na _) nb _⟩

theorem load_set {n L : Nat} {w x : World} {r : Tm}
    (hS : (loadCellsFrom ⟨L, 0, none⟩ 0 N3 #[]).run Try.prog x = .ok (cellsT r) x ∧ Rat x L r ∧ Below n w x) {g : Nat} (hg : L < g) (hn : n ≤ g) (c : Array Value) :
    (loadCellsFrom ⟨L, 0, none⟩ 0 N3 #[]).run Try.prog (x.setRow g c) = .ok (cellsT r) (x.setRow g c) ∧ Rat (x.setRow g c) L r ∧ Below n w (x.setRow g c) :=
  ⟨(hS.2.1.setFar g c hg).load, hS.2.1.setFar g c hg, below_setRow hS.2.2 hn _⟩

set_option maxRecDepth 100000 in
set_option maxHeartbeats 4000000 in
theorem parts_walk (w : World) (t : Tm) (A B V : Int) (ht : Wt t) (hV : W32 V) :
    Calls Try.prog 6 #[.agg (cellsF t A B V)] w fun e w' => e = .returned (.bool true) ∧ Below w.heap.size w w' := by
  obtain ⟨t1, t2, t3, t4, t5, t6, t7, t8, t9⟩ := tmRules
  have R := Fat.new w t A B V 39
  have D := hide (grow w (.cells (cellsF t A B V) 39))
  go_enter Try.func6, Try.ntmps6
  go_wp2_with fail
  generalize w.alloc (.cells (cellsF t A B V) 39) = v1 at *
  have hS := first_on ⟨R, D.out⟩ (Nat.le_refl _) (Below.refl _ v1).drew
  have n3 : ¬ N3 = 0 := by decide
  have d1 := rowAt_drew
  have d2 := isRow_drew
  have d3 := fun (w : World) (g : Nat) (c : Array Value) => (rfl : w.drew.setRow g c = (w.setRow g c).drew)
  have hRB := hide (And.intro R D.out)
  clear R D
  go_region_held3 (fun x => (loadCellsFrom ⟨w.heap.size, 0, none⟩ 0 N3 #[]).run Try.prog x = .ok (cellsT t) x ∧ x.cell? ⟨w.heap.size, 5, none⟩ = some (.int .u32 V) ∧ (Fat x w.heap.size t A B V ∧ Below w.heap.size w x))
    (first | exact hS | assumption | exact first_on (And.right (And.right (by assumption))) (Nat.le_refl _) (grow _ _) | exact first_on (And.right (And.right (by assumption))) (Nat.le_refl _) (grow _ _).drew | exact first_on hRB.out (Nat.le_refl _) (below_setRow (grow v1 _).drew (Nat.le_refl _) _))
    (fail)
  have hX : Below v1.heap.size v1 ((v1.alloc (.cells (cellsT T0) 24)).drew.setRow v1.heap.size (cellsT t)) := below_setRow (grow v1 _).drew (Nat.le_refl _) _
  have Q : Rat ((v1.alloc (.cells (cellsT T0) 24)).drew.setRow v1.heap.size (cellsT t)) v1.heap.size t :=
    ⟨by rw [isRow_setRow, isRow_drew, isRow_new], by rw [rowAt_setRow _ _ _ (by rw [isRow_drew, isRow_new])], by rw [setRow_size]; simp⟩
  have R := hRB.out.1.on hX
  have D := hide (onto hRB.out.2 (Nat.le_refl _) hX)
  clear hRB hS d1 d2 d3 n3 hX
  generalize (v1.alloc (.cells (cellsT T0) 24)).drew.setRow v1.heap.size (cellsT t) = v2 at *
  generalize v1.heap.size = LT at *
  clear v1
  obtain ⟨-, r1, r2, -⟩ := R.cells
  obtain ⟨n, hn⟩ : ∃ n, A % 274877906944 = n := ⟨_, rfl⟩
  obtain ⟨m, hm⟩ : ∃ m, B % 274877906944 = m := ⟨_, rfl⟩
  have a1 : bits .and .i64 A 274877906943 = n := (and38 A).trans hn
  have a2 : bits .and .i64 B 274877906943 = m := (and38 B).trans hm
  have n0 : 0 ≤ n ∧ n < 274877906944 := by omega
  have m0 : 0 ≤ m ∧ m < 274877906944 := by omega
  have hsum : IntKind.i64.wrap (n + m) = n + m := by rw [IntKind.wrap_i64]; omega
  have hadd := ticks_add ht n0.1 m0.1 (by omega)
  have wF := ticks_w ht n
  have c := hide fun (r : Tm) (hr : Wt r) k W => ticks_any hr k W
  have c2 := hide fun W => write_any T0 0 V W
  rw [show formV 0 = 0 from rfl, show writeV T0 0 V = ⟨V, V, false⟩ from rfl] at c2
  have k1 : (ticksV ⟨V, V, false⟩ (V - 1)).r = false := before_v hV
  have k2 : (ticksV ⟨V, V, false⟩ V).r = decide (0 < V) := with_v hV
  have wU : Wt ⟨V, V, false⟩ := ⟨hV, hV⟩
  generalize (⟨V, V, false⟩ : Tm) = u at *
  generalize ticksV = F at *
  have hne : ∀ W, (binOp .neq 24 (.agg (cellsT (F (F t n) m))) (.agg (cellsT (F t (n + m))))).run Try.prog W = .ok (.bool false) W := fun W => by rw [hadd]; exact neq_self _ W
  replace hadd := hide hadd
  replace k1 := hide k1
  replace k2 := hide k2
  clear hn hm R
  go_wp2_with fail
  go_region
  clear r1 r2 a1 a2
  go_wp2_with fail
  have hS := load_on ⟨Q.load, Q, D.out⟩ (Nat.le_refl _) (Below.refl _ v2).drew
  have hS2 := load_on hS (Nat.le_refl _) (Below.refl _ v2.drew).drew
  clear Q D
  go_region_held3 (fun x => (loadCellsFrom ⟨LT, 0, none⟩ 0 N3 #[]).run Try.prog x = .ok (cellsT t) x ∧ Rat x LT t ∧ Below w.heap.size w x)
    (first | exact hS2 | assumption)
    (first
      | (go_at_call 16; refine (c.out _ (by first | exact ht | exact wF) _ _).mono ?_; rintro e w' ⟨rfl, hn⟩; have hR := load_on (by assumption) (Nat.le_refl _) hn; clear hn))
  clear hS hS2 hne hadd hsum
  obtain ⟨-, -, D⟩ := hR
  replace D := hide D
  go_wp2_with fail
  refine (c2.out _).mono ?_
  rintro e w2 ⟨rfl, b2⟩
  replace D := hide (onto (onto D.out (Nat.le_refl _) b2) (Nat.le_refl _) (grow w2 (.cells (cellsT u) 24)))
  have Q := Rat.new w2 u 24
  clear b2 c2
  obtain ⟨V0, V1⟩ := hV
  have hdif : IntKind.i64.wrap (V - 1) = V - 1 := by rw [IntKind.wrap_i64]; omega
  go_wp2_with fail
  generalize w2.alloc (.cells (cellsT u) 24) = v3 at *
  generalize w2.heap.size = L3 at *
  have hS := load_on ⟨Q.load, Q, D.out⟩ (Nat.le_refl _) (Below.refl _ v3).drew
  have z0 := Q.2.2
  have z1 := D.out.size
  clear Q D t8
  have d1 := rowAt_drew
  have d2 := isRow_drew
  have d4 := isRow_setRow
  have d5 := rowAt_setRow_lt
  have d6 := rowAt_setRow_gt
  have hv0 : IntKind.i64.wrap V = V := by rw [IntKind.wrap_i64]; omega
  have hq0 : Zs [] v3.drew := trivial
  have hq1 : Zs [] v3 := trivial
  go_cut [9, 10] from 40 (fun s t x => ∃ P1 P2, s = .pointer (some ⟨P1, 0, none⟩) ∧ t = .pointer (some ⟨P2, 0, none⟩) ∧ Rat x P1 (F u (V - 1)) ∧ Rat x P2 (F u V) ∧ Below w.heap.size w x)
  case first =>
    go_region_held3 (fun x => (loadCellsFrom ⟨L3, 0, none⟩ 0 N3 #[]).run Try.prog x = .ok (cellsT u) x ∧ Rat x L3 u ∧ Below w.heap.size w x)
      (first | with_reducible exact hS | with_reducible assumption | with_reducible exact load_on (by assumption) (Nat.le_refl _) (grow _ _) | with_reducible exact load_on (by assumption) (Nat.le_refl _) (grow _ _).drew | (with_reducible refine load_set (by assumption) ?_ ?_ _ <;> omega))
      (first
        | (go_at_call 16; refine (c.out _ wU _ _).mono ?_; rintro e w' ⟨rfl, hn⟩; have hR := load_on (by assumption) (Nat.le_refl _) hn; obtain ⟨hr, hi⟩ := brow hn; have hz := hn.size; (try simp only [drew_size, alloc_size] at hz); (try have hy := Nat.lt_of_succ_le hz); (try have hx := Nat.lt_of_succ_lt hy)
           (first | (with_reducible have hq := Zs.on2 (by assumption) hn) | (with_reducible have hq := Zs.on1 (by assumption) hn) | (with_reducible have hq := Zs.on2d (by assumption) hn) | (with_reducible have hq := Zs.on1d (by assumption) hn) | (with_reducible have hq := Zs.on (by assumption) hn))
           have hp := hq
           (try simp only [Zs, Rat, and_true] at hp)
           clear hn hr hi))
    all_goals
      go_wp2_with fail
      go_meet
      case rel =>
        refine ⟨_, _, rfl, rfl, two_set ?_ ?_ ?_ _ _ ?_ ?_ ?_⟩
        · first | with_reducible exact Zs.hd hq | with_reducible exact Zs.hd2 hq | with_reducible exact Rat.new _ _ _ | with_reducible exact (Zs.hd hq).on (grow _ _) | with_reducible exact (Rat.new _ _ _).on (grow _ _) | with_reducible exact new2 _ _ _
        · first | with_reducible exact Zs.hd hq | with_reducible exact Zs.hd2 hq | with_reducible exact Rat.new _ _ _ | with_reducible exact (Zs.hd hq).on (grow _ _) | with_reducible exact (Rat.new _ _ _).on (grow _ _) | with_reducible exact new2 _ _ _
        · omega
        · first | with_reducible exact hR.2.2 | with_reducible exact onto hR.2.2 (Nat.le_refl _) (grow _ _) | with_reducible exact onto (onto hR.2.2 (Nat.le_refl _) (grow _ _)) (Nat.le_refl _) (grow _ _)
        · omega
        · omega
  case rest =>
    obtain ⟨P1, P2, rfl, rfl, r1, r2, D⟩ := hcut
    clear hS hq0 hq1 d1 d2 d4 d5 d6 z0 z1 c
    go_wp2_with fail
    refine (fixed_any _).mono ?_
    rintro e w5 ⟨rfl, b5⟩
    have q1 : w5.cell? ⟨P1, 2, none⟩ = some (.bool false) := by rw [(r1.on b5).cell 2, ← k1.out]; rfl
    have q2 : w5.cell? ⟨P2, 2, none⟩ = some (.bool (decide (0 < V))) := by rw [(r2.on b5).cell 2, ← k2.out]; rfl
    replace D := hide (onto D (Nat.le_refl _) b5)
    clear b5 r1 r2
    go_wp2
    go_ret
    exact ⟨by simp, D.out⟩

end Go.Proofs.Ytbcebcapbhadpaa
