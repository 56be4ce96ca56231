/- Layer 14: worlds in which registers lie, for statements whose operations may come in any order. -/
import Derived.Test.YtmegghgjllbamaaGreatDoorQIrOpen
import Derived.Deep.QuietTactic
import Derived.BigQuiet
import Derived.Deep.CutRange
namespace Go.Proofs.YtmegghgjllbamaaGreatDoor.Ir
open Go.RowKit
set_option linter.unusedVariables false
set_option maxRecDepth 100000
set_option linter.unusedSimpArgs false

theorem part_X (R : Nat → Int) (i : Nat) (hi : i < 32) (w : World) : (Go.part 23 (cellsX R) (i * 1)).run Tryz.prog w = .ok (.int .u32 (R i)) w :=
  match i, hi with
  | 0, _ => by kernel_rfl
  | 1, _ => by kernel_rfl
  | 2, _ => by kernel_rfl
  | 3, _ => by kernel_rfl
  | 4, _ => by kernel_rfl
  | 5, _ => by kernel_rfl
  | 6, _ => by kernel_rfl
  | 7, _ => by kernel_rfl
  | 8, _ => by kernel_rfl
  | 9, _ => by kernel_rfl
  | 10, _ => by kernel_rfl
  | 11, _ => by kernel_rfl
  | 12, _ => by kernel_rfl
  | 13, _ => by kernel_rfl
  | 14, _ => by kernel_rfl
  | 15, _ => by kernel_rfl
  | 16, _ => by kernel_rfl
  | 17, _ => by kernel_rfl
  | 18, _ => by kernel_rfl
  | 19, _ => by kernel_rfl
  | 20, _ => by kernel_rfl
  | 21, _ => by kernel_rfl
  | 22, _ => by kernel_rfl
  | 23, _ => by kernel_rfl
  | 24, _ => by kernel_rfl
  | 25, _ => by kernel_rfl
  | 26, _ => by kernel_rfl
  | 27, _ => by kernel_rfl
  | 28, _ => by kernel_rfl
  | 29, _ => by kernel_rfl
  | 30, _ => by kernel_rfl
  | 31, _ => by kernel_rfl
  | n + 32, h => absurd h (by omega)

theorem eqItems_X (d : Nat) (R : Nat → Int) (w : World) : ∀ is : List Nat, (∀ i ∈ is, i < 32) →
    (Op.eqItems (d + 1) 23 1 (cellsX R) (cellsX R) is).run Tryz.prog w = .ok true w
  | [], _ => by simp [Op.eqItems]
  | i :: is, h => by
    have hi : i < 32 := h i (by simp)
    have ih := eqItems_X d R w is (fun j hj => h j (by simp [hj]))
    simp only [Op.eqItems, Sem.run_bind, part_X R i hi, Result.andThen_ok, run_equalIn_int w d 23 .u32 .u32 _ _ Tryz.underlying23]
    simp [ih]

theorem eqX (d : Nat) (R : Nat → Int) (w : World) : (Op.equalIn (d + 1 + 1) 24 (.agg (cellsX R)) (.agg (cellsX R))).run Tryz.prog w = .ok true w := by
  obtain ⟨i, hi⟩ := info_of_underlying Tryz.underlying23
  rw [run_equalIn_array w (d + 1) (cellsX R) (cellsX R) Tryz.underlying24 hi]
  have : Tryz.prog.cellsOf 23 = 1 := by kernel_rfl
  rw [this]
  exact eqItems_X d R w (List.range 32) (fun i hi => by simpa using hi)

theorem eqlX (R : Nat → Int) (w : World) : (binOp .eql 24 (.agg (cellsX R)) (.agg (cellsX R))).run Tryz.prog w = .ok (.bool true) w := by
  rw [run_eql_struct, eqX 9998 R w]; rfl

theorem neqX (R : Nat → Int) (w : World) : (binOp .neq 24 (.agg (cellsX R)) (.agg (cellsX R))).run Tryz.prog w = .ok (.bool false) w := by
  rw [run_neq_struct, eqX 9998 R w]; rfl

/-- A region that draws its order, walked once, in a class of worlds in which each of its operations tells one value. -/
theorem region_calm {P : Program} {id : Nat} {Q : Exit → Act → World → Prop} {a : Act} {w : World} {l : List Oper} (C : World → Prop) (hm : P.follows .mixedOrders = true) (hB : Region.lexB .any l.toArray = true) (hC : C w.drew)
    (h : wpQuiet P l.toArray C (fun a' => ∀ w', C w' → Q .normal a' w') l a) : (Code.region id l.toArray true).wp P Q a w :=
  wp_region_quiet (C := C) hm hB hC (by simpa using h)

/-- A world in which these registers and these operations lie; all that was there ahead of it is as it was. -/
structure Held (w : World) (l : List (Nat × (Nat → Int))) (o : List (Value × List Mi)) where
  x : World
  h : (∀ p ∈ l, Box x p.1 (cellsX p.2)) ∧ (∀ p ∈ o, IsOps x p.1 p.2) ∧ De.Tabs x ∧ Below w.heap.size w x

def Held.on {w z : World} {l : List (Nat × (Nat → Int))} {o : List (Value × List Mi)} (y : Held w l o) (hb : Below y.x.heap.size y.x z) : Held w l o :=
  ⟨z, fun p hp => (y.h.1 p hp).on hb, fun p hp => (y.h.2.1 p hp).on hb, y.h.2.2.1.on hb, onto y.h.2.2.2 (Nat.le_refl _) hb⟩

/-- What is read of the registers in block b. -/
theorem Held.reads {w : World} {l : List (Nat × (Nat → Int))} {o : List (Value × List Mi)} {b : Nat} {R : Nat → Int} (hm : (b, R) ∈ l) :
    (∀ y : Held w l o, (loadCellsFrom ⟨b, 0, none⟩ 0 N32 #[]).run Tryz.prog y.x = .ok (cellsX R) y.x) ∧ (∀ (y : Held w l o) (k : Nat), k < 32 → y.x.cell? ⟨b, k, none⟩ = some (.int .u32 (R k))) :=
  ⟨fun y => (y.h.1 _ hm).loads 0 N32 (irWhole.2.2.2.1 _) (irWhole.2.2.2.2.1 _), fun y k hk => ((y.h.1 _ hm).cell k).trans (get_X R k hk)⟩

theorem Held.ops {w : World} {l : List (Nat × (Nat → Int))} {o : List (Value × List Mi)} {v : Value} {ms : List Mi} (hm : (v, ms) ∈ o) (y : Held w l o) : IsOps y.x v ms := y.h.2.1 _ hm

/-- The first operations of a slice. -/
theorem IsOps.cut {w : World} {ad : Option Addr} {n c : Nat} {l : List Mi} (h : IsOps w (.slice ad n c) l) (K c' : Nat) (hK : K ≤ n) : IsOps w (.slice ad K c') (l.take K) := by
  rcases h with ⟨a, c0, rfl, e⟩ | ⟨g, o, c0, e, hl, hg, hm⟩
  · cases e
    obtain rfl : K = 0 := by omega
    exact Or.inl ⟨_, _, rfl, rfl⟩
  · cases e
    refine Or.inr ⟨g, o, c', by rw [List.length_take, Nat.min_eq_left hK], by rw [List.length_take]; omega, hg, fun i m hi => ?_⟩
    have hlt : i < K := by
      have := (List.getElem?_eq_some_iff.1 hi).1
      rw [List.length_take] at this
      omega
    rw [List.getElem?_take_of_lt hlt] at hi
    exact hm i m hi

theorem IsWords.cut {w : World} {ad : Option Addr} {n c : Nat} {l : List Int} (h : IsWords w (.slice ad n c) l) (K : Nat) (hK : K ≤ n) : IsWords w (.slice ad K c) (l.take K) := by
  rcases h with ⟨a, c0, rfl, e⟩ | ⟨g, o, c0, e, hc, hl, hg, hm⟩
  · cases e
    obtain rfl : K = 0 := by omega
    exact Or.inl ⟨_, _, rfl, rfl⟩
  · cases e
    refine Or.inr ⟨g, o, c, by rw [List.length_take, Nat.min_eq_left hK], by rw [List.length_take]; omega, hl, hg, fun i m hi => ?_⟩
    have hlt : i < K := by
      have := (List.getElem?_eq_some_iff.1 hi).1
      rw [List.length_take] at this
      omega
    rw [List.getElem?_take_of_lt hlt] at hi
    exact hm i m hi

theorem WordsM.take {l : List Mi} (h : WordsM l) (K : Nat) : WordsM (l.take K) := fun i m hi => by
  have hlt : i < K := by
    have := (List.getElem?_eq_some_iff.1 hi).1
    rw [List.length_take] at this
    omega
  rw [List.getElem?_take_of_lt hlt] at hi
  exact h i m hi

/-- A slice that is cut to at most N: what is left, and how it is called. -/
theorem cut_ops {w : World} {v : Value} {l : List Mi} (h : IsOps w v l) (hw : WordsM l) (hc : CapOk v) (N : Nat) :
    ∃ ad n c, v = .slice ad n c ∧ n ≤ c ∧ ((n ≤ N ∧ IsOps w (.slice ad n c) l ∧ WordsM l) ∨ (N < n ∧ IsOps w (.slice ad N c) (l.take N) ∧ WordsM (l.take N))) := by
  obtain ⟨ad, n, c, rfl, hnc⟩ := hc
  refine ⟨ad, n, c, rfl, hnc, ?_⟩
  by_cases hN : n ≤ N
  · exact Or.inl ⟨hN, h, hw⟩
  · exact Or.inr ⟨by omega, h.cut N c (by omega), hw.take N⟩

theorem cut_words {w : World} {v : Value} {l : List Int} (h : IsWords w v l) (hc : CapOk v) (N : Nat) :
    ∃ ad n c, v = .slice ad n c ∧ n ≤ c ∧ ((n ≤ N ∧ IsWords w (.slice ad n c) l) ∨ (N < n ∧ IsWords w (.slice ad N c) (l.take N))) := by
  obtain ⟨ad, n, c, rfl, hnc⟩ := hc
  refine ⟨ad, n, c, rfl, hnc, ?_⟩
  by_cases hN : n ≤ N
  · exact Or.inl ⟨hN, h⟩
  · exact Or.inr ⟨by omega, h.cut N (by omega)⟩

end Go.Proofs.YtmegghgjllbamaaGreatDoor.Ir
