/- Layer 15: what the passes make of operations, as functions. -/
import Derived.Test.YtnbflahggpehpabQIrUntil
namespace Go.Proofs.Ytnbflahggpehpab.Ir
open Go.RowKit
set_option linter.unusedVariables false
set_option maxRecDepth 100000
set_option linter.unusedSimpArgs false

/-- Does a kind take A, B? Does an operation read them? -/
def tkA (k : Int) : Bool := decide (2 ≤ k) && decide (k < 14)
def tkB (k : Int) : Bool := decide (2 < k) && decide (k < 14)
def rdA (m : Mi) : Bool := tkA m.k && regB m.a
def rdB (m : Mi) : Bool := tkB m.k && regB m.b

/-- A pass from operation to operation, with what is noted. -/
def mapS {σ : Type} (F : σ → Mi → Mi) (N : σ → Mi → σ) : σ → List Mi → List Mi
  | _, [] => []
  | s, m :: l => F s m :: mapS F N (N s m) l

theorem mapS_len {σ : Type} (F : σ → Mi → Mi) (N : σ → Mi → σ) (l : List Mi) : ∀ s, (mapS F N s l).length = l.length := by
  induction l with
  | nil => intro s; rfl
  | cons m l ih => intro s; simp only [mapS, List.length_cons, ih]

/-- Copies: of which register each one is a copy. -/
def idS : Nat → Int := fun n => (n : Int)
def cpM (S : Nat → Int) (m : Mi) : Mi := { m with a := if rdA m then S m.a.toNat else m.a, b := if rdB m then S m.b.toNat else m.b }
def srcB (S : Nat → Int) (m : Mi) : Nat → Int := fun n => if n = m.d.toNat then (if m.k = 2 ∧ regB m.a = true then m.a else m.d) else if S n = m.d then (n : Int) else S n
def cpS (S : Nat → Int) (m : Mi) : Nat → Int := if wrB m then srcB S m else S
def copyV (l : List Mi) : List Mi := mapS cpM (fun S m => cpS S (cpM S m)) idS l

/-- Known numbers. -/
def putK (K : Nat → Option Int) (k : Nat) (v : Option Int) : Nat → Option Int := fun j => if j = k then v else K j
def K0 : Nat → Option Int := fun n => if n = 0 then some 0 else none
def mnK (K : Nat → Option Int) (n imm : Int) : Option Int := if n = 32 then some imm else if regB n then K n.toNat else none
def dzA (k : Int) : Bool := k == 3 || k == 6 || k == 7
def dzB (k : Int) : Bool := dzA k || k == 4
def fdM (m : Mi) (a b : Option Int) : Mi :=
  if tkA m.k = false then m else if a.isSome = true ∧ (b.isSome = true ∨ tkB m.k = false) then ⟨1, m.d, 0, 0, valV m.k (a.getD 0) (b.getD 0) m.m, m.c⟩
  else if a = some 0 ∧ dzA m.k = true then ⟨2, m.d, m.b, 0, 0, m.c⟩ else if b = some 0 ∧ dzB m.k = true then ⟨2, m.d, m.a, 0, 0, m.c⟩ else m
def fdF (K : Nat → Option Int) (m : Mi) : Mi := fdM m (mnK K m.a m.m) (mnK K m.b m.m)
def fdK (K : Nat → Option Int) (m : Mi) : Nat → Option Int := if wrB m then putK K m.d.toNat (if m.k = 1 then some m.m else none) else K
def foldV (l : List Mi) : List Mi := mapS fdF (fun K m => fdK K (fdF K m)) K0 l

/-- What is lost: backwards. -/
def putL (L : Nat → Bool) (k : Nat) (v : Bool) : Nat → Bool := fun j => if j = k then v else L j
def L0 : Nat → Bool := fun _ => false
def ddM (L : Nat → Bool) (m : Mi) : Mi := if wrB m = true ∧ L m.d.toNat = true then M0 else m
def ddW (L : Nat → Bool) (m : Mi) : Nat → Bool := if wrB m then putL L m.d.toNat true else L
def ddA (L : Nat → Bool) (m : Mi) : Nat → Bool := if rdA m then putL L m.a.toNat false else L
def ddB (L : Nat → Bool) (m : Mi) : Nat → Bool := if rdB m then putL L m.b.toNat false else L
def ddL (L : Nat → Bool) (m : Mi) : Nat → Bool := ddB (ddA (ddW L m) m) m
def lostV : List Mi → (Nat → Bool)
  | [] => L0
  | m :: l => ddL (lostV l) m
def keptV : List Mi → List Mi
  | [] => []
  | m :: l => ddM (lostV l) m :: keptV l
def deadV (l : List Mi) : List Mi := (keptV l).filter fun m => !(m.k == 0)

theorem keptV_len (l : List Mi) : (keptV l).length = l.length := by
  induction l with
  | nil => rfl
  | cons m l ih => simp only [keptV, List.length_cons, ih]

/-- Those passes that flags tell. -/
def allV (c f d : Bool) (l : List Mi) : List Mi :=
  let l1 := if c then copyV l else l
  let l2 := if f then foldV l1 else l1
  let l3 := if c then copyV l2 else l2
  if d then deadV l3 else l3

/-- Rows of the passes' arrays. -/
def cellsS (S : Nat → Int) : Array Value := ((List.range 32).map fun k => Value.int .i64 (S k)).toArray
def cellsL (L : Nat → Bool) : Array Value := ((List.range 32).map fun k => Value.bool (L k)).toArray
def cellsK (K : Nat → Option Int) : Array Value := ((List.range 64).map fun j => if j % 2 = 0 then Value.bool (K (j / 2)).isSome else Value.int .u32 ((K (j / 2)).getD 0)).toArray
def cellsN (a : Option Int) : Array Value := #[.bool a.isSome, .int .u32 (a.getD 0)]
def NS : Nat := 32
def NL : Nat := 32
def NK : Nat := 64
def N2 : Nat := 2

theorem sizeS (S : Nat → Int) : (cellsS S).size = NS := by simp [cellsS, NS]
theorem sizeL (S : Nat → Bool) : (cellsL S).size = NL := by simp [cellsL, NL]
theorem sizeK (S : Nat → Option Int) : (cellsK S).size = NK := by simp [cellsK, NK]

theorem get_S (S : Nat → Int) (j : Nat) (h : j < 32) : (cellsS S)[j]? = some (.int .i64 (S j)) := by simp [cellsS, h]
theorem get_L (S : Nat → Bool) (j : Nat) (h : j < 32) : (cellsL S)[j]? = some (.bool (S j)) := by simp [cellsL, h]
theorem get_K0 (K : Nat → Option Int) (j : Nat) (h : j < 32) : (cellsK K)[j * 2]? = some (.bool (K j).isSome) := by
  simp [cellsK, show j * 2 < 64 by omega]
theorem get_K1 (K : Nat → Option Int) (j : Nat) (h : j < 32) : (cellsK K)[j * 2 + 1]? = some (.int .u32 ((K j).getD 0)) := by
  have e1 : ¬ (j * 2 + 1) % 2 = 0 := by omega
  have e2 : (j * 2 + 1) / 2 = j := by omega
  simp [cellsK, show j * 2 + 1 < 64 by omega, e1, e2]

/-- A source is another one. -/
def putS (S : Nat → Int) (k : Nat) (v : Int) : Nat → Int := fun j => if j = k then v else S j

theorem set_S (R : Nat → Int) (s : Nat) (hs : s < 32) (v : Int) : (cellsS R).setIfInBounds s (.int .i64 v) = cellsS (putS R s v) := by
  apply Array.ext_getElem?
  intro j
  have hsz : (cellsS R).size = 32 := sizeS R
  rw [Array.getElem?_setIfInBounds, hsz]
  by_cases hj : j < 32
  · rw [get_S _ j hj, get_S _ j hj, putS]
    by_cases e : s = j
    · subst e; rw [if_pos rfl, if_pos hj, if_pos rfl]
    · rw [if_neg e, if_neg (by omega)]
  · have n1 : (cellsS R)[j]? = none := by simp; omega
    have n2 : (cellsS (putS R s v))[j]? = none := by have := sizeS (putS R s v); simp [NS] at this ⊢; omega
    rw [n1, n2]
    repeat' split
    all_goals first | rfl | omega

theorem set_L (R : Nat → Bool) (s : Nat) (hs : s < 32) (v : Bool) : (cellsL R).setIfInBounds s (.bool v) = cellsL (putL R s v) := by
  apply Array.ext_getElem?
  intro j
  have hsz : (cellsL R).size = 32 := sizeL R
  rw [Array.getElem?_setIfInBounds, hsz]
  by_cases hj : j < 32
  · rw [get_L _ j hj, get_L _ j hj, putL]
    by_cases e : s = j
    · subst e; rw [if_pos rfl, if_pos hj, if_pos rfl]
    · rw [if_neg e, if_neg (by omega)]
  · have n1 : (cellsL R)[j]? = none := by simp; omega
    have n2 : (cellsL (putL R s v))[j]? = none := by have := sizeL (putL R s v); simp [NL] at this ⊢; omega
    rw [n1, n2]
    repeat' split
    all_goals first | rfl | omega

theorem cellsS_ext {R Q : Nat → Int} (h : ∀ k, k < 32 → R k = Q k) : cellsS R = cellsS Q := by
  unfold cellsS
  congr 1
  apply List.map_congr_left
  intro k hk
  rw [h k (by simpa using hk)]

theorem part_K (K : Nat → Option Int) (j : Nat) (h : j < 32) : part (cellsK K) (j * 2) N2 = cellsN (K j) := by
  apply Array.ext_getElem?
  intro i
  simp only [part, List.getElem?_toArray, N2]
  match i with
  | 0 => rw [List.getElem?_take_of_lt (by omega), List.getElem?_drop, Nat.add_zero, Array.getElem?_toList, get_K0 K j h]; rfl
  | 1 => rw [List.getElem?_take_of_lt (by omega), List.getElem?_drop, Array.getElem?_toList, get_K1 K j h]; rfl
  | i + 2 => rw [List.getElem?_eq_none (by rw [List.length_take]; omega), Array.getElem?_eq_none (by simp [cellsN])]

theorem placed_K (K : Nat → Option Int) (j : Nat) (h : j < 32) (v : Option Int) : placed (cellsK K) (j * 2) (cellsN v) = cellsK (putK K j v) := by
  have hsz : (cellsK K).size = 64 := sizeK K
  have hl : (cellsK K).toList.length = 64 := by simpa using hsz
  have ht : ((cellsK K).toList.take (j * 2)).length = j * 2 := by rw [List.length_take]; omega
  have hn : (cellsN v).toList.length = 2 := rfl
  apply Array.ext_getElem?
  intro i
  simp only [placed, List.getElem?_toArray]
  have hk : ∀ i, i < 64 → (cellsK K)[i]? = some (if i % 2 = 0 then Value.bool (K (i / 2)).isSome else Value.int .u32 ((K (i / 2)).getD 0)) := fun i hi => by simp [cellsK, hi]
  have hk2 : ∀ i, i < 64 → (cellsK (putK K j v))[i]? = some (if i % 2 = 0 then Value.bool (putK K j v (i / 2)).isSome else Value.int .u32 ((putK K j v (i / 2)).getD 0)) := fun i hi => by simp [cellsK, hi]
  by_cases hi : i < 64
  · rw [hk2 i hi]
    by_cases h1 : i < j * 2
    · rw [List.getElem?_append_left (by rw [List.length_append]; omega), List.getElem?_append_left (by omega), List.getElem?_take_of_lt h1, Array.getElem?_toList, hk i hi, show putK K j v (i / 2) = K (i / 2) from if_neg (by omega)]
    · by_cases h2 : i < j * 2 + 2
      · rw [List.getElem?_append_left (by rw [List.length_append]; omega), List.getElem?_append_right (by omega), ht, show putK K j v (i / 2) = v from if_pos (by omega)]
        by_cases h3 : i = j * 2
        · subst h3; simp [cellsN]
        · obtain rfl : i = j * 2 + 1 := by omega
          have e1 : ¬ (j * 2 + 1) % 2 = 0 := by omega
          simp [cellsN, e1]
      · rw [List.getElem?_append_right (by rw [List.length_append]; omega), List.getElem?_drop, Array.getElem?_toList, List.length_append, ht, hn, show j * 2 + (cellsN v).size + (i - (j * 2 + 2)) = i by show j * 2 + 2 + (i - (j * 2 + 2)) = i; omega, hk i hi, show putK K j v (i / 2) = K (i / 2) from if_neg (by omega)]
  · rw [Array.getElem?_eq_none (by have := sizeK (putK K j v); simp [NK] at this; omega)]
    apply List.getElem?_eq_none
    rw [List.length_append, List.length_append, ht, hn, List.length_drop, hl]
    show j * 2 + 2 + (64 - (j * 2 + 2)) ≤ i
    omega

end Go.Proofs.Ytnbflahggpehpab.Ir
