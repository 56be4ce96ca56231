/- Layer 13: the document's Text of a state. -/
import Derived.Test.YthjcijlabpinkaaGreatDoorQCuTextM2
import Derived.Test.YthjcijlabpinkaaGreatDoorQCpRefs
import Derived.Test.YthjcijlabpinkaaGreatDoorQDmRef
import Derived.Deep.RegionHeld3
namespace Go.Proofs.YthjcijlabpinkaaGreatDoor
open Go.RowKit
set_option linter.unusedVariables false
set_option maxRecDepth 100000
set_option linter.unusedSimpArgs false

/-- A state's text up to its k-th number. -/
def texC (c : Cs) (k : Nat) : ByteArray := strOfNums (bytesW ((wordsC c).take k))

theorem texC_size (c : Cs) (k : Nat) (h : k ≤ 63) : (texC c k).size = 4 * k := by
  unfold texC
  rw [strOfNums_size, bytesW_length, List.length_take, wordsC_length]
  omega

theorem strOf_append (a b : List Int) : strOfNums (a ++ b) = strOfNums a ++ strOfNums b := by
  apply ByteArray.ext
  simp [strOfNums]

theorem texC_next (c : Cs) (k : Nat) (v : Int) (h : (wordsC c)[k]? = some v) : texC c k ++ Dm.wordV v = texC c (k + 1) := by
  unfold texC Dm.wordV
  rw [take_word c k v h, bytesW_snoc, strOf_append]
  rfl

theorem texC_all (c : Cs) : texC c 63 = textC c := by
  unfold texC textC
  rw [List.take_of_length_le (by rw [wordsC_length]; omega)]

theorem one_is (b : Bool) : Dm.one b = oneN b := by cases b <;> rfl

theorem texC_3 (c : Cs) : Dm.wordV c.pc ++ Dm.wordV c.nx ++ Dm.wordV (oneN c.dl) = texC c 3 := by
  rw [← texC_next c 2 _ rfl, ← texC_next c 1 _ rfl, ← texC_next c 0 _ rfl]
  have : texC c 0 = ByteArray.empty := rfl
  rw [this, ByteArray.empty_append]
  rfl

theorem texC_38 (c : Cs) : texC c 35 ++ (Dm.wordV c.hi ++ Dm.wordV c.lo ++ Dm.wordV (oneN c.lk)) = texC c 38 := by
  rw [← texC_next c 37 _ rfl, ← texC_next c 36 _ rfl, ← texC_next c 35 _ rfl]
  simp only [ByteArray.append_assoc]
  rfl

/-- What the walk holds on to. -/
def RT (b : Nat) (c : Cs) (w y : World) : Prop := Box y b (cellsC c) ∧ Below w.heap.size w y

theorem RT.on {b : Nat} {c : Cs} {w x y : World} (h : RT b c w x) (hb : Below x.heap.size x y) : RT b c w y := ⟨h.1.on hb, onto h.2 (Nat.le_refl _) hb⟩

theorem RT.three {b : Nat} {c : Cs} {w y : World} (h : RT b c w y) : y.cell? ⟨b, 0, none⟩ = some (.int .u32 c.pc) ∧ y.cell? ⟨b, 1, none⟩ = some (.int .u32 c.nx) ∧ y.cell? ⟨b, 2, none⟩ = some (.bool c.dl) ∧ RT b c w y := ⟨h.1.cell 0, h.1.cell 1, h.1.cell 2, h⟩
theorem RT.more {b : Nat} {c : Cs} {w y : World} (h : RT b c w y) : y.cell? ⟨b, 35, none⟩ = some (.int .u32 c.hi) ∧ y.cell? ⟨b, 36, none⟩ = some (.int .u32 c.lo) ∧ y.cell? ⟨b, 37, none⟩ = some (.bool c.lk) ∧ RT b c w y := ⟨h.1.cell 35, h.1.cell 36, h.1.cell 37, h⟩
theorem RT.reg {b : Nat} {c : Cs} {w y : World} (h : RT b c w y) {k : Nat} (hk : k < 32) : y.cell? ⟨b, 3 + k, none⟩ = some (.int .u32 (c.R k)) ∧ RT b c w y := ⟨by rw [h.1.cell]; exact get_R c k hk, h⟩

theorem get_T (c : Cs) (k : Nat) (h : k < 16) : (cellsC c)[47 + k]? = some (.int .u32 (c.T k)) := by
  match k, h with
  | 0, _ => rfl
  | 1, _ => rfl
  | 2, _ => rfl
  | 3, _ => rfl
  | 4, _ => rfl
  | 5, _ => rfl
  | 6, _ => rfl
  | 7, _ => rfl
  | 8, _ => rfl
  | 9, _ => rfl
  | 10, _ => rfl
  | 11, _ => rfl
  | 12, _ => rfl
  | 13, _ => rfl
  | 14, _ => rfl
  | 15, _ => rfl
  | n + 16, h => omega

theorem words_T (c : Cs) (k : Nat) (h : k < 16) : (wordsC c)[47 + k]? = some (c.T k) := by
  unfold wordsC
  rw [List.getElem?_map, Array.getElem?_toList, get_T c k h]
  rfl

theorem words_R (c : Cs) (k : Nat) (h : k < 32) : (wordsC c)[3 + k]? = some (c.R k) := by
  unfold wordsC
  rw [List.getElem?_map, Array.getElem?_toList, get_R c k h]
  rfl

theorem RT.slot {b : Nat} {c : Cs} {w y : World} (h : RT b c w y) {k : Nat} (hk : k < 8) : y.cell? ⟨b, 47 + k * 2, none⟩ = some (.int .u32 (c.T (k * 2))) ∧ y.cell? ⟨b, 47 + k * 2 + 1, none⟩ = some (.int .u32 (c.T (k * 2 + 1))) ∧ RT b c w y :=
  ⟨by rw [h.1.cell]; exact get_T c _ (by omega), by rw [h.1.cell, Nat.add_assoc]; exact get_T c _ (by omega), h⟩

theorem texC_T (c : Cs) (k : Nat) (h : k < 8) : texC c (47 + 2 * k) ++ (Dm.wordV (c.T (k * 2)) ++ Dm.wordV (c.T (k * 2 + 1))) = texC c (47 + 2 * (k + 1)) := by
  rw [show 47 + 2 * (k + 1) = 47 + 2 * k + 1 + 1 by omega, ← texC_next c (47 + 2 * k + 1) (c.T (k * 2 + 1)) (by rw [show 47 + 2 * k + 1 = 47 + (k * 2 + 1) by omega]; exact words_T c _ (by omega)),
    ← texC_next c (47 + 2 * k) (c.T (k * 2)) (by rw [show 2 * k = k * 2 by omega]; exact words_T c _ (by omega)), ByteArray.append_assoc]

/-- The registers' numbers. -/
def regL : List Int := [0, 2, 8, 9, 10, 11, 12, 13, 14]

theorem words_C (c : Cs) (k : Nat) (h : k < 9) : (wordsC c)[38 + k]? = some (Cp.readV c.C (regL.getD k 0)) :=
  match k, h with
  | 0, _ => rfl
  | 1, _ => rfl
  | 2, _ => rfl
  | 3, _ => rfl
  | 4, _ => rfl
  | 5, _ => rfl
  | 6, _ => rfl
  | 7, _ => rfl
  | 8, _ => rfl
  | n + 9, h => absurd h (by omega)

theorem read_w {c : Cs} (hc : Wc c) (k : Nat) (h : k < 9) : 0 ≤ Cp.readV c.C (regL.getD k 0) ∧ Cp.readV c.C (regL.getD k 0) < 4294967296 := by
  obtain ⟨v, e1, e2, -⟩ := word_w hc (38 + k) (by omega)
  rw [words_C c k h] at e1
  cases e1
  exact e2

def regRow : Array Value := (regL.map (Value.int .i64)).toArray

end Go.Proofs.YthjcijlabpinkaaGreatDoor
