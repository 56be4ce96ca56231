/- A row of bytes of the call's own: how it is made of a text, written, and made a text again. -/
import Derived.Test.YtflfgeolimkhgaaCrcWalks6
import Derived.Test.YtflfgeolimkhgaaCrcPlain2
import Derived.Laws.IdiomStrings
namespace Go.Proofs.Ytflfgeolimkhgaa
open Go.RowKit
set_option linter.unusedVariables false

/-- A row of n bytes in block B: cell j holds f j, and may be written. -/
structure RowIs (w : World) (B n : Nat) (f : Nat → Nat) : Prop where
  lt : B < w.heap.size
  cell : ∀ j, j < n → w.cell? ⟨B, j, none⟩ = some (.int .u8 ((f j : Nat) : Int))
  free : ∀ j, j < n → w.frozen? ⟨B, j, none⟩ = false

theorem RowIs.drew {w : World} {B n : Nat} {f : Nat → Nat} (h : RowIs w B n f) : RowIs w.drew B n f := ⟨h.lt, h.cell, h.free⟩

theorem RowIs.below {w w' : World} {B n : Nat} {f : Nat → Nat} (h : RowIs w B n f) (hb : Below w.heap.size w w') : RowIs w' B n f :=
  ⟨Nat.lt_of_lt_of_le h.lt hb.size, fun j hj => (hb.cell (p := ⟨B, j, none⟩) h.lt).trans (h.cell j hj), fun j hj => (hb.frozen (p := ⟨B, j, none⟩) h.lt).trans (h.free j hj)⟩

theorem RowIs.set {w : World} {B n : Nat} {f : Nat → Nat} (h : RowIs w B n f) {k : Nat} (hk : k < n) (v : Nat) :
    RowIs (w.setCell ⟨B, k, none⟩ (.int .u8 ((v : Nat) : Int))) B n (fun j => if j = k then v else f j) := by
  refine ⟨by rw [World.size_setCell]; exact h.lt, fun j hj => ?_, fun j hj => by rw [World.frozen?_setCell]; exact h.free j hj⟩
  by_cases e : j = k
  · subst e
    rw [World.cell?_setCell_same w _ _ (h.cell j hj), if_pos rfl]
  · rw [World.cell?_setCell_other w _ _ _ (by intro c; injection c with _ c2; omega), if_neg e]
    exact h.cell j hj

theorem RowIs.congr {w : World} {B n : Nat} {f g : Nat → Nat} (h : RowIs w B n f) (e : ∀ j, j < n → f j = g j) : RowIs w B n g :=
  ⟨h.lt, fun j hj => by rw [← e j hj]; exact h.cell j hj, h.free⟩

/-- Byte number j of a text (0 behind its end). -/
def byteAt (s : ByteArray) (j : Nat) : Nat := (nats s).getD j 0

theorem byteAt_lt (s : ByteArray) (j : Nat) : byteAt s j < 256 := by
  unfold byteAt
  by_cases h : j < (nats s).length
  · rw [List.getD_eq_getElem?_getD, List.getElem?_eq_getElem h]
    exact nats_small s _ (List.getElem_mem h)
  · rw [List.getD_eq_getElem?_getD, List.getElem?_eq_none (by omega)]
    decide

theorem byteAt_in (s : ByteArray) (j : Nat) (h : j < s.size) : byteAt s j = s[j].toNat := by
  unfold byteAt
  rw [List.getD_eq_getElem?_getD, List.getElem?_eq_getElem (by rw [nats_length]; exact h)]
  simp only [nats, List.getElem_map, Option.getD_some]
  rfl

theorem nats_row (s : ByteArray) : nats s = Crc.row s.size (byteAt s) := by
  apply List.ext_getElem
  · rw [nats_length, Crc.row_length]
  · intro i h1 h2
    rw [Crc.row_get]
    unfold byteAt
    rw [List.getD_eq_getElem?_getD, List.getElem?_eq_getElem h1]
    rfl

theorem nats_head (s : ByteArray) (n : Nat) (h : n ≤ s.size) : nats (s.extract 0 n) = Crc.row n (byteAt s) := by
  have e : nats (s.extract 0 n) = (nats s).take n := by
    unfold nats
    rw [ext_head, List.map_take]
  apply List.ext_getElem
  · rw [e, List.length_take, nats_length, Crc.row_length]; omega
  · intro i h1 h2
    simp only [e, List.getElem_take]
    rw [Crc.row_get]
    unfold byteAt
    rw [List.getD_eq_getElem?_getD, List.getElem?_eq_getElem (by rw [Crc.row_length] at h2; rw [nats_length]; omega)]
    rfl

/-- The text of a row of bytes. -/
def textOf (n : Nat) (f : Nat → Nat) : ByteArray := strOfNums ((List.range n).map fun j => ((f j : Nat) : Int))

theorem textOf_size (n : Nat) (f : Nat → Nat) : (textOf n f).size = n := by
  unfold textOf
  rw [strOfNums_size, List.length_map, List.length_range]

theorem nats_textOf (n : Nat) (f : Nat → Nat) (hf : ∀ j, j < n → f j < 256) : nats (textOf n f) = Crc.row n f := by
  unfold nats textOf Crc.row
  rw [strOfNums_data, List.map_map, List.map_map]
  apply List.map_congr_left
  intro j hj
  have := hf j (List.mem_range.1 hj)
  simp
  omega

theorem conv_back {w : World} {B n : Nat} {f : Nat → Nat} (h : RowIs w B n f) (cap : Nat) :
    (convert 32 9 (.slice (some ⟨B, 0, none⟩) n cap)).run Try.prog w = .ok (.string (textOf n f)) w := by
  refine run_convert_bytes_arg w 32 5 Try.underlying32 Try.underlying5 B 0 n cap _ (by rw [List.length_map, List.length_range]) ?_ 9 Try.underlying9
  intro i hi
  rw [Nat.zero_add, h.cell i hi, List.getD_eq_getElem?_getD, List.getElem?_map, List.getElem?_range hi]
  rfl

/-- The world behind '[]byte(s)'. -/
def rowWorld (w : World) (s : ByteArray) : World :=
  w.drew.alloc (.cells (bytesRow s (grownCap w s.size 0 5)) 5 ((bytesRow s (grownCap w s.size 0 5)).size, (bytesRow s (grownCap w s.size 0 5)).size + 1))

theorem conv_row (w : World) (s : ByteArray) :
    (convert 9 32 (.string s)).run Try.prog w = .ok (.slice (some ⟨w.heap.size, 0, none⟩) s.size (grownCap w s.size 0 5)) (rowWorld w s) :=
  run_bytes_of_string w 9 32 5 s Try.underlying9 Try.underlying32 Try.underlying5

theorem row_of (w : World) (s : ByteArray) : RowIs (rowWorld w s) w.heap.size s.size (byteAt s) := by
  refine ⟨by unfold rowWorld; simp, fun j hj => ?_, fun j hj => ?_⟩
  · unfold rowWorld
    rw [show w.heap.size = w.drew.heap.size from rfl, World.cell?_alloc_mark, bytesRow_at s _ j hj, byteAt_in s j hj]
    rfl
  · unfold rowWorld
    rw [show w.heap.size = w.drew.heap.size from rfl, World.frozen?_alloc_mark]
    have : s.size ≤ (bytesRow s (grownCap w s.size 0 5)).size := by
      unfold bytesRow
      rw [Array.size_append, Array.size_map]
      exact Nat.le_add_right _ _
    simp
    omega

theorem row_below (w : World) (s : ByteArray) : Below w.heap.size w (rowWorld w s) := (Below.refl _ w).drew.alloc (Nat.le_refl _) _

end Go.Proofs.Ytflfgeolimkhgaa
