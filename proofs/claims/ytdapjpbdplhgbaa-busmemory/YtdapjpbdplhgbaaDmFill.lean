/- Layer 11: two memories, the program's and the document's, filled alike. -/
import Derived.Test.YtdapjpbdplhgbaaDmWalks2
namespace Go.Proofs.Ytdapjpbdplhgbaa.Dm
open Go.RowKit
set_option linter.unusedVariables false
set_option maxRecDepth 100000
set_option linter.unusedSimpArgs false

/-- The program's memory and the document's, apart from one another, made since w. -/
structure Both (w x : World) (p g q gb gd n : Nat) (B B' : Nat → Nat) (D D' : Nat → Bool) : Prop where
  m : Mem x p g n n B D
  r : RMem x q gb gd n B' D'
  bp : w.heap.size ≤ p
  bg : w.heap.size ≤ g
  bq : w.heap.size ≤ q
  bb : w.heap.size ≤ gb
  bd : w.heap.size ≤ gd
  pq : p ≠ q
  pb : p ≠ gb
  pd : p ≠ gd
  gq : g ≠ q
  ggb : g ≠ gb
  ggd : g ≠ gd
  be : Below w.heap.size w x

theorem Both.on {w x y : World} {p g q gb gd n : Nat} {B B' : Nat → Nat} {D D' : Nat → Bool} (h : Both w x p g q gb gd n B B' D D') (hb : Below x.heap.size x y) : Both w y p g q gb gd n B B' D D' :=
  { h with m := h.m.on hb, r := h.r.on hb, be := onto h.be (Nat.le_refl _) hb }

theorem Both.putM {w x y : World} {p g q gb gd n : Nat} {B B' C : Nat → Nat} {D D' E : Nat → Bool} (h : Both w x p g q gb gd n B B' D D') (hm : Mem y p g n n C E) (hg : x.grownBy y (some g)) : Both w y p g q gb gd n C B' E D' :=
  { h with m := hm, r := h.r.far hg h.gq.symm h.ggb.symm h.ggd.symm, be := grown_below h.be hg h.be.size h.bg }

theorem Both.putR {w x y : World} {p g q gb gd n : Nat} {B B' C : Nat → Nat} {D D' E : Nat → Bool} (h : Both w x p g q gb gd n B B' D D') (hr : RMem y q gb gd n C E) (hk : RKept q gb gd x y) : Both w y p g q gb gd n B C D E :=
  { h with m := hk.mem h.m h.pq h.pb h.pd h.gq h.ggb h.ggd, r := hr, be := RKept.below h.be hk h.bq h.bb h.bd }

theorem Both.cleanR {w x y : World} {p g q gb gd gd' n : Nat} {B B' : Nat → Nat} {D D' E : Nat → Bool} (h : Both w x p g q gb gd n B B' D D') (hd : x.heap.size ≤ gd') (hr : RMem y q gb gd' n B' E) (hg : x.grownBy y (some q)) : Both w y p g q gb gd' n B B' D E :=
  { h with m := h.m.far hg h.pq h.gq, r := hr, bd := Nat.le_trans h.be.size hd, pd := by have := h.m.zp; omega, ggd := by have := h.m.zg; omega, be := grown_below h.be hg h.be.size h.bq }

theorem Both.congr {w x : World} {p g q gb gd n : Nat} {B B' C : Nat → Nat} {D D' : Nat → Bool} (h : Both w x p g q gb gd n B B' D D') (e : ∀ j, j < 256 * n → B j = C j) (e' : ∀ j, j < 256 * n → B' j = C j) (l : ∀ j, C j < 256) : Both w x p g q gb gd n C C D D' :=
  { h with m := h.m.congr e (fun _ _ => rfl) l, r := h.r.congr e' l }

/-- The bytes of a memory that is filled. -/
def fillF (c : Nat) : Nat → Nat := fun j => (c + j % 256 * (j / 256 + 1)) % 256

theorem fillF_lt (c j : Nat) : fillF c j < 256 := Nat.mod_lt _ (by decide)

/-- The bytes of page i. -/
def rowF (c i : Nat) : Nat → Nat := fun j => (c + j * (i + 1)) % 256

/-- The bytes when i pages are filled. -/
def fillP (c i : Nat) : Nat → Nat := fun j => if j / 256 < i then fillF c j else 0

theorem fillP_lt (c i j : Nat) : fillP c i j < 256 := by
  unfold fillP
  split
  · exact fillF_lt c j
  · decide

theorem fillP_put (c i j : Nat) : pageB (fillP c i) i (textOf 256 (rowF c i)) j = fillP c (i + 1) j := by
  unfold pageB fillP
  by_cases h : j / 256 = i
  · rw [if_pos h, if_pos (by omega), byteAt_textOf 256 (rowF c i) (fun j => by unfold rowF; exact Nat.mod_lt _ (by decide)) _ (Nat.mod_lt _ (by decide))]
    unfold rowF fillF
    rw [h]
  · rw [if_neg h]
    by_cases l : j / 256 < i
    · rw [if_pos l, if_pos (by omega)]
    · rw [if_neg l, if_neg (by omega)]

/-- How many pages there are. -/
def pagesN (m : Int) : Nat := (max 4 (min m 64)).toNat

theorem pagesN_is (m : Int) : 4 ≤ pagesN m ∧ pagesN m ≤ 64 ∧ max 4 (min m 64) = (pagesN m : Int) := by
  unfold pagesN
  omega

theorem _root_.Go.Proofs.Ytdapjpbdplhgbaa.RowIs.keep {w w' : World} {B n : Nat} {f : Nat → Nat} (h : RowIs w B n f) (e : w'.heap[B]? = w.heap[B]?) : RowIs w' B n f := by
  refine ⟨?_, fun j hj => (World.cell?_of_block (a := ⟨B, j, none⟩) e).trans (h.cell j hj), fun j hj => (World.frozen?_of_block (a := ⟨B, j, none⟩) e).trans (h.free j hj)⟩
  have hl := h.lt
  rw [Array.getElem?_eq_getElem hl] at e
  exact (Array.getElem?_eq_some_iff.1 e).1

end Go.Proofs.Ytdapjpbdplhgbaa.Dm
