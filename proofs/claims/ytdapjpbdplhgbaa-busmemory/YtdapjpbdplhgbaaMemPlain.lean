/- Layer 6: what lies in memory where a memory of pages lies: its bytes and which pages are dirty. -/
import Derived.Test.YtdapjpbdplhgbaaWholeAt
import Derived.Laws.BitsAllLaws
import Derived.Laws.MakeOwn
import Derived.Laws.IdiomCopy
import Derived.WalkKit
import Derived.WalkSpells
import Derived.WalkLawsBesides
import Derived.Below
import Derived.Deep.RegionHeld3
namespace Go.Proofs.Ytdapjpbdplhgbaa
open Go.RowKit
set_option linter.unusedVariables false
set_option maxRecDepth 100000

/-- In block p lies a memory: n pages in block g (with room for c), the bytes B, the marks D. Byte j lies at the place j + j / 256 (a page is 256 bytes and its mark). -/
structure Mem (w : World) (p g n c : Nat) (B : Nat → Nat) (D : Nat → Bool) : Prop where
  zp : p < w.heap.size
  zg : g < w.heap.size
  ne : p ≠ g
  n4 : 4 ≤ n
  n64 : n ≤ 64
  nc : n ≤ c
  hd : w.cell? ⟨p, 0, none⟩ = some (.slice (some ⟨g, 0, none⟩) n c)
  by' : ∀ j, j < 256 * n → w.cell? ⟨g, j + j / 256, none⟩ = some (.int .u8 ((B j : Nat) : Int))
  di : ∀ k, k < n → w.cell? ⟨g, 257 * k + 256, none⟩ = some (.bool (D k))
  fr : ∀ o, w.frozen? ⟨g, o, none⟩ = false
  lt : ∀ j, B j < 256

theorem Mem.keep {w w' : World} {p g n c : Nat} {B : Nat → Nat} {D : Nat → Bool} (h : Mem w p g n c B D) (hs : w.heap.size ≤ w'.heap.size)
    (hp : w'.heap[p]? = w.heap[p]?) (hg : w'.heap[g]? = w.heap[g]?) : Mem w' p g n c B D :=
  ⟨Nat.lt_of_lt_of_le h.zp hs, Nat.lt_of_lt_of_le h.zg hs, h.ne, h.n4, h.n64, h.nc, (World.cell?_of_block (a := ⟨p, 0, none⟩) hp).trans h.hd,
    fun j hj => (World.cell?_of_block (a := ⟨g, j + j / 256, none⟩) hg).trans (h.by' j hj), fun k hk => (World.cell?_of_block (a := ⟨g, 257 * k + 256, none⟩) hg).trans (h.di k hk),
    fun o => (World.frozen?_of_block (a := ⟨g, o, none⟩) hg).trans (h.fr o), h.lt⟩

theorem Mem.on {w w' : World} {p g n c : Nat} {B : Nat → Nat} {D : Nat → Bool} (h : Mem w p g n c B D) (hb : Below w.heap.size w w') : Mem w' p g n c B D :=
  h.keep hb.size (hb.block p h.zp) (hb.block g h.zg)

theorem Mem.far {w w' : World} {p g n c r : Nat} {B : Nat → Nat} {D : Nat → Bool} (h : Mem w p g n c B D) (hb : w.grownBy w' (some r)) (hp : p ≠ r) (hg : g ≠ r) : Mem w' p g n c B D :=
  h.keep hb.size (hb.block p h.zp (by simpa using hp)) (hb.block g h.zg (by simpa using hg))

theorem Mem.drew {w : World} {p g n c : Nat} {B : Nat → Nat} {D : Nat → Bool} (h : Mem w p g n c B D) : Mem w.drew p g n c B D := h.on (Below.refl _ _).drew

theorem Mem.congr {w : World} {p g n c : Nat} {B B' : Nat → Nat} {D D' : Nat → Bool} (h : Mem w p g n c B D) (e : ∀ j, j < 256 * n → B j = B' j) (d : ∀ k, k < n → D k = D' k) (l : ∀ j, B' j < 256) : Mem w p g n c B' D' :=
  ⟨h.zp, h.zg, h.ne, h.n4, h.n64, h.nc, h.hd, fun j hj => by rw [← e j hj]; exact h.by' j hj, fun k hk => by rw [← d k hk]; exact h.di k hk, h.fr, l⟩

theorem grownBy_of {w w' : World} (hb : Below w.heap.size w w') (r : Option Nat) : w.grownBy w' r := ⟨hb.os, hb.tape, hb.output, hb.size, fun k hk _ => hb.block k hk⟩

theorem grownBy_trans {a b c : World} {r : Option Nat} (h : a.grownBy b r) (k : b.grownBy c r) : a.grownBy c r :=
  ⟨k.os.trans h.os, k.tape.trans h.tape, k.output.trans h.output, Nat.le_trans h.size k.size, fun i hi hr => (k.block i (Nat.lt_of_lt_of_le hi h.size) hr).trans (h.block i hi hr)⟩

theorem grownBy_refl (w : World) (r : Option Nat) : w.grownBy w r := ⟨rfl, rfl, rfl, Nat.le_refl _, fun _ _ _ => rfl⟩

theorem grownBy_set (w : World) (g o : Nat) (v : Value) : w.grownBy (w.setCell ⟨g, o, none⟩ v) (some g) :=
  ⟨rfl, rfl, rfl, by simp, fun k hk hr => Below.heap_setCell w ⟨g, o, none⟩ v k (by simpa using hr)⟩

theorem grownBy_sets (g : Nat) : ∀ (vs : List Value) (o : Nat) (w : World), w.grownBy (w.setCells g o vs) (some g)
  | [], _, w => grownBy_refl w _
  | v :: r, o, w => grownBy_trans (grownBy_set w g o v) (grownBy_sets g r (o + 1) _)

/-- What has grown, and changed in block r, is a world of which nothing below b has changed, where r is not below b. -/
theorem grown_below {a w w' : World} {b r : Nat} (h : Below b a w) (hg : w.grownBy w' (some r)) (hb : b ≤ w.heap.size) (hr : b ≤ r) : Below b a w' :=
  h.grown hg hb (fun k hk => by cases hk; exact hr)

/-- The number of k bytes from place a on, the highest first. -/
def numOf (B : Nat → Nat) (a : Nat) : Nat → Nat
  | 0 => 0
  | k + 1 => numOf B a k * 256 + B (a + k)

theorem numOf_lt {B : Nat → Nat} (l : ∀ j, B j < 256) (a k : Nat) : numOf B a k < 256 ^ k := by
  induction k with
  | zero => simp [numOf]
  | succ k ih =>
    have := l (a + k)
    simp only [numOf, Nat.pow_succ]
    omega

/-- Byte number i of a number of s bytes. -/
def byteOf (v s i : Nat) : Nat := v / 256 ^ (s - 1 - i) % 256

theorem byteOf_lt (v s i : Nat) : byteOf v s i < 256 := Nat.mod_lt _ (by decide)

/-- The bytes behind a store of v in s bytes at a. -/
def putB (B : Nat → Nat) (a s v : Nat) : Nat → Nat := fun j => if a ≤ j ∧ j < a + s then byteOf v s (j - a) else B j

theorem putB_lt {B : Nat → Nat} (l : ∀ j, B j < 256) (a s v j : Nat) : putB B a s v j < 256 := by
  unfold putB
  split
  · exact byteOf_lt _ _ _
  · exact l j

/-- The marks behind a change of page k. -/
def putD (D : Nat → Bool) (k : Nat) : Nat → Bool := fun i => if i = k then true else D i

/-- May a number of s bytes lie at a, in a memory of n pages? -/
def may (n a s : Nat) : Prop := (s = 1 ∨ s = 2 ∨ s = 4) ∧ a % s = 0 ∧ a + s ≤ 256 * n

/-- The text of a row of bytes. -/
def textOf (n : Nat) (f : Nat → Nat) : ByteArray := strOfNums ((List.range n).map fun j => ((f j : Nat) : Int))

theorem textOf_size (n : Nat) (f : Nat → Nat) : (textOf n f).size = n := by
  unfold textOf
  rw [strOfNums_size, List.length_map, List.length_range]

end Go.Proofs.Ytdapjpbdplhgbaa
