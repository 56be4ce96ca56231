/- The document's memory: Store, Put. -/
import Derived.Test.YtdapjpbdplhgbaaMemR2
namespace Go.Proofs.Ytdapjpbdplhgbaa
open Go.RowKit
set_option linter.unusedVariables false
set_option maxRecDepth 100000
set_option linter.unusedSimpArgs false

/-- Nothing but three blocks has changed. -/
structure RKept (a b c : Nat) (w w' : World) : Prop where
  os : w'.os = w.os
  tape : w'.tape = w.tape
  output : w'.output = w.output
  size : w.heap.size ≤ w'.heap.size
  block : ∀ k, k < w.heap.size → k ≠ a → k ≠ b → k ≠ c → w'.heap[k]? = w.heap[k]?

theorem RKept.refl (a b c : Nat) (w : World) : RKept a b c w w := ⟨rfl, rfl, rfl, Nat.le_refl _, fun _ _ _ _ _ => rfl⟩

theorem RKept.trans {a b c : Nat} {x y z : World} (h : RKept a b c x y) (k : RKept a b c y z) : RKept a b c x z :=
  ⟨k.os.trans h.os, k.tape.trans h.tape, k.output.trans h.output, Nat.le_trans h.size k.size, fun i hi h1 h2 h3 => (k.block i (Nat.lt_of_lt_of_le hi h.size) h1 h2 h3).trans (h.block i hi h1 h2 h3)⟩

theorem RKept.of1 {a b c : Nat} {x y : World} (h : x.grownBy y (some a)) : RKept a b c x y := ⟨h.os, h.tape, h.output, h.size, fun k hk h1 _ _ => h.block k hk (by simpa using h1)⟩

theorem RKept.of2 {a b c : Nat} {x y : World} (h : x.grownBy y (some b)) : RKept a b c x y := ⟨h.os, h.tape, h.output, h.size, fun k hk _ h1 _ => h.block k hk (by simpa using h1)⟩

theorem RKept.of3 {a b c : Nat} {x y : World} (h : x.grownBy y (some c)) : RKept a b c x y := ⟨h.os, h.tape, h.output, h.size, fun k hk _ _ h1 => h.block k hk (by simpa using h1)⟩

theorem RKept.drew {a b c : Nat} {x y : World} (h : RKept a b c x y) : RKept a b c x y.drew := ⟨h.os, h.tape, h.output, h.size, h.block⟩

theorem RKept.below {a b c : Nat} {w x y : World} (h : Below w.heap.size w x) (k : RKept a b c x y) (h1 : w.heap.size ≤ a) (h2 : w.heap.size ≤ b) (h3 : w.heap.size ≤ c) : Below w.heap.size w y :=
  h.trans ⟨k.os, k.tape, k.output, k.size, fun i hi => k.block i (Nat.lt_of_lt_of_le hi h.size) (by omega) (by omega) (by omega)⟩

theorem RKept.mem {a b c : Nat} {x y : World} (k : RKept a b c x y) {p g n cc : Nat} {B : Nat → Nat} {D : Nat → Bool} (M : Mem x p g n cc B D) (p1 : p ≠ a) (p2 : p ≠ b) (p3 : p ≠ c) (g1 : g ≠ a) (g2 : g ≠ b) (g3 : g ≠ c) : Mem y p g n cc B D :=
  M.keep k.size (k.block p M.zp p1 p2 p3) (k.block g M.zg g1 g2 g3)

theorem RMem.setB {w : World} {p gb gd n : Nat} {B : Nat → Nat} {D : Nat → Bool} (R : RMem w p gb gd n B D) (j b : Nat) (hj : j < 256 * n) (hb : b < 256) :
    RMem (w.setCell ⟨gb, j, none⟩ (.int .u8 ((b : Nat) : Int))) p gb gd n (fun x => if x = j then b else B x) D := by
  refine ⟨by simpa using R.zp, by simpa using R.zb, by simpa using R.zd, R.n1, R.n2, R.n3, R.n4, R.n64, ?_, ?_, ?_, ?_, ?_, ?_, ?_, ?_⟩
  · rw [World.cell?_setCell_other _ _ _ _ (by intro e; injection e with e1; exact R.n1 e1.symm)]; exact R.hb
  · rw [World.cell?_setCell_other _ _ _ _ (by intro e; injection e with e1; exact R.n1 e1.symm)]; exact R.hd
  · intro x hx
    by_cases e : x = j
    · subst e
      rw [World.cell?_setCell_same _ _ _ (R.by' x hx), if_pos rfl]
    · rw [World.cell?_setCell_other _ _ _ _ (by intro c; injection c with _ c2; omega), if_neg e]; exact R.by' x hx
  · intro k hk
    rw [World.cell?_setCell_other _ _ _ _ (by intro e; injection e with e1; exact R.n3 e1)]; exact R.di k hk
  · intro o; rw [World.frozen?_setCell]; exact R.fp o
  · intro o; rw [World.frozen?_setCell]; exact R.fb o
  · intro o; rw [World.frozen?_setCell]; exact R.fd o
  · intro x; split
    · exact hb
    · exact R.lt x

theorem RMem.setD {w : World} {p gb gd n : Nat} {B : Nat → Nat} {D : Nat → Bool} (R : RMem w p gb gd n B D) (k : Nat) (hk : k < n) :
    RMem (w.setCell ⟨gd, k, none⟩ (.bool true)) p gb gd n B (putD D k) := by
  refine ⟨by simpa using R.zp, by simpa using R.zb, by simpa using R.zd, R.n1, R.n2, R.n3, R.n4, R.n64, ?_, ?_, ?_, ?_, ?_, ?_, ?_, R.lt⟩
  · rw [World.cell?_setCell_other _ _ _ _ (by intro e; injection e with e1; exact R.n2 e1.symm)]; exact R.hb
  · rw [World.cell?_setCell_other _ _ _ _ (by intro e; injection e with e1; exact R.n2 e1.symm)]; exact R.hd
  · intro x hx
    rw [World.cell?_setCell_other _ _ _ _ (by intro e; injection e with e1; exact R.n3 e1.symm)]; exact R.by' x hx
  · intro i hi
    unfold putD
    by_cases e : i = k
    · subst e
      rw [World.cell?_setCell_same _ _ _ (R.di i hi), if_pos rfl]
    · rw [World.cell?_setCell_other _ _ _ _ (by intro c; injection c with _ c2; omega), if_neg e]; exact R.di i hi
  · intro o; rw [World.frozen?_setCell]; exact R.fp o
  · intro o; rw [World.frozen?_setCell]; exact R.fb o
  · intro o; rw [World.frozen?_setCell]; exact R.fd o

theorem RMem.congr {w : World} {p gb gd n : Nat} {B B' : Nat → Nat} {D : Nat → Bool} (R : RMem w p gb gd n B D) (e : ∀ j, j < 256 * n → B j = B' j) (l : ∀ j, B' j < 256) : RMem w p gb gd n B' D :=
  ⟨R.zp, R.zb, R.zd, R.n1, R.n2, R.n3, R.n4, R.n64, R.hb, R.hd, fun j hj => by rw [← e j hj]; exact R.by' j hj, R.di, R.fp, R.fb, R.fd, l⟩

theorem RMem.drew {w : World} {p gb gd n : Nat} {B : Nat → Nat} {D : Nat → Bool} (R : RMem w p gb gd n B D) : RMem w.drew p gb gd n B D := R.on (Below.refl _ _).drew

/-- The bytes when all but the first m of s are stored. -/
def partB (B : Nat → Nat) (a s v m : Nat) : Nat → Nat := fun x => if a + m ≤ x ∧ x < a + s then byteOf v s (x - a) else B x

theorem partB_lt {B : Nat → Nat} (l : ∀ j, B j < 256) (a s v m j : Nat) : partB B a s v m j < 256 := by
  unfold partB
  split
  · exact byteOf_lt _ _ _
  · exact l j

/-- The bytes when the first m of a page are put. -/
def partP (B : Nat → Nat) (k : Nat) (s : ByteArray) (m : Nat) : Nat → Nat := fun x => if 256 * k ≤ x ∧ x < 256 * k + m then byteAt s (x - 256 * k) else B x

theorem partP_lt {B : Nat → Nat} (l : ∀ j, B j < 256) (k : Nat) (s : ByteArray) (m j : Nat) : partP B k s m j < 256 := by
  unfold partP
  split
  · exact byteAt_lt _ _
  · exact l j

theorem byteAt_in (s : ByteArray) (j : Nat) (h : j < s.size) : byteAt s j = (s[j]'h).toNat := by
  unfold byteAt
  rw [Array.getElem?_eq_getElem (show j < s.data.size from h)]
  rfl

end Go.Proofs.Ytdapjpbdplhgbaa
