/- Layer 12: two buses side by side, in one state. -/
import Derived.Test.YtdapjpbdplhgbaaGreatQBuLaws
namespace Go.Proofs.YtdapjpbdplhgbaaGreat
open Go.RowKit
set_option linter.unusedVariables false
set_option maxRecDepth 100000

/-- Two buses of the call's own, in one state but for the marks. -/
structure Twin (w x : World) (b p g b' p' g' : Nat) (v : Dv) (B : Nat → Nat) (D D' : Nat → Bool) : Prop where
  o1 : Own w x b p g 4 4 v B D
  o2 : Own w x b' p' g' 4 4 v B D'
  n1 : b' ∉ [b, g] ∧ p' ∉ [b, g] ∧ g' ∉ [b, g]
  n2 : b ∉ [b', g'] ∧ p ∉ [b', g'] ∧ g ∉ [b', g']

/-- The second one is not there, or in the first one's state; a call of the script lies in block L. -/
def Pr (w : World) (b p g L : Nat) (o : Op12) (s : Value) (x : World) : Prop :=
  Box x L (cellsO o) ∧ L ∉ [b, g] ∧ ((s = .pointer none ∧ ∃ v B D, Own w x b p g 4 4 v B D) ∨
    ∃ b' p' g' v B D D', s = .pointer (some ⟨b', 0, none⟩) ∧ Twin w x b p g b' p' g' v B D D' ∧ L ∉ [b', g'])

/-- So at a round's beginning. -/
def Pr0 (w : World) (b p g : Nat) (s : Value) (x : World) : Prop :=
  (s = .pointer none ∧ ∃ v B D, Own w x b p g 4 4 v B D) ∨ ∃ b' p' g' v B D D', s = .pointer (some ⟨b', 0, none⟩) ∧ Twin w x b p g b' p' g' v B D D'

theorem Own.keep {w x y : World} {b p g n c : Nat} {v : Dv} {B : Nat → Nat} {D : Nat → Bool} {l : List Nat} (h : Own w x b p g n c v B D) (k : Kept l x y) (hl : ∀ i, i ∈ l → w.heap.size ≤ i) (hb : b ∉ l) (hp : p ∉ l) (hg : g ∉ l) : Own w y b p g n c v B D :=
  ⟨h.bus.keep k hb hp hg, Kept.below h.be k (Nat.le_refl _) hl, h.zb, h.zp, h.zg⟩

theorem Twin.on {w x y : World} {b p g b' p' g' : Nat} {v : Dv} {B : Nat → Nat} {D D' : Nat → Bool} (h : Twin w x b p g b' p' g' v B D D') (hb : Below x.heap.size x y) : Twin w y b p g b' p' g' v B D D' :=
  ⟨h.o1.on hb, h.o2.on hb, h.n1, h.n2⟩

theorem Pr0.start {w x : World} {b p g : Nat} {s : Value} (h : Pr0 w b p g s x) : ∃ v B D, Own w x b p g 4 4 v B D := by
  rcases h with ⟨-, h⟩ | ⟨b', p', g', v, B, D, D', -, h⟩
  · exact h
  · exact ⟨v, B, D, h.o1⟩

/-- The script's call is laid in a box. -/
theorem Pr0.box {w x : World} {b p g : Nat} {s : Value} (h : Pr0 w b p g s x) (o : Op12) (t : TypeId) : Pr w b p g x.heap.size o s (x.alloc (.cells (cellsO o) t)) := by
  obtain ⟨v, B, D, O⟩ := h.start
  have l1 := O.bus.lt
  have l2 := O.bus.m.zg
  refine ⟨Box.new x _ t, by simp; omega, ?_⟩
  rcases h with ⟨h1, v, B, D, O⟩ | ⟨b', p', g', v, B, D, D', h1, h2⟩
  · exact Or.inl ⟨h1, v, B, D, O.on (grow _ _)⟩
  · have l3 := h2.o2.bus.lt
    have l4 := h2.o2.bus.m.zg
    exact Or.inr ⟨b', p', g', v, B, D, D', h1, h2.on (grow _ _), by simp; omega⟩

/-- The bytes are others only behind the last page. -/
theorem Bus.congr {w : World} {b p g n c : Nat} {v : Dv} {B B' : Nat → Nat} {D : Nat → Bool} (h : Bus w b p g n c v B D) (e : ∀ j, j < 256 * n → B j = B' j) (l : ∀ j, B' j < 256) : Bus w b p g n c v B' D :=
  ⟨h.row, h.at', h.lt, h.m.congr e (fun _ _ => rfl) l, h.wv, h.np, h.ng⟩

/-- A page that is put is another bus's. -/
theorem page_copy {B C : Nat → Nat} (hB : ∀ j, B j < 256) {q : Nat} (h : ∀ j, j < 256 * q → C j = B j) : ∀ j, j < 256 * (q + 1) → pageB C q (textOf 256 (fun j => B (256 * q + j))) j = B j := by
  intro j hj
  unfold pageB
  by_cases e : j / 256 = q
  · rw [if_pos e, byteAt_textOf 256 _ (fun j => hB _) (j % 256) (by omega)]
    congr 1
    omega
  · rw [if_neg e]
    exact h j (by omega)

end Go.Proofs.YtdapjpbdplhgbaaGreat
