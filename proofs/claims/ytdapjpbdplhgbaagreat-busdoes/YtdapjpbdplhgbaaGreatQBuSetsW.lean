/- Which bytes are the devices' state is as the document says; what is refused changes nothing. -/
import Derived.Test.YtdapjpbdplhgbaaGreatQBuLaws
import Derived.Test.YtdapjpbdplhgbaaGreatQBuRSet
import Derived.Test.YtdapjpbdplhgbaaGreatQBuRNew
import Derived.Test.YtdapjpbdplhgbaaGreatQBuRDevs
namespace Go.Proofs.YtdapjpbdplhgbaaGreat
open Go.RowKit
set_option linter.unusedVariables false
set_option maxRecDepth 100000

/-- The document's bus, the call's own. -/
structure ROwn (w x : World) (b p gb gd n : Nat) (v : Dv) (B : Nat → Nat) (D : Nat → Bool) : Prop where
  bus : RBus x b p gb gd n v B D
  be : Below w.heap.size w x
  zb : w.heap.size ≤ b
  zp : w.heap.size ≤ p
  zgb : w.heap.size ≤ gb
  zgd : w.heap.size ≤ gd

theorem ROwn.on {w x y : World} {b p gb gd n : Nat} {v : Dv} {B : Nat → Nat} {D : Nat → Bool} (h : ROwn w x b p gb gd n v B D) (hb : Below x.heap.size x y) : ROwn w y b p gb gd n v B D :=
  ⟨h.bus.on hb, onto h.be (Nat.le_refl _) hb, h.zb, h.zp, h.zgb, h.zgd⟩

theorem ROwn.keep {w x y : World} {b p gb gd n : Nat} {v : Dv} {B : Nat → Nat} {D : Nat → Bool} {l : List Nat} (h : ROwn w x b p gb gd n v B D) (k : Kept l x y) (hl : ∀ i, i ∈ l → w.heap.size ≤ i) (hb : b ∉ l) (hp : p ∉ l) (h1 : gb ∉ l) (h2 : gd ∉ l) : ROwn w y b p gb gd n v B D :=
  ⟨h.bus.keep k hb hp h1 h2, Kept.below h.be k (Nat.le_refl _) hl, h.zb, h.zp, h.zgb, h.zgd⟩

/-- What the program and the document make of any bytes: the same. -/
theorem sets_same (s : ByteArray) (hm : s.size ≤ maxLen) (v : Dv) (hv : Wv v) : ∃ (q : Dv) (f : Int), Wv q ∧ (f = 0 ∧ devV q = s ∨ ¬ f = 0 ∧ q = v) ∧
    (∀ x b p g n c B D, Bus x b p g n c v B D → Calls Tryz.prog 38 #[.pointer (some ⟨b, 0, none⟩), .string s] x fun e y => e = .returned (.int .i64 f) ∧ Bus y b p g n c q B D ∧ Kept [b] x y) ∧
    (∀ x b p gb gd n B D, RBus x b p gb gd n v B D → Calls Tryz.prog 39 #[.pointer (some ⟨b, 0, none⟩), .string s] x fun e y => e = .returned (.int .i64 f) ∧ RBus y b p gb gd n q B D ∧ Kept [b] x y) := by
  by_cases h : 1066 ≤ s.size
  · obtain ⟨T, E1, Dd, E2, G, ok, U, E4, P⟩ := parts_of s h hm
    by_cases hg : E1 = 0 ∧ E2 = 0 ∧ ok = true ∧ E4 = 0
    · obtain ⟨h1, h2, h3, h4⟩ := hg
      have hd := P.yes h1 h2 h3 h4
      refine ⟨_, 0, hd.1, Or.inl ⟨rfl, hd.2⟩, fun x b p g n c B D hB => ?_, fun x b p gb gd n B D hB => ?_⟩
      · exact set_yes hB s _ hd.1 (fun y => parse_any h hm P _ true (Or.inl ⟨h1, h2, h3, h4, rfl, rfl⟩) y)
      · exact rset_any hB h hm P _ 0 (Or.inl ⟨h1, h2, h3, h4, rfl, rfl⟩)
    · refine ⟨v, 120, hv, Or.inr ⟨by decide, rfl⟩, fun x b p g n c B D hB => ?_, fun x b p gb gd n B D hB => ?_⟩
      · refine (set_no hB s (fun y => parse_any h hm P VZ false (Or.inr ⟨hg, rfl, rfl⟩) y)).mono ?_
        rintro e y ⟨rfl, b1⟩
        exact ⟨rfl, hB.on b1, Kept.of b1⟩
      · exact rset_any hB h hm P v 120 (Or.inr ⟨hg, rfl, rfl⟩)
  · refine ⟨v, 120, hv, Or.inr ⟨by decide, rfl⟩, fun x b p g n c B D hB => ?_, fun x b p gb gd n B D hB => ?_⟩
    · refine (set_no hB s (fun y => parse_short (by omega) y)).mono ?_
      rintro e y ⟨rfl, b1⟩
      exact ⟨rfl, hB.on b1, Kept.of b1⟩
    · refine (rset_short (by omega)).mono ?_
      rintro e y ⟨rfl, rfl⟩
      exact ⟨rfl, hB, Kept.refl _ _⟩

/-- The program's bus and the document's side by side. -/
structure Side (w x : World) (b p g c b' p' gb gd n : Nat) (v : Dv) (B : Nat → Nat) (D : Nat → Bool) : Prop where
  o1 : Own w x b p g n c v B D
  o2 : ROwn w x b' p' gb gd n v B D
  n1 : b' ∉ [b, g] ∧ p' ∉ [b, g] ∧ gb ∉ [b, g] ∧ gd ∉ [b, g]
  n2 : b ∉ [b', p', gb, gd] ∧ p ∉ [b', p', gb, gd] ∧ g ∉ [b', p', gb, gd]

theorem Side.on {w x y : World} {b p g c b' p' gb gd n : Nat} {v : Dv} {B : Nat → Nat} {D : Nat → Bool} (h : Side w x b p g c b' p' gb gd n v B D) (hb : Below x.heap.size x y) : Side w y b p g c b' p' gb gd n v B D :=
  ⟨h.o1.on hb, h.o2.on hb, h.n1, h.n2⟩

/-- The program's call, then the document's. -/
theorem Side.both {w x y z : World} {b p g c b' p' gb gd n : Nat} {v v' : Dv} {B B' : Nat → Nat} {D D' : Nat → Bool} (h : Side w x b p g c b' p' gb gd n v B D) (h1 : Bus y b p g n c v' B' D') (k1 : Kept [b, g] x y)
    (h2 : RBus z b' p' gb gd n v' B' D') (k2 : Kept [b', p', gb, gd] y z) : Side w z b p g c b' p' gb gd n v' B' D' := by
  have hl1 : ∀ i, i ∈ [b, g] → w.heap.size ≤ i := by intro i hi; simp at hi; rcases hi with rfl | rfl; exact h.o1.zb; exact h.o1.zg
  have hl2 : ∀ i, i ∈ [b', p', gb, gd] → w.heap.size ≤ i := by intro i hi; simp at hi; rcases hi with rfl | rfl | rfl | rfl; exact h.o2.zb; exact h.o2.zp; exact h.o2.zgb; exact h.o2.zgd
  have be1 := Kept.below h.o1.be k1 (Nat.le_refl _) hl1
  have be2 := Kept.below be1 k2 (Nat.le_refl _) hl2
  exact ⟨⟨h1.keep k2 h.n2.1 h.n2.2.1 h.n2.2.2, be2, h.o1.zb, h.o1.zp, h.o1.zg⟩, ⟨h2, be2, h.o2.zb, h.o2.zp, h.o2.zgb, h.o2.zgd⟩, h.n1, h.n2⟩

/-- The document's bus behind the program's call. -/
theorem Side.mid {w x y : World} {b p g c b' p' gb gd n : Nat} {v : Dv} {B : Nat → Nat} {D : Nat → Bool} (h : Side w x b p g c b' p' gb gd n v B D) (k1 : Kept [b, g] x y) : RBus y b' p' gb gd n v B D :=
  h.o2.bus.keep k1 h.n1.1 h.n1.2.1 h.n1.2.2.1 h.n1.2.2.2

theorem Side.made {w x y : World} {b p g c b' p' gb gd n : Nat} {v : Dv} {B : Nat → Nat} {D : Nat → Bool} (h : Own w x b p g n c v B D) (h2 : RBus y b' p' gb gd n v B D) (zb : x.heap.size ≤ b') (zp : x.heap.size ≤ p') (zgb : x.heap.size ≤ gb) (zgd : x.heap.size ≤ gd) (be : Below x.heap.size x y) :
    Side w y b p g c b' p' gb gd n v B D := by
  have l1 := h.bus.lt
  have l2 := h.bus.m.zp
  have l3 := h.bus.m.zg
  have l4 := h.be.size
  refine ⟨h.on be, ⟨h2, onto h.be (Nat.le_refl _) be, by omega, by omega, by omega, by omega⟩, ⟨?_, ?_, ?_, ?_⟩, ⟨?_, ?_, ?_⟩⟩
  all_goals (simp; omega)

end Go.Proofs.YtdapjpbdplhgbaaGreat
