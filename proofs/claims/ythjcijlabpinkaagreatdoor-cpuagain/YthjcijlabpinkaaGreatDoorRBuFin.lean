/- Layer 12: a call of a script on a bus, the program's. -/
import Derived.Test.YthjcijlabpinkaaGreatDoorRBuOne
import Derived.Test.YthjcijlabpinkaaGreatDoorRBuDev
import Derived.Test.YthjcijlabpinkaaGreatDoorRBuNew
import Derived.ProofKit
import Derived.OpenShut
import Derived.ShutString
import Derived.ChangeOld
import Derived.Deep.Slices
import Derived.Carry
import Derived.Lib.SmallJoins
import Derived.Deep.CutRange
import Derived.Test.YthjcijlabpinkaaGreatDoorRBuRSet
import Derived.Test.YthjcijlabpinkaaGreatDoorRBuRNew
import Derived.Test.YthjcijlabpinkaaGreatDoorRBuRDevs
namespace Go.Proofs.YthjcijlabpinkaaGreatDoor
open Go.RowKit
set_option linter.unusedVariables false
set_option maxRecDepth 100000

structure Op12 where
  k : Int
  z : Int
  a : Int
  m : Int
  ea : Int
  ek : Int
  em : Int

structure Op12.Fits (o : Op12) : Prop where
  a0 : 0 ≤ o.a
  a1 : o.a < 4294967296
  m0 : 0 ≤ o.m
  m1 : o.m < 4294967296
  e0 : 0 ≤ o.em
  e1 : o.em < 4294967296
  k0 : -9223372036854775808 ≤ o.k
  k1 : o.k ≤ 9223372036854775807
  z0 : -9223372036854775808 ≤ o.z
  z1 : o.z ≤ 9223372036854775807

def cellsO (o : Op12) : Array Value := #[.int .i64 o.k, .int .i64 o.z, .int .u32 o.a, .int .u32 o.m, .int .i64 o.ea, .int .i64 o.ek, .int .u32 o.em]

structure Res where
  X : Int
  E : Int
  v : Dv
  B : Nat → Nat
  D : Nat → Bool

end Go.Proofs.YthjcijlabpinkaaGreatDoor

/- Layer 12: the calls whose answers the document fixes are answered so. -/
namespace Go.Proofs.YthjcijlabpinkaaGreatDoor
open Go.RowKit
set_option linter.unusedVariables false
set_option maxRecDepth 100000

structure Own (w x : World) (b p g n c : Nat) (v : Dv) (B : Nat → Nat) (D : Nat → Bool) : Prop where
  bus : Bus x b p g n c v B D
  be : Below w.heap.size w x
  zb : w.heap.size ≤ b
  zp : w.heap.size ≤ p
  zg : w.heap.size ≤ g

theorem Own.next {w x y : World} {b p g n c : Nat} {v v' : Dv} {B B' : Nat → Nat} {D D' : Nat → Bool} (h : Own w x b p g n c v B D) (hB : Bus y b p g n c v' B' D') (k : Kept [b, g] x y) : Own w y b p g n c v' B' D' :=
  ⟨hB, Kept.below h.be k (Nat.le_refl _) (by intro i hi; simp at hi; rcases hi with rfl | rfl; exact h.zb; exact h.zg), h.zb, h.zp, h.zg⟩

theorem Own.on {w x y : World} {b p g n c : Nat} {v : Dv} {B : Nat → Nat} {D : Nat → Bool} (h : Own w x b p g n c v B D) (hb : Below x.heap.size x y) : Own w y b p g n c v B D :=
  ⟨h.bus.on hb, onto h.be (Nat.le_refl _) hb, h.zb, h.zp, h.zg⟩

theorem kept1 {b g : Nat} {x y : World} (h : Kept [b] x y) : Kept [b, g] x y := h.mono (by simp)

def F1 : Dv := (stA 4 V0 (fun _ => 0) (fun _ => false) 520093696 4 1).v
def F2 : Dv := tkV 4 F1 (fun _ => 0)
def F3 : Dv := fdV F2 0 65
def F4 : Dv := (ldA 4 F3 (fun _ => 0) 520093952 4).v
def F5 : Dv := (ldA 4 F4 (fun _ => 0) 520094464 4).v

end Go.Proofs.YthjcijlabpinkaaGreatDoor

/- Layer 12: what comes in is opened: a row of calls, a row of words. -/
namespace Go.Proofs.YthjcijlabpinkaaGreatDoor
open Go.ChangeShapes Go.WideShapes Go.ChangeAt Go.RowKit Go.Joins
set_option linter.unusedVariables false
set_option maxRecDepth 100000
set_option linter.unusedSimpArgs false

theorem own : ownKnob Tryz.prog.godebug = none := by kernel_rfl

theorem laidOut : laidOutB Tryz.prog = true := by kernel_rfl

def IsWords (w : World) (v : Value) (zs : List Int) : Prop :=
  (∃ a c, zs = [] ∧ v = .slice a 0 c) ∨ ∃ b off c, v = .slice (some ⟨b, off, none⟩) zs.length c ∧ zs.length ≤ maxLen ∧ b < w.heap.size ∧ ∀ (i : Nat) z, zs[i]? = some z → Dm.W32 z ∧ w.cell? ⟨b, off + i, none⟩ = some (.int .u32 z)

theorem IsWords.open' {w : World} {v : Value} {zs : List Int} (h : IsWords w v zs) :
    ∃ ad n c, v = .slice ad n c ∧ n = zs.length ∧ n ≤ maxLen ∧ ∀ (i : Nat) z, zs[i]? = some z → Dm.W32 z ∧ ∃ b off, ad = some ⟨b, off, none⟩ ∧ b < w.heap.size ∧ w.cell? ⟨b, off + i, none⟩ = some (.int .u32 z) := by
  rcases h with ⟨a, c, rfl, rfl⟩ | ⟨b, off, c, rfl, hl, hb, hx⟩
  · exact ⟨a, 0, c, rfl, rfl, Nat.zero_le _, fun i z h => by simp at h⟩
  · exact ⟨_, _, c, rfl, rfl, hl, fun i z h => ⟨(hx i z h).1, b, off, rfl, hb, (hx i z h).2⟩⟩

def Op12.At (o : Op12) (w : World) (b off : Nat) : Prop := ∀ j, j < 7 → w.cell? ⟨b, off + j, none⟩ = (cellsO o)[j]?

theorem Op12.At.keep {o : Op12} {w w' : World} {b off : Nat} (h : o.At w b off) (e : w'.heap[b]? = w.heap[b]?) : o.At w' b off := fun j hj => by
  rw [World.cell?_of_block (a := ⟨b, off + j, none⟩) e]; exact h j hj

def IsOps12 (w : World) (v : Value) (ops : List Op12) : Prop :=
  (∃ a c, ops = [] ∧ v = .slice a 0 c) ∨ ∃ b off c, v = .slice (some ⟨b, off, none⟩) ops.length c ∧ ops.length ≤ maxLen ∧ b < w.heap.size ∧ ∀ (i : Nat) (o : Op12), ops[i]? = some o → o.Fits ∧ o.At w b (off + i * 7)

theorem IsOps12.open' {w : World} {v : Value} {ops : List Op12} (h : IsOps12 w v ops) :
    ∃ ad n c, v = .slice ad n c ∧ n = ops.length ∧ n ≤ maxLen ∧ ∀ (i : Nat) o, ops[i]? = some o → o.Fits ∧ ∃ b off, ad = some ⟨b, off, none⟩ ∧ b < w.heap.size ∧ o.At w b (off + i * 7) := by
  rcases h with ⟨a, c, rfl, rfl⟩ | ⟨b, off, c, rfl, hl, hb, hx⟩
  · exact ⟨a, 0, c, rfl, rfl, Nat.zero_le _, fun i z h => by simp at h⟩
  · exact ⟨_, _, c, rfl, rfl, hl, fun i z h => ⟨(hx i z h).1, b, off, rfl, hb, (hx i z h).2⟩⟩

section
variable {H : Type} {enc : TypeId × Value → H} {w : World} {base : Nat} {spare : Nat → Bool} {held : Bool}

end

end Go.Proofs.YthjcijlabpinkaaGreatDoor

/- Layer 12: what the statements' walks share. -/
namespace Go.Proofs.YthjcijlabpinkaaGreatDoor
open Go.RowKit
set_option linter.unusedVariables false
set_option maxRecDepth 100000

theorem two_ways {k n m : Nat} (h : ¬ (k < n ∧ k < m)) : (decide ((k : Int) < (n : Int)) = true ∧ (k : Int) < (n : Int) ∧ decide ((k : Int) < (m : Int)) = false ∧ ¬ (k : Int) < (m : Int)) ∨ (decide ((k : Int) < (n : Int)) = false ∧ ¬ (k : Int) < (n : Int)) := by
  by_cases h1 : k < n
  · exact Or.inl ⟨by simp; omega, by omega, by simp; omega, by omega⟩
  · exact Or.inr ⟨by simp; omega, by omega⟩

theorem putB_at (B : Nat → Nat) (a s v i : Nat) (h : i < s) : putB B a s v (a + i) = byteOf v s i := by
  unfold putB
  rw [if_pos ⟨by omega, by omega⟩, show a + i - a = i by omega]

theorem num_put (B : Nat → Nat) (a v : Nat) (hv : v < 4294967296) : numOf (putB B a 4 v) a 4 = v := by
  simp only [numOf]
  rw [putB_at B a 4 v 0 (by omega), putB_at B a 4 v 1 (by omega), putB_at B a 4 v 2 (by omega), putB_at B a 4 v 3 (by omega)]
  simp [byteOf]
  omega

theorem num_far (B : Nat → Nat) (a x v : Nat) (h : x + 4 ≤ a ∨ a + 4 ≤ x) : numOf (putB B a 4 v) x 4 = numOf B x 4 := by
  have e : ∀ i, i < 4 → putB B a 4 v (x + i) = B (x + i) := fun i hi => by
    unfold putB
    exact if_neg (by omega)
  simp only [numOf]
  rw [e 0 (by omega), e 1 (by omega), e 2 (by omega), e 3 (by omega)]

end Go.Proofs.YthjcijlabpinkaaGreatDoor

/- Which bytes are the devices' state is as the document says; what is refused changes nothing. -/
namespace Go.Proofs.YthjcijlabpinkaaGreatDoor
open Go.RowKit
set_option linter.unusedVariables false
set_option maxRecDepth 100000

structure ROwn (w x : World) (b p gb gd n : Nat) (v : Dv) (B : Nat → Nat) (D : Nat → Bool) : Prop where
  bus : RBus x b p gb gd n v B D
  be : Below w.heap.size w x
  zb : w.heap.size ≤ b
  zp : w.heap.size ≤ p
  zgb : w.heap.size ≤ gb
  zgd : w.heap.size ≤ gd

theorem ROwn.on {w x y : World} {b p gb gd n : Nat} {v : Dv} {B : Nat → Nat} {D : Nat → Bool} (h : ROwn w x b p gb gd n v B D) (hb : Below x.heap.size x y) : ROwn w y b p gb gd n v B D :=
  ⟨h.bus.on hb, onto h.be (Nat.le_refl _) hb, h.zb, h.zp, h.zgb, h.zgd⟩

theorem ROwn.keep {w x y : World} {b p gb gd n : Nat} {v : Dv} {B : Nat → Nat} {D : Nat → Bool} {l : List Nat} (h : ROwn w x b p gb gd n v B D) (k : Kept l x y) (hl : ∀ i, i ∈ l → w.heap.size ≤ i) (hb : b ∉ l) (hp : p ∉ l) (h1 : gb ∉ l) (h2 : gd ∉ l) : ROwn w y b p gb gd n v B D :=
  ⟨h.bus.keep k hb hp h1 h2, Kept.below h.be k (Nat.le_refl _) hl, h.zb, h.zp, h.zgb, h.zgd⟩

theorem sets_same (s : ByteArray) (hm : s.size ≤ maxLen) (v : Dv) (hv : Wv v) : ∃ (q : Dv) (f : Int), Wv q ∧ (f = 0 ∧ devV q = s ∨ ¬ f = 0 ∧ q = v) ∧
    (∀ x b p g n c B D, Bus x b p g n c v B D → Calls Tryz.prog 44 #[.pointer (some ⟨b, 0, none⟩), .string s] x fun e y => e = .returned (.int .i64 f) ∧ Bus y b p g n c q B D ∧ Kept [b] x y) ∧
    (∀ x b p gb gd n B D, RBus x b p gb gd n v B D → Calls Tryz.prog 45 #[.pointer (some ⟨b, 0, none⟩), .string s] x fun e y => e = .returned (.int .i64 f) ∧ RBus y b p gb gd n q B D ∧ Kept [b] x y) := by
  by_cases h : 1066 ≤ s.size
  · obtain ⟨T, E1, Dd, E2, G, ok, U, E4, P⟩ := parts_of s h hm
    by_cases hg : E1 = 0 ∧ E2 = 0 ∧ ok = true ∧ E4 = 0
    · obtain ⟨h1, h2, h3, h4⟩ := hg
      have hd := P.yes h1 h2 h3 h4
      refine ⟨_, 0, hd.1, Or.inl ⟨rfl, hd.2⟩, fun x b p g n c B D hB => ?_, fun x b p gb gd n B D hB => ?_⟩
      · exact set_yes hB s _ hd.1 (fun y => parse_any h hm P _ true (Or.inl ⟨h1, h2, h3, h4, rfl, rfl⟩) y)
      · exact rset_any hB h hm P _ 0 (Or.inl ⟨h1, h2, h3, h4, rfl, rfl⟩)
    · refine ⟨v, 120, hv, Or.inr ⟨by decide, rfl⟩, fun x b p g n c B D hB => ?_, fun x b p gb gd n B D hB => ?_⟩
      · refine (set_no hB s (fun y => parse_any h hm P VZ false (Or.inr ⟨hg, rfl, rfl⟩) y)).mono ?_
        rintro e y ⟨rfl, b1⟩
        exact ⟨rfl, hB.on b1, Kept.of b1⟩
      · exact rset_any hB h hm P v 120 (Or.inr ⟨hg, rfl, rfl⟩)
  · refine ⟨v, 120, hv, Or.inr ⟨by decide, rfl⟩, fun x b p g n c B D hB => ?_, fun x b p gb gd n B D hB => ?_⟩
    · refine (set_no hB s (fun y => parse_short (by omega) y)).mono ?_
      rintro e y ⟨rfl, b1⟩
      exact ⟨rfl, hB.on b1, Kept.of b1⟩
    · refine (rset_short (by omega)).mono ?_
      rintro e y ⟨rfl, rfl⟩
      exact ⟨rfl, hB, Kept.refl _ _⟩

structure Side (w x : World) (b p g c b' p' gb gd n : Nat) (v : Dv) (B : Nat → Nat) (D : Nat → Bool) : Prop where
  o1 : Own w x b p g n c v B D
  o2 : ROwn w x b' p' gb gd n v B D
  n1 : b' ∉ [b, g] ∧ p' ∉ [b, g] ∧ gb ∉ [b, g] ∧ gd ∉ [b, g]
  n2 : b ∉ [b', p', gb, gd] ∧ p ∉ [b', p', gb, gd] ∧ g ∉ [b', p', gb, gd]

theorem Side.on {w x y : World} {b p g c b' p' gb gd n : Nat} {v : Dv} {B : Nat → Nat} {D : Nat → Bool} (h : Side w x b p g c b' p' gb gd n v B D) (hb : Below x.heap.size x y) : Side w y b p g c b' p' gb gd n v B D :=
  ⟨h.o1.on hb, h.o2.on hb, h.n1, h.n2⟩

theorem Side.both {w x y z : World} {b p g c b' p' gb gd n : Nat} {v v' : Dv} {B B' : Nat → Nat} {D D' : Nat → Bool} (h : Side w x b p g c b' p' gb gd n v B D) (h1 : Bus y b p g n c v' B' D') (k1 : Kept [b, g] x y)
    (h2 : RBus z b' p' gb gd n v' B' D') (k2 : Kept [b', p', gb, gd] y z) : Side w z b p g c b' p' gb gd n v' B' D' := by
  have hl1 : ∀ i, i ∈ [b, g] → w.heap.size ≤ i := by intro i hi; simp at hi; rcases hi with rfl | rfl; exact h.o1.zb; exact h.o1.zg
  have hl2 : ∀ i, i ∈ [b', p', gb, gd] → w.heap.size ≤ i := by intro i hi; simp at hi; rcases hi with rfl | rfl | rfl | rfl; exact h.o2.zb; exact h.o2.zp; exact h.o2.zgb; exact h.o2.zgd
  have be1 := Kept.below h.o1.be k1 (Nat.le_refl _) hl1
  have be2 := Kept.below be1 k2 (Nat.le_refl _) hl2
  exact ⟨⟨h1.keep k2 h.n2.1 h.n2.2.1 h.n2.2.2, be2, h.o1.zb, h.o1.zp, h.o1.zg⟩, ⟨h2, be2, h.o2.zb, h.o2.zp, h.o2.zgb, h.o2.zgd⟩, h.n1, h.n2⟩

theorem Side.mid {w x y : World} {b p g c b' p' gb gd n : Nat} {v : Dv} {B : Nat → Nat} {D : Nat → Bool} (h : Side w x b p g c b' p' gb gd n v B D) (k1 : Kept [b, g] x y) : RBus y b' p' gb gd n v B D :=
  h.o2.bus.keep k1 h.n1.1 h.n1.2.1 h.n1.2.2.1 h.n1.2.2.2

theorem Side.made {w x y : World} {b p g c b' p' gb gd n : Nat} {v : Dv} {B : Nat → Nat} {D : Nat → Bool} (h : Own w x b p g n c v B D) (h2 : RBus y b' p' gb gd n v B D) (zb : x.heap.size ≤ b') (zp : x.heap.size ≤ p') (zgb : x.heap.size ≤ gb) (zgd : x.heap.size ≤ gd) (be : Below x.heap.size x y) :
    Side w y b p g c b' p' gb gd n v B D := by
  have l1 := h.bus.lt
  have l2 := h.bus.m.zp
  have l3 := h.bus.m.zg
  have l4 := h.be.size
  refine ⟨h.on be, ⟨h2, onto h.be (Nat.le_refl _) be, by omega, by omega, by omega, by omega⟩, ⟨?_, ?_, ?_, ?_⟩, ⟨?_, ?_, ?_⟩⟩
  all_goals (simp; omega)

end Go.Proofs.YthjcijlabpinkaaGreatDoor
