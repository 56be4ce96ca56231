/- Layer 12: a call of a script on a bus, the program's. -/
import Derived.Test.YthjcijlabpinkaaGreatDoorQBuOne
import Derived.Test.YthjcijlabpinkaaGreatDoorQBuDev
import Derived.Test.YthjcijlabpinkaaGreatDoorQBuNew
import Derived.ProofKit
import Derived.OpenShut
import Derived.ShutString
import Derived.ChangeOld
import Derived.Deep.Slices
import Derived.Carry
import Derived.Lib.SmallJoins
import Derived.Deep.CutRange
import Derived.Test.YthjcijlabpinkaaGreatDoorQBuRSet
import Derived.Test.YthjcijlabpinkaaGreatDoorQBuRNew
import Derived.Test.YthjcijlabpinkaaGreatDoorQBuRDevs
namespace Go.Proofs.YthjcijlabpinkaaGreatDoor
open Go.RowKit
set_option linter.unusedVariables false
set_option maxRecDepth 100000

/-- A call of a script: its kind, a size, an address, a number, an event. -/
structure Op12 where
  k : Int
  z : Int
  a : Int
  m : Int
  ea : Int
  ek : Int
  em : Int

/-- Its numbers may be. -/
structure Op12.Fits (o : Op12) : Prop where
  a0 : 0 ≤ o.a
  a1 : o.a < 4294967296
  m0 : 0 ≤ o.m
  m1 : o.m < 4294967296
  e0 : 0 ≤ o.em
  e1 : o.em < 4294967296
  k0 : -9223372036854775808 ≤ o.k
  k1 : o.k ≤ 9223372036854775807
  z0 : -9223372036854775808 ≤ o.z
  z1 : o.z ≤ 9223372036854775807

def cellsO (o : Op12) : Array Value := #[.int .i64 o.k, .int .i64 o.z, .int .u32 o.a, .int .u32 o.m, .int .i64 o.ea, .int .i64 o.ek, .int .u32 o.em]

/-- What a call answers and makes of a bus. -/
structure Res where
  X : Int
  E : Int
  v : Dv
  B : Nat → Nat
  D : Nat → Bool

def clA (n : Nat) (v : Dv) (B : Nat → Nat) (D : Nat → Bool) (o : Op12) : Res :=
  if o.k = 0 then ⟨(ldA n v B o.a o.z).X, (ldA n v B o.a o.z).E, (ldA n v B o.a o.z).v, B, D⟩
  else if o.k = 1 then ⟨0, (stA n v B D o.a o.z o.m).E, (stA n v B D o.a o.z o.m).v, (stA n v B D o.a o.z o.m).B, (stA n v B D o.a o.z o.m).D⟩
  else if o.k = 3 then ⟨linesV (tkV n v B), 0, tkV n v B, tkB n v B, tkD n v D⟩
  else if o.k = 4 then ⟨0, fdE o.ek, fdV v o.ek o.em, B, D⟩
  else ⟨0, 0, v, B, D⟩

/-- The marks make no difference. -/
theorem stA_D (n : Nat) (v : Dv) (B : Nat → Nat) (D D' : Nat → Bool) (a s m : Int) : (stA n v B D a s m).E = (stA n v B D' a s m).E ∧ (stA n v B D a s m).v = (stA n v B D' a s m).v ∧ (stA n v B D a s m).B = (stA n v B D' a s m).B := by
  unfold stA wrA finW
  repeat' split
  all_goals exact ⟨rfl, rfl, rfl⟩

theorem clA_D (n : Nat) (v : Dv) (B : Nat → Nat) (D D' : Nat → Bool) (o : Op12) : (clA n v B D o).X = (clA n v B D' o).X ∧ (clA n v B D o).E = (clA n v B D' o).E ∧ (clA n v B D o).v = (clA n v B D' o).v ∧ (clA n v B D o).B = (clA n v B D' o).B := by
  unfold clA
  repeat' split
  · exact ⟨rfl, rfl, rfl, rfl⟩
  · obtain ⟨h1, h2, h3⟩ := stA_D n v B D D' o.a o.z o.m
    exact ⟨rfl, h1, h2, h3⟩
  · exact ⟨rfl, rfl, rfl, rfl⟩
  · exact ⟨rfl, rfl, rfl, rfl⟩
  · exact ⟨rfl, rfl, rfl, rfl⟩

theorem clA_w {n : Nat} {v : Dv} (hv : Wv v) (B : Nat → Nat) (D : Nat → Bool) (o : Op12) (ho : o.Fits) : Wv (clA n v B D o).v ∧ (¬ (clA n v B D o).E = 0 → (clA n v B D o).X = 0 ∧ (clA n v B D o).v = v ∧ (clA n v B D o).B = B) := by
  unfold clA
  repeat' split
  · obtain ⟨h1, h2⟩ := ldA_w (n := n) hv B o.a o.z
    exact ⟨h1, fun h => ⟨(h2 h).1, (h2 h).2, rfl⟩⟩
  · obtain ⟨h1, h2⟩ := stA_w (n := n) hv B D o.a o.z o.m ho.m0 ho.m1
    exact ⟨h1, fun h => ⟨rfl, (h2 h).1, (h2 h).2⟩⟩
  · exact ⟨tkV_w hv, fun h => absurd rfl h⟩
  · obtain ⟨h1, h2⟩ := fdV_w hv o.ek o.em
    exact ⟨h1, fun h => ⟨rfl, h2 h, rfl⟩⟩
  · exact ⟨hv, fun h => absurd rfl h⟩

end Go.Proofs.YthjcijlabpinkaaGreatDoor

/- Layer 12: the calls whose answers the document fixes are answered so. -/
namespace Go.Proofs.YthjcijlabpinkaaGreatDoor
open Go.RowKit
set_option linter.unusedVariables false
set_option maxRecDepth 100000

/-- A bus that is the call's own. -/
structure Own (w x : World) (b p g n c : Nat) (v : Dv) (B : Nat → Nat) (D : Nat → Bool) : Prop where
  bus : Bus x b p g n c v B D
  be : Below w.heap.size w x
  zb : w.heap.size ≤ b
  zp : w.heap.size ≤ p
  zg : w.heap.size ≤ g

theorem Own.next {w x y : World} {b p g n c : Nat} {v v' : Dv} {B B' : Nat → Nat} {D D' : Nat → Bool} (h : Own w x b p g n c v B D) (hB : Bus y b p g n c v' B' D') (k : Kept [b, g] x y) : Own w y b p g n c v' B' D' :=
  ⟨hB, Kept.below h.be k (Nat.le_refl _) (by intro i hi; simp at hi; rcases hi with rfl | rfl; exact h.zb; exact h.zg), h.zb, h.zp, h.zg⟩

theorem Own.on {w x y : World} {b p g n c : Nat} {v : Dv} {B : Nat → Nat} {D : Nat → Bool} (h : Own w x b p g n c v B D) (hb : Below x.heap.size x y) : Own w y b p g n c v B D :=
  ⟨h.bus.on hb, onto h.be (Nat.le_refl _) hb, h.zb, h.zp, h.zg⟩

theorem kept1 {b g : Nat} {x y : World} (h : Kept [b] x y) : Kept [b, g] x y := h.mono (by simp)

/-- The states on the way. -/
def F1 : Dv := (stA 4 V0 (fun _ => 0) (fun _ => false) 520093696 4 1).v
def F2 : Dv := tkV 4 F1 (fun _ => 0)
def F3 : Dv := fdV F2 0 65
def F4 : Dv := (ldA 4 F3 (fun _ => 0) 520093952 4).v
def F5 : Dv := (ldA 4 F4 (fun _ => 0) 520094464 4).v

theorem fx1 : (stA 4 V0 (fun _ => 0) (fun _ => false) 520093696 4 1).E = 0 ∧ (stA 4 V0 (fun _ => 0) (fun _ => false) 520093696 4 1).B = (fun _ => 0) ∧ (stA 4 V0 (fun _ => 0) (fun _ => false) 520093696 4 1).D = (fun _ => false) := ⟨rfl, rfl, rfl⟩
theorem fx2 : linesV F2 = 1 ∧ tkB 4 F1 (fun _ => 0) = (fun _ => 0) ∧ tkD 4 F1 (fun _ => false) = (fun _ => false) := by
  refine ⟨by decide +kernel, ?_, ?_⟩
  · exact (move_0 4 _ _ _ (fun _ => false)).2.1
  · exact (move_0 4 _ _ (fun _ => 0) _).2.2
theorem fx4 : (ldA 4 F3 (fun _ => 0) 520093952 4).X = 65 ∧ (ldA 4 F3 (fun _ => 0) 520093952 4).E = 0 := ⟨by decide +kernel, by decide +kernel⟩
theorem fx5 : (ldA 4 F4 (fun _ => 0) 520094464 4).X = 444936249 ∧ (ldA 4 F4 (fun _ => 0) 520094464 4).E = 0 := ⟨by decide +kernel, by decide +kernel⟩
theorem fx6 : (ldA 4 F5 (fun _ => 0) 520094468 4).E = 121 ∧ (ldA 4 F5 (fun _ => 0) 520094468 4).v = F5 := ⟨rfl, rfl⟩
theorem fx7 : (ldA 4 F5 (fun _ => 0) 2147483648 4).E = 121 ∧ (ldA 4 F5 (fun _ => 0) 2147483648 4).v = F5 := ⟨by decide +kernel, rfl⟩
theorem fx8 : memX 4 (fun _ => 0) 0 4 = 0 ∧ decide (mayI 4 0 4) = true := ⟨by decide +kernel, by decide +kernel⟩
theorem fx9 : F5.u.i.size = 0 ∧ F5.u.o.size = 0 := ⟨by decide +kernel, by decide +kernel⟩

end Go.Proofs.YthjcijlabpinkaaGreatDoor

/- Layer 12: what comes in is opened: a row of calls, a row of words. -/
namespace Go.Proofs.YthjcijlabpinkaaGreatDoor
open Go.ChangeShapes Go.WideShapes Go.ChangeAt Go.RowKit Go.Joins
set_option linter.unusedVariables false
set_option maxRecDepth 100000
set_option linter.unusedSimpArgs false

theorem own : ownKnob Tryz.prog.godebug = none := by kernel_rfl

theorem laidOut : laidOutB Tryz.prog = true := by kernel_rfl

theorem wf_u32 {n : Int} (h : (Lit.int .u32 n).wf = true) : Dm.W32 n := by
  simp [Lit.wf, IntKind.min, IntKind.max, IntKind.signed, IntKind.bits] at h
  exact ⟨h.1, by omega⟩

theorem wf_i64 {n : Int} (h : (Lit.int .i64 n).wf = true) : -9223372036854775808 ≤ n ∧ n ≤ 9223372036854775807 := by
  simp [Lit.wf, IntKind.min, IntKind.max, IntKind.signed, IntKind.bits] at h
  exact ⟨h.1, by omega⟩

/-- A row of words that came in. -/
def IsWords (w : World) (v : Value) (zs : List Int) : Prop :=
  (∃ a c, zs = [] ∧ v = .slice a 0 c) ∨ ∃ b off c, v = .slice (some ⟨b, off, none⟩) zs.length c ∧ zs.length ≤ maxLen ∧ b < w.heap.size ∧ ∀ (i : Nat) z, zs[i]? = some z → Dm.W32 z ∧ w.cell? ⟨b, off + i, none⟩ = some (.int .u32 z)

/-- What is known of a row of words, in one way for all of them. -/
theorem IsWords.open' {w : World} {v : Value} {zs : List Int} (h : IsWords w v zs) :
    ∃ ad n c, v = .slice ad n c ∧ n = zs.length ∧ n ≤ maxLen ∧ ∀ (i : Nat) z, zs[i]? = some z → Dm.W32 z ∧ ∃ b off, ad = some ⟨b, off, none⟩ ∧ b < w.heap.size ∧ w.cell? ⟨b, off + i, none⟩ = some (.int .u32 z) := by
  rcases h with ⟨a, c, rfl, rfl⟩ | ⟨b, off, c, rfl, hl, hb, hx⟩
  · exact ⟨a, 0, c, rfl, rfl, Nat.zero_le _, fun i z h => by simp at h⟩
  · exact ⟨_, _, c, rfl, rfl, hl, fun i z h => ⟨(hx i z h).1, b, off, rfl, hb, (hx i z h).2⟩⟩

/-- Where a call of a script lies. -/
def Op12.At (o : Op12) (w : World) (b off : Nat) : Prop := ∀ j, j < 7 → w.cell? ⟨b, off + j, none⟩ = (cellsO o)[j]?

theorem Op12.At.keep {o : Op12} {w w' : World} {b off : Nat} (h : o.At w b off) (e : w'.heap[b]? = w.heap[b]?) : o.At w' b off := fun j hj => by
  rw [World.cell?_of_block (a := ⟨b, off + j, none⟩) e]; exact h j hj

theorem Op12.At.seven {o : Op12} {w : World} {b off : Nat} (h : o.At w b off) :
    w.cell? ⟨b, off, none⟩ = some (.int .i64 o.k) ∧ w.cell? ⟨b, off + 1, none⟩ = some (.int .i64 o.z) ∧ w.cell? ⟨b, off + 2, none⟩ = some (.int .u32 o.a) ∧ w.cell? ⟨b, off + 3, none⟩ = some (.int .u32 o.m) ∧
      w.cell? ⟨b, off + 4, none⟩ = some (.int .i64 o.ea) ∧ w.cell? ⟨b, off + 5, none⟩ = some (.int .i64 o.ek) ∧ w.cell? ⟨b, off + 6, none⟩ = some (.int .u32 o.em) :=
  ⟨h 0 (by decide), h 1 (by decide), h 2 (by decide), h 3 (by decide), h 4 (by decide), h 5 (by decide), h 6 (by decide)⟩

/-- A row of calls that came in. -/
def IsOps12 (w : World) (v : Value) (ops : List Op12) : Prop :=
  (∃ a c, ops = [] ∧ v = .slice a 0 c) ∨ ∃ b off c, v = .slice (some ⟨b, off, none⟩) ops.length c ∧ ops.length ≤ maxLen ∧ b < w.heap.size ∧ ∀ (i : Nat) (o : Op12), ops[i]? = some o → o.Fits ∧ o.At w b (off + i * 7)

theorem IsOps12.open' {w : World} {v : Value} {ops : List Op12} (h : IsOps12 w v ops) :
    ∃ ad n c, v = .slice ad n c ∧ n = ops.length ∧ n ≤ maxLen ∧ ∀ (i : Nat) o, ops[i]? = some o → o.Fits ∧ ∃ b off, ad = some ⟨b, off, none⟩ ∧ b < w.heap.size ∧ o.At w b (off + i * 7) := by
  rcases h with ⟨a, c, rfl, rfl⟩ | ⟨b, off, c, rfl, hl, hb, hx⟩
  · exact ⟨a, 0, c, rfl, rfl, Nat.zero_le _, fun i z h => by simp at h⟩
  · exact ⟨_, _, c, rfl, rfl, hl, fun i z h => ⟨(hx i z h).1, b, off, rfl, hb, (hx i z h).2⟩⟩

section
variable {H : Type} {enc : TypeId × Value → H} {w : World} {base : Nat} {spare : Nat → Bool} {held : Bool}

theorem open_words {r : Reach} {b0 : Nat} {v : Value} {x : DataW H} {p : List MemPlace}
    (hv : Value.okWide Tryz.prog w r b0 38 v) (h : DataW.Trod enc Tryz.prog w base spare held 38 v x p) : ∃ zs, IsWords w v zs := by
  obtain ⟨a, len, cap, rfl⟩ := okWide_slice Tryz.underlying38 hv
  obtain ⟨fuel, hf⟩ := h
  rcases open_ints Tryz.underlying38 Tryz.underlying22 (by kernel_rfl) hf with ⟨hcs, _⟩ | ⟨y, l, c, zs, hcs, _, hl, hm, hz, _, hcell, hwz⟩
  · simp [Value.cells] at hcs
    obtain ⟨rfl, rfl, rfl⟩ := hcs
    exact ⟨[], Or.inl ⟨_, _, rfl, rfl⟩⟩
  · simp [Value.cells] at hcs
    obtain ⟨rfl, rfl, rfl⟩ := hcs
    have hle : len ≤ zs.length := by rw [hz]; split <;> omega
    by_cases h0 : len = 0
    · subst h0
      exact ⟨[], Or.inl ⟨_, _, rfl, rfl⟩⟩
    · obtain ⟨b, off, spot⟩ := y
      have hs : spot = none := by simpa [Addr.add] using World.cell?_spot (hcell 0 (by omega))
      subst hs
      refine ⟨zs.take len, Or.inr ⟨b, off, cap, ?_, ?_, ?_, ?_⟩⟩
      · rw [List.length_take, Nat.min_eq_left hle]
      · rw [List.length_take, Nat.min_eq_left hle]; omega
      · have := World.block_lt_of_cell? _ _ (hcell 0 (by omega))
        exact this
      · intro i z hi
        have hil : i < len := by
          have := (List.getElem?_eq_some_iff.1 hi).1
          rw [List.length_take] at this
          omega
        rw [List.getElem?_take_of_lt hil] at hi
        have hc := hcell i (by omega)
        rw [Addr.add_lit, List.getD_eq_getElem?_getD, hi] at hc
        exact ⟨wf_u32 (hwz z (List.mem_of_getElem? hi)), hc⟩

end

end Go.Proofs.YthjcijlabpinkaaGreatDoor

/- Layer 12: what the statements' walks share. -/
namespace Go.Proofs.YthjcijlabpinkaaGreatDoor
open Go.RowKit
set_option linter.unusedVariables false
set_option maxRecDepth 100000

theorem two_ways {k n m : Nat} (h : ¬ (k < n ∧ k < m)) : (decide ((k : Int) < (n : Int)) = true ∧ (k : Int) < (n : Int) ∧ decide ((k : Int) < (m : Int)) = false ∧ ¬ (k : Int) < (m : Int)) ∨ (decide ((k : Int) < (n : Int)) = false ∧ ¬ (k : Int) < (n : Int)) := by
  by_cases h1 : k < n
  · exact Or.inl ⟨by simp; omega, by omega, by simp; omega, by omega⟩
  · exact Or.inr ⟨by simp; omega, by omega⟩

theorem and63 (n : Int) : bits .and .i64 n 63 = n % 64 := by
  have e : (BitVec.ofInt 64 n &&& BitVec.ofInt 64 63).toNat = (n % 18446744073709551616).toNat % 64 := by
    rw [BitVec.toNat_and, BitVec.toNat_ofInt, BitVec.toNat_ofInt]
    have := Nat.and_two_pow_sub_one_eq_mod (n % 18446744073709551616).toNat 6
    exact this
  show IntKind.i64.wrap ((BitVec.ofInt 64 n &&& BitVec.ofInt 64 63).toNat : Int) = n % 64
  rw [e]
  simp [IntKind.wrap, IntKind.bits, IntKind.signed]
  omega

theorem and127 (n : Int) : bits .and .i64 n 127 = n % 128 := by
  have e : (BitVec.ofInt 64 n &&& BitVec.ofInt 64 127).toNat = (n % 18446744073709551616).toNat % 128 := by
    rw [BitVec.toNat_and, BitVec.toNat_ofInt, BitVec.toNat_ofInt]
    have := Nat.and_two_pow_sub_one_eq_mod (n % 18446744073709551616).toNat 7
    exact this
  show IntKind.i64.wrap ((BitVec.ofInt 64 n &&& BitVec.ofInt 64 127).toNat : Int) = n % 128
  rw [e]
  simp [IntKind.wrap, IntKind.bits, IntKind.signed]
  omega

theorem and15 (v : Int) (h0 : 0 ≤ v) (h1 : v < 4294967296) : bits .and .u32 v 15 = v % 16 := by
  rw [u32_and v 15 h0 (by omega) (by omega) (by omega)]
  have := Nat.and_two_pow_sub_one_eq_mod v.toNat 4
  rw [show (15 : Int).toNat = 2 ^ 4 - 1 from rfl, this]
  omega

theorem putB_at (B : Nat → Nat) (a s v i : Nat) (h : i < s) : putB B a s v (a + i) = byteOf v s i := by
  unfold putB
  rw [if_pos ⟨by omega, by omega⟩, show a + i - a = i by omega]

theorem num_put (B : Nat → Nat) (a v : Nat) (hv : v < 4294967296) : numOf (putB B a 4 v) a 4 = v := by
  simp only [numOf]
  rw [putB_at B a 4 v 0 (by omega), putB_at B a 4 v 1 (by omega), putB_at B a 4 v 2 (by omega), putB_at B a 4 v 3 (by omega)]
  simp [byteOf]
  omega

theorem num_far (B : Nat → Nat) (a x v : Nat) (h : x + 4 ≤ a ∨ a + 4 ≤ x) : numOf (putB B a 4 v) x 4 = numOf B x 4 := by
  have e : ∀ i, i < 4 → putB B a 4 v (x + i) = B (x + i) := fun i hi => by
    unfold putB
    exact if_neg (by omega)
  simp only [numOf]
  rw [e 0 (by omega), e 1 (by omega), e 2 (by omega), e 3 (by omega)]

end Go.Proofs.YthjcijlabpinkaaGreatDoor

/- Which bytes are the devices' state is as the document says; what is refused changes nothing. -/
namespace Go.Proofs.YthjcijlabpinkaaGreatDoor
open Go.RowKit
set_option linter.unusedVariables false
set_option maxRecDepth 100000

/-- The document's bus, the call's own. -/
structure ROwn (w x : World) (b p gb gd n : Nat) (v : Dv) (B : Nat → Nat) (D : Nat → Bool) : Prop where
  bus : RBus x b p gb gd n v B D
  be : Below w.heap.size w x
  zb : w.heap.size ≤ b
  zp : w.heap.size ≤ p
  zgb : w.heap.size ≤ gb
  zgd : w.heap.size ≤ gd

theorem ROwn.on {w x y : World} {b p gb gd n : Nat} {v : Dv} {B : Nat → Nat} {D : Nat → Bool} (h : ROwn w x b p gb gd n v B D) (hb : Below x.heap.size x y) : ROwn w y b p gb gd n v B D :=
  ⟨h.bus.on hb, onto h.be (Nat.le_refl _) hb, h.zb, h.zp, h.zgb, h.zgd⟩

theorem ROwn.keep {w x y : World} {b p gb gd n : Nat} {v : Dv} {B : Nat → Nat} {D : Nat → Bool} {l : List Nat} (h : ROwn w x b p gb gd n v B D) (k : Kept l x y) (hl : ∀ i, i ∈ l → w.heap.size ≤ i) (hb : b ∉ l) (hp : p ∉ l) (h1 : gb ∉ l) (h2 : gd ∉ l) : ROwn w y b p gb gd n v B D :=
  ⟨h.bus.keep k hb hp h1 h2, Kept.below h.be k (Nat.le_refl _) hl, h.zb, h.zp, h.zgb, h.zgd⟩

/-- What the program and the document make of any bytes: the same. -/
theorem sets_same (s : ByteArray) (hm : s.size ≤ maxLen) (v : Dv) (hv : Wv v) : ∃ (q : Dv) (f : Int), Wv q ∧ (f = 0 ∧ devV q = s ∨ ¬ f = 0 ∧ q = v) ∧
    (∀ x b p g n c B D, Bus x b p g n c v B D → Calls Tryz.prog 44 #[.pointer (some ⟨b, 0, none⟩), .string s] x fun e y => e = .returned (.int .i64 f) ∧ Bus y b p g n c q B D ∧ Kept [b] x y) ∧
    (∀ x b p gb gd n B D, RBus x b p gb gd n v B D → Calls Tryz.prog 45 #[.pointer (some ⟨b, 0, none⟩), .string s] x fun e y => e = .returned (.int .i64 f) ∧ RBus y b p gb gd n q B D ∧ Kept [b] x y) := by
  by_cases h : 1066 ≤ s.size
  · obtain ⟨T, E1, Dd, E2, G, ok, U, E4, P⟩ := parts_of s h hm
    by_cases hg : E1 = 0 ∧ E2 = 0 ∧ ok = true ∧ E4 = 0
    · obtain ⟨h1, h2, h3, h4⟩ := hg
      have hd := P.yes h1 h2 h3 h4
      refine ⟨_, 0, hd.1, Or.inl ⟨rfl, hd.2⟩, fun x b p g n c B D hB => ?_, fun x b p gb gd n B D hB => ?_⟩
      · exact set_yes hB s _ hd.1 (fun y => parse_any h hm P _ true (Or.inl ⟨h1, h2, h3, h4, rfl, rfl⟩) y)
      · exact rset_any hB h hm P _ 0 (Or.inl ⟨h1, h2, h3, h4, rfl, rfl⟩)
    · refine ⟨v, 120, hv, Or.inr ⟨by decide, rfl⟩, fun x b p g n c B D hB => ?_, fun x b p gb gd n B D hB => ?_⟩
      · refine (set_no hB s (fun y => parse_any h hm P VZ false (Or.inr ⟨hg, rfl, rfl⟩) y)).mono ?_
        rintro e y ⟨rfl, b1⟩
        exact ⟨rfl, hB.on b1, Kept.of b1⟩
      · exact rset_any hB h hm P v 120 (Or.inr ⟨hg, rfl, rfl⟩)
  · refine ⟨v, 120, hv, Or.inr ⟨by decide, rfl⟩, fun x b p g n c B D hB => ?_, fun x b p gb gd n B D hB => ?_⟩
    · refine (set_no hB s (fun y => parse_short (by omega) y)).mono ?_
      rintro e y ⟨rfl, b1⟩
      exact ⟨rfl, hB.on b1, Kept.of b1⟩
    · refine (rset_short (by omega)).mono ?_
      rintro e y ⟨rfl, rfl⟩
      exact ⟨rfl, hB, Kept.refl _ _⟩

/-- The program's bus and the document's side by side. -/
structure Side (w x : World) (b p g c b' p' gb gd n : Nat) (v : Dv) (B : Nat → Nat) (D : Nat → Bool) : Prop where
  o1 : Own w x b p g n c v B D
  o2 : ROwn w x b' p' gb gd n v B D
  n1 : b' ∉ [b, g] ∧ p' ∉ [b, g] ∧ gb ∉ [b, g] ∧ gd ∉ [b, g]
  n2 : b ∉ [b', p', gb, gd] ∧ p ∉ [b', p', gb, gd] ∧ g ∉ [b', p', gb, gd]

theorem Side.on {w x y : World} {b p g c b' p' gb gd n : Nat} {v : Dv} {B : Nat → Nat} {D : Nat → Bool} (h : Side w x b p g c b' p' gb gd n v B D) (hb : Below x.heap.size x y) : Side w y b p g c b' p' gb gd n v B D :=
  ⟨h.o1.on hb, h.o2.on hb, h.n1, h.n2⟩

/-- The program's call, then the document's. -/
theorem Side.both {w x y z : World} {b p g c b' p' gb gd n : Nat} {v v' : Dv} {B B' : Nat → Nat} {D D' : Nat → Bool} (h : Side w x b p g c b' p' gb gd n v B D) (h1 : Bus y b p g n c v' B' D') (k1 : Kept [b, g] x y)
    (h2 : RBus z b' p' gb gd n v' B' D') (k2 : Kept [b', p', gb, gd] y z) : Side w z b p g c b' p' gb gd n v' B' D' := by
  have hl1 : ∀ i, i ∈ [b, g] → w.heap.size ≤ i := by intro i hi; simp at hi; rcases hi with rfl | rfl; exact h.o1.zb; exact h.o1.zg
  have hl2 : ∀ i, i ∈ [b', p', gb, gd] → w.heap.size ≤ i := by intro i hi; simp at hi; rcases hi with rfl | rfl | rfl | rfl; exact h.o2.zb; exact h.o2.zp; exact h.o2.zgb; exact h.o2.zgd
  have be1 := Kept.below h.o1.be k1 (Nat.le_refl _) hl1
  have be2 := Kept.below be1 k2 (Nat.le_refl _) hl2
  exact ⟨⟨h1.keep k2 h.n2.1 h.n2.2.1 h.n2.2.2, be2, h.o1.zb, h.o1.zp, h.o1.zg⟩, ⟨h2, be2, h.o2.zb, h.o2.zp, h.o2.zgb, h.o2.zgd⟩, h.n1, h.n2⟩

/-- The document's bus behind the program's call. -/
theorem Side.mid {w x y : World} {b p g c b' p' gb gd n : Nat} {v : Dv} {B : Nat → Nat} {D : Nat → Bool} (h : Side w x b p g c b' p' gb gd n v B D) (k1 : Kept [b, g] x y) : RBus y b' p' gb gd n v B D :=
  h.o2.bus.keep k1 h.n1.1 h.n1.2.1 h.n1.2.2.1 h.n1.2.2.2

theorem Side.made {w x y : World} {b p g c b' p' gb gd n : Nat} {v : Dv} {B : Nat → Nat} {D : Nat → Bool} (h : Own w x b p g n c v B D) (h2 : RBus y b' p' gb gd n v B D) (zb : x.heap.size ≤ b') (zp : x.heap.size ≤ p') (zgb : x.heap.size ≤ gb) (zgd : x.heap.size ≤ gd) (be : Below x.heap.size x y) :
    Side w y b p g c b' p' gb gd n v B D := by
  have l1 := h.bus.lt
  have l2 := h.bus.m.zp
  have l3 := h.bus.m.zg
  have l4 := h.be.size
  refine ⟨h.on be, ⟨h2, onto h.be (Nat.le_refl _) be, by omega, by omega, by omega, by omega⟩, ⟨?_, ?_, ?_, ?_⟩, ⟨?_, ?_, ?_⟩⟩
  all_goals (simp; omega)

end Go.Proofs.YthjcijlabpinkaaGreatDoor
