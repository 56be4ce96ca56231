/- Layer 8: words of 32 bits, bit by bit, over whole numbers. -/
import Derived.Laws.BitsAllLaws
import Derived.WalkKit
import Derived.RowKit3
import Derived.Test.YtmegghgjllbamaaGreatDoorQWholeAt
import Derived.ChangeKeysEq
namespace Go.Proofs.YtmegghgjllbamaaGreatDoor.Cp
open Go
set_option linter.unusedVariables false
set_option maxRecDepth 100000

/-- A word. -/
def W32 (a : Int) : Prop := 0 ≤ a ∧ a < 4294967296

/-- A bit of a word. -/
def bit (a : Int) (n : Nat) : Bool := a.toNat.testBit n

theorem bit_out {a : Int} (h : W32 a) (i : Nat) (hi : 32 ≤ i) : bit a i = false := by
  unfold bit
  apply Nat.testBit_lt_two_pow
  have : (2 : Nat) ^ 32 ≤ 2 ^ i := Nat.pow_le_pow_right (by omega) hi
  have := h.2
  omega

theorem bit_ext {a b : Int} (ha : W32 a) (hb : W32 b) (h : ∀ i, i < 32 → bit a i = bit b i) : a = b := by
  have e : a.toNat = b.toNat := Nat.eq_of_testBit_eq fun i => by
    by_cases hi : i < 32
    · exact h i hi
    · exact (bit_out ha i (by omega)).trans (bit_out hb i (by omega)).symm
  have := ha.1
  have := hb.1
  omega

/-- A word with the bits of B taken from v. -/
def mixV (w v B : Int) : Int := (((w.toNat &&& (4294967295 - B.toNat)) ||| (v.toNat &&& B.toNat) : Nat) : Int)

theorem not_lt (B : Int) : 4294967295 - B.toNat < 2 ^ 32 := by omega

theorem mix_w {w v B : Int} (hB : W32 B) : W32 (mixV w v B) := by
  unfold mixV
  have h1 : w.toNat &&& (4294967295 - B.toNat) < 2 ^ 32 := Nat.and_lt_two_pow _ (not_lt B)
  have h2 : v.toNat &&& B.toNat < 2 ^ 32 := Nat.and_lt_two_pow _ (by have := hB.2; omega)
  have h3 := Nat.or_lt_two_pow h1 h2
  constructor <;> omega

theorem bit_mix {w v B : Int} (hB : W32 B) (i : Nat) (hi : i < 32) : bit (mixV w v B) i = if bit B i then bit v i else bit w i := by
  unfold bit mixV
  have e : 4294967295 - B.toNat = 2 ^ 32 - (B.toNat + 1) := by omega
  rw [Int.toNat_natCast, Nat.testBit_or, Nat.testBit_and, Nat.testBit_and, e, Nat.testBit_two_pow_sub_succ (by have := hB.2; omega)]
  simp only [hi, decide_true, Bool.true_and]
  cases B.toNat.testBit i <;> simp

theorem and_of {w v B : Int} (hw : W32 w) (hv : W32 v) (hB : W32 B) : bits .or .u32 (bits .andNot .u32 w B) (bits .and .u32 v B) = mixV w v B := by
  have h1 : w.toNat &&& (4294967295 - B.toNat) < 2 ^ 32 := Nat.and_lt_two_pow _ (not_lt B)
  have h2 : v.toNat &&& B.toNat < 2 ^ 32 := Nat.and_lt_two_pow _ (by have := hB.2; omega)
  rw [u32_andNot w B hw.1 hw.2 hB.1 hB.2, u32_and v B hv.1 hv.2 hB.1 hB.2, u32_or _ _ (by omega) (by omega) (by omega) (by omega)]
  rfl

theorem or_of {w m : Int} (hw : W32 w) (hm : W32 m) : bits .or .u32 w m = mixV w m m := by
  apply bit_ext
  · rw [u32_or w m hw.1 hw.2 hm.1 hm.2]
    have := Nat.or_lt_two_pow (n := 32) (x := w.toNat) (y := m.toNat) (by have := hw.2; omega) (by have := hm.2; omega)
    constructor <;> omega
  · exact mix_w hm
  · intro i hi
    rw [bit_mix hm i hi, u32_or w m hw.1 hw.2 hm.1 hm.2]
    unfold bit
    rw [Int.toNat_natCast, Nat.testBit_or]
    cases m.toNat.testBit i <;> simp

theorem not_of {w m : Int} (hw : W32 w) (hm : W32 m) : bits .andNot .u32 w m = mixV w 0 m := by
  rw [u32_andNot w m hw.1 hw.2 hm.1 hm.2]
  simp [mixV]

theorem and_w {a b : Int} (ha : W32 a) (hb : W32 b) : W32 (bits .and .u32 a b) := by
  rw [u32_and a b ha.1 ha.2 hb.1 hb.2]
  have := Nat.and_lt_two_pow (n := 32) a.toNat (y := b.toNat) (by have := hb.2; omega)
  constructor <;> omega

theorem bit_and {a b : Int} (ha : W32 a) (hb : W32 b) (i : Nat) : bit (bits .and .u32 a b) i = (bit a i && bit b i) := by
  rw [u32_and a b ha.1 ha.2 hb.1 hb.2]
  unfold bit
  rw [Int.toNat_natCast, Nat.testBit_and]

theorem bit_zero (i : Nat) : bit 0 i = false := by simp [bit]

theorem w0 : W32 0 := ⟨by decide, by decide⟩

/-- A bit is the word, divided and taken modulo 2. -/
theorem bit_is {a : Int} (ha : 0 ≤ a) (n : Nat) : (a / 2 ^ n % 2 = 1) ↔ bit a n = true := by
  obtain ⟨A, rfl⟩ := Int.eq_ofNat_of_zero_le ha
  unfold bit
  rw [Int.toNat_natCast, Nat.testBit_eq_decide_div_mod_eq, decide_eq_true_iff]
  constructor
  · intro h
    exact_mod_cast h
  · intro h
    exact_mod_cast h

/-- What the document's With makes: all other bits stay. -/
theorem with_is {w r : Int} (n : Nat) (b : Bool) (hw : W32 w) (hr : W32 r) (hn : n < 32) (h : ∀ i, i < 32 → bit r i = if i = n then b else bit w i) :
    w - w / 2 ^ n % 2 * 2 ^ n + (if b then 2 ^ n else 0) = r := by
  obtain ⟨A, rfl⟩ := Int.eq_ofNat_of_zero_le hw.1
  obtain ⟨R, rfl⟩ := Int.eq_ofNat_of_zero_le hr.1
  have key : R = 2 ^ n * (2 ^ 1 * (A / 2 ^ n / 2) + (if b then 1 else 0)) + A % 2 ^ n := by
    apply Nat.eq_of_testBit_eq
    intro i
    have hp : A % 2 ^ n < 2 ^ n := Nat.mod_lt _ (Nat.two_pow_pos n)
    have hb1 : (if b then 1 else 0) < 2 ^ 1 := by cases b <;> simp
    rw [Nat.testBit_two_pow_mul_add _ hp, Nat.testBit_mod_two_pow]
    have hi : R.testBit i = if i = n then b else A.testBit i := by
      by_cases h32 : i < 32
      · exact h i h32
      · rw [if_neg (by omega)]
        exact (bit_out hr i (by omega)).trans (bit_out hw i (by omega)).symm
    rw [hi]
    by_cases e : i < n
    · rw [if_neg (by omega), if_pos e]; simp [e]
    · rw [if_neg e, Nat.testBit_two_pow_mul_add _ hb1]
      by_cases e2 : i = n
      · subst e2
        rw [if_pos rfl, if_pos (by omega)]
        cases b <;> simp
      · rw [if_neg e2, if_neg (by omega), show (2 : Nat) = 2 ^ 1 from rfl, Nat.testBit_div_two_pow, Nat.testBit_div_two_pow]
        congr 1
        omega
  have hA : A = 2 ^ n * (2 * (A / 2 ^ n / 2) + A / 2 ^ n % 2) + A % 2 ^ n := by
    have h1 := Nat.div_add_mod A (2 ^ n)
    have h2 := Nat.div_add_mod (A / 2 ^ n) 2
    rw [h2]; exact h1.symm
  have c1 : ((A : Int) / 2 ^ n % 2) = ((A / 2 ^ n % 2 : Nat) : Int) := by simp
  have c2 : ((2 : Int) ^ n) = ((2 ^ n : Nat) : Int) := by simp
  rw [c1, c2]
  generalize A / 2 ^ n % 2 = d at *
  generalize A / 2 ^ n / 2 = q at *
  generalize A % 2 ^ n = m at *
  generalize 2 ^ n = p at *
  subst key hA
  cases b <;> simp [Int.mul_add] <;> rw [Int.mul_comm (d : Int) (p : Int)] <;> omega

/-- A word with a bit so. -/
def withV (a : Int) (n : Nat) (b : Bool) : Int := mixV a (if b then ((2 ^ n : Nat) : Int) else 0) ((2 ^ n : Nat) : Int)

theorem pow_w (n : Nat) (h : n < 32) : W32 ((2 ^ n : Nat) : Int) := by
  have : (2 : Nat) ^ n < 2 ^ 32 := Nat.pow_lt_pow_right (by omega) h
  generalize (2 : Nat) ^ n = X at *
  constructor <;> omega

theorem with_w (a : Int) (n : Nat) (b : Bool) (h : n < 32) : W32 (withV a n b) := mix_w (pow_w n h)

theorem bit_pow (n i : Nat) : bit ((2 ^ n : Nat) : Int) i = decide (n = i) := by
  unfold bit
  rw [Int.toNat_natCast, Nat.testBit_two_pow]

theorem bit_with (a : Int) (n : Nat) (b : Bool) (h : n < 32) (i : Nat) (hi : i < 32) : bit (withV a n b) i = if i = n then b else bit a i := by
  unfold withV
  rw [bit_mix (pow_w n h) i hi, bit_pow]
  by_cases e : i = n
  · subst e
    cases b
    · simp [bit_zero]
    · simp only [decide_true, if_true, bit_pow]
  · rw [if_neg e, decide_eq_false (fun x => e x.symm)]
    rfl

/-- Mixed twice with the same bits. -/
theorem mix_mix {w a b M : Int} (hM : W32 M) : mixV (mixV w a M) b M = mixV w b M :=
  bit_ext (mix_w hM) (mix_w hM) fun i hi => by
    rw [bit_mix hM i hi, bit_mix hM i hi, bit_mix hM i hi]
    split <;> rfl

theorem nat_bit (x n : Nat) : x &&& 2 ^ n = if x.testBit n then 2 ^ n else 0 := by
  apply Nat.eq_of_testBit_eq
  intro i
  rw [Nat.testBit_and, Nat.testBit_two_pow]
  by_cases e : n = i
  · subst e
    cases x.testBit n <;> simp
  · cases x.testBit n <;> simp [e]

/-- A word cut with one of its bits. -/
theorem and_bit {a : Int} (ha : W32 a) (n : Nat) (hn : n < 32) : bits .and .u32 a ((2 ^ n : Nat) : Int) = if bit a n then ((2 ^ n : Nat) : Int) else 0 := by
  have p := pow_w n hn
  rw [u32_and a _ ha.1 ha.2 p.1 p.2, Int.toNat_natCast, nat_bit]
  unfold bit
  split <;> rfl

/-- A word cut with two of its bits. -/
theorem and_two {a : Int} (ha : W32 a) (m n : Nat) (hn : n < 32) (h : m < n) :
    bits .and .u32 a ((2 ^ n + 2 ^ m : Nat) : Int) = (if bit a n then ((2 ^ n : Nat) : Int) else 0) + (if bit a m then ((2 ^ m : Nat) : Int) else 0) := by
  have hlt : (2 : Nat) ^ m < 2 ^ n := Nat.pow_lt_pow_right (by omega) h
  have p := pow_w n hn
  have hle : (2 : Nat) ^ n ≤ 2 ^ 31 := Nat.pow_le_pow_right (by omega) (by omega)
  have o : (2 : Nat) ^ n + 2 ^ m = 2 ^ n ||| 2 ^ m := by
    rw [nat_join n _ _ (by simp) hlt]
  have hb : (2 ^ n + 2 ^ m : Nat) < 4294967296 := by
    generalize (2 : Nat) ^ n = X at *
    generalize (2 : Nat) ^ m = Y at *
    omega
  rw [u32_and a _ ha.1 ha.2 (Int.natCast_nonneg _) (Int.ofNat_lt.2 hb), Int.toNat_natCast, o, Nat.and_or_distrib_left, nat_bit, nat_bit]
  unfold bit
  clear hb hle p hlt
  generalize a.toNat.testBit n = x
  generalize a.toNat.testBit m = y
  generalize (2 : Nat) ^ n = X at *
  generalize (2 : Nat) ^ m = Y at *
  cases x <;> cases y
  · show ((0 ||| 0 : Nat) : Int) = 0 + 0; rfl
  · show ((0 ||| Y : Nat) : Int) = 0 + (Y : Int); rw [Nat.zero_or, Int.zero_add]
  · show ((X ||| 0 : Nat) : Int) = (X : Int) + 0; rw [Nat.or_zero, Int.add_zero]
  · show ((X ||| Y : Nat) : Int) = (X : Int) + (Y : Int); rw [← o, Int.natCast_add]

end Go.Proofs.YtmegghgjllbamaaGreatDoor.Cp

/- Layer 8: the registers as a row of nine words: its parts, and when two are the same. -/
namespace Go.Proofs.YtmegghgjllbamaaGreatDoor.Cp
open Go.RowKit
set_option linter.unusedVariables false
set_option maxRecDepth 100000

/-- The registers: Index, EntryLo, BadVAddr, Count, EntryHi, Compare, Status, Cause, EPC. -/
structure Regs where
  i : Int
  l : Int
  b : Int
  n : Int
  h : Int
  p : Int
  s : Int
  c : Int
  e : Int
deriving DecidableEq

/-- All are words. -/
structure Wr (r : Regs) : Prop where
  i : W32 r.i
  l : W32 r.l
  b : W32 r.b
  n : W32 r.n
  h : W32 r.h
  p : W32 r.p
  s : W32 r.s
  c : W32 r.c
  e : W32 r.e

def cellsR (r : Regs) : Array Value := #[.int .u32 r.i, .int .u32 r.l, .int .u32 r.b, .int .u32 r.n, .int .u32 r.h, .int .u32 r.p, .int .u32 r.s, .int .u32 r.c, .int .u32 r.e]

/-- Nine, so spelt that no walk opens a row of them. -/
def N9 : Nat := 9

/-- The registers of noughts. -/
def R0 : Regs := ⟨0, 0, 0, 0, 0, 0, 0, 0, 0⟩

theorem R0_w : Wr R0 := ⟨w0, w0, w0, w0, w0, w0, w0, w0, w0⟩

theorem size_cellsR (r : Regs) : (cellsR r).size = N9 := rfl

theorem eqR (r q : Regs) (w : World) : (Op.equalIn 10000 34 (.agg (cellsR r)) (.agg (cellsR q))).run Tryz.prog w = .ok (decide (r = q)) w := by
  have hu : Tryz.prog.underlying 34 = some (.struct (Tryz.prog.fieldsOf 34)) := by kernel_rfl
  have hp : Tryz.prog.stoodInHeld 34 = false := by kernel_rfl
  rw [run_equalIn_agg w 9999 34 _ _ hu hp]
  obtain ⟨r0, r1, r2, r3, r4, r5, r6, r7, r8⟩ := r
  obtain ⟨q0, q1, q2, q3, q4, q5, q6, q7, q8⟩ := q
  simp only [cellsR, Regs.mk.injEq]
  simp [go_sem]
  repeat' split
  all_goals simp_all

theorem eqlR (r q : Regs) (w : World) : (binOp .eql 34 (.agg (cellsR r)) (.agg (cellsR q))).run Tryz.prog w = .ok (.bool (decide (r = q))) w := by
  rw [run_eql_struct, eqR]; rfl

theorem neqR (r q : Regs) (w : World) : (binOp .neq 34 (.agg (cellsR r)) (.agg (cellsR q))).run Tryz.prog w = .ok (.bool (!decide (r = q))) w := by
  rw [run_neq_struct, eqR]; rfl

theorem sizeR (w : World) : (sizeOf 34).run Tryz.prog w = .ok N9 w := Tryz.sizeOf34 w

theorem zeroR (w : World) : (zeroValue 34).run Tryz.prog w = .ok (.agg (cellsR R0)) w := Tryz.zeroValue34 w

theorem loadR (w : World) (b : Nat) (h : isRow w b = true) (hn : (rowAt w b).size = N9) : (loadCellsFrom ⟨b, 0, none⟩ 0 N9 #[]).run Tryz.prog w = .ok (rowAt w b) w :=
  load_rowAt Tryz.prog w b N9 h hn

theorem storeR (r : Regs) (w : World) (b : Nat) (h : isRow w b = true) (hn : (rowAt w b).size = N9) : (storeCells ⟨b, 0, none⟩ (cellsR r).toList 0).run Tryz.prog w = .ok () (w.setRow b (cellsR r)) := by
  refine store_rowAt Tryz.prog w b _ h (by rw [hn, size_cellsR]) fun v hv => ?_
  simp only [cellsR, List.mem_cons] at hv
  rcases hv with rfl | rfl | rfl | rfl | rfl | rfl | rfl | rfl | rfl | hv
  all_goals first | rfl | simp at hv

theorem loadSetR (r : Regs) (w : World) (b : Nat) (h : isRow w b = true) : (loadCellsFrom ⟨b, 0, none⟩ 0 N9 #[]).run Tryz.prog (w.setRow b (cellsR r)) = .ok (cellsR r) (w.setRow b (cellsR r)) := by
  have := loadR (w.setRow b (cellsR r)) b (by rw [isRow_setRow, h]) (by rw [rowAt_setRow w b _ h, size_cellsR])
  rwa [rowAt_setRow w b _ h] at this

/-- What walks over registers are told. -/
theorem cpRules : (∀ w : World, (sizeOf 34).run Tryz.prog w = .ok N9 w) ∧ (∀ w : World, (zeroValue 34).run Tryz.prog w = .ok (.agg (cellsR R0)) w) ∧
    (∀ r : Regs, (cellsR r).size = N9) ∧
    (∀ (r : Regs) (w : World) (b : Nat), isRow w b = true → (rowAt w b).size = N9 → (storeCells ⟨b, 0, none⟩ (cellsR r).toList 0).run Tryz.prog w = .ok () (w.setRow b (cellsR r))) ∧
    (∀ (w : World) (b : Nat), isRow w b = true → (rowAt w b).size = N9 → (loadCellsFrom ⟨b, 0, none⟩ 0 N9 #[]).run Tryz.prog w = .ok (rowAt w b) w) ∧
    (∀ (w : World) (c : Array Value) (t : TypeId) (n : Nat), rowAt (w.alloc (.cells c t)) n = if n = w.heap.size then c else rowAt w n) ∧
    (∀ (w : World) (c : Array Value) (t : TypeId) (n : Nat), isRow (w.alloc (.cells c t)) n = if n = w.heap.size then true else isRow w n) ∧
    (∀ (w : World) (c c' : Array Value) (t : TypeId) (n : Nat), (w.alloc (.cells c t)).setRow n c' = if n = w.heap.size then w.alloc (.cells c' t) else (w.setRow n c').alloc (.cells c t)) ∧
    (∀ (r : Regs) (w : World) (b : Nat), isRow w b = true → (loadCellsFrom ⟨b, 0, none⟩ 0 N9 #[]).run Tryz.prog (w.setRow b (cellsR r)) = .ok (cellsR r) (w.setRow b (cellsR r))) :=
  ⟨sizeR, zeroR, size_cellsR, storeR, loadR, rowAt_alloc, isRow_alloc, setRow_alloc, loadSetR⟩

/-- The parts of a row of registers, and what a store into one makes of it. -/
theorem cpParts : (∀ r : Regs, (cellsR r)[0]? = some (.int .u32 r.i)) ∧ (∀ r : Regs, (cellsR r)[1]? = some (.int .u32 r.l)) ∧ (∀ r : Regs, (cellsR r)[2]? = some (.int .u32 r.b)) ∧
    (∀ r : Regs, (cellsR r)[3]? = some (.int .u32 r.n)) ∧ (∀ r : Regs, (cellsR r)[4]? = some (.int .u32 r.h)) ∧ (∀ r : Regs, (cellsR r)[5]? = some (.int .u32 r.p)) ∧
    (∀ r : Regs, (cellsR r)[6]? = some (.int .u32 r.s)) ∧ (∀ r : Regs, (cellsR r)[7]? = some (.int .u32 r.c)) ∧ (∀ r : Regs, (cellsR r)[8]? = some (.int .u32 r.e)) :=
  ⟨fun _ => rfl, fun _ => rfl, fun _ => rfl, fun _ => rfl, fun _ => rfl, fun _ => rfl, fun _ => rfl, fun _ => rfl, fun _ => rfl⟩

theorem cpSets : (∀ (r : Regs) (x : Int), (cellsR r).setIfInBounds 0 (.int .u32 x) = cellsR { r with i := x }) ∧ (∀ (r : Regs) (x : Int), (cellsR r).setIfInBounds 1 (.int .u32 x) = cellsR { r with l := x }) ∧
    (∀ (r : Regs) (x : Int), (cellsR r).setIfInBounds 2 (.int .u32 x) = cellsR { r with b := x }) ∧ (∀ (r : Regs) (x : Int), (cellsR r).setIfInBounds 3 (.int .u32 x) = cellsR { r with n := x }) ∧
    (∀ (r : Regs) (x : Int), (cellsR r).setIfInBounds 4 (.int .u32 x) = cellsR { r with h := x }) ∧ (∀ (r : Regs) (x : Int), (cellsR r).setIfInBounds 5 (.int .u32 x) = cellsR { r with p := x }) ∧
    (∀ (r : Regs) (x : Int), (cellsR r).setIfInBounds 6 (.int .u32 x) = cellsR { r with s := x }) ∧ (∀ (r : Regs) (x : Int), (cellsR r).setIfInBounds 7 (.int .u32 x) = cellsR { r with c := x }) ∧
    (∀ (r : Regs) (x : Int), (cellsR r).setIfInBounds 8 (.int .u32 x) = cellsR { r with e := x }) :=
  ⟨fun _ _ => rfl, fun _ _ => rfl, fun _ _ => rfl, fun _ _ => rfl, fun _ _ => rfl, fun _ _ => rfl, fun _ _ => rfl, fun _ _ => rfl, fun _ _ => rfl⟩

theorem cpDrew : (∀ (w : World) (b : Nat), rowAt w.drew b = rowAt w b) ∧ (∀ (w : World) (b : Nat), isRow w.drew b = isRow w b) ∧ (∀ (w : World) (n : Nat) (c : Array Value), w.drew.setRow n c = (w.setRow n c).drew) :=
  ⟨rowAt_drew, isRow_drew, fun _ _ _ => rfl⟩

theorem grow (w : World) (o : Obj) : Below w.heap.size w (w.alloc o) := (Below.refl _ w).alloc (Nat.le_refl _) o

theorem onto {n : Nat} {w x y : World} (h : Below n w x) (hn : n ≤ w.heap.size) (k : Below x.heap.size x y) : Below n w y := h.trans (k.mono (Nat.le_trans hn h.size))

/-- Registers in block b. -/
def Rat (w : World) (b : Nat) (r : Regs) : Prop := isRow w b = true ∧ rowAt w b = cellsR r ∧ b < w.heap.size

theorem Rat.on {w y : World} {b : Nat} {r : Regs} (h : Rat w b r) (hb : Below w.heap.size w y) : Rat y b r :=
  ⟨by rw [(brow hb).2 _ h.2.2]; exact h.1, by rw [(brow hb).1 _ h.2.2]; exact h.2.1, Nat.lt_of_lt_of_le h.2.2 hb.size⟩

theorem Rat.new (w : World) (r : Regs) (t : TypeId) : Rat (w.alloc (.cells (cellsR r) t)) w.heap.size r := ⟨isRow_new _ _ _, rowAt_new _ _ _, by simp⟩

theorem Rat.load {w : World} {b : Nat} {r : Regs} (h : Rat w b r) : (loadCellsFrom ⟨b, 0, none⟩ 0 N9 #[]).run Tryz.prog w = .ok (cellsR r) w := by
  have := loadR w b h.1 (by rw [h.2.1, size_cellsR])
  rwa [h.2.1] at this

theorem Rat.cell {w : World} {b : Nat} {r : Regs} (h : Rat w b r) (j : Nat) : w.cell? ⟨b, j, none⟩ = (cellsR r)[j]? := by
  rw [cell_rowAt w b j h.1, h.2.1]

end Go.Proofs.YtmegghgjllbamaaGreatDoor.Cp

/- Layer 8: contracts of mix, and of the document's Bit, With, Mix. -/
namespace Go.Proofs.YtmegghgjllbamaaGreatDoor.Cp
open Go.RowKit
set_option linter.unusedVariables false
set_option maxRecDepth 100000

theorem mix_any {w v B : Int} (hw : W32 w) (hv : W32 v) (hB : W32 B) (W : World) :
    Calls Tryz.prog 46 #[.int .u32 w, .int .u32 v, .int .u32 B] W fun e w' => e = .returned (.int .u32 (mixV w v B)) ∧ w' = W := by
  have e1 := and_of hw hv hB
  go_enter Tryz.func46, Tryz.ntmps46
  go_wp2
  go_ret
  exact ⟨rfl, rfl⟩

/-- The numbers of the document's With. -/
theorem with_nums {a r : Int} (ha : W32 a) (hr : W32 r) {n : Int} (n0 : 0 ≤ n) (n1 : n < 32) (b : Bool) (h : ∀ i, i < 32 → bit r i = if i = n.toNat then b else bit a i) :
    ∃ P Q D M : Int, wrap64 (2 ^ n.toNat) = P ∧ a.tdiv P = Q ∧ Q.tmod 2 = D ∧ D * P = M ∧ (1 ≤ P ∧ P ≤ 2147483648) ∧ (0 ≤ Q ∧ Q < 4294967296) ∧ (0 ≤ D ∧ D ≤ 1) ∧ (0 ≤ M ∧ M ≤ a) ∧ r = a - M + (if b then P else 0) := by
  have hv := with_is n.toNat b ha hr (by omega) h
  have p0 : (0 : Int) < 2 ^ n.toNat := Int.pow_pos (by omega)
  have p1 : (2 : Int) ^ n.toNat ≤ 2147483648 := by
    have h31 : (2 : Nat) ^ n.toNat ≤ 2 ^ 31 := Nat.pow_le_pow_right (by omega) (by omega)
    have c : ((2 : Int) ^ n.toNat) = ((2 ^ n.toNat : Nat) : Int) := by simp
    rw [c]
    generalize 2 ^ n.toNat = X at *
    omega
  have hw : wrap64 (2 ^ n.toNat) = 2 ^ n.toNat := by
    unfold wrap64
    omega
  generalize (2 : Int) ^ n.toNat = P at *
  have q0 : 0 ≤ a / P := Int.ediv_nonneg ha.1 (by omega)
  have q1 : a / P ≤ a := Int.ediv_le_self _ ha.1
  have q2 := Int.ediv_mul_le a (b := P) (by omega)
  have a1 := ha.2
  refine ⟨P, a / P, a / P % 2, a / P % 2 * P, hw, Int.tdiv_eq_ediv_of_nonneg ha.1, Int.tmod_eq_emod_of_nonneg q0, rfl, by omega, by omega, by omega, ⟨Int.mul_nonneg (by omega) (by omega), ?_⟩, hv.symm⟩
  refine Int.le_trans (Int.mul_le_mul_of_nonneg_right ?_ (by omega)) q2
  omega

/-- The words on the way of the document's Mix: the bits from f up to k are v's. -/
def Upto (w v f k z : Int) : Prop := W32 z ∧ ∀ i : Nat, i < 32 → bit z i = if f ≤ (i : Int) ∧ (i : Int) < k then bit v i else bit w i

theorem Upto.start {w : Int} (hw : W32 w) (v f : Int) : Upto w v f f w := ⟨hw, fun i hi => by rw [if_neg (by omega)]⟩

theorem Upto.next {w v f k z : Int} (h : Upto w v f k z) (f0 : 0 ≤ f) (fk : f ≤ k) (k1 : k < 32) : Upto w v f (k + 1) (withV z k.toNat (bit v k.toNat)) :=
  ⟨with_w _ _ _ (by omega), fun i hi => by
    rw [bit_with _ _ _ (by omega) i hi, h.2 i hi]
    by_cases e : i = k.toNat
    · rw [if_pos e, if_pos (by omega), e]
    · rw [if_neg e]
      by_cases c : f ≤ (i : Int) ∧ (i : Int) < k
      · rw [if_pos c, if_pos (by omega)]
      · rw [if_neg c, if_neg (by omega)]⟩

end Go.Proofs.YtmegghgjllbamaaGreatDoor.Cp

/- Layer 8: contracts of the program's Read and Write. -/
namespace Go.Proofs.YtmegghgjllbamaaGreatDoor.Cp
open Go.RowKit
set_option linter.unusedVariables false
set_option maxRecDepth 100000

/-- A register. -/
def readV (r : Regs) (g : Int) : Int :=
  if g = 0 then r.i else if g = 2 then r.l else if g = 8 then r.b else if g = 9 then r.n else if g = 10 then r.h else if g = 11 then r.p else if g = 12 then r.s else if g = 13 then r.c else if g = 14 then r.e else 0

/-- What Write makes of the registers. -/
def writeV (r : Regs) (g v : Int) : Regs :=
  if g = 0 then { r with i := mixV r.i v 7 } else if g = 2 then { r with l := mixV r.l v 4294967047 } else if g = 9 then { r with n := v } else if g = 10 then { r with h := v } else
  if g = 11 then { r with p := v, c := mixV r.c 0 32768 } else if g = 12 then { r with s := mixV r.s v 65299 } else if g = 13 then { r with c := mixV r.c v 768 } else if g = 14 then { r with e := v } else r

/-- None of the nine. -/
def Nor (g : Int) : Prop := ¬ g = 0 ∧ ¬ g = 2 ∧ ¬ g = 8 ∧ ¬ g = 9 ∧ ¬ g = 10 ∧ ¬ g = 11 ∧ ¬ g = 12 ∧ ¬ g = 13 ∧ ¬ g = 14

theorem reg_is (g : Int) : g = 0 ∨ g = 2 ∨ g = 8 ∨ g = 9 ∨ g = 10 ∨ g = 11 ∨ g = 12 ∨ g = 13 ∨ g = 14 ∨ Nor g := by
  unfold Nor
  omega

theorem Nor.read {g : Int} (h : Nor g) (r : Regs) : readV r g = 0 := by
  obtain ⟨h0, h1, h2, h3, h4, h5, h6, h7, h8⟩ := h
  simp [readV, h0, h1, h2, h3, h4, h5, h6, h7, h8]

theorem Nor.write {g : Int} (h : Nor g) (r : Regs) (v : Int) : writeV r g v = r := by
  obtain ⟨h0, h1, h2, h3, h4, h5, h6, h7, h8⟩ := h
  simp [writeV, h0, h1, h3, h4, h5, h6, h7, h8]

theorem Nor.tests {g : Int} (h : Nor g) : (g == 0) = false ∧ (g == 2) = false ∧ (g == 8) = false ∧ (g == 9) = false ∧ (g == 10) = false ∧ (g == 11) = false ∧ (g == 12) = false ∧ (g == 13) = false ∧ (g == 14) = false := by
  unfold Nor at h
  simp [h]

theorem read_any (r : Regs) (g : Int) (w : World) :
    Calls Tryz.prog 93 #[.agg (cellsR r), .int .i64 g] w fun e w' => e = .returned (.int .u32 (readV r g)) ∧ Below w.heap.size w w' := by
  obtain ⟨t1, t2, t3, t4, t5, t6, t7, t8, t9⟩ := cpRules
  obtain ⟨p0, p1, p2, p3, p4, p5, p6, p7, p8⟩ := cpParts
  rcases reg_is g with rfl | rfl | rfl | rfl | rfl | rfl | rfl | rfl | rfl | h
  case inr.inr.inr.inr.inr.inr.inr.inr.inr =>
    rw [h.read]
    obtain ⟨h0, h1, h2, h3, h4, h5, h6, h7, h8⟩ := h.tests
    clear h
    go_enter Tryz.func93, Tryz.ntmps93
    go_wp2
    go_ret
    exact ⟨rfl, grow _ _⟩
  all_goals
    go_enter Tryz.func93, Tryz.ntmps93
    go_wp2
    go_ret
    exact ⟨rfl, grow _ _⟩

set_option maxHeartbeats 2000000 in
theorem write_any {r : Regs} (hr : Wr r) (g : Int) {v : Int} (hv : W32 v) (w : World) :
    Calls Tryz.prog 94 #[.agg (cellsR r), .int .i64 g, .int .u32 v] w fun e w' => e = .returned (.agg (cellsR (writeV r g v))) ∧ Below w.heap.size w w' := by
  obtain ⟨t1, t2, t3, t4, t5, t6, t7, t8, t9⟩ := cpRules
  obtain ⟨p0, p1, p2, p3, p4, p5, p6, p7, p8⟩ := cpParts
  obtain ⟨s0, s1, s2, s3, s4, s5, s6, s7, s8⟩ := cpSets
  have m0 := hide fun W => mix_any hr.i hv (B := 7) (by constructor <;> omega) W
  have m1 := hide fun W => mix_any hr.l hv (B := 4294967047) (by constructor <;> omega) W
  have m2 := hide fun W => mix_any hr.s hv (B := 65299) (by constructor <;> omega) W
  have m3 := hide fun W => mix_any hr.c hv (B := 768) (by constructor <;> omega) W
  have n1 := not_of hr.c (m := 32768) (by constructor <;> omega)
  replace hr := hide hr
  replace hv := hide hv
  have fin : ∀ c d : Array Value, Below w.heap.size w ((w.alloc (.cells c 34)).alloc (.cells d 34)) := fun c d => (grow _ _).alloc (by simp) _
  replace fin := hide fin
  rcases reg_is g with rfl | rfl | rfl | rfl | rfl | rfl | rfl | rfl | rfl | h
  case inr.inr.inr.inr.inr.inr.inr.inr.inr =>
    rw [h.write]
    obtain ⟨h0, h1, h2, h3, h4, h5, h6, h7, h8⟩ := h.tests
    clear h
    go_enter Tryz.func94, Tryz.ntmps94
    go_wp2
    exact bodyPost_ret (v := .agg (cellsR r)) (by simp [results, Tryz.results94, go_sem, t1, t3, t5, t6, t7]) rfl ⟨rfl, fin.out _ _⟩
  · go_enter Tryz.func94, Tryz.ntmps94
    go_wp2_with fail
    refine (m0.out _).mono ?_
    rintro e w' ⟨rfl, rfl⟩
    go_wp2
    exact bodyPost_ret (v := .agg (cellsR (writeV r 0 v))) (by simp [results, Tryz.results94, go_sem, t1, t3, t5, t6, t7, writeV]) rfl ⟨rfl, fin.out _ _⟩
  · go_enter Tryz.func94, Tryz.ntmps94
    go_wp2_with fail
    refine (m1.out _).mono ?_
    rintro e w' ⟨rfl, rfl⟩
    go_wp2
    exact bodyPost_ret (v := .agg (cellsR (writeV r 2 v))) (by simp [results, Tryz.results94, go_sem, t1, t3, t5, t6, t7, writeV]) rfl ⟨rfl, fin.out _ _⟩
  · go_enter Tryz.func94, Tryz.ntmps94
    go_wp2
    exact bodyPost_ret (v := .agg (cellsR (writeV r 8 v))) (by simp [results, Tryz.results94, go_sem, t1, t3, t5, t6, t7, writeV]) rfl ⟨rfl, fin.out _ _⟩
  · go_enter Tryz.func94, Tryz.ntmps94
    go_wp2
    exact bodyPost_ret (v := .agg (cellsR (writeV r 9 v))) (by simp [results, Tryz.results94, go_sem, t1, t3, t5, t6, t7, writeV]) rfl ⟨rfl, fin.out _ _⟩
  · go_enter Tryz.func94, Tryz.ntmps94
    go_wp2
    exact bodyPost_ret (v := .agg (cellsR (writeV r 10 v))) (by simp [results, Tryz.results94, go_sem, t1, t3, t5, t6, t7, writeV]) rfl ⟨rfl, fin.out _ _⟩
  · go_enter Tryz.func94, Tryz.ntmps94
    go_wp2
    exact bodyPost_ret (v := .agg (cellsR (writeV r 11 v))) (by simp [results, Tryz.results94, go_sem, t1, t3, t5, t6, t7, writeV]) rfl ⟨rfl, fin.out _ _⟩
  · go_enter Tryz.func94, Tryz.ntmps94
    go_wp2_with fail
    refine (m2.out _).mono ?_
    rintro e w' ⟨rfl, rfl⟩
    go_wp2
    exact bodyPost_ret (v := .agg (cellsR (writeV r 12 v))) (by simp [results, Tryz.results94, go_sem, t1, t3, t5, t6, t7, writeV]) rfl ⟨rfl, fin.out _ _⟩
  · go_enter Tryz.func94, Tryz.ntmps94
    go_wp2_with fail
    refine (m3.out _).mono ?_
    rintro e w' ⟨rfl, rfl⟩
    go_wp2
    exact bodyPost_ret (v := .agg (cellsR (writeV r 13 v))) (by simp [results, Tryz.results94, go_sem, t1, t3, t5, t6, t7, writeV]) rfl ⟨rfl, fin.out _ _⟩
  · go_enter Tryz.func94, Tryz.ntmps94
    go_wp2
    exact bodyPost_ret (v := .agg (cellsR (writeV r 14 v))) (by simp [results, Tryz.results94, go_sem, t1, t3, t5, t6, t7, writeV]) rfl ⟨rfl, fin.out _ _⟩

end Go.Proofs.YtmegghgjllbamaaGreatDoor.Cp

/- Layer 8: contracts of the program's Raise, Bad, Return, Tick, Pending and User. -/
namespace Go.Proofs.YtmegghgjllbamaaGreatDoor.Cp
open Go.RowKit
set_option linter.unusedVariables false
set_option maxRecDepth 100000

/-- What an exception notes of its place. -/
def leaveV (r : Regs) (pc : Int) (d : Bool) : Regs := { r with e := if d then (pc - 4) % 4294967296 else pc, c := mixV r.c (if d then 2147483648 else 0) 2147483648 }

/-- The registers behind an exception, and where it goes on. -/
def raiseV (r : Regs) (code : Int) (f : Bool) (pc : Int) (d : Bool) : Regs :=
  if bit r.s 1 then { r with s := mixV r.s 2 2, c := mixV r.c (code % 4294967296 * 4 % 4294967296) 124 }
  else { r with e := if d then (pc - 4) % 4294967296 else pc, s := mixV r.s 2 2, c := mixV (mixV r.c (if d then 2147483648 else 0) 2147483648) (code % 4294967296 * 4 % 4294967296) 124 }

def toV (r : Regs) (f : Bool) : Int := if bit r.s 1 then 2147484032 else if f then 2147483648 else 2147484032

def badV (r : Regs) (a : Int) (p : Bool) : Regs := { r with b := a, h := if p then mixV r.h a 4294967040 else r.h }

def retV (r : Regs) : Regs := { r with s := mixV r.s 0 2 }

/-- The Cause behind a step's count. -/
def rungV (r : Regs) : Int := if (r.n + 1) % 4294967296 = r.p then mixV r.c 32768 32768 else r.c

def tickV (r : Regs) (l : Int) : Regs := { r with n := (r.n + 1) % 4294967296, c := mixV (rungV r) (l * 1024 % 4294967296) 31744 }

def pendV (r : Regs) : Bool := bit r.s 0 && !bit r.s 1 && (bits .and .u32 (bits .and .u32 r.s r.c) 65280 != 0)

def userV (r : Regs) : Bool := bit r.s 4 && !bit r.s 1

theorem w_of (a : Int) (h0 : 0 ≤ a) (h1 : a < 4294967296) : W32 a := ⟨h0, h1⟩

theorem leave_any {r : Regs} (hr : Wr r) {pc : Int} (hp : W32 pc) (d : Bool) (w : World) :
    Calls Tryz.prog 64 #[.agg (cellsR r), .int .u32 pc, .bool d] w fun e w' => e = .returned (.agg (cellsR (leaveV r pc d))) ∧ w' = (w.alloc (.cells (cellsR (leaveV r pc d)) 34)).alloc (.cells (cellsR (leaveV r pc d)) 34) := by
  obtain ⟨t1, t2, t3, t4, t5, t6, t7, t8, t9⟩ := cpRules
  obtain ⟨p0, p1, p2, p3, p4, p5, p6, p7, p8⟩ := cpParts
  obtain ⟨s0, s1, s2, s3, s4, s5, s6, s7, s8⟩ := cpSets
  have wm : W32 2147483648 := w_of _ (by omega) (by omega)
  have n1 := not_of hr.c wm
  have n2 := or_of (mix_w (w := r.c) (v := 0) wm) wm
  rw [mix_mix wm] at n2
  obtain ⟨pc0, pc1⟩ := hp
  clear hr wm
  go_enter Tryz.func64, Tryz.ntmps64
  cases d
  · go_wp2
    exact bodyPost_ret (v := .agg (cellsR (leaveV r pc false))) (by simp [results, Tryz.results64, go_sem, t1, t3, t5, t6, t7, leaveV]) rfl ⟨rfl, rfl⟩
  · go_wp2
    exact bodyPost_ret (v := .agg (cellsR (leaveV r pc true))) (by simp [results, Tryz.results64, go_sem, t1, t3, t5, t6, t7, leaveV]) rfl ⟨rfl, rfl⟩

theorem bad_any {r : Regs} (hr : Wr r) {a : Int} (ha : W32 a) (p : Bool) (w : World) :
    Calls Tryz.prog 28 #[.agg (cellsR r), .int .u32 a, .bool p] w fun e w' => e = .returned (.agg (cellsR (badV r a p))) ∧ Below w.heap.size w w' := by
  obtain ⟨t1, t2, t3, t4, t5, t6, t7, t8, t9⟩ := cpRules
  obtain ⟨p0, p1, p2, p3, p4, p5, p6, p7, p8⟩ := cpParts
  obtain ⟨s0, s1, s2, s3, s4, s5, s6, s7, s8⟩ := cpSets
  have m0 := hide fun W => mix_any hr.h ha (B := 4294967040) (w_of _ (by omega) (by omega)) W
  have fin : ∀ c d : Array Value, Below w.heap.size w ((w.alloc (.cells c 34)).alloc (.cells d 34)) := fun c d => (grow _ _).alloc (by simp) _
  replace fin := hide fin
  replace ha := hide ha
  clear hr
  go_enter Tryz.func28, Tryz.ntmps28
  cases p
  · go_wp2
    exact bodyPost_ret (v := .agg (cellsR (badV r a false))) (by simp [results, Tryz.results28, go_sem, t1, t3, t5, t6, t7, badV]) rfl ⟨rfl, fin.out _ _⟩
  · go_wp2_with fail
    refine (m0.out _).mono ?_
    rintro e w' ⟨rfl, rfl⟩
    go_wp2
    exact bodyPost_ret (v := .agg (cellsR (badV r a true))) (by simp [results, Tryz.results28, go_sem, t1, t3, t5, t6, t7, badV]) rfl ⟨rfl, fin.out _ _⟩

theorem ret_any {r : Regs} (hr : Wr r) (w : World) :
    Calls Tryz.prog 98 #[.agg (cellsR r)] w fun e w' => e = .returned (.tuple #[.agg (cellsR (retV r)), .int .u32 r.e]) ∧ Below w.heap.size w w' := by
  obtain ⟨t1, t2, t3, t4, t5, t6, t7, t8, t9⟩ := cpRules
  obtain ⟨p0, p1, p2, p3, p4, p5, p6, p7, p8⟩ := cpParts
  obtain ⟨s0, s1, s2, s3, s4, s5, s6, s7, s8⟩ := cpSets
  have n1 := not_of hr.s (m := 2) (w_of _ (by omega) (by omega))
  have fin : ∀ c d : Array Value, Below w.heap.size w ((w.alloc (.cells c 34)).alloc (.cells d 34)) := fun c d => (grow _ _).alloc (by simp) _
  replace fin := hide fin
  obtain ⟨d1, d2, d3⟩ := cpDrew
  clear hr
  go_enter Tryz.func98, Tryz.ntmps98
  go_wp2
  go_region
  go_wp2
  exact bodyPost_ret (v := .tuple #[.agg (cellsR (retV r)), .int .u32 r.e]) (by simp [results, Tryz.results98, go_sem, t1, t3, t5, t6, t7, d1, d2, retV]) rfl ⟨rfl, (fin.out _ _).drew⟩

theorem tick_any {r : Regs} (hr : Wr r) {l : Int} (hl : W32 l) (w : World) :
    Calls Tryz.prog 21 #[.agg (cellsR r), .int .u32 l] w fun e w' => e = .returned (.agg (cellsR (tickV r l))) ∧ Below w.heap.size w w' := by
  obtain ⟨t1, t2, t3, t4, t5, t6, t7, t8, t9⟩ := cpRules
  obtain ⟨p0, p1, p2, p3, p4, p5, p6, p7, p8⟩ := cpParts
  obtain ⟨s0, s1, s2, s3, s4, s5, s6, s7, s8⟩ := cpSets
  have wm : W32 32768 := w_of _ (by omega) (by omega)
  have n1 := or_of hr.c wm
  have m0 := hide fun W => mix_any (w := rungV r) (v := l * 1024 % 4294967296) (B := 31744) (by unfold rungV; split; exact mix_w wm; exact hr.c) (w_of _ (by omega) (by omega)) (w_of _ (by omega) (by omega)) W
  have fin : ∀ c d : Array Value, Below w.heap.size w ((w.alloc (.cells c 34)).alloc (.cells d 34)) := fun c d => (grow _ _).alloc (by simp) _
  replace fin := hide fin
  obtain ⟨l0, l1⟩ := hl
  clear hr wm
  go_enter Tryz.func21, Tryz.ntmps21
  by_cases h : (r.n + 1) % 4294967296 = r.p
  · have hd : ((r.n + 1) % 4294967296 == r.p) = true := by simpa using h
    have hv : rungV r = mixV r.c 32768 32768 := by simp [rungV, h]
    rw [hv] at m0
    replace h := hide h
    replace hv := hide hv
    go_wp2_with fail
    refine (m0.out _).mono ?_
    rintro e w' ⟨rfl, rfl⟩
    go_wp2
    exact bodyPost_ret (v := .agg (cellsR (tickV r l))) (by simp [results, Tryz.results21, go_sem, t1, t3, t5, t6, t7, tickV, hv.out]) rfl ⟨rfl, fin.out _ _⟩
  · have hd : ((r.n + 1) % 4294967296 == r.p) = false := by simpa using h
    have hv : rungV r = r.c := by simp [rungV, h]
    rw [hv] at m0
    replace h := hide h
    replace hv := hide hv
    go_wp2_with fail
    refine (m0.out _).mono ?_
    rintro e w' ⟨rfl, rfl⟩
    go_wp2
    exact bodyPost_ret (v := .agg (cellsR (tickV r l))) (by simp [results, Tryz.results21, go_sem, t1, t3, t5, t6, t7, tickV, hv.out]) rfl ⟨rfl, fin.out _ _⟩

theorem pend_any {r : Regs} (hr : Wr r) (w : World) :
    Calls Tryz.prog 23 #[.agg (cellsR r)] w fun e w' => e = .returned (.bool (pendV r)) ∧ Below w.heap.size w w' := by
  obtain ⟨t1, t2, t3, t4, t5, t6, t7, t8, t9⟩ := cpRules
  obtain ⟨p0, p1, p2, p3, p4, p5, p6, p7, p8⟩ := cpParts
  have n1 := and_two hr.s 0 1 (by omega) (by omega)
  simp only [show ((2 ^ 1 + 2 ^ 0 : Nat) : Int) = 3 from rfl, show ((2 ^ 1 : Nat) : Int) = 2 from rfl, show ((2 ^ 0 : Nat) : Int) = 1 from rfl] at n1
  obtain ⟨x, hx⟩ : ∃ x, bits .and .u32 (bits .and .u32 r.s r.c) 65280 = x := ⟨_, rfl⟩
  unfold pendV
  rw [hx]
  clear hr
  go_enter Tryz.func23, Tryz.ntmps23
  cases h0 : bit r.s 0 <;> cases h1 : bit r.s 1 <;> simp only [h0, h1, Bool.false_eq_true, if_true, if_false, Int.add_zero, Int.zero_add, show (2 : Int) + 1 = 3 from rfl] at n1
  all_goals
    clear h0 h1
    go_wp2
    go_ret
    exact ⟨by simp, grow _ _⟩

theorem user_any {r : Regs} (hr : Wr r) (w : World) :
    Calls Tryz.prog 54 #[.agg (cellsR r)] w fun e w' => e = .returned (.bool (userV r)) ∧ Below w.heap.size w w' := by
  obtain ⟨t1, t2, t3, t4, t5, t6, t7, t8, t9⟩ := cpRules
  obtain ⟨p0, p1, p2, p3, p4, p5, p6, p7, p8⟩ := cpParts
  have n1 := and_two hr.s 1 4 (by omega) (by omega)
  simp only [show ((2 ^ 4 + 2 ^ 1 : Nat) : Int) = 18 from rfl, show ((2 ^ 1 : Nat) : Int) = 2 from rfl, show ((2 ^ 4 : Nat) : Int) = 16 from rfl] at n1
  unfold userV
  clear hr
  go_enter Tryz.func54, Tryz.ntmps54
  cases h0 : bit r.s 4 <;> cases h1 : bit r.s 1 <;> simp only [h0, h1, Bool.false_eq_true, if_true, if_false, Int.add_zero, Int.zero_add, show (16 : Int) + 2 = 18 from rfl] at n1
  all_goals
    clear h0 h1
    go_wp2
    go_ret
    exact ⟨rfl, grow _ _⟩

theorem raise_any {r : Regs} (hr : Wr r) (code : Int) (f : Bool) {pc : Int} (hp : W32 pc) (d : Bool) (w : World) :
    Calls Tryz.prog 29 #[.agg (cellsR r), .int .i64 code, .bool f, .int .u32 pc, .bool d] w fun e w' => e = .returned (.tuple #[.agg (cellsR (raiseV r code f pc d)), .int .u32 (toV r f)]) ∧ Below w.heap.size w w' := by
  obtain ⟨t1, t2, t3, t4, t5, t6, t7, t8, t9⟩ := cpRules
  obtain ⟨p0, p1, p2, p3, p4, p5, p6, p7, p8⟩ := cpParts
  obtain ⟨s0, s1, s2, s3, s4, s5, s6, s7, s8⟩ := cpSets
  have wm : W32 2147483648 := w_of _ (by omega) (by omega)
  have n1 := and_bit hr.s 1 (by omega)
  simp only [show ((2 ^ 1 : Nat) : Int) = 2 from rfl] at n1
  have n2 := or_of hr.s (m := 2) (w_of _ (by omega) (by omega))
  have m0 := hide fun c (hc : W32 c) W => mix_any (v := code % 4294967296 * 4 % 4294967296) (B := 124) hc (w_of _ (by omega) (by omega)) (w_of _ (by omega) (by omega)) W
  obtain ⟨E, hE⟩ : ∃ E : Int, E = if d then (pc - 4) % 4294967296 else pc := ⟨_, rfl⟩
  obtain ⟨C, hC⟩ : ∃ C : Int, C = mixV r.c (if d then 2147483648 else 0) 2147483648 := ⟨_, rfl⟩
  have hm : W32 C := by rw [hC]; exact mix_w wm
  have m1 := fun W => leave_any hr hp d W
  unfold leaveV at m1
  unfold raiseV toV
  rw [← hE, ← hC] at m1 ⊢
  replace m1 := hide m1
  replace m0 := hide (And.intro (m0.out C hm) (m0.out r.c hr.c))
  clear hE hC hm hr wm
  replace hp := hide hp
  have fin2 : ∀ c d : Array Value, Below w.heap.size w ((w.alloc (.cells c 34)).alloc (.cells d 34)) := fun c d => (grow _ _).alloc (by simp) _
  have fin4 : ∀ c d e f : Array Value, Below w.heap.size w ((((w.alloc (.cells c 34)).alloc (.cells d 34)).alloc (.cells e 34)).alloc (.cells f 34)) := fun c d e f => ((fin2 c d).alloc (by simp; omega) _).alloc (by simp; omega) _
  replace fin2 := hide fin2
  replace fin4 := hide fin4
  go_enter Tryz.func29, Tryz.ntmps29
  cases h1 : bit r.s 1
  · simp only [h1, Bool.false_eq_true, if_false] at n1 ⊢
    clear h1
    cases f
    all_goals
      go_wp2_with fail
      refine (m1.out _).mono ?_
      rintro e w1 ⟨rfl, rfl⟩
      go_wp2_with fail
      refine (m0.out.1 _).mono ?_
      rintro e w1 ⟨rfl, rfl⟩
      go_wp2
      refine bodyPost_ret (by simp [results, Tryz.results29, go_sem, t1, t3, t5, t6, t7]) rfl ⟨rfl, fin4.out _ _ _ _⟩
  · simp only [h1, if_true] at n1 ⊢
    clear h1
    go_wp2_with fail
    refine (m0.out.2 _).mono ?_
    rintro e w1 ⟨rfl, rfl⟩
    go_wp2
    refine bodyPost_ret (by simp [results, Tryz.results29, go_sem, t1, t3, t5, t6, t7]) rfl ⟨rfl, fin2.out _ _⟩

end Go.Proofs.YtmegghgjllbamaaGreatDoor.Cp
