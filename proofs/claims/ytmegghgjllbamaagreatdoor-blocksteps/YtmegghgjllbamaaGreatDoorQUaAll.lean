/- Layer 10: a uart as a row of three cells: its parts, and when two are the same; what its calls make of it, over texts. -/
import Derived.Test.YtmegghgjllbamaaGreatDoorQWholeAt
import Derived.ChangeKeysEq
import Derived.Laws.BytesArg
import Derived.Lib.Strings
import Derived.RegionTactic
import Derived.ChangeAlike
import Derived.Deep.RegionLaw
namespace Go.Proofs.YtmegghgjllbamaaGreatDoor.Ua
open Go.RowKit
set_option linter.unusedVariables false
set_option maxRecDepth 100000

/-- A uart: In, Out, On. -/
structure Ua where
  i : ByteArray
  o : ByteArray
  n : Bool
deriving DecidableEq

def cellsU (t : Ua) : Array Value := #[.string t.i, .string t.o, .bool t.n]

/-- Three, so spelt that no walk opens a row of them. -/
def N3 : Nat := 3

/-- The text of no bytes. -/
def E0 : ByteArray := ⟨#[]⟩

/-- The uart of nothing. -/
def U0 : Ua := ⟨⟨#[]⟩, ⟨#[]⟩, false⟩

theorem size_cellsU (t : Ua) : (cellsU t).size = N3 := rfl

theorem eqU_self (r : Ua) (w : World) : (Op.equalIn 10000 57 (.agg (cellsU r)) (.agg (cellsU r))).run Tryz.prog w = .ok true w := by
  have hu : Tryz.prog.underlying 57 = some (.struct (Tryz.prog.fieldsOf 57)) := by kernel_rfl
  have hp : Tryz.prog.stoodInHeld 57 = false := by kernel_rfl
  rw [run_equalIn_agg w 9999 57 _ _ hu hp]
  obtain ⟨r0, r1, r2⟩ := r
  simp only [cellsU]
  simp [go_sem]

theorem eq_self (r : Ua) (w : World) : (binOp .eql 57 (.agg (cellsU r)) (.agg (cellsU r))).run Tryz.prog w = .ok (.bool true) w := by
  rw [run_eql_struct, eqU_self]; rfl

theorem sizeU (w : World) : (sizeOf 57).run Tryz.prog w = .ok N3 w := Tryz.sizeOf57 w

theorem zeroU (w : World) : (zeroValue 57).run Tryz.prog w = .ok (.agg (cellsU U0)) w := Tryz.zeroValue57 w

theorem loadU (w : World) (b : Nat) (h : isRow w b = true) (hn : (rowAt w b).size = N3) : (loadCellsFrom ⟨b, 0, none⟩ 0 N3 #[]).run Tryz.prog w = .ok (rowAt w b) w :=
  load_rowAt Tryz.prog w b N3 h hn

theorem storeU (r : Ua) (w : World) (b : Nat) (h : isRow w b = true) (hn : (rowAt w b).size = N3) : (storeCells ⟨b, 0, none⟩ (cellsU r).toList 0).run Tryz.prog w = .ok () (w.setRow b (cellsU r)) := by
  refine store_rowAt Tryz.prog w b _ h (by rw [hn, size_cellsU]) fun v hv => ?_
  simp only [cellsU, List.mem_cons] at hv
  rcases hv with rfl | rfl | rfl | hv
  all_goals first | rfl | simp at hv

theorem loadSetU (r : Ua) (w : World) (b : Nat) (h : isRow w b = true) : (loadCellsFrom ⟨b, 0, none⟩ 0 N3 #[]).run Tryz.prog (w.setRow b (cellsU r)) = .ok (cellsU r) (w.setRow b (cellsU r)) := by
  have := loadU (w.setRow b (cellsU r)) b (by rw [isRow_setRow, h]) (by rw [rowAt_setRow w b _ h, size_cellsU])
  rwa [rowAt_setRow w b _ h] at this

/-- What walks over uarts are told. -/
theorem uaRules : (∀ w : World, (sizeOf 57).run Tryz.prog w = .ok N3 w) ∧ (∀ w : World, (zeroValue 57).run Tryz.prog w = .ok (.agg (cellsU U0)) w) ∧
    (∀ r : Ua, (cellsU r).size = N3) ∧
    (∀ (r : Ua) (w : World) (b : Nat), isRow w b = true → (rowAt w b).size = N3 → (storeCells ⟨b, 0, none⟩ (cellsU r).toList 0).run Tryz.prog w = .ok () (w.setRow b (cellsU r))) ∧
    (∀ (w : World) (b : Nat), isRow w b = true → (rowAt w b).size = N3 → (loadCellsFrom ⟨b, 0, none⟩ 0 N3 #[]).run Tryz.prog w = .ok (rowAt w b) w) ∧
    (∀ (w : World) (c : Array Value) (t : TypeId) (n : Nat), rowAt (w.alloc (.cells c t)) n = if n = w.heap.size then c else rowAt w n) ∧
    (∀ (w : World) (c : Array Value) (t : TypeId) (n : Nat), isRow (w.alloc (.cells c t)) n = if n = w.heap.size then true else isRow w n) ∧
    (∀ (w : World) (c c' : Array Value) (t : TypeId) (n : Nat), (w.alloc (.cells c t)).setRow n c' = if n = w.heap.size then w.alloc (.cells c' t) else (w.setRow n c').alloc (.cells c t)) ∧
    (∀ (r : Ua) (w : World) (b : Nat), isRow w b = true → (loadCellsFrom ⟨b, 0, none⟩ 0 N3 #[]).run Tryz.prog (w.setRow b (cellsU r)) = .ok (cellsU r) (w.setRow b (cellsU r))) :=
  ⟨sizeU, zeroU, size_cellsU, storeU, loadU, rowAt_alloc, isRow_alloc, setRow_alloc, loadSetU⟩

/-- The parts of a uart, and what a store into one makes of it. -/
theorem uaParts : (∀ r : Ua, (cellsU r)[0]? = some (.string r.i)) ∧ (∀ r : Ua, (cellsU r)[1]? = some (.string r.o)) ∧ (∀ r : Ua, (cellsU r)[2]? = some (.bool r.n)) :=
  ⟨fun _ => rfl, fun _ => rfl, fun _ => rfl⟩

theorem uaSets : (∀ (r : Ua) (x : ByteArray), (cellsU r).setIfInBounds 0 (.string x) = cellsU { r with i := x }) ∧ (∀ (r : Ua) (x : ByteArray), (cellsU r).setIfInBounds 1 (.string x) = cellsU { r with o := x }) ∧
    (∀ (r : Ua) (x : Bool), (cellsU r).setIfInBounds 2 (.bool x) = cellsU { r with n := x }) :=
  ⟨fun _ _ => rfl, fun _ _ => rfl, fun _ _ => rfl⟩

theorem uaDrew : (∀ (w : World) (b : Nat), rowAt w.drew b = rowAt w b) ∧ (∀ (w : World) (b : Nat), isRow w.drew b = isRow w b) ∧ (∀ (w : World) (n : Nat) (c : Array Value), w.drew.setRow n c = (w.setRow n c).drew) :=
  ⟨rowAt_drew, isRow_drew, fun _ _ _ => rfl⟩

theorem grow (w : World) (o : Obj) : Below w.heap.size w (w.alloc o) := (Below.refl _ w).alloc (Nat.le_refl _) o

theorem onto {n : Nat} {w x y : World} (h : Below n w x) (hn : n ≤ w.heap.size) (k : Below x.heap.size x y) : Below n w y := h.trans (k.mono (Nat.le_trans hn h.size))

/-- A uart in block b. -/
def Rat (w : World) (b : Nat) (r : Ua) : Prop := isRow w b = true ∧ rowAt w b = cellsU r ∧ b < w.heap.size

theorem Rat.on {w y : World} {b : Nat} {r : Ua} (h : Rat w b r) (hb : Below w.heap.size w y) : Rat y b r :=
  ⟨by rw [(brow hb).2 _ h.2.2]; exact h.1, by rw [(brow hb).1 _ h.2.2]; exact h.2.1, Nat.lt_of_lt_of_le h.2.2 hb.size⟩

theorem Rat.new (w : World) (r : Ua) (t : TypeId) : Rat (w.alloc (.cells (cellsU r) t)) w.heap.size r := ⟨isRow_new _ _ _, rowAt_new _ _ _, by simp⟩

theorem Rat.load {w : World} {b : Nat} {r : Ua} (h : Rat w b r) : (loadCellsFrom ⟨b, 0, none⟩ 0 N3 #[]).run Tryz.prog w = .ok (cellsU r) w := by
  have := loadU w b h.1 (by rw [h.2.1, size_cellsU])
  rwa [h.2.1] at this

theorem Rat.cell {w : World} {b : Nat} {r : Ua} (h : Rat w b r) (j : Nat) : w.cell? ⟨b, j, none⟩ = (cellsU r)[j]? := by
  rw [cell_rowAt w b j h.1, h.2.1]

theorem Rat.three {w : World} {b : Nat} {r : Ua} (h : Rat w b r) : w.cell? ⟨b, 0, none⟩ = some (.string r.i) ∧ w.cell? ⟨b, 1, none⟩ = some (.string r.o) ∧ w.cell? ⟨b, 2, none⟩ = some (.bool r.n) :=
  ⟨h.cell 0, h.cell 1, h.cell 2⟩

theorem Rat.set {w : World} {b : Nat} {r : Ua} (h : Rat w b r) (q : Ua) : Rat (w.setRow b (cellsU q)) b q :=
  ⟨by rw [isRow_setRow]; exact h.1, rowAt_setRow w b _ h.1, by rw [setRow_size]; exact h.2.2⟩

theorem Rat.setFar {w : World} {b : Nat} {r : Ua} (h : Rat w b r) (g : Nat) (c : Array Value) (hg : b < g) : Rat (w.setRow g c) b r :=
  ⟨by rw [isRow_setRow]; exact h.1, by rw [rowAt_setRow_lt w g c b hg]; exact h.2.1, by rw [setRow_size]; exact h.2.2⟩

theorem Rat.setFar' {w : World} {b : Nat} {r : Ua} (h : Rat w b r) (g : Nat) (c : Array Value) (hg : ¬ b = g) : Rat (w.setRow g c) b r :=
  ⟨by rw [isRow_setRow]; exact h.1, by rw [rowAt_of (setRow_other w g b c hg)]; exact h.2.1, by rw [setRow_size]; exact h.2.2⟩

/-- A byte as a text. -/
def byteT (c : Int) : ByteArray := strOfNums [c]

theorem byteT_size (c : Int) : (byteT c).size = 1 := strOfNums_size _

/-- How many bytes a uart may have. -/
structure Fits (u : Ua) : Prop where
  i : u.i.size ≤ 16
  o : u.o.size ≤ 64

/-- Byte number k of a text (0 behind its end). -/
def byteN (s : ByteArray) (k : Nat) : Nat := (s.data.toList.map UInt8.toNat).getD k 0

theorem byteN_in (s : ByteArray) (k : Nat) (h : k < s.size) : byteN s k = s[k].toNat := by
  unfold byteN
  have h' : k < s.data.toList.length := by simpa using h
  rw [List.getD_eq_getElem?_getD, List.getElem?_map, List.getElem?_eq_getElem h']
  rfl

theorem byteN_out (s : ByteArray) (k : Nat) (h : ¬ k < s.size) : byteN s k = 0 := by
  unfold byteN
  have h' : ¬ k < s.data.toList.length := by simpa using h
  rw [List.getD_eq_getElem?_getD, List.getElem?_map, List.getElem?_eq_none (by omega)]
  rfl

theorem byteN_lt (s : ByteArray) (k : Nat) : byteN s k < 256 := by
  unfold byteN
  rw [List.getD_eq_getElem?_getD, List.getElem?_map]
  cases s.data.toList[k]? with
  | none => decide
  | some b => exact b.toNat_lt

/-- A register, the uart then, and whether there is one. -/
def readV (u : Ua) (g : Int) : Int := if g = 0 then byteN u.i 0 else if g = 4 then u.i.size else if g = 8 then u.o.size % 256 else 0
def leftV (u : Ua) (g : Int) : Ua := if g = 0 then { u with i := u.i.extract 1 u.i.size } else if g = 4 then u else if g = 8 then u else U0
def formV (g : Int) : Int := if g = 0 then 0 else if g = 4 then 0 else if g = 8 then 0 else 100

/-- The last 64 bytes, of at most 65. -/
def lastV (s : ByteArray) : ByteArray := if 64 < s.size then s.extract 1 s.size else s

/-- What a write makes of a uart. -/
def writeV (u : Ua) (g v : Int) : Ua := if g = 0 then { u with o := lastV (u.o ++ byteT (v % 256)) } else if g = 4 then { u with n := v % 2 == 1 } else if g = 8 then { u with o := ⟨#[]⟩ } else U0

/-- What a byte that comes in makes of it. -/
def feedV (u : Ua) (c : Int) : Ua := if u.i.size < 16 then { u with i := u.i ++ byteT c } else u

end Go.Proofs.YtmegghgjllbamaaGreatDoor.Ua

/- Layer 10: contracts of the registers and of the bytes that come in, the program's. -/
namespace Go.Proofs.YtmegghgjllbamaaGreatDoor.Ua
open Go.RowKit
set_option linter.unusedVariables false
set_option maxRecDepth 100000
set_option linter.unusedSimpArgs false

theorem conv_new (w : World) (ns : List Int) (m : Nat) (hm : ns.length = m) :
    (convert 53 9 (.slice (some ⟨w.heap.size, 0, none⟩) m m)).run Tryz.prog (w.alloc (.cells (ns.map (Value.int .u8)).toArray 5)) = .ok (.string (strOfNums ns)) (w.alloc (.cells (ns.map (Value.int .u8)).toArray 5)) := by
  refine run_convert_bytes_arg _ 53 5 Tryz.underlying53 Tryz.underlying5 w.heap.size 0 m m ns hm ?_ 9 Tryz.underlying9
  intro i hi
  rw [Nat.zero_add, World.cell?_alloc_new]
  simp [List.getD, show i < ns.length by omega]

theorem conv_one (c : Int) (x : World) : (convert 53 9 (.slice (some ⟨x.heap.size, 0, none⟩) 1 1)).run Tryz.prog (x.alloc (.cells #[.int .u8 c] 5)) = .ok (.string (byteT c)) (x.alloc (.cells #[.int .u8 c] 5)) :=
  conv_new x [c] 1 rfl

theorem behind_any (s : ByteArray) (hs : s.size ≤ 1000000) (c : Int) (w : World) :
    Calls Tryz.prog 104 #[.string s, .int .u8 c] w fun e w' => e = .returned (.string (s ++ byteT c)) ∧ w' = w.alloc (.cells #[.int .u8 c] 5) := by
  have hc := fun x => conv_one c x
  have hz := byteT_size c
  generalize byteT c = t at *
  go_enter Tryz.func104, Tryz.ntmps104
  go_wp2
  go_ret
  exact ⟨rfl, rfl⟩

/-- None of the three. -/
def Nor (g : Int) : Prop := ¬ g = 0 ∧ ¬ g = 4 ∧ ¬ g = 8

theorem reg_is (g : Int) : g = 0 ∨ g = 4 ∨ g = 8 ∨ Nor g := by
  unfold Nor
  omega

theorem Nor.tests {g : Int} (h : Nor g) : (g == 0) = false ∧ (g == 4) = false ∧ (g == 8) = false := by
  unfold Nor at h
  simp [h]

theorem Nor.read {g : Int} (h : Nor g) (t : Ua) : readV t g = 0 := by simp [readV, h.1, h.2.1, h.2.2]
theorem Nor.left {g : Int} (h : Nor g) (t : Ua) : leftV t g = U0 := by simp [leftV, h.1, h.2.1, h.2.2]
theorem Nor.form {g : Int} (h : Nor g) : formV g = 100 := by simp [formV, h.1, h.2.1, h.2.2]
theorem Nor.write {g : Int} (h : Nor g) (t : Ua) (v : Int) : writeV t g v = U0 := by simp [writeV, h.1, h.2.1, h.2.2]

theorem empty_iff (s : ByteArray) : s.toList.isEmpty = decide (s.size = 0) := by
  rw [ByteArray.toList_eq, Bool.eq_iff_iff, List.isEmpty_iff, decide_eq_true_iff, ← ByteArray.size_data, ← Array.length_toList, List.length_eq_zero_iff]

theorem none_left {s : ByteArray} (h : s.size = 0) : s.extract 1 s.size = s := by
  apply ByteArray.ext
  rw [ByteArray.data_extract, h]
  apply Array.ext
  · simp [h]
  · intro i h1 h2
    simp at h1

theorem ring_any (u : Ua) (w : World) :
    Calls Tryz.prog 84 #[.agg (cellsU u)] w fun e w' => e = .returned (.bool (u.n && decide (¬ u.i.size = 0))) ∧ Below w.heap.size w w' := by
  obtain ⟨t1, t2, t3, t4, t5, t6, t7, t8, t9⟩ := uaRules
  obtain ⟨p0, p1, p2⟩ := uaParts
  have he := empty_iff u.i
  obtain ⟨i, o, n⟩ := u
  simp only at he
  cases n
  · go_enter Tryz.func84, Tryz.ntmps84
    go_wp2
    go_ret
    exact ⟨rfl, grow _ _⟩
  · have hf : (!i.toList.isEmpty) = (true && decide (¬ i.size = 0)) := by rw [he]; simp
    rw [← hf]
    clear hf he
    go_enter Tryz.func84, Tryz.ntmps84
    go_wp2
    go_ret
    exact ⟨rfl, grow _ _⟩

set_option maxHeartbeats 1000000 in
theorem read_any (u : Ua) (hu : Fits u) (g : Int) (w : World) :
    Calls Tryz.prog 134 #[.agg (cellsU u), .int .u32 g] w fun e w' => e = .returned (.tuple #[.int .u32 (readV u g), .agg (cellsU (leftV u g)), .int .i64 (formV g)]) ∧ Below w.heap.size w w' := by
  obtain ⟨t1, t2, t3, t4, t5, t6, t7, t8, t9⟩ := uaRules
  obtain ⟨p0, p1, p2⟩ := uaParts
  obtain ⟨s0, s1, s2⟩ := uaSets
  obtain ⟨d1, d2, d3⟩ := uaDrew
  have fin : ∀ c d : Array Value, Below w.heap.size w ((w.alloc (.cells c 57)).alloc (.cells d 57)) := fun c d => (grow _ _).alloc (by simp) _
  replace fin := hide fin
  obtain ⟨hi, ho⟩ := hu
  have he := empty_iff u.i
  rcases reg_is g with rfl | rfl | rfl | h
  · by_cases hz : u.i.size = 0
    · have e1 : readV u 0 = 0 := by simp [readV, byteN_out u.i 0 (by omega)]
      have e2 : leftV u 0 = u := by
        unfold leftV
        rw [if_pos rfl, none_left hz]
      rw [e1, e2]
      have hd : u.i.toList.isEmpty = true := by rw [he]; simpa using hz
      clear he
      go_enter Tryz.func134, Tryz.ntmps134
      go_wp2
      go_region
      go_wp2
      exact bodyPost_ret (v := .tuple #[.int .u32 0, .agg (cellsU u), .int .i64 0]) (by simp [results, Tryz.results134, go_sem, t1, t3, t5, t6, t7, d1, d2]) rfl ⟨rfl, (fin.out _ _).drew⟩
    · have e1 : readV u 0 = (u.i[0]'(by omega)).toNat := by simp [readV, byteN_in u.i 0 (by omega)]
      have e2 : leftV u 0 = { u with i := u.i.extract 1 u.i.size } := rfl
      rw [e1, e2]
      have hd : u.i.toList.isEmpty = false := by rw [he]; simpa using hz
      have hb : (u.i[0]'(by omega)).toNat < 256 := (u.i[0]'(by omega)).toNat_lt
      have hw : ((u.i[0]'(by omega)).toNat : Int) % 4294967296 = ((u.i[0]'(by omega)).toNat : Int) := by omega
      clear he
      go_enter Tryz.func134, Tryz.ntmps134
      go_wp2
      go_region
      go_wp2
      exact bodyPost_ret (v := .tuple #[.int .u32 ((u.i[0]'(by omega)).toNat : Int), .agg (cellsU { u with i := u.i.extract 1 u.i.size }), .int .i64 0]) (by simp [hw, results, Tryz.results134, go_sem, t1, t3, t5, t6, t7, d1, d2]) rfl ⟨rfl, (fin.out _ _).drew⟩
  · go_enter Tryz.func134, Tryz.ntmps134
    go_wp2
    go_region
    go_wp2
    exact bodyPost_ret (v := .tuple #[.int .u32 (u.i.size : Int), .agg (cellsU u), .int .i64 0]) (by simp [results, Tryz.results134, go_sem, t1, t3, t5, t6, t7, d1, d2]) rfl ⟨rfl, (fin.out _ _).drew⟩
  · go_enter Tryz.func134, Tryz.ntmps134
    have hr : (u.o.size : Int).tmod 256 = (u.o.size : Int) % 256 := Int.tmod_eq_emod_of_nonneg (by omega)
    have hr2 : (u.o.size : Int) % 256 = (u.o.size : Int) := by omega
    go_wp2
    go_region
    go_wp2
    exact bodyPost_ret (v := .tuple #[.int .u32 (readV u 8), .agg (cellsU u), .int .i64 0]) (by simp [results, Tryz.results134, go_sem, t1, t3, t5, t6, t7, d1, d2, readV, hr2]) rfl ⟨rfl, (fin.out _ _).drew⟩
  · rw [h.read, h.form, h.left]
    obtain ⟨h0, h1, h2⟩ := h.tests
    clear h
    go_enter Tryz.func134, Tryz.ntmps134
    go_wp2
    exact bodyPost_ret (v := .tuple #[.int .u32 0, .agg (cellsU U0), .int .i64 100]) (by simp [results, Tryz.results134, go_sem, t1, t3, t5, t6, t7]) rfl ⟨rfl, fin.out _ _⟩

end Go.Proofs.YtmegghgjllbamaaGreatDoor.Ua

/- Layer 10: contracts of what is written, and of a byte that comes in. -/
namespace Go.Proofs.YtmegghgjllbamaaGreatDoor.Ua
open Go.RowKit
set_option linter.unusedVariables false
set_option maxRecDepth 100000
set_option linter.unusedSimpArgs false

/-- The next operation is a call of this function. -/
theorem at_func {P : Program} {w : World} {ops : Array Oper} {o : Oper} {a : Act} {K : Act → World → Prop} {Q : Exit → Act → World → Prop} {E : Prop} (f : FuncId) (x : Operand) (t : TypeId)
    (hop : o.op = Op.call { callee := Callee.value (Operand.func f), args := #[x], argTypes := #[t] })
    (h : if Region.wanted o (yielded ops a.tmps) = true then Oper.wp P o a w K Q else E) : if Region.wanted o (yielded ops a.tmps) = true then Oper.wp P o a w K Q else E := h

theorem wrap_id (v : Int) (h0 : 0 ≤ v) (h1 : v < 4294967296) : IntKind.i64.wrap v = v := by
  rw [IntKind.wrap_i64]
  omega

/-- Two texts, one behind the other. -/
theorem run_cat (a b : ByteArray) (h : a.size + b.size ≤ 1000000) (w : World) : (binOp .add 9 (.string a) (.string b)).run Tryz.prog w = .ok (.string (a ++ b)) w := by
  have h' : ¬ 9223372036854775807 < a.size + b.size := by omega
  simp [go_sem, h']

theorem run_max0 (n : Int) (w : World) : (Builtin.max_ #[3, 3] 3 #[.int .i64 n, .int .i64 0]).run Tryz.prog w = .ok (.int .i64 (if 0 ≤ n then n else 0)) w := by
  rw [run_max_int2]
  congr 2
  split <;> split <;> omega

theorem u32_low1 (v : Int) (h0 : 0 ≤ v) (h1 : v < 4294967296) : bits .and .u32 v 1 = v % 2 := by
  rw [u32_and v 1 h0 h1 (by decide) (by decide)]
  rw [show (1 : Int).toNat = 2 ^ 1 - 1 from rfl, Nat.and_two_pow_sub_one_eq_mod]
  omega

/-- The last 64 bytes of at most 65, as the program cuts them. -/
theorem last_cut {s : ByteArray} (h : s.size ≤ 65) (n : Nat) (hn : (n : Int) = if 0 ≤ (s.size : Int) - 64 then (s.size : Int) - 64 else 0) : s.extract n s.size = lastV s := by
  unfold lastV
  split at hn
  · by_cases h1 : s.size = 64
    · rw [if_neg (by omega), show n = 0 by omega, ByteArray.extract_zero_size]
    · rw [if_pos (by omega), show n = 1 by omega]
  · rw [if_neg (by omega), show n = 0 by omega, ByteArray.extract_zero_size]

set_option maxHeartbeats 1000000 in
theorem write_any (u : Ua) (hu : Fits u) (g v : Int) (h0 : 0 ≤ v) (h1 : v < 4294967296) (w : World) :
    Calls Tryz.prog 67 #[.agg (cellsU u), .int .u32 g, .int .u32 v] w fun e w' => e = .returned (.tuple #[.agg (cellsU (writeV u g v)), .int .i64 (formV g)]) ∧ Below w.heap.size w w' := by
  obtain ⟨t1, t2, t3, t4, t5, t6, t7, t8, t9⟩ := uaRules
  obtain ⟨p0, p1, p2⟩ := uaParts
  obtain ⟨s0, s1, s2⟩ := uaSets
  obtain ⟨d1, d2, d3⟩ := uaDrew
  have fin : ∀ c d : Array Value, Below w.heap.size w ((w.alloc (.cells c 57)).alloc (.cells d 57)) := fun c d => (grow _ _).alloc (by simp) _
  replace fin := hide fin
  obtain ⟨hi, ho⟩ := hu
  rcases reg_is g with rfl | rfl | rfl | h
  · have hv : writeV u 0 v = { u with o := lastV (u.o ++ byteT (v % 256)) } := rfl
    rw [hv]
    have c := hide fun W => behind_any u.o (by omega) (v % 256) W
    have hz : (u.o ++ byteT (v % 256)).size = u.o.size + 1 := by rw [ByteArray.size_append, byteT_size]
    generalize u.o ++ byteT (v % 256) = s at *
    have hm := fun w => run_max0 ((s.size : Int) - 64) w
    obtain ⟨n, hn⟩ : ∃ n : Nat, (n : Int) = if 0 ≤ (s.size : Int) - 64 then (s.size : Int) - 64 else 0 := ⟨((if 0 ≤ (s.size : Int) - 64 then (s.size : Int) - 64 else 0 : Int)).toNat, by split <;> omega⟩
    have hl := last_cut (by omega) n hn
    simp only [← hn] at hm
    have hns : n ≤ s.size := by split at hn <;> omega
    rw [← hl]
    have hz' : s.size ≤ 65 := by omega
    clear hn hl hz hv
    go_enter Tryz.func67, Tryz.ntmps67
    go_wp2_with fail
    refine (c.out _).mono ?_
    rintro e w1 ⟨rfl, rfl⟩
    clear c
    go_wp2
    exact bodyPost_ret (v := .tuple #[.agg (cellsU { u with o := s.extract n s.size }), .int .i64 0]) (by simp [results, Tryz.results67, go_sem, t1, t3, t5, t6, t7]) rfl ⟨rfl, (fin.out _ _).alloc (by simp; omega) _⟩
  · have hv : writeV u 4 v = { u with n := v % 2 == 1 } := rfl
    rw [hv]
    have hb := u32_low1 v h0 h1
    go_enter Tryz.func67, Tryz.ntmps67
    go_wp2
    exact bodyPost_ret (v := .tuple #[.agg (cellsU { u with n := v % 2 == 1 }), .int .i64 0]) (by simp [results, Tryz.results67, go_sem, t1, t3, t5, t6, t7]) rfl ⟨rfl, fin.out _ _⟩
  · go_enter Tryz.func67, Tryz.ntmps67
    go_wp2
    exact bodyPost_ret (v := .tuple #[.agg (cellsU { u with o := ⟨#[]⟩ }), .int .i64 0]) (by simp [results, Tryz.results67, go_sem, t1, t3, t5, t6, t7]) rfl ⟨rfl, fin.out _ _⟩
  · rw [h.write, h.form]
    obtain ⟨h0, h1, h2⟩ := h.tests
    clear h
    go_enter Tryz.func67, Tryz.ntmps67
    go_wp2
    exact bodyPost_ret (v := .tuple #[.agg (cellsU U0), .int .i64 100]) (by simp [results, Tryz.results67, go_sem, t1, t3, t5, t6, t7]) rfl ⟨rfl, fin.out _ _⟩

end Go.Proofs.YtmegghgjllbamaaGreatDoor.Ua

/- Layer 10: contracts of a byte that comes in, the program's and the document's, and of a uart with no more than it may have. -/
namespace Go.Proofs.YtmegghgjllbamaaGreatDoor.Ua
open Go.RowKit
set_option linter.unusedVariables false
set_option maxRecDepth 100000
set_option linter.unusedSimpArgs false

/-- At most n bytes. -/
def headV (s : ByteArray) (n : Nat) : ByteArray := s.extract 0 (if s.size ≤ n then s.size else n)

/-- A uart with no more than it may have. -/
def boundV (u : Ua) : Ua := ⟨headV u.i 16, headV u.o 64, u.n⟩

theorem head_size (s : ByteArray) (n : Nat) : (headV s n).size ≤ n := by
  unfold headV
  rw [ByteArray.size_extract]
  split <;> omega

theorem bound_fits (u : Ua) : Fits (boundV u) := ⟨head_size _ _, head_size _ _⟩

theorem run_minN (n m : Nat) (k : Int) (hk : (m : Int) = k) (w : World) : (Builtin.min_ #[3, 3] 3 #[.int .i64 n, .int .i64 k]).run Tryz.prog w = .ok (.int .i64 ((if n ≤ m then n else m : Nat) : Int)) w := by
  subst hk
  rw [run_min_int2]
  congr 2
  split <;> split <;> omega

end Go.Proofs.YtmegghgjllbamaaGreatDoor.Ua
