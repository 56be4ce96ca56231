/- Layers 18 to 20: rows in blocks, what a call may change, rows of bytes and their texts. -/
import Derived.Test.YtgffhnggocbjhaaQWholeAt
import Derived.Laws.IdiomCopy
import Derived.Laws.MakeOwn
import Derived.Maps.Own
import Derived.ChangeKeysEq
import Derived.OwnWalk
import Derived.Deep.RegionHeld3
import Derived.Shelf.SlicesE.Clone
import Derived.Maps.AppendAt
import Derived.Laws.OwnMore
import Derived.Lib.AppendStr
namespace Go.Proofs.Ytgffhnggocbjhaa
open Go.RowKit
set_option linter.unusedVariables false
set_option maxRecDepth 100000
set_option linter.unusedSimpArgs false

/-- A row that lies in blocks of F alone. -/
def Row (w : World) (F : Nat → Prop) (t : TypeId) (size : Nat) (v : Value) (n : Nat) (xs : List Value) : Prop :=
  w.ownsRow 0 t size v n xs ∧ ∀ k, v.ownBlock = some k → F k

theorem Row.keep {w y : World} {F : Nat → Prop} {t : TypeId} {size n : Nat} {v : Value} {xs : List Value} (h : Row w F t size v n xs)
    (hk : ∀ k, F k → k < w.heap.size → y.heap[k]? = w.heap[k]?) : Row y F t size v n xs := by
  refine ⟨⟨h.1.1, ?_⟩, h.2⟩
  rcases h.1.2 with hn | ⟨g, cap, cur, rfl, hb, hgg, rest⟩
  · exact .inl hn
  · exact .inr ⟨g, cap, cur, rfl, hb, (hk g (h.2 g rfl) (Array.getElem?_eq_some_iff.1 hgg).1).trans hgg, rest⟩

theorem Row.mono {w : World} {F G : Nat → Prop} {t : TypeId} {size n : Nat} {v : Value} {xs : List Value} (h : Row w F t size v n xs) (hG : ∀ k, F k → k < w.heap.size → G k) : Row w G t size v n xs :=
  ⟨h.1, fun k hk => hG k (h.2 k hk) (h.1.lt k hk).2⟩

theorem Row.on {w y : World} {F : Nat → Prop} {t : TypeId} {size n : Nat} {v : Value} {xs : List Value} (h : Row w F t size v n xs) (hb : Below w.heap.size w y) : Row y F t size v n xs :=
  h.keep fun k _ hk => hb.block k hk

theorem Row.of_own {w : World} {B : Nat} {t : TypeId} {size n : Nat} {v : Value} {xs : List Value} (h : w.ownsRow B t size v n xs) : Row w (fun k => B ≤ k) t size v n xs := by
  refine ⟨⟨h.1, ?_⟩, fun k hk => (h.lt k hk).1⟩
  rcases h.2 with hn | ⟨g, cap, cur, rfl, hb, rest⟩
  · exact .inl hn
  · exact .inr ⟨g, cap, cur, rfl, Nat.zero_le _, rest⟩

/-- Just blocks of F may have changed, and new ones may be there. -/
structure Turn (F : Nat → Prop) (w y : World) : Prop where
  os : y.os = w.os
  tape : y.tape = w.tape
  output : y.output = w.output
  size : w.heap.size ≤ y.heap.size
  block : ∀ k, k < w.heap.size → ¬ F k → y.heap[k]? = w.heap[k]?

theorem Turn.refl (F : Nat → Prop) (w : World) : Turn F w w := ⟨rfl, rfl, rfl, Nat.le_refl _, fun _ _ _ => rfl⟩
theorem Turn.of {F : Nat → Prop} {w y : World} (h : Below w.heap.size w y) : Turn F w y := ⟨h.os, h.tape, h.output, h.size, fun k hk _ => h.block k hk⟩
theorem Turn.trans {F G : Nat → Prop} {w x y : World} (h : Turn F w x) (k : Turn G x y) (hG : ∀ b, G b → F b ∨ w.heap.size ≤ b) : Turn F w y :=
  ⟨k.os.trans h.os, k.tape.trans h.tape, k.output.trans h.output, Nat.le_trans h.size k.size,
    fun b hb hF => (k.block b (Nat.lt_of_lt_of_le hb h.size) (fun g => (hG b g).elim hF (by omega))).trans (h.block b hb hF)⟩
theorem Turn.mono {F G : Nat → Prop} {w y : World} (h : Turn F w y) (hG : ∀ b, b < w.heap.size → F b → G b) : Turn G w y := ⟨h.os, h.tape, h.output, h.size, fun k hk hn => h.block k hk (fun f => hn (hG k hk f))⟩
theorem Turn.below {F : Nat → Prop} {w y : World} {B : Nat} (h : Turn F w y) (hB : B ≤ w.heap.size) (hF : ∀ b, F b → B ≤ b) : Below B w y :=
  ⟨h.os, h.tape, h.output, h.size, fun k hk => h.block k (Nat.lt_of_lt_of_le hk hB) (fun f => by have := hF k f; omega)⟩

theorem grow (w : World) (o : Obj) : Below w.heap.size w (w.alloc o) := (Below.refl _ w).alloc (Nat.le_refl _) o
theorem onto {n : Nat} {w x y : World} (h : Below n w x) (hn : n ≤ w.heap.size) (k : Below x.heap.size x y) : Below n w y := h.trans (k.mono (Nat.le_trans hn h.size))

/-- A row of cells in a block. -/
def Box (w : World) (b : Nat) (c : Array Value) : Prop := isRow w b = true ∧ rowAt w b = c ∧ b < w.heap.size

theorem Box.new (w : World) (c : Array Value) (t : TypeId) : Box (w.alloc (.cells c t)) w.heap.size c := ⟨isRow_new _ _ _, rowAt_new _ _ _, by simp⟩

theorem Box.of_heap {w y : World} {b : Nat} {c : Array Value} (h : Box w b c) (e : y.heap[b]? = w.heap[b]?) : Box y b c := by
  refine ⟨by rw [isRow_of e]; exact h.1, by rw [rowAt_of e]; exact h.2.1, ?_⟩
  obtain ⟨t, ht⟩ := isRow_some h.1
  rw [ht] at e
  exact (Array.getElem?_eq_some_iff.1 e).1

theorem Box.on {w y : World} {b : Nat} {c : Array Value} (h : Box w b c) (hb : Below w.heap.size w y) : Box y b c := h.of_heap (hb.block b h.2.2)

theorem Box.cell {w : World} {b : Nat} {c : Array Value} (h : Box w b c) (j : Nat) : w.cell? ⟨b, j, none⟩ = c[j]? := by rw [cell_rowAt w b j h.1, h.2.1]

theorem Box.free {w : World} {b : Nat} {c : Array Value} (h : Box w b c) (j : Nat) : w.frozen? ⟨b, j, none⟩ = false := frozen_rowAt w b j h.1

/-- A store into one cell of a row, as a row. -/
theorem setCell_row (b : Nat) (w : World) (k : Nat) (v : Value) (h : isRow w b = true) : w.setCell ⟨b, k, none⟩ v = w.setRow b ((rowAt w b).setIfInBounds k v) := by
  obtain ⟨t, e⟩ := isRow_some h
  exact setCell_eq_setRow w b k _ t _ v e

theorem Box.set {w : World} {b : Nat} {c : Array Value} (h : Box w b c) (k : Nat) (v : Value) : Box (w.setCell ⟨b, k, none⟩ v) b (c.setIfInBounds k v) := by
  rw [setCell_row b w k v h.1, h.2.1]
  exact ⟨by rw [isRow_setRow]; exact h.1, rowAt_setRow w b _ h.1, by rw [setRow_size]; exact h.2.2⟩

theorem Box.drew {w : World} {b : Nat} {c : Array Value} (h : Box w b c) : Box w.drew b c := h

/-- The text of a row of bytes. -/
def textOf (n : Nat) (f : Nat → Nat) : ByteArray := strOfNums ((List.range n).map fun j => ((f j : Nat) : Int))

theorem textOf_size (n : Nat) (f : Nat → Nat) : (textOf n f).size = n := by
  unfold textOf
  rw [strOfNums_size, List.length_map, List.length_range]

theorem made_flat {z : Value} {m o : Nat} (h : o < m) : (madeCells #[z] m)[o]? = some z := by
  unfold madeCells
  rw [Array.getElem?_map, Array.getElem?_range, if_pos h]
  simp [Nat.mod_one]

/-- A row of n bytes in block B: cell j holds f j, and may be written. -/
structure RowIs (w : World) (B n : Nat) (f : Nat → Nat) : Prop where
  lt : B < w.heap.size
  cell : ∀ j, j < n → w.cell? ⟨B, j, none⟩ = some (.int .u8 ((f j : Nat) : Int))
  free : ∀ j, j < n → w.frozen? ⟨B, j, none⟩ = false

theorem RowIs.set {w : World} {B n : Nat} {f : Nat → Nat} (h : RowIs w B n f) {k : Nat} (hk : k < n) (v : Nat) :
    RowIs (w.setCell ⟨B, k, none⟩ (.int .u8 ((v : Nat) : Int))) B n (fun j => if j = k then v else f j) := by
  refine ⟨by rw [World.size_setCell]; exact h.lt, fun j hj => ?_, fun j hj => by rw [World.frozen?_setCell]; exact h.free j hj⟩
  by_cases e : j = k
  · subst e
    rw [World.cell?_setCell_same w _ _ (h.cell j hj), if_pos rfl]
  · rw [World.cell?_setCell_other w _ _ _ (by intro c; injection c with _ c2; omega), if_neg e]
    exact h.cell j hj

theorem RowIs.congr {w : World} {B n : Nat} {f g : Nat → Nat} (h : RowIs w B n f) (e : ∀ j, j < n → f j = g j) : RowIs w B n g :=
  ⟨h.lt, fun j hj => by rw [← e j hj]; exact h.cell j hj, h.free⟩

theorem conv_back {w : World} {B n : Nat} {f : Nat → Nat} (h : RowIs w B n f) (cap : Nat) :
    (convert 57 9 (.slice (some ⟨B, 0, none⟩) n cap)).run Try.prog w = .ok (.string (textOf n f)) w := by
  refine run_convert_bytes_arg w 57 5 Try.underlying57 Try.underlying5 B 0 n cap _ (by rw [List.length_map, List.length_range]) ?_ 9 Try.underlying9
  intro i hi
  rw [Nat.zero_add, h.cell i hi, List.getD_eq_getElem?_getD, List.getElem?_map, List.getElem?_range hi]
  rfl

theorem made_row (w : World) (n : Nat) : RowIs (w.alloc (.cells (madeCells #[.int .u8 0] n) 5)) w.heap.size n (fun _ => 0) := by
  refine ⟨by simp, fun j hj => ?_, fun j hj => by rw [World.frozen?_alloc_new]⟩
  rw [World.cell?_alloc_new, made_flat hj]
  rfl

theorem make_row (w : World) (n : Nat) (h : n ≤ 1000000) : (Instr.makeSlice 57 (.int .i64 (n : Int)) (.int .i64 (n : Int))).run Try.prog w
    = .ok (.slice (some ⟨w.heap.size, 0, none⟩) n n) (w.alloc (.cells (madeCells #[.int .u8 0] n) 5)) := by
  have hi0 : (Try.prog.info? 5).map (fun i => (i.zero, i.size, i.bytes)) = some (some (.int .u8 0), 1, 1) := by kernel_rfl
  obtain ⟨i0, hi, hz0, hz1, hz2⟩ := info_parts hi0
  have := run_make (P := Try.prog) w 57 5 i0 (.int .u8 0) Try.underlying57 hi hz0 .i64 .i64 (n : Int) (n : Int) (by omega) (by omega) (by rw [hz2]; omega) (by omega)
  rw [hz1, Int.toNat_natCast, Nat.mul_one] at this
  exact this

def byteAt (s : ByteArray) (j : Nat) : Nat := (s.data[j]?.getD 0).toNat

theorem byteAt_lt (s : ByteArray) (j : Nat) : byteAt s j < 256 := UInt8.toNat_lt _

theorem byteAt_in (s : ByteArray) (j : Nat) (h : j < s.size) : byteAt s j = (s[j]'h).toNat := by
  unfold byteAt
  rw [Array.getElem?_eq_getElem (show j < s.data.size from h)]
  rfl

theorem text_ext {a b : ByteArray} (h : a.data.toList = b.data.toList) : a = b := by
  apply ByteArray.ext
  exact Array.toList_inj.1 h

theorem textOf_data (n : Nat) (f : Nat → Nat) : (textOf n f).data.toList = (List.range n).map fun j => UInt8.ofNat (f j) := by
  unfold textOf
  rw [strOfNums_data, List.map_map]
  apply List.map_congr_left
  intro j hj
  simp

theorem textOf_congr {n : Nat} {f g : Nat → Nat} (h : ∀ j, j < n → f j = g j) : textOf n f = textOf n g := by
  apply text_ext
  rw [textOf_data, textOf_data]
  apply List.map_congr_left
  intro j hj
  rw [h j (List.mem_range.1 hj)]

theorem textOf_add (a b : Nat) (f : Nat → Nat) : textOf a f ++ textOf b (fun j => f (a + j)) = textOf (a + b) f := by
  apply text_ext
  rw [ByteArray.data_append, Array.toList_append, textOf_data, textOf_data, textOf_data, List.range_add, List.map_append, List.map_map]
  rfl

theorem textOf_cut (n a b : Nat) (f : Nat → Nat) (h1 : a ≤ b) (h2 : b ≤ n) : (textOf n f).extract a b = textOf (b - a) (fun j => f (a + j)) := by
  apply text_ext
  rw [textOf_data, ByteArray.data_extract, Array.toList_extract, textOf_data]
  apply List.ext_getElem?
  intro j
  by_cases hj : j < b - a
  · rw [List.extract_eq_take_drop, List.getElem?_take_of_lt hj, List.getElem?_drop, List.getElem?_map, List.getElem?_map, List.getElem?_range (by omega), List.getElem?_range hj]
    rfl
  · rw [List.extract_eq_take_drop, List.getElem?_eq_none (by rw [List.length_take]; omega), List.getElem?_eq_none (by rw [List.length_map, List.length_range]; omega)]

theorem byteAt_textOf (n : Nat) (f : Nat → Nat) (hf : ∀ j, f j < 256) (j : Nat) (h : j < n) : byteAt (textOf n f) j = f j := by
  unfold byteAt
  rw [← Array.getElem?_toList, textOf_data, List.getElem?_map, List.getElem?_range h]
  simp
  have := hf j
  omega

theorem textOf_byteAt (s : ByteArray) : s = textOf s.size (byteAt s) := by
  apply text_ext
  rw [textOf_data]
  apply List.ext_getElem?
  intro j
  by_cases hj : j < s.size
  · rw [List.getElem?_map, List.getElem?_range hj]
    unfold byteAt
    rw [Array.getElem?_toList, Array.getElem?_eq_getElem (show j < s.data.size from hj)]
    simp [Array.getElem?_eq_getElem (show j < s.data.size from hj)]
  · rw [List.getElem?_eq_none (by rw [Array.length_toList]; show s.data.size ≤ j; have : s.data.size = s.size := rfl; omega), List.getElem?_eq_none (by rw [List.length_map, List.length_range]; omega)]

/-- A text with a piece put into it. -/
theorem textOf_put (n a : Nat) (f : Nat → Nat) (t : ByteArray) (h : a + t.size ≤ n) :
    (textOf n f).extract 0 a ++ t ++ (textOf n f).extract (a + t.size) n = textOf n (fun j => if a ≤ j ∧ j < a + t.size then byteAt t (j - a) else f j) := by
  rw [textOf_cut n 0 a f (by omega) (by omega), textOf_cut n (a + t.size) n f h (by omega)]
  have e1 : textOf (a - 0) (fun j => f (0 + j)) = textOf a (fun j => if a ≤ j ∧ j < a + t.size then byteAt t (j - a) else f j) := by
    rw [Nat.sub_zero]
    apply textOf_congr
    intro j hj
    rw [if_neg (by omega), Nat.zero_add]
  have e2 : t = textOf t.size (fun j => (fun j => if a ≤ j ∧ j < a + t.size then byteAt t (j - a) else f j) (a + j)) := by
    refine (textOf_byteAt t).trans (textOf_congr fun j hj => ?_)
    show byteAt t j = if a ≤ a + j ∧ a + j < a + t.size then byteAt t (a + j - a) else f (a + j)
    rw [if_pos (by omega), Nat.add_sub_cancel_left]
  have e3 : textOf (n - (a + t.size)) (fun j => f (a + t.size + j)) = textOf (n - (a + t.size)) (fun j => (fun j => if a ≤ j ∧ j < a + t.size then byteAt t (j - a) else f j) (a + t.size + j)) := by
    apply textOf_congr
    intro j hj
    show _ = if a ≤ a + t.size + j ∧ a + t.size + j < a + t.size then _ else f (a + t.size + j)
    rw [if_neg (by omega)]
  rw [e1, e3]
  have e4 : textOf a (fun j => if a ≤ j ∧ j < a + t.size then byteAt t (j - a) else f j) ++ t = textOf (a + t.size) (fun j => if a ≤ j ∧ j < a + t.size then byteAt t (j - a) else f j) := by
    refine Eq.trans ?_ (textOf_add a t.size _)
    congr 1
  rw [e4, textOf_add, show a + t.size + (n - (a + t.size)) = n by omega]

/-- A row is put behind a row of the call's own, be it nil or not. -/
theorem run_append_row {P : Program} {w : World} (base : Nat) (t ty e : TypeId) (i : TypeInfo) (z : Value) (size bytes : Nat) (ht : P.underlying t = some (.slice e)) (hi : P.info? e = some i) (hz : i.zero = some z)
    (hsize : i.size = size) (hby : i.bytes = bytes) (hzs : z.cells.size = size) (hsz : 0 < size) (v : Value) (n : Nat) (xs : List Value) (hown : w.ownsRow base e size v n xs) (u : Value) (m : Nat) (ys : List Value)
    (hu : w.ownsRow 0 e size u m ys) (h1 : ∀ y ∈ ys, y.oneCell' = true) (h63 : n + m ≤ maxLen) (hbytes : (n + m) * bytes ≤ 140737488355328) (hbase : base ≤ w.heap.size) :
    ∃ v' w', (Builtin.append_ #[t, t] ty #[v, u]).run P w = .ok v' w' ∧ w'.ownsRow base e size v' (n + m) (xs ++ ys) ∧ w.grownBy w' v.ownBlock ∧ (v'.ownBlock = v.ownBlock ∨ v'.ownBlock = some w.heap.size) := by
  have hl := hu.1
  rcases hu.2 with ⟨rfl, hm⟩ | ⟨g, cap, cur, rfl, -⟩
  · subst hm
    obtain rfl : ys = [] := List.length_eq_zero_iff.1 (by omega)
    exact ⟨v, w, run_append_owned_none (P := P) (w := w) base t ty e i size ht hi v n xs hown, by rw [List.append_nil]; exact hown, ⟨rfl, rfl, rfl, Nat.le_refl _, fun _ _ _ => rfl⟩, .inl rfl⟩
  · obtain ⟨v', w', h1', h2, h3, -, h5⟩ := run_append_own_at (P := P) w base t ty e i z size bytes ht hi hz hsize hby hzs hsz v n xs hown ⟨g, 0, none⟩ m cap ys hl (fun j x hj => hu.cells (g := g) rfl j x hj) h1 h63 hbytes hbase
    exact ⟨v', w', h1', h2, h3, h5⟩

/-- An append whose run is told, in a walk. -/
theorem wpList_append_told {P : Program} {w w' : World} {ops : Array Oper} {rest : List Oper} {o : Oper} {a : Act} {Q : Exit → Act → World → Prop} (hgd : o.guard = none) (s x : Operand) (t tx : TypeId)
    (ho : o.op = .call { callee := .builtin .append, args := #[s, x], argTypes := #[t, tx] }) (u y v : Value) (hs : a.eval s = u) (hx : a.eval x = y) (hrun : (Builtin.append_ #[t, tx] o.type #[u, y]).run P w = .ok v w')
    (h : wpList P ops Q rest (a.put o.dst v) w') : wpList P ops Q (o :: rest) a w := by
  refine wpList_plain hgd fun K hK => ?_
  unfold Oper.wp
  simp [execOp, ho, resolve, invoke, builtin, hs, hx, hrun, Result.andThen]
  exact hK _ _ h

/-- The text of a row of the call's own. -/
theorem conv_own {w : World} {B : Nat} {v : Value} {n : Nat} {s : ByteArray} (h : w.ownsRow B 5 1 v n (Go.Lib.strCells s)) (hn : s.size = n) : (convert 57 9 v).run Try.prog w = .ok (.string s) w := by
  have e : s = textOf n (byteAt s) := by rw [← hn]; exact textOf_byteAt s
  rcases h.2 with ⟨rfl, rfl⟩ | ⟨g, cap, cur, rfl, -, hg, -⟩
  · have h0 : s = strOfNums [] := by rw [e]; rfl
    rw [h0]
    rw [run_convert_bytes_nil w 57 5 Try.underlying57 Try.underlying5 0 0 9 Try.underlying9]
    rfl
  · refine (run_convert_bytes_arg w 57 5 Try.underlying57 Try.underlying5 g 0 n cap ((List.range n).map fun j => ((byteAt s j : Nat) : Int)) (by rw [List.length_map, List.length_range]) ?_ 9 Try.underlying9).trans ?_
    · intro i hi
      have hc := h.cells (g := g) rfl i (.int .u8 ((byteAt s i : Nat) : Int)) (by
        unfold Go.Lib.strCells
        rw [List.getElem?_map, Array.getElem?_toList, Array.getElem?_eq_getElem (show i < s.data.size by have : s.data.size = s.size := rfl; omega)]
        rw [byteAt_in s i (by omega)]
        rfl)
      rw [Addr.add_lit, Nat.zero_add] at hc
      rw [Nat.zero_add, hc, List.getD_eq_getElem?_getD, List.getElem?_map, List.getElem?_range hi]
      rfl
    · exact congrArg (fun x => Result.ok (Value.string x) w) e.symm

theorem strCells_app (a b : ByteArray) : Go.Lib.strCells (a ++ b) = Go.Lib.strCells a ++ Go.Lib.strCells b := by
  unfold Go.Lib.strCells
  rw [ByteArray.data_append, Array.toList_append, List.map_append]

end Go.Proofs.Ytgffhnggocbjhaa

/- Layer 18: what a disk is, as plain functions: sectors that are sure, loose writes in order, what is armed. -/
namespace Go.Proofs.Ytgffhnggocbjhaa
open Go.RowKit
set_option linter.unusedVariables false
set_option maxRecDepth 100000
set_option linter.unusedSimpArgs false

/-- A crash: what is kept, which write is torn, how many of its bytes are. -/
structure Crs where
  keep : ByteArray
  torn : Int
  bytes : Int

/-- A disk: its sectors that are sure, its loose writes, in which step the power goes (0: in none), how, is it gone, how many steps were made. -/
structure Dk where
  S : List ByteArray
  L : List (Nat × ByteArray)
  a : Nat
  c : Crs
  dead : Bool
  m : Nat

def bitAt (s : ByteArray) (i : Nat) : Bool := decide (i / 8 < s.size) && decide (byteAt s (i / 8) / 2 ^ (i % 8) % 2 = 1)
def cutN (b : Int) : Nat := (max 0 (min 64 b)).toNat
def tornT (k : Nat) (s o : ByteArray) : ByteArray := s.extract 0 k ++ o.extract k 64
def T0 : ByteArray := textOf 64 fun _ => 0

/-- The sectors behind the first k loose writes: of a crash, of a flush; what was written last to a sector. -/
def oneC (c : Crs) (k : Nat) (p : Nat × ByteArray) (S : List ByteArray) : List ByteArray :=
  if (k : Int) = c.torn then S.set p.1 (tornT (cutN c.bytes) p.2 (S.getD p.1 T0)) else if bitAt c.keep k then S.set p.1 p.2 else S
def crashK (c : Crs) (L : List (Nat × ByteArray)) (S : List ByteArray) : Nat → List ByteArray
  | 0 => S
  | k + 1 => oneC c k (L.getD k (0, T0)) (crashK c L S k)
def flushK (L : List (Nat × ByteArray)) (S : List ByteArray) : Nat → List ByteArray
  | 0 => S
  | k + 1 => (flushK L S k).set (L.getD k (0, T0)).1 (L.getD k (0, T0)).2
def readK (L : List (Nat × ByteArray)) (n : Nat) (s : ByteArray) : Nat → ByteArray
  | 0 => s
  | k + 1 => if (L.getD k (0, T0)).1 = n then (L.getD k (0, T0)).2 else readK L n s k

def Dk.crashed (c : Crs) (d : Dk) : Dk := ⟨crashK c d.L d.S d.L.length, [], 0, d.c, true, d.m⟩
def Dk.stepped (d : Dk) : Dk := if d.a = 1 then { d with m := d.m + 1 }.crashed d.c else { d with m := d.m + 1, a := d.a - 1 }
def Dk.flushed (d : Dk) : Dk := { d with S := flushK d.L d.S d.L.length, L := [] }

/-- The answers, and what a disk is behind a call. -/
def Dk.errAt (d : Dk) (n : Int) : Int := if d.dead then 2 else if n < 0 ∨ (d.S.length : Int) ≤ n then 181 else 0
def Dk.told (d : Dk) (n : Int) : ByteArray := if d.errAt n = 0 then readK d.L n.toNat (d.S.getD n.toNat T0) d.L.length else ByteArray.empty
def Dk.errW (d : Dk) (n : Int) (s : ByteArray) : Int := if d.errAt n ≠ 0 then d.errAt n else if s.size ≠ 64 then 1 else if d.a = 1 then 2 else 0
def Dk.wrote (d : Dk) (n : Int) (s : ByteArray) : Dk := if d.errAt n ≠ 0 ∨ s.size ≠ 64 then d else { d with L := d.L ++ [(n.toNat, s)] }.stepped
def Dk.errF (d : Dk) : Int := if d.dead ∨ d.a = 1 then 2 else 0
def Dk.flush (d : Dk) : Dk := if d.dead then d else if d.a = 1 then d.stepped else d.stepped.flushed
def Dk.errA (d : Dk) (n : Int) : Int := if d.dead then 2 else if n < 0 then 1 else 0
def Dk.armed (d : Dk) (n : Int) (c : Crs) : Dk := if d.dead ∨ n < 0 then d else { d with a := n.toNat, c := c }
def Dk.errC (d : Dk) : Int := if d.dead then 2 else 0
def Dk.crash (d : Dk) (c : Crs) : Dk := if d.dead then d else d.crashed c
def Dk.revived (d : Dk) : Dk := { d with dead := false, a := 0 }

/-- All sectors, one behind the other. -/
def catT : List ByteArray → ByteArray
  | [] => ByteArray.empty
  | s :: l => s ++ catT l

/-- A new one. -/
def newD (n : Nat) : Dk := ⟨List.replicate n T0, [], 0, ⟨ByteArray.empty, 0, 0⟩, false, 0⟩

/-- What a disk keeps to. -/
structure Dk.Good (d : Dk) : Prop where
  s1 : 1 ≤ d.S.length
  s2 : d.S.length ≤ 4096
  s64 : ∀ s ∈ d.S, s.size = 64
  l64 : ∀ p ∈ d.L, p.1 < d.S.length ∧ p.2.size = 64
  a63 : d.a < 9223372036854775808

theorem T0_size : T0.size = 64 := textOf_size _ _
theorem cutN_le (b : Int) : cutN b ≤ 64 := by unfold cutN; omega
theorem tornT_size {k : Nat} {s o : ByteArray} (hk : k ≤ 64) (hs : s.size = 64) (ho : o.size = 64) : (tornT k s o).size = 64 := by
  simp [tornT, ByteArray.size_append, ByteArray.size_extract, hs, ho]; omega

theorem getD_mem {α : Type} {l : List α} {k : Nat} {d : α} (h : k < l.length) : l.getD k d ∈ l := by
  rw [List.getD_eq_getElem?_getD, List.getElem?_eq_getElem h]; simp
theorem getD_some {α : Type} {l : List α} {k : Nat} {d x : α} (h : l[k]? = some x) : l.getD k d = x := by
  rw [List.getD_eq_getElem?_getD, h]; rfl

theorem set_64 {S : List ByteArray} {n : Nat} {s : ByteArray} (h : ∀ s ∈ S, s.size = 64) (hs : s.size = 64) : ∀ x ∈ S.set n s, x.size = 64 := fun x hx => by
  rcases List.mem_or_eq_of_mem_set hx with h' | rfl
  · exact h x h'
  · exact hs

theorem oneC_good {c : Crs} {k : Nat} {p : Nat × ByteArray} {S : List ByteArray} (h : ∀ s ∈ S, s.size = 64) (hp : p.2.size = 64) : (oneC c k p S).length = S.length ∧ ∀ s ∈ oneC c k p S, s.size = 64 := by
  unfold oneC
  split
  · refine ⟨by simp, set_64 h (tornT_size (cutN_le _) hp ?_)⟩
    rw [List.getD_eq_getElem?_getD]
    cases e : S[p.1]? with
    | none => exact T0_size
    | some x => exact h x (List.mem_of_getElem? e)
  · split
    · exact ⟨by simp, set_64 h hp⟩
    · exact ⟨rfl, h⟩

theorem crashK_good {c : Crs} {L : List (Nat × ByteArray)} {S : List ByteArray} (h : ∀ s ∈ S, s.size = 64) (hL : ∀ p ∈ L, p.2.size = 64) : ∀ k, k ≤ L.length → (crashK c L S k).length = S.length ∧ ∀ s ∈ crashK c L S k, s.size = 64
  | 0, _ => ⟨rfl, h⟩
  | k + 1, hk => by
    obtain ⟨e, g⟩ := crashK_good h hL k (by omega)
    obtain ⟨e', g'⟩ := oneC_good (c := c) (k := k) g (hL _ (getD_mem (d := (0, T0)) (show k < L.length by omega)))
    exact ⟨e'.trans e, g'⟩

theorem flushK_good {L : List (Nat × ByteArray)} {S : List ByteArray} (h : ∀ s ∈ S, s.size = 64) (hL : ∀ p ∈ L, p.2.size = 64) : ∀ k, k ≤ L.length → (flushK L S k).length = S.length ∧ ∀ s ∈ flushK L S k, s.size = 64
  | 0, _ => ⟨rfl, h⟩
  | k + 1, hk => by
    obtain ⟨e, g⟩ := flushK_good h hL k (by omega)
    exact ⟨by simp [flushK, e], set_64 g (hL _ (getD_mem (d := (0, T0)) (show k < L.length by omega)))⟩

theorem readK_size {L : List (Nat × ByteArray)} {n : Nat} {s : ByteArray} (h : s.size = 64) (hL : ∀ p ∈ L, p.2.size = 64) : ∀ k, k ≤ L.length → (readK L n s k).size = 64
  | 0, _ => h
  | k + 1, hk => by
    unfold readK
    split
    · exact hL _ (getD_mem (show k < L.length by omega))
    · exact readK_size h hL k (by omega)

theorem Dk.Good.crashed {d : Dk} (g : d.Good) (c : Crs) : (d.crashed c).Good := by
  obtain ⟨e, h⟩ := crashK_good (c := c) g.s64 (fun p hp => (g.l64 p hp).2) d.L.length (Nat.le_refl _)
  exact ⟨by simp [Dk.crashed, e, g.s1], by simp [Dk.crashed, e, g.s2], h, fun p hp => (by cases hp), by simp [Dk.crashed]⟩
theorem Dk.Good.stepped {d : Dk} (g : d.Good) : d.stepped.Good := by
  unfold Dk.stepped
  have g' : Dk.Good { d with m := d.m + 1 } := ⟨g.s1, g.s2, g.s64, g.l64, g.a63⟩
  split
  · exact g'.crashed _
  · exact ⟨g.s1, g.s2, g.s64, g.l64, Nat.lt_of_le_of_lt (Nat.sub_le _ _) g.a63⟩
theorem Dk.Good.flushed {d : Dk} (g : d.Good) : d.flushed.Good := by
  obtain ⟨e, h⟩ := flushK_good g.s64 (fun p hp => (g.l64 p hp).2) d.L.length (Nat.le_refl _)
  exact ⟨by simp [Dk.flushed, e, g.s1], by simp [Dk.flushed, e, g.s2], h, fun p hp => (by cases hp), g.a63⟩
theorem Dk.Good.flush {d : Dk} (g : d.Good) : d.flush.Good := by
  unfold Dk.flush
  split
  · exact g
  · split
    · exact g.stepped
    · exact g.stepped.flushed
theorem Dk.Good.loose {d : Dk} (g : d.Good) {n : Nat} {s : ByteArray} (hn : n < d.S.length) (hs : s.size = 64) : Dk.Good { d with L := d.L ++ [(n, s)] } :=
  ⟨g.s1, g.s2, g.s64, fun p hp => by
    rcases List.mem_append.1 hp with h | h
    · exact g.l64 p h
    · simp at h; subst h; exact ⟨hn, hs⟩, g.a63⟩
theorem Dk.Good.wrote {d : Dk} (g : d.Good) (n : Int) (s : ByteArray) : (d.wrote n s).Good := by
  unfold Dk.wrote
  split
  · exact g
  · next h =>
    have h1 : d.errAt n = 0 := by by_cases e : d.errAt n = 0; exact e; exact (h (.inl e)).elim
    have h2 : s.size = 64 := by by_cases e : s.size = 64; exact e; exact (h (.inr e)).elim
    refine (g.loose ?_ h2).stepped
    unfold Dk.errAt at h1
    split at h1
    · cases h1
    · split at h1
      · cases h1
      · omega
theorem Dk.Good.armed {d : Dk} (g : d.Good) {n : Int} (hn : n < 9223372036854775808) (c : Crs) : (d.armed n c).Good := by
  unfold Dk.armed
  split
  · exact g
  · exact ⟨g.s1, g.s2, g.s64, g.l64, by show n.toNat < _; omega⟩
theorem Dk.Good.crash {d : Dk} (g : d.Good) (c : Crs) : (d.crash c).Good := by
  unfold Dk.crash
  split
  · exact g
  · exact g.crashed c
theorem Dk.Good.revived {d : Dk} (g : d.Good) : d.revived.Good := ⟨g.s1, g.s2, g.s64, g.l64, by simp [Dk.revived]⟩
theorem newD_good {n : Nat} (h1 : 1 ≤ n) (h2 : n ≤ 4096) : (newD n).Good :=
  ⟨by simp [newD, h1], by simp [newD, h2], fun s hs => by simp [newD] at hs; rw [hs.2, T0_size], fun p hp => (by cases hp), by simp [newD]⟩

/-- How many sectors there are does not change. -/
theorem crashed_len {d : Dk} (g : d.Good) (c : Crs) : (d.crashed c).S.length = d.S.length := (crashK_good (c := c) g.s64 (fun p hp => (g.l64 p hp).2) d.L.length (Nat.le_refl _)).1
theorem flushed_len {d : Dk} (g : d.Good) : d.flushed.S.length = d.S.length := (flushK_good g.s64 (fun p hp => (g.l64 p hp).2) d.L.length (Nat.le_refl _)).1
theorem stepped_len {d : Dk} (g : d.Good) : d.stepped.S.length = d.S.length := by
  unfold Dk.stepped
  split
  · exact crashed_len (d := { d with m := d.m + 1 }) ⟨g.s1, g.s2, g.s64, g.l64, g.a63⟩ _
  · rfl

/-- The image. -/
theorem catT_size : ∀ {S : List ByteArray}, (∀ s ∈ S, s.size = 64) → (catT S).size = 64 * S.length
  | [], _ => rfl
  | s :: l, h => by
    rw [catT, ByteArray.size_append, h s (by simp), catT_size (fun x hx => h x (by simp [hx])), List.length_cons]; omega
theorem catT_app : ∀ (S R : List ByteArray), catT (S ++ R) = catT S ++ catT R
  | [], R => by simp [catT]
  | s :: l, R => by rw [List.cons_append, catT, catT, catT_app l R, ByteArray.append_assoc]
theorem extract_list (s : ByteArray) (a b : Nat) : (s.extract a b).data.toList = (s.data.toList.drop a).take (b - a) := by
  rw [ByteArray.data_extract, Array.toList_extract, List.extract_eq_take_drop]
theorem catT_at : ∀ {S : List ByteArray}, (∀ s ∈ S, s.size = 64) → ∀ (k : Nat) x, S[k]? = some x → (catT S).extract (64 * k) (64 * k + 64) = x
  | [], _, k, x, h => by simp at h
  | s :: l, hS, 0, x, h => by
    simp at h
    subst h
    apply text_ext
    have hs : s.data.toList.length = 64 := by rw [Array.length_toList]; exact hS s (by simp)
    rw [extract_list, catT, ByteArray.data_append, Array.toList_append]
    simp [hs, List.take_append_of_le_length, List.take_of_length_le]
  | s :: l, hS, k + 1, x, h => by
    have ih := catT_at (S := l) (fun y hy => hS y (by simp [hy])) k x (by simpa using h)
    rw [← ih]
    apply text_ext
    have hs : s.data.toList.length = 64 := by rw [Array.length_toList]; exact hS s (by simp)
    rw [extract_list, extract_list, catT, ByteArray.data_append, Array.toList_append, List.drop_append, hs, show 64 * (k + 1) - 64 = 64 * k by omega, List.drop_eq_nil_of_le (by rw [hs]; omega), List.nil_append]
    congr 1
    omega
theorem catT_inj : ∀ {S R : List ByteArray}, (∀ s ∈ S, s.size = 64) → (∀ s ∈ R, s.size = 64) → S.length = R.length → catT S = catT R → S = R := fun {S R} hS hR hl h => by
  apply List.ext_getElem?
  intro k
  by_cases hk : k < S.length
  · have h1 := catT_at hS k _ (List.getElem?_eq_getElem hk)
    have h2 := catT_at hR k _ (List.getElem?_eq_getElem (show k < R.length by omega))
    rw [List.getElem?_eq_getElem hk, List.getElem?_eq_getElem (show k < R.length by omega), ← h1, ← h2, h]
  · rw [List.getElem?_eq_none (by omega), List.getElem?_eq_none (by omega)]

end Go.Proofs.Ytgffhnggocbjhaa

/- Layer 18: what follows: a sector behind a crash; reads and flushes; crashes that keep all, or nothing. -/
namespace Go.Proofs.Ytgffhnggocbjhaa
open Go.RowKit
set_option linter.unusedVariables false
set_option maxRecDepth 100000
set_option linter.unusedSimpArgs false

theorem set_at {S : List ByteArray} {n : Nat} {s : ByteArray} (k : Nat) (h : n < S.length) : (S.set n s).getD k T0 = if k = n then s else S.getD k T0 := by
  rw [List.getD_eq_getElem?_getD, List.getD_eq_getElem?_getD, List.getElem?_set]
  by_cases e : n = k
  · subst e; simp [h]
  · rw [if_neg e, if_neg (fun h => e h.symm)]

/-- A sector behind the first k loose writes of a crash: as it was, as one of them, or torn. -/
theorem crash_ways {c : Crs} {L : List (Nat × ByteArray)} {S : List ByteArray} (hS : ∀ s ∈ S, s.size = 64) (hL : ∀ p ∈ L, p.1 < S.length ∧ p.2.size = 64) (s : Nat) : ∀ k, k ≤ L.length →
    ((crashK c L S k).getD s T0 = S.getD s T0 ∨ ∃ i, i < k ∧ (L.getD i (0, T0)).1 = s ∧ (crashK c L S k).getD s T0 = (L.getD i (0, T0)).2) ∨
    (∃ t : Nat, t < k ∧ c.torn = (t : Int) ∧ (L.getD t (0, T0)).1 = s ∧ ((crashK c L S k).getD s T0).extract 0 (cutN c.bytes) = (L.getD t (0, T0)).2.extract 0 (cutN c.bytes))
  | 0, _ => .inl (.inl rfl)
  | k + 1, hk => by
    have ih := crash_ways (c := c) hS hL s k (by omega)
    obtain ⟨el, eg⟩ := crashK_good (c := c) hS (fun p hp => (hL p hp).2) k (by omega)
    obtain ⟨p, hp⟩ : ∃ p, p = L.getD k (0, T0) := ⟨_, rfl⟩
    have hpL := hL p (by rw [hp]; exact getD_mem (show k < L.length by omega))
    have hlt : p.1 < (crashK c L S k).length := by rw [el]; exact hpL.1
    have keep : (crashK c L S (k + 1)).getD s T0 = (crashK c L S k).getD s T0 → _ := fun e => show ((crashK c L S (k + 1)).getD s T0 = S.getD s T0 ∨ ∃ i, i < k + 1 ∧ (L.getD i (0, T0)).1 = s ∧ (crashK c L S (k + 1)).getD s T0 = (L.getD i (0, T0)).2) ∨
        (∃ t : Nat, t < k + 1 ∧ c.torn = (t : Int) ∧ (L.getD t (0, T0)).1 = s ∧ ((crashK c L S (k + 1)).getD s T0).extract 0 (cutN c.bytes) = (L.getD t (0, T0)).2.extract 0 (cutN c.bytes)) by
      rw [e]
      rcases ih with (h | ⟨i, h1, h2, h3⟩) | ⟨t, h1, h2⟩
      · exact .inl (.inl h)
      · exact .inl (.inr ⟨i, by omega, h2, h3⟩)
      · exact .inr ⟨t, by omega, h2⟩
    have he : crashK c L S (k + 1) = oneC c k p (crashK c L S k) := by rw [hp]; rfl
    by_cases e1 : (k : Int) = c.torn
    · have he' : crashK c L S (k + 1) = (crashK c L S k).set p.1 (tornT (cutN c.bytes) p.2 ((crashK c L S k).getD p.1 T0)) := by rw [he, oneC, if_pos e1]
      by_cases e2 : s = p.1
      · refine .inr ⟨k, by omega, e1.symm, by rw [← hp]; exact e2.symm, ?_⟩
        rw [he', set_at s hlt, if_pos e2, ← hp]
        apply text_ext
        have hz : p.2.data.toList.length = 64 := by rw [Array.length_toList]; exact hpL.2
        have hc := cutN_le c.bytes
        rw [extract_list, extract_list, tornT, ByteArray.data_append, Array.toList_append, extract_list]
        simp [List.take_append_of_le_length, hz, hc]
      · refine keep ?_
        rw [he', set_at s hlt, if_neg e2]
    · by_cases e3 : bitAt c.keep k = true
      · have he' : crashK c L S (k + 1) = (crashK c L S k).set p.1 p.2 := by rw [he, oneC, if_neg e1, if_pos e3]
        by_cases e2 : s = p.1
        · refine .inl (.inr ⟨k, by omega, by rw [← hp]; exact e2.symm, ?_⟩)
          rw [he', set_at s hlt, if_pos e2, ← hp]
        · refine keep ?_
          rw [he', set_at s hlt, if_neg e2]
      · refine keep ?_
        rw [he, oneC, if_neg e1, if_neg e3]

/-- What is read is what a flush makes sure. -/
theorem read_flush {L : List (Nat × ByteArray)} {S : List ByteArray} (hL : ∀ p ∈ L, p.1 < S.length) (n : Nat) : ∀ k, k ≤ L.length → readK L n (S.getD n T0) k = (flushK L S k).getD n T0 ∧ (flushK L S k).length = S.length
  | 0, _ => ⟨rfl, rfl⟩
  | k + 1, hk => by
    obtain ⟨ih, hl⟩ := read_flush hL n k (by omega)
    have hp := hL _ (getD_mem (d := (0, T0)) (show k < L.length by omega))
    refine ⟨?_, by simp [flushK, hl]⟩
    rw [readK, flushK, set_at n (by rw [hl]; exact hp), ih]
    by_cases e : n = (L.getD k (0, T0)).1
    · rw [if_pos e, if_pos e.symm]
    · rw [if_neg e, if_neg (fun h => e h.symm)]

/-- A crash that keeps all; one that keeps nothing. -/
theorem crash_all {c : Crs} {L : List (Nat × ByteArray)} {S : List ByteArray} (ht : c.torn < 0) : ∀ k, (∀ i, i < k → bitAt c.keep i = true) → crashK c L S k = flushK L S k
  | 0, _ => rfl
  | k + 1, h => by
    rw [crashK, flushK, crash_all ht k (fun i hi => h i (by omega)), oneC, if_neg (by omega), if_pos (h k (by omega))]
theorem crash_none {c : Crs} {L : List (Nat × ByteArray)} {S : List ByteArray} (ht : c.torn < 0) (hk : c.keep.size = 0) : ∀ k, crashK c L S k = S
  | 0 => rfl
  | k + 1 => by
    rw [crashK, crash_none ht hk k, oneC, if_neg (by omega), if_neg (by simp [bitAt, hk])]

/-- What bytes are, sector by sector; a disk that is opened. -/
def cutT (s : ByteArray) (n : Nat) : List ByteArray := (List.range n).map fun k => s.extract (64 * k) (64 * k + 64)
def openD (s : ByteArray) : Dk := ⟨cutT s (s.size / 64), [], 0, ⟨ByteArray.empty, 0, 0⟩, false, 0⟩

theorem cutT_len (s : ByteArray) (n : Nat) : (cutT s n).length = n := by simp [cutT]
theorem cutT_64 {s : ByteArray} {n : Nat} (h : 64 * n ≤ s.size) : ∀ x ∈ cutT s n, x.size = 64 := fun x hx => by
  obtain ⟨k, hk, rfl⟩ := List.mem_map.1 hx
  have := List.mem_range.1 hk
  rw [ByteArray.size_extract]; omega
theorem cutT_cat {s : ByteArray} : ∀ n, 64 * n ≤ s.size → catT (cutT s n) = s.extract 0 (64 * n)
  | 0, _ => by
    apply text_ext
    rw [extract_list]
    simp [cutT, catT]
  | n + 1, h => by
    have e : cutT s (n + 1) = cutT s n ++ [s.extract (64 * n) (64 * n + 64)] := by simp [cutT, List.range_succ]
    rw [e, catT_app, cutT_cat n (by omega)]
    apply text_ext
    rw [ByteArray.data_append, Array.toList_append, extract_list, show catT [s.extract (64 * n) (64 * n + 64)] = s.extract (64 * n) (64 * n + 64) ++ ByteArray.empty from rfl, ByteArray.append_empty, extract_list, extract_list, List.drop_zero, Nat.sub_zero,
      show 64 * n + 64 - 64 * n = 64 by omega, Nat.sub_zero, show 64 * (n + 1) = 64 * n + 64 by omega, List.take_add]
theorem openD_good {s : ByteArray} (h : s.size % 64 = 0) (h1 : 64 ≤ s.size) (h2 : s.size ≤ 262144) : (openD s).Good ∧ catT (openD s).S = s := by
  have h64 : 64 * (s.size / 64) = s.size := by omega
  refine ⟨⟨by simp [openD, cutT_len]; omega, by simp [openD, cutT_len]; omega, cutT_64 (by omega), fun p hp => (by cases hp), by simp [openD]⟩, ?_⟩
  show catT (cutT s (s.size / 64)) = s
  rw [cutT_cat _ (by omega), h64]
  apply text_ext
  rw [extract_list]
  have : s.data.toList.length = s.size := by rw [Array.length_toList]; rfl
  rw [List.drop_zero, Nat.sub_zero, List.take_of_length_le (by omega)]

end Go.Proofs.Ytgffhnggocbjhaa
