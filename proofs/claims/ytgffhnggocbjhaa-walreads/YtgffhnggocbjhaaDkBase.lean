/- Layers 18 to 20: rows in blocks, what a call may change, rows of bytes and their texts. -/
import Derived.Test.YtgffhnggocbjhaaWholeAt
import Derived.Laws.IdiomCopy
import Derived.Laws.MakeOwn
import Derived.Maps.Own
import Derived.ChangeKeysEq
import Derived.OwnWalk
import Derived.Deep.RegionHeld3
import Derived.Shelf.SlicesE.Clone
import Derived.Maps.AppendAt
import Derived.Laws.OwnMore
import Derived.Lib.AppendStr
namespace Go.Proofs.Ytgffhnggocbjhaa
open Go.RowKit
set_option linter.unusedVariables false
set_option maxRecDepth 100000
set_option linter.unusedSimpArgs false

/-- A row that lies in blocks of F alone. -/
def Row (w : World) (F : Nat → Prop) (t : TypeId) (size : Nat) (v : Value) (n : Nat) (xs : List Value) : Prop :=
  w.ownsRow 0 t size v n xs ∧ ∀ k, v.ownBlock = some k → F k

theorem Row.keep {w y : World} {F : Nat → Prop} {t : TypeId} {size n : Nat} {v : Value} {xs : List Value} (h : Row w F t size v n xs)
    (hk : ∀ k, F k → k < w.heap.size → y.heap[k]? = w.heap[k]?) : Row y F t size v n xs := by
  refine ⟨⟨h.1.1, ?_⟩, h.2⟩
  rcases h.1.2 with hn | ⟨g, cap, cur, rfl, hb, hgg, rest⟩
  · exact .inl hn
  · exact .inr ⟨g, cap, cur, rfl, hb, (hk g (h.2 g rfl) (Array.getElem?_eq_some_iff.1 hgg).1).trans hgg, rest⟩

theorem Row.mono {w : World} {F G : Nat → Prop} {t : TypeId} {size n : Nat} {v : Value} {xs : List Value} (h : Row w F t size v n xs) (hG : ∀ k, F k → k < w.heap.size → G k) : Row w G t size v n xs :=
  ⟨h.1, fun k hk => hG k (h.2 k hk) (h.1.lt k hk).2⟩

theorem Row.on {w y : World} {F : Nat → Prop} {t : TypeId} {size n : Nat} {v : Value} {xs : List Value} (h : Row w F t size v n xs) (hb : Below w.heap.size w y) : Row y F t size v n xs :=
  h.keep fun k _ hk => hb.block k hk

theorem Row.of_own {w : World} {B : Nat} {t : TypeId} {size n : Nat} {v : Value} {xs : List Value} (h : w.ownsRow B t size v n xs) : Row w (fun k => B ≤ k) t size v n xs := by
  refine ⟨⟨h.1, ?_⟩, fun k hk => (h.lt k hk).1⟩
  rcases h.2 with hn | ⟨g, cap, cur, rfl, hb, rest⟩
  · exact .inl hn
  · exact .inr ⟨g, cap, cur, rfl, Nat.zero_le _, rest⟩

/-- Just blocks of F may have changed, and new ones may be there. -/
structure Turn (F : Nat → Prop) (w y : World) : Prop where
  os : y.os = w.os
  tape : y.tape = w.tape
  output : y.output = w.output
  size : w.heap.size ≤ y.heap.size
  block : ∀ k, k < w.heap.size → ¬ F k → y.heap[k]? = w.heap[k]?

theorem Turn.refl (F : Nat → Prop) (w : World) : Turn F w w := ⟨rfl, rfl, rfl, Nat.le_refl _, fun _ _ _ => rfl⟩
theorem Turn.of {F : Nat → Prop} {w y : World} (h : Below w.heap.size w y) : Turn F w y := ⟨h.os, h.tape, h.output, h.size, fun k hk _ => h.block k hk⟩
theorem Turn.trans {F G : Nat → Prop} {w x y : World} (h : Turn F w x) (k : Turn G x y) (hG : ∀ b, G b → F b ∨ w.heap.size ≤ b) : Turn F w y :=
  ⟨k.os.trans h.os, k.tape.trans h.tape, k.output.trans h.output, Nat.le_trans h.size k.size,
    fun b hb hF => (k.block b (Nat.lt_of_lt_of_le hb h.size) (fun g => (hG b g).elim hF (by omega))).trans (h.block b hb hF)⟩
theorem Turn.mono {F G : Nat → Prop} {w y : World} (h : Turn F w y) (hG : ∀ b, b < w.heap.size → F b → G b) : Turn G w y := ⟨h.os, h.tape, h.output, h.size, fun k hk hn => h.block k hk (fun f => hn (hG k hk f))⟩
theorem Turn.below {F : Nat → Prop} {w y : World} {B : Nat} (h : Turn F w y) (hB : B ≤ w.heap.size) (hF : ∀ b, F b → B ≤ b) : Below B w y :=
  ⟨h.os, h.tape, h.output, h.size, fun k hk => h.block k (Nat.lt_of_lt_of_le hk hB) (fun f => by have := hF k f; omega)⟩

theorem grow (w : World) (o : Obj) : Below w.heap.size w (w.alloc o) := (Below.refl _ w).alloc (Nat.le_refl _) o
theorem onto {n : Nat} {w x y : World} (h : Below n w x) (hn : n ≤ w.heap.size) (k : Below x.heap.size x y) : Below n w y := h.trans (k.mono (Nat.le_trans hn h.size))

/-- A row of cells in a block. -/
def Box (w : World) (b : Nat) (c : Array Value) : Prop := isRow w b = true ∧ rowAt w b = c ∧ b < w.heap.size

theorem Box.new (w : World) (c : Array Value) (t : TypeId) : Box (w.alloc (.cells c t)) w.heap.size c := ⟨isRow_new _ _ _, rowAt_new _ _ _, by simp⟩

theorem Box.of_heap {w y : World} {b : Nat} {c : Array Value} (h : Box w b c) (e : y.heap[b]? = w.heap[b]?) : Box y b c := by
  refine ⟨by rw [isRow_of e]; exact h.1, by rw [rowAt_of e]; exact h.2.1, ?_⟩
  obtain ⟨t, ht⟩ := isRow_some h.1
  rw [ht] at e
  exact (Array.getElem?_eq_some_iff.1 e).1

theorem Box.on {w y : World} {b : Nat} {c : Array Value} (h : Box w b c) (hb : Below w.heap.size w y) : Box y b c := h.of_heap (hb.block b h.2.2)

theorem Box.cell {w : World} {b : Nat} {c : Array Value} (h : Box w b c) (j : Nat) : w.cell? ⟨b, j, none⟩ = c[j]? := by rw [cell_rowAt w b j h.1, h.2.1]

theorem Box.free {w : World} {b : Nat} {c : Array Value} (h : Box w b c) (j : Nat) : w.frozen? ⟨b, j, none⟩ = false := frozen_rowAt w b j h.1

/-- A store into one cell of a row, as a row. -/
theorem setCell_row (b : Nat) (w : World) (k : Nat) (v : Value) (h : isRow w b = true) : w.setCell ⟨b, k, none⟩ v = w.setRow b ((rowAt w b).setIfInBounds k v) := by
  obtain ⟨t, e⟩ := isRow_some h
  exact setCell_eq_setRow w b k _ t _ v e

theorem Box.set {w : World} {b : Nat} {c : Array Value} (h : Box w b c) (k : Nat) (v : Value) : Box (w.setCell ⟨b, k, none⟩ v) b (c.setIfInBounds k v) := by
  rw [setCell_row b w k v h.1, h.2.1]
  exact ⟨by rw [isRow_setRow]; exact h.1, rowAt_setRow w b _ h.1, by rw [setRow_size]; exact h.2.2⟩

theorem Box.drew {w : World} {b : Nat} {c : Array Value} (h : Box w b c) : Box w.drew b c := h

/-- The text of a row of bytes. -/
def textOf (n : Nat) (f : Nat → Nat) : ByteArray := strOfNums ((List.range n).map fun j => ((f j : Nat) : Int))

theorem textOf_size (n : Nat) (f : Nat → Nat) : (textOf n f).size = n := by
  unfold textOf
  rw [strOfNums_size, List.length_map, List.length_range]

theorem made_flat {z : Value} {m o : Nat} (h : o < m) : (madeCells #[z] m)[o]? = some z := by
  unfold madeCells
  rw [Array.getElem?_map, Array.getElem?_range, if_pos h]
  simp [Nat.mod_one]

/-- A row of n bytes in block B: cell j holds f j, and may be written. -/
structure RowIs (w : World) (B n : Nat) (f : Nat → Nat) : Prop where
  lt : B < w.heap.size
  cell : ∀ j, j < n → w.cell? ⟨B, j, none⟩ = some (.int .u8 ((f j : Nat) : Int))
  free : ∀ j, j < n → w.frozen? ⟨B, j, none⟩ = false

theorem RowIs.set {w : World} {B n : Nat} {f : Nat → Nat} (h : RowIs w B n f) {k : Nat} (hk : k < n) (v : Nat) :
    RowIs (w.setCell ⟨B, k, none⟩ (.int .u8 ((v : Nat) : Int))) B n (fun j => if j = k then v else f j) := by
  refine ⟨by rw [World.size_setCell]; exact h.lt, fun j hj => ?_, fun j hj => by rw [World.frozen?_setCell]; exact h.free j hj⟩
  by_cases e : j = k
  · subst e
    rw [World.cell?_setCell_same w _ _ (h.cell j hj), if_pos rfl]
  · rw [World.cell?_setCell_other w _ _ _ (by intro c; injection c with _ c2; omega), if_neg e]
    exact h.cell j hj

theorem RowIs.congr {w : World} {B n : Nat} {f g : Nat → Nat} (h : RowIs w B n f) (e : ∀ j, j < n → f j = g j) : RowIs w B n g :=
  ⟨h.lt, fun j hj => by rw [← e j hj]; exact h.cell j hj, h.free⟩

theorem conv_back {w : World} {B n : Nat} {f : Nat → Nat} (h : RowIs w B n f) (cap : Nat) :
    (convert 57 9 (.slice (some ⟨B, 0, none⟩) n cap)).run Try.prog w = .ok (.string (textOf n f)) w := by
  refine run_convert_bytes_arg w 57 5 Try.underlying57 Try.underlying5 B 0 n cap _ (by rw [List.length_map, List.length_range]) ?_ 9 Try.underlying9
  intro i hi
  rw [Nat.zero_add, h.cell i hi, List.getD_eq_getElem?_getD, List.getElem?_map, List.getElem?_range hi]
  rfl

theorem made_row (w : World) (n : Nat) : RowIs (w.alloc (.cells (madeCells #[.int .u8 0] n) 5)) w.heap.size n (fun _ => 0) := by
  refine ⟨by simp, fun j hj => ?_, fun j hj => by rw [World.frozen?_alloc_new]⟩
  rw [World.cell?_alloc_new, made_flat hj]
  rfl

theorem make_row (w : World) (n : Nat) (h : n ≤ 1000000) : (Instr.makeSlice 57 (.int .i64 (n : Int)) (.int .i64 (n : Int))).run Try.prog w
    = .ok (.slice (some ⟨w.heap.size, 0, none⟩) n n) (w.alloc (.cells (madeCells #[.int .u8 0] n) 5)) := by
  have hi0 : (Try.prog.info? 5).map (fun i => (i.zero, i.size, i.bytes)) = some (some (.int .u8 0), 1, 1) := by kernel_rfl
  obtain ⟨i0, hi, hz0, hz1, hz2⟩ := info_parts hi0
  have := run_make (P := Try.prog) w 57 5 i0 (.int .u8 0) Try.underlying57 hi hz0 .i64 .i64 (n : Int) (n : Int) (by omega) (by omega) (by rw [hz2]; omega) (by omega)
  rw [hz1, Int.toNat_natCast, Nat.mul_one] at this
  exact this

def byteAt (s : ByteArray) (j : Nat) : Nat := (s.data[j]?.getD 0).toNat

theorem byteAt_lt (s : ByteArray) (j : Nat) : byteAt s j < 256 := UInt8.toNat_lt _

theorem byteAt_in (s : ByteArray) (j : Nat) (h : j < s.size) : byteAt s j = (s[j]'h).toNat := by
  unfold byteAt
  rw [Array.getElem?_eq_getElem (show j < s.data.size from h)]
  rfl

theorem text_ext {a b : ByteArray} (h : a.data.toList = b.data.toList) : a = b := by
  apply ByteArray.ext
  exact Array.toList_inj.1 h

theorem textOf_data (n : Nat) (f : Nat → Nat) : (textOf n f).data.toList = (List.range n).map fun j => UInt8.ofNat (f j) := by
  unfold textOf
  rw [strOfNums_data, List.map_map]
  apply List.map_congr_left
  intro j hj
  simp

theorem textOf_congr {n : Nat} {f g : Nat → Nat} (h : ∀ j, j < n → f j = g j) : textOf n f = textOf n g := by
  apply text_ext
  rw [textOf_data, textOf_data]
  apply List.map_congr_left
  intro j hj
  rw [h j (List.mem_range.1 hj)]

theorem textOf_add (a b : Nat) (f : Nat → Nat) : textOf a f ++ textOf b (fun j => f (a + j)) = textOf (a + b) f := by
  apply text_ext
  rw [ByteArray.data_append, Array.toList_append, textOf_data, textOf_data, textOf_data, List.range_add, List.map_append, List.map_map]
  rfl

theorem textOf_cut (n a b : Nat) (f : Nat → Nat) (h1 : a ≤ b) (h2 : b ≤ n) : (textOf n f).extract a b = textOf (b - a) (fun j => f (a + j)) := by
  apply text_ext
  rw [textOf_data, ByteArray.data_extract, Array.toList_extract, textOf_data]
  apply List.ext_getElem?
  intro j
  by_cases hj : j < b - a
  · rw [List.extract_eq_take_drop, List.getElem?_take_of_lt hj, List.getElem?_drop, List.getElem?_map, List.getElem?_map, List.getElem?_range (by omega), List.getElem?_range hj]
    rfl
  · rw [List.extract_eq_take_drop, List.getElem?_eq_none (by rw [List.length_take]; omega), List.getElem?_eq_none (by rw [List.length_map, List.length_range]; omega)]

theorem byteAt_textOf (n : Nat) (f : Nat → Nat) (hf : ∀ j, f j < 256) (j : Nat) (h : j < n) : byteAt (textOf n f) j = f j := by
  unfold byteAt
  rw [← Array.getElem?_toList, textOf_data, List.getElem?_map, List.getElem?_range h]
  simp
  have := hf j
  omega

theorem textOf_byteAt (s : ByteArray) : s = textOf s.size (byteAt s) := by
  apply text_ext
  rw [textOf_data]
  apply List.ext_getElem?
  intro j
  by_cases hj : j < s.size
  · rw [List.getElem?_map, List.getElem?_range hj]
    unfold byteAt
    rw [Array.getElem?_toList, Array.getElem?_eq_getElem (show j < s.data.size from hj)]
    simp [Array.getElem?_eq_getElem (show j < s.data.size from hj)]
  · rw [List.getElem?_eq_none (by rw [Array.length_toList]; show s.data.size ≤ j; have : s.data.size = s.size := rfl; omega), List.getElem?_eq_none (by rw [List.length_map, List.length_range]; omega)]

/-- A text with a piece put into it. -/
theorem textOf_put (n a : Nat) (f : Nat → Nat) (t : ByteArray) (h : a + t.size ≤ n) :
    (textOf n f).extract 0 a ++ t ++ (textOf n f).extract (a + t.size) n = textOf n (fun j => if a ≤ j ∧ j < a + t.size then byteAt t (j - a) else f j) := by
  rw [textOf_cut n 0 a f (by omega) (by omega), textOf_cut n (a + t.size) n f h (by omega)]
  have e1 : textOf (a - 0) (fun j => f (0 + j)) = textOf a (fun j => if a ≤ j ∧ j < a + t.size then byteAt t (j - a) else f j) := by
    rw [Nat.sub_zero]
    apply textOf_congr
    intro j hj
    rw [if_neg (by omega), Nat.zero_add]
  have e2 : t = textOf t.size (fun j => (fun j => if a ≤ j ∧ j < a + t.size then byteAt t (j - a) else f j) (a + j)) := by
    refine (textOf_byteAt t).trans (textOf_congr fun j hj => ?_)
    show byteAt t j = if a ≤ a + j ∧ a + j < a + t.size then byteAt t (a + j - a) else f (a + j)
    rw [if_pos (by omega), Nat.add_sub_cancel_left]
  have e3 : textOf (n - (a + t.size)) (fun j => f (a + t.size + j)) = textOf (n - (a + t.size)) (fun j => (fun j => if a ≤ j ∧ j < a + t.size then byteAt t (j - a) else f j) (a + t.size + j)) := by
    apply textOf_congr
    intro j hj
    show _ = if a ≤ a + t.size + j ∧ a + t.size + j < a + t.size then _ else f (a + t.size + j)
    rw [if_neg (by omega)]
  rw [e1, e3]
  have e4 : textOf a (fun j => if a ≤ j ∧ j < a + t.size then byteAt t (j - a) else f j) ++ t = textOf (a + t.size) (fun j => if a ≤ j ∧ j < a + t.size then byteAt t (j - a) else f j) := by
    refine Eq.trans ?_ (textOf_add a t.size _)
    congr 1
  rw [e4, textOf_add, show a + t.size + (n - (a + t.size)) = n by omega]

/-- A row is put behind a row of the call's own, be it nil or not. -/
theorem run_append_row {P : Program} {w : World} (base : Nat) (t ty e : TypeId) (i : TypeInfo) (z : Value) (size bytes : Nat) (ht : P.underlying t = some (.slice e)) (hi : P.info? e = some i) (hz : i.zero = some z)
    (hsize : i.size = size) (hby : i.bytes = bytes) (hzs : z.cells.size = size) (hsz : 0 < size) (v : Value) (n : Nat) (xs : List Value) (hown : w.ownsRow base e size v n xs) (u : Value) (m : Nat) (ys : List Value)
    (hu : w.ownsRow 0 e size u m ys) (h1 : ∀ y ∈ ys, y.oneCell' = true) (h63 : n + m ≤ maxLen) (hbytes : (n + m) * bytes ≤ 140737488355328) (hbase : base ≤ w.heap.size) :
    ∃ v' w', (Builtin.append_ #[t, t] ty #[v, u]).run P w = .ok v' w' ∧ w'.ownsRow base e size v' (n + m) (xs ++ ys) ∧ w.grownBy w' v.ownBlock ∧ (v'.ownBlock = v.ownBlock ∨ v'.ownBlock = some w.heap.size) := by
  have hl := hu.1
  rcases hu.2 with ⟨rfl, hm⟩ | ⟨g, cap, cur, rfl, -⟩
  · subst hm
    obtain rfl : ys = [] := List.length_eq_zero_iff.1 (by omega)
    exact ⟨v, w, run_append_owned_none (P := P) (w := w) base t ty e i size ht hi v n xs hown, by rw [List.append_nil]; exact hown, ⟨rfl, rfl, rfl, Nat.le_refl _, fun _ _ _ => rfl⟩, .inl rfl⟩
  · obtain ⟨v', w', h1', h2, h3, -, h5⟩ := run_append_own_at (P := P) w base t ty e i z size bytes ht hi hz hsize hby hzs hsz v n xs hown ⟨g, 0, none⟩ m cap ys hl (fun j x hj => hu.cells (g := g) rfl j x hj) h1 h63 hbytes hbase
    exact ⟨v', w', h1', h2, h3, h5⟩

/-- An append whose run is told, in a walk. -/
theorem wpList_append_told {P : Program} {w w' : World} {ops : Array Oper} {rest : List Oper} {o : Oper} {a : Act} {Q : Exit → Act → World → Prop} (hgd : o.guard = none) (s x : Operand) (t tx : TypeId)
    (ho : o.op = .call { callee := .builtin .append, args := #[s, x], argTypes := #[t, tx] }) (u y v : Value) (hs : a.eval s = u) (hx : a.eval x = y) (hrun : (Builtin.append_ #[t, tx] o.type #[u, y]).run P w = .ok v w')
    (h : wpList P ops Q rest (a.put o.dst v) w') : wpList P ops Q (o :: rest) a w := by
  refine wpList_plain hgd fun K hK => ?_
  unfold Oper.wp
  simp [execOp, ho, resolve, invoke, builtin, hs, hx, hrun, Result.andThen]
  exact hK _ _ h

/-- The text of a row of the call's own. -/
theorem conv_own {w : World} {B : Nat} {v : Value} {n : Nat} {s : ByteArray} (h : w.ownsRow B 5 1 v n (Go.Lib.strCells s)) (hn : s.size = n) : (convert 57 9 v).run Try.prog w = .ok (.string s) w := by
  have e : s = textOf n (byteAt s) := by rw [← hn]; exact textOf_byteAt s
  rcases h.2 with ⟨rfl, rfl⟩ | ⟨g, cap, cur, rfl, -, hg, -⟩
  · have h0 : s = strOfNums [] := by rw [e]; rfl
    rw [h0]
    rw [run_convert_bytes_nil w 57 5 Try.underlying57 Try.underlying5 0 0 9 Try.underlying9]
    rfl
  · refine (run_convert_bytes_arg w 57 5 Try.underlying57 Try.underlying5 g 0 n cap ((List.range n).map fun j => ((byteAt s j : Nat) : Int)) (by rw [List.length_map, List.length_range]) ?_ 9 Try.underlying9).trans ?_
    · intro i hi
      have hc := h.cells (g := g) rfl i (.int .u8 ((byteAt s i : Nat) : Int)) (by
        unfold Go.Lib.strCells
        rw [List.getElem?_map, Array.getElem?_toList, Array.getElem?_eq_getElem (show i < s.data.size by have : s.data.size = s.size := rfl; omega)]
        rw [byteAt_in s i (by omega)]
        rfl)
      rw [Addr.add_lit, Nat.zero_add] at hc
      rw [Nat.zero_add, hc, List.getD_eq_getElem?_getD, List.getElem?_map, List.getElem?_range hi]
      rfl
    · exact congrArg (fun x => Result.ok (Value.string x) w) e.symm

theorem strCells_app (a b : ByteArray) : Go.Lib.strCells (a ++ b) = Go.Lib.strCells a ++ Go.Lib.strCells b := by
  unfold Go.Lib.strCells
  rw [ByteArray.data_append, Array.toList_append, List.map_append]

end Go.Proofs.Ytgffhnggocbjhaa
