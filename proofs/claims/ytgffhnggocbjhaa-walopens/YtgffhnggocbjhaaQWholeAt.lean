/- Rows of cells that are loaded and stored as a whole: what lies in a block, told by a function of the world, so that a walk reckons it. -/
import Derived.Test.YtgffhnggocbjhaaRows
import Derived.Laws.BitsAllLaws
import Derived.Laws.Rows
import Derived.Laws.Tables
import Derived.Deep.WholeRow
import Derived.WalkKit
import Derived.WalkSpells
import Derived.WalkLawsBesides
import Derived.Below
import Derived.Deep.RegionHeld3
namespace Go.Proofs.Ytgffhnggocbjhaa
open Go.RowKit
set_option linter.unusedVariables false
set_option maxRecDepth 100000

theorem hide {p : Prop} (h : p) : Hid p := h

/-- The cells of block b. -/
def rowAt (w : World) (b : Nat) : Array Value := match w.heap[b]? with | some (.cells c _ _) => c | _ => #[]

/-- Is block b a row of cells that may be written? -/
def isRow (w : World) (b : Nat) : Bool := match w.heap[b]? with | some (.cells _ _ fr) => decide (fr = (0, 0)) | _ => false

theorem isRow_some {w : World} {b : Nat} (h : isRow w b = true) : ∃ t, w.heap[b]? = some (.cells (rowAt w b) t (0, 0)) := by
  unfold isRow at h
  unfold rowAt
  cases e : w.heap[b]? with
  | none => simp [e] at h
  | some o =>
    cases o with
    | cells c t fr =>
      simp [e] at h
      subst h
      exact ⟨t, rfl⟩
    | _ => simp [e] at h

theorem rowAt_of {w w' : World} {b : Nat} (h : w'.heap[b]? = w.heap[b]?) : rowAt w' b = rowAt w b := by unfold rowAt; rw [h]
theorem isRow_of {w w' : World} {b : Nat} (h : w'.heap[b]? = w.heap[b]?) : isRow w' b = isRow w b := by unfold isRow; rw [h]

theorem rowAt_new (w : World) (c : Array Value) (t : TypeId) : rowAt (w.alloc (.cells c t)) w.heap.size = c := by
  unfold rowAt; rw [heap_alloc_new]
theorem isRow_new (w : World) (c : Array Value) (t : TypeId) : isRow (w.alloc (.cells c t)) w.heap.size = true := by
  unfold isRow; rw [heap_alloc_new]; simp
theorem rowAt_old (w : World) (o : Obj) (b : Nat) (h : b < w.heap.size) : rowAt (w.alloc o) b = rowAt w b := rowAt_of (heap_alloc_old w o h)
theorem isRow_old (w : World) (o : Obj) (b : Nat) (h : b < w.heap.size) : isRow (w.alloc o) b = isRow w b := isRow_of (heap_alloc_old w o h)
theorem rowAt_alloc (w : World) (c : Array Value) (t : TypeId) (n : Nat) : rowAt (w.alloc (.cells c t)) n = if n = w.heap.size then c else rowAt w n := by
  by_cases e : n = w.heap.size
  · subst e; rw [if_pos rfl, rowAt_new]
  · rw [if_neg e]
    by_cases h : n < w.heap.size
    · exact rowAt_old w _ n h
    · unfold rowAt
      rw [show (w.alloc (.cells c t)).heap[n]? = none by simp; omega, show w.heap[n]? = none by simp; omega]
theorem isRow_alloc (w : World) (c : Array Value) (t : TypeId) (n : Nat) : isRow (w.alloc (.cells c t)) n = if n = w.heap.size then true else isRow w n := by
  by_cases e : n = w.heap.size
  · subst e; rw [if_pos rfl, isRow_new]
  · rw [if_neg e]
    by_cases h : n < w.heap.size
    · exact isRow_old w _ n h
    · unfold isRow
      rw [show (w.alloc (.cells c t)).heap[n]? = none by simp; omega, show w.heap[n]? = none by simp; omega]
theorem rowAt_drew (w : World) (b : Nat) : rowAt w.drew b = rowAt w b := rfl
theorem isRow_drew (w : World) (b : Nat) : isRow w.drew b = isRow w b := rfl

theorem isRow_setRow (w : World) (g : Nat) (c : Array Value) (b : Nat) : isRow (w.setRow g c) b = isRow w b := by
  by_cases e : b = g
  · subst e
    unfold isRow World.setRow
    simp only [Array.getElem?_modify, ↓reduceIte]
    cases w.heap[b]? with
    | none => rfl
    | some o => cases o <;> rfl
  · exact isRow_of (setRow_other w g b c e)
theorem rowAt_setRow (w : World) (g : Nat) (c : Array Value) (h : isRow w g = true) : rowAt (w.setRow g c) g = c := by
  obtain ⟨t, e⟩ := isRow_some h
  unfold rowAt
  rw [setRow_heap w g _ c t _ e]
theorem rowAt_setRow_lt (w : World) (g : Nat) (c : Array Value) (b : Nat) (h : b < g) : rowAt (w.setRow g c) b = rowAt w b := rowAt_of (setRow_other w g b c (by omega))
theorem rowAt_setRow_gt (w : World) (g : Nat) (c : Array Value) (b : Nat) (h : g < b) : rowAt (w.setRow g c) b = rowAt w b := rowAt_of (setRow_other w g b c (by omega))

theorem isRow_setCell (w : World) (a : Addr) (v : Value) (b : Nat) : isRow (w.setCell a v) b = isRow w b := by
  by_cases e : b = a.block
  · subst e
    unfold isRow World.setCell
    simp only [Array.getElem?_modify, ↓reduceIte]
    cases w.heap[a.block]? with
    | none => rfl
    | some o => cases o <;> rfl
  · exact isRow_of (Below.heap_setCell w a v b e)
theorem rowAt_setCell (w : World) (g i : Nat) (v : Value) : rowAt (w.setCell ⟨g, i, none⟩ v) g = (rowAt w g).setIfInBounds i v := by
  unfold rowAt World.setCell
  simp only [Array.getElem?_modify, ↓reduceIte]
  cases w.heap[g]? with
  | none => simp
  | some o => cases o <;> simp
theorem rowAt_setCell_lt (w : World) (g i : Nat) (v : Value) (b : Nat) (h : b < g) : rowAt (w.setCell ⟨g, i, none⟩ v) b = rowAt w b := rowAt_of (Below.heap_setCell w _ v b (by show b ≠ g; omega))
theorem rowAt_setCell_gt (w : World) (g i : Nat) (v : Value) (b : Nat) (h : g < b) : rowAt (w.setCell ⟨g, i, none⟩ v) b = rowAt w b := rowAt_of (Below.heap_setCell w _ v b (by show b ≠ g; omega))

theorem cell_setRow (w : World) (g : Nat) (c : Array Value) (j : Nat) (h : isRow w g = true) : (w.setRow g c).cell? ⟨g, j, none⟩ = c[j]? := by
  obtain ⟨t, e⟩ := isRow_some h
  exact cell_setRow_same w g j _ c t _ e
theorem cell_setRow_lt (w : World) (g : Nat) (c : Array Value) (b j : Nat) (h : b < g) : (w.setRow g c).cell? ⟨b, j, none⟩ = w.cell? ⟨b, j, none⟩ := cell_setRow_other w g c _ (by show b ≠ g; omega)
theorem cell_setRow_gt (w : World) (g : Nat) (c : Array Value) (b j : Nat) (h : g < b) : (w.setRow g c).cell? ⟨b, j, none⟩ = w.cell? ⟨b, j, none⟩ := cell_setRow_other w g c _ (by show b ≠ g; omega)
theorem frozen_setRow (w : World) (g : Nat) (c : Array Value) (a : Addr) : (w.setRow g c).frozen? a = w.frozen? a := by
  by_cases e : a.block = g
  · subst e
    unfold World.frozen? World.setRow
    simp only [Array.getElem?_modify, ↓reduceIte]
    cases w.heap[a.block]? with
    | none => rfl
    | some o => cases o <;> rfl
  · unfold World.frozen?
    rw [setRow_other w g a.block c e]

theorem setRow_alloc (w : World) (c c' : Array Value) (t : TypeId) (n : Nat) : (w.alloc (.cells c t)).setRow n c' = if n = w.heap.size then w.alloc (.cells c' t) else (w.setRow n c').alloc (.cells c t) := by
  by_cases e : n = w.heap.size
  · subst e
    rw [if_pos rfl, World.setRow_alloc_new]
  · rw [if_neg e]
    simp only [World.setRow, World.alloc]
    congr 1
    apply Array.ext_getElem?
    intro i
    simp only [Array.getElem?_modify, Array.getElem?_push, Array.size_modify]
    by_cases h : i = w.heap.size
    · subst h; simp [e]
    · simp [h]

/-- A cell of a row. -/
theorem cell_rowAt (w : World) (b j : Nat) (h : isRow w b = true) : w.cell? ⟨b, j, none⟩ = (rowAt w b)[j]? := by
  obtain ⟨t, e⟩ := isRow_some h
  exact cell_of_row w b j _ t _ e
theorem frozen_rowAt (w : World) (b j : Nat) (h : isRow w b = true) : w.frozen? ⟨b, j, none⟩ = false := by
  obtain ⟨t, e⟩ := isRow_some h
  exact frozen_of_row w b j _ t e

theorem load_rowAt (P : Program) (w : World) (b n : Nat) (h : isRow w b = true) (hn : (rowAt w b).size = n) :
    (loadCellsFrom ⟨b, 0, none⟩ 0 n #[]).run P w = .ok (rowAt w b) w := by
  subst hn
  have := run_loadCells_list (P := P) w ⟨b, 0, none⟩ (rowAt w b).toList (fun j v hv => by
    rw [Addr.add_lit, cell_rowAt w b _ h]
    simpa using hv)
  simpa [loadCells] using this

theorem store_rowAt (P : Program) (w : World) (b : Nat) (c : Array Value) (h : isRow w b = true) (hn : (rowAt w b).size = c.size) (h1 : ∀ v ∈ c.toList, v.oneCell' = true) :
    (storeCells ⟨b, 0, none⟩ c.toList 0).run P w = .ok () (w.setRow b c) := by
  obtain ⟨t, e⟩ := isRow_some h
  have := run_storeCells_from (P := P) b t c.toList 0 (rowAt w b) w e (by simp; omega) h1
  simpa using this

/-- Behind a call that leaves what was as it was. -/
theorem brow {x y : World} {n : Nat} (h : Below n x y) : (∀ b, b < n → rowAt y b = rowAt x b) ∧ (∀ b, b < n → isRow y b = isRow x b) :=
  ⟨fun b hb => rowAt_of (h.block b hb), fun b hb => isRow_of (h.block b hb)⟩

theorem bcell {x y : World} {n : Nat} (h : Below n x y) : (∀ b o, b < n → y.cell? ⟨b, o, none⟩ = x.cell? ⟨b, o, none⟩) ∧ (∀ b o, b < n → y.frozen? ⟨b, o, none⟩ = x.frozen? ⟨b, o, none⟩) :=
  ⟨fun b o hb => h.cell (p := ⟨b, o, none⟩) hb, fun b o hb => h.frozen (p := ⟨b, o, none⟩) hb⟩

theorem below_setRow {n : Nat} {a w : World} (h : Below n a w) {g : Nat} (hg : n ≤ g) (c : Array Value) : Below n a (w.setRow g c) :=
  ⟨h.os, h.tape, h.output, by rw [setRow_size]; exact h.size, fun k hk => (setRow_other w g k c (by omega)).trans (h.block k hk)⟩

/-- In a drawn region: operation i is taken now (the kit's wpAnyH_take, its conditions in one, the operation read off the list). -/
theorem ztk {P : Program} {ops : Array Oper} {Q : Exit → Act → World → Prop} {md : Region.Mode} {S : World → Prop} {oi : Oper} {fuel : Nat} {listed : Array Bool} {a : Act} {w : World} (i : Nat) (v : Value) (hi : ops.toList[i]? = some oi)
    (hb : (Region.noSelect ops && (Region.free md ops listed i && (Region.ready md ops listed).contains i)) = true) (hQ : ∀ c a w, Q (.panic c) (a.put oi.dst v) w → Q (.panic c) a w) (hw : Region.wanted oi (yielded ops a.tmps) = true) (hS : S w)
    (hv : ∀ y, S y → (execOp a.eval oi).run P y = .ok (.value v) y) (h : wpAnyH P md ops Q S fuel (listed.setIfInBounds i true) (a.put oi.dst v) w) : wpAnyH P md ops Q S (fuel + 1) listed a w := by
  simp only [Bool.and_eq_true] at hb
  exact wpAnyH_take (by simpa using hi) hb.1 hb.2.1 hb.2.2 hQ (Or.inl ⟨hw, hv⟩) hS h

/-- Operation i is the one that may come up: it is done. -/
theorem zbt {P : Program} {ops : Array Oper} {Q : Exit → Act → World → Prop} {md : Region.Mode} {S : World → Prop} {o : Oper} {fuel : Nat} {listed : Array Bool} {a : Act} {w : World} (i : Nat) (ho : ops.toList[i]? = some o) (hr : Region.ready md ops listed = [i])
    (h : ∀ K' : Act → World → Prop, Shut (∀ a w, S w → (S w → wpAnyH P md ops Q S fuel (listed.setIfInBounds i true) a w) → K' a w) → if Region.wanted o (yielded ops a.tmps) = true then Oper.wp P o a w K' Q else K' (a.put o.dst undef) w) : wpAnyH P md ops Q S (fuel + 1) listed a w :=
  wpAnyH_ready hr (by simp) (AllReadyH.cons (by simpa using ho) h AllReadyH.nil)

/-- One of those that may come up. -/
theorem zct {P : Program} {ops : Array Oper} {Q : Exit → Act → World → Prop} {md : Region.Mode} {S : World → Prop} {o : Oper} {fuel : Nat} {listed : Array Bool} {a : Act} {w : World} {i : Nat} {rs : List Nat} (ho : ops.toList[i]? = some o)
    (h : ∀ K' : Act → World → Prop, Shut (∀ a w, S w → (S w → wpAnyH P md ops Q S fuel (listed.setIfInBounds i true) a w) → K' a w) → if Region.wanted o (yielded ops a.tmps) = true then Oper.wp P o a w K' Q else K' (a.put o.dst undef) w)
    (hs : AllReadyH P md ops Q S fuel listed a w rs) : AllReadyH P md ops Q S fuel listed a w (i :: rs) := AllReadyH.cons (by simpa using ho) h hs

theorem zpa {α : Type} (l : List α) (i : Nat) (a : α) : l.toArray.setIfInBounds i a = (l.set i a).toArray := List.setIfInBounds_toArray ..
theorem zpb {α : Type} (x : α) (l : List α) (a : α) : (x :: l).set 0 a = a :: l := rfl
theorem zpc {α : Type} (x : α) (l : List α) (n : Nat) (a : α) : (x :: l).set (n + 1) a = x :: l.set n a := rfl

end Go.Proofs.Ytgffhnggocbjhaa
