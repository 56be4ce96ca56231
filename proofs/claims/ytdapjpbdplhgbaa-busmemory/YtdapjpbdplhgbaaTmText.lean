/- Layer 9: contracts of a timer's bytes, the program's. -/
import Derived.Test.YtdapjpbdplhgbaaTmWalks2
import Derived.Laws.AppendOwn
import Derived.OwnWalk
import Derived.Laws.BytesArg
import Derived.RegionTactic
import Derived.Deep.RegionLaw
namespace Go.Proofs.Ytdapjpbdplhgbaa.Tm
open Go.RowKit
set_option linter.unusedVariables false
set_option maxRecDepth 100000

/-- A slice of n bytes of nine in block g, held in block b. -/
structure Buf (x : World) (b g n : Nat) (c : Array Value) : Prop where
  box : x.cell? ⟨b, 0, none⟩ = some (.slice (some ⟨g, 0, none⟩) n 9)
  free : x.frozen? ⟨b, 0, none⟩ = false
  row : x.heap[g]? = some (.cells c 5 (0, 0))
  ne : g < b
  lt : b < x.heap.size

/-- A number as four bytes. -/
def quad (v : Int) : List Value := [.int .u8 (v / 16777216), .int .u8 (v / 65536 % 256), .int .u8 (v / 256 % 256), .int .u8 (v % 256)]

/-- A row with some cells written. -/
def spliced (c : Array Value) (n : Nat) (l : List Value) : Array Value := (c.toList.take n ++ l ++ c.toList.drop (n + l.length)).toArray

theorem spliced_size (c : Array Value) (n : Nat) (l : List Value) (h : n + l.length ≤ c.size) : (spliced c n l).size = c.size := by
  unfold spliced
  simp
  omega

theorem append_room {x : World} {g n : Nat} {c : Array Value} (hr : x.heap[g]? = some (.cells c 5 (0, 0))) (l : List Value) (h1 : ∀ u ∈ l, u.oneCell' = true) (hg : g < x.heap.size) (hn : n + l.length ≤ 9) (hc : c.size = 9) :
    (Builtin.append_ #[60, 60] 60 #[.slice (some ⟨g, 0, none⟩) n 9, .slice (some ⟨x.heap.size, 0, none⟩) l.length l.length]).run Try.prog (x.alloc (.cells l.toArray 5)) =
      .ok (.slice (some ⟨g, 0, none⟩) (n + l.length) 9) ((x.alloc (.cells l.toArray 5)).setRow g (spliced c n l)) := by
  obtain ⟨i, hi, -, hsz, -⟩ := info_parts (show (Try.prog.info? 5).map (fun i => (i.zero, i.size, i.bytes)) = some (some (.int .u8 0), 1, 1) by kernel_rfl)
  have h := run_append_room (P := Try.prog) (x.alloc (.cells l.toArray 5)) 60 60 5 i Try.underlying60 hi g n 9 c (by rw [heap_alloc_old x _ hg]; exact hr) ⟨x.heap.size, 0, none⟩ l.length l.length l (by rw [hsz]; omega) (fun j u hu => by
    rw [Addr.add_lit, World.cell?_alloc_new]
    simpa using hu) h1 hn (by rw [hsz]; omega)
  rw [hsz] at h
  simpa [spliced] using h

/-- An append whose run is told. -/
theorem wpList_append_told {P : Program} {w w' : World} {ops : Array Oper} {rest : List Oper} {o : Oper} {a : Act} {Q : Exit → Act → World → Prop}
    (hg : o.guard = none) (s x : Operand) (t : TypeId) (hop : o.op = Op.call { callee := Callee.builtin Builtin.append, args := #[s, x], argTypes := #[t, t] })
    (u y v : Value) (hs : a.eval s = u) (hx : a.eval x = y) (hrun : (Builtin.append_ #[t, t] o.type #[u, y]).run P w = .ok v w')
    (hK : wpList P ops Q rest (a.put o.dst v) w') : wpList P ops Q (o :: rest) a w := by
  refine wpList_plain hg fun K hK' => ?_
  unfold Oper.wp
  simp [execOp, hop, resolve, invoke, builtin, hs, hx, hrun, Result.andThen]
  exact hK' _ _ hK

/-- Behind a put: four bytes more; all other blocks as they were. -/
theorem Buf.put {x : World} {b g n : Nat} {c : Array Value} (h : Buf x b g n c) (l : List Value) (n' : Nat) :
    Buf (((x.alloc (.cells l.toArray 5)).setRow g (spliced c n l)).setCell ⟨b, 0, none⟩ (.slice (some ⟨g, 0, none⟩) n' 9)) b g n' (spliced c n l) := by
  have hg : g < x.heap.size := Nat.lt_trans h.ne h.lt
  have h4 : ((x.alloc (.cells l.toArray 5)).setRow g (spliced c n l)).cell? ⟨b, 0, none⟩ = some (.slice (some ⟨g, 0, none⟩) n 9) := by
    rw [cell_setRow_gt _ _ _ _ _ h.ne, World.cell?_alloc_past _ _ _ h.lt, h.box]
  have h5 : ((x.alloc (.cells l.toArray 5)).setRow g (spliced c n l)).frozen? ⟨b, 0, none⟩ = false := by
    rw [frozen_setRow, World.frozen?_alloc_past _ _ _ h.lt, h.free]
  refine ⟨World.cell?_setCell_same _ _ _ h4, by rw [World.frozen?_setCell, h5], ?_, h.ne, ?_⟩
  · rw [Below.heap_setCell _ _ _ g (by show g ≠ b; have := h.ne; omega)]
    exact setRow_heap _ g c (spliced c n l) 5 (0, 0) (by rw [heap_alloc_old x _ hg, h.row])
  · rw [World.size_setCell, setRow_size]
    have := h.lt
    simp
    omega

theorem Buf.other {x : World} {b g n : Nat} {c : Array Value} (h : Buf x b g n c) (l : List Value) (n' : Nat) (k : Nat) (hk : k < x.heap.size) (hb : k ≠ b) (hg : k ≠ g) :
    (((x.alloc (.cells l.toArray 5)).setRow g (spliced c n l)).setCell ⟨b, 0, none⟩ (.slice (some ⟨g, 0, none⟩) n' 9)).heap[k]? = x.heap[k]? := by
  rw [Below.heap_setCell _ _ _ k (by show k ≠ b; exact hb), setRow_other _ g k _ hg, heap_alloc_old x _ hk]

theorem Buf.below {x : World} {b g n : Nat} {c : Array Value} (h : Buf x b g n c) (l : List Value) (n' : Nat) {N : Nat} {W : World} (hB : Below N W x) (hN : N ≤ g) :
    Below N W (((x.alloc (.cells l.toArray 5)).setRow g (spliced c n l)).setCell ⟨b, 0, none⟩ (.slice (some ⟨g, 0, none⟩) n' 9)) := by
  have := h.ne
  have := h.lt
  exact (below_setRow (hB.alloc (by omega) _) hN _).setCell (by show N ≤ b; omega) _

theorem put_any {v : Int} (hv : W32 v) {x : World} {b g n : Nat} {c : Array Value} (h : Buf x b g n c) (hn : n + 4 ≤ 9) (hc : c.size = 9) :
    Calls Try.prog 59 #[.int .u32 v, .pointer (some ⟨b, 0, none⟩)] x fun e w' => e = .returned (.tuple #[]) ∧ Buf w' b g (n + 4) (spliced c n (quad v)) ∧
      (∀ k, k < x.heap.size → k ≠ b → k ≠ g → w'.heap[k]? = x.heap[k]?) ∧ (∀ N W, Below N W x → N ≤ g → Below N W w') := by
  obtain ⟨v0, v1⟩ := hv
  have h1 := h.box
  have h2 := h.free
  have h3 := append_room h.row (quad v) (by intro u hu; simp [quad] at hu; rcases hu with rfl | rfl | rfl | rfl <;> rfl) (Nat.lt_trans h.ne h.lt) (by simpa [quad] using hn) hc
  have h4 : ((x.alloc (.cells (quad v).toArray 5)).setRow g (spliced c n (quad v))).cell? ⟨b, 0, none⟩ = some (.slice (some ⟨g, 0, none⟩) n 9) := by
    rw [cell_setRow_gt _ _ _ _ _ h.ne, World.cell?_alloc_past _ _ _ h.lt, h.box]
  have h5 : ((x.alloc (.cells (quad v).toArray 5)).setRow g (spliced c n (quad v))).frozen? ⟨b, 0, none⟩ = false := by
    rw [frozen_setRow, World.frozen?_alloc_past _ _ _ h.lt, h.free]
  have fin := hide (And.intro (h.put (quad v) (n + 4)) (And.intro (fun k => h.other (quad v) (n + 4) k) (fun N W => h.below (quad v) (n + 4) (N := N) (W := W))))
  unfold quad at h3 h4 h5
  simp only [List.length_cons, List.length_nil, Nat.zero_add, Nat.reduceAdd] at h3
  clear h
  go_enter Try.func59, Try.ntmps59
  go_wp2_with (at_builtin; refine wpList_append_told rfl _ _ 60 rfl _ _ _ rfl rfl h3 ?_)
  go_end0
  exact ⟨rfl, fin.out.1, fin.out.2.1, fin.out.2.2⟩

/-- Nine noughts. -/
def nine : Array Value := #[.int .u8 0, .int .u8 0, .int .u8 0, .int .u8 0, .int .u8 0, .int .u8 0, .int .u8 0, .int .u8 0, .int .u8 0]

theorem Buf.start (w : World) (c : Array Value) (t : TypeId) :
    Buf (((w.alloc (.cells c t)).alloc (.cells nine 5)).alloc (.cells #[.slice (some ⟨w.heap.size + 1, 0, none⟩) 0 9] 60)) (w.heap.size + 1 + 1) (w.heap.size + 1) 0 nine := by
  have e2 : ((w.alloc (.cells c t)).alloc (.cells nine 5)).heap.size = w.heap.size + 1 + 1 := by simp
  have e1 : (w.alloc (.cells c t)).heap.size = w.heap.size + 1 := by simp
  refine ⟨?_, ?_, ?_, by omega, by simp⟩
  · rw [← e2, World.cell?_alloc_new]
    rfl
  · rw [← e2, World.frozen?_alloc_new]
  · rw [heap_alloc_old _ _ (by simp), ← e1, heap_alloc_new]

theorem Rat.of_heap {w y : World} {b : Nat} {r : Tm} (h : Rat w b r) (e : y.heap[b]? = w.heap[b]?) : Rat y b r := by
  refine ⟨by rw [isRow_of e]; exact h.1, by rw [rowAt_of e]; exact h.2.1, ?_⟩
  have hl := h.2.2
  rw [Array.getElem?_eq_getElem hl] at e
  exact (Array.getElem?_eq_some_iff.1 e).1

/-- A timer's bytes. -/
def textV (t : Tm) : ByteArray := strOfNums [t.e / 16777216, t.e / 65536 % 256, t.e / 256 % 256, t.e % 256, t.l / 16777216, t.l / 65536 % 256, t.l / 256 % 256, t.l % 256, one t.r]

/-- An append whose run is told, in a region that draws its order. -/
theorem step_append_told {P : Program} {w w' : World} {ops : Array Oper} {o : Oper} {a : Act} {K : Act → World → Prop} {Q : Exit → Act → World → Prop} {E : Prop}
    (hg : o.guard = none) (s x : Operand) (t : TypeId) (hop : o.op = Op.call { callee := Callee.builtin Builtin.append, args := #[s, x], argTypes := #[t, t] })
    (u y v : Value) (hs : a.eval s = u) (hx : a.eval x = y) (hrun : (Builtin.append_ #[t, t] o.type #[u, y]).run P w = .ok v w')
    (hK : K (a.put o.dst v) w') : if Region.wanted o (yielded ops a.tmps) = true then Oper.wp P o a w K Q else E := by
  have hw : Region.wanted o (yielded ops a.tmps) = true := by simp [Region.wanted, hg]
  rw [if_pos hw]
  unfold Oper.wp
  simp [execOp, hop, resolve, invoke, builtin, hs, hx, hrun, Result.andThen]
  exact hK

/-- The next operation is an append of these. -/
theorem at_append {P : Program} {w : World} {ops : Array Oper} {o : Oper} {a : Act} {K : Act → World → Prop} {Q : Exit → Act → World → Prop} {E : Prop} (s x : Operand) (t : TypeId)
    (hop : o.op = Op.call { callee := Callee.builtin Builtin.append, args := #[s, x], argTypes := #[t, t] })
    (h : if Region.wanted o (yielded ops a.tmps) = true then Oper.wp P o a w K Q else E) : if Region.wanted o (yielded ops a.tmps) = true then Oper.wp P o a w K Q else E := h

/-- The next operation is a call of this function. -/
theorem at_func {P : Program} {w : World} {ops : Array Oper} {o : Oper} {a : Act} {K : Act → World → Prop} {Q : Exit → Act → World → Prop} {E : Prop} (f : FuncId) (x : Operand) (t : TypeId)
    (hop : o.op = Op.call { callee := Callee.value (Operand.func f), args := #[x], argTypes := #[t] })
    (h : if Region.wanted o (yielded ops a.tmps) = true then Oper.wp P o a w K Q else E) : if Region.wanted o (yielded ops a.tmps) = true then Oper.wp P o a w K Q else E := h

theorem drew_alloc (x : World) (o : Obj) : x.drew.alloc o = (x.alloc o).drew := rfl

/-- Text's blocks behind two puts: the timer, the row of bytes, the slice. -/
def Fit (w : World) (t : Tm) (l : List Value) (x : World) : Prop :=
  x.cell? ⟨w.heap.size + 1 + 1, 0, none⟩ = some (.slice (some ⟨w.heap.size + 1, 0, none⟩) 8 9) ∧ (loadCellsFrom ⟨w.heap.size, 0, none⟩ 0 N3 #[]).run Try.prog x = .ok (cellsT t) x ∧
    Rat x w.heap.size t ∧ w.heap.size + 1 + 1 < x.heap.size ∧ (∃ v, x.heap[w.heap.size + 1]? = some (.cells (l ++ [v]).toArray 5 (0, 0))) ∧ Below w.heap.size w x

theorem Fit.alloc {w x : World} {t : Tm} {l : List Value} (h : Fit w t l x) (o : Obj) : Fit w t l (x.alloc o) := by
  obtain ⟨h1, h2, h3, h4, ⟨v, h5⟩, h6⟩ := h
  refine ⟨by rw [World.cell?_alloc_past _ _ _ h4]; exact h1, (h3.on (grow _ _)).load, h3.on (grow _ _), by simp; omega, ⟨v, by rw [heap_alloc_old x _ (by omega)]; exact h5⟩, h6.alloc (by omega) _⟩

theorem Fit.drew {w x : World} {t : Tm} {l : List Value} (h : Fit w t l x) : Fit w t l x.drew := by
  obtain ⟨h1, h2, h3, h4, h5, h6⟩ := h
  have h3' : Rat x.drew w.heap.size t := h3
  exact ⟨h1, h3'.load, h3', h4, h5, h6.drew⟩

theorem Fit.app {w x : World} {t : Tm} {l : List Value} (h : Fit w t l x) (hl : l.length = 8) (v : Int) :
    (Builtin.append_ #[60, 60] 60 #[.slice (some ⟨w.heap.size + 1, 0, none⟩) 8 9, .slice (some ⟨x.heap.size, 0, none⟩) 1 1]).run Try.prog (x.alloc (.cells #[.int .u8 v] 5)) =
      .ok (.slice (some ⟨w.heap.size + 1, 0, none⟩) 9 9) ((x.alloc (.cells #[.int .u8 v] 5)).setRow (w.heap.size + 1) (l ++ [Value.int .u8 v]).toArray) ∧
    Fit w t l ((x.alloc (.cells #[.int .u8 v] 5)).setRow (w.heap.size + 1) (l ++ [Value.int .u8 v]).toArray) ∧
    ((x.alloc (.cells #[.int .u8 v] 5)).setRow (w.heap.size + 1) (l ++ [Value.int .u8 v]).toArray).heap[w.heap.size + 1]? = some (.cells (l ++ [Value.int .u8 v]).toArray 5 (0, 0)) := by
  have hA := h.alloc (.cells #[.int .u8 v] 5)
  obtain ⟨h1, h2, h3, h4, ⟨u, h5⟩, h6⟩ := hA
  obtain ⟨-, -, -, k4, ⟨u', k5⟩, k6⟩ := h
  have hr := append_room k5 (n := 8) [.int .u8 v] (by intro z hz; simp at hz; subst hz; rfl) (by omega) (by simp) (by simp [hl])
  have e : spliced (l ++ [u']).toArray 8 [.int .u8 v] = (l ++ [Value.int .u8 v]).toArray := by
    unfold spliced
    simp [← hl]
  rw [e] at hr
  have hrow := setRow_heap (x.alloc (.cells #[.int .u8 v] 5)) (w.heap.size + 1) _ (l ++ [Value.int .u8 v]).toArray 5 (0, 0) h5
  have hR := h3.of_heap (setRow_other (x.alloc (.cells #[.int .u8 v] 5)) (w.heap.size + 1) w.heap.size (l ++ [Value.int .u8 v]).toArray (by omega))
  refine ⟨hr, ⟨by rw [cell_setRow_gt _ _ _ _ _ (by omega)]; exact h1, hR.load, hR, by rw [setRow_size]; exact h4, ⟨_, hrow⟩, below_setRow h6 (by omega) _⟩, hrow⟩

theorem conv_list {g : Nat} {w : World} {ns : List Int} (hn : ns.length = 9) (h : w.heap[g]? = some (.cells (ns.map (Value.int .u8)).toArray 5 (0, 0))) :
    (convert 60 9 (.slice (some ⟨g, 0, none⟩) 9 9)).run Try.prog w = .ok (.string (strOfNums ns)) w := by
  refine run_convert_bytes_arg w 60 5 Try.underlying60 Try.underlying5 g 0 9 9 ns hn ?_ 9 Try.underlying9
  intro i hi
  rw [Nat.zero_add, cell_of_row w g i _ _ _ h]
  simp [List.getD, show i < ns.length by omega]

theorem text_any {t : Tm} (ht : Wt t) (w : World) :
    Calls Try.prog 33 #[.agg (cellsT t)] w fun e w' => e = .returned (.string (textV t)) ∧ Below w.heap.size w w' := by
  obtain ⟨s, hs⟩ : ∃ s, textV t = s := ⟨_, rfl⟩
  rw [hs]
  unfold textV at hs
  replace hs := hide hs
  obtain ⟨t1, t2, t3, t4, t5, t6, t7, t8, t9⟩ := tmRules
  obtain ⟨p0, p1, p2⟩ := tmParts
  have hmk : ∀ w : World, (Instr.makeSlice 60 (.int .i64 0) (.int .i64 9)).run Try.prog w = .ok (.slice (some ⟨w.heap.size, 0, none⟩) 0 9) (w.alloc (.cells nine 5)) := fun _ => by kernel_rfl
  go_enter Try.func33, Try.ntmps33
  go_wp2_with fail
  have F := Buf.start w (cellsT t) 62
  have B := ((grow w (.cells (cellsT t) 62)).alloc (by simp) (.cells nine 5)).alloc (by simp; omega) (.cells #[.slice (some ⟨w.heap.size + 1, 0, none⟩) 0 9] 60)
  have R := ((Rat.new w t 62).on (grow _ (.cells nine 5))).on (grow _ (.cells #[.slice (some ⟨w.heap.size + 1, 0, none⟩) 0 9] 60))
  generalize ((w.alloc (.cells (cellsT t) 62)).alloc (.cells nine 5)).alloc (.cells #[.slice (some ⟨w.heap.size + 1, 0, none⟩) 0 9] 60) = x0 at *
  refine (put_any ht.e F (by omega) rfl).mono ?_
  rintro e w1 ⟨rfl, F1, o1, b1⟩
  replace B := b1 _ _ B (by omega)
  replace R := R.of_heap (o1 _ R.2.2 (by omega) (by omega))
  clear F o1 b1 hmk
  have l1 := R.cell 1
  rw [p1] at l1
  go_wp2_with fail
  refine (put_any ht.l F1 (by omega) rfl).mono ?_
  rintro e w2 ⟨rfl, F2, o2, b2⟩
  replace B := b2 _ _ B (by omega)
  replace R := R.of_heap (o2 _ R.2.2 (by omega) (by omega))
  clear F1 o2 b2 l1
  have hS : Fit w t (quad t.e ++ quad t.l) w2 := ⟨F2.box, R.load, R, F2.lt, ⟨_, F2.row⟩, B⟩
  replace hS := hS.drew
  clear F2 R ht B
  have c := hide fun W => ring_any t W
  have hl : (quad t.e ++ quad t.l).length = 8 := rfl
  have hk : ∀ y : World, y.heap[w.heap.size + 1]? = some (.cells (quad t.e ++ quad t.l ++ [Value.int .u8 (one t.r)]).toArray 5 (0, 0)) → (convert 60 9 (.slice (some ⟨w.heap.size + 1, 0, none⟩) 9 9)).run Try.prog y = .ok (.string s) y := by
    intro y hy
    rw [← hs.out]
    exact conv_list rfl hy
  generalize quad t.e ++ quad t.l = l at *
  generalize one t.r = a8 at *
  clear hs
  have h1 := Fit.alloc hS (.cells (cellsT t) 62)
  have h2 := h1.alloc (.cells #[.int .u8 a8] 5)
  obtain ⟨hA, h3, h4⟩ := h1.app hl a8
  have hcv := hk _ h4
  clear h4 hk hl
  rw [show (w2.drew.alloc (.cells (cellsT t) 62)).heap.size = w2.heap.size + 1 by simp] at hA
  simp only [drew_alloc] at hA h1 h2 h3 hcv
  have hB := hide h3.2.2.2.2.2
  replace hA := hide hA
  unfold Fit at hS h1 h2 h3
  go_wp2_with fail
  go_region_law
    (first
      | (refine at_func 60 (.tmp 16) 62 (by with_reducible rfl) ?_; go_simp; refine (c.out _).mono ?_; rintro e w' ⟨rfl, rfl⟩; go_wp2_with fail)
      | (refine at_append (.tmp 15) (.tmp 18) 60 (by with_reducible rfl) ?_
         refine step_append_told (by with_reducible rfl) (.tmp 15) (.tmp 18) 60 (by with_reducible rfl) (.slice (some ⟨w.heap.size + 1, 0, none⟩) 8 9) (.slice (some ⟨w2.heap.size + 1, 0, none⟩) 1 1) _ (by rfl) (by rfl) hA.out ?_))
  all_goals
    go_wp2
    go_ret
    exact ⟨rfl, hB.out⟩

end Go.Proofs.Ytdapjpbdplhgbaa.Tm
