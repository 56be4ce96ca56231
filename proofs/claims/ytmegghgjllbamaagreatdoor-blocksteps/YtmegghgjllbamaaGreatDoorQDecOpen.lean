/- The program's two tables, as the row's condition lays them; and the heap that the program's own initialisers leave meets it. -/
import Derived.Test.YtmegghgjllbamaaGreatDoorQDeAll
import Derived.ProofKit
import Derived.LaidMore
import Derived.OpenShut
import Derived.ChangeOld
import Derived.Lib.SmallJoins
namespace Go.Proofs.YtmegghgjllbamaaGreatDoor.De
open Go.ChangeShapes Go.WideShapes Go.ChangeAt Go.RowKit Go.Joins
set_option linter.unusedVariables false
set_option maxRecDepth 100000

def laid2 : List (String × DataW Unit) := [("zoetrope/decode.zeros", Rows.laid_zoetrope_decode_zeros), ("zoetrope/decode.others", Rows.laid_zoetrope_decode_others)]

/-- The datum of one row. -/
def rowD (i : Nat) : DataW Unit := .agg [.lit (.string (Dec.name i).data.toList), .lit (.int .i64 (Dec.fm i : Nat)), .lit (.int .u32 (Dec.mj i : Nat)), .lit (.int .u32 (Dec.mn i : Nat))]

theorem zeros_is : Rows.laid_zoetrope_decode_zeros = .agg ((List.range 32).map rowD) := by kernel_rfl

theorem others_is : Rows.laid_zoetrope_decode_others = .agg ((List.range 37).map fun i => rowD (32 + i)) := by kernel_rfl

theorem gZeros : Tryz.prog.globalNamed "zoetrope/decode.zeros" = some 0 := by kernel_rfl
theorem gOthers : Tryz.prog.globalNamed "zoetrope/decode.others" = some 1 := by kernel_rfl
theorem tZeros : (Tryz.prog.globals[0]?).map (·.type) = some 162 := by kernel_rfl
theorem tOthers : (Tryz.prog.globals[1]?).map (·.type) = some 163 := by kernel_rfl
theorem cells46 : Tryz.prog.cellsOf 128 = 4 := by kernel_rfl
theorem cells9 : Tryz.prog.cellsOf 9 = 1 := by kernel_rfl
theorem cells44 : Tryz.prog.cellsOf 126 = 1 := by kernel_rfl
theorem cells22 : Tryz.prog.cellsOf 23 = 1 := by kernel_rfl

theorem head_of {l : List Value} {k : Nat} {v : Value} (h : (l.drop k).take 1 = [v]) : l[k]? = some v := by
  have : ((l.drop k).take 1)[0]? = some v := by rw [h]; rfl
  simpa using this

theorem row_cells {H : Type} {enc : TypeId × Value → H} {base : Nat} {sp : Nat → Bool} {held : Bool} {fuel : Nat} {W : World} {l : List Value} {nm : List UInt8} {f j n : Int} {x : DataW H × List MemPlace}
    (hx : x.1 = .agg [.lit (.string nm), .lit (.int .i64 f), .lit (.int .u32 j), .lit (.int .u32 n)])
    (h : DataW.trod enc Tryz.prog W base sp held fuel 128 l = some x) :
    (∃ s : ByteArray, l[0]? = some (.string s) ∧ s.data.toList = nm) ∧ l[1]? = some (.int .i64 f) ∧ l[2]? = some (.int .u32 j) ∧ l[3]? = some (.int .u32 n) := by
  obtain ⟨xs, m, -, rfl, hl, hlen, hf⟩ := DataW.trod_struct Tryz.underlying128 h
  match xs, hlen, hf, hx with
  | [y0, y1, y2, y3], _, hf, hx =>
    have h0 : DataW.trod enc Tryz.prog W base sp held m 9 ((l.drop 0).take (Tryz.prog.cellsOf 9)) = some y0 := hf 0 _ rfl
    have h1 : DataW.trod enc Tryz.prog W base sp held m 126 ((l.drop 1).take (Tryz.prog.cellsOf 126)) = some y1 := hf 1 _ rfl
    have h2 : DataW.trod enc Tryz.prog W base sp held m 23 ((l.drop 2).take (Tryz.prog.cellsOf 23)) = some y2 := hf 2 _ rfl
    have h3 : DataW.trod enc Tryz.prog W base sp held m 23 ((l.drop 3).take (Tryz.prog.cellsOf 23)) = some y3 := hf 3 _ rfl
    rw [cells9] at h0
    rw [cells44] at h1
    rw [cells22] at h2 h3
    obtain ⟨s, e0, rfl, -⟩ := DataW.trod_string Tryz.underlying9 h0
    obtain ⟨a, e1, rfl, -⟩ := DataW.trod_int Tryz.underlying126 h1
    obtain ⟨b, e2, rfl, -⟩ := DataW.trod_int Tryz.underlying23 h2
    obtain ⟨c, e3, rfl, -⟩ := DataW.trod_int Tryz.underlying23 h3
    simp at hx
    obtain ⟨rfl, rfl, rfl, rfl⟩ := hx
    exact ⟨⟨s, head_of e0, rfl⟩, head_of e1, head_of e2, head_of e3⟩

theorem bytes_ext {s t : ByteArray} (h : s.data.toList = t.data.toList) : s = t := by
  cases s; cases t; simp at h; rw [h]

theorem at_drop {l : List Value} {i k : Nat} {v : Value} (h : ((l.drop (i * 4)).take 4)[k]? = some v) (hk : k < 4) : l[i * 4 + k]? = some v := by
  rw [List.getElem?_take_of_lt hk, List.getElem?_drop] at h
  exact h

theorem tab_cells {fuel n t : Nat} {W : World} {cs : Array Value} {g : Nat → Nat} {p : List MemPlace} (ht : Tryz.prog.underlying t = some (.array n 128))
    (h : DataW.trod (fun _ => ()) Tryz.prog W 0 (fun _ => true) false fuel t cs.toList = some (.agg ((List.range n).map fun i => rowD (g i)), p)) (i : Nat) (hi : i < n) :
    cs[i * 4]? = some (.string (Dec.name (g i))) ∧ cs[i * 4 + 1]? = some (.int .i64 (Dec.fm (g i) : Nat)) ∧ cs[i * 4 + 2]? = some (.int .u32 (Dec.mj (g i) : Nat)) ∧ cs[i * 4 + 3]? = some (.int .u32 (Dec.mn (g i) : Nat)) := by
  obtain ⟨xs, m, -, hx, hl, hlen, hf⟩ := DataW.trod_array ht h
  have hi2 := hf i hi
  rw [cells46] at hi2
  simp only [Prod.mk.injEq, DataW.agg.injEq] at hx
  have hlt : i < xs.length := by rw [hlen]; exact hi
  have e : xs[i]? = some xs[i] := List.getElem?_eq_getElem hlt
  rw [e] at hi2
  have hd : (xs[i]).1 = rowD (g i) := by
    have := congrArg (fun l => l[i]?) hx.1
    simp [e, hi] at this
    exact this.symm
  obtain ⟨⟨s, c0, es⟩, c1, c2, c3⟩ := row_cells hd hi2
  obtain rfl := bytes_ext es
  have a0 := at_drop c0 (by decide)
  have a1 := at_drop c1 (by decide)
  have a2 := at_drop c2 (by decide)
  have a3 := at_drop c3 (by decide)
  simp only [Array.getElem?_toList] at a0 a1 a2 a3
  exact ⟨a0, a1, a2, a3⟩

theorem tabs_of_laid {W : World} (h : laidMetH Tryz.prog laid2 W) : Tabs W := by
  rw [MakeChecks.laidMetH_plain _ _ _ (by kernel_rfl)] at h
  obtain ⟨ps, ⟨g0, t0, cs0, f0, p0, q0, hg0, ht0, hv0, hd0, ⟨g1, t1, cs1, f1, p1, q1, hg1, ht1, hv1, hd1, _, _⟩, _⟩, _, _⟩ := h
  obtain rfl := Option.some.inj (gZeros.symm.trans hg0)
  obtain rfl := Option.some.inj (gOthers.symm.trans hg1)
  obtain rfl := Option.some.inj (tZeros.symm.trans ht0)
  obtain rfl := Option.some.inj (tOthers.symm.trans ht1)
  rw [zeros_is] at hd0
  rw [others_is] at hd1
  have z := tab_cells (g := id) Tryz.underlying162 hd0
  have o := tab_cells (g := fun i => 32 + i) Tryz.underlying163 hd1
  have vz := World.var?_cell hg0 hv0
  have vo := World.var?_cell hg1 hv1
  refine ⟨fun i hi => ?_, fun i hi => ?_, ?_⟩
  · rw [vz, vz, vz, vz]; exact z i hi
  · rw [vo, vo, vo, vo]; exact o i hi
  · have := o 0 (by decide)
    rw [← vo] at this
    exact cell_in this.1

/-- The heap that the program's own initialisers leave meets the condition. -/
theorem door_met (os : Os) (args : Array Value) : laidMetH Tryz.prog laid2 ((World.doorLaid Tryz.prog 88 os).forCall (fun _ _ => 0) ⟨#[], args, []⟩).memory :=
  laidMetH_of_parts3 (fuel := 8) (laidMet_of_run' 8 (by kernel_rfl) (by kernel_rfl)) (by kernel_rfl) (by kernel_rfl)

theorem cells24 : Tryz.prog.cellsOf 73 = 6 := by kernel_rfl

theorem own : ownKnob Tryz.prog.godebug = none := by kernel_rfl

/-- Six ints that fit. -/
def Fits6 (o s t d a i : Int) : Prop := (Lit.int .i64 o).wf = true ∧ (Lit.int .i64 s).wf = true ∧ (Lit.int .i64 t).wf = true ∧ (Lit.int .i64 d).wf = true ∧ (Lit.int .i64 a).wf = true ∧ (Lit.int .i64 i).wf = true

theorem cells3 : Tryz.prog.cellsOf 3 = 1 := by kernel_rfl

theorem array6 {α : Type} {a : Array α} (h : a.size = 6) : ∃ x0 x1 x2 x3 x4 x5, a = #[x0, x1, x2, x3, x4, x5] := by
  obtain ⟨l⟩ := a
  match l, h with
  | [x0, x1, x2, x3, x4, x5], _ => exact ⟨x0, x1, x2, x3, x4, x5, rfl⟩

theorem open_instr {H : Type} {enc : TypeId × Value → H} {w : World} {base : Nat} {spare : Nat → Bool} {held : Bool} {r : Reach} {b0 : Nat} {v : Value} {x : DataW H} {p : List MemPlace}
    (hv : Value.okWide Tryz.prog w r b0 73 v) (h : DataW.Trod enc Tryz.prog w base spare held 73 v x p) :
    ∃ o s t d a i : Int, v = .agg #[.int .i64 o, .int .i64 s, .int .i64 t, .int .i64 d, .int .i64 a, .int .i64 i] ∧ x = .agg [.lit (.int .i64 o), .lit (.int .i64 s), .lit (.int .i64 t), .lit (.int .i64 d), .lit (.int .i64 a), .lit (.int .i64 i)] ∧ p = [] ∧ Fits6 o s t d a i := by
  obtain ⟨cs, rfl, hsz⟩ := okWide_struct Tryz.underlying73 hv
  obtain ⟨c0, c1, c2, c3, c4, c5, rfl⟩ := array6 (hsz.trans cells24)
  obtain ⟨fuel, hf⟩ := h
  obtain ⟨xs, m, -, hx, hl, hlen, hf⟩ := DataW.trod_struct Tryz.underlying73 hf
  match xs, hlen, hf, hx with
  | [y0, y1, y2, y3, y4, y5], _, hf, hx =>
    have h0 : DataW.trod enc Tryz.prog w base spare held m 3 (((Value.agg #[c0, c1, c2, c3, c4, c5]).cells.toList.drop 0).take (Tryz.prog.cellsOf 3)) = some y0 := hf 0 _ rfl
    have h1 : DataW.trod enc Tryz.prog w base spare held m 3 (((Value.agg #[c0, c1, c2, c3, c4, c5]).cells.toList.drop 1).take (Tryz.prog.cellsOf 3)) = some y1 := hf 1 _ rfl
    have h2 : DataW.trod enc Tryz.prog w base spare held m 3 (((Value.agg #[c0, c1, c2, c3, c4, c5]).cells.toList.drop 2).take (Tryz.prog.cellsOf 3)) = some y2 := hf 2 _ rfl
    have h3 : DataW.trod enc Tryz.prog w base spare held m 3 (((Value.agg #[c0, c1, c2, c3, c4, c5]).cells.toList.drop 3).take (Tryz.prog.cellsOf 3)) = some y3 := hf 3 _ rfl
    have h4 : DataW.trod enc Tryz.prog w base spare held m 3 (((Value.agg #[c0, c1, c2, c3, c4, c5]).cells.toList.drop 4).take (Tryz.prog.cellsOf 3)) = some y4 := hf 4 _ rfl
    have h5 : DataW.trod enc Tryz.prog w base spare held m 3 (((Value.agg #[c0, c1, c2, c3, c4, c5]).cells.toList.drop 5).take (Tryz.prog.cellsOf 3)) = some y5 := hf 5 _ rfl
    rw [cells3] at h0 h1 h2 h3 h4 h5
    obtain ⟨o, e0, rfl, w0⟩ := DataW.trod_int Tryz.underlying3 h0
    obtain ⟨s, e1, rfl, w1⟩ := DataW.trod_int Tryz.underlying3 h1
    obtain ⟨t, e2, rfl, w2⟩ := DataW.trod_int Tryz.underlying3 h2
    obtain ⟨d, e3, rfl, w3⟩ := DataW.trod_int Tryz.underlying3 h3
    obtain ⟨a, e4, rfl, w4⟩ := DataW.trod_int Tryz.underlying3 h4
    obtain ⟨i, e5, rfl, w5⟩ := DataW.trod_int Tryz.underlying3 h5
    simp [Value.cells] at e0 e1 e2 e3 e4 e5
    subst e0 e1 e2 e3 e4 e5
    simp at hx
    exact ⟨o, s, t, d, a, i, rfl, hx.1, hx.2, w0, w1, w2, w3, w4, w5⟩

theorem shut_instr {H : Type} {enc : TypeId × Value → H} {w : World} {base : Nat} {spare : Nat → Bool} {held : Bool} {o s t d a i : Int} (h : Fits6 o s t d a i) :
    DataW.Trod enc Tryz.prog w base spare held 73 (.agg #[.int .i64 o, .int .i64 s, .int .i64 t, .int .i64 d, .int .i64 a, .int .i64 i]) (.agg [.lit (.int .i64 o), .lit (.int .i64 s), .lit (.int .i64 t), .lit (.int .i64 d), .lit (.int .i64 a), .lit (.int .i64 i)]) [] := by
  obtain ⟨h0, h1, h2, h3, h4, h5⟩ := h
  refine ⟨2, ?_⟩
  have := trod_struct_mk (enc := enc) (P := Tryz.prog) (w := w) (base := base) (spare := spare) (held := held) (n := 1) (cs := (Value.agg #[.int .i64 o, .int .i64 s, .int .i64 t, .int .i64 d, .int .i64 a, .int .i64 i]).cells.toList)
    (xs := [(.lit (.int .i64 o), []), (.lit (.int .i64 s), []), (.lit (.int .i64 t), []), (.lit (.int .i64 d), []), (.lit (.int .i64 a), []), (.lit (.int .i64 i), [])]) Tryz.underlying73 (by rw [cells24]; rfl)
    (by simp [DataW.trod, Tryz.underlying3, cells3, Value.cells, h0, h1, h2, h3, h4, h5])
  exact this

end Go.Proofs.YtmegghgjllbamaaGreatDoor.De
