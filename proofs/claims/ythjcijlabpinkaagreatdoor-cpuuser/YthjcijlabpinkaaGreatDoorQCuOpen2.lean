/- Layer 13: a world of the statements is opened. -/
import Derived.Test.YthjcijlabpinkaaGreatDoorQCuOpen
namespace Go.Proofs.YthjcijlabpinkaaGreatDoor
open Go.ChangeShapes Go.WideShapes Go.ChangeAt Go.RowKit Go.Joins
set_option linter.unusedVariables false
set_option maxRecDepth 100000
set_option linter.unusedSimpArgs false

/-- An event: behind how many steps, its kind, its number. -/
structure Ev where
  x : Int
  k : Int
  n : Int

def listE (e : Ev) : List Value := [.int .i64 e.x, .int .i64 e.k, .int .u32 e.n]

/-- A row of events that came in. -/
def IsEvents (w : World) (v : Value) (es : List Ev) : Prop :=
  (∃ a c, es = [] ∧ v = .slice a 0 c) ∨ ∃ b off c, v = .slice (some ⟨b, off, none⟩) es.length c ∧ es.length ≤ maxLen ∧ b < w.heap.size ∧ ∀ (i : Nat) e, es[i]? = some e → Cp.W32 e.n ∧ ∀ j, j < 3 → w.cell? ⟨b, off + i * 3 + j, none⟩ = (listE e)[j]?

section
variable {H : Type} {enc : TypeId × Value → H} {w : World} {base : Nat} {spare : Nat → Bool} {held : Bool}

theorem event_cells {fuel : Nat} {l : List Value} {y : DataW H × List MemPlace} (hn : l.length = 3) (h : DataW.trod enc Tryz.prog w base spare held fuel 48 l = some y) :
    ∃ e : Ev, l = listE e ∧ Cp.W32 e.n := by
  have c1 : Tryz.prog.cellsOf 22 = 1 := by kernel_rfl
  have c3 : Tryz.prog.cellsOf 3 = 1 := by kernel_rfl
  match l, hn with
  | [d0, d1, d2], _ =>
    obtain ⟨xs, m, -, hx, -, hlen, hf⟩ := DataW.trod_struct Tryz.underlying48 h
    match xs, hlen, hf, hx with
    | [y0, y1, y2], _, hf, hx =>
      have h0 : DataW.trod enc Tryz.prog w base spare held m 3 ((([d0, d1, d2] : List Value).drop 0).take (Tryz.prog.cellsOf 3)) = some y0 := hf 0 _ rfl
      have h1 : DataW.trod enc Tryz.prog w base spare held m 3 ((([d0, d1, d2] : List Value).drop 1).take (Tryz.prog.cellsOf 3)) = some y1 := hf 1 _ rfl
      have h2 : DataW.trod enc Tryz.prog w base spare held m 22 ((([d0, d1, d2] : List Value).drop 2).take (Tryz.prog.cellsOf 22)) = some y2 := hf 2 _ rfl
      rw [c3] at h0 h1
      rw [c1] at h2
      obtain ⟨a0, e0, -, w0⟩ := DataW.trod_int Tryz.underlying3 h0
      obtain ⟨a1, e1, -, w1⟩ := DataW.trod_int Tryz.underlying3 h1
      obtain ⟨a2, e2, -, w2⟩ := DataW.trod_int Tryz.underlying22 h2
      simp at e0 e1 e2
      subst e0 e1 e2
      exact ⟨⟨a0, a1, a2⟩, rfl, wf_u32c w2⟩

theorem events_of {fuel : Nat} {v : Value} {y : DataW H × List MemPlace} (hf : DataW.trod enc Tryz.prog w base spare held fuel 39 [v] = some y) : ∃ es, IsEvents w v es := by
  have cE : Tryz.prog.cellsOf 48 = 3 := by kernel_rfl
  rcases Go.Deep.open_slice Tryz.underlying39 hf with ⟨hcs, _⟩ | ⟨y, len, cap, m, n, D, Pl, hcs, hb, hl, hm, hmm, -, hx⟩
  · simp at hcs
    subst hcs
    exact ⟨[], Or.inl ⟨_, _, rfl, rfl⟩⟩
  · simp at hcs
    subst hcs
    have hle : len ≤ m := by rw [hmm]; split <;> omega
    by_cases h0 : len = 0
    · subst h0
      exact ⟨[], Or.inl ⟨_, _, rfl, rfl⟩⟩
    · have each : ∀ i, i < len → ∃ o : Ev, Cp.W32 o.n ∧ ∀ j, j < 3 → w.cell? (y.add (i * 3 + j)) = (listE o)[j]? := by
        intro i hi
        obtain ⟨cs, h1, h2⟩ := hx i (by omega)
        rw [cE] at h1
        obtain ⟨_, hlen, hc⟩ := World.cells?_some h1
        obtain ⟨o, rfl, ho⟩ := event_cells hlen h2
        refine ⟨o, ho, fun j hj => ?_⟩
        rw [← hc j hj, Addr.add_add]
      obtain ⟨b, off, spot⟩ := y
      obtain ⟨o0, -, hc0⟩ := each 0 (by omega)
      have hc1 := hc0 0 (by decide)
      have hs : spot = none := by
        simpa [Addr.add] using World.cell?_spot (v := .int .i64 o0.x) hc1
      subst hs
      have hlt : b < w.heap.size := by
        rw [Addr.add_lit] at hc1
        exact World.block_lt_of_cell? (u := .int .i64 o0.x) _ _ hc1
      obtain ⟨f, hf⟩ := Classical.axiomOfChoice (r := fun (i : Fin len) (o : Ev) => Cp.W32 o.n ∧ ∀ j, j < 3 → w.cell? ((⟨b, off, none⟩ : Addr).add (i.1 * 3 + j)) = (listE o)[j]?) (fun i => each i.1 i.2)
      refine ⟨List.ofFn f, Or.inr ⟨b, off, cap, ?_, ?_, hlt, ?_⟩⟩
      · rw [List.length_ofFn]
      · rw [List.length_ofFn]; omega
      · intro i o hi
        have hil : i < len := by
          have := (List.getElem?_eq_some_iff.1 hi).1
          rwa [List.length_ofFn] at this
        rw [List.getElem?_eq_getElem (by rw [List.length_ofFn]; exact hil), List.getElem_ofFn] at hi
        injection hi with hi
        obtain ⟨h1, h2⟩ := hf ⟨i, hil⟩
        rw [hi] at h1 h2
        refine ⟨h1, fun j hj => ?_⟩
        have := h2 j hj
        rw [Addr.add_lit] at this
        rw [Nat.add_assoc]
        exact this

theorem words_of {fuel : Nat} {v : Value} {y : DataW H × List MemPlace} (hf : DataW.trod enc Tryz.prog w base spare held fuel 38 [v] = some y) : ∃ zs, IsWords w v zs := by
  rcases open_ints Tryz.underlying38 Tryz.underlying22 (by kernel_rfl) hf with ⟨hcs, _⟩ | ⟨y, len, cap, zs, hcs, _, hl, hm, hz, _, hcell, hwz⟩
  · simp at hcs
    subst hcs
    exact ⟨[], Or.inl ⟨_, _, rfl, rfl⟩⟩
  · simp at hcs
    subst hcs
    have hle : len ≤ zs.length := by rw [hz]; split <;> omega
    by_cases h0 : len = 0
    · subst h0
      exact ⟨[], Or.inl ⟨_, _, rfl, rfl⟩⟩
    · obtain ⟨b, off, spot⟩ := y
      have hs : spot = none := by simpa [Addr.add] using World.cell?_spot (hcell 0 (by omega))
      subst hs
      refine ⟨zs.take len, Or.inr ⟨b, off, cap, ?_, ?_, ?_, ?_⟩⟩
      · rw [List.length_take, Nat.min_eq_left hle]
      · rw [List.length_take, Nat.min_eq_left hle]; omega
      · have := World.block_lt_of_cell? _ _ (hcell 0 (by omega))
        exact this
      · intro i z hi
        have hil : i < len := by
          have := (List.getElem?_eq_some_iff.1 hi).1
          rw [List.length_take] at this
          omega
        rw [List.getElem?_take_of_lt hil] at hi
        have hc := hcell i (by omega)
        rw [Addr.add_lit, List.getD_eq_getElem?_getD, hi] at hc
        exact ⟨wf_u32c (hwz z (List.mem_of_getElem? hi)), hc⟩

theorem open_world {r : Reach} {b0 : Nat} {v : Value} {x : DataW H} {p : List MemPlace}
    (hv : Value.okWide Tryz.prog w r b0 41 v) (h : DataW.Trod enc Tryz.prog w base spare held 41 v x p) :
    ∃ (c : Cs) (sw : Value) (dev : ByteArray) (se : Value) (st : Int) (zs : List Int) (es : List Ev), v = .agg (cellsWo c sw dev se st) ∧ Wc c ∧ IsWords w sw zs ∧ dev.size ≤ maxLen ∧ IsEvents w se es ∧ (Lit.int .i64 st).wf = true := by
  obtain ⟨cs, rfl, hsz⟩ := okWide_struct Tryz.underlying41 hv
  have u67 : Tryz.prog.cellsOf 41 = 67 := by kernel_rfl
  have u63 : Tryz.prog.cellsOf 31 = 63 := by kernel_rfl
  have uw : Tryz.prog.cellsOf 38 = 1 := by kernel_rfl
  have u9 : Tryz.prog.cellsOf 9 = 1 := by kernel_rfl
  have ue : Tryz.prog.cellsOf 39 = 1 := by kernel_rfl
  have u3 : Tryz.prog.cellsOf 3 = 1 := by kernel_rfl
  rw [u67] at hsz
  obtain ⟨fuel, hf⟩ := h
  simp only [Value.cells] at hf
  have hl : cs.toList.length = 67 := by simpa using hsz
  generalize hcl : cs.toList = l at *
  obtain ⟨xs, m, -, hx, -, hlen, hf⟩ := DataW.trod_struct Tryz.underlying41 hf
  match xs, hlen, hf, hx with
  | [y0, y1, y2, y3, y4], _, hf, hx =>
    have h0 : DataW.trod enc Tryz.prog w base spare held m 31 ((l.drop 0).take (Tryz.prog.cellsOf 31)) = some y0 := hf 0 _ rfl
    have h1 : DataW.trod enc Tryz.prog w base spare held m 38 ((l.drop 63).take (Tryz.prog.cellsOf 38)) = some y1 := hf 1 _ rfl
    have h2 : DataW.trod enc Tryz.prog w base spare held m 9 ((l.drop 64).take (Tryz.prog.cellsOf 9)) = some y2 := hf 2 _ rfl
    have h3 : DataW.trod enc Tryz.prog w base spare held m 39 ((l.drop 65).take (Tryz.prog.cellsOf 39)) = some y3 := hf 3 _ rfl
    have h4 : DataW.trod enc Tryz.prog w base spare held m 3 ((l.drop 66).take (Tryz.prog.cellsOf 3)) = some y4 := hf 4 _ rfl
    rw [u63] at h0
    rw [uw] at h1
    rw [u9] at h2
    rw [ue] at h3
    rw [u3] at h4
    have one : ∀ k, k < 67 → ∃ v, (l.drop k).take 1 = [v] ∧ l[k]? = some v := fun k hk => by
      have hk' : k < l.length := by omega
      refine ⟨l[k], ?_, List.getElem?_eq_getElem hk'⟩
      rw [List.drop_eq_getElem_cons hk']
      rfl
    obtain ⟨v1, e1, g1⟩ := one 63 (by omega)
    obtain ⟨v2, e2, g2⟩ := one 64 (by omega)
    obtain ⟨v3, e3, g3⟩ := one 65 (by omega)
    obtain ⟨v4, e4, g4⟩ := one 66 (by omega)
    rw [e1] at h1
    rw [e2] at h2
    rw [e3] at h3
    rw [e4] at h4
    obtain ⟨c, ec, hc⟩ := cpu_cells h0
    obtain ⟨zs, hz⟩ := words_of h1
    obtain ⟨s, es2, -, ws⟩ := DataW.trod_string Tryz.underlying9 h2
    obtain ⟨evs, he⟩ := events_of h3
    obtain ⟨st, e5, -, w5⟩ := DataW.trod_int Tryz.underlying3 h4
    simp at es2 e5
    subst es2 e5
    refine ⟨c, v1, s, v3, st, zs, evs, ?_, hc, hz, ?_, he, w5⟩
    · congr 1
      apply Array.toList_inj.1
      rw [hcl]
      have hcut : l = (l.drop 0).take 63 ++ [v1, .string s, v3, .int .i64 st] := by
        refine List.ext_getElem? fun j => ?_
        by_cases hj : j < 63
        · rw [List.getElem?_append_left (by simp; omega), List.getElem?_take_of_lt hj]; simp
        · by_cases h67 : j < 67
          · rw [List.getElem?_append_right (by simp; omega)]
            have e63 : (List.take 63 (List.drop 0 l)).length = 63 := by simp; omega
            rw [e63]
            obtain rfl | rfl | rfl | rfl : j = 63 ∨ j = 64 ∨ j = 65 ∨ j = 66 := by omega
            · exact g1
            · exact g2
            · exact g3
            · exact g4
          · rw [List.getElem?_eq_none (by omega), List.getElem?_eq_none (by simp; omega)]
      rw [hcut, ec]
      rfl
    · exact ws

end

end Go.Proofs.YthjcijlabpinkaaGreatDoor
