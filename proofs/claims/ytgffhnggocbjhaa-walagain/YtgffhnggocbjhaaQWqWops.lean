/- Layer 19: the calls of a script that come in. -/
import Derived.Test.YtgffhnggocbjhaaQWqCells
import Derived.Test.YtgffhnggocbjhaaQDkOpen
namespace Go.Proofs.Ytgffhnggocbjhaa
open Go.ChangeShapes Go.WideShapes Go.ChangeAt Go.RowKit Go.Joins
set_option linter.unusedVariables false
set_option maxRecDepth 100000
set_option linter.unusedSimpArgs false

/-- Where a call of a script lies. -/
def Wop.At (o : Wop) (w : World) (b off : Nat) : Prop := ∀ j, j < 8 → w.cell? ⟨b, off + j, none⟩ = o.list[j]?

theorem Wop.At.keep {o : Wop} {w w' : World} {b off : Nat} (h : o.At w b off) (e : w'.heap[b]? = w.heap[b]?) : o.At w' b off := fun j hj => by
  rw [World.cell?_of_block (a := ⟨b, off + j, none⟩) e]; exact h j hj

theorem Wop.At.eight {o : Wop} {w : World} {b off : Nat} (h : o.At w b off) :
    w.cell? ⟨b, off, none⟩ = some (.int .i64 o.k) ∧ w.cell? ⟨b, off + 1, none⟩ = some o.v ∧ w.cell? ⟨b, off + 2, none⟩ = some (.int .u8 o.f) ∧ w.cell? ⟨b, off + 3, none⟩ = some (.int .i64 o.m) ∧ w.cell? ⟨b, off + 4, none⟩ = some (.int .i64 o.n) ∧ w.cell? ⟨b, off + 5, none⟩ = some (.string o.c.keep) ∧
      w.cell? ⟨b, off + 6, none⟩ = some (.int .i64 o.c.torn) ∧ w.cell? ⟨b, off + 7, none⟩ = some (.int .i64 o.c.bytes) :=
  ⟨h 0 (by decide), h 1 (by decide), h 2 (by decide), h 3 (by decide), h 4 (by decide), h 5 (by decide), h 6 (by decide), h 7 (by decide)⟩

/-- A row of calls that came in. -/
def IsWops (w : World) (v : Value) (ops : List Wop) : Prop :=
  (∃ a c, ops = [] ∧ v = .slice a 0 c) ∨ ∃ b off c, v = .slice (some ⟨b, off, none⟩) ops.length c ∧ ops.length ≤ maxLen ∧ b < w.heap.size ∧ ∀ (i : Nat) (o : Wop), ops[i]? = some o → (o.Ok ∧ ∃ ks, IsInts w o.v ks) ∧ o.At w b (off + i * 8)

theorem IsWops.open' {w : World} {v : Value} {ops : List Wop} (h : IsWops w v ops) :
    ∃ ad n c, v = .slice ad n c ∧ n = ops.length ∧ n ≤ maxLen ∧ ∀ (i : Nat) o, ops[i]? = some o → (o.Ok ∧ ∃ ks, IsInts w o.v ks) ∧ ∃ b off, ad = some ⟨b, off, none⟩ ∧ b < w.heap.size ∧ o.At w b (off + i * 8) := by
  rcases h with ⟨a, c, rfl, rfl⟩ | ⟨b, off, c, rfl, hl, hb, hx⟩
  · exact ⟨a, 0, c, rfl, rfl, Nat.zero_le _, fun i z h => by simp at h⟩
  · exact ⟨_, _, c, rfl, rfl, hl, fun i z h => ⟨(hx i z h).1, b, off, rfl, hb, (hx i z h).2⟩⟩

section
variable {H : Type} {enc : TypeId × Value → H} {w : World} {base : Nat} {spare : Nat → Bool} {held : Bool}

theorem ints_of {fuel : Nat} {v : Value} {y : DataW H × List MemPlace} (hf : DataW.trod enc Try.prog w base spare held fuel 29 [v] = some y) : ∃ ks, IsInts w v ks := by
  rcases open_ints Try.underlying29 Try.underlying3 (by kernel_rfl) hf with ⟨hcs, _⟩ | ⟨y, len, cap, zs, hcs, _, hl, hm, hz, _, hcell, hwz⟩
  · simp at hcs
    subst hcs
    exact ⟨[], _, _, _, rfl, rfl, Nat.zero_le _, fun i z h => by simp at h⟩
  · simp at hcs
    subst hcs
    have hle : len ≤ zs.length := by rw [hz]; split <;> omega
    by_cases h0 : len = 0
    · subst h0
      exact ⟨[], _, _, _, rfl, rfl, Nat.zero_le _, fun i z h => by simp at h⟩
    · obtain ⟨b, off, spot⟩ := y
      have hs : spot = none := by simpa [Addr.add] using World.cell?_spot (hcell 0 (by omega))
      subst hs
      refine ⟨zs.take len, _, _, _, rfl, ?_, Nat.le_trans hl hm, ?_⟩
      · rw [List.length_take, Nat.min_eq_left hle]
      · intro i z hi
        have hil : i < len := by
          have := (List.getElem?_eq_some_iff.1 hi).1
          rw [List.length_take] at this
          omega
        rw [List.getElem?_take_of_lt hil] at hi
        have hc := hcell i (by omega)
        rw [Addr.add_lit, List.getD_eq_getElem?_getD, hi] at hc
        exact ⟨b, off, rfl, World.block_lt_of_cell? _ _ (hcell 0 (by omega)), hc⟩

theorem cellsWop : Try.prog.cellsOf 33 = 8 := by kernel_rfl

theorem open_wop {n : Nat} {cs : List Value} {x : DataW H × List MemPlace} (hl : cs.length = 8)
    (h : DataW.trod enc Try.prog w base spare held n 33 cs = some x) (hz : Light 33 x.1) : ∃ o : Wop, (o.Ok ∧ ∃ ks, IsInts w o.v ks) ∧ cs = o.list := by
  have u3 : Try.prog.cellsOf 3 = 1 := by kernel_rfl
  have u5 : Try.prog.cellsOf 5 = 1 := by kernel_rfl
  have us : Try.prog.cellsOf 29 = 1 := by kernel_rfl
  have uc : Try.prog.cellsOf 31 = 3 := by kernel_rfl
  match cs, hl with
  | [c0, c1, c2, c3, c4, c5, c6, c7], _ =>
    obtain ⟨xs, m, -, hx, -, hlen, hf⟩ := DataW.trod_struct Try.underlying33 h
    match xs, hlen, hf, hx with
    | [y0, y1, y2, y3, y4, y5], _, hf, hx =>
      have h0 : DataW.trod enc Try.prog w base spare held m 3 ((([c0, c1, c2, c3, c4, c5, c6, c7] : List Value).drop 0).take (Try.prog.cellsOf 3)) = some y0 := hf 0 _ rfl
      have h1 : DataW.trod enc Try.prog w base spare held m 29 ((([c0, c1, c2, c3, c4, c5, c6, c7] : List Value).drop 1).take (Try.prog.cellsOf 29)) = some y1 := hf 1 _ rfl
      have h2 : DataW.trod enc Try.prog w base spare held m 5 ((([c0, c1, c2, c3, c4, c5, c6, c7] : List Value).drop 2).take (Try.prog.cellsOf 5)) = some y2 := hf 2 _ rfl
      have h3 : DataW.trod enc Try.prog w base spare held m 3 ((([c0, c1, c2, c3, c4, c5, c6, c7] : List Value).drop 3).take (Try.prog.cellsOf 3)) = some y3 := hf 3 _ rfl
      have h4 : DataW.trod enc Try.prog w base spare held m 3 ((([c0, c1, c2, c3, c4, c5, c6, c7] : List Value).drop 4).take (Try.prog.cellsOf 3)) = some y4 := hf 4 _ rfl
      have h5 : DataW.trod enc Try.prog w base spare held m 31 ((([c0, c1, c2, c3, c4, c5, c6, c7] : List Value).drop 5).take (Try.prog.cellsOf 31)) = some y5 := hf 5 _ rfl
      rw [u3] at h0 h3 h4
      rw [u5] at h2
      rw [us] at h1
      rw [uc] at h5
      obtain ⟨a0, e0, -, w0⟩ := DataW.trod_int Try.underlying3 h0
      obtain ⟨ks, hks⟩ := ints_of h1
      obtain ⟨a2, e2, -, w2⟩ := DataW.trod_int Try.underlying5 h2
      obtain ⟨a3, e3, -, w3⟩ := DataW.trod_int Try.underlying3 h3
      obtain ⟨a4, e4, -, w4⟩ := DataW.trod_int Try.underlying3 h4
      have hz5 : Light 31 y5.1 := fun n hn => hz n (by rw [hx]; simp [DataW.weights, DataW.weightsEach, Try.underlying33, hn])
      obtain ⟨c, ec, wc⟩ := crash_cells rfl h5 hz5
      simp at e0 e2 e3 e4
      subst e0 e2 e3 e4
      simp only [List.drop, List.take, Crs.list, List.cons.injEq, and_true] at ec
      obtain ⟨rfl, rfl, rfl⟩ := ec
      exact ⟨⟨a0, c1, a2, a3, a4, c⟩, ⟨⟨wf_u8 w2, wf_i64 w3⟩, ks, hks⟩, rfl⟩

theorem wops_of {fuel : Nat} {v : Value} {y : DataW H × List MemPlace} (hf : DataW.trod enc Try.prog w base spare held fuel 22 [v] = some y) (hz : Light 22 y.1) : ∃ ops, IsWops w v ops := by
  rcases Go.Deep.open_slice Try.underlying22 hf with ⟨hcs, _⟩ | ⟨y, len, cap, m, n, D, Pl, hcs, hb, hl, hm, hmm, hyx, hx⟩
  · simp at hcs
    subst hcs
    exact ⟨[], Or.inl ⟨_, _, rfl, rfl⟩⟩
  · simp at hcs
    subst hcs
    have hle : len ≤ m := by rw [hmm]; split <;> omega
    by_cases h0 : len = 0
    · subst h0
      exact ⟨[], Or.inl ⟨_, _, rfl, rfl⟩⟩
    · have each : ∀ i, i < len → ∃ o : Wop, (o.Ok ∧ ∃ ks, IsInts w o.v ks) ∧ ∀ j, j < 8 → w.cell? (y.add (i * 8 + j)) = o.list[j]? := by
        intro i hi
        obtain ⟨cs, h1, h2⟩ := hx i (by omega)
        rw [cellsWop] at h1
        obtain ⟨_, hlen, hc⟩ := World.cells?_some h1
        have hzi : Light 33 (D i) := fun n hn => hz n (by
          rw [hyx]
          simp only [DataW.weights, Try.underlying22]
          exact List.mem_cons_of_mem _ (List.mem_append_left _ (light_all (List.mem_map.2 ⟨i, List.mem_range.2 hi, rfl⟩) hn)))
        obtain ⟨o, ho, rfl⟩ := open_wop hlen h2 hzi
        refine ⟨o, ho, fun j hj => ?_⟩
        rw [← hc j hj, Addr.add_add]
      obtain ⟨b, off, spot⟩ := y
      obtain ⟨o0, -, hc0⟩ := each 0 (by omega)
      have hc1 := hc0 0 (by decide)
      have hs : spot = none := by
        simpa [Addr.add] using World.cell?_spot (v := .int .i64 o0.k) hc1
      subst hs
      have hlt : b < w.heap.size := by
        rw [Addr.add_lit] at hc1
        exact World.block_lt_of_cell? (u := .int .i64 o0.k) _ _ hc1
      obtain ⟨f, hf⟩ := Classical.axiomOfChoice (r := fun (i : Fin len) (o : Wop) => (o.Ok ∧ ∃ ks, IsInts w o.v ks) ∧ ∀ j, j < 8 → w.cell? ((⟨b, off, none⟩ : Addr).add (i.1 * 8 + j)) = o.list[j]?) (fun i => each i.1 i.2)
      refine ⟨List.ofFn f, Or.inr ⟨b, off, cap, ?_, ?_, hlt, ?_⟩⟩
      · rw [List.length_ofFn]
      · rw [List.length_ofFn]; omega
      · intro i o hi
        have hil : i < len := by
          have := (List.getElem?_eq_some_iff.1 hi).1
          rwa [List.length_ofFn] at this
        rw [List.getElem?_eq_getElem (by rw [List.length_ofFn]; exact hil), List.getElem_ofFn] at hi
        injection hi with hi
        obtain ⟨h1, h2⟩ := hf ⟨i, hil⟩
        rw [hi] at h1 h2
        refine ⟨h1, fun j hj => ?_⟩
        have := h2 j hj
        rw [Addr.add_lit] at this
        rw [Nat.add_assoc]
        exact this

theorem open_wops {r : Reach} {b0 : Nat} {v : Value} {x : DataW H} {p : List MemPlace}
    (hv : Value.okWide Try.prog w r b0 22 v) (h : DataW.Trod enc Try.prog w base spare held 22 v x p) (hz : Light 22 x) : ∃ ops, IsWops w v ops := by
  obtain ⟨a, len, cap, rfl⟩ := okWide_slice Try.underlying22 hv
  obtain ⟨fuel, hf⟩ := h
  exact wops_of (v := .slice a len cap) hf hz

end

end Go.Proofs.Ytgffhnggocbjhaa
