/- Layer 15: what comes in is opened: words, operations, registers. -/
import Derived.Test.YtnbflahggpehpabQOpFixed
import Derived.Deep.Quiet
import Derived.Deep.QuietTactic
import Derived.BigQuiet
import Derived.ProofKit
import Derived.OpenShut
import Derived.ChangeOld
import Derived.Deep.Slices
import Derived.Carry
import Derived.ChangeSame
import Derived.Lib.SmallJoins
namespace Go.Proofs.Ytnbflahggpehpab.Ir
open Go.ChangeShapes Go.WideShapes Go.ChangeAt Go.RowKit Go.Joins
set_option linter.unusedVariables false
set_option maxRecDepth 100000
set_option linter.unusedSimpArgs false

/-- v is the slice of the words l. -/
def IsWords (w : World) (v : Value) (zs : List Int) : Prop :=
  (∃ a c, zs = [] ∧ v = .slice a 0 c) ∨ ∃ b off c, v = .slice (some ⟨b, off, none⟩) zs.length c ∧ zs.length ≤ c ∧ c ≤ maxLen ∧ b < w.heap.size ∧ ∀ (i : Nat) z, zs[i]? = some z → Cp.W32 z ∧ w.cell? ⟨b, off + i, none⟩ = some (.int .u32 z)

/-- What is known of a row of words, in one way for all of them. -/
theorem IsWords.open' {w : World} {v : Value} {zs : List Int} (h : IsWords w v zs) :
    ∃ ad n c, v = .slice ad n c ∧ n = zs.length ∧ n ≤ maxLen ∧ (n ≤ c ∨ n = 0) ∧ ∀ (i : Nat) z, zs[i]? = some z → Cp.W32 z ∧ ∃ b off, ad = some ⟨b, off, none⟩ ∧ b < w.heap.size ∧ w.cell? ⟨b, off + i, none⟩ = some (.int .u32 z) := by
  rcases h with ⟨a, c, rfl, rfl⟩ | ⟨b, off, c, rfl, hc, hl, hb, hx⟩
  · exact ⟨a, 0, c, rfl, rfl, Nat.zero_le _, Or.inr rfl, fun i z h => by simp at h⟩
  · exact ⟨_, _, c, rfl, rfl, Nat.le_trans hc hl, Or.inl hc, fun i z h => ⟨(hx i z h).1, b, off, rfl, hb, (hx i z h).2⟩⟩

theorem IsWords.on {w y : World} {v : Value} {l : List Int} (h : IsWords w v l) (b : Below w.heap.size w y) : IsWords y v l := by
  rcases h with h | ⟨g, o, c, rfl, hc, hl, hg, hm⟩
  · exact Or.inl h
  · exact Or.inr ⟨g, o, c, rfl, hc, hl, Nat.lt_of_lt_of_le hg b.size, fun i m hi => ⟨(hm i m hi).1, by rw [← (hm i m hi).2]; exact b.cell (p := ⟨g, o + i, none⟩) hg⟩⟩

theorem laidOut : laidOutB Try.prog = true := by kernel_rfl

theorem wf_u32 {n : Int} (h : (Lit.int .u32 n).wf = true) : Cp.W32 n := by
  simp [Lit.wf, IntKind.min, IntKind.max, IntKind.signed, IntKind.bits] at h
  exact ⟨h.1, by omega⟩

theorem wf_i64 {n : Int} (h : (Lit.int .i64 n).wf = true) : -9223372036854775808 ≤ n ∧ n ≤ 9223372036854775807 := by
  simp [Lit.wf, IntKind.min, IntKind.max, IntKind.signed, IntKind.bits] at h
  exact ⟨h.1, by omega⟩

/-- There is room for what is there. -/
def CapOk (v : Value) : Prop := ∃ ad n c, v = .slice ad n c ∧ n ≤ c

section
variable {H : Type} {enc : TypeId × Value → H} {w : World} {base : Nat} {spare : Nat → Bool} {held : Bool}

theorem open_words {r : Reach} {b0 : Nat} {v : Value} {x : DataW H} {p : List MemPlace}
    (hv : Value.okWide Try.prog w r b0 23 v) (h : DataW.Trod enc Try.prog w base spare held 23 v x p) : ∃ zs, IsWords w v zs ∧ CapOk v := by
  obtain ⟨a, len, cap, rfl⟩ := okWide_slice Try.underlying23 hv
  obtain ⟨fuel, hf⟩ := h
  rcases open_ints Try.underlying23 Try.underlying30 (by kernel_rfl) hf with ⟨hcs, _⟩ | ⟨y, l, c, zs, hcs, _, hl, hm, hz, _, hcell, hwz⟩
  · simp [Value.cells] at hcs
    obtain ⟨rfl, rfl, rfl⟩ := hcs
    exact ⟨[], Or.inl ⟨_, _, rfl, rfl⟩, _, _, _, rfl, Nat.le_refl _⟩
  · simp [Value.cells] at hcs
    obtain ⟨rfl, rfl, rfl⟩ := hcs
    have hle : len ≤ zs.length := by rw [hz]; split <;> omega
    by_cases h0 : len = 0
    · subst h0
      exact ⟨[], Or.inl ⟨_, _, rfl, rfl⟩, _, _, _, rfl, hl⟩
    · obtain ⟨b, off, spot⟩ := y
      have hs : spot = none := by simpa [Addr.add] using World.cell?_spot (hcell 0 (by omega))
      subst hs
      refine ⟨zs.take len, Or.inr ⟨b, off, cap, ?_, ?_, hm, ?_, ?_⟩, _, _, _, rfl, hl⟩
      · rw [List.length_take, Nat.min_eq_left hle]
      · rw [List.length_take, Nat.min_eq_left hle]; exact hl
      · exact World.block_lt_of_cell? _ _ (hcell 0 (by omega))
      · intro i z hi
        have hil : i < len := by
          have := (List.getElem?_eq_some_iff.1 hi).1
          rw [List.length_take] at this
          omega
        rw [List.getElem?_take_of_lt hil] at hi
        have hc := hcell i (by omega)
        rw [Addr.add_lit, List.getD_eq_getElem?_getD, hi] at hc
        exact ⟨wf_u32 (hwz z (List.mem_of_getElem? hi)), hc⟩

theorem cellsOpM : Try.prog.cellsOf 32 = 6 := by kernel_rfl

theorem open_op {n : Nat} {cs : List Value} {x : DataW H × List MemPlace} (hl : cs.length = 6)
    (h : DataW.trod enc Try.prog w base spare held n 32 cs = some x) : ∃ o : Mi, Cp.W32 o.m ∧ cs = (cellsM o).toList := by
  have u1 : Try.prog.cellsOf 30 = 1 := by kernel_rfl
  have u3 : Try.prog.cellsOf 3 = 1 := by kernel_rfl
  match cs, hl with
  | [c0, c1, c2, c3, c4, c5], _ =>
    obtain ⟨xs, m, -, hx, -, hlen, hf⟩ := DataW.trod_struct Try.underlying32 h
    match xs, hlen, hf, hx with
    | [y0, y1, y2, y3, y4, y5], _, hf, hx =>
      have h0 : DataW.trod enc Try.prog w base spare held m 3 ((([c0, c1, c2, c3, c4, c5] : List Value).drop 0).take (Try.prog.cellsOf 3)) = some y0 := hf 0 _ rfl
      have h1 : DataW.trod enc Try.prog w base spare held m 3 ((([c0, c1, c2, c3, c4, c5] : List Value).drop 1).take (Try.prog.cellsOf 3)) = some y1 := hf 1 _ rfl
      have h2 : DataW.trod enc Try.prog w base spare held m 3 ((([c0, c1, c2, c3, c4, c5] : List Value).drop 2).take (Try.prog.cellsOf 3)) = some y2 := hf 2 _ rfl
      have h3 : DataW.trod enc Try.prog w base spare held m 3 ((([c0, c1, c2, c3, c4, c5] : List Value).drop 3).take (Try.prog.cellsOf 3)) = some y3 := hf 3 _ rfl
      have h4 : DataW.trod enc Try.prog w base spare held m 30 ((([c0, c1, c2, c3, c4, c5] : List Value).drop 4).take (Try.prog.cellsOf 30)) = some y4 := hf 4 _ rfl
      have h5 : DataW.trod enc Try.prog w base spare held m 3 ((([c0, c1, c2, c3, c4, c5] : List Value).drop 5).take (Try.prog.cellsOf 3)) = some y5 := hf 5 _ rfl
      rw [u3] at h0 h1 h2 h3 h5
      rw [u1] at h4
      obtain ⟨a0, e0, -, -⟩ := DataW.trod_int Try.underlying3 h0
      obtain ⟨a1, e1, -, -⟩ := DataW.trod_int Try.underlying3 h1
      obtain ⟨a2, e2, -, -⟩ := DataW.trod_int Try.underlying3 h2
      obtain ⟨a3, e3, -, -⟩ := DataW.trod_int Try.underlying3 h3
      obtain ⟨a4, e4, -, w4⟩ := DataW.trod_int Try.underlying30 h4
      obtain ⟨a5, e5, -, -⟩ := DataW.trod_int Try.underlying3 h5
      simp at e0 e1 e2 e3 e4 e5
      subst e0 e1 e2 e3 e4 e5
      exact ⟨⟨a0, a1, a2, a3, a4, a5⟩, wf_u32 w4, rfl⟩

theorem open_ops {r : Reach} {b0 : Nat} {v : Value} {x : DataW H} {p : List MemPlace}
    (hv : Value.okWide Try.prog w r b0 22 v) (h : DataW.Trod enc Try.prog w base spare held 22 v x p) : ∃ ops, IsOps w v ops ∧ WordsM ops ∧ CapOk v := by
  obtain ⟨a, len, cap, rfl⟩ := okWide_slice Try.underlying22 hv
  obtain ⟨fuel, hf⟩ := h
  rcases Go.Deep.open_slice Try.underlying22 hf with ⟨hcs, _⟩ | ⟨y, l, c, m, n, D, Pl, hcs, hb, hl, hm, hmm, -, hx⟩
  · simp [Value.cells] at hcs
    obtain ⟨rfl, rfl, rfl⟩ := hcs
    exact ⟨[], Or.inl ⟨_, _, rfl, rfl⟩, fun i m h => by simp at h, _, _, _, rfl, Nat.le_refl _⟩
  · simp [Value.cells] at hcs
    obtain ⟨rfl, rfl, rfl⟩ := hcs
    have hle : len ≤ m := by rw [hmm]; split <;> omega
    by_cases h0 : len = 0
    · subst h0
      exact ⟨[], Or.inl ⟨_, _, rfl, rfl⟩, fun i m h => by simp at h, _, _, _, rfl, hl⟩
    · have each : ∀ i, i < len → ∃ o : Mi, Cp.W32 o.m ∧ ∀ j, j < 6 → w.cell? (y.add (i * 6 + j)) = (cellsM o)[j]? := by
        intro i hi
        obtain ⟨cs, h1, h2⟩ := hx i (by omega)
        rw [cellsOpM] at h1
        obtain ⟨_, hlen, hc⟩ := World.cells?_some h1
        obtain ⟨o, ho, rfl⟩ := open_op hlen h2
        refine ⟨o, ho, fun j hj => ?_⟩
        rw [← Array.getElem?_toList, ← hc j hj, Addr.add_add]
      obtain ⟨b, off, spot⟩ := y
      obtain ⟨o0, -, hc0⟩ := each 0 (by omega)
      have hc1 := hc0 0 (by decide)
      have hs : spot = none := by
        simpa [Addr.add] using World.cell?_spot (v := .int .i64 o0.k) hc1
      subst hs
      have hlt : b < w.heap.size := by
        rw [Addr.add_lit] at hc1
        exact World.block_lt_of_cell? (u := .int .i64 o0.k) _ _ hc1
      obtain ⟨f, hf⟩ := Classical.axiomOfChoice (r := fun (i : Fin len) (o : Mi) => Cp.W32 o.m ∧ ∀ j, j < 6 → w.cell? ((⟨b, off, none⟩ : Addr).add (i.1 * 6 + j)) = (cellsM o)[j]?) (fun i => each i.1 i.2)
      have key : ∀ (i : Nat) (o : Mi), (List.ofFn f)[i]? = some o → ∃ h : i < len, f ⟨i, h⟩ = o := fun i o hi => by
        have hil : i < len := by
          have := (List.getElem?_eq_some_iff.1 hi).1
          rwa [List.length_ofFn] at this
        rw [List.getElem?_eq_getElem (by rw [List.length_ofFn]; exact hil), List.getElem_ofFn] at hi
        injection hi with hi
        exact ⟨hil, hi⟩
      refine ⟨List.ofFn f, Or.inr ⟨b, off, cap, ?_, ?_, hlt, ?_⟩, ?_, _, _, _, rfl, hl⟩
      · rw [List.length_ofFn]
      · rw [List.length_ofFn]; omega
      · intro i o hi j hj
        obtain ⟨hil, rfl⟩ := key i o hi
        have := (hf ⟨i, hil⟩).2 j hj
        rw [Addr.add_lit] at this
        rw [← this, Nat.add_assoc]
      · intro i o hi
        obtain ⟨hil, rfl⟩ := key i o hi
        exact (hf ⟨i, hil⟩).1

theorem okWide_array {r : Reach} {b0 : Nat} {t : TypeId} {n : Nat} {e : TypeId} {v : Value} (ht : Try.prog.underlying t = some (.array n e)) (h : Value.okWide Try.prog w r b0 t v) : ∃ cs, v = .agg cs ∧ cs.size = Try.prog.cellsOf t := by
  simp only [Value.okWide, ht] at h
  obtain ⟨cs, h1, h2, _⟩ := h
  exact ⟨cs, h1, h2⟩

/-- A row of cells that are words is the row of a function. -/
def wordsFn (l : List Value) : Nat → Int := fun k => match l[k]? with | some (.int _ n) => n | _ => 0

end

theorem own15 : ownKnob Try.prog.godebug = none := by kernel_rfl

section
variable {H : Type} {enc : TypeId × Value → H} {w : World} {base : Nat} {spare : Nat → Bool} {held : Bool}

theorem open_flags {r : Reach} {b0 : Nat} {v : Value} {x : DataW H} {p : List MemPlace}
    (hv : Value.okWide Try.prog w r b0 29 v) (h : DataW.Trod enc Try.prog w base spare held 29 v x p) :
    ∃ C F D : Bool, v = .agg #[.bool C, .bool F, .bool D] := by
  obtain ⟨cs, rfl, hsz⟩ := okWide_struct Try.underlying29 hv
  have c3 : Try.prog.cellsOf 29 = 3 := by kernel_rfl
  have c4 : Try.prog.cellsOf 4 = 1 := by kernel_rfl
  rw [c3] at hsz
  obtain ⟨fuel, hf⟩ := h
  obtain ⟨l, hl⟩ : ∃ l, cs.toList = l := ⟨_, rfl⟩
  have hn : l.length = 3 := by rw [← hl]; simpa using hsz
  have hf' : DataW.trod enc Try.prog w base spare held fuel 29 l = some (x, p) := by rw [← hl]; exact hf
  match l, hn with
  | [e0, e1, e2], _ =>
    obtain ⟨xs, m, -, hx, -, hlen, hg⟩ := DataW.trod_struct Try.underlying29 hf'
    match xs, hlen, hg, hx with
    | [y0, y1, y2], _, hg, hx =>
      have h0 : DataW.trod enc Try.prog w base spare held m 4 ((([e0, e1, e2] : List Value).drop 0).take (Try.prog.cellsOf 4)) = some y0 := hg 0 _ rfl
      have h1 : DataW.trod enc Try.prog w base spare held m 4 ((([e0, e1, e2] : List Value).drop 1).take (Try.prog.cellsOf 4)) = some y1 := hg 1 _ rfl
      have h2 : DataW.trod enc Try.prog w base spare held m 4 ((([e0, e1, e2] : List Value).drop 2).take (Try.prog.cellsOf 4)) = some y2 := hg 2 _ rfl
      rw [c4] at h0 h1 h2
      obtain ⟨a0, k0, -⟩ := DataW.trod_bool Try.underlying4 h0
      obtain ⟨a1, k1, -⟩ := DataW.trod_bool Try.underlying4 h1
      obtain ⟨a2, k2, -⟩ := DataW.trod_bool Try.underlying4 h2
      simp at k0 k1 k2
      subst k0 k1 k2
      refine ⟨a0, a1, a2, ?_⟩
      congr 1
      exact Array.toList_inj.1 hl

end

theorem part_X (R : Nat → Int) (i : Nat) (hi : i < 32) (w : World) : (Go.part 30 (cellsX R) (i * 1)).run Try.prog w = .ok (.int .u32 (R i)) w :=
  match i, hi with
  | 0, _ => by kernel_rfl
  | 1, _ => by kernel_rfl
  | 2, _ => by kernel_rfl
  | 3, _ => by kernel_rfl
  | 4, _ => by kernel_rfl
  | 5, _ => by kernel_rfl
  | 6, _ => by kernel_rfl
  | 7, _ => by kernel_rfl
  | 8, _ => by kernel_rfl
  | 9, _ => by kernel_rfl
  | 10, _ => by kernel_rfl
  | 11, _ => by kernel_rfl
  | 12, _ => by kernel_rfl
  | 13, _ => by kernel_rfl
  | 14, _ => by kernel_rfl
  | 15, _ => by kernel_rfl
  | 16, _ => by kernel_rfl
  | 17, _ => by kernel_rfl
  | 18, _ => by kernel_rfl
  | 19, _ => by kernel_rfl
  | 20, _ => by kernel_rfl
  | 21, _ => by kernel_rfl
  | 22, _ => by kernel_rfl
  | 23, _ => by kernel_rfl
  | 24, _ => by kernel_rfl
  | 25, _ => by kernel_rfl
  | 26, _ => by kernel_rfl
  | 27, _ => by kernel_rfl
  | 28, _ => by kernel_rfl
  | 29, _ => by kernel_rfl
  | 30, _ => by kernel_rfl
  | 31, _ => by kernel_rfl
  | n + 32, h => absurd h (by omega)

theorem eqItems_X (d : Nat) (R : Nat → Int) (w : World) : ∀ is : List Nat, (∀ i ∈ is, i < 32) →
    (Op.eqItems (d + 1) 30 1 (cellsX R) (cellsX R) is).run Try.prog w = .ok true w
  | [], _ => by simp [Op.eqItems]
  | i :: is, h => by
    have hi : i < 32 := h i (by simp)
    have ih := eqItems_X d R w is (fun j hj => h j (by simp [hj]))
    simp only [Op.eqItems, Sem.run_bind, part_X R i hi, Result.andThen_ok, run_equalIn_int w d 30 .u32 .u32 _ _ Try.underlying30]
    simp [ih]

/-- A region that draws its order, walked once, in a class of worlds in which each of its operations tells one value. -/
theorem region_calm {P : Program} {id : Nat} {Q : Exit → Act → World → Prop} {a : Act} {w : World} {l : List Oper} (C : World → Prop) (hm : P.follows .mixedOrders = true) (hB : Region.lexB .any l.toArray = true) (hC : C w.drew)
    (h : wpQuiet P l.toArray C (fun a' => ∀ w', C w' → Q .normal a' w') l a) : (Code.region id l.toArray true).wp P Q a w :=
  wp_region_quiet (C := C) hm hB hC (by simpa using h)

/-- A world in which these registers and these operations lie; all that was there ahead of it is as it was. -/
structure Held (w : World) (l : List (Nat × (Nat → Int))) (o : List (Value × List Mi)) where
  x : World
  h : (∀ p ∈ l, Box x p.1 (cellsX p.2)) ∧ (∀ p ∈ o, IsOps x p.1 p.2) ∧ Below w.heap.size w x

def Held.on {w z : World} {l : List (Nat × (Nat → Int))} {o : List (Value × List Mi)} (y : Held w l o) (hb : Below y.x.heap.size y.x z) : Held w l o :=
  ⟨z, fun p hp => (y.h.1 p hp).on hb, fun p hp => (y.h.2.1 p hp).on hb, onto y.h.2.2 (Nat.le_refl _) hb⟩

/-- What is read of the registers in block b. -/
theorem Held.reads {w : World} {l : List (Nat × (Nat → Int))} {o : List (Value × List Mi)} {b : Nat} {R : Nat → Int} (hm : (b, R) ∈ l) :
    (∀ y : Held w l o, (loadCellsFrom ⟨b, 0, none⟩ 0 N32 #[]).run Try.prog y.x = .ok (cellsX R) y.x) ∧ (∀ (y : Held w l o) (k : Nat), k < 32 → y.x.cell? ⟨b, k, none⟩ = some (.int .u32 (R k))) :=
  ⟨fun y => (y.h.1 _ hm).loads 0 N32 (irWhole.2.2.2.1 _) (irWhole.2.2.2.2.1 _), fun y k hk => ((y.h.1 _ hm).cell k).trans (get_X R k hk)⟩

theorem Held.ops {w : World} {l : List (Nat × (Nat → Int))} {o : List (Value × List Mi)} {v : Value} {ms : List Mi} (hm : (v, ms) ∈ o) (y : Held w l o) : IsOps y.x v ms := y.h.2.1 _ hm

/-- The first operations of a slice. -/
theorem IsOps.cut {w : World} {ad : Option Addr} {n c : Nat} {l : List Mi} (h : IsOps w (.slice ad n c) l) (K c' : Nat) (hK : K ≤ n) : IsOps w (.slice ad K c') (l.take K) := by
  rcases h with ⟨a, c0, rfl, e⟩ | ⟨g, o, c0, e, hl, hg, hm⟩
  · cases e
    obtain rfl : K = 0 := by omega
    exact Or.inl ⟨_, _, rfl, rfl⟩
  · cases e
    refine Or.inr ⟨g, o, c', by rw [List.length_take, Nat.min_eq_left hK], by rw [List.length_take]; omega, hg, fun i m hi => ?_⟩
    have hlt : i < K := by
      have := (List.getElem?_eq_some_iff.1 hi).1
      rw [List.length_take] at this
      omega
    rw [List.getElem?_take_of_lt hlt] at hi
    exact hm i m hi

theorem IsWords.cut {w : World} {ad : Option Addr} {n c : Nat} {l : List Int} (h : IsWords w (.slice ad n c) l) (K : Nat) (hK : K ≤ n) : IsWords w (.slice ad K c) (l.take K) := by
  rcases h with ⟨a, c0, rfl, e⟩ | ⟨g, o, c0, e, hc, hl, hg, hm⟩
  · cases e
    obtain rfl : K = 0 := by omega
    exact Or.inl ⟨_, _, rfl, rfl⟩
  · cases e
    refine Or.inr ⟨g, o, c, by rw [List.length_take, Nat.min_eq_left hK], by rw [List.length_take]; omega, hl, hg, fun i m hi => ?_⟩
    have hlt : i < K := by
      have := (List.getElem?_eq_some_iff.1 hi).1
      rw [List.length_take] at this
      omega
    rw [List.getElem?_take_of_lt hlt] at hi
    exact hm i m hi

theorem WordsM.take {l : List Mi} (h : WordsM l) (K : Nat) : WordsM (l.take K) := fun i m hi => by
  have hlt : i < K := by
    have := (List.getElem?_eq_some_iff.1 hi).1
    rw [List.length_take] at this
    omega
  rw [List.getElem?_take_of_lt hlt] at hi
  exact h i m hi

/-- A slice that is cut to at most N: what is left, and how it is called. -/
theorem cut_ops {w : World} {v : Value} {l : List Mi} (h : IsOps w v l) (hw : WordsM l) (hc : CapOk v) (N : Nat) :
    ∃ ad n c, v = .slice ad n c ∧ n ≤ c ∧ ((n ≤ N ∧ IsOps w (.slice ad n c) l ∧ WordsM l) ∨ (N < n ∧ IsOps w (.slice ad N c) (l.take N) ∧ WordsM (l.take N))) := by
  obtain ⟨ad, n, c, rfl, hnc⟩ := hc
  refine ⟨ad, n, c, rfl, hnc, ?_⟩
  by_cases hN : n ≤ N
  · exact Or.inl ⟨hN, h, hw⟩
  · exact Or.inr ⟨by omega, h.cut N c (by omega), hw.take N⟩

theorem cut_words {w : World} {v : Value} {l : List Int} (h : IsWords w v l) (hc : CapOk v) (N : Nat) :
    ∃ ad n c, v = .slice ad n c ∧ n ≤ c ∧ ((n ≤ N ∧ IsWords w (.slice ad n c) l) ∨ (N < n ∧ IsWords w (.slice ad N c) (l.take N))) := by
  obtain ⟨ad, n, c, rfl, hnc⟩ := hc
  refine ⟨ad, n, c, rfl, hnc, ?_⟩
  by_cases hN : n ≤ N
  · exact Or.inl ⟨hN, h⟩
  · exact Or.inr ⟨by omega, h.cut N (by omega)⟩

end Go.Proofs.Ytnbflahggpehpab.Ir
