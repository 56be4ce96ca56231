/- An instruction's text, as the program builds it. -/
import Derived.Test.YtahbbhgoacbejaaGreatDoorAsmIter
import Derived.Lib.ItoaLen
import Derived.Lib.AppendIntMem
set_option linter.unusedVariables false
set_option linter.unusedSimpArgs false
namespace Go.Proofs.YtahbbhgoacbejaaGreatDoor
open Go.RowKit Go.Shelf Go.Joins
attribute [local go_sem] Oper.semAt_some

theorem Asm.say_append (a b : List (List UInt8 × Option Nat)) (g : List Int) : Asm.say (a ++ b) g = Asm.say a g ++ Asm.say b g := by
  unfold Asm.say; rw [List.flatMap_append]
theorem Asm.say_one (p : List UInt8 × Option Nat) (g : List Int) : Asm.say [p] g = Asm.one p g := by
  unfold Asm.say; simp

theorem keepsOthers_of {w w' : World} {b : Nat} {o : Obj} (hb : w.heap[b]? = some o) (ho : o.isCells = true) (hz : w.heap.size ≤ w'.heap.size) (hk : Lib.OthersKept 5 (some b) w w') : KeepsOthers w w' := by
  refine ⟨hz, fun k o' hk' hc => hk k o' hk' ?_ ?_⟩
  · intro e
    cases e
    rw [hb] at hk'
    cases hk'
    rw [ho] at hc
    cases hc
  · intro c fz e
    subst e
    cases hc

theorem keepsOthers_below {w w' : World} (hb : Below w.heap.size w w') : KeepsOthers w w' :=
  ⟨hb.size, fun k o h _ => (hb.block k (Array.getElem?_eq_some_iff.1 h).1).trans h⟩

theorem isBuilder_kept {T e : TypeId} {B b : Nat} {bs : List Value} {W W' : World} {row : Option Nat} (h : Lib.IsBuilderF T e B b bs W) (hg : W.grownBy W' row) (hr : ∀ r, row = some r → ∃ o : Obj, W.heap[r]? = some o ∧ o.isCells = false) : Lib.IsBuilderF T e B b bs W' := by
  have one : ∀ p, Lib.BuilderAtF T e B b p bs W → Lib.BuilderAtF T e B b p bs W' := by
    rintro p ⟨hB, v, hb, hown, hne⟩
    refine ⟨hB, v, ?_, hown.kept hg ?_, hne⟩
    · rw [hg.block b (Array.getElem?_eq_some_iff.1 hb).1 ?_]
      · exact hb
      · intro e
        obtain ⟨o, ho, hc⟩ := hr b e.symm
        rw [hb] at ho
        cases ho
        cases hc
    · cases hv : v.ownBlock with
      | none => exact Or.inl rfl
      | some g =>
        right
        intro e
        obtain ⟨c, fz, hc⟩ := Lib.ownsRowF_kind hown g hv
        obtain ⟨o, ho, hoc⟩ := hr g e.symm
        rw [hc] at ho
        cases ho
        cases hoc
  exact h.elim (fun x => .inl (one _ x)) (fun x => .inr (one _ x))

theorem block_kept {b : Nat} {cs : Array Value} {T : TypeId} {fz : Nat × Nat} {W W' : World} {row : Option Nat} (h : W.heap[b]? = some (.cells cs T fz)) (hg : W.grownBy W' row) (hr : ∀ r, row = some r → ∃ o : Obj, W.heap[r]? = some o ∧ o.isCells = false) : W'.heap[b]? = some (.cells cs T fz) := by
  rw [hg.block b (Array.getElem?_eq_some_iff.1 h).1 ?_]
  · exact h
  · intro e
    obtain ⟨o, ho, hc⟩ := hr b e.symm
    rw [h] at ho
    cases ho
    cases hc

theorem Asm.say_short : ∀ (r : List (List UInt8 × Option Nat)), (∀ p ∈ r, p.1.length ≤ 2) → ∀ g : List Int, (∀ k, Asm.small (g.getD k 0)) → (Asm.say r g).length ≤ 23 * r.length
  | [], _, g, _ => by simp [Asm.say]
  | (m, k) :: r, h, g, hs => by
    have ih := Asm.say_short r (fun p hp => h p (List.mem_cons_of_mem _ hp)) g hs
    have hm := h (m, k) List.mem_cons_self
    have e : Asm.say ((m, k) :: r) g = Asm.one (m, k) g ++ Asm.say r g := by unfold Asm.say; rw [List.flatMap_cons]
    have h1 : (Asm.one (m, k) g).length ≤ 23 := by
      unfold Asm.one
      cases k with
      | none => simp; simp at hm; omega
      | some k =>
        have := Lib.itoa_length_le _ (hs k).1 (hs k).2
        simp only [List.length_append]
        simp at hm
        omega
    rw [e, List.length_append, List.length_cons]
    omega

theorem Asm.name_short : ∀ op < 69, (Dec.name op).size ≤ 7 := by decide +kernel

set_option maxHeartbeats 4000000 in
set_option maxRecDepth 100000 in
theorem text_any (op : Nat) (ho : op < 69) (s t d a i : Int) (hsm : ∀ k, Asm.small (([s, t, d, a, i] : List Int).getD k 0)) (w : World) (L : Lay5 w) :
    Calls Tryz.prog 15 #[.agg #[.int .i64 (op : Int), .int .i64 s, .int .i64 t, .int .i64 d, .int .i64 a, .int .i64 i]] w fun e w' => e = .returned (.string ⟨(Asm.text op [s, t, d, a, i]).toArray⟩) ∧ Below w.heap.size w w' := by
  have hN : ∀ W, Tabs W → Calls Tryz.prog 26 #[.int .i64 (op : Int)] W fun e w' => e = .returned (.string (Dec.name op)) ∧ Below W.heap.size W w' := fun W tb => by
    have := name_any (op : Int) W tb
    rwa [show idx (op : Int) = op from by unfold idx; rw [if_pos (by omega)]; simp] at this
  refine (callsIn_wide (n := 3)).1 ?_
  refine callsIn_of_wp_marks Tryz.func15 rfl trivial ?_ rfl
  simp only [Tryz.ntmps15, List.size_toArray, List.length_cons, List.length_nil, Nat.reduceAdd, Nat.reduceSub, Array.replicate_succ, Array.replicate_zero, List.push_toArray, List.append_toArray, List.nil_append, List.cons_append]
  gi_wp2_with fail
  have hb0 : Below w.heap.size w ((w.alloc (.cells #[.int .i64 (op : Int), .int .i64 s, .int .i64 t, .int .i64 d, .int .i64 a, .int .i64 i] 23)).alloc (.cells #[.pointer none, .slice none 0 0] 58)) :=
    ((Below.refl _ w).alloc (Nat.le_refl _) _).alloc (by simp) _
  have hI0 : Lib.IsBuilderF 58 5 (w.heap.size + 1) (w.heap.size + 1) [] ((w.alloc (.cells #[.int .i64 (op : Int), .int .i64 s, .int .i64 t, .int .i64 d, .int .i64 a, .int .i64 i] 23)).alloc (.cells #[.pointer none, .slice none 0 0] 58)) := by
    have := Lib.IsBuilderF.of (Lib.fresh_isBuilder 58 5 (w.alloc (.cells #[.int .i64 (op : Int), .int .i64 s, .int .i64 t, .int .i64 d, .int .i64 a, .int .i64 i] 23)))
    rwa [World.size_alloc] at this
  have hi0 : ((w.alloc (.cells #[.int .i64 (op : Int), .int .i64 s, .int .i64 t, .int .i64 d, .int .i64 a, .int .i64 i] 23)).alloc (.cells #[.pointer none, .slice none 0 0] 58)).heap[w.heap.size]? = some (.cells #[.int .i64 (op : Int), .int .i64 s, .int .i64 t, .int .i64 d, .int .i64 a, .int .i64 i] 23 (0, 0)) :=
    (Below.heap_alloc _ _ _ (by simp)).trans (World.alloc_heap_new w _)
  generalize ((w.alloc (.cells #[.int .i64 (op : Int), .int .i64 s, .int .i64 t, .int .i64 d, .int .i64 a, .int .i64 i] 23)).alloc (.cells #[.pointer none, .slice none 0 0] 58)) = w0 at *
  refine ⟨trivial, ?_⟩
  refine (callsIn_wide.2 (hN _ (L.on hb0).tabs)).mono ?_
  rintro e w1 ⟨rfl, hb1⟩
  replace hI0 := isBuilder_kept hI0 (grown_of hb1) (fun r e => by cases e)
  replace hi0 := block_kept hi0 (grown_of hb1) (fun r e => by cases e)
  replace hb0 := onto hb0 hb1
  clear hb1 hN w0
  gi_wp2_with fail
  have hnl : (Dec.name op).size ≤ 7 := Asm.name_short op ho
  refine ⟨trivial, ?_⟩
  refine (callsIn_wide.2 (write_any _ _ _ (Dec.name op) _ hI0 (by simp; omega) (by have := (Array.getElem?_eq_some_iff.1 hi0).1; omega))).mono ?_
  rintro e w2 ⟨rfl, hI1, hb1, hk1⟩
  replace hi0 := hk1 _ _ hi0 (by simp) (by simp)
  replace hb0 : Below w.heap.size w w2 := hb0.trans (hb1.mono (by omega))
  rw [List.nil_append] at hI1
  have hlt0 : w.heap.size + 1 < w2.heap.size := by
    rcases hI1 with h | h <;> exact h.lt
  clear hI0 hb1 hk1
  clear w1
  gi_wp2_with fail
  refine ⟨trivial, ?_⟩
  refine (callsIn_wide.2 (fields_any _ _)).mono ?_
  rintro e w3 ⟨rfl, hw3⟩
  have hx3 : w3.heap[w2.heap.size]? = some (.cells #[.pointer (some ⟨w.heap.size, 0, none⟩)] 67 (0, 0)) := by rw [hw3]; exact World.alloc_heap_new w2 _
  have hg3 : Below w2.heap.size w2 w3 := by rw [hw3]; exact (Below.refl _ _).alloc (Nat.le_refl _) _
  replace hI1 := isBuilder_kept hI1 (grown_of hg3) (fun r e => by cases e)
  replace hi0 := block_kept hi0 (grown_of hg3) (fun r e => by cases e)
  replace hb0 := onto hb0 hg3
  have hlt : w.heap.size + 1 < w2.heap.size := hlt0
  generalize w2.heap.size = Bx at *
  clear hw3 hg3 w2
  obtain ⟨xs, hxs⟩ := Asm.rs (Dec.fm op) (Dec.fm_lt op ho).2
  gi_wp2_with fail
  have hBx := (Array.getElem?_eq_some_iff.1 hx3).1
  have hBi := (Array.getElem?_eq_some_iff.1 hi0).1
  refine wpIn_rangeFunc_ownF rfl (by omega) (gf := 49) (lb := #[.pointer (some ⟨Bx, 0, none⟩)]) rfl trivial (enters_of Tryz.func49 (by kernel_rfl) rfl)
    (iter_stops _ (by omega) Bx w.heap.size op ho xs hxs w3 (L.on hb0).tabs (by simp [World.cell?, hx3]) (by simp [World.cell?, hi0]) hBx hBi)
    (fun h1 h2 => h2.trans h1) (fun W l o o' hl _ _ _ => World.cell?_of_block (World.putObj_heap_other (by intro e; simp at e; omega))) (Below.refl _ _) (fun _ => rfl)
    (fun pre W => (Lib.IsBuilderF 58 5 (w.heap.size + 1) (w.heap.size + 1) (Lib.byteCells ((Dec.name op).data.toList ++ Asm.say (pre.map (·.1)) [s, t, d, a, i])) W ∧
      W.heap[w.heap.size]? = some (.cells #[.int .i64 (op : Int), .int .i64 s, .int .i64 t, .int .i64 d, .int .i64 a, .int .i64 i] 23 (0, 0)) ∧ W.heap[Bx]? = some (.cells #[.pointer (some ⟨w.heap.size, 0, none⟩)] 67 (0, 0))) ∧ Below w.heap.size w W)
    (fun _ _ _ => False)
    (OwnFrom.and (Own.from (fun s A B row hs hg hr => ⟨isBuilder_kept hs.1 hg hr, block_kept hs.2.1 hg hr, block_kept hs.2.2 hg hr⟩) _) (ownFrom_below (Nat.le_refl _) (by omega)))
    (fun _ _ _ _ _ hs _ _ => hs)
    ⟨⟨by simp only [List.map_nil, Asm.say, List.flatMap_nil, List.append_nil]; exact hI1, hi0, hx3⟩, hb0⟩
    (fun x => { tmps := #[.agg #[.int .i64 (op : Int), .int .i64 s, .int .i64 t, .int .i64 d, .int .i64 a, .int .i64 i], .pointer (some ⟨w.heap.size, 0, none⟩), .string ⟨#[]⟩, .pointer (some ⟨w.heap.size + 1, 0, none⟩), .string ⟨x.1.1.toArray⟩, .pointer (x.1.2.map fun k => ⟨w.heap.size, k + 1, none⟩),
      .pointer (some ⟨w.heap.size, 0, none⟩), .int .i64 (op : Int), .string (Dec.name op), .tuple #[.int .i64 (Dec.name op).size, .nilIface], .func (.func 49) #[] #[.pointer (some ⟨Bx, 0, none⟩)], .string ⟨x.1.1.toArray⟩, .pointer (x.1.2.map fun k => ⟨w.heap.size, k + 1, none⟩), undef, undef, undef, undef, undef, undef, undef, undef, undef, undef], defers := [] }) ?assign ?body ?done ?stop
  case assign =>
    intro l x W K hK
    unfold Asm.encs
    gi_wp2
    exact hK
  case body =>
    rintro l pre ⟨⟨m, k⟩, hm2, hk5⟩ W ⟨⟨hI, hi, hx⟩, hB⟩ hpre
    have hsz := Asm.say_short (pre.map (·.1)) (fun p hp => by obtain ⟨q, -, rfl⟩ := List.mem_map.mp hp; exact q.2.1) [s, t, d, a, i] hsm
    rw [List.length_map] at hsz
    have hW1 := (Array.getElem?_eq_some_iff.1 hi).1
    have hms : (⟨m.toArray⟩ : ByteArray).size = m.length := rfl
    have hnl2 : (Dec.name op).data.toList.length = (Dec.name op).size := rfl
    have hm2' : m.length ≤ 2 := hm2
    gi_wp2_with fail
    refine ⟨trivial, ?_⟩
    refine (CallsIn.inRound l (callsIn_wide.2 (write_any _ _ _ ⟨m.toArray⟩ _ hI (by rw [Lib.byteCells_length, List.length_append]; omega) (by omega)))).mono ?_
    rintro e W1 ⟨rfl, hI1, hb1, hk1⟩
    have hi1 := hk1 _ _ hi (by simp) (by simp)
    have hx1 := hk1 _ _ hx (by simp; omega) (by simp)
    have hB1 : Below w.heap.size w W1 := hB.trans (hb1.mono (by omega))
    have hKO1 : KeepsOthers W W1 := by
      rcases hI with ⟨-, v, hv, -⟩ | ⟨-, v, hv, -⟩ <;> exact keepsOthers_of hv rfl hb1.size hk1
    rw [show Lib.strCells ⟨m.toArray⟩ = Lib.byteCells m from rfl, ← Lib.byteCells_append, List.append_assoc] at hI1
    cases k with
    | none =>
      have hs2 : Asm.say (pre.map (·.1)) [s, t, d, a, i] ++ m = Asm.say ((pre ++ [(⟨(m, none), hm2, hk5⟩ : Asm.Rd)]).map (·.1)) [s, t, d, a, i] := by
        rw [List.map_append, Asm.say_append]
        simp [Asm.say, Asm.one]
      rw [hs2] at hI1
      have hKp : W1.cell? ⟨Bx, 0, none⟩ = W.cell? ⟨Bx, 0, none⟩ := by simp [World.cell?, hx1, hx]
      clear hs2 hxs hsz
      gi_wp2
      exact ⟨hKO1, hKp, ⟨hI1, hi1, hx1⟩, hB1⟩
    | some k =>
      have hk5' : k < 5 := hk5 k rfl
      obtain ⟨v, hv⟩ : ∃ v, ([s, t, d, a, i] : List Int)[k]? = some v := ⟨_, List.getElem?_eq_getElem (by simpa using hk5')⟩
      have hvd : ([s, t, d, a, i] : List Int).getD k 0 = v := by rw [List.getD_eq_getElem?_getD, hv]; rfl
      have hcv : W1.cell? ⟨w.heap.size, k + 1, none⟩ = some (.int .i64 v) := by
        simp only [World.cell?, hi1]
        have hcases : k = 0 ∨ k = 1 ∨ k = 2 ∨ k = 3 ∨ k = 4 := by omega
        rcases hcases with rfl | rfl | rfl | rfl | rfl <;> (simp at hv; subst hv; rfl)
      have hsv : Asm.small v := by have := hsm k; rwa [hvd] at this
      have hs2 : (Asm.say (pre.map (·.1)) [s, t, d, a, i] ++ m) ++ Lib.itoa v = Asm.say ((pre ++ [(⟨(m, some k), hm2, hk5⟩ : Asm.Rd)]).map (·.1)) [s, t, d, a, i] := by
        rw [List.map_append, Asm.say_append]
        simp only [List.map_cons, List.map_nil, Asm.say_one, Asm.one, hvd, List.append_assoc]
      have hil := Lib.itoa_length_le v hsv.1 hsv.2
      have L1 := (L.on hB1).pow
      have hsz1 := hb1.size
      clear hv hvd hxs
      gi_wp2_with fail
      refine ⟨trivial, ?_⟩
      refine (CallsIn.inRound l (callsIn_wide.2 (Tryz.strconv_Itoa v hsv.1 hsv.2 _ L1))).mono ?_
      rintro e W2 ⟨rfl, hg⟩
      have hb2 : Below W1.heap.size W1 W2 := by
        obtain ⟨q, os, rfl⟩ := hg
        exact Lib.below_grow _ _ (Nat.le_refl _) _ _
      clear hg
      have hI2 := isBuilder_kept hI1 (grown_of hb2) (fun r e => by cases e)
      have hi2 := block_kept hi1 (grown_of hb2) (fun r e => by cases e)
      have hx2 := block_kept hx1 (grown_of hb2) (fun r e => by cases e)
      have hB2 := onto hB1 hb2
      have hKO2 := hKO1.trans (keepsOthers_below hb2)
      have hsz2 := hb2.size
      have hti : (⟨(Lib.itoa v).toArray⟩ : ByteArray).size = (Lib.itoa v).length := rfl
      gi_wp2_with fail
      refine ⟨trivial, ?_⟩
      refine (CallsIn.inRound l (callsIn_wide.2 (write_any _ _ _ ⟨(Lib.itoa v).toArray⟩ _ hI2 (by rw [Lib.byteCells_length, List.length_append, List.length_append]; omega) (by omega)))).mono ?_
      rintro e W3 ⟨rfl, hI3, hb3, hk3⟩
      have hi3 := hk3 _ _ hi2 (by simp) (by simp)
      have hx3' := hk3 _ _ hx2 (by simp; omega) (by simp)
      have hB3 : Below w.heap.size w W3 := hB2.trans (hb3.mono (by omega))
      have hKO3 : KeepsOthers W W3 := by
        refine hKO2.trans ?_
        rcases hI2 with ⟨-, v, hv, -⟩ | ⟨-, v, hv, -⟩ <;> exact keepsOthers_of hv rfl hb3.size hk3
      rw [show Lib.strCells ⟨(Lib.itoa v).toArray⟩ = Lib.byteCells (Lib.itoa v) from rfl, ← Lib.byteCells_append, List.append_assoc, hs2] at hI3
      have hKp : W3.cell? ⟨Bx, 0, none⟩ = W.cell? ⟨Bx, 0, none⟩ := by simp [World.cell?, hx3', hx]
      clear hs2 hI2 hI1
      gi_wp2
      exact ⟨hKO3, hKp, ⟨hI3, hi3, hx3'⟩, hB3⟩
  case done =>
    rintro D ys W hD rfl ⟨⟨hI, hi, hx⟩, hB⟩ hK
    gi_wp2_with fail
    refine ⟨trivial, ?_⟩
    have hW1 := (Array.getElem?_eq_some_iff.1 hi).1
    refine (callsIn_wide.2 (Tryz.Builder_String_any_k _ _ _ _ hI (by omega))).mono ?_
    rintro e W2 ⟨rfl, -, hbB, hkB⟩
    have hK2 := hkB _ _ hK (by simp; omega) (by simp)
    gi_wp2
    refine ⟨by simp, .inl ⟨_, _, rfl, run_takeDeferred hK2, ?_⟩⟩
    exact ⟨_, results_tmp rfl _ _ _, rfl, (hB.trans (hbB.mono (by omega))).trans (belowK_b (w := w) (Nat.le_refl _) _ D _ _ (by omega) hK2 rfl rfl)⟩
  case stop =>
    rintro D c pre W _ _ h _
    exact h.elim

end Go.Proofs.YtahbbhgoacbejaaGreatDoor
