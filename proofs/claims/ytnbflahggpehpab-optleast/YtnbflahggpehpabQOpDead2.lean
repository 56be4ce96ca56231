/- Layer 15: contract of the program's Dead. -/
import Derived.Test.YtnbflahggpehpabQOpBack
import Derived.Test.YtnbflahggpehpabQOpDel2
import Derived.Test.YtnbflahggpehpabQOpFold4
namespace Go.Proofs.Ytnbflahggpehpab.Ir
open Go.RowKit Go.Shelf
set_option linter.unusedVariables false
set_option maxRecDepth 100000
set_option linter.unusedSimpArgs false
attribute [local go_sem] Oper.semAt_some

/-- The value of Dead's needed. -/
def needF (B : Nat) : Value := .func (.func 21) #[] #[.pointer (some ⟨B, 0, none⟩)]

/-- What is held in Dead: what is lost, the function, the row that is made, and what it holds. -/
structure HeldE (w : World) (Bm Bx g cap n : Nat) (s : Value) (L : Nat → Bool) (R : List Mi) (y : World) : Prop where
  lost : Box y w.heap.size (cellsL L)
  need : Box y (w.heap.size + 1) #[needF w.heap.size]
  made : Box y Bm #[.slice (some ⟨g, 0, none⟩) n cap]
  back : Box y Bx #[s]
  own : OwnM w.heap.size y g cap R
  kept : Below w.heap.size w y

theorem Box.own {y z : World} {b : Nat} {c : Array Value} {row : Option Nat} (h : Box y b c) (hg : y.grownBy z row) (hr : ∀ r, row = some r → ∃ o : Obj, y.heap[r]? = some o ∧ o.isCells = false) : Box z b c :=
  h.of_heap (hg.block b h.2.2 (fun e => by
    obtain ⟨o, ho, hc⟩ := hr b e.symm
    obtain ⟨t, ht⟩ := isRow_some h.1
    rw [ht] at ho
    cases ho
    cases hc))

theorem OwnM.own' {base : Nat} {y z : World} {g cap : Nat} {l : List Mi} {row : Option Nat} (h : OwnM base y g cap l) (hg : y.grownBy z row) (hr : ∀ r, row = some r → ∃ o : Obj, y.heap[r]? = some o ∧ o.isCells = false) : OwnM base z g cap l :=
  h.of_heap (hg.block g h.row.2.1 (fun e => by
    obtain ⟨o, ho, hc⟩ := hr g e.symm
    obtain ⟨-, -, -, cur, hh, -⟩ := h
    rw [hh] at ho
    cases ho
    cases hc))

theorem OwnM.set {base : Nat} {y : World} {g cap : Nat} {R : List Mi} (h : OwnM base y g cap R) (i : Nat) (hi : i < R.length) (q : Mi) : OwnM base (y.setRow g (placed (rowAt y g) (i * 6) (cellsM q))) g cap (R.set i q) := by
  have e : R = R.take i ++ R[i] :: R.drop (i + 1) := by rw [List.getElem_cons_drop hi, List.take_append_drop]
  have hl : (R.take i).length = i := by rw [List.length_take]; omega
  rw [e] at h
  have := h.put q
  rw [hl] at this
  rw [List.set_eq_take_append_cons_drop, if_pos hi]
  simpa using this

/-- What one round does. -/
def stE {N : Nat} (s : (Nat → Bool) × List Mi) (x : RdB N) : (Nat → Bool) × List Mi := (ddL s.1 x.1.2, s.2.set x.1.1 (ddM s.1 x.1.2))

theorem stE_len {N : Nat} (xs : List (RdB N)) : ∀ s, (xs.foldl stE s).2.length = s.2.length := by
  induction xs with
  | nil => intro s; rfl
  | cons x xs ih => intro s; rw [List.foldl_cons, ih]; simp [stE]

theorem take_succ_set (l : List Mi) (k : Nat) (hk : k < l.length) (q : Mi) (t : List Mi) : (l.take (k + 1) ++ t).set k q = l.take k ++ q :: t := by
  have hl : (l.take k).length = k := by rw [List.length_take]; omega
  rw [List.take_succ_eq_append_getElem hk, List.append_assoc, List.set_append_right _ _ (by omega), hl, Nat.sub_self]
  rfl

theorem revB_fold (N : Nat) (l : List Mi) (hN : N = l.length) : ∀ (k : Nat) (hk : k ≤ N), (revB N l k hk).foldl stE (lostV (l.drop k), l.take k ++ keptV (l.drop k)) = (lostV l, keptV l) := by
  intro k
  induction k with
  | zero => intro hk; simp [revB]
  | succ k ih =>
    intro hk
    have hlt : k < l.length := by omega
    have hg : l.getD k M0 = l[k] := by rw [List.getD_eq_getElem?_getD, List.getElem?_eq_getElem hlt]; rfl
    have hd : l.drop k = l[k] :: l.drop (k + 1) := (List.getElem_cons_drop hlt).symm
    rw [revB, List.foldl_cons]
    have : stE (lostV (l.drop (k + 1)), l.take (k + 1) ++ keptV (l.drop (k + 1))) (⟨(k, l.getD k M0), hk⟩ : RdB N) = (lostV (l.drop k), l.take k ++ keptV (l.drop k)) := by
      unfold stE
      rw [hg, hd]
      simp only [lostV, keptV, take_succ_set l k hlt]
    rw [this]
    exact ih _

theorem HeldE.own' {w : World} {Bm Bx g cap n : Nat} {s : Value} {L : Nat → Bool} {R : List Mi} {y z : World} {row : Option Nat} (h : HeldE w Bm Bx g cap n s L R y) (hg : y.grownBy z row) (hr : ∀ r, row = some r → w.heap.size ≤ r ∧ ∃ o : Obj, y.heap[r]? = some o ∧ o.isCells = false) : HeldE w Bm Bx g cap n s L R z :=
  ⟨h.lost.own hg (fun r e => (hr r e).2), h.need.own hg (fun r e => (hr r e).2), h.made.own hg (fun r e => (hr r e).2), h.back.own hg (fun r e => (hr r e).2), h.own.own' hg (fun r e => (hr r e).2), h.kept.grown hg (by have := h.kept.size; omega) (fun r e => (hr r e).1)⟩

theorem Box.gr {y z : World} {b B : Nat} {c : Array Value} (h : Box y b c) (hg : y.grownBy z (some B)) (hn : ¬ b = B) : Box z b c :=
  h.of_heap (hg.block b h.2.2 (fun e => hn (by injection e)))

theorem HeldE.drew {w : World} {Bm Bx g cap n : Nat} {s : Value} {L : Nat → Bool} {R : List Mi} {y : World} (h : HeldE w Bm Bx g cap n s L R y) : HeldE w Bm Bx g cap n s L R y.drew :=
  ⟨h.lost.drew, h.need.drew, h.made.drew, h.back.drew, h.own, h.kept.drew⟩

theorem HeldE.called {w : World} {Bm Bx g cap n : Nat} {s : Value} {L L' : Nat → Bool} {R : List Mi} {y z : World} (h : HeldE w Bm Bx g cap n s L R y) (hm : w.heap.size + 1 < Bm) (hx : w.heap.size < Bx) (hg : ¬ g = w.heap.size) (hz : y.grownBy z (some w.heap.size)) (hB : Box z w.heap.size (cellsL L')) : HeldE w Bm Bx g cap n s L' R z :=
  ⟨hB, h.need.gr hz (by omega), h.made.gr hz (by omega), h.back.gr hz (by omega), h.own.of_heap (hz.block g h.own.row.2.1 (fun e => hg (by injection e))), h.kept.grown hz (by have := h.kept.size; omega) (fun k e => by cases e; exact Nat.le_refl _)⟩

theorem HeldE.stored {w : World} {Bm Bx g cap n : Nat} {s : Value} {L : Nat → Bool} {R : List Mi} {y : World} (h : HeldE w Bm Bx g cap n s L R y) (hg : ¬ g = w.heap.size ∧ ¬ g = w.heap.size + 1) (hm : ¬ g = Bm) (hx : ¬ g = Bx) (i : Nat) (hi : i < R.length) (q : Mi) :
    HeldE w Bm Bx g cap n s L (R.set i q) (y.setRow g (placed (rowAt y g) (i * 6) (cellsM q))) :=
  ⟨h.lost.far _ _ (Ne.symm hg.1), h.need.far _ _ (Ne.symm hg.2), h.made.far _ _ (Ne.symm hm), h.back.far _ _ (Ne.symm hx), h.own.set i hi q, below_setRow h.kept h.own.1 _⟩

theorem delete_nil (w : World) : Calls Try.prog 25 #[.slice none 0 0, .func (.func 26) #[] #[]] w fun e w' => e = .returned (.slice none 0 0) ∧ Below w.heap.size w w' := by
  have ci : Hid (Calls Try.prog 37 #[.slice none 0 0, .func (.func 26) #[] #[]] w fun e w' => e = .returned (.int .i64 (-1)) ∧ Below w.heap.size w w') := hide (indexFunc_any (w := w) (v := .slice none 0 0) (l := []) (Or.inl ⟨_, _, rfl, rfl⟩) (by simp))
  go_enter Try.func25, Try.ntmps25
  go_wp2_with fail
  refine ci.out.mono ?_
  rintro e w1 ⟨rfl, h1⟩
  replace h1 := hide h1
  clear ci
  go_wp2
  go_ret
  exact ⟨rfl, h1.out⟩

set_option maxHeartbeats 8000000 in
set_option maxRecDepth 100000 in
theorem dead_some {w : World} {ad : Option Addr} {n c : Nat} {l : List Mi} (h : IsOps w (.slice ad n c) l) (hl : l.length ≤ 16) (hn : n = l.length) : Calls Try.prog 10 #[.slice ad n c] w fun e w' =>
    ∃ v', e = .returned v' ∧ w'.ownsRow w.heap.size 32 6 v' (deadV l).length (flat (deadV l)) ∧ Below w.heap.size w w' := by
  obtain ⟨r1, r2, r3, r4, r5, r6, r7, r8, r9⟩ := rowRules
  obtain ⟨s1, s2, s3, s4, s5, s6, s7, s8, s9, s10⟩ := irSizes
  obtain ⟨q1, q2, q3, q4, q5, q6⟩ := irWhole
  obtain ⟨z1, z2, z3, z4, z5, z6, z7, z8⟩ := opSizesL
  have hst := store_func (w.alloc (.cells (cellsL L0) 48)) 21 #[.pointer (some ⟨w.heap.size, 0, none⟩)] 46
  rw [World.size_alloc] at hst
  have a0 := Box.new w (cellsL L0) 48
  have a1 := Box.new (w.alloc (.cells (cellsL L0) 48)) #[needF w.heap.size] 46
  rw [World.size_alloc] at a1
  have g0 := onto (grow w (.cells (cellsL L0) 48)) (Nat.le_refl _) (grow _ (.cells #[needF w.heap.size] 46))
  replace a0 := a0.on (grow _ (.cells #[needF w.heap.size] 46))
  have cc := hide (clone_ops (h.on g0) hl)
  replace a0 := hide a0
  replace a1 := hide a1
  replace g0 := hide g0
  replace hn := hide hn
  have h := hide h
  unfold needF at cc a0 a1 g0
  refine (callsIn_wide (n := 3)).1 ?_
  refine callsIn_of_wp_marks Try.func10 rfl trivial ?_ rfl
  simp only [Try.ntmps10, List.size_toArray, List.length_cons, List.length_nil, Nat.reduceAdd, Nat.reduceSub, Array.replicate_succ, Array.replicate_zero, List.push_toArray, List.append_toArray, List.nil_append, List.cons_append]
  gi_wp2_with fail
  generalize World.alloc (World.alloc w _) _ = W1 at *
  refine ⟨trivial, ?_⟩
  refine (callsIn_wide.2 cc.out).mono ?_
  rintro e w2 ⟨v1, rfl, ho, hb2⟩
  rcases own_open ho with ⟨hnil, rfl⟩ | ⟨g, cap, hv, hO⟩
  · obtain rfl : n = 0 := by rw [hn.out, hnil]; rfl
    have hB2 := hide (onto g0.out (Nat.le_refl _) hb2)
    have hnil := hide hnil
    clear a0 a1 g0 ho hb2 cc hst
    gi_wp2_with fail
    refine ⟨trivial, ?_⟩
    refine (callsIn_wide.2 (backward_any ad 0 c _)).mono ?_
    rintro e w3 ⟨rfl, hw3⟩
    have m0 := Box.new w2 #[.slice none 0 0] 22
    have gA := grow w2 (.cells #[.slice none 0 0] 22)
    have m1 := Box.new (w2.alloc (.cells #[.slice none 0 0] 22)) #[.slice ad 0 c] 22
    have gB := grow (w2.alloc (.cells #[.slice none 0 0] 22)) (.cells #[.slice ad 0 c] 22)
    rw [← hw3] at m1 gB
    rw [World.size_alloc] at m1
    have gC := onto gA (Nat.le_refl _) gB
    have hE : Hid (Box w3 w2.heap.size #[.slice none 0 0] ∧ Box w3 (w2.heap.size + 1) #[.slice ad 0 c] ∧ Below w.heap.size w w3) := hide ⟨m0.on gB, m1, onto hB2.out (Nat.le_refl _) gC⟩
    have hs3 : w3.heap.size = w2.heap.size + 1 + 1 := by rw [hw3, World.size_alloc, World.size_alloc]
    have hBm : w.heap.size ≤ w2.heap.size := hB2.out.size
    rw [World.size_alloc]
    generalize w2.heap.size = Bm at *
    clear hB2 m0 m1 gA gB gC hw3
    gi_wp2_with fail
    have hx3 : w3.cell? ⟨Bm + 1, 0, none⟩ = some (.slice ad 0 c) := hE.out.2.1.cell 0
    refine wpIn_rangeFunc_ownH rfl (by omega) (gf := 36) (lb := #[.pointer (some ⟨Bm + 1, 0, none⟩)]) rfl trivial (enters_of Try.func36 (by kernel_rfl) rfl)
      (back_stops _ (by omega) (Bm + 1) w w3 ad 0 c l h.out hn.out (by omega) hE.out.2.2 hx3 (by omega))
      (fun h1 h2 => ⟨h1.1.trans h2.1, h2.2.trans h1.2⟩)
      (fun W l o o' hl' hW _ _ => ⟨(Below.refl w.heap.size W).grown (grownBy_putObj' W l o') (by have := (Array.getElem?_eq_some_iff.1 hW).1; omega) (fun k e => by cases e; omega), World.cell?_of_block (World.putObj_heap_other (by intro e; simp at e; omega))⟩)
      (Below.refl _ _) (fun _ => rfl)
      (fun pre W => Box W Bm #[.slice none 0 0] ∧ Box W (Bm + 1) #[.slice ad 0 c] ∧ Below w.heap.size w W)
      (fun _ _ _ => False)
      (fun pre A B row hA hg hr => ⟨hA.1.own hg (fun r e => (hr r e).2), hA.2.1.own hg (fun r e => (hr r e).2), hA.2.2.grown hg (by have := hA.2.2.size; omega) (fun r e => by have := (hr r e).1; omega)⟩)
      (fun _ _ _ _ _ hs _ _ => hs) hE.out
      (fun x a' W => True)
      (fun x a' _ A B row hA hg hr => trivial)
      ?assign ?body ?done ?stop
    case assign => exact fun l' pre x => absurd x.2 (Nat.not_lt_zero _)
    case body => exact fun l' pre x => absurd x.2 (Nat.not_lt_zero _)
    case done =>
      rintro D xs W hD rfl hI hDef
      have y0 : W.cell? ⟨Bm, 0, none⟩ = some (.slice none 0 0) := hI.1.cell 0
      have cd := hide (delete_nil W)
      replace hI := hide hI
      gi_wp2_with fail
      refine ⟨trivial, ?_⟩
      refine (callsIn_wide.2 cd.out).mono ?_
      rintro e W4 ⟨rfl, hb4⟩
      have hD4 : W4.heap[D]? = some (.deferred (some [])) := (hb4.block D (Array.getElem?_eq_some_iff.1 hDef).1).trans hDef
      gi_wp2_with fail
      have hk4 := onto hI.out.2.2 (Nat.le_refl _) hb4
      refine ⟨by simp, .inl ⟨_, _, rfl, run_takeDeferred hD4, ?_⟩⟩
      refine ⟨.slice none 0 0, by simp [results, Try.f10, go_sem], .slice none 0 0, rfl, ?_, hk4.grown (grownBy_putObj' _ D (.deferred none)) (by have := hk4.size; omega) (fun k e => by cases e; omega)⟩
      rw [hnil.out]
      exact World.ownsRow_nil _ _ _ _
    case stop =>
      intro D c' pre W hD _ hF
      exact hF.elim
  rw [← hn.out] at hv
  subst hv
  have b0 := hide (a0.out.on hb2)
  have b1 := hide (a1.out.on hb2)
  have hB2 := hide (onto g0.out (Nat.le_refl _) hb2)
  have hO2 : Hid (OwnM w.heap.size w2 g cap l) := hide ⟨by have := hO.1; have := g0.out.size; omega, hO.2⟩
  have hgL : ¬ g = w.heap.size ∧ ¬ g = w.heap.size + 1 := by have := hO.1; have := a1.out.2.2; omega
  clear a0 a1 g0 ho hO hb2 cc hst
  gi_wp2_with fail
  refine ⟨trivial, ?_⟩
  refine (callsIn_wide.2 (backward_any ad n c _)).mono ?_
  rintro e w3 ⟨rfl, hw3⟩
  have m0 := Box.new w2 #[.slice (some ⟨g, 0, none⟩) n cap] 22
  have gA := grow w2 (.cells #[.slice (some ⟨g, 0, none⟩) n cap] 22)
  have m1 := Box.new (w2.alloc (.cells #[.slice (some ⟨g, 0, none⟩) n cap] 22)) #[.slice ad n c] 22
  have gB := grow (w2.alloc (.cells #[.slice (some ⟨g, 0, none⟩) n cap] 22)) (.cells #[.slice ad n c] 22)
  rw [← hw3] at m1 gB
  rw [World.size_alloc] at m1
  have gC := onto gA (Nat.le_refl _) gB
  have hE : Hid (HeldE w w2.heap.size (w2.heap.size + 1) g cap n (.slice ad n c) L0 l w3) := hide ⟨b0.out.on gC, b1.out.on gC, m0.on gB, m1, hO2.out.of_heap (gC.block g hO2.out.row.2.1), onto hB2.out (Nat.le_refl _) gC⟩
  have hBm : w.heap.size + 1 < w2.heap.size := b1.out.2.2
  have hgm : ¬ g = w2.heap.size := by have := hO2.out.row.2.1; omega
  have hgx : ¬ g = w2.heap.size + 1 := by have := hO2.out.row.2.1; omega
  have hs3 : w3.heap.size = w2.heap.size + 1 + 1 := by rw [hw3, World.size_alloc, World.size_alloc]
  rw [World.size_alloc]
  generalize w2.heap.size = Bm at *
  clear b0 b1 hB2 hO2 m0 m1 gA gB gC hw3
  gi_wp2_with fail
  have hn16 : n ≤ 16 := by rw [hn.out]; exact hl
  have hx3 : w3.cell? ⟨Bm + 1, 0, none⟩ = some (.slice ad n c) := hE.out.back.cell 0
  refine wpIn_rangeFunc_ownH rfl (by omega) (gf := 36) (lb := #[.pointer (some ⟨Bm + 1, 0, none⟩)]) rfl trivial (enters_of Try.func36 (by kernel_rfl) rfl)
    (back_stops _ (by omega) (Bm + 1) w w3 ad n c l h.out hn.out hn16 hE.out.kept hx3 (by omega))
    (fun h1 h2 => ⟨h1.1.trans h2.1, h2.2.trans h1.2⟩)
    (fun W l o o' hl' hW _ _ => ⟨(Below.refl w.heap.size W).grown (grownBy_putObj' W l o') (by have := (Array.getElem?_eq_some_iff.1 hW).1; have := hE.out.kept.size; omega) (fun k e => by cases e; have := hE.out.kept.size; omega), World.cell?_of_block (World.putObj_heap_other (by intro e; simp at e; omega))⟩)
    (Below.refl _ _) (fun _ => rfl)
    (fun pre W => HeldE w Bm (Bm + 1) g cap n (.slice ad n c) (pre.foldl stE (L0, l)).1 (pre.foldl stE (L0, l)).2 W)
    (fun _ _ _ => False)
    (fun pre A B row hA hg hr => hA.own' hg (fun r e => ⟨by have := (hr r e).1; have := hE.out.kept.size; omega, (hr r e).2⟩))
    (fun _ _ _ _ _ hs _ _ => hs) hE.out
    (fun x a' W => ∃ Bv, w3.heap.size ≤ Bv ∧ a' = { tmps := #[.slice ad n c, undef, .slice none 0 0, .pointer (some ⟨w.heap.size, 0, none⟩), .pointer (some ⟨w.heap.size + 1, 0, none⟩), .pointer (some ⟨Bm, 0, none⟩), .int .i64 (x.1.1 : Int), .pointer (some ⟨Bv, 0, none⟩), .func (.func 21) #[] #[.pointer (some ⟨w.heap.size, 0, none⟩)], .slice ad n c, .slice (some ⟨g, 0, none⟩) n cap, .slice ad n c,
      .func (.func 36) #[] #[.pointer (some ⟨Bm + 1, 0, none⟩)], .int .i64 (x.1.1 : Int), .agg (cellsM x.1.2), undef, undef, undef, undef, undef, undef, undef, undef], defers := [] } ∧ Box W Bv (cellsM x.1.2))
    (fun x a' _ A B row hA hg hr => by obtain ⟨Bv, h1, h2, h3⟩ := hA; exact ⟨Bv, h1, h2, h3.own hg (fun r e => (hr r e).2)⟩)
    ?assign ?body ?done ?stop
  case assign =>
    intro l' pre x W K hI hK
    unfold encB
    gi_wp2
    have hg := grow W (.cells (cellsM x.1.2) 32)
    have hsz := hI.kept.size
    refine hK _ _ (KeepsFrom.of_grownBy (grown_of hg) (by simp)) ⟨hg.mono hsz, (((hI.back.on hg).cell 0).trans (hI.back.cell 0).symm)⟩ (hI.own' (grown_of hg) (by simp)) ⟨W.heap.size, by have := hI.back.2.2; omega, rfl, Box.new _ _ _⟩
  case body =>
    rintro l' pre ⟨⟨i, m⟩, hi⟩ a' W hl' hrec hI ⟨Bv, hBv, rfl, hV⟩ hpre
    dsimp only at hi hV hI ⊢
    obtain ⟨L, hL⟩ : ∃ L, (pre.foldl stE (L0, l)).1 = L := ⟨_, rfl⟩
    obtain ⟨R, hR⟩ : ∃ R, (pre.foldl stE (L0, l)).2 = R := ⟨_, rfl⟩
    have hRl : R.length = n := by rw [← hR, stE_len]; exact hn.out.symm
    rw [hL, hR] at hI
    have hg3 := hE.out.own.row.2.1
    have hgv : ¬ Bv = g := by omega
    have c1 := hide (dead1_any L m w.heap.size W.drew hI.lost)
    generalize hQ : ddM L m = q at *
    generalize hP : ddL L m = L' at *
    replace hL := hide hL
    replace hR := hide hR
    replace hQ := hide hQ
    replace hP := hide hP
    replace hI := hide hI
    replace hV := hide hV
    gi_wp2_with fail
    refine region_round (fun y => Box y Bm #[.slice (some ⟨g, 0, none⟩) n cap] ∧ Box y (w.heap.size + 1) #[needF w.heap.size] ∧ Box y Bv (cellsM m)) (by kernel_rfl) (by kernel_rfl) (by rintro ⟨a, y, h⟩; exact h) ⟨hI.out.made, hI.out.need, hV.out⟩ (fun hHeld => ?_)
    -- 0: load
    refine wpAnyH_take (i := 0) (oi := { dst := some 15, op := Op.load 22 (Operand.tmp 5), type := 22, pos := "opt.go:121", after := #[], guard := none }) (v := ?_) rfl (by kernel_rfl) (by kernel_rfl) (by kernel_rfl) (fun _ _ _ h => h) (Or.inl ⟨by rfl, ?_⟩) (by assumption) ?_
    rotate_left
    · intro y hSw
      obtain ⟨u1, u2, u3⟩ := hSw; unfold needF at u2; have v1 := u1.cell 0; have v2 := u2.cell 0; have v3 := u3.loads 0 N6 (q1 _) (q2 _)
      go_simp
      try with_reducible rfl
    try simp only [Act.put, List.setIfInBounds_toArray, List.set_cons_zero, List.set_cons_succ]
    -- 1: move
    refine wpAnyH_take (i := 1) (oi := { dst := some 16, op := Op.move (Operand.tmp 6), type := 3, pos := "opt.go:121", after := #[], guard := none }) (v := ?_) rfl (by kernel_rfl) (by kernel_rfl) (by kernel_rfl) (fun _ _ _ h => h) (Or.inl ⟨by rfl, ?_⟩) (by assumption) ?_
    rotate_left
    · intro y hSw
      obtain ⟨u1, u2, u3⟩ := hSw; unfold needF at u2; have v1 := u1.cell 0; have v2 := u2.cell 0; have v3 := u3.loads 0 N6 (q1 _) (q2 _)
      go_simp
      try with_reducible rfl
    try simp only [Act.put, List.setIfInBounds_toArray, List.set_cons_zero, List.set_cons_succ]
    -- 2: load
    refine wpAnyH_take (i := 2) (oi := { dst := some 17, op := Op.load 46 (Operand.tmp 4), type := 46, pos := "opt.go:121", after := #[], guard := none }) (v := ?_) rfl (by kernel_rfl) (by kernel_rfl) (by kernel_rfl) (fun _ _ _ h => h) (Or.inl ⟨by rfl, ?_⟩) (by assumption) ?_
    rotate_left
    · intro y hSw
      obtain ⟨u1, u2, u3⟩ := hSw; unfold needF at u2; have v1 := u1.cell 0; have v2 := u2.cell 0; have v3 := u3.loads 0 N6 (q1 _) (q2 _)
      go_simp
      try with_reducible rfl
    try simp only [Act.put, List.setIfInBounds_toArray, List.set_cons_zero, List.set_cons_succ]
    -- 3: load
    refine wpAnyH_take (i := 3) (oi := { dst := some 18, op := Op.load 32 (Operand.tmp 7), type := 32, pos := "opt.go:121", after := #[], guard := none }) (v := ?_) rfl (by kernel_rfl) (by kernel_rfl) (by kernel_rfl) (fun _ _ _ h => h) (Or.inl ⟨by rfl, ?_⟩) (by assumption) ?_
    rotate_left
    · intro y hSw
      obtain ⟨u1, u2, u3⟩ := hSw; unfold needF at u2; have v1 := u1.cell 0; have v2 := u2.cell 0; have v3 := u3.loads 0 N6 (q1 _) (q2 _)
      go_simp
      try with_reducible rfl
    try simp only [Act.put, List.setIfInBounds_toArray, List.set_cons_zero, List.set_cons_succ]
    -- 4: call
    refine wpAnyH_ready (rs := [4]) (by kernel_rfl) (by simp) ?_
    refine AllReadyH.cons (o := { dst := some 19, op := Op.call { callee := Callee.value (Operand.tmp 17), args := #[Operand.tmp 18], argTypes := #[32] }, type := 32, pos := "opt.go:121", after := #[{ on := 2, ground := Ground.data }, { on := 3, ground := Ground.data }], guard := none }) rfl (fun K hK => ?_) AllReadyH.nil
    go_simp
    refine c1.out.mono ?_
    rintro e Y ⟨rfl, hBx, hgY⟩
    have hI2 := hide (hI.out.drew.called hBm (by omega) hgL.1 hgY hBx)
    have hV2 := hide (hV.out.drew.gr hgY (by omega))
    have hWY : W.grownBy Y (some w.heap.size) := ((grown_of (Below.refl _ W).drew).but _).trans hgY
    replace hWY := hide hWY
    obtain ⟨x1, x2, x3, -⟩ := hI2.out.own.row
    have hf : fitsP (rowAt Y g) (i * N6) N6 = true := by simp [fitsP, x3, N6]; have := hI2.out.own.2.1; rw [hRl] at this; omega
    go_wp2_with fail
    refine hK.out _ _ (⟨hI2.out.made, hI2.out.need, hV2.out⟩) (fun hHeld => ?_)
    clear hK K
    try simp only [Act.put, List.setIfInBounds_toArray, List.set_cons_zero, List.set_cons_succ]
    -- 5: indexAddr
    refine wpAnyH_take (i := 5) (oi := { dst := some 20, op := Op.indexAddr 22 (Operand.tmp 15) (Operand.tmp 16), type := 0, pos := "opt.go:121", after := #[{ on := 0, ground := Ground.data }, { on := 1, ground := Ground.data }, { on := 0, ground := Ground.phase }, { on := 1, ground := Ground.phase }, { on := 2, ground := Ground.phase }, { on := 3, ground := Ground.phase }, { on := 4, ground := Ground.phase }], guard := none }) (v := ?_) rfl (by kernel_rfl) (by kernel_rfl) (by kernel_rfl) (fun _ _ _ h => h) (Or.inl ⟨by rfl, ?_⟩) (by assumption) ?_
    rotate_left
    · intro y hSw
      obtain ⟨u1, u2, u3⟩ := hSw; unfold needF at u2; have v1 := u1.cell 0; have v2 := u2.cell 0; have v3 := u3.loads 0 N6 (q1 _) (q2 _)
      go_simp
      try with_reducible rfl
    try simp only [Act.put, List.setIfInBounds_toArray, List.set_cons_zero, List.set_cons_succ]
    -- 6: store
    refine wpAnyH_ready (rs := [6]) (by kernel_rfl) (by simp) ?_
    refine AllReadyH.cons (o := { dst := none, op := Op.store 32 (Operand.tmp 20) (Operand.tmp 19), type := 0, pos := "opt.go:121", after := #[{ on := 5, ground := Ground.data }, { on := 4, ground := Ground.data }, { on := 4, ground := Ground.chain }, { on := 0, ground := Ground.phase }, { on := 1, ground := Ground.phase }, { on := 2, ground := Ground.phase }, { on := 3, ground := Ground.phase }, { on := 4, ground := Ground.phase }], guard := none }) rfl (fun K hK => ?_) AllReadyH.nil
    go_simp
    refine hK.out _ _ (⟨hI2.out.made.far _ _ (Ne.symm hgm), hI2.out.need.far _ _ (Ne.symm hgL.2), hV2.out.far _ _ hgv⟩) (fun hHeld => ?_)
    clear hK K
    try simp only [Act.put, List.setIfInBounds_toArray, List.set_cons_zero, List.set_cons_succ]
    refine wpAnyH_done (by kernel_rfl) ?_ _

    have hi2 : i < R.length := by rw [hRl]; exact hi
    have hI3 := hI2.out.stored hgL hgm hgx i hi2 q
    have hZ : Y.grownBy (Y.setRow g (placed (rowAt Y g) (i * 6) (cellsM q))) (some g) := grown_row ((grown_of (Below.refl _ Y)).but (some g)) (Or.inl rfl) _
    refine (show KeepsFrom w3.heap.size W (Y.setRow g (placed (rowAt Y g) (i * 6) (cellsM q))) ∧ KeptB w (Bm + 1) W (Y.setRow g (placed (rowAt Y g) (i * 6) (cellsM q))) ∧
      HeldE w Bm (Bm + 1) g cap n (.slice ad n c) ((pre ++ [(⟨(i, m), hi⟩ : RdB n)]).foldl stE (L0, l)).1 ((pre ++ [(⟨(i, m), hi⟩ : RdB n)]).foldl stE (L0, l)).2 (Y.setRow g (placed (rowAt Y g) (i * 6) (cellsM q))) from ⟨?_, ?_, ?_⟩)
    · refine ⟨Nat.le_trans hWY.out.size hZ.size, fun k o hB hk ho => ?_⟩
      have hkl := (Array.getElem?_eq_some_iff.1 hk).1
      exact (hZ.block k (Nat.lt_of_lt_of_le hkl hWY.out.size) (by simp; omega)).trans ((hWY.out.block k hkl (by simp; omega)).trans hk)
    · exact ⟨below_setRow ((Below.refl w.heap.size W).grown hWY.out (by have := hI.out.kept.size; omega) (fun k e => by cases e; exact Nat.le_refl _)) hI.out.own.1 _, (hI3.back.cell 0).trans (hI.out.back.cell 0).symm⟩
    · rw [List.foldl_append]
      show HeldE w Bm (Bm + 1) g cap n (.slice ad n c) (ddL (pre.foldl stE (L0, l)).1 m) ((pre.foldl stE (L0, l)).2.set i (ddM (pre.foldl stE (L0, l)).1 m)) _
      rw [hL.out, hR.out, hQ.out, hP.out]
      exact hI3
  case done =>
    rintro D xs W hD rfl hI hDef
    have hf := revB_fold n l hn.out n (Nat.le_refl _)
    rw [List.drop_eq_nil_of_le (by rw [hn.out]; exact Nat.le_refl _), List.take_of_length_le (by rw [hn.out]; exact Nat.le_refl _)] at hf
    simp only [lostV, keptV, List.append_nil] at hf
    rw [hf] at hI
    have y0 : W.cell? ⟨Bm, 0, none⟩ = some (.slice (some ⟨g, 0, none⟩) n cap) := hI.made.cell 0
    have cd := hide (deleteFunc_any hI.own (n := n) (by rw [keptV_len]; exact hn.out) (by rw [keptV_len]; exact hl) hI.kept.size)
    have hg3 := hE.out.own.row.2.1
    replace hI := hide hI
    clear hf
    gi_wp2_with fail
    refine ⟨trivial, ?_⟩
    refine (callsIn_wide.2 cd.out).mono ?_
    rintro e W4 ⟨v', rfl, ho, hb4⟩
    have hD4 : W4.heap[D]? = some (.deferred (some [])) := (hb4.block D (Array.getElem?_eq_some_iff.1 hDef).1 (by simp; omega)).trans hDef
    gi_wp2_with fail
    have hO4 : (W4.putObj D (.deferred none)).ownsRow w.heap.size 32 6 v' (deadV l).length (flat (deadV l)) := by
      rcases own_open (l := deadV l) ho with ⟨hnil, rfl⟩ | ⟨g', cap', rfl, hO⟩
      · rw [hnil]; exact World.ownsRow_nil _ _ _ _
      · exact (hO.own' (grownBy_putObj' _ D (.deferred none)) (fun r e => by cases e; exact ⟨_, hD4, rfl⟩)).own
    have hk4 := hI.out.kept.grown hb4 (by have := hI.out.kept.size; omega) (fun k e => by cases e; exact hI.out.own.1)
    refine ⟨by simp, .inl ⟨_, _, rfl, run_takeDeferred hD4, ?_⟩⟩
    refine ⟨v', by simp [results, Try.f10, go_sem], v', rfl, hO4, hk4.grown (grownBy_putObj' _ D (.deferred none)) (by have := hk4.size; omega) (fun k e => by cases e; have := hE.out.kept.size; omega)⟩
  case stop =>
    intro D c' pre W hD _ hF
    exact hF.elim

theorem dead_any {w : World} {v : Value} {l : List Mi} (h : IsOps w v l) (hl : l.length ≤ 16) : Calls Try.prog 10 #[v] w fun e w' =>
    ∃ v', e = .returned v' ∧ w'.ownsRow w.heap.size 32 6 v' (deadV l).length (flat (deadV l)) ∧ Below w.heap.size w w' := by
  obtain ⟨ad, n, c, rfl, hn, -, -⟩ := h.open'
  exact dead_some h hl hn

end Go.Proofs.Ytnbflahggpehpab.Ir
