/- The operations of any words are as the document says; what is told is its owner's. -/
import Derived.Test.YtbgklaahmmfpjaaDoorQIrRTrans
import Derived.Test.YtbgklaahmmfpjaaDoorQIrHeld
import Derived.Deep.Onto
namespace Go.Proofs.YtbgklaahmmfpjaaDoor.Ir
open Go.RowKit
set_option linter.unusedVariables false
set_option maxRecDepth 100000
set_option linter.unusedSimpArgs false

theorem flat_append (a b : List Mi) : flat (a ++ b) = flat a ++ flat b := by simp [flat]

/-- A row of operations of the call's own, that is not empty. -/
def OwnM (base : Nat) (y : World) (g cap : Nat) (l : List Mi) : Prop :=
  base ≤ g ∧ l.length ≤ cap ∧ cap ≤ maxLen ∧ ∃ cur, y.heap[g]? = some (.cells cur 28 (0, 0)) ∧ cur.size = cap * 6 ∧ cur.toList.take (l.length * 6) = flat l

theorem OwnM.own {base : Nat} {y : World} {g cap : Nat} {l : List Mi} (h : OwnM base y g cap l) : y.ownsRow base 28 6 (.slice (some ⟨g, 0, none⟩) l.length cap) l.length (flat l) :=
  ⟨flat_len l, Or.inr ⟨g, cap, h.2.2.2.choose, rfl, h.1, h.2.2.2.choose_spec.1, h.2.1, h.2.2.1, h.2.2.2.choose_spec.2.1, h.2.2.2.choose_spec.2.2⟩⟩

theorem own_open {base : Nat} {y : World} {v : Value} {l : List Mi} (h : y.ownsRow base 28 6 v l.length (flat l)) : (l = [] ∧ v = .slice none 0 0) ∨ ∃ g cap, v = .slice (some ⟨g, 0, none⟩) l.length cap ∧ OwnM base y g cap l := by
  rcases h.2 with ⟨rfl, hn⟩ | ⟨g, cap, cur, rfl, hg, hh, hc, hcm, hs, ht⟩
  · exact Or.inl ⟨List.length_eq_zero_iff.1 hn, rfl⟩
  · exact Or.inr ⟨g, cap, rfl, hg, hc, hcm, cur, hh, hs, ht⟩

theorem OwnM.of_heap {base : Nat} {y z : World} {g cap : Nat} {l : List Mi} (h : OwnM base y g cap l) (e : z.heap[g]? = y.heap[g]?) : OwnM base z g cap l :=
  ⟨h.1, h.2.1, h.2.2.1, h.2.2.2.choose, by rw [e]; exact h.2.2.2.choose_spec.1, h.2.2.2.choose_spec.2⟩

theorem OwnM.row {base : Nat} {y : World} {g cap : Nat} {l : List Mi} (h : OwnM base y g cap l) : isRow y g = true ∧ g < y.heap.size ∧ (rowAt y g).size = cap * 6 ∧ (rowAt y g).toList.take (l.length * 6) = flat l := by
  obtain ⟨-, -, -, cur, e, hs, ht⟩ := h
  have er : rowAt y g = cur := by simp [rowAt, e]
  exact ⟨by simp [isRow, e], (Array.getElem?_eq_some_iff.1 e).1, by rw [er]; exact hs, by rw [er]; exact ht⟩

theorem OwnM.put {base : Nat} {y : World} {g cap : Nat} {pre rest : List Mi} {m : Mi} (h : OwnM base y g cap (pre ++ m :: rest)) (q : Mi) :
    OwnM base (y.setRow g (placed (rowAt y g) (pre.length * 6) (cellsM q))) g cap ((pre ++ [q]) ++ rest) := by
  obtain ⟨hr, hg, hs, ht⟩ := h.row
  obtain ⟨h1, h2, h3, cur, e, -, -⟩ := h
  have hlen : ((pre ++ [q]) ++ rest).length = (pre ++ m :: rest).length := by simp
  have er : rowAt y g = cur := by simp [rowAt, e]
  obtain ⟨T, hT⟩ : ∃ T, (rowAt y g).toList = flat (pre ++ m :: rest) ++ T := ⟨_, by rw [← ht]; exact (List.take_append_drop _ _).symm⟩
  have hm : flat (pre ++ m :: rest) = flat pre ++ ((cellsM m).toList ++ flat rest) := by rw [flat_append]; rfl
  have hq : flat ((pre ++ [q]) ++ rest) = flat pre ++ ((cellsM q).toList ++ flat rest) := by rw [flat_append, flat_append]; simp [flat]
  have hm6 : (cellsM m).toList.length = 6 := rfl
  have hq6 : (cellsM q).size = 6 := rfl
  have hP : (placed (rowAt y g) (pre.length * 6) (cellsM q)).toList = flat ((pre ++ [q]) ++ rest) ++ T := by
    rw [placed, hT, hm, hq]
    have hfl := flat_len pre
    simp only [List.append_assoc]
    rw [List.take_append_of_le_length (by omega), List.take_of_length_le (by omega), List.drop_append, hfl, hq6, List.drop_eq_nil_of_le (by omega), show pre.length * 6 + 6 - pre.length * 6 = 6 by omega, List.drop_left' hm6]
    simp
  refine ⟨h1, by rw [hlen]; exact h2, h3, _, setRow_heap y g _ _ _ _ e, ?_, ?_⟩
  · have := congrArg List.length hP
    have h5 := congrArg List.length hT
    rw [List.length_append, flat_len, hlen, ← flat_len (pre ++ m :: rest), ← List.length_append, ← hT] at this
    simpa [hs] using this
  · rw [hP, ← flat_len, List.take_append_of_le_length (Nat.le_refl _), List.take_of_length_le (Nat.le_refl _)]

theorem OwnM.set {base : Nat} {y : World} {g cap : Nat} {R : List Mi} (h : OwnM base y g cap R) (i : Nat) (hi : i < R.length) (q : Mi) : OwnM base (y.setRow g (placed (rowAt y g) (i * 6) (cellsM q))) g cap (R.set i q) := by
  have e : R = R.take i ++ R[i] :: R.drop (i + 1) := by rw [List.getElem_cons_drop hi, List.take_append_drop]
  have hl : (R.take i).length = i := by rw [List.length_take]; omega
  rw [e] at h
  have := h.put q
  rw [hl] at this
  rw [List.set_eq_take_append_cons_drop, if_pos hi]
  simpa using this

theorem transV_16 (l : List Int) : (transV l).length ≤ 16 := by
  have key : ∀ (r : List Int) (k : Nat), (transF k r).length ≤ r.length := by
    intro r
    induction r with
    | nil => intro k; simp [transF]
    | cons x r ih =>
      intro k
      unfold transF
      split
      · simp only [List.length_cons]; have := ih (k + 1); omega
      · simp
  have := key (l.take 16) 0
  rw [List.length_take] at this
  unfold transV
  omega

/-- What is held through the turns. -/
def TurnT (w : World) (vl vk : Value) (l : List Int) (y : World) : Prop := IsWords y vl l ∧ IsOps y vk (transV l) ∧ De.Tabs y ∧ Below w.heap.size w y

theorem TurnT.on {w : World} {vl vk : Value} {l : List Int} {y z : World} (h : TurnT w vl vk l y) (hb : Below y.heap.size y z) : TurnT w vl vk l z :=
  ⟨h.1.on hb, h.2.1.on hb, h.2.2.1.on hb, onto h.2.2.2 (Nat.le_refl _) hb⟩

set_option maxHeartbeats 8000000 in
theorem trans_cut {w : World} {ad : Option Addr} {n c K : Nat} {l : List Int} (hnc : n ≤ c) (hK : (n ≤ 20 ∧ K = n) ∨ (20 < n ∧ K = 20)) (h : IsWords w (.slice ad K c) l) (tb : De.Tabs w) :
    Calls Tryd.prog 3 #[.slice ad n c] w fun e w' => e = .returned (.bool true) ∧ Below w.heap.size w w' := by
  obtain ⟨r1, r2, r3, r4, r5, r6, r7, r8, r9⟩ := rowRules
  obtain ⟨s1, s2, s3, s4, s5, s6, s7, s8, s9, s10⟩ := irSizes
  obtain ⟨q1, q2, q3, q4, q5, q6⟩ := irWhole
  have cr := hide (rtranslate_any h)
  have h0 := hide h
  have tb0 := hide tb
  clear h tb
  rcases hK with ⟨hn, rfl⟩ | ⟨hn, rfl⟩
  · go_enter Tryd.func3, Tryd.ntmps3
    go_wp2_with fail
    refine cr.out.mono ?_
    rintro e w1 ⟨⟨vk, rfl, hok⟩, h1⟩
    have hT0 : Hid (TurnT w (.slice ad K c) vk l w1) := hide ⟨h0.out.on h1, ops_of_own hok, tb0.out.on h1, h1⟩
    clear cr h0 tb0 hok h1
    go_wp2_with fail
    go_loopw [4] (fun i wr => ∃ t : Nat, t ≤ 2 ∧ i = .int .i64 (t : Int) ∧ Hid (TurnT w (.slice ad K c) vk l wr)) (fun i _ => 2 - (intOf i).toNat)
    case atStart => exact ⟨0, by omega, rfl, hT0⟩
    case round =>
      obtain ⟨t, ht, rfl, hT⟩ := hrel
      clear hT0
      by_cases hlt : t < 2
      · have dt : decide ((t : Int) < 2) = true := by simp; omega
        have ca := hide (translate_any hT.out.1 hT.out.2.2.1)
        generalize hWt : wr = Wt at *
        clear hWt
        go_wp2_with fail
        refine ca.out.mono ?_
        rintro e w5 ⟨⟨va, rfl, hoa⟩, h5⟩
        have cs := hide (rsame_any (ops_of_own hoa) (hT.out.2.1.on h5))
        rw [show decide (transV l = transV l) = true by simp] at cs
        have own6 := hide hoa
        have kept6 := hide h5
        clear ca hoa h5
        go_wp2_with fail
        refine cs.out.mono ?_
        rintro e w7 ⟨rfl, h7⟩
        have own := hide (own6.out.kept (grown_of h7) (by cases hv : Value.ownBlock va <;> simp))
        have kept := hide (kept6.out.trans (h7.mono kept6.out.size))
        clear cs own6 kept6 h7
        rcases own_open (l := transV l) own.out with ⟨hq, hv⟩ | ⟨g, cap, hv, hO⟩
        · subst hv
          have hTz := hide (hT.out.on kept.out)
          clear hT own kept hq
          go_wp2_with fail
          go_loopw [6] (fun i wz => i = .int .i64 0 ∧ wz = w7) (fun _ _ => 0)
          case atStart => exact ⟨rfl, rfl⟩
          case round =>
            obtain ⟨rfl, rfl⟩ := hrel
            go_wp2
            go_roundw
            case rel => exact ⟨t + 1, by omega, by go_num, hTz⟩
            case measure => simp [intOf]; omega
        · subst hv
          replace hO := hide hO
          obtain ⟨Lq, hLq⟩ : ∃ Lq, (transV l).length = Lq := ⟨_, rfl⟩
          rw [hLq]
          have hLc : Lq ≤ cap := by rw [← hLq]; exact hO.out.2.1
          have hL16 : Lq ≤ 16 := by rw [← hLq]; exact transV_16 l
          replace hLq := hide hLq
          clear own
          go_wp2_with fail
          go_loopw [6] (fun i wz => ∃ (k : Nat) (Z : List Mi), k ≤ Lq ∧ i = .int .i64 (k : Int) ∧ Hid (Z.length = Lq) ∧ Hid (OwnM Wt.heap.size wz g cap Z) ∧ Hid (Below Wt.heap.size Wt wz)) (fun i _ => Lq - (intOf i).toNat)
          case atStart => exact ⟨0, transV l, Nat.zero_le _, rfl, hLq, hO, kept⟩
          case round =>
            obtain ⟨k, Z, hk, rfl, hZ, hOz, hbz⟩ := hrel
            clear hO kept
            by_cases hkl : k < Lq
            · have dk : decide ((k : Int) < (Lq : Int)) = true := by simp; omega
              obtain ⟨x1, x2, x3, -⟩ := hOz.out.row
              have hf : fitsP (rowAt wr g) (k * N6) N6 = true := by simp [fitsP, x3, N6]; omega
              have hO2 : Hid (OwnM Wt.heap.size (wr.setRow g (placed (rowAt wr g) (k * N6) (cellsM M0))) g cap (Z.set k M0)) := hide (hOz.out.set k (by have := hZ.out; omega) M0)
              have hb2 := hide (below_setRow hbz.out hOz.out.1 (placed (rowAt wr g) (k * N6) (cellsM M0)))
              have hZ2 : Hid ((Z.set k M0).length = Lq) := hide (by rw [List.length_set]; exact hZ.out)
              clear hOz hbz hZ x2 x3
              go_wp2
              go_roundw
              case rel => exact ⟨k + 1, _, by omega, by go_num, hZ2, hO2, hb2⟩
              case measure => simp [intOf]; omega
            · have dk : decide ((k : Int) < (Lq : Int)) = false := by simp; omega
              have hTz := hide (hT.out.on hbz.out)
              clear hT hOz hbz hZ
              go_wp2
              go_roundw
              case rel => exact ⟨t + 1, by omega, by go_num, hTz⟩
              case measure => simp [intOf]; omega
      · have dt : decide ((t : Int) < 2) = false := by simp; omega
        have cf := hide (fixed_any wr hT.out.2.2.1)
        go_wp2_with fail
        refine cf.out.mono ?_
        rintro e w6 ⟨rfl, h6⟩
        have b6 := hide (onto hT.out.2.2.2 (Nat.le_refl _) h6)
        clear cf h6
        go_wp2
        go_ret
        exact ⟨rfl, b6.out⟩
  · go_enter Tryd.func3, Tryd.ntmps3
    go_wp2_with fail
    refine cr.out.mono ?_
    rintro e w1 ⟨⟨vk, rfl, hok⟩, h1⟩
    have hT0 : Hid (TurnT w (.slice ad 20 c) vk l w1) := hide ⟨h0.out.on h1, ops_of_own hok, tb0.out.on h1, h1⟩
    clear cr h0 tb0 hok h1
    go_wp2_with fail
    go_loopw [4] (fun i wr => ∃ t : Nat, t ≤ 2 ∧ i = .int .i64 (t : Int) ∧ Hid (TurnT w (.slice ad 20 c) vk l wr)) (fun i _ => 2 - (intOf i).toNat)
    case atStart => exact ⟨0, by omega, rfl, hT0⟩
    case round =>
      obtain ⟨t, ht, rfl, hT⟩ := hrel
      clear hT0
      by_cases hlt : t < 2
      · have dt : decide ((t : Int) < 2) = true := by simp; omega
        have ca := hide (translate_any hT.out.1 hT.out.2.2.1)
        generalize hWt : wr = Wt at *
        clear hWt
        go_wp2_with fail
        refine ca.out.mono ?_
        rintro e w5 ⟨⟨va, rfl, hoa⟩, h5⟩
        have cs := hide (rsame_any (ops_of_own hoa) (hT.out.2.1.on h5))
        rw [show decide (transV l = transV l) = true by simp] at cs
        have own6 := hide hoa
        have kept6 := hide h5
        clear ca hoa h5
        go_wp2_with fail
        refine cs.out.mono ?_
        rintro e w7 ⟨rfl, h7⟩
        have own := hide (own6.out.kept (grown_of h7) (by cases hv : Value.ownBlock va <;> simp))
        have kept := hide (kept6.out.trans (h7.mono kept6.out.size))
        clear cs own6 kept6 h7
        rcases own_open (l := transV l) own.out with ⟨hq, hv⟩ | ⟨g, cap, hv, hO⟩
        · subst hv
          have hTz := hide (hT.out.on kept.out)
          clear hT own kept hq
          go_wp2_with fail
          go_loopw [6] (fun i wz => i = .int .i64 0 ∧ wz = w7) (fun _ _ => 0)
          case atStart => exact ⟨rfl, rfl⟩
          case round =>
            obtain ⟨rfl, rfl⟩ := hrel
            go_wp2
            go_roundw
            case rel => exact ⟨t + 1, by omega, by go_num, hTz⟩
            case measure => simp [intOf]; omega
        · subst hv
          replace hO := hide hO
          obtain ⟨Lq, hLq⟩ : ∃ Lq, (transV l).length = Lq := ⟨_, rfl⟩
          rw [hLq]
          have hLc : Lq ≤ cap := by rw [← hLq]; exact hO.out.2.1
          have hL16 : Lq ≤ 16 := by rw [← hLq]; exact transV_16 l
          replace hLq := hide hLq
          clear own
          go_wp2_with fail
          go_loopw [6] (fun i wz => ∃ (k : Nat) (Z : List Mi), k ≤ Lq ∧ i = .int .i64 (k : Int) ∧ Hid (Z.length = Lq) ∧ Hid (OwnM Wt.heap.size wz g cap Z) ∧ Hid (Below Wt.heap.size Wt wz)) (fun i _ => Lq - (intOf i).toNat)
          case atStart => exact ⟨0, transV l, Nat.zero_le _, rfl, hLq, hO, kept⟩
          case round =>
            obtain ⟨k, Z, hk, rfl, hZ, hOz, hbz⟩ := hrel
            clear hO kept
            by_cases hkl : k < Lq
            · have dk : decide ((k : Int) < (Lq : Int)) = true := by simp; omega
              obtain ⟨x1, x2, x3, -⟩ := hOz.out.row
              have hf : fitsP (rowAt wr g) (k * N6) N6 = true := by simp [fitsP, x3, N6]; omega
              have hO2 : Hid (OwnM Wt.heap.size (wr.setRow g (placed (rowAt wr g) (k * N6) (cellsM M0))) g cap (Z.set k M0)) := hide (hOz.out.set k (by have := hZ.out; omega) M0)
              have hb2 := hide (below_setRow hbz.out hOz.out.1 (placed (rowAt wr g) (k * N6) (cellsM M0)))
              have hZ2 : Hid ((Z.set k M0).length = Lq) := hide (by rw [List.length_set]; exact hZ.out)
              clear hOz hbz hZ x2 x3
              go_wp2
              go_roundw
              case rel => exact ⟨k + 1, _, by omega, by go_num, hZ2, hO2, hb2⟩
              case measure => simp [intOf]; omega
            · have dk : decide ((k : Int) < (Lq : Int)) = false := by simp; omega
              have hTz := hide (hT.out.on hbz.out)
              clear hT hOz hbz hZ
              go_wp2
              go_roundw
              case rel => exact ⟨t + 1, by omega, by go_num, hTz⟩
              case measure => simp [intOf]; omega
      · have dt : decide ((t : Int) < 2) = false := by simp; omega
        have cf := hide (fixed_any wr hT.out.2.2.1)
        go_wp2_with fail
        refine cf.out.mono ?_
        rintro e w6 ⟨rfl, h6⟩
        have b6 := hide (onto hT.out.2.2.2 (Nat.le_refl _) h6)
        clear cf h6
        go_wp2
        go_ret
        exact ⟨rfl, b6.out⟩

theorem trans_walk (w : World) (v : Value) (l : List Int) (hl : IsWords w v l) (hc : CapOk v) (tb : De.Tabs w) :
    Calls Tryd.prog 3 #[v] w fun e w' => e = .returned (.bool true) ∧ Below w.heap.size w w' := by
  obtain ⟨ad, n, c, rfl, hnc, h⟩ := cut_words hl hc 20
  rcases h with ⟨hn, h⟩ | ⟨hn, h⟩
  · exact trans_cut hnc (Or.inl ⟨hn, rfl⟩) h tb
  · exact trans_cut hnc (Or.inr ⟨hn, rfl⟩) h tb

end Go.Proofs.YtbgklaahmmfpjaaDoor.Ir
