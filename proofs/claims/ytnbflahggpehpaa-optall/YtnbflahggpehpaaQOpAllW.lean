/- What all passes that flags tell make of any operations is as the document says; what was handed in stays; what is told is its owner's. -/
import Derived.Test.YtnbflahggpehpaaQOpRAll
import Derived.Test.YtnbflahggpehpaaQOpAll
namespace Go.Proofs.Ytnbflahggpehpaa.Ir
open Go.RowKit
set_option linter.unusedVariables false
set_option maxRecDepth 100000
set_option linter.unusedSimpArgs false

/-- The cells of a slice of operations. -/
theorem ops_cells {w : World} {g o K c : Nat} {l : List Mi} (h : IsOps w (.slice (some ⟨g, o, none⟩) K c) l) : ∀ j u, (flat l)[j]? = some u → w.cell? ((⟨g, o, none⟩ : Addr).add j) = some u := by
  intro j u hj
  rcases h with ⟨a, c0, rfl, e⟩ | ⟨g', o', c0, e, hl, hg, hm⟩
  · simp [flat] at hj
  · cases e
    have hjl := (List.getElem?_eq_some_iff.1 hj).1
    rw [flat_len] at hjl
    have hi2 : l[j / 6]? = some (l[j / 6]'(by omega)) := List.getElem?_eq_getElem _
    have e := flat_at l (j / 6) _ hi2 (j % 6) (by omega)
    rw [show j / 6 * 6 + j % 6 = j by omega, hj] at e
    have := hm (j / 6) _ hi2 (j % 6) (by omega)
    rw [show o + j / 6 * 6 + j % 6 = o + j by omega] at this
    rw [Addr.add_lit, this, ← e]

theorem len_cut {w : World} {ad : Option Addr} {n c : Nat} {l : List Mi} (h : IsOps w (.slice ad n c) l) : l.length = n := by
  obtain ⟨a2, n2, c2, e, hn2, -, -⟩ := h.open'
  cases e
  exact hn2.symm

/-- What is left behind the making of the copy: two turns and the last look. -/
def Turned (w : World) (C F D : Bool) (va : Value) (vw : Value) (l : List Mi) (y : World) : Prop :=
  Box y w.heap.size #[.bool C, .bool F, .bool D] ∧ IsOps y va l ∧ IsOps y vw l ∧ Below w.heap.size w y

theorem Turned.on {w : World} {C F D : Bool} {va vw : Value} {l : List Mi} {y z : World} (h : Turned w C F D va vw l y) (hb : Below y.heap.size y z) : Turned w C F D va vw l z :=
  ⟨h.1.on hb, h.2.1.on hb, h.2.2.1.on hb, onto h.2.2.2 (Nat.le_refl _) hb⟩

set_option maxHeartbeats 8000000 in
theorem all_cut {w : World} {ad : Option Addr} {n c K : Nat} {l : List Mi} (hnc : n ≤ c) (hK : (n ≤ 16 ∧ K = n) ∨ (16 < n ∧ K = 16)) (h : IsOps w (.slice ad K c) l) (hw : WordsM l) (hl : l.length ≤ 16) (C F D : Bool) :
    Calls Try.prog 6 #[.slice ad n c, .agg #[.bool C, .bool F, .bool D]] w fun e w' => e = .returned (.bool true) ∧ Below w.heap.size w w' := by
  obtain ⟨r1, r2, r3, r4, r5, r6, r7, r8, r9⟩ := rowRules
  obtain ⟨s1, s2, s3, s4, s5, s6, s7, s8, s9, s10⟩ := irSizes
  obtain ⟨q1, q2, q3, q4, q5, q6⟩ := irWhole
  have hi0 : (Try.prog.info? 34).map (fun i => (i.zero, i.size, i.bytes)) = some (some (.agg (cellsM M0)), 6, 48) := by kernel_rfl
  obtain ⟨i0, hi, hz0, hz1, hz2⟩ := info_parts hi0
  have x0 := Box.new w #[.bool C, .bool F, .bool D] 30
  have g0 := grow w (.cells #[.bool C, .bool F, .bool D] 30)
  have o0 := h.on g0
  have cm := hide (lmay_any hnc hK o0)
  have hKl := len_cut h
  replace x0 := hide x0
  replace g0 := hide g0
  replace o0 := hide o0
  clear h hK
  go_enter Try.func6, Try.ntmps6
  go_wp2_with fail
  generalize World.alloc w _ = W0 at *
  refine cm.out.mono ?_
  rintro e w1 ⟨rfl, h1⟩
  have x1 := hide (x0.out.on h1)
  have b1 := hide (onto g0.out (Nat.le_refl _) h1)
  have o1 := hide (o0.out.on h1)
  have hE : Hid ((w1.alloc (.cells #[] 34)).ownsRow w1.heap.size 34 6 (.slice (some ⟨w1.heap.size, 0, none⟩) 0 0) 0 []) :=
    hide ⟨rfl, Or.inr ⟨w1.heap.size, 0, #[], rfl, Nat.le_refl _, heap_alloc_new _ _, Nat.le_refl _, Nat.zero_le _, rfl, rfl⟩⟩
  clear cm x0 g0 o0 h1
  obtain ⟨mb, hmb⟩ : ∃ mb, mayB l = mb := ⟨_, rfl⟩
  rw [hmb]
  replace hmb := hide hmb
  go_upto_region 2 with fail
  go_cut [6] from 10 (fun s6 x => Hid (Turned w C F D (.slice ad K c) s6 l x))
  case first =>
    cases ad with
    | some a =>
      have hcell : Hid (∀ j u, (flat l)[j]? = some u → (w1.alloc (.cells #[] 34)).cell? (a.add j) = some u) := hide (by
        rcases o1.out with ⟨a0, c0, e, -⟩ | ⟨g, o, c0, e, -, -, -⟩
        · intro j u hj; rw [e] at hj; simp [flat] at hj
        · cases e
          exact ops_cells (o1.out.on (grow w1 _)))
      go_wp2_with (at_builtin; refine wpList_append_own _ rfl _ _ 22 rfl w1.heap.size 34 i0 (.agg (cellsM M0)) 6 48 Try.underlying22 hi hz0 hz1 hz2 rfl (by decide) _ _ _ rfl hE.out a K c (flat l) rfl (by rw [flat_len, hKl]) hcell.out (flat_one l) (by unfold maxLen; omega) (by omega) (by simp) ?_)
      intro v' w4 hown' hgrow _
      have b4 : Below w1.heap.size w1 w4 := (grow w1 _).grown hgrow (by simp) (fun k hk => by cases hk; exact Nat.le_refl _)
      have ow : IsOps w4 v' l := ops_of_own (l := l) (B := w1.heap.size) (by rw [hKl]; simpa using hown')
      have hT : Hid (Turned w C F D (.slice (some a) K c) v' l w4) := hide ⟨x1.out.on b4, o1.out.on b4, ow, onto b1.out (Nat.le_refl _) b4⟩
      clear hown' hgrow b4 ow
      go_wp2
      go_meet
      case rel => exact hT
    | none =>
      obtain ⟨rfl, rfl⟩ : K = 0 ∧ l = [] := by
        rcases o1.out with ⟨a0, c0, e, e2⟩ | ⟨g, o, c0, e, -, -, -⟩
        · cases e2; exact ⟨rfl, e⟩
        · cases e
      have g4 := grow w1 (.cells #[] 34)
      have hT : Hid (Turned w C F D (.slice none 0 c) (.slice (some ⟨w1.heap.size, 0, none⟩) 0 0) [] (w1.alloc (.cells #[] 34))) := hide ⟨x1.out.on g4, o1.out.on g4, Or.inl ⟨_, _, rfl, rfl⟩, onto b1.out (Nat.le_refl _) g4⟩
      clear g4
      go_wp2
      go_meet
      case rel => exact hT
  case rest =>
    generalize hvw : u6 = vw at *
    clear hvw
    clear hE x1 b1 o1
    go_wp2_with fail
    go_loopw [7] (fun i wr => ∃ t : Nat, t ≤ 2 ∧ i = .int .i64 (t : Int) ∧ Hid (Turned w C F D (.slice ad K c) vw l wr)) (fun i _ => 2 - (intOf i).toNat)
    case atStart => exact ⟨0, by omega, rfl, hcut⟩
    case round =>
      obtain ⟨t, ht, rfl, hT⟩ := hrel
      clear hcut
      by_cases hlt : t < 2
      · have dt : decide ((t : Int) < 2) = true := by simp; omega
        have y0 := hT.out.1.cell 0
        have y1 := hT.out.1.cell 1
        have y2 := hT.out.1.cell 2
        have ca := hide (all_any hT.out.2.1 hl hw C F D)
        generalize hWt : wr = Wt at *
        clear hWt
        go_wp2_with fail
        refine ca.out.mono ?_
        rintro e w5 ⟨va, rfl, hS⟩
        obtain ⟨q, hqe⟩ : ∃ q, allV C F D l = q := ⟨_, rfl⟩
        rw [hqe] at hS
        replace hqe := hide hqe
        have hq16 := hS.len
        have z0 := (hT.out.1.on hS.kept).cell 0
        have z1 := (hT.out.1.on hS.kept).cell 1
        have z2 := (hT.out.1.on hS.kept).cell 2
        clear y0 y1 y2 ca
        cases mb
        · have own := hide hS.own
          have kept := hide hS.kept
          clear hS z0 z1 z2
          rcases own_open (l := q) own.out with ⟨hq, hv⟩ | ⟨g, cap, hv, hO⟩
          · subst hv
            have hTz := hide (hT.out.on kept.out)
            clear hT own kept hq
            go_wp2_with fail
            go_loopw [9] (fun i wz => i = .int .i64 0 ∧ wz = w5) (fun _ _ => 0)
            case atStart => exact ⟨rfl, rfl⟩
            case round =>
              obtain ⟨rfl, rfl⟩ := hrel
              go_wp2
              go_roundw
              case rel => exact ⟨t + 1, by omega, by go_num, hTz⟩
              case measure => simp [intOf]; omega
          · subst hv
            replace hO := hide hO
            obtain ⟨Lq, hLq⟩ : ∃ Lq, q.length = Lq := ⟨_, rfl⟩
            rw [hLq]
            have hLc : Lq ≤ cap := by rw [← hLq]; exact hO.out.2.1
            have hL16 : Lq ≤ 16 := by rw [← hLq]; exact hq16
            replace hLq := hide hLq
            clear own
            go_wp2_with fail
            go_loopw [9] (fun i wz => ∃ (k : Nat) (Z : List Mi), k ≤ Lq ∧ i = .int .i64 (k : Int) ∧ Hid (Z.length = Lq) ∧ Hid (OwnM Wt.heap.size wz g cap Z) ∧ Hid (Below Wt.heap.size Wt wz)) (fun i _ => Lq - (intOf i).toNat)
            case atStart => exact ⟨0, q, Nat.zero_le _, rfl, hLq, hO, kept⟩
            case round =>
              obtain ⟨k, Z, hk, rfl, hZ, hOz, hbz⟩ := hrel
              clear hO kept
              by_cases hkl : k < Lq
              · have dk : decide ((k : Int) < (Lq : Int)) = true := by simp; omega
                obtain ⟨x1, x2, x3, -⟩ := hOz.out.row
                have hf : fitsP (rowAt wr g) (k * N6) N6 = true := by simp [fitsP, x3, N6]; omega
                have hO2 : Hid (OwnM Wt.heap.size (wr.setRow g (placed (rowAt wr g) (k * N6) (cellsM M0))) g cap (Z.set k M0)) := hide (hOz.out.set k (by have := hZ.out; omega) M0)
                have hb2 := hide (below_setRow hbz.out hOz.out.1 (placed (rowAt wr g) (k * N6) (cellsM M0)))
                have hZ2 : Hid ((Z.set k M0).length = Lq) := hide (by rw [List.length_set]; exact hZ.out)
                clear hOz hbz hZ x2 x3
                go_wp2
                go_roundw
                case rel => exact ⟨k + 1, _, by omega, by go_num, hZ2, hO2, hb2⟩
                case measure => simp [intOf]; omega
              · have dk : decide ((k : Int) < (Lq : Int)) = false := by simp; omega
                have hTz := hide (hT.out.on hbz.out)
                clear hT hOz hbz hZ
                go_wp2
                go_roundw
                case rel => exact ⟨t + 1, by omega, by go_num, hTz⟩
                case measure => simp [intOf]; omega
        · have cr := hide (rall_any (hT.out.2.2.1.on hS.kept) hmb.out hw C F D)
          replace hS := hide hS
          go_wp2_with fail
          refine cr.out.mono ?_
          rintro e w6 ⟨vb, rfl, hD⟩
          have cs := hide (rsame_any (hS.out.ops.on hD.kept) hD.ops)
          rw [hqe.out, show decide (q = q) = true by simp] at cs
          have own6 := hide (hS.out.own.kept (grown_of hD.kept) (by cases hv : Value.ownBlock va <;> simp))
          have kept6 := hide (hS.out.kept.trans (hD.kept.mono hS.out.kept.size))
          clear cr hS hD z0 z1 z2
          go_wp2_with fail
          refine cs.out.mono ?_
          rintro e w7 ⟨rfl, h7⟩
          have own := hide (own6.out.kept (grown_of h7) (by cases hv : Value.ownBlock va <;> simp))
          have kept := hide (kept6.out.trans (h7.mono kept6.out.size))
          clear cs own6 kept6 h7
          rcases own_open (l := q) own.out with ⟨hq, hv⟩ | ⟨g, cap, hv, hO⟩
          · subst hv
            have hTz := hide (hT.out.on kept.out)
            clear hT own kept hq
            go_wp2_with fail
            go_loopw [9] (fun i wz => i = .int .i64 0 ∧ wz = w7) (fun _ _ => 0)
            case atStart => exact ⟨rfl, rfl⟩
            case round =>
              obtain ⟨rfl, rfl⟩ := hrel
              go_wp2
              go_roundw
              case rel => exact ⟨t + 1, by omega, by go_num, hTz⟩
              case measure => simp [intOf]; omega
          · subst hv
            replace hO := hide hO
            obtain ⟨Lq, hLq⟩ : ∃ Lq, q.length = Lq := ⟨_, rfl⟩
            rw [hLq]
            have hLc : Lq ≤ cap := by rw [← hLq]; exact hO.out.2.1
            have hL16 : Lq ≤ 16 := by rw [← hLq]; exact hq16
            replace hLq := hide hLq
            clear own
            go_wp2_with fail
            go_loopw [9] (fun i wz => ∃ (k : Nat) (Z : List Mi), k ≤ Lq ∧ i = .int .i64 (k : Int) ∧ Hid (Z.length = Lq) ∧ Hid (OwnM Wt.heap.size wz g cap Z) ∧ Hid (Below Wt.heap.size Wt wz)) (fun i _ => Lq - (intOf i).toNat)
            case atStart => exact ⟨0, q, Nat.zero_le _, rfl, hLq, hO, kept⟩
            case round =>
              obtain ⟨k, Z, hk, rfl, hZ, hOz, hbz⟩ := hrel
              clear hO kept
              by_cases hkl : k < Lq
              · have dk : decide ((k : Int) < (Lq : Int)) = true := by simp; omega
                obtain ⟨x1, x2, x3, -⟩ := hOz.out.row
                have hf : fitsP (rowAt wr g) (k * N6) N6 = true := by simp [fitsP, x3, N6]; omega
                have hO2 : Hid (OwnM Wt.heap.size (wr.setRow g (placed (rowAt wr g) (k * N6) (cellsM M0))) g cap (Z.set k M0)) := hide (hOz.out.set k (by have := hZ.out; omega) M0)
                have hb2 := hide (below_setRow hbz.out hOz.out.1 (placed (rowAt wr g) (k * N6) (cellsM M0)))
                have hZ2 : Hid ((Z.set k M0).length = Lq) := hide (by rw [List.length_set]; exact hZ.out)
                clear hOz hbz hZ x2 x3
                go_wp2
                go_roundw
                case rel => exact ⟨k + 1, _, by omega, by go_num, hZ2, hO2, hb2⟩
                case measure => simp [intOf]; omega
              · have dk : decide ((k : Int) < (Lq : Int)) = false := by simp; omega
                have hTz := hide (hT.out.on hbz.out)
                clear hT hOz hbz hZ
                go_wp2
                go_roundw
                case rel => exact ⟨t + 1, by omega, by go_num, hTz⟩
                case measure => simp [intOf]; omega
      · have dt : decide ((t : Int) < 2) = false := by simp; omega
        have cs := hide (rsame_any hT.out.2.1 hT.out.2.2.1)
        rw [show decide (l = l) = true by simp] at cs
        go_wp2_with fail
        refine cs.out.mono ?_
        rintro e w5 ⟨rfl, h5⟩
        have b5 := hide (onto hT.out.2.2.2 (Nat.le_refl _) h5)
        have cf := hide (fixed_any w5)
        clear cs h5
        go_wp2_with fail
        refine cf.out.mono ?_
        rintro e w6 ⟨rfl, h6⟩
        have b6 := hide (onto b5.out (Nat.le_refl _) h6)
        clear cf h6 b5
        go_wp2
        go_ret
        exact ⟨rfl, b6.out⟩

theorem all_walk (w : World) (v : Value) (l : List Mi) (hl : IsOps w v l) (hw : WordsM l) (hc : CapOk v) (C F D : Bool) :
    Calls Try.prog 6 #[v, .agg #[.bool C, .bool F, .bool D]] w fun e w' => e = .returned (.bool true) ∧ Below w.heap.size w w' := by
  obtain ⟨ad, n, c, rfl, hnc, h⟩ := cut_ops hl hw hc 16
  rcases h with ⟨hn, h, hw'⟩ | ⟨hn, h, hw'⟩
  · exact all_cut hnc (Or.inl ⟨hn, rfl⟩) h hw' (by rw [len_cut h]; exact hn) C F D
  · exact all_cut hnc (Or.inr ⟨hn, rfl⟩) h hw' (by rw [len_cut h]; exact Nat.le_refl _) C F D

end Go.Proofs.Ytnbflahggpehpaa.Ir
