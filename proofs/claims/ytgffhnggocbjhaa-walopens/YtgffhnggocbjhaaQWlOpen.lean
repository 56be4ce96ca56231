/- Layer 19: the document's log: Open. -/
import Derived.Test.YtgffhnggocbjhaaQWlForm
namespace Go.Proofs.Ytgffhnggocbjhaa
open Go.RowKit
set_option linter.unusedVariables false
set_option maxRecDepth 100000
set_option linter.unusedSimpArgs false

/-- What the first k places tell: the greatest number, its cells, is its sum right. -/
def hN (d : Dk) (k : Nat) : Nat := headN d (d.told (k : Int)) k
def bN (d : Dk) : Nat → Nat
  | 0 => 0
  | k + 1 => if bN d k < hN d k then hN d k else bN d k
def bL (d : Dk) : Nat → Cl
  | 0 => []
  | k + 1 => if bN d k < hN d k then headL d (d.told (k : Int)) k else bL d k
def bB (d : Dk) : Nat → Bool
  | 0 => false
  | k + 1 => if bN d k < hN d k then headB d (d.told (k : Int)) k else bB d k

theorem hN_numAt (d : Dk) (k : Nat) : hN d k = numAt d k := rfl
theorem best_is (d : Dk) : bN d 2 = bestN d := by
  have e : bN d 2 = if (if 0 < hN d 0 then hN d 0 else 0) < hN d 1 then hN d 1 else (if 0 < hN d 0 then hN d 0 else 0) := rfl
  have e0 : (if 0 < hN d 0 then hN d 0 else 0) = hN d 0 := by split <;> omega
  rw [e, e0]
  unfold bestN bestP
  rw [hN_numAt, hN_numAt]
  split <;> rfl
theorem best_at (d : Dk) (h : bestN d ≠ 0) : bL d 2 = headL d (d.told (bestP d : Int)) (bestP d) ∧ bB d 2 = headB d (d.told (bestP d : Int)) (bestP d) := by
  have e0 : bN d 1 = hN d 0 := by
    show (if 0 < hN d 0 then hN d 0 else 0) = hN d 0
    split <;> omega
  have e1 : bL d 2 = if bN d 1 < hN d 1 then headL d (d.told ((1 : Nat) : Int)) 1 else (if 0 < hN d 0 then headL d (d.told ((0 : Nat) : Int)) 0 else []) := rfl
  have e2 : bB d 2 = if bN d 1 < hN d 1 then headB d (d.told ((1 : Nat) : Int)) 1 else (if 0 < hN d 0 then headB d (d.told ((0 : Nat) : Int)) 0 else false) := rfl
  rw [e1, e2, e0]
  unfold bestN at h
  unfold bestP at h ⊢
  rw [hN_numAt, hN_numAt]
  by_cases hlt : numAt d 0 < numAt d 1
  · simp only [if_pos hlt]
    exact ⟨trivial, trivial⟩
  · simp only [if_neg hlt] at h ⊢
    rw [if_pos (Nat.pos_of_ne_zero h), if_pos (Nat.pos_of_ne_zero h)]
    exact ⟨rfl, rfl⟩
theorem best_right (d : Dk) (h : bestN d ≠ 0) : bL d 2 = bestC d ∧ bB d 2 = bestS d := by
  obtain ⟨e1, e2⟩ := best_at d h
  have hr : rightB d.own (d.told (bestP d : Int)) (bestP d) = true := by
    cases hr : rightB d.own (d.told (bestP d : Int)) (bestP d) with
    | true => rfl
    | false =>
      exfalso
      apply h
      unfold bestN numAt rightH
      rw [hr]
      rfl
  rw [e1, e2]
  unfold headL headB
  rw [if_pos hr, hr, Bool.true_and]
  exact ⟨rfl, rfl⟩

theorem CW.none_of (w : World) (H : Nat → Prop) (a : Option Addr) : CW w H (.slice a 0 0) [] := ⟨a, 0, rfl, Nat.le_refl _, by decide, fun k p h => by simp at h⟩

set_option maxHeartbeats 1000000 in
set_option maxRecDepth 100000 in
theorem ropenl_any {w : World} {H : Nat → Prop} {rb : Nat} {lv lw : Value} {d : Dk} (R : RD w H rb lv lw d) (hm : d.m + 300 < 1000000) (hL : d.L.length + 300 < 1000) :
    Calls Try.prog 21 #[.pointer (some ⟨rb, 0, none⟩)] w fun e w' => ∃ v, e = .returned (.tuple #[v, .int .i64 (openE d)]) ∧ LogIs w w' H rb (openN d) (bestN d) (openE d) v := by
  have cs := rsize_any R
  cases hf : d.fits with
  | false =>
    have hE : openE d = 190 := by unfold openE; rw [if_pos hf]
    have hN : openN d = d := by unfold openN; rw [if_pos (.inl hf)]
    rw [hE, hN]
    rw [hf] at cs
    go_enter Try.func21, Try.ntmps21
    go_wp2_with fail
    refine cs.mono ?_
    rintro e y ⟨rfl, hb⟩
    have R1 := hide ((R.on hb).mono (G := fun k => H k ∨ w.heap.size ≤ k) (fun k h _ => .inl h))
    replace hb := hide hb
    clear cs R
    go_wp2
    go_ret2
    exact ⟨_, rfl, ⟨_, _, R1.out⟩, Turn.of hb.out, fun h => (by cases h), fun _ => rfl⟩
  | true =>
    rw [hf] at cs
    have h42 : 42 ≤ d.S.length := by
      unfold Dk.fits at hf
      rw [Bool.and_eq_true] at hf
      simpa using hf.1
    have hrb := R.box.2.2
    go_enter Try.func21, Try.ntmps21
    go_wp2_with fail
    refine cs.mono ?_
    rintro e y0 ⟨rfl, hb⟩
    have hs0 := hb.size
    have B1 := Box.new y0 (cellsG rb 0 false) 54
    have g1 := onto hb (Nat.le_refl _) (grow y0 (.cells (cellsG rb 0 false) 54))
    have g2 := hide (onto g1 (Nat.le_refl _) (grow _ (.cells #[] 80)))
    have B2 := hide (B1.on (grow _ (.cells #[] 80)))
    replace hb := hide hb
    replace R := hide R
    clear cs B1 g1
    go_wp2_with fail
    go_loopw [5, 6, 7, 8] (fun b c r i y => ∃ k : Nat, k ≤ 2 ∧ i = .int .i64 (k : Int) ∧ Hid (b = .int .i64 (bN d k : Int)) ∧ Hid (CW y (fun k => k < w.heap.size) c (bL d k)) ∧ Hid (r = .bool (bB d k)) ∧ Hid (Below w.heap.size w y) ∧ Hid (Box y y0.heap.size (cellsG rb 0 false)) ∧ (d.dead = true → k = 0)) (fun _ _ _ i _ => 2 - (intOf i).toNat)
    case atStart => exact ⟨0, by omega, rfl, hide rfl, hide (CW.none_of _ _ _), hide rfl, g2, B2, fun _ => rfl⟩
    case round =>
      clear g2 B2
      obtain ⟨k, hk, rfl, hbn, hbl, hbr, g2, B2, hdk⟩ := hrel
      have hbn' := hbn.out
      have hbr' := hbr.out
      subst hbn'
      subst hbr'
      clear hbn hbr
      by_cases h : k < 2
      · by_cases hdd : d.dead = true
        · obtain rfl : k = 0 := hdk hdd
          clear hdk
          have cr := rread_any (R.out.on g2.out) 0
          have e1 : d.errAt 0 = 2 := by unfold Dk.errAt; rw [if_pos hdd]
          have hE : Hid (openE d = 2 ∧ openN d = d) := hide (by
            unfold openE openN
            rw [if_neg (by rw [hf]; decide), if_pos hdd, if_pos (.inr (.inl hdd))]
            exact ⟨rfl, rfl⟩)
          rw [e1] at cr
          replace hdd := hide hdd
          have R1 := hide ((R.out.on g2.out).mono (G := fun k => H k ∨ w.heap.size ≤ k) (fun k h _ => .inl h))
          clear e1
          go_wp2_with fail
          refine cr.mono ?_
          rintro e y ⟨rfl, hy⟩
          subst hy
          go_wp2
          go_ret2
          rw [hE.out.1, hE.out.2]
          exact ⟨_, rfl, ⟨_, _, R1.out⟩, Turn.of g2.out, fun h => (by cases h), fun _ => rfl⟩
        · clear hdk
          have cr := rread_any (R.out.on g2.out) (k : Int)
          have hde : d.errAt (k : Int) = 0 := by unfold Dk.errAt; rw [if_neg hdd, if_neg (by omega)]
          have hsz : (d.told (k : Int)).size = 64 := by
            unfold Dk.told
            rw [if_pos hde]
            refine readK_size ?_ (fun p hp => (R.out.g.l64 p hp).2) _ (Nat.le_refl _)
            rw [List.getD_eq_getElem?_getD]
            cases e : d.S[((k : Int)).toNat]? with
            | none => exact T0_size
            | some x => exact R.out.g.s64 x (List.mem_of_getElem? e)
          have cd := hide (rreadh_any B2.out (R.out.on g2.out) (d.told (k : Int)) hsz k h)
          have e1 : bN d (k + 1) = if bN d k < hN d k then hN d k else bN d k := rfl
          have e2 : bL d (k + 1) = if bN d k < hN d k then headL d (d.told (k : Int)) k else bL d k := rfl
          have e3 : bB d (k + 1) = if bN d k < hN d k then headB d (d.told (k : Int)) k else bB d k := rfl
          have e0 : hN d k = headN d (d.told (k : Int)) k := rfl
          rw [← e0] at cd
          rw [hde] at cr
          obtain ⟨T, hT⟩ : ∃ T, T = d.told (k : Int) := ⟨_, rfl⟩
          rw [← hT] at cr cd e2 e3
          obtain ⟨N1, hN1⟩ : ∃ n, n = hN d k := ⟨_, rfl⟩
          obtain ⟨B1, hB1⟩ : ∃ n, n = headB d T k := ⟨_, rfl⟩
          obtain ⟨L1, hL1⟩ : ∃ n, n = headL d T k := ⟨_, rfl⟩
          obtain ⟨N0, hN0⟩ : ∃ n, n = bN d k := ⟨_, rfl⟩
          obtain ⟨B0, hB0⟩ : ∃ n, n = bB d k := ⟨_, rfl⟩
          obtain ⟨L0, hL0⟩ : ∃ n, n = bL d k := ⟨_, rfl⟩
          rw [← hN1, ← hB1, ← hL1] at cd
          rw [← hN1, ← hN0] at e1 e2 e3
          rw [← hL1, ← hL0] at e2
          rw [← hB1, ← hB0] at e3
          rw [← hL0] at hbl
          rw [← hN0, ← hB0]
          replace hdd := hide hdd
          replace e1 := hide e1
          replace e2 := hide e2
          replace e3 := hide e3
          clear hT hN1 hB1 hL1 hN0 hB0 hL0 e0 hde hsz
          go_wp2_with fail
          refine cr.mono ?_
          rintro e y ⟨rfl, hy⟩
          subst hy
          go_wp2_with fail
          refine cd.out.mono ?_
          rintro e y ⟨v, rfl, hcv, hb3⟩
          have g3 := hide (onto g2.out (Nat.le_refl _) hb3)
          have hsw := g2.out.size
          have C1 := hide (hcv.less (G := fun k => k < w.heap.size) (fun k hk h => Nat.lt_of_lt_of_le h hsw))
          have C0 := hide (hbl.out.on hb3)
          have B3 := hide (B2.out.on hb3)
          clear hcv hb3 hbl cr cd B2 g2
          by_cases hlt : N0 < N1
          · rw [if_pos hlt] at e1 e2 e3
            go_wp2
            go_roundw
            case rel => exact ⟨k + 1, by omega, by go_num, hide (by rw [e1.out]), hide (by rw [e2.out]; exact C1.out), hide (by rw [e3.out]), g3, B3, fun h => absurd h hdd.out⟩
            case measure => simp [intOf]; omega
          · have hltd : decide (N0 < N1) = false := by simpa using hlt
            rw [if_neg hlt] at e1 e2 e3
            go_wp2
            go_roundw
            case rel => exact ⟨k + 1, by omega, by go_num, hide (by rw [e1.out]), hide (by rw [e2.out]; exact C0.out), hide (by rw [e3.out]), g3, B3, fun h => absurd h hdd.out⟩
            case measure => simp [intOf]; omega
      · obtain rfl : k = 2 := by omega
        have hdd : d.dead = false := by
          cases e : d.dead with
          | false => rfl
          | true => exact absurd (hdk e) (by decide)
        clear hdk
        have hbest := best_is d
        obtain ⟨N, hN⟩ : ∃ N, N = bestN d := ⟨_, rfl⟩
        rw [hbest, ← hN]
        by_cases hz : N = 0
        · have hE : Hid (openE d = 190 ∧ openN d = d) := hide (by
            unfold openE openN
            rw [if_neg (by rw [hf]; decide), if_neg (by rw [hdd]; decide), if_pos (by rw [← hN]; exact hz), if_pos (.inr (.inr (.inl (by rw [← hN]; exact hz))))]
            exact ⟨rfl, rfl⟩)
          have R1 := hide ((R.out.on g2.out).mono (G := fun k => H k ∨ w.heap.size ≤ k) (fun k h _ => .inl h))
          subst hz
          replace hN := hide hN
          clear hbest hdd
          go_wp2
          go_ret2
          rw [hE.out.1, hE.out.2]
          exact ⟨_, rfl, ⟨_, _, R1.out⟩, Turn.of g2.out, fun h => (by cases h), fun _ => rfl⟩
        · obtain ⟨eL, eB⟩ := best_right d (by rw [← hN]; exact hz)
          rw [eL] at hbl
          rw [eB]
          have hzd : (N == 0) = false := by simpa using hz
          cases hs : bestS d with
          | false =>
            have hE : Hid (openE d = 232 ∧ openN d = d) := hide (by
              unfold openE openN
              rw [if_neg (by rw [hf]; decide), if_neg (by rw [hdd]; decide), if_neg (by rw [← hN]; exact hz), if_pos hs, if_pos (.inr (.inr (.inr hs)))]
              exact ⟨rfl, rfl⟩)
            have R1 := hide ((R.out.on g2.out).mono (G := fun k => H k ∨ w.heap.size ≤ k) (fun k h _ => .inl h))
            replace hN := hide hN
            clear hbest hdd eL eB hs
            go_wp2
            go_ret2
            rw [hE.out.1, hE.out.2]
            exact ⟨_, rfl, ⟨_, _, R1.out⟩, Turn.of g2.out, fun h => (by cases h), fun _ => rfl⟩
          | true =>
            have hE : Hid (openE d = (if (runL (homeD (bestC d)) d).2 then 0 else 2) ∧ openN d = (runL (homeD (bestC d)) d).1) := hide (by
              refine ⟨?_, ?_⟩
              · unfold openE
                rw [if_neg (by rw [hf]; decide), if_neg (by rw [hdd]; decide), if_neg (by rw [← hN]; exact hz), if_neg (by rw [hs]; decide)]
              · unfold openN
                rw [if_neg (by rw [hf, hdd, hs, ← hN]; rintro (h | h | h | h) <;> first | exact hz h | cases h)])
            have hcl : (bestC d).length < 256 := by
              unfold bestC cellsH
              rw [List.length_map, List.length_range]
              exact byteAt_lt _ 6
            have hck : ∀ p ∈ bestC d, 0 ≤ p.1 ∧ p.1 < 65536 := fun p hp => (cellsD_ok R.out.g (d.told (bestP d : Int)) (bestP d) p hp).1
            have R1 := ((R.out.mono (G := fun k => H k ∧ k < w.heap.size) (fun k h hl => ⟨h, hl⟩)).on g2.out)
            have cm := rhome_any B2.out (by omega) R1 (hbl.out.less (G := fun k => k = rb) (fun k hk h => by subst h; exact hrb)) (by omega) (by omega) hck
            obtain ⟨bb, hbb⟩ : ∃ b, b = (runL (homeD (bestC d)) d).2 := ⟨_, rfl⟩
            obtain ⟨d', hd'⟩ : ∃ b, b = (runL (homeD (bestC d)) d).1 := ⟨_, rfl⟩
            rw [← hbb, ← hd'] at cm hE
            have hs2 := g2.out.size
            have hlb := B2.out.2.2
            replace hN := hide hN
            clear hbest hdd eL eB hs hcl hck R1 hbb hd'
            go_wp2_with fail
            refine cm.mono ?_
            rintro e y ⟨rfl, lv2, lw2, R2, T2⟩
            have T3 := hide ((Turn.of (F := fun k => k = rb) g2.out).trans T2 (fun b h => .inl h))
            have B3 : Box y y0.heap.size (cellsG rb 0 false) := B2.out.of_heap (T2.block _ hlb (by omega))
            have hs3 := T3.out.size
            clear cm
            cases bb with
            | false =>
              have R3 := hide (R2.mono (G := fun k => H k ∨ w.heap.size ≤ k) (fun k h _ => by
                rcases h with h | h
                · exact .inl h.1
                · right; omega))
              have hE' : Hid (openE d = 2 ∧ openN d = d') := hide hE.out
              clear B3 T2 R2
              go_wp2
              go_ret2
              rw [hE'.out.1, hE'.out.2]
              exact ⟨_, rfl, ⟨_, _, R3.out⟩, T3.out, fun h => (by cases h), fun _ => rfl⟩
            | true =>
              have hE' : Hid (openE d = 0 ∧ openN d = d') := hide hE.out
              have f1 : y.frozen? ⟨y0.heap.size, 1, none⟩ = false := B3.free 1
              have c1 : y.cell? ⟨y0.heap.size, 1, none⟩ = some (.int .i64 0) := B3.cell 1
              have B4 := hide (B3.set 1 (.int .i64 (N : Int)))
              have R4 := hide ((R2.keep (y := y.setCell ⟨y0.heap.size, 1, none⟩ (.int .i64 (N : Int))) (fun k h hl => Below.heap_setCell _ _ _ k (by
                rcases h with h | h
                · have := h.2; show k ≠ y0.heap.size; omega
                · show k ≠ y0.heap.size; omega))).mono (G := fun k => H k ∨ w.heap.size ≤ k) (fun k h _ => by
                rcases h with h | h
                · exact .inl h.1
                · right; omega))
              have T4 := hide (T3.out.trans (turn_set y y0.heap.size 1 (.int .i64 (N : Int))) (fun b h => by
                right
                rw [h]
                exact hs0))
              clear B3 T2 R2
              go_wp2
              go_ret2
              rw [hE'.out.1, hE'.out.2, ← hN.out]
              exact ⟨_, rfl, ⟨_, _, R4.out⟩, T4.out, fun _ => ⟨_, rfl, hs0, B4.out⟩, fun h => absurd rfl h⟩

end Go.Proofs.Ytgffhnggocbjhaa
