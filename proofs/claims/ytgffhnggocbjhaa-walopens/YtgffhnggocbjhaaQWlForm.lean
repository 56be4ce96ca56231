/- Layer 19: the document's log: Format. -/
import Derived.Test.YtgffhnggocbjhaaQWlRead
namespace Go.Proofs.Ytgffhnggocbjhaa
open Go.RowKit
set_option linter.unusedVariables false
set_option maxRecDepth 100000
set_option linter.unusedSimpArgs false

set_option maxHeartbeats 4000000 in
set_option maxRecDepth 100000 in
theorem rsize_any {w : World} {H : Nat → Prop} {rb : Nat} {lv lw : Value} {d : Dk} (R : RD w H rb lv lw d) :
    Calls Try.prog 65 #[.pointer (some ⟨rb, 0, none⟩)] w fun e w' => e = .returned (.bool d.fits) ∧ Below w.heap.size w w' := by
  obtain ⟨a2, c2, rfl, hc2, hm2, -⟩ := R.s.open'
  have r0 : w.cell? ⟨rb, 0, none⟩ = some (.slice a2 d.S.length c2) := R.box.cell 0
  obtain ⟨m, hm⟩ : ∃ m, m = d.S.length := ⟨_, rfl⟩
  unfold Dk.fits
  rw [← hm] at r0 ⊢
  clear R hm
  by_cases h : 42 ≤ m
  · have h1 : decide (42 ≤ m) = true := by simpa using h
    have e1 : Ending.returned (.bool (true && decide (m ≤ 4034))) = .returned (.bool (decide ((m : Int) ≤ 4034))) := by rw [Bool.true_and, decide_eq_decide.2 (show m ≤ 4034 ↔ (m : Int) ≤ 4034 by omega)]
    rw [h1, e1]
    clear e1
    go_enter Try.func65, Try.ntmps65
    go_wp2_with fail
    first
      | (go_quiet (fail)
         go_wp2_with fail
         go_ret
         exact ⟨rfl, below_drewN (Below.refl _ _) _⟩)
      | (go_ret
         exact ⟨rfl, Below.refl _ _⟩)
  · have h1 : decide (42 ≤ m) = false := by simpa using h
    rw [h1]
    go_enter Try.func65, Try.ntmps65
    go_wp2_with fail
    first
      | (go_quiet (fail)
         go_wp2_with fail
         go_ret
         exact ⟨rfl, below_drewN (Below.refl _ _) _⟩)
      | (go_ret
         exact ⟨rfl, Below.refl _ _⟩)

/-- A log's own box, where it lies apart from the disk. -/
def IsLog (base : Nat) (w : World) (rb : Nat) (n : Nat) (dead : Bool) (v : Value) : Prop := ∃ lb, v = .pointer (some ⟨lb, 0, none⟩) ∧ base ≤ lb ∧ Box w lb (cellsG rb n dead)

/-- What a Format or an Open leaves: the disk; a log, or none. -/
structure LogIs (w w' : World) (H : Nat → Prop) (rb : Nat) (d : Dk) (n : Nat) (er : Int) (v : Value) : Prop where
  disk : ∃ lv lw, RD w' (fun k => H k ∨ w.heap.size ≤ k) rb lv lw d
  turn : Turn (fun k => k = rb) w w'
  log : er = 0 → IsLog w.heap.size w' rb n false v
  none : er ≠ 0 → v = .pointer none

set_option maxHeartbeats 4000000 in
set_option maxRecDepth 100000 in
theorem rformat_any {w : World} {H : Nat → Prop} {rb : Nat} {lv lw : Value} {d : Dk} (R : RD w H rb lv lw d) (hm : d.m + 3 < 1000000) (hL : d.L.length + 3 < 1000) :
    Calls Try.prog 38 #[.pointer (some ⟨rb, 0, none⟩)] w fun e w' => ∃ v, e = .returned (.tuple #[v, .int .i64 (formE d)]) ∧ LogIs w w' H rb (formN d) 1 (formE d) v := by
  have cs := rsize_any R
  cases hf : d.fits with
  | false =>
    have hE : formE d = 190 := by unfold formE; rw [if_pos hf]
    have hN : formN d = d := by unfold formN; rw [if_pos hf]
    rw [hE, hN]
    rw [hf] at cs
    go_enter Try.func38, Try.ntmps38
    go_wp2_with fail
    refine cs.mono ?_
    rintro e y ⟨rfl, hb⟩
    have R1 := hide ((R.on hb).mono (G := fun k => H k ∨ w.heap.size ≤ k) (fun k h _ => .inl h))
    replace hb := hide hb
    clear cs R
    go_wp2
    go_ret2
    exact ⟨_, rfl, ⟨_, _, R1.out⟩, Turn.of hb.out, fun h => (by cases h), fun _ => rfl⟩
  | true =>
    have hE : formE d = if (runL formD d).2 then 0 else 2 := by unfold formE; rw [if_neg (by rw [hf]; decide)]
    have hN : formN d = (runL formD d).1 := by unfold formN; rw [if_neg (by rw [hf]; decide)]
    rw [hf] at cs
    have h0 : runL (formD.take 0) d = (d, true) := rfl
    have h1 : runL (formD.take 1) d = (d.wrote 0 T0, decide (d.errW 0 T0 = 0)) := runL_next (l := formD) (x := .w 0 T0) rfl h0
    have h2 : ∀ e, runL (formD.take 1) d = (e, true) → runL (formD.take 2) d = (e.wrote 1 (headC 1 []), decide (e.errW 1 (headC 1 []) = 0)) := fun e h => runL_next (l := formD) (x := .w 1 (headC 1 [])) rfl h
    have h3 : ∀ e, runL (formD.take 2) d = (e, true) → runL formD d = (e.flush, decide (e.errF = 0)) := fun e h => runL_next (l := formD) (x := .f) rfl h
    have hbad : Hid (∀ k e, runL (formD.take k) d = (e, false) → formE d = 2 ∧ formN d = e) := hide (fun k e h => by rw [hE, hN, runL_stop h]; exact ⟨rfl, rfl⟩)
    have n1 := near_do R.g (.w 0 T0)
    have ng1 : (d.wrote 0 T0).Good := R.g.wrote _ _
    have n2 := near_do ng1 (.w 1 (headC 1 []))
    replace n1 : Near d (d.wrote 0 T0) 1 := n1
    replace n2 : Near (d.wrote 0 T0) ((d.wrote 0 T0).wrote 1 (headC 1 [])) 1 := n2
    clear ng1
    obtain ⟨Z, hZ⟩ : ∃ Z, Z = headC 1 [] := ⟨_, rfl⟩
    rw [← hZ] at h2 n2
    go_enter Try.func38, Try.ntmps38
    go_wp2_with fail
    refine cs.mono ?_
    rintro e y0 ⟨rfl, hb⟩
    have R0 := (R.on hb).mono (G := fun k => H k ∨ w.heap.size ≤ k) (fun k h _ => .inl h)
    have g0 := grow y0 (.cells (madeCells #[.int .u8 0] 64) 5)
    have hT := T0_conv y0
    have mk : (Instr.makeSlice 57 (.int .i64 64) (.int .i64 64)).run Try.prog y0 = .ok (.slice (some ⟨y0.heap.size, 0, none⟩) 64 64) (y0.alloc (.cells (madeCells #[.int .u8 0] 64) 5)) := make_row y0 64 (by decide)
    have c1 := rwrite_any (R0.on g0) (by omega) (by omega) 0 T0
    have hsz := hb.size
    have T0' := (Turn.of (F := fun k => k = rb) hb).trans (Turn.of (F := fun k => k = rb) g0) (fun b h => .inl h)
    have hsz0 := T0'.size
    obtain ⟨E1, hE1⟩ : ∃ E, E = d.errW 0 T0 := ⟨_, rfl⟩
    obtain ⟨d1, hd1⟩ : ∃ e, e = d.wrote 0 T0 := ⟨_, rfl⟩
    rw [← hE1, ← hd1] at h1 c1
    rw [← hd1] at n1 n2
    clear hE1 hd1
    replace hb := hide hb
    replace R0 := hide R0
    replace h1 := hide h1
    replace h2 := hide h2
    replace h3 := hide h3
    replace hE := hide hE
    replace hN := hide hN
    replace hZ := hide hZ
    replace T0' := hide T0'
    clear cs R g0
    go_wp2_with fail
    refine c1.mono ?_
    rintro e y1 ⟨rfl, lv1, lw1, R1, T1⟩
    replace R1 := R1.mono (G := fun k => H k ∨ w.heap.size ≤ k) (fun j h _ => by
      rcases h with h | h
      · exact h
      · right; omega)
    replace T1 := T0'.out.trans T1 (fun b h => .inl h)
    clear c1 hT mk R0 hb T0'
    by_cases z1 : E1 = 0
    · subst z1
      have ch : Calls Try.prog 52 #[.int .i64 1, .slice none 0 0] y1 fun e w' => e = .returned (.string Z) ∧ Below y1.heap.size y1 w' := by
        rw [hZ.out]
        exact rhead_any 1 (by decide) (CW.nil y1 (fun _ => False)) (by decide) (fun p hp => (by cases hp)) (fun p hp => (by cases hp))
      replace R1 := hide R1
      replace T1 := hide T1
      go_wp2_with fail
      refine ch.mono ?_
      rintro e y2 ⟨rfl, hb2⟩
      have c2 := rwrite_any (R1.out.on hb2) (by have := n1.1; omega) (by have := n1.2.1; omega) 1 Z
      have T2 := T1.out.trans (Turn.of (F := fun k => k = rb) hb2) (fun b h => .inl h)
      have hsz2 := T2.size
      have h2' := hide (h2.out d1 h1.out)
      obtain ⟨E2, hE2⟩ : ∃ E, E = d1.errW 1 Z := ⟨_, rfl⟩
      obtain ⟨d2, hd2⟩ : ∃ e, e = d1.wrote 1 Z := ⟨_, rfl⟩
      rw [← hE2, ← hd2] at h2' c2
      rw [← hd2] at n2
      clear hE2 hd2 ch R1 T1
      replace T2 := hide T2
      replace hb2 := hide hb2
      go_wp2_with fail
      refine c2.mono ?_
      rintro e y3 ⟨rfl, lv3, lw3, R3, T3⟩
      replace R3 := R3.mono (G := fun k => H k ∨ w.heap.size ≤ k) (fun j h _ => by
        rcases h with h | h
        · exact h
        · right; omega)
      replace T3 := T2.out.trans T3 (fun b h => .inl h)
      clear c2 T2 hb2
      by_cases z2 : E2 = 0
      · subst z2
        have cf := rflush_any R3 (by have := n1.1; have := n2.1; omega)
        have h3' := hide (h3.out d2 h2'.out)
        obtain ⟨E3, hE3⟩ : ∃ E, E = d2.errF := ⟨_, rfl⟩
        rw [← hE3] at cf
        have h3'' : Hid (runL formD d = (d2.flush, decide (E3 = 0))) := hide (by rw [hE3]; exact h3'.out)
        have hsz3 := T3.size
        replace T3 := hide T3
        replace hE3 := hide hE3
        clear R3 h3' h2' h3 h2
        go_wp2_with fail
        refine cf.mono ?_
        rintro e y4 ⟨rfl, lv4, lw4, R4, T4⟩
        have R5 := hide (R4.mono (G := fun k => H k ∨ w.heap.size ≤ k) (fun j h _ => by
          rcases h with h | h
          · exact h
          · right; omega))
        have T5 := hide (T3.out.trans T4 (fun b h => .inl h))
        clear cf R4 T4 T3
        by_cases z3 : E3 = 0
        · subst z3
          have hfe : Hid (formE d = 0 ∧ formN d = d2.flush) := hide (by rw [hE.out, hN.out, h3''.out]; exact ⟨rfl, rfl⟩)
          have hBn := hide (Box.new y4 (cellsG rb 1 false) 54)
          have g4 := hide (grow y4 (.cells (cellsG rb 1 false) 54))
          have hs5 := hide T5.out.size
          go_wp2
          go_ret2
          rw [hfe.out.1, hfe.out.2]
          exact ⟨_, rfl, ⟨_, _, R5.out.on g4.out⟩, T5.out.trans (Turn.of g4.out) (fun b h => .inl h), fun _ => ⟨_, rfl, hs5.out, hBn.out⟩, fun h => absurd rfl h⟩
        · have z3d : (E3 == 0) = false := by simpa using z3
          have hfe := hide (hbad.out 3 d2.flush (by show runL formD d = _; rw [h3''.out, decide_eq_false z3]))
          go_wp2
          go_ret2
          rw [hfe.out.1, hfe.out.2]
          exact ⟨_, rfl, ⟨_, _, R5.out⟩, T5.out, fun h => (by cases h), fun _ => rfl⟩
      · have z2d : (E2 == 0) = false := by simpa using z2
        have hfe := hide (hbad.out 2 d2 (by rw [h2'.out, decide_eq_false z2]))
        replace R3 := hide R3
        replace T3 := hide T3
        go_wp2
        go_ret2
        rw [hfe.out.1, hfe.out.2]
        exact ⟨_, rfl, ⟨_, _, R3.out⟩, T3.out, fun h => (by cases h), fun _ => rfl⟩
    · have z1d : (E1 == 0) = false := by simpa using z1
      have hfe := hide (hbad.out 1 d1 (by rw [h1.out, decide_eq_false z1]))
      replace R1 := hide R1
      replace T1 := hide T1
      go_wp2
      go_ret2
      rw [hfe.out.1, hfe.out.2]
      exact ⟨_, rfl, ⟨_, _, R1.out⟩, T1.out, fun h => (by cases h), fun _ => rfl⟩

end Go.Proofs.Ytgffhnggocbjhaa
