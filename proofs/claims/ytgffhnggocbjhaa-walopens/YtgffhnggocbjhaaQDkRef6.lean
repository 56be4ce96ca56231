/- Layer 18: the document's disk: the power is there again; a write; a flush. -/
import Derived.Test.YtgffhnggocbjhaaQDkRef5
namespace Go.Proofs.Ytgffhnggocbjhaa
open Go.RowKit
set_option linter.unusedVariables false
set_option maxRecDepth 100000
set_option linter.unusedSimpArgs false

set_option maxHeartbeats 4000000 in
set_option maxRecDepth 100000 in
theorem rrevive_any {w : World} {H : Nat → Prop} {rb : Nat} {lv lw : Value} {d : Dk} (R : RD w H rb lv lw d) :
    Calls Try.prog 19 #[.pointer (some ⟨rb, 0, none⟩)] w fun e w' => e = .returned (.tuple #[]) ∧ RD w' H rb lv lw d.revived ∧ Turn (fun k => k = rb) w w' := by
  have B2 := (R.box.set 6 (.bool false)).set 2 (.int .i64 0)
  have hfar : ∀ j, j ≠ rb → ((w.setCell ⟨rb, 6, none⟩ (.bool false)).setCell ⟨rb, 2, none⟩ (.int .i64 0)).heap[j]? = w.heap[j]? := fun j hj => by rw [Below.heap_setCell _ _ _ j hj, Below.heap_setCell _ _ _ j hj]
  have R2 := hide (R.turn (d' := d.revived) (by
    have e : ((cellsR lv lw d).setIfInBounds 6 (.bool false)).setIfInBounds 2 (.int .i64 0) = cellsR lv lw d.revived := by simp [cellsR, Dk.revived]
    rw [← e]; exact B2) rfl rfl (fun j hj _ => hfar j hj) R.g.revived R.m6)
  have T2 : Hid (Turn (fun k => k = rb) w ((w.setCell ⟨rb, 6, none⟩ (.bool false)).setCell ⟨rb, 2, none⟩ (.int .i64 0))) := hide ⟨rfl, rfl, rfl, by simp [World.setCell], fun j hj hn => hfar j hn⟩
  have f2 : w.frozen? ⟨rb, 2, none⟩ = false := R.box.free 2
  have f6 : w.frozen? ⟨rb, 6, none⟩ = false := R.box.free 6
  have c2 : w.cell? ⟨rb, 2, none⟩ = some (.int .i64 (d.a : Int)) := R.box.cell 2
  have c6 : w.cell? ⟨rb, 6, none⟩ = some (.bool d.dead) := R.box.cell 6
  clear R B2 hfar
  go_enter Try.func19, Try.ntmps19
  go_wp2
  go_end0
  exact ⟨rfl, R2.out, T2.out⟩

set_option maxHeartbeats 8000000 in
set_option maxRecDepth 100000 in
theorem rwrite_any {w : World} {H : Nat → Prop} {rb : Nat} {lv lw : Value} {d : Dk} (R : RD w H rb lv lw d) (hm : d.m < 1000000) (hL : d.L.length < 1000) (n : Int) (s : ByteArray) :
    Calls Try.prog 50 #[.pointer (some ⟨rb, 0, none⟩), .int .i64 n, .string s] w fun e w' => e = .returned (.int .i64 (d.errW n s)) ∧
      ∃ lv' lw', RD w' (fun k => H k ∨ w.heap.size ≤ k) rb lv' lw' (d.wrote n s) ∧ Turn (fun k => k = rb) w w' := by
  have cr := rread_any R n
  by_cases he : d.errAt n = 0
  · have hE : d.told n = d.told n := rfl
    by_cases hs : s.size = 64
    · obtain ⟨i, hi, hz, hsz, hb⟩ := infoL
      obtain ⟨hdd, hn0, hn1⟩ : d.dead = false ∧ 0 ≤ n ∧ n < (d.S.length : Int) := by
        unfold Dk.errAt at he
        split at he
        · cases he
        · next h =>
          split at he
          · cases he
          · next h' => exact ⟨by simpa using h, by omega, by omega⟩
      obtain ⟨k, rfl⟩ : ∃ k : Nat, n = (k : Int) := ⟨n.toNat, by omega⟩
      have hw : d.wrote (k : Int) s = Dk.stepped { d with L := d.L ++ [(k, s)] } := by
        unfold Dk.wrote
        rw [if_neg (by simp [he, hs]), Int.toNat_natCast]
      have hW : d.errW (k : Int) s = if d.a = 1 then 2 else 0 := by
        unfold Dk.errW
        rw [if_neg (by simp [he]), if_neg (by simp [hs])]
      rw [hw, hW]
      rw [he] at cr
      have hlr := R.l.1
      obtain ⟨a2, c2, hlw, hc2⟩ := R.l.shape
      obtain ⟨l, hl⟩ : ∃ l, l = d.L.length := ⟨_, rfl⟩
      rw [← hl] at hlr hL hc2 hlw
      have O0 := World.ownsRow_made w (base := w.heap.size) (e := 80) (size := 2) #[] 0 (Nat.le_refl _) (Nat.zero_le _) rfl
      have g0 := grow w (.cells #[] 80)
      obtain ⟨w1, hw1⟩ : ∃ w1, w1 = w.alloc (.cells #[] 80) := ⟨_, rfl⟩
      rw [← hw1] at O0 g0
      have hlr1 : w1.ownsRow 0 80 2 lw l (looses d.L) := by rw [hw1]; exact hlr.alloc _
      obtain ⟨v2, w2, hap1, O2, G2, -⟩ := run_append_row (P := Try.prog) (w := w1) w.heap.size 36 36 80 i _ 2 24 Try.underlying36 hi hz hsz hb rfl (by decide) _ 0 [] O0 _ l _ hlr1 (looses_one _) (by unfold maxLen; omega) (by omega) g0.size
      rw [Nat.zero_add, List.nil_append] at O2
      have hB2 := g0.grown G2 g0.size (fun j hj => (O0.lt j hj).1)
      obtain ⟨a3, c3, rfl, -⟩ := (Row.of_own O2).shape
      have g3 := grow w2 (.cells #[.int .i64 (k : Int), .string s] 80)
      have BL := Box.new w2 #[.int .i64 (k : Int), .string s] 80
      have O3 := O2.alloc (.cells #[.int .i64 (k : Int), .string s] 80)
      obtain ⟨w3, hw3⟩ : ∃ w3, w3 = w2.alloc (.cells #[.int .i64 (k : Int), .string s] 80) := ⟨_, rfl⟩
      rw [← hw3] at g3 BL O3
      have hB3 := onto hB2 (Nat.le_refl _) g3
      obtain ⟨v4, w4, hap2, O4, G4, -, -⟩ := run_append_own_at (P := Try.prog) w3 w.heap.size 36 36 80 i _ 2 24 Try.underlying36 hi hz hsz hb rfl (by decide) _ l _ O3 ⟨w2.heap.size, 0, none⟩ 1 1 [.int .i64 (k : Int), .string s] rfl (fun j u hj => by rw [Addr.add_lit, Nat.zero_add, BL.cell]; simpa using hj) (by simp [Value.oneCell']) (by unfold maxLen; omega) (by omega) hB3.size
      have hB4 := hB3.grown G4 hB3.size (fun j hj => (O3.lt j hj).1)
      obtain ⟨a4, c4, rfl, -⟩ := (Row.of_own O4).shape
      have eL : looses d.L ++ [.int .i64 (k : Int), .string s] = looses (d.L ++ [(k, s)]) := by rw [looses_app]; rfl
      rw [eL] at O4
      have B4 := R.box.on hB4
      have q1 : w4.cell? ⟨rb, 1, none⟩ = some lw := B4.cell 1
      have f1 : w4.frozen? ⟨rb, 1, none⟩ = false := B4.free 1
      have hrb := R.box.2.2
      have B5 := B4.set 1 (.slice a4 (l + 1) c4)
      have O5 := ownsRow_setCell_below O4 (a := ⟨rb, 1, none⟩) hrb (.slice a4 (l + 1) c4)
      have hfar : ∀ j, j ≠ rb → j < w.heap.size → (w4.setCell ⟨rb, 1, none⟩ (.slice a4 (l + 1) c4)).heap[j]? = w.heap[j]? := fun j hj hl => (Below.heap_setCell _ _ _ j hj).trans (hB4.block j hl)
      have R5 : RD (w4.setCell ⟨rb, 1, none⟩ (.slice a4 (l + 1) c4)) (fun k => H k ∨ w.heap.size ≤ k) rb lv (.slice a4 (l + 1) c4) { d with L := d.L ++ [(k, s)] } := by
        refine ⟨B5, (R.s.keep fun j h hl => hfar j h.2 hl).mono fun j h _ => ⟨.inl h.1, h.2⟩, ?_, .inl R.h, R.g.loose (by omega) hs, by simp; omega, R.m6⟩
        rw [show ({ d with L := d.L ++ [(k, s)] } : Dk).L.length = l + 1 by simp [hl]]
        exact (Row.of_own O5).mono fun j h _ => ⟨.inr h, by omega⟩
      have T5 : Turn (fun k => k = rb) w (w4.setCell ⟨rb, 1, none⟩ (.slice a4 (l + 1) c4)) := ⟨hB4.os, hB4.tape, hB4.output, Nat.le_trans hB4.size (by simp [World.setCell]), fun j hj hn => hfar j hn hj⟩
      have cs := rstep_any R5 hdd hm
      have b1 : w.cell? ⟨rb, 1, none⟩ = some (.slice a2 l c2) := by rw [← hlw]; exact R.box.cell 1
      obtain ⟨T, hT⟩ : ∃ T, T = d.told (k : Int) := ⟨_, rfl⟩
      rw [← hT] at cr
      have hsz5 : w.heap.size ≤ (w4.setCell ⟨rb, 1, none⟩ (.slice a4 (l + 1) c4)).heap.size := T5.size
      rw [hlw] at hap1 q1
      replace T5 := hide T5
      have hda : ({ d with L := d.L ++ [(k, s)] } : Dk).a = d.a := rfl
      rw [hda] at cs
      obtain ⟨A, hA⟩ : ∃ A, A = d.a := ⟨_, rfl⟩
      rw [← hA] at cs ⊢
      replace hsz5 := hide hsz5
      clear R hE he hw hW hlr hc2 hlw hlr1 O0 g0 G2 O2 hB2 g3 BL O3 hB3 O4 G4 hB4 eL B4 B5 O5 hfar R5 hda hA hT hl hdd hn0 hn1
      subst hw1
      subst hw3
      by_cases e1 : A = 1
      · have hd1 : decide (A = 1) = true := by simpa using e1
        rw [hd1] at cs
        rw [if_pos e1]
        clear hd1 e1
        go_enter Try.func50, Try.ntmps50
        go_wp2_with fail
        refine cr.mono ?_
        rintro e wx ⟨rfl, hwx⟩
        subst hwx
        go_wp2_with (at_builtin; first | refine wpList_append_told rfl _ _ 36 36 rfl _ _ _ rfl rfl hap1 ?_ | refine wpList_append_told rfl _ _ 36 36 rfl _ _ _ rfl rfl hap2 ?_)
        refine cs.mono ?_
        rintro e w6 ⟨rfl, lv2, lw2, R6, T6⟩
        have fin := hide (And.intro (R6.mono (G := fun k => H k ∨ wx.heap.size ≤ k) (fun j h _ => by
          rcases h with h | h
          · exact h
          · have := hsz5.out; right; omega)) (T5.out.trans T6 (fun b h => .inl h)))
        clear R6 T6 cs hap1 hap2 T5 hsz5
        go_wp2
        go_ret
        exact ⟨rfl, lv2, lw2, fin.out.1, fin.out.2⟩
      · have hd1 : decide (A = 1) = false := by simpa using e1
        rw [hd1] at cs
        rw [if_neg e1]
        clear hd1 e1
        go_enter Try.func50, Try.ntmps50
        go_wp2_with fail
        refine cr.mono ?_
        rintro e wx ⟨rfl, hwx⟩
        subst hwx
        go_wp2_with (at_builtin; first | refine wpList_append_told rfl _ _ 36 36 rfl _ _ _ rfl rfl hap1 ?_ | refine wpList_append_told rfl _ _ 36 36 rfl _ _ _ rfl rfl hap2 ?_)
        refine cs.mono ?_
        rintro e w6 ⟨rfl, lv2, lw2, R6, T6⟩
        have fin := hide (And.intro (R6.mono (G := fun k => H k ∨ wx.heap.size ≤ k) (fun j h _ => by
          rcases h with h | h
          · exact h
          · have := hsz5.out; right; omega)) (T5.out.trans T6 (fun b h => .inl h)))
        clear R6 T6 cs hap1 hap2 T5 hsz5
        go_wp2
        go_ret
        exact ⟨rfl, lv2, lw2, fin.out.1, fin.out.2⟩
    · have h1 : d.errW n s = 1 := by unfold Dk.errW; rw [if_neg (by simp [he]), if_pos hs]
      have h2 : d.wrote n s = d := by unfold Dk.wrote; rw [if_pos (.inr hs)]
      rw [h1, h2]
      rw [he] at cr
      obtain ⟨T, hT⟩ : ∃ T, T = d.told n := ⟨_, rfl⟩
      rw [← hT] at cr
      replace R := hide (R.mono (G := fun k => H k ∨ w.heap.size ≤ k) (fun k h _ => .inl h))
      have hs' : ¬ (s.size : Int) = 64 := by omega
      clear h1 h2 hT hE he
      go_enter Try.func50, Try.ntmps50
      go_wp2_with fail
      refine cr.mono ?_
      rintro e w2 ⟨rfl, rfl⟩
      go_wp2
      go_ret
      exact ⟨rfl, _, _, R.out, Turn.refl _ _⟩
  · have h1 : d.errW n s = d.errAt n := by unfold Dk.errW; rw [if_pos he]
    have h2 : d.wrote n s = d := by unfold Dk.wrote; rw [if_pos (.inl he)]
    rw [h1, h2]
    obtain ⟨E, hE⟩ : ∃ E, E = d.errAt n := ⟨_, rfl⟩
    rw [← hE] at cr he ⊢
    obtain ⟨T, hT⟩ : ∃ T, T = d.told n := ⟨_, rfl⟩
    rw [← hT] at cr
    replace R := hide (R.mono (G := fun k => H k ∨ w.heap.size ≤ k) (fun k h _ => .inl h))
    clear h1 h2 hE hT
    go_enter Try.func50, Try.ntmps50
    go_wp2_with fail
    refine cr.mono ?_
    rintro e w2 ⟨rfl, rfl⟩
    go_wp2
    go_ret
    exact ⟨rfl, _, _, R.out, Turn.refl _ _⟩

theorem flushK_at {L : List (Nat × ByteArray)} {S : List ByteArray} {k : Nat} {p : Nat × ByteArray} (h : L[k]? = some p) : flushK L S (k + 1) = (flushK L S k).set p.1 p.2 := by
  rw [flushK, getD_some h]

/-- The loop's state: the first k loose writes are sure. -/
def Dk.midF (d : Dk) (k : Nat) : Dk := { d with S := flushK d.L d.S k }

set_option maxHeartbeats 8000000 in
set_option maxRecDepth 100000 in
theorem rflush_any {w : World} {H : Nat → Prop} {rb : Nat} {lv lw : Value} {d : Dk} (R : RD w H rb lv lw d) (hm : d.m < 1000000) :
    Calls Try.prog 51 #[.pointer (some ⟨rb, 0, none⟩)] w fun e w' => e = .returned (.int .i64 d.errF) ∧
      ∃ lv' lw', RD w' (fun k => H k ∨ w.heap.size ≤ k) rb lv' lw' d.flush ∧ Turn (fun k => k = rb) w w' := by
  have b6 : w.cell? ⟨rb, 6, none⟩ = some (.bool d.dead) := R.box.cell 6
  cases hd : d.dead with
  | true =>
    have h1 : d.errF = 2 := by simp [Dk.errF, hd]
    have h2 : d.flush = d := by simp [Dk.flush, hd]
    rw [h1, h2]
    rw [hd] at b6
    replace R := hide (R.mono (G := fun k => H k ∨ w.heap.size ≤ k) (fun k h _ => .inl h))
    clear h1 h2 hd
    go_enter Try.func51, Try.ntmps51
    go_wp2
    go_ret
    exact ⟨rfl, _, _, R.out, Turn.refl _ _⟩
  | false =>
    rw [hd] at b6
    have cs := rstep_any R hd hm
    by_cases ha : d.a = 1
    · have h1 : d.errF = 2 := by simp [Dk.errF, ha]
      have h2 : d.flush = d.stepped := by simp [Dk.flush, hd, ha]
      rw [h1, h2]
      rw [show decide (d.a = 1) = true by simpa using ha] at cs
      clear h1 h2 hd ha R
      go_enter Try.func51, Try.ntmps51
      go_wp2_with fail
      refine cs.mono ?_
      rintro e w2 ⟨rfl, lv2, lw2, R2, T2⟩
      replace R2 := hide R2
      replace T2 := hide T2
      clear cs
      go_wp2
      go_ret
      exact ⟨rfl, _, _, R2.out, T2.out⟩
    · have h1 : d.errF = 0 := by simp [Dk.errF, hd, ha]
      have h2 : d.flush = d.stepped.flushed := by simp [Dk.flush, hd, ha]
      rw [h1, h2]
      rw [show decide (d.a = 1) = false by simpa using ha] at cs
      have hrbw := R.box.2.2
      have hdd : d.stepped.dead = false := by unfold Dk.stepped; rw [if_neg ha]; exact hd
      obtain ⟨t, ht⟩ : ∃ t, t = d.stepped := ⟨_, rfl⟩
      rw [← ht] at cs hdd ⊢
      clear h1 h2 hd ha R ht
      go_enter Try.func51, Try.ntmps51
      go_wp2_with fail
      refine cs.mono ?_
      rintro e w1 ⟨rfl, lv2, lw2, R1, T1⟩
      obtain ⟨l, hll⟩ : ∃ l, l = t.L.length := ⟨_, rfl⟩
      have l6 := R1.l6
      rw [← hll] at l6
      have hlg := hide R1.g.l64
      have hs64 := hide R1.g.s64
      replace hll := hide hll
      have R0 : Hid (RD w1 (fun k => H k ∨ w.heap.size ≤ k) rb lv2 lw2 (t.midF 0)) := hide R1
      replace T1 := hide T1
      have hsz1 := hide T1.out.size
      clear R1 cs
      go_wp2_with fail
      go_loopw [3] (fun i wr => ∃ (k : Nat) (lv' lw' : Value), k ≤ l ∧ i = .int .i64 (k : Int) ∧ Hid (RD wr (fun j => H j ∨ w.heap.size ≤ j) rb lv' lw' (t.midF k)) ∧ Hid (Turn (fun j => j = rb) w1 wr)) (fun i _ => l - (intOf i).toNat)
      case atStart => exact ⟨0, lv2, lw2, Nat.zero_le _, rfl, R0, hide (Turn.refl _ _)⟩
      case round =>
        clear R0
        obtain ⟨k, lv', lw', hk, rfl, R, T⟩ := hrel
        have bl : wr.cell? ⟨rb, 1, none⟩ = some lw' := R.out.box.cell 1
        obtain ⟨a2, c2, rfl, hc2, hm2, hl⟩ := R.out.l.open'
        rw [show (t.midF k).L.length = l from hll.out.symm] at bl hm2 hc2
        replace hl := hide hl
        by_cases h : k < l
        · obtain ⟨p, hp⟩ : ∃ p, t.L[k]? = some p := ⟨t.L[k]'(by have := hll.out; omega), List.getElem?_eq_getElem _⟩
          obtain ⟨p0, p1⟩ := looses_at hp
          obtain ⟨g2, rfl, -, -, hc0⟩ := hl.out _ _ p0
          obtain ⟨g3, e3, -, -, hc1⟩ := hl.out _ _ p1
          injection e3 with e3
          injection e3 with e3
          subst e3
          have hS0 := hide (And.intro bl (And.intro hc0 hc1))
          obtain ⟨hp1, hp2⟩ := hlg.out p (List.mem_of_getElem? hp)
          have hlen : (t.midF k).S.length = t.S.length := (flushK_good hs64.out (fun p hp => (hlg.out p hp).2) k (by have := hll.out; omega)).1
          have hfin : Hid ({ t.midF k with S := (t.midF k).S.set p.1 p.2 } = t.midF (k + 1)) := hide (by unfold Dk.midF; rw [flushK_at hp])
          obtain ⟨pn, hpn⟩ : ∃ pn, pn = p.1 := ⟨_, rfl⟩
          obtain ⟨px, hpx⟩ : ∃ px, px = p.2 := ⟨_, rfl⟩
          rw [← hpn] at hS0 hp1 hfin
          rw [← hpx] at hS0 hp2 hfin
          have cw := rwith_any (R.out.on (Below.refl wr.heap.size wr).drew) pn px (by omega) hp2
          clear p0 p1 hc0 hc1 hpn hpx hp hl hlen
          go_wp2_with fail
          refine zir [17] (fun y => y.cell? ⟨rb, 1, none⟩ = some (.slice (some ⟨g2, 0, none⟩) l c2) ∧ y.cell? ⟨g2, k * 2, none⟩ = some (.int .i64 (pn : Int)) ∧ y.cell? ⟨g2, k * 2 + 1, none⟩ = some (.string px)) (by kernel_rfl) hS0.out (fun hHeld => ?_)
          refine zit 0 ?_ rfl (by kernel_rfl) (fun _ _ _ h => h) (by rfl) (by assumption) ?_ ?_
          rotate_left
          · intro y hSw
            have e0 := hSw.1; have e1 := hSw.2.1; have e2 := hSw.2.2
            go_simp
            try with_reducible rfl
          try simp only [Act.put, zpa, zpb, zpc]
          refine zit 1 ?_ rfl (by kernel_rfl) (fun _ _ _ h => h) (by rfl) (by assumption) ?_ ?_
          rotate_left
          · intro y hSw
            have e0 := hSw.1; have e1 := hSw.2.1; have e2 := hSw.2.2
            go_simp
            try with_reducible rfl
          try simp only [Act.put, zpa, zpb, zpc]
          refine zit 2 ?_ rfl (by kernel_rfl) (fun _ _ _ h => h) (by rfl) (by assumption) ?_ ?_
          rotate_left
          · intro y hSw
            have e0 := hSw.1; have e1 := hSw.2.1; have e2 := hSw.2.2
            go_simp
            try with_reducible rfl
          try simp only [Act.put, zpa, zpb, zpc]
          refine zit 3 ?_ rfl (by kernel_rfl) (fun _ _ _ h => h) (by rfl) (by assumption) ?_ ?_
          rotate_left
          · intro y hSw
            have e0 := hSw.1; have e1 := hSw.2.1; have e2 := hSw.2.2
            go_simp
            try with_reducible rfl
          try simp only [Act.put, zpa, zpb, zpc]
          refine zit 4 ?_ rfl (by kernel_rfl) (fun _ _ _ h => h) (by rfl) (by assumption) ?_ ?_
          rotate_left
          · intro y hSw
            have e0 := hSw.1; have e1 := hSw.2.1; have e2 := hSw.2.2
            go_simp
            try with_reducible rfl
          try simp only [Act.put, zpa, zpb, zpc]
          refine zit 5 ?_ rfl (by kernel_rfl) (fun _ _ _ h => h) (by rfl) (by assumption) ?_ ?_
          rotate_left
          · intro y hSw
            have e0 := hSw.1; have e1 := hSw.2.1; have e2 := hSw.2.2
            go_simp
            try with_reducible rfl
          try simp only [Act.put, zpa, zpb, zpc]
          refine zit 6 ?_ rfl (by kernel_rfl) (fun _ _ _ h => h) (by rfl) (by assumption) ?_ ?_
          rotate_left
          · intro y hSw
            have e0 := hSw.1; have e1 := hSw.2.1; have e2 := hSw.2.2
            go_simp
            try with_reducible rfl
          try simp only [Act.put, zpa, zpb, zpc]
          refine zit 7 ?_ rfl (by kernel_rfl) (fun _ _ _ h => h) (by rfl) (by assumption) ?_ ?_
          rotate_left
          · intro y hSw
            have e0 := hSw.1; have e1 := hSw.2.1; have e2 := hSw.2.2
            go_simp
            try with_reducible rfl
          try simp only [Act.put, zpa, zpb, zpc]
          refine zit 8 ?_ rfl (by kernel_rfl) (fun _ _ _ h => h) (by rfl) (by assumption) ?_ ?_
          rotate_left
          · intro y hSw
            have e0 := hSw.1; have e1 := hSw.2.1; have e2 := hSw.2.2
            go_simp
            try with_reducible rfl
          try simp only [Act.put, zpa, zpb, zpc]
          refine zit 9 ?_ rfl (by kernel_rfl) (fun _ _ _ h => h) (by rfl) (by assumption) ?_ ?_
          rotate_left
          · intro y hSw
            have e0 := hSw.1; have e1 := hSw.2.1; have e2 := hSw.2.2
            go_simp
            try with_reducible rfl
          try simp only [Act.put, zpa, zpb, zpc]
          refine zit 10 ?_ rfl (by kernel_rfl) (fun _ _ _ h => h) (by rfl) (by assumption) ?_ ?_
          rotate_left
          · intro y hSw
            have e0 := hSw.1; have e1 := hSw.2.1; have e2 := hSw.2.2
            go_simp
            try with_reducible rfl
          try simp only [Act.put, zpa, zpb, zpc]
          refine zit 11 ?_ rfl (by kernel_rfl) (fun _ _ _ h => h) (by rfl) (by assumption) ?_ ?_
          rotate_left
          · intro y hSw
            have e0 := hSw.1; have e1 := hSw.2.1; have e2 := hSw.2.2
            go_simp
            try with_reducible rfl
          try simp only [Act.put, zpa, zpb, zpc]
          refine zit 12 ?_ rfl (by kernel_rfl) (fun _ _ _ h => h) (by rfl) (by assumption) ?_ ?_
          rotate_left
          · intro y hSw
            have e0 := hSw.1; have e1 := hSw.2.1; have e2 := hSw.2.2
            go_simp
            try with_reducible rfl
          try simp only [Act.put, zpa, zpb, zpc]
          refine zit 13 ?_ rfl (by kernel_rfl) (fun _ _ _ h => h) (by rfl) (by assumption) ?_ ?_
          rotate_left
          · intro y hSw
            have e0 := hSw.1; have e1 := hSw.2.1; have e2 := hSw.2.2
            go_simp
            try with_reducible rfl
          try simp only [Act.put, zpa, zpb, zpc]
          refine zit 14 ?_ rfl (by kernel_rfl) (fun _ _ _ h => h) (by rfl) (by assumption) ?_ ?_
          rotate_left
          · intro y hSw
            have e0 := hSw.1; have e1 := hSw.2.1; have e2 := hSw.2.2
            go_simp
            try with_reducible rfl
          try simp only [Act.put, zpa, zpb, zpc]
          refine zit 15 ?_ rfl (by kernel_rfl) (fun _ _ _ h => h) (by rfl) (by assumption) ?_ ?_
          rotate_left
          · intro y hSw
            have e0 := hSw.1; have e1 := hSw.2.1; have e2 := hSw.2.2
            go_simp
            try with_reducible rfl
          try simp only [Act.put, zpa, zpb, zpc]
          refine zit 16 ?_ rfl (by kernel_rfl) (fun _ _ _ h => h) (by rfl) (by assumption) ?_ ?_
          rotate_left
          · intro y hSw
            have e0 := hSw.1; have e1 := hSw.2.1; have e2 := hSw.2.2
            go_simp
            try with_reducible rfl
          try simp only [Act.put, zpa, zpb, zpc]
          refine zil 17 rfl (by kernel_rfl) (by kernel_rfl) (fun K hK => ?_)
          go_simp
          refine cw.mono ?_
          rintro e w2 ⟨rfl, lv3, R3, T3⟩
          have R4 := hide (R3.mono (G := fun j => H j ∨ w.heap.size ≤ j) (fun j h _ => by
            rcases h with h | h
            · exact h
            · have := T.out.size; have e : wr.drew.heap.size = wr.heap.size := rfl; have := hsz1.out; right; omega))
          have T4 := hide (T.out.trans ((Turn.of (Below.refl wr.heap.size wr).drew).trans T3 (fun b h => .inl h)) (fun b h => .inl h))
          rw [hfin.out] at R4
          clear R3 T3 R T cw hS0 hHeld hfin bl
          go_wp2_with fail
          refine hK.out _ _ ?_
          clear hK K
          try simp only [Act.put, zpa, zpb, zpc]
          refine zid (by kernel_rfl) ?_ _
          go_wp2
          go_roundw
          case rel => exact ⟨k + 1, lv3, _, by omega, by go_num, R4, T4⟩
          case measure => simp [intOf]; omega
        · obtain rfl : k = l := by omega
          have f1 : wr.frozen? ⟨rb, 1, none⟩ = false := R.out.box.free 1
          have BX := hide (R.out.box.set 1 (.slice none 0 0))
          have hfar : Hid (∀ j, j ≠ rb → (wr.setCell ⟨rb, 1, none⟩ (.slice none 0 0)).heap[j]? = wr.heap[j]?) := hide (fun j hj => Below.heap_setCell _ _ _ j hj)
          have hmid : Hid ((t.midF k).S = t.flushed.S) := hide (by unfold Dk.midF Dk.flushed; rw [hll.out])
          clear hl
          go_wp2
          go_ret
          refine ⟨rfl, lv', .slice none 0 0, ⟨BX.out, ?_, ⟨World.ownsRow_nil _ _ _ _, fun k hk => by simp [Value.ownBlock] at hk⟩, R.out.h, ?_, by simp [Dk.flushed], R.out.m6⟩, T1.out.trans (T.out.trans (turn_set wr rb 1 _) (fun b h => .inl h)) (fun b h => .inl h)⟩
          · rw [← hmid.out]
            exact R.out.s.keep fun j h hl => hfar.out j h.2
          · have hg := R.out.g
            have e : t.flushed.S = (t.midF k).S := hmid.out.symm
            exact ⟨by rw [e]; exact hg.s1, by rw [e]; exact hg.s2, by rw [e]; exact hg.s64, fun p hp => (by cases hp), hg.a63⟩

end Go.Proofs.Ytgffhnggocbjhaa
