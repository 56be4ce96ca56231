/- Layer 18: the program's disk: a write. -/
import Derived.Test.YtgffhnggocbjhaaDkPf
namespace Go.Proofs.Ytgffhnggocbjhaa
open Go.RowKit
set_option linter.unusedVariables false
set_option maxRecDepth 100000
set_option linter.unusedSimpArgs false

theorem errAt_ok {d : Dk} {n : Int} (he : d.errAt n = 0) : d.dead = false ∧ 0 ≤ n ∧ n < (d.S.length : Int) := by
  unfold Dk.errAt at he
  split at he
  · cases he
  · next h =>
    split at he
    · cases he
    · next h' => exact ⟨by simpa using h, by omega, by omega⟩

/-- A loose write more. -/
theorem PS.more {w : World} {H : Nat → Prop} {db : Nat} {sv lv gv : Value} {d : Dk} (P : PS w H db sv lv gv d) (k : Nat) (s : ByteArray) {LB : Nat} (BL : Box w LB #[.int .i64 (k : Int), .string s]) (hk : k < d.S.length) (hs : s.size = 64) (hL : d.L.length < 1000) :
    ∃ a c y, (Builtin.append_ #[36, 36] 36 #[lv, .slice (some ⟨LB, 0, none⟩) 1 1]).run Try.prog w = .ok (.slice a (d.L.length + 1) c) y ∧ Box y db (cellsP sv lv gv d) ∧
      PS (y.setCell ⟨db, 1, none⟩ (.slice a (d.L.length + 1) c)) (fun k => H k ∨ w.heap.size ≤ k) db sv (.slice a (d.L.length + 1) c) gv { d with L := d.L ++ [(k, s)] } ∧ Turn H w (y.setCell ⟨db, 1, none⟩ (.slice a (d.L.length + 1) c)) := by
  obtain ⟨i, hi, hz, hsz, hb⟩ := infoL
  have l6 := P.l6
  obtain ⟨v', y, hap, O, G, -, h5⟩ := run_append_own_at (P := Try.prog) w 0 36 36 80 i _ 2 24 Try.underlying36 hi hz hsz hb rfl (by decide) lv d.L.length _ P.l.1 ⟨LB, 0, none⟩ 1 1 [.int .i64 (k : Int), .string s] rfl (fun j u hj => by rw [Addr.add_lit, Nat.zero_add, BL.cell]; simpa using hj) (by simp [Value.oneCell']) (by unfold maxLen; omega) (by omega) (Nat.zero_le _)
  have eL : looses d.L ++ [.int .i64 (k : Int), .string s] = looses (d.L ++ [(k, s)]) := by rw [looses_app]; rfl
  rw [eL] at O
  have hlF : ∀ j, lv.ownBlock = some j → H j ∧ j ≠ db := P.l.2
  have hvF : ∀ j, v'.ownBlock = some j → (H j ∨ w.heap.size ≤ j) ∧ j ≠ db := fun j hj => by
    rcases h5 with h | h
    · rw [h] at hj
      exact ⟨.inl (hlF j hj).1, (hlF j hj).2⟩
    · rw [h] at hj
      injection hj with hj
      have := P.box.2.2
      exact ⟨.inr (by omega), by omega⟩
  have RN : Row y (fun j => (H j ∨ w.heap.size ≤ j) ∧ j ≠ db) 80 2 v' (d.L.length + 1) (looses (d.L ++ [(k, s)])) := ⟨O, hvF⟩
  obtain ⟨a, c, rfl, -⟩ := RN.shape
  have By : Box y db (cellsP sv lv gv d) := P.box.of_heap (G.block db P.box.2.2 (fun e => (hlF db e.symm).2 rfl))
  have hfar : ∀ j, j ≠ db → (y.setCell ⟨db, 1, none⟩ (.slice a (d.L.length + 1) c)).heap[j]? = y.heap[j]? := fun j hj => Below.heap_setCell _ _ _ j hj
  obtain ⟨g, cap, hsv, hgH, hgdb, hgl, -, -, hap'⟩ := P.open
  have hsrow : Row y (fun j => H j ∧ j ≠ db) 5 1 sv (64 * d.S.length) (Go.Lib.strCells (catT d.S)) := by
    refine ⟨?_, P.s.2⟩
    rcases P.s.1.2 with h0 | ⟨g2, cap2, cur2, hv, hb, hg2, rest⟩
    · exact ⟨P.s.1.1, .inl h0⟩
    · refine ⟨P.s.1.1, .inr ⟨g2, cap2, cur2, hv, hb, ?_, rest⟩⟩
      rw [hsv] at hv
      injection hv with e1 _ _
      injection e1 with e1
      injection e1 with e1
      subst e1
      rw [G.block g hgl (fun e => hap' e.symm)]
      exact hg2
  refine ⟨a, c, y, hap, By, ⟨By.set 1 _, ?_, ?_, .inl P.h, P.g.loose hk hs, by simp; omega, P.m6, P.v⟩, ⟨G.os, G.tape, G.output, Nat.le_trans G.size (by simp [World.setCell]), fun j hj hn => ?_⟩⟩
  · exact (hsrow.keep fun j h _ => hfar j h.2).mono fun j h _ => ⟨.inl h.1, h.2⟩
  · rw [show ({ d with L := d.L ++ [(k, s)] } : Dk).L.length = d.L.length + 1 by simp]
    exact RN.keep fun j h _ => hfar j h.2
  · exact (hfar j (fun e => hn (by rw [e]; exact P.h))).trans (G.block j hj (fun e => hn (hlF j e.symm).1))

set_option maxHeartbeats 8000000 in
set_option maxRecDepth 100000 in
theorem pwrite_any {w : World} {H : Nat → Prop} {db : Nat} {sv lv gv : Value} {d : Dk} (P : PS w H db sv lv gv d) (hm : d.m < 1000000) (hL : d.L.length < 1000) (n : Int) (s : ByteArray) :
    Calls Try.prog 74 #[.pointer (some ⟨db, 0, none⟩), .int .i64 n, .string s] w fun e w' => e = .returned (.int .i64 (d.errW n s)) ∧
      (∃ sv' lv' gv', PS w' (fun k => H k ∨ w.heap.size ≤ k) db sv' lv' gv' (d.wrote n s)) ∧ Turn H w w' := by
  have cr := hide (prefusal_any P n)
  by_cases he : d.errAt n = 0
  · by_cases hs : s.size = 64
    · obtain ⟨i, hi, hz, hsz, hb⟩ := infoL
      obtain ⟨hdd, hn0, hn1⟩ := errAt_ok he
      obtain ⟨k, rfl⟩ : ∃ k : Nat, n = (k : Int) := ⟨n.toNat, by omega⟩
      have hw : d.wrote (k : Int) s = Dk.stepped { d with L := d.L ++ [(k, s)] } := by
        unfold Dk.wrote
        rw [if_neg (by simp [he, hs]), Int.toNat_natCast]
      have hW : d.errW (k : Int) s = if d.a = 1 then 2 else 0 := by
        unfold Dk.errW
        rw [if_neg (by simp [he]), if_neg (by simp [hs])]
      rw [hw, hW]
      rw [he] at cr
      obtain ⟨E, hE⟩ : ∃ E : Int, E = if d.a = 1 then 2 else 0 := ⟨_, rfl⟩
      rw [← hE]
      replace hE := hide hE
      have hs' : (s.size : Int) = 64 := by omega
      have ccl := hide (fun y => clone_any s y (by omega))
      have b1 := P.cells.2.1
      go_enter Try.func74, Try.ntmps74
      go_wp2_with fail
      refine cr.out.mono ?_
      rintro e wx ⟨rfl, hwx⟩
      subst hwx
      have hcells := hide P.box
      obtain ⟨l, hl⟩ : ∃ l, l = d.L.length := ⟨_, rfl⟩
      have hnn : k < d.S.length := by omega
      replace P := hide P
      clear cr he hw hW hi hz hsz hb hdd hn0 hn1 b1
      go_wp2_with fail
      refine zir [13] (fun y => Box y db (cellsP sv lv gv d)) (by kernel_rfl) hcells.out.drew (fun hHeld => ?_)
      have P1 := hide (P.out.on (Below.refl _ wx).drew)
      have T1 := hide (Turn.of (F := H) (Below.refl wx.heap.size wx).drew)
      clear P hcells
      generalize wx.drew = y1 at *
      refine zit 0 ?_ rfl (by kernel_rfl) (fun _ _ _ h => h) (by rfl) (by assumption) ?_ ?_
      rotate_left
      · intro y hSw
        have e1 : y.cell? ⟨db, 1, none⟩ = some lv := hSw.cell 1
        go_simp
        try with_reducible rfl
      try simp only [Act.put, zpa, zpb, zpc]
      refine zit 1 ?_ rfl (by kernel_rfl) (fun _ _ _ h => h) (by rfl) (by assumption) ?_ ?_
      rotate_left
      · intro y hSw
        have e1 : y.cell? ⟨db, 1, none⟩ = some lv := hSw.cell 1
        go_simp
        try with_reducible rfl
      try simp only [Act.put, zpa, zpb, zpc]
      refine zit 2 ?_ rfl (by kernel_rfl) (fun _ _ _ h => h) (by rfl) (by assumption) ?_ ?_
      rotate_left
      · intro y hSw
        have e1 : y.cell? ⟨db, 1, none⟩ = some lv := hSw.cell 1
        go_simp
        try with_reducible rfl
      try simp only [Act.put, zpa, zpb, zpc]
      refine zit 3 ?_ rfl (by kernel_rfl) (fun _ _ _ h => h) (by rfl) (by assumption) ?_ ?_
      rotate_left
      · intro y hSw
        have e1 : y.cell? ⟨db, 1, none⟩ = some lv := hSw.cell 1
        go_simp
        try with_reducible rfl
      try simp only [Act.put, zpa, zpb, zpc]
      refine zit 4 ?_ rfl (by kernel_rfl) (fun _ _ _ h => h) (by rfl) (by assumption) ?_ ?_
      rotate_left
      · intro y hSw
        have e1 : y.cell? ⟨db, 1, none⟩ = some lv := hSw.cell 1
        go_simp
        try with_reducible rfl
      try simp only [Act.put, zpa, zpb, zpc]
      refine zit 5 ?_ rfl (by kernel_rfl) (fun _ _ _ h => h) (by rfl) (by assumption) ?_ ?_
      rotate_left
      · intro y hSw
        have e1 : y.cell? ⟨db, 1, none⟩ = some lv := hSw.cell 1
        go_simp
        try with_reducible rfl
      try simp only [Act.put, zpa, zpb, zpc]
      refine zit 6 ?_ rfl (by kernel_rfl) (fun _ _ _ h => h) (by rfl) (by assumption) ?_ ?_
      rotate_left
      · intro y hSw
        have e1 : y.cell? ⟨db, 1, none⟩ = some lv := hSw.cell 1
        go_simp
        try with_reducible rfl
      try simp only [Act.put, zpa, zpb, zpc]
      refine zib 7 rfl (by kernel_rfl) (fun K hK => ?_)
      go_simp
      refine (ccl.out _).mono ?_
      rintro q y2 ⟨rfl, hB⟩
      have P2 := hide (P1.out.on hB)
      have T2 := hide (T1.out.trans (Turn.of hB) (fun b h => .inl h))
      have hH2 := hide (hHeld.on hB)
      clear P1 T1 hB hHeld
      go_wp2_with fail
      refine hK.out _ _ (hH2.out) (fun hHeld => ?_)
      clear hK K
      try simp only [Act.put, zpa, zpb, zpc]
      refine zit 8 ?_ rfl (by kernel_rfl) (fun _ _ _ h => h) (by rfl) (by assumption) ?_ ?_
      rotate_left
      · intro y hSw
        skip
        go_simp
        try with_reducible rfl
      try simp only [Act.put, zpa, zpb, zpc]
      refine zib 9 rfl (by kernel_rfl) (fun K hK => ?_)
      have A3 := grow y2 (.cells #[.int .i64 (k : Int), .string s] 80)
      have BL := Box.new y2 #[.int .i64 (k : Int), .string s] 80
      go_simp
      refine hK.out _ _ (hHeld.on A3) (fun hHeld => ?_)
      clear hK K
      try simp only [Act.put, zpa, zpb, zpc]
      have P3 := hide (P2.out.on A3)
      have T3 := hide (T2.out.trans (Turn.of A3) (fun b h => .inl h))
      clear A3 P2 T2 hH2
      generalize y2.alloc (.cells #[.int .i64 (k : Int), .string s] 80) = y3 at *
      generalize y2.heap.size = LB at *
      refine zib 10 rfl (by kernel_rfl) (fun K hK => ?_)
      obtain ⟨a4, c4, y4, hap, By, P4, T4⟩ := P3.out.more k s BL hnn hs hL
      refine step_append_told' rfl (.tmp 21) (.tmp 26) 36 rfl lv (.slice (some ⟨LB, 0, none⟩) 1 1) _ rfl rfl hap ?_
      refine hK.out _ _ (By) (fun hHeld => ?_)
      clear hK K
      try simp only [Act.put, zpa, zpb, zpc]
      clear hap By BL
      refine zit 11 ?_ rfl (by kernel_rfl) (fun _ _ _ h => h) (by rfl) (by assumption) ?_ ?_
      rotate_left
      · intro y hSw
        have e1 : y.cell? ⟨db, 1, none⟩ = some lv := hSw.cell 1
        go_simp
        try with_reducible rfl
      try simp only [Act.put, zpa, zpb, zpc]
      refine zit 12 ?_ rfl (by kernel_rfl) (fun _ _ _ h => h) (by rfl) (by assumption) ?_ ?_
      rotate_left
      · intro y hSw
        have e1 : y.cell? ⟨db, 1, none⟩ = some lv := hSw.cell 1
        go_simp
        try with_reducible rfl
      try simp only [Act.put, zpa, zpb, zpc]
      refine zil 13 rfl (by kernel_rfl) (by kernel_rfl) (fun K hK => ?_)
      have c1 : y4.cell? ⟨db, 1, none⟩ = some lv := hHeld.cell 1
      have f1 := hHeld.free 1
      go_simp
      refine hK.out _ _ ?_
      clear hK K
      try simp only [Act.put, zpa, zpb, zpc]
      refine zid (by kernel_rfl) ?_ _
      have cs := pstep_any P4 hm
      rw [show (if ({ d with L := d.L ++ [(k, s)] } : Dk).a = 1 then (2 : Int) else 0) = E from hE.out.symm] at cs
      replace cs := hide cs
      have hsz3 := T3.out.size
      replace T4 := hide T4
      clear hHeld c1 f1 P3 P4
      go_wp2_with fail
      refine cs.out.mono ?_
      rintro q y5 ⟨rfl, ⟨lv5, gv5, P5⟩, T5⟩
      have fin := hide (And.intro (P5.mono (G := fun k => H k ∨ wx.heap.size ≤ k) (fun j h _ => by
        rcases h with h | h
        · exact .inl h
        · right; omega)) ((T3.out.trans T4.out (fun b h => .inl h)).trans T5 (fun b h => by
          rcases h with h | h
          · exact .inl h
          · right; omega)))
      clear P5 T5 T4 T3 cs
      go_wp2
      go_ret
      exact ⟨rfl, ⟨_, _, _, fin.out.1⟩, fin.out.2⟩
    · have h1 : d.errW n s = 1 := by unfold Dk.errW; rw [if_neg (by simp [he]), if_pos hs]
      have h2 : d.wrote n s = d := by unfold Dk.wrote; rw [if_pos (.inr hs)]
      rw [h1, h2]
      rw [he] at cr
      replace P := hide (P.mono (G := fun k => H k ∨ w.heap.size ≤ k) (fun k h _ => .inl h))
      have hs' : ¬ (s.size : Int) = 64 := by omega
      clear h1 h2 he
      go_enter Try.func74, Try.ntmps74
      go_wp2_with fail
      refine cr.out.mono ?_
      rintro e w2 ⟨rfl, rfl⟩
      go_wp2
      go_ret
      exact ⟨rfl, ⟨_, _, _, P.out⟩, Turn.refl _ _⟩
  · have h1 : d.errW n s = d.errAt n := by unfold Dk.errW; rw [if_pos he]
    have h2 : d.wrote n s = d := by unfold Dk.wrote; rw [if_pos (.inl he)]
    rw [h1, h2]
    obtain ⟨E, hE⟩ : ∃ E, E = d.errAt n := ⟨_, rfl⟩
    rw [← hE] at cr he ⊢
    replace P := hide (P.mono (G := fun k => H k ∨ w.heap.size ≤ k) (fun k h _ => .inl h))
    clear h1 h2 hE
    go_enter Try.func74, Try.ntmps74
    go_wp2_with fail
    refine cr.out.mono ?_
    rintro e w2 ⟨rfl, rfl⟩
    go_wp2
    go_ret
    exact ⟨rfl, ⟨_, _, _, P.out⟩, Turn.refl _ _⟩

end Go.Proofs.Ytgffhnggocbjhaa
