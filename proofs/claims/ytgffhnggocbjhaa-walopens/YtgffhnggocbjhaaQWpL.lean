/- Layer 19: the program's log: Format. -/
import Derived.Test.YtgffhnggocbjhaaQWpK
import Derived.Test.YtgffhnggocbjhaaQWlForm
namespace Go.Proofs.Ytgffhnggocbjhaa
open Go.RowKit
set_option linter.unusedVariables false
set_option maxRecDepth 100000
set_option linter.unusedSimpArgs false

theorem CW.of_box {w : World} {B cap : Nat} {c : Cl} (h : Box w B (cellsL c).toArray) (hm : c.length ≤ 1000000) (H : Nat → Prop) (hH : ¬ H B) (hc : c.length ≤ cap) : CW w H (.slice (some ⟨B, 0, none⟩) c.length cap) c :=
  ⟨_, cap, rfl, hc, hm, fun k p hp => ⟨B, rfl, h.2.2, hH, by rw [h.cell]; simpa using (cellsL_at hp).1, by rw [h.cell]; simpa using (cellsL_at hp).2⟩⟩

/-- What Format and Open answer. -/
structure NewLog (w w' : World) (H : Nat → Prop) (db : Nat) (d : Dk) (n : Nat) (er : Int) (v : Value) : Prop where
  far : Turn H w w'
  ok : er = 0 → ∃ lb, v = .pointer (some ⟨lb, 0, none⟩) ∧ w.heap.size ≤ lb ∧ PL w' (fun k => (H k ∨ w.heap.size ≤ k) ∧ k ≠ lb) lb db ⟨n, false, d⟩
  no : er ≠ 0 → v = .pointer none ∧ PD w' (fun k => H k ∨ w.heap.size ≤ k) db d

theorem wformat_any {w : World} {H : Nat → Prop} {db : Nat} {d : Dk} (D : PD w H db d) (hm : d.m + 3 < 1000000) (hL : d.L.length + 3 < 1000) :
    Calls Try.prog 37 #[.pointer (some ⟨db, 0, none⟩)] w fun e w' => ∃ v, e = .returned (.tuple #[v, .int .i64 (formE d)]) ∧ NewLog w w' H db (formN d) 1 (formE d) v := by
  have cf := wfits_any D
  have D0 := hide (D.mono (G := fun k => H k ∨ w.heap.size ≤ k) (fun k h _ => .inl h))
  cases hf : d.fits with
  | false =>
    have e1 : formE d = 190 := by unfold formE; rw [hf]; rfl
    have e2 : formN d = d := by unfold formN; rw [hf]; rfl
    rw [e1, e2]
    rw [hf] at cf
    clear e1 e2 D
    go_enter Try.func37, Try.ntmps37
    go_wp2_with fail
    refine cf.mono ?_
    rintro e w1 ⟨rfl, b1⟩
    have fin : Hid (NewLog w w1 H db d 1 190 (.pointer none)) := hide ⟨Turn.of b1, (fun h => by cases h), fun _ => ⟨rfl, D0.out.on b1⟩⟩
    clear b1 cf D0
    go_wp2
    go_ret2
    exact ⟨_, rfl, fin.out⟩
  | true =>
    rw [hf] at cf
    have hlen := hide (show 42 ≤ d.S.length by
      unfold Dk.fits at hf
      simp only [Bool.and_eq_true, decide_eq_true_eq] at hf
      exact hf.1)
    have hrun : ∀ T1, T1 = headC 1 [] → runL formD d = runL (doC [(0, T0), (1, T1)]) d := fun T1 h => by rw [h]; rfl
    obtain ⟨E, hE⟩ : ∃ E, Hid (E = formE d) := ⟨_, hide rfl⟩
    obtain ⟨d2, hd2⟩ : ∃ d2, Hid (d2 = formN d) := ⟨_, hide rfl⟩
    have hl2 : Hid (42 ≤ d2.S.length) := hide (by
      have e : d2 = (runL formD d).1 := by rw [hd2.out]; unfold formN; rw [hf]; rfl
      rw [e, (near_run formD D.good.1).2.2]
      exact hlen.out)
    rw [← hE.out, ← hd2.out]
    have ch := hide (fun (y : World) => wheadOf_any 1 (CW.nil y (fun _ => False)) (fun p hp => by cases hp))
    go_enter Try.func37, Try.ntmps37
    go_wp2_with fail
    refine cf.mono ?_
    rintro e w1 ⟨rfl, b1⟩
    go_wp2_with fail
    refine (ch.out _).mono ?_
    rintro e w2 ⟨v', rfl, I2, b2⟩
    obtain ⟨av, cv, hv⟩ := I2.shape
    subst hv
    simp only [List.map_nil, List.length_nil] at I2 ⊢
    obtain ⟨t, ht⟩ : ∃ t, t = sumC [] := ⟨_, rfl⟩
    have ht6 : t < 65536 := by rw [ht]; exact sumC_lt _
    rw [← ht]
    replace ht := hide ht
    rw [show headV 1 (.slice av 0 cv) t = .agg #[.int .i64 1, .slice av 0 cv, .int .u16 (t : Int)] from rfl]
    have BH := Box.new w2 #[.int .i64 1, .slice av 0 cv, .int .u16 (t : Int)] 77
    have gh := grow w2 (.cells #[.int .i64 1, .slice av 0 cv, .int .u16 (t : Int)] 77)
    have I3 := I2.on gh
    have T3 := onto (onto b1 (Nat.le_refl _) b2) (Nat.le_refl _) gh
    have mk : ∀ x : World, (Instr.makeSlice 57 (.int .i64 64) (.int .i64 64)).run Try.prog x = .ok (.slice (some ⟨x.heap.size, 0, none⟩) 64 64) (x.alloc (.cells (madeCells #[.int .u8 0] 64) 5)) := fun x => make_row x 64 (by decide)
    have M4 := made_row (w2.alloc (.cells #[.int .i64 1, .slice av 0 cv, .int .u16 (t : Int)] 77)) 64
    have g4 := grow (w2.alloc (.cells #[.int .i64 1, .slice av 0 cv, .int .u16 (t : Int)] 77)) (.cells (madeCells #[.int .u8 0] 64) 5)
    have hz : (w2.alloc (.cells #[.int .i64 1, .slice av 0 cv, .int .u16 (t : Int)] 77)).heap.size = w2.heap.size + 1 := by simp
    have hcv := conv_back M4 64
    rw [hz] at hcv
    rw [show textOf 64 (fun _ => 0) = T0 from rfl] at hcv
    obtain ⟨T1, hT1⟩ : ∃ T1, T1 = headC 1 [] := ⟨_, rfl⟩
    have hT1s : T1.size = 64 := by rw [hT1]; exact headT_size _ _ _
    have hr := hrun T1 hT1
    have hfe : Hid (E = if (runL (doC [(0, T0), (1, T1)]) d).2 then 0 else 2) := hide (by rw [hE.out]; unfold formE; rw [hf, hr]; rfl)
    have hfn : Hid (d2 = (runL (doC [(0, T0), (1, T1)]) d).1) := hide (by rw [hd2.out]; unfold formN; rw [hf, hr]; rfl)
    have hT1' : Hid (T1 = headT 1 [] t) := hide (by rw [hT1, ht.out]; rfl)
    have ct := hide (fun (y : World) (Iy : IW y (fun k => k < w1.heap.size) (.slice av 0 cv) []) => wtext_any 1 (by decide) Iy (by decide) (fun k hk => by cases hk) t ht6)
    rw [← hT1'.out] at ct
    rw [show headV 1 (.slice av 0 cv) t = .agg #[.int .i64 1, .slice av 0 cv, .int .u16 (t : Int)] from rfl] at ct
    have cd := hide (fun y => wside_any 1 (.slice av 0 cv) t y)
    rw [show headV 1 (.slice av 0 cv) t = .agg #[.int .i64 1, .slice av 0 cv, .int .u16 (t : Int)] from rfl] at cd
    have D1 := (D.mono (G := fun k => H k ∧ k < w.heap.size) (fun k h hl => ⟨h, hl⟩)).on T3
    have hw2 : w.heap.size ≤ w2.heap.size := Nat.le_trans b1.size b2.size
    go_wp2_with fail
    clear hcv hz cf D D0 I2 b1 b2 mk M4 hT1 hrun hf hr hE hd2
    generalize w2.alloc (.cells #[.int .i64 1, .slice av 0 cv, .int .u16 (t : Int)] 77) = w3 at *
    have BH4 := BH.on g4
    have D4 := D1.on g4
    have I4 := I3.on g4
    have T4 := onto T3 (Nat.le_refl _) g4
    generalize w3.alloc (.cells (madeCells #[.int .u8 0] 64) 5) = w4 at *
    generalize w2.heap.size = HB at *
    have BH5 := BH4.on (Below.refl w4.heap.size w4).drew
    have D5 := hide (D4.on (Below.refl w4.heap.size w4).drew)
    have I5 := hide (I4.on (Below.refl w4.heap.size w4).drew)
    have T5 := hide (onto T4 (Nat.le_refl _) (Below.refl w4.heap.size w4).drew)
    clear BH4 D4 I4 T4 BH gh g4 I3 T3 D1 ch
    refine zir [] (fun y => Box y HB #[.int .i64 1, .slice av 0 cv, .int .u16 (t : Int)]) (by kernel_rfl) BH5 (fun hHeld => ?_)
    generalize w4.drew = y0 at *
    refine zit 0 ?_ rfl (by kernel_rfl) (fun _ _ _ h => h) (by rfl) (by assumption) ?_ ?_
    rotate_left
    · intro y hSw
      have e0 := hSw.cell 0; have e1 := hSw.cell 1; have e2 := hSw.cell 2
      go_simp
      try with_reducible rfl
    try simp only [Act.put, zpa, zpb, zpc]
    refine zit 1 ?_ rfl (by kernel_rfl) (fun _ _ _ h => h) (by rfl) (by assumption) ?_ ?_
    rotate_left
    · intro y hSw
      have e0 := hSw.cell 0; have e1 := hSw.cell 1; have e2 := hSw.cell 2
      go_simp
      try with_reducible rfl
    try simp only [Act.put, zpa, zpb, zpc]
    refine zit 2 ?_ rfl (by kernel_rfl) (fun _ _ _ h => h) (by rfl) (by assumption) ?_ ?_
    rotate_left
    · intro y hSw
      have e0 := hSw.cell 0; have e1 := hSw.cell 1; have e2 := hSw.cell 2
      go_simp
      try with_reducible rfl
    try simp only [Act.put, zpa, zpb, zpc]
    refine zit 3 ?_ rfl (by kernel_rfl) (fun _ _ _ h => h) (by rfl) (by assumption) ?_ ?_
    rotate_left
    · intro y hSw
      have e0 := hSw.cell 0; have e1 := hSw.cell 1; have e2 := hSw.cell 2
      go_simp
      try with_reducible rfl
    try simp only [Act.put, zpa, zpb, zpc]
    refine zit 5 ?_ rfl (by kernel_rfl) (fun _ _ _ h => h) (by rfl) (by assumption) ?_ ?_
    rotate_left
    · intro y hSw
      have e0 := hSw.cell 0; have e1 := hSw.cell 1; have e2 := hSw.cell 2
      go_simp
      try with_reducible rfl
    try simp only [Act.put, zpa, zpb, zpc]
    refine zib 4 rfl (by kernel_rfl) (fun K hK => ?_)
    go_simp
    refine (cd.out _).mono ?_
    rintro q y1 ⟨rfl, b1⟩
    have BH6 := BH5.on b1
    have D6 := hide (D5.out.on b1)
    have I6 := hide (I5.out.on b1)
    have T6 := hide (onto T5.out (Nat.le_refl _) b1)
    clear cd BH5 D5 I5 T5 b1 hHeld
    go_wp2_with fail
    refine hK.out _ _ (BH6) (fun hHeld => ?_)
    clear hK K
    try simp only [Act.put, zpa, zpb, zpc]
    refine zib 6 rfl (by kernel_rfl) (fun K hK => ?_)
    go_simp
    refine (ct.out _ I6.out).mono ?_
    rintro q y2 ⟨rfl, b1⟩
    have BH7 := BH6.on b1
    have D7 := hide (D6.out.on b1)
    have T7 := hide (onto T6.out (Nat.le_refl _) b1)
    clear ct BH6 D6 I6 T6 b1 hHeld
    go_wp2_with fail
    refine hK.out _ _ (BH7) (fun hHeld => ?_)
    clear hK K
    try simp only [Act.put, zpa, zpb, zpc]
    refine zit 7 ?_ rfl (by kernel_rfl) (fun _ _ _ h => h) (by rfl) (by assumption) ?_ ?_
    rotate_left
    · intro y hSw
      skip
      go_simp
      try with_reducible rfl
    try simp only [Act.put, zpa, zpb, zpc]
    refine zib 8 rfl (by kernel_rfl) (fun K hK => ?_)
    have A3 := grow y2 (.cells #[.int .i64 0, .string T0, .int .i64 1, .string T1] 80)
    have BL : Box (y2.alloc (.cells #[.int .i64 0, .string T0, .int .i64 1, .string T1] 80)) y2.heap.size (cellsL [(0, T0), (1, T1)]).toArray := Box.new y2 _ _
    go_simp
    refine hK.out _ _ (hHeld.on A3) (fun hHeld => ?_)
    clear hK K
    try simp only [Act.put, zpa, zpb, zpc]
    have D8 := hide (D7.out.on A3)
    have T8 := hide (onto T7.out (Nat.le_refl _) A3)
    have hw2y : w.heap.size ≤ y2.heap.size := T7.out.size
    clear A3 D7 T7 BH7
    generalize y2.alloc (.cells #[.int .i64 0, .string T0, .int .i64 1, .string T1] 80) = y3 at *
    generalize y2.heap.size = LB at *
    have C8 : CW y3 (fun k => H k ∧ k < w.heap.size) (.slice (some ⟨LB, 0, none⟩) 2 2) [(0, T0), (1, T1)] := CW.of_box BL (by simp) _ (fun h => by omega) (by simp)
    have cs := wsettle_any D8.out C8 (fun k _ h => h) (by show d.m + 2 + 1 < 1000000; omega) (by show d.L.length + 2 < 1000; omega) (fun p hp => by
      have := hlen.out
      simp at hp
      rcases hp with rfl | rfl
      · exact ⟨by decide, by show (0 : Int) < _; omega, T0_size⟩
      · exact ⟨by show (0 : Int) ≤ 1; decide, by show (1 : Int) < _; omega, hT1s⟩)
    rw [← hfe.out, ← hfn.out] at cs
    have hfe2 : E = 0 ∨ E = 2 := by rw [hfe.out]; split <;> simp
    clear hfe hfn C8 BL
    replace cs := hide cs
    refine zib 9 rfl (by kernel_rfl) (fun K hK => ?_)
    go_simp
    refine cs.out.mono ?_
    rintro q y4 ⟨rfl, D9, U9⟩
    have BH9 : Box y4 HB #[.int .i64 1, .slice av 0 cv, .int .u16 (t : Int)] := hHeld.of_heap (U9.block HB hHeld.2.2 (fun h => by omega))
    have T9 := hide ((Turn.of (F := H) T8.out).trans U9 (fun b h => .inl h.1))
    have hy34 := Nat.le_trans T8.out.size U9.size
    have hwy3 := T8.out.size
    replace D9 := hide D9
    clear cs D8 U9 T8 hHeld
    go_wp2_with fail
    refine hK.out _ _ (BH9) (fun hHeld => ?_)
    clear hK K
    try simp only [Act.put, zpa, zpb, zpc]
    refine zit 10 ?_ rfl (by kernel_rfl) (fun _ _ _ h => h) (by rfl) (by assumption) ?_ ?_
    rotate_left
    · intro y hSw
      skip
      go_simp
      try with_reducible rfl
    try simp only [Act.put, zpa, zpb, zpc]
    refine zid (by kernel_rfl) ?_ _
    clear hHeld
    rcases hfe2 with rfl | rfl
    · have e0 : y4.cell? ⟨HB, 0, none⟩ = some (.int .i64 1) := BH9.cell 0
      have gl := grow y4 (.cells #[.pointer (some ⟨db, 0, none⟩), .int .i64 1, .bool false] 71)
      have BLg := Box.new y4 #[.pointer (some ⟨db, 0, none⟩), .int .i64 1, .bool false] 71
      have Tl := T9.out.trans (Turn.of (F := H) gl) (fun b h => .inl h)
      have DL := (D9.out.mono (G := fun k => (H k ∨ w.heap.size ≤ k) ∧ k ≠ y4.heap.size) (fun k h hl => ⟨by
        rcases h with h | h
        · exact .inl h.1
        · right; omega, by omega⟩)).on gl
      have fin : Hid (NewLog w (y4.alloc (.cells #[.pointer (some ⟨db, 0, none⟩), .int .i64 1, .bool false] 71)) H db d2 1 0 (.pointer (some ⟨y4.heap.size, 0, none⟩))) := hide
        ⟨Tl, fun _ => ⟨_, rfl, hy34, BLg, fun h => h.2 rfl, DL, hl2.out⟩, fun h => (h rfl).elim⟩
      clear DL BLg gl D9 T9 Tl BH9
      go_wp2
      go_ret2
      exact ⟨_, rfl, fin.out⟩
    · have fin : Hid (NewLog w y4 H db d2 1 2 (.pointer none)) := hide
        ⟨T9.out, (fun h => by cases h), fun _ => ⟨rfl, D9.out.mono (fun k h _ => by
          rcases h with h | h
          · exact .inl h.1
          · right; omega)⟩⟩
      clear D9 T9 BH9
      go_wp2
      go_ret2
      exact ⟨_, rfl, fin.out⟩

end Go.Proofs.Ytgffhnggocbjhaa
