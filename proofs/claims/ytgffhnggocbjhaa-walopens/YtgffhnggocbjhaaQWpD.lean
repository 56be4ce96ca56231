/- Layer 19: the program's log: cells in a change's room; a row is written, and made sure. -/
import Derived.Test.YtgffhnggocbjhaaQWpAbc
import Derived.Test.YtgffhnggocbjhaaQDkProg
import Derived.Test.YtgffhnggocbjhaaQWlHome
namespace Go.Proofs.Ytgffhnggocbjhaa
open Go.RowKit
set_option linter.unusedVariables false
set_option maxRecDepth 100000
set_option linter.unusedSimpArgs false

theorem roomC_at (num : Nat) {c : Cl} {k : Nat} {p : Int × ByteArray} (h : c[k]? = some p) : (roomC num c)[k]? = some (((2 + 16 * (num % 2) + k : Nat) : Int), p.2) := by
  have hk : k < c.length := by
    rcases Nat.lt_or_ge k c.length with h' | h'
    · exact h'
    · rw [List.getElem?_eq_none h'] at h; cases h
  unfold roomC
  rw [List.getElem?_map, List.getElem?_range hk]
  show some (((2 + 16 * (num % 2) + k : Nat) : Int), (c.getD k (0, T0)).2) = _
  rw [getD_some h]

set_option maxHeartbeats 1000000 in
theorem winRoom_any (num : Nat) (hv : Value) (t : Nat) {w : World} {H : Nat → Prop} {v : Value} {c : Cl} (C : CW w H v c) (hv2 : ∃ a n cap, hv = .slice a n cap) :
    Calls Try.prog 45 #[headV num hv t, v] w fun e w' => ∃ v', e = .returned v' ∧ CW w' (fun k => k < w.heap.size) v' (roomC num c) ∧ Below w.heap.size w w' := by
  obtain ⟨ha, hn, hcap, rfl⟩ := hv2
  obtain ⟨a, cap, rfl, hc, hm, hx⟩ := C
  obtain ⟨n, hnn⟩ : ∃ n, n = c.length := ⟨_, rfl⟩
  rw [← hnn] at hc hm ⊢
  replace hx := hide hx
  replace hnn := hide hnn
  obtain ⟨r, hr⟩ : ∃ r, Hid (r = roomC num c) := ⟨_, hide rfl⟩
  rw [← hr.out]
  have hrl : Hid (r.length = n) := hide (by rw [hr.out, roomC_len, hnn.out])
  have cr := fun y => wroomAt_any num (.slice ha hn hcap) t y
  unfold headV at cr ⊢
  have gh := grow w (.cells #[.int .i64 (num : Int), .slice ha hn hcap, .int .u16 (t : Int)] 77)
  have BH := Box.new w #[.int .i64 (num : Int), .slice ha hn hcap, .int .u16 (t : Int)] 77
  replace cr := hide cr
  have mk := make_cells (w.alloc (.cells #[.int .i64 (num : Int), .slice ha hn hcap, .int .u16 (t : Int)] 77)) n hm
  have M0 := made_cells (w.alloc (.cells #[.int .i64 (num : Int), .slice ha hn hcap, .int .u16 (t : Int)] 77)) n
  go_enter Try.func45, Try.ntmps45
  go_wp2_with fail
  have hzz : (w.alloc (.cells #[.int .i64 (num : Int), .slice ha hn hcap, .int .u16 (t : Int)] 77)).heap.size = w.heap.size + 1 := by simp
  generalize w.alloc (.cells #[.int .i64 (num : Int), .slice ha hn hcap, .int .u16 (t : Int)] 77) = w1 at *
  obtain ⟨HB, hHB⟩ : ∃ B, B = w.heap.size := ⟨_, rfl⟩
  have g1 := grow w1 (.cells (madeCells #[.int .i64 0, .string ⟨#[]⟩] (n * 2)) 80)
  have BH1 := BH.on g1
  have T1 := onto gh (Nat.le_refl _) g1
  rw [hzz] at M0
  rw [← hHB] at BH1 M0 ⊢
  generalize w1.alloc (.cells (madeCells #[.int .i64 0, .string ⟨#[]⟩] (n * 2)) 80) = x0 at *
  obtain ⟨B, hBB⟩ : ∃ B, B = HB + 1 := ⟨_, rfl⟩
  rw [← hBB] at M0 ⊢
  have hHlt : HB < B := by omega
  have hwB : w.heap.size ≤ B := by omega
  have hwH : w.heap.size ≤ HB := by omega
  replace M0 := hide M0
  replace T1 := hide T1
  replace hBB := hide hBB
  clear mk g1 BH hHB gh hzz
  go_wp2_with fail
  go_loopw [13] (fun i y => ∃ k : Nat, k ≤ n ∧ i = .int .i64 (k : Int) ∧ Hid (CellsIs y B n (fun j => if j < k then r.getD j (0, T0) else (0, ⟨#[]⟩))) ∧ Hid (Below w.heap.size w y) ∧ Hid (Box y HB #[.int .i64 (num : Int), .slice ha hn hcap, .int .u16 (t : Int)])) (fun i _ => n - (intOf i).toNat)
  case atStart => exact ⟨0, Nat.zero_le _, rfl, hide (M0.out.congr fun j _ => by simp), T1, hide BH1⟩
  case round =>
    clear M0 T1 BH1
    obtain ⟨k, hkn, rfl, hM, hB, hH⟩ := hrel
    by_cases h : k < n
    · obtain ⟨p, hp⟩ : ∃ p, c[k]? = some p := ⟨c[k]'(by have := hnn.out; omega), List.getElem?_eq_getElem _⟩
      obtain ⟨g, rfl, hg, -, q0, q1⟩ := hx.out k p hp
      have r0 : wr.cell? ⟨g, k * 2, none⟩ = some (.int .i64 p.1) := (hB.out.cell (p := ⟨g, k * 2, none⟩) hg).trans q0
      have r1 : wr.cell? ⟨g, k * 2 + 1, none⟩ = some (.string p.2) := (hB.out.cell (p := ⟨g, k * 2 + 1, none⟩) hg).trans q1
      obtain ⟨px, hpx⟩ : ∃ px, px = p.2 := ⟨_, rfl⟩
      obtain ⟨K, hK⟩ : ∃ K, K = p.1 := ⟨_, rfl⟩
      obtain ⟨R, hR⟩ : ∃ R, R = 2 + 16 * (num % 2) := ⟨_, rfl⟩
      have hRs : R ≤ 18 := by omega
      have hkx : Hid (r.getD k (0, T0) = (((R + k : Nat) : Int), px)) := hide (by rw [hr.out, getD_some (roomC_at num hp), hpx, hR])
      have cr := cr
      rw [← hR] at cr
      rw [← hpx] at r1
      rw [← hK] at r0
      have hlt := hM.out.lt
      have gc := grow wr (.cells #[.int .i64 K, .string px] 80)
      have BC := Box.new wr #[.int .i64 K, .string px] 80
      have HC := hH.out.on gc
      have MC := hide (hM.out.on gc)
      have TC := hide (onto hB.out (Nat.le_refl _) gc)
      clear q0 q1 hp hpx hK hx hnn hR hM hH
      go_wp2_with fail
      generalize wr.alloc (.cells #[.int .i64 K, .string px] 80) = y0 at *
      obtain ⟨CB, hCB⟩ : ∃ CB, CB = wr.heap.size := ⟨_, rfl⟩
      rw [← hCB] at BC ⊢
      replace hCB := hide hCB
      refine zir [10] (fun y => Box y HB #[.int .i64 (num : Int), .slice ha hn hcap, .int .u16 (t : Int)] ∧ Box y CB #[.int .i64 K, .string px]) (by kernel_rfl) ⟨HC.drew, BC.drew⟩ (fun hHeld => ?_)
      have M1 := hide (MC.out.on (Below.refl _ y0).drew)
      have T1 := hide (onto TC.out (Nat.le_refl _) (Below.refl y0.heap.size y0).drew)
      clear BC gc HC MC TC
      generalize y0.drew = y1 at *
      refine zit 0 ?_ rfl (by kernel_rfl) (fun _ _ _ h => h) (by rfl) (by assumption) ?_ ?_
      rotate_left
      · intro y hSw
        have e0 := hSw.1.cell 0; have e1 := hSw.1.cell 1; have e2 := hSw.1.cell 2; have e3 := hSw.2.cell 1
        go_simp
        try with_reducible rfl
      try simp only [Act.put, zpa, zpb, zpc]
      refine zit 1 ?_ rfl (by kernel_rfl) (fun _ _ _ h => h) (by rfl) (by assumption) ?_ ?_
      rotate_left
      · intro y hSw
        have e0 := hSw.1.cell 0; have e1 := hSw.1.cell 1; have e2 := hSw.1.cell 2; have e3 := hSw.2.cell 1
        go_simp
        try with_reducible rfl
      try simp only [Act.put, zpa, zpb, zpc]
      refine zit 2 ?_ rfl (by kernel_rfl) (fun _ _ _ h => h) (by rfl) (by assumption) ?_ ?_
      rotate_left
      · intro y hSw
        have e0 := hSw.1.cell 0; have e1 := hSw.1.cell 1; have e2 := hSw.1.cell 2; have e3 := hSw.2.cell 1
        go_simp
        try with_reducible rfl
      try simp only [Act.put, zpa, zpb, zpc]
      refine zit 4 ?_ rfl (by kernel_rfl) (fun _ _ _ h => h) (by rfl) (by assumption) ?_ ?_
      rotate_left
      · intro y hSw
        have e0 := hSw.1.cell 0; have e1 := hSw.1.cell 1; have e2 := hSw.1.cell 2; have e3 := hSw.2.cell 1
        go_simp
        try with_reducible rfl
      try simp only [Act.put, zpa, zpb, zpc]
      refine zit 6 ?_ rfl (by kernel_rfl) (fun _ _ _ h => h) (by rfl) (by assumption) ?_ ?_
      rotate_left
      · intro y hSw
        have e0 := hSw.1.cell 0; have e1 := hSw.1.cell 1; have e2 := hSw.1.cell 2; have e3 := hSw.2.cell 1
        go_simp
        try with_reducible rfl
      try simp only [Act.put, zpa, zpb, zpc]
      refine zit 7 ?_ rfl (by kernel_rfl) (fun _ _ _ h => h) (by rfl) (by assumption) ?_ ?_
      rotate_left
      · intro y hSw
        have e0 := hSw.1.cell 0; have e1 := hSw.1.cell 1; have e2 := hSw.1.cell 2; have e3 := hSw.2.cell 1
        go_simp
        try with_reducible rfl
      try simp only [Act.put, zpa, zpb, zpc]
      refine zib 3 rfl (by kernel_rfl) (fun K hK => ?_)
      go_simp
      refine (cr.out _).mono ?_
      rintro q y2 ⟨rfl, hb⟩
      have M2 := hide (M1.out.on hb)
      have T2 := hide (onto T1.out (Nat.le_refl _) hb)
      have hH2 := hide (And.intro (hHeld.1.on hb) (hHeld.2.on hb))
      clear M1 T1 hb hHeld
      go_wp2_with fail
      refine hK.out _ _ (hH2.out) (fun hHeld => ?_)
      clear hK K
      try simp only [Act.put, zpa, zpb, zpc]
      refine zit 5 ?_ rfl (by kernel_rfl) (fun _ _ _ h => h) (by rfl) (by assumption) ?_ ?_
      rotate_left
      · intro y hSw
        skip
        go_simp
        try with_reducible rfl
      try simp only [Act.put, zpa, zpb, zpc]
      refine zit 8 ?_ rfl (by kernel_rfl) (fun _ _ _ h => h) (by rfl) (by assumption) ?_ ?_
      rotate_left
      · intro y hSw
        skip
        go_simp
        try with_reducible rfl
      try simp only [Act.put, zpa, zpb, zpc]
      refine zit 9 ?_ rfl (by kernel_rfl) (fun _ _ _ h => h) (by rfl) (by assumption) ?_ ?_
      rotate_left
      · intro y hSw
        skip
        go_simp
        try with_reducible rfl
      try simp only [Act.put, zpa, zpb, zpc]
      refine zil 10 rfl (by kernel_rfl) (by kernel_rfl) (fun K hK => ?_)
      have m0 := M2.out.n0 k h
      have m1 := M2.out.n1 k h
      have f0 := M2.out.free (k * 2) (by omega)
      have f1 := M2.out.free (k * 2 + 1) (by omega)
      have M3 := hide (M2.out.set h ((R + k : Nat) : Int) px)
      have T3 := hide ((T2.out.setCell (p := ⟨B, k * 2, none⟩) hwB (.int .i64 ((R + k : Nat) : Int))).setCell (p := ⟨B, k * 2 + 1, none⟩) hwB (.string px))
      have H3 := hide ((hH2.out.1.of_heap (y := y2.setCell ⟨B, k * 2, none⟩ (.int .i64 ((R + k : Nat) : Int))) (Below.heap_setCell _ _ _ _ (by show HB ≠ B; omega))).of_heap (y := (y2.setCell ⟨B, k * 2, none⟩ (.int .i64 ((R + k : Nat) : Int))).setCell ⟨B, k * 2 + 1, none⟩ (.string px)) (Below.heap_setCell _ _ _ _ (by show HB ≠ B; omega)))
      have eRk : ((R + k : Nat) : Int) = (R : Int) + (k : Int) := by omega
      rw [eRk] at M3 T3 H3 hkx
      clear M2 T2 hH2
      go_simp
      refine hK.out _ _ ?_
      clear hK K
      try simp only [Act.put, zpa, zpb, zpc]
      refine zid (by kernel_rfl) ?_ _
      go_wp2
      go_roundw
      case rel => exact ⟨k + 1, by omega, by go_num, hide (M3.out.congr fun j _ => by
        by_cases e : j = k
        · subst e; rw [if_pos rfl, if_pos (by omega), hkx.out]
        · rw [if_neg e]
          by_cases e2 : j < k
          · rw [if_pos e2, if_pos (by omega)]
          · rw [if_neg e2, if_neg (by omega)]), T3, H3⟩
      case measure => simp [intOf]; omega
    · obtain rfl : k = n := by omega
      go_wp2
      go_ret
      have M2 := hM.out.congr (g := fun j => r.getD j (0, T0)) (fun j hj => by rw [if_pos hj])
      rw [← hrl.out] at M2 hm ⊢
      exact ⟨_, rfl, M2.row hm _ (by omega) _ (Nat.le_refl _), hB.out⟩

theorem errW_two {d : Dk} {n : Int} {s : ByteArray} (h0 : 0 ≤ n) (h1 : n < d.S.length) (hs : s.size = 64) : d.errW n s = 0 ∨ d.errW n s = 2 := by
  unfold Dk.errW Dk.errAt
  cases d.dead <;> simp [hs] <;> split <;> omega
theorem errF_two (d : Dk) : d.errF = 0 ∨ d.errF = 2 := by
  unfold Dk.errF
  split <;> simp

theorem doC_len (c : Cl) : (doC c).length = c.length + 1 := by simp [doC]
theorem doC_at {c : Cl} {k : Nat} {p : Int × ByteArray} (h : c[k]? = some p) : (doC c)[k]? = some (.w p.1.toNat p.2) := by
  have hk : k < c.length := by
    rcases Nat.lt_or_ge k c.length with h' | h'
    · exact h'
    · rw [List.getElem?_eq_none h'] at h; cases h
  unfold doC
  rw [List.getElem?_append_left (by simpa using hk), List.getElem?_map, h]
  rfl
theorem doC_end (c : Cl) : (doC c)[c.length]? = some .f := by
  unfold doC
  rw [List.getElem?_append_right (by simp)]
  simp

set_option maxHeartbeats 4000000 in
theorem wsettle_any {w : World} {H G : Nat → Prop} {db : Nat} {v : Value} {d : Dk} {c : Cl} (D : PD w H db d) (C : CW w G v c) (hG : ∀ k, k < w.heap.size → H k → G k)
    (hm : d.m + c.length + 1 < 1000000) (hL : d.L.length + c.length < 1000) (hk : ∀ p ∈ c, 0 ≤ p.1 ∧ p.1 < d.S.length ∧ p.2.size = 64) :
    Calls Try.prog 47 #[.pointer (some ⟨db, 0, none⟩), v] w fun e w' => e = .returned (.int .i64 (if (runL (doC c) d).2 then 0 else 2)) ∧
      PD w' (fun k => H k ∨ w.heap.size ≤ k) db (runL (doC c) d).1 ∧ Turn H w w' := by
  obtain ⟨n, hnn⟩ : ∃ n, n = c.length := ⟨_, rfl⟩
  obtain ⟨a, cap, rfl, hc, hmx, hx⟩ := C.less hG
  rw [← hnn] at hc hmx hm hL ⊢
  have R0 := hide (D.mono (G := fun k => H k ∨ w.heap.size ≤ k) (fun k h _ => .inl h))
  have hg := hide D.good.1
  replace hx := hide hx
  replace hnn := hide hnn
  replace hk := hide hk
  clear D hG
  have hin := hide (fun (e : Dk) (he : e.S.length = d.S.length) (p : Int × ByteArray) (hp : p ∈ c) => errW_two (d := e) (hk.out p hp).1 (by rw [he]; exact (hk.out p hp).2.1) (hk.out p hp).2.2)
  obtain ⟨V, hV⟩ : ∃ V : Int, Hid (V = if (runL (doC c) d).2 then 0 else 2) := ⟨_, hide rfl⟩
  rw [← hV.out]
  go_enter Try.func47, Try.ntmps47
  go_wp2
  go_loopw [10] (fun i y => ∃ (k : Nat) (e : Dk), k ≤ n ∧ i = .int .i64 (k : Int) ∧ Hid (PD y (fun k => H k ∨ w.heap.size ≤ k) db e) ∧ Hid (Turn H w y) ∧ Hid (runL ((doC c).take k) d = (e, true))) (fun i _ => n - (intOf i).toNat)
  case atStart => exact ⟨0, d, Nat.zero_le _, rfl, R0, hide (Turn.refl _ _), hide rfl⟩
  case round =>
    clear R0
    obtain ⟨k, e, hkn, rfl, R, T, hr⟩ := hrel
    have hnear : Near d e k := by
      have h1 := near_run ((doC c).take k) hg.out
      rw [hr.out, List.length_take, Nat.min_eq_left (by rw [doC_len, ← hnn.out]; omega)] at h1
      exact h1
    by_cases h : k < n
    · obtain ⟨p, hp⟩ : ∃ p, c[k]? = some p := ⟨c[k]'(by have := hnn.out; omega), List.getElem?_eq_getElem _⟩
      obtain ⟨g, rfl, hgw, hgn, q0, q1⟩ := hx.out k p hp
      have r0 : wr.cell? ⟨g, k * 2, none⟩ = some (.int .i64 p.1) := (World.cell?_of_block (a := ⟨g, k * 2, none⟩) (T.out.block g hgw hgn)).trans q0
      have r1 : wr.cell? ⟨g, k * 2 + 1, none⟩ = some (.string p.2) := (World.cell?_of_block (a := ⟨g, k * 2 + 1, none⟩) (T.out.block g hgw hgn)).trans q1
      obtain ⟨p0, p1, p2⟩ := hk.out p (List.mem_of_getElem? hp)
      have h2 := hin.out e hnear.2.2 p (List.mem_of_getElem? hp)
      have hnx := runL_next (doC_at hp) hr.out
      have gc := grow wr (.cells #[.int .i64 p.1, .string p.2] 80)
      have BC := Box.new wr #[.int .i64 p.1, .string p.2] 80
      have cw := dwrite_any (R.out.on gc) (by have := hnear.1; omega) (by have := hnear.2.1; omega) p.1 p.2
      obtain ⟨K, hK⟩ : ∃ K : Int, K = p.1 := ⟨_, rfl⟩
      obtain ⟨px, hpx⟩ : ∃ px, px = p.2 := ⟨_, rfl⟩
      rw [← hK] at r0 hnx cw gc BC h2 p0
      rw [← hpx] at r1 hnx cw gc BC h2
      rw [show Do.on e (.w K.toNat px) = e.wrote K px by show e.wrote ((K.toNat : Nat) : Int) px = _; rw [Int.toNat_of_nonneg p0], show Do.err e (.w K.toNat px) = e.errW K px by show e.errW ((K.toNat : Nat) : Int) px = _; rw [Int.toNat_of_nonneg p0]] at hnx
      obtain ⟨E, hE⟩ : ∃ E, E = e.errW K px := ⟨_, rfl⟩
      obtain ⟨f, hf⟩ : ∃ f, f = e.wrote K px := ⟨_, rfl⟩
      rw [← hE, ← hf] at hnx cw
      rw [← hE] at h2
      have T1 := hide (T.out.trans (Turn.of gc) (fun b h => .inl h))
      have hszw := Nat.le_trans T.out.size gc.size
      have c0 := BC.cell 0
      have c1 := BC.cell 1
      replace hnx := hide hnx
      clear q0 q1 hp hK hpx hE hf R T hr hnear p0 p1 p2 hk gc
      go_wp2_with fail
      generalize wr.alloc (.cells #[.int .i64 K, .string px] 80) = y0 at *
      refine cw.mono ?_
      rintro q y2 ⟨rfl, R2, T2⟩
      have R3 := hide (R2.mono (G := fun j => H j ∨ w.heap.size ≤ j) (fun j h _ => by
        rcases h with h | h
        · exact h
        · right; omega))
      have T3 := hide (T1.out.trans T2 (fun b h => h))
      clear T1 T2 R2 cw BC c0 c1
      rcases h2 with h2 | h2
      · subst h2
        go_wp2
        go_roundw
        case rel => exact ⟨k + 1, f, by omega, by go_num, R3, T3, hide (by rw [hnx.out]; rfl)⟩
        case measure => simp [intOf]; omega
      · subst h2
        have hst : Hid (runL (doC c) d = (f, false)) := hide (runL_stop (k := k + 1) (by rw [hnx.out]; rfl))
        go_wp2
        go_ret
        have hV2 := hV.out
        rw [hst.out] at hV2 ⊢
        exact ⟨by rw [hV2]; rfl, R3.out, T3.out⟩
    · obtain rfl : k = n := by omega
      have hnx := runL_next (hnn.out ▸ doC_end c) hr.out
      rw [runL_whole (by rw [doC_len, ← hnn.out]; exact Nat.le_refl _)] at hnx
      simp only [Do.on, Do.err] at hnx
      have cf := dflush_any R.out (by have := hnear.1; omega)
      have R4 := T.out.size
      have h2 := errF_two e
      go_wp2_with fail
      refine cf.mono ?_
      rintro e2 w2 ⟨rfl, R3, T3⟩
      have R5 := hide (R3.mono (G := fun j => H j ∨ w.heap.size ≤ j) (fun j h _ => by
        rcases h with h | h
        · exact h
        · right; omega))
      have T5 := hide (T.out.trans T3 (fun b h => h))
      obtain ⟨E, hE⟩ : ∃ E, E = e.errF := ⟨_, rfl⟩
      have hnx : Hid (runL (doC c) d = (e.flush, decide (E = 0))) := hide (by rw [hE]; exact hnx)
      rw [← hE] at h2 ⊢
      clear R3 T3 R T cf hr hnear
      replace hE := hide hE
      go_wp2
      go_ret
      have hV2 := hV.out
      rw [hnx.out] at hV2 ⊢
      refine ⟨?_, R5.out, T5.out⟩
      rw [hV2]
      rcases h2 with rfl | rfl <;> rfl

end Go.Proofs.Ytgffhnggocbjhaa
