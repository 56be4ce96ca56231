/- Layer 19: the program's log: a head's cells, as its room has them. -/
import Derived.Test.YtgffhnggocbjhaaQWpJ
namespace Go.Proofs.Ytgffhnggocbjhaa
open Go.RowKit
set_option linter.unusedVariables false
set_option maxRecDepth 100000
set_option linter.unusedSimpArgs false

/-- A head's cells. -/
def roomK (d : Dk) (num : Nat) (ks : List Int) : Cl := (List.range ks.length).map fun i => (ks.getD i 0, d.told ((2 + 16 * (num % 2) + i : Nat) : Int))
theorem roomK_len (d : Dk) (num : Nat) (ks : List Int) : (roomK d num ks).length = ks.length := by simp [roomK]
theorem roomK_at (d : Dk) (num : Nat) {ks : List Int} {k : Nat} {x : Int} (h : ks[k]? = some x) : (roomK d num ks)[k]? = some (x, d.told ((2 + 16 * (num % 2) + k : Nat) : Int)) := by
  have hk : k < ks.length := by
    rcases Nat.lt_or_ge k ks.length with h' | h'
    · exact h'
    · rw [List.getElem?_eq_none h'] at h; cases h
  unfold roomK
  rw [List.getElem?_map, List.getElem?_range hk]
  show some (ks.getD k 0, _) = _
  rw [getD_some h]

/-- What cellsOf answers. -/
structure CellsOf (w w' : World) (r : Cl) (t : Nat) (er : Int) (v : Value) : Prop where
  err : er = if sumC r = t then 0 else 232
  row : er = 0 → CW w' (fun k => k < w.heap.size) v r
  far : Below w.heap.size w w'

set_option maxHeartbeats 1000000 in
theorem wcells_any {w : World} {H G : Nat → Prop} {db : Nat} {d : Dk} (D : PD w H db d) (hd : d.dead = false) (h42 : 42 ≤ d.S.length) (num t : Nat) {v : Value} {ks : List Int} (I : IW w G v ks) (h16 : ks.length ≤ 16) :
    Calls Try.prog 64 #[.pointer (some ⟨db, 0, none⟩), headV num v t] w fun e w' => ∃ v' er, e = .returned (.tuple #[v', .int .i64 er]) ∧ CellsOf w w' (roomK d num ks) t er v' := by
  obtain ⟨ha, hcap, rfl, hc, hm, hx⟩ := I
  obtain ⟨n, hnn⟩ : ∃ n, n = ks.length := ⟨_, rfl⟩
  rw [← hnn] at hc hm h16 ⊢
  have hg := hide D.good.1
  have hsm := hide (fun p (hp : p ∈ roomK d num ks) => show p.2.size ≤ 64 by
    obtain ⟨i, -, rfl⟩ := List.mem_map.1 hp
    exact told_le hg.out _)
  obtain ⟨r, hr⟩ : ∃ r, Hid (r = roomK d num ks) := ⟨_, hide rfl⟩
  rw [← hr.out] at hsm ⊢
  have hrl : Hid (r.length = n) := hide (by rw [hr.out, roomK_len, hnn])
  have hE : Hid (∀ k : Nat, k < 42 → d.errAt (k : Int) = 0) := hide (fun k hk => errAt_live hd (by omega))
  have cr := hide (fun y => wroomAt_any num (.slice ha n hcap) t y)
  unfold headV at cr ⊢
  have BH := Box.new w #[.int .i64 (num : Int), .slice ha n hcap, .int .u16 (t : Int)] 77
  have gh := grow w (.cells #[.int .i64 (num : Int), .slice ha n hcap, .int .u16 (t : Int)] 77)
  have hzz : (w.alloc (.cells #[.int .i64 (num : Int), .slice ha n hcap, .int .u16 (t : Int)] 77)).heap.size = w.heap.size + 1 := by simp
  have mk := make_cells (w.alloc (.cells #[.int .i64 (num : Int), .slice ha n hcap, .int .u16 (t : Int)] 77)) n hm
  have M0 := made_cells (w.alloc (.cells #[.int .i64 (num : Int), .slice ha n hcap, .int .u16 (t : Int)] 77)) n
  have D0 := (D.mono (G := fun k => H k ∧ k < w.heap.size) (fun k h hl => ⟨h, hl⟩)).on gh
  replace hx := hide hx
  replace hnn := hide hnn
  go_enter Try.func64, Try.ntmps64
  go_wp2_with fail
  generalize w.alloc (.cells #[.int .i64 (num : Int), .slice ha n hcap, .int .u16 (t : Int)] 77) = w1 at *
  have g1 := grow w1 (.cells (madeCells #[.int .i64 0, .string ⟨#[]⟩] (n * 2)) 80)
  have BH1 := BH.on g1
  have T1 := onto gh (Nat.le_refl _) g1
  have D1 := D0.on g1
  rw [hzz] at M0
  generalize w1.alloc (.cells (madeCells #[.int .i64 0, .string ⟨#[]⟩] (n * 2)) 80) = x0 at *
  obtain ⟨HB, hHB⟩ : ∃ B, B = w.heap.size := ⟨_, rfl⟩
  rw [← hHB] at BH1 M0 ⊢
  obtain ⟨B, hBB⟩ : ∃ B, B = HB + 1 := ⟨_, rfl⟩
  rw [← hBB] at M0 ⊢
  replace M0 := hide M0
  replace T1 := hide T1
  replace D1 := hide D1
  replace BH1 := hide BH1
  replace hBB := hide hBB
  replace hHB := hide hHB
  clear mk g1 BH gh hzz D0
  go_wp2_with fail
  go_loopw [18] (fun i y => ∃ k : Nat, k ≤ n ∧ i = .int .i64 (k : Int) ∧ Hid (CellsIs y B n (fun j => if j < k then r.getD j (0, T0) else (0, ⟨#[]⟩))) ∧ Hid (Below w.heap.size w y) ∧ Hid (PD y (fun k => H k ∧ k < w.heap.size) db d) ∧ Hid (Box y HB #[.int .i64 (num : Int), .slice ha n hcap, .int .u16 (t : Int)])) (fun i _ => n - (intOf i).toNat)
  case atStart => exact ⟨0, Nat.zero_le _, rfl, hide (M0.out.congr fun j _ => by simp), T1, D1, BH1⟩
  case round =>
    clear M0 T1 BH1 D1
    obtain ⟨k, hkn, rfl, hM, hB, hD, hH⟩ := hrel
    have h0 : wr.cell? ⟨HB, 0, none⟩ = some (.int .i64 (num : Int)) := hH.out.cell 0
    have h1 : wr.cell? ⟨HB, 1, none⟩ = some (.slice ha n hcap) := hH.out.cell 1
    have h2 : wr.cell? ⟨HB, 2, none⟩ = some (.int .u16 (t : Int)) := hH.out.cell 2
    by_cases h : k < n
    · obtain ⟨x, hp⟩ : ∃ p, ks[k]? = some p := ⟨ks[k]'(by have := hnn.out; omega), List.getElem?_eq_getElem _⟩
      obtain ⟨g, rfl, hg2, -, q0⟩ := hx.out k x hp
      have r0 : wr.cell? ⟨g, k, none⟩ = some (.int .i64 x) := (hB.out.cell (p := ⟨g, k, none⟩) hg2).trans q0
      obtain ⟨R, hR⟩ : ∃ R, R = 2 + 16 * (num % 2) := ⟨_, rfl⟩
      have hRs : R ≤ 18 := by omega
      have hat := roomK_at d num hp
      rw [← hR] at hat
      have hkx : Hid (r.getD k (0, T0) = (x, d.told ((R + k : Nat) : Int))) := hide (by rw [hr.out, getD_some hat])
      have cr := cr
      rw [← hR] at cr
      obtain ⟨s, hs⟩ : ∃ s, s = d.told ((R + k : Nat) : Int) := ⟨_, rfl⟩
      have cd := hide (fun (y : World) (Dy : PD y (fun k => H k ∧ k < w.heap.size) db d) => dread_any Dy ((R + k : Nat) : Int))
      rw [hE.out (R + k) (by omega), ← hs] at cd
      rw [← hs] at hkx
      have hlt := hM.out.lt
      have eRk : ((R + k : Nat) : Int) = (R : Int) + (k : Int) := by omega
      rw [eRk] at cd
      have hwR : IntKind.i64.wrap ((R : Int) + (k : Int)) = (R : Int) + (k : Int) := by simp [IntKind.wrap, IntKind.bits, IntKind.signed]; omega
      clear q0 hp hx hnn hR hs eRk hat
      go_wp2_with fail
      refine (cr.out _).mono ?_
      rintro e y1 ⟨rfl, b1⟩
      have M1 := hide (hM.out.on b1)
      have T1 := hide (onto hB.out (Nat.le_refl _) b1)
      have D1 := hide (hD.out.on b1)
      have H1 := hide (hH.out.on b1)
      clear hM hB hD hH b1 r0 h0 h1 h2 cr
      go_wp2_with fail
      refine (cd.out _ D1.out).mono ?_
      rintro e y2 ⟨rfl, b2⟩
      have M2 := M1.out.on b2
      have T2 := onto T1.out (Nat.le_refl _) b2
      have D2 := D1.out.on b2
      have H2 := H1.out.on b2
      have m0 := M2.n0 k h
      have m1 := M2.n1 k h
      have f0 := M2.free (k * 2) (by omega)
      have f1 := M2.free (k * 2 + 1) (by omega)
      have hwB : w.heap.size ≤ B := by rw [hBB.out, hHB.out]; omega
      have hHne : HB ≠ B := by rw [hBB.out]; omega
      have M3 := hide (M2.set h x s)
      have T3 := hide ((T2.setCell (p := ⟨B, k * 2, none⟩) hwB (.int .i64 x)).setCell (p := ⟨B, k * 2 + 1, none⟩) hwB (.string s))
      have H3 := hide ((H2.of_heap (y := y2.setCell ⟨B, k * 2, none⟩ (.int .i64 x)) (Below.heap_setCell _ _ _ _ hHne)).of_heap (y := (y2.setCell ⟨B, k * 2, none⟩ (.int .i64 x)).setCell ⟨B, k * 2 + 1, none⟩ (.string s)) (Below.heap_setCell _ _ _ _ hHne))
      have D3 := hide ((D2.keep (y := y2.setCell ⟨B, k * 2, none⟩ (.int .i64 x)) (fun j hj _ => Below.heap_setCell _ _ _ _ (by show j ≠ B; omega))).keep (y := (y2.setCell ⟨B, k * 2, none⟩ (.int .i64 x)).setCell ⟨B, k * 2 + 1, none⟩ (.string s)) (fun j hj _ => Below.heap_setCell _ _ _ _ (by show j ≠ B; omega)))
      clear M1 T1 D1 H1 M2 T2 D2 H2 b2 cd
      go_wp2
      go_roundw
      case rel => exact ⟨k + 1, by omega, by go_num, hide (M3.out.congr fun j _ => by
        by_cases e : j = k
        · subst e; rw [if_pos rfl, if_pos (by omega), hkx.out]
        · rw [if_neg e]
          by_cases e2 : j < k
          · rw [if_pos e2, if_pos (by omega)]
          · rw [if_neg e2, if_neg (by omega)]), T3, D3, H3⟩
      case measure => simp [intOf]; omega
    · obtain rfl : k = n := by omega
      have M2 := hM.out.congr (g := fun j => r.getD j (0, T0)) (fun j hj => by rw [if_pos hj])
      have hwB : w.heap.size ≤ B := by rw [hBB.out, hHB.out]; omega
      have hmr : r.length ≤ 1000000 := by rw [hrl.out]; exact hm
      rw [← hrl.out] at M2
      have C1 := M2.row hmr (fun k => k < w.heap.size) (by omega) r.length (Nat.le_refl _)
      rw [hrl.out] at C1
      have cs := wsum_any (C1.on (Below.refl wr.heap.size wr).drew) hsm.out
      have C1 := hide (C1.on (Below.refl wr.heap.size wr).drew)
      have H1 := hH.out.on (Below.refl wr.heap.size wr).drew
      have T1 := hide (onto hB.out (Nat.le_refl _) (Below.refl wr.heap.size wr).drew)
      have er : sumC r < 65536 := sumC_lt r
      obtain ⟨S, hS⟩ : ∃ S, Hid (S = sumC r) := ⟨_, hide rfl⟩
      rw [← hS.out] at cs er
      clear h0 h1 h2 hM hD hB hH
      go_wp2_with fail
      refine zir [] (fun y => Box y HB #[.int .i64 (num : Int), .slice ha k hcap, .int .u16 (t : Int)]) (by kernel_rfl) H1 (fun hHeld => ?_)
      generalize wr.drew = y1 at *
      refine zit 0 ?_ rfl (by kernel_rfl) (fun _ _ _ h => h) (by rfl) (by assumption) ?_ ?_
      rotate_left
      · intro y hSw
        have e2 := hSw.cell 2
        go_simp
        try with_reducible rfl
      try simp only [Act.put, zpa, zpb, zpc]
      refine zit 2 ?_ rfl (by kernel_rfl) (fun _ _ _ h => h) (by rfl) (by assumption) ?_ ?_
      rotate_left
      · intro y hSw
        have e2 := hSw.cell 2
        go_simp
        try with_reducible rfl
      try simp only [Act.put, zpa, zpb, zpc]
      refine zit 3 ?_ rfl (by kernel_rfl) (fun _ _ _ h => h) (by rfl) (by assumption) ?_ ?_
      rotate_left
      · intro y hSw
        have e2 := hSw.cell 2
        go_simp
        try with_reducible rfl
      try simp only [Act.put, zpa, zpb, zpc]
      refine zib 1 rfl (by kernel_rfl) (fun K hK => ?_)
      go_simp
      refine cs.mono ?_
      rintro e y ⟨rfl, b⟩
      have C2 := C1.out.on b
      have T2 := onto T1.out (Nat.le_refl _) b
      have H2 := H1.on b
      clear cs hHeld H1
      go_wp2_with fail
      refine hK.out _ _ (H2) (fun hHeld => ?_)
      clear hK K
      try simp only [Act.put, zpa, zpb, zpc]
      refine zit 4 ?_ rfl (by kernel_rfl) (fun _ _ _ h => h) (by rfl) (by assumption) ?_ ?_
      rotate_left
      · intro y hSw
        skip
        go_simp
        try with_reducible rfl
      try simp only [Act.put, zpa, zpb, zpc]
      clear hHeld H2
      refine zid (by kernel_rfl) ?_ _
      by_cases hst : S = t
      · have fin : Hid (CellsOf w y r t 0 (.slice (some ⟨B, 0, none⟩) k k)) := hide ⟨by rw [← hS.out, if_pos hst], fun _ => C2, T2⟩
        have hst' : (S : Int) = (t : Int) := by omega
        clear C1 C2 T2 b T1
        go_wp2
        go_ret2
        exact ⟨_, _, rfl, fin.out⟩
      · have fin : Hid (CellsOf w y r t 232 (.slice none 0 0)) := hide ⟨by rw [← hS.out, if_neg hst], (fun h => by cases h), T2⟩
        have hst' : ¬ (S : Int) = (t : Int) := by omega
        clear C1 C2 T2 b T1
        go_wp2
        go_ret2
        exact ⟨_, _, rfl, fin.out⟩

end Go.Proofs.Ytgffhnggocbjhaa
