/- Layer 19: the program's log: Commit. -/
import Derived.Test.YtgffhnggocbjhaaQWpM
namespace Go.Proofs.Ytgffhnggocbjhaa
open Go.RowKit
set_option linter.unusedVariables false
set_option maxRecDepth 100000
set_option linter.unusedSimpArgs false

theorem PL.mono {w : World} {H G : Nat → Prop} {lb db : Nat} {l : Lg} (h : PL w H lb db l) (hG : ∀ k, H k → k < w.heap.size → G k) (ho : ¬ G lb) : PL w G lb db l := ⟨h.log, ho, h.disk.mono hG, h.fit⟩

/-- What Commit does, row by row. -/
def rowsC (num : Nat) (c : Cl) : List Cl := [roomC num c, [(((num % 2 : Nat) : Int), headC num c)], placeC c]
def preC (num : Nat) (c : Cl) (k : Nat) : List Do := ((rowsC num c).take k).flatMap doC
theorem rows_all {num : Nat} {c : Cl} (h : ∀ p ∈ c, 0 ≤ p.1) : changeD num c = (rowsC num c).flatMap doC := by
  unfold changeD rowsC
  simp only [List.flatMap_cons, List.flatMap_nil, List.append_nil]
  rw [← roomD_is, ← homeD_is h, show doC [(((num % 2 : Nat) : Int), headC num c)] = [.w (num % 2) (headC num c), .f] from rfl]
  simp [List.append_assoc]
theorem pre_next {num : Nat} {c : Cl} {k : Nat} {r : Cl} (h : (rowsC num c)[k]? = some r) : preC num c (k + 1) = preC num c k ++ doC r := by
  unfold preC
  rw [List.take_add_one, h]
  simp
theorem pre_rest {num : Nat} {c : Cl} (h : ∀ p ∈ c, 0 ≤ p.1) (k : Nat) : changeD num c = preC num c k ++ ((rowsC num c).drop k).flatMap doC := by
  rw [rows_all h]
  unfold preC
  rw [← List.flatMap_append, List.take_append_drop]
theorem pre_end {num : Nat} {c : Cl} (h : ∀ p ∈ c, 0 ≤ p.1) : preC num c 3 = changeD num c := by
  rw [rows_all h]
  rfl
theorem pre_len (num : Nat) (c : Cl) (h : c.length ≤ 16) (k : Nat) : (preC num c k).length ≤ 36 := by
  have e : (rowsC num c).flatMap doC = preC num c k ++ ((rowsC num c).drop k).flatMap doC := by
    unfold preC
    rw [← List.flatMap_append, List.take_append_drop]
  have l1 : ((rowsC num c).flatMap doC).length ≤ 36 := by
    unfold rowsC
    simp only [List.flatMap_cons, List.flatMap_nil, List.length_append, doC_len, roomC_len, placeC_len, List.length_nil, List.length_cons]
    omega
  rw [e, List.length_append] at l1
  omega
theorem runL_fall {l r : List Do} {d e : Dk} (h : runL l d = (e, false)) : runL (l ++ r) d = (e, false) := by
  rw [runL_app, h]
  simp
theorem runL_on {l r : List Do} {d e : Dk} (h : runL l d = (e, true)) : runL (l ++ r) d = runL r e := by
  rw [runL_app, h]
  simp
theorem rows_ok {num : Nat} {c : Cl} {own : Int} {n : Nat} (ho : own = (n : Int) - 34) (h42 : 42 ≤ n) (h16 : c.length ≤ 16) (h : ∀ p ∈ c, (0 ≤ p.1 ∧ p.1 < own) ∧ p.2.size = 64) {k : Nat} {r : Cl} (hr : (rowsC num c)[k]? = some r) :
    r.length ≤ 16 ∧ ∀ p ∈ r, 0 ≤ p.1 ∧ p.1 < (n : Int) ∧ p.2.size = 64 := by
  have hm := List.mem_of_getElem? hr
  unfold rowsC at hm
  simp only [List.mem_cons, List.not_mem_nil, or_false] at hm
  rcases hm with rfl | rfl | rfl
  · refine ⟨by rw [roomC_len]; exact h16, fun p hp => ?_⟩
    obtain ⟨i, hi, rfl⟩ := List.mem_map.1 hp
    have hi' := List.mem_range.1 hi
    refine ⟨by show (0 : Int) ≤ ((2 + 16 * (num % 2) + i : Nat) : Int); omega, by show ((2 + 16 * (num % 2) + i : Nat) : Int) < _; omega, ?_⟩
    exact (h _ (getD_mem hi')).2
  · refine ⟨by simp, fun p hp => ?_⟩
    simp only [List.mem_singleton] at hp
    subst hp
    exact ⟨by show (0 : Int) ≤ ((num % 2 : Nat) : Int); omega, by show ((num % 2 : Nat) : Int) < _; omega, headT_size _ _ _⟩
  · refine ⟨by rw [placeC_len]; exact h16, fun p hp => ?_⟩
    obtain ⟨q, hq, rfl⟩ := List.mem_map.1 hp
    have := h q hq
    exact ⟨by show 0 ≤ 34 + q.1; omega, by show 34 + q.1 < _; omega, this.2⟩

/-- What Commit leaves. -/
structure Committed (w w' : World) (H : Nat → Prop) (lb db : Nat) (l : Lg) : Prop where
  log : PL w' (fun k => H k ∨ w.heap.size ≤ k) lb db l
  far : Turn (fun k => H k ∨ k = lb) w w'

theorem PL.still {w y : World} {H : Nat → Prop} {lb db : Nat} {l : Lg} (L : PL w H lb db l) (b : Below w.heap.size w y) : Committed w y H lb db l :=
  ⟨(L.on b).mono (fun k h _ => .inl h) (fun h => by have := L.log.2.2; rcases h with h | h; exact L.out h; omega), Turn.of b⟩

set_option maxHeartbeats 2000000 in
theorem lcommit_any {w : World} {H G : Nat → Prop} {lb db : Nat} {l : Lg} {v : Value} {c : Cl} (L : PL w H lb db l) (C : CW w G v c) (hG : ∀ k, k < w.heap.size → (H k ∨ k = lb) → G k) (hn : l.n < 4294967296) (hm : l.d.m + 100 < 1000000) (hL : l.d.L.length + 100 < 1000) :
    Calls Try.prog 9 #[.pointer (some ⟨lb, 0, none⟩), v] w fun e w' => e = .returned (.int .i64 (l.errC c)) ∧ Committed w w' H lb db (l.commit c) := by
  have C0 := C
  obtain ⟨ca, cp, rfl, -, hlm, -⟩ := C
  have b0 : w.cell? ⟨lb, 0, none⟩ = some (.pointer (some ⟨db, 0, none⟩)) := L.log.cell 0
  have b1 : w.cell? ⟨lb, 1, none⟩ = some (.int .i64 (l.n : Int)) := L.log.cell 1
  have b2 : w.cell? ⟨lb, 2, none⟩ = some (.bool l.dead) := L.log.cell 2
  obtain ⟨n, hnn⟩ : ∃ n, n = c.length := ⟨_, rfl⟩
  obtain ⟨E, hE⟩ : ∃ E, Hid (E = l.errC c) := ⟨_, hide rfl⟩
  obtain ⟨l2, hl2⟩ : ∃ l2, Hid (l2 = l.commit c) := ⟨_, hide rfl⟩
  rw [← hE.out, ← hl2.out, ← hnn]
  rw [← hnn] at hlm
  replace hnn := hide hnn
  have hno : l.refuse c ≠ 0 → E = l.refuse c ∧ l2 = l := fun h => ⟨by rw [hE.out]; unfold Lg.errC; rw [if_pos h], by rw [hl2.out]; unfold Lg.commit; rw [if_pos h]⟩
  have hs0 := hide (fun (y : World) (b : Below w.heap.size w y) => L.still b)
  by_cases h16 : 16 < n
  · obtain ⟨rfl, rfl⟩ := hno (by unfold Lg.refuse; rw [if_pos (.inl (hnn.out ▸ h16))]; decide)
    have e1 : l2.refuse c = 191 := by unfold Lg.refuse; rw [if_pos (.inl (hnn.out ▸ h16))]
    rw [e1]
    clear e1 hno hE hl2 C0 L
    go_enter Try.func9, Try.ntmps9
    go_wp2
    go_ret
    exact ⟨rfl, hs0.out _ (Below.refl _ _)⟩
  · by_cases hn4 : l.n = 4294967295
    · obtain ⟨rfl, rfl⟩ := hno (by unfold Lg.refuse; rw [if_pos (.inr (by omega))]; decide)
      have e1 : l2.refuse c = 191 := by unfold Lg.refuse; rw [if_pos (.inr (by omega))]
      rw [e1]
      have hn5 : (l2.n : Int) = 4294967295 := by omega
      clear e1 hno hE hl2 C0 L
      go_enter Try.func9, Try.ntmps9
      go_wp2
      go_ret
      exact ⟨rfl, hs0.out _ (Below.refl _ _)⟩
    · have hf : ¬ (16 < c.length ∨ 4294967295 ≤ l.n) := by have := hnn.out; omega
      have hn5 : ((l.n : Int) == 4294967295) = false := by simp; omega
      have h16' : decide ((16 : Int) < (n : Int)) = false := by simp; omega
      have cw := wwhole_any C0
      rw [← hnn.out] at cw
      have cl := hide (fun (y : World) (b : Below w.heap.size w y) => wplaces_any (C0.on b))
      rw [← hnn.out] at cl
      have cs := hide (fun (y : World) (b : Below w.heap.size w y) => lsec_any (L.on b))
      cases ha : c.all (fun p => decide (p.2.size = 64)) with
      | false =>
        have e1 : l.refuse c = 1 := by unfold Lg.refuse; rw [if_neg hf, if_pos ha]
        obtain ⟨rfl, rfl⟩ := hno (by rw [e1]; decide)
        rw [e1]
        rw [ha] at cw
        clear e1 hno hE hl2 C0 L hf ha cl cs
        go_enter Try.func9, Try.ntmps9
        go_wp2_with fail
        refine cw.mono ?_
        rintro e w1 ⟨rfl, b1'⟩
        have fin := hide (hs0.out w1 b1')
        clear hs0 b1' cw
        go_wp2
        go_ret
        exact ⟨rfl, fin.out⟩
      | true =>
        rw [ha] at cw
        have hlb := L.log.2.2
        have hr0 : l.refuse c = if riseK l.d.own (c.map (·.1)) c.length = false then 1 else if l.dead then 2 else 0 := by unfold Lg.refuse; rw [if_neg hf, if_neg (by rw [ha]; decide)]
        obtain ⟨R, hR⟩ : ∃ R, R = riseK l.d.own (c.map (·.1)) c.length := ⟨_, rfl⟩
        rw [← hR] at hr0
        have hkl : (c.map (·.1)).length = c.length := List.length_map ..
        have cr := hide (fun (y : World) (v : Value) (H2 : Nat → Prop) (I : IW y H2 v (c.map (·.1))) => wrise_any I l.d.own)
        rw [hkl, ← hR] at cr
        obtain ⟨O, hO⟩ : ∃ O, O = l.d.own := ⟨_, rfl⟩
        rw [← hO] at cr cs
        replace hno := hide hno
        replace hr0 := hide hr0
        replace ha := hide ha
        replace hR := hide hR
        replace hf := hide hf
        replace hO := hide hO
        clear hkl
        go_enter Try.func9, Try.ntmps9
        go_wp2_with fail
        refine cw.mono ?_
        rintro e w1 ⟨rfl, T1⟩
        clear cw
        go_wp2_with fail
        refine (cl.out _ T1).mono ?_
        rintro e w2 ⟨v2, rfl, I2, T2⟩
        obtain ⟨a2, c2, hv⟩ := I2.shape
        subst hv
        replace T2 := onto T1 (Nat.le_refl _) T2
        have hb0 : w2.cell? ⟨lb, 0, none⟩ = some (.pointer (some ⟨db, 0, none⟩)) := (T2.cell (p := ⟨lb, 0, none⟩) hlb).trans b0
        clear T1 cl
        have hcs := cs.out w2 T2
        clear cs
        generalize (c.map (·.1)).length = kl at *
        go_wp2_with fail
        refine hcs.mono ?_
        rintro e w3 ⟨rfl, h3⟩
        subst h3
        clear hcs
        have cr3 := cr.out _ _ _ I2
        clear cr
        go_wp2_with fail
        refine cr3.mono ?_
        rintro e w4 ⟨rfl, T4⟩
        replace T4 := onto T2 (Nat.le_refl _) T4
        have hb2 : w4.cell? ⟨lb, 2, none⟩ = some (.bool l.dead) := (T4.cell (p := ⟨lb, 2, none⟩) hlb).trans b2
        have hb1 : w4.cell? ⟨lb, 1, none⟩ = some (.int .i64 (l.n : Int)) := (T4.cell (p := ⟨lb, 1, none⟩) hlb).trans b1
        clear cr3 I2 T2 hb0 b0 b1 b2
        cases R with
        | false =>
          have e1 : l.refuse c = 1 := by rw [hr0.out]; rfl
          have hh := hno.out (by rw [e1]; decide)
          rw [e1] at hh
          obtain ⟨rfl, rfl⟩ := hh
          have fin := hide (hs0.out w4 T4)
          clear hs0 e1 hr0 hno hE hl2 T4
          go_wp2
          go_ret
          exact ⟨rfl, fin.out⟩
        | true =>
          cases hd : l.dead with
          | true =>
            have e1 : l.refuse c = 2 := by rw [hr0.out, hd]; rfl
            have hh := hno.out (by rw [e1]; decide)
            rw [e1] at hh
            obtain ⟨rfl, rfl⟩ := hh
            rw [hd] at hb2
            have fin := hide (hs0.out w4 T4)
            clear hs0 e1 hr0 hno hE hl2 T4
            go_wp2
            go_ret
            exact ⟨rfl, fin.out⟩
          | false =>
            have e1 : l.refuse c = 0 := by rw [hr0.out, hd]; rfl
            have hok : Hid (∀ p ∈ c, (0 ≤ p.1 ∧ p.1 < l.d.own) ∧ p.2.size = 64) := hide (fun p hp => by
              have h1 := ha.out
              rw [List.all_eq_true] at h1
              obtain ⟨i, hi, hpi⟩ := List.getElem_of_mem hp
              have h2 := rise_in hR.out.symm i hi
              rw [getD_some (x := p.1) (by rw [List.getElem?_map, List.getElem?_eq_getElem hi, hpi]; rfl)] at h2
              exact ⟨h2, of_decide_eq_true (h1 p hp)⟩)
            obtain ⟨num, hnum⟩ : ∃ num, num = l.n + 1 := ⟨_, rfl⟩
            have hnumI : (num : Int) = (l.n : Int) + 1 := by omega
            have hnum4 : num < 4294967296 := by omega
            have hEv : Hid (E = if (runL (changeD num c) l.d).2 then 0 else 2) := hide (by rw [hE.out]; unfold Lg.errC; rw [if_neg (by rw [e1]; decide), hnum])
            have hlv : Hid (l2 = if (runL (changeD num c) l.d).2 then ⟨num, false, (runL (changeD num c) l.d).1⟩ else ⟨l.n, true, (runL (changeD num c) l.d).1⟩) := hide (by rw [hl2.out]; unfold Lg.commit; rw [if_neg (by rw [e1]; decide), hnum])
            have hh := wheadOf_any num (C0.on T4) (fun p hp => by rw [(hok.out p hp).2]; decide)
            rw [hnumI, ← hnn.out] at hh
            have hwn : IntKind.i64.wrap ((l.n : Int) + 1) = (l.n : Int) + 1 := by simp [IntKind.wrap, IntKind.bits, IntKind.signed]; omega
            rw [hd] at hb2
            replace hh := hide hh
            replace hnum := hide hnum
            replace hnumI := hide hnumI
            replace hd := hide hd
            clear hs0 e1 hr0 hno hE hl2 hR
            go_wp2_with fail
            refine hh.out.mono ?_
            rintro e w5 ⟨v5, rfl, I5, b5⟩
            obtain ⟨a5, c5, hv⟩ := I5.shape
            rw [List.length_map] at hv
            subst hv
            unfold headV
            rw [← hnumI.out]
            obtain ⟨t, ht⟩ : ∃ t, t = sumC c := ⟨_, rfl⟩
            have ht6 : t < 65536 := by rw [ht]; exact sumC_lt _
            rw [← ht, ← hnn.out]
            rw [← hnn.out] at I5
            replace ht := hide ht
            have T5 := onto T4 (Nat.le_refl _) b5
            have I5' := I5.less (G := fun k => k < w.heap.size) (fun k _ h => Nat.lt_of_lt_of_le h T4.size)
            have BH := Box.new w5 #[.int .i64 (num : Int), .slice a5 n c5, .int .u16 (t : Int)] 77
            have gh := grow w5 (.cells #[.int .i64 (num : Int), .slice a5 n c5, .int .u16 (t : Int)] 77)
            have hHB := T5.size
            have T6 := onto T5 (Nat.le_refl _) gh
            have I6 := I5'.on gh
            clear hh T4 b5 I5 I5' T5 hwn hb1 hb2 gh
            obtain ⟨hT, hTe⟩ : ∃ s, Hid (s = headC num c) := ⟨_, hide rfl⟩
            have hTs : hT.size = 64 := by rw [hTe.out]; exact headT_size _ _ _
            have hown : l.d.own = (l.d.S.length : Int) - 34 := rfl
            have s2 := L.disk.good.1.s2
            have ct := hide (fun (y : World) (Iy : IW y (fun k => k < w.heap.size) (.slice a5 n c5) (c.map (·.1))) => wtext_any num hnum4 Iy (by rw [List.length_map, ← hnn.out]; omega) (fun k hk => by
              obtain ⟨p, hp, rfl⟩ := List.mem_map.1 hk
              have := (hok.out p hp).1
              omega) t ht6)
            rw [ht.out, show headT num (c.map (·.1)) (sumC c) = headC num c from rfl, ← hTe.out, ← ht.out] at ct
            have cd := hide (fun y => wside_any num (.slice a5 n c5) t y)
            obtain ⟨sd, hsd⟩ : ∃ sd, sd = num % 2 := ⟨_, rfl⟩
            have hsd2 : sd < 2 := by omega
            rw [← hsd] at cd
            unfold headV at ct cd
            replace hsd := hide hsd
            go_wp2_with fail
            generalize w5.alloc (.cells #[.int .i64 (num : Int), .slice a5 n c5, .int .u16 (t : Int)] 77) = w6 at *
            generalize w5.heap.size = HB at *
            have BH7 := BH.on (Below.refl w6.heap.size w6).drew
            have I7 := hide (I6.on (Below.refl w6.heap.size w6).drew)
            have T7 := hide (onto T6 (Nat.le_refl _) (Below.refl w6.heap.size w6).drew)
            clear BH I6 T6
            refine zir [] (fun y => Box y HB #[.int .i64 (num : Int), .slice a5 n c5, .int .u16 (t : Int)]) (by kernel_rfl) BH7 (fun hHeld => ?_)
            generalize w6.drew = y0 at *
            refine zit 0 ?_ rfl (by kernel_rfl) (fun _ _ _ h => h) (by rfl) (by assumption) ?_ ?_
            rotate_left
            · intro y hSw
              have e0 := hSw.cell 0; have e1 := hSw.cell 1; have e2 := hSw.cell 2
              go_simp
              try with_reducible rfl
            try simp only [Act.put, zpa, zpb, zpc]
            refine zit 2 ?_ rfl (by kernel_rfl) (fun _ _ _ h => h) (by rfl) (by assumption) ?_ ?_
            rotate_left
            · intro y hSw
              have e0 := hSw.cell 0; have e1 := hSw.cell 1; have e2 := hSw.cell 2
              go_simp
              try with_reducible rfl
            try simp only [Act.put, zpa, zpb, zpc]
            refine zib 1 rfl (by kernel_rfl) (fun K hK => ?_)
            go_simp
            refine (cd.out _).mono ?_
            rintro q y1 ⟨rfl, b1⟩
            have BH8 := BH7.on b1
            have I8 := hide (I7.out.on b1)
            have T8 := hide (onto T7.out (Nat.le_refl _) b1)
            clear cd BH7 I7 T7 b1 hHeld
            go_wp2_with fail
            refine hK.out _ _ (BH8) (fun hHeld => ?_)
            clear hK K
            try simp only [Act.put, zpa, zpb, zpc]
            refine zib 3 rfl (by kernel_rfl) (fun K hK => ?_)
            go_simp
            refine (ct.out _ I8.out).mono ?_
            rintro q y2 ⟨rfl, b1⟩
            have BH9 := BH8.on b1
            have T9 := hide (onto T8.out (Nat.le_refl _) b1)
            clear ct BH8 I8 T8 b1 hHeld
            go_wp2_with fail
            refine hK.out _ _ (BH9) (fun hHeld => ?_)
            clear hK K
            try simp only [Act.put, zpa, zpb, zpc]
            refine zit 4 ?_ rfl (by kernel_rfl) (fun _ _ _ h => h) (by rfl) (by assumption) ?_ ?_
            rotate_left
            · intro y hSw
              skip
              go_simp
              try with_reducible rfl
            try simp only [Act.put, zpa, zpb, zpc]
            refine zib 5 rfl (by kernel_rfl) (fun K hK => ?_)
            have A3 := grow y2 (.cells #[.int .i64 (sd : Int), .string hT] 80)
            have BL : Box (y2.alloc (.cells #[.int .i64 (sd : Int), .string hT] 80)) y2.heap.size (cellsL [((sd : Int), hT)]).toArray := Box.new y2 _ _
            go_simp
            refine hK.out _ _ (hHeld.on A3) (fun hHeld => ?_)
            clear hK K
            try simp only [Act.put, zpa, zpb, zpc]
            have T10 := hide (onto T9.out (Nat.le_refl _) A3)
            have hw2y : w.heap.size ≤ y2.heap.size := T9.out.size
            clear A3 T9 BH9
            generalize y2.alloc (.cells #[.int .i64 (sd : Int), .string hT] 80) = y3 at *
            generalize y2.heap.size = LB at *
            refine zit 6 ?_ rfl (by kernel_rfl) (fun _ _ _ h => h) (by rfl) (by assumption) ?_ ?_
            rotate_left
            · intro y hSw
              skip
              go_simp
              try with_reducible rfl
            try simp only [Act.put, zpa, zpb, zpc]
            refine zid (by kernel_rfl) ?_ _
            have BH10 := hHeld
            clear hHeld
            have e0 : y3.cell? ⟨HB, 0, none⟩ = some (.int .i64 (num : Int)) := BH10.cell 0
            have e1 : y3.cell? ⟨HB, 1, none⟩ = some (.slice a5 n c5) := BH10.cell 1
            have e2 : y3.cell? ⟨HB, 2, none⟩ = some (.int .u16 (t : Int)) := BH10.cell 2
            have cR := winRoom_any num (.slice a5 n c5) t (C0.on T10.out) ⟨_, _, _, rfl⟩
            have cP := hide (fun (y : World) (b : Below w.heap.size w y) => winPlace_any (C0.on b) (fun p hp => by
              have := (hok.out p hp).1
              omega))
            unfold headV at cR
            rw [← hnn.out] at cR cP
            go_wp2_with fail
            refine cR.mono ?_
            rintro e y4 ⟨v0, rfl, CR, b4⟩
            have CR' := CR
            obtain ⟨r0, q0, hv, -⟩ := CR'
            rw [roomC_len, ← hnn.out] at hv
            subst hv
            have BH11 := BH10.on b4
            have T11 := onto T10.out (Nat.le_refl _) b4
            have BL11 := BL.on b4
            have hy3 := T10.out.size
            clear cR e0 e1 e2 BH10 T10 BL b4
            have cP4 := cP.out y4 T11
            clear cP
            go_wp2_with fail
            refine cP4.mono ?_
            rintro e y5 ⟨v2, rfl, CP, b5⟩
            have CP' := CP
            obtain ⟨r2, q2, hv, -⟩ := CP'
            rw [placeC_len, ← hnn.out] at hv
            subst hv
            have BH12 := BH11.on b5
            have T12 := onto T11 (Nat.le_refl _) b5
            have BL12 := BL11.on b5
            have CR12 := CR.on b5
            have hy4 := T11.size
            clear cP4 BH11 T11 BL11 b5 CR
            have A6 := grow y5 (.cells #[.slice r0 n q0, .slice (some ⟨LB, 0, none⟩) 1 1, .slice r2 n q2] 36)
            have BR := Box.new y5 #[.slice r0 n q0, .slice (some ⟨LB, 0, none⟩) 1 1, .slice r2 n q2] 36
            have D13 := (L.disk.mono (G := fun k => H k ∧ k < w.heap.size) (fun k h hl => ⟨h, hl⟩)).on (onto T12 (Nat.le_refl _) A6)
            have BG13 := (L.log.on T12).on A6
            rw [hd.out] at BG13
            have hlo := L.out
            have hfit := L.fit
            have hgood := hide L.disk.good.1
            have BH13 := BH12.on A6
            have BL13 := BL12.on A6
            have CR13 := CR12.on A6
            have CP13 := CP.on A6
            have T13 := onto T12 (Nat.le_refl _) A6
            have hy5 := T12.size
            have hHB2 := BH12.2.2
            go_wp2_with fail
            have hRB := BR.2.2
            clear BH12 BL12 CR12 CP A6 T12
            generalize y5.alloc (.cells #[.slice r0 n q0, .slice (some ⟨LB, 0, none⟩) 1 1, .slice r2 n q2] 36) = y6 at *
            generalize y5.heap.size = RB at *
            obtain ⟨N, hN⟩ : ∃ N, N = y6.heap.size := ⟨_, rfl⟩
            have hNw : w.heap.size ≤ N := by rw [hN]; exact T13.size
            have D14 := D13.mono (G := fun j => (H j ∧ j < w.heap.size) ∨ N ≤ j) (fun k h _ => .inl h)
            have hLBl : LB < N := by rw [hN]; exact BL13.2.2
            have hRBl : RB < N := by rw [hN]; exact hRB
            have hHBl : HB < N := by omega
            obtain ⟨Gd, hGd⟩ : ∃ Gd : Nat → Prop, Gd = fun j => (H j ∧ j < w.heap.size) ∨ N ≤ j := ⟨_, rfl⟩
            rw [← hGd] at D14
            have hGi : Hid (∀ k, Gd k → (H k ∧ k < w.heap.size) ∨ N ≤ k) := hide (fun k h => by rw [hGd] at h; exact h)
            have hGs : Hid (∀ k, Gd k ∨ N ≤ k → Gd k) := hide (fun k h => by
              rcases h with h | h
              · exact h
              · rw [hGd]; exact .inr h)
            have gLB : ¬ Gd LB := fun h => by have := hGi.out _ h; omega
            have gRB : ¬ Gd RB := fun h => by have := hGi.out _ h; omega
            have gHB : ¬ Gd HB := fun h => by have := hGi.out _ h; omega
            have glb : ¬ Gd lb := fun h => by
              rcases hGi.out _ h with h | h
              · exact hlo h.1
              · omega
            have X0 : CW y6 Gd (.slice r0 n q0) (roomC num c) := CR13.less (fun k hk h => by have := hGi.out _ h; omega)
            have X1 : CW y6 Gd (.slice (some ⟨LB, 0, none⟩) 1 1) [((sd : Int), hT)] := CW.of_box BL13 (by simp) _ gLB (by simp)
            have X2 : CW y6 Gd (.slice r2 n q2) (placeC c) := CP13.less (fun k hk h => by have := hGi.out _ h; omega)
            have hrows : Hid (rowsC num c = [roomC num c, [((sd : Int), hT)], placeC c]) := hide (by rw [hTe.out, hsd.out]; rfl)
            have h0 : Hid (∀ p ∈ c, 0 ≤ p.1) := hide (fun p hp => (hok.out p hp).1.1)
            have hc16 : c.length ≤ 16 := by rw [← hnn.out]; omega
            have hT6 := hide ((Turn.of (F := H) T13))
            have hN2 : N ≤ y6.heap.size := by omega
            clear C0 CR13 CP13 BL13 D13 hGd hHeld ha hf L hsd2
            go_loopw [56] (fun i y => ∃ (k : Nat) (e : Dk), k ≤ 3 ∧ i = .int .i64 (k : Int) ∧ Hid (PD y Gd db e) ∧ Hid (Turn H w y) ∧ Hid (Box y HB #[.int .i64 (num : Int), .slice a5 n c5, .int .u16 (t : Int)]) ∧ Hid (Box y RB #[.slice r0 n q0, .slice (some ⟨LB, 0, none⟩) 1 1, .slice r2 n q2]) ∧ Hid (Box y lb (cellsG db l.n false)) ∧
              Hid (CW y Gd (.slice r0 n q0) (roomC num c) ∧ CW y Gd (.slice (some ⟨LB, 0, none⟩) 1 1) [((sd : Int), hT)] ∧ CW y Gd (.slice r2 n q2) (placeC c)) ∧ Hid (runL (preC num c k) l.d = (e, true)) ∧ Hid (N ≤ y.heap.size)) (fun i _ => 3 - (intOf i).toNat)
            case atStart => exact ⟨0, l.d, Nat.zero_le _, rfl, hide D14, hT6, hide BH13, hide BR, hide BG13, hide ⟨X0, X1, X2⟩, hide rfl, hide hN2⟩
            case round =>
              clear D14 hT6 BH13 BR BG13 X0 X1 X2 hN2 hRB hN T13 y6
              obtain ⟨k, e, hk, rfl, D, T, BH, BR, BG, X, hrun, hN⟩ := hrel
              have b0 : wr.cell? ⟨lb, 0, none⟩ = some (.pointer (some ⟨db, 0, none⟩)) := BG.out.cell 0
              have hnear : Near l.d e (preC num c k).length := by
                have h1 := near_run (preC num c k) hgood.out
                rw [hrun.out] at h1
                exact h1
              have hpl := pre_len num c hc16 k
              by_cases h : k < 3
              · obtain ⟨ra, rn, rq, r, hc, hX, hr⟩ : ∃ ra rn rq r, wr.cell? ⟨RB, k, none⟩ = some (.slice ra rn rq) ∧ CW wr Gd (.slice ra rn rq) r ∧ (rowsC num c)[k]? = some r := by
                  rw [hrows.out]
                  rcases (show k = 0 ∨ k = 1 ∨ k = 2 by omega) with rfl | rfl | rfl
                  · exact ⟨_, _, _, _, BR.out.cell 0, X.out.1, rfl⟩
                  · exact ⟨_, _, _, _, BR.out.cell 1, X.out.2.1, rfl⟩
                  · exact ⟨_, _, _, _, BR.out.cell 2, X.out.2.2, rfl⟩
                obtain ⟨h16r, hval⟩ := rows_ok hown hfit hc16 hok.out hr
                have cs := wsettle_any D.out hX (fun k _ h => h) (by have := hnear.1; omega) (by have := hnear.2.1; omega) (fun p hp => by rw [hnear.2.2]; exact hval p hp)
                have hnx := pre_next hr
                obtain ⟨f, b, hfb⟩ : ∃ f b, runL (doC r) e = (f, b) := ⟨_, _, rfl⟩
                rw [hfb] at cs
                have hrun2 : Hid (runL (preC num c (k + 1)) l.d = (f, b)) := hide (by rw [hnx, runL_on hrun.out, hfb])
                replace cs := hide cs
                clear hnx hfb hval h16r hX hr hnear hpl
                go_wp2_with fail
                refine cs.out.mono ?_
                rintro q y1 ⟨rfl, D1, U1⟩
                have T1 := hide (T.out.trans U1 (fun b h => by
                  rcases hGi.out _ h with h | h
                  · exact .inl h.1
                  · right; omega))
                have BH1 := hide (BH.out.of_heap (U1.block HB BH.out.2.2 gHB))
                have BR1 := hide (BR.out.of_heap (U1.block RB BR.out.2.2 gRB))
                have BG1 := hide (BG.out.of_heap (U1.block lb BG.out.2.2 glb))
                have X1 := hide (And.intro (X.out.1.turn U1) (And.intro (X.out.2.1.turn U1) (X.out.2.2.turn U1)))
                have hN1 := hide (Nat.le_trans hN.out U1.size)
                have D2 := hide (D1.mono (G := Gd) (fun k h _ => by
                  rcases h with h | h
                  · exact h
                  · exact hGs.out _ (.inr (Nat.le_trans hN.out h))))
                clear cs D1 U1 D T BH BR BG X hN b0 hc
                cases b with
                | true =>
                  go_wp2
                  go_roundw
                  case rel => exact ⟨k + 1, f, by omega, by go_num, D2, T1, BH1, BR1, BG1, X1, hrun2, hN1⟩
                  case measure => simp [intOf]; omega
                | false =>
                  have hall : runL (changeD num c) l.d = (f, false) := by rw [pre_rest h0.out (k + 1)]; exact runL_fall hrun2.out
                  have hE2 : E = 2 := by rw [hEv.out, hall]; rfl
                  have hl3 : Hid (l2 = ⟨l.n, true, f⟩) := hide (by rw [hlv.out, hall]; rfl)
                  have hfl : 42 ≤ f.S.length := by
                    have h1 := (near_run (preC num c (k + 1)) hgood.out).2.2
                    rw [hrun2.out] at h1
                    rw [h1]; exact hfit
                  have cn := hide (lnoted_any (l := ⟨l.n, false, f⟩) ⟨BG1.out, glb, D2.out, hfl⟩ 2)
                  clear hall D2 BH1 BR1 BG1 X1 hrun2 hN1 hEv hlv
                  subst hE2
                  go_wp2_with fail
                  refine cn.out.mono ?_
                  rintro q y2 ⟨rfl, PL2, U2⟩
                  have PL3 := PL2.mono (G := fun k => H k ∨ w.heap.size ≤ k) (fun k h _ => by
                    rcases hGi.out _ h with h | h
                    · exact .inl h.1
                    · right; omega) (fun h => by
                    rcases h with h | h
                    · exact hlo h
                    · omega)
                  have fin : Hid (Committed w y2 H lb db l2) := hide (by
                    rw [hl3.out]
                    exact ⟨PL3, (T1.out.mono (fun b _ h => Or.inl h)).trans U2 (fun b h => .inl (.inr h))⟩)
                  clear cn PL2 PL3 U2 T1 hl3
                  go_wp2
                  go_ret
                  exact ⟨rfl, fin.out⟩
              · obtain rfl : k = 3 := by omega
                have hall : runL (changeD num c) l.d = (e, true) := by rw [← pre_end h0.out]; exact hrun.out
                have hE2 : E = 0 := by rw [hEv.out, hall]; rfl
                have hl3 : Hid (l2 = ⟨num, false, e⟩) := hide (by rw [hlv.out, hall]; rfl)
                have hfl : 42 ≤ e.S.length := by rw [hnear.2.2]; exact hfit
                have b1 : wr.cell? ⟨lb, 1, none⟩ = some (.int .i64 (l.n : Int)) := BG.out.cell 1
                have f1 := BG.out.free 1
                have e0 : wr.cell? ⟨HB, 0, none⟩ = some (.int .i64 (num : Int)) := BH.out.cell 0
                have BGs : Box (wr.setCell ⟨lb, 1, none⟩ (.int .i64 (num : Int))) lb (cellsG db num false) := BG.out.set 1 (.int .i64 (num : Int))
                have U2 := wturn_set wr lb 1 (.int .i64 (num : Int))
                have Ds := D.out.keep (y := wr.setCell ⟨lb, 1, none⟩ (.int .i64 (num : Int))) (fun k hk hl => U2.block k hl (fun h => glb (by rw [show lb = k from h.symm]; exact hk)))
                have PL3 : PL (wr.setCell ⟨lb, 1, none⟩ (.int .i64 (num : Int))) (fun k => H k ∨ w.heap.size ≤ k) lb db ⟨num, false, e⟩ := ⟨BGs, (fun h => by
                    rcases h with h | h
                    · exact hlo h
                    · omega), Ds.mono (fun k h _ => by
                    rcases hGi.out _ h with h | h
                    · exact .inl h.1
                    · right; omega), hfl⟩
                have fin : Hid (Committed w (wr.setCell ⟨lb, 1, none⟩ (.int .i64 (num : Int))) H lb db l2) := hide (by
                  rw [hl3.out]
                  exact ⟨PL3, (T.out.mono (fun b _ h => Or.inl h)).trans U2 (fun b h => .inl (.inr h))⟩)
                clear hall hl3 BGs U2 Ds PL3 D T BH BR BG X hrun hN hnear hEv hlv
                subst hE2
                go_wp2
                go_ret
                exact ⟨rfl, fin.out⟩

end Go.Proofs.Ytgffhnggocbjhaa
