/- Layer 19: the program's log: Open. -/
import Derived.Test.YtgffhnggocbjhaaQWpL
namespace Go.Proofs.Ytgffhnggocbjhaa
open Go.RowKit
set_option linter.unusedVariables false
set_option maxRecDepth 100000
set_option linter.unusedSimpArgs false

theorem rise_in {own : Int} {ks : List Int} : ∀ {n : Nat}, riseK own ks n = true → ∀ i, i < n → 0 ≤ ks.getD i 0 ∧ ks.getD i 0 < own
  | 0, _, i, hi => by omega
  | n + 1, h, i, hi => by
    rw [riseK] at h
    simp only [Bool.and_eq_true, decide_eq_true_eq] at h
    by_cases e : i = n
    · subst e; exact ⟨h.2.1.1, h.2.1.2⟩
    · exact rise_in h.1 i (by omega)

/-- What the best head's cells are. -/
theorem best_facts {d : Dk} (h : bestN d ≠ 0) : bestN d = numH (d.told (bestP d : Int)) ∧ bestN d % 2 = bestP d ∧ cntH (d.told (bestP d : Int)) ≤ 16 ∧ riseK d.own (ksH (d.told (bestP d : Int))) (cntH (d.told (bestP d : Int))) = true := by
  have e : bestN d = if rightB d.own (d.told (bestP d : Int)) (bestP d) then numH (d.told (bestP d : Int)) else 0 := rfl
  cases hr : rightB d.own (d.told (bestP d : Int)) (bestP d) with
  | false => rw [hr] at e; exact (h e).elim
  | true =>
    rw [hr] at e
    replace e : bestN d = numH (d.told (bestP d : Int)) := e
    unfold rightB at hr
    simp only [Bool.and_eq_true, decide_eq_true_eq] at hr
    exact ⟨e, by rw [e]; exact hr.2.2.1, hr.1, hr.2.2.2.2⟩
theorem bestC_is {d : Dk} (h : bestN d ≠ 0) : roomK d (bestN d) (ksH (d.told (bestP d : Int))) = bestC d := by
  obtain ⟨-, h2, -, -⟩ := best_facts h
  unfold roomK bestC cellsH
  rw [ksH_len, h2]
  refine List.map_congr_left fun i hi => ?_
  have hi' := List.mem_range.1 hi
  rw [getD_some (x := ((nb (d.told (bestP d : Int)) (7 + 2 * i) 2 : Nat) : Int)) (by unfold ksH; rw [List.getElem?_map, List.getElem?_range hi']; rfl)]
theorem bestC_len (d : Dk) : (bestC d).length = cntH (d.told (bestP d : Int)) := by simp [bestC, cellsH]
theorem bestC_ok {d : Dk} (g : d.Good) (hd : d.dead = false) (h42 : 42 ≤ d.S.length) (h : bestN d ≠ 0) : ∀ p ∈ bestC d, (0 ≤ p.1 ∧ p.1 < d.own) ∧ p.2.size = 64 := fun p hp => by
  obtain ⟨-, h2, h3, h4⟩ := best_facts h
  obtain ⟨i, hi, rfl⟩ := List.mem_map.1 hp
  have hi' := List.mem_range.1 hi
  have h5 := rise_in h4 i hi'
  rw [getD_some (x := ((nb (d.told (bestP d : Int)) (7 + 2 * i) 2 : Nat) : Int)) (by unfold ksH; rw [List.getElem?_map, List.getElem?_range hi']; rfl)] at h5
  have hP : bestP d < 2 := by omega
  exact ⟨h5, told_64 g hd (by omega)⟩

set_option maxHeartbeats 1000000 in
theorem wopen_any {w : World} {H : Nat → Prop} {db : Nat} {d : Dk} (D : PD w H db d) (hm : d.m + 300 < 1000000) (hL : d.L.length + 300 < 1000) :
    Calls Try.prog 20 #[.pointer (some ⟨db, 0, none⟩)] w fun e w' => ∃ v, e = .returned (.tuple #[v, .int .i64 (openE d)]) ∧ NewLog w w' H db (openN d) (bestN d) (openE d) v := by
  have cf := wfits_any D
  have D0 := hide (D.mono (G := fun k => H k ∨ w.heap.size ≤ k) (fun k h _ => .inl h))
  obtain ⟨E, hE⟩ : ∃ E, Hid (E = openE d) := ⟨_, hide rfl⟩
  obtain ⟨d2, hd2⟩ : ∃ d2, Hid (d2 = openN d) := ⟨_, hide rfl⟩
  obtain ⟨bn, hbn⟩ : ∃ n, Hid (n = bestN d) := ⟨_, hide rfl⟩
  have hE' := hE.out
  have hd2' := hd2.out
  rw [← hE.out, ← hd2.out, ← hbn.out]
  clear hE hd2
  cases hf : d.fits with
  | false =>
    obtain rfl : E = 190 := by rw [hE']; unfold openE; rw [if_pos hf]
    obtain rfl : d2 = d := by rw [hd2']; unfold openN; rw [if_pos (.inl hf)]
    rw [hf] at cf
    clear hE' hd2' D
    go_enter Try.func20, Try.ntmps20
    go_wp2_with fail
    refine cf.mono ?_
    rintro e w1 ⟨rfl, b1⟩
    have fin : Hid (NewLog w w1 H db d2 bn 190 (.pointer none)) := hide ⟨Turn.of b1, (fun h => by cases h), fun _ => ⟨rfl, D0.out.on b1⟩⟩
    clear b1 cf D0
    go_wp2
    go_ret2
    exact ⟨_, rfl, fin.out⟩
  | true =>
    rw [hf] at cf
    have hlen := hide (show 42 ≤ d.S.length by
      unfold Dk.fits at hf
      simp only [Bool.and_eq_true, decide_eq_true_eq] at hf
      exact hf.1)
    have cl := hide (fun (y : World) (Dy : PD y (fun k => H k ∧ k < w.heap.size) db d) => wlast_any Dy hlen.out)
    have D1 := hide (D.mono (G := fun k => H k ∧ k < w.heap.size) (fun k h hl => ⟨h, hl⟩))
    replace hE' := hide hE'
    replace hd2' := hide hd2'
    have hfx := hide hf
    clear hf D
    go_enter Try.func20, Try.ntmps20
    go_wp2_with fail
    refine cf.mono ?_
    rintro e w1 ⟨rfl, b1⟩
    have D2 := D1.out.on b1
    have T2 := Turn.of (F := H) b1
    clear cf D1 D0
    go_wp2_with fail
    refine (cl.out _ D2).mono ?_
    rintro e w2 ⟨num, t, v, ks, er, rfl, LI⟩
    have D3 := hide (D2.on LI.far)
    have T3 := hide (T2.trans (Turn.of (F := H) LI.far) (fun b h => .inl h))
    have hw1 := b1.size
    clear D2 T2 b1 cl
    obtain ⟨av, cv, hv⟩ := LI.row.shape
    subst hv
    have her := LI.err
    have I3 := hide LI.row
    have his := LI.is
    unfold headV
    have gh := grow w2 (.cells #[.int .i64 (num : Int), .slice av ks.length cv, .int .u16 (t : Int)] 77)
    clear LI
    cases hd : d.dead with
    | true =>
      obtain rfl : er = 2 := by rw [her, hd]; rfl
      obtain rfl : E = 2 := by rw [hE'.out]; unfold openE; rw [if_neg (by rw [hfx.out]; decide), hd]; rfl
      obtain rfl : d2 = d := by rw [hd2'.out]; unfold openN; rw [if_pos (.inr (.inl hd))]
      have fin : Hid (NewLog w (w2.alloc (.cells #[.int .i64 (num : Int), .slice av ks.length cv, .int .u16 (t : Int)] 77)) H db d2 bn 2 (.pointer none)) := hide
        ⟨T3.out.trans (Turn.of (F := H) gh) (fun b h => .inl h), (fun h => by cases h), fun _ => ⟨rfl, (D3.out.on gh).mono (fun k h _ => .inl h.1)⟩⟩
      generalize ks.length = kl at *
      clear her his hE' hd2' hd hfx D3 T3 I3 gh
      go_wp2
      go_ret2
      exact ⟨_, rfl, fin.out⟩
    | false =>
      by_cases hb : bestN d = 0
      · obtain rfl : er = 190 := by rw [her, hd, if_pos hb]; rfl
        obtain rfl : E = 190 := by rw [hE'.out]; unfold openE; rw [if_neg (by rw [hfx.out]; decide), hd, if_pos hb]; rfl
        obtain rfl : d2 = d := by rw [hd2'.out]; unfold openN; rw [if_pos (.inr (.inr (.inl hb)))]
        have fin : Hid (NewLog w (w2.alloc (.cells #[.int .i64 (num : Int), .slice av ks.length cv, .int .u16 (t : Int)] 77)) H db d2 bn 190 (.pointer none)) := hide
          ⟨T3.out.trans (Turn.of (F := H) gh) (fun b h => .inl h), (fun h => by cases h), fun _ => ⟨rfl, (D3.out.on gh).mono (fun k h _ => .inl h.1)⟩⟩
        generalize ks.length = kl at *
        clear her his hE' hd2' hd hfx D3 T3 I3 gh hb
        go_wp2
        go_ret2
        exact ⟨_, rfl, fin.out⟩
      · obtain rfl : er = 0 := by rw [her, hd, if_neg hb]; rfl
        obtain ⟨e1, e2, e3⟩ := his rfl
        obtain ⟨f1, f2, f3, f4⟩ := best_facts hb
        have hC := bestC_is hb
        rw [← e1, ← e3] at hC
        have h16 : ks.length ≤ 16 := by rw [e3, ksH_len]; exact f3
        have hok := hide (bestC_ok D3.out.good.1 hd hlen.out hb)
        have hCl : Hid ((bestC d).length = ks.length) := hide (by rw [bestC_len, e3, ksH_len])
        have hnum : Hid (num = bn) := hide (e1.trans hbn.out.symm)
        have hSt : bestS d = decide (t = sumC (bestC d)) := by unfold bestS; rw [e2]
        have BH := Box.new w2 #[.int .i64 (num : Int), .slice av ks.length cv, .int .u16 (t : Int)] 77
        have D4 := D3.out.on gh
        have T4 := hide (T3.out.trans (Turn.of (F := H) gh) (fun b h => .inl h))
        have I4 := I3.out.on gh
        have cc := wcells_any D4 hd hlen.out num t I4 h16
        rw [hC] at cc
        unfold headV at cc
        have g4 := D4.good
        obtain ⟨C, hCe⟩ : ∃ C, C = bestC d := ⟨_, rfl⟩
        rw [← hCe] at hok hCl hSt cc
        replace hCe := hide hCe
        have hHBw := T3.out.size
        clear her his e1 e2 e3 f1 f2 f3 f4 hC D3 T3 I3
        generalize ks.length = kl at *
        replace hSt := hide hSt
        replace hb := hide hb
        replace hd := hide hd
        replace cc := hide cc
        go_wp2_with fail
        generalize w2.alloc (.cells #[.int .i64 (num : Int), .slice av kl cv, .int .u16 (t : Int)] 77) = w3 at *
        have hw3 : w2.heap.size < w3.heap.size := BH.2.2
        generalize w2.heap.size = HB at *
        refine cc.out.mono ?_
        rintro e w4 ⟨v', er, rfl, CO⟩
        have BH4 := BH.on CO.far
        have D5 := hide (D4.on CO.far)
        have T5 := hide (T4.out.trans (Turn.of (F := H) CO.far) (fun b h => .inl h))
        have hw4 := CO.far.size
        have cer := CO.err
        have crow := CO.row
        clear cc D4 T4 BH I4 gh CO
        by_cases hs : t = sumC C
        · obtain rfl : er = 0 := by rw [cer, if_pos hs.symm]
          have C5 := crow rfl
          obtain ⟨ca, cp, hv, -⟩ := C5
          have C5 := crow rfl
          subst hv
          have hst : bestS d = true := by rw [hSt.out, decide_eq_true hs]
          have hEv : Hid (E = if (runL (homeD C) d).2 then 0 else 2) := hide (by rw [hE'.out, hCe.out]; unfold openE; rw [if_neg (by rw [hfx.out]; decide), hd.out, if_neg (by decide), if_neg hb.out, if_neg (by rw [hst]; decide)])
          have hdv : Hid (d2 = (runL (homeD C) d).1) := hide (by
            rw [hd2'.out, hCe.out]
            unfold openN
            rw [if_neg (fun h => by
              rcases h with h | h | h | h
              · rw [hfx.out] at h; cases h
              · rw [hd.out] at h; cases h
              · exact hb.out h
              · rw [hst] at h; cases h)])
          have hl2 : Hid (42 ≤ d2.S.length) := hide (by rw [hdv.out, (near_run _ g4.1).2.2]; exact hlen.out)
          have hE2 : E = 0 ∨ E = 2 := by rw [hEv.out]; split <;> simp
          have hown : d.own = (d.S.length : Int) - 34 := rfl
          have s2 := g4.1.s2
          have ci := winPlace_any C5 (fun p hp => by
            have := (hok.out p hp).1
            omega)
          have hPl : Hid ((placeC C).length = C.length) := hide (placeC_len C)
          have hrun : Hid (homeD C = doC (placeC C)) := hide (homeD_is (fun p hp => (hok.out p hp).1.1))
          have cs := hide (fun (y : World) (G : Nat → Prop) (v : Value) (Dy : PD y (fun k => H k ∧ k < w.heap.size) db d) (Cy : CW y G v (placeC C)) (hG : ∀ k, k < y.heap.size → (H k ∧ k < w.heap.size) → G k) =>
            wsettle_any Dy Cy hG (by rw [hPl.out, hCl.out]; omega) (by rw [hPl.out, hCl.out]; omega) (fun p hp => by
              obtain ⟨q, hq, rfl⟩ := List.mem_map.1 hp
              have := hok.out q hq
              exact ⟨by show 0 ≤ 34 + q.1; omega, by show 34 + q.1 < _; omega, this.2⟩))
          rw [← hrun.out, ← hdv.out, ← hEv.out] at cs
          replace ci := hide ci
          clear cer crow hE' hd2' hSt hs hst C5
          go_wp2_with fail
          refine ci.out.mono ?_
          rintro e w5 ⟨v2, rfl, C6, b6⟩
          have C6' := C6
          obtain ⟨pa, pc, hv, -⟩ := C6
          rw [hPl.out] at hv
          subst hv
          have D6 := hide (D5.out.on b6)
          have T6 := hide (T5.out.trans (Turn.of (F := H) b6) (fun b h => .inl h))
          have BH6 := BH4.on b6
          have hw54 := T5.out.size
          have c2 := cs.out w5 _ _ D6.out C6' (fun k _ h => by omega)
          clear ci cs C6' D5 T5 BH4 b6
          replace c2 := hide c2
          go_wp2_with fail
          refine c2.out.mono ?_
          rintro e y4 ⟨rfl, D9, U9⟩
          have BH9 : Box y4 HB #[.int .i64 (num : Int), .slice av kl cv, .int .u16 (t : Int)] := BH6.of_heap (U9.block HB BH6.2.2 (fun h => by omega))
          have T9 := hide (T6.out.trans U9 (fun b h => .inl h.1))
          have hy34 := Nat.le_trans T6.out.size U9.size
          have hwy3 := T6.out.size
          replace D9 := hide D9
          clear c2 D6 U9 T6 BH6
          rcases hE2 with rfl | rfl
          · have e0 : y4.cell? ⟨HB, 0, none⟩ = some (.int .i64 (num : Int)) := BH9.cell 0
            have gl := grow y4 (.cells #[.pointer (some ⟨db, 0, none⟩), .int .i64 (num : Int), .bool false] 71)
            have BLg := Box.new y4 #[.pointer (some ⟨db, 0, none⟩), .int .i64 (num : Int), .bool false] 71
            have Tl := T9.out.trans (Turn.of (F := H) gl) (fun b h => .inl h)
            have DL := (D9.out.mono (G := fun k => (H k ∨ w.heap.size ≤ k) ∧ k ≠ y4.heap.size) (fun k h hl => ⟨by
              rcases h with h | h
              · exact .inl h.1
              · right; omega, by omega⟩)).on gl
            have fin : Hid (NewLog w (y4.alloc (.cells #[.pointer (some ⟨db, 0, none⟩), .int .i64 (num : Int), .bool false] 71)) H db d2 bn 0 (.pointer (some ⟨y4.heap.size, 0, none⟩))) := hide
              ⟨Tl, fun _ => ⟨_, rfl, hy34, by rw [hnum.out] at BLg; rw [hnum.out]; exact BLg, fun h => h.2 rfl, DL, hl2.out⟩, fun h => (h rfl).elim⟩
            clear DL BLg gl D9 T9 Tl BH9 hEv hdv
            go_wp2
            go_ret2
            exact ⟨_, rfl, fin.out⟩
          · have fin : Hid (NewLog w y4 H db d2 bn 2 (.pointer none)) := hide
              ⟨T9.out, (fun h => by cases h), fun _ => ⟨rfl, D9.out.mono (fun k h _ => by
                rcases h with h | h
                · exact .inl h.1
                · right; omega)⟩⟩
            clear D9 T9 BH9 hEv hdv
            go_wp2
            go_ret2
            exact ⟨_, rfl, fin.out⟩
        · obtain rfl : er = 232 := by rw [cer, if_neg (fun h => hs h.symm)]
          have hst : bestS d = false := by rw [hSt.out, decide_eq_false hs]
          obtain rfl : E = 232 := by rw [hE'.out]; unfold openE; rw [if_neg (by rw [hfx.out]; decide), hd.out, if_neg (by decide), if_neg hb.out, if_pos hst]
          obtain rfl : d2 = d := by rw [hd2'.out]; unfold openN; rw [if_pos (.inr (.inr (.inr hst)))]
          have fin : Hid (NewLog w w4 H db d2 bn 232 (.pointer none)) := hide
            ⟨T5.out, (fun h => by cases h), fun _ => ⟨rfl, D5.out.mono (fun k h _ => .inl h.1)⟩⟩
          clear cer crow hE' hd2' hSt hs hst D5 T5 BH4 hCe hbn
          go_wp2
          go_ret2
          exact ⟨_, rfl, fin.out⟩

end Go.Proofs.Ytgffhnggocbjhaa
