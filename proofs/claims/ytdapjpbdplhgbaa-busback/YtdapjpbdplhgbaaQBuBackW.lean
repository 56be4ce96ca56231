/- A bus with the devices' state and the memory of another one goes on as that, call by call. -/
import Derived.Test.YtdapjpbdplhgbaaQBuBackM
import Derived.Deep.CutBlock
namespace Go.Proofs.Ytdapjpbdplhgbaa
open Go.RowKit
set_option linter.unusedVariables false
set_option maxRecDepth 100000

set_option maxHeartbeats 8000000 in
set_option maxRecDepth 100000 in
theorem back_walk (w : World) (v0 : Value) (ops : List Op12) (hv : IsOps12 w v0 ops) (a1 : Int) (w1 : (Lit.int .i64 a1).wf = true) :
    Calls Try.prog 4 #[v0, .int .i64 a1] w fun e w' => e = .returned (.bool true) ∧ Below w.heap.size w w' := by
  obtain ⟨ad, N, cp, rfl, hN, hM, hX⟩ := hv.open'
  unfold maxLen at hM
  replace hN := hide hN
  replace hX := hide hX
  clear hv w1
  have hand := and127 a1
  have hr : 0 ≤ a1 % 128 ∧ a1 % 128 < 128 := by omega
  obtain ⟨cut, hcut⟩ : ∃ cut, a1 % 128 = cut := ⟨_, rfl⟩
  rw [hcut] at hand hr
  clear hcut
  go_enter Try.func4, Try.ntmps4
  go_wp2_with fail
  refine (busNew_any 4 (by omega) (by omega) w).mono ?_
  rintro e x1 ⟨b, p, g, rfl, hB, zb, zp, zg, b1⟩
  have O : Hid (Own w x1 b p g 4 4 V0 (fun _ => 0) (fun _ => false)) := hide ⟨hB, b1, zb, zp, zg⟩
  clear hB b1
  go_wp2_with fail
  go_loopw [7, 8] (fun s i wr => ∃ k : Nat, k ≤ 150 ∧ i = .int .i64 k ∧ Hid (Pr0 w b p g s wr)) (fun _ i _ => 150 - (intOf i).toNat)
  case atStart => exact ⟨0, by omega, rfl, hide (Or.inl ⟨rfl, _, _, _, O.out⟩)⟩
  case round =>
    clear O
    obtain ⟨k, hk, rfl, HO⟩ := hrel
    by_cases hc : k < N ∧ k < 150
    · have h1 := hc.1
      have h2 := hc.2
      have d1 : decide ((k : Int) < (N : Int)) = true := by simp; omega
      have d2 : decide ((k : Int) < 150) = true := by simp; omega
      have d3 : (k : Int) < (N : Int) := by omega
      clear hc
      obtain ⟨o, hz⟩ : ∃ o, ops[k]? = some o := ⟨_, List.getElem?_eq_getElem (by rw [← hN.out]; exact h1)⟩
      obtain ⟨hF, bb, off, rfl, hlt, hat⟩ := hX.out k o hz
      have P1 := hide (HO.out.box o 38)
      have hat2 : o.At wr bb (off + k * 7) := by
        obtain ⟨v, B, D, O⟩ := HO.out.start
        exact hat.keep (O.be.block bb hlt)
      obtain ⟨c0, c1, c2, c3, c4, c5, c6⟩ := hat2.seven
      replace hF := hide hF
      clear HO hat hat2 hz hX hN
      obtain ⟨ok, oz, oa, om, oea, oek, oem⟩ := o
      simp only at c0 c1 c2 c3 c4 c5 c6
      unfold cellsO at P1
      simp only at P1
      go_upto_if 46 with fail
      clear c0 c1 c2 c3 c4 c5 c6
      generalize hL : wr.heap.size = L at *
      generalize wr.alloc (.cells #[.int .i64 ok, .int .i64 oz, .int .u32 oa, .int .u32 om, .int .i64 oea, .int .i64 oek, .int .u32 oem] 38) = y0 at *
      clear hL
      go_cut [7, 10, 11, 12, 13, 14] from 29 to 133 (fun s7 _ _ _ _ _ x => Hid (Pr w b p g L ⟨ok, oz, oa, om, oea, oek, oem⟩ s7 x))
      case first =>
        by_cases he : (k : Int) = cut
        · subst he
          obtain ⟨v, B, D, hbox, hL1, O⟩ : ∃ v B D, Box y0 L (cellsO ⟨ok, oz, oa, om, oea, oek, oem⟩) ∧ L ∉ [b, g] ∧ Own w y0 b p g 4 4 v B D := by
            obtain ⟨q1, q2, q3⟩ := P1.out
            rcases q3 with ⟨-, v, B, D, O⟩ | ⟨b', p', g', v, B, D, D', -, T, -⟩
            · exact ⟨v, B, D, q1, q2, O⟩
            · exact ⟨v, B, D, q1, q2, T.o1⟩
          replace hbox := hide hbox
          replace hL1 := hide hL1
          replace O := hide O
          clear P1 hF
          go_wp2_with fail
          refine (busNew_any 4 (by omega) (by omega) y0).mono ?_
          rintro e y1 ⟨b', p', g', rfl, hB, zb', zp', zg', b1⟩
          have hlts := hide (And.intro O.out.bus.lt (And.intro O.out.bus.m.zp (And.intro O.out.bus.m.zg hbox.out.2.2)))
          have O2 : Hid (Own w y1 b' p' g' 4 4 V0 (fun _ => 0) (fun _ => false)) := hide (by
            have := O.out.be.size
            exact ⟨hB, onto O.out.be (Nat.le_refl _) b1, by omega, by omega, by omega⟩)
          replace O := hide (O.out.on b1)
          replace hbox := hide (hbox.out.on b1)
          have nn : Hid ((b' ∉ [b, g] ∧ p' ∉ [b, g] ∧ g' ∉ [b, g]) ∧ (b ∉ [b', g'] ∧ p ∉ [b', g'] ∧ g ∉ [b', g']) ∧ L ∉ [b', g']) := hide (by
            obtain ⟨l1, l2, l3, l4⟩ := hlts.out
            refine ⟨⟨?_, ?_, ?_⟩, ⟨?_, ?_, ?_⟩, ?_⟩
            all_goals (simp; omega))
          clear hB b1 hlts zb' zp' zg'
          go_wp2_with fail
          refine (devices_any O.out.bus).mono ?_
          rintro e y2 ⟨rfl, b2⟩
          replace O := hide (O.out.on b2)
          replace O2 := hide (O2.out.on b2)
          replace hbox := hide (hbox.out.on b2)
          clear b2
          have cs := hide (set_dev O2.out.bus v O.out.bus.wv)
          generalize devV v = T at *
          go_wp2_with fail
          refine cs.out.mono ?_
          rintro e y3 ⟨rfl, hB, K⟩
          have O3 := hide (O2.out.next hB (kept1 K))
          replace O := hide (O.out.keep (kept1 (g := g') K) (by intro i hi; simp at hi; rcases hi with rfl | rfl; exact O2.out.zb; exact O2.out.zg) nn.out.2.1.1 nn.out.2.1.2.1 nn.out.2.1.2.2)
          replace hbox := hide (hbox.out.kept (kept1 (g := g') K) nn.out.2.2)
          clear cs hB K O2
          go_wp2_with fail
          refine (memory_any O.out.bus).mono ?_
          rintro e y4 ⟨rfl, rfl⟩
          go_wp2_with fail
          refine (memory_any O3.out.bus).mono ?_
          rintro e y5 ⟨rfl, rfl⟩
          go_wp2_with fail
          go_loopw [12] (fun i wq => ∃ q : Nat, q ≤ 4 ∧ i = .int .i64 q ∧ Hid (Own w wq b p g 4 4 v B D ∧ Box wq L (cellsO ⟨ok, oz, oa, om, oea, oek, oem⟩) ∧ ∃ C D2, Own w wq b' p' g' 4 4 v C D2 ∧ ∀ j, j < 256 * q → C j = B j)) (fun i _ => 4 - (intOf i).toNat)
          case atStart => exact ⟨0, by omega, rfl, hide ⟨O.out, hbox.out, _, _, O3.out, fun j hj => absurd hj (by omega)⟩⟩
          case round =>
            clear O hbox O3
            obtain ⟨q, hq, rfl, HH⟩ := hrel
            obtain ⟨O, hbox, C, D2, O3, hC⟩ := HH.out
            replace O := hide O
            replace hbox := hide hbox
            replace O3 := hide O3
            replace hC := hide hC
            clear HH
            by_cases hq4 : q < 4
            · have hq5 : (q : Int) < 4 := by omega
              have hlB : Hid (∀ j, B j < 256) := hide O.out.bus.m.lt
              obtain ⟨T', hT'⟩ : ∃ T', textOf 256 (fun j => B (256 * q + j)) = T' := ⟨_, rfl⟩
              have hz : T'.size = 256 := by rw [← hT']; exact textOf_size _ _
              have cpg := hide (page_any O.out.bus.m q hq4)
              rw [hT'] at cpg
              replace hT' := hide hT'
              have cpt := hide (put_any O3.out.bus.m q T' hq4 hz)
              go_wp2_with fail
              refine (memory_any O.out.bus).mono ?_
              rintro e z4 ⟨rfl, rfl⟩
              go_wp2_with fail
              refine cpg.out.mono ?_
              rintro e z5 ⟨rfl, rfl⟩
              go_wp2_with fail
              refine (memory_any O3.out.bus).mono ?_
              rintro e z6 ⟨rfl, rfl⟩
              go_wp2_with fail
              refine cpt.out.mono ?_
              rintro e z7 ⟨rfl, M7, G7⟩
              have K7 : Kept [b', g'] _ z7 := Kept.grown G7 (by simp)
              have fin : Hid (Own w z7 b p g 4 4 v B D ∧ Box z7 L (cellsO ⟨ok, oz, oa, om, oea, oek, oem⟩) ∧ ∃ C D2, Own w z7 b' p' g' 4 4 v C D2 ∧ ∀ j, j < 256 * (q + 1) → C j = B j) := hide
                ⟨O.out.keep K7 (by intro i hi; simp at hi; rcases hi with rfl | rfl; exact O3.out.zb; exact O3.out.zg) nn.out.2.1.1 nn.out.2.1.2.1 nn.out.2.1.2.2, hbox.out.kept K7 nn.out.2.2,
                  _, _, O3.out.next (O3.out.bus.mem G7 M7) K7, by rw [← hT'.out]; exact page_copy hlB.out hC.out⟩
              clear O hbox O3 hC cpg cpt M7 G7 K7
              go_wp2
              go_roundw
              case rel => exact ⟨q + 1, by omega, by go_num, fin⟩
              case measure => simp [intOf]; omega
            · have hq6 : q = 4 := by omega
              subst hq6
              have fin : Hid (Pr w b p g L ⟨ok, oz, oa, om, oea, oek, oem⟩ (.pointer (some ⟨b', 0, none⟩)) wr) := hide
                ⟨hbox.out, hL1.out, Or.inr ⟨b', p', g', v, B, D, D2, rfl, ⟨O.out, ⟨O3.out.bus.congr hC.out O.out.bus.m.lt, O3.out.be, O3.out.zb, O3.out.zp, O3.out.zg⟩, nn.out.1, nn.out.2.1⟩, nn.out.2.2⟩⟩
              clear O hbox O3 hC
              go_wp2
              go_meet
              case rel => exact fin
        · have he' : ((k : Int) == cut) = false := by simpa using he
          clear he
          go_wp2
          go_meet
          case rel => exact P1
      case rest =>
        clear P1
        obtain ⟨hbox, hL1, hPr⟩ := hcut.out
        clear hcut
        rcases hPr with ⟨rfl, v, B, D, O⟩ | ⟨b', p', g', v, B, D, D', rfl, T, hL2⟩
        · replace O := hide O
          obtain ⟨c0, c1, c2, c3, c4, c5, c6⟩ := And.intro (hbox.cell 0) (And.intro (hbox.cell 1) (And.intro (hbox.cell 2) (And.intro (hbox.cell 3) (And.intro (hbox.cell 4) (And.intro (hbox.cell 5) (hbox.cell 6))))))
          simp only [cellsO, List.getElem?_toArray, List.getElem?_cons_zero, List.getElem?_cons_succ] at c0 c1 c2 c3 c4 c5 c6
          have cs := hide (call_is O.out.bus ⟨ok, oz, oa, om, oea, oek, oem⟩ hF.out)
          replace hbox := hide hbox
          go_wp2_with fail
          refine cs.out.mono ?_
          rintro e z1 ⟨rfl, hB, K⟩
          have fin : Hid (Pr0 w b p g (.pointer none) z1) := hide (Or.inl ⟨rfl, _, _, _, O.out.next hB K⟩)
          clear O cs hB K c0 c1 c2 c3 c4 c5 c6 hbox
          generalize clA 4 v B D ⟨ok, oz, oa, om, oea, oek, oem⟩ = R at *
          go_wp2
          go_roundw
          case rel => exact ⟨k + 1, by omega, by go_num, fin⟩
          case measure => simp [intOf]; omega
        · replace T := hide T
          obtain ⟨c0, c1, c2, c3, c4, c5, c6⟩ := And.intro (hbox.cell 0) (And.intro (hbox.cell 1) (And.intro (hbox.cell 2) (And.intro (hbox.cell 3) (And.intro (hbox.cell 4) (And.intro (hbox.cell 5) (hbox.cell 6))))))
          simp only [cellsO, List.getElem?_toArray, List.getElem?_cons_zero, List.getElem?_cons_succ] at c0 c1 c2 c3 c4 c5 c6
          have cs := hide (call_is T.out.o1.bus ⟨ok, oz, oa, om, oea, oek, oem⟩ hF.out)
          have hD := clA_D 4 v B D D' ⟨ok, oz, oa, om, oea, oek, oem⟩
          replace hbox := hide hbox
          go_wp2_with fail
          refine cs.out.mono ?_
          rintro e z1 ⟨rfl, hB, K⟩
          have O1 := hide (T.out.o1.next hB K)
          have O2 := hide (T.out.o2.keep K (by intro i hi; simp at hi; rcases hi with rfl | rfl; exact T.out.o1.zb; exact T.out.o1.zg) T.out.n1.1 T.out.n1.2.1 T.out.n1.2.2)
          replace hbox := hbox.out.kept K hL1
          have nn := hide (And.intro T.out.n1 T.out.n2)
          clear cs hB K c0 c1 c2 c3 c4 c5 c6 T
          obtain ⟨c0, c1, c2, c3, c4, c5, c6⟩ := And.intro (hbox.cell 0) (And.intro (hbox.cell 1) (And.intro (hbox.cell 2) (And.intro (hbox.cell 3) (And.intro (hbox.cell 4) (And.intro (hbox.cell 5) (hbox.cell 6))))))
          simp only [cellsO, List.getElem?_toArray, List.getElem?_cons_zero, List.getElem?_cons_succ] at c0 c1 c2 c3 c4 c5 c6
          replace hbox := hide hbox
          have cs := hide (call_is O2.out.bus ⟨ok, oz, oa, om, oea, oek, oem⟩ hF.out)
          obtain ⟨e1, e2, e3, e4⟩ := hD
          rw [← e1, ← e2, ← e3, ← e4] at cs
          generalize (clA 4 v B D' ⟨ok, oz, oa, om, oea, oek, oem⟩).D = D2 at *
          clear e1 e2 e3 e4
          generalize clA 4 v B D ⟨ok, oz, oa, om, oea, oek, oem⟩ = R at *
          obtain ⟨X, E, v', B', D1⟩ := R
          simp only at cs O1 ⊢
          go_wp2_with fail
          refine cs.out.mono ?_
          rintro e z2 ⟨rfl, hB, K⟩
          replace O1 := hide (O1.out.keep K (by intro i hi; simp at hi; rcases hi with rfl | rfl; exact O2.out.zb; exact O2.out.zg) nn.out.2.1 nn.out.2.2.1 nn.out.2.2.2)
          replace O2 := hide (O2.out.next hB K)
          clear cs hB K c0 c1 c2 c3 c4 c5 c6 hbox hL1 hL2 hF
          obtain ⟨T, hT⟩ : ∃ T, devV v' = T := ⟨_, rfl⟩
          replace hT := hide hT
          obtain ⟨I, hI⟩ : ∃ I, textOf (256 * 4) B' = I := ⟨_, rfl⟩
          replace hI := hide hI
          go_wp2_with fail
          refine (devices_any O1.out.bus).mono ?_
          rintro e z3 ⟨rfl, b3⟩
          rw [hT.out]
          replace O1 := hide (O1.out.on b3)
          replace O2 := hide (O2.out.on b3)
          clear b3
          go_wp2_with fail
          refine (devices_any O2.out.bus).mono ?_
          rintro e z4 ⟨rfl, b4⟩
          rw [hT.out]
          replace O1 := hide (O1.out.on b4)
          replace O2 := hide (O2.out.on b4)
          clear b4
          go_wp2_with fail
          refine (memory_any O1.out.bus).mono ?_
          rintro e z5 ⟨rfl, rfl⟩
          go_wp2_with fail
          refine (image_any O1.out.bus.m).mono ?_
          rintro e z6 ⟨rfl, b6⟩
          rw [hI.out]
          replace O1 := hide (O1.out.on b6)
          replace O2 := hide (O2.out.on b6)
          clear b6
          go_wp2_with fail
          refine (memory_any O2.out.bus).mono ?_
          rintro e z7 ⟨rfl, rfl⟩
          go_wp2_with fail
          refine (image_any O2.out.bus.m).mono ?_
          rintro e z8 ⟨rfl, b8⟩
          rw [hI.out]
          replace O1 := hide (O1.out.on b8)
          replace O2 := hide (O2.out.on b8)
          clear b8
          have fin : Hid (Pr0 w b p g (.pointer (some ⟨b', 0, none⟩)) z8) := hide (Or.inr ⟨_, _, _, _, _, _, _, rfl, ⟨O1.out, O2.out, nn.out.1, nn.out.2⟩⟩)
          clear O1 O2 nn
          go_wp2
          go_roundw
          case rel => exact ⟨k + 1, by omega, by go_num, fin⟩
          case measure => simp [intOf]; omega
    · have tw := two_ways hc
      obtain ⟨v, B, D, O⟩ := HO.out.start
      have be := hide O.be
      clear hc HO O
      rcases tw with ⟨d1, d2, d3, d4⟩ | ⟨d1, d2⟩
      all_goals
        go_wp2_with fail
        refine (fixed_any12 _).mono ?_
        rintro e w11 ⟨rfl, b11⟩
        have be3 := hide (onto be.out (Nat.le_refl _) b11)
        clear b11
        go_wp2
        go_ret
        exact ⟨rfl, be3.out⟩

end Go.Proofs.Ytdapjpbdplhgbaa
