/- Peeking changes nothing, wherever. -/
import Derived.Test.YtdapjpbdplhgbaaQBuLaws
namespace Go.Proofs.Ytdapjpbdplhgbaa
open Go.RowKit
set_option linter.unusedVariables false
set_option maxRecDepth 100000

set_option maxHeartbeats 4000000 in
set_option maxRecDepth 100000 in
theorem peeks_walk (w : World) (v0 : Value) (ops : List Op12) (hv : IsOps12 w v0 ops) (v1 : Value) (zs : List Int) (hw : IsWords w v1 zs) :
    Calls Try.prog 7 #[v0, v1] w fun e w' => e = .returned (.bool true) ∧ Below w.heap.size w w' := by
  obtain ⟨ad, N, cp, rfl, hN, hM, hX⟩ := hv.open'
  obtain ⟨ad', N', cp', rfl, hN', hM', hX'⟩ := hw.open'
  unfold maxLen at hM hM'
  replace hN := hide hN
  replace hX := hide hX
  replace hN' := hide hN'
  replace hX' := hide hX'
  clear hv hw
  go_enter Try.func7, Try.ntmps7
  go_wp2_with fail
  refine (busNew_any 4 (by omega) (by omega) w).mono ?_
  rintro e x1 ⟨b, p, g, rfl, hB, zb, zp, zg, b1⟩
  have O : Hid (Own w x1 b p g 4 4 V0 (fun _ => 0) (fun _ => false)) := hide ⟨hB, b1, zb, zp, zg⟩
  clear hB b1
  go_wp2_with fail
  refine (memory_any O.out.bus).mono ?_
  rintro e x2 ⟨rfl, rfl⟩
  go_wp2_with fail
  go_loopw [7] (fun i wr => ∃ k : Nat, k ≤ 60 ∧ i = .int .i64 k ∧ Hid (∃ v B D, Own w wr b p g 4 4 v B D)) (fun i _ => 60 - (intOf i).toNat)
  case atStart => exact ⟨0, by omega, rfl, hide ⟨_, _, _, O.out⟩⟩
  case round =>
    clear O
    obtain ⟨k, hk, rfl, HO⟩ := hrel
    by_cases hc : k < N ∧ k < 60
    · have h1 := hc.1
      have h2 := hc.2
      have d1 : decide ((k : Int) < (N : Int)) = true := by simp; omega
      have d2 : decide ((k : Int) < 60) = true := by simp; omega
      have d3 : (k : Int) < (N : Int) := by omega
      clear hc
      obtain ⟨o, hz⟩ : ∃ o, ops[k]? = some o := ⟨_, List.getElem?_eq_getElem (by rw [← hN.out]; exact h1)⟩
      obtain ⟨hF, bb, off, rfl, hlt, hat⟩ := hX.out k o hz
      obtain ⟨v, B, D, O⟩ := HO.out
      obtain ⟨c0, c1, c2, c3, c4, c5, c6⟩ := (hat.keep (O.be.block bb hlt)).seven
      have cs := hide (call_is O.bus o hF)
      replace O := hide O
      clear HO hat hz hF
      obtain ⟨ok, oz, oa, om, oea, oek, oem⟩ := o
      simp only at c0 c1 c2 c3 c4 c5 c6
      go_wp2_with fail
      refine cs.out.mono ?_
      rintro e wm ⟨rfl, hB, K⟩
      have O2 := hide (O.out.next hB K)
      clear O cs hB K c0 c1 c2 c3 c4 c5 c6
      go_wp2
      go_roundw
      case rel => exact ⟨k + 1, by omega, by go_num, hide ⟨_, _, _, O2.out⟩⟩
      case measure => simp [intOf]; omega
    · have tw := two_ways hc
      obtain ⟨v, B, D, O⟩ := HO.out
      have cd := hide (devices_any O.bus)
      obtain ⟨T, hT⟩ : ∃ T, devV v = T := ⟨_, rfl⟩
      rw [hT] at cd
      replace hT := hide hT
      obtain ⟨I, hI⟩ : ∃ I, textOf (256 * 4) B = I := ⟨_, rfl⟩
      replace hI := hide hI
      replace O := hide O
      clear hc HO
      obtain ⟨W1, hW1⟩ : ∃ W1, W1 = wr := ⟨_, rfl⟩
      rw [← hW1] at O cd ⊢
      clear hW1
      rcases tw with ⟨d1, d2, d3, d4⟩ | ⟨d1, d2⟩
      all_goals
        go_wp2_with fail
        refine cd.out.mono ?_
        rintro e w4 ⟨rfl, b4⟩
        replace O := hide (O.out.on b4)
        clear cd b4
        go_wp2_with fail
        refine (memory_any O.out.bus).mono ?_
        rintro e w5 ⟨rfl, rfl⟩
        go_wp2_with fail
        refine (image_any O.out.bus.m).mono ?_
        rintro e w6 ⟨rfl, b6⟩
        rw [hI.out]
        replace O := hide (O.out.on b6)
        clear b6
        go_wp2_with fail
        go_loopw [10] (fun i wq => ∃ k : Nat, k ≤ 100 ∧ i = .int .i64 k ∧ Hid (Own w wq b p g 4 4 v B D)) (fun i _ => 100 - (intOf i).toNat)
        case atStart => exact ⟨0, by omega, rfl, O⟩
        case round =>
          clear d1 d2 O
          try clear d3 d4
          obtain ⟨q, hq, rfl, O⟩ := hrel
          by_cases hc : q < N' ∧ q < 100
          · have h1 := hc.1
            have h2 := hc.2
            have d1 : decide ((q : Int) < (N' : Int)) = true := by simp; omega
            have d2 : decide ((q : Int) < 100) = true := by simp; omega
            have d3 : (q : Int) < (N' : Int) := by omega
            clear hc
            obtain ⟨z, hz⟩ : ∃ z, zs[q]? = some z := ⟨_, List.getElem?_eq_getElem (by rw [← hN'.out]; exact h1)⟩
            obtain ⟨hW, bb, off, rfl, hlt, hcell⟩ := hX'.out q z hz
            obtain ⟨z0, z1⟩ := hW
            have c0 : wr.cell? ⟨bb, off + q, none⟩ = some (.int .u32 z) := by
              rw [O.out.be.cell (p := ⟨bb, off + q, none⟩) hlt]; exact hcell
            have h15 := and15 z z0 z1
            have hm : 0 ≤ z % 16 ∧ z % 16 < 16 := by omega
            have p1 := hide (peek_is O.out.bus z z0 z1)
            have p2 := hide (peek_is O.out.bus (520093952 + z % 16) (by omega) (by omega))
            generalize z % 16 = y at *
            clear hz hcell
            go_wp2_with fail
            refine p1.out.mono ?_
            rintro e wn ⟨rfl, rfl⟩
            go_wp2_with fail
            refine p2.out.mono ?_
            rintro e wo ⟨rfl, rfl⟩
            clear p1 p2
            go_wp2
            go_roundw
            case rel => exact ⟨q + 1, by omega, by go_num, O⟩
            case measure => simp [intOf]; omega
          · have tw := two_ways hc
            have cd := hide (devices_any O.out.bus)
            rw [hT.out] at cd
            clear hc
            rcases tw with ⟨d1, d2, d3, d4⟩ | ⟨d1, d2⟩
            all_goals
              go_wp2_with fail
              refine cd.out.mono ?_
              rintro e w8 ⟨rfl, b8⟩
              replace O := hide (O.out.on b8)
              clear b8 cd
              go_wp2_with fail
              refine (memory_any O.out.bus).mono ?_
              rintro e w9 ⟨rfl, rfl⟩
              go_wp2_with fail
              refine (image_any O.out.bus.m).mono ?_
              rintro e w10 ⟨rfl, b10⟩
              rw [hI.out]
              replace O := hide (O.out.on b10)
              clear b10
              go_wp2_with fail
              refine (fixed_any12 _).mono ?_
              rintro e w11 ⟨rfl, b11⟩
              have be3 := hide (onto O.out.be (Nat.le_refl _) b11)
              clear b11
              go_wp2
              go_ret
              exact ⟨rfl, be3.out⟩

end Go.Proofs.Ytdapjpbdplhgbaa
