/- What is refused changes nothing: no byte of memory, no device. -/
import Derived.Test.YtdapjpbdplhgbaaQBuLaws
namespace Go.Proofs.Ytdapjpbdplhgbaa
open Go.RowKit
set_option linter.unusedVariables false
set_option maxRecDepth 100000

theorem text_ne (T : ByteArray) : (T.toList != T.toList) = false := by simp

set_option maxHeartbeats 4000000 in
set_option maxRecDepth 100000 in
theorem refuses_walk (w : World) (v0 : Value) (ops : List Op12) (hv : IsOps12 w v0 ops) :
    Calls Try.prog 5 #[v0] w fun e w' => e = .returned (.bool true) ∧ Below w.heap.size w w' := by
  obtain ⟨ad, N, cp, rfl, hN, hM, hX⟩ := hv.open'
  unfold maxLen at hM
  replace hN := hide hN
  replace hX := hide hX
  clear hv
  go_enter Try.func5, Try.ntmps5
  go_wp2_with fail
  refine (busNew_any 4 (by omega) (by omega) w).mono ?_
  rintro e x1 ⟨b, p, g, rfl, hB, zb, zp, zg, b1⟩
  have O : Hid (Own w x1 b p g 4 4 V0 (fun _ => 0) (fun _ => false)) := hide ⟨hB, b1, zb, zp, zg⟩
  clear hB b1
  go_wp2_with fail
  refine (memory_any O.out.bus).mono ?_
  rintro e x2 ⟨rfl, rfl⟩
  go_wp2_with fail
  go_loopw [5] (fun i wr => ∃ k : Nat, k ≤ 150 ∧ i = .int .i64 k ∧ Hid (∃ v B D, Own w wr b p g 4 4 v B D)) (fun i _ => 150 - (intOf i).toNat)
  case atStart => exact ⟨0, by omega, rfl, hide ⟨_, _, _, O.out⟩⟩
  case round =>
    clear O
    obtain ⟨k, hk, rfl, HO⟩ := hrel
    by_cases hc : k < N ∧ k < 150
    · have h1 := hc.1
      have h2 := hc.2
      have d1 : decide ((k : Int) < (N : Int)) = true := by simp; omega
      have d2 : decide ((k : Int) < 150) = true := by simp; omega
      have d3 : (k : Int) < (N : Int) := by omega
      clear hc
      obtain ⟨o, hz⟩ : ∃ o, ops[k]? = some o := ⟨_, List.getElem?_eq_getElem (by rw [← hN.out]; exact h1)⟩
      obtain ⟨hF, bb, off, rfl, hlt, hat⟩ := hX.out k o hz
      obtain ⟨v, B, D, O⟩ := HO.out
      replace O := hide O
      obtain ⟨-, hre⟩ := clA_w (n := 4) O.out.bus.wv B D o hF
      replace hre := hide hre
      replace hat := hide hat
      replace hF := hide hF
      obtain ⟨T, hT⟩ : ∃ T, devV v = T := ⟨_, rfl⟩
      replace hT := hide hT
      obtain ⟨I, hI⟩ : ∃ I, textOf (256 * 4) B = I := ⟨_, rfl⟩
      replace hI := hide hI
      clear HO hz
      go_wp2_with fail
      refine (devices_any O.out.bus).mono ?_
      rintro e w4 ⟨rfl, b4⟩
      rw [hT.out]
      replace O := hide (O.out.on b4)
      clear b4
      go_wp2_with fail
      refine (memory_any O.out.bus).mono ?_
      rintro e w5 ⟨rfl, rfl⟩
      go_wp2_with fail
      refine (image_any O.out.bus.m).mono ?_
      rintro e w6 ⟨rfl, b6⟩
      rw [hI.out]
      replace O := hide (O.out.on b6)
      clear b6
      have cs := hide (call_is O.out.bus o hF.out)
      obtain ⟨c0, c1, c2, c3, c4, c5, c6⟩ := (hat.out.keep (O.out.be.block bb hlt)).seven
      obtain ⟨a0, a1⟩ := And.intro hF.out.a0 hF.out.a1
      obtain ⟨ok, oz, oa, om, oea, oek, oem⟩ := o
      simp only at c0 c1 c2 c3 c4 c5 c6 a0 a1
      go_wp2_with fail
      refine cs.out.mono ?_
      rintro e wm ⟨rfl, hB, K⟩
      have O2 := hide (O.out.next hB K)
      clear O cs hB K c0 c1 c2 c3 c4 c5 c6 hF
      generalize clA 4 v B D ⟨ok, oz, oa, om, oea, oek, oem⟩ = R at *
      obtain ⟨X, E, v', B', D'⟩ := R
      simp only at hre O2 ⊢
      have hcell := hide (fun (y : World) (hb : Below w.heap.size w y) => (hat.out.keep (hb.block bb hlt)).seven.2.2.1)
      simp only at hcell
      clear hat
      have fin : ∀ y : World, Own w y b p g 4 4 v' B' D' → ∃ v B D, Own w y b p g 4 4 v B D := fun y h => ⟨_, _, _, h⟩
      replace fin := hide fin
      by_cases hE : E = 0
      · subst hE
        have cc := hcell.out _ O2.out.be
        have cpk := hide (peek_is O2.out.bus oa a0 a1)
        go_wp2_with fail
        refine cpk.out.mono ?_
        rintro e wn ⟨rfl, rfl⟩
        clear cpk cc
        unfold memX
        by_cases hm : mayI 4 oa 4
        · rw [if_pos hm, decide_eq_true hm]
          go_wp2
          go_roundw
          case rel => exact ⟨k + 1, by omega, by go_num, hide (fin.out _ O2.out)⟩
          case measure => simp [intOf]; omega
        · rw [if_neg hm, decide_eq_false hm]
          go_wp2
          go_roundw
          case rel => exact ⟨k + 1, by omega, by go_num, hide (fin.out _ O2.out)⟩
          case measure => simp [intOf]; omega
      · obtain ⟨rfl, rfl, rfl⟩ := hre.out hE
        have hE' : (E == 0) = false := by simpa using hE
        clear hre
        go_wp2_with fail
        refine (devices_any O2.out.bus).mono ?_
        rintro e w7 ⟨rfl, b7⟩
        rw [hT.out]
        replace O2 := hide (O2.out.on b7)
        clear b7
        go_wp2_with fail
        refine (memory_any O2.out.bus).mono ?_
        rintro e w8 ⟨rfl, rfl⟩
        go_wp2_with fail
        refine (image_any O2.out.bus.m).mono ?_
        rintro e w9 ⟨rfl, b9⟩
        rw [hI.out]
        replace O2 := hide (O2.out.on b9)
        clear b9
        have cc := hcell.out _ O2.out.be
        have cpk := hide (peek_is O2.out.bus oa a0 a1)
        go_wp2_with fail
        refine cpk.out.mono ?_
        rintro e wn ⟨rfl, rfl⟩
        clear cpk cc
        unfold memX
        by_cases hm : mayI 4 oa 4
        · rw [if_pos hm, decide_eq_true hm]
          go_wp2
          go_roundw
          case rel => exact ⟨k + 1, by omega, by go_num, hide (fin.out _ O2.out)⟩
          case measure => simp [intOf]; omega
        · rw [if_neg hm, decide_eq_false hm]
          go_wp2
          go_roundw
          case rel => exact ⟨k + 1, by omega, by go_num, hide (fin.out _ O2.out)⟩
          case measure => simp [intOf]; omega
    · have tw := two_ways hc
      obtain ⟨v, B, D, O⟩ := HO.out
      have be := hide O.be
      clear hc HO O
      rcases tw with ⟨d1, d2, d3, d4⟩ | ⟨d1, d2⟩
      all_goals
        go_wp2_with fail
        refine (fixed_any12 _).mono ?_
        rintro e w11 ⟨rfl, b11⟩
        have be3 := hide (onto be.out (Nat.le_refl _) b11)
        clear b11
        go_wp2
        go_ret
        exact ⟨rfl, be3.out⟩

end Go.Proofs.Ytdapjpbdplhgbaa
