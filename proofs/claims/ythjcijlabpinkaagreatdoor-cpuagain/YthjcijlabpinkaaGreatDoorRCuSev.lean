/- Layer 13: contract of the program's each. -/
import Derived.Test.YthjcijlabpinkaaGreatDoorRCuOne
namespace Go.Proofs.YthjcijlabpinkaaGreatDoor
open Go.RowKit
set_option linter.unusedVariables false
set_option maxRecDepth 100000
set_option linter.unusedSimpArgs false

theorem index9 (cb k : Nat) (hk : k < 9) (w : World) : (Instr.index 231 (.agg #[.pointer (some ⟨cb, 38, none⟩), .pointer (some ⟨cb, 39, none⟩), .pointer (some ⟨cb, 40, none⟩), .pointer (some ⟨cb, 41, none⟩), .pointer (some ⟨cb, 42, none⟩), .pointer (some ⟨cb, 43, none⟩), .pointer (some ⟨cb, 44, none⟩), .pointer (some ⟨cb, 45, none⟩), .pointer (some ⟨cb, 46, none⟩)]) (.int .i64 (k : Int))).run Tryz.prog w = .ok (.pointer (some ⟨cb, 38 + k, none⟩)) w := by
  obtain rfl | rfl | rfl | rfl | rfl | rfl | rfl | rfl | rfl : k = 0 ∨ k = 1 ∨ k = 2 ∨ k = 3 ∨ k = 4 ∨ k = 5 ∨ k = 6 ∨ k = 7 ∨ k = 8 := by omega
  all_goals kernel_rfl

set_option maxHeartbeats 1500000 in
set_option maxRecDepth 100000 in
theorem each_text (cb pb pw : Nat) (I : Nat → World → Prop)
    (hw : ∀ j x, j < 63 → ¬ j = 2 → ¬ j = 37 → I j x → Calls Tryz.prog 100 #[.pointer (some ⟨cb, j, none⟩), .pointer (some ⟨pb, 0, none⟩)] x fun r x' => r = .returned (.tuple #[]) ∧ I (j + 1) x')
    (hf : ∀ j x, j = 2 ∨ j = 37 → I j x → Calls Tryz.prog 101 #[.pointer (some ⟨cb, j, none⟩), .pointer (some ⟨pw, 0, none⟩)] x fun r x' => r = .returned (.tuple #[]) ∧ I (j + 1) x')
    (hd : ∀ j x, I j x → I j x.drew) (w : World) (h0 : I 0 w) :
    Calls Tryz.prog 98 #[.pointer (some ⟨cb, 0, none⟩), .func (.func 100) #[] #[.pointer (some ⟨pb, 0, none⟩)], .func (.func 101) #[] #[.pointer (some ⟨pw, 0, none⟩)]] w fun r w' => r = .returned (.tuple #[]) ∧ I 63 w' := by
  replace hw := hide hw
  replace hf := hide hf
  go_enter Tryz.func98, Tryz.ntmps98
  go_wp2_with fail
  refine (hw.out 0 _ (by omega) (by omega) (by omega) h0).mono ?_
  rintro r w1 ⟨rfl, h1⟩
  go_wp2_with fail
  refine (hw.out 1 _ (by omega) (by omega) (by omega) h1).mono ?_
  rintro r w2 ⟨rfl, h2⟩
  go_wp2_with fail
  refine (hf.out 2 _ (by omega) h2).mono ?_
  rintro r w3 ⟨rfl, h3⟩
  clear h0 h1 h2
  replace h3 := hide h3
  go_wp2
  go_loopw [26] (fun i wr => ∃ k : Nat, k ≤ 32 ∧ i = .int .i64 k ∧ Hid (I (3 + k) wr)) (fun i _ => 32 - (intOf i).toNat)
  case atStart => exact ⟨0, by omega, rfl, h3⟩
  case round =>
    clear h3
    obtain ⟨k, hk, rfl, hI⟩ := hrel
    by_cases hlt : k < 32
    · have kd : decide (k < 32) = true := by simpa using hlt
      have k0 : (0 : Int) ≤ (k : Int) := by omega
      have k1 : (k : Int) < 32 := by omega
      go_wp2_with fail
      refine (hw.out (3 + k) _ (by omega) (by omega) (by omega) hI.out).mono ?_
      rintro r w4 ⟨rfl, h4⟩
      replace h4 := hide h4
      clear hI
      go_wp2
      go_roundw
      case rel => exact ⟨k + 1, by omega, by go_num, h4⟩
      case measure => simp [intOf]; omega
    · obtain rfl : k = 32 := by omega
      go_wp2_with fail
      refine (hw.out 35 _ (by omega) (by omega) (by omega) hI.out).mono ?_
      rintro r w4 ⟨rfl, h4⟩
      go_wp2_with fail
      refine (hw.out 36 _ (by omega) (by omega) (by omega) h4).mono ?_
      rintro r w5 ⟨rfl, h5⟩
      go_wp2_with fail
      refine (hf.out 37 _ (by omega) h5).mono ?_
      rintro r w6 ⟨rfl, h6⟩
      clear h4 h5 hI
      replace h6 := hide (hd _ _ h6)
      go_wp2_with fail
      go_region
      generalize w6.drew = w7 at *
      go_wp2
      go_loopw [83] (fun i wr => ∃ k : Nat, k ≤ 9 ∧ i = .int .i64 k ∧ Hid (I (38 + k) wr)) (fun i _ => 9 - (intOf i).toNat)
      case atStart => exact ⟨0, by omega, rfl, h6⟩
      case round =>
        clear h6
        obtain ⟨k, hk, rfl, hI⟩ := hrel
        by_cases hlt : k < 9
        · have kd : decide (k < 9) = true := by simpa using hlt
          have k0 : (0 : Int) ≤ (k : Int) := by omega
          have k1 : (k : Int) < 9 := by omega
          have ix := index9 cb k hlt
          go_wp2_with fail
          refine (hw.out (38 + k) _ (by omega) (by omega) (by omega) hI.out).mono ?_
          rintro r w8 ⟨rfl, h8⟩
          replace h8 := hide h8
          clear hI
          go_wp2
          go_roundw
          case rel => exact ⟨k + 1, by omega, by go_num, h8⟩
          case measure => simp [intOf]; omega
        · have kd : decide (k < 9) = false := by simpa using hlt
          have k1 : ¬ (k : Int) < 9 := by omega
          have e9 : 38 + k = 47 := by omega
          rw [e9] at hI
          clear e9 hlt hk
          go_wp2
          go_loopw [90] (fun i wr => ∃ k : Nat, k ≤ 8 ∧ i = .int .i64 k ∧ Hid (I (47 + k * 2) wr)) (fun i _ => 8 - (intOf i).toNat)
          case atStart => exact ⟨0, by omega, rfl, hI⟩
          case round =>
            clear hI
            obtain ⟨k, hk, rfl, hI⟩ := hrel
            by_cases hlt : k < 8
            · have kd : decide (k < 8) = true := by simpa using hlt
              have k0 : (0 : Int) ≤ (k : Int) := by omega
              have k1 : (k : Int) < 8 := by omega
              go_wp2_with fail
              refine (hw.out (47 + k * 2) _ (by omega) (by omega) (by omega) hI.out).mono ?_
              rintro r w9 ⟨rfl, h9⟩
              go_wp2_with fail
              refine (hw.out (47 + k * 2 + 1) _ (by omega) (by omega) (by omega) h9).mono ?_
              rintro r wa ⟨rfl, ha⟩
              replace ha := hide ha
              rw [show 47 + k * 2 + 1 + 1 = 47 + (k + 1) * 2 by omega] at ha
              clear hI h9
              go_wp2
              go_roundw
              case rel => exact ⟨k + 1, by omega, by go_num, ha⟩
              case measure => simp [intOf]; omega
            · obtain rfl : k = 8 := by omega
              go_wp2
              go_end0
              exact ⟨rfl, hI.out⟩

end Go.Proofs.YthjcijlabpinkaaGreatDoor

/- Layer 13: contract of the program's each, for Parse. -/
namespace Go.Proofs.YthjcijlabpinkaaGreatDoor
open Go.RowKit
set_option linter.unusedVariables false
set_option maxRecDepth 100000
set_option linter.unusedSimpArgs false

set_option maxHeartbeats 1500000 in
set_option maxRecDepth 100000 in
theorem each_parse (cb ps pa pw po : Nat) (I : Nat → World → Prop)
    (hw : ∀ j x, j < 63 → ¬ j = 2 → ¬ j = 37 → I j x → Calls Tryz.prog 96 #[.pointer (some ⟨cb, j, none⟩), .pointer (some ⟨ps, 0, none⟩), .pointer (some ⟨pa, 0, none⟩)] x fun r x' => r = .returned (.tuple #[]) ∧ I (j + 1) x')
    (hf : ∀ j x, j = 2 ∨ j = 37 → I j x → Calls Tryz.prog 97 #[.pointer (some ⟨cb, j, none⟩), .pointer (some ⟨pw, 0, none⟩), .pointer (some ⟨po, 0, none⟩)] x fun r x' => r = .returned (.tuple #[]) ∧ I (j + 1) x')
    (hd : ∀ j x, I j x → I j x.drew) (w : World) (h0 : I 0 w) :
    Calls Tryz.prog 98 #[.pointer (some ⟨cb, 0, none⟩), .func (.func 96) #[] #[.pointer (some ⟨ps, 0, none⟩), .pointer (some ⟨pa, 0, none⟩)], .func (.func 97) #[] #[.pointer (some ⟨pw, 0, none⟩), .pointer (some ⟨po, 0, none⟩)]] w fun r w' => r = .returned (.tuple #[]) ∧ I 63 w' := by
  replace hw := hide hw
  replace hf := hide hf
  go_enter Tryz.func98, Tryz.ntmps98
  go_wp2_with fail
  refine (hw.out 0 _ (by omega) (by omega) (by omega) h0).mono ?_
  rintro r w1 ⟨rfl, h1⟩
  go_wp2_with fail
  refine (hw.out 1 _ (by omega) (by omega) (by omega) h1).mono ?_
  rintro r w2 ⟨rfl, h2⟩
  go_wp2_with fail
  refine (hf.out 2 _ (by omega) h2).mono ?_
  rintro r w3 ⟨rfl, h3⟩
  clear h0 h1 h2
  replace h3 := hide h3
  go_wp2
  go_loopw [26] (fun i wr => ∃ k : Nat, k ≤ 32 ∧ i = .int .i64 k ∧ Hid (I (3 + k) wr)) (fun i _ => 32 - (intOf i).toNat)
  case atStart => exact ⟨0, by omega, rfl, h3⟩
  case round =>
    clear h3
    obtain ⟨k, hk, rfl, hI⟩ := hrel
    by_cases hlt : k < 32
    · have kd : decide (k < 32) = true := by simpa using hlt
      have k0 : (0 : Int) ≤ (k : Int) := by omega
      have k1 : (k : Int) < 32 := by omega
      go_wp2_with fail
      refine (hw.out (3 + k) _ (by omega) (by omega) (by omega) hI.out).mono ?_
      rintro r w4 ⟨rfl, h4⟩
      replace h4 := hide h4
      clear hI
      go_wp2
      go_roundw
      case rel => exact ⟨k + 1, by omega, by go_num, h4⟩
      case measure => simp [intOf]; omega
    · obtain rfl : k = 32 := by omega
      go_wp2_with fail
      refine (hw.out 35 _ (by omega) (by omega) (by omega) hI.out).mono ?_
      rintro r w4 ⟨rfl, h4⟩
      go_wp2_with fail
      refine (hw.out 36 _ (by omega) (by omega) (by omega) h4).mono ?_
      rintro r w5 ⟨rfl, h5⟩
      go_wp2_with fail
      refine (hf.out 37 _ (by omega) h5).mono ?_
      rintro r w6 ⟨rfl, h6⟩
      clear h4 h5 hI
      replace h6 := hide (hd _ _ h6)
      go_wp2_with fail
      go_region
      generalize w6.drew = w7 at *
      go_wp2
      go_loopw [83] (fun i wr => ∃ k : Nat, k ≤ 9 ∧ i = .int .i64 k ∧ Hid (I (38 + k) wr)) (fun i _ => 9 - (intOf i).toNat)
      case atStart => exact ⟨0, by omega, rfl, h6⟩
      case round =>
        clear h6
        obtain ⟨k, hk, rfl, hI⟩ := hrel
        by_cases hlt : k < 9
        · have kd : decide (k < 9) = true := by simpa using hlt
          have k0 : (0 : Int) ≤ (k : Int) := by omega
          have k1 : (k : Int) < 9 := by omega
          have ix := index9 cb k hlt
          go_wp2_with fail
          refine (hw.out (38 + k) _ (by omega) (by omega) (by omega) hI.out).mono ?_
          rintro r w8 ⟨rfl, h8⟩
          replace h8 := hide h8
          clear hI
          go_wp2
          go_roundw
          case rel => exact ⟨k + 1, by omega, by go_num, h8⟩
          case measure => simp [intOf]; omega
        · have kd : decide (k < 9) = false := by simpa using hlt
          have k1 : ¬ (k : Int) < 9 := by omega
          have e9 : 38 + k = 47 := by omega
          rw [e9] at hI
          clear e9 hlt hk
          go_wp2
          go_loopw [90] (fun i wr => ∃ k : Nat, k ≤ 8 ∧ i = .int .i64 k ∧ Hid (I (47 + k * 2) wr)) (fun i _ => 8 - (intOf i).toNat)
          case atStart => exact ⟨0, by omega, rfl, hI⟩
          case round =>
            clear hI
            obtain ⟨k, hk, rfl, hI⟩ := hrel
            by_cases hlt : k < 8
            · have kd : decide (k < 8) = true := by simpa using hlt
              have k0 : (0 : Int) ≤ (k : Int) := by omega
              have k1 : (k : Int) < 8 := by omega
              go_wp2_with fail
              refine (hw.out (47 + k * 2) _ (by omega) (by omega) (by omega) hI.out).mono ?_
              rintro r w9 ⟨rfl, h9⟩
              go_wp2_with fail
              refine (hw.out (47 + k * 2 + 1) _ (by omega) (by omega) (by omega) h9).mono ?_
              rintro r wa ⟨rfl, ha⟩
              replace ha := hide ha
              rw [show 47 + k * 2 + 1 + 1 = 47 + (k + 1) * 2 by omega] at ha
              clear hI h9
              go_wp2
              go_roundw
              case rel => exact ⟨k + 1, by omega, by go_num, ha⟩
              case measure => simp [intOf]; omega
            · obtain rfl : k = 8 := by omega
              go_wp2
              go_end0
              exact ⟨rfl, hI.out⟩

end Go.Proofs.YthjcijlabpinkaaGreatDoor
