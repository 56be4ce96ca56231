/- What is stored is loaded, in parts, too; all other bytes are what they were. -/
import Derived.Test.YtbbofbilagaihaaMemPagesW
namespace Go.Proofs.Ytbbofbilagaihaa
open Go.RowKit
set_option linter.unusedVariables false
set_option linter.unusedSimpArgs false

theorem putB_in (B : Nat → Nat) (a s v i : Nat) (h : i < s) : putB B a s v (a + i) = byteOf v s i := by
  unfold putB
  rw [if_pos (by omega), Nat.add_sub_cancel_left]

theorem num1 (B : Nat → Nat) (a v : Nat) : numOf (putB B a 1 v) a 1 = v % 256 := by
  simp only [numOf]
  rw [putB_in B a 1 v 0 (by omega)]
  simp [byteOf]

theorem num2 (B : Nat → Nat) (a v : Nat) : numOf (putB B a 2 v) a 2 = v % 65536 := by
  simp only [numOf]
  rw [putB_in B a 2 v 0 (by omega), putB_in B a 2 v 1 (by omega)]
  simp [byteOf]
  omega

theorem num4 (B : Nat → Nat) (a v : Nat) (hv : v < 4294967296) : numOf (putB B a 4 v) a 4 = v := by
  simp only [numOf]
  rw [putB_in B a 4 v 0 (by omega), putB_in B a 4 v 1 (by omega), putB_in B a 4 v 2 (by omega), putB_in B a 4 v 3 (by omega)]
  simp [byteOf]
  omega

theorem same_head (B : Nat → Nat) (n a s v : Nat) (h : a ≤ n) : (textOf n (putB B a s v)).extract 0 a = (textOf n B).extract 0 a := by
  rw [textOf_cut n 0 a _ (by omega) h, textOf_cut n 0 a _ (by omega) h]
  apply textOf_congr
  intro j hj
  unfold putB
  rw [if_neg (by omega)]

theorem same_tail (B : Nat → Nat) (n a s v : Nat) (h : a + s ≤ n) : (textOf n (putB B a s v)).extract (a + s) n = (textOf n B).extract (a + s) n := by
  rw [textOf_cut n (a + s) n _ h (by omega), textOf_cut n (a + s) n _ h (by omega)]
  apply textOf_congr
  intro j hj
  unfold putB
  rw [if_neg (by omega)]

theorem and_low (v k : Nat) (hk : k ≤ 32) (hv : v < 4294967296) : bits .and .u32 (v : Int) ((2 ^ k - 1 : Nat) : Int) = ((v % 2 ^ k : Nat) : Int) := by
  have h2 : 2 ^ k ≤ 2 ^ 32 := Nat.pow_le_pow_right (by decide) hk
  have h1 : 0 < 2 ^ k := Nat.two_pow_pos k
  rw [u32_and_nat _ _ hv (by have : (2 : Nat) ^ 32 = 4294967296 := rfl; omega), Nat.and_two_pow_sub_one_eq_mod]

/-- What a store and the load behind it give. -/
theorem back_math (B : Nat → Nat) (a s v : Nat) (hs : s = 1 ∨ s = 2 ∨ s = 4) (hv : v < 4294967296) :
    (s < 4 → ((numOf (putB B a s v) a s : Nat) : Int) = bits .and .u32 (v : Int) (2 ^ (8 * s) - 1)) ∧ (s = 4 → numOf (putB B a s v) a s = v) := by
  rcases hs with rfl | rfl | rfl
  · refine ⟨fun _ => ?_, fun h => by omega⟩
    rw [num1]
    exact (and_low v 8 (by decide) hv).symm
  · refine ⟨fun _ => ?_, fun h => by omega⟩
    rw [num2]
    exact (and_low v 16 (by decide) hv).symm
  · exact ⟨fun h => by omega, fun _ => num4 B a v hv⟩

set_option maxHeartbeats 4000000 in
set_option maxRecDepth 100000 in
theorem back_walk (w : World) (s0 : ByteArray) (a v : Nat) (z : Int) (ws : s0.size ≤ maxLen) (wa : a < 4294967296) (wv : v < 4294967296) (wz : (Lit.int .i64 z).wf = true) :
    Calls Try.prog 5 #[.agg #[.string s0, .int .u32 (a : Int), .int .u32 (v : Int), .int .i64 z]] w fun e w' => e = .returned (.bool true) ∧ Below w.heap.size w w' := by
  unfold maxLen at ws
  have c0 : (w.alloc (.cells #[.string s0, .int .u32 (a : Int), .int .u32 (v : Int), .int .i64 z] 54)).cell? ⟨w.heap.size, 0, none⟩ = some (.string s0) := by simp [go_sem]
  have b1 : Below w.heap.size w (w.alloc (.cells #[.string s0, .int .u32 (a : Int), .int .u32 (v : Int), .int .i64 z] 54)) := (Below.refl _ _).alloc (Nat.le_refl _) _
  obtain ⟨V, hV⟩ : ∃ V : Int, Hid (V = (v : Int)) := ⟨_, hide rfl⟩
  obtain ⟨A, hA⟩ : ∃ A : Int, Hid (A = (a : Int)) := ⟨_, hide rfl⟩
  rw [← hV.out, ← hA.out] at b1
  rw [← hV.out, ← hA.out]
  clear c0
  replace b1 := hide b1
  go_enter Try.func5, Try.ntmps5
  go_wp2_with fail
  go_quiet (fail)
  have b2 := hide (below_drewN b1.out nq)
  clear b1
  go_wp2_with fail
  refine (new_any 4 (by decide) (by decide) _).mono ?_
  rintro e w2 ⟨p, g, rfl, M2, hp, hg, b3⟩
  have G2 := b2.out.trans (b3.mono b2.out.size)
  have hgw : w.heap.size ≤ g := by have := b2.out.size; omega
  clear b2 b3 hp hg
  by_cases hs : s0.size = 256
  · have hs' : ((s0.size : Int) != 256) = false := by simp [hs]
    go_wp2_with fail
    refine (put_any M2 1 s0 (by decide) hs).mono ?_
    rintro e w3 ⟨rfl, M3, g3⟩
    have G3 := grown_below G2 g3 G2.size hgw
    clear M2 G2 g3 hs'
    obtain ⟨B, hB⟩ : ∃ B, B = pageB (fun _ => 0) 1 s0 := ⟨_, rfl⟩
    rw [← hB] at M3
    clear hB
    go_wp2_with fail
    refine (image_any M3).mono ?_
    rintro e w4 ⟨rfl, b4⟩
    have M4 := M3.on b4
    have G4 := G3.trans (b4.mono G3.size)
    clear M3 G3 b4
    have htz : (textOf (256 * 4) B).size = 1024 := textOf_size _ _
    obtain ⟨T, hT⟩ : ∃ T, Hid (T = textOf (256 * 4) B) := ⟨_, hide rfl⟩
    rw [← hT.out] at htz ⊢
    by_cases hm : (z = 1 ∨ z = 2 ∨ z = 4) ∧ A % z = 0 ∧ A + z ≤ 256 * ((4 : Nat) : Int)
    · obtain ⟨n, hn⟩ : ∃ n : Nat, Hid (z = (n : Int)) := ⟨z.toNat, hide (by omega)⟩
      have hm2 : may 4 a n := by
        rw [hA.out, hn.out] at hm
        unfold may
        omega
      have hnn : z = (n : Int) := hn.out
      subst hnn
      have hAa : A = (a : Int) := hA.out
      subst hAa
      have hVv : V = (v : Int) := hV.out
      subst hVv
      clear hA hV hn hm wz
      go_wp2_with fail
      refine (store_any M4 a n v wa wv hm2).mono ?_
      rintro e w5 ⟨rfl, M5, g5⟩
      have G5 := grown_below G4 g5 G4.size hgw
      clear M4 G4 g5
      obtain ⟨bm1, bm2⟩ := back_math B a n v hm2.1 wv
      have hh := same_head B 1024 a n v (by have := hm2.2.2; omega)
      have ht := same_tail B 1024 a n v (by have := hm2.2.2; omega)
      have hlt := M5.lt
      obtain ⟨B2, hB2⟩ : ∃ B2, B2 = putB B a n v := ⟨_, rfl⟩
      rw [← hB2] at M5 bm1 bm2 hh ht hlt
      clear hB2
      rw [show (1024 : Nat) = 256 * 4 from rfl, ← hT.out] at hh ht
      go_wp2_with fail
      refine (load_any M5 a n wa hm2).mono ?_
      rintro e w6 ⟨rfl, rfl⟩
      obtain ⟨x, hx⟩ : ∃ x : Int, Hid (x = ((numOf B2 a n : Nat) : Int)) := ⟨_, hide rfl⟩
      rw [← hx.out]
      have a3 := hm2.2.2
      have x0 : 0 ≤ x := by rw [hx.out]; omega
      have x1 : x < 4294967296 := by
        rw [hx.out]
        have := numOf_lt hlt a n
        have : (256 : Nat) ^ n ≤ 256 ^ 4 := Nat.pow_le_pow_right (by decide) (by have := hm2.1; omega)
        omega
      have bm3 : n < 4 → x = bits .and .u32 (v : Int) (2 ^ (8 * n) - 1) := by intro h; rw [hx.out]; exact bm1 h
      have bm4 : n = 4 → x = (v : Int) := by intro h; rw [hx.out, bm2 h]
      clear bm1 bm2
      have hz2 : (textOf (256 * 4) B2).size = 1024 := textOf_size _ _
      obtain ⟨T2, hT2⟩ : ∃ T2, Hid (T2 = textOf (256 * 4) B2) := ⟨_, hide rfl⟩
      rw [← hT2.out] at hz2 hh ht
      have q1 := cut_head T (a : Int) a rfl (by omega)
      have q2 := cut_head T2 (a : Int) a rfl (by omega)
      have q3 := cut_tail T ((a : Int) + (n : Int)) (a + n) (by omega) (by omega)
      have q4 := cut_tail T2 ((a : Int) + (n : Int)) (a + n) (by omega) (by omega)
      rw [hh] at q2
      rw [hz2, show (1024 : Nat) = 256 * 4 from rfl, ht, show (256 * 4 : Nat) = 1024 from rfl] at q4
      rw [htz] at q3
      obtain ⟨H, hH⟩ : ∃ H, H = T.extract 0 a := ⟨_, rfl⟩
      obtain ⟨C, hC⟩ : ∃ C, C = T.extract (a + n) 1024 := ⟨_, rfl⟩
      rw [← hH] at q1 q2
      rw [← hC] at q3 q4
      clear hh ht hH hC hT
      rcases hm2.1 with rfl | rfl | rfl
      · have hq : (x != bits .and .u32 (v : Int) 255) = false := by rw [bm3 (by decide)]; simp
        have q3' : ∀ w, (Instr.sliceAt 9 (.string T) (some (.int .i64 ((a : Int) + 1))) none none).run Try.prog w = .ok (.string C) w := q3
        have q4' : ∀ w, (Instr.sliceAt 9 (.string T2) (some (.int .i64 ((a : Int) + 1))) none none).run Try.prog w = .ok (.string C) w := q4
        have d1 : decide ((a : Int) < 0) = false := by simp
        have d2 : decide (1023 < (a : Int)) = false := by simp; omega
        have d3 : ¬ ((a : Int) < 0) := by omega
        have d4 : ¬ (1023 < (a : Int)) := by omega
        have d5 : IntKind.i64.wrap ((a : Int) + 1) = (a : Int) + 1 := by rw [IntKind.wrap_i64]; omega
        clear q3 q4 bm3 bm4
        go_wp2_with fail
        refine (image_any M5).mono ?_
        rw [← hT2.out]
        rintro e w7 ⟨rfl, b7⟩
        have M7 := M5.on b7
        have G7 := G5.trans (b7.mono G5.size)
        clear M5 G5 b7
        replace M7 := hide M7
        replace G7 := hide G7
        go_wp2_with fail
        go_quiet (fail)
        have M8 := hide (M7.out.on (below_drewN (Below.refl _ _) nq))
        have G8 := hide (below_drewN G7.out nq)
        clear M7 G7 q1 q2 q3' q4'
        go_wp2_with fail
        go_loop [15, 16] (fun y i => ∃ k : Nat, k ≤ 1 ∧ i = .int .i64 k ∧ y = .int .u32 ((numOf B2 a k : Nat) : Int)) (fun _ i => 1 - (intOf i).toNat)
        case atStart => exact ⟨0, by omega, rfl, rfl⟩
        case round =>
          obtain ⟨k, hk, rfl, rfl⟩ := hrel
          by_cases hl : k < 1
          · have L := load_any M8.out (a + k) 1 (by omega) (by unfold may; omega)
            have hb1 : numOf B2 (a + k) 1 = B2 (a + k) := by simp [numOf]
            rw [hb1, show ((a + k : Nat) : Int) = (a : Int) + (k : Int) by omega] at L
            have hbl := hlt (a + k)
            have hv := numOf_lt hlt a k
            have hv2 : numOf B2 a k < 16777216 := Nat.lt_of_lt_of_le hv (by have : k ≤ 3 := by omega
                                                                            exact Nat.pow_le_pow_right (n := 256) (by decide) this)
            have HN : Hid (numOf B2 a (k + 1) = numOf B2 a k * 256 + B2 (a + k)) := rfl
            obtain ⟨y, hy⟩ : ∃ y, y = numOf B2 a k := ⟨_, rfl⟩
            obtain ⟨b, hb⟩ : ∃ b, b = B2 (a + k) := ⟨_, rfl⟩
            rw [← hy] at hv2 HN ⊢
            rw [← hb] at L hbl HN
            clear hv hy hb hb1
            have hkl : (k : Int) < 1 := by omega
            have hcv : IntKind.u32.wrap (k : Int) = (k : Int) := by rw [IntKind.wrap_u32]; omega
            go_wp2_with fail
            refine L.mono ?_
            rintro e w9 ⟨rfl, rfl⟩
            clear L
            go_wp2
            go_round
            case rel => exact ⟨k + 1, by omega, by go_num, by rw [HN.out]; go_num⟩
            case measure => simp [intOf]; omega
          · obtain rfl : k = 1 := by omega
            rw [← hx.out]
            clear hx
            go_wp2_with fail
            refine (fixed_any _).mono ?_
            rintro e w9 ⟨rfl, b9⟩
            have G9 := G8.out.trans (b9.mono G8.out.size)
            go_wp2
            go_ret
            exact ⟨rfl, G9⟩
      · have hq : (x != bits .and .u32 (v : Int) 65535) = false := by rw [bm3 (by decide)]; simp
        have q3' : ∀ w, (Instr.sliceAt 9 (.string T) (some (.int .i64 ((a : Int) + 2))) none none).run Try.prog w = .ok (.string C) w := q3
        have q4' : ∀ w, (Instr.sliceAt 9 (.string T2) (some (.int .i64 ((a : Int) + 2))) none none).run Try.prog w = .ok (.string C) w := q4
        have d1 : decide ((a : Int) < 0) = false := by simp
        have d2 : decide (1022 < (a : Int)) = false := by simp; omega
        have d3 : ¬ ((a : Int) < 0) := by omega
        have d4 : ¬ (1022 < (a : Int)) := by omega
        have d5 : IntKind.i64.wrap ((a : Int) + 2) = (a : Int) + 2 := by rw [IntKind.wrap_i64]; omega
        clear q3 q4 bm3 bm4
        go_wp2_with fail
        refine (image_any M5).mono ?_
        rw [← hT2.out]
        rintro e w7 ⟨rfl, b7⟩
        have M7 := M5.on b7
        have G7 := G5.trans (b7.mono G5.size)
        clear M5 G5 b7
        replace M7 := hide M7
        replace G7 := hide G7
        go_wp2_with fail
        go_quiet (fail)
        have M8 := hide (M7.out.on (below_drewN (Below.refl _ _) nq))
        have G8 := hide (below_drewN G7.out nq)
        clear M7 G7 q1 q2 q3' q4'
        go_wp2_with fail
        go_loop [15, 16] (fun y i => ∃ k : Nat, k ≤ 2 ∧ i = .int .i64 k ∧ y = .int .u32 ((numOf B2 a k : Nat) : Int)) (fun _ i => 2 - (intOf i).toNat)
        case atStart => exact ⟨0, by omega, rfl, rfl⟩
        case round =>
          obtain ⟨k, hk, rfl, rfl⟩ := hrel
          by_cases hl : k < 2
          · have L := load_any M8.out (a + k) 1 (by omega) (by unfold may; omega)
            have hb1 : numOf B2 (a + k) 1 = B2 (a + k) := by simp [numOf]
            rw [hb1, show ((a + k : Nat) : Int) = (a : Int) + (k : Int) by omega] at L
            have hbl := hlt (a + k)
            have hv := numOf_lt hlt a k
            have hv2 : numOf B2 a k < 16777216 := Nat.lt_of_lt_of_le hv (by have : k ≤ 3 := by omega
                                                                            exact Nat.pow_le_pow_right (n := 256) (by decide) this)
            have HN : Hid (numOf B2 a (k + 1) = numOf B2 a k * 256 + B2 (a + k)) := rfl
            obtain ⟨y, hy⟩ : ∃ y, y = numOf B2 a k := ⟨_, rfl⟩
            obtain ⟨b, hb⟩ : ∃ b, b = B2 (a + k) := ⟨_, rfl⟩
            rw [← hy] at hv2 HN ⊢
            rw [← hb] at L hbl HN
            clear hv hy hb hb1
            have hkl : (k : Int) < 2 := by omega
            have hcv : IntKind.u32.wrap (k : Int) = (k : Int) := by rw [IntKind.wrap_u32]; omega
            go_wp2_with fail
            refine L.mono ?_
            rintro e w9 ⟨rfl, rfl⟩
            clear L
            go_wp2
            go_round
            case rel => exact ⟨k + 1, by omega, by go_num, by rw [HN.out]; go_num⟩
            case measure => simp [intOf]; omega
          · obtain rfl : k = 2 := by omega
            rw [← hx.out]
            clear hx
            go_wp2_with fail
            refine (fixed_any _).mono ?_
            rintro e w9 ⟨rfl, b9⟩
            have G9 := G8.out.trans (b9.mono G8.out.size)
            go_wp2
            go_ret
            exact ⟨rfl, G9⟩
      · have hq : (x != (v : Int)) = false := by rw [bm4 rfl]; simp
        have q3' : ∀ w, (Instr.sliceAt 9 (.string T) (some (.int .i64 ((a : Int) + 4))) none none).run Try.prog w = .ok (.string C) w := q3
        have q4' : ∀ w, (Instr.sliceAt 9 (.string T2) (some (.int .i64 ((a : Int) + 4))) none none).run Try.prog w = .ok (.string C) w := q4
        have d1 : decide ((a : Int) < 0) = false := by simp
        have d2 : decide (1020 < (a : Int)) = false := by simp; omega
        have d3 : ¬ ((a : Int) < 0) := by omega
        have d4 : ¬ (1020 < (a : Int)) := by omega
        have d5 : IntKind.i64.wrap ((a : Int) + 4) = (a : Int) + 4 := by rw [IntKind.wrap_i64]; omega
        clear q3 q4 bm3 bm4
        go_wp2_with fail
        refine (image_any M5).mono ?_
        rw [← hT2.out]
        rintro e w7 ⟨rfl, b7⟩
        have M7 := M5.on b7
        have G7 := G5.trans (b7.mono G5.size)
        clear M5 G5 b7
        replace M7 := hide M7
        replace G7 := hide G7
        go_wp2_with fail
        go_quiet (fail)
        have M8 := hide (M7.out.on (below_drewN (Below.refl _ _) nq))
        have G8 := hide (below_drewN G7.out nq)
        clear M7 G7 q1 q2 q3' q4'
        go_wp2_with fail
        go_loop [15, 16] (fun y i => ∃ k : Nat, k ≤ 4 ∧ i = .int .i64 k ∧ y = .int .u32 ((numOf B2 a k : Nat) : Int)) (fun _ i => 4 - (intOf i).toNat)
        case atStart => exact ⟨0, by omega, rfl, rfl⟩
        case round =>
          obtain ⟨k, hk, rfl, rfl⟩ := hrel
          by_cases hl : k < 4
          · have L := load_any M8.out (a + k) 1 (by omega) (by unfold may; omega)
            have hb1 : numOf B2 (a + k) 1 = B2 (a + k) := by simp [numOf]
            rw [hb1, show ((a + k : Nat) : Int) = (a : Int) + (k : Int) by omega] at L
            have hbl := hlt (a + k)
            have hv := numOf_lt hlt a k
            have hv2 : numOf B2 a k < 16777216 := Nat.lt_of_lt_of_le hv (by have : k ≤ 3 := by omega
                                                                            exact Nat.pow_le_pow_right (n := 256) (by decide) this)
            have HN : Hid (numOf B2 a (k + 1) = numOf B2 a k * 256 + B2 (a + k)) := rfl
            obtain ⟨y, hy⟩ : ∃ y, y = numOf B2 a k := ⟨_, rfl⟩
            obtain ⟨b, hb⟩ : ∃ b, b = B2 (a + k) := ⟨_, rfl⟩
            rw [← hy] at hv2 HN ⊢
            rw [← hb] at L hbl HN
            clear hv hy hb hb1
            have hkl : (k : Int) < 4 := by omega
            have hcv : IntKind.u32.wrap (k : Int) = (k : Int) := by rw [IntKind.wrap_u32]; omega
            go_wp2_with fail
            refine L.mono ?_
            rintro e w9 ⟨rfl, rfl⟩
            clear L
            go_wp2
            go_round
            case rel => exact ⟨k + 1, by omega, by go_num, by rw [HN.out]; go_num⟩
            case measure => simp [intOf]; omega
          · obtain rfl : k = 4 := by omega
            rw [← hx.out]
            clear hx
            go_wp2_with fail
            refine (fixed_any _).mono ?_
            rintro e w9 ⟨rfl, b9⟩
            have G9 := G8.out.trans (b9.mono G8.out.size)
            go_wp2
            go_ret
            exact ⟨rfl, G9⟩
    · have hm' := hm
      go_wp2_with fail
      have hAa : A = (a : Int) := hA.out
      subst hAa
      have hVv : V = (v : Int) := hV.out
      subst hVv
      refine (store_bad M4 (a : Int) z (v : Int) (by omega) (by omega) hm).mono ?_
      rintro e w5 ⟨rfl, rfl⟩
      clear hm hm'
      go_wp2_with fail
      refine (image_any M4).mono ?_
      rw [← hT.out]
      rintro e w6 ⟨rfl, b6⟩
      have G6 := G4.trans (b6.mono G4.size)
      go_wp2_with fail
      refine (fixed_any _).mono ?_
      rintro e w7 ⟨rfl, b7⟩
      have G7 := G6.trans (b7.mono G6.size)
      clear G6 b6 b7 M4 G4
      go_wp2
      go_ret
      exact ⟨rfl, G7⟩
  · have hs' : ((s0.size : Int) != 256) = true := by simp; omega
    go_wp2_with fail
    refine (fixed_any _).mono ?_
    rintro e w3 ⟨rfl, b3⟩
    have G3 := G2.trans (b3.mono G2.size)
    clear M2 G2 b3
    go_wp2
    go_ret
    exact ⟨rfl, G3⟩

end Go.Proofs.Ytbbofbilagaihaa
