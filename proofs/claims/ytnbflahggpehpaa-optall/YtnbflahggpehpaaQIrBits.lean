/- Layer 14: the document's Value. -/
import Derived.Test.YtnbflahggpehpaaQIrPlain
import Derived.Test.YtnbflahggpehpaaQCpAll
namespace Go.Proofs.Ytnbflahggpehpaa.Ir
open Go.RowKit
set_option linter.unusedVariables false
set_option maxRecDepth 100000
set_option linter.unusedSimpArgs false

/-- What a name makes of two bits. -/
def lgB (k : Nat) (a b : Bool) : Bool := if k = 0 then a && b else if k = 1 then a || b else if k = 2 then a != b else !a && !b

/-- The word of the bits below n. -/
def lgN (k : Nat) (s t : Int) : Nat → Int
  | 0 => 0
  | n + 1 => Cp.withV (lgN k s t n) n (lgB k (Cp.bit s n) (Cp.bit t n))

theorem lgN_w (k : Nat) (s t : Int) : ∀ n, n ≤ 32 → Cp.W32 (lgN k s t n)
  | 0, _ => Cp.w0
  | n + 1, h => Cp.with_w _ _ _ (by omega)

theorem lgN_bit (k : Nat) (s t : Int) (n : Nat) (hn : n ≤ 32) (i : Nat) (hi : i < 32) : Cp.bit (lgN k s t n) i = (decide (i < n) && lgB k (Cp.bit s i) (Cp.bit t i)) := by
  induction n with
  | zero => simp [lgN, Cp.bit_zero]
  | succ n ih =>
    show Cp.bit (Cp.withV (lgN k s t n) n _) i = _
    rw [Cp.bit_with _ n _ (by omega) i hi, ih (by omega)]
    by_cases h : i = n
    · subst h; simp
    · rw [if_neg h]
      by_cases h2 : i < n
      · simp [h2, show i < n + 1 by omega]
      · simp [h2, show ¬ i < n + 1 by omega]

/-- What it makes of two words. -/
def lgV (k : Nat) (s t : Int) : Int := if k = 0 then bits .and .u32 s t else if k = 1 then bits .or .u32 s t else if k = 2 then bits .xor .u32 s t else bits .xor .u32 4294967295 (bits .or .u32 s t)

theorem xor_bits {a b : Int} (ha : Cp.W32 a) (hb : Cp.W32 b) : Cp.W32 (bits .xor .u32 a b) ∧ ∀ i, Cp.bit (bits .xor .u32 a b) i = (Cp.bit a i != Cp.bit b i) := by
  have e : bits .xor .u32 a b = ((a.toNat ^^^ b.toNat : Nat) : Int) := u32_xor a b ha.1 ha.2 hb.1 hb.2
  have h1 : a.toNat < 2 ^ 32 := by have := ha.2; omega
  have h2 : b.toNat < 2 ^ 32 := by have := hb.2; omega
  have h3 := Nat.xor_lt_two_pow h1 h2
  refine ⟨⟨by rw [e]; omega, by rw [e]; omega⟩, fun i => ?_⟩
  rw [e]
  unfold Cp.bit
  rw [Int.toNat_natCast, Nat.testBit_xor]

theorem or_bits {a b : Int} (ha : Cp.W32 a) (hb : Cp.W32 b) : Cp.W32 (bits .or .u32 a b) ∧ ∀ i, i < 32 → Cp.bit (bits .or .u32 a b) i = (Cp.bit a i || Cp.bit b i) := by
  rw [Cp.or_of ha hb]
  refine ⟨Cp.mix_w hb, fun i hi => ?_⟩
  rw [Cp.bit_mix hb i hi]
  cases Cp.bit b i <;> simp

theorem lgV_is {s t : Int} (hs : Cp.W32 s) (ht : Cp.W32 t) (k : Nat) : lgN k s t 32 = lgV k s t := by
  have ones : Cp.W32 4294967295 := ⟨by decide, by decide⟩
  have hw : Cp.W32 (lgV k s t) := by
    unfold lgV
    repeat' split
    · exact Cp.and_w hs ht
    · exact (or_bits hs ht).1
    · exact (xor_bits hs ht).1
    · exact (xor_bits ones (or_bits hs ht).1).1
  refine Cp.bit_ext (lgN_w k s t 32 (Nat.le_refl _)) hw fun i hi => ?_
  rw [lgN_bit k s t 32 (Nat.le_refl _) i hi]
  simp only [hi, decide_true, Bool.true_and]
  unfold lgV lgB
  repeat' split
  · rw [Cp.bit_and hs ht]
  · rw [(or_bits hs ht).2 i hi]
  · rw [(xor_bits hs ht).2 i]
  · rw [(xor_bits ones (or_bits hs ht).1).2 i, (or_bits hs ht).2 i hi]
    have e : Cp.bit 4294967295 i = true := (by decide +kernel : ∀ i < 32, Cp.bit 4294967295 i = true) i hi
    rw [e]
    cases Cp.bit s i <;> cases Cp.bit t i <;> rfl

set_option maxHeartbeats 4000000 in
theorem rbits_any {s t : Int} (hs : Cp.W32 s) (ht : Cp.W32 t) (k : Nat) (K : Int) (hk : (K = 5 ∧ k = 0) ∨ (K = 6 ∧ k = 1) ∨ (K = 7 ∧ k = 2) ∨ (K = 8 ∧ k = 3)) (w : World) :
    Calls Try.prog 58 #[.int .i64 K, .int .u32 s, .int .u32 t] w fun e w' => e = .returned (.int .u32 (lgV k s t)) ∧ w' = w := by
  rw [← lgV_is hs ht k]
  have hw := hide (lgN_w k s t)
  have c1 := hide (fun (n : Int) (n0 : 0 ≤ n) (n1 : n < 32) (x : World) => Cp.rbit_any hs n0 n1 x)
  have c2 := hide (fun (n : Int) (n0 : 0 ≤ n) (n1 : n < 32) (x : World) => Cp.rbit_any ht n0 n1 x)
  have c3 : Hid (∀ (n : Nat) (h : n < 32) (x : World), Calls Try.prog 70 #[.int .u32 (lgN k s t n), .int .i64 (n : Int), .bool (lgB k (Cp.bit s n) (Cp.bit t n))] x fun e w' => e = .returned (.int .u32 (lgN k s t (n + 1))) ∧ w' = x) := hide (fun n h x => by
    refine Cp.rwith_any (lgN_w k s t n (by omega)) (lgN_w k s t (n + 1) (by omega)) (by omega) (by omega) _ (fun i hi => ?_) x
    show Cp.bit (Cp.withV (lgN k s t n) n _) i = _
    rw [Cp.bit_with _ n _ h i hi]
    rfl)
  have key : (K = 5 ∧ lgB k = fun a b => a && b) ∨ (K = 6 ∧ lgB k = fun a b => a || b) ∨ (K = 7 ∧ lgB k = fun a b => a != b) ∨ (K = 8 ∧ lgB k = fun a b => !a && !b) := by
    rcases hk with ⟨rfl, rfl⟩ | ⟨rfl, rfl⟩ | ⟨rfl, rfl⟩ | ⟨rfl, rfl⟩
    · exact Or.inl ⟨rfl, rfl⟩
    · exact Or.inr (Or.inl ⟨rfl, rfl⟩)
    · exact Or.inr (Or.inr (Or.inl ⟨rfl, rfl⟩))
    · exact Or.inr (Or.inr (Or.inr ⟨rfl, rfl⟩))
  have hG0 : Hid (lgN k s t 0 = 0) := hide rfl
  clear hk
  rcases key with ⟨rfl, hB⟩ | ⟨rfl, hB⟩ | ⟨rfl, hB⟩ | ⟨rfl, hB⟩
  all_goals
    rw [hB] at c3
    clear hB
    generalize lgN k s t = G at *
    go_enter Try.func58, Try.ntmps58
    go_wp2_with fail
    go_loopw [7, 8] (fun o i wr => ∃ n : Nat, n ≤ 32 ∧ i = .int .i64 n ∧ Hid (o = .int .u32 (G n)) ∧ wr = w) (fun _ i _ => 32 - (intOf i).toNat)
    case atStart => exact ⟨0, by omega, rfl, hide (by rw [hG0.out]), rfl⟩
    case round =>
      obtain ⟨n, hn, rfl, ho, rfl⟩ := hrel
      have ho' := ho.out
      subst ho'
      clear ho
      by_cases hlt : n < 32
      · have d1 : decide ((n : Int) < 32) = true := by simp; omega
        have k1 := hide (c1.out (n : Int) (by omega) (by omega))
        have k2 := hide (c2.out (n : Int) (by omega) (by omega))
        have k3 := hide (c3.out n hlt)
        simp only [Int.toNat_natCast] at k1 k2
        generalize Cp.bit s n = A at *
        generalize Cp.bit t n = B at *
        generalize G n = O at *
        generalize hO2 : G (n + 1) = O2 at *
        replace hO2 := hide hO2
        clear c1 c2 c3 hw hs ht
        cases A <;> cases B
        all_goals
          go_wp2_with fail
          refine (k1.out _).mono ?_
          rintro e y ⟨rfl, rfl⟩
          go_wp2_with fail
          refine (k2.out _).mono ?_
          rintro e y ⟨rfl, rfl⟩
          go_wp2_with fail
          refine (k3.out _).mono ?_
          rintro e y ⟨rfl, rfl⟩
          go_wp2
          go_roundw
          case rel => exact ⟨n + 1, by omega, by go_num, hide (by first | rfl | (rw [hO2.out])), by first | rfl | trivial⟩
          case measure => simp [intOf]; omega
      · have d1 : decide ((n : Int) < 32) = false := by simp; omega
        obtain rfl : n = 32 := by omega
        go_wp2
        go_ret
        exact ⟨rfl, rfl⟩

theorem rone_any (b : Bool) (w : World) : Calls Try.prog 55 #[.bool b] w fun e w' => e = .returned (.int .u32 (oneN b)) ∧ w' = w := by
  cases b
  all_goals
    go_enter Try.func55, Try.ntmps55
    go_wp2
    go_ret
    exact ⟨rfl, rfl⟩

theorem shiftV_mod (k a n : Int) : Wo.shiftV k a (n % 32) = Wo.shiftV k a n := by
  unfold Wo.shiftV
  rw [Int.emod_emod_of_dvd n (by decide : (32 : Int) ∣ 32)]

set_option maxHeartbeats 2000000 in
theorem rvalue_any (k x y m : Int) (hk : 1 ≤ k ∧ k ≤ 13) (hx : Cp.W32 x) (hy : Cp.W32 y) (w : World) :
    Calls Try.prog 36 #[.int .i64 k, .int .u32 x, .int .u32 y, .int .u32 m] w fun r w' => r = .returned (.int .u32 (valV k x y m)) ∧ w' = w := by
  have cb := hide (fun k K hk => rbits_any hx hy k K hk w)
  have cs := hide (fun j : Int => Wo.rshift_any j x (y % 32) w hx.1 hx.2)
  have cw := hide (Wo.word_any (x + y) w)
  have cw2 := hide (Wo.word_any (x - y) w)
  have cm := hide (Wo.mean_any x w hx.1 hx.2)
  have cm2 := hide (Wo.mean_any y w hy.1 hy.2)
  simp only [shiftV_mod] at cs
  obtain ⟨x0, x1⟩ := hx
  obtain ⟨y0, y1⟩ := hy
  have hk' : k = 1 ∨ k = 2 ∨ k = 3 ∨ k = 4 ∨ k = 5 ∨ k = 6 ∨ k = 7 ∨ k = 8 ∨ k = 9 ∨ k = 10 ∨ k = 11 ∨ k = 12 ∨ k = 13 := by omega
  clear hk
  have ym : y.tmod 32 = y % 32 := Int.tmod_eq_emod_of_nonneg y0
  rcases hk' with rfl | rfl | rfl | rfl | rfl | rfl | rfl | rfl | rfl | rfl | rfl | rfl | rfl
  iterate 2
    · go_enter Try.func36, Try.ntmps36
      go_wp2
      go_ret
      exact ⟨rfl, rfl⟩
  · go_enter Try.func36, Try.ntmps36
    go_wp2_with fail
    refine cw.out.mono ?_
    rintro r w1 ⟨rfl, rfl⟩
    go_wp2
    go_ret
    exact ⟨rfl, rfl⟩
  · go_enter Try.func36, Try.ntmps36
    go_wp2_with fail
    refine cw2.out.mono ?_
    rintro r w1 ⟨rfl, rfl⟩
    go_wp2
    go_ret
    exact ⟨rfl, rfl⟩
  · go_enter Try.func36, Try.ntmps36
    go_wp2_with fail
    refine (cb.out 0 5 (Or.inl ⟨rfl, rfl⟩)).mono ?_
    rintro r w1 ⟨rfl, rfl⟩
    go_wp2
    go_ret
    exact ⟨rfl, rfl⟩
  · go_enter Try.func36, Try.ntmps36
    go_wp2_with fail
    refine (cb.out 1 6 (Or.inr (Or.inl ⟨rfl, rfl⟩))).mono ?_
    rintro r w1 ⟨rfl, rfl⟩
    go_wp2
    go_ret
    exact ⟨rfl, rfl⟩
  · go_enter Try.func36, Try.ntmps36
    go_wp2_with fail
    refine (cb.out 2 7 (Or.inr (Or.inr (Or.inl ⟨rfl, rfl⟩)))).mono ?_
    rintro r w1 ⟨rfl, rfl⟩
    go_wp2
    go_ret
    exact ⟨rfl, rfl⟩
  · go_enter Try.func36, Try.ntmps36
    go_wp2_with fail
    refine (cb.out 3 8 (Or.inr (Or.inr (Or.inr ⟨rfl, rfl⟩)))).mono ?_
    rintro r w1 ⟨rfl, rfl⟩
    go_wp2
    go_ret
    exact ⟨rfl, rfl⟩
  · go_enter Try.func36, Try.ntmps36
    go_wp2_with fail
    refine cm.out.mono ?_
    rintro r w1 ⟨rfl, rfl⟩
    go_wp2_with fail
    refine cm2.out.mono ?_
    rintro r w1 ⟨rfl, rfl⟩
    go_wp2_with fail
    refine (rone_any _ _).mono ?_
    rintro r w1 ⟨rfl, rfl⟩
    go_wp2
    go_ret
    exact ⟨rfl, rfl⟩
  · go_enter Try.func36, Try.ntmps36
    go_wp2_with fail
    refine (rone_any _ _).mono ?_
    rintro r w1 ⟨rfl, rfl⟩
    go_wp2
    go_ret
    exact ⟨rfl, rfl⟩
  iterate 3
    · go_enter Try.func36, Try.ntmps36
      go_wp2_with fail
      refine (cs.out _).mono ?_
      rintro r w1 ⟨rfl, rfl⟩
      go_wp2
      go_ret
      exact ⟨rfl, rfl⟩

end Go.Proofs.Ytnbflahggpehpaa.Ir
