/- A timer that rings rings on till it is told; one that was told rings again with its next time. -/
import Derived.Test.YtbcebcapbhadpaaTmOpen
namespace Go.Proofs.Ytbcebcapbhadpaa
open Go.RowKit
set_option linter.unusedVariables false

theorem and127 (n : Int) : bits .and .i64 n 127 = n % 128 := by
  have e : (BitVec.ofInt 64 n &&& BitVec.ofInt 64 127).toNat = (n % 18446744073709551616).toNat % 128 := by
    rw [BitVec.toNat_and, BitVec.toNat_ofInt, BitVec.toNat_ofInt]
    have := Nat.and_two_pow_sub_one_eq_mod (n % 18446744073709551616).toNat 7
    exact this
  show IntKind.i64.wrap ((BitVec.ofInt 64 n &&& BitVec.ofInt 64 127).toNat : Int) = n % 128
  rw [e]
  simp [IntKind.wrap, IntKind.bits, IntKind.signed]
  omega

theorem and63 {a : Int} (ha : W32 a) : bits .and .u32 a 63 = a % 64 := by
  rw [u32_and a 63 ha.1 ha.2 (by omega) (by omega)]
  have := Nat.and_two_pow_sub_one_eq_mod a.toNat 6
  have h0 := ha.1
  simp at this ⊢
  omega

/-- Behind j steps, told each time: so many rings, so much left. -/
def Rung (K j r l : Nat) : Prop := r = j / K ∧ l = K - j % K

theorem Rung.start (K : Nat) : Rung K 0 0 K := ⟨(Nat.zero_div K).symm, by rw [Nat.zero_mod, Nat.sub_zero]⟩

theorem Rung.pos {K j r l : Nat} (hK : 0 < K) (h : Rung K j r l) : 1 ≤ l ∧ l ≤ K := by
  have := Nat.mod_lt j hK
  have := h.2
  omega

theorem Rung.near {K j r l : Nat} (hK : 0 < K) (h : Rung K j r l) (hl : 1 < l) : Rung K (j + 1) r (l - 1) := by
  obtain ⟨h1, h2⟩ := h
  have m := Nat.mod_lt j hK
  have d := Nat.div_add_mod j K
  have e : j + 1 = (j % K + 1) + K * (j / K) := by omega
  refine ⟨?_, ?_⟩
  · rw [e, Nat.add_mul_div_left _ _ hK, Nat.div_eq_of_lt (show j % K + 1 < K by omega), h1]
    omega
  · rw [e, Nat.add_mul_mod_self_left, Nat.mod_eq_of_lt (show j % K + 1 < K by omega), h2]
    omega

theorem Rung.ring {K j r l : Nat} (hK : 0 < K) (h : Rung K j r l) (hl : ¬ 1 < l) : Rung K (j + 1) (r + 1) K := by
  obtain ⟨h1, h2⟩ := h
  have m := Nat.mod_lt j hK
  have d := Nat.div_add_mod j K
  have e : j + 1 = 0 + K * (j / K + 1) := by rw [Nat.mul_add]; omega
  refine ⟨?_, ?_⟩
  · rw [e, Nat.add_mul_div_left _ _ hK, Nat.zero_div, h1]
    omega
  · rw [e, Nat.add_mul_mod_self_left, Nat.zero_mod, Nat.sub_zero]

set_option maxRecDepth 100000 in
set_option maxHeartbeats 4000000 in
theorem rings_walk (w : World) (v : Int) (wv : (Lit.int .u32 v).wf = true) (n : Int) (wn : (Lit.int .i64 n).wf = true) :
    Calls Try.prog 8 #[.int .u32 v, .int .i64 n] w fun e w' => e = .returned (.bool true) ∧ Below w.heap.size w w' := by
  obtain ⟨t1, t2, t3, t4, t5, t6, t7, t8, t9⟩ := tmRules
  obtain ⟨p0, p1, p2⟩ := tmParts
  have hv := wf_u32 wv
  have a1 := and63 hv
  have a2 := and127 n
  obtain ⟨N, hN⟩ : ∃ N : Nat, n % 128 = N := ⟨(n % 128).toNat, by omega⟩
  have N1 : N < 128 := by omega
  rw [hN] at a2
  obtain ⟨K, hK⟩ : ∃ K : Nat, 1 + v % 64 = K := ⟨(1 + v % 64).toNat, by omega⟩
  have K0 : 0 < K := by omega
  have K1 : K ≤ 64 := by omega
  rw [show v % 64 = (K : Int) - 1 by omega] at a1
  clear hK hN wv wn hv
  have c1 := hide fun W => write_any T0 0 K W
  rw [show formV 0 = 0 from rfl, show writeV T0 0 (K : Int) = ⟨K, K, false⟩ from rfl] at c1
  have c2 := hide fun W => write_any ⟨K, K, true⟩ 8 5 W
  rw [show formV 8 = 0 from rfl, show writeV ⟨K, K, true⟩ 8 5 = ⟨K, K, false⟩ from rfl] at c2
  go_enter Try.func8, Try.ntmps8
  go_wp2_with fail
  simp only [show (1 : Int) + ((K : Int) - 1) = K by omega]
  refine (c1.out _).mono ?_
  rintro e w1 ⟨rfl, b1⟩
  have B := hide (onto b1 (Nat.le_refl _) (grow w1 (.cells (cellsT ⟨K, K, false⟩) 24)))
  have R := Rat.new w1 ⟨K, K, false⟩ 24
  have zL := b1.size
  clear b1 c1
  go_wp2_with fail
  generalize w1.alloc (.cells (cellsT ⟨K, K, false⟩) 24) = v1 at *
  generalize w1.heap.size = L at *
  go_loopw [8, 9] (fun r i wr => ∃ j s l : Nat, j ≤ N ∧ s ≤ j ∧ i = .int .i64 j ∧ r = .int .i64 s ∧ Hid (Rung K j s l) ∧ Hid (Rat wr L ⟨K, l, false⟩ ∧ Below w.heap.size w wr)) (fun _ i _ => N - (intOf i).toNat)
  case atStart => exact ⟨0, 0, K, by omega, by omega, rfl, rfl, hide (Rung.start K), hide ⟨R, B.out⟩⟩
  case round =>
    clear R B
    obtain ⟨j, s, l, hj, hs, rfl, rfl, hr, hT⟩ := hrel
    by_cases hlt : j < N
    · have h1 : (j : Int) < (N : Int) := by omega
      obtain ⟨q1, q2⟩ := hr.out.pos K0
      have wT : Wt ⟨K, l, false⟩ := ⟨⟨by simp, by simp only; omega⟩, ⟨by simp, by simp only; omega⟩⟩
      have ct := hide fun W => tick_any wT W
      have l1 := hT.out.1.load
      by_cases hl : 1 < l
      · have hn := hide (hr.out.near K0 hl)
        have e1 : tickV ⟨K, l, false⟩ = ⟨K, ((l - 1 : Nat) : Int), false⟩ := by
          unfold tickV
          rw [if_neg (by simp only; omega), if_pos (by simp only; omega)]
          simp only
          congr 1
          omega
        rw [e1] at ct
        clear e1 wT
        go_wp2_with fail
        refine (ct.out _).mono ?_
        rintro e w2 ⟨rfl, b2⟩
        have R := hT.out.1.on b2
        have x1 := R.1
        have x2 := R.2.1
        have R2 := R.set ⟨K, ((l - 1 : Nat) : Int), false⟩
        have x3 := R2.cell 2
        rw [p2] at x3
        have B := hide (below_setRow (onto hT.out.2 (Nat.le_refl _) b2) zL (cellsT ⟨K, ((l - 1 : Nat) : Int), false⟩))
        replace R2 := hide R2
        clear b2 l1 ct R hT hr
        go_wp2
        go_roundw
        case rel => exact ⟨j + 1, s, l - 1, by omega, by omega, by go_num, rfl, hn, hide ⟨R2.out, B.out⟩⟩
        case measure => simp [intOf]; omega
      · have hn := hide (hr.out.ring K0 hl)
        have e1 : tickV ⟨K, l, false⟩ = ⟨K, K, true⟩ := by
          unfold tickV
          rw [if_neg (by simp only; omega), if_neg (by simp only; omega)]
        rw [e1] at ct
        clear e1 wT
        go_wp2_with fail
        refine (ct.out _).mono ?_
        rintro e w2 ⟨rfl, b2⟩
        have R := hT.out.1.on b2
        have x1 := R.1
        have x2 := R.2.1
        have R2 := R.set ⟨K, K, true⟩
        have x3 := R2.cell 2
        rw [p2] at x3
        have l2 := R2.load
        have B := hide (below_setRow (onto hT.out.2 (Nat.le_refl _) b2) zL (cellsT ⟨K, K, true⟩))
        clear b2 l1 ct R hT hr
        go_wp2_with fail
        clear x1 x2 x3 l2
        generalize w2.setRow L (cellsT ⟨K, K, true⟩) = v2 at *
        refine (c2.out _).mono ?_
        rintro e w3 ⟨rfl, b3⟩
        replace R2 := R2.on b3
        replace B := hide (onto B.out (Nat.le_refl _) b3)
        have x1 := R2.1
        have x2 := R2.2.1
        have x4 := R2.2.2
        replace R2 := hide ((R2.set ⟨K, K, false⟩).on (grow (w3.setRow L (cellsT ⟨K, K, false⟩)) (.cells (cellsT ⟨K, K, false⟩) 24)))
        replace B := hide (onto (below_setRow B.out zL (cellsT ⟨K, K, false⟩)) (Nat.le_refl _) (grow _ (.cells (cellsT ⟨K, K, false⟩) 24)))
        clear b3
        go_wp2
        go_roundw
        case rel => exact ⟨j + 1, s + 1, K, by omega, by omega, by go_num, by go_num, hn, hide ⟨R2.out, B.out⟩⟩
        case measure => simp [intOf]; omega
    · have hx : j = N := by omega
      subst hx
      have h1 : ¬ (j : Int) < (j : Int) := by omega
      have B := hide hT.out.2
      have hd : (j : Int).tdiv K = s := by
        rw [Int.tdiv_eq_ediv_of_nonneg (by omega), hr.out.1]
        rfl
      clear hT hr
      go_wp2_with fail
      refine (fixed_any _).mono ?_
      rintro e w2 ⟨rfl, b2⟩
      replace B := hide (onto B.out (Nat.le_refl _) b2)
      clear b2
      go_wp2
      go_ret
      exact ⟨rfl, B.out⟩

end Go.Proofs.Ytbcebcapbhadpaa
