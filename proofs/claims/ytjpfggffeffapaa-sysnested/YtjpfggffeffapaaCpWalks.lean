/- Layer 8: contracts of mix, and of the document's Bit, With, Mix. -/
import Derived.Test.YtjpfggffeffapaaCpPlain
namespace Go.Proofs.Ytjpfggffeffapaa
open Go.RowKit
set_option linter.unusedVariables false

theorem mix_any {w v B : Int} (hw : W32 w) (hv : W32 v) (hB : W32 B) (W : World) :
    Calls Try.prog 26 #[.int .u32 w, .int .u32 v, .int .u32 B] W fun e w' => e = .returned (.int .u32 (mixV w v B)) ∧ w' = W := by
  have e1 := and_of hw hv hB
  go_enter Try.func26, Try.ntmps26
  go_wp2
  go_ret
  exact ⟨rfl, rfl⟩

theorem rbit_any {a : Int} (ha : W32 a) {n : Int} (n0 : 0 ≤ n) (n1 : n < 32) (W : World) :
    Calls Try.prog 30 #[.int .u32 a, .int .i64 n] W fun e w' => e = .returned (.bool (bit a n.toNat)) ∧ w' = W := by
  obtain ⟨a0, a1⟩ := ha
  have k := bit_is a0 n.toNat
  go_enter Try.func30, Try.ntmps30
  go_wp2
  go_ret
  refine ⟨?_, rfl⟩
  have q : 0 ≤ a / 2 ^ n.toNat := Int.ediv_nonneg a0 (Int.le_of_lt (Int.pow_pos (by omega)))
  rw [Int.tmod_eq_emod_of_nonneg q]
  have e : (a / 2 ^ n.toNat % 2 == 1) = bit a n.toNat := by rw [Bool.eq_iff_iff, ← k, beq_iff_eq]
  rw [e]
  rfl

/-- The numbers of the document's With. -/
theorem with_nums {a r : Int} (ha : W32 a) (hr : W32 r) {n : Int} (n0 : 0 ≤ n) (n1 : n < 32) (b : Bool) (h : ∀ i, i < 32 → bit r i = if i = n.toNat then b else bit a i) :
    ∃ P Q D M : Int, wrap64 (2 ^ n.toNat) = P ∧ a.tdiv P = Q ∧ Q.tmod 2 = D ∧ D * P = M ∧ (1 ≤ P ∧ P ≤ 2147483648) ∧ (0 ≤ Q ∧ Q < 4294967296) ∧ (0 ≤ D ∧ D ≤ 1) ∧ (0 ≤ M ∧ M ≤ a) ∧ r = a - M + (if b then P else 0) := by
  have hv := with_is n.toNat b ha hr (by omega) h
  have p0 : (0 : Int) < 2 ^ n.toNat := Int.pow_pos (by omega)
  have p1 : (2 : Int) ^ n.toNat ≤ 2147483648 := by
    have h31 : (2 : Nat) ^ n.toNat ≤ 2 ^ 31 := Nat.pow_le_pow_right (by omega) (by omega)
    have c : ((2 : Int) ^ n.toNat) = ((2 ^ n.toNat : Nat) : Int) := by simp
    rw [c]
    generalize 2 ^ n.toNat = X at *
    omega
  have hw : wrap64 (2 ^ n.toNat) = 2 ^ n.toNat := by
    unfold wrap64
    omega
  generalize (2 : Int) ^ n.toNat = P at *
  have q0 : 0 ≤ a / P := Int.ediv_nonneg ha.1 (by omega)
  have q1 : a / P ≤ a := Int.ediv_le_self _ ha.1
  have q2 := Int.ediv_mul_le a (b := P) (by omega)
  have a1 := ha.2
  refine ⟨P, a / P, a / P % 2, a / P % 2 * P, hw, Int.tdiv_eq_ediv_of_nonneg ha.1, Int.tmod_eq_emod_of_nonneg q0, rfl, by omega, by omega, by omega, ⟨Int.mul_nonneg (by omega) (by omega), ?_⟩, hv.symm⟩
  refine Int.le_trans (Int.mul_le_mul_of_nonneg_right ?_ (by omega)) q2
  omega

theorem rwith_any {a r : Int} (ha : W32 a) (hr : W32 r) {n : Int} (n0 : 0 ≤ n) (n1 : n < 32) (b : Bool) (h : ∀ i, i < 32 → bit r i = if i = n.toNat then b else bit a i) (W : World) :
    Calls Try.prog 28 #[.int .u32 a, .int .i64 n, .bool b] W fun e w' => e = .returned (.int .u32 r) ∧ w' = W := by
  obtain ⟨P, Q, D, M, hP, hQ, hD, hM, ⟨P0, P1⟩, ⟨Q0, Q1⟩, ⟨D0, D1⟩, ⟨M0, M1⟩, rfl⟩ := with_nums ha hr n0 n1 b h
  obtain ⟨a0, a1⟩ := ha
  obtain ⟨r0, r1⟩ := hr
  have hz : ¬ P = 0 := by omega
  clear h
  go_enter Try.func28, Try.ntmps28
  cases b
  · simp only [Bool.false_eq_true, if_false] at r0 r1
    go_wp2
    go_ret
    exact ⟨by simp, rfl⟩
  · simp only [if_true] at r0 r1
    go_wp2
    go_ret
    exact ⟨by simp, rfl⟩

/-- The words on the way of the document's Mix: the bits from f up to k are v's. -/
def Upto (w v f k z : Int) : Prop := W32 z ∧ ∀ i : Nat, i < 32 → bit z i = if f ≤ (i : Int) ∧ (i : Int) < k then bit v i else bit w i

theorem Upto.start {w : Int} (hw : W32 w) (v f : Int) : Upto w v f f w := ⟨hw, fun i hi => by rw [if_neg (by omega)]⟩

theorem Upto.next {w v f k z : Int} (h : Upto w v f k z) (f0 : 0 ≤ f) (fk : f ≤ k) (k1 : k < 32) : Upto w v f (k + 1) (withV z k.toNat (bit v k.toNat)) :=
  ⟨with_w _ _ _ (by omega), fun i hi => by
    rw [bit_with _ _ _ (by omega) i hi, h.2 i hi]
    by_cases e : i = k.toNat
    · rw [if_pos e, if_pos (by omega), e]
    · rw [if_neg e]
      by_cases c : f ≤ (i : Int) ∧ (i : Int) < k
      · rw [if_pos c, if_pos (by omega)]
      · rw [if_neg c, if_neg (by omega)]⟩

theorem rmix_any {w v r : Int} (hw : W32 w) (hv : W32 v) (hr : W32 r) {f t : Int} (f0 : 0 ≤ f) (ft : f ≤ t) (t1 : t < 32)
    (h : ∀ i : Nat, i < 32 → bit r i = if f ≤ (i : Int) ∧ (i : Int) ≤ t then bit v i else bit w i) (W : World) :
    Calls Try.prog 27 #[.int .u32 w, .int .u32 v, .int .i64 f, .int .i64 t] W fun e w' => e = .returned (.int .u32 r) ∧ w' = W := by
  replace h := hide h
  replace hw := hide hw
  replace hv := hide hv
  replace hr := hide hr
  go_enter Try.func27, Try.ntmps27
  go_wp2
  go_loop [0, 9] (fun s i => ∃ k z : Int, f ≤ k ∧ k ≤ t + 1 ∧ i = .int .i64 k ∧ s = .int .u32 z ∧ Hid (Upto w v f k z)) (fun _ i => (33 - intOf i).toNat)
  case atStart => exact ⟨f, w, by omega, by omega, rfl, rfl, hide (Upto.start hw.out v f)⟩
  case round =>
    obtain ⟨k, z, k0, k1, rfl, rfl, hz⟩ := hrel
    by_cases hlt : k ≤ t
    · have hd : decide (k ≤ t) = true := by simpa using hlt
      have kn : 0 ≤ k := by omega
      go_wp2_with fail
      refine (rbit_any hv.out kn (by omega) _).mono ?_
      rintro e w1 ⟨rfl, rfl⟩
      go_wp2_with fail
      have hn := hide (hz.out.next f0 k0 (by omega))
      refine (rwith_any (r := withV z k.toNat (bit v k.toNat)) hz.out.1 hn.out.1 kn (by omega) (bit v k.toNat) (bit_with _ _ _ (by omega)) _).mono ?_
      rintro e w2 ⟨rfl, rfl⟩
      go_wp2
      go_round
      case rel => exact ⟨k + 1, _, by omega, by omega, by go_num, rfl, hn⟩
      case measure => simp [intOf]; omega
    · have hd : decide (k ≤ t) = false := by simpa using hlt
      have hx : z = r := bit_ext hz.out.1 hr.out fun i hi => by
        rw [hz.out.2 i hi, h.out i hi]
        have e : ((i : Int) < k) ↔ ((i : Int) ≤ t) := by omega
        simp only [e]
      subst hx
      go_wp2
      go_ret
      exact ⟨rfl, rfl⟩

end Go.Proofs.Ytjpfggffeffapaa
