/- Layer 18: the program's disk: how much of a loose write stays; sectors; why a call is refused. -/
import Derived.Test.YtgffhnggocbjhaaDkPa
import Derived.Laws.BitsAllLaws
namespace Go.Proofs.Ytgffhnggocbjhaa
open Go.RowKit
set_option linter.unusedVariables false
set_option maxRecDepth 100000
set_option linter.unusedSimpArgs false

theorem whole_any (i : Int) (w : World) : Calls Try.prog 94 #[.int .i64 i] w fun e w' => e = .returned (.int .i64 64) ∧ w' = w := by
  go_enter Try.func94, Try.ntmps94
  go_wp2
  go_ret
  exact ⟨rfl, rfl⟩

theorem bit_u8 (b : UInt8) (m : Nat) : (bits .and .u8 ((b.toNat : Int) / 2 ^ m) 1 == 1) = decide (b.toNat / 2 ^ m % 2 = 1) := by
  have hb := b.toNat_lt
  have h2 : ((b.toNat : Nat) : Int) / 2 ^ m = ((b.toNat / 2 ^ m : Nat) : Int) := by
    rw [Int.natCast_ediv]
    norm_cast
  have h3 : b.toNat / 2 ^ m < 256 := Nat.lt_of_le_of_lt (Nat.div_le_self _ _) hb
  rw [h2]
  have := u8_and_nat (b.toNat / 2 ^ m) 1 h3 (by decide)
  rw [show ((1 : Nat) : Int) = 1 from rfl] at this
  rw [this, Nat.and_one_is_mod]
  rcases Nat.mod_two_eq_zero_or_one (b.toNat / 2 ^ m) with e | e <;> rw [e] <;> rfl

set_option maxHeartbeats 1000000 in
theorem kept2_any (c : Crs) (i : Nat) (hi : i ≤ 1000) (w : World) :
    Calls Try.prog 85 #[crashV c, .int .i64 (i : Int)] w fun e w' => e = .returned (.bool (bitAt c.keep i)) ∧ Below w.heap.size w w' := by
  unfold crashV
  obtain ⟨s, hs⟩ : ∃ s, s = c.keep := ⟨_, rfl⟩
  rw [← hs]
  clear hs
  by_cases h : i / 8 < s.size
  · have hb : bitAt s i = (bits .and .u8 ((s[i / 8].toNat : Int) / 2 ^ (i % 8)) 1 == 1) := by
      rw [bit_u8, bitAt, byteAt_in s _ h]
      simp [h]
    rw [hb]
    clear hb
    go_enter Try.func85, Try.ntmps85
    go_wp2
    go_ret
    exact ⟨rfl, grow _ _⟩
  · have hb : bitAt s i = false := by simp [bitAt, h]
    rw [hb]
    clear hb
    go_enter Try.func85, Try.ntmps85
    go_wp2
    go_ret
    exact ⟨rfl, grow _ _⟩

theorem min_max (b : Int) : min (max b 0) 64 = ((cutN b : Nat) : Int) := by unfold cutN; omega

set_option maxHeartbeats 1000000 in
theorem stays_any (c : Crs) (i : Nat) (hi : i ≤ 1000) (w : World) :
    Calls Try.prog 58 #[crashV c, .int .i64 (i : Int)] w fun e w' => e = .returned (.int .i64 ((stayN c i : Nat) : Int)) ∧ Below w.heap.size w w' := by
  have hk := hide (kept2_any c i hi)
  have hm := min_max c.bytes
  obtain ⟨K, hK⟩ : ∃ K, K = ((cutN c.bytes : Nat) : Int) := ⟨_, rfl⟩
  rw [← hK] at hm
  by_cases e : (i : Int) = c.torn
  · have hs : ((stayN c i : Nat) : Int) = K := by unfold stayN; rw [if_pos e, hK]
    rw [hs, ← hm]
    unfold crashV
    clear hs hK hm hk
    go_enter Try.func58, Try.ntmps58
    go_wp2
    go_ret
    exact ⟨rfl, grow _ _⟩
  · have hs : stayN c i = if bitAt c.keep i then 64 else 0 := by unfold stayN; rw [if_neg e]
    rw [hs]
    clear hs hK hm
    unfold crashV at *
    cases hb : bitAt c.keep i with
    | true =>
      rw [hb] at hk
      go_enter Try.func58, Try.ntmps58
      go_wp2_with fail
      refine (hk.out _).mono ?_
      rintro e w' ⟨rfl, hB⟩
      replace hB := hide hB
      go_wp2
      go_ret
      exact ⟨rfl, onto (grow _ _) (Nat.le_refl _) hB.out⟩
    | false =>
      rw [hb] at hk
      go_enter Try.func58, Try.ntmps58
      go_wp2_with fail
      refine (hk.out _).mono ?_
      rintro e w' ⟨rfl, hB⟩
      replace hB := hide hB
      go_wp2
      go_ret
      exact ⟨rfl, onto (grow _ _) (Nat.le_refl _) hB.out⟩

theorem stayN_le (c : Crs) (i : Nat) : stayN c i ≤ 64 := by
  unfold stayN
  split
  · exact cutN_le _
  · split <;> omega

/-- A disk's row of bytes: where it lies. -/
theorem PS.cells {w : World} {H : Nat → Prop} {db : Nat} {sv lv gv : Value} {d : Dk} (P : PS w H db sv lv gv d) :
    w.cell? ⟨db, 0, none⟩ = some sv ∧ w.cell? ⟨db, 1, none⟩ = some lv ∧ w.cell? ⟨db, 2, none⟩ = some (.bool d.dead) ∧ w.cell? ⟨db, 3, none⟩ = some (.int .i64 (d.m : Int)) ∧ w.cell? ⟨db, 4, none⟩ = some (.int .i64 (d.a : Int)) ∧ w.cell? ⟨db, 5, none⟩ = some gv :=
  ⟨P.box.cell 0, P.box.cell 1, P.box.cell 2, P.box.cell 3, P.box.cell 4, P.box.cell 5⟩

theorem tdiv64 (n : Nat) : ((64 * n : Nat) : Int).tdiv 64 = (n : Int) := by
  rw [Int.tdiv_eq_ediv_of_nonneg (by omega)]; omega

theorem psectors_any {w : World} {H : Nat → Prop} {db : Nat} {sv lv gv : Value} {d : Dk} (P : PS w H db sv lv gv d) :
    Calls Try.prog 87 #[.pointer (some ⟨db, 0, none⟩)] w fun e w' => e = .returned (.int .i64 (d.S.length : Int)) ∧ w' = w := by
  obtain ⟨g, cap, hsv, -⟩ := P.open
  have b0 := P.cells.1
  obtain ⟨n, hn⟩ : ∃ n, n = d.S.length := ⟨_, rfl⟩
  have s2 := P.g.s2
  rw [hsv, ← hn] at b0
  rw [← hn] at s2 ⊢
  clear P hsv hn
  go_enter Try.func87, Try.ntmps87
  go_wp2
  go_ret
  exact ⟨by congr 2, rfl⟩

end Go.Proofs.Ytgffhnggocbjhaa
