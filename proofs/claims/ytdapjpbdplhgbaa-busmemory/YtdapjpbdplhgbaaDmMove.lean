/- Layer 11: contracts of a move, the program's. -/
import Derived.Test.YtdapjpbdplhgbaaDmFill
import Derived.Test.YtdapjpbdplhgbaaDmParse
namespace Go.Proofs.Ytdapjpbdplhgbaa.Dm
open Go.RowKit
set_option linter.unusedVariables false
set_option maxRecDepth 100000
set_option linter.unusedSimpArgs false

/-- Are both ends of a move there, in a memory of n pages? -/
def fitsB (n : Nat) (t : Dm) (disk : ByteArray) : Bool := decide (disk.size = 1024 ∧ t.n < 16 ∧ t.a % 64 = 0 ∧ t.a + 64 ≤ 256 * (n : Int))

set_option maxHeartbeats 1000000 in
theorem fits_any {w : World} {p g n c : Nat} {B : Nat → Nat} {D : Nat → Bool} (M : Mem w p g n c B D) (t : Dm) (ht : Wd t) (disk : ByteArray) (hm : disk.size ≤ maxLen) :
    Calls Try.prog 82 #[.agg (cellsD t), .pointer (some ⟨p, 0, none⟩), .string disk] w fun e w' => e = .returned (.bool (fitsB n t disk)) ∧ Below w.heap.size w w' := by
  obtain ⟨t1, t2, t3, t4, t5, t6, t7, t8, t9⟩ := dmRules
  obtain ⟨p0, p1, p2, p3, p4⟩ := dmParts
  obtain ⟨a0, a1⟩ := ht.a
  obtain ⟨b0, b1⟩ := ht.n
  have n64 := M.n64
  unfold maxLen at hm
  clear ht
  by_cases h1 : disk.size = 1024
  · by_cases h2 : t.n < 16
    · by_cases h3 : t.a % 64 = 0
      · have hf : fitsB n t disk = decide (t.a + 64 ≤ (n : Int) * 256) := by
          unfold fitsB
          simp only [h1, h2, h3, true_and]
          congr 1
          rw [Int.mul_comm]
        rw [hf]
        have e3 : t.a.tmod 64 = 0 := by rw [Int.tmod_eq_emod_of_nonneg a0]; exact h3
        have e2 : decide (16 ≤ t.n) = false := by simp; omega
        have hw1 : IntKind.i64.wrap t.a = t.a := by rw [IntKind.wrap_i64]; omega
        have hw2 : IntKind.i64.wrap (t.a + 64) = t.a + 64 := by rw [IntKind.wrap_i64]; omega
        have hw3 : IntKind.i64.wrap ((n : Int) * 256) = (n : Int) * 256 := by rw [IntKind.wrap_i64]; omega
        have P := pages_any ((M.on (grow w (.cells (cellsD t) 66))).drew)
        clear hf h3 M
        go_enter Try.func82, Try.ntmps82
        go_wp2_with fail
        go_region_with (go_at_call 97; refine P.mono ?_; rintro e w' ⟨rfl, rfl⟩)
        all_goals
          go_wp2
          go_ret
          exact ⟨rfl, (grow _ _).drew⟩
      · have hf : fitsB n t disk = false := by unfold fitsB; simp [h3]
        rw [hf]
        have e3 : (t.a % 64 != 0) = true := by simpa using h3
        have e2 : decide (16 ≤ t.n) = false := by simp; omega
        clear hf h3 M
        go_enter Try.func82, Try.ntmps82
        go_wp2
        go_ret
        exact ⟨rfl, grow _ _⟩
    · have hf : fitsB n t disk = false := by unfold fitsB; simp [h2]
      rw [hf]
      have e2 : decide (16 ≤ t.n) = true := by simp; omega
      clear hf M
      go_enter Try.func82, Try.ntmps82
      go_wp2
      go_ret
      exact ⟨rfl, grow _ _⟩
  · have hf : fitsB n t disk = false := by unfold fitsB; simp [h1]
    rw [hf]
    have e1 : ((disk.size : Int) != 1024) = true := by simp; omega
    clear hf h1 M
    go_enter Try.func82, Try.ntmps82
    go_wp2
    go_ret
    exact ⟨rfl, grow _ _⟩

/-- The bytes when the first m bytes of a row F are stored from a on. -/
def secB (B : Nat → Nat) (a m : Nat) (F : Nat → Nat) : Nat → Nat := fun j => if a ≤ j ∧ j < a + m then F (j - a) else B j

theorem secB_lt {B F : Nat → Nat} (l : ∀ j, B j < 256) (k : ∀ j, F j < 256) (a m j : Nat) : secB B a m F j < 256 := by
  unfold secB
  split
  · exact k _
  · exact l j

theorem byteOf_num (F : Nat → Nat) (h : ∀ j, F j < 256) (x i : Nat) (hi : i < 4) : byteOf (numOf F x 4) 4 i = F (x + i) := by
  rw [num4]
  unfold byteOf be
  have h0 := h x
  have h1 := h (x + 1)
  have h2 := h (x + 2)
  have h3 := h (x + 3)
  match i, hi with
  | 0, _ => simp only [show (256 : Nat) ^ (4 - 1 - 0) = 16777216 from rfl, Nat.add_zero]; omega
  | 1, _ => simp only [show (256 : Nat) ^ (4 - 1 - 1) = 65536 from rfl]; omega
  | 2, _ => simp only [show (256 : Nat) ^ (4 - 1 - 2) = 256 from rfl]; omega
  | 3, _ => simp only [show (256 : Nat) ^ (4 - 1 - 3) = 1 from rfl, Nat.div_one]; omega

theorem secB_step {B F : Nat → Nat} (h : ∀ j, F j < 256) (a k j : Nat) : putB (secB B a (4 * k) F) (a + 4 * k) 4 (numOf F (4 * k) 4) j = secB B a (4 * (k + 1)) F j := by
  unfold putB secB
  by_cases h1 : a + 4 * k ≤ j ∧ j < a + 4 * k + 4
  · rw [if_pos h1, if_pos (by omega), byteOf_num F h _ _ (by omega), show 4 * k + (j - (a + 4 * k)) = j - a by omega]
  · rw [if_neg h1]
    by_cases h2 : a ≤ j ∧ j < a + 4 * k
    · rw [if_pos h2, if_pos (by omega)]
    · rw [if_neg h2, if_neg (by omega)]

/-- The marks when k numbers are stored in page i. -/
def secD (D : Nat → Bool) (i k : Nat) : Nat → Bool := fun j => if k = 0 then D j else putD D i j

theorem secD_step (D : Nat → Bool) (i k j : Nat) : putD (secD D i k) i j = secD D i (k + 1) j := by
  unfold secD putD
  by_cases h : j = i
  · simp [h]
  · by_cases h0 : k = 0
    · simp [h, h0]
    · simp [h, h0]

theorem num_sec (disk sec : ByteArray) (x i : Nat) (h : ∀ j, j < 64 → byteAt sec j = byteAt disk (x + j)) (hi : i + 4 ≤ 64) : numOf (byteAt sec) i 4 = numOf (fun j => byteAt disk (x + j)) i 4 := by
  rw [num4, num4, h i (by omega), h (i + 1) (by omega), h (i + 2) (by omega), h (i + 3) (by omega)]

set_option maxHeartbeats 1000000 in
set_option maxRecDepth 100000 in
theorem store_sector {w : World} {p g n c : Nat} {B : Nat → Nat} {D : Nat → Bool} (M : Mem w p g n c B D) (a num : Nat) (hn : num < 16) (ha : a % 64 = 0) (hz : a + 64 ≤ 256 * n) (disk : ByteArray) (hm : disk.size = 1024) :
    Calls Try.prog 83 #[.pointer (some ⟨p, 0, none⟩), .int .u32 (a : Int), .string disk, .int .i64 (num : Int)] w fun e w' => e = .returned (.tuple #[]) ∧
      Mem w' p g n c (secB B a 64 (fun j => byteAt disk (64 * num + j))) (putD D (a / 256)) ∧ w.grownBy w' (some g) := by
  have n64 := M.n64
  have lt := M.lt
  obtain ⟨F, hF⟩ : ∃ F : Nat → Nat, F = fun j => byteAt disk (64 * num + j) := ⟨_, rfl⟩
  have hF6 : ∀ j, F j < 256 := fun j => by rw [hF]; exact byteAt_lt _ _
  rw [← hF]
  obtain ⟨sec, hsec⟩ : ∃ sec, disk.extract (num * 64) ((num + 1) * 64) = sec := ⟨_, rfl⟩
  have zs : sec.size = 64 := by rw [← hsec, ByteArray.size_extract]; omega
  have hs : Hid (∀ j, j < 64 → byteAt sec j = byteAt disk (64 * num + j)) := hide (fun j hj => by rw [← hsec, byteAt_cut disk _ _ _ (by omega) (by omega), Nat.mul_comm num 64])
  replace hF := hide hF
  replace hF6 := hide hF6
  replace lt := hide lt
  replace M := hide M
  go_enter Try.func83, Try.ntmps83
  go_wp2_with fail
  simp only [hsec]
  clear hsec
  go_loopw [9] (fun i wr => ∃ k : Nat, k ≤ 16 ∧ i = .int .i64 (4 * (k : Int)) ∧ Hid (Mem wr p g n c (secB B a (4 * k) F) (secD D (a / 256) k)) ∧ Hid (w.grownBy wr (some g))) (fun i _ => 64 - (intOf i).toNat)
  case atStart => exact ⟨0, by omega, rfl, hide (M.out.congr (fun j _ => by unfold secB; rw [if_neg (by omega)]) (fun j _ => by simp [secD]) (secB_lt lt.out hF6.out _ _)), hide (grownBy_refl _ _)⟩
  case round =>
    clear M
    obtain ⟨k, hk, rfl, M, G⟩ := hrel
    by_cases h : k < 16
    · have c1 := hide fun W => number_any sec (4 * k) 64 (by omega) (by omega) (by unfold maxLen; omega) W
      rw [num_sec disk sec (64 * num) (4 * k) hs.out (by omega), ← hF.out] at c1
      have v1 := numOf_lt hF6.out (4 * k) 4
      have hst := hide (fun j => secB_step (B := B) hF6.out a k j)
      obtain ⟨v, hv⟩ : ∃ v, v = numOf F (4 * k) 4 := ⟨_, rfl⟩
      rw [← hv] at c1 v1 hst
      clear hv
      have v2 : v < 4294967296 := v1
      have c2 := hide (store_any M.out.drew (a + 4 * k) 4 v (by omega) v2 (by unfold may; omega))
      rw [show ((a + 4 * k : Nat) : Int) = (a : Int) + 4 * (k : Int) by omega, show (a + 4 * k) / 256 = a / 256 by omega] at c2
      clear v1
      go_wp2_with fail
      refine (c1.out _).mono ?_
      rintro e w1 ⟨rfl, rfl⟩
      go_wp2_with fail
      refine c2.out.mono ?_
      rintro e w2 ⟨rfl, M2, g2⟩
      have M3 := hide (M2.congr (fun j _ => hst.out j) (fun j _ => secD_step D (a / 256) k j) (secB_lt lt.out hF6.out _ _))
      have G3 := hide (grownBy_trans G.out (grownBy_trans (grownBy_of (Below.refl _ _).drew _) g2))
      clear M2 g2 c1 c2 M G hst
      go_wp2
      go_roundw
      case rel => exact ⟨k + 1, by omega, by go_num, M3, G3⟩
      case measure => simp [intOf]; omega
    · obtain rfl : k = 16 := by omega
      have M2 := hide (M.out.congr (D' := putD D (a / 256)) (fun _ _ => rfl) (fun _ _ => by simp [secD]) (secB_lt lt.out hF6.out _ _))
      clear M
      go_wp2
      go_end0
      exact ⟨rfl, M2.out, G.out⟩

end Go.Proofs.Ytdapjpbdplhgbaa.Dm
