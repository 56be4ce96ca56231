/- Contracts of the program's Load and Page, and of refusals. -/
import Derived.Test.YtdapjpbdplhgbaaMemW1
import Derived.Laws.BytesArg
namespace Go.Proofs.Ytdapjpbdplhgbaa
open Go.RowKit
set_option linter.unusedVariables false
set_option maxRecDepth 100000

theorem pageOf_bad {w : World} {p g n c : Nat} {B : Nat → Nat} {D : Nat → Bool} (M : Mem w p g n c B D) (a s : Int) (a0 : 0 ≤ a) (a1 : a < 4294967296)
    (h : ¬ ((s = 1 ∨ s = 2 ∨ s = 4) ∧ a % s = 0 ∧ a + s ≤ 256 * n)) :
    Calls Try.prog 70 #[.pointer (some ⟨p, 0, none⟩), .int .u32 a, .int .i64 s] w fun e w' => e = .returned (.tuple #[.pointer none, .int .i64 61]) ∧ w' = w := by
  have n64 := M.n64
  by_cases h1 : s = 1 ∨ s = 2 ∨ s = 4
  · by_cases h2 : a % s = 0
    · have h3 : ¬ (a + s ≤ 256 * n) := fun c => h ⟨h1, h2, c⟩
      have F := find_bad M (a / 256) (by rcases h1 with rfl | rfl | rfl <;> omega)
      rcases h1 with rfl | rfl | rfl
      all_goals
        clear h
        go_enter Try.func70, Try.ntmps70
        go_wp2_with fail
        refine F.mono ?_
        rintro e w' ⟨rfl, rfl⟩
        go_wp2
        go_ret2
        exact ⟨rfl, rfl⟩
    · clear h
      rcases h1 with rfl | rfl | rfl
      · omega
      · have hb : (a % 2 != 0) = true := by simpa using h2
        go_enter Try.func70, Try.ntmps70
        go_wp2
        go_ret2
        exact ⟨rfl, rfl⟩
      · have hb : (a % 4 != 0) = true := by simpa using h2
        go_enter Try.func70, Try.ntmps70
        go_wp2
        go_ret2
        exact ⟨rfl, rfl⟩
  · clear h
    have b1 : (s != 1) = true := by simp; omega
    have b2 : (s != 2) = true := by simp; omega
    have b3 : (s != 4) = true := by simp; omega
    clear h1
    go_enter Try.func70, Try.ntmps70
    go_wp2
    go_ret2
    exact ⟨rfl, rfl⟩

theorem load_bad {w : World} {p g n c : Nat} {B : Nat → Nat} {D : Nat → Bool} (M : Mem w p g n c B D) (a s : Int) (a0 : 0 ≤ a) (a1 : a < 4294967296)
    (h : ¬ ((s = 1 ∨ s = 2 ∨ s = 4) ∧ a % s = 0 ∧ a + s ≤ 256 * n)) :
    Calls Try.prog 44 #[.pointer (some ⟨p, 0, none⟩), .int .u32 a, .int .i64 s] w fun e w' => e = .returned (.tuple #[.int .u32 0, .int .i64 61]) ∧ w' = w := by
  have F := pageOf_bad M a s a0 a1 h
  clear h
  go_enter Try.func44, Try.ntmps44
  go_wp2_with fail
  refine F.mono ?_
  rintro e w' ⟨rfl, rfl⟩
  go_wp2
  go_ret2
  exact ⟨rfl, rfl⟩

theorem or_add (v b : Nat) (hv : v < 16777216) (hb : b < 256) : bits .or .u32 ((v : Int) * 256) (b : Int) = (v : Int) * 256 + (b : Int) := by
  rw [show (v : Int) * 256 = ((v * 256 : Nat) : Int) by omega, u32_or_nat _ _ (by omega) (by omega)]
  have := Nat.shiftLeft_add_eq_or_of_lt (a := v) (b := b) (i := 8) (by omega)
  rw [Nat.shiftLeft_eq] at this
  rw [show v * 256 = v * 2 ^ 8 from rfl, ← this]
  omega

set_option maxHeartbeats 1000000 in
theorem load_any {w : World} {p g n c : Nat} {B : Nat → Nat} {D : Nat → Bool} (M : Mem w p g n c B D) (a : Nat) (s : Nat) (a1 : a < 4294967296) (h : may n a s) :
    Calls Try.prog 44 #[.pointer (some ⟨p, 0, none⟩), .int .u32 (a : Int), .int .i64 (s : Int)] w fun e w' => e = .returned (.tuple #[.int .u32 (numOf B a s : Nat), .int .i64 0]) ∧ w' = w := by
  obtain ⟨h1, h2, h3⟩ := h
  have n64 := M.n64
  have P := pageOf_raw M (a : Int) s (a / 256) (by omega) (by omega) h1 (by omega) (by omega) (by omega)
  have N := number_raw w g (a / 256 * 257) s (a % 256) (a : Int) (by omega) (by rcases h1 with rfl | rfl | rfl <;> omega) (by omega) (by omega) (by omega)
  have hc : ∀ j, j < s → w.cell? ⟨g, a / 256 * 257 + a % 256 + j, none⟩ = some (.int .u8 ((B (a + j) : Nat) : Int)) := by
    intro j hj
    have := M.by' (a + j) (by omega)
    rw [show a / 256 * 257 + a % 256 + j = a + j + (a + j) / 256 by rcases h1 with rfl | rfl | rfl <;> omega]
    exact this
  have hlt := M.lt
  have hs4 : s ≤ 4 := by omega
  obtain ⟨k, hk⟩ : ∃ k, k = a / 256 * 257 := ⟨_, rfl⟩
  obtain ⟨q, hq⟩ : ∃ q, q = a % 256 := ⟨_, rfl⟩
  rw [← hk] at P N hc
  rw [← hq] at N hc
  obtain ⟨A, hA⟩ : ∃ A : Int, A = (a : Int) := ⟨_, rfl⟩
  rw [← hA] at P N ⊢
  have HC : Hid (∀ j, j < s → w.cell? ⟨g, k + q + j, none⟩ = some (.int .u8 ((B (a + j) : Nat) : Int))) := hc
  have HP : Hid (1 ≤ s) := by show 1 ≤ s; omega
  clear hc h1 h2 h3 hk hq hA M n64
  go_enter Try.func44, Try.ntmps44
  go_wp2_with fail
  refine P.mono ?_
  rintro e w' ⟨rfl, rfl⟩
  go_wp2_with fail
  refine N.mono ?_
  rintro e w' ⟨rfl, rfl⟩
  clear P N
  go_wp2
  go_loop [10, 28] (fun t i => ∃ j : Nat, j ≤ s ∧ i = .int .i64 j ∧ t = .int .u32 ((numOf B a j : Nat) : Int)) (fun _ i => s - (intOf i).toNat)
  case atStart => exact ⟨0, by omega, rfl, rfl⟩
  case round =>
    obtain ⟨j, hj, rfl, rfl⟩ := hrel
    by_cases hl : j < s
    · have hv := numOf_lt hlt a j
      have hv2 : numOf B a j < 16777216 := Nat.lt_of_lt_of_le hv (by have : j ≤ 3 := by omega
                                                                     exact Nat.pow_le_pow_right (n := 256) (by decide) this)
      have hor := or_add (numOf B a j) (B (a + j)) hv2 (hlt _)
      have hb := hlt (a + j)
      have hcj := HC.out j hl
      have HN : Hid (numOf B a (j + 1) = numOf B a j * 256 + B (a + j)) := rfl
      obtain ⟨x, hx⟩ : ∃ x, x = numOf B a j := ⟨_, rfl⟩
      obtain ⟨b, hb'⟩ : ∃ b, b = B (a + j) := ⟨_, rfl⟩
      rw [← hx] at hor hv2 HN ⊢
      rw [← hb'] at hor hb hcj HN
      clear hv hx hb' HC
      go_wp2
      go_round
      case rel => exact ⟨j + 1, by omega, by go_num, by rw [HN.out]; go_num⟩
      case measure => simp [intOf]; omega
    · have : j = s := by omega
      subst this
      go_wp2
      go_ret2
      exact ⟨rfl, rfl⟩

theorem page_all (w : World) (g o : Nat) :
    (Instr.sliceAt 96 (.pointer (some ⟨g, o, none⟩)) none none none).run Try.prog w = .ok (.slice (some ⟨g, o, none⟩) 256 256) w := by
  rw [run_sliceAt_array_all w 96 ⟨g, o, none⟩ u61, e61, size5, Result.andThen_ok, l61]
  unfold slicedAt
  rw [if_neg (by decide), Addr.add_lit]
  rfl

theorem page_text {w : World} {p g n c : Nat} {B : Nat → Nat} {D : Nat → Bool} (M : Mem w p g n c B D) (k : Nat) (h : k < n) :
    (convert 60 9 (.slice (some ⟨g, k * 257, none⟩) 256 256)).run Try.prog w = .ok (.string (textOf 256 (fun j => B (256 * k + j)))) w := by
  refine run_convert_bytes_arg w 60 5 Try.underlying60 Try.underlying5 g (k * 257) 256 256 _ (by rw [List.length_map, List.length_range]) ?_ 9 Try.underlying9
  intro i hi
  have := M.by' (256 * k + i) (by omega)
  rw [show k * 257 + i = 256 * k + i + (256 * k + i) / 256 by omega, this, List.getD_eq_getElem?_getD, List.getElem?_map, List.getElem?_range hi]
  rfl

theorem page_any {w : World} {p g n c : Nat} {B : Nat → Nat} {D : Nat → Bool} (M : Mem w p g n c B D) (k : Nat) (h : k < n) :
    Calls Try.prog 16 #[.pointer (some ⟨p, 0, none⟩), .int .i64 (k : Int)] w fun e w' => e = .returned (.tuple #[.string (textOf 256 (fun j => B (256 * k + j))), .int .i64 0]) ∧ w' = w := by
  have F := find_any M k h
  have hs := page_all w g (k * 257)
  have ht := page_text M k h
  obtain ⟨T, hT⟩ : ∃ T, T = textOf 256 (fun j => B (256 * k + j)) := ⟨_, rfl⟩
  rw [← hT] at ht ⊢
  obtain ⟨o, ho⟩ : ∃ o, o = k * 257 := ⟨_, rfl⟩
  rw [← ho] at hs ht F
  clear hT ho
  go_enter Try.func16, Try.ntmps16
  go_wp2_with fail
  refine F.mono ?_
  rintro e w' ⟨rfl, rfl⟩
  go_wp2
  go_ret2
  exact ⟨rfl, rfl⟩

theorem page_bad {w : World} {p g n c : Nat} {B : Nat → Nat} {D : Nat → Bool} (M : Mem w p g n c B D) (k : Int) (h : ¬ (0 ≤ k ∧ k < n)) :
    Calls Try.prog 16 #[.pointer (some ⟨p, 0, none⟩), .int .i64 k] w fun e w' => e = .returned (.tuple #[.string ⟨#[]⟩, .int .i64 61]) ∧ w' = w := by
  have F := find_bad M k h
  clear h
  go_enter Try.func16, Try.ntmps16
  go_wp2_with fail
  refine F.mono ?_
  rintro e w' ⟨rfl, rfl⟩
  go_wp2
  go_ret2
  exact ⟨rfl, rfl⟩

end Go.Proofs.Ytdapjpbdplhgbaa
