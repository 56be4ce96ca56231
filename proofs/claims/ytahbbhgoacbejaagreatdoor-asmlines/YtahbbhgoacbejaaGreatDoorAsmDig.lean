/- Numbers in decimal digits, as the document has them. -/
import Derived.Test.YtahbbhgoacbejaaGreatDoorAsmBuild
import Derived.Test.YtahbbhgoacbejaaGreatDoorDecWalks2
import Derived.Deep.RegionWith
import Derived.Laws.BytesArg
import Derived.Lib.Strings
import Derived.Lib.ItoaLen
set_option linter.unusedVariables false
set_option linter.unusedSimpArgs false
namespace Go.Proofs.YtahbbhgoacbejaaGreatDoor
open Go.RowKit

theorem conv_one {w : World} {B : Nat} {x : Int} (h : w.cell? ⟨B, 0, none⟩ = some (.int .u8 x)) :
    (convert 56 9 (.slice (some ⟨B, 0, none⟩) 1 1)).run Tryz.prog w = .ok (.string (strOfNums [x])) w := by
  refine run_convert_bytes_arg w 56 5 Tryz.underlying56 Tryz.underlying5 B 0 1 1 [x] rfl ?_ 9 Tryz.underlying9
  intro i hi
  obtain rfl : i = 0 := by omega
  exact h

theorem conv_new (W : World) (x : Int) : (convert 56 9 (.slice (some ⟨W.heap.size, 0, none⟩) 1 1)).run Tryz.prog (W.alloc (.cells #[.int .u8 x] 5)) = .ok (.string (strOfNums [x])) (W.alloc (.cells #[.int .u8 x] 5)) :=
  conv_one (by have := World.alloc_heap_new W (.cells #[.int .u8 x] 5); simp only [World.cell?, this]; rfl)

theorem conv_new_drew (W : World) (x : Int) : (convert 56 9 (.slice (some ⟨W.heap.size, 0, none⟩) 1 1)).run Tryz.prog (W.alloc (.cells #[.int .u8 x] 5)).drew = .ok (.string (strOfNums [x])) (W.alloc (.cells #[.int .u8 x] 5)).drew :=
  conv_one (by have := World.alloc_heap_new W (.cells #[.int .u8 x] 5); show (W.alloc (.cells #[.int .u8 x] 5)).cell? _ = _; simp only [World.cell?, this]; rfl)

theorem conv_kept {W w' : World} {x : Int} (hb : Below (W.alloc (.cells #[.int .u8 x] 5)).drew.heap.size (W.alloc (.cells #[.int .u8 x] 5)).drew w') : (convert 56 9 (.slice (some ⟨W.heap.size, 0, none⟩) 1 1)).run Tryz.prog w' = .ok (.string (strOfNums [x])) w' :=
  conv_one (by
    rw [hb.cell (p := ⟨W.heap.size, 0, none⟩) (by show W.heap.size < (W.alloc _).heap.size; simp)]
    have := World.alloc_heap_new W (.cells #[.int .u8 x] 5)
    show (W.alloc (.cells #[.int .u8 x] 5)).cell? _ = _
    simp only [World.cell?, this]
    rfl)

theorem nums_one (k : Nat) (h : k < 10) : strOfNums [48 + (k : Int)] = ⟨#[UInt8.ofNat (48 + k)]⟩ := by
  have : ∀ k < 10, strOfNums [48 + ((k : Nat) : Int)] = ⟨#[UInt8.ofNat (48 + k)]⟩ := by decide +kernel
  exact this k h

set_option maxRecDepth 100000 in
theorem digits_low (n : Nat) (h : n < 10) (w : World) :
    Calls Tryz.prog 55 #[.int .i64 (n : Int)] w fun e w' => e = .returned (.string ⟨(Lib.decDigits n).toArray⟩) ∧ Below w.heap.size w w' := by
  have hl : (n : Int) < 10 := by omega
  have hc := conv_new w (48 + (n : Int))
  rw [nums_one n h] at hc
  have hd : (⟨(Lib.decDigits n).toArray⟩ : ByteArray) = ⟨#[UInt8.ofNat (48 + n)]⟩ := by rw [Lib.decDigits, dif_pos h]
  rw [hd]
  generalize UInt8.ofNat (48 + n) = u at *
  go_enter Tryz.func55, Tryz.ntmps55
  go_wp2
  go_ret
  exact ⟨rfl, (Below.refl _ _).alloc (Nat.le_refl _) _⟩

theorem digits_few (u : Nat) (h : u ≤ 1000000000) : (Lib.decDigits u).length ≤ 22 := by
  have := Lib.itoa_length_le (u : Int) (by omega) (by omega)
  rw [show Lib.itoa (u : Int) = Lib.decDigits u by unfold Lib.itoa; rw [if_neg (by omega)]; simp] at this
  omega
theorem wrap_i (q : Nat) (h : (q : Int) ≤ 1000000000) : IntKind.i64.wrap (q : Int) = (q : Int) := by
  rw [IntKind.wrap_i64]
  omega
theorem wrap_k (k : Nat) (h : k < 10) : IntKind.i64.wrap (48 + (k : Int)) = 48 + (k : Int) := by
  have : ∀ k < 10, IntKind.i64.wrap (48 + ((k : Nat) : Int)) = 48 + (k : Int) := by decide +kernel
  exact this k h
theorem wrap_u (k : Nat) (h : k < 10) : IntKind.u8.wrap (48 + (k : Int)) = 48 + (k : Int) := by
  have : ∀ k < 10, IntKind.u8.wrap (48 + ((k : Nat) : Int)) = 48 + (k : Int) := by decide +kernel
  exact this k h

set_option maxRecDepth 100000 in
set_option maxHeartbeats 2000000 in
theorem digits_high (n q k : Nat) (X Y : ByteArray) (h : ¬ (n : Int) < 10) (hn : (n : Int) ≤ 1000000000) (hq : (n : Int).tdiv 10 = (q : Int)) (hqn : (q : Int) ≤ 1000000000) (hk : (n : Int).tmod 10 = (k : Int)) (hk10 : k < 10) (hY : strOfNums [48 + (k : Int)] = Y) (hX : X.size ≤ 1000) (hYs : Y.size ≤ 1000)
    (ih : ∀ w, Calls Tryz.prog 55 #[.int .i64 (q : Int)] w fun e w' => e = .returned (.string X) ∧ Below w.heap.size w w') (w : World) :
    Calls Tryz.prog 55 #[.int .i64 (n : Int)] w fun e w' => e = .returned (.string (X ++ Y)) ∧ Below w.heap.size w w' := by
  have hcn := fun W => conv_new W (48 + (k : Int))
  have hcd := fun W => conv_new_drew W (48 + (k : Int))
  rw [hY] at hcn hcd
  have hw1 : IntKind.i64.wrap (q : Int) = (q : Int) := wrap_i q hqn
  have hw2 : IntKind.i64.wrap (48 + (k : Int)) = 48 + (k : Int) := wrap_k k hk10
  have hw3 : IntKind.u8.wrap (48 + (k : Int)) = 48 + (k : Int) := wrap_u k hk10
  go_enter Tryz.func55, Tryz.ntmps55
  go_wp2_with fail
  go_region_with (go_at_call 55; refine (ih _).mono ?_; rintro e w' ⟨rfl, hb⟩; first | have hck := conv_kept hb | skip)
  all_goals
    go_wp2
    go_ret
    refine ⟨rfl, ?_⟩
    first
      | exact (((Below.refl _ w).drew).trans hb).alloc (by have := hb.size; exact this) _
      | exact (((Below.refl _ w).alloc (Nat.le_refl _) _).drew).trans (hb.mono (by show w.heap.size ≤ (w.alloc _).heap.size; simp))

theorem digits_any (n : Nat) : n ≤ 1000000000 → ∀ w, Calls Tryz.prog 55 #[.int .i64 (n : Int)] w fun e w' => e = .returned (.string ⟨(Lib.decDigits n).toArray⟩) ∧ Below w.heap.size w w' := by
  induction n using Nat.strongRecOn with
  | ind n ih =>
    intro hn w
    by_cases h : n < 10
    · exact digits_low n h w
    · have hd : (⟨(Lib.decDigits n).toArray⟩ : ByteArray) = (⟨(Lib.decDigits (n / 10)).toArray⟩ : ByteArray) ++ (⟨#[UInt8.ofNat (48 + n % 10)]⟩ : ByteArray) := by
        rw [Lib.decDigits, dif_neg h]
        apply ByteArray.ext
        simp
      have hl : (⟨(Lib.decDigits (n / 10)).toArray⟩ : ByteArray).size ≤ 1000 := by
        show (Lib.decDigits (n / 10)).length ≤ 1000
        have := digits_few (n / 10) (by omega)
        omega
      rw [hd]
      exact digits_high n (n / 10) (n % 10) _ _ (by omega) (by omega) (by rw [Int.tdiv_eq_ediv_of_nonneg (by omega)]; omega) (by omega) (by rw [Int.tmod_eq_emod_of_nonneg (by omega)]; omega) (by omega) (nums_one _ (by omega)) hl (by show 1 ≤ 1000; omega) (fun w => ih (n / 10) (by omega) (by omega) w) w

end Go.Proofs.YtahbbhgoacbejaaGreatDoor
