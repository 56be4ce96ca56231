/- Texts one behind the other; a number's text and a register's, as the document has them. -/
import Derived.Test.YtahbbhgoacbejaaGreatDoorAsmDig
import Derived.Test.YtahbbhgoacbejaaGreatDoorDecRef
set_option linter.unusedVariables false
set_option linter.unusedSimpArgs false
namespace Go.Proofs.YtahbbhgoacbejaaGreatDoor
open Go.RowKit

theorem cat (X Y : ByteArray) (h : X.size + Y.size ≤ 100000) (w : World) : (binOp .add 9 (.string X) (.string Y)).run Tryz.prog w = .ok (.string (X ++ Y)) w := by
  have h2 : ¬ 9223372036854775807 < X.size + Y.size := by omega
  simp [go_sem, h2, maxLen]

theorem sz_one (c : UInt8) : (⟨#[c]⟩ : ByteArray).size = 1 := rfl

set_option maxRecDepth 100000 in
theorem num_low (n : Nat) (h : n ≤ 1000000000) (X : ByteArray) (hD : ∀ w, Calls Tryz.prog 55 #[.int .i64 (n : Int)] w fun e w' => e = .returned (.string X) ∧ Below w.heap.size w w') (w : World) :
    Calls Tryz.prog 36 #[.int .i64 (n : Int)] w fun e w' => e = .returned (.string X) ∧ Below w.heap.size w w' := by
  have h0 : ¬ (n : Int) < 0 := by omega
  go_enter Tryz.func36, Tryz.ntmps36
  go_wp2_with fail
  refine (hD _).mono ?_
  rintro e w1 ⟨rfl, h1⟩
  go_wp2_with fail
  go_ret
  exact ⟨rfl, h1⟩

set_option maxRecDepth 100000 in
theorem num_neg (n : Int) (k : Nat) (h : n < 0) (hw : wrap64 (-n) = (k : Int)) (hw' : IntKind.i64.wrap (-n) = (k : Int)) (X : ByteArray) (hX : X.size ≤ 100) (hD : ∀ w, Calls Tryz.prog 55 #[.int .i64 (k : Int)] w fun e w' => e = .returned (.string X) ∧ Below w.heap.size w w') (w : World) :
    Calls Tryz.prog 36 #[.int .i64 n] w fun e w' => e = .returned (.string ((⟨#[45]⟩ : ByteArray) ++ X)) ∧ Below w.heap.size w w' := by
  have hc := fun w => cat (⟨#[45]⟩ : ByteArray) X (by show 1 + X.size ≤ 100000; omega) w
  go_enter Tryz.func36, Tryz.ntmps36
  go_wp2_with fail
  refine (hD _).mono ?_
  rintro e w1 ⟨rfl, h1⟩
  go_wp2_with fail
  go_ret
  exact ⟨rfl, h1⟩

theorem num_any (n : Int) (w : World) (h0 : -1000000000 ≤ n) (h1 : n ≤ 1000000000) :
    Calls Tryz.prog 36 #[.int .i64 n] w fun e w' => e = .returned (.string ⟨(Lib.itoa n).toArray⟩) ∧ Below w.heap.size w w' := by
  by_cases h : n < 0
  · obtain ⟨k, hk⟩ : ∃ k : Nat, -n = (k : Int) := ⟨n.natAbs, by omega⟩
    have hd : (⟨(Lib.itoa n).toArray⟩ : ByteArray) = (⟨#[45]⟩ : ByteArray) ++ (⟨(Lib.decDigits k).toArray⟩ : ByteArray) := by
      have : Lib.itoa n = 45 :: Lib.decDigits k := by
        unfold Lib.itoa
        rw [if_pos h, show n.natAbs = k by omega]
      rw [this]
      apply ByteArray.ext
      simp
    rw [hd]
    have := digits_few k (by omega)
    exact num_neg n k h (by rw [wrap64_id _ (by omega) (by omega)]; exact hk) (by rw [IntKind.wrap_i64]; omega) _ (by show (Lib.decDigits k).length ≤ 100; omega) (fun w => digits_any k (by omega) w) w
  · obtain ⟨k, rfl⟩ : ∃ k : Nat, n = (k : Int) := ⟨n.toNat, by omega⟩
    have hd : (⟨(Lib.itoa (k : Int)).toArray⟩ : ByteArray) = ⟨(Lib.decDigits k).toArray⟩ := by
      unfold Lib.itoa
      rw [if_neg h]
      simp
    rw [hd]
    exact num_low k (by omega) _ (fun w => digits_any k (by omega) w) w

theorem reg_raw (n : Int) (X : ByteArray) (hX : X.size ≤ 100) (hN : ∀ w, Calls Tryz.prog 36 #[.int .i64 n] w fun e w' => e = .returned (.string X) ∧ Below w.heap.size w w') (w : World) :
    Calls Tryz.prog 35 #[.int .i64 n] w fun e w' => e = .returned (.string ((⟨#[36]⟩ : ByteArray) ++ X)) ∧ Below w.heap.size w w' := by
  have hc := fun w => cat (⟨#[36]⟩ : ByteArray) X (by show 1 + X.size ≤ 100000; omega) w
  go_enter Tryz.func35, Tryz.ntmps35
  go_wp2_with fail
  refine (hN _).mono ?_
  rintro e w1 ⟨rfl, h1⟩
  go_wp2_with fail
  go_ret
  exact ⟨rfl, h1⟩

end Go.Proofs.YtahbbhgoacbejaaGreatDoor
