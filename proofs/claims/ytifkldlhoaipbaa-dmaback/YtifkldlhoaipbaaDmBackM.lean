/- Layer 11: what is moved out, and in again, as texts. -/
import Derived.Test.YtifkldlhoaipbaaDmMovesW
namespace Go.Proofs.Ytifkldlhoaipbaa
open Go.RowKit
set_option linter.unusedVariables false

theorem sec_lo (n o m : Nat) (f h : Nat → Nat) (hn : o ≤ n) : (textOf n (secB f o m h)).extract 0 o = (textOf n f).extract 0 o := by
  rw [textOf_cut n 0 o _ (by omega) hn, textOf_cut n 0 o _ (by omega) hn]
  apply textOf_congr
  intro j hj
  unfold secB
  rw [if_neg (by omega)]

theorem sec_hi (n o m : Nat) (f h : Nat → Nat) (hn : o + m ≤ n) : (textOf n (secB f o m h)).extract (o + m) n = (textOf n f).extract (o + m) n := by
  rw [textOf_cut n (o + m) n _ hn (by omega), textOf_cut n (o + m) n _ hn (by omega)]
  apply textOf_congr
  intro j hj
  unfold secB
  rw [if_neg (by omega)]

theorem sec_mid (n o m : Nat) (f h : Nat → Nat) (hn : o + m ≤ n) : (textOf n (secB f o m h)).extract o (o + m) = textOf m h := by
  rw [textOf_cut n o (o + m) _ (by omega) hn, Nat.add_sub_cancel_left]
  apply textOf_congr
  intro j hj
  unfold secB
  rw [if_pos (by omega), Nat.add_sub_cancel_left]

/-- The disk behind a move out: no other sector is another one, and this one has memory's bytes. -/
theorem out_is {B : Nat → Nat} {a num n : Nat} {disk : ByteArray} (hz : disk.size = 1024) (hn : num < 16) (ha : a + 64 ≤ 256 * n) :
    (outV B a num disk).size = 1024 ∧ (outV B a num disk).extract 0 (64 * num) = disk.extract 0 (64 * num) ∧ (outV B a num disk).extract (64 * num + 64) 1024 = disk.extract (64 * num + 64) 1024 ∧
      (outV B a num disk).extract (64 * num) (64 * num + 64) = (textOf (256 * n) B).extract a (a + 64) := by
  unfold outV
  refine ⟨textOf_size _ _, ?_, ?_, ?_⟩
  · rw [sec_lo 1024 (64 * num) 64 _ _ (by omega), disk_back hz]
  · rw [sec_hi 1024 (64 * num) 64 _ _ (by omega), disk_back hz]
  · rw [sec_mid 1024 (64 * num) 64 _ _ (by omega), textOf_cut (256 * n) a (a + 64) _ (by omega) ha, Nat.add_sub_cancel_left]

theorem out_at {B : Nat → Nat} (lt : ∀ j, B j < 256) {a num : Nat} {disk : ByteArray} (hn : num < 16) (j : Nat) (hj : j < 64) : byteAt (outV B a num disk) (64 * num + j) = B (a + j) := by
  unfold outV
  rw [byteAt_textOf 1024 _ (secB_lt (byteAt_lt disk) (fun j => lt (a + j)) _ _) _ (by omega)]
  unfold secB
  rw [if_pos (by omega), Nat.add_sub_cancel_left]

/-- Memory behind a move in of what was moved out. -/
theorem in_is {B : Nat → Nat} (lt : ∀ j, B j < 256) {a b num n : Nat} {disk : ByteArray} (hn : num < 16) (ha : a + 64 ≤ 256 * n) (hb : b + 64 ≤ 256 * n) :
    (textOf (256 * n) (secB B b 64 (fun j => byteAt (outV B a num disk) (64 * num + j)))).extract 0 b = (textOf (256 * n) B).extract 0 b ∧
      (textOf (256 * n) (secB B b 64 (fun j => byteAt (outV B a num disk) (64 * num + j)))).extract (b + 64) (256 * n) = (textOf (256 * n) B).extract (b + 64) (256 * n) ∧
      (textOf (256 * n) (secB B b 64 (fun j => byteAt (outV B a num disk) (64 * num + j)))).extract b (b + 64) = (textOf (256 * n) B).extract a (a + 64) := by
  refine ⟨sec_lo _ _ _ _ _ (by omega), sec_hi _ _ _ _ _ hb, ?_⟩
  rw [sec_mid _ _ _ _ _ hb, textOf_cut (256 * n) a (a + 64) _ (by omega) ha, Nat.add_sub_cancel_left]
  exact textOf_congr fun j hj => out_at lt hn j hj

end Go.Proofs.Ytifkldlhoaipbaa
