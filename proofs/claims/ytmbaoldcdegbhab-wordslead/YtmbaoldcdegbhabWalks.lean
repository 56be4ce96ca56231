/- Contracts of the program's and the document's small functions on words. -/
import Derived.Test.YtmbaoldcdegbhabRows
import Derived.Test.YtmbaoldcdegbhabPlain
import Derived.WalkKit
import Derived.WalkSpells
import Derived.WalkLawsBesides
namespace Go.Proofs.Ytmbaoldcdegbhab
open Go.RowKit
set_option linter.unusedVariables false

theorem hide {p : Prop} (h : p) : Hid p := h
theorem ret_int {k : IntKind} {a b : Int} (h : a = b) : Ending.returned (.int k a) = .returned (.int k b) := by rw [h]
theorem ret_bool {a b : Bool} (h : a = b) : Ending.returned (.bool a) = .returned (.bool b) := by rw [h]


theorem ret_int2 {k l : IntKind} {a b c d : Int} (h : a = b) (h' : c = d) : Ending.returned (.tuple #[.int k a, .int l c]) = .returned (.tuple #[.int k b, .int l d]) := by rw [h, h']
theorem ret_int3 {k l m : IntKind} {a b c d x y : Int} (h : a = b) (h' : c = d) (h'' : x = y) : Ending.returned (.tuple #[.int k a, .int l c, .int m x]) = .returned (.tuple #[.int k b, .int l d, .int m y]) := by rw [h, h', h'']
theorem tmod_neg (n m : Int) (hm : 0 < m) (h : n.tmod m < 0) : n.tmod m + m = n % m := by
  rw [Int.tmod_eq_emod] at h ⊢
  have := Int.emod_nonneg n (Int.ne_of_gt hm)
  have := Int.emod_lt_of_pos n hm
  split at h <;> split <;> omega
theorem tmod_pos (n m : Int) (hm : 0 < m) (h : 0 ≤ n.tmod m) : n.tmod m = n % m := by
  rw [Int.tmod_eq_emod] at h ⊢
  have := Int.emod_nonneg n (Int.ne_of_gt hm)
  have := Int.emod_lt_of_pos n hm
  split at h <;> split <;> omega

set_option maxHeartbeats 400000 in
theorem leaves_any (n : Int) (w : World) :
    Calls Try.prog 12 #[.int .i64 n] w fun e w' => e = .returned (.bool (outB n)) ∧ w' = w := by
  go_enter Try.func12, Try.ntmps12
  go_wp2
  all_goals go_ret
  all_goals exact ⟨ret_bool (by simp [outB, *]), rfl⟩

set_option maxHeartbeats 400000 in
theorem meaning_any (a : Int) (s : Bool) (w : World) (h0 : 0 ≤ a) (h1 : a < 4294967296) :
    Calls Try.prog 13 #[.int .u32 a, .bool s] w fun e w' => e = .returned (.int .i64 (meanB s a)) ∧ w' = w := by
  go_enter Try.func13, Try.ntmps13
  go_wp2
  all_goals go_ret
  · exact ⟨ret_int (by simp [meanB, mean, *]), rfl⟩
  · exact ⟨ret_int (by simp [meanB, mean, *]; omega), rfl⟩
  · exact ⟨ret_int (by simp [meanB, *]), rfl⟩

end Go.Proofs.Ytmbaoldcdegbhab
