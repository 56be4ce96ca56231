/- Layer 11: contract of the document's Move, whatever the way. -/
import Derived.Test.YtdapjpbdplhgbaaGreatQDmRMove2
namespace Go.Proofs.YtdapjpbdplhgbaaGreat.Dm
open Go.RowKit
set_option linter.unusedVariables false
set_option maxRecDepth 100000
set_option linter.unusedSimpArgs false

set_option maxHeartbeats 2000000 in
set_option maxRecDepth 100000 in
theorem rmove_else {w : World} {p gb gd n : Nat} {B : Nat → Nat} {D : Nat → Bool} (R : RMem w p gb gd n B D) (a num : Nat) (tb ty : Int) (tr : Bool) (y : Int) (y1 : ¬ y = 1) (y2 : ¬ y = 2) (disk : ByteArray) (hz : disk.size = 1024) (hn : num < 16) (ha : a % 64 = 0) (hl : a + 64 ≤ 256 * n) :
    Calls Tryz.prog 82 #[.agg (cellsD ⟨(a : Int), (num : Int), tb, ty, tr⟩), .int .u32 y, .pointer (some ⟨p, 0, none⟩), .string disk] w fun e w' =>
      e = .returned (.string disk) ∧ Below w.heap.size w w' := by
  obtain ⟨t1, t2, t3, t4, t5, t6, t7, t8, t9⟩ := dmRules
  obtain ⟨p0, p1, p2, p3, p4⟩ := dmParts
  obtain ⟨d1, d2, d3⟩ := dmDrew
  have n64 := R.n64
  have n4 := R.n4
  have e1 : ((disk.size : Int) != 1024) = false := by simp [hz]
  have e2 : decide (15 < (num : Int)) = false := by simp; omega
  have e3 : (a : Int).tmod 64 = 0 := by rw [Int.tmod_eq_emod_of_nonneg (by omega)]; omega
  have e4 : decide (256 * (n : Int) - 64 < (a : Int)) = false := by simp; omega
  have hw1 : IntKind.i64.wrap (a : Int) = (a : Int) := by rw [IntKind.wrap_i64]; omega
  have hw2 : IntKind.i64.wrap (256 * (n : Int) - 64) = 256 * (n : Int) - 64 := by rw [IntKind.wrap_i64]; omega
  have R0 := (R.on (grow w (.cells (cellsD ⟨(a : Int), (num : Int), tb, ty, tr⟩) 42))).drew
  have A0 : Rat (w.alloc (.cells (cellsD ⟨(a : Int), (num : Int), tb, ty, tr⟩) 42)).drew w.heap.size ⟨(a : Int), (num : Int), tb, ty, tr⟩ := Rat.new w _ 42
  have hcv := conv_row (w.alloc (.cells (cellsD ⟨(a : Int), (num : Int), tb, ty, tr⟩) 42)).drew disk
  have CP := copied R ⟨(a : Int), (num : Int), tb, ty, tr⟩ disk hz
  have zp := R.zp
  have zb := R.zb
  have zd := R.zd
  rw [hz] at hcv
  rw [show (w.alloc (.cells (cellsD ⟨(a : Int), (num : Int), tb, ty, tr⟩) 42)).drew.heap.size = w.heap.size + 1 by simp] at hcv
  obtain ⟨C, hC⟩ : ∃ C, C = grownCap (w.alloc (.cells (cellsD ⟨(a : Int), (num : Int), tb, ty, tr⟩) 42)).drew 1024 0 5 := ⟨_, rfl⟩
  rw [← hC] at hcv
  generalize rowWorld (w.alloc (.cells (cellsD ⟨(a : Int), (num : Int), tb, ty, tr⟩) 42)).drew disk = X1 at *
  have hb := R0.hb
  obtain ⟨l0, l1, -, -, -⟩ := A0.five
  replace CP := hide CP
  clear R0 A0 R
  have hCb : 1024 ≤ C := by rw [hC]; exact grownCap_ge _ 1024 0 5
  have hCm : C ≤ 9223372036854775807 := by rw [hC]; exact grownCap_le_maxLen _ 1024 0 5 (by unfold maxLen; omega)
  clear hC
  have v1 : (y == 1) = false := by simpa using y1
  have v2 : (y == 2) = false := by simpa using y2
  have hback := conv_back CP.out.row C
  rw [disk_back hz] at hback
  clear y1 y2
  go_enter Tryz.func82, Tryz.ntmps82
  go_wp2
  go_region
  all_goals
    go_wp2
    go_loopw [10] (fun i x => i = .int .i64 0 ∧ x = X1) (fun _ _ => 0)
    case atStart => exact ⟨rfl, rfl⟩
    case round =>
      obtain ⟨rfl, hwx⟩ := hrel
      rw [hwx]
      clear hb l0 l1 hcv hwx
      go_wp2
      go_loopw [11] (fun i x => i = .int .i64 0 ∧ x = X1) (fun _ _ => 0)
      case atStart => exact ⟨rfl, rfl⟩
      case round =>
        obtain ⟨rfl, hwx⟩ := hrel
        rw [hwx]
        go_wp2
        go_ret
        exact ⟨rfl, CP.out.be⟩

theorem rmove_any {w : World} {p gb gd n : Nat} {B : Nat → Nat} {D : Nat → Bool} (R : RMem w p gb gd n B D) (t : Dm) (ht : Wd t) (y : Int) (disk : ByteArray) (hm : disk.size ≤ maxLen) :
    Calls Tryz.prog 82 #[.agg (cellsD t), .int .u32 y, .pointer (some ⟨p, 0, none⟩), .string disk] w fun e w' =>
      e = .returned (.string (moveT n t y disk B)) ∧ RMem w' p gb gd n (moveB n t y disk B) (moveD n t y disk D) ∧ RKept p gb gd w w' := by
  cases hf : fitsB n t disk
  · have e1 : moveT n t y disk B = disk := by unfold moveT; simp [hf]
    have e2 : moveB n t y disk B = B := by unfold moveB; simp [hf]
    have e3 : moveD n t y disk D = D := by unfold moveD; simp [hf]
    rw [e1, e2, e3]
    refine (rmove_no R t ht y disk hm hf).mono ?_
    rintro e w' ⟨rfl, b⟩
    exact ⟨rfl, R.on b, RKept.ofB b⟩
  · obtain ⟨a, num, ea, en, hz, hn, ha, hl⟩ := fits_is ht hf
    by_cases y1 : y = 1
    · have e1 : moveT n t y disk B = disk := by unfold moveT; simp [y1]
      have e2 : moveB n t y disk B = secB B a 64 (fun j => byteAt disk (64 * num + j)) := by unfold moveB; simp [hf, y1, ea, en]
      have e3 : moveD n t y disk D = putD D (a / 256) := by unfold moveD; simp [hf, y1, ea]
      rw [e1, e2, e3]
      obtain ⟨ta, tn, tb, ty, tr⟩ := t
      simp only at ea en
      subst ea en y1
      exact rmove_in R a num tb ty tr disk hz hn ha hl
    · have e2 : moveB n t y disk B = B := by unfold moveB; simp [y1]
      have e3 : moveD n t y disk D = D := by unfold moveD; simp [y1]
      rw [e2, e3]
      by_cases y2 : y = 2
      · have e1 : moveT n t y disk B = outV B a num disk := by unfold moveT; simp [hf, y2, ea, en]
        rw [e1]
        obtain ⟨ta, tn, tb, ty, tr⟩ := t
        simp only at ea en
        subst ea en y2
        refine (rmove_out R a num tb ty tr disk hz hn ha hl).mono ?_
        rintro e w' ⟨rfl, b⟩
        exact ⟨rfl, R.on b, RKept.ofB b⟩
      · have e1 : moveT n t y disk B = disk := by unfold moveT; simp [y2]
        rw [e1]
        obtain ⟨ta, tn, tb, ty, tr⟩ := t
        simp only at ea en
        subst ea en
        refine (rmove_else R a num tb ty tr y y1 y2 disk hz hn ha hl).mono ?_
        rintro e w' ⟨rfl, b⟩
        exact ⟨rfl, R.on b, RKept.ofB b⟩

end Go.Proofs.YtdapjpbdplhgbaaGreat.Dm
