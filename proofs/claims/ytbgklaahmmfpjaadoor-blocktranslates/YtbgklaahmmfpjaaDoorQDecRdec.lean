/- What the document's Decode answers. -/
import Derived.Test.YtbgklaahmmfpjaaDoorQDecInstrs
namespace Go.Proofs.YtbgklaahmmfpjaaDoor.De
open Go.RowKit
set_option linter.unusedVariables false
set_option maxRecDepth 100000
set_option linter.unusedSimpArgs false

theorem draws_at (op : Nat) (h : op < 69) (wd : Nat) :
    Dec.ds op wd = (if HasS (Dec.fm op) then wd / 2 ^ 21 % 32 else 0) ∧ Dec.dt op wd = (if HasT (Dec.fm op) then wd / 2 ^ 16 % 32 else 0) ∧
    Dec.dd op wd = (if HasD (Dec.fm op) then wd / 2 ^ 11 % 32 else 0) ∧ Dec.da op wd = (if HasA (Dec.fm op) then wd / 2 ^ 6 % 32 else 0) := by
  have hr := Dec.fm_lt op h
  have q1 := fand wd (Dec.lregs (Dec.fm op)) 21
  have q2 := fand wd (Dec.lregs (Dec.fm op)) 16
  have q3 := fand wd (Dec.lregs (Dec.fm op)) 11
  have q4 := fand wd (Dec.lregs (Dec.fm op)) 6
  have y1 := m31 (wd / 2 ^ 21 % 32) (Nat.mod_lt _ (by decide))
  have y2 := m31 (wd / 2 ^ 16 % 32) (Nat.mod_lt _ (by decide))
  have y3 := m31 (wd / 2 ^ 11 % 32) (Nat.mod_lt _ (by decide))
  have y4 := m31 (wd / 2 ^ 6 % 32) (Nat.mod_lt _ (by decide))
  refine ⟨Eq.trans q1 ?_, Eq.trans q2 ?_, Eq.trans q3 ?_, Eq.trans q4 ?_⟩
  all_goals
    clear q1 q2 q3 q4
    generalize wd / 2 ^ 21 % 32 = Y1 at *
    generalize wd / 2 ^ 16 % 32 = Y2 at *
    generalize wd / 2 ^ 11 % 32 = Y3 at *
    generalize wd / 2 ^ 6 % 32 = Y4 at *
    generalize Dec.fm op = f at *
    have hcases : f = 1 ∨ f = 2 ∨ f = 3 ∨ f = 4 ∨ f = 5 ∨ f = 6 ∨ f = 7 ∨ f = 8 ∨ f = 9 ∨ f = 10 ∨ f = 11 ∨ f = 12 ∨ f = 13 ∨ f = 14 ∨ f = 15 ∨ f = 16 ∨ f = 17 ∨ f = 18 ∨ f = 19 := by omega
    rcases hcases with rfl | rfl | rfl | rfl | rfl | rfl | rfl | rfl | rfl | rfl | rfl | rfl | rfl | rfl | rfl | rfl | rfl | rfl | rfl
    all_goals simp [Dec.lregs, HasS, HasT, HasD, HasA, y1, y2, y3, y4]

theorem di_at (op : Nat) (h : op < 69) (wd : Nat) :
    Dec.di op wd = if Dec.fm op = 11 ∨ Dec.fm op = 13 ∨ Dec.fm op = 14 ∨ Dec.fm op = 19 then Dec.sign wd else if Dec.fm op = 15 ∨ Dec.fm op = 16 then ((wd % 65536 : Nat) : Int) else if Dec.fm op = 12 then ((wd % 67108864 : Nat) : Int) else 0 := by
  have hr := Dec.fm_lt op h
  unfold Dec.di
  have m16 : wd &&& 65535 = wd % 65536 := Nat.and_two_pow_sub_one_eq_mod _ 16
  have m26 : wd &&& 67108863 = wd % 67108864 := Nat.and_two_pow_sub_one_eq_mod _ 26
  generalize Dec.fm op = f at *
  have hcases : f = 1 ∨ f = 2 ∨ f = 3 ∨ f = 4 ∨ f = 5 ∨ f = 6 ∨ f = 7 ∨ f = 8 ∨ f = 9 ∨ f = 10 ∨ f = 11 ∨ f = 12 ∨ f = 13 ∨ f = 14 ∨ f = 15 ∨ f = 16 ∨ f = 17 ∨ f = 18 ∨ f = 19 := by omega
  rcases hcases with rfl | rfl | rfl | rfl | rfl | rfl | rfl | rfl | rfl | rfl | rfl | rfl | rfl | rfl | rfl | rfl | rfl | rfl | rfl
  all_goals simp [Dec.limm, Dec.lsigned, Dec.sign, m16, m26]

/-- What the document's Decode ends with: the one op, or none. -/
def rsends (n : Int) (is : Nat → Bool) (fs ft fd fa fi : Nat → Int) (w : World) (e : Ending) (w' : World) : Prop :=
  ((∃ k : Nat, k < 69 ∧ is k = true ∧ e = .returned (.tuple #[.agg #[.int .i64 (k : Int), .int .i64 (fs k), .int .i64 (ft k), .int .i64 (fd k), .int .i64 (fa k), .int .i64 (fi k)], .int .i64 0])) ∨
    ((∀ k < 69, is k = false) ∧ e = .returned (.tuple #[.agg #[.int .i64 0, .int .i64 0, .int .i64 0, .int .i64 0, .int .i64 0, .int .i64 0], .int .i64 40]))) ∧ Below w.heap.size w w'

theorem rmore {is : Nat → Bool} {k : Nat} (h : ∀ j < k, is j = false) (hk : is k = false) : ∀ j < k + 1, is j = false := by
  intro j hj
  rcases Nat.lt_succ_iff_lt_or_eq.mp hj with h1 | h1
  · exact h j h1
  · rw [h1]; exact hk

end Go.Proofs.YtbgklaahmmfpjaaDoor.De
