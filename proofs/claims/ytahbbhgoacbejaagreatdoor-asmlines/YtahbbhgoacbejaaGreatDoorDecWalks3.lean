/- The contract of the program's search for the op whose own bits a word has. -/
import Derived.Test.YtahbbhgoacbejaaGreatDoorDecWalks2
namespace Go.Proofs.YtahbbhgoacbejaaGreatDoor
open Go.RowKit
set_option linter.unusedVariables false

theorem rowOf_at (op : Nat) (h : op < 69) (w : World) (tb : Tabs w) :
    Calls Tryz.prog 22 #[.int .i64 (op : Int)] w fun e w' => e = .returned (.agg #[.string (Dec.name op), .int .i64 (Dec.fm op : Nat), .int .u32 (Dec.mj op : Nat), .int .u32 (Dec.mn op : Nat)]) ∧ Below w.heap.size w w' := by
  have e : idx (op : Int) = op := by unfold idx; rw [if_pos (by omega)]; omega
  have := rowOf_any (op : Int) w tb
  rw [e] at this
  exact this

theorem andNot_is (wd f : Nat) (hw : wd < 4294967296) (hf : f < 20) : bits .andNot .u32 (wd : Int) (Dec.opened f : Nat) = ((wd &&& Dec.shut f : Nat) : Int) :=
  u32_andNot_nat wd (Dec.opened f) hw (Dec.masks_lt f hf).2.2.2

def sends (wd : Nat) (w : World) (e : Ending) (w' : World) : Prop :=
  ((∃ op, op < 69 ∧ wd &&& Dec.shut (Dec.fm op) = Dec.fixed op ∧ e = .returned (.tuple #[.int .i64 (op : Int), .bool true])) ∨
    ((∀ op < 69, wd &&& Dec.shut (Dec.fm op) ≠ Dec.fixed op) ∧ e = .returned (.tuple #[.int .i64 0, .bool false]))) ∧ Below w.heap.size w w'

theorem more {wd k : Nat} (h : ∀ op < k, wd &&& Dec.shut (Dec.fm op) ≠ Dec.fixed op) (hk : wd &&& Dec.shut (Dec.fm k) ≠ Dec.fixed k) : ∀ op < k + 1, wd &&& Dec.shut (Dec.fm op) ≠ Dec.fixed op := by
  intro op ho
  rcases Nat.lt_succ_iff_lt_or_eq.mp ho with h1 | h1
  · exact h op h1
  · rw [h1]; exact hk

end Go.Proofs.YtahbbhgoacbejaaGreatDoor
