/- What any register is, and what any write makes of the registers; what a step makes of them: as the document says. -/
import Derived.Test.YtjpfggffeffapaaCpOpen
import Derived.Test.YtjpfggffeffapaaCpRef2
import Derived.Test.YtjpfggffeffapaaCpRef3
import Derived.Deep.RegionHeld3
namespace Go.Proofs.Ytjpfggffeffapaa
open Go.RowKit
set_option linter.unusedVariables false

/-- Registers that are loaded, behind a call. -/
theorem load_on {n L : Nat} {w x y : World} {r : Regs}
    (hS : (loadCellsFrom ⟨L, 0, none⟩ 0 N9 #[]).run Try.prog x = .ok (cellsR r) x ∧ Rat x L r ∧ Below n w x) (hn : n ≤ w.heap.size) (hb : Below x.heap.size x y) :
    (loadCellsFrom ⟨L, 0, none⟩ 0 N9 #[]).run Try.prog y = .ok (cellsR r) y ∧ Rat y L r ∧ Below n w y :=
  ⟨(hS.2.1.on hb).load, hS.2.1.on hb, onto hS.2.2 hn hb⟩

theorem eq_self (r : Regs) (w : World) : (binOp .eql 24 (.agg (cellsR r)) (.agg (cellsR r))).run Try.prog w = .ok (.bool true) w := by
  rw [eqlR]; simp

set_option maxHeartbeats 2000000 in
theorem regs_walk (w : World) (r : Regs) (hr : Wr r) (g : Int) (wg : (Lit.int .i64 g).wf = true) (v : Int) (wv : (Lit.int .u32 v).wf = true) :
    Calls Try.prog 3 #[.agg (cellsR r), .int .i64 g, .int .u32 v] w fun e w' => e = .returned (.bool true) ∧ Below w.heap.size w w' := by
  have t1 := sizeR
  have hv := wf_u32 wv
  have c1 := fun W => read_any r g W
  have c2 := fun W => rread_any r g W
  have c3 := fun W => write_any hr g hv W
  have c4 := fun W => rwrite_any hr g hv W
  generalize readV r g = x at *
  generalize writeV r g v = q at *
  have he := fun W => eq_self q W
  clear wg wv hr hv
  go_enter Try.func3, Try.ntmps3
  go_wp2_with fail
  have R := Rat.new w r 24
  have B := grow w (.cells (cellsR r) 24)
  have hS := load_on ⟨R.load, R, B⟩ (Nat.le_refl _) (Below.refl _ (w.alloc (.cells (cellsR r) 24))).drew
  clear R B
  generalize w.alloc (.cells (cellsR r) 24) = W at *
  go_region_held3 (fun x => (loadCellsFrom ⟨w.heap.size, 0, none⟩ 0 N9 #[]).run Try.prog x = .ok (cellsR r) x ∧ Rat x w.heap.size r ∧ Below w.heap.size w x)
    (first | exact hS | assumption)
    (first
      | (go_at_call 9; refine (fixed_any _).mono ?_; rintro e w' ⟨rfl, hn⟩; have hT := load_on (by assumption) (Nat.le_refl _) hn; clear hn)
      | (go_at_call 10; refine (c1 _).mono ?_; rintro e w' ⟨rfl, hn⟩; have hT := load_on (by assumption) (Nat.le_refl _) hn; clear hn)
      | (go_at_call 11; refine (c2 _).mono ?_; rintro e w' ⟨rfl, hn⟩; have hT := load_on (by assumption) (Nat.le_refl _) hn; clear hn)
      | (go_at_call 12; refine (c3 _).mono ?_; rintro e w' ⟨rfl, hn⟩; have hT := load_on (by assumption) (Nat.le_refl _) hn; clear hn)
      | (go_at_call 13; refine (c4 _).mono ?_; rintro e w' ⟨rfl, hn⟩; have hT := load_on (by assumption) (Nat.le_refl _) hn; clear hn))
  all_goals
    go_wp2
    go_ret
    exact ⟨rfl, hT.2.2⟩

set_option maxHeartbeats 2000000 in
theorem ticks_walk (w : World) (r : Regs) (hr : Wr r) (v : Int) (wv : (Lit.int .u32 v).wf = true) :
    Calls Try.prog 5 #[.agg (cellsR r), .int .u32 v] w fun e w' => e = .returned (.bool true) ∧ Below w.heap.size w w' := by
  have t1 := sizeR
  have hv := wf_u32 wv
  have c1 := fun W => tick_any hr hv W
  have c2 := fun W => rtick_any hr hv W
  have c3 := fun W => pend_any hr W
  have c4 := fun W => rpend_any hr W
  have c5 := fun W => user_any hr W
  have c6 := fun W => ruser_any hr W
  generalize tickV r v = q at *
  generalize pendV r = x at *
  generalize userV r = y at *
  have he := fun W => eq_self q W
  clear wv hr hv
  go_enter Try.func5, Try.ntmps5
  go_wp2_with fail
  have R := Rat.new w r 24
  have B := grow w (.cells (cellsR r) 24)
  have hS := load_on ⟨R.load, R, B⟩ (Nat.le_refl _) (Below.refl _ (w.alloc (.cells (cellsR r) 24))).drew
  clear R B
  generalize w.alloc (.cells (cellsR r) 24) = W at *
  go_region_held3 (fun x => (loadCellsFrom ⟨w.heap.size, 0, none⟩ 0 N9 #[]).run Try.prog x = .ok (cellsR r) x ∧ Rat x w.heap.size r ∧ Below w.heap.size w x)
    (first | exact hS | assumption)
    (first
      | (go_at_call 9; refine (fixed_any _).mono ?_; rintro e w' ⟨rfl, hn⟩; have hT := load_on (by assumption) (Nat.le_refl _) hn; clear hn)
      | (go_at_call 20; refine (c1 _).mono ?_; rintro e w' ⟨rfl, hn⟩; have hT := load_on (by assumption) (Nat.le_refl _) hn; clear hn)
      | (go_at_call 21; refine (c2 _).mono ?_; rintro e w' ⟨rfl, hn⟩; have hT := load_on (by assumption) (Nat.le_refl _) hn; clear hn)
      | (go_at_call 22; refine (c3 _).mono ?_; rintro e w' ⟨rfl, hn⟩; have hT := load_on (by assumption) (Nat.le_refl _) hn; clear hn)
      | (go_at_call 23; refine (c4 _).mono ?_; rintro e w' ⟨rfl, hn⟩; have hT := load_on (by assumption) (Nat.le_refl _) hn; clear hn)
      | (go_at_call 24; refine (c5 _).mono ?_; rintro e w' ⟨rfl, hn⟩; have hT := load_on (by assumption) (Nat.le_refl _) hn; clear hn)
      | (go_at_call 25; refine (c6 _).mono ?_; rintro e w' ⟨rfl, hn⟩; have hT := load_on (by assumption) (Nat.le_refl _) hn; clear hn))
  all_goals
    go_wp2
    go_ret
    exact ⟨rfl, hT.2.2⟩

end Go.Proofs.Ytjpfggffeffapaa
