/- Layer 15: contract of the program's Copy. -/
import Derived.Test.YtnbflahggpehpabQOpEach2
import Derived.Lib.SliceRun
namespace Go.Proofs.Ytnbflahggpehpab.Ir
open Go.RowKit
set_option linter.unusedVariables false
set_option maxRecDepth 100000
set_option linter.unusedSimpArgs false

theorem own_mono {y : World} {a b : Nat} {v : Value} {n : Nat} {xs : List Value} (h : y.ownsRow b 32 6 v n xs) (hb : a ≤ b) : y.ownsRow a 32 6 v n xs := h.mono hb

/-- What is held in Copy: where each register's source is noted. -/
def HeldP (w : World) (Q : Nat → Int) (y : World) : Prop := Box y w.heap.size (cellsS Q) ∧ Below w.heap.size w y

theorem HeldP.put {w : World} {Q : Nat → Int} {y : World} (h : HeldP w Q y) (k : Nat) (hk : k < 32) (v : Int) : HeldP w (putS Q k v) (y.setCell ⟨w.heap.size, k, none⟩ (.int .i64 v)) := by
  rw [setCell_row _ _ _ _ h.1.1, h.1.2.1, set_S Q k hk v]
  exact ⟨h.1.set _, below_setRow h.2 (Nat.le_refl _) _⟩

def upS (k : Nat) : Nat → Int := fun j => if j < k then (j : Int) else 0

theorem upS_succ (k : Nat) : putS (upS k) k (k : Int) = upS (k + 1) := by
  funext j
  unfold putS upS
  by_cases e : j = k
  · subst e; simp
  · rw [if_neg e]
    by_cases e2 : j < k
    · simp [e2, show j < k + 1 by omega]
    · simp [e2, show ¬ j < k + 1 by omega]

theorem upS_all : cellsS (upS 32) = cellsS idS := cellsS_ext fun k hk => by unfold upS idS; rw [if_pos hk]

set_option maxHeartbeats 4000000 in
theorem copy_any {w : World} {v : Value} {l : List Mi} (h : IsOps w v l) (hl : l.length ≤ 16) : Calls Try.prog 13 #[v] w fun e w' =>
    ∃ v', e = .returned v' ∧ w'.ownsRow w.heap.size 32 6 v' l.length (flat (copyV l)) ∧ Below w.heap.size w w' := by
  obtain ⟨r1, r2, r3, r4, r5, r6, r7, r8, r9⟩ := rowRules
  obtain ⟨y1, y2, y3, y4, y5, y6, y7, y8, y9⟩ := opSizes
  have h0 : Hid (HeldP w (upS 0) (w.alloc (.cells (cellsS fun _ => 0) 53))) := hide ⟨by
    rw [show upS 0 = fun _ => 0 by funext j; simp [upS]]
    exact Box.new _ _ _, grow _ _⟩
  have ce : Hid (∀ wr, HeldP w idS wr → Calls Try.prog 16 #[v, .func (.func 28) #[] #[.pointer (some ⟨w.heap.size, 0, none⟩)]] wr fun e w' => ∃ v', e = .returned v' ∧ w'.ownsRow wr.heap.size 32 6 v' l.length (flat (copyV l)) ∧ Below w.heap.size w w') := hide (fun wr hw =>
    each_any cpM (fun S m => cpS S (cpM S m)) idS (fun S y => Box y w.heap.size (cellsS S)) (fun _ => True) 28 _ w.heap.size w wr v l (enters_of Try.func28 (by kernel_rfl) rfl) h hl (fun _ _ => trivial) hw.2 (Nat.le_refl _) hw.1.2.2
      (fun s y z hy hz => hy.of_heap (hz _ hw.1.2.2)) hw.1 (fun s m y _ hy => copy1_any s m w.heap.size y hy))
  clear h
  go_enter Try.func13, Try.ntmps13
  go_wp2_with fail
  go_loopw [5] (fun i wr => ∃ k : Nat, k ≤ 32 ∧ i = .int .i64 (k : Int) ∧ Hid (HeldP w (upS k) wr)) (fun i _ => 32 - (intOf i).toNat)
  case atStart => exact ⟨0, Nat.zero_le _, rfl, h0⟩
  case round =>
    obtain ⟨k, hk, rfl, hH⟩ := hrel
    clear h0
    by_cases hlt : k < 32
    · have dk : decide ((k : Int) < 32) = true := by simp; omega
      have x2 : wr.cell? ⟨w.heap.size, k, none⟩ = some (.int .i64 (upS k k)) := (hH.out.1.cell k).trans (y9 _ k hlt)
      have x3 := hH.out.1.free k
      have hH2 := hH.out.put k hlt (k : Int)
      rw [upS_succ k] at hH2
      replace hH2 := hide hH2
      clear hH
      go_wp2
      go_roundw
      case rel => exact ⟨k + 1, by omega, by go_num, hH2⟩
      case measure => simp [intOf]; omega
    · have dk : decide ((k : Int) < 32) = false := by simp; omega
      obtain rfl : k = 32 := by omega
      have hw := hH.out
      unfold HeldP at hw
      rw [upS_all] at hw
      have cf := hide (ce.out wr hw)
      have hsz := hw.2.size
      clear hw hH ce
      go_wp2_with fail
      refine cf.out.mono ?_
      rintro e w2 ⟨v', rfl, ho, hb⟩
      have ho2 := hide (own_mono ho hsz)
      clear ho cf
      go_wp2
      go_ret
      exact ⟨_, rfl, ho2.out, hb⟩

end Go.Proofs.Ytnbflahggpehpab.Ir
