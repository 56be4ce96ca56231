/- Layer 9: contract of the document's Parse. -/
import Derived.Test.YthjcijlabpinkaaGreatDoorRTmRef
import Derived.RegionTactic
import Derived.Deep.CutRange
namespace Go.Proofs.YthjcijlabpinkaaGreatDoor.Tm
open Go.RowKit
set_option linter.unusedVariables false
set_option maxRecDepth 100000

theorem byteN_cut (s : ByteArray) (a b i : Nat) (hb : b ≤ s.size) (hi : a + i < b) : byteN (s.extract a b) i = byteN s (a + i) := by
  have h1 : i < (s.extract a b).size := by rw [ByteArray.size_extract]; omega
  rw [byteN_in _ i h1, byteN_in _ (a + i) (by omega)]
  congr 1
  exact ByteArray.getElem_extract h1

theorem val_cut (s : ByteArray) (a : Nat) (h : a + 4 ≤ s.size) : valN (s.extract a (a + 4)) 0 4 = valN s a 4 := by
  rw [val4, val4]
  simp only [Nat.zero_add]
  rw [byteN_cut s a (a + 4) 0 h (by omega), byteN_cut s a (a + 4) 1 h (by omega), byteN_cut s a (a + 4) 2 h (by omega), byteN_cut s a (a + 4) 3 h (by omega)]
  rfl

set_option maxRecDepth 100000 in
set_option maxHeartbeats 4000000 in
theorem rparse_nine {s : ByteArray} (hs : s.size = 9) (T : ByteArray) (hT : textV (tmOf s) = T) (q : Tm) (f : Int) (hne : (T.toList == s.toList) = true ∧ q = tmOf s ∧ f = 0 ∨ (T.toList == s.toList) = false ∧ q = T0 ∧ f = 90) (w : World) :
    Calls Tryz.prog 117 #[.string s] w fun e w' => e = .returned (.tuple #[.agg (cellsT q), .int .i64 f]) ∧ Below w.heap.size w w' := by
  obtain ⟨t1, t2, t3, t4, t5, t6, t7, t8, t9⟩ := tmRules
  obtain ⟨p0, p1, p2⟩ := tmParts
  obtain ⟨s0, s1, s2⟩ := tmSets
  obtain ⟨d1, d2, d3⟩ := tmDrew
  have c1 := hide fun W => rval_any (s.extract 0 4) (by rw [ByteArray.size_extract]; omega) W
  have c2 := hide fun W => rval_any (s.extract 4 8) (by rw [ByteArray.size_extract]; omega) W
  have c3 := hide fun W => rtext_any (tmOf_w s) W
  rw [val_cut s 0 (by omega)] at c1
  rw [val_cut s 4 (by omega)] at c2
  rw [hT] at c3
  have hq : tmOf s = ⟨valN s 0 4, valN s 4 4, (s[8].toNat : Int) == 1⟩ := by
    unfold tmOf
    rw [val1, byteN_in s 8 (by omega)]
  rw [hq] at c3 hne
  generalize (valN s 0 4 : Int) = v1 at *
  generalize (valN s 4 4 : Int) = v2 at *
  clear hT hq
  have fin : ∀ c d : Array Value, Below w.heap.size w ((w.alloc (.cells c 62)).alloc (.cells d 62)).drew := fun c d => ((grow _ _).alloc (by simp) _).drew
  replace fin := hide fin
  replace hne := hide hne
  have n2 : ¬ N3 < 2 := by decide
  have n3 : ¬ N3 < 3 := by decide
  have n0 : ¬ cellsT T0 = #[] := by unfold cellsT; simp
  go_enter Tryz.func117, Tryz.ntmps117
  go_wp2_with fail
  go_cut [4] from 9 (fun a x => a = .pointer (some ⟨w.heap.size + 1, 0, none⟩) ∧ x = ((w.alloc (.cells (cellsT T0) 62)).alloc (.cells (cellsT ⟨v1, v2, (s[8].toNat : Int) == 1⟩) 62)).drew)
  case first =>
    go_region_law
      (first
        | (refine at_func 120 (.tmp 10) 9 (by with_reducible rfl) ?_; go_simp; refine (c1.out _).mono ?_; rintro e w' ⟨rfl, rfl⟩; go_wp2_with fail)
        | (refine at_func 120 (.tmp 13) 9 (by with_reducible rfl) ?_; go_simp; refine (c2.out _).mono ?_; rintro e w' ⟨rfl, rfl⟩; go_wp2_with fail))
    all_goals
      go_wp2_with fail
      go_meet
      case rel => exact ⟨rfl, rfl⟩
  case rest =>
    obtain ⟨rfl, rfl⟩ := hcut
    clear c1 c2
    generalize (⟨v1, v2, (s[8].toNat : Int) == 1⟩ : Tm) = r at *
    have R : Rat ((w.alloc (.cells (cellsT T0) 62)).alloc (.cells (cellsT r) 62)).drew (w.heap.size + 1) r := by
      have h := Rat.new (w.alloc (.cells (cellsT T0) 62)) r 62
      rw [show (w.alloc (.cells (cellsT T0) 62)).heap.size = w.heap.size + 1 by simp] at h
      exact h
    have Z : Rat ((w.alloc (.cells (cellsT T0) 62)).alloc (.cells (cellsT r) 62)).drew w.heap.size T0 := (Rat.new w T0 62).on (grow _ _).drew
    have B := fin.out (cellsT T0) (cellsT r)
    have l1 := R.load
    generalize ((w.alloc (.cells (cellsT T0) 62)).alloc (.cells (cellsT r) 62)).drew = v at *
    go_wp2_with fail
    refine (c3.out _).mono ?_
    rintro e w1 ⟨rfl, b1⟩
    replace B := hide (onto B (Nat.le_refl _) b1)
    replace l1 := (R.on b1).load
    have x1 := (Z.on b1).1
    have x2 := (Z.on b1).2.1
    clear b1 R Z fin c3
    rcases hne.out with ⟨h1, rfl, rfl⟩ | ⟨h1, rfl, rfl⟩
    · clear hne
      go_wp2
      exact bodyPost_ret (v := .tuple #[.agg (cellsT q), .int .i64 0]) (by simp [results, Tryz.results117, go_sem, t1, t9, x1]) rfl ⟨rfl, below_setRow B.out (Nat.le_refl _) _⟩
    · clear hne
      go_wp2
      exact bodyPost_ret (v := .tuple #[.agg (cellsT T0), .int .i64 90]) (by simp [results, Tryz.results117, go_sem, t1, t9, x1]) rfl ⟨rfl, below_setRow B.out (Nat.le_refl _) _⟩

end Go.Proofs.YthjcijlabpinkaaGreatDoor.Tm
