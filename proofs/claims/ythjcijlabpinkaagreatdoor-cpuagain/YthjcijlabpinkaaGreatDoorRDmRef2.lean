/- Layer 11: contract of the document's Parse. -/
import Derived.Test.YthjcijlabpinkaaGreatDoorRDmRef
namespace Go.Proofs.YthjcijlabpinkaaGreatDoor.Dm
open Go.RowKit
set_option linter.unusedVariables false
set_option maxRecDepth 100000

theorem num_cut (s : ByteArray) (a : Nat) (h : a + 4 ≤ s.size) : numOf (byteAt (s.extract a (a + 4))) 0 4 = numOf (byteAt s) a 4 := by
  rw [num4, num4]
  simp only [Nat.zero_add]
  rw [byteAt_cut s a (a + 4) 0 h (by omega), byteAt_cut s a (a + 4) 1 h (by omega), byteAt_cut s a (a + 4) 2 h (by omega), byteAt_cut s a (a + 4) 3 h (by omega)]
  rfl

set_option maxRecDepth 100000 in
set_option maxHeartbeats 4000000 in
theorem rparse_all {s : ByteArray} (hs : s.size = 17) (T : ByteArray) (hT : textV (dmOf s) = T) (q : Dm) (f : Int) (hne : (T.toList == s.toList) = true ∧ q = dmOf s ∧ f = 0 ∨ (T.toList == s.toList) = false ∧ q = D0 ∧ f = 110) (w : World) :
    Calls Tryz.prog 118 #[.string s] w fun e w' => e = .returned (.tuple #[.agg (cellsD q), .int .i64 f]) ∧ Below w.heap.size w w' := by
  obtain ⟨t1, t2, t3, t4, t5, t6, t7, t8, t9⟩ := dmRules
  obtain ⟨p0, p1, p2, p3, p4⟩ := dmParts
  obtain ⟨s0, s1, s2, s3, s4⟩ := dmSets
  obtain ⟨d1, d2, d3⟩ := dmDrew
  obtain ⟨n2, n3, n4, n5, n0, -⟩ := five_more
  have c1 := hide fun W => rval_any (s.extract 0 4) (by rw [ByteArray.size_extract]; omega) W
  have c2 := hide fun W => rval_any (s.extract 4 8) (by rw [ByteArray.size_extract]; omega) W
  have c3 := hide fun W => rval_any (s.extract 8 12) (by rw [ByteArray.size_extract]; omega) W
  have c4 := hide fun W => rval_any (s.extract 12 16) (by rw [ByteArray.size_extract]; omega) W
  have c5 := hide fun W => rtext_any (dmOf_w s) W
  rw [num_cut s 0 (by omega)] at c1
  rw [num_cut s 4 (by omega)] at c2
  rw [num_cut s 8 (by omega)] at c3
  rw [num_cut s 12 (by omega)] at c4
  rw [hT] at c5
  have hq : dmOf s = ⟨(numOf (byteAt s) 0 4 : Nat), (numOf (byteAt s) 4 4 : Nat), (numOf (byteAt s) 8 4 : Nat), (numOf (byteAt s) 12 4 : Nat), (s[16].toNat : Int) == 1⟩ := by
    unfold dmOf
    rw [byteAt_in s 16 (by omega)]
    congr 1
    generalize s[16].toNat = x
    cases h : x == 1 <;> cases h' : ((x : Int) == 1) <;> simp_all <;> omega
  rw [hq] at c5 hne
  generalize ((numOf (byteAt s) 0 4 : Nat) : Int) = v1 at *
  generalize ((numOf (byteAt s) 4 4 : Nat) : Int) = v2 at *
  generalize ((numOf (byteAt s) 8 4 : Nat) : Int) = v3 at *
  generalize ((numOf (byteAt s) 12 4 : Nat) : Int) = v4 at *
  clear hT hq
  have fin : ∀ c d : Array Value, Below w.heap.size w ((w.alloc (.cells c 66)).alloc (.cells d 66)).drew := fun c d => ((grow _ _).alloc (by simp) _).drew
  replace fin := hide fin
  replace hne := hide hne
  go_enter Tryz.func118, Tryz.ntmps118
  go_wp2_with fail
  go_cut [4] from 9 (fun a x => a = .pointer (some ⟨w.heap.size + 1, 0, none⟩) ∧ x = ((w.alloc (.cells (cellsD D0) 66)).alloc (.cells (cellsD ⟨v1, v2, v3, v4, (s[16].toNat : Int) == 1⟩) 66)).drew)
  case first =>
    go_region_law
      (first
        | (refine at_func 120 (.tmp 10) 9 (by with_reducible rfl) ?_; go_simp; refine (c1.out _).mono ?_; rintro e w' ⟨rfl, rfl⟩; go_wp2_with fail)
        | (refine at_func 120 (.tmp 13) 9 (by with_reducible rfl) ?_; go_simp; refine (c2.out _).mono ?_; rintro e w' ⟨rfl, rfl⟩; go_wp2_with fail)
        | (refine at_func 120 (.tmp 16) 9 (by with_reducible rfl) ?_; go_simp; refine (c3.out _).mono ?_; rintro e w' ⟨rfl, rfl⟩; go_wp2_with fail)
        | (refine at_func 120 (.tmp 19) 9 (by with_reducible rfl) ?_; go_simp; refine (c4.out _).mono ?_; rintro e w' ⟨rfl, rfl⟩; go_wp2_with fail))
    all_goals
      go_wp2_with fail
      go_meet
      case rel => exact ⟨rfl, rfl⟩
  case rest =>
    obtain ⟨rfl, rfl⟩ := hcut
    clear c1 c2 c3 c4
    generalize (⟨v1, v2, v3, v4, (s[16].toNat : Int) == 1⟩ : Dm) = r at *
    have R : Rat ((w.alloc (.cells (cellsD D0) 66)).alloc (.cells (cellsD r) 66)).drew (w.heap.size + 1) r := by
      have h := Rat.new (w.alloc (.cells (cellsD D0) 66)) r 66
      rw [show (w.alloc (.cells (cellsD D0) 66)).heap.size = w.heap.size + 1 by simp] at h
      exact h
    have Z : Rat ((w.alloc (.cells (cellsD D0) 66)).alloc (.cells (cellsD r) 66)).drew w.heap.size D0 := (Rat.new w D0 66).on (grow _ _).drew
    have B := fin.out (cellsD D0) (cellsD r)
    have l1 := R.load
    generalize ((w.alloc (.cells (cellsD D0) 66)).alloc (.cells (cellsD r) 66)).drew = v at *
    go_wp2_with fail
    refine (c5.out _).mono ?_
    rintro e w1 ⟨rfl, b1⟩
    replace B := hide (onto B (Nat.le_refl _) b1)
    replace l1 := (R.on b1).load
    have x1 := (Z.on b1).1
    have x2 := (Z.on b1).2.1
    clear b1 R Z fin c5
    rcases hne.out with ⟨h1, rfl, rfl⟩ | ⟨h1, rfl, rfl⟩
    · clear hne
      go_wp2
      exact bodyPost_ret (v := .tuple #[.agg (cellsD q), .int .i64 0]) (by simp [results, Tryz.results118, go_sem, t1, t9, x1]) rfl ⟨rfl, below_setRow B.out (Nat.le_refl _) _⟩
    · clear hne
      go_wp2
      exact bodyPost_ret (v := .tuple #[.agg (cellsD D0), .int .i64 110]) (by simp [results, Tryz.results118, go_sem, t1, t9, x1]) rfl ⟨rfl, below_setRow B.out (Nat.le_refl _) _⟩

end Go.Proofs.YthjcijlabpinkaaGreatDoor.Dm
