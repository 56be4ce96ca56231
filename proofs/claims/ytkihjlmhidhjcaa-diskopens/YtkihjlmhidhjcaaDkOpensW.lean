/- Layer 18: the walk of DiskOpens. -/
import Derived.Test.YtkihjlmhidhjcaaDkDoes
import Derived.Test.YtkihjlmhidhjcaaDkROpen
import Derived.Deep.CutBlock
namespace Go.Proofs.Ytkihjlmhidhjcaa
open Go.RowKit
set_option linter.unusedVariables false
set_option maxRecDepth 100000
set_option linter.unusedSimpArgs false

/-- Of how many bytes the law speaks. -/
theorem piece_size (t : ByteArray) : (t.extract 0 (min t.size 4000)).size = min t.size 4000 := by rw [ByteArray.size_extract]; omega

set_option maxHeartbeats 8000000 in
set_option maxRecDepth 100000 in
theorem opens_walk (w : World) (a : Int) (wa : (Lit.int .i64 a).wf = true) (t : ByteArray) (wt : t.size ≤ maxLen) :
    Calls Try.prog 3 #[.int .i64 a, .string t] w fun e w' => e = .returned (.bool true) ∧ Below w.heap.size w w' := by
  have hfix := hide fixed_any
  obtain ⟨s, hs⟩ : ∃ s, s = t.extract 0 (min t.size 4000) := ⟨_, rfl⟩
  obtain ⟨m, hm⟩ : ∃ m, m = min t.size 4000 := ⟨_, rfl⟩
  have hz := piece_size t
  rw [← hs, ← hm] at hz
  rw [← hm] at hs
  have hm4 : m ≤ 4000 := by omega
  have hmt : m ≤ t.size := by omega
  have hmi : min (t.size : Int) 4000 = (m : Int) := by omega
  have hmti : (m : Int) ≤ (t.size : Int) := by omega
  have hs' : t.extract 0 m = s := hs.symm
  have hsz : Hid (s.size ≤ maxLen) := hide (by unfold maxLen; omega)
  replace hz := hide hz
  clear hs hm
  by_cases hn : 1 ≤ a ∧ a ≤ 4096
  · obtain ⟨n, rfl⟩ : ∃ n : Nat, a = (n : Int) := ⟨a.toNat, by omega⟩
    obtain ⟨hn1, hn2⟩ := hn
    have cn := dnew_any n (by omega) (by omega) w
    have hlen : ((newD n).S.length : Int) = (n : Int) := by simp [newD]
    by_cases hi : s.size % 64 = 0 ∧ 64 ≤ s.size ∧ s.size ≤ 262144
    · have co := fun w => dopen_any s hi.1 hi.2.1 hi.2.2 w
      have cr := fun w => ropen_any s hi.1 hi.2.1 hi.2.2 w
      have hg := hide (openD_good hi.1 hi.2.1 hi.2.2)
      clear hi
      go_enter Try.func3, Try.ntmps3
      go_wp2_with fail
      refine cn.mono ?_
      rintro e w1 ⟨db, rfl, D, hb⟩
      replace D := hide D
      replace hb := hide hb
      clear cn
      go_wp2_with fail
      refine (co _).mono ?_
      rintro e w2 ⟨ib, rfl, I, h2⟩
      replace I := hide I
      replace D := hide (D.out.on h2)
      replace hb := hide (onto hb.out (Nat.le_refl _) h2)
      clear h2 co
      go_wp2_with fail
      refine (cr _).mono ?_
      rintro e w3 ⟨rb, rfl, h3⟩
      replace I := hide (I.out.on h3)
      replace D := hide (D.out.on h3)
      replace hb := hide (onto hb.out (Nat.le_refl _) h3)
      clear h3 cr
      go_wp2_with fail
      refine (hfix.out _).mono ?_
      rintro q w4 ⟨rfl, h4⟩
      replace D := hide (D.out.on h4)
      replace I := hide (I.out.on h4)
      replace hb := hide (onto hb.out (Nat.le_refl _) h4)
      clear h4
      go_wp2_with fail
      have c1 := dsectors_any D.out
      rw [hlen] at c1
      refine c1.mono ?_
      rintro q w5 ⟨rfl, hw5⟩
      subst hw5
      clear c1
      go_wp2_with fail
      have c2 := dimage_any I.out
      rw [hg.out.2] at c2
      refine c2.mono ?_
      rintro q w6 ⟨rfl, h6⟩
      replace I := hide (I.out.on h6)
      replace hb := hide (onto hb.out (Nat.le_refl _) h6)
      have c3 := dsteps_any I.out
      have c4 := ddead_any I.out
      rw [show (openD s).m = 0 from rfl, show ((0 : Nat) : Int) = 0 from rfl] at c3
      rw [show (openD s).dead = false from rfl] at c4
      clear c2 h6
      go_wp2_with fail
      refine c3.mono ?_
      rintro q w7 ⟨rfl, hw7⟩
      subst hw7
      go_wp2_with fail
      refine c4.mono ?_
      rintro q w8 ⟨rfl, hw8⟩
      subst hw8
      clear c3 c4
      go_wp2
      go_ret
      exact ⟨rfl, hb.out⟩
    · have co := fun w => dopen_bad s hi hsz.out w
      have cr := fun w => ropen_bad s hi w
      clear hi
      go_enter Try.func3, Try.ntmps3
      go_wp2_with fail
      refine cn.mono ?_
      rintro e w1 ⟨db, rfl, D, hb⟩
      replace D := hide D
      replace hb := hide hb
      clear cn
      go_wp2_with fail
      refine (co _).mono ?_
      rintro e w2 ⟨rfl, h2⟩
      replace D := hide (D.out.on h2)
      replace hb := hide (onto hb.out (Nat.le_refl _) h2)
      clear h2 co
      go_wp2_with fail
      refine (cr _).mono ?_
      rintro e w3 ⟨rfl, hw3⟩
      have h3 : Below w2.heap.size w2 w3 := hw3 ▸ Below.refl _ _
      clear hw3
      replace D := hide (D.out.on h3)
      replace hb := hide (onto hb.out (Nat.le_refl _) h3)
      clear h3 cr
      go_wp2_with fail
      refine (hfix.out _).mono ?_
      rintro q w4 ⟨rfl, h4⟩
      replace D := hide (D.out.on h4)
      replace hb := hide (onto hb.out (Nat.le_refl _) h4)
      clear h4
      go_wp2_with fail
      have c1 := dsectors_any D.out
      rw [hlen] at c1
      refine c1.mono ?_
      rintro q w5 ⟨rfl, hw5⟩
      subst hw5
      clear c1
      go_wp2
      go_ret
      exact ⟨rfl, hb.out⟩
  · have hbad : a < 1 ∨ 4096 < a := by omega
    have cn := dnew_bad a hbad w
    rcases hbad with hbad | hbad
    all_goals
      by_cases hi : s.size % 64 = 0 ∧ 64 ≤ s.size ∧ s.size ≤ 262144
      · have co := fun w => dopen_any s hi.1 hi.2.1 hi.2.2 w
        have cr := fun w => ropen_any s hi.1 hi.2.1 hi.2.2 w
        have hg := hide (openD_good hi.1 hi.2.1 hi.2.2)
        clear hi hn
        go_enter Try.func3, Try.ntmps3
        go_wp2_with fail
        refine cn.mono ?_
        rintro e w1 ⟨rfl, hw1⟩
        subst hw1
        have hb := hide (Below.refl w1.heap.size w1)
        clear cn
        go_wp2_with fail
        refine (co _).mono ?_
        rintro e w2 ⟨ib, rfl, I, h2⟩
        replace I := hide I
        replace hb := hide (onto hb.out (Nat.le_refl _) h2)
        clear h2 co
        go_wp2_with fail
        refine (cr _).mono ?_
        rintro e w3 ⟨rb, rfl, h3⟩
        replace I := hide (I.out.on h3)
        replace hb := hide (onto hb.out (Nat.le_refl _) h3)
        clear h3 cr
        go_wp2_with fail
        refine (hfix.out _).mono ?_
        rintro q w4 ⟨rfl, h4⟩
        replace I := hide (I.out.on h4)
        replace hb := hide (onto hb.out (Nat.le_refl _) h4)
        clear h4
        go_wp2_with fail
        have c2 := dimage_any I.out
        rw [hg.out.2] at c2
        refine c2.mono ?_
        rintro q w6 ⟨rfl, h6⟩
        replace I := hide (I.out.on h6)
        replace hb := hide (onto hb.out (Nat.le_refl _) h6)
        have c3 := dsteps_any I.out
        have c4 := ddead_any I.out
        rw [show (openD s).m = 0 from rfl, show ((0 : Nat) : Int) = 0 from rfl] at c3
        rw [show (openD s).dead = false from rfl] at c4
        clear c2 h6
        go_wp2_with fail
        refine c3.mono ?_
        rintro q w7 ⟨rfl, hw7⟩
        subst hw7
        go_wp2_with fail
        refine c4.mono ?_
        rintro q w8 ⟨rfl, hw8⟩
        subst hw8
        clear c3 c4
        go_wp2
        go_ret
        exact ⟨rfl, hb.out⟩
      · have co := fun w => dopen_bad s hi hsz.out w
        have cr := fun w => ropen_bad s hi w
        clear hi hn
        go_enter Try.func3, Try.ntmps3
        go_wp2_with fail
        refine cn.mono ?_
        rintro e w1 ⟨rfl, hw1⟩
        subst hw1
        have hb := hide (Below.refl w1.heap.size w1)
        clear cn
        go_wp2_with fail
        refine (co _).mono ?_
        rintro e w2 ⟨rfl, h2⟩
        replace hb := hide (onto hb.out (Nat.le_refl _) h2)
        clear h2 co
        go_wp2_with fail
        refine (cr _).mono ?_
        rintro e w3 ⟨rfl, hw3⟩
        have h3 : Below w2.heap.size w2 w3 := hw3 ▸ Below.refl _ _
        clear hw3
        replace hb := hide (onto hb.out (Nat.le_refl _) h3)
        clear h3 cr
        go_wp2_with fail
        refine (hfix.out _).mono ?_
        rintro q w4 ⟨rfl, h4⟩
        replace hb := hide (onto hb.out (Nat.le_refl _) h4)
        clear h4
        go_wp2
        go_ret
        exact ⟨rfl, hb.out⟩

end Go.Proofs.Ytkihjlmhidhjcaa
