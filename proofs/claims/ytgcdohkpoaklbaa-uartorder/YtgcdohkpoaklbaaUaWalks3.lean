/- Layer 10: contracts of a byte that comes in, the program's and the document's, and of a uart with no more than it may have. -/
import Derived.Test.YtgcdohkpoaklbaaUaWalks2
namespace Go.Proofs.Ytgcdohkpoaklbaa
open Go.RowKit
set_option linter.unusedVariables false
set_option linter.unusedSimpArgs false

set_option maxHeartbeats 1000000 in
theorem feed_any (u : Ua) (c : Int) (h0 : 0 ≤ c) (h1 : c < 256) (hb : u.i.size ≤ 1000) (w : World) :
    Calls Try.prog 13 #[.agg (cellsU u), .int .u8 c] w fun e w' => e = .returned (.tuple #[.agg (cellsU (feedV u c)), .bool (decide (u.i.size < 16))]) ∧ Below w.heap.size w w' := by
  obtain ⟨t1, t2, t3, t4, t5, t6, t7, t8, t9⟩ := uaRules
  obtain ⟨p0, p1, p2⟩ := uaParts
  obtain ⟨s0, s1, s2⟩ := uaSets
  obtain ⟨d1, d2, d3⟩ := uaDrew
  have fin : ∀ c d : Array Value, Below w.heap.size w ((w.alloc (.cells c 23)).alloc (.cells d 23)) := fun c d => (grow _ _).alloc (by simp) _
  replace fin := hide fin
  by_cases hl : u.i.size < 16
  · have hv : feedV u c = { u with i := u.i ++ byteT c } := by unfold feedV; rw [if_pos hl]
    rw [hv]
    clear hv
    have hd : decide (u.i.size < 16) = true := by simpa using hl
    rw [hd]
    have hd2 : decide ((16 : Int) ≤ (u.i.size : Int)) = false := by simp; omega
    have k := hide fun W => behind_any u.i (by omega) c W
    obtain ⟨s, hs⟩ : ∃ s, u.i ++ byteT c = s := ⟨_, rfl⟩
    rw [hs] at k ⊢
    go_enter Try.func13, Try.ntmps13
    go_wp2_with fail
    refine (k.out _).mono ?_
    rintro e w1 ⟨rfl, rfl⟩
    clear k
    go_wp2
    all_goals exact bodyPost_ret (v := .tuple #[.agg (cellsU { u with i := s }), .bool true]) (by simp [results, Try.results13, go_sem, t1, t3, t5, t6, t7]) rfl ⟨rfl, (fin.out _ _).alloc (by simp; omega) _⟩
  · have hv : feedV u c = u := by unfold feedV; rw [if_neg hl]
    rw [hv]
    clear hv
    have hd : decide (u.i.size < 16) = false := by simpa using hl
    rw [hd]
    have hd2 : decide ((16 : Int) ≤ (u.i.size : Int)) = true := by simp; omega
    go_enter Try.func13, Try.ntmps13
    go_wp2
    exact bodyPost_ret (v := .tuple #[.agg (cellsU u), .bool false]) (by simp [results, Try.results13, go_sem, t1, t3, t5, t6, t7]) rfl ⟨rfl, fin.out _ _⟩

set_option maxHeartbeats 1000000 in
theorem rfeed_any (u : Ua) (c : Int) (h0 : 0 ≤ c) (h1 : c < 256) (hb : u.i.size ≤ 1000) (w : World) :
    Calls Try.prog 14 #[.agg (cellsU u), .int .u8 c] w fun e w' => e = .returned (.tuple #[.agg (cellsU (feedV u c)), .bool (decide (u.i.size < 16))]) ∧ Below w.heap.size w w' := by
  obtain ⟨t1, t2, t3, t4, t5, t6, t7, t8, t9⟩ := uaRules
  obtain ⟨p0, p1, p2⟩ := uaParts
  obtain ⟨s0, s1, s2⟩ := uaSets
  obtain ⟨d1, d2, d3⟩ := uaDrew
  have fin : ∀ c d : Array Value, Below w.heap.size w ((w.alloc (.cells c 23)).alloc (.cells d 23)) := fun c d => (grow _ _).alloc (by simp) _
  replace fin := hide fin
  have n1 : ¬ N3 < 1 := by decide
  have n2 : ¬ N3 < 2 := by decide
  have n3 : ¬ N3 < 3 := by decide
  have n0 : ¬ cellsU U0 = #[] := by unfold cellsU; simp
  by_cases hl : u.i.size < 16
  · have hv : feedV u c = { u with i := u.i ++ byteT c } := by unfold feedV; rw [if_pos hl]
    rw [hv]
    clear hv
    have hd : decide (u.i.size < 16) = true := by simpa using hl
    rw [hd]
    have hd2 : decide ((16 : Int) ≤ (u.i.size : Int)) = false := by simp; omega
    have k := hide fun W => one_any c h0 W
    rw [show c % 256 = c by omega] at k
    have hw := wrap_id c h0 (by omega)
    have hz := byteT_size c
    have hadd : ¬ 9223372036854775807 < u.i.size + 1 := by omega
    generalize byteT c = b at *
    obtain ⟨s, hs⟩ : ∃ s, u.i ++ b = s := ⟨_, rfl⟩
    rw [hs]
    go_enter Try.func14, Try.ntmps14
    go_wp2_with fail
    go_region_law (refine at_func 22 (.tmp 14) 3 (by with_reducible rfl) ?_; go_simp; refine (k.out _).mono ?_; rintro e w' ⟨rfl, rfl⟩; go_wp2_with fail)
    all_goals go_wp2
    all_goals exact bodyPost_ret (v := .tuple #[.agg (cellsU { u with i := s }), .bool true]) (by simp [results, Try.results14, go_sem, t1, t3, t5, t6, t7, d1, d2]) rfl ⟨rfl, ((fin.out _ _).alloc (by simp; omega) _).drew⟩
  · have hv : feedV u c = u := by unfold feedV; rw [if_neg hl]
    rw [hv]
    clear hv
    have hd : decide (u.i.size < 16) = false := by simpa using hl
    rw [hd]
    have hd2 : decide ((16 : Int) ≤ (u.i.size : Int)) = true := by simp; omega
    go_enter Try.func14, Try.ntmps14
    go_wp2
    exact bodyPost_ret (v := .tuple #[.agg (cellsU u), .bool false]) (by simp [results, Try.results14, go_sem, t1, t3, t5, t6, t7]) rfl ⟨rfl, fin.out _ _⟩

/-- At most n bytes. -/
def headV (s : ByteArray) (n : Nat) : ByteArray := s.extract 0 (if s.size ≤ n then s.size else n)

/-- A uart with no more than it may have. -/
def boundV (u : Ua) : Ua := ⟨headV u.i 16, headV u.o 64, u.n⟩

theorem head_size (s : ByteArray) (n : Nat) : (headV s n).size ≤ n := by
  unfold headV
  rw [ByteArray.size_extract]
  split <;> omega

theorem bound_fits (u : Ua) : Fits (boundV u) := ⟨head_size _ _, head_size _ _⟩

theorem run_minN (n m : Nat) (k : Int) (hk : (m : Int) = k) (w : World) : (Builtin.min_ #[3, 3] 3 #[.int .i64 n, .int .i64 k]).run Try.prog w = .ok (.int .i64 ((if n ≤ m then n else m : Nat) : Int)) w := by
  subst hk
  rw [run_min_int2]
  congr 2
  split <;> split <;> omega

theorem bound_any (u : Ua) (hi : u.i.size ≤ maxLen) (ho : u.o.size ≤ maxLen) (w : World) :
    Calls Try.prog 8 #[.agg (cellsU u)] w fun e w' => e = .returned (.agg (cellsU (boundV u))) ∧ Below w.heap.size w w' := by
  obtain ⟨t1, t2, t3, t4, t5, t6, t7, t8, t9⟩ := uaRules
  obtain ⟨p0, p1, p2⟩ := uaParts
  obtain ⟨s0, s1, s2⟩ := uaSets
  obtain ⟨d1, d2, d3⟩ := uaDrew
  have fin : ∀ c d : Array Value, Below w.heap.size w ((w.alloc (.cells c 23)).alloc (.cells d 23)) := fun c d => (grow _ _).alloc (by simp) _
  replace fin := hide fin
  unfold maxLen at hi ho
  have m1 := fun W => run_minN u.i.size 16 16 rfl W
  have m2 := fun W => run_minN u.o.size 64 64 rfl W
  have l1 : (if u.i.size ≤ 16 then u.i.size else 16) ≤ u.i.size := by split <;> omega
  have l2 : (if u.o.size ≤ 64 then u.o.size else 64) ≤ u.o.size := by split <;> omega
  unfold boundV headV
  generalize (if u.i.size ≤ 16 then u.i.size else 16) = a at *
  generalize (if u.o.size ≤ 64 then u.o.size else 64) = b at *
  go_enter Try.func8, Try.ntmps8
  go_wp2
  exact bodyPost_ret (v := .agg (cellsU ⟨u.i.extract 0 a, u.o.extract 0 b, u.n⟩)) (by simp [results, Try.results8, go_sem, t1, t3, t5, t6, t7]) rfl ⟨rfl, fin.out _ _⟩

end Go.Proofs.Ytgcdohkpoaklbaa
