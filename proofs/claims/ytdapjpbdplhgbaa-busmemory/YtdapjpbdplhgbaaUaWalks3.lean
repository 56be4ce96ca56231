/- Layer 10: contracts of a byte that comes in, the program's and the document's, and of a uart with no more than it may have. -/
import Derived.Test.YtdapjpbdplhgbaaUaWalks2
namespace Go.Proofs.Ytdapjpbdplhgbaa.Ua
open Go.RowKit
set_option linter.unusedVariables false
set_option maxRecDepth 100000
set_option linter.unusedSimpArgs false

set_option maxHeartbeats 1000000 in
theorem feed_any (u : Ua) (c : Int) (h0 : 0 ≤ c) (h1 : c < 256) (hb : u.i.size ≤ 1000) (w : World) :
    Calls Try.prog 68 #[.agg (cellsU u), .int .u8 c] w fun e w' => e = .returned (.tuple #[.agg (cellsU (feedV u c)), .bool (decide (u.i.size < 16))]) ∧ Below w.heap.size w w' := by
  obtain ⟨t1, t2, t3, t4, t5, t6, t7, t8, t9⟩ := uaRules
  obtain ⟨p0, p1, p2⟩ := uaParts
  obtain ⟨s0, s1, s2⟩ := uaSets
  obtain ⟨d1, d2, d3⟩ := uaDrew
  have fin : ∀ c d : Array Value, Below w.heap.size w ((w.alloc (.cells c 64)).alloc (.cells d 64)) := fun c d => (grow _ _).alloc (by simp) _
  replace fin := hide fin
  by_cases hl : u.i.size < 16
  · have hv : feedV u c = { u with i := u.i ++ byteT c } := by unfold feedV; rw [if_pos hl]
    rw [hv]
    clear hv
    have hd : decide (u.i.size < 16) = true := by simpa using hl
    rw [hd]
    have hd2 : decide ((16 : Int) ≤ (u.i.size : Int)) = false := by simp; omega
    have k := hide fun W => behind_any u.i (by omega) c W
    obtain ⟨s, hs⟩ : ∃ s, u.i ++ byteT c = s := ⟨_, rfl⟩
    rw [hs] at k ⊢
    go_enter Try.func68, Try.ntmps68
    go_wp2_with fail
    refine (k.out _).mono ?_
    rintro e w1 ⟨rfl, rfl⟩
    clear k
    go_wp2
    all_goals exact bodyPost_ret (v := .tuple #[.agg (cellsU { u with i := s }), .bool true]) (by simp [results, Try.results68, go_sem, t1, t3, t5, t6, t7]) rfl ⟨rfl, (fin.out _ _).alloc (by simp; omega) _⟩
  · have hv : feedV u c = u := by unfold feedV; rw [if_neg hl]
    rw [hv]
    clear hv
    have hd : decide (u.i.size < 16) = false := by simpa using hl
    rw [hd]
    have hd2 : decide ((16 : Int) ≤ (u.i.size : Int)) = true := by simp; omega
    go_enter Try.func68, Try.ntmps68
    go_wp2
    exact bodyPost_ret (v := .tuple #[.agg (cellsU u), .bool false]) (by simp [results, Try.results68, go_sem, t1, t3, t5, t6, t7]) rfl ⟨rfl, fin.out _ _⟩

/-- At most n bytes. -/
def headV (s : ByteArray) (n : Nat) : ByteArray := s.extract 0 (if s.size ≤ n then s.size else n)

/-- A uart with no more than it may have. -/
def boundV (u : Ua) : Ua := ⟨headV u.i 16, headV u.o 64, u.n⟩

theorem head_size (s : ByteArray) (n : Nat) : (headV s n).size ≤ n := by
  unfold headV
  rw [ByteArray.size_extract]
  split <;> omega

theorem bound_fits (u : Ua) : Fits (boundV u) := ⟨head_size _ _, head_size _ _⟩

theorem run_minN (n m : Nat) (k : Int) (hk : (m : Int) = k) (w : World) : (Builtin.min_ #[3, 3] 3 #[.int .i64 n, .int .i64 k]).run Try.prog w = .ok (.int .i64 ((if n ≤ m then n else m : Nat) : Int)) w := by
  subst hk
  rw [run_min_int2]
  congr 2
  split <;> split <;> omega

end Go.Proofs.Ytdapjpbdplhgbaa.Ua
