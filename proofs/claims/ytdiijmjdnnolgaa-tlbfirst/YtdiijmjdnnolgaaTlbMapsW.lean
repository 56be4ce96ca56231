/- What becomes of any address, in any space, by any buffer, is as the document says. -/
import Derived.Test.YtdiijmjdnnolgaaTlbWritesW
namespace Go.Proofs.Ytdiijmjdnnolgaa
open Go.RowKit
set_option linter.unusedVariables false

/-- A buffer that is loaded, behind a call. -/
theorem load_on {n L : Nat} {w x y : World} {T : Nat → Int}
    (hS : (loadCellsFrom ⟨L, 0, none⟩ 0 N16 #[]).run Try.prog x = .ok (cellsT T) x ∧ Tat x L T ∧ Below n w x) (hn : n ≤ w.heap.size) (hb : Below x.heap.size x y) :
    (loadCellsFrom ⟨L, 0, none⟩ 0 N16 #[]).run Try.prog y = .ok (cellsT T) y ∧ Tat y L T ∧ Below n w y :=
  ⟨(hS.2.1.on hb).load, hS.2.1.on hb, onto hS.2.2 hn hb⟩

theorem map_both (T : Nat → Int) (a s : Int) (hT : Wd T) (ha : 0 ≤ a ∧ a < 4294967296) (hs : 0 ≤ s ∧ s < 4294967296) : ∃ k p q u v : Int,
    (∀ w, Calls Try.prog 11 #[.agg (cellsT T), .int .u32 a, .int .u32 s, .bool false] w fun e w' => e = .returned (.tuple #[.int .u32 p, .int .i64 q]) ∧ Below w.heap.size w w') ∧
    (∀ w, Calls Try.prog 12 #[.agg (cellsT T), .int .u32 a, .int .u32 s, .bool false] w fun e w' => e = .returned (.tuple #[.int .u32 p, .int .i64 q]) ∧ Below w.heap.size w w') ∧
    (∀ w, Calls Try.prog 11 #[.agg (cellsT T), .int .u32 a, .int .u32 s, .bool true] w fun e w' => e = .returned (.tuple #[.int .u32 u, .int .i64 v]) ∧ Below w.heap.size w w') ∧
    (∀ w, Calls Try.prog 12 #[.agg (cellsT T), .int .u32 a, .int .u32 s, .bool true] w fun e w' => e = .returned (.tuple #[.int .u32 u, .int .i64 v]) ∧ Below w.heap.size w w') ∧
    (∀ w, Calls Try.prog 13 #[.agg (cellsT T), .int .u32 a, .int .u32 s] w fun e w' => e = .returned (.int .i64 k) ∧ Below w.heap.size w w') ∧
    (∀ w, Calls Try.prog 14 #[.agg (cellsT T), .int .u32 a, .int .u32 s] w fun e w' => e = .returned (.int .i64 k) ∧ Below w.heap.size w w') := by
  obtain ⟨k, hk⟩ := find_ex T a s
  exact ⟨k, _, _, _, _, fun w => map_at hT ha.1 ha.2 hs.1 hs.2 hk false w, fun w => rmap_at hT ha.1 ha.2 hs.1 hs.2 hk false w, fun w => map_at hT ha.1 ha.2 hs.1 hs.2 hk true w, fun w => rmap_at hT ha.1 ha.2 hs.1 hs.2 hk true w,
    fun w => find_at hT ha.1 ha.2 hs.1 hs.2 hk w, fun w => rfind_at hT ha.1 ha.2 hs.1 hs.2 hk w⟩

theorem u32_of {n : Int} (h : (Lit.int .u32 n).wf = true) : 0 ≤ n ∧ n < 4294967296 := by
  simp [Lit.wf, IntKind.min, IntKind.max, IntKind.signed, IntKind.bits] at h
  omega

set_option maxHeartbeats 2000000 in
theorem maps_walk (w : World) (T : Nat → Int) (hT : Wd T) (a : Int) (wa : (Lit.int .u32 a).wf = true) (s : Int) (ws : (Lit.int .u32 s).wf = true) :
    Calls Try.prog 4 #[.agg (cellsT T), .int .u32 a, .int .u32 s] w fun e w' => e = .returned (.bool true) ∧ Below w.heap.size w w' := by
  have t1 := sizeTlb
  obtain ⟨k, p, q, u, v, c1, c2, c3, c4, c5, c6⟩ := map_both T a s hT (u32_of wa) (u32_of ws)
  replace c1 := hide c1
  replace c2 := hide c2
  replace c3 := hide c3
  replace c4 := hide c4
  clear wa ws hT
  go_enter Try.func4, Try.ntmps4
  have R := Tat.new w T 26
  have B := hide (grow w (.cells (cellsT T) 26))
  have l1 := R.load
  go_wp2_with fail
  refine (c1.out _).mono ?_
  rintro e w1 ⟨rfl, b1⟩
  replace R := R.on b1
  replace B := hide (onto B.out (Nat.le_refl _) b1)
  replace l1 := R.load
  clear b1
  go_wp2_with fail
  refine (c2.out _).mono ?_
  rintro e w2 ⟨rfl, b2⟩
  replace R := R.on b2
  replace B := hide (onto B.out (Nat.le_refl _) b2)
  replace l1 := R.load
  clear b2 w1
  go_wp2_with fail
  refine (c3.out _).mono ?_
  rintro e w3 ⟨rfl, b3⟩
  replace R := R.on b3
  replace B := hide (onto B.out (Nat.le_refl _) b3)
  replace l1 := R.load
  clear b3 w2
  go_wp2_with fail
  refine (c4.out _).mono ?_
  rintro e w4 ⟨rfl, b4⟩
  replace R := R.on b4
  replace B := hide (onto B.out (Nat.le_refl _) b4)
  replace l1 := R.load
  clear b4 w3
  go_wp2_with fail
  have hS := load_on ⟨l1, R, B.out⟩ (Nat.le_refl _) (Below.refl _ w4).drew
  clear l1 R B c1 c2 c3 c4
  go_region_held3 (fun x => (loadCellsFrom ⟨w.heap.size, 0, none⟩ 0 N16 #[]).run Try.prog x = .ok (cellsT T) x ∧ Tat x w.heap.size T ∧ Below w.heap.size w x)
    (first | exact hS | assumption)
    (first
      | (go_at_call 10; refine (fixed_any _).mono ?_; rintro e w' ⟨rfl, hn⟩; have hT := load_on (by assumption) (Nat.le_refl _) hn; clear hn)
      | (go_at_call 13; refine (c5 _).mono ?_; rintro e w' ⟨rfl, hn⟩; have hT := load_on (by assumption) (Nat.le_refl _) hn; clear hn)
      | (go_at_call 14; refine (c6 _).mono ?_; rintro e w' ⟨rfl, hn⟩; have hT := load_on (by assumption) (Nat.le_refl _) hn; clear hn))
  all_goals
    go_wp2
    go_ret
    exact ⟨rfl, hT.2.2⟩

end Go.Proofs.Ytdiijmjdnnolgaa
