/- Layer 12: contracts of Feed and Tick, the program's. -/
import Derived.Test.YtdapjpbdplhgbaaGreatQBuWalks3
namespace Go.Proofs.YtdapjpbdplhgbaaGreat
open Go.RowKit
set_option linter.unusedVariables false
set_option maxRecDepth 100000

/-- An event: At, Kind, V. -/
def cellsE (x k n : Int) : Array Value := #[.int .i64 x, .int .i64 k, .int .u32 n]

def N3e : Nat := 3

theorem feed_none {w : World} {b : Nat} (x k n : Int) (h0 : ¬ k = 0) (h1 : ¬ k = 1) :
    Calls Tryz.prog 9 #[.pointer (some ⟨b, 0, none⟩), .agg #[.int .i64 x, .int .i64 k, .int .u32 n]] w fun e w' => e = .returned (.int .i64 120) ∧ Below w.heap.size w w' := by
  have e0 : (k == 0) = false := by simpa using h0
  have e1 : (k == 1) = false := by simpa using h1
  clear h0 h1
  go_enter Tryz.func9, Tryz.ntmps9
  go_wp2
  go_ret
  exact ⟨rfl, grow _ _⟩

/-- What an event makes of the devices. -/
def feedV (v : Dv) (k n : Int) : Dv := if k = 0 then { v with u := Ua.feedV v.u (n % 256) } else if k = 1 then { v with g := stirG v.g n } else v

set_option maxHeartbeats 2000000 in
set_option maxRecDepth 100000 in
theorem feed_byte {w : World} {b p g n c : Nat} {v : Dv} {B : Nat → Nat} {D : Nat → Bool} (hB : Bus w b p g n c v B D) (x m : Int) (m0 : 0 ≤ m) (m1 : m < 4294967296) (hQ : Wv { v with u := Ua.feedV v.u (m % 256) }) :
    Calls Tryz.prog 9 #[.pointer (some ⟨b, 0, none⟩), .agg #[.int .i64 x, .int .i64 0, .int .u32 m]] w fun e w' => e = .returned (.int .i64 0) ∧ Bus w' b p g n c { v with u := Ua.feedV v.u (m % 256) } B D ∧ Kept [b] w w' := by
  obtain ⟨t1, t2, t3, t4, t5, t6, t7, t8, t9⟩ := rowRules
  obtain ⟨y1, y2⟩ := rowSets
  obtain ⟨-, z2, -, -, -, -, z7, -, -, -⟩ := sizeRules
  obtain ⟨-, c2, -, -, -, -, o2, -, -, -, -, n2, -, -, -⟩ := cellSizes
  obtain ⟨-, f2, -, -, -, -, q2, -, -, -, -, s2, -, -, -, -, -, -⟩ := bParts
  have cf := hide (Ua.feed_any v.u (m % 256) (by omega) (by omega) (by have := hB.wv.u.i; omega))
  generalize Ua.feedV v.u (m % 256) = Q at *
  have B1 := hide (hB.on (grow w (.cells #[.int .i64 x, .int .i64 0, .int .u32 m] 32)).drew)
  obtain ⟨r1, r2, r3⟩ := And.intro hB.row (And.intro hB.at' hB.lt)
  have r4 : ¬ b = w.heap.size := by omega
  clear hB
  go_enter Tryz.func9, Tryz.ntmps9
  go_wp2_with fail
  go_region_with (first
    | (go_at_call 29; refine (cf.out _).mono ?_; rintro e w1 ⟨rfl, b1⟩; have B2 := B1.out.on b1; obtain ⟨i1, i2⟩ := And.intro B2.row B2.at'))
  all_goals
    go_wp2
    go_ret
    exact ⟨rfl, B2.set _ hQ, (Kept.of (onto (grow w _).drew (Nat.le_refl _) b1)).trans (Kept.set _ _ _ (by simp))⟩

set_option maxHeartbeats 2000000 in
set_option maxRecDepth 100000 in
theorem feed_stir {w : World} {b p g n c : Nat} {v : Dv} {B : Nat → Nat} {D : Nat → Bool} (hB : Bus w b p g n c v B D) (x m : Int) (m0 : 0 ≤ m) (m1 : m < 4294967296) (hQ : Wv { v with g := stirG v.g m }) :
    Calls Tryz.prog 9 #[.pointer (some ⟨b, 0, none⟩), .agg #[.int .i64 x, .int .i64 1, .int .u32 m]] w fun e w' => e = .returned (.int .i64 0) ∧ Bus w' b p g n c { v with g := stirG v.g m } B D ∧ Kept [b] w w' := by
  obtain ⟨t1, t2, t3, t4, t5, t6, t7, t8, t9⟩ := rowRules
  obtain ⟨y1, y2⟩ := rowSets
  obtain ⟨-, -, -, z4, -, -, -, -, z9, -⟩ := sizeRules
  obtain ⟨-, -, -, c4, -, -, -, -, o4, -, -, -, -, n4, -⟩ := cellSizes
  obtain ⟨-, -, -, f4, -, -, -, -, q4, -, -, -, -, s4, -, -, -, -⟩ := bParts
  have cf := hide (stir_g v.g m ⟨m0, by omega⟩)
  generalize stirG v.g m = Q at *
  have B1 := hide (hB.on (grow w (.cells #[.int .i64 x, .int .i64 1, .int .u32 m] 32)).drew)
  obtain ⟨r1, r2, r3⟩ := And.intro hB.row (And.intro hB.at' hB.lt)
  have r4 : ¬ b = w.heap.size := by omega
  clear hB
  go_enter Tryz.func9, Tryz.ntmps9
  go_wp2_with fail
  go_region_with (first
    | (go_at_call 30; refine (cf.out _).mono ?_; rintro e w1 ⟨rfl, b1⟩; have B2 := B1.out.on b1; obtain ⟨i1, i2⟩ := And.intro B2.row B2.at'))
  all_goals
    go_wp2
    go_ret
    exact ⟨rfl, B2.set _ hQ, (Kept.of (onto (grow w _).drew (Nat.le_refl _) b1)).trans (Kept.set _ _ _ (by simp))⟩

theorem feed_u {u : Ua.Ua} (h : Ua.Fits u) (c : Int) : Ua.Fits (Ua.feedV u c) := by
  unfold Ua.feedV
  split
  · exact ⟨by show (u.i ++ Ua.byteT c).size ≤ 16; rw [ByteArray.size_append, Ua.byteT_size]; omega, h.o⟩
  · exact h

end Go.Proofs.YtdapjpbdplhgbaaGreat
