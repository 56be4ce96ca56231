/- Layer 10: the calls whose answers the document fixes are answered so. -/
import Derived.Test.YtgcdohkpoaklbaaUaParse2
import Derived.Test.YtgcdohkpoaklbaaUaWalks3
namespace Go.Proofs.Ytgcdohkpoaklbaa
open Go.RowKit
set_option linter.unusedVariables false
set_option linter.unusedSimpArgs false

/-- The uarts of the fixed calls. -/
def F1 : Ua := ⟨⟨#[97]⟩, ⟨#[]⟩, false⟩
def F2 : Ua := ⟨⟨#[97, 98]⟩, ⟨#[]⟩, false⟩
def F3 : Ua := ⟨⟨#[98]⟩, ⟨#[]⟩, false⟩
def F4 : Ua := ⟨⟨#[97, 98]⟩, ⟨#[65]⟩, false⟩
def F5 : Ua := ⟨⟨#[97]⟩, ⟨#[98]⟩, true⟩

theorem fits_of {u : Ua} (h : u.i.size ≤ 16 ∧ u.o.size ≤ 64) : Fits u := ⟨h.1, h.2⟩

theorem good_of {s : ByteArray} {u : Ua} (hu : Fits u) (h : textV u = s) : Good s ∧ uaOf s = u := by
  subst h
  exact ⟨(text_good hu).1, (text_good hu).2.1⟩

theorem short_bad {s : ByteArray} (h : ∀ u, Fits u → ¬ textV u = s) : ¬ Good s := fun hg => h _ (good_text hg).1 (good_text hg).2

theorem fixed_calls : (∀ w, Calls Try.prog 13 #[.agg (cellsU U0), .int .u8 97] w fun e w' => e = .returned (.tuple #[.agg (cellsU F1), .bool true]) ∧ Below w.heap.size w w') ∧
    (∀ w, Calls Try.prog 13 #[.agg (cellsU F1), .int .u8 98] w fun e w' => e = .returned (.tuple #[.agg (cellsU F2), .bool true]) ∧ Below w.heap.size w w') ∧
    (∀ w, Calls Try.prog 9 #[.agg (cellsU F2), .int .u32 0] w fun e w' => e = .returned (.tuple #[.int .u32 97, .agg (cellsU F3), .int .i64 0]) ∧ Below w.heap.size w w') ∧
    (∀ w, Calls Try.prog 9 #[.agg (cellsU F3), .int .u32 0] w fun e w' => e = .returned (.tuple #[.int .u32 98, .agg (cellsU U0), .int .i64 0]) ∧ Below w.heap.size w w') ∧
    (∀ w, Calls Try.prog 9 #[.agg (cellsU U0), .int .u32 0] w fun e w' => e = .returned (.tuple #[.int .u32 0, .agg (cellsU U0), .int .i64 0]) ∧ Below w.heap.size w w') ∧
    (∀ w, Calls Try.prog 11 #[.agg (cellsU F2), .int .u32 0, .int .u32 321] w fun e w' => e = .returned (.tuple #[.agg (cellsU F4), .int .i64 0]) ∧ Below w.heap.size w w') ∧
    (∀ w, Calls Try.prog 9 #[.agg (cellsU F2), .int .u32 12] w fun e w' => e = .returned (.tuple #[.int .u32 0, .agg (cellsU U0), .int .i64 100]) ∧ Below w.heap.size w w') ∧
    (∀ w, Calls Try.prog 17 #[.string ⟨#[1, 1, 97, 1, 98]⟩] w fun e w' => e = .returned (.tuple #[.agg (cellsU F5), .int .i64 0]) ∧ Below w.heap.size w w') ∧
    (∀ w, Calls Try.prog 17 #[.string ⟨#[1, 1, 97]⟩] w fun e w' => e = .returned (.tuple #[.agg (cellsU U0), .int .i64 100]) ∧ Below w.heap.size w w') ∧
    (∀ w, Calls Try.prog 16 #[.agg (cellsU F5)] w fun e w' => e = .returned (.bool true) ∧ Below w.heap.size w w') ∧
    (∀ w, Calls Try.prog 16 #[.agg (cellsU F2)] w fun e w' => e = .returned (.bool false) ∧ Below w.heap.size w w') := by
  refine ⟨fun w => ?_, fun w => ?_, fun w => ?_, fun w => ?_, fun w => ?_, fun w => ?_, fun w => ?_, fun w => ?_, fun w => ?_, fun w => ?_, fun w => ?_⟩
  · have := feed_any U0 97 (by decide) (by decide) (by decide) w
    rwa [show feedV U0 97 = F1 by decide +kernel] at this
  · have := feed_any F1 98 (by decide) (by decide) (by decide) w
    rwa [show feedV F1 98 = F2 by decide +kernel] at this
  · have := read_any F2 (fits_of (by decide)) 0 w
    rwa [show readV F2 0 = 97 by decide +kernel, show leftV F2 0 = F3 by decide +kernel] at this
  · have := read_any F3 (fits_of (by decide)) 0 w
    rwa [show readV F3 0 = 98 by decide +kernel, show leftV F3 0 = U0 by decide +kernel] at this
  · have := read_any U0 (fits_of (by decide)) 0 w
    rwa [show readV U0 0 = 0 by decide +kernel, show leftV U0 0 = U0 by decide +kernel] at this
  · have := write_any F2 (fits_of (by decide)) 0 321 (by decide) (by decide) w
    rwa [show writeV F2 0 321 = F4 by decide +kernel] at this
  · have := read_any F2 (fits_of (by decide)) 12 w
    rwa [show readV F2 12 = 0 by decide +kernel, show leftV F2 12 = U0 by decide +kernel] at this
  · obtain ⟨hg, hu⟩ := good_of (s := ⟨#[1, 1, 97, 1, 98]⟩) (u := F5) (fits_of (by decide)) (by decide +kernel)
    have := parse_yes (s := ⟨#[1, 1, 97, 1, 98]⟩) (by decide) hg w
    rwa [hu] at this
  · refine parse_no (by decide) ?_ w
    rintro ⟨-, -, -, h, -⟩
    revert h
    unfold May
    decide +kernel
  · exact ring_any F5 w
  · exact ring_any F2 w

set_option maxRecDepth 100000 in
set_option maxHeartbeats 2000000 in
theorem fixed_any (w : World) : Calls Try.prog 15 #[] w fun e w' => e = .returned (.bool true) ∧ Below w.heap.size w w' := by
  obtain ⟨t1, t2, t3, t4, t5, t6, t7, t8, t9⟩ := uaRules
  obtain ⟨p0, p1, p2⟩ := uaParts
  obtain ⟨s0, s1, s2⟩ := uaSets
  obtain ⟨c1, c2, c3, c4, c5, c6, c7, c8, c9, c10, c11⟩ := fixed_calls
  have he := fun r w => eq_self r w
  replace c1 := hide c1
  replace c2 := hide c2
  replace c3 := hide c3
  replace c4 := hide c4
  replace c5 := hide c5
  replace c6 := hide c6
  replace c7 := hide c7
  replace c8 := hide c8
  replace c9 := hide c9
  replace c10 := hide c10
  replace c11 := hide c11
  have n1 : ¬ N3 < 1 := by decide
  have n2 : ¬ N3 < 2 := by decide
  have n3 : ¬ N3 < 3 := by decide
  have n0 : ¬ cellsU U0 = #[] := by unfold cellsU; simp
  go_enter Try.func15, Try.ntmps15
  go_wp2_with fail
  refine (c1.out _).mono ?_
  rintro e w1 ⟨rfl, b1⟩
  have B := hide (onto b1 (Nat.le_refl _) (grow w1 (.cells (cellsU F1) 23)))
  have R1 := Rat.new w1 F1 23
  have l1 := R1.load
  have h1 := b1.size
  clear b1
  go_wp2_with fail
  generalize w1.alloc (.cells (cellsU F1) 23) = v1 at *
  generalize w1.heap.size = L1 at *
  refine (c2.out _).mono ?_
  rintro e w2 ⟨rfl, b2⟩
  replace R1 := R1.on b2
  replace B := hide (onto B.out (Nat.le_refl _) b2)
  have x1 := R1.1
  have x2 := R1.2.1
  clear b2 l1
  go_wp2_with fail
  replace R1 := R1.set F2
  replace B := hide (below_setRow B.out h1 (cellsU F2))
  generalize w2.setRow L1 (cellsU F2) = v2 at *
  clear x1 x2
  refine (c3.out _).mono ?_
  rintro e w3 ⟨rfl, b3⟩
  have g3 := grow w3 (.cells (cellsU F3) 23)
  have h3 := Nat.le_trans B.out.size b3.size
  have hne : ¬ L1 = w3.heap.size := by have := (R1.on b3).2.2; omega
  replace R1 := (R1.on b3).on g3
  have R2 := Rat.new w3 F3 23
  replace B := hide (onto (onto B.out (Nat.le_refl _) b3) (Nat.le_refl _) g3)
  have l2 := R2.load
  clear b3 g3
  go_wp2_with fail
  generalize w3.alloc (.cells (cellsU F3) 23) = v3 at *
  generalize w3.heap.size = L2 at *
  refine (c4.out _).mono ?_
  rintro e w4 ⟨rfl, b4⟩
  replace R1 := R1.on b4
  replace R2 := R2.on b4
  replace B := hide (onto B.out (Nat.le_refl _) b4)
  have x1 := R2.1
  have x2 := R2.2.1
  clear b4 l2
  go_wp2_with fail
  replace R1 := R1.setFar' L2 (cellsU U0) hne
  replace R2 := R2.set U0
  replace B := hide (below_setRow B.out h3 (cellsU U0))
  generalize w4.setRow L2 (cellsU U0) = v4 at *
  clear x1 x2
  refine (c5.out _).mono ?_
  rintro e w5 ⟨rfl, b5⟩
  have g5 := grow w5 (.cells (cellsU U0) 23)
  replace R1 := (R1.on b5).on g5
  replace B := hide (onto (onto B.out (Nat.le_refl _) b5) (Nat.le_refl _) g5)
  clear b5 R2 g5
  have l1 := R1.load
  go_wp2_with fail
  refine (c6.out _).mono ?_
  rintro e w6 ⟨rfl, b6⟩
  have g6 := grow w6 (.cells (cellsU F4) 23)
  replace R1 := (R1.on b6).on g6
  have R3 := Rat.new w6 F4 23
  replace B := hide (onto (onto B.out (Nat.le_refl _) b6) (Nat.le_refl _) g6)
  clear b6 g6
  replace l1 := R1.load
  go_wp2_with fail
  generalize w6.alloc (.cells (cellsU F4) 23) = v6 at *
  generalize w6.heap.size = L3 at *
  refine (c7.out _).mono ?_
  rintro e w7 ⟨rfl, b7⟩
  have g7 := grow w7 (.cells (cellsU U0) 23)
  replace R1 := (R1.on b7).on g7
  replace R3 := (R3.on b7).on g7
  replace B := hide (onto (onto B.out (Nat.le_refl _) b7) (Nat.le_refl _) g7)
  clear b7 l1 g7
  go_wp2_with fail
  refine (c8.out _).mono ?_
  rintro e w8 ⟨rfl, b8⟩
  have g8 := grow w8 (.cells (cellsU F5) 23)
  replace R1 := (R1.on b8).on g8
  replace R3 := (R3.on b8).on g8
  have R4 := Rat.new w8 F5 23
  replace B := hide (onto (onto B.out (Nat.le_refl _) b8) (Nat.le_refl _) g8)
  clear b8 g8
  go_wp2_with fail
  generalize w8.alloc (.cells (cellsU F5) 23) = v8 at *
  generalize w8.heap.size = L4 at *
  refine (c9.out _).mono ?_
  rintro e w9 ⟨rfl, b9⟩
  have g9 := grow w9 (.cells (cellsU U0) 23)
  replace R1 := (R1.on b9).on g9
  replace R3 := (R3.on b9).on g9
  replace R4 := (R4.on b9).on g9
  replace B := hide (onto (onto B.out (Nat.le_refl _) b9) (Nat.le_refl _) g9)
  clear b9 g9
  have l1 := R1.load
  have l3 := R3.load
  have l4 := R4.load
  have k3 := R3.cell 1
  rw [p1, show F4.o = ⟨#[65]⟩ from rfl] at k3
  have he5 : ∀ w, (binOp .eql 23 (.agg (cellsU F5)) (.agg (cellsU ⟨⟨#[97]⟩, ⟨#[98]⟩, true⟩))).run Try.prog w = .ok (.bool true) w := fun w => eq_self F5 w
  go_wp2_with fail
  refine (c10.out _).mono ?_
  rintro e w10 ⟨rfl, b10⟩
  replace R1 := R1.on b10
  replace B := hide (onto B.out (Nat.le_refl _) b10)
  replace l1 := R1.load
  clear b10 R3 R4 l3 l4 k3
  go_wp2_with fail
  refine (c11.out _).mono ?_
  rintro e w11 ⟨rfl, b11⟩
  replace B := hide (onto B.out (Nat.le_refl _) b11)
  clear b11 R1 l1
  go_wp2
  go_ret
  exact ⟨rfl, B.out⟩

end Go.Proofs.Ytgcdohkpoaklbaa
