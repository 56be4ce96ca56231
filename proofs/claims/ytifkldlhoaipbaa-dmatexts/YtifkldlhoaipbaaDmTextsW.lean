/- The bytes of any state, and the state of any bytes, is as the document says; what is laid is parsed as it was. -/
import Derived.Test.YtifkldlhoaipbaaDmOpen
import Derived.Test.YtifkldlhoaipbaaDmRef2
import Derived.Deep.RegionHeld3
namespace Go.Proofs.Ytifkldlhoaipbaa
open Go.RowKit
set_option linter.unusedVariables false

theorem bytes_ne {a b : ByteArray} (h : ¬ a = b) : (a.toList == b.toList) = false := by
  rw [ByteArray.toList_eq, ByteArray.toList_eq]
  simp only [beq_eq_false_iff_ne]
  intro c
  apply h
  apply ByteArray.ext
  exact Array.toList_inj.1 c

/-- The program and the document tell the same of any bytes. -/
theorem parse_both (s : ByteArray) (hl : s.size ≤ maxLen) : ∃ (q : Dm) (f : Int),
    (∀ W, Calls Try.prog 16 #[.string s] W fun e w' => e = .returned (.tuple #[.agg (cellsD q), .int .i64 f]) ∧ Below W.heap.size W w') ∧
    (∀ W, Calls Try.prog 17 #[.string s] W fun e w' => e = .returned (.tuple #[.agg (cellsD q), .int .i64 f]) ∧ Below W.heap.size W w') := by
  by_cases h9 : s.size = 17
  · by_cases h8 : byteAt s 16 ≤ 1
    · exact ⟨dmOf s, 0, fun W => parse_yes h9 h8 W, fun W => rparse_all h9 s (dmOf_text h9 h8) _ _ (Or.inl ⟨by simp, rfl, rfl⟩) W⟩
    · exact ⟨D0, 110, fun W => parse_no hl (fun h => h8 h.2) W, fun W => rparse_all h9 _ rfl _ _ (Or.inr ⟨bytes_ne (dmOf_none h8), rfl, rfl⟩) W⟩
  · exact ⟨D0, 110, fun W => parse_no hl (fun h => h9 h.1) W, fun W => rparse_none hl h9 W⟩

theorem parse_text {t : Dm} (ht : Wd t) (W : World) : Calls Try.prog 16 #[.string (textV t)] W fun e w' => e = .returned (.tuple #[.agg (cellsD t), .int .i64 0]) ∧ Below W.heap.size W w' := by
  have h := parse_yes (text_size t) (by rw [text_last]; split <;> decide) W
  rwa [text_back ht] at h

/-- What the last statement reads, behind a call. -/
theorem four_on {w x y : World} {A B C D : Nat} {t q : Dm} (h : Rat x A t ∧ Rat x B q ∧ Rat x C q ∧ Rat x D t ∧ Below w.heap.size w x) (hb : Below x.heap.size x y) :
    (loadCellsFrom ⟨A, 0, none⟩ 0 N5 #[]).run Try.prog y = .ok (cellsD t) y ∧ (loadCellsFrom ⟨B, 0, none⟩ 0 N5 #[]).run Try.prog y = .ok (cellsD q) y ∧ (loadCellsFrom ⟨C, 0, none⟩ 0 N5 #[]).run Try.prog y = .ok (cellsD q) y ∧
      (loadCellsFrom ⟨D, 0, none⟩ 0 N5 #[]).run Try.prog y = .ok (cellsD t) y ∧ (Rat y A t ∧ Rat y B q ∧ Rat y C q ∧ Rat y D t ∧ Below w.heap.size w y) :=
  ⟨(h.1.on hb).load, (h.2.1.on hb).load, (h.2.2.1.on hb).load, (h.2.2.2.1.on hb).load, h.1.on hb, h.2.1.on hb, h.2.2.1.on hb, h.2.2.2.1.on hb, onto h.2.2.2.2 (Nat.le_refl _) hb⟩

set_option maxRecDepth 100000 in
set_option maxHeartbeats 4000000 in
theorem texts_walk (w : World) (t : Dm) (ht : Wd t) (s : ByteArray) (hl : s.size ≤ maxLen) :
    Calls Try.prog 4 #[.agg (cellsD t), .string s] w fun e w' => e = .returned (.bool true) ∧ Below w.heap.size w w' := by
  obtain ⟨t1, t2, t3, t4, t5, t6, t7, t8, t9⟩ := dmRules
  obtain ⟨q, f, c1, c2⟩ := parse_both s hl
  have c3 := hide fun W => text_any ht W
  have c4 := hide fun W => rtext_any ht W
  have c5 := hide fun W => parse_text ht W
  replace c1 := hide c1
  replace c2 := hide c2
  generalize textV t = T at *
  have he := fun W => eq_self q W
  have he2 := fun W => eq_self t W
  clear ht hl
  go_enter Try.func4, Try.ntmps4
  go_wp2_with fail
  have R := Rat.new w t 24
  have B := grow w (.cells (cellsD t) 24)
  generalize w.alloc (.cells (cellsD t) 24) = v0 at *
  refine (c1.out _).mono ?_
  rintro e w1 ⟨rfl, b1⟩
  have g1 := grow w1 (.cells (cellsD q) 24)
  replace R := (R.on b1).on g1
  replace B := onto (onto B (Nat.le_refl _) b1) (Nat.le_refl _) g1
  have R1 := Rat.new w1 q 24
  clear b1 g1
  go_wp2_with fail
  generalize w1.alloc (.cells (cellsD q) 24) = v1 at *
  generalize w1.heap.size = L1 at *
  refine (c2.out _).mono ?_
  rintro e w2 ⟨rfl, b2⟩
  have g2 := grow w2 (.cells (cellsD q) 24)
  replace R := (R.on b2).on g2
  replace R1 := (R1.on b2).on g2
  replace B := onto (onto B (Nat.le_refl _) b2) (Nat.le_refl _) g2
  have R2 := Rat.new w2 q 24
  have l1 := R.load
  clear b2 g2
  go_wp2_with fail
  generalize w2.alloc (.cells (cellsD q) 24) = v2 at *
  generalize w2.heap.size = L2 at *
  refine (c3.out _).mono ?_
  rintro e w3 ⟨rfl, b3⟩
  replace R := R.on b3
  replace R1 := R1.on b3
  replace R2 := R2.on b3
  replace B := onto B (Nat.le_refl _) b3
  clear b3 l1
  go_wp2_with fail
  refine (c5.out _).mono ?_
  rintro e w4 ⟨rfl, b4⟩
  have g4 := grow w4 (.cells (cellsD t) 24)
  replace R := (R.on b4).on g4
  replace R1 := (R1.on b4).on g4
  replace R2 := (R2.on b4).on g4
  replace B := onto (onto B (Nat.le_refl _) b4) (Nat.le_refl _) g4
  have R3 := Rat.new w4 t 24
  clear b4 g4
  go_wp2_with fail
  generalize w4.alloc (.cells (cellsD t) 24) = v4 at *
  generalize w4.heap.size = L4 at *
  have hS := four_on ⟨R, R1, R2, R3, B⟩ (Below.refl _ v4).drew
  clear R R1 R2 R3 B
  go_region_held3 (fun x => (loadCellsFrom ⟨w.heap.size, 0, none⟩ 0 N5 #[]).run Try.prog x = .ok (cellsD t) x ∧ (loadCellsFrom ⟨L1, 0, none⟩ 0 N5 #[]).run Try.prog x = .ok (cellsD q) x ∧ (loadCellsFrom ⟨L2, 0, none⟩ 0 N5 #[]).run Try.prog x = .ok (cellsD q) x ∧
      (loadCellsFrom ⟨L4, 0, none⟩ 0 N5 #[]).run Try.prog x = .ok (cellsD t) x ∧ (Rat x w.heap.size t ∧ Rat x L1 q ∧ Rat x L2 q ∧ Rat x L4 t ∧ Below w.heap.size w x))
    (first | exact hS | assumption)
    (first
      | (go_at_call 15; refine (fixed_any _).mono ?_; rintro e w' ⟨rfl, hn⟩; have hR := four_on (And.right (And.right (And.right (And.right (by assumption))))) hn; clear hn)
      | (go_at_call 18; refine (c3.out _).mono ?_; rintro e w' ⟨rfl, hn⟩; have hR := four_on (And.right (And.right (And.right (And.right (by assumption))))) hn; clear hn)
      | (go_at_call 19; refine (c4.out _).mono ?_; rintro e w' ⟨rfl, hn⟩; have hR := four_on (And.right (And.right (And.right (And.right (by assumption))))) hn; clear hn))
  all_goals
    go_wp2
    go_ret
    exact ⟨rfl, hR.2.2.2.2.2.2.2.2⟩

end Go.Proofs.Ytifkldlhoaipbaa
