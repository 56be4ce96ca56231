/- Layer 15: contracts of slices.IndexFunc and slices.DeleteFunc for operations that are none. -/
import Derived.Test.YtnbflahggpehpabQOpEach2
import Derived.Test.YtnbflahggpehpabQOpCopy2
namespace Go.Proofs.Ytnbflahggpehpab.Ir
open Go.RowKit
set_option linter.unusedVariables false
set_option maxRecDepth 100000
set_option linter.unusedSimpArgs false

/-- Is an operation none? -/
theorem none_any (m : Mi) (w : World) : Calls Try.prog 26 #[.agg (cellsM m)] w fun e w' => e = .returned (.bool (m.k == 0)) ∧ Below w.heap.size w w' := by
  obtain ⟨r1, r2, r3, r4, r5, r6, r7, r8, r9⟩ := rowRules
  obtain ⟨s1, s2, s3, s4, s5, s6, s7, s8, s9, s10⟩ := irSizes
  obtain ⟨p1, p2, p3, p4, p5, p6, p7⟩ := irParts
  have g := hide (grow w (.cells (cellsM m) 32))
  go_enter Try.func26, Try.ntmps26
  go_wp2
  go_ret
  exact ⟨rfl, g.out⟩

/-- The first place of an operation that is none, from a place on. -/
def firstN : List Mi → Nat → Option Nat
  | [], _ => none
  | m :: l, k => if m.k = 0 then some k else firstN l (k + 1)

theorem firstN_some {l : List Mi} {k j : Nat} (h : firstN l k = some j) : k ≤ j ∧ ∃ pre m rest, l = pre ++ m :: rest ∧ pre.length + k = j ∧ m.k = 0 ∧ ∀ x ∈ pre, ¬ x.k = 0 := by
  induction l generalizing k with
  | nil => cases h
  | cons m l ih =>
    unfold firstN at h
    by_cases hm : m.k = 0
    · rw [if_pos hm] at h
      obtain rfl : k = j := by simpa using h
      exact ⟨Nat.le_refl _, [], m, l, rfl, by simp, hm, fun x hx => by cases hx⟩
    · rw [if_neg hm] at h
      obtain ⟨h1, pre, q, rest, rfl, h2, h3, h4⟩ := ih h
      refine ⟨by omega, m :: pre, q, rest, rfl, by simp; omega, h3, fun x hx => ?_⟩
      rcases List.mem_cons.1 hx with rfl | hx
      · exact hm
      · exact h4 x hx

theorem firstN_none {l : List Mi} {k : Nat} (h : firstN l k = none) : ∀ x ∈ l, ¬ x.k = 0 := by
  induction l generalizing k with
  | nil => intro x hx; cases hx
  | cons m l ih =>
    unfold firstN at h
    by_cases hm : m.k = 0
    · rw [if_pos hm] at h; cases h
    · rw [if_neg hm] at h
      intro x hx
      rcases List.mem_cons.1 hx with rfl | hx
      · exact hm
      · exact ih h x hx

/-- A place as a number: -1, if there is none. -/
def placeI : Option Nat → Int
  | some j => (j : Int)
  | none => -1

set_option maxHeartbeats 4000000 in
theorem indexFunc_any {w : World} {v : Value} {l : List Mi} (h : IsOps w v l) (hl : l.length ≤ 16) : Calls Try.prog 37 #[v, .func (.func 26) #[] #[]] w fun e w' =>
    e = .returned (.int .i64 (placeI (firstN l 0))) ∧ Below w.heap.size w w' := by
  obtain ⟨r1, r2, r3, r4, r5, r6, r7, r8, r9⟩ := rowRules
  obtain ⟨s1, s2, s3, s4, s5, s6, s7, s8, s9, s10⟩ := irSizes
  obtain ⟨q1, q2, q3, q4, q5, q6⟩ := irWhole
  obtain ⟨ad, n, c, rfl, hn, hmx, hm⟩ := h.open'
  have hn16 : n ≤ 16 := by omega
  replace hm := hide hm
  replace hn := hide hn
  obtain ⟨F, hF⟩ : ∃ F, placeI (firstN l 0) = F := ⟨_, rfl⟩
  rw [hF]
  replace hF := hide hF
  clear h hl
  go_enter Try.func37, Try.ntmps37
  go_wp2_with fail
  go_loopw [8] (fun i wr => ∃ k : Nat, k ≤ n ∧ i = .int .i64 (k : Int) ∧ Hid (placeI (firstN (l.drop k) k) = F) ∧ Hid (Below w.heap.size w wr)) (fun i _ => n - (intOf i).toNat)
  case atStart => exact ⟨0, Nat.zero_le _, rfl, hF, hide (Below.refl _ _)⟩
  case round =>
    obtain ⟨k, hk, rfl, hM, hb⟩ := hrel
    clear hF
    by_cases hlt : k < n
    · have dk : decide ((k : Int) < (n : Int)) = true := by simp; omega
      obtain ⟨m, hm0⟩ : ∃ m, l[k]? = some m := ⟨l[k]'(by have := hn.out; omega), List.getElem?_eq_getElem _⟩
      obtain ⟨g, o, rfl, hg, hM0⟩ := hm.out k m hm0
      have hld : (loadCellsFrom ⟨g, o + k * N6, none⟩ 0 N6 #[]).run Try.prog wr = .ok (cellsM m) wr := (hM0.on hg hb.out).load
      have hM2 := hM.out
      rw [drop_at hm0] at hM2
      unfold firstN at hM2
      replace hM2 := hide hM2
      clear hM hm0 hM0
      go_wp2_with fail
      refine (none_any m _).mono ?_
      rintro e w2 ⟨rfl, h2⟩
      have hb2 := hide (onto hb.out (Nat.le_refl _) h2)
      clear h2
      by_cases e : m.k = 0
      · have d1 : (m.k == 0) = true := by simpa using e
        obtain rfl : F = (k : Int) := by rw [← hM2.out, if_pos e]; rfl
        rw [d1]
        clear e
        go_wp2
        go_ret
        exact ⟨rfl, hb2.out⟩
      · have d1 : (m.k == 0) = false := by simpa using e
        have hM3 : Hid (placeI (firstN (l.drop (k + 1)) (k + 1)) = F) := hide (by rw [← hM2.out, if_neg e])
        rw [d1]
        clear e hM2
        go_wp2
        go_roundw
        case rel => exact ⟨k + 1, by omega, by go_num, hM3, hb2⟩
        case measure => simp [intOf]; omega
    · have dk : decide ((k : Int) < (n : Int)) = false := by simp; omega
      obtain rfl : F = -1 := by rw [← hM.out, List.drop_eq_nil_of_le (by have := hn.out; omega)]; rfl
      go_wp2
      go_ret
      exact ⟨rfl, hb.out⟩

end Go.Proofs.Ytnbflahggpehpab.Ir
