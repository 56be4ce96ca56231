/- Layer 14: a slice of operations; contracts of May, Until, Run. -/
import Derived.Test.YtmegghgjllbamaaGreatDoorQIrWalks2
import Derived.Test.YtmegghgjllbamaaGreatDoorQIrSound
import Derived.ChangeOld
namespace Go.Proofs.YtmegghgjllbamaaGreatDoor.Ir
open Go.RowKit
set_option linter.unusedVariables false
set_option maxRecDepth 100000
set_option linter.unusedSimpArgs false

/-- The operation m lies at offset o of block g. -/
def Mat (w : World) (g o : Nat) (m : Mi) : Prop := ∀ j, j < 6 → w.cell? ⟨g, o + j, none⟩ = (cellsM m)[j]?

/-- v is the slice of the operations l. -/
def IsOps (w : World) (v : Value) (l : List Mi) : Prop :=
  (∃ a c, l = [] ∧ v = .slice a 0 c) ∨ ∃ g o c, v = .slice (some ⟨g, o, none⟩) l.length c ∧ l.length ≤ maxLen ∧ g < w.heap.size ∧ ∀ (i : Nat) (m : Mi), l[i]? = some m → Mat w g (o + i * 6) m

theorem Mat.on {w y : World} {g o : Nat} {m : Mi} (h : Mat w g o m) (hg : g < w.heap.size) (b : Below w.heap.size w y) : Mat y g o m := fun j hj => by
  rw [← h j hj]
  exact b.cell (p := ⟨g, o + j, none⟩) hg

theorem IsOps.on {w y : World} {v : Value} {l : List Mi} (h : IsOps w v l) (b : Below w.heap.size w y) : IsOps y v l := by
  rcases h with h | ⟨g, o, c, rfl, hl, hg, hm⟩
  · exact Or.inl h
  · exact Or.inr ⟨g, o, c, rfl, hl, Nat.lt_of_lt_of_le hg b.size, fun i m hi => (hm i m hi).on hg b⟩

theorem Mat.load {w : World} {g o : Nat} {m : Mi} (h : Mat w g o m) : (loadCellsFrom ⟨g, o, none⟩ 0 N6 #[]).run Tryz.prog w = .ok (cellsM m) w := by
  have := run_loadCells_list (P := Tryz.prog) w ⟨g, o, none⟩ (cellsM m).toList (fun j v hv => by
    rw [Addr.add_lit]
    have hj : j < 6 := by have := (List.getElem?_eq_some_iff.1 hv).1; simpa [cellsM] using this
    rw [h j hj]
    simpa using hv)
  exact this

theorem IsOps.open' {w : World} {v : Value} {l : List Mi} (h : IsOps w v l) :
    ∃ ad n c, v = .slice ad n c ∧ n = l.length ∧ n ≤ maxLen ∧ ∀ (i : Nat) m, l[i]? = some m → ∃ g o, ad = some ⟨g, o, none⟩ ∧ g < w.heap.size ∧ Mat w g (o + i * 6) m := by
  rcases h with ⟨a, c, rfl, rfl⟩ | ⟨g, o, c, rfl, hl, hb, hx⟩
  · exact ⟨a, 0, c, rfl, rfl, Nat.zero_le _, fun i z h => by simp at h⟩
  · exact ⟨_, _, c, rfl, rfl, hl, fun i z h => ⟨g, o, rfl, hb, hx i z h⟩⟩

/-- May they be, behind a Count? -/
def mayFrom : Int → List Mi → Bool
  | _, [] => true
  | p, m :: l => (decide (p ≤ m.c) && (decide (m.c ≤ 16) && soundB m)) && mayFrom m.c l

def mayB (l : List Mi) : Bool := decide (l.length ≤ 16) && mayFrom 0 l

theorem drop_at {α : Type} {l : List α} {i : Nat} {x : α} (h : l[i]? = some x) : l.drop i = x :: l.drop (i + 1) := by
  obtain ⟨hi, e⟩ := List.getElem?_eq_some_iff.1 h
  rw [List.drop_eq_getElem_cons hi, e]

set_option maxHeartbeats 4000000 in
theorem may_any {w : World} {v : Value} {l : List Mi} (h : IsOps w v l) : Calls Tryz.prog 7 #[v] w fun e w' => e = .returned (.bool (mayB l)) ∧ Below w.heap.size w w' := by
  obtain ⟨r1, r2, r3, r4, r5, r6, r7, r8, r9⟩ := rowRules
  obtain ⟨s1, s2, s3, s4, s5, s6, s7, s8, s9, s10⟩ := irSizes
  obtain ⟨q1, q2, q3, q4, q5, q6⟩ := irWhole
  obtain ⟨p1, p2, p3, p4, p5, p6, p7⟩ := irParts
  obtain ⟨ad, n, c, rfl, hn, hmx, hm⟩ := h.open'
  replace hm := hide hm
  unfold mayB
  by_cases h16 : l.length ≤ 16
  · have d16 : decide ((16 : Int) < (n : Int)) = false := by simp; omega
    have n16 : n ≤ 16 := by omega
    rw [show decide (l.length ≤ 16) = true by simpa using h16, Bool.true_and]
    obtain ⟨A, hA⟩ : ∃ A, mayFrom 0 l = A := ⟨_, rfl⟩
    rw [hA]
    replace hA := hide hA
    replace hn := hide hn
    clear h h16
    go_enter Tryz.func7, Tryz.ntmps7
    go_wp2_with fail
    go_loopw [3, 11] (fun p i wr => ∃ (k : Nat) (q : Int), k ≤ n ∧ p = .int .i64 q ∧ i = .int .i64 (k : Int) ∧ Hid (mayFrom q (l.drop k) = A) ∧ Hid (Below w.heap.size w wr)) (fun _ i _ => n - (intOf i).toNat)
    case atStart => exact ⟨0, 0, Nat.zero_le _, rfl, rfl, hide hA.out, hide (Below.refl _ _)⟩
    case round =>
      obtain ⟨k, q, hk, rfl, rfl, hM, hb⟩ := hrel
      by_cases hlt : k < n
      · have dk : decide ((k : Int) < (n : Int)) = true := by simp; omega
        obtain ⟨m, hm0⟩ : ∃ m, l[k]? = some m := ⟨l[k]'(by have := hn.out; omega), List.getElem?_eq_getElem _⟩
        obtain ⟨g, o, rfl, hg, hM0⟩ := hm.out k m hm0
        have hld : (loadCellsFrom ⟨g, o + k * N6, none⟩ 0 N6 #[]).run Tryz.prog wr = .ok (cellsM m) wr := (hM0.on hg hb.out).load
        have hb2 := hide (onto hb.out (Nat.le_refl _) (grow wr (.cells (cellsM m) 66)))
        have cs := hide (isSound_any m)
        have hM2 := hM.out
        rw [drop_at hm0] at hM2
        unfold mayFrom at hM2
        replace hM2 := hide hM2
        clear hM hm0 hM0
        by_cases e1 : m.c < q
        · have d1 : decide (m.c < q) = true := by simpa using e1
          have hF : A = false := by rw [← hM2.out]; simp; intro h; omega
          subst hF
          clear e1
          go_wp2
          go_ret
          exact ⟨rfl, hb2.out⟩
        · have d1 : decide (m.c < q) = false := by simpa using e1
          by_cases e2 : 16 < m.c
          · have d2 : decide (16 < m.c) = true := by simpa using e2
            have hF : A = false := by rw [← hM2.out]; simp; intro h h'; omega
            subst hF
            clear e1 e2
            go_wp2
            go_ret
            exact ⟨rfl, hb2.out⟩
          · have d2 : decide (16 < m.c) = false := by simpa using e2
            have hM3 : Hid ((soundB m && mayFrom m.c (l.drop (k + 1))) = A) := hide (by
              rw [← hM2.out, show decide (q ≤ m.c) = true by simp; omega, show decide (m.c ≤ 16) = true by simp; omega]
              simp)
            clear e1 e2 hM2
            go_wp2_with fail
            refine (cs.out _).mono ?_
            rintro e w2 ⟨rfl, h2⟩
            have hb3 := hide (onto hb2.out (Nat.le_refl _) h2)
            have bx := (Box.new wr (cellsM m) 66).on h2
            have x4 := bx.cell 5
            have x5 := bx.free 5
            rw [p6] at x4
            clear bx h2 cs hb2
            generalize soundB m = So at *
            cases So
            · have hF : A = false := by rw [← hM3.out]; rfl
              subst hF
              go_wp2
              go_ret
              exact ⟨rfl, hb3.out⟩
            · go_wp2
              go_roundw
              case rel => exact ⟨k + 1, m.c, by omega, rfl, by go_num, hide (by rw [← hM3.out]; rfl), hb3⟩
              case measure => simp [intOf]; omega
      · have dk : decide ((k : Int) < (n : Int)) = false := by simp; omega
        have hF : A = true := by rw [← hM.out, List.drop_eq_nil_of_le (by have := hn.out; omega)]; rfl
        subst hF
        go_wp2
        go_ret
        exact ⟨rfl, hb.out⟩
  · have d16 : decide ((16 : Int) < (n : Int)) = true := by simp; omega
    rw [show decide (l.length ≤ 16) = false by simpa using h16, Bool.false_and]
    replace hn := hide hn
    clear h h16
    go_enter Tryz.func7, Tryz.ntmps7
    go_wp2
    go_ret
    exact ⟨rfl, Below.refl _ _⟩

end Go.Proofs.YtmegghgjllbamaaGreatDoor.Ir
