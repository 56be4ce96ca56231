/- Layer 14: contracts of Until, Run. -/
import Derived.Test.YtmegghgjllbamaaGreatDoorQIrMay
namespace Go.Proofs.YtmegghgjllbamaaGreatDoor.Ir
open Go.RowKit
set_option linter.unusedVariables false
set_option maxRecDepth 100000
set_option linter.unusedSimpArgs false

/-- The registers behind operations of at most this Count. -/
def untilV (n : Int) : List Mi → (Nat → Int) → (Nat → Int)
  | [], R => R
  | m :: l, R => untilV n l (if m.c ≤ n then behV m R else R)

/-- All numbers are words. -/
def WordsM (l : List Mi) : Prop := ∀ (i : Nat) (m : Mi), l[i]? = some m → Cp.W32 m.m

/-- What is held in Until. -/
def HeldU (w : World) (R : Nat → Int) (y : World) : Prop :=
  Box y w.heap.size (cellsX R) ∧ Box y (w.heap.size + 1) (cellsX X0) ∧ Below w.heap.size w y

theorem HeldU.on {w : World} {R : Nat → Int} {y z : World} (h : HeldU w R y) (hb : Below y.heap.size y z) : HeldU w R z :=
  ⟨h.1.on hb, h.2.1.on hb, onto h.2.2 (Nat.le_refl _) hb⟩

theorem HeldU.new (w : World) (R : Nat → Int) : HeldU w R ((w.alloc (.cells (cellsX R) 24)).alloc (.cells (cellsX X0) 24)) := by
  have a := Box.new w (cellsX R) 24
  have b := Box.new (w.alloc (.cells (cellsX R) 24)) (cellsX X0) 24
  simp only [World.size_alloc] at b
  exact ⟨a.on (grow _ _), b, onto (grow _ _) (Nat.le_refl _) (grow _ _)⟩

theorem HeldU.put {w : World} {R : Nat → Int} {y : World} (h : HeldU w R y) (Q : Nat → Int) : HeldU w Q (y.setRow w.heap.size (cellsX Q)) :=
  ⟨h.1.set _, h.2.1.far _ _ (by omega), below_setRow h.2.2 (Nat.le_refl _) _⟩

set_option maxHeartbeats 4000000 in
theorem until_any {w : World} {v : Value} {l : List Mi} (h : IsOps w v l) (hw : WordsM l) (R : Nat → Int) (hR : ∀ k, Cp.W32 (R k)) (cnt : Int) :
    Calls Tryz.prog 9 #[v, .agg (cellsX R), .int .i64 cnt] w fun e w' => e = .returned (.agg (cellsX (untilV cnt l (putR R 0 0)))) ∧ Below w.heap.size w w' := by
  obtain ⟨r1, r2, r3, r4, r5, r6, r7, r8, r9⟩ := rowRules
  obtain ⟨s1, s2, s3, s4, s5, s6, s7, s8, s9, s10⟩ := irSizes
  obtain ⟨q1, q2, q3, q4, q5, q6⟩ := irWhole
  obtain ⟨p1, p2, p3, p4, p5, p6, p7⟩ := irParts
  obtain ⟨k1, k2⟩ := rowSets
  obtain ⟨ad, n, c, rfl, hn, hmx, hm⟩ := h.open'
  unfold maxLen at hmx
  have hz := set_X R 0 (by omega) 0
  have gz := p7 R 0 (by omega)
  have h0 := HeldU.new w (putR R 0 0)
  have hR0 : Hid (∀ k, Cp.W32 (putR R 0 0 k)) := hide (putR_w hR Cp.w0 0)
  replace hm := hide hm
  replace hn := hide hn
  replace hw := hide hw
  clear h hR
  obtain ⟨F, hF⟩ : ∃ F, untilV cnt l (putR R 0 0) = F := ⟨_, rfl⟩
  rw [hF]
  replace hF := hide hF
  go_enter Tryz.func9, Tryz.ntmps9
  go_wp2_with fail
  go_loopw [12] (fun i wr => ∃ (k : Nat) (Q : Nat → Int), k ≤ n ∧ i = .int .i64 (k : Int) ∧ Hid (untilV cnt (l.drop k) Q = F) ∧ Hid (∀ k, Cp.W32 (Q k)) ∧ Hid (HeldU w Q wr)) (fun i _ => n - (intOf i).toNat)
  case atStart => exact ⟨0, _, Nat.zero_le _, rfl, hide hF.out, hR0, hide h0⟩
  case round =>
    obtain ⟨k, Q, hk, rfl, hU, hQ, hH⟩ := hrel
    clear h0 hR0 hF hz gz
    by_cases hlt : k < n
    · have dk : decide ((k : Int) < (n : Int)) = true := by simp; omega
      obtain ⟨m, hm0⟩ : ∃ m, l[k]? = some m := ⟨l[k]'(by have := hn.out; omega), List.getElem?_eq_getElem _⟩
      obtain ⟨g, o, rfl, hg, hM0⟩ := hm.out k m hm0
      have hld : (loadCellsFrom ⟨g, o + k * N6, none⟩ 0 N6 #[]).run Tryz.prog wr = .ok (cellsM m) wr := (hM0.on hg hH.out.2.2).load
      have hmw := hide (hw.out k m hm0)
      have hU2 := hU.out
      rw [drop_at hm0] at hU2
      unfold untilV at hU2
      replace hU2 := hide hU2
      clear hU hm0 hM0
      by_cases e1 : m.c ≤ cnt
      · have d1 : decide (m.c ≤ cnt) = true := by simpa using e1
        have cb := hide (behind_any m Q hmw.out hQ.out)
        have hQ2 := hide (behV_w hmw.out hQ.out)
        have hU3 : Hid (untilV cnt (l.drop (k + 1)) (behV m Q) = F) := hide (by have := hU2.out; rwa [if_pos e1] at this)
        have hH1 := hide (hH.out.on (grow wr (.cells (cellsM m) 66)))
        obtain ⟨⟨x1, x2, x3⟩, -⟩ := hH1.out
        simp only [isRow_old _ _ _ hH.out.1.2.2, rowAt_old _ _ _ hH.out.1.2.2] at x1 x2
        have x4 : ¬ w.heap.size = wr.heap.size := by have := hH.out.1.2.2; omega
        clear e1 hU2 hH hQ
        generalize behV m Q = Q2 at *
        go_wp2_with fail
        refine (cb.out _).mono ?_
        rintro e y ⟨rfl, hy⟩
        have hH2 := hide (hH1.out.on hy)
        have hH3 := hide (hH2.out.put Q2)
        obtain ⟨⟨z1, z2, z3⟩, -⟩ := hH2.out
        clear hH1 hH2 hy cb x1 x2 x3 x4
        go_wp2
        go_roundw
        case rel => exact ⟨k + 1, Q2, by omega, by go_num, hU3, hQ2, hH3⟩
        case measure => simp [intOf]; omega
      · have d1 : decide (m.c ≤ cnt) = false := by simpa using e1
        have hU3 : Hid (untilV cnt (l.drop (k + 1)) Q = F) := hide (by have := hU2.out; rwa [if_neg e1] at this)
        have hH1 := hide (hH.out.on (grow wr (.cells (cellsM m) 66)))
        clear e1 hU2 hH
        go_wp2
        go_roundw
        case rel => exact ⟨k + 1, Q, by omega, by go_num, hU3, hQ, hH1⟩
        case measure => simp [intOf]; omega
    · have dk : decide ((k : Int) < (n : Int)) = false := by simp; omega
      have hF : Q = F := by rw [← hU.out, List.drop_eq_nil_of_le (by have := hn.out; omega)]; rfl
      subst hF
      obtain ⟨⟨x1, x2, x3⟩, ⟨y1, y2, y3⟩, b4⟩ := hH.out
      clear hU hH hm hw
      go_wp2
      refine bodyPost_ret (v := .agg (cellsX Q)) (by simp [results, Tryz.results9, go_sem, *]) rfl ⟨rfl, ?_⟩
      exact below_setRow b4 (by omega) _

theorem run_any {w : World} {v : Value} {l : List Mi} (h : IsOps w v l) (hw : WordsM l) (R : Nat → Int) (hR : ∀ k, Cp.W32 (R k)) :
    Calls Tryz.prog 30 #[v, .agg (cellsX R)] w fun e w' => e = .returned (.agg (cellsX (untilV 9223372036854775807 l (putR R 0 0)))) ∧ Below w.heap.size w w' := by
  obtain ⟨r1, r2, r3, r4, r5, r6, r7, r8, r9⟩ := rowRules
  obtain ⟨s1, s2, s3, s4, s5, s6, s7, s8, s9, s10⟩ := irSizes
  obtain ⟨q1, q2, q3, q4, q5, q6⟩ := irWhole
  obtain ⟨k1, k2⟩ := rowSets
  have h0 := HeldU.new w R
  have cu := hide (until_any (h.on h0.2.2) hw R hR 9223372036854775807)
  generalize untilV 9223372036854775807 l (putR R 0 0) = F at *
  clear h hw hR
  go_enter Tryz.func30, Tryz.ntmps30
  go_wp2_with fail
  refine cu.out.mono ?_
  rintro e y ⟨rfl, hy⟩
  obtain ⟨-, ⟨y1, y2, y3⟩, b4⟩ := h0.on hy
  clear cu h0 hy
  go_wp2
  refine bodyPost_ret (v := .agg (cellsX F)) (by simp [results, Tryz.results30, go_sem, *]) rfl ⟨rfl, ?_⟩
  exact below_setRow b4 (by omega) _

end Go.Proofs.YtmegghgjllbamaaGreatDoor.Ir
