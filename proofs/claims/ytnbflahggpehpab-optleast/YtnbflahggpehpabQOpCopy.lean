/- Layer 15: contracts of the program's sourceBehind and of what Copy makes of an operation. -/
import Derived.Test.YtnbflahggpehpabQOpWalks
namespace Go.Proofs.Ytnbflahggpehpab.Ir
open Go.RowKit
set_option linter.unusedVariables false
set_option maxRecDepth 100000
set_option linter.unusedSimpArgs false

theorem index_S (R : Nat → Int) (i : Nat) (hi : i < 32) (w : World) : (Instr.index 53 (.agg (cellsS R)) (.int .i64 (i : Int))).run Try.prog w = .ok (.int .i64 (R i)) w :=
  match i, hi with
  | 0, _ => by kernel_rfl
  | 1, _ => by kernel_rfl
  | 2, _ => by kernel_rfl
  | 3, _ => by kernel_rfl
  | 4, _ => by kernel_rfl
  | 5, _ => by kernel_rfl
  | 6, _ => by kernel_rfl
  | 7, _ => by kernel_rfl
  | 8, _ => by kernel_rfl
  | 9, _ => by kernel_rfl
  | 10, _ => by kernel_rfl
  | 11, _ => by kernel_rfl
  | 12, _ => by kernel_rfl
  | 13, _ => by kernel_rfl
  | 14, _ => by kernel_rfl
  | 15, _ => by kernel_rfl
  | 16, _ => by kernel_rfl
  | 17, _ => by kernel_rfl
  | 18, _ => by kernel_rfl
  | 19, _ => by kernel_rfl
  | 20, _ => by kernel_rfl
  | 21, _ => by kernel_rfl
  | 22, _ => by kernel_rfl
  | 23, _ => by kernel_rfl
  | 24, _ => by kernel_rfl
  | 25, _ => by kernel_rfl
  | 26, _ => by kernel_rfl
  | 27, _ => by kernel_rfl
  | 28, _ => by kernel_rfl
  | 29, _ => by kernel_rfl
  | 30, _ => by kernel_rfl
  | 31, _ => by kernel_rfl
  | n + 32, h => absurd h (by omega)

/-- What is held in sourceBehind. -/
def HeldS (w : World) (Q : Nat → Int) (m : Mi) (y : World) : Prop :=
  Box y w.heap.size (cellsS Q) ∧ Box y (w.heap.size + 1) (cellsM m) ∧ Box y (w.heap.size + 1 + 1) (cellsS fun _ => 0) ∧ Below w.heap.size w y

theorem HeldS.new (w : World) (S : Nat → Int) (m : Mi) : HeldS w S m (((w.alloc (.cells (cellsS S) 53)).alloc (.cells (cellsM m) 32)).alloc (.cells (cellsS fun _ => 0) 53)) := by
  have a := Box.new w (cellsS S) 53
  have b := Box.new (w.alloc (.cells (cellsS S) 53)) (cellsM m) 32
  have c := Box.new ((w.alloc (.cells (cellsS S) 53)).alloc (.cells (cellsM m) 32)) (cellsS fun _ => 0) 53
  simp only [World.size_alloc] at b c
  exact ⟨(a.on (grow _ _)).on (grow _ _), b.on (grow _ _), c, onto (onto (grow _ _) (Nat.le_refl _) (grow _ _)) (Nat.le_refl _) (grow _ _)⟩

theorem HeldS.put {w : World} {Q : Nat → Int} {m : Mi} {y : World} (h : HeldS w Q m y) (k : Nat) (hk : k < 32) (v : Int) : HeldS w (putS Q k v) m (y.setCell ⟨w.heap.size, k, none⟩ (.int .i64 v)) := by
  rw [setCell_row _ _ _ _ h.1.1, h.1.2.1, set_S Q k hk v]
  exact ⟨h.1.set _, h.2.1.far _ _ (by omega), h.2.2.1.far _ _ (by omega), below_setRow h.2.2.2 (Nat.le_refl _) _⟩

/-- Behind the loop's first k rounds. -/
def midS (S : Nat → Int) (d : Int) (k : Nat) : Nat → Int := fun j => if j < k ∧ S j = d then (j : Int) else S j

theorem midS_succ (S : Nat → Int) (d : Int) (k : Nat) (h : S k = d) : putS (midS S d k) k (k : Int) = midS S d (k + 1) := by
  funext j
  unfold putS midS
  by_cases e : j = k
  · subst e; simp [h]
  · rw [if_neg e]
    by_cases e2 : j < k
    · simp [e2, show j < k + 1 by omega]
    · simp [e2, show ¬ j < k + 1 by omega]

theorem midS_stay (S : Nat → Int) (d : Int) (k : Nat) (h : ¬ S k = d) : midS S d k = midS S d (k + 1) := by
  funext j
  unfold midS
  by_cases e : j = k
  · subst e; simp [h]
  · by_cases e2 : j < k
    · simp [e2, show j < k + 1 by omega]
    · simp [e2, show ¬ j < k + 1 by omega]

theorem midS_all (S : Nat → Int) (m : Mi) (hw : wrB m = true) (R : Nat → Int) (hR : (m.k = 2 ∧ regB m.a = true ∧ R = putS (putS (midS S m.d 32) m.d.toNat m.d) m.d.toNat m.a) ∨ (¬ (m.k = 2 ∧ regB m.a = true) ∧ R = putS (midS S m.d 32) m.d.toNat m.d)) : cellsS R = cellsS (srcB S m) := by
  apply cellsS_ext
  intro j hj
  unfold srcB
  rcases hR with ⟨h1, h2, rfl⟩ | ⟨h1, rfl⟩
  · unfold putS midS
    by_cases e : j = m.d.toNat
    · rw [if_pos e, if_pos e, if_pos ⟨h1, h2⟩]
    · rw [if_neg e, if_neg e, if_neg e]
      by_cases e2 : S j = m.d
      · rw [if_pos ⟨hj, e2⟩, if_pos e2]
      · rw [if_neg (fun h => e2 h.2), if_neg e2]
  · unfold putS midS
    by_cases e : j = m.d.toNat
    · rw [if_pos e, if_pos e, if_neg h1]
    · rw [if_neg e, if_neg e]
      by_cases e2 : S j = m.d
      · rw [if_pos ⟨hj, e2⟩, if_pos e2]
      · rw [if_neg (fun h => e2 h.2), if_neg e2]

set_option maxHeartbeats 2000000 in
theorem behS_any (S : Nat → Int) (m : Mi) (hw : wrB m = true) (w : World) : Calls Try.prog 29 #[.agg (cellsS S), .agg (cellsM m)] w fun e w' => e = .returned (.agg (cellsS (srcB S m))) ∧ Below w.heap.size w w' := by
  obtain ⟨r1, r2, r3, r4, r5, r6, r7, r8, r9⟩ := rowRules
  obtain ⟨s1, s2, s3, s4, s5, s6, s7, s8, s9, s10⟩ := irSizes
  obtain ⟨p1, p2, p3, p4, p5, p6, p7⟩ := irParts
  obtain ⟨y1, y2, y3, y4, y5, y6, y7, y8, y9⟩ := opSizes
  obtain ⟨k1, k2⟩ := rowSets
  have hF := hide (midS_all S m hw)
  have c := hide (oreg_any m.a)
  obtain ⟨D, hD, hD32⟩ : ∃ D : Nat, m.d = (D : Int) ∧ D < 32 := ⟨m.d.toNat, by simp [wrB] at hw; omega, by simp [wrB] at hw; omega⟩
  generalize srcB S m = F at *
  have h0 := HeldS.new w S m
  rw [show S = midS S m.d 0 by funext j; simp [midS]] at h0
  replace h0 := hide h0
  clear hw
  go_enter Try.func29, Try.ntmps29
  go_wp2_with fail
  go_loopw [8, 5, 6] (fun i _ _ wr => ∃ k : Nat, k ≤ 32 ∧ i = .int .i64 (k : Int) ∧ Hid (HeldS w (midS S m.d k) m wr)) (fun i _ _ _ => 32 - (intOf i).toNat)
  case atStart => exact ⟨0, Nat.zero_le _, rfl, h0⟩
  case round =>
    obtain ⟨k, hk, rfl, hH⟩ := hrel
    clear h0
    by_cases hlt : k < 32
    · have dk : decide ((k : Int) < 32) = true := by simp; omega
      have ix := index_S S k hlt
      have x1 : wr.cell? ⟨w.heap.size + 1, 1, none⟩ = some (.int .i64 m.d) := (hH.out.2.1.cell 1).trans (p2 m)
      have x2 : wr.cell? ⟨w.heap.size, k, none⟩ = some (.int .i64 (midS S m.d k k)) := (hH.out.1.cell k).trans (y9 _ k hlt)
      have x3 := hH.out.1.free k
      by_cases e : S k = m.d
      · have d1 : (S k == m.d) = true := by simpa using e
        have hH2 := hH.out.put k hlt (k : Int)
        rw [midS_succ S m.d k e] at hH2
        replace hH2 := hide hH2
        clear e hH
        go_wp2
        go_roundw
        case rel => exact ⟨k + 1, by omega, by go_num, hH2⟩
        case measure => simp [intOf]; omega
      · have d1 : (S k == m.d) = false := by simpa using e
        have hH2 := hH.out
        rw [midS_stay S m.d k e] at hH2
        replace hH2 := hide hH2
        clear e hH
        go_wp2
        go_roundw
        case rel => exact ⟨k + 1, by omega, by go_num, hH2⟩
        case measure => simp [intOf]; omega
    · have dk : decide ((k : Int) < 32) = false := by simp; omega
      obtain rfl : k = 32 := by omega
      have x1 : wr.cell? ⟨w.heap.size + 1, 1, none⟩ = some (.int .i64 m.d) := (hH.out.2.1.cell 1).trans (p2 m)
      rw [hD] at x1
      have x2 : wr.cell? ⟨w.heap.size, D, none⟩ = some (.int .i64 (midS S m.d 32 D)) := (hH.out.1.cell D).trans (y9 _ D hD32)
      have x3 := hH.out.1.free D
      have x4 : wr.cell? ⟨w.heap.size + 1, 0, none⟩ = some (.int .i64 m.k) := (hH.out.2.1.cell 0).trans (p1 m)
      have x5 : wr.cell? ⟨w.heap.size + 1, 2, none⟩ = some (.int .i64 m.a) := (hH.out.2.1.cell 2).trans (p3 m)
      have hH2 := hH.out.put D hD32 m.d
      rw [hD] at hH2
      replace hH2 := hide hH2
      replace hD := hide hD
      clear hH
      by_cases e : m.k = 2
      · have d1 : (m.k == 2) = true := by simpa using e
        go_wp2_with fail
        refine (c.out _).mono ?_
        rintro r Y ⟨rfl, rfl⟩
        generalize World.setCell wr _ _ = Y at *
        by_cases e2 : regB m.a = true
        · have hH3 := hH2.out.put D hD32 m.a
          have hG := hF.out _ (Or.inl ⟨e, e2, rfl⟩)
          rw [hD.out, Int.toNat_natCast] at hG
          rw [e2]
          have z1 : Y.cell? ⟨w.heap.size + 1, 1, none⟩ = some (.int .i64 (D : Int)) := by rw [← hD.out]; exact (hH2.out.2.1.cell 1).trans (p2 m)
          have z2 : Y.cell? ⟨w.heap.size + 1, 2, none⟩ = some (.int .i64 m.a) := (hH2.out.2.1.cell 2).trans (p3 m)
          have z3 : Y.cell? ⟨w.heap.size, D, none⟩ = _ := (hH2.out.1.cell D).trans (y9 _ D hD32)
          have z4 := hH2.out.1.free D
          obtain ⟨b1, b2, b3, b4⟩ := hH3
          replace b1 := b1.loads 0 NS (y6 _) (y7 _)
          rw [hG] at b1
          obtain ⟨c1, c2, c3⟩ := b3
          clear hF hG hH2 b2 x1 x2 x3 x4 x5
          go_wp2
          refine bodyPost_ret (v := .agg (cellsS F)) (by simp [results, Try.results29, go_sem, *]) rfl ⟨rfl, ?_⟩
          exact below_setRow b4 (by omega) _
        · have e2' : regB m.a = false := by simpa using e2
          have hG := hF.out _ (Or.inr ⟨fun h => e2 h.2, rfl⟩)
          rw [hD.out, Int.toNat_natCast] at hG
          rw [e2']
          obtain ⟨b1, b2, b3, b4⟩ := hH2.out
          replace b1 := b1.loads 0 NS (y6 _) (y7 _)
          rw [hG] at b1
          obtain ⟨c1, c2, c3⟩ := b3
          clear hF hG hH2 b2 x1 x2 x3 x4 x5
          go_wp2
          refine bodyPost_ret (v := .agg (cellsS F)) (by simp [results, Try.results29, go_sem, *]) rfl ⟨rfl, ?_⟩
          exact below_setRow b4 (by omega) _
      · have d1 : (m.k == 2) = false := by simpa using e
        have hG := hF.out _ (Or.inr ⟨fun h => e h.1, rfl⟩)
        rw [hD.out, Int.toNat_natCast] at hG
        obtain ⟨b1, b2, b3, b4⟩ := hH2.out
        replace b1 := b1.loads 0 NS (y6 _) (y7 _)
        rw [hG] at b1
        obtain ⟨c1, c2, c3⟩ := b3
        clear hF hG hH2 b2 c
        go_wp2
        refine bodyPost_ret (v := .agg (cellsS F)) (by simp [results, Try.results29, go_sem, *]) rfl ⟨rfl, ?_⟩
        exact below_setRow b4 (by omega) _

end Go.Proofs.Ytnbflahggpehpab.Ir
