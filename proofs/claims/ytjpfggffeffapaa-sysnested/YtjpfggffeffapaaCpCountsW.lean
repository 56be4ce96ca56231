/- So many steps count so many, and the compare rings just if it is met on the way. -/
import Derived.Test.YtjpfggffeffapaaCpRegsW
import Derived.Test.YtjpfggffeffapaaCpCountsM
namespace Go.Proofs.Ytjpfggffeffapaa
open Go.RowKit
set_option linter.unusedVariables false

theorem Rat.set {w : World} {b : Nat} {r : Regs} (h : Rat w b r) (q : Regs) : Rat (w.setRow b (cellsR q)) b q :=
  ⟨by rw [isRow_setRow]; exact h.1, rowAt_setRow w b _ h.1, by rw [setRow_size]; exact h.2.2⟩

theorem Rat.setFar {w : World} {b : Nat} {r : Regs} (h : Rat w b r) (g : Nat) (c : Array Value) (hg : b < g) : Rat (w.setRow g c) b r :=
  ⟨by rw [isRow_setRow]; exact h.1, by rw [rowAt_setRow_lt w g c b hg]; exact h.2.1, by rw [setRow_size]; exact h.2.2⟩

/-- The two registers of SysCounts. -/
def Two (w : World) (c d : Regs) (x : World) : Prop := Rat x w.heap.size c ∧ Rat x (w.heap.size + 1) d ∧ Below w.heap.size w x

theorem Two.start (w : World) (c d : Regs) (t u : TypeId) : Two w c d ((w.alloc (.cells (cellsR c) t)).alloc (.cells (cellsR d) u)) :=
  ⟨(Rat.new w c t).on (grow _ _), by have := Rat.new (w.alloc (.cells (cellsR c) t)) d u; simpa using this, (grow _ _).alloc (by simp) _⟩

theorem Two.on {w x y : World} {c d : Regs} (h : Two w c d x) (hb : Below x.heap.size x y) : Two w c d y := ⟨h.1.on hb, h.2.1.on hb, onto h.2.2 (Nat.le_refl _) hb⟩

theorem Two.set {w x : World} {c d : Regs} (h : Two w c d x) (q : Regs) : Two w c q (x.setRow (w.heap.size + 1) (cellsR q)) :=
  ⟨h.1.setFar _ _ (by omega), h.2.1.set q, below_setRow h.2.2 (by omega) _⟩

set_option maxRecDepth 100000 in
set_option maxHeartbeats 4000000 in
theorem counts_walk (w : World) (r : Regs) (hr : Wr r) (steps : Int) (wg : (Lit.int .i64 steps).wf = true) (v : Int) (wv : (Lit.int .u32 v).wf = true) :
    Calls Try.prog 7 #[.agg (cellsR r), .int .i64 steps, .int .u32 v] w fun e w' => e = .returned (.bool true) ∧ Below w.heap.size w w' := by
  obtain ⟨t1, t2, t3, t4, t5, t6, t7, t8, t9⟩ := cpRules
  obtain ⟨p0, p1, p2, p3, p4, p5, p6, p7, p8⟩ := cpParts
  obtain ⟨s0, s1, s2, s3, s4, s5, s6, s7, s8⟩ := cpSets
  have hv := wf_u32 wv
  have a1 := and255 steps
  have a2 := and511 hv
  obtain ⟨N, hN⟩ : ∃ N : Nat, steps % 256 = N := ⟨(steps % 256).toNat, by omega⟩
  have N1 : N < 256 := by omega
  rw [hN] at a1
  obtain ⟨a, ha⟩ : ∃ a, v % 512 = a := ⟨_, rfl⟩
  have b0 : 0 ≤ a := by omega
  have b1 : a < 512 := by omega
  rw [ha] at a2
  have a3 := not_of hr.c kT
  have hn0 := hr.n.1
  have hn1 := hr.n.2
  have hst := hide (Rung.start b0 r.c)
  obtain ⟨z0, hz0⟩ : ∃ z0, mixV r.c 0 32768 = z0 := ⟨_, rfl⟩
  rw [hz0] at a3 hst
  obtain ⟨P, hP⟩ : ∃ P, (r.n + a) % 4294967296 = P := ⟨_, rfl⟩
  have hw0 : wayV r a 0 z0 = { r with p := P, c := z0 } := by
    unfold wayV
    rw [hP, show (r.n + ((0 : Nat) : Int)) % 4294967296 = r.n by omega]
  have hr' := hide hr
  clear hr wg wv hv ha hN hz0
  replace hw0 := hide hw0
  go_enter Try.func7, Try.ntmps7
  go_wp2
  simp only [hP]
  clear hP
  go_loopw [9] (fun i wr => ∃ (k : Nat) (z : Int), k ≤ N ∧ i = .int .i64 k ∧ Hid (Rung a k z) ∧ Hid (Two w { r with p := P, c := z0 } (wayV r a k z) wr)) (fun i _ => N - (intOf i).toNat)
  case atStart => exact ⟨0, z0, by omega, rfl, hst, hide (by rw [hw0.out]; exact Two.start w _ _ _ _)⟩
  case round =>
    obtain ⟨k, z, hk, rfl, hz, hT⟩ := hrel
    by_cases hlt : k < N
    · have h1 : (k : Int) < (N : Int) := by omega
      obtain ⟨z', hz1, hz2⟩ := way_next hr'.out b0 b1 (k := k) (by omega) hz.out
      replace hz2 := hide hz2
      have ct := fun W => tick_any (way_w hr'.out a k hz.out.1) (l := 0) w0 W
      rw [hz1] at ct
      replace ct := hide ct
      have l1 := hT.out.2.1.load
      clear hz hz1
      go_wp2_with fail
      refine (ct.out _).mono ?_
      rintro e w1 ⟨rfl, e1⟩
      replace hT := hide (hT.out.on e1)
      have x1 := hT.out.2.1.1
      have x2 := hT.out.2.1.2.1
      replace hT := hide (hT.out.set (wayV r a (k + 1) z'))
      clear e1 l1 ct
      go_wp2
      go_roundw
      case rel => exact ⟨k + 1, z', by omega, by go_num, hz2, hT⟩
      case measure => simp [intOf]; omega
    · have hx : k = N := by omega
      subst hx
      have hr15 := ring_is hz.out.1
      rw [hz.out.2.1] at hr15
      have hl10 : 1 ≤ k → bits .and .u32 (z / 1024) 31 = 0 := fun h => lines_is hz.out.1 (hz.out.2.2 h)
      have h1 : ¬ (k : Int) < (k : Int) := by omega
      obtain ⟨z1, z2⟩ := hz.out.1
      clear hst hlt hw0 hr' hz
      have cases3 : (decide (1 ≤ a) = false ∧ bits .and .u32 (z / 32768) 1 = 0) ∨ (decide (1 ≤ a) = true ∧ decide (a ≤ (k : Int)) = true ∧ bits .and .u32 (z / 32768) 1 = 1) ∨ (decide (1 ≤ a) = true ∧ decide (a ≤ (k : Int)) = false ∧ bits .and .u32 (z / 32768) 1 = 0) := by
        rw [hr15]
        by_cases c1 : 1 ≤ a <;> by_cases c2 : a ≤ (k : Int) <;> simp [c1, c2]
      have cases2 : (k = 0) ∨ (((k : Int) == 0) = false ∧ bits .and .u32 (z / 1024) 31 = 0) := by
        by_cases c : k = 0
        · exact Or.inl c
        · exact Or.inr ⟨by simp [c], hl10 (by omega)⟩
      clear hr15 hl10
      rcases cases3 with ⟨d1, d2⟩ | ⟨d1, d2, d3⟩ | ⟨d1, d2, d3⟩
      all_goals
        replace cases2 := hide cases2
        go_wp2_with fail
        refine (fixed_any _).mono ?_
        rintro e w1 ⟨rfl, e1⟩
        replace hT := hT.out.on e1
        have y1 : w1.cell? ⟨w.heap.size + 1, 3, none⟩ = some (.int .u32 ((r.n + k) % 4294967296)) := hT.2.1.cell 3
        have y2 : w1.cell? ⟨w.heap.size, 3, none⟩ = some (.int .u32 r.n) := hT.1.cell 3
        have y3 : w1.cell? ⟨w.heap.size + 1, 7, none⟩ = some (.int .u32 z) := hT.2.1.cell 7
        have y4 := hide hT.2.2
        clear hT e1
        rcases cases2.out with hk0 | ⟨hk0, hk1⟩
        · subst hk0
          clear cases2
          go_wp2
          go_ret
          exact ⟨rfl, y4.out⟩
        · clear cases2
          go_wp2
          go_ret
          exact ⟨rfl, y4.out⟩

end Go.Proofs.Ytjpfggffeffapaa
