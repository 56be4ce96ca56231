/- Layer 18: the document's disk: a step, a write, a flush; what is armed; the power is there again. -/
import Derived.Test.YtgffhnggocbjhaaQDkRef4
namespace Go.Proofs.Ytgffhnggocbjhaa
open Go.RowKit
set_option linter.unusedVariables false
set_option maxRecDepth 100000
set_option linter.unusedSimpArgs false

theorem RD.turn {w y : World} {H : Nat → Prop} {rb : Nat} {lv lw : Value} {d d' : Dk} (R : RD w H rb lv lw d) (B : Box y rb (cellsR lv lw d')) (hS : d'.S = d.S) (hL : d'.L = d.L)
    (hfar : ∀ j, j ≠ rb → j < w.heap.size → y.heap[j]? = w.heap[j]?) (g : d'.Good) (hm : d'.m ≤ 1000000) : RD y H rb lv lw d' :=
  ⟨B, by rw [hS]; exact R.s.keep fun k h hl => hfar k h.2 hl, by rw [hL]; exact R.l.keep fun k h hl => hfar k h.2 hl, R.h, g, by rw [hL]; exact R.l6, hm⟩

theorem turn_set (w : World) (rb k : Nat) (v : Value) : Turn (fun j => j = rb) w (w.setCell ⟨rb, k, none⟩ v) :=
  ⟨rfl, rfl, rfl, by simp [World.setCell], fun j _ hj => Below.heap_setCell w _ _ j hj⟩

set_option maxHeartbeats 4000000 in
set_option maxRecDepth 100000 in
theorem rstep_any {w : World} {H : Nat → Prop} {rb : Nat} {lv lw : Value} {d : Dk} (R : RD w H rb lv lw d) (hd : d.dead = false) (hm : d.m < 1000000) :
    Calls Try.prog 76 #[.pointer (some ⟨rb, 0, none⟩)] w fun e w' => e = .returned (.bool (decide (d.a = 1))) ∧
      ∃ lv' lw', RD w' (fun k => H k ∨ w.heap.size ≤ k) rb lv' lw' d.stepped ∧ Turn (fun k => k = rb) w w' := by
  have b7 : w.cell? ⟨rb, 7, none⟩ = some (.int .i64 (d.m : Int)) := R.box.cell 7
  have f7 : w.frozen? ⟨rb, 7, none⟩ = false := R.box.free 7
  have B1 := R.box.set 7 (.int .i64 ((d.m : Int) + 1))
  have R1 : RD (w.setCell ⟨rb, 7, none⟩ (.int .i64 ((d.m : Int) + 1))) H rb lv lw { d with m := d.m + 1 } := R.turn (by
    have e : (cellsR lv lw d).setIfInBounds 7 (.int .i64 ((d.m : Int) + 1)) = cellsR lv lw { d with m := d.m + 1 } := by simp [cellsR]
    rw [← e]; exact B1) rfl rfl (fun j hj _ => Below.heap_setCell w _ _ j hj) ⟨R.g.s1, R.g.s2, R.g.s64, R.g.l64, R.g.a63⟩ (by show d.m + 1 ≤ _; omega)
  have T1 := turn_set w rb 7 (.int .i64 ((d.m : Int) + 1))
  have hsz : (w.setCell ⟨rb, 7, none⟩ (.int .i64 ((d.m : Int) + 1))).heap.size = w.heap.size := by simp [World.setCell]
  have a63 := R.g.a63
  have hw1 : ∀ m : Int, (m = d.m) → IntKind.i64.wrap (m + 1) = m + 1 := fun m hm' => by simp [IntKind.wrap, IntKind.bits, IntKind.signed]; omega
  have hw2 := hw1 d.m rfl
  obtain ⟨w1, hww⟩ : ∃ w1, w1 = w.setCell ⟨rb, 7, none⟩ (.int .i64 ((d.m : Int) + 1)) := ⟨_, rfl⟩
  rw [← hww] at R1 T1 hsz
  obtain ⟨A, hA⟩ : ∃ A, A = d.a := ⟨_, rfl⟩
  have q2 : w1.cell? ⟨rb, 2, none⟩ = some (.int .i64 (A : Int)) := by rw [hA]; exact R1.box.cell 2
  have q3 : w1.cell? ⟨rb, 3, none⟩ = some (.string d.c.keep) := R1.box.cell 3
  have q4 : w1.cell? ⟨rb, 4, none⟩ = some (.int .i64 d.c.torn) := R1.box.cell 4
  have q5 : w1.cell? ⟨rb, 5, none⟩ = some (.int .i64 d.c.bytes) := R1.box.cell 5
  have f2 : w1.frozen? ⟨rb, 2, none⟩ = false := R1.box.free 2
  rw [← hA] at a63 ⊢
  by_cases e : A = 1
  · have hst : Hid (d.stepped = { d with m := d.m + 1 }.crash d.c) := hide (by
      unfold Dk.stepped Dk.crash
      rw [← hA, if_pos e]
      simp [hd])
    have cc := rcrash_any R1 d.c
    subst e
    replace hA := hide hA
    replace T1 := hide T1
    replace hsz := hide hsz
    clear R B1 R1 hd hw1
    obtain ⟨K, hK⟩ : ∃ K, K = d.c.keep := ⟨_, rfl⟩
    obtain ⟨M, hM⟩ : ∃ M, M = (d.m : Int) := ⟨_, rfl⟩
    rw [← hM] at hww b7 hw2
    clear hM
    go_enter Try.func76, Try.ntmps76
    subst hww
    go_wp2_with fail
    refine cc.mono ?_
    rintro e w2 ⟨rfl, lv2, lw2, R2, T2⟩
    go_wp2
    go_ret
    refine ⟨rfl, lv2, lw2, ?_, T1.out.trans T2 (fun b h => .inl h)⟩
    rw [hst.out]
    exact R2.mono fun j h _ => by rw [hsz.out] at h; exact h
  · have hA' : ¬ d.a = 1 := by omega
    have hst : d.stepped = { d with m := d.m + 1, a := d.a - 1 } := by unfold Dk.stepped; rw [if_neg hA']
    have hda : decide (A = 1) = false := by simpa using e
    rw [hda]
    by_cases h1 : 1 < A
    · have B2 := R1.box.set 2 (.int .i64 ((A : Int) - 1))
      have T2 := hide (T1.trans (turn_set w1 rb 2 (.int .i64 ((A : Int) - 1))) (fun b h => .inl h))
      have hwa : IntKind.i64.wrap ((A : Int) - 1) = (A : Int) - 1 := by simp [IntKind.wrap, IntKind.bits, IntKind.signed]; omega
      have R2 : Hid (RD (w1.setCell ⟨rb, 2, none⟩ (.int .i64 ((A : Int) - 1))) (fun k => H k ∨ w.heap.size ≤ k) rb lv lw d.stepped) := hide (by
        rw [hst]
        refine (R1.turn (d' := { d with m := d.m + 1, a := d.a - 1 }) ?_ rfl rfl (fun j hj _ => Below.heap_setCell w1 _ _ j hj) ⟨R1.g.s1, R1.g.s2, R1.g.s64, R1.g.l64, by show d.a - 1 < _; omega⟩ R1.m6).mono (fun j h _ => .inl h)
        have e : (cellsR lv lw { d with m := d.m + 1 }).setIfInBounds 2 (.int .i64 ((A : Int) - 1)) = cellsR lv lw { d with m := d.m + 1, a := d.a - 1 } := by
          simp [cellsR]; omega
        rw [← e]; exact B2)
      obtain ⟨M, hM⟩ : ∃ M, M = (d.m : Int) := ⟨_, rfl⟩
      rw [← hM] at hww b7 hw2
      clear R B1 R1 B2 hd hw1 hst hA hA' hda hM
      go_enter Try.func76, Try.ntmps76
      subst hww
      go_wp2
      go_ret
      exact ⟨rfl, lv, lw, R2.out, T2.out⟩
    · have R2 : Hid (RD w1 (fun k => H k ∨ w.heap.size ≤ k) rb lv lw d.stepped) := hide (by
        rw [hst]
        refine (R1.turn (d' := { d with m := d.m + 1, a := d.a - 1 }) ?_ rfl rfl (fun j hj _ => rfl) ⟨R1.g.s1, R1.g.s2, R1.g.s64, R1.g.l64, by show d.a - 1 < _; omega⟩ R1.m6).mono (fun j h _ => .inl h)
        have e : cellsR lv lw { d with m := d.m + 1 } = cellsR lv lw { d with m := d.m + 1, a := d.a - 1 } := by
          have : d.a - 1 = d.a := by omega
          simp [cellsR, this]
        rw [← e]; exact R1.box)
      obtain ⟨M, hM⟩ : ∃ M, M = (d.m : Int) := ⟨_, rfl⟩
      rw [← hM] at hww b7 hw2
      replace T1 := hide T1
      clear R B1 R1 hd hw1 hst hA hA' hda hM
      go_enter Try.func76, Try.ntmps76
      subst hww
      go_wp2
      go_ret
      exact ⟨rfl, lv, lw, R2.out, T1.out⟩

set_option maxHeartbeats 4000000 in
set_option maxRecDepth 100000 in
theorem rarm_any {w : World} {H : Nat → Prop} {rb : Nat} {lv lw : Value} {d : Dk} (R : RD w H rb lv lw d) (n : Int) (hn : n ≤ 9223372036854775807) (c : Crs) :
    Calls Try.prog 15 #[.pointer (some ⟨rb, 0, none⟩), .int .i64 n, .agg #[.string c.keep, .int .i64 c.torn, .int .i64 c.bytes]] w fun e w' => e = .returned (.int .i64 (d.errA n)) ∧
      RD w' H rb lv lw (d.armed n c) ∧ Turn (fun k => k = rb) w w' := by
  have g0 := grow w (.cells #[.string c.keep, .int .i64 c.torn, .int .i64 c.bytes] 31)
  have BC := Box.new w #[.string c.keep, .int .i64 c.torn, .int .i64 c.bytes] 31
  have R1 := R.on g0
  have hrb := R.box.2.2
  have b6 : w.cell? ⟨rb, 6, none⟩ = some (.bool d.dead) := R.box.cell 6
  cases hd : d.dead with
  | true =>
    have h1 : d.errA n = 2 := by simp [Dk.errA, hd]
    have h2 : d.armed n c = d := by simp [Dk.armed, hd]
    rw [h1, h2]
    rw [hd] at b6
    replace R1 := hide R1
    replace g0 := hide g0
    clear h1 h2 hd BC R
    go_enter Try.func15, Try.ntmps15
    go_wp2
    go_ret
    exact ⟨rfl, R1.out, Turn.of g0.out⟩
  | false =>
    rw [hd] at b6
    by_cases hn0 : n < 0
    · have h1 : d.errA n = 1 := by simp [Dk.errA, hd, hn0]
      have h2 : d.armed n c = d := by simp [Dk.armed, hd, hn0]
      rw [h1, h2]
      replace R1 := hide R1
      replace g0 := hide g0
      clear h1 h2 hd BC R
      go_enter Try.func15, Try.ntmps15
      go_wp2
      go_ret
      exact ⟨rfl, R1.out, Turn.of g0.out⟩
    · have h1 : d.errA n = 0 := by simp [Dk.errA, hd, hn0]
      have h2 : d.armed n c = { d with a := n.toNat, c := c } := by simp [Dk.armed, hd, hn0]
      rw [h1, h2]
      have B2 := (((R.box.set 2 (.int .i64 n)).set 3 (.string c.keep)).set 4 (.int .i64 c.torn)).set 5 (.int .i64 c.bytes)
      obtain ⟨y, hy⟩ : ∃ y, y = (((w.setCell ⟨rb, 2, none⟩ (.int .i64 n)).setCell ⟨rb, 3, none⟩ (.string c.keep)).setCell ⟨rb, 4, none⟩ (.int .i64 c.torn)).setCell ⟨rb, 5, none⟩ (.int .i64 c.bytes) := ⟨_, rfl⟩
      rw [← hy] at B2
      have hfar : ∀ j, j ≠ rb → y.heap[j]? = w.heap[j]? := fun j hj => by rw [hy, Below.heap_setCell _ _ _ j hj, Below.heap_setCell _ _ _ j hj, Below.heap_setCell _ _ _ j hj, Below.heap_setCell _ _ _ j hj]
      have gy := grow y (.cells #[.string c.keep, .int .i64 c.torn, .int .i64 c.bytes] 31)
      have R2 := hide ((R.turn (d' := { d with a := n.toNat, c := c }) (y := y) (by
        have e : ((((cellsR lv lw d).setIfInBounds 2 (.int .i64 n)).setIfInBounds 3 (.string c.keep)).setIfInBounds 4 (.int .i64 c.torn)).setIfInBounds 5 (.int .i64 c.bytes) = cellsR lv lw { d with a := n.toNat, c := c } := by
          simp [cellsR]; omega
        rw [← e]; exact B2) rfl rfl (fun j hj _ => hfar j hj) ⟨R.g.s1, R.g.s2, R.g.s64, R.g.l64, by show n.toNat < _; omega⟩ R.m6).on gy)
      have T2 : Hid (Turn (fun k => k = rb) w (y.alloc (.cells #[.string c.keep, .int .i64 c.torn, .int .i64 c.bytes] 31))) := hide (Turn.trans (G := fun k => k = rb) (x := y) ⟨by rw [hy]; rfl, by rw [hy]; rfl, by rw [hy]; rfl, by rw [hy]; simp [World.setCell], fun j hj hn => hfar j hn⟩ (Turn.of gy) (fun b h => .inl h))
      have f2 : w.frozen? ⟨rb, 2, none⟩ = false := R.box.free 2
      have f3 : w.frozen? ⟨rb, 3, none⟩ = false := R.box.free 3
      have f4 : w.frozen? ⟨rb, 4, none⟩ = false := R.box.free 4
      have f5 : w.frozen? ⟨rb, 5, none⟩ = false := R.box.free 5
      have c2 : w.cell? ⟨rb, 2, none⟩ = some (.int .i64 (d.a : Int)) := R.box.cell 2
      have c3 : w.cell? ⟨rb, 3, none⟩ = some (.string d.c.keep) := R.box.cell 3
      have c4 : w.cell? ⟨rb, 4, none⟩ = some (.int .i64 d.c.torn) := R.box.cell 4
      have c5 : w.cell? ⟨rb, 5, none⟩ = some (.int .i64 d.c.bytes) := R.box.cell 5
      have c6 : w.cell? ⟨rb, 6, none⟩ = some (.bool false) := by rw [← hd]; exact R.box.cell 6
      clear h1 h2 hd BC R R1 g0 B2 hfar gy
      go_enter Try.func15, Try.ntmps15
      go_wp2
      go_ret
      subst hy
      exact ⟨rfl, R2.out, T2.out⟩

end Go.Proofs.Ytgffhnggocbjhaa
