/- Layer 18: the program's disk: a flush; a crash; what is armed; the power is there again. -/
import Derived.Test.YtgffhnggocbjhaaDkPg
namespace Go.Proofs.Ytgffhnggocbjhaa
open Go.RowKit
set_option linter.unusedVariables false
set_option maxRecDepth 100000
set_option linter.unusedSimpArgs false

set_option maxHeartbeats 1000000 in
theorem pflush_any {w : World} {H : Nat → Prop} {db : Nat} {sv lv gv : Value} {d : Dk} (P : PS w H db sv lv gv d) (hm : d.m < 1000000) :
    Calls Try.prog 75 #[.pointer (some ⟨db, 0, none⟩)] w fun e w' => e = .returned (.int .i64 d.errF) ∧ (∃ lv' gv', PS w' H db sv lv' gv' d.flush) ∧ Turn H w w' := by
  have b2 := P.cells.2.2.1
  cases hd : d.dead with
  | true =>
    have h1 : d.errF = 2 := by simp [Dk.errF, hd]
    have h2 : d.flush = d := by simp [Dk.flush, hd]
    rw [h1, h2]
    rw [hd] at b2
    replace P := hide P
    clear h1 h2 hd
    go_enter Try.func75, Try.ntmps75
    go_wp2
    go_ret
    exact ⟨rfl, ⟨_, _, P.out⟩, Turn.refl _ _⟩
  | false =>
    rw [hd] at b2
    have cs := pstep_any P hm
    by_cases ha : d.a = 1
    · have h1 : d.errF = 2 := by simp [Dk.errF, ha]
      have h2 : d.flush = d.stepped := by simp [Dk.flush, hd, ha]
      rw [h1, h2]
      rw [if_pos ha] at cs
      replace cs := hide cs
      clear h1 h2 hd ha P
      go_enter Try.func75, Try.ntmps75
      go_wp2_with fail
      refine cs.out.mono ?_
      rintro e w2 ⟨rfl, ⟨lv2, gv2, P2⟩, T2⟩
      replace P2 := hide P2
      replace T2 := hide T2
      clear cs
      go_wp2
      go_ret
      exact ⟨rfl, ⟨_, _, P2.out⟩, T2.out⟩
    · have h1 : d.errF = 0 := by simp [Dk.errF, hd, ha]
      have h2 : d.flush = d.stepped.flushed := by simp [Dk.flush, hd, ha]
      rw [h1, h2]
      rw [if_neg ha] at cs
      replace cs := hide cs
      clear h1 h2 hd ha P
      go_enter Try.func75, Try.ntmps75
      go_wp2_with fail
      refine cs.out.mono ?_
      rintro e w2 ⟨rfl, ⟨lv2, gv2, P2⟩, T2⟩
      have cf := psettle_any P2 IsStay.whole
      rw [settle_flush P2.g.s64 (fun p hp => (P2.g.l64 p hp).2) _ (Nat.le_refl _)] at cf
      replace cf := hide cf
      replace T2 := hide T2
      clear cs P2
      go_wp2_with fail
      refine cf.out.mono ?_
      rintro e w3 ⟨rfl, P3, T3⟩
      have P4 : Hid (PS w3 H db sv (.slice none 0 0) gv2 d.stepped.flushed) := hide P3
      have T4 := hide (T2.out.trans T3 (fun b h => .inl h))
      clear P3 T3 T2 cf
      go_wp2
      go_ret
      exact ⟨rfl, ⟨_, _, P4.out⟩, T4.out⟩

set_option maxHeartbeats 1000000 in
theorem fall_any (c : Crs) (hk : c.keep.size ≤ 281474976710656) (w : World) :
    Calls Try.prog 57 #[.agg #[.string c.keep, .int .i64 c.torn, .int .i64 c.bytes]] w fun e w' => e = .returned (.agg #[.string c.keep, .int .i64 c.torn, .int .i64 c.bytes]) ∧ Below w.heap.size w w' := by
  obtain ⟨K, T, B⟩ := c
  replace hk : K.size ≤ 281474976710656 := hk
  have cc := hide (fun y => clone_any K y hk)
  clear hk
  show Calls Try.prog 57 #[.agg #[.string K, .int .i64 T, .int .i64 B]] w fun e w' => e = .returned (.agg #[.string K, .int .i64 T, .int .i64 B]) ∧ Below w.heap.size w w'
  have g0 := grow w (.cells #[.string K, .int .i64 T, .int .i64 B] 31)
  have B0 := Box.new w #[.string K, .int .i64 T, .int .i64 B] 31
  go_enter Try.func57, Try.ntmps57
  go_wp2_with fail
  obtain ⟨w1, hww⟩ : ∃ w1, w1 = w.alloc (.cells #[.string K, .int .i64 T, .int .i64 B] 31) := ⟨_, rfl⟩
  rw [← hww] at g0 B0 ⊢
  have hw1 : w1.heap.size = w.heap.size + 1 := by rw [hww]; simp
  replace hww := hide hww
  have BF := Box.new w1 #[.string ⟨#[]⟩, .int .i64 0, .int .i64 0] 94
  rw [hw1] at BF
  have g1 := grow w1 (.cells #[.string ⟨#[]⟩, .int .i64 0, .int .i64 0] 94)
  have B1 := B0.on g1
  have g2 := onto g0 (Nat.le_refl _) g1
  generalize w1.alloc (.cells #[.string ⟨#[]⟩, .int .i64 0, .int .i64 0] 94) = w2 at *
  refine (cc.out _).mono ?_
  rintro q w3 ⟨rfl, hB⟩
  have B2 := B1.on hB
  have BF2 := BF.on hB
  have BF3 := BF2.of_heap (y := w3.setCell ⟨w.heap.size, 0, none⟩ (.string K)) (Below.heap_setCell _ _ _ _ (by show w.heap.size + 1 ≠ w.heap.size; omega))
  have e0 : (w3.setCell ⟨w.heap.size, 0, none⟩ (.string K)).cell? ⟨w.heap.size + 1, 0, none⟩ = some (.string ⟨#[]⟩) := BF3.cell 0
  have e1 : (w3.setCell ⟨w.heap.size, 0, none⟩ (.string K)).cell? ⟨w.heap.size + 1, 1, none⟩ = some (.int .i64 0) := BF3.cell 1
  have e2 : (w3.setCell ⟨w.heap.size, 0, none⟩ (.string K)).cell? ⟨w.heap.size + 1, 2, none⟩ = some (.int .i64 0) := BF3.cell 2
  have BF4 := ((BF3.set 0 (.string K)).set 1 (.int .i64 T)).set 2 (.int .i64 B)
  have q0 := hide (BF4.cell 0)
  have q1 := hide (BF4.cell 1)
  have q2 := hide (BF4.cell 2)
  have h0 := BF3.free 0
  have h1 := BF3.free 1
  have h2 := BF3.free 2
  have g3 := onto g2 (Nat.le_refl _) hB
  have c0 : w3.cell? ⟨w.heap.size, 0, none⟩ = some (.string K) := B2.cell 0
  have f0 := B2.free 0
  have B3 := B2.set 0 (.string K)
  have g4 := hide ((((g3.setCell (p := ⟨w.heap.size, 0, none⟩) (Nat.le_refl _) (.string K)).setCell (p := ⟨w.heap.size + 1, 0, none⟩) (Nat.le_succ _) (.string K)).setCell (p := ⟨w.heap.size + 1, 1, none⟩) (Nat.le_succ _) (.int .i64 T)).setCell (p := ⟨w.heap.size + 1, 2, none⟩) (Nat.le_succ _) (.int .i64 B))
  have d0 : (w3.setCell ⟨w.heap.size, 0, none⟩ (.string K)).cell? ⟨w.heap.size, 0, none⟩ = some (.string K) := B3.cell 0
  have d1 : (w3.setCell ⟨w.heap.size, 0, none⟩ (.string K)).cell? ⟨w.heap.size, 1, none⟩ = some (.int .i64 T) := B3.cell 1
  have d2 : (w3.setCell ⟨w.heap.size, 0, none⟩ (.string K)).cell? ⟨w.heap.size, 2, none⟩ = some (.int .i64 B) := B3.cell 2
  clear hB B2 g2 g3 B3 g0 B0 cc g1 B1 hw1 BF BF2 BF3 BF4
  go_wp2
  replace q0 := q0.out
  replace q1 := q1.out
  replace q2 := q2.out
  simp at q0 q1 q2
  exact bodyPost_ret (v := .agg #[.string K, .int .i64 T, .int .i64 B]) (by simp [results, Try.f57, go_sem, q0, q1, q2]) rfl ⟨rfl, g4.out⟩

theorem previve_any {w : World} {H : Nat → Prop} {db : Nat} {sv lv gv : Value} {d : Dk} (P : PS w H db sv lv gv d) :
    Calls Try.prog 18 #[.pointer (some ⟨db, 0, none⟩)] w fun e w' => e = .returned (.tuple #[]) ∧ PS w' H db sv lv .nilFunc d.revived ∧ Turn H w w' := by
  have B3 := P.box.set 2 (.bool false)
  have P3 := P.turn (d' := { d with dead := false }) (y := w.setCell ⟨db, 2, none⟩ (.bool false)) (gv' := gv) (by
    have e : (cellsP sv lv gv d).setIfInBounds 2 (.bool false) = cellsP sv lv gv { d with dead := false } := by simp [cellsP]
    rw [← e]; exact B3) rfl rfl (fun j hj _ => Below.heap_setCell _ _ _ j hj) ⟨P.g.s1, P.g.s2, P.g.s64, P.g.l64, P.g.a63⟩ P.m6 P.v
  have T3 := hide (P.goes 2 (.bool false))
  have f2 : w.frozen? ⟨db, 2, none⟩ = false := P.box.free 2
  have c2 := P.cells.2.2.1
  have cd := hide (pdisarm_any P3)
  clear P P3 B3
  go_enter Try.func18, Try.ntmps18
  go_wp2_with fail
  refine cd.out.mono ?_
  rintro e w2 ⟨rfl, P2, T2⟩
  replace P2 := hide P2
  have T4 := hide (T3.out.trans T2 (fun b h => .inl h))
  clear T2 T3 cd
  go_wp2
  go_end0
  exact ⟨rfl, P2.out, T4.out⟩

set_option maxHeartbeats 1000000 in
theorem pcrash_any {w : World} {H : Nat → Prop} {db : Nat} {sv lv gv : Value} {d : Dk} (P : PS w H db sv lv gv d) (c : Crs) (hk : c.keep.size ≤ 281474976710656) :
    Calls Try.prog 16 #[.pointer (some ⟨db, 0, none⟩), .agg #[.string c.keep, .int .i64 c.torn, .int .i64 c.bytes]] w fun e w' => e = .returned (.int .i64 d.errC) ∧ (∃ lv' gv', PS w' H db sv lv' gv' (d.crash c)) ∧ Turn H w w' := by
  have g0 := grow w (.cells #[.string c.keep, .int .i64 c.torn, .int .i64 c.bytes] 31)
  have BC := Box.new w #[.string c.keep, .int .i64 c.torn, .int .i64 c.bytes] 31
  have P1 := P.on g0
  have hdb := P.box.2.2
  have b2 := P.cells.2.2.1
  have hmf : ∀ (fn : Fn) (first cap : Array Value) (w : World), (Instr.makeFunc fn first cap).run Try.prog w = .ok (.func fn first cap) w := fun _ _ _ _ => rfl
  cases hd : d.dead with
  | true =>
    have h1 : d.errC = 2 := by simp [Dk.errC, hd]
    have h2 : d.crash c = d := by simp [Dk.crash, hd]
    rw [h1, h2]
    rw [hd] at b2
    replace P1 := hide P1
    replace g0 := hide g0
    clear h1 h2 hd hmf BC P
    go_enter Try.func16, Try.ntmps16
    go_wp2
    go_ret
    exact ⟨rfl, ⟨_, _, P1.out⟩, Turn.of g0.out⟩
  | false =>
    have h1 : d.errC = 0 := by simp [Dk.errC, hd]
    have h2 : d.crash c = d.crashed c := by simp [Dk.crash, hd]
    rw [h1, h2]
    rw [hd] at b2
    have cf := hide (fun y => fall_any c hk y)
    replace P1 := hide P1
    have T1 := hide (Turn.of (F := H) g0)
    clear h1 h2 hd hk BC P g0
    go_enter Try.func16, Try.ntmps16
    go_wp2_with fail
    refine (cf.out _).mono ?_
    rintro e w1 ⟨rfl, hB⟩
    have cx := pfail_any (P1.out.on hB) c
    unfold goesV crashV at cx
    replace cx := hide cx
    have T2 := hide (T1.out.trans (Turn.of hB) (fun b h => .inl h))
    clear hB T1 P1
    go_wp2_with fail
    refine cx.out.mono ?_
    rintro e w2 ⟨rfl, P2, T3⟩
    replace P2 := hide P2
    have T4 := hide (T2.out.trans T3 (fun b h => .inl h))
    clear T2 T3 cx
    go_wp2
    go_ret
    exact ⟨rfl, ⟨_, _, P2.out⟩, T4.out⟩

end Go.Proofs.Ytgffhnggocbjhaa
