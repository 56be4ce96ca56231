/- Layer 18: the program's disk: a flush; a crash; what is armed; the power is there again. -/
import Derived.Test.YtgffhnggocbjhaaQDkPefg
import Derived.Shelf.SlicesE.Clone
namespace Go.Proofs.Ytgffhnggocbjhaa
open Go.RowKit
set_option linter.unusedVariables false
set_option maxRecDepth 100000
set_option linter.unusedSimpArgs false

set_option maxHeartbeats 1000000 in
theorem pflush_any {w : World} {H : Nat → Prop} {db : Nat} {sv lv gv : Value} {d : Dk} (P : PS w H db sv lv gv d) (hm : d.m < 1000000) :
    Calls Try.prog 75 #[.pointer (some ⟨db, 0, none⟩)] w fun e w' => e = .returned (.int .i64 d.errF) ∧ (∃ lv' gv', PS w' H db sv lv' gv' d.flush) ∧ Turn H w w' := by
  have b2 := P.cells.2.2.1
  cases hd : d.dead with
  | true =>
    have h1 : d.errF = 2 := by simp [Dk.errF, hd]
    have h2 : d.flush = d := by simp [Dk.flush, hd]
    rw [h1, h2]
    rw [hd] at b2
    replace P := hide P
    clear h1 h2 hd
    go_enter Try.func75, Try.ntmps75
    go_wp2
    go_ret
    exact ⟨rfl, ⟨_, _, P.out⟩, Turn.refl _ _⟩
  | false =>
    rw [hd] at b2
    have cs := pstep_any P hm
    by_cases ha : d.a = 1
    · have h1 : d.errF = 2 := by simp [Dk.errF, ha]
      have h2 : d.flush = d.stepped := by simp [Dk.flush, hd, ha]
      rw [h1, h2]
      rw [if_pos ha] at cs
      replace cs := hide cs
      clear h1 h2 hd ha P
      go_enter Try.func75, Try.ntmps75
      go_wp2_with fail
      refine cs.out.mono ?_
      rintro e w2 ⟨rfl, ⟨lv2, gv2, P2⟩, T2⟩
      replace P2 := hide P2
      replace T2 := hide T2
      clear cs
      go_wp2
      go_ret
      exact ⟨rfl, ⟨_, _, P2.out⟩, T2.out⟩
    · have h1 : d.errF = 0 := by simp [Dk.errF, hd, ha]
      have h2 : d.flush = d.stepped.flushed := by simp [Dk.flush, hd, ha]
      rw [h1, h2]
      rw [if_neg ha] at cs
      replace cs := hide cs
      clear h1 h2 hd ha P
      go_enter Try.func75, Try.ntmps75
      go_wp2_with fail
      refine cs.out.mono ?_
      rintro e w2 ⟨rfl, ⟨lv2, gv2, P2⟩, T2⟩
      have cf := psettle_any P2 IsStay.whole
      rw [settle_flush P2.g.s64 (fun p hp => (P2.g.l64 p hp).2) _ (Nat.le_refl _)] at cf
      replace cf := hide cf
      replace T2 := hide T2
      clear cs P2
      go_wp2_with fail
      refine cf.out.mono ?_
      rintro e w3 ⟨rfl, P3, T3⟩
      have P4 : Hid (PS w3 H db sv (.slice none 0 0) gv2 d.stepped.flushed) := hide P3
      have T4 := hide (T2.out.trans T3 (fun b h => .inl h))
      clear P3 T3 T2 cf
      go_wp2
      go_ret
      exact ⟨rfl, ⟨_, _, P4.out⟩, T4.out⟩

set_option maxHeartbeats 1000000 in
theorem fall_any (c : Crs) (hk : c.keep.size ≤ 281474976710656) (w : World) :
    Calls Try.prog 57 #[.agg #[.string c.keep, .int .i64 c.torn, .int .i64 c.bytes]] w fun e w' => e = .returned (.agg #[.string c.keep, .int .i64 c.torn, .int .i64 c.bytes]) ∧ Below w.heap.size w w' := by
  obtain ⟨K, T, B⟩ := c
  replace hk : K.size ≤ 281474976710656 := hk
  have cc := hide (fun y => clone_any K y hk)
  clear hk
  show Calls Try.prog 57 #[.agg #[.string K, .int .i64 T, .int .i64 B]] w fun e w' => e = .returned (.agg #[.string K, .int .i64 T, .int .i64 B]) ∧ Below w.heap.size w w'
  have g0 := grow w (.cells #[.string K, .int .i64 T, .int .i64 B] 31)
  have B0 := Box.new w #[.string K, .int .i64 T, .int .i64 B] 31
  go_enter Try.func57, Try.ntmps57
  go_wp2_with fail
  obtain ⟨w1, hww⟩ : ∃ w1, w1 = w.alloc (.cells #[.string K, .int .i64 T, .int .i64 B] 31) := ⟨_, rfl⟩
  rw [← hww] at g0 B0 ⊢
  have hw1 : w1.heap.size = w.heap.size + 1 := by rw [hww]; simp
  replace hww := hide hww
  have BF := Box.new w1 #[.string ⟨#[]⟩, .int .i64 0, .int .i64 0] 94
  rw [hw1] at BF
  have g1 := grow w1 (.cells #[.string ⟨#[]⟩, .int .i64 0, .int .i64 0] 94)
  have B1 := B0.on g1
  have g2 := onto g0 (Nat.le_refl _) g1
  generalize w1.alloc (.cells #[.string ⟨#[]⟩, .int .i64 0, .int .i64 0] 94) = w2 at *
  refine (cc.out _).mono ?_
  rintro q w3 ⟨rfl, hB⟩
  have B2 := B1.on hB
  have BF2 := BF.on hB
  have BF3 := BF2.of_heap (y := w3.setCell ⟨w.heap.size, 0, none⟩ (.string K)) (Below.heap_setCell _ _ _ _ (by show w.heap.size + 1 ≠ w.heap.size; omega))
  have e0 : (w3.setCell ⟨w.heap.size, 0, none⟩ (.string K)).cell? ⟨w.heap.size + 1, 0, none⟩ = some (.string ⟨#[]⟩) := BF3.cell 0
  have e1 : (w3.setCell ⟨w.heap.size, 0, none⟩ (.string K)).cell? ⟨w.heap.size + 1, 1, none⟩ = some (.int .i64 0) := BF3.cell 1
  have e2 : (w3.setCell ⟨w.heap.size, 0, none⟩ (.string K)).cell? ⟨w.heap.size + 1, 2, none⟩ = some (.int .i64 0) := BF3.cell 2
  have BF4 := ((BF3.set 0 (.string K)).set 1 (.int .i64 T)).set 2 (.int .i64 B)
  have q0 := hide (BF4.cell 0)
  have q1 := hide (BF4.cell 1)
  have q2 := hide (BF4.cell 2)
  have h0 := BF3.free 0
  have h1 := BF3.free 1
  have h2 := BF3.free 2
  have g3 := onto g2 (Nat.le_refl _) hB
  have c0 : w3.cell? ⟨w.heap.size, 0, none⟩ = some (.string K) := B2.cell 0
  have f0 := B2.free 0
  have B3 := B2.set 0 (.string K)
  have g4 := hide ((((g3.setCell (p := ⟨w.heap.size, 0, none⟩) (Nat.le_refl _) (.string K)).setCell (p := ⟨w.heap.size + 1, 0, none⟩) (Nat.le_succ _) (.string K)).setCell (p := ⟨w.heap.size + 1, 1, none⟩) (Nat.le_succ _) (.int .i64 T)).setCell (p := ⟨w.heap.size + 1, 2, none⟩) (Nat.le_succ _) (.int .i64 B))
  have d0 : (w3.setCell ⟨w.heap.size, 0, none⟩ (.string K)).cell? ⟨w.heap.size, 0, none⟩ = some (.string K) := B3.cell 0
  have d1 : (w3.setCell ⟨w.heap.size, 0, none⟩ (.string K)).cell? ⟨w.heap.size, 1, none⟩ = some (.int .i64 T) := B3.cell 1
  have d2 : (w3.setCell ⟨w.heap.size, 0, none⟩ (.string K)).cell? ⟨w.heap.size, 2, none⟩ = some (.int .i64 B) := B3.cell 2
  clear hB B2 g2 g3 B3 g0 B0 cc g1 B1 hw1 BF BF2 BF3 BF4
  go_wp2
  replace q0 := q0.out
  replace q1 := q1.out
  replace q2 := q2.out
  simp at q0 q1 q2
  exact bodyPost_ret (v := .agg #[.string K, .int .i64 T, .int .i64 B]) (by simp [results, Try.f57, go_sem, q0, q1, q2]) rfl ⟨rfl, g4.out⟩

theorem previve_any {w : World} {H : Nat → Prop} {db : Nat} {sv lv gv : Value} {d : Dk} (P : PS w H db sv lv gv d) :
    Calls Try.prog 18 #[.pointer (some ⟨db, 0, none⟩)] w fun e w' => e = .returned (.tuple #[]) ∧ PS w' H db sv lv .nilFunc d.revived ∧ Turn H w w' := by
  have B3 := P.box.set 2 (.bool false)
  have P3 := P.turn (d' := { d with dead := false }) (y := w.setCell ⟨db, 2, none⟩ (.bool false)) (gv' := gv) (by
    have e : (cellsP sv lv gv d).setIfInBounds 2 (.bool false) = cellsP sv lv gv { d with dead := false } := by simp [cellsP]
    rw [← e]; exact B3) rfl rfl (fun j hj _ => Below.heap_setCell _ _ _ j hj) ⟨P.g.s1, P.g.s2, P.g.s64, P.g.l64, P.g.a63⟩ P.m6 P.v
  have T3 := hide (P.goes 2 (.bool false))
  have f2 : w.frozen? ⟨db, 2, none⟩ = false := P.box.free 2
  have c2 := P.cells.2.2.1
  have cd := hide (pdisarm_any P3)
  clear P P3 B3
  go_enter Try.func18, Try.ntmps18
  go_wp2_with fail
  refine cd.out.mono ?_
  rintro e w2 ⟨rfl, P2, T2⟩
  replace P2 := hide P2
  have T4 := hide (T3.out.trans T2 (fun b h => .inl h))
  clear T2 T3 cd
  go_wp2
  go_end0
  exact ⟨rfl, P2.out, T4.out⟩

set_option maxHeartbeats 1000000 in
theorem pcrash_any {w : World} {H : Nat → Prop} {db : Nat} {sv lv gv : Value} {d : Dk} (P : PS w H db sv lv gv d) (c : Crs) (hk : c.keep.size ≤ 281474976710656) :
    Calls Try.prog 16 #[.pointer (some ⟨db, 0, none⟩), .agg #[.string c.keep, .int .i64 c.torn, .int .i64 c.bytes]] w fun e w' => e = .returned (.int .i64 d.errC) ∧ (∃ lv' gv', PS w' H db sv lv' gv' (d.crash c)) ∧ Turn H w w' := by
  have g0 := grow w (.cells #[.string c.keep, .int .i64 c.torn, .int .i64 c.bytes] 31)
  have BC := Box.new w #[.string c.keep, .int .i64 c.torn, .int .i64 c.bytes] 31
  have P1 := P.on g0
  have hdb := P.box.2.2
  have b2 := P.cells.2.2.1
  have hmf : ∀ (fn : Fn) (first cap : Array Value) (w : World), (Instr.makeFunc fn first cap).run Try.prog w = .ok (.func fn first cap) w := fun _ _ _ _ => rfl
  cases hd : d.dead with
  | true =>
    have h1 : d.errC = 2 := by simp [Dk.errC, hd]
    have h2 : d.crash c = d := by simp [Dk.crash, hd]
    rw [h1, h2]
    rw [hd] at b2
    replace P1 := hide P1
    replace g0 := hide g0
    clear h1 h2 hd hmf BC P
    go_enter Try.func16, Try.ntmps16
    go_wp2
    go_ret
    exact ⟨rfl, ⟨_, _, P1.out⟩, Turn.of g0.out⟩
  | false =>
    have h1 : d.errC = 0 := by simp [Dk.errC, hd]
    have h2 : d.crash c = d.crashed c := by simp [Dk.crash, hd]
    rw [h1, h2]
    rw [hd] at b2
    have cf := hide (fun y => fall_any c hk y)
    replace P1 := hide P1
    have T1 := hide (Turn.of (F := H) g0)
    clear h1 h2 hd hk BC P g0
    go_enter Try.func16, Try.ntmps16
    go_wp2_with fail
    refine (cf.out _).mono ?_
    rintro e w1 ⟨rfl, hB⟩
    have cx := pfail_any (P1.out.on hB) c
    unfold goesV crashV at cx
    replace cx := hide cx
    have T2 := hide (T1.out.trans (Turn.of hB) (fun b h => .inl h))
    clear hB T1 P1
    go_wp2_with fail
    refine cx.out.mono ?_
    rintro e w2 ⟨rfl, P2, T3⟩
    replace P2 := hide P2
    have T4 := hide (T2.out.trans T3 (fun b h => .inl h))
    clear T2 T3 cx
    go_wp2
    go_ret
    exact ⟨rfl, ⟨_, _, P2.out⟩, T4.out⟩

end Go.Proofs.Ytgffhnggocbjhaa

/- Layer 18: the program's disk: what is armed; a clone. -/
namespace Go.Proofs.Ytgffhnggocbjhaa
open Go.RowKit
set_option linter.unusedVariables false
set_option maxRecDepth 100000
set_option linter.unusedSimpArgs false

set_option maxHeartbeats 4000000 in
theorem parm_any {w : World} {H : Nat → Prop} {db : Nat} {sv lv gv : Value} {d : Dk} (P : PS w H db sv lv gv d) (n : Int) (hn : n ≤ 9223372036854775807) (c : Crs) (hk : c.keep.size ≤ 281474976710656) :
    Calls Try.prog 14 #[.pointer (some ⟨db, 0, none⟩), .int .i64 n, .agg #[.string c.keep, .int .i64 c.torn, .int .i64 c.bytes]] w fun e w' => e = .returned (.int .i64 (d.errA n)) ∧ (∃ gv', PS w' H db sv lv gv' (d.armed n c)) ∧ Turn H w w' := by
  have g0 := grow w (.cells #[.string c.keep, .int .i64 c.torn, .int .i64 c.bytes] 31)
  have BC := Box.new w #[.string c.keep, .int .i64 c.torn, .int .i64 c.bytes] 31
  have P1 := P.on g0
  have hdb := P.box.2.2
  have b2 := P.cells.2.2.1
  have hmf : ∀ (fn : Fn) (first cap : Array Value) (w : World), (Instr.makeFunc fn first cap).run Try.prog w = .ok (.func fn first cap) w := fun _ _ _ _ => rfl
  cases hd : d.dead with
  | true =>
    have h1 : d.errA n = 2 := by simp [Dk.errA, hd]
    have h2 : d.armed n c = d := by simp [Dk.armed, hd]
    rw [h1, h2]
    rw [hd] at b2
    replace P1 := hide P1
    replace g0 := hide g0
    clear h1 h2 hd hmf BC P
    go_enter Try.func14, Try.ntmps14
    go_wp2
    go_ret
    exact ⟨rfl, ⟨_, P1.out⟩, Turn.of g0.out⟩
  | false =>
    rw [hd] at b2
    by_cases hn0 : n < 0
    · have h1 : d.errA n = 1 := by simp [Dk.errA, hd, hn0]
      have h2 : d.armed n c = d := by simp [Dk.armed, hd, hn0]
      rw [h1, h2]
      replace P1 := hide P1
      replace g0 := hide g0
      clear h1 h2 hd hmf BC P
      go_enter Try.func14, Try.ntmps14
      go_wp2
      go_ret
      exact ⟨rfl, ⟨_, P1.out⟩, Turn.of g0.out⟩
    · have h1 : d.errA n = 0 := by simp [Dk.errA, hd, hn0]
      have h2 : d.armed n c = { d with a := n.toNat, c := c } := by simp [Dk.armed, hd, hn0]
      rw [h1, h2]
      obtain ⟨k, rfl⟩ : ∃ k : Nat, n = (k : Int) := ⟨n.toNat, by omega⟩
      rw [Int.toNat_natCast]
      have cd := hide (pdisarm_any ((P.mono (G := fun k => H k ∧ k < w.heap.size) (fun k h hl => ⟨h, hl⟩)).on g0))
      have hlt : w.heap.size < (w.alloc (.cells #[.string c.keep, .int .i64 c.torn, .int .i64 c.bytes] 31)).heap.size := by simp
      have cf := hide (fun y => fall_any c hk y)
      replace BC := hide BC
      have T1 := hide (Turn.of (F := H) g0)
      replace hlt := hide hlt
      clear h1 h2 hd hk P P1 g0
      by_cases h0 : k = 0
      · subst h0
        go_enter Try.func14, Try.ntmps14
        go_wp2_with fail
        refine cd.out.mono ?_
        rintro e w1 ⟨rfl, P2, T2⟩
        replace P2 := P2.mono (G := H) (fun k h _ => h.1)
        replace T2 := T2.mono (G := H) (fun k _ h => h.1)
        have P3 : PS w1 H db sv lv .nilFunc { d with a := 0, c := c } := ⟨P2.box, P2.s, P2.l, P2.h, ⟨P2.g.s1, P2.g.s2, P2.g.s64, P2.g.l64, P2.g.a63⟩, P2.l6, P2.m6, .inl ⟨rfl, rfl⟩⟩
        replace P3 := hide P3
        have T3 := hide (T1.out.trans T2 (fun b h => .inl h))
        clear P2 T2 T1 cd
        go_wp2
        go_ret
        exact ⟨rfl, ⟨_, P3.out⟩, T3.out⟩
      · have hkp : 0 < (k : Int) := by omega
        go_enter Try.func14, Try.ntmps14
        go_wp2_with fail
        refine cd.out.mono ?_
        rintro e w1 ⟨rfl, P2, T2⟩
        have B1 := BC.out.of_heap (T2.block _ hlt.out (fun h => by omega))
        have r0 : w1.cell? ⟨w.heap.size, 0, none⟩ = some (.string c.keep) := B1.cell 0
        have r1 : w1.cell? ⟨w.heap.size, 1, none⟩ = some (.int .i64 c.torn) := B1.cell 1
        have r2 : w1.cell? ⟨w.heap.size, 2, none⟩ = some (.int .i64 c.bytes) := B1.cell 2
        replace P2 := hide (P2.mono (G := H) (fun k h _ => h.1))
        have T3 := hide (T1.out.trans (T2.mono (G := H) (fun k _ h => h.1)) (fun b h => .inl h))
        clear cd T2 T1 B1 BC
        go_wp2_with fail
        refine (cf.out _).mono ?_
        rintro e w2 ⟨rfl, hB⟩
        have P3 := P2.out.on hB
        have T4 := T3.out.trans (Turn.of hB) (fun b h => .inl h)
        have B5 := (P3.box.set 4 (.int .i64 (k : Int))).set 5 (goesV c)
        have P6 : Hid (PS ((w2.setCell ⟨db, 4, none⟩ (.int .i64 (k : Int))).setCell ⟨db, 5, none⟩ (goesV c)) H db sv lv (goesV c) { d with a := k, c := c }) := hide (P3.turn (d' := { d with a := k, c := c }) (gv' := goesV c) (by
          have e : ((cellsP sv lv .nilFunc { d with a := 0 }).setIfInBounds 4 (.int .i64 (k : Int))).setIfInBounds 5 (goesV c) = cellsP sv lv (goesV c) { d with a := k, c := c } := by simp [cellsP]
          rw [← e]; exact B5) rfl rfl (fun j hj _ => by rw [Below.heap_setCell _ _ _ j hj, Below.heap_setCell _ _ _ j hj]) ⟨P3.g.s1, P3.g.s2, P3.g.s64, P3.g.l64, by show k < _; omega⟩ P3.m6 (.inr ⟨c, rfl, fun _ => rfl⟩))
        have T6 : Hid (Turn H w ((w2.setCell ⟨db, 4, none⟩ (.int .i64 (k : Int))).setCell ⟨db, 5, none⟩ (goesV c))) := hide (T4.trans (G := H) ⟨rfl, rfl, rfl, by simp [World.setCell], fun j hj hn => by
          have hne : j ≠ db := fun e => hn (by rw [e]; exact P3.h)
          rw [Below.heap_setCell _ _ _ j hne, Below.heap_setCell _ _ _ j hne]⟩ (fun b h => .inl h))
        have f4 : w2.frozen? ⟨db, 4, none⟩ = false := P3.box.free 4
        have f5 : w2.frozen? ⟨db, 5, none⟩ = false := P3.box.free 5
        have c4 := P3.cells.2.2.2.2.1
        have c5 := P3.cells.2.2.2.2.2
        clear P3 T4 B5 P2 T3 hB cf r0 r1 r2
        unfold goesV crashV at P6 T6
        go_wp2
        go_ret
        exact ⟨rfl, ⟨_, P6.out⟩, T6.out⟩

end Go.Proofs.Ytgffhnggocbjhaa

/- Layer 18: the program's disk: a clone. -/
namespace Go.Proofs.Ytgffhnggocbjhaa
open Go.RowKit
set_option linter.unusedVariables false
set_option maxRecDepth 100000
set_option linter.unusedSimpArgs false

def renB : Go.Shelf.Ren := ⟨fun | 41 => 67 | n => n, fun | 22 => 57 | 23 => 5 | n => n, fun n => n⟩
def renL : Go.Shelf.Ren := ⟨fun | 41 => 68 | n => n, fun | 22 => 36 | 23 => 80 | n => n, fun n => n⟩

theorem lays41B : SlLaysE0.n41 Try.prog renB :=
  { mixed := by kernel_rfl, f41 := ⟨"slices.Clone[[]byte,byte]", by decide, by kernel_rfl⟩,
    t4 := by kernel_rfl, a4 := fun _ => by kernel_rfl, z4 := fun _ => by kernel_rfl, v4 := fun _ => by kernel_rfl,
    t22 := by kernel_rfl, a22 := fun _ => by kernel_rfl, z22 := fun _ => by kernel_rfl, v22 := fun _ => by kernel_rfl }

theorem lays41L : SlLaysE0.n41 Try.prog renL :=
  { mixed := by kernel_rfl, f41 := ⟨"slices.Clone[[]zoetrope/api.Cell,zoetrope/api.Cell]", by decide, by kernel_rfl⟩,
    t4 := by kernel_rfl, a4 := fun _ => by kernel_rfl, z4 := fun _ => by kernel_rfl, v4 := fun _ => by kernel_rfl,
    t22 := by kernel_rfl, a22 := fun _ => by kernel_rfl, z22 := fun _ => by kernel_rfl, v22 := fun _ => by kernel_rfl }

theorem strCells_one (s : ByteArray) : ∀ u ∈ Go.Lib.strCells s, u.oneCell' = true := by
  intro u hu
  obtain ⟨z, -, rfl⟩ := List.mem_map.1 hu
  rfl

theorem bclone_any {w : World} {F : Nat → Prop} {v : Value} {n : Nat} {s : ByteArray} (h : Row w F 5 1 v n (Go.Lib.strCells s)) (hn : n ≤ 1000000) :
    Calls Try.prog 67 #[v] w fun e w' => ∃ v', e = .returned v' ∧ Row w' (fun k => w.heap.size ≤ k) 5 1 v' n (Go.Lib.strCells s) ∧ Below w.heap.size w w' := by
  obtain ⟨i, hi, hz, hs, hb⟩ := infoB
  rcases h.1.2 with ⟨rfl, rfl⟩ | ⟨g, cap, cur, rfl, -, hg, hc, hm, hsz, ht⟩
  · refine (AnyE.slices_Clone_nil lays41B 0 0 w).mono ?_
    rintro e w' ⟨rfl, rfl⟩
    exact ⟨_, rfl, ⟨⟨h.1.1, .inl ⟨rfl, rfl⟩⟩, fun k hk => by simp [Value.ownBlock] at hk⟩, Below.refl _ _⟩
  · refine (AnyE.slices_Clone lays41B i _ 1 1 hi hz hs hb rfl (by decide) (fun _ => by kernel_rfl) g 0 n cap (Go.Lib.strCells s) w h.1.1 (by unfold maxLen; omega) (by omega) (fun j u hj => ?_) (strCells_one s)).mono ?_
    · have := h.1.cells (g := g) rfl j u hj
      rw [Addr.add_lit] at this
      exact this
    · rintro e w' ⟨v', rfl, hown, -, hbl⟩
      exact ⟨v', rfl, Row.of_own hown, hbl⟩

theorem lclone_any {w : World} {F : Nat → Prop} {v : Value} {n : Nat} {l : List (Nat × ByteArray)} (h : Row w F 80 2 v n (looses l)) (hn : n ≤ 1000000) :
    Calls Try.prog 68 #[v] w fun e w' => ∃ v', e = .returned v' ∧ Row w' (fun k => w.heap.size ≤ k) 80 2 v' n (looses l) ∧ Below w.heap.size w w' := by
  obtain ⟨i, hi, hz, hs, hb⟩ := infoL
  rcases h.1.2 with ⟨rfl, rfl⟩ | ⟨g, cap, cur, rfl, -, hg, hc, hm, hsz, ht⟩
  · refine (AnyE.slices_Clone_nil lays41L 0 0 w).mono ?_
    rintro e w' ⟨rfl, rfl⟩
    exact ⟨_, rfl, ⟨⟨h.1.1, .inl ⟨rfl, rfl⟩⟩, fun k hk => by simp [Value.ownBlock] at hk⟩, Below.refl _ _⟩
  · refine (AnyE.slices_Clone lays41L i _ 2 24 hi hz hs hb rfl (by decide) (fun _ => by kernel_rfl) g 0 n cap (looses l) w h.1.1 (by unfold maxLen; omega) (by omega) (fun j u hj => ?_) (looses_one l)).mono ?_
    · have := h.1.cells (g := g) rfl j u hj
      rw [Addr.add_lit] at this
      exact this
    · rintro e w' ⟨v', rfl, hown, -, hbl⟩
      exact ⟨v', rfl, Row.of_own hown, hbl⟩

set_option maxHeartbeats 4000000 in
set_option maxRecDepth 100000 in
theorem pclone_any {w : World} {H : Nat → Prop} {db : Nat} {sv lv gv : Value} {d : Dk} (P : PS w H db sv lv gv d) :
    Calls Try.prog 22 #[.pointer (some ⟨db, 0, none⟩)] w fun e w' => ∃ cb sv' lv', e = .returned (.pointer (some ⟨cb, 0, none⟩)) ∧ PS w' (fun k => w.heap.size ≤ k) cb sv' lv' gv d ∧ Below w.heap.size w w' := by
  obtain ⟨b0, b1, b2, b3, b4, b5⟩ := P.cells
  have hdb := P.box.2.2
  obtain ⟨g, cap, hsv, -⟩ := P.open
  obtain ⟨a, c, hlv, -⟩ := P.l.shape
  have hcl := fun (y : World) (Py : PS y H db sv lv gv d) => bclone_any Py.s (by have := Py.g.s2; omega)
  have hcm := fun (y : World) (Py : PS y H db sv lv gv d) => lclone_any Py.l (by have := Py.l6; omega)
  have hgv := P.v
  have hpg := hide (And.intro P.g (And.intro P.l6 P.m6))
  replace P := hide P
  replace hcl := hide hcl
  replace hcm := hide hcm
  obtain ⟨M, hM⟩ : ∃ M, M = (d.m : Int) := ⟨_, rfl⟩
  obtain ⟨A, hA⟩ : ∃ A, A = (d.a : Int) := ⟨_, rfl⟩
  obtain ⟨m, hm⟩ : ∃ m, m = 64 * d.S.length := ⟨_, rfl⟩
  obtain ⟨l, hl⟩ : ∃ l, l = d.L.length := ⟨_, rfl⟩
  rw [← hM] at b3
  rw [← hA] at b4
  rw [← hm] at hsv
  rw [← hl] at hlv
  replace hM := hide hM
  replace hA := hide hA
  replace hm := hide hm
  replace hl := hide hl
  subst hsv
  subst hlv
  have hone : ∀ (y : World) (p : Addr), (store p gv).run Try.prog y = stored Try.prog y p gv .plain := fun y p => run_store Try.prog y p gv _ (by rcases hgv with ⟨rfl, -⟩ | ⟨gc, rfl, -⟩ <;> rfl)
  replace hgv := hide hgv
  go_enter Try.func22, Try.ntmps22
  go_wp2_with fail
  obtain ⟨O0, hO0⟩ : ∃ O0 : Obj, O0 = .cells #[.slice (some ⟨g, 0, none⟩) m cap, .slice a l c, .bool d.dead, .int .i64 M, .int .i64 A, gv] 92 := ⟨_, rfl⟩
  have BO : Box (w.alloc O0) w.heap.size #[.slice (some ⟨g, 0, none⟩) m cap, .slice a l c, .bool d.dead, .int .i64 M, .int .i64 A, gv] := by rw [hO0]; exact Box.new w _ _
  have A0 := grow w O0
  have hy0 : w.heap.size + 1 ≤ (w.alloc O0).heap.size := by simp
  rw [← hO0]
  have P0 := P.out.on A0
  have q0 : (w.alloc O0).cell? ⟨db, 0, none⟩ = some (.slice (some ⟨g, 0, none⟩) m cap) := P0.cells.1
  have q1 : (w.alloc O0).cell? ⟨db, 1, none⟩ = some (.slice a l c) := P0.cells.2.1
  obtain ⟨OB, hOB⟩ : ∃ OB, OB = w.heap.size := ⟨_, rfl⟩
  rw [← hOB] at BO hy0 ⊢
  obtain ⟨y0, hy⟩ : ∃ y0, y0 = w.alloc O0 := ⟨_, rfl⟩
  rw [← hy] at BO A0 P0 q0 q1 hy0 ⊢
  replace hOB := hide hOB
  clear hy hO0 b0 b1 b2 b3 b4 b5 P hone
  refine zir [13] (fun y => y.cell? ⟨db, 0, none⟩ = some (.slice (some ⟨g, 0, none⟩) m cap) ∧ y.cell? ⟨db, 1, none⟩ = some (.slice a l c)) (by kernel_rfl) ⟨q0, q1⟩ (fun hHeld => ?_)
  replace P0 := hide (P0.on (Below.refl _ y0).drew)
  replace A0 := hide (onto A0 (Nat.le_refl _) (Below.refl _ y0).drew)
  replace BO := BO.drew
  replace hy0 : OB + 1 ≤ y0.drew.heap.size := hy0
  clear q0 q1
  generalize y0.drew = y1 at *
  refine zit 0 ?_ rfl (by kernel_rfl) (fun _ _ _ h => h) (by rfl) (by assumption) ?_ ?_
  rotate_left
  · intro y hSw
    obtain ⟨e0, e1⟩ := hSw
    go_simp
    try with_reducible rfl
  try simp only [Act.put, zpa, zpb, zpc]
  refine zit 1 ?_ rfl (by kernel_rfl) (fun _ _ _ h => h) (by rfl) (by assumption) ?_ ?_
  rotate_left
  · intro y hSw
    obtain ⟨e0, e1⟩ := hSw
    go_simp
    try with_reducible rfl
  try simp only [Act.put, zpa, zpb, zpc]
  refine zit 2 ?_ rfl (by kernel_rfl) (fun _ _ _ h => h) (by rfl) (by assumption) ?_ ?_
  rotate_left
  · intro y hSw
    obtain ⟨e0, e1⟩ := hSw
    go_simp
    try with_reducible rfl
  try simp only [Act.put, zpa, zpb, zpc]
  refine zit 3 ?_ rfl (by kernel_rfl) (fun _ _ _ h => h) (by rfl) (by assumption) ?_ ?_
  rotate_left
  · intro y hSw
    obtain ⟨e0, e1⟩ := hSw
    go_simp
    try with_reducible rfl
  try simp only [Act.put, zpa, zpb, zpc]
  refine zit 5 ?_ rfl (by kernel_rfl) (fun _ _ _ h => h) (by rfl) (by assumption) ?_ ?_
  rotate_left
  · intro y hSw
    obtain ⟨e0, e1⟩ := hSw
    go_simp
    try with_reducible rfl
  try simp only [Act.put, zpa, zpb, zpc]
  refine zit 6 ?_ rfl (by kernel_rfl) (fun _ _ _ h => h) (by rfl) (by assumption) ?_ ?_
  rotate_left
  · intro y hSw
    obtain ⟨e0, e1⟩ := hSw
    go_simp
    try with_reducible rfl
  try simp only [Act.put, zpa, zpb, zpc]
  refine zit 7 ?_ rfl (by kernel_rfl) (fun _ _ _ h => h) (by rfl) (by assumption) ?_ ?_
  rotate_left
  · intro y hSw
    obtain ⟨e0, e1⟩ := hSw
    go_simp
    try with_reducible rfl
  try simp only [Act.put, zpa, zpb, zpc]
  refine zit 8 ?_ rfl (by kernel_rfl) (fun _ _ _ h => h) (by rfl) (by assumption) ?_ ?_
  rotate_left
  · intro y hSw
    obtain ⟨e0, e1⟩ := hSw
    go_simp
    try with_reducible rfl
  try simp only [Act.put, zpa, zpb, zpc]
  refine zib 4 rfl (by kernel_rfl) (fun K hK => ?_)
  go_simp
  refine (hcl.out _ P0.out).mono ?_
  rintro q y2 ⟨v2, rfl, R2, hB⟩
  have P2 := P0.out.on hB
  have A2 := hide (onto A0.out (Nat.le_refl _) hB)
  have BO2 := BO.on hB
  have hy2 : OB + 1 ≤ y2.heap.size := Nat.le_trans hy0 hB.size
  replace R2 := R2.mono (G := fun k => OB < k) (fun k h _ => by omega)
  have hS2 := hide (And.intro P2.cells.1 P2.cells.2.1)
  replace P2 := hide P2
  replace R2 := hide R2
  replace BO2 := hide BO2
  clear P0 A0 BO hB hy0 hHeld
  go_wp2_with fail
  refine hK.out _ _ (hS2.out) (fun hHeld => ?_)
  clear hK K
  try simp only [Act.put, zpa, zpb, zpc]
  refine zib 9 rfl (by kernel_rfl) (fun K hK => ?_)
  go_simp
  refine (hcm.out _ P2.out).mono ?_
  rintro q y3 ⟨v3, rfl, R3, hB⟩
  have P3 := P2.out.on hB
  have A3 := onto A2.out (Nat.le_refl _) hB
  have BO3 := BO2.out.on hB
  replace R3 := R3.mono (G := fun k => OB < k) (fun k h _ => by omega)
  have R4 := R2.out.on hB
  obtain ⟨a3, c3, rfl, -⟩ := R3.shape
  obtain ⟨a4, c4, rfl, -⟩ := R4.shape
  have hS3 := hide (And.intro P3.cells.1 P3.cells.2.1)
  replace P3 := hide P3
  replace R3 := hide R3
  replace R4 := hide R4
  replace A3 := hide A3
  replace hdb : Hid (db ≠ OB) := hide (by rw [hOB.out]; omega)
  have hy3 : OB + 1 ≤ y3.heap.size := Nat.le_trans hy2 hB.size
  clear P2 A2 BO2 R2 hB hS2 hcl hcm
  go_wp2_with fail
  refine hK.out _ _ (hS3.out) (fun hHeld => ?_)
  clear hK K
  try simp only [Act.put, zpa, zpb, zpc]
  refine zit 10 ?_ rfl (by kernel_rfl) (fun _ _ _ h => h) (by rfl) (by assumption) ?_ ?_
  rotate_left
  · intro y hSw
    skip
    go_simp
    try with_reducible rfl
  try simp only [Act.put, zpa, zpb, zpc]
  refine zib 11 rfl (by kernel_rfl) (fun K hK => ?_)
  have f0 := BO3.free 0
  have g0 : y3.cell? ⟨OB, 0, none⟩ = some (.slice (some ⟨g, 0, none⟩) m cap) := BO3.cell 0
  have BO4 := BO3.set 0 (.slice a4 (64 * d.S.length) c4)
  have hfar : ∀ j, j ≠ OB → (y3.setCell ⟨OB, 0, none⟩ (.slice a4 (64 * d.S.length) c4)).heap[j]? = y3.heap[j]? := fun j hj => Below.heap_setCell _ _ _ j hj
  have hS4 : (y3.setCell ⟨OB, 0, none⟩ (.slice a4 (64 * d.S.length) c4)).cell? ⟨db, 0, none⟩ = some (.slice (some ⟨g, 0, none⟩) m cap) ∧ (y3.setCell ⟨OB, 0, none⟩ (.slice a4 (64 * d.S.length) c4)).cell? ⟨db, 1, none⟩ = some (.slice a l c) := by
    refine ⟨?_, ?_⟩
    · rw [World.cell?_of_block (a := ⟨db, 0, none⟩) (hfar db hdb.out)]; exact hS3.out.1
    · rw [World.cell?_of_block (a := ⟨db, 1, none⟩) (hfar db hdb.out)]; exact hS3.out.2
  have R3' := hide (R3.out.keep (y := y3.setCell ⟨OB, 0, none⟩ (.slice a4 (64 * d.S.length) c4)) fun j h _ => hfar j (by omega))
  have R4' := hide (R4.out.keep (y := y3.setCell ⟨OB, 0, none⟩ (.slice a4 (64 * d.S.length) c4)) fun j h _ => hfar j (by omega))
  have A4 := hide (A3.out.setCell (p := ⟨OB, 0, none⟩) (by show w.heap.size ≤ OB; rw [hOB.out]; exact Nat.le_refl _) (.slice a4 (64 * d.S.length) c4))
  replace hfar := hide hfar
  go_simp
  refine hK.out _ _ (hS4) (fun hHeld => ?_)
  clear hK K
  try simp only [Act.put, zpa, zpb, zpc]
  clear f0 g0 R3 R4 A3 hfar hS4 hS3 P3
  generalize y3.setCell ⟨OB, 0, none⟩ (.slice a4 (64 * d.S.length) c4) = y4 at *
  refine zit 12 ?_ rfl (by kernel_rfl) (fun _ _ _ h => h) (by rfl) (by assumption) ?_ ?_
  rotate_left
  · intro y hSw
    skip
    go_simp
    try with_reducible rfl
  try simp only [Act.put, zpa, zpb, zpc]
  refine zil 13 rfl (by kernel_rfl) (by kernel_rfl) (fun K hK => ?_)
  have f1 := BO4.free 1
  have g1 : y4.cell? ⟨OB, 1, none⟩ = some (.slice a l c) := BO4.cell 1
  have BO5 := hide (BO4.set 1 (.slice a3 d.L.length c3))
  have hfar : ∀ j, j ≠ OB → (y4.setCell ⟨OB, 1, none⟩ (.slice a3 d.L.length c3)).heap[j]? = y4.heap[j]? := fun j hj => Below.heap_setCell _ _ _ j hj
  have R5 := hide (R3'.out.keep (y := y4.setCell ⟨OB, 1, none⟩ (.slice a3 d.L.length c3)) fun j h _ => hfar j (by omega))
  have R6 := hide (R4'.out.keep (y := y4.setCell ⟨OB, 1, none⟩ (.slice a3 d.L.length c3)) fun j h _ => hfar j (by omega))
  have A5 := hide (A4.out.setCell (p := ⟨OB, 1, none⟩) (by show w.heap.size ≤ OB; rw [hOB.out]; exact Nat.le_refl _) (.slice a3 d.L.length c3))
  clear R3' R4' A4 hfar BO3 BO4
  go_simp
  refine hK.out _ _ ?_
  clear hK K
  try simp only [Act.put, zpa, zpb, zpc]
  refine zid (by kernel_rfl) ?_ _
  clear f1 g1 hHeld
  go_wp2
  go_ret
  refine ⟨OB, .slice a4 (64 * d.S.length) c4, .slice a3 d.L.length c3, rfl, ⟨?_, ?_, ?_, ?_, hpg.out.1, hpg.out.2.1, hpg.out.2.2, hgv.out⟩, A5.out⟩
  · have := BO5.out
    rw [hM.out, hA.out] at this
    exact this
  · exact R6.out.mono fun k h _ => ⟨by rw [hOB.out] at h; omega, by omega⟩
  · exact R5.out.mono fun k h _ => ⟨by rw [hOB.out] at h; omega, by omega⟩
  · show w.heap.size ≤ OB
    rw [hOB.out]
    exact Nat.le_refl _

end Go.Proofs.Ytgffhnggocbjhaa
