/- Layer 18: the program's disk: what is armed; a clone. -/
import Derived.Test.YtgffhnggocbjhaaDkPh
namespace Go.Proofs.Ytgffhnggocbjhaa
open Go.RowKit
set_option linter.unusedVariables false
set_option maxRecDepth 100000
set_option linter.unusedSimpArgs false

set_option maxHeartbeats 4000000 in
theorem parm_any {w : World} {H : Nat → Prop} {db : Nat} {sv lv gv : Value} {d : Dk} (P : PS w H db sv lv gv d) (n : Int) (hn : n ≤ 9223372036854775807) (c : Crs) (hk : c.keep.size ≤ 281474976710656) :
    Calls Try.prog 14 #[.pointer (some ⟨db, 0, none⟩), .int .i64 n, .agg #[.string c.keep, .int .i64 c.torn, .int .i64 c.bytes]] w fun e w' => e = .returned (.int .i64 (d.errA n)) ∧ (∃ gv', PS w' H db sv lv gv' (d.armed n c)) ∧ Turn H w w' := by
  have g0 := grow w (.cells #[.string c.keep, .int .i64 c.torn, .int .i64 c.bytes] 31)
  have BC := Box.new w #[.string c.keep, .int .i64 c.torn, .int .i64 c.bytes] 31
  have P1 := P.on g0
  have hdb := P.box.2.2
  have b2 := P.cells.2.2.1
  have hmf : ∀ (fn : Fn) (first cap : Array Value) (w : World), (Instr.makeFunc fn first cap).run Try.prog w = .ok (.func fn first cap) w := fun _ _ _ _ => rfl
  cases hd : d.dead with
  | true =>
    have h1 : d.errA n = 2 := by simp [Dk.errA, hd]
    have h2 : d.armed n c = d := by simp [Dk.armed, hd]
    rw [h1, h2]
    rw [hd] at b2
    replace P1 := hide P1
    replace g0 := hide g0
    clear h1 h2 hd hmf BC P
    go_enter Try.func14, Try.ntmps14
    go_wp2
    go_ret
    exact ⟨rfl, ⟨_, P1.out⟩, Turn.of g0.out⟩
  | false =>
    rw [hd] at b2
    by_cases hn0 : n < 0
    · have h1 : d.errA n = 1 := by simp [Dk.errA, hd, hn0]
      have h2 : d.armed n c = d := by simp [Dk.armed, hd, hn0]
      rw [h1, h2]
      replace P1 := hide P1
      replace g0 := hide g0
      clear h1 h2 hd hmf BC P
      go_enter Try.func14, Try.ntmps14
      go_wp2
      go_ret
      exact ⟨rfl, ⟨_, P1.out⟩, Turn.of g0.out⟩
    · have h1 : d.errA n = 0 := by simp [Dk.errA, hd, hn0]
      have h2 : d.armed n c = { d with a := n.toNat, c := c } := by simp [Dk.armed, hd, hn0]
      rw [h1, h2]
      obtain ⟨k, rfl⟩ : ∃ k : Nat, n = (k : Int) := ⟨n.toNat, by omega⟩
      rw [Int.toNat_natCast]
      have cd := hide (pdisarm_any ((P.mono (G := fun k => H k ∧ k < w.heap.size) (fun k h hl => ⟨h, hl⟩)).on g0))
      have hlt : w.heap.size < (w.alloc (.cells #[.string c.keep, .int .i64 c.torn, .int .i64 c.bytes] 31)).heap.size := by simp
      have cf := hide (fun y => fall_any c hk y)
      replace BC := hide BC
      have T1 := hide (Turn.of (F := H) g0)
      replace hlt := hide hlt
      clear h1 h2 hd hk P P1 g0
      by_cases h0 : k = 0
      · subst h0
        go_enter Try.func14, Try.ntmps14
        go_wp2_with fail
        refine cd.out.mono ?_
        rintro e w1 ⟨rfl, P2, T2⟩
        replace P2 := P2.mono (G := H) (fun k h _ => h.1)
        replace T2 := T2.mono (G := H) (fun k _ h => h.1)
        have P3 : PS w1 H db sv lv .nilFunc { d with a := 0, c := c } := ⟨P2.box, P2.s, P2.l, P2.h, ⟨P2.g.s1, P2.g.s2, P2.g.s64, P2.g.l64, P2.g.a63⟩, P2.l6, P2.m6, .inl ⟨rfl, rfl⟩⟩
        replace P3 := hide P3
        have T3 := hide (T1.out.trans T2 (fun b h => .inl h))
        clear P2 T2 T1 cd
        go_wp2
        go_ret
        exact ⟨rfl, ⟨_, P3.out⟩, T3.out⟩
      · have hkp : 0 < (k : Int) := by omega
        go_enter Try.func14, Try.ntmps14
        go_wp2_with fail
        refine cd.out.mono ?_
        rintro e w1 ⟨rfl, P2, T2⟩
        have B1 := BC.out.of_heap (T2.block _ hlt.out (fun h => by omega))
        have r0 : w1.cell? ⟨w.heap.size, 0, none⟩ = some (.string c.keep) := B1.cell 0
        have r1 : w1.cell? ⟨w.heap.size, 1, none⟩ = some (.int .i64 c.torn) := B1.cell 1
        have r2 : w1.cell? ⟨w.heap.size, 2, none⟩ = some (.int .i64 c.bytes) := B1.cell 2
        replace P2 := hide (P2.mono (G := H) (fun k h _ => h.1))
        have T3 := hide (T1.out.trans (T2.mono (G := H) (fun k _ h => h.1)) (fun b h => .inl h))
        clear cd T2 T1 B1 BC
        go_wp2_with fail
        refine (cf.out _).mono ?_
        rintro e w2 ⟨rfl, hB⟩
        have P3 := P2.out.on hB
        have T4 := T3.out.trans (Turn.of hB) (fun b h => .inl h)
        have B5 := (P3.box.set 4 (.int .i64 (k : Int))).set 5 (goesV c)
        have P6 : Hid (PS ((w2.setCell ⟨db, 4, none⟩ (.int .i64 (k : Int))).setCell ⟨db, 5, none⟩ (goesV c)) H db sv lv (goesV c) { d with a := k, c := c }) := hide (P3.turn (d' := { d with a := k, c := c }) (gv' := goesV c) (by
          have e : ((cellsP sv lv .nilFunc { d with a := 0 }).setIfInBounds 4 (.int .i64 (k : Int))).setIfInBounds 5 (goesV c) = cellsP sv lv (goesV c) { d with a := k, c := c } := by simp [cellsP]
          rw [← e]; exact B5) rfl rfl (fun j hj _ => by rw [Below.heap_setCell _ _ _ j hj, Below.heap_setCell _ _ _ j hj]) ⟨P3.g.s1, P3.g.s2, P3.g.s64, P3.g.l64, by show k < _; omega⟩ P3.m6 (.inr ⟨c, rfl, fun _ => rfl⟩))
        have T6 : Hid (Turn H w ((w2.setCell ⟨db, 4, none⟩ (.int .i64 (k : Int))).setCell ⟨db, 5, none⟩ (goesV c))) := hide (T4.trans (G := H) ⟨rfl, rfl, rfl, by simp [World.setCell], fun j hj hn => by
          have hne : j ≠ db := fun e => hn (by rw [e]; exact P3.h)
          rw [Below.heap_setCell _ _ _ j hne, Below.heap_setCell _ _ _ j hne]⟩ (fun b h => .inl h))
        have f4 : w2.frozen? ⟨db, 4, none⟩ = false := P3.box.free 4
        have f5 : w2.frozen? ⟨db, 5, none⟩ = false := P3.box.free 5
        have c4 := P3.cells.2.2.2.2.1
        have c5 := P3.cells.2.2.2.2.2
        clear P3 T4 B5 P2 T3 hB cf r0 r1 r2
        unfold goesV crashV at P6 T6
        go_wp2
        go_ret
        exact ⟨rfl, ⟨_, P6.out⟩, T6.out⟩

end Go.Proofs.Ytgffhnggocbjhaa
