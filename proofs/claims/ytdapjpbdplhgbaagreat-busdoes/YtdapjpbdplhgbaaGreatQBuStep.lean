/- Layer 12: one call of a script on both buses. -/
import Derived.Test.YtdapjpbdplhgbaaGreatQBuSetsW
import Derived.Test.YtdapjpbdplhgbaaGreatQBuRef2
import Derived.Test.YtdapjpbdplhgbaaGreatQBuRTick
import Derived.Test.YtdapjpbdplhgbaaGreatQBuRFeed
import Derived.RegionTactic
import Derived.Deep.QuietTactic
namespace Go.Proofs.YtdapjpbdplhgbaaGreat
open Go.RowKit
set_option linter.unusedVariables false
set_option maxRecDepth 100000

set_option maxHeartbeats 1000000 in
set_option maxRecDepth 100000 in
theorem step_load {w x : World} {b p g c b' p' gb gd n : Nat} {v : Dv} {B : Nat → Nat} {D : Nat → Bool} (S : Side w x b p g c b' p' gb gd n v B D) (o : Op12) (ho : o.Fits) (hk : o.k = 0) :
    Calls Tryz.prog 10 #[.pointer (some ⟨b, 0, none⟩), .pointer (some ⟨b', 0, none⟩), .agg (cellsO o)] x fun e y => e = .returned (.bool true) ∧ ∃ v' B' D', Side w y b p g c b' p' gb gd n v' B' D' := by
  obtain ⟨k, z, a, m, ea, ek, em⟩ := o
  simp only at hk
  subst hk
  obtain ⟨a0, a1, m0, m1, e0, e1, -, -, z0, z1⟩ := ho
  simp only at a0 a1 m0 m1 e0 e1 z0 z1
  unfold cellsO
  simp only
  have S1 := hide (S.on (grow x (.cells #[.int .i64 0, .int .i64 z, .int .u32 a, .int .u32 m, .int .i64 ea, .int .i64 ek, .int .u32 em] 34)))
  have hbx := hide (Box.new x #[.int .i64 0, .int .i64 z, .int .u32 a, .int .u32 m, .int .i64 ea, .int .i64 ek, .int .u32 em] 34)
  have hL : Hid (x.heap.size ∉ [b, g] ∧ x.heap.size ∉ [b', p', gb, gd]) := hide (by
    have l1 := S.o1.bus.lt
    have l2 := S.o1.bus.m.zg
    have l3 := S.o2.bus.lt
    have l4 := S.o2.bus.m.zp
    have l5 := S.o2.bus.m.zb
    have l6 := S.o2.bus.m.zd
    constructor <;> (simp; omega))
  clear S
  go_enter Tryz.func10, Tryz.ntmps10
  go_wp2_with fail
  generalize hLx : x.heap.size = L at *
  generalize x.alloc (.cells #[.int .i64 0, .int .i64 z, .int .u32 a, .int .u32 m, .int .i64 ea, .int .i64 ek, .int .u32 em] 34) = y0 at *
  clear hLx
  refine (load_is S1.out.o1.bus a z a0 a1).mono ?_
  rintro e y1 ⟨rfl, hB, K⟩
  have hb1 := hbx.out.kept (kept1 (g := g) K) hL.out.1
  have c1 : y1.cell? ⟨L, 1, none⟩ = some (.int .i64 z) := hb1.cell 1
  have c2 : y1.cell? ⟨L, 2, none⟩ = some (.int .u32 a) := hb1.cell 2
  have hM := hide (S1.out.mid (kept1 K))
  have hS := hide (And.intro hB K)
  clear hB K hb1
  have cr := hide (rload_is hM.out a z a0 a1)
  generalize ldA n v B a z = A at *
  go_wp2_with fail
  refine cr.out.mono ?_
  rintro e y2 ⟨rfl, hR, K2⟩
  have S2 := hide (S1.out.both hS.out.1 (kept1 hS.out.2) hR (K2.mono (by simp)))
  clear hR K2 cr hM hS S1 c1 c2
  go_wp2
  go_ret
  exact ⟨rfl, _, _, _, S2.out⟩
set_option maxHeartbeats 1000000 in
set_option maxRecDepth 100000 in
theorem step_store {w x : World} {b p g c b' p' gb gd n : Nat} {v : Dv} {B : Nat → Nat} {D : Nat → Bool} (S : Side w x b p g c b' p' gb gd n v B D) (o : Op12) (ho : o.Fits) (hk : o.k = 1) :
    Calls Tryz.prog 10 #[.pointer (some ⟨b, 0, none⟩), .pointer (some ⟨b', 0, none⟩), .agg (cellsO o)] x fun e y => e = .returned (.bool true) ∧ ∃ v' B' D', Side w y b p g c b' p' gb gd n v' B' D' := by
  obtain ⟨k, z, a, m, ea, ek, em⟩ := o
  simp only at hk
  subst hk
  obtain ⟨a0, a1, m0, m1, e0, e1, -, -, z0, z1⟩ := ho
  simp only at a0 a1 m0 m1 e0 e1 z0 z1
  unfold cellsO
  simp only
  have S1 := hide (S.on (grow x (.cells #[.int .i64 1, .int .i64 z, .int .u32 a, .int .u32 m, .int .i64 ea, .int .i64 ek, .int .u32 em] 34)))
  have hbx := hide (Box.new x #[.int .i64 1, .int .i64 z, .int .u32 a, .int .u32 m, .int .i64 ea, .int .i64 ek, .int .u32 em] 34)
  have hL : Hid (x.heap.size ∉ [b, g] ∧ x.heap.size ∉ [b', p', gb, gd]) := hide (by
    have l1 := S.o1.bus.lt
    have l2 := S.o1.bus.m.zg
    have l3 := S.o2.bus.lt
    have l4 := S.o2.bus.m.zp
    have l5 := S.o2.bus.m.zb
    have l6 := S.o2.bus.m.zd
    constructor <;> (simp; omega))
  clear S
  go_enter Tryz.func10, Tryz.ntmps10
  go_wp2_with fail
  generalize hLx : x.heap.size = L at *
  generalize x.alloc (.cells #[.int .i64 1, .int .i64 z, .int .u32 a, .int .u32 m, .int .i64 ea, .int .i64 ek, .int .u32 em] 34) = y0 at *
  clear hLx
  refine (store_is S1.out.o1.bus a z m a0 a1 m0 m1).mono ?_
  rintro e y1 ⟨rfl, hB, K⟩
  have hb1 := hbx.out.kept K hL.out.1
  have c1 : y1.cell? ⟨L, 1, none⟩ = some (.int .i64 z) := hb1.cell 1
  have c2 : y1.cell? ⟨L, 2, none⟩ = some (.int .u32 a) := hb1.cell 2
  have c3 : y1.cell? ⟨L, 3, none⟩ = some (.int .u32 m) := hb1.cell 3
  have hM := hide (S1.out.mid K)
  have hS := hide (And.intro hB K)
  clear hB K hb1
  have cr := hide (rstore_is hM.out a z m a0 a1 m0 m1)
  generalize stA n v B D a z m = A at *
  go_wp2_with fail
  refine cr.out.mono ?_
  rintro e y2 ⟨rfl, hR, K2⟩
  have S2 := hide (S1.out.both hS.out.1 hS.out.2 hR K2)
  clear hR K2 cr hM hS S1 c1 c2 c3
  go_wp2
  go_ret
  exact ⟨rfl, _, _, _, S2.out⟩
set_option maxHeartbeats 1000000 in
set_option maxRecDepth 100000 in
theorem step_tick {w x : World} {b p g c b' p' gb gd n : Nat} {v : Dv} {B : Nat → Nat} {D : Nat → Bool} (S : Side w x b p g c b' p' gb gd n v B D) (o : Op12) (ho : o.Fits) (hk : o.k = 3) :
    Calls Tryz.prog 10 #[.pointer (some ⟨b, 0, none⟩), .pointer (some ⟨b', 0, none⟩), .agg (cellsO o)] x fun e y => e = .returned (.bool true) ∧ ∃ v' B' D', Side w y b p g c b' p' gb gd n v' B' D' := by
  obtain ⟨k, z, a, m, ea, ek, em⟩ := o
  simp only at hk
  subst hk
  obtain ⟨a0, a1, m0, m1, e0, e1, -, -, z0, z1⟩ := ho
  simp only at a0 a1 m0 m1 e0 e1 z0 z1
  unfold cellsO
  simp only
  have S1 := hide (S.on (grow x (.cells #[.int .i64 3, .int .i64 z, .int .u32 a, .int .u32 m, .int .i64 ea, .int .i64 ek, .int .u32 em] 34)))
  have hbx := hide (Box.new x #[.int .i64 3, .int .i64 z, .int .u32 a, .int .u32 m, .int .i64 ea, .int .i64 ek, .int .u32 em] 34)
  have hL : Hid (x.heap.size ∉ [b, g] ∧ x.heap.size ∉ [b', p', gb, gd]) := hide (by
    have l1 := S.o1.bus.lt
    have l2 := S.o1.bus.m.zg
    have l3 := S.o2.bus.lt
    have l4 := S.o2.bus.m.zp
    have l5 := S.o2.bus.m.zb
    have l6 := S.o2.bus.m.zd
    constructor <;> (simp; omega))
  clear S
  go_enter Tryz.func10, Tryz.ntmps10
  go_wp2_with fail
  generalize hLx : x.heap.size = L at *
  generalize x.alloc (.cells #[.int .i64 3, .int .i64 z, .int .u32 a, .int .u32 m, .int .i64 ea, .int .i64 ek, .int .u32 em] 34) = y0 at *
  clear hLx
  refine (tick_any S1.out.o1.bus).mono ?_
  rintro e y1 ⟨rfl, hB, K⟩
  have hM := hide (S1.out.mid K)
  have hS := hide (And.intro hB K)
  clear hB K
  have cr := hide (rtick_any hM.out)
  generalize linesV (tkV n v B) = A at *
  go_wp2_with fail
  refine cr.out.mono ?_
  rintro e y2 ⟨rfl, hR, K2⟩
  have S2 := hide (S1.out.both hS.out.1 hS.out.2 hR K2)
  clear hR K2 cr hM hS S1
  go_wp2
  go_ret
  exact ⟨rfl, _, _, _, S2.out⟩
set_option maxHeartbeats 1000000 in
set_option maxRecDepth 100000 in
theorem step_feed {w x : World} {b p g c b' p' gb gd n : Nat} {v : Dv} {B : Nat → Nat} {D : Nat → Bool} (S : Side w x b p g c b' p' gb gd n v B D) (o : Op12) (ho : o.Fits) (hk : o.k = 4) :
    Calls Tryz.prog 10 #[.pointer (some ⟨b, 0, none⟩), .pointer (some ⟨b', 0, none⟩), .agg (cellsO o)] x fun e y => e = .returned (.bool true) ∧ ∃ v' B' D', Side w y b p g c b' p' gb gd n v' B' D' := by
  obtain ⟨k, z, a, m, ea, ek, em⟩ := o
  simp only at hk
  subst hk
  obtain ⟨a0, a1, m0, m1, e0, e1, -, -, z0, z1⟩ := ho
  simp only at a0 a1 m0 m1 e0 e1 z0 z1
  unfold cellsO
  simp only
  have S1 := hide (S.on (grow x (.cells #[.int .i64 4, .int .i64 z, .int .u32 a, .int .u32 m, .int .i64 ea, .int .i64 ek, .int .u32 em] 34)))
  have hbx := hide (Box.new x #[.int .i64 4, .int .i64 z, .int .u32 a, .int .u32 m, .int .i64 ea, .int .i64 ek, .int .u32 em] 34)
  have hL : Hid (x.heap.size ∉ [b, g] ∧ x.heap.size ∉ [b', p', gb, gd]) := hide (by
    have l1 := S.o1.bus.lt
    have l2 := S.o1.bus.m.zg
    have l3 := S.o2.bus.lt
    have l4 := S.o2.bus.m.zp
    have l5 := S.o2.bus.m.zb
    have l6 := S.o2.bus.m.zd
    constructor <;> (simp; omega))
  clear S
  go_enter Tryz.func10, Tryz.ntmps10
  go_wp2_with fail
  generalize hLx : x.heap.size = L at *
  generalize x.alloc (.cells #[.int .i64 4, .int .i64 z, .int .u32 a, .int .u32 m, .int .i64 ea, .int .i64 ek, .int .u32 em] 34) = y0 at *
  clear hLx
  refine (feed_is S1.out.o1.bus ea ek em e0 e1).mono ?_
  rintro e y1 ⟨rfl, hB, K⟩
  have hb1 := hbx.out.kept (kept1 (g := g) K) hL.out.1
  have c4 : y1.cell? ⟨L, 4, none⟩ = some (.int .i64 ea) := hb1.cell 4
  have c5 : y1.cell? ⟨L, 5, none⟩ = some (.int .i64 ek) := hb1.cell 5
  have c6 : y1.cell? ⟨L, 6, none⟩ = some (.int .u32 em) := hb1.cell 6
  have hM := hide (S1.out.mid (kept1 K))
  have hS := hide (And.intro hB K)
  clear hB K hb1
  have cr := hide (rfeed_is hM.out ea ek em e0 e1)
  generalize fdE ek = A at *
  go_wp2_with fail
  refine cr.out.mono ?_
  rintro e y2 ⟨rfl, hR, K2⟩
  have S2 := hide (S1.out.both hS.out.1 (kept1 hS.out.2) hR (K2.mono (by simp)))
  clear hR K2 cr hM hS S1 c4 c5 c6
  go_wp2
  go_ret
  exact ⟨rfl, _, _, _, S2.out⟩
set_option maxHeartbeats 1000000 in
set_option maxRecDepth 100000 in
theorem step_else {w x : World} {b p g c b' p' gb gd n : Nat} {v : Dv} {B : Nat → Nat} {D : Nat → Bool} (S : Side w x b p g c b' p' gb gd n v B D) (o : Op12) (ho : o.Fits) (hk : o.k ≠ 0 ∧ o.k ≠ 1 ∧ o.k ≠ 2 ∧ o.k ≠ 3 ∧ o.k ≠ 4 ∧ o.k ≠ 6) :
    Calls Tryz.prog 10 #[.pointer (some ⟨b, 0, none⟩), .pointer (some ⟨b', 0, none⟩), .agg (cellsO o)] x fun e y => e = .returned (.bool true) ∧ ∃ v' B' D', Side w y b p g c b' p' gb gd n v' B' D' := by
  obtain ⟨k, z, a, m, ea, ek, em⟩ := o
  simp only at hk
  obtain ⟨a0, a1, m0, m1, e0, e1, -, -, z0, z1⟩ := ho
  simp only at a0 a1 m0 m1 e0 e1 z0 z1
  unfold cellsO
  simp only
  have S1 := hide (S.on (grow x (.cells #[.int .i64 k, .int .i64 z, .int .u32 a, .int .u32 m, .int .i64 ea, .int .i64 ek, .int .u32 em] 34)))
  have hbx := hide (Box.new x #[.int .i64 k, .int .i64 z, .int .u32 a, .int .u32 m, .int .i64 ea, .int .i64 ek, .int .u32 em] 34)
  have hL : Hid (x.heap.size ∉ [b, g] ∧ x.heap.size ∉ [b', p', gb, gd]) := hide (by
    have l1 := S.o1.bus.lt
    have l2 := S.o1.bus.m.zg
    have l3 := S.o2.bus.lt
    have l4 := S.o2.bus.m.zp
    have l5 := S.o2.bus.m.zb
    have l6 := S.o2.bus.m.zd
    constructor <;> (simp; omega))
  clear S
  have d0 : (k == 0) = false := by simp; omega
  have d1 : (k == 1) = false := by simp; omega
  have d2 : (k == 2) = false := by simp; omega
  have d3 : (k == 3) = false := by simp; omega
  have d4 : (k == 4) = false := by simp; omega
  have d6 : (k == 6) = false := by simp; omega
  clear hk
  go_enter Tryz.func10, Tryz.ntmps10
  go_wp2
  go_ret
  exact ⟨rfl, _, _, _, S1.out⟩
set_option maxHeartbeats 1000000 in
set_option maxRecDepth 100000 in
theorem step_peek {w x : World} {b p g c b' p' gb gd n : Nat} {v : Dv} {B : Nat → Nat} {D : Nat → Bool} (S : Side w x b p g c b' p' gb gd n v B D) (o : Op12) (ho : o.Fits) (hk : o.k = 2) :
    Calls Tryz.prog 10 #[.pointer (some ⟨b, 0, none⟩), .pointer (some ⟨b', 0, none⟩), .agg (cellsO o)] x fun e y => e = .returned (.bool true) ∧ ∃ v' B' D', Side w y b p g c b' p' gb gd n v' B' D' := by
  obtain ⟨k, z, a, m, ea, ek, em⟩ := o
  simp only at hk
  subst hk
  obtain ⟨a0, a1, m0, m1, e0, e1, -, -, z0, z1⟩ := ho
  simp only at a0 a1 m0 m1 e0 e1 z0 z1
  unfold cellsO
  simp only
  have S1 := hide (S.on (grow x (.cells #[.int .i64 2, .int .i64 z, .int .u32 a, .int .u32 m, .int .i64 ea, .int .i64 ek, .int .u32 em] 34)))
  have hbx := hide (Box.new x #[.int .i64 2, .int .i64 z, .int .u32 a, .int .u32 m, .int .i64 ea, .int .i64 ek, .int .u32 em] 34)
  have hL : Hid (x.heap.size ∉ [b, g] ∧ x.heap.size ∉ [b', p', gb, gd]) := hide (by
    have l1 := S.o1.bus.lt
    have l2 := S.o1.bus.m.zg
    have l3 := S.o2.bus.lt
    have l4 := S.o2.bus.m.zp
    have l5 := S.o2.bus.m.zb
    have l6 := S.o2.bus.m.zd
    constructor <;> (simp; omega))
  clear S
  go_enter Tryz.func10, Tryz.ntmps10
  go_wp2_with fail
  generalize hLx : x.heap.size = L at *
  generalize x.alloc (.cells #[.int .i64 2, .int .i64 z, .int .u32 a, .int .u32 m, .int .i64 ea, .int .i64 ek, .int .u32 em] 34) = y0 at *
  clear hLx
  refine (peek_is S1.out.o1.bus a a0 a1).mono ?_
  rintro e y1 ⟨rfl, rfl⟩
  have c2 : y1.cell? ⟨L, 2, none⟩ = some (.int .u32 a) := hbx.out.cell 2
  have c0 : y1.cell? ⟨b', 0, none⟩ = some (.pointer (some ⟨p', 0, none⟩)) := S1.out.o2.bus.cell 0
  have cm := hide (fun x (M : RMem x p' gb gd n B D) => rmemLoad M a 4 a0 a1)
  have S2 := hide (S1.out.on (Below.refl _ _).drew)
  have cr := hide (rmemLoad S2.out.o2.bus.m a 4 a0 a1)
  clear S1 hbx hL cm
  by_cases hm : mayI n a 4
  · rw [if_pos hm] at cr
    rw [decide_eq_true hm]
    generalize memX n B a 4 = X at *
    go_wp2_with fail
    go_region_with (first | (go_at_call 35; refine cr.out.mono ?_; rintro e y2 ⟨rfl, rfl⟩))
    all_goals
      clear c0 c2 cr
      go_wp2
      go_ret
      exact ⟨rfl, _, _, _, S2.out⟩
  · rw [if_neg hm] at cr
    rw [decide_eq_false hm]
    generalize memX n B a 4 = X at *
    go_wp2_with fail
    go_region_with (first | (go_at_call 35; refine cr.out.mono ?_; rintro e y2 ⟨rfl, rfl⟩))
    all_goals
      clear c0 c2 cr
      go_wp2
      go_ret
      exact ⟨rfl, _, _, _, S2.out⟩
end Go.Proofs.YtdapjpbdplhgbaaGreat
