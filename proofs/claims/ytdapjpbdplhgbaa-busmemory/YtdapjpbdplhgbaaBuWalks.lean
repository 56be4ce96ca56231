/- Layer 12: contracts of the devices' registers, the program's. -/
import Derived.Test.YtdapjpbdplhgbaaBuPlain
import Derived.RegionTactic
namespace Go.Proofs.Ytdapjpbdplhgbaa
open Go.RowKit
set_option linter.unusedVariables false
set_option maxRecDepth 100000

theorem isDev_yes (a : Int) (h0 : 520093696 ≤ a) (h1 : a < 520094720) (w : World) :
    Calls Try.prog 45 #[.int .u32 a] w fun e w' => e = .returned (.bool true) ∧ w' = w := by
  have hk : a - a % 256 = 520093696 ∨ a - a % 256 = 520093952 ∨ a - a % 256 = 520094208 ∨ a - a % 256 = 520094464 := by omega
  have hw : IntKind.u32.wrap (a - a % 256) = a - a % 256 := by simp [IntKind.wrap, IntKind.bits, IntKind.signed]; omega
  rcases hk with hk | hk | hk | hk
  all_goals
    rw [hk] at hw
    go_enter Try.func45, Try.ntmps45
    go_wp2
    go_ret
    exact ⟨rfl, rfl⟩

theorem isDev_no (a : Int) (a0 : 0 ≤ a) (a1 : a < 4294967296) (h : a < 520093696 ∨ 520094720 ≤ a) (w : World) :
    Calls Try.prog 45 #[.int .u32 a] w fun e w' => e = .returned (.bool false) ∧ w' = w := by
  have hw : IntKind.u32.wrap (a - a % 256) = a - a % 256 := by simp [IntKind.wrap, IntKind.bits, IntKind.signed]; omega
  have e1 : (a - a % 256 == 520093696) = false := by simp; omega
  have e2 : (a - a % 256 == 520093952) = false := by simp; omega
  have e3 : (a - a % 256 == 520094208) = false := by simp; omega
  have e4 : (a - a % 256 == 520094464) = false := by simp; omega
  clear h
  go_enter Try.func45, Try.ntmps45
  go_wp2
  go_ret
  exact ⟨rfl, rfl⟩

theorem isWord_yes (a : Int) (a0 : 0 ≤ a) (h : a % 4 = 0) (w : World) :
    Calls Try.prog 72 #[.int .u32 a, .int .i64 4] w fun e w' => e = .returned (.bool true) ∧ w' = w := by
  go_enter Try.func72, Try.ntmps72
  go_wp2
  go_ret
  exact ⟨rfl, rfl⟩

theorem isWord_no (a s : Int) (a0 : 0 ≤ a) (h : ¬ (s = 4 ∧ a % 4 = 0)) (w : World) :
    Calls Try.prog 72 #[.int .u32 a, .int .i64 s] w fun e w' => e = .returned (.bool false) ∧ w' = w := by
  by_cases hs : s = 4
  · subst hs
    have h' : (a % 4 == 0) = false := by simp; omega
    clear h
    go_enter Try.func72, Try.ntmps72
    go_wp2
    go_ret
    exact ⟨rfl, rfl⟩
  · have h' : (s == 4) = false := by simpa using hs
    clear h hs
    go_enter Try.func72, Try.ntmps72
    go_wp2
    go_ret
    exact ⟨rfl, rfl⟩

/-- The error of the rng's register. -/
def rgE (r : Int) : Int := if r = 0 then 0 else 121

theorem rngError_any (r : Int) (w : World) : Calls Try.prog 92 #[.int .u32 r] w fun e w' => e = .returned (.int .i64 (rgE r)) ∧ w' = w := by
  by_cases h : r = 0
  · subst h
    go_enter Try.func92, Try.ntmps92
    go_wp2
    go_ret
    exact ⟨rfl, rfl⟩
  · have e : rgE r = 121 := by unfold rgE; rw [if_neg h]
    have h' : (r == 0) = false := by simpa using h
    rw [e]
    clear h e
    go_enter Try.func92, Try.ntmps92
    go_wp2
    go_ret
    exact ⟨rfl, rfl⟩

set_option maxHeartbeats 1000000 in
theorem read_t (v : Dv) (a r : Int) (hr : a % 256 = r) (hb : a - r = 520093696) (r0 : 0 ≤ r) (r1 : r < 256) (w : World) :
    Calls Try.prog 74 #[.agg (cellsV v), .int .u32 a] w fun e w' => e = .returned (.tuple #[.int .u32 (Tm.readV v.t r), .agg (cellsV (v)), .int .i64 (Tm.formV r)]) ∧ Below w.heap.size w w' := by
  obtain ⟨t1, t2, t3, t4, t5, t6, t7, t8, t9⟩ := rowRules
  obtain ⟨z1, z2, z3, z4, z5, z6, z7, z8, z9, z10⟩ := sizeRules
  obtain ⟨c1, c2, c3, c4, c5, o1, o2, o3, o4, o5, n1, n2, n3, n4, n5⟩ := cellSizes
  obtain ⟨-, -, -, -, -, -, -, -, -, -, -, -, x1, x2, x3⟩ := boxRules
  obtain ⟨f1, f2, f3, f4, q1, q2, q3, q4, s1, s2, s3, s4, -, -, -, -⟩ := vParts
  have c := hide (Tm.read_any v.t r)
  generalize Tm.readV v.t r = X at *
  generalize Tm.formV r = E at *
  go_enter Try.func74, Try.ntmps74
  go_wp2_with fail
  refine (c.out _).mono ?_
  rintro e w1 ⟨rfl, b1⟩
  obtain ⟨V, u, bw⟩ := two_boxes b1
  clear b1 c
  obtain ⟨v1, v2, v3⟩ := V
  obtain ⟨u1, u2, u3⟩ := id u
  go_wp2
  go_region
  go_wp2
  have V2 := (u.set (cellsV (v))).drew
  have ld := V2.loadV
  exact bodyPost_ret (v := .tuple #[.int .u32 X, .agg (cellsV (v)), .int .i64 E]) (by simp [results, Try.results74, go_sem, z5, ld]) rfl ⟨rfl, (below_setRow bw (by omega) _).drew⟩

set_option maxHeartbeats 1000000 in
theorem read_d (v : Dv) (a r : Int) (hr : a % 256 = r) (hb : a - r = 520094208) (r0 : 0 ≤ r) (r1 : r < 256) (w : World) :
    Calls Try.prog 74 #[.agg (cellsV v), .int .u32 a] w fun e w' => e = .returned (.tuple #[.int .u32 (Dm.readV v.d r), .agg (cellsV (v)), .int .i64 (Dm.formV r)]) ∧ Below w.heap.size w w' := by
  obtain ⟨t1, t2, t3, t4, t5, t6, t7, t8, t9⟩ := rowRules
  obtain ⟨z1, z2, z3, z4, z5, z6, z7, z8, z9, z10⟩ := sizeRules
  obtain ⟨c1, c2, c3, c4, c5, o1, o2, o3, o4, o5, n1, n2, n3, n4, n5⟩ := cellSizes
  obtain ⟨-, -, -, -, -, -, -, -, -, -, -, -, x1, x2, x3⟩ := boxRules
  obtain ⟨f1, f2, f3, f4, q1, q2, q3, q4, s1, s2, s3, s4, -, -, -, -⟩ := vParts
  have c := hide (Dm.read_any v.d r)
  generalize Dm.readV v.d r = X at *
  generalize Dm.formV r = E at *
  go_enter Try.func74, Try.ntmps74
  go_wp2_with fail
  refine (c.out _).mono ?_
  rintro e w1 ⟨rfl, b1⟩
  obtain ⟨V, u, bw⟩ := two_boxes b1
  clear b1 c
  obtain ⟨v1, v2, v3⟩ := V
  obtain ⟨u1, u2, u3⟩ := id u
  go_wp2
  go_region
  go_wp2
  have V2 := (u.set (cellsV (v))).drew
  have ld := V2.loadV
  exact bodyPost_ret (v := .tuple #[.int .u32 X, .agg (cellsV (v)), .int .i64 E]) (by simp [results, Try.results74, go_sem, z5, ld]) rfl ⟨rfl, (below_setRow bw (by omega) _).drew⟩

/-- Two boxes: the first one is another one. -/
theorem boxes_set {w x : World} {c d : Array Value} (V : Box x w.heap.size c) (u : Box x (w.heap.size + 1) d) (bw : Below w.heap.size w x) (q : Array Value) :
    Box (x.setRow w.heap.size q) w.heap.size q ∧ Box (x.setRow w.heap.size q) (w.heap.size + 1) d ∧ Below w.heap.size w (x.setRow w.heap.size q) :=
  ⟨V.set q, u.far _ _ (by omega), below_setRow bw (Nat.le_refl _) _⟩

theorem boxes_on {w x y : World} {c d : Array Value} (V : Box x w.heap.size c) (u : Box x (w.heap.size + 1) d) (bw : Below w.heap.size w x) (hb : Below x.heap.size x y) :
    Box y w.heap.size c ∧ Box y (w.heap.size + 1) d ∧ Below w.heap.size w y := ⟨V.on hb, u.on hb, onto bw (Nat.le_refl _) hb⟩

set_option maxHeartbeats 1000000 in
theorem read_u (v : Dv) (hu : Ua.Fits v.u) (a r : Int) (hr : a % 256 = r) (hb : a - r = 520093952) (r0 : 0 ≤ r) (r1 : r < 256) (w : World) :
    Calls Try.prog 74 #[.agg (cellsV v), .int .u32 a] w fun e w' => e = .returned (.tuple #[.int .u32 (Ua.readV v.u r), .agg (cellsV { v with u := Ua.leftV v.u r }), .int .i64 (Ua.formV r)]) ∧ Below w.heap.size w w' := by
  obtain ⟨t1, t2, t3, t4, t5, t6, t7, t8, t9⟩ := rowRules
  obtain ⟨z1, z2, z3, z4, z5, z6, z7, z8, z9, z10⟩ := sizeRules
  obtain ⟨c1, c2, c3, c4, c5, o1, o2, o3, o4, o5, n1, n2, n3, n4, n5⟩ := cellSizes
  obtain ⟨-, -, -, -, -, -, -, -, -, -, -, -, x1, x2, x3⟩ := boxRules
  obtain ⟨f1, f2, f3, f4, q1, q2, q3, q4, s1, s2, s3, s4, -, -, -, -⟩ := vParts
  have c := hide (Ua.read_any v.u hu r)
  generalize Ua.readV v.u r = X at *
  generalize Ua.leftV v.u r = Q at *
  generalize Ua.formV r = E at *
  go_enter Try.func74, Try.ntmps74
  go_wp2_with fail
  refine (c.out _).mono ?_
  rintro e w1 ⟨rfl, b1⟩
  obtain ⟨V, u, bw⟩ := two_boxes b1
  clear b1 c
  obtain ⟨v1, v2, v3⟩ := id V
  go_wp2
  obtain ⟨V, u, bw⟩ := boxes_set V u bw (cellsV { v with u := Q })
  clear v1 v2 v3
  generalize w1.setRow w.heap.size (cellsV { v with u := Q }) = w2 at *
  obtain ⟨v1, v2, v3⟩ := V
  obtain ⟨u1, u2, u3⟩ := id u
  go_region
  go_wp2
  have ld := ((u.set (cellsV { v with u := Q })).drew).loadV
  exact bodyPost_ret (v := .tuple #[.int .u32 X, .agg (cellsV { v with u := Q }), .int .i64 E]) (by simp [results, Try.results74, go_sem, z5, ld]) rfl ⟨rfl, (below_setRow bw (by omega) _).drew⟩

set_option maxHeartbeats 1000000 in
theorem read_g (v : Dv) (a r : Int) (hr : a % 256 = r) (hb : a - r = 520094464) (r0 : 0 ≤ r) (r1 : r < 256) (w : World) :
    Calls Try.prog 74 #[.agg (cellsV v), .int .u32 a] w fun e w' => e = .returned (.tuple #[.int .u32 (nextX v.g), .agg (cellsV { v with g := nextG v.g }), .int .i64 (rgE r)]) ∧ Below w.heap.size w w' := by
  obtain ⟨t1, t2, t3, t4, t5, t6, t7, t8, t9⟩ := rowRules
  obtain ⟨z1, z2, z3, z4, z5, z6, z7, z8, z9, z10⟩ := sizeRules
  obtain ⟨c1, c2, c3, c4, c5, o1, o2, o3, o4, o5, n1, n2, n3, n4, n5⟩ := cellSizes
  obtain ⟨-, -, -, -, -, -, -, -, -, -, -, -, x1, x2, x3⟩ := boxRules
  obtain ⟨f1, f2, f3, f4, q1, q2, q3, q4, s1, s2, s3, s4, -, -, -, -⟩ := vParts
  have c := hide (next_g v.g)
  generalize nextX v.g = X at *
  generalize nextG v.g = Q at *
  have cE := hide (rngError_any r)
  generalize rgE r = E at *
  go_enter Try.func74, Try.ntmps74
  go_wp2_with fail
  refine (c.out _).mono ?_
  rintro e w1 ⟨rfl, b1⟩
  obtain ⟨V, u, bw⟩ := two_boxes b1
  clear b1 c
  obtain ⟨v1, v2, v3⟩ := id V
  go_wp2_with fail
  obtain ⟨V, u, bw⟩ := boxes_set V u bw (cellsV { v with g := Q })
  clear v1 v2 v3
  generalize w1.setRow w.heap.size (cellsV { v with g := Q }) = w2 at *
  refine (cE.out _).mono ?_
  rintro e w3 ⟨rfl, rfl⟩
  obtain ⟨v1, v2, v3⟩ := V
  obtain ⟨u1, u2, u3⟩ := id u
  go_wp2
  go_region
  go_wp2
  have ld := ((u.set (cellsV { v with g := Q })).drew).loadV
  exact bodyPost_ret (v := .tuple #[.int .u32 X, .agg (cellsV { v with g := Q }), .int .i64 E]) (by simp [results, Try.results74, go_sem, z5, ld]) rfl ⟨rfl, (below_setRow bw (by omega) _).drew⟩

set_option maxHeartbeats 1000000 in
theorem write_t (v : Dv) (a r n : Int) (n0 : 0 ≤ n) (n1' : n < 4294967296) (hr : a % 256 = r) (hb : a - r = 520093696) (r0 : 0 ≤ r) (r1 : r < 256) (w : World) :
    Calls Try.prog 73 #[.agg (cellsV v), .int .u32 a, .int .u32 n] w fun e w' => e = .returned (.tuple #[.agg (cellsV { v with t := Tm.writeV v.t r n }), .int .i64 (Tm.formV r)]) ∧ Below w.heap.size w w' := by
  obtain ⟨t1, t2, t3, t4, t5, t6, t7, t8, t9⟩ := rowRules
  obtain ⟨z1, z2, z3, z4, z5, z6, z7, z8, z9, z10⟩ := sizeRules
  obtain ⟨c1, c2, c3, c4, c5, o1, o2, o3, o4, o5, n1, n2, n3, n4, n5⟩ := cellSizes
  obtain ⟨-, -, -, -, -, -, -, -, -, -, -, -, x1, x2, x3⟩ := boxRules
  obtain ⟨f1, f2, f3, f4, q1, q2, q3, q4, s1, s2, s3, s4, -, -, -, -⟩ := vParts
  have c := hide (Tm.write_any v.t r n)
  generalize Tm.writeV v.t r n = Q at *
  generalize Tm.formV r = E at *
  go_enter Try.func73, Try.ntmps73
  go_wp2_with fail
  refine (c.out _).mono ?_
  rintro e w1 ⟨rfl, b1⟩
  obtain ⟨V, u, bw⟩ := two_boxes b1
  clear b1 c
  obtain ⟨v1, v2, v3⟩ := id V
  obtain ⟨u1, u2, u3⟩ := id u
  obtain ⟨y1, y2⟩ := rowSets
  go_wp2
  obtain ⟨V, u, bw⟩ := boxes_set V u bw (cellsV { v with t := Q })
  have ld := ((u.set (cellsV { v with t := Q }))).loadV
  exact bodyPost_ret (v := .tuple #[.agg (cellsV { v with t := Q }), .int .i64 E]) (by simp [results, Try.results73, go_sem, z5, ld]) rfl ⟨rfl, below_setRow bw (by omega) _⟩

set_option maxHeartbeats 1000000 in
theorem write_u (v : Dv) (hu : Ua.Fits v.u) (a r n : Int) (n0 : 0 ≤ n) (n1' : n < 4294967296) (hr : a % 256 = r) (hb : a - r = 520093952) (r0 : 0 ≤ r) (r1 : r < 256) (w : World) :
    Calls Try.prog 73 #[.agg (cellsV v), .int .u32 a, .int .u32 n] w fun e w' => e = .returned (.tuple #[.agg (cellsV { v with u := Ua.writeV v.u r n }), .int .i64 (Ua.formV r)]) ∧ Below w.heap.size w w' := by
  obtain ⟨t1, t2, t3, t4, t5, t6, t7, t8, t9⟩ := rowRules
  obtain ⟨z1, z2, z3, z4, z5, z6, z7, z8, z9, z10⟩ := sizeRules
  obtain ⟨c1, c2, c3, c4, c5, o1, o2, o3, o4, o5, n1, n2, n3, n4, n5⟩ := cellSizes
  obtain ⟨-, -, -, -, -, -, -, -, -, -, -, -, x1, x2, x3⟩ := boxRules
  obtain ⟨f1, f2, f3, f4, q1, q2, q3, q4, s1, s2, s3, s4, -, -, -, -⟩ := vParts
  have c := hide (Ua.write_any v.u hu r n n0 n1')
  generalize Ua.writeV v.u r n = Q at *
  generalize Ua.formV r = E at *
  go_enter Try.func73, Try.ntmps73
  go_wp2_with fail
  refine (c.out _).mono ?_
  rintro e w1 ⟨rfl, b1⟩
  obtain ⟨V, u, bw⟩ := two_boxes b1
  clear b1 c
  obtain ⟨v1, v2, v3⟩ := id V
  obtain ⟨u1, u2, u3⟩ := id u
  obtain ⟨y1, y2⟩ := rowSets
  go_wp2
  obtain ⟨V, u, bw⟩ := boxes_set V u bw (cellsV { v with u := Q })
  have ld := ((u.set (cellsV { v with u := Q }))).loadV
  exact bodyPost_ret (v := .tuple #[.agg (cellsV { v with u := Q }), .int .i64 E]) (by simp [results, Try.results73, go_sem, z5, ld]) rfl ⟨rfl, below_setRow bw (by omega) _⟩

set_option maxHeartbeats 1000000 in
theorem write_d (v : Dv) (a r n : Int) (n0 : 0 ≤ n) (n1' : n < 4294967296) (hr : a % 256 = r) (hb : a - r = 520094208) (r0 : 0 ≤ r) (r1 : r < 256) (w : World) :
    Calls Try.prog 73 #[.agg (cellsV v), .int .u32 a, .int .u32 n] w fun e w' => e = .returned (.tuple #[.agg (cellsV { v with d := Dm.writeV v.d r n }), .int .i64 (Dm.formV r)]) ∧ Below w.heap.size w w' := by
  obtain ⟨t1, t2, t3, t4, t5, t6, t7, t8, t9⟩ := rowRules
  obtain ⟨z1, z2, z3, z4, z5, z6, z7, z8, z9, z10⟩ := sizeRules
  obtain ⟨c1, c2, c3, c4, c5, o1, o2, o3, o4, o5, n1, n2, n3, n4, n5⟩ := cellSizes
  obtain ⟨-, -, -, -, -, -, -, -, -, -, -, -, x1, x2, x3⟩ := boxRules
  obtain ⟨f1, f2, f3, f4, q1, q2, q3, q4, s1, s2, s3, s4, -, -, -, -⟩ := vParts
  have c := hide (Dm.write_any v.d r n)
  generalize Dm.writeV v.d r n = Q at *
  generalize Dm.formV r = E at *
  go_enter Try.func73, Try.ntmps73
  go_wp2_with fail
  refine (c.out _).mono ?_
  rintro e w1 ⟨rfl, b1⟩
  obtain ⟨V, u, bw⟩ := two_boxes b1
  clear b1 c
  obtain ⟨v1, v2, v3⟩ := id V
  obtain ⟨u1, u2, u3⟩ := id u
  obtain ⟨y1, y2⟩ := rowSets
  go_wp2
  obtain ⟨V, u, bw⟩ := boxes_set V u bw (cellsV { v with d := Q })
  have ld := ((u.set (cellsV { v with d := Q }))).loadV
  exact bodyPost_ret (v := .tuple #[.agg (cellsV { v with d := Q }), .int .i64 E]) (by simp [results, Try.results73, go_sem, z5, ld]) rfl ⟨rfl, below_setRow bw (by omega) _⟩

set_option maxHeartbeats 1000000 in
theorem write_g (v : Dv) (a r n : Int) (n0 : 0 ≤ n) (n1' : n < 4294967296) (hr : a % 256 = r) (hb : a - r = 520094464) (r0 : 0 ≤ r) (r1 : r < 256) (w : World) :
    Calls Try.prog 73 #[.agg (cellsV v), .int .u32 a, .int .u32 n] w fun e w' => e = .returned (.tuple #[.agg (cellsV { v with g := stirG v.g n }), .int .i64 (rgE r)]) ∧ Below w.heap.size w w' := by
  obtain ⟨t1, t2, t3, t4, t5, t6, t7, t8, t9⟩ := rowRules
  obtain ⟨z1, z2, z3, z4, z5, z6, z7, z8, z9, z10⟩ := sizeRules
  obtain ⟨c1, c2, c3, c4, c5, o1, o2, o3, o4, o5, n1, n2, n3, n4, n5⟩ := cellSizes
  obtain ⟨-, -, -, -, -, -, -, -, -, -, -, -, x1, x2, x3⟩ := boxRules
  obtain ⟨f1, f2, f3, f4, q1, q2, q3, q4, s1, s2, s3, s4, -, -, -, -⟩ := vParts
  have c := hide (stir_g v.g n ⟨n0, by omega⟩)
  generalize stirG v.g n = Q at *
  have cE := hide (rngError_any r)
  generalize rgE r = E at *
  go_enter Try.func73, Try.ntmps73
  go_wp2_with fail
  refine (c.out _).mono ?_
  rintro e w1 ⟨rfl, b1⟩
  obtain ⟨V, u, bw⟩ := two_boxes b1
  clear b1 c
  obtain ⟨v1, v2, v3⟩ := id V
  go_wp2_with fail
  obtain ⟨V, u, bw⟩ := boxes_set V u bw (cellsV { v with g := Q })
  clear v1 v2 v3
  generalize w1.setRow w.heap.size (cellsV { v with g := Q }) = w2 at *
  refine (cE.out _).mono ?_
  rintro e w3 ⟨rfl, rfl⟩
  obtain ⟨v1, v2, v3⟩ := V
  obtain ⟨u1, u2, u3⟩ := id u
  go_wp2
  have ld := ((u.set (cellsV { v with g := Q }))).loadV
  exact bodyPost_ret (v := .tuple #[.agg (cellsV { v with g := Q }), .int .i64 E]) (by simp [results, Try.results73, go_sem, z5, ld]) rfl ⟨rfl, below_setRow bw (by omega) _⟩

end Go.Proofs.Ytdapjpbdplhgbaa
