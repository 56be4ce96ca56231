/- What the document's Encode answers: the forms MD, CO, C0, N. -/
import Derived.Test.YtbgklaahmmfpjaaDoorQDecRef2
namespace Go.Proofs.YtbgklaahmmfpjaaDoor.De
open Go.RowKit
set_option linter.unusedVariables false
set_option maxRecDepth 100000

set_option maxHeartbeats 4000000 in
theorem renc_MD {nm F : ByteArray} {m n o s t d a i V L U : Int} {q ok : Bool} (hF : F.toList = [77, 68]) (n1 : ¬ nm.toList = []) (n2 : nm.toList.isEmpty = false)
    (hA : ∀ w, Calls Tryd.prog 9 #[.int .i64 o] w fun e w' => e = .returned (.agg #[.string nm, .string F, .int .i64 m, .int .i64 n]) ∧ Below w.heap.size w w')
    (hs : ∀ w, Calls Tryd.prog 25 #[.int .i64 s] w fun e w' => e = .returned (.bool true) ∧ w' = w) (ht : ∀ w, Calls Tryd.prog 25 #[.int .i64 t] w fun e w' => e = .returned (.bool true) ∧ w' = w)
    (hd : ∀ w, Calls Tryd.prog 25 #[.int .i64 d] w fun e w' => e = .returned (.bool true) ∧ w' = w) (ha : ∀ w, Calls Tryd.prog 25 #[.int .i64 a] w fun e w' => e = .returned (.bool true) ∧ w' = w)
    (hbare : ∀ w, Calls Tryd.prog 26 #[.agg #[.string nm, .string F, .int .i64 m, .int .i64 n], .agg #[.int .i64 o, .int .i64 s, .int .i64 t, .int .i64 d, .int .i64 a, .int .i64 i]] w fun e w' => e = .returned (.int .u32 V) ∧ Below w.heap.size w w')
    (hrest : ∀ w, Calls Tryd.prog 27 #[.agg #[.string nm, .string F, .int .i64 m, .int .i64 n], .agg #[.int .i64 o, .int .i64 s, .int .i64 t, .int .i64 d, .int .i64 a, .int .i64 i]] w fun e w' => e = .returned (.agg #[.int .i64 0, .int .i64 0, .int .i64 0, .int .i64 d, .int .i64 a, .int .i64 i]) ∧ Below w.heap.size w w')
    (hq : same6 0 0 0 d a i 0 0 0 0 0 0 = q)
    (hend : (ok = false ∧ q = false) ∨ (ok = false ∧ q = true ∧ decide (i < (-32768)) = true) ∨ (ok = false ∧ q = true ∧ decide (i < (-32768)) = false ∧ decide (i > 32767) = true) ∨ (ok = true ∧ q = true ∧ decide (i < (-32768)) = false ∧ decide (i > 32767) = false)) (w : World) :
    Calls Tryd.prog 16 #[.agg #[.int .i64 o, .int .i64 s, .int .i64 t, .int .i64 d, .int .i64 a, .int .i64 i]] w fun e w' => e = .returned (if ok then .tuple #[.int .u32 V, .int .i64 0] else .tuple #[.int .u32 0, .int .i64 40]) ∧ Below w.heap.size w w' := by
  have hne := fun w => neq24 0 0 0 d a i 0 0 0 0 0 0 w
  rw [hq] at hne
  clear hq
  go_enter Tryd.func16, Tryd.ntmps16
  go_wp2_with fail
  have g0 := grow w (.cells #[.int .i64 o, .int .i64 s, .int .i64 t, .int .i64 d, .int .i64 a, .int .i64 i] 32)
  have k0 := cell6 w 32 (.int .i64 o) (.int .i64 s) (.int .i64 t) (.int .i64 d) (.int .i64 a) (.int .i64 i)
  refine (hA _).mono ?_
  rintro e w1 ⟨rfl, h1⟩
  have k1 := k0.on h1
  have b1 := onto g0 h1
  clear k0 g0 h1 hA
  have z1 := cell_in k1.c0
  have k1' := id k1
  obtain ⟨x0, x1, x2, x3, x4, x5⟩ := k1'
  go_wp2_with fail
  refine (hs _).mono ?_
  rintro e w' ⟨rfl, rfl⟩
  go_wp2_with fail
  refine (ht _).mono ?_
  rintro e w' ⟨rfl, rfl⟩
  go_wp2_with fail
  refine (hd _).mono ?_
  rintro e w' ⟨rfl, rfl⟩
  go_wp2_with fail
  refine (ha _).mono ?_
  rintro e w' ⟨rfl, rfl⟩
  clear hs ht hd ha
  go_wp2_with fail
  have g2 := grow w1 (.cells #[.string nm, .string F, .int .i64 m, .int .i64 n] 37)
  have g3 := grow (w1.alloc (.cells #[.string nm, .string F, .int .i64 m, .int .i64 n] 37)) (.cells #[.int .i64 0, .int .i64 s, .int .i64 t, .int .i64 d, .int .i64 a, .int .i64 i] 32)
  have k3 := (k1.on g2).on g3
  have r3 := (cell4 w1 37 (.string nm) (.string F) (.int .i64 m) (.int .i64 n)).on g3
  have c3 := cell6 (w1.alloc (.cells #[.string nm, .string F, .int .i64 m, .int .i64 n] 37)) 32 (.int .i64 0) (.int .i64 s) (.int .i64 t) (.int .i64 d) (.int .i64 a) (.int .i64 i)
  have b3 := onto (onto b1 g2) g3
  have f3 : ∀ o, ((w1.alloc (.cells #[.string nm, .string F, .int .i64 m, .int .i64 n] 37)).alloc (.cells #[.int .i64 0, .int .i64 s, .int .i64 t, .int .i64 d, .int .i64 a, .int .i64 i] 32)).frozen? ⟨w1.heap.size + 1, o, none⟩ = false := by intro o; simp [go_sem]
  rw [show (w1.alloc (.cells #[.string nm, .string F, .int .i64 m, .int .i64 n] 37)).heap.size = w1.heap.size + 1 by simp] at c3
  have zw : w.heap.size ≤ w1.heap.size + 1 := by omega
  have zk : w.heap.size ≠ w1.heap.size + 1 := by omega
  have zr : w1.heap.size ≠ w1.heap.size + 1 := by omega
  clear g2 g3 k1 b1 x0 x1 x2 x3 x4 x5
  generalize (w1.alloc (.cells #[.string nm, .string F, .int .i64 m, .int .i64 n] 37)).alloc (.cells #[.int .i64 0, .int .i64 s, .int .i64 t, .int .i64 d, .int .i64 a, .int .i64 i] 32) = W3 at *
  generalize w1.heap.size + 1 = C at *
  generalize w1.heap.size = R at *
  clear z1
  clear w1
  have k4 := id k3
  have r4 := id r3
  have c4 := id c3
  obtain ⟨x0, x1, x2, x3, x4, x5⟩ := k4
  obtain ⟨y0, y1, y2, y3⟩ := r4
  obtain ⟨u0, u1, u2, u3, u4, u5⟩ := c4
  go_quiet (fail)
  go_wp2_with fail
  refine (hbare _).mono ?_
  rintro e w5 ⟨rfl, h5⟩
  have hh : Below W3.heap.size W3 w5 := onto (below_drewN (Below.refl _ _) _) h5
  have k5 := k3.on hh
  have r5 := r3.on hh
  have c5 := c3.on hh
  have f5 : ∀ o, w5.frozen? ⟨C, o, none⟩ = false := fun o => by rw [(bcell hh).2 _ _ (cell_in u0), f3]
  have b5 := onto b3 hh
  clear h5 hh k3 r3 c3 f3 b3 x0 x1 x2 x3 x4 x5 y0 y1 y2 y3 u0 u1 u2 u3 u4 u5 hbare
  have k6 := id k5
  have r6 := id r5
  obtain ⟨x0, x1, x2, x3, x4, x5⟩ := k6
  obtain ⟨y0, y1, y2, y3⟩ := r6
  go_wp2_with fail
  refine (hrest _).mono ?_
  rintro e w6 ⟨rfl, h6⟩
  have f6 : ∀ o, w6.frozen? ⟨C, o, none⟩ = false := fun o => by rw [(bcell h6).2 _ _ (cell_in c5.c0), f5]
  have b6 := onto b5 h6
  have k7 := k5.on h6
  have c7 := c5.on h6
  clear h6 k5 r5 c5 f5 b5 x0 x1 x2 x3 x4 x5 y0 y1 y2 y3 hrest
  clear w5 W3
  obtain ⟨x0, x1, x2, x3, x4, x5⟩ := k7
  obtain ⟨u0, u1, u2, u3, u4, u5⟩ := c7
  rcases hend with ⟨rfl, rfl⟩ | ⟨rfl, rfl, e1⟩ | ⟨rfl, rfl, e1, e2⟩ | ⟨rfl, rfl, e1, e2⟩
  all_goals
    go_wp2
    go_ret2
    exact ⟨rfl, set6 b6 zw⟩

set_option maxHeartbeats 4000000 in
theorem renc_CO {nm F : ByteArray} {m n o s t d a i V L U : Int} {q ok : Bool} (hF : F.toList = [67, 79]) (n1 : ¬ nm.toList = []) (n2 : nm.toList.isEmpty = false)
    (hA : ∀ w, Calls Tryd.prog 9 #[.int .i64 o] w fun e w' => e = .returned (.agg #[.string nm, .string F, .int .i64 m, .int .i64 n]) ∧ Below w.heap.size w w')
    (hs : ∀ w, Calls Tryd.prog 25 #[.int .i64 s] w fun e w' => e = .returned (.bool true) ∧ w' = w) (ht : ∀ w, Calls Tryd.prog 25 #[.int .i64 t] w fun e w' => e = .returned (.bool true) ∧ w' = w)
    (hd : ∀ w, Calls Tryd.prog 25 #[.int .i64 d] w fun e w' => e = .returned (.bool true) ∧ w' = w) (ha : ∀ w, Calls Tryd.prog 25 #[.int .i64 a] w fun e w' => e = .returned (.bool true) ∧ w' = w)
    (hbare : ∀ w, Calls Tryd.prog 26 #[.agg #[.string nm, .string F, .int .i64 m, .int .i64 n], .agg #[.int .i64 o, .int .i64 s, .int .i64 t, .int .i64 d, .int .i64 a, .int .i64 i]] w fun e w' => e = .returned (.int .u32 V) ∧ Below w.heap.size w w')
    (hrest : ∀ w, Calls Tryd.prog 27 #[.agg #[.string nm, .string F, .int .i64 m, .int .i64 n], .agg #[.int .i64 o, .int .i64 s, .int .i64 t, .int .i64 d, .int .i64 a, .int .i64 i]] w fun e w' => e = .returned (.agg #[.int .i64 0, .int .i64 s, .int .i64 t, .int .i64 d, .int .i64 a, .int .i64 i]) ∧ Below w.heap.size w w')
    (hq : same6 0 s t d a i 0 0 0 0 0 0 = q)
    (hend : (ok = false ∧ q = false) ∨ (ok = false ∧ q = true ∧ decide (i < (-32768)) = true) ∨ (ok = false ∧ q = true ∧ decide (i < (-32768)) = false ∧ decide (i > 32767) = true) ∨ (ok = true ∧ q = true ∧ decide (i < (-32768)) = false ∧ decide (i > 32767) = false)) (w : World) :
    Calls Tryd.prog 16 #[.agg #[.int .i64 o, .int .i64 s, .int .i64 t, .int .i64 d, .int .i64 a, .int .i64 i]] w fun e w' => e = .returned (if ok then .tuple #[.int .u32 V, .int .i64 0] else .tuple #[.int .u32 0, .int .i64 40]) ∧ Below w.heap.size w w' := by
  have hne := fun w => neq24 0 s t d a i 0 0 0 0 0 0 w
  rw [hq] at hne
  clear hq
  go_enter Tryd.func16, Tryd.ntmps16
  go_wp2_with fail
  have g0 := grow w (.cells #[.int .i64 o, .int .i64 s, .int .i64 t, .int .i64 d, .int .i64 a, .int .i64 i] 32)
  have k0 := cell6 w 32 (.int .i64 o) (.int .i64 s) (.int .i64 t) (.int .i64 d) (.int .i64 a) (.int .i64 i)
  refine (hA _).mono ?_
  rintro e w1 ⟨rfl, h1⟩
  have k1 := k0.on h1
  have b1 := onto g0 h1
  clear k0 g0 h1 hA
  have z1 := cell_in k1.c0
  have k1' := id k1
  obtain ⟨x0, x1, x2, x3, x4, x5⟩ := k1'
  go_wp2_with fail
  refine (hs _).mono ?_
  rintro e w' ⟨rfl, rfl⟩
  go_wp2_with fail
  refine (ht _).mono ?_
  rintro e w' ⟨rfl, rfl⟩
  go_wp2_with fail
  refine (hd _).mono ?_
  rintro e w' ⟨rfl, rfl⟩
  go_wp2_with fail
  refine (ha _).mono ?_
  rintro e w' ⟨rfl, rfl⟩
  clear hs ht hd ha
  go_wp2_with fail
  have g2 := grow w1 (.cells #[.string nm, .string F, .int .i64 m, .int .i64 n] 37)
  have g3 := grow (w1.alloc (.cells #[.string nm, .string F, .int .i64 m, .int .i64 n] 37)) (.cells #[.int .i64 0, .int .i64 s, .int .i64 t, .int .i64 d, .int .i64 a, .int .i64 i] 32)
  have k3 := (k1.on g2).on g3
  have r3 := (cell4 w1 37 (.string nm) (.string F) (.int .i64 m) (.int .i64 n)).on g3
  have c3 := cell6 (w1.alloc (.cells #[.string nm, .string F, .int .i64 m, .int .i64 n] 37)) 32 (.int .i64 0) (.int .i64 s) (.int .i64 t) (.int .i64 d) (.int .i64 a) (.int .i64 i)
  have b3 := onto (onto b1 g2) g3
  have f3 : ∀ o, ((w1.alloc (.cells #[.string nm, .string F, .int .i64 m, .int .i64 n] 37)).alloc (.cells #[.int .i64 0, .int .i64 s, .int .i64 t, .int .i64 d, .int .i64 a, .int .i64 i] 32)).frozen? ⟨w1.heap.size + 1, o, none⟩ = false := by intro o; simp [go_sem]
  rw [show (w1.alloc (.cells #[.string nm, .string F, .int .i64 m, .int .i64 n] 37)).heap.size = w1.heap.size + 1 by simp] at c3
  have zw : w.heap.size ≤ w1.heap.size + 1 := by omega
  have zk : w.heap.size ≠ w1.heap.size + 1 := by omega
  have zr : w1.heap.size ≠ w1.heap.size + 1 := by omega
  clear g2 g3 k1 b1 x0 x1 x2 x3 x4 x5
  generalize (w1.alloc (.cells #[.string nm, .string F, .int .i64 m, .int .i64 n] 37)).alloc (.cells #[.int .i64 0, .int .i64 s, .int .i64 t, .int .i64 d, .int .i64 a, .int .i64 i] 32) = W3 at *
  generalize w1.heap.size + 1 = C at *
  generalize w1.heap.size = R at *
  clear z1
  clear w1
  have k4 := id k3
  have r4 := id r3
  have c4 := id c3
  obtain ⟨x0, x1, x2, x3, x4, x5⟩ := k4
  obtain ⟨y0, y1, y2, y3⟩ := r4
  obtain ⟨u0, u1, u2, u3, u4, u5⟩ := c4
  go_quiet (fail)
  go_wp2_with fail
  refine (hbare _).mono ?_
  rintro e w5 ⟨rfl, h5⟩
  have hh : Below W3.heap.size W3 w5 := onto (below_drewN (Below.refl _ _) _) h5
  have k5 := k3.on hh
  have r5 := r3.on hh
  have c5 := c3.on hh
  have f5 : ∀ o, w5.frozen? ⟨C, o, none⟩ = false := fun o => by rw [(bcell hh).2 _ _ (cell_in u0), f3]
  have b5 := onto b3 hh
  clear h5 hh k3 r3 c3 f3 b3 x0 x1 x2 x3 x4 x5 y0 y1 y2 y3 u0 u1 u2 u3 u4 u5 hbare
  have k6 := id k5
  have r6 := id r5
  obtain ⟨x0, x1, x2, x3, x4, x5⟩ := k6
  obtain ⟨y0, y1, y2, y3⟩ := r6
  go_wp2_with fail
  refine (hrest _).mono ?_
  rintro e w6 ⟨rfl, h6⟩
  have f6 : ∀ o, w6.frozen? ⟨C, o, none⟩ = false := fun o => by rw [(bcell h6).2 _ _ (cell_in c5.c0), f5]
  have b6 := onto b5 h6
  have k7 := k5.on h6
  have c7 := c5.on h6
  clear h6 k5 r5 c5 f5 b5 x0 x1 x2 x3 x4 x5 y0 y1 y2 y3 hrest
  clear w5 W3
  obtain ⟨x0, x1, x2, x3, x4, x5⟩ := k7
  obtain ⟨u0, u1, u2, u3, u4, u5⟩ := c7
  rcases hend with ⟨rfl, rfl⟩ | ⟨rfl, rfl, e1⟩ | ⟨rfl, rfl, e1, e2⟩ | ⟨rfl, rfl, e1, e2⟩
  all_goals
    go_wp2
    go_ret2
    exact ⟨rfl, set6 b6 zw⟩

set_option maxHeartbeats 4000000 in
theorem renc_C0 {nm F : ByteArray} {m n o s t d a i V L U : Int} {q ok : Bool} (hF : F.toList = [67, 48]) (n1 : ¬ nm.toList = []) (n2 : nm.toList.isEmpty = false)
    (hA : ∀ w, Calls Tryd.prog 9 #[.int .i64 o] w fun e w' => e = .returned (.agg #[.string nm, .string F, .int .i64 m, .int .i64 n]) ∧ Below w.heap.size w w')
    (hs : ∀ w, Calls Tryd.prog 25 #[.int .i64 s] w fun e w' => e = .returned (.bool true) ∧ w' = w) (ht : ∀ w, Calls Tryd.prog 25 #[.int .i64 t] w fun e w' => e = .returned (.bool true) ∧ w' = w)
    (hd : ∀ w, Calls Tryd.prog 25 #[.int .i64 d] w fun e w' => e = .returned (.bool true) ∧ w' = w) (ha : ∀ w, Calls Tryd.prog 25 #[.int .i64 a] w fun e w' => e = .returned (.bool true) ∧ w' = w)
    (hbare : ∀ w, Calls Tryd.prog 26 #[.agg #[.string nm, .string F, .int .i64 m, .int .i64 n], .agg #[.int .i64 o, .int .i64 s, .int .i64 t, .int .i64 d, .int .i64 a, .int .i64 i]] w fun e w' => e = .returned (.int .u32 V) ∧ Below w.heap.size w w')
    (hrest : ∀ w, Calls Tryd.prog 27 #[.agg #[.string nm, .string F, .int .i64 m, .int .i64 n], .agg #[.int .i64 o, .int .i64 s, .int .i64 t, .int .i64 d, .int .i64 a, .int .i64 i]] w fun e w' => e = .returned (.agg #[.int .i64 0, .int .i64 s, .int .i64 0, .int .i64 0, .int .i64 a, .int .i64 i]) ∧ Below w.heap.size w w')
    (hq : same6 0 s 0 0 a i 0 0 0 0 0 0 = q)
    (hend : (ok = false ∧ q = false) ∨ (ok = false ∧ q = true ∧ decide (i < (-32768)) = true) ∨ (ok = false ∧ q = true ∧ decide (i < (-32768)) = false ∧ decide (i > 32767) = true) ∨ (ok = true ∧ q = true ∧ decide (i < (-32768)) = false ∧ decide (i > 32767) = false)) (w : World) :
    Calls Tryd.prog 16 #[.agg #[.int .i64 o, .int .i64 s, .int .i64 t, .int .i64 d, .int .i64 a, .int .i64 i]] w fun e w' => e = .returned (if ok then .tuple #[.int .u32 V, .int .i64 0] else .tuple #[.int .u32 0, .int .i64 40]) ∧ Below w.heap.size w w' := by
  have hne := fun w => neq24 0 s 0 0 a i 0 0 0 0 0 0 w
  rw [hq] at hne
  clear hq
  go_enter Tryd.func16, Tryd.ntmps16
  go_wp2_with fail
  have g0 := grow w (.cells #[.int .i64 o, .int .i64 s, .int .i64 t, .int .i64 d, .int .i64 a, .int .i64 i] 32)
  have k0 := cell6 w 32 (.int .i64 o) (.int .i64 s) (.int .i64 t) (.int .i64 d) (.int .i64 a) (.int .i64 i)
  refine (hA _).mono ?_
  rintro e w1 ⟨rfl, h1⟩
  have k1 := k0.on h1
  have b1 := onto g0 h1
  clear k0 g0 h1 hA
  have z1 := cell_in k1.c0
  have k1' := id k1
  obtain ⟨x0, x1, x2, x3, x4, x5⟩ := k1'
  go_wp2_with fail
  refine (hs _).mono ?_
  rintro e w' ⟨rfl, rfl⟩
  go_wp2_with fail
  refine (ht _).mono ?_
  rintro e w' ⟨rfl, rfl⟩
  go_wp2_with fail
  refine (hd _).mono ?_
  rintro e w' ⟨rfl, rfl⟩
  go_wp2_with fail
  refine (ha _).mono ?_
  rintro e w' ⟨rfl, rfl⟩
  clear hs ht hd ha
  go_wp2_with fail
  have g2 := grow w1 (.cells #[.string nm, .string F, .int .i64 m, .int .i64 n] 37)
  have g3 := grow (w1.alloc (.cells #[.string nm, .string F, .int .i64 m, .int .i64 n] 37)) (.cells #[.int .i64 0, .int .i64 s, .int .i64 t, .int .i64 d, .int .i64 a, .int .i64 i] 32)
  have k3 := (k1.on g2).on g3
  have r3 := (cell4 w1 37 (.string nm) (.string F) (.int .i64 m) (.int .i64 n)).on g3
  have c3 := cell6 (w1.alloc (.cells #[.string nm, .string F, .int .i64 m, .int .i64 n] 37)) 32 (.int .i64 0) (.int .i64 s) (.int .i64 t) (.int .i64 d) (.int .i64 a) (.int .i64 i)
  have b3 := onto (onto b1 g2) g3
  have f3 : ∀ o, ((w1.alloc (.cells #[.string nm, .string F, .int .i64 m, .int .i64 n] 37)).alloc (.cells #[.int .i64 0, .int .i64 s, .int .i64 t, .int .i64 d, .int .i64 a, .int .i64 i] 32)).frozen? ⟨w1.heap.size + 1, o, none⟩ = false := by intro o; simp [go_sem]
  rw [show (w1.alloc (.cells #[.string nm, .string F, .int .i64 m, .int .i64 n] 37)).heap.size = w1.heap.size + 1 by simp] at c3
  have zw : w.heap.size ≤ w1.heap.size + 1 := by omega
  have zk : w.heap.size ≠ w1.heap.size + 1 := by omega
  have zr : w1.heap.size ≠ w1.heap.size + 1 := by omega
  clear g2 g3 k1 b1 x0 x1 x2 x3 x4 x5
  generalize (w1.alloc (.cells #[.string nm, .string F, .int .i64 m, .int .i64 n] 37)).alloc (.cells #[.int .i64 0, .int .i64 s, .int .i64 t, .int .i64 d, .int .i64 a, .int .i64 i] 32) = W3 at *
  generalize w1.heap.size + 1 = C at *
  generalize w1.heap.size = R at *
  clear z1
  clear w1
  have k4 := id k3
  have r4 := id r3
  have c4 := id c3
  obtain ⟨x0, x1, x2, x3, x4, x5⟩ := k4
  obtain ⟨y0, y1, y2, y3⟩ := r4
  obtain ⟨u0, u1, u2, u3, u4, u5⟩ := c4
  go_quiet (fail)
  go_wp2_with fail
  refine (hbare _).mono ?_
  rintro e w5 ⟨rfl, h5⟩
  have hh : Below W3.heap.size W3 w5 := onto (below_drewN (Below.refl _ _) _) h5
  have k5 := k3.on hh
  have r5 := r3.on hh
  have c5 := c3.on hh
  have f5 : ∀ o, w5.frozen? ⟨C, o, none⟩ = false := fun o => by rw [(bcell hh).2 _ _ (cell_in u0), f3]
  have b5 := onto b3 hh
  clear h5 hh k3 r3 c3 f3 b3 x0 x1 x2 x3 x4 x5 y0 y1 y2 y3 u0 u1 u2 u3 u4 u5 hbare
  have k6 := id k5
  have r6 := id r5
  obtain ⟨x0, x1, x2, x3, x4, x5⟩ := k6
  obtain ⟨y0, y1, y2, y3⟩ := r6
  go_wp2_with fail
  refine (hrest _).mono ?_
  rintro e w6 ⟨rfl, h6⟩
  have f6 : ∀ o, w6.frozen? ⟨C, o, none⟩ = false := fun o => by rw [(bcell h6).2 _ _ (cell_in c5.c0), f5]
  have b6 := onto b5 h6
  have k7 := k5.on h6
  have c7 := c5.on h6
  clear h6 k5 r5 c5 f5 b5 x0 x1 x2 x3 x4 x5 y0 y1 y2 y3 hrest
  clear w5 W3
  obtain ⟨x0, x1, x2, x3, x4, x5⟩ := k7
  obtain ⟨u0, u1, u2, u3, u4, u5⟩ := c7
  rcases hend with ⟨rfl, rfl⟩ | ⟨rfl, rfl, e1⟩ | ⟨rfl, rfl, e1, e2⟩ | ⟨rfl, rfl, e1, e2⟩
  all_goals
    go_wp2
    go_ret2
    exact ⟨rfl, set6 b6 zw⟩

set_option maxHeartbeats 4000000 in
theorem renc_N {nm F : ByteArray} {m n o s t d a i V L U : Int} {q ok : Bool} (hF : F.toList = [78]) (n1 : ¬ nm.toList = []) (n2 : nm.toList.isEmpty = false)
    (hA : ∀ w, Calls Tryd.prog 9 #[.int .i64 o] w fun e w' => e = .returned (.agg #[.string nm, .string F, .int .i64 m, .int .i64 n]) ∧ Below w.heap.size w w')
    (hs : ∀ w, Calls Tryd.prog 25 #[.int .i64 s] w fun e w' => e = .returned (.bool true) ∧ w' = w) (ht : ∀ w, Calls Tryd.prog 25 #[.int .i64 t] w fun e w' => e = .returned (.bool true) ∧ w' = w)
    (hd : ∀ w, Calls Tryd.prog 25 #[.int .i64 d] w fun e w' => e = .returned (.bool true) ∧ w' = w) (ha : ∀ w, Calls Tryd.prog 25 #[.int .i64 a] w fun e w' => e = .returned (.bool true) ∧ w' = w)
    (hbare : ∀ w, Calls Tryd.prog 26 #[.agg #[.string nm, .string F, .int .i64 m, .int .i64 n], .agg #[.int .i64 o, .int .i64 s, .int .i64 t, .int .i64 d, .int .i64 a, .int .i64 i]] w fun e w' => e = .returned (.int .u32 V) ∧ Below w.heap.size w w')
    (hrest : ∀ w, Calls Tryd.prog 27 #[.agg #[.string nm, .string F, .int .i64 m, .int .i64 n], .agg #[.int .i64 o, .int .i64 s, .int .i64 t, .int .i64 d, .int .i64 a, .int .i64 i]] w fun e w' => e = .returned (.agg #[.int .i64 0, .int .i64 s, .int .i64 t, .int .i64 d, .int .i64 a, .int .i64 i]) ∧ Below w.heap.size w w')
    (hq : same6 0 s t d a i 0 0 0 0 0 0 = q)
    (hend : (ok = false ∧ q = false) ∨ (ok = false ∧ q = true ∧ decide (i < (-32768)) = true) ∨ (ok = false ∧ q = true ∧ decide (i < (-32768)) = false ∧ decide (i > 32767) = true) ∨ (ok = true ∧ q = true ∧ decide (i < (-32768)) = false ∧ decide (i > 32767) = false)) (w : World) :
    Calls Tryd.prog 16 #[.agg #[.int .i64 o, .int .i64 s, .int .i64 t, .int .i64 d, .int .i64 a, .int .i64 i]] w fun e w' => e = .returned (if ok then .tuple #[.int .u32 V, .int .i64 0] else .tuple #[.int .u32 0, .int .i64 40]) ∧ Below w.heap.size w w' := by
  have hne := fun w => neq24 0 s t d a i 0 0 0 0 0 0 w
  rw [hq] at hne
  clear hq
  go_enter Tryd.func16, Tryd.ntmps16
  go_wp2_with fail
  have g0 := grow w (.cells #[.int .i64 o, .int .i64 s, .int .i64 t, .int .i64 d, .int .i64 a, .int .i64 i] 32)
  have k0 := cell6 w 32 (.int .i64 o) (.int .i64 s) (.int .i64 t) (.int .i64 d) (.int .i64 a) (.int .i64 i)
  refine (hA _).mono ?_
  rintro e w1 ⟨rfl, h1⟩
  have k1 := k0.on h1
  have b1 := onto g0 h1
  clear k0 g0 h1 hA
  have z1 := cell_in k1.c0
  have k1' := id k1
  obtain ⟨x0, x1, x2, x3, x4, x5⟩ := k1'
  go_wp2_with fail
  refine (hs _).mono ?_
  rintro e w' ⟨rfl, rfl⟩
  go_wp2_with fail
  refine (ht _).mono ?_
  rintro e w' ⟨rfl, rfl⟩
  go_wp2_with fail
  refine (hd _).mono ?_
  rintro e w' ⟨rfl, rfl⟩
  go_wp2_with fail
  refine (ha _).mono ?_
  rintro e w' ⟨rfl, rfl⟩
  clear hs ht hd ha
  go_wp2_with fail
  have g2 := grow w1 (.cells #[.string nm, .string F, .int .i64 m, .int .i64 n] 37)
  have g3 := grow (w1.alloc (.cells #[.string nm, .string F, .int .i64 m, .int .i64 n] 37)) (.cells #[.int .i64 0, .int .i64 s, .int .i64 t, .int .i64 d, .int .i64 a, .int .i64 i] 32)
  have k3 := (k1.on g2).on g3
  have r3 := (cell4 w1 37 (.string nm) (.string F) (.int .i64 m) (.int .i64 n)).on g3
  have c3 := cell6 (w1.alloc (.cells #[.string nm, .string F, .int .i64 m, .int .i64 n] 37)) 32 (.int .i64 0) (.int .i64 s) (.int .i64 t) (.int .i64 d) (.int .i64 a) (.int .i64 i)
  have b3 := onto (onto b1 g2) g3
  have f3 : ∀ o, ((w1.alloc (.cells #[.string nm, .string F, .int .i64 m, .int .i64 n] 37)).alloc (.cells #[.int .i64 0, .int .i64 s, .int .i64 t, .int .i64 d, .int .i64 a, .int .i64 i] 32)).frozen? ⟨w1.heap.size + 1, o, none⟩ = false := by intro o; simp [go_sem]
  rw [show (w1.alloc (.cells #[.string nm, .string F, .int .i64 m, .int .i64 n] 37)).heap.size = w1.heap.size + 1 by simp] at c3
  have zw : w.heap.size ≤ w1.heap.size + 1 := by omega
  have zk : w.heap.size ≠ w1.heap.size + 1 := by omega
  have zr : w1.heap.size ≠ w1.heap.size + 1 := by omega
  clear g2 g3 k1 b1 x0 x1 x2 x3 x4 x5
  generalize (w1.alloc (.cells #[.string nm, .string F, .int .i64 m, .int .i64 n] 37)).alloc (.cells #[.int .i64 0, .int .i64 s, .int .i64 t, .int .i64 d, .int .i64 a, .int .i64 i] 32) = W3 at *
  generalize w1.heap.size + 1 = C at *
  generalize w1.heap.size = R at *
  clear z1
  clear w1
  have k4 := id k3
  have r4 := id r3
  have c4 := id c3
  obtain ⟨x0, x1, x2, x3, x4, x5⟩ := k4
  obtain ⟨y0, y1, y2, y3⟩ := r4
  obtain ⟨u0, u1, u2, u3, u4, u5⟩ := c4
  go_quiet (fail)
  go_wp2_with fail
  refine (hbare _).mono ?_
  rintro e w5 ⟨rfl, h5⟩
  have hh : Below W3.heap.size W3 w5 := onto (below_drewN (Below.refl _ _) _) h5
  have k5 := k3.on hh
  have r5 := r3.on hh
  have c5 := c3.on hh
  have f5 : ∀ o, w5.frozen? ⟨C, o, none⟩ = false := fun o => by rw [(bcell hh).2 _ _ (cell_in u0), f3]
  have b5 := onto b3 hh
  clear h5 hh k3 r3 c3 f3 b3 x0 x1 x2 x3 x4 x5 y0 y1 y2 y3 u0 u1 u2 u3 u4 u5 hbare
  have k6 := id k5
  have r6 := id r5
  obtain ⟨x0, x1, x2, x3, x4, x5⟩ := k6
  obtain ⟨y0, y1, y2, y3⟩ := r6
  go_wp2_with fail
  refine (hrest _).mono ?_
  rintro e w6 ⟨rfl, h6⟩
  have f6 : ∀ o, w6.frozen? ⟨C, o, none⟩ = false := fun o => by rw [(bcell h6).2 _ _ (cell_in c5.c0), f5]
  have b6 := onto b5 h6
  have k7 := k5.on h6
  have c7 := c5.on h6
  clear h6 k5 r5 c5 f5 b5 x0 x1 x2 x3 x4 x5 y0 y1 y2 y3 hrest
  clear w5 W3
  obtain ⟨x0, x1, x2, x3, x4, x5⟩ := k7
  obtain ⟨u0, u1, u2, u3, u4, u5⟩ := c7
  rcases hend with ⟨rfl, rfl⟩ | ⟨rfl, rfl, e1⟩ | ⟨rfl, rfl, e1, e2⟩ | ⟨rfl, rfl, e1, e2⟩
  all_goals
    go_wp2
    go_ret2
    exact ⟨rfl, set6 b6 zw⟩

end Go.Proofs.YtbgklaahmmfpjaaDoor.De
