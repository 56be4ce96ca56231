/- What the document's Encode answers: the forms B2, I, M, IU. -/
import Derived.Test.YtbgklaahmmfpjaaDoorQDecRef2
namespace Go.Proofs.YtbgklaahmmfpjaaDoor.De
open Go.RowKit
set_option linter.unusedVariables false
set_option maxRecDepth 100000

set_option maxHeartbeats 4000000 in
theorem renc_B2 {nm F : ByteArray} {m n o s t d a i V L U : Int} {q ok : Bool} (hF : F.toList = [66, 50]) (n1 : ¬ nm.toList = []) (n2 : nm.toList.isEmpty = false)
    (hA : ∀ w, Calls Tryd.prog 9 #[.int .i64 o] w fun e w' => e = .returned (.agg #[.string nm, .string F, .int .i64 m, .int .i64 n]) ∧ Below w.heap.size w w')
    (hs : ∀ w, Calls Tryd.prog 25 #[.int .i64 s] w fun e w' => e = .returned (.bool true) ∧ w' = w) (ht : ∀ w, Calls Tryd.prog 25 #[.int .i64 t] w fun e w' => e = .returned (.bool true) ∧ w' = w)
    (hd : ∀ w, Calls Tryd.prog 25 #[.int .i64 d] w fun e w' => e = .returned (.bool true) ∧ w' = w) (ha : ∀ w, Calls Tryd.prog 25 #[.int .i64 a] w fun e w' => e = .returned (.bool true) ∧ w' = w)
    (hword : ∀ w, Calls Tryd.prog 29 #[.int .i64 m, .int .i64 s, .int .i64 t, .int .i64 0, .int .i64 0, .int .i64 0] w fun e w' => e = .returned (.int .u32 U) ∧ Below w.heap.size w w')
    (hlow : ∀ w, Calls Tryd.prog 28 #[.int .i64 i, .int .i64 65536] w fun e w' => e = .returned (.int .i64 L) ∧ Below w.heap.size w w') (hV : IntKind.u32.wrap (U + IntKind.u32.wrap L) = V)
    (hq : same6 0 0 0 d a 0 0 0 0 0 0 0 = q)
    (hend : (ok = false ∧ q = false) ∨ (ok = false ∧ q = true ∧ decide (i < (-32768)) = true) ∨ (ok = false ∧ q = true ∧ decide (i < (-32768)) = false ∧ decide (i > 32767) = true) ∨ (ok = true ∧ q = true ∧ decide (i < (-32768)) = false ∧ decide (i > 32767) = false)) (w : World) :
    Calls Tryd.prog 16 #[.agg #[.int .i64 o, .int .i64 s, .int .i64 t, .int .i64 d, .int .i64 a, .int .i64 i]] w fun e w' => e = .returned (if ok then .tuple #[.int .u32 V, .int .i64 0] else .tuple #[.int .u32 0, .int .i64 40]) ∧ Below w.heap.size w w' := by
  have hne := fun w => neq24 0 0 0 d a 0 0 0 0 0 0 0 w
  rw [hq] at hne
  clear hq
  go_enter Tryd.func16, Tryd.ntmps16
  go_wp2_with fail
  have g0 := grow w (.cells #[.int .i64 o, .int .i64 s, .int .i64 t, .int .i64 d, .int .i64 a, .int .i64 i] 32)
  have k0 := cell6 w 32 (.int .i64 o) (.int .i64 s) (.int .i64 t) (.int .i64 d) (.int .i64 a) (.int .i64 i)
  refine (hA _).mono ?_
  rintro e w1 ⟨rfl, h1⟩
  have k1 := k0.on h1
  have b1 := onto g0 h1
  clear k0 g0 h1 hA
  have z1 := cell_in k1.c0
  have k1' := id k1
  obtain ⟨x0, x1, x2, x3, x4, x5⟩ := k1'
  go_wp2_with fail
  refine (hs _).mono ?_
  rintro e w' ⟨rfl, rfl⟩
  go_wp2_with fail
  refine (ht _).mono ?_
  rintro e w' ⟨rfl, rfl⟩
  go_wp2_with fail
  refine (hd _).mono ?_
  rintro e w' ⟨rfl, rfl⟩
  go_wp2_with fail
  refine (ha _).mono ?_
  rintro e w' ⟨rfl, rfl⟩
  clear hs ht hd ha
  go_wp2_with fail
  have g2 := grow w1 (.cells #[.string nm, .string F, .int .i64 m, .int .i64 n] 37)
  have g3 := grow (w1.alloc (.cells #[.string nm, .string F, .int .i64 m, .int .i64 n] 37)) (.cells #[.int .i64 0, .int .i64 s, .int .i64 t, .int .i64 d, .int .i64 a, .int .i64 i] 32)
  have k3 := (k1.on g2).on g3
  have r3 := (cell4 w1 37 (.string nm) (.string F) (.int .i64 m) (.int .i64 n)).on g3
  have c3 := cell6 (w1.alloc (.cells #[.string nm, .string F, .int .i64 m, .int .i64 n] 37)) 32 (.int .i64 0) (.int .i64 s) (.int .i64 t) (.int .i64 d) (.int .i64 a) (.int .i64 i)
  have b3 := onto (onto b1 g2) g3
  have f3 : ∀ o, ((w1.alloc (.cells #[.string nm, .string F, .int .i64 m, .int .i64 n] 37)).alloc (.cells #[.int .i64 0, .int .i64 s, .int .i64 t, .int .i64 d, .int .i64 a, .int .i64 i] 32)).frozen? ⟨w1.heap.size + 1, o, none⟩ = false := by intro o; simp [go_sem]
  rw [show (w1.alloc (.cells #[.string nm, .string F, .int .i64 m, .int .i64 n] 37)).heap.size = w1.heap.size + 1 by simp] at c3
  have zw : w.heap.size ≤ w1.heap.size + 1 := by omega
  have zk : w.heap.size ≠ w1.heap.size + 1 := by omega
  have zr : w1.heap.size ≠ w1.heap.size + 1 := by omega
  clear g2 g3 k1 b1 x0 x1 x2 x3 x4 x5
  generalize (w1.alloc (.cells #[.string nm, .string F, .int .i64 m, .int .i64 n] 37)).alloc (.cells #[.int .i64 0, .int .i64 s, .int .i64 t, .int .i64 d, .int .i64 a, .int .i64 i] 32) = W3 at *
  generalize w1.heap.size + 1 = C at *
  generalize w1.heap.size = R at *
  clear z1
  clear w1
  have k4 := id k3
  have r4 := id r3
  have c4 := id c3
  obtain ⟨x0, x1, x2, x3, x4, x5⟩ := k4
  obtain ⟨y0, y1, y2, y3⟩ := r4
  obtain ⟨u0, u1, u2, u3, u4, u5⟩ := c4
  go_quiet (fail)
  go_wp2_with fail
  have b4 := below_drewN b3 nq
  generalize hV4 : W3.drewN nq = V4 at *
  have ec : ∀ y, V4.cell? y = W3.cell? y := fun y => by rw [← hV4]; rfl
  have ef : ∀ y, V4.frozen? y = W3.frozen? y := fun y => by rw [← hV4]; rfl
  rw [← ec] at x0 x1 x2 x3 x4 x5 y0 y1 y2 y3 u0 u1 u2 u3 u4 u5
  have f4 : ∀ o, V4.frozen? ⟨C, o, none⟩ = false := fun o => by rw [ef, f3]
  clear ec ef hV4 b3 f3 k3 r3 c3
  clear W3
  have z0 := cell_in x0
  have z2 := cell_in y0
  have z3 := cell_in u0
  go_region_held3 (fun x => (∀ b o, b < V4.heap.size → x.cell? ⟨b, o, none⟩ = V4.cell? ⟨b, o, none⟩) ∧ Below V4.heap.size V4 x)
    (first | exact since_refl V4 | assumption)
    (first
      | (go_at_call 29; refine (hword _).mono ?_; rintro e w' ⟨rfl, hn⟩; have hT := since_on (by assumption) hn; clear hn)
      | (go_at_call 28; refine (hlow _).mono ?_; rintro e w' ⟨rfl, hn⟩; have hT := since_on (by assumption) hn; clear hn))
  have f9 := fun o => ((bcell hT.2).2 C o z3).trans (f4 o)
  have x9 := hT.1 w.heap.size
  have y9 := hT.1 R
  have u9 := hT.1 C
  have b9 := onto b4 hT.2
  have c0 := (u9 0 z3).trans u0
  have c1 := (u9 1 z3).trans u1
  have c2 := (u9 2 z3).trans u2
  have c3 := (u9 3 z3).trans u3
  have c4 := (u9 4 z3).trans u4
  have c5 := (u9 5 z3).trans u5
  have d5 := (x9 5 z0).trans x5
  have d1 := (y9 1 z2).trans y1
  clear x9 y9 u9 hT b4 f4 x0 x1 x2 x3 x4 x5 y0 y1 y2 y3 u0 u1 u2 u3 u4 u5 z0 z2 z3 hword hlow
  rcases hend with ⟨rfl, rfl⟩ | ⟨rfl, rfl, e1⟩ | ⟨rfl, rfl, e1, e2⟩ | ⟨rfl, rfl, e1, e2⟩
  all_goals
    go_wp2
    go_ret2
    exact ⟨rfl, (by repeat (first | exact b9 | apply Below.setCell _ zw))⟩

set_option maxHeartbeats 4000000 in
theorem renc_I {nm F : ByteArray} {m n o s t d a i V L U : Int} {q ok : Bool} (hF : F.toList = [73]) (n1 : ¬ nm.toList = []) (n2 : nm.toList.isEmpty = false)
    (hA : ∀ w, Calls Tryd.prog 9 #[.int .i64 o] w fun e w' => e = .returned (.agg #[.string nm, .string F, .int .i64 m, .int .i64 n]) ∧ Below w.heap.size w w')
    (hs : ∀ w, Calls Tryd.prog 25 #[.int .i64 s] w fun e w' => e = .returned (.bool true) ∧ w' = w) (ht : ∀ w, Calls Tryd.prog 25 #[.int .i64 t] w fun e w' => e = .returned (.bool true) ∧ w' = w)
    (hd : ∀ w, Calls Tryd.prog 25 #[.int .i64 d] w fun e w' => e = .returned (.bool true) ∧ w' = w) (ha : ∀ w, Calls Tryd.prog 25 #[.int .i64 a] w fun e w' => e = .returned (.bool true) ∧ w' = w)
    (hword : ∀ w, Calls Tryd.prog 29 #[.int .i64 m, .int .i64 s, .int .i64 t, .int .i64 0, .int .i64 0, .int .i64 0] w fun e w' => e = .returned (.int .u32 U) ∧ Below w.heap.size w w')
    (hlow : ∀ w, Calls Tryd.prog 28 #[.int .i64 i, .int .i64 65536] w fun e w' => e = .returned (.int .i64 L) ∧ Below w.heap.size w w') (hV : IntKind.u32.wrap (U + IntKind.u32.wrap L) = V)
    (hq : same6 0 0 0 d a 0 0 0 0 0 0 0 = q)
    (hend : (ok = false ∧ q = false) ∨ (ok = false ∧ q = true ∧ decide (i < (-32768)) = true) ∨ (ok = false ∧ q = true ∧ decide (i < (-32768)) = false ∧ decide (i > 32767) = true) ∨ (ok = true ∧ q = true ∧ decide (i < (-32768)) = false ∧ decide (i > 32767) = false)) (w : World) :
    Calls Tryd.prog 16 #[.agg #[.int .i64 o, .int .i64 s, .int .i64 t, .int .i64 d, .int .i64 a, .int .i64 i]] w fun e w' => e = .returned (if ok then .tuple #[.int .u32 V, .int .i64 0] else .tuple #[.int .u32 0, .int .i64 40]) ∧ Below w.heap.size w w' := by
  have hne := fun w => neq24 0 0 0 d a 0 0 0 0 0 0 0 w
  rw [hq] at hne
  clear hq
  go_enter Tryd.func16, Tryd.ntmps16
  go_wp2_with fail
  have g0 := grow w (.cells #[.int .i64 o, .int .i64 s, .int .i64 t, .int .i64 d, .int .i64 a, .int .i64 i] 32)
  have k0 := cell6 w 32 (.int .i64 o) (.int .i64 s) (.int .i64 t) (.int .i64 d) (.int .i64 a) (.int .i64 i)
  refine (hA _).mono ?_
  rintro e w1 ⟨rfl, h1⟩
  have k1 := k0.on h1
  have b1 := onto g0 h1
  clear k0 g0 h1 hA
  have z1 := cell_in k1.c0
  have k1' := id k1
  obtain ⟨x0, x1, x2, x3, x4, x5⟩ := k1'
  go_wp2_with fail
  refine (hs _).mono ?_
  rintro e w' ⟨rfl, rfl⟩
  go_wp2_with fail
  refine (ht _).mono ?_
  rintro e w' ⟨rfl, rfl⟩
  go_wp2_with fail
  refine (hd _).mono ?_
  rintro e w' ⟨rfl, rfl⟩
  go_wp2_with fail
  refine (ha _).mono ?_
  rintro e w' ⟨rfl, rfl⟩
  clear hs ht hd ha
  go_wp2_with fail
  have g2 := grow w1 (.cells #[.string nm, .string F, .int .i64 m, .int .i64 n] 37)
  have g3 := grow (w1.alloc (.cells #[.string nm, .string F, .int .i64 m, .int .i64 n] 37)) (.cells #[.int .i64 0, .int .i64 s, .int .i64 t, .int .i64 d, .int .i64 a, .int .i64 i] 32)
  have k3 := (k1.on g2).on g3
  have r3 := (cell4 w1 37 (.string nm) (.string F) (.int .i64 m) (.int .i64 n)).on g3
  have c3 := cell6 (w1.alloc (.cells #[.string nm, .string F, .int .i64 m, .int .i64 n] 37)) 32 (.int .i64 0) (.int .i64 s) (.int .i64 t) (.int .i64 d) (.int .i64 a) (.int .i64 i)
  have b3 := onto (onto b1 g2) g3
  have f3 : ∀ o, ((w1.alloc (.cells #[.string nm, .string F, .int .i64 m, .int .i64 n] 37)).alloc (.cells #[.int .i64 0, .int .i64 s, .int .i64 t, .int .i64 d, .int .i64 a, .int .i64 i] 32)).frozen? ⟨w1.heap.size + 1, o, none⟩ = false := by intro o; simp [go_sem]
  rw [show (w1.alloc (.cells #[.string nm, .string F, .int .i64 m, .int .i64 n] 37)).heap.size = w1.heap.size + 1 by simp] at c3
  have zw : w.heap.size ≤ w1.heap.size + 1 := by omega
  have zk : w.heap.size ≠ w1.heap.size + 1 := by omega
  have zr : w1.heap.size ≠ w1.heap.size + 1 := by omega
  clear g2 g3 k1 b1 x0 x1 x2 x3 x4 x5
  generalize (w1.alloc (.cells #[.string nm, .string F, .int .i64 m, .int .i64 n] 37)).alloc (.cells #[.int .i64 0, .int .i64 s, .int .i64 t, .int .i64 d, .int .i64 a, .int .i64 i] 32) = W3 at *
  generalize w1.heap.size + 1 = C at *
  generalize w1.heap.size = R at *
  clear z1
  clear w1
  have k4 := id k3
  have r4 := id r3
  have c4 := id c3
  obtain ⟨x0, x1, x2, x3, x4, x5⟩ := k4
  obtain ⟨y0, y1, y2, y3⟩ := r4
  obtain ⟨u0, u1, u2, u3, u4, u5⟩ := c4
  go_quiet (fail)
  go_wp2_with fail
  have b4 := below_drewN b3 nq
  generalize hV4 : W3.drewN nq = V4 at *
  have ec : ∀ y, V4.cell? y = W3.cell? y := fun y => by rw [← hV4]; rfl
  have ef : ∀ y, V4.frozen? y = W3.frozen? y := fun y => by rw [← hV4]; rfl
  rw [← ec] at x0 x1 x2 x3 x4 x5 y0 y1 y2 y3 u0 u1 u2 u3 u4 u5
  have f4 : ∀ o, V4.frozen? ⟨C, o, none⟩ = false := fun o => by rw [ef, f3]
  clear ec ef hV4 b3 f3 k3 r3 c3
  clear W3
  have z0 := cell_in x0
  have z2 := cell_in y0
  have z3 := cell_in u0
  go_region_held3 (fun x => (∀ b o, b < V4.heap.size → x.cell? ⟨b, o, none⟩ = V4.cell? ⟨b, o, none⟩) ∧ Below V4.heap.size V4 x)
    (first | exact since_refl V4 | assumption)
    (first
      | (go_at_call 29; refine (hword _).mono ?_; rintro e w' ⟨rfl, hn⟩; have hT := since_on (by assumption) hn; clear hn)
      | (go_at_call 28; refine (hlow _).mono ?_; rintro e w' ⟨rfl, hn⟩; have hT := since_on (by assumption) hn; clear hn))
  have f9 := fun o => ((bcell hT.2).2 C o z3).trans (f4 o)
  have x9 := hT.1 w.heap.size
  have y9 := hT.1 R
  have u9 := hT.1 C
  have b9 := onto b4 hT.2
  have c0 := (u9 0 z3).trans u0
  have c1 := (u9 1 z3).trans u1
  have c2 := (u9 2 z3).trans u2
  have c3 := (u9 3 z3).trans u3
  have c4 := (u9 4 z3).trans u4
  have c5 := (u9 5 z3).trans u5
  have d5 := (x9 5 z0).trans x5
  have d1 := (y9 1 z2).trans y1
  clear x9 y9 u9 hT b4 f4 x0 x1 x2 x3 x4 x5 y0 y1 y2 y3 u0 u1 u2 u3 u4 u5 z0 z2 z3 hword hlow
  rcases hend with ⟨rfl, rfl⟩ | ⟨rfl, rfl, e1⟩ | ⟨rfl, rfl, e1, e2⟩ | ⟨rfl, rfl, e1, e2⟩
  all_goals
    go_wp2
    go_ret2
    exact ⟨rfl, (by repeat (first | exact b9 | apply Below.setCell _ zw))⟩

set_option maxHeartbeats 4000000 in
theorem renc_M {nm F : ByteArray} {m n o s t d a i V L U : Int} {q ok : Bool} (hF : F.toList = [77]) (n1 : ¬ nm.toList = []) (n2 : nm.toList.isEmpty = false)
    (hA : ∀ w, Calls Tryd.prog 9 #[.int .i64 o] w fun e w' => e = .returned (.agg #[.string nm, .string F, .int .i64 m, .int .i64 n]) ∧ Below w.heap.size w w')
    (hs : ∀ w, Calls Tryd.prog 25 #[.int .i64 s] w fun e w' => e = .returned (.bool true) ∧ w' = w) (ht : ∀ w, Calls Tryd.prog 25 #[.int .i64 t] w fun e w' => e = .returned (.bool true) ∧ w' = w)
    (hd : ∀ w, Calls Tryd.prog 25 #[.int .i64 d] w fun e w' => e = .returned (.bool true) ∧ w' = w) (ha : ∀ w, Calls Tryd.prog 25 #[.int .i64 a] w fun e w' => e = .returned (.bool true) ∧ w' = w)
    (hword : ∀ w, Calls Tryd.prog 29 #[.int .i64 m, .int .i64 s, .int .i64 t, .int .i64 0, .int .i64 0, .int .i64 0] w fun e w' => e = .returned (.int .u32 U) ∧ Below w.heap.size w w')
    (hlow : ∀ w, Calls Tryd.prog 28 #[.int .i64 i, .int .i64 65536] w fun e w' => e = .returned (.int .i64 L) ∧ Below w.heap.size w w') (hV : IntKind.u32.wrap (U + IntKind.u32.wrap L) = V)
    (hq : same6 0 0 0 d a 0 0 0 0 0 0 0 = q)
    (hend : (ok = false ∧ q = false) ∨ (ok = false ∧ q = true ∧ decide (i < (-32768)) = true) ∨ (ok = false ∧ q = true ∧ decide (i < (-32768)) = false ∧ decide (i > 32767) = true) ∨ (ok = true ∧ q = true ∧ decide (i < (-32768)) = false ∧ decide (i > 32767) = false)) (w : World) :
    Calls Tryd.prog 16 #[.agg #[.int .i64 o, .int .i64 s, .int .i64 t, .int .i64 d, .int .i64 a, .int .i64 i]] w fun e w' => e = .returned (if ok then .tuple #[.int .u32 V, .int .i64 0] else .tuple #[.int .u32 0, .int .i64 40]) ∧ Below w.heap.size w w' := by
  have hne := fun w => neq24 0 0 0 d a 0 0 0 0 0 0 0 w
  rw [hq] at hne
  clear hq
  go_enter Tryd.func16, Tryd.ntmps16
  go_wp2_with fail
  have g0 := grow w (.cells #[.int .i64 o, .int .i64 s, .int .i64 t, .int .i64 d, .int .i64 a, .int .i64 i] 32)
  have k0 := cell6 w 32 (.int .i64 o) (.int .i64 s) (.int .i64 t) (.int .i64 d) (.int .i64 a) (.int .i64 i)
  refine (hA _).mono ?_
  rintro e w1 ⟨rfl, h1⟩
  have k1 := k0.on h1
  have b1 := onto g0 h1
  clear k0 g0 h1 hA
  have z1 := cell_in k1.c0
  have k1' := id k1
  obtain ⟨x0, x1, x2, x3, x4, x5⟩ := k1'
  go_wp2_with fail
  refine (hs _).mono ?_
  rintro e w' ⟨rfl, rfl⟩
  go_wp2_with fail
  refine (ht _).mono ?_
  rintro e w' ⟨rfl, rfl⟩
  go_wp2_with fail
  refine (hd _).mono ?_
  rintro e w' ⟨rfl, rfl⟩
  go_wp2_with fail
  refine (ha _).mono ?_
  rintro e w' ⟨rfl, rfl⟩
  clear hs ht hd ha
  go_wp2_with fail
  have g2 := grow w1 (.cells #[.string nm, .string F, .int .i64 m, .int .i64 n] 37)
  have g3 := grow (w1.alloc (.cells #[.string nm, .string F, .int .i64 m, .int .i64 n] 37)) (.cells #[.int .i64 0, .int .i64 s, .int .i64 t, .int .i64 d, .int .i64 a, .int .i64 i] 32)
  have k3 := (k1.on g2).on g3
  have r3 := (cell4 w1 37 (.string nm) (.string F) (.int .i64 m) (.int .i64 n)).on g3
  have c3 := cell6 (w1.alloc (.cells #[.string nm, .string F, .int .i64 m, .int .i64 n] 37)) 32 (.int .i64 0) (.int .i64 s) (.int .i64 t) (.int .i64 d) (.int .i64 a) (.int .i64 i)
  have b3 := onto (onto b1 g2) g3
  have f3 : ∀ o, ((w1.alloc (.cells #[.string nm, .string F, .int .i64 m, .int .i64 n] 37)).alloc (.cells #[.int .i64 0, .int .i64 s, .int .i64 t, .int .i64 d, .int .i64 a, .int .i64 i] 32)).frozen? ⟨w1.heap.size + 1, o, none⟩ = false := by intro o; simp [go_sem]
  rw [show (w1.alloc (.cells #[.string nm, .string F, .int .i64 m, .int .i64 n] 37)).heap.size = w1.heap.size + 1 by simp] at c3
  have zw : w.heap.size ≤ w1.heap.size + 1 := by omega
  have zk : w.heap.size ≠ w1.heap.size + 1 := by omega
  have zr : w1.heap.size ≠ w1.heap.size + 1 := by omega
  clear g2 g3 k1 b1 x0 x1 x2 x3 x4 x5
  generalize (w1.alloc (.cells #[.string nm, .string F, .int .i64 m, .int .i64 n] 37)).alloc (.cells #[.int .i64 0, .int .i64 s, .int .i64 t, .int .i64 d, .int .i64 a, .int .i64 i] 32) = W3 at *
  generalize w1.heap.size + 1 = C at *
  generalize w1.heap.size = R at *
  clear z1
  clear w1
  have k4 := id k3
  have r4 := id r3
  have c4 := id c3
  obtain ⟨x0, x1, x2, x3, x4, x5⟩ := k4
  obtain ⟨y0, y1, y2, y3⟩ := r4
  obtain ⟨u0, u1, u2, u3, u4, u5⟩ := c4
  go_quiet (fail)
  go_wp2_with fail
  have b4 := below_drewN b3 nq
  generalize hV4 : W3.drewN nq = V4 at *
  have ec : ∀ y, V4.cell? y = W3.cell? y := fun y => by rw [← hV4]; rfl
  have ef : ∀ y, V4.frozen? y = W3.frozen? y := fun y => by rw [← hV4]; rfl
  rw [← ec] at x0 x1 x2 x3 x4 x5 y0 y1 y2 y3 u0 u1 u2 u3 u4 u5
  have f4 : ∀ o, V4.frozen? ⟨C, o, none⟩ = false := fun o => by rw [ef, f3]
  clear ec ef hV4 b3 f3 k3 r3 c3
  clear W3
  have z0 := cell_in x0
  have z2 := cell_in y0
  have z3 := cell_in u0
  go_region_held3 (fun x => (∀ b o, b < V4.heap.size → x.cell? ⟨b, o, none⟩ = V4.cell? ⟨b, o, none⟩) ∧ Below V4.heap.size V4 x)
    (first | exact since_refl V4 | assumption)
    (first
      | (go_at_call 29; refine (hword _).mono ?_; rintro e w' ⟨rfl, hn⟩; have hT := since_on (by assumption) hn; clear hn)
      | (go_at_call 28; refine (hlow _).mono ?_; rintro e w' ⟨rfl, hn⟩; have hT := since_on (by assumption) hn; clear hn))
  have f9 := fun o => ((bcell hT.2).2 C o z3).trans (f4 o)
  have x9 := hT.1 w.heap.size
  have y9 := hT.1 R
  have u9 := hT.1 C
  have b9 := onto b4 hT.2
  have c0 := (u9 0 z3).trans u0
  have c1 := (u9 1 z3).trans u1
  have c2 := (u9 2 z3).trans u2
  have c3 := (u9 3 z3).trans u3
  have c4 := (u9 4 z3).trans u4
  have c5 := (u9 5 z3).trans u5
  have d5 := (x9 5 z0).trans x5
  have d1 := (y9 1 z2).trans y1
  clear x9 y9 u9 hT b4 f4 x0 x1 x2 x3 x4 x5 y0 y1 y2 y3 u0 u1 u2 u3 u4 u5 z0 z2 z3 hword hlow
  rcases hend with ⟨rfl, rfl⟩ | ⟨rfl, rfl, e1⟩ | ⟨rfl, rfl, e1, e2⟩ | ⟨rfl, rfl, e1, e2⟩
  all_goals
    go_wp2
    go_ret2
    exact ⟨rfl, (by repeat (first | exact b9 | apply Below.setCell _ zw))⟩

set_option maxHeartbeats 4000000 in
theorem renc_IU {nm F : ByteArray} {m n o s t d a i V L U : Int} {q ok : Bool} (hF : F.toList = [73, 85]) (n1 : ¬ nm.toList = []) (n2 : nm.toList.isEmpty = false)
    (hA : ∀ w, Calls Tryd.prog 9 #[.int .i64 o] w fun e w' => e = .returned (.agg #[.string nm, .string F, .int .i64 m, .int .i64 n]) ∧ Below w.heap.size w w')
    (hs : ∀ w, Calls Tryd.prog 25 #[.int .i64 s] w fun e w' => e = .returned (.bool true) ∧ w' = w) (ht : ∀ w, Calls Tryd.prog 25 #[.int .i64 t] w fun e w' => e = .returned (.bool true) ∧ w' = w)
    (hd : ∀ w, Calls Tryd.prog 25 #[.int .i64 d] w fun e w' => e = .returned (.bool true) ∧ w' = w) (ha : ∀ w, Calls Tryd.prog 25 #[.int .i64 a] w fun e w' => e = .returned (.bool true) ∧ w' = w)
    (hword : ∀ w, Calls Tryd.prog 29 #[.int .i64 m, .int .i64 s, .int .i64 t, .int .i64 0, .int .i64 0, .int .i64 0] w fun e w' => e = .returned (.int .u32 U) ∧ Below w.heap.size w w')
    (hlow : ∀ w, Calls Tryd.prog 28 #[.int .i64 i, .int .i64 65536] w fun e w' => e = .returned (.int .i64 L) ∧ Below w.heap.size w w') (hV : IntKind.u32.wrap (U + IntKind.u32.wrap L) = V)
    (hq : same6 0 0 0 d a 0 0 0 0 0 0 0 = q)
    (hend : (ok = false ∧ q = false) ∨ (ok = false ∧ q = true ∧ decide (i < 0) = true) ∨ (ok = false ∧ q = true ∧ decide (i < 0) = false ∧ decide (i > 65535) = true) ∨ (ok = true ∧ q = true ∧ decide (i < 0) = false ∧ decide (i > 65535) = false)) (w : World) :
    Calls Tryd.prog 16 #[.agg #[.int .i64 o, .int .i64 s, .int .i64 t, .int .i64 d, .int .i64 a, .int .i64 i]] w fun e w' => e = .returned (if ok then .tuple #[.int .u32 V, .int .i64 0] else .tuple #[.int .u32 0, .int .i64 40]) ∧ Below w.heap.size w w' := by
  have hne := fun w => neq24 0 0 0 d a 0 0 0 0 0 0 0 w
  rw [hq] at hne
  clear hq
  go_enter Tryd.func16, Tryd.ntmps16
  go_wp2_with fail
  have g0 := grow w (.cells #[.int .i64 o, .int .i64 s, .int .i64 t, .int .i64 d, .int .i64 a, .int .i64 i] 32)
  have k0 := cell6 w 32 (.int .i64 o) (.int .i64 s) (.int .i64 t) (.int .i64 d) (.int .i64 a) (.int .i64 i)
  refine (hA _).mono ?_
  rintro e w1 ⟨rfl, h1⟩
  have k1 := k0.on h1
  have b1 := onto g0 h1
  clear k0 g0 h1 hA
  have z1 := cell_in k1.c0
  have k1' := id k1
  obtain ⟨x0, x1, x2, x3, x4, x5⟩ := k1'
  go_wp2_with fail
  refine (hs _).mono ?_
  rintro e w' ⟨rfl, rfl⟩
  go_wp2_with fail
  refine (ht _).mono ?_
  rintro e w' ⟨rfl, rfl⟩
  go_wp2_with fail
  refine (hd _).mono ?_
  rintro e w' ⟨rfl, rfl⟩
  go_wp2_with fail
  refine (ha _).mono ?_
  rintro e w' ⟨rfl, rfl⟩
  clear hs ht hd ha
  go_wp2_with fail
  have g2 := grow w1 (.cells #[.string nm, .string F, .int .i64 m, .int .i64 n] 37)
  have g3 := grow (w1.alloc (.cells #[.string nm, .string F, .int .i64 m, .int .i64 n] 37)) (.cells #[.int .i64 0, .int .i64 s, .int .i64 t, .int .i64 d, .int .i64 a, .int .i64 i] 32)
  have k3 := (k1.on g2).on g3
  have r3 := (cell4 w1 37 (.string nm) (.string F) (.int .i64 m) (.int .i64 n)).on g3
  have c3 := cell6 (w1.alloc (.cells #[.string nm, .string F, .int .i64 m, .int .i64 n] 37)) 32 (.int .i64 0) (.int .i64 s) (.int .i64 t) (.int .i64 d) (.int .i64 a) (.int .i64 i)
  have b3 := onto (onto b1 g2) g3
  have f3 : ∀ o, ((w1.alloc (.cells #[.string nm, .string F, .int .i64 m, .int .i64 n] 37)).alloc (.cells #[.int .i64 0, .int .i64 s, .int .i64 t, .int .i64 d, .int .i64 a, .int .i64 i] 32)).frozen? ⟨w1.heap.size + 1, o, none⟩ = false := by intro o; simp [go_sem]
  rw [show (w1.alloc (.cells #[.string nm, .string F, .int .i64 m, .int .i64 n] 37)).heap.size = w1.heap.size + 1 by simp] at c3
  have zw : w.heap.size ≤ w1.heap.size + 1 := by omega
  have zk : w.heap.size ≠ w1.heap.size + 1 := by omega
  have zr : w1.heap.size ≠ w1.heap.size + 1 := by omega
  clear g2 g3 k1 b1 x0 x1 x2 x3 x4 x5
  generalize (w1.alloc (.cells #[.string nm, .string F, .int .i64 m, .int .i64 n] 37)).alloc (.cells #[.int .i64 0, .int .i64 s, .int .i64 t, .int .i64 d, .int .i64 a, .int .i64 i] 32) = W3 at *
  generalize w1.heap.size + 1 = C at *
  generalize w1.heap.size = R at *
  clear z1
  clear w1
  have k4 := id k3
  have r4 := id r3
  have c4 := id c3
  obtain ⟨x0, x1, x2, x3, x4, x5⟩ := k4
  obtain ⟨y0, y1, y2, y3⟩ := r4
  obtain ⟨u0, u1, u2, u3, u4, u5⟩ := c4
  go_quiet (fail)
  go_wp2_with fail
  have b4 := below_drewN b3 nq
  generalize hV4 : W3.drewN nq = V4 at *
  have ec : ∀ y, V4.cell? y = W3.cell? y := fun y => by rw [← hV4]; rfl
  have ef : ∀ y, V4.frozen? y = W3.frozen? y := fun y => by rw [← hV4]; rfl
  rw [← ec] at x0 x1 x2 x3 x4 x5 y0 y1 y2 y3 u0 u1 u2 u3 u4 u5
  have f4 : ∀ o, V4.frozen? ⟨C, o, none⟩ = false := fun o => by rw [ef, f3]
  clear ec ef hV4 b3 f3 k3 r3 c3
  clear W3
  have z0 := cell_in x0
  have z2 := cell_in y0
  have z3 := cell_in u0
  go_region_held3 (fun x => (∀ b o, b < V4.heap.size → x.cell? ⟨b, o, none⟩ = V4.cell? ⟨b, o, none⟩) ∧ Below V4.heap.size V4 x)
    (first | exact since_refl V4 | assumption)
    (first
      | (go_at_call 29; refine (hword _).mono ?_; rintro e w' ⟨rfl, hn⟩; have hT := since_on (by assumption) hn; clear hn)
      | (go_at_call 28; refine (hlow _).mono ?_; rintro e w' ⟨rfl, hn⟩; have hT := since_on (by assumption) hn; clear hn))
  have f9 := fun o => ((bcell hT.2).2 C o z3).trans (f4 o)
  have x9 := hT.1 w.heap.size
  have y9 := hT.1 R
  have u9 := hT.1 C
  have b9 := onto b4 hT.2
  have c0 := (u9 0 z3).trans u0
  have c1 := (u9 1 z3).trans u1
  have c2 := (u9 2 z3).trans u2
  have c3 := (u9 3 z3).trans u3
  have c4 := (u9 4 z3).trans u4
  have c5 := (u9 5 z3).trans u5
  have d5 := (x9 5 z0).trans x5
  have d1 := (y9 1 z2).trans y1
  clear x9 y9 u9 hT b4 f4 x0 x1 x2 x3 x4 x5 y0 y1 y2 y3 u0 u1 u2 u3 u4 u5 z0 z2 z3 hword hlow
  rcases hend with ⟨rfl, rfl⟩ | ⟨rfl, rfl, e1⟩ | ⟨rfl, rfl, e1, e2⟩ | ⟨rfl, rfl, e1, e2⟩
  all_goals
    go_wp2
    go_ret2
    exact ⟨rfl, (by repeat (first | exact b9 | apply Below.setCell _ zw))⟩

end Go.Proofs.YtbgklaahmmfpjaaDoor.De
