/- Contracts of the document's word and rest of an instruction without a number, form by form. -/
import Derived.Test.YtjgidjcniladeaaGreatDoorDecRef2
namespace Go.Proofs.YtjgidjcniladeaaGreatDoor
open Go.RowKit
set_option linter.unusedVariables false

theorem bare_SH {nm F : ByteArray} {m n o s t d a i V : Int} (hF : F.toList = [83, 72])
    (hw : ∀ w, Calls Tryz.prog 34 #[.int .i64 m, .int .i64 0, .int .i64 t, .int .i64 d, .int .i64 a, .int .i64 n] w fun e w' => e = .returned (.int .u32 V) ∧ w' = w) (w : World) :
    Calls Tryz.prog 31 #[.agg #[.string nm, .string F, .int .i64 m, .int .i64 n], .agg #[.int .i64 o, .int .i64 s, .int .i64 t, .int .i64 d, .int .i64 a, .int .i64 i]] w fun e w' => e = .returned (.int .u32 V) ∧ Below w.heap.size w w' := by
  go_enter Tryz.func31, Tryz.ntmps31
  go_wp2_with fail
  have g0 := grow w (.cells #[.string nm, .string F, .int .i64 m, .int .i64 n] 41)
  have g1 := grow (w.alloc (.cells #[.string nm, .string F, .int .i64 m, .int .i64 n] 41)) (.cells #[.int .i64 o, .int .i64 s, .int .i64 t, .int .i64 d, .int .i64 a, .int .i64 i] 23)
  have p1 := (cell4 w 41 (.string nm) (.string F) (.int .i64 m) (.int .i64 n)).on g1
  have q1 := cell6 (w.alloc (.cells #[.string nm, .string F, .int .i64 m, .int .i64 n] 41)) 23 (.int .i64 o) (.int .i64 s) (.int .i64 t) (.int .i64 d) (.int .i64 a) (.int .i64 i)
  have b1 := onto g0 g1
  rw [show (w.alloc (.cells #[.string nm, .string F, .int .i64 m, .int .i64 n] 41)).heap.size = w.heap.size + 1 by simp] at q1
  clear g0 g1
  generalize (w.alloc (.cells #[.string nm, .string F, .int .i64 m, .int .i64 n] 41)).alloc (.cells #[.int .i64 o, .int .i64 s, .int .i64 t, .int .i64 d, .int .i64 a, .int .i64 i] 23) = W at *
  obtain ⟨x0, x1, x2, x3⟩ := p1
  obtain ⟨y0, y1, y2, y3, y4, y5⟩ := q1
  go_quiet (fail)
  go_wp2_with fail
  refine (hw _).mono ?_
  rintro e w' ⟨rfl, rfl⟩
  go_wp2
  go_ret
  exact ⟨rfl, below_drewN b1 _⟩

theorem bare_SV {nm F : ByteArray} {m n o s t d a i V : Int} (hF : F.toList = [83, 86])
    (hw : ∀ w, Calls Tryz.prog 34 #[.int .i64 m, .int .i64 s, .int .i64 t, .int .i64 d, .int .i64 0, .int .i64 n] w fun e w' => e = .returned (.int .u32 V) ∧ w' = w) (w : World) :
    Calls Tryz.prog 31 #[.agg #[.string nm, .string F, .int .i64 m, .int .i64 n], .agg #[.int .i64 o, .int .i64 s, .int .i64 t, .int .i64 d, .int .i64 a, .int .i64 i]] w fun e w' => e = .returned (.int .u32 V) ∧ Below w.heap.size w w' := by
  go_enter Tryz.func31, Tryz.ntmps31
  go_wp2_with fail
  have g0 := grow w (.cells #[.string nm, .string F, .int .i64 m, .int .i64 n] 41)
  have g1 := grow (w.alloc (.cells #[.string nm, .string F, .int .i64 m, .int .i64 n] 41)) (.cells #[.int .i64 o, .int .i64 s, .int .i64 t, .int .i64 d, .int .i64 a, .int .i64 i] 23)
  have p1 := (cell4 w 41 (.string nm) (.string F) (.int .i64 m) (.int .i64 n)).on g1
  have q1 := cell6 (w.alloc (.cells #[.string nm, .string F, .int .i64 m, .int .i64 n] 41)) 23 (.int .i64 o) (.int .i64 s) (.int .i64 t) (.int .i64 d) (.int .i64 a) (.int .i64 i)
  have b1 := onto g0 g1
  rw [show (w.alloc (.cells #[.string nm, .string F, .int .i64 m, .int .i64 n] 41)).heap.size = w.heap.size + 1 by simp] at q1
  clear g0 g1
  generalize (w.alloc (.cells #[.string nm, .string F, .int .i64 m, .int .i64 n] 41)).alloc (.cells #[.int .i64 o, .int .i64 s, .int .i64 t, .int .i64 d, .int .i64 a, .int .i64 i] 23) = W at *
  obtain ⟨x0, x1, x2, x3⟩ := p1
  obtain ⟨y0, y1, y2, y3, y4, y5⟩ := q1
  go_quiet (fail)
  go_wp2_with fail
  refine (hw _).mono ?_
  rintro e w' ⟨rfl, rfl⟩
  go_wp2
  go_ret
  exact ⟨rfl, below_drewN b1 _⟩

theorem bare_R {nm F : ByteArray} {m n o s t d a i V : Int} (hF : F.toList = [82])
    (hw : ∀ w, Calls Tryz.prog 34 #[.int .i64 m, .int .i64 s, .int .i64 t, .int .i64 d, .int .i64 0, .int .i64 n] w fun e w' => e = .returned (.int .u32 V) ∧ w' = w) (w : World) :
    Calls Tryz.prog 31 #[.agg #[.string nm, .string F, .int .i64 m, .int .i64 n], .agg #[.int .i64 o, .int .i64 s, .int .i64 t, .int .i64 d, .int .i64 a, .int .i64 i]] w fun e w' => e = .returned (.int .u32 V) ∧ Below w.heap.size w w' := by
  go_enter Tryz.func31, Tryz.ntmps31
  go_wp2_with fail
  have g0 := grow w (.cells #[.string nm, .string F, .int .i64 m, .int .i64 n] 41)
  have g1 := grow (w.alloc (.cells #[.string nm, .string F, .int .i64 m, .int .i64 n] 41)) (.cells #[.int .i64 o, .int .i64 s, .int .i64 t, .int .i64 d, .int .i64 a, .int .i64 i] 23)
  have p1 := (cell4 w 41 (.string nm) (.string F) (.int .i64 m) (.int .i64 n)).on g1
  have q1 := cell6 (w.alloc (.cells #[.string nm, .string F, .int .i64 m, .int .i64 n] 41)) 23 (.int .i64 o) (.int .i64 s) (.int .i64 t) (.int .i64 d) (.int .i64 a) (.int .i64 i)
  have b1 := onto g0 g1
  rw [show (w.alloc (.cells #[.string nm, .string F, .int .i64 m, .int .i64 n] 41)).heap.size = w.heap.size + 1 by simp] at q1
  clear g0 g1
  generalize (w.alloc (.cells #[.string nm, .string F, .int .i64 m, .int .i64 n] 41)).alloc (.cells #[.int .i64 o, .int .i64 s, .int .i64 t, .int .i64 d, .int .i64 a, .int .i64 i] 23) = W at *
  obtain ⟨x0, x1, x2, x3⟩ := p1
  obtain ⟨y0, y1, y2, y3, y4, y5⟩ := q1
  go_quiet (fail)
  go_wp2_with fail
  refine (hw _).mono ?_
  rintro e w' ⟨rfl, rfl⟩
  go_wp2
  go_ret
  exact ⟨rfl, below_drewN b1 _⟩

theorem bare_JR {nm F : ByteArray} {m n o s t d a i V : Int} (hF : F.toList = [74, 82])
    (hw : ∀ w, Calls Tryz.prog 34 #[.int .i64 m, .int .i64 s, .int .i64 0, .int .i64 0, .int .i64 0, .int .i64 n] w fun e w' => e = .returned (.int .u32 V) ∧ w' = w) (w : World) :
    Calls Tryz.prog 31 #[.agg #[.string nm, .string F, .int .i64 m, .int .i64 n], .agg #[.int .i64 o, .int .i64 s, .int .i64 t, .int .i64 d, .int .i64 a, .int .i64 i]] w fun e w' => e = .returned (.int .u32 V) ∧ Below w.heap.size w w' := by
  go_enter Tryz.func31, Tryz.ntmps31
  go_wp2_with fail
  have g0 := grow w (.cells #[.string nm, .string F, .int .i64 m, .int .i64 n] 41)
  have g1 := grow (w.alloc (.cells #[.string nm, .string F, .int .i64 m, .int .i64 n] 41)) (.cells #[.int .i64 o, .int .i64 s, .int .i64 t, .int .i64 d, .int .i64 a, .int .i64 i] 23)
  have p1 := (cell4 w 41 (.string nm) (.string F) (.int .i64 m) (.int .i64 n)).on g1
  have q1 := cell6 (w.alloc (.cells #[.string nm, .string F, .int .i64 m, .int .i64 n] 41)) 23 (.int .i64 o) (.int .i64 s) (.int .i64 t) (.int .i64 d) (.int .i64 a) (.int .i64 i)
  have b1 := onto g0 g1
  rw [show (w.alloc (.cells #[.string nm, .string F, .int .i64 m, .int .i64 n] 41)).heap.size = w.heap.size + 1 by simp] at q1
  clear g0 g1
  generalize (w.alloc (.cells #[.string nm, .string F, .int .i64 m, .int .i64 n] 41)).alloc (.cells #[.int .i64 o, .int .i64 s, .int .i64 t, .int .i64 d, .int .i64 a, .int .i64 i] 23) = W at *
  obtain ⟨x0, x1, x2, x3⟩ := p1
  obtain ⟨y0, y1, y2, y3, y4, y5⟩ := q1
  go_quiet (fail)
  go_wp2_with fail
  refine (hw _).mono ?_
  rintro e w' ⟨rfl, rfl⟩
  go_wp2
  go_ret
  exact ⟨rfl, below_drewN b1 _⟩

theorem bare_MT {nm F : ByteArray} {m n o s t d a i V : Int} (hF : F.toList = [77, 84])
    (hw : ∀ w, Calls Tryz.prog 34 #[.int .i64 m, .int .i64 s, .int .i64 0, .int .i64 0, .int .i64 0, .int .i64 n] w fun e w' => e = .returned (.int .u32 V) ∧ w' = w) (w : World) :
    Calls Tryz.prog 31 #[.agg #[.string nm, .string F, .int .i64 m, .int .i64 n], .agg #[.int .i64 o, .int .i64 s, .int .i64 t, .int .i64 d, .int .i64 a, .int .i64 i]] w fun e w' => e = .returned (.int .u32 V) ∧ Below w.heap.size w w' := by
  go_enter Tryz.func31, Tryz.ntmps31
  go_wp2_with fail
  have g0 := grow w (.cells #[.string nm, .string F, .int .i64 m, .int .i64 n] 41)
  have g1 := grow (w.alloc (.cells #[.string nm, .string F, .int .i64 m, .int .i64 n] 41)) (.cells #[.int .i64 o, .int .i64 s, .int .i64 t, .int .i64 d, .int .i64 a, .int .i64 i] 23)
  have p1 := (cell4 w 41 (.string nm) (.string F) (.int .i64 m) (.int .i64 n)).on g1
  have q1 := cell6 (w.alloc (.cells #[.string nm, .string F, .int .i64 m, .int .i64 n] 41)) 23 (.int .i64 o) (.int .i64 s) (.int .i64 t) (.int .i64 d) (.int .i64 a) (.int .i64 i)
  have b1 := onto g0 g1
  rw [show (w.alloc (.cells #[.string nm, .string F, .int .i64 m, .int .i64 n] 41)).heap.size = w.heap.size + 1 by simp] at q1
  clear g0 g1
  generalize (w.alloc (.cells #[.string nm, .string F, .int .i64 m, .int .i64 n] 41)).alloc (.cells #[.int .i64 o, .int .i64 s, .int .i64 t, .int .i64 d, .int .i64 a, .int .i64 i] 23) = W at *
  obtain ⟨x0, x1, x2, x3⟩ := p1
  obtain ⟨y0, y1, y2, y3, y4, y5⟩ := q1
  go_quiet (fail)
  go_wp2_with fail
  refine (hw _).mono ?_
  rintro e w' ⟨rfl, rfl⟩
  go_wp2
  go_ret
  exact ⟨rfl, below_drewN b1 _⟩

theorem bare_JALR {nm F : ByteArray} {m n o s t d a i V : Int} (hF : F.toList = [74, 65, 76, 82])
    (hw : ∀ w, Calls Tryz.prog 34 #[.int .i64 m, .int .i64 s, .int .i64 0, .int .i64 d, .int .i64 0, .int .i64 n] w fun e w' => e = .returned (.int .u32 V) ∧ w' = w) (w : World) :
    Calls Tryz.prog 31 #[.agg #[.string nm, .string F, .int .i64 m, .int .i64 n], .agg #[.int .i64 o, .int .i64 s, .int .i64 t, .int .i64 d, .int .i64 a, .int .i64 i]] w fun e w' => e = .returned (.int .u32 V) ∧ Below w.heap.size w w' := by
  go_enter Tryz.func31, Tryz.ntmps31
  go_wp2_with fail
  have g0 := grow w (.cells #[.string nm, .string F, .int .i64 m, .int .i64 n] 41)
  have g1 := grow (w.alloc (.cells #[.string nm, .string F, .int .i64 m, .int .i64 n] 41)) (.cells #[.int .i64 o, .int .i64 s, .int .i64 t, .int .i64 d, .int .i64 a, .int .i64 i] 23)
  have p1 := (cell4 w 41 (.string nm) (.string F) (.int .i64 m) (.int .i64 n)).on g1
  have q1 := cell6 (w.alloc (.cells #[.string nm, .string F, .int .i64 m, .int .i64 n] 41)) 23 (.int .i64 o) (.int .i64 s) (.int .i64 t) (.int .i64 d) (.int .i64 a) (.int .i64 i)
  have b1 := onto g0 g1
  rw [show (w.alloc (.cells #[.string nm, .string F, .int .i64 m, .int .i64 n] 41)).heap.size = w.heap.size + 1 by simp] at q1
  clear g0 g1
  generalize (w.alloc (.cells #[.string nm, .string F, .int .i64 m, .int .i64 n] 41)).alloc (.cells #[.int .i64 o, .int .i64 s, .int .i64 t, .int .i64 d, .int .i64 a, .int .i64 i] 23) = W at *
  obtain ⟨x0, x1, x2, x3⟩ := p1
  obtain ⟨y0, y1, y2, y3, y4, y5⟩ := q1
  go_quiet (fail)
  go_wp2_with fail
  refine (hw _).mono ?_
  rintro e w' ⟨rfl, rfl⟩
  go_wp2
  go_ret
  exact ⟨rfl, below_drewN b1 _⟩

theorem bare_CL {nm F : ByteArray} {m n o s t d a i V : Int} (hF : F.toList = [67, 76])
    (hw : ∀ w, Calls Tryz.prog 34 #[.int .i64 m, .int .i64 s, .int .i64 d, .int .i64 d, .int .i64 0, .int .i64 n] w fun e w' => e = .returned (.int .u32 V) ∧ w' = w) (w : World) :
    Calls Tryz.prog 31 #[.agg #[.string nm, .string F, .int .i64 m, .int .i64 n], .agg #[.int .i64 o, .int .i64 s, .int .i64 t, .int .i64 d, .int .i64 a, .int .i64 i]] w fun e w' => e = .returned (.int .u32 V) ∧ Below w.heap.size w w' := by
  go_enter Tryz.func31, Tryz.ntmps31
  go_wp2_with fail
  have g0 := grow w (.cells #[.string nm, .string F, .int .i64 m, .int .i64 n] 41)
  have g1 := grow (w.alloc (.cells #[.string nm, .string F, .int .i64 m, .int .i64 n] 41)) (.cells #[.int .i64 o, .int .i64 s, .int .i64 t, .int .i64 d, .int .i64 a, .int .i64 i] 23)
  have p1 := (cell4 w 41 (.string nm) (.string F) (.int .i64 m) (.int .i64 n)).on g1
  have q1 := cell6 (w.alloc (.cells #[.string nm, .string F, .int .i64 m, .int .i64 n] 41)) 23 (.int .i64 o) (.int .i64 s) (.int .i64 t) (.int .i64 d) (.int .i64 a) (.int .i64 i)
  have b1 := onto g0 g1
  rw [show (w.alloc (.cells #[.string nm, .string F, .int .i64 m, .int .i64 n] 41)).heap.size = w.heap.size + 1 by simp] at q1
  clear g0 g1
  generalize (w.alloc (.cells #[.string nm, .string F, .int .i64 m, .int .i64 n] 41)).alloc (.cells #[.int .i64 o, .int .i64 s, .int .i64 t, .int .i64 d, .int .i64 a, .int .i64 i] 23) = W at *
  obtain ⟨x0, x1, x2, x3⟩ := p1
  obtain ⟨y0, y1, y2, y3, y4, y5⟩ := q1
  go_quiet (fail)
  go_wp2_with fail
  refine (hw _).mono ?_
  rintro e w' ⟨rfl, rfl⟩
  go_wp2
  go_ret
  exact ⟨rfl, below_drewN b1 _⟩

theorem bare_MF {nm F : ByteArray} {m n o s t d a i V : Int} (hF : F.toList = [77, 70])
    (hw : ∀ w, Calls Tryz.prog 34 #[.int .i64 m, .int .i64 0, .int .i64 0, .int .i64 d, .int .i64 0, .int .i64 n] w fun e w' => e = .returned (.int .u32 V) ∧ w' = w) (w : World) :
    Calls Tryz.prog 31 #[.agg #[.string nm, .string F, .int .i64 m, .int .i64 n], .agg #[.int .i64 o, .int .i64 s, .int .i64 t, .int .i64 d, .int .i64 a, .int .i64 i]] w fun e w' => e = .returned (.int .u32 V) ∧ Below w.heap.size w w' := by
  go_enter Tryz.func31, Tryz.ntmps31
  go_wp2_with fail
  have g0 := grow w (.cells #[.string nm, .string F, .int .i64 m, .int .i64 n] 41)
  have g1 := grow (w.alloc (.cells #[.string nm, .string F, .int .i64 m, .int .i64 n] 41)) (.cells #[.int .i64 o, .int .i64 s, .int .i64 t, .int .i64 d, .int .i64 a, .int .i64 i] 23)
  have p1 := (cell4 w 41 (.string nm) (.string F) (.int .i64 m) (.int .i64 n)).on g1
  have q1 := cell6 (w.alloc (.cells #[.string nm, .string F, .int .i64 m, .int .i64 n] 41)) 23 (.int .i64 o) (.int .i64 s) (.int .i64 t) (.int .i64 d) (.int .i64 a) (.int .i64 i)
  have b1 := onto g0 g1
  rw [show (w.alloc (.cells #[.string nm, .string F, .int .i64 m, .int .i64 n] 41)).heap.size = w.heap.size + 1 by simp] at q1
  clear g0 g1
  generalize (w.alloc (.cells #[.string nm, .string F, .int .i64 m, .int .i64 n] 41)).alloc (.cells #[.int .i64 o, .int .i64 s, .int .i64 t, .int .i64 d, .int .i64 a, .int .i64 i] 23) = W at *
  obtain ⟨x0, x1, x2, x3⟩ := p1
  obtain ⟨y0, y1, y2, y3, y4, y5⟩ := q1
  go_quiet (fail)
  go_wp2_with fail
  refine (hw _).mono ?_
  rintro e w' ⟨rfl, rfl⟩
  go_wp2
  go_ret
  exact ⟨rfl, below_drewN b1 _⟩

theorem bare_MD {nm F : ByteArray} {m n o s t d a i V : Int} (hF : F.toList = [77, 68])
    (hw : ∀ w, Calls Tryz.prog 34 #[.int .i64 m, .int .i64 s, .int .i64 t, .int .i64 0, .int .i64 0, .int .i64 n] w fun e w' => e = .returned (.int .u32 V) ∧ w' = w) (w : World) :
    Calls Tryz.prog 31 #[.agg #[.string nm, .string F, .int .i64 m, .int .i64 n], .agg #[.int .i64 o, .int .i64 s, .int .i64 t, .int .i64 d, .int .i64 a, .int .i64 i]] w fun e w' => e = .returned (.int .u32 V) ∧ Below w.heap.size w w' := by
  go_enter Tryz.func31, Tryz.ntmps31
  go_wp2_with fail
  have g0 := grow w (.cells #[.string nm, .string F, .int .i64 m, .int .i64 n] 41)
  have g1 := grow (w.alloc (.cells #[.string nm, .string F, .int .i64 m, .int .i64 n] 41)) (.cells #[.int .i64 o, .int .i64 s, .int .i64 t, .int .i64 d, .int .i64 a, .int .i64 i] 23)
  have p1 := (cell4 w 41 (.string nm) (.string F) (.int .i64 m) (.int .i64 n)).on g1
  have q1 := cell6 (w.alloc (.cells #[.string nm, .string F, .int .i64 m, .int .i64 n] 41)) 23 (.int .i64 o) (.int .i64 s) (.int .i64 t) (.int .i64 d) (.int .i64 a) (.int .i64 i)
  have b1 := onto g0 g1
  rw [show (w.alloc (.cells #[.string nm, .string F, .int .i64 m, .int .i64 n] 41)).heap.size = w.heap.size + 1 by simp] at q1
  clear g0 g1
  generalize (w.alloc (.cells #[.string nm, .string F, .int .i64 m, .int .i64 n] 41)).alloc (.cells #[.int .i64 o, .int .i64 s, .int .i64 t, .int .i64 d, .int .i64 a, .int .i64 i] 23) = W at *
  obtain ⟨x0, x1, x2, x3⟩ := p1
  obtain ⟨y0, y1, y2, y3, y4, y5⟩ := q1
  go_quiet (fail)
  go_wp2_with fail
  refine (hw _).mono ?_
  rintro e w' ⟨rfl, rfl⟩
  go_wp2
  go_ret
  exact ⟨rfl, below_drewN b1 _⟩

theorem bare_CO {nm F : ByteArray} {m n o s t d a i V : Int} (hF : F.toList = [67, 79])
    (hw : ∀ w, Calls Tryz.prog 34 #[.int .i64 m, .int .i64 16, .int .i64 0, .int .i64 0, .int .i64 0, .int .i64 n] w fun e w' => e = .returned (.int .u32 V) ∧ w' = w) (w : World) :
    Calls Tryz.prog 31 #[.agg #[.string nm, .string F, .int .i64 m, .int .i64 n], .agg #[.int .i64 o, .int .i64 s, .int .i64 t, .int .i64 d, .int .i64 a, .int .i64 i]] w fun e w' => e = .returned (.int .u32 V) ∧ Below w.heap.size w w' := by
  go_enter Tryz.func31, Tryz.ntmps31
  go_wp2_with fail
  have g0 := grow w (.cells #[.string nm, .string F, .int .i64 m, .int .i64 n] 41)
  have g1 := grow (w.alloc (.cells #[.string nm, .string F, .int .i64 m, .int .i64 n] 41)) (.cells #[.int .i64 o, .int .i64 s, .int .i64 t, .int .i64 d, .int .i64 a, .int .i64 i] 23)
  have p1 := (cell4 w 41 (.string nm) (.string F) (.int .i64 m) (.int .i64 n)).on g1
  have q1 := cell6 (w.alloc (.cells #[.string nm, .string F, .int .i64 m, .int .i64 n] 41)) 23 (.int .i64 o) (.int .i64 s) (.int .i64 t) (.int .i64 d) (.int .i64 a) (.int .i64 i)
  have b1 := onto g0 g1
  rw [show (w.alloc (.cells #[.string nm, .string F, .int .i64 m, .int .i64 n] 41)).heap.size = w.heap.size + 1 by simp] at q1
  clear g0 g1
  generalize (w.alloc (.cells #[.string nm, .string F, .int .i64 m, .int .i64 n] 41)).alloc (.cells #[.int .i64 o, .int .i64 s, .int .i64 t, .int .i64 d, .int .i64 a, .int .i64 i] 23) = W at *
  obtain ⟨x0, x1, x2, x3⟩ := p1
  obtain ⟨y0, y1, y2, y3, y4, y5⟩ := q1
  go_quiet (fail)
  go_wp2_with fail
  refine (hw _).mono ?_
  rintro e w' ⟨rfl, rfl⟩
  go_wp2
  go_ret
  exact ⟨rfl, below_drewN b1 _⟩

theorem bare_C0 {nm F : ByteArray} {m n o s t d a i V : Int} (hF : F.toList = [67, 48])
    (hw : ∀ w, Calls Tryz.prog 34 #[.int .i64 m, .int .i64 n, .int .i64 t, .int .i64 d, .int .i64 0, .int .i64 0] w fun e w' => e = .returned (.int .u32 V) ∧ w' = w) (w : World) :
    Calls Tryz.prog 31 #[.agg #[.string nm, .string F, .int .i64 m, .int .i64 n], .agg #[.int .i64 o, .int .i64 s, .int .i64 t, .int .i64 d, .int .i64 a, .int .i64 i]] w fun e w' => e = .returned (.int .u32 V) ∧ Below w.heap.size w w' := by
  go_enter Tryz.func31, Tryz.ntmps31
  go_wp2_with fail
  have g0 := grow w (.cells #[.string nm, .string F, .int .i64 m, .int .i64 n] 41)
  have g1 := grow (w.alloc (.cells #[.string nm, .string F, .int .i64 m, .int .i64 n] 41)) (.cells #[.int .i64 o, .int .i64 s, .int .i64 t, .int .i64 d, .int .i64 a, .int .i64 i] 23)
  have p1 := (cell4 w 41 (.string nm) (.string F) (.int .i64 m) (.int .i64 n)).on g1
  have q1 := cell6 (w.alloc (.cells #[.string nm, .string F, .int .i64 m, .int .i64 n] 41)) 23 (.int .i64 o) (.int .i64 s) (.int .i64 t) (.int .i64 d) (.int .i64 a) (.int .i64 i)
  have b1 := onto g0 g1
  rw [show (w.alloc (.cells #[.string nm, .string F, .int .i64 m, .int .i64 n] 41)).heap.size = w.heap.size + 1 by simp] at q1
  clear g0 g1
  generalize (w.alloc (.cells #[.string nm, .string F, .int .i64 m, .int .i64 n] 41)).alloc (.cells #[.int .i64 o, .int .i64 s, .int .i64 t, .int .i64 d, .int .i64 a, .int .i64 i] 23) = W at *
  obtain ⟨x0, x1, x2, x3⟩ := p1
  obtain ⟨y0, y1, y2, y3, y4, y5⟩ := q1
  go_quiet (fail)
  go_wp2_with fail
  refine (hw _).mono ?_
  rintro e w' ⟨rfl, rfl⟩
  go_wp2
  go_ret
  exact ⟨rfl, below_drewN b1 _⟩

theorem bare_N {nm F : ByteArray} {m n o s t d a i V : Int} (hF : F.toList = [78])
    (hw : ∀ w, Calls Tryz.prog 34 #[.int .i64 m, .int .i64 0, .int .i64 0, .int .i64 0, .int .i64 0, .int .i64 n] w fun e w' => e = .returned (.int .u32 V) ∧ w' = w) (w : World) :
    Calls Tryz.prog 31 #[.agg #[.string nm, .string F, .int .i64 m, .int .i64 n], .agg #[.int .i64 o, .int .i64 s, .int .i64 t, .int .i64 d, .int .i64 a, .int .i64 i]] w fun e w' => e = .returned (.int .u32 V) ∧ Below w.heap.size w w' := by
  go_enter Tryz.func31, Tryz.ntmps31
  go_wp2_with fail
  have g0 := grow w (.cells #[.string nm, .string F, .int .i64 m, .int .i64 n] 41)
  have g1 := grow (w.alloc (.cells #[.string nm, .string F, .int .i64 m, .int .i64 n] 41)) (.cells #[.int .i64 o, .int .i64 s, .int .i64 t, .int .i64 d, .int .i64 a, .int .i64 i] 23)
  have p1 := (cell4 w 41 (.string nm) (.string F) (.int .i64 m) (.int .i64 n)).on g1
  have q1 := cell6 (w.alloc (.cells #[.string nm, .string F, .int .i64 m, .int .i64 n] 41)) 23 (.int .i64 o) (.int .i64 s) (.int .i64 t) (.int .i64 d) (.int .i64 a) (.int .i64 i)
  have b1 := onto g0 g1
  rw [show (w.alloc (.cells #[.string nm, .string F, .int .i64 m, .int .i64 n] 41)).heap.size = w.heap.size + 1 by simp] at q1
  clear g0 g1
  generalize (w.alloc (.cells #[.string nm, .string F, .int .i64 m, .int .i64 n] 41)).alloc (.cells #[.int .i64 o, .int .i64 s, .int .i64 t, .int .i64 d, .int .i64 a, .int .i64 i] 23) = W at *
  obtain ⟨x0, x1, x2, x3⟩ := p1
  obtain ⟨y0, y1, y2, y3, y4, y5⟩ := q1
  go_quiet (fail)
  go_wp2_with fail
  refine (hw _).mono ?_
  rintro e w' ⟨rfl, rfl⟩
  go_wp2
  go_ret
  exact ⟨rfl, below_drewN b1 _⟩

end Go.Proofs.YtjgidjcniladeaaGreatDoor
