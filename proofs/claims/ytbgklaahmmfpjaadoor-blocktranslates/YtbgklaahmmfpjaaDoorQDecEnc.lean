/- What the document's Encode answers: the word of an instruction that may be. -/
import Derived.Test.YtbgklaahmmfpjaaDoorQDecRef2
import Derived.Test.YtbgklaahmmfpjaaDoorQDecEncA
import Derived.Test.YtbgklaahmmfpjaaDoorQDecEncB
import Derived.Test.YtbgklaahmmfpjaaDoorQDecEncC
import Derived.Test.YtbgklaahmmfpjaaDoorQDecEncD
import Derived.Test.YtbgklaahmmfpjaaDoorQDecEncE
namespace Go.Proofs.YtbgklaahmmfpjaaDoor.De
open Go.RowKit
set_option linter.unusedVariables false
set_option maxRecDepth 100000

set_option maxHeartbeats 2000000 in
theorem renc_early {nm F : ByteArray} {m n o s t d a i : Int} {bs bt bd ba : Bool} (n1 : ¬ nm.toList = []) (n2 : nm.toList.isEmpty = false)
    (hA : ∀ w, Calls Tryd.prog 9 #[.int .i64 o] w fun e w' => e = .returned (.agg #[.string nm, .string F, .int .i64 m, .int .i64 n]) ∧ Below w.heap.size w w')
    (hs : ∀ w, Calls Tryd.prog 25 #[.int .i64 s] w fun e w' => e = .returned (.bool bs) ∧ w' = w)
    (ht : ∀ w, Calls Tryd.prog 25 #[.int .i64 t] w fun e w' => e = .returned (.bool bt) ∧ w' = w)
    (hd : ∀ w, Calls Tryd.prog 25 #[.int .i64 d] w fun e w' => e = .returned (.bool bd) ∧ w' = w)
    (ha : ∀ w, Calls Tryd.prog 25 #[.int .i64 a] w fun e w' => e = .returned (.bool ba) ∧ w' = w)
    (hb : bs = false ∨ bs = true ∧ bt = false ∨ bs = true ∧ bt = true ∧ bd = false ∨ bs = true ∧ bt = true ∧ bd = true ∧ ba = false) (w : World) :
    Calls Tryd.prog 16 #[.agg #[.int .i64 o, .int .i64 s, .int .i64 t, .int .i64 d, .int .i64 a, .int .i64 i]] w fun e w' => e = .returned (.tuple #[.int .u32 0, .int .i64 40]) ∧ Below w.heap.size w w' := by
  go_enter Tryd.func16, Tryd.ntmps16
  go_wp2_with fail
  have g0 := grow w (.cells #[.int .i64 o, .int .i64 s, .int .i64 t, .int .i64 d, .int .i64 a, .int .i64 i] 32)
  have k0 := cell6 w 32 (.int .i64 o) (.int .i64 s) (.int .i64 t) (.int .i64 d) (.int .i64 a) (.int .i64 i)
  refine (hA _).mono ?_
  rintro e w1 ⟨rfl, h1⟩
  have k1 := k0.on h1
  have b1 := onto g0 h1
  clear k0 g0 h1 hA
  obtain ⟨x0, x1, x2, x3, x4, x5⟩ := k1
  have z1 := cell_in x0
  have b2 := onto b1 (grow w1 (.cells #[.string nm, .string F, .int .i64 m, .int .i64 n] 37))
  rcases hb with rfl | ⟨rfl, rfl⟩ | ⟨rfl, rfl, rfl⟩ | ⟨rfl, rfl, rfl, rfl⟩
  · go_wp2_with fail
    refine (hs _).mono ?_
    rintro e w' ⟨rfl, rfl⟩
    go_wp2
    go_ret2
    exact ⟨rfl, b2⟩
  · go_wp2_with fail
    refine (hs _).mono ?_
    rintro e w' ⟨rfl, rfl⟩
    go_wp2_with fail
    refine (ht _).mono ?_
    rintro e w' ⟨rfl, rfl⟩
    go_wp2
    go_ret2
    exact ⟨rfl, b2⟩
  · go_wp2_with fail
    refine (hs _).mono ?_
    rintro e w' ⟨rfl, rfl⟩
    go_wp2_with fail
    refine (ht _).mono ?_
    rintro e w' ⟨rfl, rfl⟩
    go_wp2_with fail
    refine (hd _).mono ?_
    rintro e w' ⟨rfl, rfl⟩
    go_wp2
    go_ret2
    exact ⟨rfl, b2⟩
  · go_wp2_with fail
    refine (hs _).mono ?_
    rintro e w' ⟨rfl, rfl⟩
    go_wp2_with fail
    refine (ht _).mono ?_
    rintro e w' ⟨rfl, rfl⟩
    go_wp2_with fail
    refine (hd _).mono ?_
    rintro e w' ⟨rfl, rfl⟩
    go_wp2_with fail
    refine (ha _).mono ?_
    rintro e w' ⟨rfl, rfl⟩
    go_wp2
    go_ret2
    exact ⟨rfl, b2⟩

theorem renc_none {F : ByteArray} {m n o s t d a i : Int}
    (hA : ∀ w, Calls Tryd.prog 9 #[.int .i64 o] w fun e w' => e = .returned (.agg #[.string ⟨#[]⟩, .string F, .int .i64 m, .int .i64 n]) ∧ Below w.heap.size w w') (w : World) :
    Calls Tryd.prog 16 #[.agg #[.int .i64 o, .int .i64 s, .int .i64 t, .int .i64 d, .int .i64 a, .int .i64 i]] w fun e w' => e = .returned (.tuple #[.int .u32 0, .int .i64 40]) ∧ Below w.heap.size w w' := by
  go_enter Tryd.func16, Tryd.ntmps16
  go_wp2_with fail
  have g0 := grow w (.cells #[.int .i64 o, .int .i64 s, .int .i64 t, .int .i64 d, .int .i64 a, .int .i64 i] 32)
  refine (hA _).mono ?_
  rintro e w1 ⟨rfl, h1⟩
  have b1 := onto g0 h1
  have b2 := onto b1 (grow w1 (.cells #[.string ⟨#[]⟩, .string F, .int .i64 m, .int .i64 n] 37))
  go_wp2
  go_ret2
  exact ⟨rfl, b2⟩

set_option linter.unusedVariables false

theorem bare_SH {nm F : ByteArray} {m n o s t d a i V : Int} (hF : F.toList = [83, 72])
    (hw : ∀ w, Calls Tryd.prog 29 #[.int .i64 m, .int .i64 0, .int .i64 t, .int .i64 d, .int .i64 a, .int .i64 n] w fun e w' => e = .returned (.int .u32 V) ∧ w' = w) (w : World) :
    Calls Tryd.prog 26 #[.agg #[.string nm, .string F, .int .i64 m, .int .i64 n], .agg #[.int .i64 o, .int .i64 s, .int .i64 t, .int .i64 d, .int .i64 a, .int .i64 i]] w fun e w' => e = .returned (.int .u32 V) ∧ Below w.heap.size w w' := by
  go_enter Tryd.func26, Tryd.ntmps26
  go_wp2_with fail
  have g0 := grow w (.cells #[.string nm, .string F, .int .i64 m, .int .i64 n] 37)
  have g1 := grow (w.alloc (.cells #[.string nm, .string F, .int .i64 m, .int .i64 n] 37)) (.cells #[.int .i64 o, .int .i64 s, .int .i64 t, .int .i64 d, .int .i64 a, .int .i64 i] 32)
  have p1 := (cell4 w 37 (.string nm) (.string F) (.int .i64 m) (.int .i64 n)).on g1
  have q1 := cell6 (w.alloc (.cells #[.string nm, .string F, .int .i64 m, .int .i64 n] 37)) 32 (.int .i64 o) (.int .i64 s) (.int .i64 t) (.int .i64 d) (.int .i64 a) (.int .i64 i)
  have b1 := onto g0 g1
  rw [show (w.alloc (.cells #[.string nm, .string F, .int .i64 m, .int .i64 n] 37)).heap.size = w.heap.size + 1 by simp] at q1
  clear g0 g1
  generalize (w.alloc (.cells #[.string nm, .string F, .int .i64 m, .int .i64 n] 37)).alloc (.cells #[.int .i64 o, .int .i64 s, .int .i64 t, .int .i64 d, .int .i64 a, .int .i64 i] 32) = W at *
  obtain ⟨x0, x1, x2, x3⟩ := p1
  obtain ⟨y0, y1, y2, y3, y4, y5⟩ := q1
  go_quiet (fail)
  go_wp2_with fail
  refine (hw _).mono ?_
  rintro e w' ⟨rfl, rfl⟩
  go_wp2
  go_ret
  exact ⟨rfl, below_drewN b1 _⟩

theorem bare_SV {nm F : ByteArray} {m n o s t d a i V : Int} (hF : F.toList = [83, 86])
    (hw : ∀ w, Calls Tryd.prog 29 #[.int .i64 m, .int .i64 s, .int .i64 t, .int .i64 d, .int .i64 0, .int .i64 n] w fun e w' => e = .returned (.int .u32 V) ∧ w' = w) (w : World) :
    Calls Tryd.prog 26 #[.agg #[.string nm, .string F, .int .i64 m, .int .i64 n], .agg #[.int .i64 o, .int .i64 s, .int .i64 t, .int .i64 d, .int .i64 a, .int .i64 i]] w fun e w' => e = .returned (.int .u32 V) ∧ Below w.heap.size w w' := by
  go_enter Tryd.func26, Tryd.ntmps26
  go_wp2_with fail
  have g0 := grow w (.cells #[.string nm, .string F, .int .i64 m, .int .i64 n] 37)
  have g1 := grow (w.alloc (.cells #[.string nm, .string F, .int .i64 m, .int .i64 n] 37)) (.cells #[.int .i64 o, .int .i64 s, .int .i64 t, .int .i64 d, .int .i64 a, .int .i64 i] 32)
  have p1 := (cell4 w 37 (.string nm) (.string F) (.int .i64 m) (.int .i64 n)).on g1
  have q1 := cell6 (w.alloc (.cells #[.string nm, .string F, .int .i64 m, .int .i64 n] 37)) 32 (.int .i64 o) (.int .i64 s) (.int .i64 t) (.int .i64 d) (.int .i64 a) (.int .i64 i)
  have b1 := onto g0 g1
  rw [show (w.alloc (.cells #[.string nm, .string F, .int .i64 m, .int .i64 n] 37)).heap.size = w.heap.size + 1 by simp] at q1
  clear g0 g1
  generalize (w.alloc (.cells #[.string nm, .string F, .int .i64 m, .int .i64 n] 37)).alloc (.cells #[.int .i64 o, .int .i64 s, .int .i64 t, .int .i64 d, .int .i64 a, .int .i64 i] 32) = W at *
  obtain ⟨x0, x1, x2, x3⟩ := p1
  obtain ⟨y0, y1, y2, y3, y4, y5⟩ := q1
  go_quiet (fail)
  go_wp2_with fail
  refine (hw _).mono ?_
  rintro e w' ⟨rfl, rfl⟩
  go_wp2
  go_ret
  exact ⟨rfl, below_drewN b1 _⟩

theorem bare_R {nm F : ByteArray} {m n o s t d a i V : Int} (hF : F.toList = [82])
    (hw : ∀ w, Calls Tryd.prog 29 #[.int .i64 m, .int .i64 s, .int .i64 t, .int .i64 d, .int .i64 0, .int .i64 n] w fun e w' => e = .returned (.int .u32 V) ∧ w' = w) (w : World) :
    Calls Tryd.prog 26 #[.agg #[.string nm, .string F, .int .i64 m, .int .i64 n], .agg #[.int .i64 o, .int .i64 s, .int .i64 t, .int .i64 d, .int .i64 a, .int .i64 i]] w fun e w' => e = .returned (.int .u32 V) ∧ Below w.heap.size w w' := by
  go_enter Tryd.func26, Tryd.ntmps26
  go_wp2_with fail
  have g0 := grow w (.cells #[.string nm, .string F, .int .i64 m, .int .i64 n] 37)
  have g1 := grow (w.alloc (.cells #[.string nm, .string F, .int .i64 m, .int .i64 n] 37)) (.cells #[.int .i64 o, .int .i64 s, .int .i64 t, .int .i64 d, .int .i64 a, .int .i64 i] 32)
  have p1 := (cell4 w 37 (.string nm) (.string F) (.int .i64 m) (.int .i64 n)).on g1
  have q1 := cell6 (w.alloc (.cells #[.string nm, .string F, .int .i64 m, .int .i64 n] 37)) 32 (.int .i64 o) (.int .i64 s) (.int .i64 t) (.int .i64 d) (.int .i64 a) (.int .i64 i)
  have b1 := onto g0 g1
  rw [show (w.alloc (.cells #[.string nm, .string F, .int .i64 m, .int .i64 n] 37)).heap.size = w.heap.size + 1 by simp] at q1
  clear g0 g1
  generalize (w.alloc (.cells #[.string nm, .string F, .int .i64 m, .int .i64 n] 37)).alloc (.cells #[.int .i64 o, .int .i64 s, .int .i64 t, .int .i64 d, .int .i64 a, .int .i64 i] 32) = W at *
  obtain ⟨x0, x1, x2, x3⟩ := p1
  obtain ⟨y0, y1, y2, y3, y4, y5⟩ := q1
  go_quiet (fail)
  go_wp2_with fail
  refine (hw _).mono ?_
  rintro e w' ⟨rfl, rfl⟩
  go_wp2
  go_ret
  exact ⟨rfl, below_drewN b1 _⟩

theorem bare_JR {nm F : ByteArray} {m n o s t d a i V : Int} (hF : F.toList = [74, 82])
    (hw : ∀ w, Calls Tryd.prog 29 #[.int .i64 m, .int .i64 s, .int .i64 0, .int .i64 0, .int .i64 0, .int .i64 n] w fun e w' => e = .returned (.int .u32 V) ∧ w' = w) (w : World) :
    Calls Tryd.prog 26 #[.agg #[.string nm, .string F, .int .i64 m, .int .i64 n], .agg #[.int .i64 o, .int .i64 s, .int .i64 t, .int .i64 d, .int .i64 a, .int .i64 i]] w fun e w' => e = .returned (.int .u32 V) ∧ Below w.heap.size w w' := by
  go_enter Tryd.func26, Tryd.ntmps26
  go_wp2_with fail
  have g0 := grow w (.cells #[.string nm, .string F, .int .i64 m, .int .i64 n] 37)
  have g1 := grow (w.alloc (.cells #[.string nm, .string F, .int .i64 m, .int .i64 n] 37)) (.cells #[.int .i64 o, .int .i64 s, .int .i64 t, .int .i64 d, .int .i64 a, .int .i64 i] 32)
  have p1 := (cell4 w 37 (.string nm) (.string F) (.int .i64 m) (.int .i64 n)).on g1
  have q1 := cell6 (w.alloc (.cells #[.string nm, .string F, .int .i64 m, .int .i64 n] 37)) 32 (.int .i64 o) (.int .i64 s) (.int .i64 t) (.int .i64 d) (.int .i64 a) (.int .i64 i)
  have b1 := onto g0 g1
  rw [show (w.alloc (.cells #[.string nm, .string F, .int .i64 m, .int .i64 n] 37)).heap.size = w.heap.size + 1 by simp] at q1
  clear g0 g1
  generalize (w.alloc (.cells #[.string nm, .string F, .int .i64 m, .int .i64 n] 37)).alloc (.cells #[.int .i64 o, .int .i64 s, .int .i64 t, .int .i64 d, .int .i64 a, .int .i64 i] 32) = W at *
  obtain ⟨x0, x1, x2, x3⟩ := p1
  obtain ⟨y0, y1, y2, y3, y4, y5⟩ := q1
  go_quiet (fail)
  go_wp2_with fail
  refine (hw _).mono ?_
  rintro e w' ⟨rfl, rfl⟩
  go_wp2
  go_ret
  exact ⟨rfl, below_drewN b1 _⟩

theorem bare_MT {nm F : ByteArray} {m n o s t d a i V : Int} (hF : F.toList = [77, 84])
    (hw : ∀ w, Calls Tryd.prog 29 #[.int .i64 m, .int .i64 s, .int .i64 0, .int .i64 0, .int .i64 0, .int .i64 n] w fun e w' => e = .returned (.int .u32 V) ∧ w' = w) (w : World) :
    Calls Tryd.prog 26 #[.agg #[.string nm, .string F, .int .i64 m, .int .i64 n], .agg #[.int .i64 o, .int .i64 s, .int .i64 t, .int .i64 d, .int .i64 a, .int .i64 i]] w fun e w' => e = .returned (.int .u32 V) ∧ Below w.heap.size w w' := by
  go_enter Tryd.func26, Tryd.ntmps26
  go_wp2_with fail
  have g0 := grow w (.cells #[.string nm, .string F, .int .i64 m, .int .i64 n] 37)
  have g1 := grow (w.alloc (.cells #[.string nm, .string F, .int .i64 m, .int .i64 n] 37)) (.cells #[.int .i64 o, .int .i64 s, .int .i64 t, .int .i64 d, .int .i64 a, .int .i64 i] 32)
  have p1 := (cell4 w 37 (.string nm) (.string F) (.int .i64 m) (.int .i64 n)).on g1
  have q1 := cell6 (w.alloc (.cells #[.string nm, .string F, .int .i64 m, .int .i64 n] 37)) 32 (.int .i64 o) (.int .i64 s) (.int .i64 t) (.int .i64 d) (.int .i64 a) (.int .i64 i)
  have b1 := onto g0 g1
  rw [show (w.alloc (.cells #[.string nm, .string F, .int .i64 m, .int .i64 n] 37)).heap.size = w.heap.size + 1 by simp] at q1
  clear g0 g1
  generalize (w.alloc (.cells #[.string nm, .string F, .int .i64 m, .int .i64 n] 37)).alloc (.cells #[.int .i64 o, .int .i64 s, .int .i64 t, .int .i64 d, .int .i64 a, .int .i64 i] 32) = W at *
  obtain ⟨x0, x1, x2, x3⟩ := p1
  obtain ⟨y0, y1, y2, y3, y4, y5⟩ := q1
  go_quiet (fail)
  go_wp2_with fail
  refine (hw _).mono ?_
  rintro e w' ⟨rfl, rfl⟩
  go_wp2
  go_ret
  exact ⟨rfl, below_drewN b1 _⟩

theorem bare_JALR {nm F : ByteArray} {m n o s t d a i V : Int} (hF : F.toList = [74, 65, 76, 82])
    (hw : ∀ w, Calls Tryd.prog 29 #[.int .i64 m, .int .i64 s, .int .i64 0, .int .i64 d, .int .i64 0, .int .i64 n] w fun e w' => e = .returned (.int .u32 V) ∧ w' = w) (w : World) :
    Calls Tryd.prog 26 #[.agg #[.string nm, .string F, .int .i64 m, .int .i64 n], .agg #[.int .i64 o, .int .i64 s, .int .i64 t, .int .i64 d, .int .i64 a, .int .i64 i]] w fun e w' => e = .returned (.int .u32 V) ∧ Below w.heap.size w w' := by
  go_enter Tryd.func26, Tryd.ntmps26
  go_wp2_with fail
  have g0 := grow w (.cells #[.string nm, .string F, .int .i64 m, .int .i64 n] 37)
  have g1 := grow (w.alloc (.cells #[.string nm, .string F, .int .i64 m, .int .i64 n] 37)) (.cells #[.int .i64 o, .int .i64 s, .int .i64 t, .int .i64 d, .int .i64 a, .int .i64 i] 32)
  have p1 := (cell4 w 37 (.string nm) (.string F) (.int .i64 m) (.int .i64 n)).on g1
  have q1 := cell6 (w.alloc (.cells #[.string nm, .string F, .int .i64 m, .int .i64 n] 37)) 32 (.int .i64 o) (.int .i64 s) (.int .i64 t) (.int .i64 d) (.int .i64 a) (.int .i64 i)
  have b1 := onto g0 g1
  rw [show (w.alloc (.cells #[.string nm, .string F, .int .i64 m, .int .i64 n] 37)).heap.size = w.heap.size + 1 by simp] at q1
  clear g0 g1
  generalize (w.alloc (.cells #[.string nm, .string F, .int .i64 m, .int .i64 n] 37)).alloc (.cells #[.int .i64 o, .int .i64 s, .int .i64 t, .int .i64 d, .int .i64 a, .int .i64 i] 32) = W at *
  obtain ⟨x0, x1, x2, x3⟩ := p1
  obtain ⟨y0, y1, y2, y3, y4, y5⟩ := q1
  go_quiet (fail)
  go_wp2_with fail
  refine (hw _).mono ?_
  rintro e w' ⟨rfl, rfl⟩
  go_wp2
  go_ret
  exact ⟨rfl, below_drewN b1 _⟩

theorem bare_CL {nm F : ByteArray} {m n o s t d a i V : Int} (hF : F.toList = [67, 76])
    (hw : ∀ w, Calls Tryd.prog 29 #[.int .i64 m, .int .i64 s, .int .i64 d, .int .i64 d, .int .i64 0, .int .i64 n] w fun e w' => e = .returned (.int .u32 V) ∧ w' = w) (w : World) :
    Calls Tryd.prog 26 #[.agg #[.string nm, .string F, .int .i64 m, .int .i64 n], .agg #[.int .i64 o, .int .i64 s, .int .i64 t, .int .i64 d, .int .i64 a, .int .i64 i]] w fun e w' => e = .returned (.int .u32 V) ∧ Below w.heap.size w w' := by
  go_enter Tryd.func26, Tryd.ntmps26
  go_wp2_with fail
  have g0 := grow w (.cells #[.string nm, .string F, .int .i64 m, .int .i64 n] 37)
  have g1 := grow (w.alloc (.cells #[.string nm, .string F, .int .i64 m, .int .i64 n] 37)) (.cells #[.int .i64 o, .int .i64 s, .int .i64 t, .int .i64 d, .int .i64 a, .int .i64 i] 32)
  have p1 := (cell4 w 37 (.string nm) (.string F) (.int .i64 m) (.int .i64 n)).on g1
  have q1 := cell6 (w.alloc (.cells #[.string nm, .string F, .int .i64 m, .int .i64 n] 37)) 32 (.int .i64 o) (.int .i64 s) (.int .i64 t) (.int .i64 d) (.int .i64 a) (.int .i64 i)
  have b1 := onto g0 g1
  rw [show (w.alloc (.cells #[.string nm, .string F, .int .i64 m, .int .i64 n] 37)).heap.size = w.heap.size + 1 by simp] at q1
  clear g0 g1
  generalize (w.alloc (.cells #[.string nm, .string F, .int .i64 m, .int .i64 n] 37)).alloc (.cells #[.int .i64 o, .int .i64 s, .int .i64 t, .int .i64 d, .int .i64 a, .int .i64 i] 32) = W at *
  obtain ⟨x0, x1, x2, x3⟩ := p1
  obtain ⟨y0, y1, y2, y3, y4, y5⟩ := q1
  go_quiet (fail)
  go_wp2_with fail
  refine (hw _).mono ?_
  rintro e w' ⟨rfl, rfl⟩
  go_wp2
  go_ret
  exact ⟨rfl, below_drewN b1 _⟩

theorem bare_MF {nm F : ByteArray} {m n o s t d a i V : Int} (hF : F.toList = [77, 70])
    (hw : ∀ w, Calls Tryd.prog 29 #[.int .i64 m, .int .i64 0, .int .i64 0, .int .i64 d, .int .i64 0, .int .i64 n] w fun e w' => e = .returned (.int .u32 V) ∧ w' = w) (w : World) :
    Calls Tryd.prog 26 #[.agg #[.string nm, .string F, .int .i64 m, .int .i64 n], .agg #[.int .i64 o, .int .i64 s, .int .i64 t, .int .i64 d, .int .i64 a, .int .i64 i]] w fun e w' => e = .returned (.int .u32 V) ∧ Below w.heap.size w w' := by
  go_enter Tryd.func26, Tryd.ntmps26
  go_wp2_with fail
  have g0 := grow w (.cells #[.string nm, .string F, .int .i64 m, .int .i64 n] 37)
  have g1 := grow (w.alloc (.cells #[.string nm, .string F, .int .i64 m, .int .i64 n] 37)) (.cells #[.int .i64 o, .int .i64 s, .int .i64 t, .int .i64 d, .int .i64 a, .int .i64 i] 32)
  have p1 := (cell4 w 37 (.string nm) (.string F) (.int .i64 m) (.int .i64 n)).on g1
  have q1 := cell6 (w.alloc (.cells #[.string nm, .string F, .int .i64 m, .int .i64 n] 37)) 32 (.int .i64 o) (.int .i64 s) (.int .i64 t) (.int .i64 d) (.int .i64 a) (.int .i64 i)
  have b1 := onto g0 g1
  rw [show (w.alloc (.cells #[.string nm, .string F, .int .i64 m, .int .i64 n] 37)).heap.size = w.heap.size + 1 by simp] at q1
  clear g0 g1
  generalize (w.alloc (.cells #[.string nm, .string F, .int .i64 m, .int .i64 n] 37)).alloc (.cells #[.int .i64 o, .int .i64 s, .int .i64 t, .int .i64 d, .int .i64 a, .int .i64 i] 32) = W at *
  obtain ⟨x0, x1, x2, x3⟩ := p1
  obtain ⟨y0, y1, y2, y3, y4, y5⟩ := q1
  go_quiet (fail)
  go_wp2_with fail
  refine (hw _).mono ?_
  rintro e w' ⟨rfl, rfl⟩
  go_wp2
  go_ret
  exact ⟨rfl, below_drewN b1 _⟩

theorem bare_MD {nm F : ByteArray} {m n o s t d a i V : Int} (hF : F.toList = [77, 68])
    (hw : ∀ w, Calls Tryd.prog 29 #[.int .i64 m, .int .i64 s, .int .i64 t, .int .i64 0, .int .i64 0, .int .i64 n] w fun e w' => e = .returned (.int .u32 V) ∧ w' = w) (w : World) :
    Calls Tryd.prog 26 #[.agg #[.string nm, .string F, .int .i64 m, .int .i64 n], .agg #[.int .i64 o, .int .i64 s, .int .i64 t, .int .i64 d, .int .i64 a, .int .i64 i]] w fun e w' => e = .returned (.int .u32 V) ∧ Below w.heap.size w w' := by
  go_enter Tryd.func26, Tryd.ntmps26
  go_wp2_with fail
  have g0 := grow w (.cells #[.string nm, .string F, .int .i64 m, .int .i64 n] 37)
  have g1 := grow (w.alloc (.cells #[.string nm, .string F, .int .i64 m, .int .i64 n] 37)) (.cells #[.int .i64 o, .int .i64 s, .int .i64 t, .int .i64 d, .int .i64 a, .int .i64 i] 32)
  have p1 := (cell4 w 37 (.string nm) (.string F) (.int .i64 m) (.int .i64 n)).on g1
  have q1 := cell6 (w.alloc (.cells #[.string nm, .string F, .int .i64 m, .int .i64 n] 37)) 32 (.int .i64 o) (.int .i64 s) (.int .i64 t) (.int .i64 d) (.int .i64 a) (.int .i64 i)
  have b1 := onto g0 g1
  rw [show (w.alloc (.cells #[.string nm, .string F, .int .i64 m, .int .i64 n] 37)).heap.size = w.heap.size + 1 by simp] at q1
  clear g0 g1
  generalize (w.alloc (.cells #[.string nm, .string F, .int .i64 m, .int .i64 n] 37)).alloc (.cells #[.int .i64 o, .int .i64 s, .int .i64 t, .int .i64 d, .int .i64 a, .int .i64 i] 32) = W at *
  obtain ⟨x0, x1, x2, x3⟩ := p1
  obtain ⟨y0, y1, y2, y3, y4, y5⟩ := q1
  go_quiet (fail)
  go_wp2_with fail
  refine (hw _).mono ?_
  rintro e w' ⟨rfl, rfl⟩
  go_wp2
  go_ret
  exact ⟨rfl, below_drewN b1 _⟩

theorem bare_CO {nm F : ByteArray} {m n o s t d a i V : Int} (hF : F.toList = [67, 79])
    (hw : ∀ w, Calls Tryd.prog 29 #[.int .i64 m, .int .i64 16, .int .i64 0, .int .i64 0, .int .i64 0, .int .i64 n] w fun e w' => e = .returned (.int .u32 V) ∧ w' = w) (w : World) :
    Calls Tryd.prog 26 #[.agg #[.string nm, .string F, .int .i64 m, .int .i64 n], .agg #[.int .i64 o, .int .i64 s, .int .i64 t, .int .i64 d, .int .i64 a, .int .i64 i]] w fun e w' => e = .returned (.int .u32 V) ∧ Below w.heap.size w w' := by
  go_enter Tryd.func26, Tryd.ntmps26
  go_wp2_with fail
  have g0 := grow w (.cells #[.string nm, .string F, .int .i64 m, .int .i64 n] 37)
  have g1 := grow (w.alloc (.cells #[.string nm, .string F, .int .i64 m, .int .i64 n] 37)) (.cells #[.int .i64 o, .int .i64 s, .int .i64 t, .int .i64 d, .int .i64 a, .int .i64 i] 32)
  have p1 := (cell4 w 37 (.string nm) (.string F) (.int .i64 m) (.int .i64 n)).on g1
  have q1 := cell6 (w.alloc (.cells #[.string nm, .string F, .int .i64 m, .int .i64 n] 37)) 32 (.int .i64 o) (.int .i64 s) (.int .i64 t) (.int .i64 d) (.int .i64 a) (.int .i64 i)
  have b1 := onto g0 g1
  rw [show (w.alloc (.cells #[.string nm, .string F, .int .i64 m, .int .i64 n] 37)).heap.size = w.heap.size + 1 by simp] at q1
  clear g0 g1
  generalize (w.alloc (.cells #[.string nm, .string F, .int .i64 m, .int .i64 n] 37)).alloc (.cells #[.int .i64 o, .int .i64 s, .int .i64 t, .int .i64 d, .int .i64 a, .int .i64 i] 32) = W at *
  obtain ⟨x0, x1, x2, x3⟩ := p1
  obtain ⟨y0, y1, y2, y3, y4, y5⟩ := q1
  go_quiet (fail)
  go_wp2_with fail
  refine (hw _).mono ?_
  rintro e w' ⟨rfl, rfl⟩
  go_wp2
  go_ret
  exact ⟨rfl, below_drewN b1 _⟩

theorem bare_C0 {nm F : ByteArray} {m n o s t d a i V : Int} (hF : F.toList = [67, 48])
    (hw : ∀ w, Calls Tryd.prog 29 #[.int .i64 m, .int .i64 n, .int .i64 t, .int .i64 d, .int .i64 0, .int .i64 0] w fun e w' => e = .returned (.int .u32 V) ∧ w' = w) (w : World) :
    Calls Tryd.prog 26 #[.agg #[.string nm, .string F, .int .i64 m, .int .i64 n], .agg #[.int .i64 o, .int .i64 s, .int .i64 t, .int .i64 d, .int .i64 a, .int .i64 i]] w fun e w' => e = .returned (.int .u32 V) ∧ Below w.heap.size w w' := by
  go_enter Tryd.func26, Tryd.ntmps26
  go_wp2_with fail
  have g0 := grow w (.cells #[.string nm, .string F, .int .i64 m, .int .i64 n] 37)
  have g1 := grow (w.alloc (.cells #[.string nm, .string F, .int .i64 m, .int .i64 n] 37)) (.cells #[.int .i64 o, .int .i64 s, .int .i64 t, .int .i64 d, .int .i64 a, .int .i64 i] 32)
  have p1 := (cell4 w 37 (.string nm) (.string F) (.int .i64 m) (.int .i64 n)).on g1
  have q1 := cell6 (w.alloc (.cells #[.string nm, .string F, .int .i64 m, .int .i64 n] 37)) 32 (.int .i64 o) (.int .i64 s) (.int .i64 t) (.int .i64 d) (.int .i64 a) (.int .i64 i)
  have b1 := onto g0 g1
  rw [show (w.alloc (.cells #[.string nm, .string F, .int .i64 m, .int .i64 n] 37)).heap.size = w.heap.size + 1 by simp] at q1
  clear g0 g1
  generalize (w.alloc (.cells #[.string nm, .string F, .int .i64 m, .int .i64 n] 37)).alloc (.cells #[.int .i64 o, .int .i64 s, .int .i64 t, .int .i64 d, .int .i64 a, .int .i64 i] 32) = W at *
  obtain ⟨x0, x1, x2, x3⟩ := p1
  obtain ⟨y0, y1, y2, y3, y4, y5⟩ := q1
  go_quiet (fail)
  go_wp2_with fail
  refine (hw _).mono ?_
  rintro e w' ⟨rfl, rfl⟩
  go_wp2
  go_ret
  exact ⟨rfl, below_drewN b1 _⟩

theorem bare_N {nm F : ByteArray} {m n o s t d a i V : Int} (hF : F.toList = [78])
    (hw : ∀ w, Calls Tryd.prog 29 #[.int .i64 m, .int .i64 0, .int .i64 0, .int .i64 0, .int .i64 0, .int .i64 n] w fun e w' => e = .returned (.int .u32 V) ∧ w' = w) (w : World) :
    Calls Tryd.prog 26 #[.agg #[.string nm, .string F, .int .i64 m, .int .i64 n], .agg #[.int .i64 o, .int .i64 s, .int .i64 t, .int .i64 d, .int .i64 a, .int .i64 i]] w fun e w' => e = .returned (.int .u32 V) ∧ Below w.heap.size w w' := by
  go_enter Tryd.func26, Tryd.ntmps26
  go_wp2_with fail
  have g0 := grow w (.cells #[.string nm, .string F, .int .i64 m, .int .i64 n] 37)
  have g1 := grow (w.alloc (.cells #[.string nm, .string F, .int .i64 m, .int .i64 n] 37)) (.cells #[.int .i64 o, .int .i64 s, .int .i64 t, .int .i64 d, .int .i64 a, .int .i64 i] 32)
  have p1 := (cell4 w 37 (.string nm) (.string F) (.int .i64 m) (.int .i64 n)).on g1
  have q1 := cell6 (w.alloc (.cells #[.string nm, .string F, .int .i64 m, .int .i64 n] 37)) 32 (.int .i64 o) (.int .i64 s) (.int .i64 t) (.int .i64 d) (.int .i64 a) (.int .i64 i)
  have b1 := onto g0 g1
  rw [show (w.alloc (.cells #[.string nm, .string F, .int .i64 m, .int .i64 n] 37)).heap.size = w.heap.size + 1 by simp] at q1
  clear g0 g1
  generalize (w.alloc (.cells #[.string nm, .string F, .int .i64 m, .int .i64 n] 37)).alloc (.cells #[.int .i64 o, .int .i64 s, .int .i64 t, .int .i64 d, .int .i64 a, .int .i64 i] 32) = W at *
  obtain ⟨x0, x1, x2, x3⟩ := p1
  obtain ⟨y0, y1, y2, y3, y4, y5⟩ := q1
  go_quiet (fail)
  go_wp2_with fail
  refine (hw _).mono ?_
  rintro e w' ⟨rfl, rfl⟩
  go_wp2
  go_ret
  exact ⟨rfl, below_drewN b1 _⟩

set_option linter.unusedVariables false

theorem rest_SH {nm F : ByteArray} {m n o s t d a i : Int} (hF : F.toList = [83, 72]) (w : World) :
    Calls Tryd.prog 27 #[.agg #[.string nm, .string F, .int .i64 m, .int .i64 n], .agg #[.int .i64 o, .int .i64 s, .int .i64 t, .int .i64 d, .int .i64 a, .int .i64 i]] w fun e w' => e = .returned (.agg #[.int .i64 0, .int .i64 s, .int .i64 0, .int .i64 0, .int .i64 0, .int .i64 i]) ∧ Below w.heap.size w w' := by
  go_enter Tryd.func27, Tryd.ntmps27
  go_wp2
  refine bodyPost_ret (v := .agg #[.int .i64 0, .int .i64 s, .int .i64 0, .int .i64 0, .int .i64 0, .int .i64 i]) (by simp [results, Tryd.results27, go_sem]) rfl ⟨rfl, ?_⟩
  repeat (first | exact Below.refl _ _ | (apply Below.alloc _ (by first | (simp; done) | (simp; omega))) | (apply Below.setCell _ (by first | (simp; done) | (simp; omega))))

theorem rest_SV {nm F : ByteArray} {m n o s t d a i : Int} (hF : F.toList = [83, 86]) (w : World) :
    Calls Tryd.prog 27 #[.agg #[.string nm, .string F, .int .i64 m, .int .i64 n], .agg #[.int .i64 o, .int .i64 s, .int .i64 t, .int .i64 d, .int .i64 a, .int .i64 i]] w fun e w' => e = .returned (.agg #[.int .i64 0, .int .i64 0, .int .i64 0, .int .i64 0, .int .i64 a, .int .i64 i]) ∧ Below w.heap.size w w' := by
  go_enter Tryd.func27, Tryd.ntmps27
  go_wp2
  refine bodyPost_ret (v := .agg #[.int .i64 0, .int .i64 0, .int .i64 0, .int .i64 0, .int .i64 a, .int .i64 i]) (by simp [results, Tryd.results27, go_sem]) rfl ⟨rfl, ?_⟩
  repeat (first | exact Below.refl _ _ | (apply Below.alloc _ (by first | (simp; done) | (simp; omega))) | (apply Below.setCell _ (by first | (simp; done) | (simp; omega))))

theorem rest_R {nm F : ByteArray} {m n o s t d a i : Int} (hF : F.toList = [82]) (w : World) :
    Calls Tryd.prog 27 #[.agg #[.string nm, .string F, .int .i64 m, .int .i64 n], .agg #[.int .i64 o, .int .i64 s, .int .i64 t, .int .i64 d, .int .i64 a, .int .i64 i]] w fun e w' => e = .returned (.agg #[.int .i64 0, .int .i64 0, .int .i64 0, .int .i64 0, .int .i64 a, .int .i64 i]) ∧ Below w.heap.size w w' := by
  go_enter Tryd.func27, Tryd.ntmps27
  go_wp2
  refine bodyPost_ret (v := .agg #[.int .i64 0, .int .i64 0, .int .i64 0, .int .i64 0, .int .i64 a, .int .i64 i]) (by simp [results, Tryd.results27, go_sem]) rfl ⟨rfl, ?_⟩
  repeat (first | exact Below.refl _ _ | (apply Below.alloc _ (by first | (simp; done) | (simp; omega))) | (apply Below.setCell _ (by first | (simp; done) | (simp; omega))))

theorem rest_JR {nm F : ByteArray} {m n o s t d a i : Int} (hF : F.toList = [74, 82]) (w : World) :
    Calls Tryd.prog 27 #[.agg #[.string nm, .string F, .int .i64 m, .int .i64 n], .agg #[.int .i64 o, .int .i64 s, .int .i64 t, .int .i64 d, .int .i64 a, .int .i64 i]] w fun e w' => e = .returned (.agg #[.int .i64 0, .int .i64 0, .int .i64 t, .int .i64 d, .int .i64 a, .int .i64 i]) ∧ Below w.heap.size w w' := by
  go_enter Tryd.func27, Tryd.ntmps27
  go_wp2
  refine bodyPost_ret (v := .agg #[.int .i64 0, .int .i64 0, .int .i64 t, .int .i64 d, .int .i64 a, .int .i64 i]) (by simp [results, Tryd.results27, go_sem]) rfl ⟨rfl, ?_⟩
  repeat (first | exact Below.refl _ _ | (apply Below.alloc _ (by first | (simp; done) | (simp; omega))) | (apply Below.setCell _ (by first | (simp; done) | (simp; omega))))

theorem rest_MT {nm F : ByteArray} {m n o s t d a i : Int} (hF : F.toList = [77, 84]) (w : World) :
    Calls Tryd.prog 27 #[.agg #[.string nm, .string F, .int .i64 m, .int .i64 n], .agg #[.int .i64 o, .int .i64 s, .int .i64 t, .int .i64 d, .int .i64 a, .int .i64 i]] w fun e w' => e = .returned (.agg #[.int .i64 0, .int .i64 0, .int .i64 t, .int .i64 d, .int .i64 a, .int .i64 i]) ∧ Below w.heap.size w w' := by
  go_enter Tryd.func27, Tryd.ntmps27
  go_wp2
  refine bodyPost_ret (v := .agg #[.int .i64 0, .int .i64 0, .int .i64 t, .int .i64 d, .int .i64 a, .int .i64 i]) (by simp [results, Tryd.results27, go_sem]) rfl ⟨rfl, ?_⟩
  repeat (first | exact Below.refl _ _ | (apply Below.alloc _ (by first | (simp; done) | (simp; omega))) | (apply Below.setCell _ (by first | (simp; done) | (simp; omega))))

theorem rest_JALR {nm F : ByteArray} {m n o s t d a i : Int} (hF : F.toList = [74, 65, 76, 82]) (w : World) :
    Calls Tryd.prog 27 #[.agg #[.string nm, .string F, .int .i64 m, .int .i64 n], .agg #[.int .i64 o, .int .i64 s, .int .i64 t, .int .i64 d, .int .i64 a, .int .i64 i]] w fun e w' => e = .returned (.agg #[.int .i64 0, .int .i64 0, .int .i64 t, .int .i64 0, .int .i64 a, .int .i64 i]) ∧ Below w.heap.size w w' := by
  go_enter Tryd.func27, Tryd.ntmps27
  go_wp2
  refine bodyPost_ret (v := .agg #[.int .i64 0, .int .i64 0, .int .i64 t, .int .i64 0, .int .i64 a, .int .i64 i]) (by simp [results, Tryd.results27, go_sem]) rfl ⟨rfl, ?_⟩
  repeat (first | exact Below.refl _ _ | (apply Below.alloc _ (by first | (simp; done) | (simp; omega))) | (apply Below.setCell _ (by first | (simp; done) | (simp; omega))))

theorem rest_CL {nm F : ByteArray} {m n o s t d a i : Int} (hF : F.toList = [67, 76]) (w : World) :
    Calls Tryd.prog 27 #[.agg #[.string nm, .string F, .int .i64 m, .int .i64 n], .agg #[.int .i64 o, .int .i64 s, .int .i64 t, .int .i64 d, .int .i64 a, .int .i64 i]] w fun e w' => e = .returned (.agg #[.int .i64 0, .int .i64 0, .int .i64 t, .int .i64 0, .int .i64 a, .int .i64 i]) ∧ Below w.heap.size w w' := by
  go_enter Tryd.func27, Tryd.ntmps27
  go_wp2
  refine bodyPost_ret (v := .agg #[.int .i64 0, .int .i64 0, .int .i64 t, .int .i64 0, .int .i64 a, .int .i64 i]) (by simp [results, Tryd.results27, go_sem]) rfl ⟨rfl, ?_⟩
  repeat (first | exact Below.refl _ _ | (apply Below.alloc _ (by first | (simp; done) | (simp; omega))) | (apply Below.setCell _ (by first | (simp; done) | (simp; omega))))

theorem rest_MF {nm F : ByteArray} {m n o s t d a i : Int} (hF : F.toList = [77, 70]) (w : World) :
    Calls Tryd.prog 27 #[.agg #[.string nm, .string F, .int .i64 m, .int .i64 n], .agg #[.int .i64 o, .int .i64 s, .int .i64 t, .int .i64 d, .int .i64 a, .int .i64 i]] w fun e w' => e = .returned (.agg #[.int .i64 0, .int .i64 s, .int .i64 t, .int .i64 0, .int .i64 a, .int .i64 i]) ∧ Below w.heap.size w w' := by
  go_enter Tryd.func27, Tryd.ntmps27
  go_wp2
  refine bodyPost_ret (v := .agg #[.int .i64 0, .int .i64 s, .int .i64 t, .int .i64 0, .int .i64 a, .int .i64 i]) (by simp [results, Tryd.results27, go_sem]) rfl ⟨rfl, ?_⟩
  repeat (first | exact Below.refl _ _ | (apply Below.alloc _ (by first | (simp; done) | (simp; omega))) | (apply Below.setCell _ (by first | (simp; done) | (simp; omega))))

theorem rest_MD {nm F : ByteArray} {m n o s t d a i : Int} (hF : F.toList = [77, 68]) (w : World) :
    Calls Tryd.prog 27 #[.agg #[.string nm, .string F, .int .i64 m, .int .i64 n], .agg #[.int .i64 o, .int .i64 s, .int .i64 t, .int .i64 d, .int .i64 a, .int .i64 i]] w fun e w' => e = .returned (.agg #[.int .i64 0, .int .i64 0, .int .i64 0, .int .i64 d, .int .i64 a, .int .i64 i]) ∧ Below w.heap.size w w' := by
  go_enter Tryd.func27, Tryd.ntmps27
  go_wp2
  refine bodyPost_ret (v := .agg #[.int .i64 0, .int .i64 0, .int .i64 0, .int .i64 d, .int .i64 a, .int .i64 i]) (by simp [results, Tryd.results27, go_sem]) rfl ⟨rfl, ?_⟩
  repeat (first | exact Below.refl _ _ | (apply Below.alloc _ (by first | (simp; done) | (simp; omega))) | (apply Below.setCell _ (by first | (simp; done) | (simp; omega))))

theorem rest_CO {nm F : ByteArray} {m n o s t d a i : Int} (hF : F.toList = [67, 79]) (w : World) :
    Calls Tryd.prog 27 #[.agg #[.string nm, .string F, .int .i64 m, .int .i64 n], .agg #[.int .i64 o, .int .i64 s, .int .i64 t, .int .i64 d, .int .i64 a, .int .i64 i]] w fun e w' => e = .returned (.agg #[.int .i64 0, .int .i64 s, .int .i64 t, .int .i64 d, .int .i64 a, .int .i64 i]) ∧ Below w.heap.size w w' := by
  go_enter Tryd.func27, Tryd.ntmps27
  go_wp2
  refine bodyPost_ret (v := .agg #[.int .i64 0, .int .i64 s, .int .i64 t, .int .i64 d, .int .i64 a, .int .i64 i]) (by simp [results, Tryd.results27, go_sem]) rfl ⟨rfl, ?_⟩
  repeat (first | exact Below.refl _ _ | (apply Below.alloc _ (by first | (simp; done) | (simp; omega))) | (apply Below.setCell _ (by first | (simp; done) | (simp; omega))))

theorem rest_C0 {nm F : ByteArray} {m n o s t d a i : Int} (hF : F.toList = [67, 48]) (w : World) :
    Calls Tryd.prog 27 #[.agg #[.string nm, .string F, .int .i64 m, .int .i64 n], .agg #[.int .i64 o, .int .i64 s, .int .i64 t, .int .i64 d, .int .i64 a, .int .i64 i]] w fun e w' => e = .returned (.agg #[.int .i64 0, .int .i64 s, .int .i64 0, .int .i64 0, .int .i64 a, .int .i64 i]) ∧ Below w.heap.size w w' := by
  go_enter Tryd.func27, Tryd.ntmps27
  go_wp2
  refine bodyPost_ret (v := .agg #[.int .i64 0, .int .i64 s, .int .i64 0, .int .i64 0, .int .i64 a, .int .i64 i]) (by simp [results, Tryd.results27, go_sem]) rfl ⟨rfl, ?_⟩
  repeat (first | exact Below.refl _ _ | (apply Below.alloc _ (by first | (simp; done) | (simp; omega))) | (apply Below.setCell _ (by first | (simp; done) | (simp; omega))))

theorem rest_N {nm F : ByteArray} {m n o s t d a i : Int} (hF : F.toList = [78]) (w : World) :
    Calls Tryd.prog 27 #[.agg #[.string nm, .string F, .int .i64 m, .int .i64 n], .agg #[.int .i64 o, .int .i64 s, .int .i64 t, .int .i64 d, .int .i64 a, .int .i64 i]] w fun e w' => e = .returned (.agg #[.int .i64 0, .int .i64 s, .int .i64 t, .int .i64 d, .int .i64 a, .int .i64 i]) ∧ Below w.heap.size w w' := by
  go_enter Tryd.func27, Tryd.ntmps27
  go_wp2
  refine bodyPost_ret (v := .agg #[.int .i64 0, .int .i64 s, .int .i64 t, .int .i64 d, .int .i64 a, .int .i64 i]) (by simp [results, Tryd.results27, go_sem]) rfl ⟨rfl, ?_⟩
  repeat (first | exact Below.refl _ _ | (apply Below.alloc _ (by first | (simp; done) | (simp; omega))) | (apply Below.setCell _ (by first | (simp; done) | (simp; omega))))

set_option linter.unusedVariables false
set_option linter.unusedSimpArgs false

theorem mj_lt : ∀ op < 69, Dec.mj op < 64 ∧ Dec.mn op < 64 := by decide +kernel
theorem mn_lt : ∀ op < 69, Dec.fm op = 17 ∨ Dec.fm op = 11 → Dec.mn op < 32 := by decide +kernel
theorem nm_some : ∀ op < 69, ¬ (Dec.name op).data.toList = [] := by decide +kernel

theorem good_iff (op : Nat) (h : op < 69) (s t d a : Nat) (hs : s < 32) (ht : t < 32) (hd : d < 32) (ha : a < 32) (i : Int) :
    Good op s t d a i ↔ ((if HasS (Dec.fm op) then s else 0) = s ∧ (if HasT (Dec.fm op) then t else 0) = t ∧ (if HasD (Dec.fm op) then d else 0) = d ∧ (if HasA (Dec.fm op) then a else 0) = a ∧ ImmOk (Dec.fm op) i) := by
  obtain ⟨e1, e2, e3, e4, -⟩ := drawn_laid op h s t d a hs ht hd ha i
  have e5 := di_laid op h s t d a hs ht hd ha i
  unfold Good
  rw [e1, e2, e3, e4, e5, Int.natCast_inj, Int.natCast_inj, Int.natCast_inj, Int.natCast_inj]

theorem good_in {op : Nat} {s t d a i : Int} (h : Good op s t d a i) : (0 ≤ s ∧ s ≤ 31) ∧ (0 ≤ t ∧ t ≤ 31) ∧ (0 ≤ d ∧ d ≤ 31) ∧ (0 ≤ a ∧ a ≤ 31) := by
  obtain ⟨e1, e2, e3, e4, -⟩ := h
  have k1 : Dec.ds op (Dec.laid op s t d a i) < 32 := Nat.mod_lt _ (by decide)
  have k2 : Dec.dt op (Dec.laid op s t d a i) < 32 := Nat.mod_lt _ (by decide)
  have k3 : Dec.dd op (Dec.laid op s t d a i) < 32 := Nat.mod_lt _ (by decide)
  have k4 : Dec.da op (Dec.laid op s t d a i) < 32 := Nat.mod_lt _ (by decide)
  omega

theorem ends_of (q : Bool) (i lo hi : Int) :
    ((q && !decide (i < lo) && !decide (i > hi)) = false ∧ q = false) ∨ ((q && !decide (i < lo) && !decide (i > hi)) = false ∧ q = true ∧ decide (i < lo) = true) ∨
      ((q && !decide (i < lo) && !decide (i > hi)) = false ∧ q = true ∧ decide (i < lo) = false ∧ decide (i > hi) = true) ∨ ((q && !decide (i < lo) && !decide (i > hi)) = true ∧ q = true ∧ decide (i < lo) = false ∧ decide (i > hi) = false) := by
  cases q <;> cases decide (i < lo) <;> cases decide (i > hi) <;> simp

theorem is_yes (n : Nat) (h : n < 32) (w : World) : Calls Tryd.prog 25 #[.int .i64 (n : Int)] w fun e w' => e = .returned (.bool true) ∧ w' = w := by
  have := is_any (n : Int) w
  rw [decide_eq_true (show 0 ≤ (n : Int) ∧ (n : Int) ≤ 31 by omega)] at this
  exact this

theorem same_below {f : Nat} {v : Array Value} {w : World} {r : Ending} (h : Calls Tryd.prog f v w fun e w' => e = r ∧ w' = w) : Calls Tryd.prog f v w fun e w' => e = r ∧ Below w.heap.size w w' :=
  h.mono fun e w' ⟨h1, h2⟩ => ⟨h1, h2 ▸ Below.refl _ _⟩

theorem jump_is (m : Nat) (hm : m < 64) (i : Int) : wrap64 (wrap64 ((m : Int) * 67108864) + i % 67108864) % 4294967296 = ((W m 0 0 0 0 0 + (i % 67108864).toNat : Nat) : Int) := by
  unfold W
  rw [wrap64_id ((m : Int) * 67108864) (by omega) (by omega), wrap64_id _ (by omega) (by omega)]
  omega

/-- An answer of the document's Encode. -/
def Enc (o s t d a i : Int) (v : Value) : Prop := ∀ w, Calls Tryd.prog 16 #[.agg #[.int .i64 o, .int .i64 s, .int .i64 t, .int .i64 d, .int .i64 a, .int .i64 i]] w fun e w' => e = .returned v ∧ Below w.heap.size w w'

theorem enc_SH (op : Nat) (ho : op < 69) (hf : Dec.fm op = 1) (s t d a : Nat) (hs : s < 32) (ht : t < 32) (hd : d < 32) (ha : a < 32) (i : Int) :
    ∃ ok : Bool, (ok = true ↔ Good op s t d a i) ∧ Enc op s t d a i (if ok then .tuple #[.int .u32 (Dec.laid op s t d a i : Nat), .int .i64 0] else .tuple #[.int .u32 0, .int .i64 40]) := by
  have hmn := mj_lt op ho
  have e : idx (op : Int) = op := by unfold idx; rw [if_pos (by omega)]; omega
  have hA := fun w => at_any (op : Int) w
  rw [e] at hA
  have hF : (Dec.lname (Dec.fm op)).toList = [83, 72] := by rw [ByteArray.toList_eq, hf]; rfl
  have n0 := nm_some op ho
  rw [← ByteArray.toList_eq] at n0
  rw [laid_FW op ho s t d a hs ht hd ha i, hf]
  refine ⟨same6 0 (s : Nat) 0 0 0 i 0 0 0 0 0 0 && !decide (i < (-32768)) && !decide (i > 32767), ?_, fun w => renc_SH (U := 0) (L := 0) hF n0 (by simpa using n0) hA (fun w => is_yes s hs w) (fun w => is_yes t ht w) (fun w => is_yes d hd w) (fun w => is_yes a ha w) (fun w => bare_SH hF (fun w => word_any (Dec.mj op) 0 t d a (Dec.mn op) hmn.1 (by decide) ht hd ha hmn.2 w) w) (fun w => rest_SH hF w) rfl (ends_of _ i (-32768) 32767) w⟩
  rw [good_iff op ho s t d a hs ht hd ha i, hf]
  simp [same6, HasS, HasT, HasD, HasA, ImmOk]
  try omega

theorem enc_SV (op : Nat) (ho : op < 69) (hf : Dec.fm op = 2) (s t d a : Nat) (hs : s < 32) (ht : t < 32) (hd : d < 32) (ha : a < 32) (i : Int) :
    ∃ ok : Bool, (ok = true ↔ Good op s t d a i) ∧ Enc op s t d a i (if ok then .tuple #[.int .u32 (Dec.laid op s t d a i : Nat), .int .i64 0] else .tuple #[.int .u32 0, .int .i64 40]) := by
  have hmn := mj_lt op ho
  have e : idx (op : Int) = op := by unfold idx; rw [if_pos (by omega)]; omega
  have hA := fun w => at_any (op : Int) w
  rw [e] at hA
  have hF : (Dec.lname (Dec.fm op)).toList = [83, 86] := by rw [ByteArray.toList_eq, hf]; rfl
  have n0 := nm_some op ho
  rw [← ByteArray.toList_eq] at n0
  rw [laid_FW op ho s t d a hs ht hd ha i, hf]
  refine ⟨same6 0 0 0 0 (a : Nat) i 0 0 0 0 0 0 && !decide (i < (-32768)) && !decide (i > 32767), ?_, fun w => renc_SV (U := 0) (L := 0) hF n0 (by simpa using n0) hA (fun w => is_yes s hs w) (fun w => is_yes t ht w) (fun w => is_yes d hd w) (fun w => is_yes a ha w) (fun w => bare_SV hF (fun w => word_any (Dec.mj op) s t d 0 (Dec.mn op) hmn.1 hs ht hd (by decide) hmn.2 w) w) (fun w => rest_SV hF w) rfl (ends_of _ i (-32768) 32767) w⟩
  rw [good_iff op ho s t d a hs ht hd ha i, hf]
  simp [same6, HasS, HasT, HasD, HasA, ImmOk]
  try omega

theorem enc_R (op : Nat) (ho : op < 69) (hf : Dec.fm op = 5) (s t d a : Nat) (hs : s < 32) (ht : t < 32) (hd : d < 32) (ha : a < 32) (i : Int) :
    ∃ ok : Bool, (ok = true ↔ Good op s t d a i) ∧ Enc op s t d a i (if ok then .tuple #[.int .u32 (Dec.laid op s t d a i : Nat), .int .i64 0] else .tuple #[.int .u32 0, .int .i64 40]) := by
  have hmn := mj_lt op ho
  have e : idx (op : Int) = op := by unfold idx; rw [if_pos (by omega)]; omega
  have hA := fun w => at_any (op : Int) w
  rw [e] at hA
  have hF : (Dec.lname (Dec.fm op)).toList = [82] := by rw [ByteArray.toList_eq, hf]; rfl
  have n0 := nm_some op ho
  rw [← ByteArray.toList_eq] at n0
  rw [laid_FW op ho s t d a hs ht hd ha i, hf]
  refine ⟨same6 0 0 0 0 (a : Nat) i 0 0 0 0 0 0 && !decide (i < (-32768)) && !decide (i > 32767), ?_, fun w => renc_R (U := 0) (L := 0) hF n0 (by simpa using n0) hA (fun w => is_yes s hs w) (fun w => is_yes t ht w) (fun w => is_yes d hd w) (fun w => is_yes a ha w) (fun w => bare_R hF (fun w => word_any (Dec.mj op) s t d 0 (Dec.mn op) hmn.1 hs ht hd (by decide) hmn.2 w) w) (fun w => rest_R hF w) rfl (ends_of _ i (-32768) 32767) w⟩
  rw [good_iff op ho s t d a hs ht hd ha i, hf]
  simp [same6, HasS, HasT, HasD, HasA, ImmOk]
  try omega

theorem enc_JR (op : Nat) (ho : op < 69) (hf : Dec.fm op = 3) (s t d a : Nat) (hs : s < 32) (ht : t < 32) (hd : d < 32) (ha : a < 32) (i : Int) :
    ∃ ok : Bool, (ok = true ↔ Good op s t d a i) ∧ Enc op s t d a i (if ok then .tuple #[.int .u32 (Dec.laid op s t d a i : Nat), .int .i64 0] else .tuple #[.int .u32 0, .int .i64 40]) := by
  have hmn := mj_lt op ho
  have e : idx (op : Int) = op := by unfold idx; rw [if_pos (by omega)]; omega
  have hA := fun w => at_any (op : Int) w
  rw [e] at hA
  have hF : (Dec.lname (Dec.fm op)).toList = [74, 82] := by rw [ByteArray.toList_eq, hf]; rfl
  have n0 := nm_some op ho
  rw [← ByteArray.toList_eq] at n0
  rw [laid_FW op ho s t d a hs ht hd ha i, hf]
  refine ⟨same6 0 0 (t : Nat) (d : Nat) (a : Nat) i 0 0 0 0 0 0 && !decide (i < (-32768)) && !decide (i > 32767), ?_, fun w => renc_JR (U := 0) (L := 0) hF n0 (by simpa using n0) hA (fun w => is_yes s hs w) (fun w => is_yes t ht w) (fun w => is_yes d hd w) (fun w => is_yes a ha w) (fun w => bare_JR hF (fun w => word_any (Dec.mj op) s 0 0 0 (Dec.mn op) hmn.1 hs (by decide) (by decide) (by decide) hmn.2 w) w) (fun w => rest_JR hF w) rfl (ends_of _ i (-32768) 32767) w⟩
  rw [good_iff op ho s t d a hs ht hd ha i, hf]
  simp [same6, HasS, HasT, HasD, HasA, ImmOk]
  try omega

theorem enc_MT (op : Nat) (ho : op < 69) (hf : Dec.fm op = 8) (s t d a : Nat) (hs : s < 32) (ht : t < 32) (hd : d < 32) (ha : a < 32) (i : Int) :
    ∃ ok : Bool, (ok = true ↔ Good op s t d a i) ∧ Enc op s t d a i (if ok then .tuple #[.int .u32 (Dec.laid op s t d a i : Nat), .int .i64 0] else .tuple #[.int .u32 0, .int .i64 40]) := by
  have hmn := mj_lt op ho
  have e : idx (op : Int) = op := by unfold idx; rw [if_pos (by omega)]; omega
  have hA := fun w => at_any (op : Int) w
  rw [e] at hA
  have hF : (Dec.lname (Dec.fm op)).toList = [77, 84] := by rw [ByteArray.toList_eq, hf]; rfl
  have n0 := nm_some op ho
  rw [← ByteArray.toList_eq] at n0
  rw [laid_FW op ho s t d a hs ht hd ha i, hf]
  refine ⟨same6 0 0 (t : Nat) (d : Nat) (a : Nat) i 0 0 0 0 0 0 && !decide (i < (-32768)) && !decide (i > 32767), ?_, fun w => renc_MT (U := 0) (L := 0) hF n0 (by simpa using n0) hA (fun w => is_yes s hs w) (fun w => is_yes t ht w) (fun w => is_yes d hd w) (fun w => is_yes a ha w) (fun w => bare_MT hF (fun w => word_any (Dec.mj op) s 0 0 0 (Dec.mn op) hmn.1 hs (by decide) (by decide) (by decide) hmn.2 w) w) (fun w => rest_MT hF w) rfl (ends_of _ i (-32768) 32767) w⟩
  rw [good_iff op ho s t d a hs ht hd ha i, hf]
  simp [same6, HasS, HasT, HasD, HasA, ImmOk]
  try omega

theorem enc_JALR (op : Nat) (ho : op < 69) (hf : Dec.fm op = 4) (s t d a : Nat) (hs : s < 32) (ht : t < 32) (hd : d < 32) (ha : a < 32) (i : Int) :
    ∃ ok : Bool, (ok = true ↔ Good op s t d a i) ∧ Enc op s t d a i (if ok then .tuple #[.int .u32 (Dec.laid op s t d a i : Nat), .int .i64 0] else .tuple #[.int .u32 0, .int .i64 40]) := by
  have hmn := mj_lt op ho
  have e : idx (op : Int) = op := by unfold idx; rw [if_pos (by omega)]; omega
  have hA := fun w => at_any (op : Int) w
  rw [e] at hA
  have hF : (Dec.lname (Dec.fm op)).toList = [74, 65, 76, 82] := by rw [ByteArray.toList_eq, hf]; rfl
  have n0 := nm_some op ho
  rw [← ByteArray.toList_eq] at n0
  rw [laid_FW op ho s t d a hs ht hd ha i, hf]
  refine ⟨same6 0 0 (t : Nat) 0 (a : Nat) i 0 0 0 0 0 0 && !decide (i < (-32768)) && !decide (i > 32767), ?_, fun w => renc_JALR (U := 0) (L := 0) hF n0 (by simpa using n0) hA (fun w => is_yes s hs w) (fun w => is_yes t ht w) (fun w => is_yes d hd w) (fun w => is_yes a ha w) (fun w => bare_JALR hF (fun w => word_any (Dec.mj op) s 0 d 0 (Dec.mn op) hmn.1 hs (by decide) hd (by decide) hmn.2 w) w) (fun w => rest_JALR hF w) rfl (ends_of _ i (-32768) 32767) w⟩
  rw [good_iff op ho s t d a hs ht hd ha i, hf]
  simp [same6, HasS, HasT, HasD, HasA, ImmOk]
  try omega

theorem enc_CL (op : Nat) (ho : op < 69) (hf : Dec.fm op = 10) (s t d a : Nat) (hs : s < 32) (ht : t < 32) (hd : d < 32) (ha : a < 32) (i : Int) :
    ∃ ok : Bool, (ok = true ↔ Good op s t d a i) ∧ Enc op s t d a i (if ok then .tuple #[.int .u32 (Dec.laid op s t d a i : Nat), .int .i64 0] else .tuple #[.int .u32 0, .int .i64 40]) := by
  have hmn := mj_lt op ho
  have e : idx (op : Int) = op := by unfold idx; rw [if_pos (by omega)]; omega
  have hA := fun w => at_any (op : Int) w
  rw [e] at hA
  have hF : (Dec.lname (Dec.fm op)).toList = [67, 76] := by rw [ByteArray.toList_eq, hf]; rfl
  have n0 := nm_some op ho
  rw [← ByteArray.toList_eq] at n0
  rw [laid_FW op ho s t d a hs ht hd ha i, hf]
  refine ⟨same6 0 0 (t : Nat) 0 (a : Nat) i 0 0 0 0 0 0 && !decide (i < (-32768)) && !decide (i > 32767), ?_, fun w => renc_CL (U := 0) (L := 0) hF n0 (by simpa using n0) hA (fun w => is_yes s hs w) (fun w => is_yes t ht w) (fun w => is_yes d hd w) (fun w => is_yes a ha w) (fun w => bare_CL hF (fun w => word_any (Dec.mj op) s d d 0 (Dec.mn op) hmn.1 hs hd hd (by decide) hmn.2 w) w) (fun w => rest_CL hF w) rfl (ends_of _ i (-32768) 32767) w⟩
  rw [good_iff op ho s t d a hs ht hd ha i, hf]
  simp [same6, HasS, HasT, HasD, HasA, ImmOk]
  try omega

theorem enc_MF (op : Nat) (ho : op < 69) (hf : Dec.fm op = 7) (s t d a : Nat) (hs : s < 32) (ht : t < 32) (hd : d < 32) (ha : a < 32) (i : Int) :
    ∃ ok : Bool, (ok = true ↔ Good op s t d a i) ∧ Enc op s t d a i (if ok then .tuple #[.int .u32 (Dec.laid op s t d a i : Nat), .int .i64 0] else .tuple #[.int .u32 0, .int .i64 40]) := by
  have hmn := mj_lt op ho
  have e : idx (op : Int) = op := by unfold idx; rw [if_pos (by omega)]; omega
  have hA := fun w => at_any (op : Int) w
  rw [e] at hA
  have hF : (Dec.lname (Dec.fm op)).toList = [77, 70] := by rw [ByteArray.toList_eq, hf]; rfl
  have n0 := nm_some op ho
  rw [← ByteArray.toList_eq] at n0
  rw [laid_FW op ho s t d a hs ht hd ha i, hf]
  refine ⟨same6 0 (s : Nat) (t : Nat) 0 (a : Nat) i 0 0 0 0 0 0 && !decide (i < (-32768)) && !decide (i > 32767), ?_, fun w => renc_MF (U := 0) (L := 0) hF n0 (by simpa using n0) hA (fun w => is_yes s hs w) (fun w => is_yes t ht w) (fun w => is_yes d hd w) (fun w => is_yes a ha w) (fun w => bare_MF hF (fun w => word_any (Dec.mj op) 0 0 d 0 (Dec.mn op) hmn.1 (by decide) (by decide) hd (by decide) hmn.2 w) w) (fun w => rest_MF hF w) rfl (ends_of _ i (-32768) 32767) w⟩
  rw [good_iff op ho s t d a hs ht hd ha i, hf]
  simp [same6, HasS, HasT, HasD, HasA, ImmOk]
  try omega

theorem enc_MD (op : Nat) (ho : op < 69) (hf : Dec.fm op = 9) (s t d a : Nat) (hs : s < 32) (ht : t < 32) (hd : d < 32) (ha : a < 32) (i : Int) :
    ∃ ok : Bool, (ok = true ↔ Good op s t d a i) ∧ Enc op s t d a i (if ok then .tuple #[.int .u32 (Dec.laid op s t d a i : Nat), .int .i64 0] else .tuple #[.int .u32 0, .int .i64 40]) := by
  have hmn := mj_lt op ho
  have e : idx (op : Int) = op := by unfold idx; rw [if_pos (by omega)]; omega
  have hA := fun w => at_any (op : Int) w
  rw [e] at hA
  have hF : (Dec.lname (Dec.fm op)).toList = [77, 68] := by rw [ByteArray.toList_eq, hf]; rfl
  have n0 := nm_some op ho
  rw [← ByteArray.toList_eq] at n0
  rw [laid_FW op ho s t d a hs ht hd ha i, hf]
  refine ⟨same6 0 0 0 (d : Nat) (a : Nat) i 0 0 0 0 0 0 && !decide (i < (-32768)) && !decide (i > 32767), ?_, fun w => renc_MD (U := 0) (L := 0) hF n0 (by simpa using n0) hA (fun w => is_yes s hs w) (fun w => is_yes t ht w) (fun w => is_yes d hd w) (fun w => is_yes a ha w) (fun w => bare_MD hF (fun w => word_any (Dec.mj op) s t 0 0 (Dec.mn op) hmn.1 hs ht (by decide) (by decide) hmn.2 w) w) (fun w => rest_MD hF w) rfl (ends_of _ i (-32768) 32767) w⟩
  rw [good_iff op ho s t d a hs ht hd ha i, hf]
  simp [same6, HasS, HasT, HasD, HasA, ImmOk]
  try omega

theorem enc_CO (op : Nat) (ho : op < 69) (hf : Dec.fm op = 18) (s t d a : Nat) (hs : s < 32) (ht : t < 32) (hd : d < 32) (ha : a < 32) (i : Int) :
    ∃ ok : Bool, (ok = true ↔ Good op s t d a i) ∧ Enc op s t d a i (if ok then .tuple #[.int .u32 (Dec.laid op s t d a i : Nat), .int .i64 0] else .tuple #[.int .u32 0, .int .i64 40]) := by
  have hmn := mj_lt op ho
  have e : idx (op : Int) = op := by unfold idx; rw [if_pos (by omega)]; omega
  have hA := fun w => at_any (op : Int) w
  rw [e] at hA
  have hF : (Dec.lname (Dec.fm op)).toList = [67, 79] := by rw [ByteArray.toList_eq, hf]; rfl
  have n0 := nm_some op ho
  rw [← ByteArray.toList_eq] at n0
  rw [laid_FW op ho s t d a hs ht hd ha i, hf]
  refine ⟨same6 0 (s : Nat) (t : Nat) (d : Nat) (a : Nat) i 0 0 0 0 0 0 && !decide (i < (-32768)) && !decide (i > 32767), ?_, fun w => renc_CO (U := 0) (L := 0) hF n0 (by simpa using n0) hA (fun w => is_yes s hs w) (fun w => is_yes t ht w) (fun w => is_yes d hd w) (fun w => is_yes a ha w) (fun w => bare_CO hF (fun w => word_any (Dec.mj op) 16 0 0 0 (Dec.mn op) hmn.1 (by decide) (by decide) (by decide) (by decide) hmn.2 w) w) (fun w => rest_CO hF w) rfl (ends_of _ i (-32768) 32767) w⟩
  rw [good_iff op ho s t d a hs ht hd ha i, hf]
  simp [same6, HasS, HasT, HasD, HasA, ImmOk]
  try omega

theorem enc_C0 (op : Nat) (ho : op < 69) (hf : Dec.fm op = 17) (s t d a : Nat) (hs : s < 32) (ht : t < 32) (hd : d < 32) (ha : a < 32) (i : Int) :
    ∃ ok : Bool, (ok = true ↔ Good op s t d a i) ∧ Enc op s t d a i (if ok then .tuple #[.int .u32 (Dec.laid op s t d a i : Nat), .int .i64 0] else .tuple #[.int .u32 0, .int .i64 40]) := by
  have hmn := mj_lt op ho
  have hn32 := mn_lt op ho (by rw [hf]; decide)
  have e : idx (op : Int) = op := by unfold idx; rw [if_pos (by omega)]; omega
  have hA := fun w => at_any (op : Int) w
  rw [e] at hA
  have hF : (Dec.lname (Dec.fm op)).toList = [67, 48] := by rw [ByteArray.toList_eq, hf]; rfl
  have n0 := nm_some op ho
  rw [← ByteArray.toList_eq] at n0
  rw [laid_FW op ho s t d a hs ht hd ha i, hf]
  refine ⟨same6 0 (s : Nat) 0 0 (a : Nat) i 0 0 0 0 0 0 && !decide (i < (-32768)) && !decide (i > 32767), ?_, fun w => renc_C0 (U := 0) (L := 0) hF n0 (by simpa using n0) hA (fun w => is_yes s hs w) (fun w => is_yes t ht w) (fun w => is_yes d hd w) (fun w => is_yes a ha w) (fun w => bare_C0 hF (fun w => word_any (Dec.mj op) (Dec.mn op) t d 0 0 hmn.1 hn32 ht hd (by decide) (by decide) w) w) (fun w => rest_C0 hF w) rfl (ends_of _ i (-32768) 32767) w⟩
  rw [good_iff op ho s t d a hs ht hd ha i, hf]
  simp [same6, HasS, HasT, HasD, HasA, ImmOk]
  try omega

theorem enc_N (op : Nat) (ho : op < 69) (hf : Dec.fm op = 6) (s t d a : Nat) (hs : s < 32) (ht : t < 32) (hd : d < 32) (ha : a < 32) (i : Int) :
    ∃ ok : Bool, (ok = true ↔ Good op s t d a i) ∧ Enc op s t d a i (if ok then .tuple #[.int .u32 (Dec.laid op s t d a i : Nat), .int .i64 0] else .tuple #[.int .u32 0, .int .i64 40]) := by
  have hmn := mj_lt op ho
  have e : idx (op : Int) = op := by unfold idx; rw [if_pos (by omega)]; omega
  have hA := fun w => at_any (op : Int) w
  rw [e] at hA
  have hF : (Dec.lname (Dec.fm op)).toList = [78] := by rw [ByteArray.toList_eq, hf]; rfl
  have n0 := nm_some op ho
  rw [← ByteArray.toList_eq] at n0
  rw [laid_FW op ho s t d a hs ht hd ha i, hf]
  refine ⟨same6 0 (s : Nat) (t : Nat) (d : Nat) (a : Nat) i 0 0 0 0 0 0 && !decide (i < (-32768)) && !decide (i > 32767), ?_, fun w => renc_N (U := 0) (L := 0) hF n0 (by simpa using n0) hA (fun w => is_yes s hs w) (fun w => is_yes t ht w) (fun w => is_yes d hd w) (fun w => is_yes a ha w) (fun w => bare_N hF (fun w => word_any (Dec.mj op) 0 0 0 0 (Dec.mn op) hmn.1 (by decide) (by decide) (by decide) (by decide) hmn.2 w) w) (fun w => rest_N hF w) rfl (ends_of _ i (-32768) 32767) w⟩
  rw [good_iff op ho s t d a hs ht hd ha i, hf]
  simp [same6, HasS, HasT, HasD, HasA, ImmOk]
  try omega

theorem enc_J (op : Nat) (ho : op < 69) (hf : Dec.fm op = 12) (s t d a : Nat) (hs : s < 32) (ht : t < 32) (hd : d < 32) (ha : a < 32) (i : Int) :
    ∃ ok : Bool, (ok = true ↔ Good op s t d a i) ∧ Enc op s t d a i (if ok then .tuple #[.int .u32 (Dec.laid op s t d a i : Nat), .int .i64 0] else .tuple #[.int .u32 0, .int .i64 40]) := by
  have hmn := mj_lt op ho
  have e : idx (op : Int) = op := by unfold idx; rw [if_pos (by omega)]; omega
  have hA := fun w => at_any (op : Int) w
  rw [e] at hA
  have hF : (Dec.lname (Dec.fm op)).toList = [74] := by rw [ByteArray.toList_eq, hf]; rfl
  have n0 := nm_some op ho
  rw [← ByteArray.toList_eq] at n0
  rw [laid_FW op ho s t d a hs ht hd ha i, hf]
  refine ⟨same6 0 (s : Nat) (t : Nat) (d : Nat) (a : Nat) 0 0 0 0 0 0 0 && !decide (i < 0) && !decide (i > 67108863), ?_, fun w => renc_J (U := 0) hF n0 (by simpa using n0) hA (fun w => is_yes s hs w) (fun w => is_yes t ht w) (fun w => is_yes d hd w) (fun w => is_yes a ha w) (fun w => rlow26 i w) (jump_is (Dec.mj op) hmn.1 i) rfl (ends_of _ i 0 67108863) w⟩
  rw [good_iff op ho s t d a hs ht hd ha i, hf]
  simp [same6, HasS, HasT, HasD, HasA, ImmOk]
  try omega

theorem enc_BZ (op : Nat) (ho : op < 69) (hf : Dec.fm op = 11) (s t d a : Nat) (hs : s < 32) (ht : t < 32) (hd : d < 32) (ha : a < 32) (i : Int) :
    ∃ ok : Bool, (ok = true ↔ Good op s t d a i) ∧ Enc op s t d a i (if ok then .tuple #[.int .u32 (Dec.laid op s t d a i : Nat), .int .i64 0] else .tuple #[.int .u32 0, .int .i64 40]) := by
  have hmn := mj_lt op ho
  have hn32 := mn_lt op ho (by rw [hf]; decide)
  have e : idx (op : Int) = op := by unfold idx; rw [if_pos (by omega)]; omega
  have hA := fun w => at_any (op : Int) w
  rw [e] at hA
  have hF : (Dec.lname (Dec.fm op)).toList = [66, 90] := by rw [ByteArray.toList_eq, hf]; rfl
  have n0 := nm_some op ho
  rw [← ByteArray.toList_eq] at n0
  rw [laid_FW op ho s t d a hs ht hd ha i, hf]
  refine ⟨same6 0 0 (t : Nat) (d : Nat) (a : Nat) 0 0 0 0 0 0 0 && !decide (i < (-32768)) && !decide (i > 32767), ?_, fun w => renc_BZ hF n0 (by simpa using n0) hA (fun w => is_yes s hs w) (fun w => is_yes t ht w) (fun w => is_yes d hd w) (fun w => is_yes a ha w) (fun w => same_below (word_any (Dec.mj op) s (Dec.mn op) 0 0 0 hmn.1 hs hn32 (by decide) (by decide) (by decide) w)) (fun w => same_below (rlow16 i w)) (show IntKind.u32.wrap ((W (Dec.mj op) s (Dec.mn op) 0 0 0 : Nat) + IntKind.u32.wrap (i % 65536)) = ((W (Dec.mj op) s (Dec.mn op) 0 0 0 + (i % 65536).toNat : Nat) : Int) by rw [IntKind.wrap_u32', IntKind.wrap_u32']; have := hmn.1; unfold W; omega) rfl (ends_of _ i (-32768) 32767) w⟩
  rw [good_iff op ho s t d a hs ht hd ha i, hf]
  simp [same6, HasS, HasT, HasD, HasA, ImmOk]
  try omega

theorem enc_LUI (op : Nat) (ho : op < 69) (hf : Dec.fm op = 16) (s t d a : Nat) (hs : s < 32) (ht : t < 32) (hd : d < 32) (ha : a < 32) (i : Int) :
    ∃ ok : Bool, (ok = true ↔ Good op s t d a i) ∧ Enc op s t d a i (if ok then .tuple #[.int .u32 (Dec.laid op s t d a i : Nat), .int .i64 0] else .tuple #[.int .u32 0, .int .i64 40]) := by
  have hmn := mj_lt op ho
  have e : idx (op : Int) = op := by unfold idx; rw [if_pos (by omega)]; omega
  have hA := fun w => at_any (op : Int) w
  rw [e] at hA
  have hF : (Dec.lname (Dec.fm op)).toList = [76, 85, 73] := by rw [ByteArray.toList_eq, hf]; rfl
  have n0 := nm_some op ho
  rw [← ByteArray.toList_eq] at n0
  rw [laid_FW op ho s t d a hs ht hd ha i, hf]
  refine ⟨same6 0 (s : Nat) 0 (d : Nat) (a : Nat) 0 0 0 0 0 0 0 && !decide (i < 0) && !decide (i > 65535), ?_, fun w => renc_LUI hF n0 (by simpa using n0) hA (fun w => is_yes s hs w) (fun w => is_yes t ht w) (fun w => is_yes d hd w) (fun w => is_yes a ha w) (fun w => same_below (word_any (Dec.mj op) 0 t 0 0 0 hmn.1 (by decide) ht (by decide) (by decide) (by decide) w)) (fun w => same_below (rlow16 i w)) (show IntKind.u32.wrap ((W (Dec.mj op) 0 t 0 0 0 : Nat) + IntKind.u32.wrap (i % 65536)) = ((W (Dec.mj op) 0 t 0 0 0 + (i % 65536).toNat : Nat) : Int) by rw [IntKind.wrap_u32', IntKind.wrap_u32']; have := hmn.1; unfold W; omega) rfl (ends_of _ i 0 65535) w⟩
  rw [good_iff op ho s t d a hs ht hd ha i, hf]
  simp [same6, HasS, HasT, HasD, HasA, ImmOk]
  try omega

theorem enc_B2 (op : Nat) (ho : op < 69) (hf : Dec.fm op = 13) (s t d a : Nat) (hs : s < 32) (ht : t < 32) (hd : d < 32) (ha : a < 32) (i : Int) :
    ∃ ok : Bool, (ok = true ↔ Good op s t d a i) ∧ Enc op s t d a i (if ok then .tuple #[.int .u32 (Dec.laid op s t d a i : Nat), .int .i64 0] else .tuple #[.int .u32 0, .int .i64 40]) := by
  have hmn := mj_lt op ho
  have e : idx (op : Int) = op := by unfold idx; rw [if_pos (by omega)]; omega
  have hA := fun w => at_any (op : Int) w
  rw [e] at hA
  have hF : (Dec.lname (Dec.fm op)).toList = [66, 50] := by rw [ByteArray.toList_eq, hf]; rfl
  have n0 := nm_some op ho
  rw [← ByteArray.toList_eq] at n0
  rw [laid_FW op ho s t d a hs ht hd ha i, hf]
  refine ⟨same6 0 0 0 (d : Nat) (a : Nat) 0 0 0 0 0 0 0 && !decide (i < (-32768)) && !decide (i > 32767), ?_, fun w => renc_B2 hF n0 (by simpa using n0) hA (fun w => is_yes s hs w) (fun w => is_yes t ht w) (fun w => is_yes d hd w) (fun w => is_yes a ha w) (fun w => same_below (word_any (Dec.mj op) s t 0 0 0 hmn.1 hs ht (by decide) (by decide) (by decide) w)) (fun w => same_below (rlow16 i w)) (show IntKind.u32.wrap ((W (Dec.mj op) s t 0 0 0 : Nat) + IntKind.u32.wrap (i % 65536)) = ((W (Dec.mj op) s t 0 0 0 + (i % 65536).toNat : Nat) : Int) by rw [IntKind.wrap_u32', IntKind.wrap_u32']; have := hmn.1; unfold W; omega) rfl (ends_of _ i (-32768) 32767) w⟩
  rw [good_iff op ho s t d a hs ht hd ha i, hf]
  simp [same6, HasS, HasT, HasD, HasA, ImmOk]
  try omega

theorem enc_I (op : Nat) (ho : op < 69) (hf : Dec.fm op = 14) (s t d a : Nat) (hs : s < 32) (ht : t < 32) (hd : d < 32) (ha : a < 32) (i : Int) :
    ∃ ok : Bool, (ok = true ↔ Good op s t d a i) ∧ Enc op s t d a i (if ok then .tuple #[.int .u32 (Dec.laid op s t d a i : Nat), .int .i64 0] else .tuple #[.int .u32 0, .int .i64 40]) := by
  have hmn := mj_lt op ho
  have e : idx (op : Int) = op := by unfold idx; rw [if_pos (by omega)]; omega
  have hA := fun w => at_any (op : Int) w
  rw [e] at hA
  have hF : (Dec.lname (Dec.fm op)).toList = [73] := by rw [ByteArray.toList_eq, hf]; rfl
  have n0 := nm_some op ho
  rw [← ByteArray.toList_eq] at n0
  rw [laid_FW op ho s t d a hs ht hd ha i, hf]
  refine ⟨same6 0 0 0 (d : Nat) (a : Nat) 0 0 0 0 0 0 0 && !decide (i < (-32768)) && !decide (i > 32767), ?_, fun w => renc_I hF n0 (by simpa using n0) hA (fun w => is_yes s hs w) (fun w => is_yes t ht w) (fun w => is_yes d hd w) (fun w => is_yes a ha w) (fun w => same_below (word_any (Dec.mj op) s t 0 0 0 hmn.1 hs ht (by decide) (by decide) (by decide) w)) (fun w => same_below (rlow16 i w)) (show IntKind.u32.wrap ((W (Dec.mj op) s t 0 0 0 : Nat) + IntKind.u32.wrap (i % 65536)) = ((W (Dec.mj op) s t 0 0 0 + (i % 65536).toNat : Nat) : Int) by rw [IntKind.wrap_u32', IntKind.wrap_u32']; have := hmn.1; unfold W; omega) rfl (ends_of _ i (-32768) 32767) w⟩
  rw [good_iff op ho s t d a hs ht hd ha i, hf]
  simp [same6, HasS, HasT, HasD, HasA, ImmOk]
  try omega

theorem enc_M (op : Nat) (ho : op < 69) (hf : Dec.fm op = 19) (s t d a : Nat) (hs : s < 32) (ht : t < 32) (hd : d < 32) (ha : a < 32) (i : Int) :
    ∃ ok : Bool, (ok = true ↔ Good op s t d a i) ∧ Enc op s t d a i (if ok then .tuple #[.int .u32 (Dec.laid op s t d a i : Nat), .int .i64 0] else .tuple #[.int .u32 0, .int .i64 40]) := by
  have hmn := mj_lt op ho
  have e : idx (op : Int) = op := by unfold idx; rw [if_pos (by omega)]; omega
  have hA := fun w => at_any (op : Int) w
  rw [e] at hA
  have hF : (Dec.lname (Dec.fm op)).toList = [77] := by rw [ByteArray.toList_eq, hf]; rfl
  have n0 := nm_some op ho
  rw [← ByteArray.toList_eq] at n0
  rw [laid_FW op ho s t d a hs ht hd ha i, hf]
  refine ⟨same6 0 0 0 (d : Nat) (a : Nat) 0 0 0 0 0 0 0 && !decide (i < (-32768)) && !decide (i > 32767), ?_, fun w => renc_M hF n0 (by simpa using n0) hA (fun w => is_yes s hs w) (fun w => is_yes t ht w) (fun w => is_yes d hd w) (fun w => is_yes a ha w) (fun w => same_below (word_any (Dec.mj op) s t 0 0 0 hmn.1 hs ht (by decide) (by decide) (by decide) w)) (fun w => same_below (rlow16 i w)) (show IntKind.u32.wrap ((W (Dec.mj op) s t 0 0 0 : Nat) + IntKind.u32.wrap (i % 65536)) = ((W (Dec.mj op) s t 0 0 0 + (i % 65536).toNat : Nat) : Int) by rw [IntKind.wrap_u32', IntKind.wrap_u32']; have := hmn.1; unfold W; omega) rfl (ends_of _ i (-32768) 32767) w⟩
  rw [good_iff op ho s t d a hs ht hd ha i, hf]
  simp [same6, HasS, HasT, HasD, HasA, ImmOk]
  try omega

theorem enc_IU (op : Nat) (ho : op < 69) (hf : Dec.fm op = 15) (s t d a : Nat) (hs : s < 32) (ht : t < 32) (hd : d < 32) (ha : a < 32) (i : Int) :
    ∃ ok : Bool, (ok = true ↔ Good op s t d a i) ∧ Enc op s t d a i (if ok then .tuple #[.int .u32 (Dec.laid op s t d a i : Nat), .int .i64 0] else .tuple #[.int .u32 0, .int .i64 40]) := by
  have hmn := mj_lt op ho
  have e : idx (op : Int) = op := by unfold idx; rw [if_pos (by omega)]; omega
  have hA := fun w => at_any (op : Int) w
  rw [e] at hA
  have hF : (Dec.lname (Dec.fm op)).toList = [73, 85] := by rw [ByteArray.toList_eq, hf]; rfl
  have n0 := nm_some op ho
  rw [← ByteArray.toList_eq] at n0
  rw [laid_FW op ho s t d a hs ht hd ha i, hf]
  refine ⟨same6 0 0 0 (d : Nat) (a : Nat) 0 0 0 0 0 0 0 && !decide (i < 0) && !decide (i > 65535), ?_, fun w => renc_IU hF n0 (by simpa using n0) hA (fun w => is_yes s hs w) (fun w => is_yes t ht w) (fun w => is_yes d hd w) (fun w => is_yes a ha w) (fun w => same_below (word_any (Dec.mj op) s t 0 0 0 hmn.1 hs ht (by decide) (by decide) (by decide) w)) (fun w => same_below (rlow16 i w)) (show IntKind.u32.wrap ((W (Dec.mj op) s t 0 0 0 : Nat) + IntKind.u32.wrap (i % 65536)) = ((W (Dec.mj op) s t 0 0 0 + (i % 65536).toNat : Nat) : Int) by rw [IntKind.wrap_u32', IntKind.wrap_u32']; have := hmn.1; unfold W; omega) rfl (ends_of _ i 0 65535) w⟩
  rw [good_iff op ho s t d a hs ht hd ha i, hf]
  simp [same6, HasS, HasT, HasD, HasA, ImmOk]
  try omega

theorem enc_all (op : Nat) (ho : op < 69) (s t d a : Nat) (hs : s < 32) (ht : t < 32) (hd : d < 32) (ha : a < 32) (i : Int) :
    ∃ ok : Bool, (ok = true ↔ Good op s t d a i) ∧ Enc op s t d a i (if ok then .tuple #[.int .u32 (Dec.laid op s t d a i : Nat), .int .i64 0] else .tuple #[.int .u32 0, .int .i64 40]) := by
  have hr := Dec.fm_lt op ho
  have hcases : Dec.fm op = 1 ∨ Dec.fm op = 2 ∨ Dec.fm op = 3 ∨ Dec.fm op = 4 ∨ Dec.fm op = 5 ∨ Dec.fm op = 6 ∨ Dec.fm op = 7 ∨ Dec.fm op = 8 ∨ Dec.fm op = 9 ∨ Dec.fm op = 10 ∨ Dec.fm op = 11 ∨ Dec.fm op = 12 ∨ Dec.fm op = 13 ∨ Dec.fm op = 14 ∨ Dec.fm op = 15 ∨ Dec.fm op = 16 ∨ Dec.fm op = 17 ∨ Dec.fm op = 18 ∨ Dec.fm op = 19 := by omega
  rcases hcases with h | h | h | h | h | h | h | h | h | h | h | h | h | h | h | h | h | h | h
  · exact enc_SH op ho h s t d a hs ht hd ha i
  · exact enc_SV op ho h s t d a hs ht hd ha i
  · exact enc_JR op ho h s t d a hs ht hd ha i
  · exact enc_JALR op ho h s t d a hs ht hd ha i
  · exact enc_R op ho h s t d a hs ht hd ha i
  · exact enc_N op ho h s t d a hs ht hd ha i
  · exact enc_MF op ho h s t d a hs ht hd ha i
  · exact enc_MT op ho h s t d a hs ht hd ha i
  · exact enc_MD op ho h s t d a hs ht hd ha i
  · exact enc_CL op ho h s t d a hs ht hd ha i
  · exact enc_BZ op ho h s t d a hs ht hd ha i
  · exact enc_J op ho h s t d a hs ht hd ha i
  · exact enc_B2 op ho h s t d a hs ht hd ha i
  · exact enc_I op ho h s t d a hs ht hd ha i
  · exact enc_IU op ho h s t d a hs ht hd ha i
  · exact enc_LUI op ho h s t d a hs ht hd ha i
  · exact enc_C0 op ho h s t d a hs ht hd ha i
  · exact enc_CO op ho h s t d a hs ht hd ha i
  · exact enc_M op ho h s t d a hs ht hd ha i

theorem renc_any (o s t d a i : Int) : ∃ v e : Int, Word o s t d a i v e ∧ Enc o s t d a i (.tuple #[.int .u32 v, .int .i64 e]) := by
  by_cases h : 0 ≤ o ∧ o < 69
  · obtain ⟨op, ho, rfl⟩ : ∃ op : Nat, op < 69 ∧ o = (op : Int) := ⟨o.toNat, by omega, by omega⟩
    by_cases hr : (0 ≤ s ∧ s ≤ 31) ∧ (0 ≤ t ∧ t ≤ 31) ∧ (0 ≤ d ∧ d ≤ 31) ∧ (0 ≤ a ∧ a ≤ 31)
    · obtain ⟨s, hs, rfl⟩ : ∃ k : Nat, k < 32 ∧ s = (k : Int) := ⟨s.toNat, by omega, by omega⟩
      obtain ⟨t, ht, rfl⟩ : ∃ k : Nat, k < 32 ∧ t = (k : Int) := ⟨t.toNat, by omega, by omega⟩
      obtain ⟨d, hd, rfl⟩ : ∃ k : Nat, k < 32 ∧ d = (k : Int) := ⟨d.toNat, by omega, by omega⟩
      obtain ⟨a, ha, rfl⟩ : ∃ k : Nat, k < 32 ∧ a = (k : Int) := ⟨a.toNat, by omega, by omega⟩
      obtain ⟨ok, hok, he⟩ := enc_all op ho s t d a hs ht hd ha i
      cases ok with
      | true => exact ⟨_, _, Or.inl ⟨op, ho, rfl, hok.mp rfl, rfl, rfl⟩, he⟩
      | false =>
        refine ⟨_, _, Or.inr ⟨fun o2 h2 e2 hg => ?_, rfl, rfl⟩, he⟩
        obtain rfl : op = o2 := by omega
        exact absurd (hok.mpr hg) (by decide)
    · have e : idx (op : Int) = op := by unfold idx; rw [if_pos (by omega)]; omega
      have hA := fun w => at_any (op : Int) w
      rw [e] at hA
      have n0 := nm_some op ho
      rw [← ByteArray.toList_eq] at n0
      refine ⟨_, _, Or.inr ⟨fun o2 h2 e2 hg => hr (good_in hg), rfl, rfl⟩, fun w => renc_early n0 (by simpa using n0) hA (fun w => is_any s w) (fun w => is_any t w) (fun w => is_any d w) (fun w => is_any a w) ?_ w⟩
      by_cases h1 : 0 ≤ s ∧ s ≤ 31
      · by_cases h2 : 0 ≤ t ∧ t ≤ 31
        · by_cases h3 : 0 ≤ d ∧ d ≤ 31
          · exact Or.inr (Or.inr (Or.inr ⟨decide_eq_true h1, decide_eq_true h2, decide_eq_true h3, decide_eq_false fun h4 => hr ⟨h1, h2, h3, h4⟩⟩))
          · exact Or.inr (Or.inr (Or.inl ⟨decide_eq_true h1, decide_eq_true h2, decide_eq_false h3⟩))
        · exact Or.inr (Or.inl ⟨decide_eq_true h1, decide_eq_false h2⟩)
      · exact Or.inl (decide_eq_false h1)
  · have e : idx o = 69 := by unfold idx; rw [if_neg h]
    have hA := fun w => at_any o w
    rw [e] at hA
    exact ⟨_, _, Or.inr ⟨fun op ho e => absurd e (by omega), rfl, rfl⟩, fun w => renc_none hA w⟩

end Go.Proofs.YtbgklaahmmfpjaaDoor.De
