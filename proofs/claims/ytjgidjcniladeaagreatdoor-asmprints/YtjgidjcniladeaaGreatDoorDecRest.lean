/- Contracts of the document's rest of an instruction without a number, form by form. -/
import Derived.Test.YtjgidjcniladeaaGreatDoorDecRef2
namespace Go.Proofs.YtjgidjcniladeaaGreatDoor
open Go.RowKit
set_option linter.unusedVariables false

theorem rest_SH {nm F : ByteArray} {m n o s t d a i : Int} (hF : F.toList = [83, 72]) (w : World) :
    Calls Tryz.prog 32 #[.agg #[.string nm, .string F, .int .i64 m, .int .i64 n], .agg #[.int .i64 o, .int .i64 s, .int .i64 t, .int .i64 d, .int .i64 a, .int .i64 i]] w fun e w' => e = .returned (.agg #[.int .i64 0, .int .i64 s, .int .i64 0, .int .i64 0, .int .i64 0, .int .i64 i]) ∧ Below w.heap.size w w' := by
  go_enter Tryz.func32, Tryz.ntmps32
  go_wp2
  refine bodyPost_ret (v := .agg #[.int .i64 0, .int .i64 s, .int .i64 0, .int .i64 0, .int .i64 0, .int .i64 i]) (by simp [results, Tryz.results32, go_sem]) rfl ⟨rfl, ?_⟩
  repeat (first | exact Below.refl _ _ | (apply Below.alloc _ (by first | (simp; done) | (simp; omega))) | (apply Below.setCell _ (by first | (simp; done) | (simp; omega))))

theorem rest_SV {nm F : ByteArray} {m n o s t d a i : Int} (hF : F.toList = [83, 86]) (w : World) :
    Calls Tryz.prog 32 #[.agg #[.string nm, .string F, .int .i64 m, .int .i64 n], .agg #[.int .i64 o, .int .i64 s, .int .i64 t, .int .i64 d, .int .i64 a, .int .i64 i]] w fun e w' => e = .returned (.agg #[.int .i64 0, .int .i64 0, .int .i64 0, .int .i64 0, .int .i64 a, .int .i64 i]) ∧ Below w.heap.size w w' := by
  go_enter Tryz.func32, Tryz.ntmps32
  go_wp2
  refine bodyPost_ret (v := .agg #[.int .i64 0, .int .i64 0, .int .i64 0, .int .i64 0, .int .i64 a, .int .i64 i]) (by simp [results, Tryz.results32, go_sem]) rfl ⟨rfl, ?_⟩
  repeat (first | exact Below.refl _ _ | (apply Below.alloc _ (by first | (simp; done) | (simp; omega))) | (apply Below.setCell _ (by first | (simp; done) | (simp; omega))))

theorem rest_R {nm F : ByteArray} {m n o s t d a i : Int} (hF : F.toList = [82]) (w : World) :
    Calls Tryz.prog 32 #[.agg #[.string nm, .string F, .int .i64 m, .int .i64 n], .agg #[.int .i64 o, .int .i64 s, .int .i64 t, .int .i64 d, .int .i64 a, .int .i64 i]] w fun e w' => e = .returned (.agg #[.int .i64 0, .int .i64 0, .int .i64 0, .int .i64 0, .int .i64 a, .int .i64 i]) ∧ Below w.heap.size w w' := by
  go_enter Tryz.func32, Tryz.ntmps32
  go_wp2
  refine bodyPost_ret (v := .agg #[.int .i64 0, .int .i64 0, .int .i64 0, .int .i64 0, .int .i64 a, .int .i64 i]) (by simp [results, Tryz.results32, go_sem]) rfl ⟨rfl, ?_⟩
  repeat (first | exact Below.refl _ _ | (apply Below.alloc _ (by first | (simp; done) | (simp; omega))) | (apply Below.setCell _ (by first | (simp; done) | (simp; omega))))

theorem rest_JR {nm F : ByteArray} {m n o s t d a i : Int} (hF : F.toList = [74, 82]) (w : World) :
    Calls Tryz.prog 32 #[.agg #[.string nm, .string F, .int .i64 m, .int .i64 n], .agg #[.int .i64 o, .int .i64 s, .int .i64 t, .int .i64 d, .int .i64 a, .int .i64 i]] w fun e w' => e = .returned (.agg #[.int .i64 0, .int .i64 0, .int .i64 t, .int .i64 d, .int .i64 a, .int .i64 i]) ∧ Below w.heap.size w w' := by
  go_enter Tryz.func32, Tryz.ntmps32
  go_wp2
  refine bodyPost_ret (v := .agg #[.int .i64 0, .int .i64 0, .int .i64 t, .int .i64 d, .int .i64 a, .int .i64 i]) (by simp [results, Tryz.results32, go_sem]) rfl ⟨rfl, ?_⟩
  repeat (first | exact Below.refl _ _ | (apply Below.alloc _ (by first | (simp; done) | (simp; omega))) | (apply Below.setCell _ (by first | (simp; done) | (simp; omega))))

theorem rest_MT {nm F : ByteArray} {m n o s t d a i : Int} (hF : F.toList = [77, 84]) (w : World) :
    Calls Tryz.prog 32 #[.agg #[.string nm, .string F, .int .i64 m, .int .i64 n], .agg #[.int .i64 o, .int .i64 s, .int .i64 t, .int .i64 d, .int .i64 a, .int .i64 i]] w fun e w' => e = .returned (.agg #[.int .i64 0, .int .i64 0, .int .i64 t, .int .i64 d, .int .i64 a, .int .i64 i]) ∧ Below w.heap.size w w' := by
  go_enter Tryz.func32, Tryz.ntmps32
  go_wp2
  refine bodyPost_ret (v := .agg #[.int .i64 0, .int .i64 0, .int .i64 t, .int .i64 d, .int .i64 a, .int .i64 i]) (by simp [results, Tryz.results32, go_sem]) rfl ⟨rfl, ?_⟩
  repeat (first | exact Below.refl _ _ | (apply Below.alloc _ (by first | (simp; done) | (simp; omega))) | (apply Below.setCell _ (by first | (simp; done) | (simp; omega))))

theorem rest_JALR {nm F : ByteArray} {m n o s t d a i : Int} (hF : F.toList = [74, 65, 76, 82]) (w : World) :
    Calls Tryz.prog 32 #[.agg #[.string nm, .string F, .int .i64 m, .int .i64 n], .agg #[.int .i64 o, .int .i64 s, .int .i64 t, .int .i64 d, .int .i64 a, .int .i64 i]] w fun e w' => e = .returned (.agg #[.int .i64 0, .int .i64 0, .int .i64 t, .int .i64 0, .int .i64 a, .int .i64 i]) ∧ Below w.heap.size w w' := by
  go_enter Tryz.func32, Tryz.ntmps32
  go_wp2
  refine bodyPost_ret (v := .agg #[.int .i64 0, .int .i64 0, .int .i64 t, .int .i64 0, .int .i64 a, .int .i64 i]) (by simp [results, Tryz.results32, go_sem]) rfl ⟨rfl, ?_⟩
  repeat (first | exact Below.refl _ _ | (apply Below.alloc _ (by first | (simp; done) | (simp; omega))) | (apply Below.setCell _ (by first | (simp; done) | (simp; omega))))

theorem rest_CL {nm F : ByteArray} {m n o s t d a i : Int} (hF : F.toList = [67, 76]) (w : World) :
    Calls Tryz.prog 32 #[.agg #[.string nm, .string F, .int .i64 m, .int .i64 n], .agg #[.int .i64 o, .int .i64 s, .int .i64 t, .int .i64 d, .int .i64 a, .int .i64 i]] w fun e w' => e = .returned (.agg #[.int .i64 0, .int .i64 0, .int .i64 t, .int .i64 0, .int .i64 a, .int .i64 i]) ∧ Below w.heap.size w w' := by
  go_enter Tryz.func32, Tryz.ntmps32
  go_wp2
  refine bodyPost_ret (v := .agg #[.int .i64 0, .int .i64 0, .int .i64 t, .int .i64 0, .int .i64 a, .int .i64 i]) (by simp [results, Tryz.results32, go_sem]) rfl ⟨rfl, ?_⟩
  repeat (first | exact Below.refl _ _ | (apply Below.alloc _ (by first | (simp; done) | (simp; omega))) | (apply Below.setCell _ (by first | (simp; done) | (simp; omega))))

theorem rest_MF {nm F : ByteArray} {m n o s t d a i : Int} (hF : F.toList = [77, 70]) (w : World) :
    Calls Tryz.prog 32 #[.agg #[.string nm, .string F, .int .i64 m, .int .i64 n], .agg #[.int .i64 o, .int .i64 s, .int .i64 t, .int .i64 d, .int .i64 a, .int .i64 i]] w fun e w' => e = .returned (.agg #[.int .i64 0, .int .i64 s, .int .i64 t, .int .i64 0, .int .i64 a, .int .i64 i]) ∧ Below w.heap.size w w' := by
  go_enter Tryz.func32, Tryz.ntmps32
  go_wp2
  refine bodyPost_ret (v := .agg #[.int .i64 0, .int .i64 s, .int .i64 t, .int .i64 0, .int .i64 a, .int .i64 i]) (by simp [results, Tryz.results32, go_sem]) rfl ⟨rfl, ?_⟩
  repeat (first | exact Below.refl _ _ | (apply Below.alloc _ (by first | (simp; done) | (simp; omega))) | (apply Below.setCell _ (by first | (simp; done) | (simp; omega))))

theorem rest_MD {nm F : ByteArray} {m n o s t d a i : Int} (hF : F.toList = [77, 68]) (w : World) :
    Calls Tryz.prog 32 #[.agg #[.string nm, .string F, .int .i64 m, .int .i64 n], .agg #[.int .i64 o, .int .i64 s, .int .i64 t, .int .i64 d, .int .i64 a, .int .i64 i]] w fun e w' => e = .returned (.agg #[.int .i64 0, .int .i64 0, .int .i64 0, .int .i64 d, .int .i64 a, .int .i64 i]) ∧ Below w.heap.size w w' := by
  go_enter Tryz.func32, Tryz.ntmps32
  go_wp2
  refine bodyPost_ret (v := .agg #[.int .i64 0, .int .i64 0, .int .i64 0, .int .i64 d, .int .i64 a, .int .i64 i]) (by simp [results, Tryz.results32, go_sem]) rfl ⟨rfl, ?_⟩
  repeat (first | exact Below.refl _ _ | (apply Below.alloc _ (by first | (simp; done) | (simp; omega))) | (apply Below.setCell _ (by first | (simp; done) | (simp; omega))))

theorem rest_CO {nm F : ByteArray} {m n o s t d a i : Int} (hF : F.toList = [67, 79]) (w : World) :
    Calls Tryz.prog 32 #[.agg #[.string nm, .string F, .int .i64 m, .int .i64 n], .agg #[.int .i64 o, .int .i64 s, .int .i64 t, .int .i64 d, .int .i64 a, .int .i64 i]] w fun e w' => e = .returned (.agg #[.int .i64 0, .int .i64 s, .int .i64 t, .int .i64 d, .int .i64 a, .int .i64 i]) ∧ Below w.heap.size w w' := by
  go_enter Tryz.func32, Tryz.ntmps32
  go_wp2
  refine bodyPost_ret (v := .agg #[.int .i64 0, .int .i64 s, .int .i64 t, .int .i64 d, .int .i64 a, .int .i64 i]) (by simp [results, Tryz.results32, go_sem]) rfl ⟨rfl, ?_⟩
  repeat (first | exact Below.refl _ _ | (apply Below.alloc _ (by first | (simp; done) | (simp; omega))) | (apply Below.setCell _ (by first | (simp; done) | (simp; omega))))

theorem rest_C0 {nm F : ByteArray} {m n o s t d a i : Int} (hF : F.toList = [67, 48]) (w : World) :
    Calls Tryz.prog 32 #[.agg #[.string nm, .string F, .int .i64 m, .int .i64 n], .agg #[.int .i64 o, .int .i64 s, .int .i64 t, .int .i64 d, .int .i64 a, .int .i64 i]] w fun e w' => e = .returned (.agg #[.int .i64 0, .int .i64 s, .int .i64 0, .int .i64 0, .int .i64 a, .int .i64 i]) ∧ Below w.heap.size w w' := by
  go_enter Tryz.func32, Tryz.ntmps32
  go_wp2
  refine bodyPost_ret (v := .agg #[.int .i64 0, .int .i64 s, .int .i64 0, .int .i64 0, .int .i64 a, .int .i64 i]) (by simp [results, Tryz.results32, go_sem]) rfl ⟨rfl, ?_⟩
  repeat (first | exact Below.refl _ _ | (apply Below.alloc _ (by first | (simp; done) | (simp; omega))) | (apply Below.setCell _ (by first | (simp; done) | (simp; omega))))

theorem rest_N {nm F : ByteArray} {m n o s t d a i : Int} (hF : F.toList = [78]) (w : World) :
    Calls Tryz.prog 32 #[.agg #[.string nm, .string F, .int .i64 m, .int .i64 n], .agg #[.int .i64 o, .int .i64 s, .int .i64 t, .int .i64 d, .int .i64 a, .int .i64 i]] w fun e w' => e = .returned (.agg #[.int .i64 0, .int .i64 s, .int .i64 t, .int .i64 d, .int .i64 a, .int .i64 i]) ∧ Below w.heap.size w w' := by
  go_enter Tryz.func32, Tryz.ntmps32
  go_wp2
  refine bodyPost_ret (v := .agg #[.int .i64 0, .int .i64 s, .int .i64 t, .int .i64 d, .int .i64 a, .int .i64 i]) (by simp [results, Tryz.results32, go_sem]) rfl ⟨rfl, ?_⟩
  repeat (first | exact Below.refl _ _ | (apply Below.alloc _ (by first | (simp; done) | (simp; omega))) | (apply Below.setCell _ (by first | (simp; done) | (simp; omega))))

end Go.Proofs.YtjgidjcniladeaaGreatDoor
