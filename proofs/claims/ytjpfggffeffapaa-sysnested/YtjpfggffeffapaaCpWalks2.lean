/- Layer 8: contracts of the program's Read and Write. -/
import Derived.Test.YtjpfggffeffapaaCpWalks
namespace Go.Proofs.Ytjpfggffeffapaa
open Go.RowKit
set_option linter.unusedVariables false

/-- A register. -/
def readV (r : Regs) (g : Int) : Int :=
  if g = 0 then r.i else if g = 2 then r.l else if g = 8 then r.b else if g = 9 then r.n else if g = 10 then r.h else if g = 11 then r.p else if g = 12 then r.s else if g = 13 then r.c else if g = 14 then r.e else 0

/-- What Write makes of the registers. -/
def writeV (r : Regs) (g v : Int) : Regs :=
  if g = 0 then { r with i := mixV r.i v 7 } else if g = 2 then { r with l := mixV r.l v 4294967047 } else if g = 9 then { r with n := v } else if g = 10 then { r with h := v } else
  if g = 11 then { r with p := v, c := mixV r.c 0 32768 } else if g = 12 then { r with s := mixV r.s v 65299 } else if g = 13 then { r with c := mixV r.c v 768 } else if g = 14 then { r with e := v } else r

/-- None of the nine. -/
def Nor (g : Int) : Prop := ¬ g = 0 ∧ ¬ g = 2 ∧ ¬ g = 8 ∧ ¬ g = 9 ∧ ¬ g = 10 ∧ ¬ g = 11 ∧ ¬ g = 12 ∧ ¬ g = 13 ∧ ¬ g = 14

theorem reg_is (g : Int) : g = 0 ∨ g = 2 ∨ g = 8 ∨ g = 9 ∨ g = 10 ∨ g = 11 ∨ g = 12 ∨ g = 13 ∨ g = 14 ∨ Nor g := by
  unfold Nor
  omega

theorem Nor.read {g : Int} (h : Nor g) (r : Regs) : readV r g = 0 := by
  obtain ⟨h0, h1, h2, h3, h4, h5, h6, h7, h8⟩ := h
  simp [readV, h0, h1, h2, h3, h4, h5, h6, h7, h8]

theorem Nor.write {g : Int} (h : Nor g) (r : Regs) (v : Int) : writeV r g v = r := by
  obtain ⟨h0, h1, h2, h3, h4, h5, h6, h7, h8⟩ := h
  simp [writeV, h0, h1, h3, h4, h5, h6, h7, h8]

theorem Nor.tests {g : Int} (h : Nor g) : (g == 0) = false ∧ (g == 2) = false ∧ (g == 8) = false ∧ (g == 9) = false ∧ (g == 10) = false ∧ (g == 11) = false ∧ (g == 12) = false ∧ (g == 13) = false ∧ (g == 14) = false := by
  unfold Nor at h
  simp [h]

theorem read_any (r : Regs) (g : Int) (w : World) :
    Calls Try.prog 10 #[.agg (cellsR r), .int .i64 g] w fun e w' => e = .returned (.int .u32 (readV r g)) ∧ Below w.heap.size w w' := by
  obtain ⟨t1, t2, t3, t4, t5, t6, t7, t8, t9⟩ := cpRules
  obtain ⟨p0, p1, p2, p3, p4, p5, p6, p7, p8⟩ := cpParts
  rcases reg_is g with rfl | rfl | rfl | rfl | rfl | rfl | rfl | rfl | rfl | h
  case inr.inr.inr.inr.inr.inr.inr.inr.inr =>
    rw [h.read]
    obtain ⟨h0, h1, h2, h3, h4, h5, h6, h7, h8⟩ := h.tests
    clear h
    go_enter Try.func10, Try.ntmps10
    go_wp2
    go_ret
    exact ⟨rfl, grow _ _⟩
  all_goals
    go_enter Try.func10, Try.ntmps10
    go_wp2
    go_ret
    exact ⟨rfl, grow _ _⟩

set_option maxHeartbeats 2000000 in
theorem write_any {r : Regs} (hr : Wr r) (g : Int) {v : Int} (hv : W32 v) (w : World) :
    Calls Try.prog 12 #[.agg (cellsR r), .int .i64 g, .int .u32 v] w fun e w' => e = .returned (.agg (cellsR (writeV r g v))) ∧ Below w.heap.size w w' := by
  obtain ⟨t1, t2, t3, t4, t5, t6, t7, t8, t9⟩ := cpRules
  obtain ⟨p0, p1, p2, p3, p4, p5, p6, p7, p8⟩ := cpParts
  obtain ⟨s0, s1, s2, s3, s4, s5, s6, s7, s8⟩ := cpSets
  have m0 := hide fun W => mix_any hr.i hv (B := 7) (by constructor <;> omega) W
  have m1 := hide fun W => mix_any hr.l hv (B := 4294967047) (by constructor <;> omega) W
  have m2 := hide fun W => mix_any hr.s hv (B := 65299) (by constructor <;> omega) W
  have m3 := hide fun W => mix_any hr.c hv (B := 768) (by constructor <;> omega) W
  have n1 := not_of hr.c (m := 32768) (by constructor <;> omega)
  replace hr := hide hr
  replace hv := hide hv
  have fin : ∀ c d : Array Value, Below w.heap.size w ((w.alloc (.cells c 24)).alloc (.cells d 24)) := fun c d => (grow _ _).alloc (by simp) _
  replace fin := hide fin
  rcases reg_is g with rfl | rfl | rfl | rfl | rfl | rfl | rfl | rfl | rfl | h
  case inr.inr.inr.inr.inr.inr.inr.inr.inr =>
    rw [h.write]
    obtain ⟨h0, h1, h2, h3, h4, h5, h6, h7, h8⟩ := h.tests
    clear h
    go_enter Try.func12, Try.ntmps12
    go_wp2
    exact bodyPost_ret (v := .agg (cellsR r)) (by simp [results, Try.results12, go_sem, t1, t3, t5, t6, t7]) rfl ⟨rfl, fin.out _ _⟩
  · go_enter Try.func12, Try.ntmps12
    go_wp2_with fail
    refine (m0.out _).mono ?_
    rintro e w' ⟨rfl, rfl⟩
    go_wp2
    exact bodyPost_ret (v := .agg (cellsR (writeV r 0 v))) (by simp [results, Try.results12, go_sem, t1, t3, t5, t6, t7, writeV]) rfl ⟨rfl, fin.out _ _⟩
  · go_enter Try.func12, Try.ntmps12
    go_wp2_with fail
    refine (m1.out _).mono ?_
    rintro e w' ⟨rfl, rfl⟩
    go_wp2
    exact bodyPost_ret (v := .agg (cellsR (writeV r 2 v))) (by simp [results, Try.results12, go_sem, t1, t3, t5, t6, t7, writeV]) rfl ⟨rfl, fin.out _ _⟩
  · go_enter Try.func12, Try.ntmps12
    go_wp2
    exact bodyPost_ret (v := .agg (cellsR (writeV r 8 v))) (by simp [results, Try.results12, go_sem, t1, t3, t5, t6, t7, writeV]) rfl ⟨rfl, fin.out _ _⟩
  · go_enter Try.func12, Try.ntmps12
    go_wp2
    exact bodyPost_ret (v := .agg (cellsR (writeV r 9 v))) (by simp [results, Try.results12, go_sem, t1, t3, t5, t6, t7, writeV]) rfl ⟨rfl, fin.out _ _⟩
  · go_enter Try.func12, Try.ntmps12
    go_wp2
    exact bodyPost_ret (v := .agg (cellsR (writeV r 10 v))) (by simp [results, Try.results12, go_sem, t1, t3, t5, t6, t7, writeV]) rfl ⟨rfl, fin.out _ _⟩
  · go_enter Try.func12, Try.ntmps12
    go_wp2
    exact bodyPost_ret (v := .agg (cellsR (writeV r 11 v))) (by simp [results, Try.results12, go_sem, t1, t3, t5, t6, t7, writeV]) rfl ⟨rfl, fin.out _ _⟩
  · go_enter Try.func12, Try.ntmps12
    go_wp2_with fail
    refine (m2.out _).mono ?_
    rintro e w' ⟨rfl, rfl⟩
    go_wp2
    exact bodyPost_ret (v := .agg (cellsR (writeV r 12 v))) (by simp [results, Try.results12, go_sem, t1, t3, t5, t6, t7, writeV]) rfl ⟨rfl, fin.out _ _⟩
  · go_enter Try.func12, Try.ntmps12
    go_wp2_with fail
    refine (m3.out _).mono ?_
    rintro e w' ⟨rfl, rfl⟩
    go_wp2
    exact bodyPost_ret (v := .agg (cellsR (writeV r 13 v))) (by simp [results, Try.results12, go_sem, t1, t3, t5, t6, t7, writeV]) rfl ⟨rfl, fin.out _ _⟩
  · go_enter Try.func12, Try.ntmps12
    go_wp2
    exact bodyPost_ret (v := .agg (cellsR (writeV r 14 v))) (by simp [results, Try.results12, go_sem, t1, t3, t5, t6, t7, writeV]) rfl ⟨rfl, fin.out _ _⟩

end Go.Proofs.Ytjpfggffeffapaa
