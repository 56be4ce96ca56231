/- Layer 11: contracts of the registers and of the steps, the program's and the document's. -/
import Derived.Test.YtdapjpbdplhgbaaDmPlain
namespace Go.Proofs.Ytdapjpbdplhgbaa.Dm
open Go.RowKit
set_option linter.unusedVariables false
set_option maxRecDepth 100000

/-- None of the four. -/
def Nor (g : Int) : Prop := ¬ g = 0 ∧ ¬ g = 4 ∧ ¬ g = 8 ∧ ¬ g = 12

theorem reg_is (g : Int) : g = 0 ∨ g = 4 ∨ g = 8 ∨ g = 12 ∨ Nor g := by
  unfold Nor
  omega

theorem Nor.tests {g : Int} (h : Nor g) : (g == 0) = false ∧ (g == 4) = false ∧ (g == 8) = false ∧ (g == 12) = false := by
  unfold Nor at h
  simp [h]

theorem Nor.read {g : Int} (h : Nor g) (t : Dm) : readV t g = 0 := by simp [readV, h.1, h.2.1, h.2.2.1, h.2.2.2]
theorem Nor.form {g : Int} (h : Nor g) : formV g = 110 := by simp [formV, h.1, h.2.1, h.2.2.1, h.2.2.2]
theorem Nor.write {g : Int} (h : Nor g) (t : Dm) (v : Int) : writeV t g v = D0 := by simp [writeV, h.1, h.2.1, h.2.2.1, h.2.2.2]

theorem read_any (t : Dm) (g : Int) (w : World) :
    Calls Try.prog 95 #[.agg (cellsD t), .int .u32 g] w fun e w' => e = .returned (.tuple #[.int .u32 (readV t g), .int .i64 (formV g)]) ∧ Below w.heap.size w w' := by
  obtain ⟨t1, t2, t3, t4, t5, t6, t7, t8, t9⟩ := dmRules
  obtain ⟨p0, p1, p2, p3, p4⟩ := dmParts
  rcases reg_is g with rfl | rfl | rfl | rfl | h
  rotate_left 4
  · rw [h.read, h.form]
    obtain ⟨h0, h1, h2, h3⟩ := h.tests
    clear h
    go_enter Try.func95, Try.ntmps95
    go_wp2
    go_ret2
    exact ⟨rfl, grow _ _⟩
  all_goals
    go_enter Try.func95, Try.ntmps95
    go_wp2
    go_ret2
    exact ⟨rfl, grow _ _⟩

/-- Is it a way? -/
def isW (v : Int) : Bool := (v == 1) || (v == 2)

theorem isWay_any (v : Int) (w : World) : Calls Try.prog 99 #[.int .u32 v] w fun e w' => e = .returned (.bool (isW v)) ∧ w' = w := by
  by_cases h1 : v = 1
  · subst h1
    go_enter Try.func99, Try.ntmps99
    go_wp2
    go_ret
    exact ⟨rfl, rfl⟩
  · have b1 : (v == 1) = false := by simpa using h1
    have e : isW v = (v == 2) := by simp [isW, b1]
    rw [e]
    clear h1 e
    go_enter Try.func99, Try.ntmps99
    go_wp2
    go_ret
    exact ⟨rfl, rfl⟩

set_option maxHeartbeats 1000000 in
theorem write_any (t : Dm) (g v : Int) (w : World) :
    Calls Try.prog 91 #[.agg (cellsD t), .int .u32 g, .int .u32 v] w fun e w' => e = .returned (.tuple #[.agg (cellsD (writeV t g v)), .int .i64 (formV g)]) ∧ Below w.heap.size w w' := by
  obtain ⟨t1, t2, t3, t4, t5, t6, t7, t8, t9⟩ := dmRules
  obtain ⟨p0, p1, p2, p3, p4⟩ := dmParts
  obtain ⟨s0, s1, s2, s3, s4⟩ := dmSets
  have fin : ∀ c d : Array Value, Below w.heap.size w ((w.alloc (.cells c 66)).alloc (.cells d 66)) := fun c d => (grow _ _).alloc (by simp) _
  replace fin := hide fin
  rcases reg_is g with rfl | rfl | rfl | rfl | h
  · go_enter Try.func91, Try.ntmps91
    go_wp2
    exact bodyPost_ret (v := .tuple #[.agg (cellsD (writeV t 0 v)), .int .i64 0]) (by simp [results, Try.results91, go_sem, t1, t3, t5, t6, t7, writeV]) rfl ⟨rfl, fin.out _ _⟩
  · go_enter Try.func91, Try.ntmps91
    go_wp2
    exact bodyPost_ret (v := .tuple #[.agg (cellsD (writeV t 4 v)), .int .i64 0]) (by simp [results, Try.results91, go_sem, t1, t3, t5, t6, t7, writeV]) rfl ⟨rfl, fin.out _ _⟩
  · have c := hide fun W => isWay_any v W
    by_cases hb : t.b = 0
    · have hd : (t.b == 0) = true := by simpa using hb
      cases hw : isW v
      · rw [hw] at c
        have hv : writeV t 8 v = t := by
          simp [isW] at hw
          unfold writeV
          simp [hb, hw]
        rw [hv]
        replace hb := hide hb
        clear hw hv
        go_enter Try.func91, Try.ntmps91
        go_wp2_with fail
        refine (c.out _).mono ?_
        rintro e w' ⟨rfl, rfl⟩
        go_wp2
        exact bodyPost_ret (v := .tuple #[.agg (cellsD t), .int .i64 0]) (by simp [results, Try.results91, go_sem, t1, t3, t5, t6, t7]) rfl ⟨rfl, fin.out _ _⟩
      · rw [hw] at c
        have hv : writeV t 8 v = { t with b := 10, y := v } := by
          simp [isW] at hw
          unfold writeV
          simp [hb, hw]
        rw [hv]
        replace hb := hide hb
        clear hw hv
        go_enter Try.func91, Try.ntmps91
        go_wp2_with fail
        refine (c.out _).mono ?_
        rintro e w' ⟨rfl, rfl⟩
        go_wp2
        exact bodyPost_ret (v := .tuple #[.agg (cellsD { t with b := 10, y := v }), .int .i64 0]) (by simp [results, Try.results91, go_sem, t1, t3, t5, t6, t7]) rfl ⟨rfl, fin.out _ _⟩
    · have hd : (t.b == 0) = false := by simpa using hb
      have hv : writeV t 8 v = t := by unfold writeV; simp [hb]
      rw [hv]
      replace hb := hide hb
      clear c hv
      go_enter Try.func91, Try.ntmps91
      go_wp2
      exact bodyPost_ret (v := .tuple #[.agg (cellsD t), .int .i64 0]) (by simp [results, Try.results91, go_sem, t1, t3, t5, t6, t7]) rfl ⟨rfl, fin.out _ _⟩
  · go_enter Try.func91, Try.ntmps91
    go_wp2
    exact bodyPost_ret (v := .tuple #[.agg (cellsD (writeV t 12 v)), .int .i64 0]) (by simp [results, Try.results91, go_sem, t1, t3, t5, t6, t7, writeV]) rfl ⟨rfl, fin.out _ _⟩
  · rw [h.write, h.form]
    obtain ⟨h0, h1, h2, h3⟩ := h.tests
    clear h
    go_enter Try.func91, Try.ntmps91
    go_wp2
    exact bodyPost_ret (v := .tuple #[.agg (cellsD D0), .int .i64 110]) (by simp [results, Try.results91, go_sem, t1, t3, t5, t6, t7]) rfl ⟨rfl, fin.out _ _⟩

end Go.Proofs.Ytdapjpbdplhgbaa.Dm
