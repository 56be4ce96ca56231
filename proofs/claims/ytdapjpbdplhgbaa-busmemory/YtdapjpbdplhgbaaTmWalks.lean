/- Layer 9: contracts of the registers and of the steps, the program's and the document's. -/
import Derived.Test.YtdapjpbdplhgbaaTmPlain
namespace Go.Proofs.Ytdapjpbdplhgbaa.Tm
open Go.RowKit
set_option linter.unusedVariables false
set_option maxRecDepth 100000

theorem ring_any (t : Tm) (w : World) :
    Calls Try.prog 60 #[.agg (cellsT t)] w fun e w' => e = .returned (.int .u8 (one t.r)) ∧ w' = w.alloc (.cells (cellsT t) 62) := by
  obtain ⟨t1, t2, t3, t4, t5, t6, t7, t8, t9⟩ := tmRules
  obtain ⟨p0, p1, p2⟩ := tmParts
  obtain ⟨e, l, r⟩ := t
  cases r
  all_goals
    go_enter Try.func60, Try.ntmps60
    go_wp2
    go_ret
    exact ⟨rfl, rfl⟩

theorem rbit_any (b : Bool) (w : World) : Calls Try.prog 62 #[.bool b] w fun e w' => e = .returned (.int .u32 (one b)) ∧ w' = w := by
  cases b
  all_goals
    go_enter Try.func62, Try.ntmps62
    go_wp2
    go_ret
    exact ⟨rfl, rfl⟩

/-- None of the three. -/
def Nor (g : Int) : Prop := ¬ g = 0 ∧ ¬ g = 4 ∧ ¬ g = 8

theorem reg_is (g : Int) : g = 0 ∨ g = 4 ∨ g = 8 ∨ Nor g := by
  unfold Nor
  omega

theorem Nor.tests {g : Int} (h : Nor g) : (g == 0) = false ∧ (g == 4) = false ∧ (g == 8) = false := by
  unfold Nor at h
  simp [h]

theorem Nor.read {g : Int} (h : Nor g) (t : Tm) : readV t g = 0 := by simp [readV, h.1, h.2.1, h.2.2]
theorem Nor.form {g : Int} (h : Nor g) : formV g = 90 := by simp [formV, h.1, h.2.1, h.2.2]
theorem Nor.write {g : Int} (h : Nor g) (t : Tm) (v : Int) : writeV t g v = T0 := by simp [writeV, h.1, h.2.1, h.2.2]

theorem one_w (b : Bool) : 0 ≤ one b ∧ one b < 2 := by cases b <;> decide

theorem read_any (t : Tm) (g : Int) (w : World) :
    Calls Try.prog 93 #[.agg (cellsT t), .int .u32 g] w fun e w' => e = .returned (.tuple #[.int .u32 (readV t g), .int .i64 (formV g)]) ∧ Below w.heap.size w w' := by
  obtain ⟨t1, t2, t3, t4, t5, t6, t7, t8, t9⟩ := tmRules
  obtain ⟨p0, p1, p2⟩ := tmParts
  rcases reg_is g with rfl | rfl | rfl | h
  · go_enter Try.func93, Try.ntmps93
    go_wp2
    go_ret2
    exact ⟨rfl, grow _ _⟩
  · go_enter Try.func93, Try.ntmps93
    go_wp2
    go_ret2
    exact ⟨rfl, grow _ _⟩
  · obtain ⟨o0, o1⟩ := one_w t.r
    have c := hide fun W => ring_any t W
    obtain ⟨x, hx⟩ : ∃ x, one t.r = x := ⟨_, rfl⟩
    have hv : readV t 8 = x := hx
    rw [hv]
    rw [hx] at c o0 o1
    clear hx hv
    go_enter Try.func93, Try.ntmps93
    go_wp2_with fail
    refine (c.out _).mono ?_
    rintro e w' ⟨rfl, rfl⟩
    go_wp2
    go_ret2
    exact ⟨rfl, (grow _ _).alloc (by simp) _⟩
  · rw [h.read, h.form]
    obtain ⟨h0, h1, h2⟩ := h.tests
    clear h
    go_enter Try.func93, Try.ntmps93
    go_wp2
    go_ret2
    exact ⟨rfl, grow _ _⟩

theorem write_any (t : Tm) (g v : Int) (w : World) :
    Calls Try.prog 89 #[.agg (cellsT t), .int .u32 g, .int .u32 v] w fun e w' => e = .returned (.tuple #[.agg (cellsT (writeV t g v)), .int .i64 (formV g)]) ∧ Below w.heap.size w w' := by
  obtain ⟨t1, t2, t3, t4, t5, t6, t7, t8, t9⟩ := tmRules
  obtain ⟨p0, p1, p2⟩ := tmParts
  obtain ⟨s0, s1, s2⟩ := tmSets
  have fin : ∀ c d : Array Value, Below w.heap.size w ((w.alloc (.cells c 62)).alloc (.cells d 62)) := fun c d => (grow _ _).alloc (by simp) _
  replace fin := hide fin
  rcases reg_is g with rfl | rfl | rfl | h
  · go_enter Try.func89, Try.ntmps89
    go_wp2
    exact bodyPost_ret (v := .tuple #[.agg (cellsT (writeV t 0 v)), .int .i64 0]) (by simp [results, Try.results89, go_sem, t1, t3, t5, t6, t7, writeV]) rfl ⟨rfl, fin.out _ _⟩
  · go_enter Try.func89, Try.ntmps89
    go_wp2
    exact bodyPost_ret (v := .tuple #[.agg (cellsT (writeV t 4 v)), .int .i64 0]) (by simp [results, Try.results89, go_sem, t1, t3, t5, t6, t7, writeV]) rfl ⟨rfl, fin.out _ _⟩
  · go_enter Try.func89, Try.ntmps89
    go_wp2
    exact bodyPost_ret (v := .tuple #[.agg (cellsT (writeV t 8 v)), .int .i64 0]) (by simp [results, Try.results89, go_sem, t1, t3, t5, t6, t7, writeV]) rfl ⟨rfl, fin.out _ _⟩
  · rw [h.write, h.form]
    obtain ⟨h0, h1, h2⟩ := h.tests
    clear h
    go_enter Try.func89, Try.ntmps89
    go_wp2
    exact bodyPost_ret (v := .tuple #[.agg (cellsT T0), .int .i64 90]) (by simp [results, Try.results89, go_sem, t1, t3, t5, t6, t7]) rfl ⟨rfl, fin.out _ _⟩

end Go.Proofs.Ytdapjpbdplhgbaa.Tm
