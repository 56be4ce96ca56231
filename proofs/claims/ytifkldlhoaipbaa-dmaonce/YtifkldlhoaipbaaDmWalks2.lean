/- Layer 11: contracts of the document's Write and Tick, and of the program's Tick. -/
import Derived.Test.YtifkldlhoaipbaaDmWalks
namespace Go.Proofs.Ytifkldlhoaipbaa
open Go.RowKit
set_option linter.unusedVariables false

/-- Five is above each place. -/
theorem five_more : ¬ N5 < 2 ∧ ¬ N5 < 3 ∧ ¬ N5 < 4 ∧ ¬ N5 < 5 ∧ ¬ cellsD D0 = #[] ∧ ¬ N5 = 0 :=
  ⟨by decide, by decide, by decide, by decide, by unfold cellsD; simp, by decide⟩

set_option maxHeartbeats 1000000 in
theorem rwrite_any (t : Dm) (ht : Wd t) (g v : Int) (w : World) :
    Calls Try.prog 12 #[.agg (cellsD t), .int .u32 g, .int .u32 v] w fun e w' => e = .returned (.tuple #[.agg (cellsD (writeV t g v)), .int .i64 (formV g)]) ∧ Below w.heap.size w w' := by
  obtain ⟨t1, t2, t3, t4, t5, t6, t7, t8, t9⟩ := dmRules
  obtain ⟨p0, p1, p2, p3, p4⟩ := dmParts
  obtain ⟨s0, s1, s2, s3, s4⟩ := dmSets
  have fin : ∀ c d : Array Value, Below w.heap.size w ((w.alloc (.cells c 24)).alloc (.cells d 24)) := fun c d => (grow _ _).alloc (by simp) _
  replace fin := hide fin
  obtain ⟨b0, b1⟩ := ht.b
  clear ht
  rcases reg_is g with rfl | rfl | rfl | rfl | h
  · go_enter Try.func12, Try.ntmps12
    go_wp2
    exact bodyPost_ret (v := .tuple #[.agg (cellsD (writeV t 0 v)), .int .i64 0]) (by simp [results, Try.results12, go_sem, t1, t3, t5, t6, t7, writeV]) rfl ⟨rfl, fin.out _ _⟩
  · go_enter Try.func12, Try.ntmps12
    go_wp2
    exact bodyPost_ret (v := .tuple #[.agg (cellsD (writeV t 4 v)), .int .i64 0]) (by simp [results, Try.results12, go_sem, t1, t3, t5, t6, t7, writeV]) rfl ⟨rfl, fin.out _ _⟩
  · by_cases hb : t.b = 0
    · have hd : decide (0 < t.b) = false := by simp [hb]
      by_cases hv1 : v = 1
      · subst hv1
        have hv : writeV t 8 1 = { t with b := 10, y := 1 } := by unfold writeV; simp [hb]
        rw [hv]
        replace hb := hide hb
        go_enter Try.func12, Try.ntmps12
        go_wp2
        exact bodyPost_ret (v := .tuple #[.agg (cellsD { t with b := 10, y := 1 }), .int .i64 0]) (by simp [results, Try.results12, go_sem, t1, t3, t5, t6, t7]) rfl ⟨rfl, fin.out _ _⟩
      · have e1 : (v != 1) = true := by simpa using hv1
        by_cases hv2 : v = 2
        · subst hv2
          have hv : writeV t 8 2 = { t with b := 10, y := 2 } := by unfold writeV; simp [hb]
          rw [hv]
          replace hb := hide hb
          clear hv1 e1
          go_enter Try.func12, Try.ntmps12
          go_wp2
          exact bodyPost_ret (v := .tuple #[.agg (cellsD { t with b := 10, y := 2 }), .int .i64 0]) (by simp [results, Try.results12, go_sem, t1, t3, t5, t6, t7]) rfl ⟨rfl, fin.out _ _⟩
        · have e2 : (v != 2) = true := by simpa using hv2
          have hv : writeV t 8 v = t := by unfold writeV; simp [hv1, hv2]
          rw [hv]
          replace hb := hide hb
          clear hv1 hv2
          go_enter Try.func12, Try.ntmps12
          go_wp2
          exact bodyPost_ret (v := .tuple #[.agg (cellsD t), .int .i64 0]) (by simp [results, Try.results12, go_sem, t1, t3, t5, t6, t7]) rfl ⟨rfl, fin.out _ _⟩
    · have hd : decide (0 < t.b) = true := by simp; omega
      have hv : writeV t 8 v = t := by unfold writeV; simp [hb]
      rw [hv]
      replace hb := hide hb
      clear hv
      go_enter Try.func12, Try.ntmps12
      go_wp2
      exact bodyPost_ret (v := .tuple #[.agg (cellsD t), .int .i64 0]) (by simp [results, Try.results12, go_sem, t1, t3, t5, t6, t7]) rfl ⟨rfl, fin.out _ _⟩
  · go_enter Try.func12, Try.ntmps12
    go_wp2
    exact bodyPost_ret (v := .tuple #[.agg (cellsD (writeV t 12 v)), .int .i64 0]) (by simp [results, Try.results12, go_sem, t1, t3, t5, t6, t7, writeV, D0]) rfl ⟨rfl, fin.out _ _⟩
  · rw [h.write, h.form]
    obtain ⟨h0, h1, h2, h3⟩ := h.tests
    clear h
    go_enter Try.func12, Try.ntmps12
    go_wp2
    exact bodyPost_ret (v := .tuple #[.agg (cellsD D0), .int .i64 110]) (by simp [results, Try.results12, go_sem, t1, t3, t5, t6, t7]) rfl ⟨rfl, fin.out _ _⟩

theorem tick_any {t : Dm} (ht : Wd t) (w : World) :
    Calls Try.prog 13 #[.agg (cellsD t)] w fun e w' => e = .returned (.tuple #[.agg (cellsD (tickV t)), .int .u32 (wayV t)]) ∧ Below w.heap.size w w' := by
  obtain ⟨t1, t2, t3, t4, t5, t6, t7, t8, t9⟩ := dmRules
  obtain ⟨p0, p1, p2, p3, p4⟩ := dmParts
  obtain ⟨s0, s1, s2, s3, s4⟩ := dmSets
  have fin : ∀ c d : Array Value, Below w.heap.size w ((w.alloc (.cells c 24)).alloc (.cells d 24)) := fun c d => (grow _ _).alloc (by simp) _
  replace fin := hide fin
  obtain ⟨b0, b1⟩ := ht.b
  clear ht
  by_cases hb : t.b = 0
  · have hd : (t.b == 0) = true := by simpa using hb
    have hv : tickV t = t := by simp [tickV, hb]
    have hy : wayV t = 0 := by simp [wayV, hb]
    rw [hv, hy]
    replace hb := hide hb
    go_enter Try.func13, Try.ntmps13
    go_wp2
    exact bodyPost_ret (v := .tuple #[.agg (cellsD t), .int .u32 0]) (by simp [results, Try.results13, go_sem, t1, t3, t5, t6, t7]) rfl ⟨rfl, fin.out _ _⟩
  · have hd : (t.b == 0) = false := by simpa using hb
    by_cases hl : 1 < t.b
    · have hv : tickV t = { t with b := t.b - 1 } := by simp [tickV, hb, hl]
      have hy : wayV t = 0 := by simp [wayV, hl]
      rw [hv, hy]
      replace hb := hide hb
      clear hv hy
      go_enter Try.func13, Try.ntmps13
      go_wp2
      exact bodyPost_ret (v := .tuple #[.agg (cellsD { t with b := t.b - 1 }), .int .u32 0]) (by simp [results, Try.results13, go_sem, t1, t3, t5, t6, t7]) rfl ⟨rfl, fin.out _ _⟩
    · have hv : tickV t = ⟨t.a, t.n, 0, 0, true⟩ := by simp [tickV, hb, hl]
      have hy : wayV t = t.y := by simp [wayV, hb, hl]
      rw [hv, hy]
      replace hb := hide hb
      clear hv hy
      go_enter Try.func13, Try.ntmps13
      go_wp2
      exact bodyPost_ret (v := .tuple #[.agg (cellsD ⟨t.a, t.n, 0, 0, true⟩), .int .u32 t.y]) (by simp [results, Try.results13, go_sem, t1, t3, t5, t6, t7]) rfl ⟨rfl, fin.out _ _⟩

theorem rtick_any {t : Dm} (ht : Wd t) (w : World) :
    Calls Try.prog 14 #[.agg (cellsD t)] w fun e w' => e = .returned (.tuple #[.agg (cellsD (tickV t)), .int .u32 (wayV t)]) ∧ Below w.heap.size w w' := by
  obtain ⟨t1, t2, t3, t4, t5, t6, t7, t8, t9⟩ := dmRules
  obtain ⟨p0, p1, p2, p3, p4⟩ := dmParts
  obtain ⟨s0, s1, s2, s3, s4⟩ := dmSets
  have fin : ∀ c d : Array Value, Below w.heap.size w ((w.alloc (.cells c 24)).alloc (.cells d 24)) := fun c d => (grow _ _).alloc (by simp) _
  replace fin := hide fin
  obtain ⟨b0, b1⟩ := ht.b
  clear ht
  by_cases hb : t.b = 0
  · have hd : (t.b == 0) = true := by simpa using hb
    have hv : tickV t = t := by simp [tickV, hb]
    have hy : wayV t = 0 := by simp [wayV, hb]
    rw [hv, hy]
    replace hb := hide hb
    go_enter Try.func14, Try.ntmps14
    go_wp2
    exact bodyPost_ret (v := .tuple #[.agg (cellsD t), .int .u32 0]) (by simp [results, Try.results14, go_sem, t1, t3, t5, t6, t7]) rfl ⟨rfl, fin.out _ _⟩
  · have hd : (t.b == 0) = false := by simpa using hb
    by_cases hl : 1 < t.b
    · have hv : tickV t = { t with b := t.b - 1 } := by simp [tickV, hb, hl]
      have hy : wayV t = 0 := by simp [wayV, hl]
      rw [hv, hy]
      replace hb := hide hb
      clear hv hy
      go_enter Try.func14, Try.ntmps14
      go_wp2
      exact bodyPost_ret (v := .tuple #[.agg (cellsD { t with b := t.b - 1 }), .int .u32 0]) (by simp [results, Try.results14, go_sem, t1, t3, t5, t6, t7]) rfl ⟨rfl, fin.out _ _⟩
    · have hv : tickV t = ⟨t.a, t.n, 0, 0, true⟩ := by simp [tickV, hb, hl]
      have hy : wayV t = t.y := by simp [wayV, hb, hl]
      rw [hv, hy]
      replace hb := hide hb
      clear hv hy
      obtain ⟨d1, d2, d3⟩ := dmDrew
      obtain ⟨n2, n3, n4, n5, n0, -⟩ := five_more
      go_enter Try.func14, Try.ntmps14
      go_wp2
      go_region
      all_goals
        go_wp2
        exact bodyPost_ret (v := .tuple #[.agg (cellsD ⟨t.a, t.n, 0, 0, true⟩), .int .u32 t.y]) (by simp [results, Try.results14, go_sem, t1, t3, t5, t6, t7, d1, d2, D0]) rfl ⟨rfl, (fin.out _ _).drew⟩

end Go.Proofs.Ytifkldlhoaipbaa
