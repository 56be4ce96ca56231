/- Layer 11: contracts of the document's Write and Tick, and of the program's Tick. -/
import Derived.Test.YtdapjpbdplhgbaaDmWalks
namespace Go.Proofs.Ytdapjpbdplhgbaa.Dm
open Go.RowKit
set_option linter.unusedVariables false
set_option maxRecDepth 100000

/-- Five is above each place. -/
theorem five_more : ¬ N5 < 2 ∧ ¬ N5 < 3 ∧ ¬ N5 < 4 ∧ ¬ N5 < 5 ∧ ¬ cellsD D0 = #[] ∧ ¬ N5 = 0 :=
  ⟨by decide, by decide, by decide, by decide, by unfold cellsD; simp, by decide⟩

theorem tick_any {t : Dm} (ht : Wd t) (w : World) :
    Calls Try.prog 65 #[.agg (cellsD t)] w fun e w' => e = .returned (.tuple #[.agg (cellsD (tickV t)), .int .u32 (wayV t)]) ∧ Below w.heap.size w w' := by
  obtain ⟨t1, t2, t3, t4, t5, t6, t7, t8, t9⟩ := dmRules
  obtain ⟨p0, p1, p2, p3, p4⟩ := dmParts
  obtain ⟨s0, s1, s2, s3, s4⟩ := dmSets
  have fin : ∀ c d : Array Value, Below w.heap.size w ((w.alloc (.cells c 66)).alloc (.cells d 66)) := fun c d => (grow _ _).alloc (by simp) _
  replace fin := hide fin
  obtain ⟨b0, b1⟩ := ht.b
  clear ht
  by_cases hb : t.b = 0
  · have hd : (t.b == 0) = true := by simpa using hb
    have hv : tickV t = t := by simp [tickV, hb]
    have hy : wayV t = 0 := by simp [wayV, hb]
    rw [hv, hy]
    replace hb := hide hb
    go_enter Try.func65, Try.ntmps65
    go_wp2
    exact bodyPost_ret (v := .tuple #[.agg (cellsD t), .int .u32 0]) (by simp [results, Try.results65, go_sem, t1, t3, t5, t6, t7]) rfl ⟨rfl, fin.out _ _⟩
  · have hd : (t.b == 0) = false := by simpa using hb
    by_cases hl : 1 < t.b
    · have hv : tickV t = { t with b := t.b - 1 } := by simp [tickV, hb, hl]
      have hy : wayV t = 0 := by simp [wayV, hl]
      rw [hv, hy]
      replace hb := hide hb
      clear hv hy
      go_enter Try.func65, Try.ntmps65
      go_wp2
      exact bodyPost_ret (v := .tuple #[.agg (cellsD { t with b := t.b - 1 }), .int .u32 0]) (by simp [results, Try.results65, go_sem, t1, t3, t5, t6, t7]) rfl ⟨rfl, fin.out _ _⟩
    · have hv : tickV t = ⟨t.a, t.n, 0, 0, true⟩ := by simp [tickV, hb, hl]
      have hy : wayV t = t.y := by simp [wayV, hb, hl]
      rw [hv, hy]
      replace hb := hide hb
      clear hv hy
      go_enter Try.func65, Try.ntmps65
      go_wp2
      exact bodyPost_ret (v := .tuple #[.agg (cellsD ⟨t.a, t.n, 0, 0, true⟩), .int .u32 t.y]) (by simp [results, Try.results65, go_sem, t1, t3, t5, t6, t7]) rfl ⟨rfl, fin.out _ _⟩

end Go.Proofs.Ytdapjpbdplhgbaa.Dm
