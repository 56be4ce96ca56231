/- Layer 9: contracts of the document's Write and Tick, and of the program's Ticks and Tick. -/
import Derived.Test.YtdapjpbdplhgbaaTmWalks
namespace Go.Proofs.Ytdapjpbdplhgbaa.Tm
open Go.RowKit
set_option linter.unusedVariables false
set_option maxRecDepth 100000

theorem run_min (n : Int) (w : World) : (Builtin.min_ #[3, 3] 3 #[.int .i64 n, .int .i64 1099511627776]).run Try.prog w = .ok (.int .i64 (cutV n)) w := by
  rw [run_min_int2]
  unfold cutV
  congr 2
  split <;> split <;> omega

theorem run_max (n : Int) (w : World) : (Builtin.max_ #[3, 3] 3 #[.int .i64 n, .int .i64 1]).run Try.prog w = .ok (.int .i64 (if 1 ≤ n then n else 1)) w := by
  rw [run_max_int2]
  congr 2
  split <;> split <;> omega

theorem cut_le (n : Int) : cutV n ≤ 1099511627776 := by unfold cutV; split <;> omega

theorem ticks_any {t : Tm} (ht : Wt t) (n : Int) (w : World) :
    Calls Try.prog 81 #[.agg (cellsT t), .int .i64 n] w fun e w' => e = .returned (.agg (cellsT (ticksV t n))) ∧ Below w.heap.size w w' := by
  obtain ⟨t1, t2, t3, t4, t5, t6, t7, t8, t9⟩ := tmRules
  obtain ⟨p0, p1, p2⟩ := tmParts
  obtain ⟨s0, s1, s2⟩ := tmSets
  have fin : ∀ c d : Array Value, Below w.heap.size w ((w.alloc (.cells c 62)).alloc (.cells d 62)) := fun c d => (grow _ _).alloc (by simp) _
  replace fin := hide fin
  obtain ⟨⟨e0, e1⟩, ⟨l0, l1⟩⟩ := ht
  have hm := fun w => run_min n w
  have hx := fun w => run_max t.l w
  have hc := cut_le n
  unfold ticksV
  generalize cutV n = c at *
  obtain ⟨f, hf⟩ : ∃ f, firstV t = f := ⟨_, rfl⟩
  have hx' : ∀ w, (Builtin.max_ #[3, 3] 3 #[.int .i64 t.l, .int .i64 1]).run Try.prog w = .ok (.int .i64 f) w := by
    intro w
    rw [hx w, ← hf]
    rfl
  clear hx
  by_cases he : t.e = 0
  · have hd : (t.e == 0) = true := by simpa using he
    have hv : stepsV t c = t := by unfold stepsV; rw [if_pos (Or.inl he)]
    rw [hv]
    replace he := hide he
    clear hf
    go_enter Try.func81, Try.ntmps81
    go_wp2
    exact bodyPost_ret (v := .agg (cellsT t)) (by simp [results, Try.results81, go_sem, t1, t3, t5, t6, t7]) rfl ⟨rfl, fin.out _ _⟩
  · have hd : (t.e == 0) = false := by simpa using he
    by_cases h0 : c ≤ 0
    · have hv : stepsV t c = t := by unfold stepsV; rw [if_pos (Or.inr h0)]
      rw [hv]
      have hd2 : decide (c ≤ 0) = true := by simpa using h0
      replace he := hide he
      clear hf
      go_enter Try.func81, Try.ntmps81
      go_wp2
      exact bodyPost_ret (v := .agg (cellsT t)) (by simp [results, Try.results81, go_sem, t1, t3, t5, t6, t7]) rfl ⟨rfl, fin.out _ _⟩
    · have hd2 : decide (c ≤ 0) = false := by simpa using h0
      have hv : stepsV t c = goV t c := by unfold stepsV; rw [if_neg (by omega)]
      rw [hv]
      unfold goV
      rw [hf]
      have f1 : f = t.l ∨ f = 1 := by rw [← hf]; unfold firstV; split <;> simp
      have f2 := first_pos t
      rw [hf] at f2
      by_cases h1 : c < f
      · have hl : f = t.l := by omega
        subst hl
        rw [if_pos h1]
        clear hf f1 f2 he
        go_enter Try.func81, Try.ntmps81
        go_wp2
        exact bodyPost_ret (v := .agg (cellsT { t with l := t.l - c })) (by simp [results, Try.results81, go_sem, t1, t3, t5, t6, t7]) rfl ⟨rfl, fin.out _ _⟩
      · rw [if_neg h1]
        have r0 := Int.emod_nonneg (c - f) he
        have r1 := Int.emod_lt_of_pos (c - f) (show 0 < t.e by omega)
        have hr : (c - f).tmod t.e = (c - f) % t.e := Int.tmod_eq_emod_of_nonneg (by omega)
        generalize (c - f) % t.e = R at *
        clear hf hv
        obtain ⟨d1, d2, d3⟩ := tmDrew
        go_enter Try.func81, Try.ntmps81
        go_wp2
        go_region
        go_wp2
        exact bodyPost_ret (v := .agg (cellsT { t with l := t.e - R, r := true })) (by simp [results, Try.results81, go_sem, t1, t3, t5, t6, t7, d1, d2]) rfl ⟨rfl, (fin.out _ _).drew⟩

theorem tick_any {t : Tm} (ht : Wt t) (w : World) :
    Calls Try.prog 64 #[.agg (cellsT t)] w fun e w' => e = .returned (.agg (cellsT (tickV t))) ∧ Below w.heap.size w w' := by
  obtain ⟨t1, t2, t3, t4, t5, t6, t7, t8, t9⟩ := tmRules
  have c := hide fun W => ticks_any ht 1 W
  rw [ticks_one ht] at c
  go_enter Try.func64, Try.ntmps64
  go_wp2_with fail
  have R := Rat.new (w.alloc (.cells (cellsT t) 62)) T0 62
  have B := (grow w (.cells (cellsT t) 62)).alloc (by simp) (.cells (cellsT T0) 62)
  rw [show (w.alloc (.cells (cellsT t) 62)).heap.size = w.heap.size + 1 by simp] at R
  refine (c.out _).mono ?_
  rintro e w1 ⟨rfl, e1⟩
  replace R := R.on e1
  replace B := onto B (Nat.le_refl _) e1
  have x1 := R.1
  have x2 := R.2.1
  replace R := hide R
  replace B := hide B
  clear e1 c ht
  go_wp2
  exact bodyPost_ret (v := .agg (cellsT (tickV t))) (by simp [results, Try.results64, go_sem, t1, t9, x1]) rfl ⟨rfl, below_setRow B.out (by omega) _⟩

end Go.Proofs.Ytdapjpbdplhgbaa.Tm
