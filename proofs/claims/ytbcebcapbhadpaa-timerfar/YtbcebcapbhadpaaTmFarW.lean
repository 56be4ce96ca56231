/- So many rounds more leave a timer that rings where it is; one that is set to nothing stays. -/
import Derived.Test.YtbcebcapbhadpaaTmPartsW
import Derived.Test.YtbcebcapbhadpaaTmTicksW
import Derived.Deep.QuietTactic
import Derived.BigQuiet
namespace Go.Proofs.Ytbcebcapbhadpaa
open Go.RowKit
set_option linter.unusedVariables false

theorem far_first {e l : Int} (he : W32 e) (hl : W32 l) (h0 : ¬ e = 0) : ticksV ⟨e, if 1 ≤ l then l else 1, true⟩ (if 1 ≤ l then l else 1) = ⟨e, e, true⟩ := by
  obtain ⟨l0, l1⟩ := hl
  generalize hL : (if 1 ≤ l then l else 1) = L
  have L0 : 1 ≤ L ∧ L ≤ 4294967296 := by rw [← hL]; split <;> omega
  unfold ticksV cutV stepsV goV firstV
  rw [if_pos (show L ≤ 1099511627776 by omega), if_neg (by simp only; omega)]
  simp only
  rw [if_pos L0.1, if_neg (by omega), Int.sub_self, Int.zero_emod, Int.sub_zero]

theorem far_whole {e : Int} (he : W32 e) (h0 : ¬ e = 0) (k : Nat) (hk : k < 256) : ticksV ⟨e, e, true⟩ (k * e) = ⟨e, e, true⟩ := by
  obtain ⟨e0, e1⟩ := he
  have hm : (k : Int) * e ≤ 255 * e := Int.mul_le_mul_of_nonneg_right (by omega) (by omega)
  unfold ticksV cutV stepsV goV firstV
  rw [if_pos (show (k : Int) * e ≤ 1099511627776 by omega)]
  split
  · rfl
  next h =>
    simp only at h ⊢
    rw [if_pos (show 1 ≤ e by omega)]
    have k0 : 1 ≤ k := by
      refine Nat.pos_of_ne_zero fun c => h (Or.inr ?_)
      rw [c]; simp
    obtain ⟨j, rfl⟩ : ∃ j, k = j + 1 := ⟨k - 1, by omega⟩
    have hj : 0 ≤ (j : Int) * e := Int.mul_nonneg (by omega) (by omega)
    have e2 : ((j + 1 : Nat) : Int) * e = (j : Int) * e + e := by rw [Int.natCast_add, Int.add_mul]; simp
    rw [e2, if_neg (by omega), show (j : Int) * e + e - e = (j : Int) * e by omega, Int.mul_emod_left, Int.sub_zero]

theorem far_ahead {e : Int} (he : W32 e) (h0 : ¬ e = 0) (k : Nat) (hk : k < 256) (hz : ¬ k = 0) : (ticksV ⟨e, e, true⟩ (k * e - 1)).l = 1 := by
  obtain ⟨e0, e1⟩ := he
  have hm : (k : Int) * e ≤ 255 * e := Int.mul_le_mul_of_nonneg_right (by omega) (by omega)
  obtain ⟨j, rfl⟩ : ∃ j, k = j + 1 := ⟨k - 1, by omega⟩
  have hj : 0 ≤ (j : Int) * e := Int.mul_nonneg (by omega) (by omega)
  have e2 : ((j + 1 : Nat) : Int) * e = (j : Int) * e + e := by rw [Int.natCast_add, Int.add_mul]; simp
  rw [e2] at hm ⊢
  unfold ticksV cutV stepsV goV firstV
  rw [if_pos (show (j : Int) * e + e - 1 ≤ 1099511627776 by omega)]
  split
  next h =>
    simp only at h ⊢
    omega
  next h =>
    simp only at h ⊢
    rw [if_pos (show 1 ≤ e by omega)]
    split
    next g =>
      simp only
      by_cases c : j = 0
      · subst c; simp; omega
      · have : e ≤ (j : Int) * e := by
          have := Int.mul_le_mul_of_nonneg_right (show (1 : Int) ≤ (j : Int) by omega) e0
          omega
        omega
    next g =>
      simp only
      have c : 1 ≤ j := by
        refine Nat.pos_of_ne_zero fun c => g ?_
        subst c; simp; omega
      obtain ⟨i, rfl⟩ : ∃ i, j = i + 1 := ⟨j - 1, by omega⟩
      have e3 : ((i + 1 : Nat) : Int) * e + e - 1 - e = (e - 1) + e * (i : Int) := by rw [Int.natCast_add, Int.add_mul, Int.mul_comm e]; simp; omega
      rw [e3, Int.add_mul_emod_self_left, Int.emod_eq_of_lt (by omega) (by omega)]
      omega

theorem run_max32 (n : Int) (w : World) : (Builtin.max_ #[22, 22] 22 #[.int .u32 1, .int .u32 n]).run Try.prog w = .ok (.int .u32 (if 1 ≤ n then n else 1)) w := by
  rw [run_max_int2]
  congr 2
  split <;> split <;> omega

/-- What the last statement reads, behind a call. -/
theorem far_on {w x y : World} {LU : Nat} {e L : Int} (h : Rat x w.heap.size ⟨e, L, true⟩ ∧ Rat x LU ⟨e, e, true⟩ ∧ Below w.heap.size w x) (hb : Below x.heap.size x y) :
    (loadCellsFrom ⟨LU, 0, none⟩ 0 N3 #[]).run Try.prog y = .ok (cellsT ⟨e, e, true⟩) y ∧ y.cell? ⟨LU, 1, none⟩ = some (.int .u32 e) ∧ y.cell? ⟨w.heap.size, 0, none⟩ = some (.int .u32 e) ∧
      (Rat y w.heap.size ⟨e, L, true⟩ ∧ Rat y LU ⟨e, e, true⟩ ∧ Below w.heap.size w y) :=
  ⟨(h.2.1.on hb).load, (h.2.1.on hb).cell 1, (h.1.on hb).cell 0, h.1.on hb, h.2.1.on hb, onto h.2.2 (Nat.le_refl _) hb⟩

/-- A region that draws its order, walked once, in a class of worlds in which each of its operations tells one value. -/
theorem region_calm {P : Program} {id : Nat} {Q : Exit → Act → World → Prop} {a : Act} {w : World} {l : List Oper} (C : World → Prop) (hm : P.follows .mixedOrders = true) (hB : Region.lexB .any l.toArray = true) (hC : C w.drew)
    (h : wpQuiet P l.toArray C (fun a' => ∀ w', C w' → Q .normal a' w') l a) : (Code.region id l.toArray true).wp P Q a w :=
  wp_region_quiet (C := C) hm hB hC (by simpa using h)

/-- A world in which the two timers lie. -/
structure Held (w : World) (LU : Nat) (e L : Int) where
  x : World
  h : Rat x w.heap.size ⟨e, L, true⟩ ∧ Rat x LU ⟨e, e, true⟩ ∧ Below w.heap.size w x

theorem Held.load {w : World} {LU : Nat} {e L : Int} (y : Held w LU e L) : (loadCellsFrom ⟨LU, 0, none⟩ 0 N3 #[]).run Try.prog y.x = .ok (cellsT ⟨e, e, true⟩) y.x := y.h.2.1.load
theorem Held.left {w : World} {LU : Nat} {e L : Int} (y : Held w LU e L) : y.x.cell? ⟨LU, 1, none⟩ = some (.int .u32 e) := y.h.2.1.cell 1
theorem Held.every {w : World} {LU : Nat} {e L : Int} (y : Held w LU e L) : y.x.cell? ⟨w.heap.size, 0, none⟩ = some (.int .u32 e) := y.h.1.cell 0

def Held.on {w z : World} {LU : Nat} {e L : Int} (y : Held w LU e L) (hb : Below y.x.heap.size y.x z) : Held w LU e L :=
  ⟨z, y.h.1.on hb, y.h.2.1.on hb, onto y.h.2.2 (Nat.le_refl _) hb⟩

set_option maxRecDepth 100000 in
set_option maxHeartbeats 4000000 in
theorem far_walk (w : World) (t : Tm) (ht : Wt t) (n : Int) (wn : (Lit.int .i64 n).wf = true) :
    Calls Try.prog 7 #[.agg (cellsT t), .int .i64 n] w fun e w' => e = .returned (.bool true) ∧ Below w.heap.size w w' := by
  obtain ⟨t1, t2, t3, t4, t5, t6, t7, t8, t9⟩ := tmRules
  obtain ⟨p0, p1, p2⟩ := tmParts
  obtain ⟨s0, s1, s2⟩ := tmSets
  have a1 := and255 n
  obtain ⟨k, hk⟩ : ∃ k : Nat, n % 256 = k := ⟨(n % 256).toNat, by omega⟩
  have k1 : k < 256 := by omega
  rw [hk] at a1
  clear hk wn
  by_cases he : t.e = 0
  · have hd : (t.e == 0) = true := by simpa using he
    have c := hide fun W => ticks_any (t := { t with r := true }) ⟨ht.e, ht.l⟩ n W
    rw [show ticksV { t with r := true } n = { t with r := true } by unfold ticksV stepsV; rw [if_pos (Or.inl he)]] at c
    replace he := hide he
    clear ht
    go_enter Try.func7, Try.ntmps7
    go_wp2_with fail
    have R := Rat.new w { t with r := true } 24
    have B := grow w (.cells (cellsT { t with r := true }) 24)
    generalize w.alloc (.cells (cellsT { t with r := true }) 24) = v1 at *
    have hS := load_on ⟨R.load, R, B⟩ (Nat.le_refl _) (Below.refl _ v1).drew
    clear R B
    have hq := fun W => eq_self { t with r := true } W
    generalize ({ t with r := true } : Tm) = q at *
    go_region_held3 (fun x => (loadCellsFrom ⟨w.heap.size, 0, none⟩ 0 N3 #[]).run Try.prog x = .ok (cellsT q) x ∧ Rat x w.heap.size q ∧ Below w.heap.size w x)
      (first | exact hS | assumption)
      (first
        | (go_at_call 13; refine (fixed_any _).mono ?_; rintro e w' ⟨rfl, hn⟩; have hR := load_on (by assumption) (Nat.le_refl _) hn; clear hn)
        | (go_at_call 16; refine (c.out _).mono ?_; rintro e w' ⟨rfl, hn⟩; have hR := load_on (by assumption) (Nat.le_refl _) hn; clear hn))
    all_goals
      go_wp2
      go_ret
      exact ⟨rfl, hR.2.2⟩
  · have hd : (t.e == 0) = false := by simpa using he
    have hm := fun w => run_max32 t.l w
    have f1 := far_first ht.e ht.l he
    have hL : W32 (if 1 ≤ t.l then t.l else 1) := by have := ht.l; unfold W32 at *; split <;> omega
    generalize (if 1 ≤ t.l then t.l else 1) = L at *
    have c1 := hide fun W => ticks_any (t := ⟨t.e, L, true⟩) ⟨ht.e, hL⟩ L W
    rw [f1] at c1
    have f2 := far_whole ht.e he k k1
    have f3 := far_ahead ht.e he k k1
    have c2 := hide fun m W => ticks_any (t := ⟨t.e, t.e, true⟩) ⟨ht.e, ht.e⟩ m W
    obtain ⟨L0, L1⟩ := hL
    obtain ⟨e0, e1⟩ := ht.e
    have hp : (k : Int) * t.e ≤ 255 * t.e := Int.mul_le_mul_of_nonneg_right (by omega) (by omega)
    have hp0 : 0 ≤ (k : Int) * t.e := Int.mul_nonneg (by omega) (by omega)
    have hw : IntKind.i64.wrap ((k : Int) * t.e) = (k : Int) * t.e := by rw [IntKind.wrap_i64]; omega
    obtain ⟨P, hP⟩ : ∃ P, (k : Int) * t.e = P := ⟨_, rfl⟩
    rw [hP] at f2 f3 hp hp0
    replace hw := hw.trans hP
    have hw1 : IntKind.i64.wrap (P - 1) = P - 1 := by rw [IntKind.wrap_i64]; omega
    have hv0 : IntKind.i64.wrap t.e = t.e := by rw [IntKind.wrap_i64]; omega
    replace hP := hide hP
    clear f1 ht
    generalize ticksV ⟨t.e, t.e, true⟩ = F at *
    have hq : ∀ W, (binOp .eql 24 (.agg (cellsT (F P))) (.agg (cellsT ⟨t.e, t.e, true⟩))).run Try.prog W = .ok (.bool true) W := fun W => by rw [f2]; exact eq_self _ W
    have hfd : ∀ (r : Tm) (W : World), (Instr.field 24 (.agg (cellsT r)) 1).run Try.prog W = .ok (.int .u32 r.l) W := fun r W => by kernel_rfl
    replace he := hide he
    replace f2 := hide f2
    go_enter Try.func7, Try.ntmps7
    go_wp2_with fail
    refine (c1.out _).mono ?_
    rintro e w1 ⟨rfl, b1⟩
    have g1 := grow w1 (.cells (cellsT ⟨t.e, t.e, true⟩) 24)
    have R := ((Rat.new w ⟨t.e, L, true⟩ 24).on b1).on g1
    have B := onto (onto (grow w (.cells (cellsT ⟨t.e, L, true⟩) 24)) (Nat.le_refl _) b1) (Nat.le_refl _) g1
    have U := Rat.new w1 ⟨t.e, t.e, true⟩ 24
    clear b1 g1 c1
    go_wp2_with fail
    generalize w1.alloc (.cells (cellsT ⟨t.e, t.e, true⟩) 24) = v1 at *
    generalize w1.heap.size = LU at *
    have hS := far_on ⟨R, U, B⟩ (Below.refl _ v1).drew
    clear R U B f2 hm
    by_cases hk : k = 0
    · have hk0 : ((k : Int) == 0) = true := by simp; omega
      clear f3 hP hk
      have y0 : Held w LU t.e L := ⟨v1.drew, hS.2.2.2⟩
      have hne : Nonempty (Held w LU t.e L) := ⟨y0⟩
      have y1 := fun y : Held w LU t.e L => y.load
      have y2 := fun y : Held w LU t.e L => y.left
      have y3 := fun y : Held w LU t.e L => y.every
      refine region_calm (fun x => ∃ y : Held w LU t.e L, x = y.x) (by kernel_rfl) (by kernel_rfl) ⟨⟨v1.drew, hS.2.2.2⟩, rfl⟩ ?_
      clear y0 hS
      repeat (go_big_quiet_step (first
        | (go_at_call 13; refine (fixed_any _).mono ?_; rintro e wf ⟨rfl, bf⟩; exact ⟨rfl, Held.on _ bf, rfl⟩)
        | (go_at_call 16; refine (c2.out _ _).mono ?_; rintro e wf ⟨rfl, bf⟩; exact ⟨rfl, Held.on _ bf, rfl⟩)))
      refine wpQuiet_nil ?_
      rintro _ ⟨y, rfl⟩
      go_wp2
      go_ret
      exact ⟨rfl, y.h.2.2⟩
    · have hk0 : ((k : Int) == 0) = false := by simp; omega
      have f4 := f3 hk
      clear f3 hP
      go_region_held3 (fun x => (loadCellsFrom ⟨LU, 0, none⟩ 0 N3 #[]).run Try.prog x = .ok (cellsT ⟨t.e, t.e, true⟩) x ∧ x.cell? ⟨LU, 1, none⟩ = some (.int .u32 t.e) ∧ x.cell? ⟨w.heap.size, 0, none⟩ = some (.int .u32 t.e) ∧
          (Rat x w.heap.size ⟨t.e, L, true⟩ ∧ Rat x LU ⟨t.e, t.e, true⟩ ∧ Below w.heap.size w x))
        (first | exact hS | assumption)
        (first
          | (go_at_call 13; refine (fixed_any _).mono ?_; rintro e w' ⟨rfl, hn⟩; have hR := far_on (And.right (And.right (And.right (by assumption)))) hn; clear hn)
          | (go_at_call 16; refine (c2.out _ _).mono ?_; rintro e w' ⟨rfl, hn⟩; have hR := far_on (And.right (And.right (And.right (by assumption)))) hn; clear hn))
      all_goals
        go_wp2
        go_ret
        exact ⟨rfl, hR.2.2.2.2.2⟩

end Go.Proofs.Ytbcebcapbhadpaa
