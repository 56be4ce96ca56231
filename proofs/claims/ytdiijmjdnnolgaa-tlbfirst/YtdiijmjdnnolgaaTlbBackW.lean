/- What is written is read, but for bits that mean nothing; other slots stay; an address keeps its place in its page; what may be written may be read, at the same place. -/
import Derived.Test.YtdiijmjdnnolgaaTlbMapsW
import Derived.BigQuiet
namespace Go.Proofs.Ytdiijmjdnnolgaa
open Go.RowKit
set_option linter.unusedVariables false

theorem below_drewN (w : World) (n : Nat) : Below w.heap.size w (w.drewN n) := ⟨rfl, rfl, rfl, Nat.le_refl _, fun _ _ => rfl⟩

theorem put_here (T : Nat → Int) (s : Nat) (h l : Int) : putT T s h l (s * 2) = h ∧ putT T s h l (s * 2 + 1) = l := by
  unfold putT
  exact ⟨if_pos rfl, by rw [if_neg (by omega), if_pos rfl]⟩

theorem put_there (T : Nat → Int) (s k : Nat) (h l : Int) (hk : k ≠ s) : putT T s h l (k * 2) = T (k * 2) ∧ putT T s h l (k * 2 + 1) = T (k * 2 + 1) := by
  unfold putT
  exact ⟨by rw [if_neg (by omega), if_neg (by omega)], by rw [if_neg (by omega), if_neg (by omega)]⟩

theorem lo_in (l : Int) (hl : 0 ≤ l ∧ l < 4294967296) : 0 ≤ loV l ∧ loV l < 4294967296 := by unfold loV; omega

theorem join_in {a b : Int} (ha : 0 ≤ a ∧ a < 4294967296) : 0 ≤ joinV a b ∧ joinV a b < 4294967296 := by unfold joinV; omega

theorem mapV_nat (T : Nat → Int) (a : Int) (wr : Bool) (i : Nat) : mapV T a wr (i : Int) = if T (i * 2 + 1) / 2 % 2 = 0 then (0, 2) else if wr = true ∧ T (i * 2 + 1) / 4 % 2 = 0 then (0, 3) else (joinV (T (i * 2 + 1)) a, 0) := by
  unfold mapV
  rw [if_neg (by omega)]
  rfl

/-- What Find and Map tell of the address of an entry that was written. -/
theorem back_maps (T : Nat → Int) (hT : Wd T) (s : Nat) (hs : s < 8) (h l : Int) (hh : 0 ≤ h ∧ h < 4294967296) (hl : 0 ≤ l ∧ l < 4294967296) : ∃ k p q u v : Int,
    (∀ w, Calls Try.prog 11 #[.agg (cellsT (putT T s h (loV l))), .int .u32 (joinV h l), .int .u32 (h % 256), .bool false] w fun e w' => e = .returned (.tuple #[.int .u32 p, .int .i64 q]) ∧ Below w.heap.size w w') ∧
    (∀ w, Calls Try.prog 11 #[.agg (cellsT (putT T s h (loV l))), .int .u32 (joinV h l), .int .u32 (h % 256), .bool true] w fun e w' => e = .returned (.tuple #[.int .u32 u, .int .i64 v]) ∧ Below w.heap.size w w') ∧
    (∀ w, Calls Try.prog 13 #[.agg (cellsT (putT T s h (loV l))), .int .u32 (joinV h l), .int .u32 (h % 256)] w fun e w' => e = .returned (.int .i64 k) ∧ Below w.heap.size w w') ∧
    0 ≤ k ∧ k ≤ s ∧ ((p = 0 ∧ q = 2 ∧ u = 0 ∧ v = 2) ∨ (q = 0 ∧ u = 0 ∧ v = 3 ∧ bits .and .u32 p 255 = l % 256) ∨ (q = 0 ∧ u = p ∧ v = 0 ∧ bits .and .u32 p 255 = l % 256)) := by
  have hU : Wd (putT T s h (loV l)) := hT.put s hh (lo_in l hl)
  have hj := join_in (b := l) hh
  have hm : 0 ≤ h % 256 ∧ h % 256 < 4294967296 := by omega
  obtain ⟨k, hk⟩ := find_ex (putT T s h (loV l)) (joinV h l) (h % 256)
  have hfit : fit (putT T s h (loV l)) (joinV h l) (h % 256) s := by
    unfold fit
    rw [(put_here T s h (loV l)).1]
    unfold joinV
    omega
  refine ⟨k, _, _, _, _, fun w => map_at hU hj.1 hj.2 hm.1 hm.2 hk false w, fun w => map_at hU hj.1 hj.2 hm.1 hm.2 hk true w, fun w => find_at hU hj.1 hj.2 hm.1 hm.2 hk w, ?_⟩
  rcases hk with ⟨e, n⟩ | ⟨i, hi, e, f, n⟩
  · exact absurd hfit (n s hs)
  · have hle : ¬ s < i := fun c => n s c hfit
    subst e
    refine ⟨by omega, by omega, ?_⟩
    have hw := hU (i * 2 + 1)
    rw [mapV_nat, mapV_nat]
    generalize putT T s h (loV l) (i * 2 + 1) = z at hw
    have hb : bits .and .u32 (joinV z (joinV h l)) 255 = l % 256 := by
      have := join_in (b := joinV h l) hw
      rw [and255 _ this.1 this.2]
      unfold joinV
      omega
    by_cases q1 : z / 2 % 2 = 0
    · left; simp [q1]
    · right
      by_cases q2 : z / 4 % 2 = 0
      · left; simp [q1, q2, hb]
      · right; simp [q1, q2, hb]

set_option maxHeartbeats 2000000 in
theorem back_out (w : World) (T : Nat → Int) (s : Int) (hs : ¬ (0 ≤ s ∧ s < 8)) (h l : Int) :
    Calls Try.prog 5 #[.agg (cellsT T), .int .i64 s, .agg #[.int .u32 h, .int .u32 l]] w fun e w' => e = .returned (.bool true) ∧ Below w.heap.size w w' := by
  obtain ⟨t1, t2, t3, t4, t5, t6, t7, t8, t9⟩ := tlbRules
  have hq := fun w => eqlTlb T0 T0 w
  rw [sameT_refl] at hq
  go_enter Try.func5, Try.ntmps5
  go_wp2_with fail
  have B := hide (onto (grow w (.cells (cellsT T) 26)) (Nat.le_refl _) (grow (w.alloc (.cells (cellsT T) 26)) (.cells #[.int .u32 h, .int .u32 l] 24)))
  refine (write_out T s hs h l _).mono ?_
  rintro e w1 ⟨rfl, b1⟩
  replace B := hide (onto (onto B.out (Nat.le_refl _) b1) (Nat.le_refl _) (grow w1 (.cells (cellsT T0) 26)))
  clear b1 hs
  go_wp2_with fail
  refine (fixed_any _).mono ?_
  rintro e w2 ⟨rfl, b2⟩
  replace B := hide (onto B.out (Nat.le_refl _) b2)
  clear b2
  go_wp2
  go_ret
  exact ⟨rfl, B.out⟩

set_option maxRecDepth 100000 in
set_option maxHeartbeats 4000000 in
theorem back_in (w : World) (T : Nat → Int) (hT : Wd T) (s : Nat) (hs : s < 8) (h l : Int) (hh : 0 ≤ h ∧ h < 4294967296) (hl : 0 ≤ l ∧ l < 4294967296) :
    Calls Try.prog 5 #[.agg (cellsT T), .int .i64 (s : Int), .agg #[.int .u32 h, .int .u32 l]] w fun e w' => e = .returned (.bool true) ∧ Below w.heap.size w w' := by
  obtain ⟨t1, t2, t3, t4, t5, t6, t7, t8, t9⟩ := tlbRules
  obtain ⟨k0, p, q, u, v, c1, c2, c3, k1, k2, hcase⟩ := back_maps T hT s hs h l hh hl
  have cw := hide fun w => write_in T s hs h l hl.1 hl.2 w
  have hp := hide (put_here T s h (loV l))
  have hq := hide fun k => put_there T s k h (loV l)
  have hc := hide hcase
  clear hcase
  replace c1 := hide c1
  replace c2 := hide c2
  replace c3 := hide c3
  generalize putT T s h (loV l) = U at *
  have cr := hide fun k hk w => read_in U k hk w
  have a1 : bits .and .u32 (loV l) 4294967047 = loV l := by rw [andHigh7 _ (lo_in l hl).1 (lo_in l hl).2]; unfold loV; omega
  have a2 : bits .and .u32 l 4294967047 = loV l := andHigh7 l hl.1 hl.2
  have a3 : bits .and .u32 (loV l) 248 = 0 := by rw [and248 _ (lo_in l hl).1 (lo_in l hl).2]; unfold loV; omega
  have a4 : bits .and .u32 h 4294967040 = h / 256 * 256 := andHigh h hh.1 hh.2
  have a5 : bits .and .u32 l 255 = l % 256 := and255 l hl.1 hl.2
  have a6 : bits .or .u32 (h / 256 * 256) (l % 256) = joinV h l := orLow h hh.1 hh.2 l
  have a7 : bits .and .u32 h 255 = h % 256 := and255 h hh.1 hh.2
  have a8 : bits .and .u32 (joinV h l) 255 = l % 256 := by rw [and255 _ (join_in hh).1 (join_in hh).2]; unfold joinV; omega
  replace a1 := hide a1
  replace a2 := hide a2
  replace a3 := hide a3
  generalize loV l = lo at *
  go_enter Try.func5, Try.ntmps5
  go_wp2_with fail
  have g1 := grow (w.alloc (.cells (cellsT T) 26)) (.cells #[.int .u32 h, .int .u32 l] 24)
  have B := hide (onto (grow w (.cells (cellsT T) 26)) (Nat.le_refl _) g1)
  have R := (Tat.new w T 26).on g1
  have E := Eat.new' (w.alloc (.cells (cellsT T) 26)) h l 24 (w.heap.size + 1) (by simp)
  refine (cw.out _).mono ?_
  rintro e w1 ⟨rfl, b1⟩
  have g2 := grow w1 (.cells (cellsT U) 26)
  replace B := hide (onto (onto B.out (Nat.le_refl _) b1) (Nat.le_refl _) g2)
  replace R := (R.on b1).on g2
  replace E := (E.on b1).on g2
  have A := Tat.new w1 U 26
  clear b1 cw g1 g2
  go_wp2_with fail
  generalize w1.alloc (.cells (cellsT U) 26) = v1 at *
  generalize w1.heap.size = LA at *
  go_loopw [9] (fun i wr => ∃ k : Nat, k ≤ 8 ∧ i = .int .i64 k ∧ Hid (Tat wr w.heap.size T ∧ Eat wr (w.heap.size + 1) h l ∧ Tat wr LA U ∧ Below w.heap.size w wr)) (fun i _ => 8 - (intOf i).toNat)
  case atStart => exact ⟨0, by omega, rfl, hide ⟨R, E, A, B.out⟩⟩
  case round =>
    clear R E A B
    obtain ⟨k, hk, rfl, hI⟩ := hrel
    obtain ⟨R, E, A, B⟩ := hI.out
    replace B := hide B
    by_cases hlt : k < 8
    · have h1 : (k : Int) < 8 := by omega
      have l1 := A.load
      go_wp2_with fail
      refine (cr.out k hlt _).mono ?_
      rintro e w2 ⟨rfl, b2⟩
      have g2 := grow w2 (.cells #[.int .u32 (U (k * 2)), .int .u32 (U (k * 2 + 1))] 24)
      replace B := hide (onto (onto B.out (Nat.le_refl _) b2) (Nat.le_refl _) g2)
      replace R := (R.on b2).on g2
      replace E := (E.on b2).on g2
      replace A := (A.on b2).on g2
      have X := Eat.new w2 (U (k * 2)) (U (k * 2 + 1)) 24
      clear b2 g2 l1 hI
      go_wp2_with fail
      generalize w2.alloc (.cells #[.int .u32 (U (k * 2)), .int .u32 (U (k * 2 + 1))] 24) = v2 at *
      generalize w2.heap.size = LX at *
      have x1 := X.1
      have x2 := X.2.1
      have e1 := E.1
      have e2 := E.2.1
      have r1 := R.cell (k * 2) (by omega)
      have r2 := R.cell (k * 2 + 1) (by omega)
      by_cases hks : k = s
      · subst hks
        rw [hp.out.1] at x1
        rw [hp.out.2] at x2
        have b1 := a1.out
        have b2 := a2.out
        have b3 := a3.out
        go_quiet (fail)
        have gq := below_drewN v2 nq
        have hI := hide (And.intro (R.on gq) (And.intro (E.on gq) (And.intro (A.on gq) (onto B.out (Nat.le_refl _) gq))))
        clear gq R E A B X x1 x2 e1 e2 r1 r2
        go_wp2
        go_roundw
        case rel => exact ⟨k + 1, by omega, by go_num, hI⟩
        case measure => simp [intOf]; omega
      · have n1 : ((k : Int) != (s : Int)) = true := by simp; omega
        have n2 : ((k : Int) == (s : Int)) = false := by simp; omega
        rw [(hq.out k hks).1] at x1
        rw [(hq.out k hks).2] at x2
        have hx := fun w => neqEntry (T (k * 2)) (T (k * 2 + 1)) (T (k * 2)) (T (k * 2 + 1)) w
        rw [show same2 (T (k * 2)) (T (k * 2 + 1)) (T (k * 2)) (T (k * 2 + 1)) = true from same2_iff.2 ⟨rfl, rfl⟩] at hx
        go_quiet (fail)
        have gq := below_drewN v2 nq
        have hI := hide (And.intro (R.on gq) (And.intro (E.on gq) (And.intro (A.on gq) (onto B.out (Nat.le_refl _) gq))))
        clear gq R E A B X x1 x2 e1 e2 r1 r2
        go_wp2
        go_roundw
        case rel => exact ⟨k + 1, by omega, by go_num, hI⟩
        case measure => simp [intOf]; omega
    · have hx : k = 8 := by omega
      subst hx
      have e1 := E.1
      have e2 := E.2.1
      clear R hI hp hq cr a1 a2 a3
      go_wp2_with fail
      go_quiet (fail)
      have gq := below_drewN wr nq
      replace A := A.on gq
      replace B := hide (onto B.out (Nat.le_refl _) gq)
      have l1 := A.load
      clear gq E e1 e2
      generalize wr.drewN nq = v3 at *
      go_wp2_with fail
      refine (c3.out _).mono ?_
      rintro e w4 ⟨rfl, b4⟩
      replace A := A.on b4
      replace B := hide (onto B.out (Nat.le_refl _) b4)
      replace l1 := A.load
      clear b4 v3
      go_wp2_with fail
      refine (c1.out _).mono ?_
      rintro e w5 ⟨rfl, b5⟩
      replace A := A.on b5
      replace B := hide (onto B.out (Nat.le_refl _) b5)
      replace l1 := A.load
      clear b5 w4
      go_wp2_with fail
      refine (c2.out _).mono ?_
      rintro e w6 ⟨rfl, b6⟩
      replace B := hide (onto B.out (Nat.le_refl _) b6)
      clear b6 w5 A l1 c1 c2 c3 a4 a5 a6 a7
      have d1 : decide (k0 < 0) = false := by simp; omega
      have d2 : decide ((s : Int) < k0) = false := by simp; omega
      rcases hc.out with ⟨rfl, rfl, rfl, rfl⟩ | ⟨rfl, rfl, rfl, ha⟩ | ⟨rfl, rfl, rfl, ha⟩
      all_goals
        clear hc
        go_wp2_with fail
        refine (fixed_any _).mono ?_
        rintro e w7 ⟨rfl, b7⟩
        replace B := hide (onto B.out (Nat.le_refl _) b7)
        clear b7
        go_wp2
        go_ret
        exact ⟨rfl, B.out⟩

theorem back_walk (w : World) (T : Nat → Int) (hT : Wd T) (s : Int) (ws : (Lit.int .i64 s).wf = true) (h l : Int) (hh : 0 ≤ h ∧ h < 4294967296) (hl : 0 ≤ l ∧ l < 4294967296) :
    Calls Try.prog 5 #[.agg (cellsT T), .int .i64 s, .agg #[.int .u32 h, .int .u32 l]] w fun e w' => e = .returned (.bool true) ∧ Below w.heap.size w w' := by
  by_cases hs : 0 ≤ s ∧ s < 8
  · obtain ⟨n, rfl⟩ : ∃ n : Nat, s = n := ⟨s.toNat, by omega⟩
    exact back_in w T hT n (by omega) h l hh hl
  · exact back_out w T s hs h l

end Go.Proofs.Ytdiijmjdnnolgaa
