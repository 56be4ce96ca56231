/- Layer 19: the program's log: are cells whole, do places rise; a change's head. -/
import Derived.Test.YtgffhnggocbjhaaWpA
import Derived.Test.YtgffhnggocbjhaaWlRise
namespace Go.Proofs.Ytgffhnggocbjhaa
open Go.RowKit
set_option linter.unusedVariables false
set_option maxRecDepth 100000
set_option linter.unusedSimpArgs false

theorem all_take {α : Type} {f : α → Bool} : ∀ {c : List α} {k : Nat} {p : α}, c[k]? = some p → (c.take k).all f = true → f p = true → (c.take (k + 1)).all f = true := fun {c k p} h h1 h2 => by
  rw [List.take_add_one, h, List.all_append, h1]
  simp [h2]
theorem all_no {α : Type} {f : α → Bool} {c : List α} {k : Nat} {p : α} (h : c[k]? = some p) (h2 : f p = false) : c.all f = false := by
  cases e : c.all f with
  | false => rfl
  | true => rw [List.all_eq_true] at e; rw [e p (List.mem_of_getElem? h)] at h2; cases h2

set_option maxHeartbeats 1000000 in
theorem wwhole_any {w : World} {H : Nat → Prop} {v : Value} {c : Cl} (C : CW w H v c) :
    Calls Try.prog 39 #[v] w fun e w' => e = .returned (.bool (c.all fun p => decide (p.2.size = 64))) ∧ Below w.heap.size w w' := by
  obtain ⟨a, cap, rfl, hc, hm, hx⟩ := C
  obtain ⟨n, hnn⟩ : ∃ n, n = c.length := ⟨_, rfl⟩
  rw [← hnn] at hc hm ⊢
  replace hx := hide hx
  replace hnn := hide hnn
  obtain ⟨F, hF⟩ : ∃ F, Hid (F = fun p : Int × ByteArray => decide (p.2.size = 64)) := ⟨_, hide rfl⟩
  rw [← hF.out]
  go_enter Try.func39, Try.ntmps39
  go_wp2
  go_loopw [7] (fun i y => ∃ k : Nat, k ≤ n ∧ i = .int .i64 (k : Int) ∧ Hid ((c.take k).all F = true) ∧ Hid (Below w.heap.size w y)) (fun i _ => n - (intOf i).toNat)
  case atStart => exact ⟨0, Nat.zero_le _, rfl, hide rfl, hide (Below.refl _ _)⟩
  case round =>
    obtain ⟨k, hk, rfl, hall, hB⟩ := hrel
    by_cases h : k < n
    · obtain ⟨p, hp⟩ : ∃ p, c[k]? = some p := ⟨c[k]'(by have := hnn.out; omega), List.getElem?_eq_getElem _⟩
      obtain ⟨g, rfl, hg, -, q0, q1⟩ := hx.out k p hp
      have r0 : wr.cell? ⟨g, k * 2, none⟩ = some (.int .i64 p.1) := (hB.out.cell (p := ⟨g, k * 2, none⟩) hg).trans q0
      have r1 : wr.cell? ⟨g, k * 2 + 1, none⟩ = some (.string p.2) := (hB.out.cell (p := ⟨g, k * 2 + 1, none⟩) hg).trans q1
      have hB2 := hide (hB.out.alloc hB.out.size (.cells #[.int .i64 p.1, .string p.2] 80))
      by_cases hz : p.2.size = 64
      · have ha := hide (all_take hp hall.out (f := F) (by rw [hF.out]; exact decide_eq_true hz))
        obtain ⟨px, hpx⟩ : ∃ px, px = p.2 := ⟨_, rfl⟩
        obtain ⟨K, hK⟩ : ∃ K, K = p.1 := ⟨_, rfl⟩
        rw [← hpx] at r1 hz hB2
        rw [← hK] at r0 hB2
        have hz' : (px.size : Int) = 64 := by omega
        clear q0 q1 hp hpx hK hx hnn hz hF hall
        go_wp2
        go_roundw
        case rel => exact ⟨k + 1, by omega, by go_num, ha, hB2⟩
        case measure => simp [intOf]; omega
      · have ha := hide (all_no hp (f := F) (by rw [hF.out]; exact decide_eq_false hz))
        obtain ⟨px, hpx⟩ : ∃ px, px = p.2 := ⟨_, rfl⟩
        obtain ⟨K, hK⟩ : ∃ K, K = p.1 := ⟨_, rfl⟩
        rw [← hpx] at r1 hz hB2
        rw [← hK] at r0 hB2
        have hz' : ¬ (px.size : Int) = 64 := by omega
        clear q0 q1 hp hpx hK hx hnn hz hF hall
        go_wp2
        go_ret
        exact ⟨by rw [ha.out]; rfl, hB2.out⟩
    · obtain rfl : k = n := by omega
      have he : c.all F = true := by
        have := hall.out
        rwa [List.take_of_length_le (by rw [← hnn.out]; exact Nat.le_refl _)] at this
      go_wp2
      go_ret
      exact ⟨by rw [he]; rfl, hB.out⟩

/-- The last place ahead of the k-th. -/
def Last (ks : List Int) (k : Nat) (L : Int) : Prop := -1 ≤ L ∧ ((k = 0 ∧ L = -1) ∨ (0 < k ∧ ks[k - 1]? = some L ∧ 0 ≤ L))
theorem rise_next {own : Int} {ks : List Int} {k : Nat} {x L : Int} (h : ks[k]? = some x) (hr : riseK own ks k = true) (hL : Last ks k L) :
    riseK own ks (k + 1) = (decide (L < x) && decide (x < own)) := by
  obtain ⟨h1, ⟨rfl, rfl⟩ | ⟨h0, h2, h3⟩⟩ := hL
  · rw [riseK_at h 0 (.inl rfl), hr]
    by_cases e : 0 ≤ x
    · simp [e, show -1 < x by omega]
    · simp [e, show ¬ -1 < x by omega]
  · rw [riseK_at h L (.inr h2), hr]
    by_cases e : L < x
    · simp [e, show 0 ≤ x by omega]
    · simp [e, show ¬ k = 0 by omega]

set_option maxHeartbeats 1000000 in
theorem wrise_any {w : World} {H : Nat → Prop} {v : Value} {ks : List Int} (C : IW w H v ks) (O : Int) :
    Calls Try.prog 40 #[v, .int .i64 O] w fun e w' => e = .returned (.bool (riseK O ks ks.length)) ∧ Below w.heap.size w w' := by
  obtain ⟨a, cap, rfl, hc, hm, hx⟩ := C
  obtain ⟨n, hnn⟩ : ∃ n, n = ks.length := ⟨_, rfl⟩
  rw [← hnn] at hc hm ⊢
  replace hx := hide hx
  replace hnn := hide hnn
  have hstop := hide (fun k h => riseK_stop (own := O) (ks := ks) (k := k) h)
  go_enter Try.func40, Try.ntmps40
  go_wp2
  go_loopw [5, 10] (fun s i y => ∃ (k : Nat) (L : Int), k ≤ n ∧ i = .int .i64 (k : Int) ∧ s = .int .i64 L ∧ Hid (Last ks k L) ∧ Hid (riseK O ks k = true) ∧ Hid (Below w.heap.size w y)) (fun _ i _ => n - (intOf i).toNat)
  case atStart => exact ⟨0, -1, Nat.zero_le _, rfl, rfl, hide ⟨Int.le_refl _, .inl ⟨rfl, rfl⟩⟩, hide rfl, hide (Below.refl _ _)⟩
  case round =>
    obtain ⟨k, L, hk, rfl, rfl, hL, hr, hB⟩ := hrel
    by_cases h : k < n
    · obtain ⟨x, hp⟩ : ∃ p, ks[k]? = some p := ⟨ks[k]'(by have := hnn.out; omega), List.getElem?_eq_getElem _⟩
      obtain ⟨g, rfl, hg, -, q0⟩ := hx.out k x hp
      have r0 : wr.cell? ⟨g, k, none⟩ = some (.int .i64 x) := (hB.out.cell (p := ⟨g, k, none⟩) hg).trans q0
      have hnx := rise_next hp hr.out hL.out
      have bad : Hid (riseK O ks (k + 1) = false → riseK O ks n = false) := hide (fun hf => by
        have := hstop.out (k + 1) hf (n - (k + 1))
        rwa [show k + 1 + (n - (k + 1)) = n by omega] at this)
      have hL1 := hL.out.1
      by_cases h1 : x ≤ L
      · have hf : Hid (riseK O ks n = false) := hide <| bad.out (by rw [hnx, decide_eq_false (by omega)]; rfl)
        clear bad hnx hp hx hnn hL hr q0
        go_wp2
        go_ret
        exact ⟨by rw [hf.out]; rfl, hB.out⟩
      · by_cases h2 : O ≤ x
        · have hf : Hid (riseK O ks n = false) := hide <| bad.out (by rw [hnx, decide_eq_false (p := x < O) (by omega)]; simp)
          clear bad hnx hp hx hnn hL hr q0
          go_wp2
          go_ret
          exact ⟨by rw [hf.out]; rfl, hB.out⟩
        · have hn1 : Hid (riseK O ks (k + 1) = true) := hide (by rw [hnx, decide_eq_true (show L < x by omega), decide_eq_true (show x < O by omega)]; rfl)
          have hL2 : Hid (Last ks (k + 1) x) := hide ⟨by omega, .inr ⟨by omega, by simpa using hp, by omega⟩⟩
          clear bad hnx hp hx hnn hL hr q0
          go_wp2
          go_roundw
          case rel => exact ⟨k + 1, x, by omega, by go_num, rfl, hL2, hn1, hB⟩
          case measure => simp [intOf]; omega
    · obtain rfl : k = n := by omega
      go_wp2
      go_ret
      exact ⟨by rw [hr.out]; rfl, hB.out⟩

/-- A head, as the program tells it. -/
def headV (num : Nat) (v : Value) (t : Nat) : Value := .agg #[.int .i64 (num : Int), v, .int .u16 (t : Int)]

theorem IW.shape {w : World} {H : Nat → Prop} {v : Value} {ks : List Int} (h : IW w H v ks) : ∃ a cap, v = .slice a ks.length cap := by
  obtain ⟨a, cap, e, -⟩ := h
  exact ⟨a, cap, e⟩

theorem wheadOf_any (num : Nat) {w : World} {H : Nat → Prop} {v : Value} {c : Cl} (C : CW w H v c) (hs : ∀ p ∈ c, p.2.size ≤ 64) :
    Calls Try.prog 42 #[.int .i64 (num : Int), v] w fun e w' => ∃ v', e = .returned (headV num v' (sumC c)) ∧ IW w' (fun k => k < w.heap.size) v' (c.map (·.1)) ∧ Below w.heap.size w w' := by
  have g0 := grow w (.cells #[.int .i64 0, .slice none 0 0, .int .u16 0] 77)
  have C0 := C.on g0
  have B0 := Box.new w #[.int .i64 0, .slice none 0 0, .int .u16 0] 77
  have cp := wplaces_any C0
  have cs := fun (y : World) (h : Below (w.alloc (.cells #[.int .i64 0, .slice none 0 0, .int .u16 0] 77)).heap.size (w.alloc (.cells #[.int .i64 0, .slice none 0 0, .int .u16 0] 77)) y) => wsum_any (C0.on h) hs
  replace cp := hide cp
  replace cs := hide cs
  go_enter Try.func42, Try.ntmps42
  go_wp2_with fail
  have hz : w.heap.size < (w.alloc (.cells #[.int .i64 0, .slice none 0 0, .int .u16 0] 77)).heap.size := B0.2.2
  generalize w.alloc (.cells #[.int .i64 0, .slice none 0 0, .int .u16 0] 77) = x0 at *
  refine cp.out.mono ?_
  rintro e x1 ⟨v', rfl, I1, h1⟩
  obtain ⟨av, cv, hv⟩ := I1.shape
  rw [List.length_map] at hv
  subst hv
  have I1 := hide I1
  have B1 := B0.on h1
  have T1 := onto g0 (Nat.le_refl _) h1
  have c1 := cs.out x1 h1
  replace T1 := hide T1
  clear cp cs h1 B0 g0 C0 C
  go_wp2_with fail
  refine c1.mono ?_
  rintro e x2 ⟨rfl, h2⟩
  have I2 := hide (I1.out.on h2)
  have B2 := B1.on h2
  have T2 := onto T1.out (Nat.le_refl _) h2
  clear c1 h2 B1 T1 I1
  obtain ⟨S, hS⟩ : ∃ S, Hid (S = sumC c) := ⟨_, hide rfl⟩
  rw [← hS.out]
  generalize c.length = m at *
  have b0 := B2.cell 0
  have b1 := B2.cell 1
  have b2 := B2.cell 2
  have f0 := B2.free 0
  have f1 := B2.free 1
  have f2 := B2.free 2
  have B3 := ((B2.set 0 (.int .i64 (num : Int))).set 1 (.slice av m cv)).set 2 (.int .u16 (S : Int))
  have q0 := hide (B3.cell 0)
  have q1 := hide (B3.cell 1)
  have q2 := hide (B3.cell 2)
  have g4 := hide (((T2.setCell (p := ⟨w.heap.size, 0, none⟩) (Nat.le_refl _) (.int .i64 (num : Int))).setCell (p := ⟨w.heap.size, 1, none⟩) (Nat.le_refl _) (.slice av m cv)).setCell (p := ⟨w.heap.size, 2, none⟩) (Nat.le_refl _) (.int .u16 (S : Int)))
  have I3 := hide ((I2.out.turn (y := ((x2.setCell ⟨w.heap.size, 0, none⟩ (.int .i64 (num : Int))).setCell ⟨w.heap.size, 1, none⟩ (.slice av m cv)).setCell ⟨w.heap.size, 2, none⟩ (.int .u16 (S : Int))) ⟨rfl, rfl, rfl, by simp [World.setCell], fun k hk hn => by
    have hne : k ≠ w.heap.size := by omega
    exact (Below.heap_setCell _ ⟨w.heap.size, 2, none⟩ _ k hne).trans ((Below.heap_setCell _ ⟨w.heap.size, 1, none⟩ _ k hne).trans (Below.heap_setCell _ ⟨w.heap.size, 0, none⟩ _ k hne))⟩).less (G := fun k => k < w.heap.size) (fun k _ h => Nat.lt_trans h hz))
  clear I2 I1 T2
  go_wp2_with fail
  replace q0 := q0.out
  replace q1 := q1.out
  replace q2 := q2.out
  simp at q0 q1 q2
  exact bodyPost_ret (v := .agg #[.int .i64 (num : Int), .slice av m cv, .int .u16 (S : Int)]) (by simp [results, Try.f42, go_sem, q0, q1, q2]) rfl ⟨_, by rw [hS.out]; rfl, I3.out, g4.out⟩

theorem wside_any (num : Nat) (v : Value) (t : Nat) (w : World) :
    Calls Try.prog 43 #[headV num v t] w fun e w' => e = .returned (.int .i64 ((num % 2 : Nat) : Int)) ∧ Below w.heap.size w w' := by
  unfold headV
  go_enter Try.func43, Try.ntmps43
  go_wp2
  go_ret
  exact ⟨ret_int (by omega), grow _ _⟩

theorem wroomAt_any (num : Nat) (v : Value) (t : Nat) (w : World) :
    Calls Try.prog 73 #[headV num v t] w fun e w' => e = .returned (.int .i64 ((2 + 16 * (num % 2) : Nat) : Int)) ∧ Below w.heap.size w w' := by
  have cs := fun y => wside_any num v t y
  unfold headV at *
  replace cs := hide cs
  have g0 := grow w (.cells #[.int .i64 (num : Int), v, .int .u16 (t : Int)] 77)
  obtain ⟨r, hr⟩ : ∃ r, r = num % 2 := ⟨_, rfl⟩
  have h2 : r < 2 := by omega
  rw [← hr] at cs ⊢
  go_enter Try.func73, Try.ntmps73
  go_wp2_with fail
  refine (cs.out _).mono ?_
  rintro e y ⟨rfl, hy⟩
  have T := onto g0 (Nat.le_refl _) hy
  go_wp2
  go_ret
  exact ⟨ret_int (by omega), T⟩

end Go.Proofs.Ytgffhnggocbjhaa
