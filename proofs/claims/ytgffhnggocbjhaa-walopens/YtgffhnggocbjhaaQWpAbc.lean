/- Layer 19: the program's log: rows of cells, rows of numbers; sums, places, are they whole, do they rise. -/
import Derived.Test.YtgffhnggocbjhaaQWlHead
import Derived.Test.YtgffhnggocbjhaaQWlRise
namespace Go.Proofs.Ytgffhnggocbjhaa
open Go.RowKit
set_option linter.unusedVariables false
set_option maxRecDepth 100000
set_option linter.unusedSimpArgs false

theorem nats_app (a b : ByteArray) : nats (a ++ b) = nats a ++ nats b := by
  unfold nats
  rw [ByteArray.data_append, Array.toList_append, List.map_append]

/-- The sum of the first k cells' bytes. -/
def sumK (c : Cl) (k : Nat) : Nat := Crc.on 65535 (nats (catT ((c.map (·.2)).take k)))
theorem sumK_lt (c : Cl) (k : Nat) : sumK c k < 65536 := Crc.on_lt (by decide) (nats_small _)
theorem sumK_next {c : Cl} {k : Nat} {p : Int × ByteArray} (h : c[k]? = some p) : sumK c (k + 1) = Crc.on (sumK c k) (nats p.2) := by
  unfold sumK
  rw [List.take_add_one, List.getElem?_map, h, catT_app, nats_app, Crc.on_append]
  simp [catT]
theorem sumK_all (c : Cl) : sumK c c.length = sumC c := by
  unfold sumK sumC catC
  rw [List.take_of_length_le (by simp)]

theorem catT_nil : nats (catT (List.take 0 ([] : List ByteArray))) = [] := rfl

set_option maxHeartbeats 1000000 in
theorem wsum_any {w : World} {H : Nat → Prop} {v : Value} {c : Cl} (C : CW w H v c) (hs : ∀ p ∈ c, p.2.size ≤ 64) :
    Calls Try.prog 70 #[v] w fun e w' => e = .returned (.int .u16 (sumC c : Int)) ∧ Below w.heap.size w w' := by
  obtain ⟨a, cap, rfl, hc, hm, hx⟩ := C
  obtain ⟨n, hnn⟩ : ∃ n, n = c.length := ⟨_, rfl⟩
  rw [← hnn] at hc hm ⊢
  replace hx := hide hx
  replace hs := hide hs
  replace hnn := hide hnn
  go_enter Try.func70, Try.ntmps70
  go_wp2_with (go_at_call 90; refine (sum_any _ (by decide) _).mono ?_; rintro e w' ⟨rfl, rfl⟩)
  go_loopw [3, 9] (fun s i y => ∃ k : Nat, k ≤ n ∧ i = .int .i64 (k : Int) ∧ s = .int .u16 (sumK c k : Int) ∧ Hid (Below w'.heap.size w' y)) (fun _ i _ => n - (intOf i).toNat)
  case atStart => exact ⟨0, Nat.zero_le _, rfl, rfl, hide (Below.refl _ _)⟩
  case round =>
    obtain ⟨k, hk, rfl, rfl, hB⟩ := hrel
    by_cases h : k < n
    · obtain ⟨p, hp⟩ : ∃ p, c[k]? = some p := ⟨c[k]'(by have := hnn.out; omega), List.getElem?_eq_getElem _⟩
      obtain ⟨g, rfl, hg, -, q0, q1⟩ := hx.out k p hp
      have r0 : wr.cell? ⟨g, k * 2, none⟩ = some (.int .i64 p.1) := (hB.out.cell (p := ⟨g, k * 2, none⟩) hg).trans q0
      have r1 : wr.cell? ⟨g, k * 2 + 1, none⟩ = some (.string p.2) := (hB.out.cell (p := ⟨g, k * 2 + 1, none⟩) hg).trans q1
      have hz := hs.out p (List.mem_of_getElem? hp)
      have hn := sumK_next hp
      obtain ⟨px, hpx⟩ : ∃ px, px = p.2 := ⟨_, rfl⟩
      obtain ⟨K, hK⟩ : ∃ K, K = p.1 := ⟨_, rfl⟩
      have hlt := sumK_lt c k
      rw [← hpx] at r1 hz hn
      rw [← hK] at r0
      replace hn := hide hn
      generalize sumK c k = S at *
      have cs := fun y => on_any S px hlt (by unfold maxLen; omega) y
      have hB2 := hide (hB.out.alloc hB.out.size (.cells #[.int .i64 K, .string px] 80))
      clear q0 q1 hp hpx hK hx hs hnn
      go_wp2_with fail
      refine (cs _).mono ?_
      rintro e y2 ⟨rfl, hy2⟩
      subst hy2
      go_wp2
      go_roundw
      case rel => exact ⟨k + 1, by omega, by go_num, by rw [hn.out], hB2⟩
      case measure => simp [intOf]; omega
    · obtain rfl : k = n := by omega
      have he : sumK c k = sumC c := by rw [hnn.out, sumK_all]
      go_wp2
      go_ret
      exact ⟨by rw [he]; rfl, hB.out⟩

/-- v is a slice of numbers, none of which lies in blocks of H. -/
def IW (w : World) (H : Nat → Prop) (v : Value) (ks : List Int) : Prop :=
  ∃ a cap, v = .slice a ks.length cap ∧ ks.length ≤ cap ∧ ks.length ≤ 1000000 ∧ ∀ (k : Nat) x, ks[k]? = some x → ∃ g, a = some ⟨g, 0, none⟩ ∧ g < w.heap.size ∧ ¬ H g ∧ w.cell? ⟨g, k, none⟩ = some (.int .i64 x)
theorem IW.turn {w y : World} {H : Nat → Prop} {v : Value} {ks : List Int} (h : IW w H v ks) (T : Turn H w y) : IW y H v ks := by
  obtain ⟨a, cap, e, h1, h2, hx⟩ := h
  refine ⟨a, cap, e, h1, h2, fun k p hp => ?_⟩
  obtain ⟨g, e, hg, hH, q0⟩ := hx k p hp
  exact ⟨g, e, Nat.lt_of_lt_of_le hg T.size, hH, by rw [World.cell?_of_block (a := ⟨g, k, none⟩) (T.block g hg hH)]; exact q0⟩
theorem IW.on {w y : World} {H : Nat → Prop} {v : Value} {ks : List Int} (h : IW w H v ks) (hb : Below w.heap.size w y) : IW y H v ks := h.turn (Turn.of hb)
theorem IW.less {w : World} {H G : Nat → Prop} {v : Value} {ks : List Int} (h : IW w H v ks) (hG : ∀ k, k < w.heap.size → G k → H k) : IW w G v ks := by
  obtain ⟨a, cap, e, h1, h2, hx⟩ := h
  refine ⟨a, cap, e, h1, h2, fun k p hp => ?_⟩
  obtain ⟨g, e, hg, hH, q⟩ := hx k p hp
  exact ⟨g, e, hg, fun hh => hH (hG g hg hh), q⟩

/-- A row of n numbers in block B: cell j holds f j, and may be written. -/
structure NumIs (w : World) (B n : Nat) (f : Nat → Int) : Prop where
  lt : B < w.heap.size
  cell : ∀ j, j < n → w.cell? ⟨B, j, none⟩ = some (.int .i64 (f j))
  free : ∀ j, j < n → w.frozen? ⟨B, j, none⟩ = false

theorem NumIs.set {w : World} {B n : Nat} {f : Nat → Int} (h : NumIs w B n f) {k : Nat} (hk : k < n) (v : Int) :
    NumIs (w.setCell ⟨B, k, none⟩ (.int .i64 v)) B n (fun j => if j = k then v else f j) := by
  refine ⟨by rw [World.size_setCell]; exact h.lt, fun j hj => ?_, fun j hj => by rw [World.frozen?_setCell]; exact h.free j hj⟩
  by_cases e : j = k
  · subst e
    rw [World.cell?_setCell_same w _ _ (h.cell j hj), if_pos rfl]
  · rw [World.cell?_setCell_other w _ _ _ (by intro c; injection c with _ c2; omega), if_neg e]
    exact h.cell j hj
theorem NumIs.congr {w : World} {B n : Nat} {f g : Nat → Int} (h : NumIs w B n f) (e : ∀ j, j < n → f j = g j) : NumIs w B n g :=
  ⟨h.lt, fun j hj => by rw [← e j hj]; exact h.cell j hj, h.free⟩
theorem NumIs.on {w y : World} {B n : Nat} {f : Nat → Int} (h : NumIs w B n f) (hb : Below w.heap.size w y) : NumIs y B n f := by
  have e := hb.block B h.lt
  refine ⟨Nat.lt_of_lt_of_le h.lt hb.size, fun j hj => by rw [World.cell?_of_block (a := ⟨B, j, none⟩) e]; exact h.cell j hj, fun j hj => ?_⟩
  have := h.free j hj
  unfold World.frozen? at this ⊢
  rw [e]
  exact this
theorem NumIs.row {w : World} {B : Nat} {ks : List Int} (h : NumIs w B ks.length (fun j => ks.getD j 0)) (hm : ks.length ≤ 1000000) (H : Nat → Prop) (hH : ¬ H B) (cap : Nat) (hc : ks.length ≤ cap) :
    IW w H (.slice (some ⟨B, 0, none⟩) ks.length cap) ks := by
  refine ⟨_, cap, rfl, hc, hm, fun k x hx => ⟨B, rfl, h.lt, hH, ?_⟩⟩
  have hk : k < ks.length := by
    rcases Nat.lt_or_ge k ks.length with h' | h'
    · exact h'
    · rw [List.getElem?_eq_none h'] at hx; cases hx
  rw [h.cell k hk, getD_some hx]

theorem make_nums (w : World) (n : Nat) (h : n ≤ 1000000) : (Instr.makeSlice 29 (.int .i64 (n : Int)) (.int .i64 (n : Int))).run Try.prog w
    = .ok (.slice (some ⟨w.heap.size, 0, none⟩) n n) (w.alloc (.cells (madeCells #[.int .i64 0] n) 3)) := by
  have hi0 : (Try.prog.info? 3).map (fun i => (i.zero, i.size, i.bytes)) = some (some (.int .i64 0), 1, 8) := by kernel_rfl
  obtain ⟨i0, hi, hz0, hz1, hz2⟩ := info_parts hi0
  have := run_make (P := Try.prog) w 29 3 i0 (.int .i64 0) Try.underlying29 hi hz0 .i64 .i64 (n : Int) (n : Int) (by omega) (by omega) (by rw [hz2]; omega) (by omega)
  rw [hz1, Int.toNat_natCast, Nat.mul_one] at this
  exact this
theorem made_nums (w : World) (n : Nat) : NumIs (w.alloc (.cells (madeCells #[.int .i64 0] n) 3)) w.heap.size n (fun _ => 0) := by
  refine ⟨by simp, fun j hj => ?_, fun j hj => by rw [World.frozen?_alloc_new]⟩
  rw [World.cell?_alloc_new, made_flat hj]

set_option maxHeartbeats 1000000 in
theorem wplaces_any {w : World} {H : Nat → Prop} {v : Value} {c : Cl} (C : CW w H v c) :
    Calls Try.prog 41 #[v] w fun e w' => ∃ v', e = .returned v' ∧ IW w' (fun k => k < w.heap.size) v' (c.map (·.1)) ∧ Below w.heap.size w w' := by
  obtain ⟨a, cap, rfl, hc, hm, hx⟩ := C
  obtain ⟨n, hnn⟩ : ∃ n, n = c.length := ⟨_, rfl⟩
  rw [← hnn] at hc hm ⊢
  replace hx := hide hx
  replace hnn := hide hnn
  obtain ⟨ks, hks⟩ : ∃ ks, Hid (ks = c.map (·.1)) := ⟨_, hide rfl⟩
  rw [← hks.out]
  have hkl : Hid (ks.length = n) := hide (by rw [hks.out, List.length_map, hnn.out])
  have mk := make_nums w n hm
  have M0 := made_nums w n
  have g0 := grow w (.cells (madeCells #[.int .i64 0] n) 3)
  go_enter Try.func41, Try.ntmps41
  go_wp2_with fail
  generalize w.alloc (.cells (madeCells #[.int .i64 0] n) 3) = x0 at *
  obtain ⟨B, hBB⟩ : ∃ B, B = w.heap.size := ⟨_, rfl⟩
  rw [← hBB] at M0 mk ⊢
  replace M0 := hide M0
  replace g0 := hide g0
  replace hBB := hide hBB
  clear mk
  go_wp2_with fail
  go_loopw [11] (fun i y => ∃ k : Nat, k ≤ n ∧ i = .int .i64 (k : Int) ∧ Hid (NumIs y B n (fun j => if j < k then ks.getD j 0 else 0)) ∧ Hid (Below B w y)) (fun i _ => n - (intOf i).toNat)
  case atStart => exact ⟨0, Nat.zero_le _, rfl, hide (M0.out.congr fun j _ => by simp), hide (hBB.out ▸ g0.out)⟩
  case round =>
    clear M0 g0
    obtain ⟨k, hk, rfl, hM, hB⟩ := hrel
    by_cases h : k < n
    · obtain ⟨p, hp⟩ : ∃ p, c[k]? = some p := ⟨c[k]'(by have := hnn.out; omega), List.getElem?_eq_getElem _⟩
      obtain ⟨g, rfl, hg, -, q0, q1⟩ := hx.out k p hp
      rw [← hBB.out] at hg
      have r0 : wr.cell? ⟨g, k * 2, none⟩ = some (.int .i64 p.1) := (hB.out.cell (p := ⟨g, k * 2, none⟩) hg).trans q0
      have r1 : wr.cell? ⟨g, k * 2 + 1, none⟩ = some (.string p.2) := (hB.out.cell (p := ⟨g, k * 2 + 1, none⟩) hg).trans q1
      obtain ⟨px, hpx⟩ : ∃ px, px = p.2 := ⟨_, rfl⟩
      obtain ⟨K, hK⟩ : ∃ K, K = p.1 := ⟨_, rfl⟩
      rw [← hpx] at r1
      rw [← hK] at r0
      have hkx : Hid (ks.getD k 0 = K) := hide (by rw [hks.out, getD_some (x := p.1) (by rw [List.getElem?_map, hp]; rfl), hK])
      have hlt := hM.out.lt
      have g1 := grow wr (.cells #[.int .i64 K, .string px] 80)
      have M1 := hM.out.on g1
      have m0 := M1.cell k h
      have m1 := M1.free k h
      have hB2 := hide ((hB.out.setCell (show B ≤ (⟨B, k, none⟩ : Addr).block from Nat.le_refl _) (.int .i64 K)).alloc (by rw [World.size_setCell]; exact Nat.le_of_lt hlt) (.cells #[.int .i64 K, .string px] 80))
      have M2 := hide ((hM.out.set h K).on (grow _ (.cells #[.int .i64 K, .string px] 80)))
      clear q0 q1 hp hpx hK hx hnn M1 hM g1
      go_wp2_with fail
      go_wp2
      go_roundw
      case rel => exact ⟨k + 1, by omega, by go_num, hide (M2.out.congr fun j _ => by
        by_cases e : j = k
        · subst e; rw [if_pos rfl, if_pos (by omega), hkx.out]
        · rw [if_neg e]
          by_cases e2 : j < k
          · rw [if_pos e2, if_pos (by omega)]
          · rw [if_neg e2, if_neg (by omega)]), hB2⟩
      case measure => simp [intOf]; omega
    · obtain rfl : k = n := by omega
      go_wp2
      go_ret
      have M2 := hM.out.congr (g := fun j => ks.getD j 0) (fun j hj => by rw [if_pos hj])
      rw [← hkl.out] at M2 hm ⊢
      exact ⟨_, rfl, M2.row hm _ (by rw [hBB.out]; omega) _ (Nat.le_refl _), hBB.out ▸ hB.out⟩

end Go.Proofs.Ytgffhnggocbjhaa

/- Layer 19: the program's log: are cells whole, do places rise; a change's head. -/
namespace Go.Proofs.Ytgffhnggocbjhaa
open Go.RowKit
set_option linter.unusedVariables false
set_option maxRecDepth 100000
set_option linter.unusedSimpArgs false

theorem all_take {α : Type} {f : α → Bool} : ∀ {c : List α} {k : Nat} {p : α}, c[k]? = some p → (c.take k).all f = true → f p = true → (c.take (k + 1)).all f = true := fun {c k p} h h1 h2 => by
  rw [List.take_add_one, h, List.all_append, h1]
  simp [h2]
theorem all_no {α : Type} {f : α → Bool} {c : List α} {k : Nat} {p : α} (h : c[k]? = some p) (h2 : f p = false) : c.all f = false := by
  cases e : c.all f with
  | false => rfl
  | true => rw [List.all_eq_true] at e; rw [e p (List.mem_of_getElem? h)] at h2; cases h2

set_option maxHeartbeats 1000000 in
theorem wwhole_any {w : World} {H : Nat → Prop} {v : Value} {c : Cl} (C : CW w H v c) :
    Calls Try.prog 39 #[v] w fun e w' => e = .returned (.bool (c.all fun p => decide (p.2.size = 64))) ∧ Below w.heap.size w w' := by
  obtain ⟨a, cap, rfl, hc, hm, hx⟩ := C
  obtain ⟨n, hnn⟩ : ∃ n, n = c.length := ⟨_, rfl⟩
  rw [← hnn] at hc hm ⊢
  replace hx := hide hx
  replace hnn := hide hnn
  obtain ⟨F, hF⟩ : ∃ F, Hid (F = fun p : Int × ByteArray => decide (p.2.size = 64)) := ⟨_, hide rfl⟩
  rw [← hF.out]
  go_enter Try.func39, Try.ntmps39
  go_wp2
  go_loopw [7] (fun i y => ∃ k : Nat, k ≤ n ∧ i = .int .i64 (k : Int) ∧ Hid ((c.take k).all F = true) ∧ Hid (Below w.heap.size w y)) (fun i _ => n - (intOf i).toNat)
  case atStart => exact ⟨0, Nat.zero_le _, rfl, hide rfl, hide (Below.refl _ _)⟩
  case round =>
    obtain ⟨k, hk, rfl, hall, hB⟩ := hrel
    by_cases h : k < n
    · obtain ⟨p, hp⟩ : ∃ p, c[k]? = some p := ⟨c[k]'(by have := hnn.out; omega), List.getElem?_eq_getElem _⟩
      obtain ⟨g, rfl, hg, -, q0, q1⟩ := hx.out k p hp
      have r0 : wr.cell? ⟨g, k * 2, none⟩ = some (.int .i64 p.1) := (hB.out.cell (p := ⟨g, k * 2, none⟩) hg).trans q0
      have r1 : wr.cell? ⟨g, k * 2 + 1, none⟩ = some (.string p.2) := (hB.out.cell (p := ⟨g, k * 2 + 1, none⟩) hg).trans q1
      have hB2 := hide (hB.out.alloc hB.out.size (.cells #[.int .i64 p.1, .string p.2] 80))
      by_cases hz : p.2.size = 64
      · have ha := hide (all_take hp hall.out (f := F) (by rw [hF.out]; exact decide_eq_true hz))
        obtain ⟨px, hpx⟩ : ∃ px, px = p.2 := ⟨_, rfl⟩
        obtain ⟨K, hK⟩ : ∃ K, K = p.1 := ⟨_, rfl⟩
        rw [← hpx] at r1 hz hB2
        rw [← hK] at r0 hB2
        have hz' : (px.size : Int) = 64 := by omega
        clear q0 q1 hp hpx hK hx hnn hz hF hall
        go_wp2
        go_roundw
        case rel => exact ⟨k + 1, by omega, by go_num, ha, hB2⟩
        case measure => simp [intOf]; omega
      · have ha := hide (all_no hp (f := F) (by rw [hF.out]; exact decide_eq_false hz))
        obtain ⟨px, hpx⟩ : ∃ px, px = p.2 := ⟨_, rfl⟩
        obtain ⟨K, hK⟩ : ∃ K, K = p.1 := ⟨_, rfl⟩
        rw [← hpx] at r1 hz hB2
        rw [← hK] at r0 hB2
        have hz' : ¬ (px.size : Int) = 64 := by omega
        clear q0 q1 hp hpx hK hx hnn hz hF hall
        go_wp2
        go_ret
        exact ⟨by rw [ha.out]; rfl, hB2.out⟩
    · obtain rfl : k = n := by omega
      have he : c.all F = true := by
        have := hall.out
        rwa [List.take_of_length_le (by rw [← hnn.out]; exact Nat.le_refl _)] at this
      go_wp2
      go_ret
      exact ⟨by rw [he]; rfl, hB.out⟩

/-- The last place ahead of the k-th. -/
def Last (ks : List Int) (k : Nat) (L : Int) : Prop := -1 ≤ L ∧ ((k = 0 ∧ L = -1) ∨ (0 < k ∧ ks[k - 1]? = some L ∧ 0 ≤ L))
theorem rise_next {own : Int} {ks : List Int} {k : Nat} {x L : Int} (h : ks[k]? = some x) (hr : riseK own ks k = true) (hL : Last ks k L) :
    riseK own ks (k + 1) = (decide (L < x) && decide (x < own)) := by
  obtain ⟨h1, ⟨rfl, rfl⟩ | ⟨h0, h2, h3⟩⟩ := hL
  · rw [riseK_at h 0 (.inl rfl), hr]
    by_cases e : 0 ≤ x
    · simp [e, show -1 < x by omega]
    · simp [e, show ¬ -1 < x by omega]
  · rw [riseK_at h L (.inr h2), hr]
    by_cases e : L < x
    · simp [e, show 0 ≤ x by omega]
    · simp [e, show ¬ k = 0 by omega]

set_option maxHeartbeats 1000000 in
theorem wrise_any {w : World} {H : Nat → Prop} {v : Value} {ks : List Int} (C : IW w H v ks) (O : Int) :
    Calls Try.prog 40 #[v, .int .i64 O] w fun e w' => e = .returned (.bool (riseK O ks ks.length)) ∧ Below w.heap.size w w' := by
  obtain ⟨a, cap, rfl, hc, hm, hx⟩ := C
  obtain ⟨n, hnn⟩ : ∃ n, n = ks.length := ⟨_, rfl⟩
  rw [← hnn] at hc hm ⊢
  replace hx := hide hx
  replace hnn := hide hnn
  have hstop := hide (fun k h => riseK_stop (own := O) (ks := ks) (k := k) h)
  go_enter Try.func40, Try.ntmps40
  go_wp2
  go_loopw [5, 10] (fun s i y => ∃ (k : Nat) (L : Int), k ≤ n ∧ i = .int .i64 (k : Int) ∧ s = .int .i64 L ∧ Hid (Last ks k L) ∧ Hid (riseK O ks k = true) ∧ Hid (Below w.heap.size w y)) (fun _ i _ => n - (intOf i).toNat)
  case atStart => exact ⟨0, -1, Nat.zero_le _, rfl, rfl, hide ⟨Int.le_refl _, .inl ⟨rfl, rfl⟩⟩, hide rfl, hide (Below.refl _ _)⟩
  case round =>
    obtain ⟨k, L, hk, rfl, rfl, hL, hr, hB⟩ := hrel
    by_cases h : k < n
    · obtain ⟨x, hp⟩ : ∃ p, ks[k]? = some p := ⟨ks[k]'(by have := hnn.out; omega), List.getElem?_eq_getElem _⟩
      obtain ⟨g, rfl, hg, -, q0⟩ := hx.out k x hp
      have r0 : wr.cell? ⟨g, k, none⟩ = some (.int .i64 x) := (hB.out.cell (p := ⟨g, k, none⟩) hg).trans q0
      have hnx := rise_next hp hr.out hL.out
      have bad : Hid (riseK O ks (k + 1) = false → riseK O ks n = false) := hide (fun hf => by
        have := hstop.out (k + 1) hf (n - (k + 1))
        rwa [show k + 1 + (n - (k + 1)) = n by omega] at this)
      have hL1 := hL.out.1
      by_cases h1 : x ≤ L
      · have hf : Hid (riseK O ks n = false) := hide <| bad.out (by rw [hnx, decide_eq_false (by omega)]; rfl)
        clear bad hnx hp hx hnn hL hr q0
        go_wp2
        go_ret
        exact ⟨by rw [hf.out]; rfl, hB.out⟩
      · by_cases h2 : O ≤ x
        · have hf : Hid (riseK O ks n = false) := hide <| bad.out (by rw [hnx, decide_eq_false (p := x < O) (by omega)]; simp)
          clear bad hnx hp hx hnn hL hr q0
          go_wp2
          go_ret
          exact ⟨by rw [hf.out]; rfl, hB.out⟩
        · have hn1 : Hid (riseK O ks (k + 1) = true) := hide (by rw [hnx, decide_eq_true (show L < x by omega), decide_eq_true (show x < O by omega)]; rfl)
          have hL2 : Hid (Last ks (k + 1) x) := hide ⟨by omega, .inr ⟨by omega, by simpa using hp, by omega⟩⟩
          clear bad hnx hp hx hnn hL hr q0
          go_wp2
          go_roundw
          case rel => exact ⟨k + 1, x, by omega, by go_num, rfl, hL2, hn1, hB⟩
          case measure => simp [intOf]; omega
    · obtain rfl : k = n := by omega
      go_wp2
      go_ret
      exact ⟨by rw [hr.out]; rfl, hB.out⟩

/-- A head, as the program tells it. -/
def headV (num : Nat) (v : Value) (t : Nat) : Value := .agg #[.int .i64 (num : Int), v, .int .u16 (t : Int)]

theorem IW.shape {w : World} {H : Nat → Prop} {v : Value} {ks : List Int} (h : IW w H v ks) : ∃ a cap, v = .slice a ks.length cap := by
  obtain ⟨a, cap, e, -⟩ := h
  exact ⟨a, cap, e⟩

theorem wheadOf_any (num : Nat) {w : World} {H : Nat → Prop} {v : Value} {c : Cl} (C : CW w H v c) (hs : ∀ p ∈ c, p.2.size ≤ 64) :
    Calls Try.prog 42 #[.int .i64 (num : Int), v] w fun e w' => ∃ v', e = .returned (headV num v' (sumC c)) ∧ IW w' (fun k => k < w.heap.size) v' (c.map (·.1)) ∧ Below w.heap.size w w' := by
  have g0 := grow w (.cells #[.int .i64 0, .slice none 0 0, .int .u16 0] 77)
  have C0 := C.on g0
  have B0 := Box.new w #[.int .i64 0, .slice none 0 0, .int .u16 0] 77
  have cp := wplaces_any C0
  have cs := fun (y : World) (h : Below (w.alloc (.cells #[.int .i64 0, .slice none 0 0, .int .u16 0] 77)).heap.size (w.alloc (.cells #[.int .i64 0, .slice none 0 0, .int .u16 0] 77)) y) => wsum_any (C0.on h) hs
  replace cp := hide cp
  replace cs := hide cs
  go_enter Try.func42, Try.ntmps42
  go_wp2_with fail
  have hz : w.heap.size < (w.alloc (.cells #[.int .i64 0, .slice none 0 0, .int .u16 0] 77)).heap.size := B0.2.2
  generalize w.alloc (.cells #[.int .i64 0, .slice none 0 0, .int .u16 0] 77) = x0 at *
  refine cp.out.mono ?_
  rintro e x1 ⟨v', rfl, I1, h1⟩
  obtain ⟨av, cv, hv⟩ := I1.shape
  rw [List.length_map] at hv
  subst hv
  have I1 := hide I1
  have B1 := B0.on h1
  have T1 := onto g0 (Nat.le_refl _) h1
  have c1 := cs.out x1 h1
  replace T1 := hide T1
  clear cp cs h1 B0 g0 C0 C
  go_wp2_with fail
  refine c1.mono ?_
  rintro e x2 ⟨rfl, h2⟩
  have I2 := hide (I1.out.on h2)
  have B2 := B1.on h2
  have T2 := onto T1.out (Nat.le_refl _) h2
  clear c1 h2 B1 T1 I1
  obtain ⟨S, hS⟩ : ∃ S, Hid (S = sumC c) := ⟨_, hide rfl⟩
  rw [← hS.out]
  generalize c.length = m at *
  have b0 := B2.cell 0
  have b1 := B2.cell 1
  have b2 := B2.cell 2
  have f0 := B2.free 0
  have f1 := B2.free 1
  have f2 := B2.free 2
  have B3 := ((B2.set 0 (.int .i64 (num : Int))).set 1 (.slice av m cv)).set 2 (.int .u16 (S : Int))
  have q0 := hide (B3.cell 0)
  have q1 := hide (B3.cell 1)
  have q2 := hide (B3.cell 2)
  have g4 := hide (((T2.setCell (p := ⟨w.heap.size, 0, none⟩) (Nat.le_refl _) (.int .i64 (num : Int))).setCell (p := ⟨w.heap.size, 1, none⟩) (Nat.le_refl _) (.slice av m cv)).setCell (p := ⟨w.heap.size, 2, none⟩) (Nat.le_refl _) (.int .u16 (S : Int)))
  have I3 := hide ((I2.out.turn (y := ((x2.setCell ⟨w.heap.size, 0, none⟩ (.int .i64 (num : Int))).setCell ⟨w.heap.size, 1, none⟩ (.slice av m cv)).setCell ⟨w.heap.size, 2, none⟩ (.int .u16 (S : Int))) ⟨rfl, rfl, rfl, by simp [World.setCell], fun k hk hn => by
    have hne : k ≠ w.heap.size := by omega
    exact (Below.heap_setCell _ ⟨w.heap.size, 2, none⟩ _ k hne).trans ((Below.heap_setCell _ ⟨w.heap.size, 1, none⟩ _ k hne).trans (Below.heap_setCell _ ⟨w.heap.size, 0, none⟩ _ k hne))⟩).less (G := fun k => k < w.heap.size) (fun k _ h => Nat.lt_trans h hz))
  clear I2 I1 T2
  go_wp2_with fail
  replace q0 := q0.out
  replace q1 := q1.out
  replace q2 := q2.out
  simp at q0 q1 q2
  exact bodyPost_ret (v := .agg #[.int .i64 (num : Int), .slice av m cv, .int .u16 (S : Int)]) (by simp [results, Try.f42, go_sem, q0, q1, q2]) rfl ⟨_, by rw [hS.out]; rfl, I3.out, g4.out⟩

theorem wside_any (num : Nat) (v : Value) (t : Nat) (w : World) :
    Calls Try.prog 43 #[headV num v t] w fun e w' => e = .returned (.int .i64 ((num % 2 : Nat) : Int)) ∧ Below w.heap.size w w' := by
  unfold headV
  go_enter Try.func43, Try.ntmps43
  go_wp2
  go_ret
  exact ⟨ret_int (by omega), grow _ _⟩

theorem wroomAt_any (num : Nat) (v : Value) (t : Nat) (w : World) :
    Calls Try.prog 73 #[headV num v t] w fun e w' => e = .returned (.int .i64 ((2 + 16 * (num % 2) : Nat) : Int)) ∧ Below w.heap.size w w' := by
  have cs := fun y => wside_any num v t y
  unfold headV at *
  replace cs := hide cs
  have g0 := grow w (.cells #[.int .i64 (num : Int), v, .int .u16 (t : Int)] 77)
  obtain ⟨r, hr⟩ : ∃ r, r = num % 2 := ⟨_, rfl⟩
  have h2 : r < 2 := by omega
  rw [← hr] at cs ⊢
  go_enter Try.func73, Try.ntmps73
  go_wp2_with fail
  refine (cs.out _).mono ?_
  rintro e y ⟨rfl, hy⟩
  have T := onto g0 (Nat.le_refl _) hy
  go_wp2
  go_ret
  exact ⟨ret_int (by omega), T⟩

end Go.Proofs.Ytgffhnggocbjhaa

/- Layer 19: the program's log: cells in a room, in their places. -/
namespace Go.Proofs.Ytgffhnggocbjhaa
open Go.RowKit
set_option linter.unusedVariables false
set_option maxRecDepth 100000
set_option linter.unusedSimpArgs false

/-- A row of n cells in block B, which may be written. -/
structure CellsIs (w : World) (B n : Nat) (f : Nat → Int × ByteArray) : Prop where
  lt : B < w.heap.size
  n0 : ∀ j, j < n → w.cell? ⟨B, j * 2, none⟩ = some (.int .i64 (f j).1)
  n1 : ∀ j, j < n → w.cell? ⟨B, j * 2 + 1, none⟩ = some (.string (f j).2)
  free : ∀ j, j < 2 * n → w.frozen? ⟨B, j, none⟩ = false

theorem CellsIs.set {w : World} {B n : Nat} {f : Nat → Int × ByteArray} (h : CellsIs w B n f) {k : Nat} (hk : k < n) (K : Int) (s : ByteArray) :
    CellsIs ((w.setCell ⟨B, k * 2, none⟩ (.int .i64 K)).setCell ⟨B, k * 2 + 1, none⟩ (.string s)) B n (fun j => if j = k then (K, s) else f j) := by
  have o1 : ∀ j, j * 2 ≠ k * 2 + 1 := fun j => by omega
  have o2 : ∀ j, j * 2 + 1 ≠ k * 2 := fun j => by omega
  have a0 : (w.setCell ⟨B, k * 2, none⟩ (.int .i64 K)).cell? ⟨B, k * 2 + 1, none⟩ = some (.string (f k).2) := by
    rw [World.cell?_setCell_other w _ _ _ (by intro c; injection c with _ c2; omega)]
    exact h.n1 k hk
  refine ⟨by rw [World.size_setCell, World.size_setCell]; exact h.lt, fun j hj => ?_, fun j hj => ?_, fun j hj => by rw [World.frozen?_setCell, World.frozen?_setCell]; exact h.free j hj⟩
  · rw [World.cell?_setCell_other _ _ _ _ (by intro c; injection c with _ c2; exact o1 j c2.symm)]
    by_cases e : j = k
    · subst e
      rw [World.cell?_setCell_same w _ _ (h.n0 j hj), if_pos rfl]
    · rw [World.cell?_setCell_other w _ _ _ (by intro c; injection c with _ c2; omega), if_neg e]
      exact h.n0 j hj
  · by_cases e : j = k
    · subst e
      rw [World.cell?_setCell_same _ _ _ a0, if_pos rfl]
    · rw [World.cell?_setCell_other _ _ _ _ (by intro c; injection c with _ c2; omega), World.cell?_setCell_other w _ _ _ (by intro c; injection c with _ c2; omega), if_neg e]
      exact h.n1 j hj
theorem CellsIs.congr {w : World} {B n : Nat} {f g : Nat → Int × ByteArray} (h : CellsIs w B n f) (e : ∀ j, j < n → f j = g j) : CellsIs w B n g :=
  ⟨h.lt, fun j hj => by rw [← e j hj]; exact h.n0 j hj, fun j hj => by rw [← e j hj]; exact h.n1 j hj, h.free⟩
theorem CellsIs.of_heap {w y : World} {B n : Nat} {f : Nat → Int × ByteArray} (h : CellsIs w B n f) (e : y.heap[B]? = w.heap[B]?) : CellsIs y B n f := by
  have hl := h.lt
  refine ⟨?_, fun j hj => by rw [World.cell?_of_block (a := ⟨B, j * 2, none⟩) e]; exact h.n0 j hj, fun j hj => by rw [World.cell?_of_block (a := ⟨B, j * 2 + 1, none⟩) e]; exact h.n1 j hj, fun j hj => ?_⟩
  · rw [Array.getElem?_eq_getElem hl] at e
    exact (Array.getElem?_eq_some_iff.1 e).1
  · have := h.free j hj
    unfold World.frozen? at this ⊢
    rw [e]
    exact this
theorem CellsIs.on {w y : World} {B n : Nat} {f : Nat → Int × ByteArray} (h : CellsIs w B n f) (hb : Below w.heap.size w y) : CellsIs y B n f := h.of_heap (hb.block B h.lt)
theorem CellsIs.row {w : World} {B : Nat} {c : Cl} (h : CellsIs w B c.length (fun j => c.getD j (0, T0))) (hm : c.length ≤ 1000000) (H : Nat → Prop) (hH : ¬ H B) (cap : Nat) (hc : c.length ≤ cap) :
    CW w H (.slice (some ⟨B, 0, none⟩) c.length cap) c := by
  refine ⟨_, cap, rfl, hc, hm, fun k x hx => ⟨B, rfl, h.lt, hH, ?_, ?_⟩⟩
  all_goals
    have hk : k < c.length := by
      rcases Nat.lt_or_ge k c.length with h' | h'
      · exact h'
      · rw [List.getElem?_eq_none h'] at hx; cases hx
  · rw [h.n0 k hk, getD_some hx]
  · rw [h.n1 k hk, getD_some hx]

theorem make_cells (w : World) (n : Nat) (h : n ≤ 1000000) : (Instr.makeSlice 36 (.int .i64 (n : Int)) (.int .i64 (n : Int))).run Try.prog w
    = .ok (.slice (some ⟨w.heap.size, 0, none⟩) n n) (w.alloc (.cells (madeCells #[.int .i64 0, .string ⟨#[]⟩] (n * 2)) 80)) := by
  obtain ⟨i0, hi, hz0, hz1, hz2⟩ := infoL
  have := run_make (P := Try.prog) w 36 80 i0 (.agg #[.int .i64 0, .string ⟨#[]⟩]) Try.underlying36 hi hz0 .i64 .i64 (n : Int) (n : Int) (by omega) (by omega) (by rw [hz2]; omega) (by omega)
  rw [hz1, Int.toNat_natCast] at this
  exact this
theorem made_cells (w : World) (n : Nat) : CellsIs (w.alloc (.cells (madeCells #[.int .i64 0, .string ⟨#[]⟩] (n * 2)) 80)) w.heap.size n (fun _ => (0, ⟨#[]⟩)) := by
  refine ⟨by simp, fun j hj => ?_, fun j hj => ?_, fun j hj => by rw [World.frozen?_alloc_new]⟩
  · rw [World.cell?_alloc_new]
    unfold madeCells
    rw [Array.getElem?_map, Array.getElem?_range, if_pos (by omega)]
    simp
  · rw [World.cell?_alloc_new]
    unfold madeCells
    rw [Array.getElem?_map, Array.getElem?_range, if_pos (by omega)]
    simp [show (j * 2 + 1) % 2 = 1 by omega]

/-- Cells in a change's room, in their places. -/
def roomC (num : Nat) (c : Cl) : Cl := (List.range c.length).map fun i => (((2 + 16 * (num % 2) + i : Nat) : Int), (c.getD i (0, T0)).2)
def placeC (c : Cl) : Cl := c.map fun p => (34 + p.1, p.2)
def doC (r : Cl) : List Do := r.map (fun p => Do.w p.1.toNat p.2) ++ [.f]
theorem roomC_len (num : Nat) (c : Cl) : (roomC num c).length = c.length := by simp [roomC]
theorem placeC_len (c : Cl) : (placeC c).length = c.length := by simp [placeC]
theorem roomD_is (num : Nat) (c : Cl) : roomD num c ++ [.f] = doC (roomC num c) := by
  unfold roomD doC roomC
  rw [List.map_map]
  rfl
theorem homeD_is {c : Cl} (h : ∀ p ∈ c, 0 ≤ p.1) : homeD c = doC (placeC c) := by
  unfold homeD doC placeC
  rw [List.map_map]
  congr 1
  refine List.map_congr_left fun p hp => ?_
  have := h p hp
  show Do.w (34 + p.1.toNat) p.2 = Do.w (34 + p.1).toNat p.2
  congr 1
  omega

set_option maxHeartbeats 1000000 in
theorem winPlace_any {w : World} {H : Nat → Prop} {v : Value} {c : Cl} (C : CW w H v c) (hk : ∀ p ∈ c, 0 ≤ p.1 ∧ p.1 < 65536) :
    Calls Try.prog 46 #[v] w fun e w' => ∃ v', e = .returned v' ∧ CW w' (fun k => k < w.heap.size) v' (placeC c) ∧ Below w.heap.size w w' := by
  obtain ⟨a, cap, rfl, hc, hm, hx⟩ := C
  obtain ⟨n, hnn⟩ : ∃ n, n = c.length := ⟨_, rfl⟩
  rw [← hnn] at hc hm ⊢
  replace hx := hide hx
  replace hnn := hide hnn
  replace hk := hide hk
  obtain ⟨r, hr⟩ : ∃ r, Hid (r = placeC c) := ⟨_, hide rfl⟩
  rw [← hr.out]
  have hrl : Hid (r.length = n) := hide (by rw [hr.out, placeC_len, hnn.out])
  have mk := make_cells w n hm
  have M0 := made_cells w n
  have g0 := grow w (.cells (madeCells #[.int .i64 0, .string ⟨#[]⟩] (n * 2)) 80)
  go_enter Try.func46, Try.ntmps46
  go_wp2_with fail
  generalize w.alloc (.cells (madeCells #[.int .i64 0, .string ⟨#[]⟩] (n * 2)) 80) = x0 at *
  obtain ⟨B, hBB⟩ : ∃ B, B = w.heap.size := ⟨_, rfl⟩
  rw [← hBB] at M0 mk ⊢
  replace M0 := hide M0
  replace g0 := hide g0
  replace hBB := hide hBB
  clear mk
  go_wp2_with fail
  go_loopw [11] (fun i y => ∃ k : Nat, k ≤ n ∧ i = .int .i64 (k : Int) ∧ Hid (CellsIs y B n (fun j => if j < k then r.getD j (0, T0) else (0, ⟨#[]⟩))) ∧ Hid (Below B w y)) (fun i _ => n - (intOf i).toNat)
  case atStart => exact ⟨0, Nat.zero_le _, rfl, hide (M0.out.congr fun j _ => by simp), hide (hBB.out ▸ g0.out)⟩
  case round =>
    clear M0 g0
    obtain ⟨k, hkn, rfl, hM, hB⟩ := hrel
    by_cases h : k < n
    · obtain ⟨p, hp⟩ : ∃ p, c[k]? = some p := ⟨c[k]'(by have := hnn.out; omega), List.getElem?_eq_getElem _⟩
      obtain ⟨g, rfl, hg, -, q0, q1⟩ := hx.out k p hp
      rw [← hBB.out] at hg
      have r0 : wr.cell? ⟨g, k * 2, none⟩ = some (.int .i64 p.1) := (hB.out.cell (p := ⟨g, k * 2, none⟩) hg).trans q0
      have r1 : wr.cell? ⟨g, k * 2 + 1, none⟩ = some (.string p.2) := (hB.out.cell (p := ⟨g, k * 2 + 1, none⟩) hg).trans q1
      obtain ⟨h1, h2⟩ := hk.out p (List.mem_of_getElem? hp)
      obtain ⟨px, hpx⟩ : ∃ px, px = p.2 := ⟨_, rfl⟩
      obtain ⟨K, hK⟩ : ∃ K, K = p.1 := ⟨_, rfl⟩
      have hkx : Hid (r.getD k (0, T0) = (34 + K, px)) := hide (by rw [hr.out, getD_some (x := (34 + p.1, p.2)) (by unfold placeC; rw [List.getElem?_map, hp]; rfl), hK, hpx])
      rw [← hpx] at r1
      rw [← hK] at r0 h1 h2
      have hlt := hM.out.lt
      have m0 := hM.out.n0 k h
      have m1 := hM.out.n1 k h
      have f0 := hM.out.free (k * 2) (by omega)
      have f1 := hM.out.free (k * 2 + 1) (by omega)
      have M2 := hide ((hM.out.set h (34 + K) px).on (grow _ (.cells #[.int .i64 K, .string px] 80)))
      have hB2 := hide (((hB.out.setCell (p := ⟨B, k * 2, none⟩) (Nat.le_refl _) (.int .i64 (34 + K))).setCell (p := ⟨B, k * 2 + 1, none⟩) (Nat.le_refl _) (.string px)).alloc (by rw [World.size_setCell, World.size_setCell]; exact Nat.le_of_lt hlt) (.cells #[.int .i64 K, .string px] 80))
      have hwK : IntKind.i64.wrap (34 + K) = 34 + K := by simp [IntKind.wrap, IntKind.bits, IntKind.signed]; omega
      clear q0 q1 hp hpx hK hx hnn hk hM
      go_wp2
      go_roundw
      case rel => exact ⟨k + 1, by omega, by go_num, hide (M2.out.congr fun j _ => by
        by_cases e : j = k
        · subst e; rw [if_pos rfl, if_pos (by omega), hkx.out]
        · rw [if_neg e]
          by_cases e2 : j < k
          · rw [if_pos e2, if_pos (by omega)]
          · rw [if_neg e2, if_neg (by omega)]), hB2⟩
      case measure => simp [intOf]; omega
    · obtain rfl : k = n := by omega
      go_wp2
      go_ret
      have M2 := hM.out.congr (g := fun j => r.getD j (0, T0)) (fun j hj => by rw [if_pos hj])
      rw [← hrl.out] at M2 hm ⊢
      exact ⟨_, rfl, M2.row hm _ (by rw [hBB.out]; omega) _ (Nat.le_refl _), hBB.out ▸ hB.out⟩

end Go.Proofs.Ytgffhnggocbjhaa
