/- Layer 19: the program's log: rows of cells, rows of numbers; sums, places, are they whole, do they rise. -/
import Derived.Test.YtgffhnggocbjhaaWlHead
namespace Go.Proofs.Ytgffhnggocbjhaa
open Go.RowKit
set_option linter.unusedVariables false
set_option maxRecDepth 100000
set_option linter.unusedSimpArgs false

theorem nats_app (a b : ByteArray) : nats (a ++ b) = nats a ++ nats b := by
  unfold nats
  rw [ByteArray.data_append, Array.toList_append, List.map_append]

/-- The sum of the first k cells' bytes. -/
def sumK (c : Cl) (k : Nat) : Nat := Crc.on 65535 (nats (catT ((c.map (·.2)).take k)))
theorem sumK_lt (c : Cl) (k : Nat) : sumK c k < 65536 := Crc.on_lt (by decide) (nats_small _)
theorem sumK_next {c : Cl} {k : Nat} {p : Int × ByteArray} (h : c[k]? = some p) : sumK c (k + 1) = Crc.on (sumK c k) (nats p.2) := by
  unfold sumK
  rw [List.take_add_one, List.getElem?_map, h, catT_app, nats_app, Crc.on_append]
  simp [catT]
theorem sumK_all (c : Cl) : sumK c c.length = sumC c := by
  unfold sumK sumC catC
  rw [List.take_of_length_le (by simp)]

theorem catT_nil : nats (catT (List.take 0 ([] : List ByteArray))) = [] := rfl

set_option maxHeartbeats 1000000 in
theorem wsum_any {w : World} {H : Nat → Prop} {v : Value} {c : Cl} (C : CW w H v c) (hs : ∀ p ∈ c, p.2.size ≤ 64) :
    Calls Try.prog 70 #[v] w fun e w' => e = .returned (.int .u16 (sumC c : Int)) ∧ Below w.heap.size w w' := by
  obtain ⟨a, cap, rfl, hc, hm, hx⟩ := C
  obtain ⟨n, hnn⟩ : ∃ n, n = c.length := ⟨_, rfl⟩
  rw [← hnn] at hc hm ⊢
  replace hx := hide hx
  replace hs := hide hs
  replace hnn := hide hnn
  go_enter Try.func70, Try.ntmps70
  go_wp2_with (go_at_call 90; refine (sum_any _ (by decide) _).mono ?_; rintro e w' ⟨rfl, rfl⟩)
  go_loopw [3, 9] (fun s i y => ∃ k : Nat, k ≤ n ∧ i = .int .i64 (k : Int) ∧ s = .int .u16 (sumK c k : Int) ∧ Hid (Below w'.heap.size w' y)) (fun _ i _ => n - (intOf i).toNat)
  case atStart => exact ⟨0, Nat.zero_le _, rfl, rfl, hide (Below.refl _ _)⟩
  case round =>
    obtain ⟨k, hk, rfl, rfl, hB⟩ := hrel
    by_cases h : k < n
    · obtain ⟨p, hp⟩ : ∃ p, c[k]? = some p := ⟨c[k]'(by have := hnn.out; omega), List.getElem?_eq_getElem _⟩
      obtain ⟨g, rfl, hg, -, q0, q1⟩ := hx.out k p hp
      have r0 : wr.cell? ⟨g, k * 2, none⟩ = some (.int .i64 p.1) := (hB.out.cell (p := ⟨g, k * 2, none⟩) hg).trans q0
      have r1 : wr.cell? ⟨g, k * 2 + 1, none⟩ = some (.string p.2) := (hB.out.cell (p := ⟨g, k * 2 + 1, none⟩) hg).trans q1
      have hz := hs.out p (List.mem_of_getElem? hp)
      have hn := sumK_next hp
      obtain ⟨px, hpx⟩ : ∃ px, px = p.2 := ⟨_, rfl⟩
      obtain ⟨K, hK⟩ : ∃ K, K = p.1 := ⟨_, rfl⟩
      have hlt := sumK_lt c k
      rw [← hpx] at r1 hz hn
      rw [← hK] at r0
      replace hn := hide hn
      generalize sumK c k = S at *
      have cs := fun y => on_any S px hlt (by unfold maxLen; omega) y
      have hB2 := hide (hB.out.alloc hB.out.size (.cells #[.int .i64 K, .string px] 80))
      clear q0 q1 hp hpx hK hx hs hnn
      go_wp2_with fail
      refine (cs _).mono ?_
      rintro e y2 ⟨rfl, hy2⟩
      subst hy2
      go_wp2
      go_roundw
      case rel => exact ⟨k + 1, by omega, by go_num, by rw [hn.out], hB2⟩
      case measure => simp [intOf]; omega
    · obtain rfl : k = n := by omega
      have he : sumK c k = sumC c := by rw [hnn.out, sumK_all]
      go_wp2
      go_ret
      exact ⟨by rw [he]; rfl, hB.out⟩

/-- v is a slice of numbers, none of which lies in blocks of H. -/
def IW (w : World) (H : Nat → Prop) (v : Value) (ks : List Int) : Prop :=
  ∃ a cap, v = .slice a ks.length cap ∧ ks.length ≤ cap ∧ ks.length ≤ 1000000 ∧ ∀ (k : Nat) x, ks[k]? = some x → ∃ g, a = some ⟨g, 0, none⟩ ∧ g < w.heap.size ∧ ¬ H g ∧ w.cell? ⟨g, k, none⟩ = some (.int .i64 x)
theorem IW.turn {w y : World} {H : Nat → Prop} {v : Value} {ks : List Int} (h : IW w H v ks) (T : Turn H w y) : IW y H v ks := by
  obtain ⟨a, cap, e, h1, h2, hx⟩ := h
  refine ⟨a, cap, e, h1, h2, fun k p hp => ?_⟩
  obtain ⟨g, e, hg, hH, q0⟩ := hx k p hp
  exact ⟨g, e, Nat.lt_of_lt_of_le hg T.size, hH, by rw [World.cell?_of_block (a := ⟨g, k, none⟩) (T.block g hg hH)]; exact q0⟩
theorem IW.on {w y : World} {H : Nat → Prop} {v : Value} {ks : List Int} (h : IW w H v ks) (hb : Below w.heap.size w y) : IW y H v ks := h.turn (Turn.of hb)
theorem IW.less {w : World} {H G : Nat → Prop} {v : Value} {ks : List Int} (h : IW w H v ks) (hG : ∀ k, k < w.heap.size → G k → H k) : IW w G v ks := by
  obtain ⟨a, cap, e, h1, h2, hx⟩ := h
  refine ⟨a, cap, e, h1, h2, fun k p hp => ?_⟩
  obtain ⟨g, e, hg, hH, q⟩ := hx k p hp
  exact ⟨g, e, hg, fun hh => hH (hG g hg hh), q⟩

/-- A row of n numbers in block B: cell j holds f j, and may be written. -/
structure NumIs (w : World) (B n : Nat) (f : Nat → Int) : Prop where
  lt : B < w.heap.size
  cell : ∀ j, j < n → w.cell? ⟨B, j, none⟩ = some (.int .i64 (f j))
  free : ∀ j, j < n → w.frozen? ⟨B, j, none⟩ = false

theorem NumIs.set {w : World} {B n : Nat} {f : Nat → Int} (h : NumIs w B n f) {k : Nat} (hk : k < n) (v : Int) :
    NumIs (w.setCell ⟨B, k, none⟩ (.int .i64 v)) B n (fun j => if j = k then v else f j) := by
  refine ⟨by rw [World.size_setCell]; exact h.lt, fun j hj => ?_, fun j hj => by rw [World.frozen?_setCell]; exact h.free j hj⟩
  by_cases e : j = k
  · subst e
    rw [World.cell?_setCell_same w _ _ (h.cell j hj), if_pos rfl]
  · rw [World.cell?_setCell_other w _ _ _ (by intro c; injection c with _ c2; omega), if_neg e]
    exact h.cell j hj
theorem NumIs.congr {w : World} {B n : Nat} {f g : Nat → Int} (h : NumIs w B n f) (e : ∀ j, j < n → f j = g j) : NumIs w B n g :=
  ⟨h.lt, fun j hj => by rw [← e j hj]; exact h.cell j hj, h.free⟩
theorem NumIs.on {w y : World} {B n : Nat} {f : Nat → Int} (h : NumIs w B n f) (hb : Below w.heap.size w y) : NumIs y B n f := by
  have e := hb.block B h.lt
  refine ⟨Nat.lt_of_lt_of_le h.lt hb.size, fun j hj => by rw [World.cell?_of_block (a := ⟨B, j, none⟩) e]; exact h.cell j hj, fun j hj => ?_⟩
  have := h.free j hj
  unfold World.frozen? at this ⊢
  rw [e]
  exact this
theorem NumIs.row {w : World} {B : Nat} {ks : List Int} (h : NumIs w B ks.length (fun j => ks.getD j 0)) (hm : ks.length ≤ 1000000) (H : Nat → Prop) (hH : ¬ H B) (cap : Nat) (hc : ks.length ≤ cap) :
    IW w H (.slice (some ⟨B, 0, none⟩) ks.length cap) ks := by
  refine ⟨_, cap, rfl, hc, hm, fun k x hx => ⟨B, rfl, h.lt, hH, ?_⟩⟩
  have hk : k < ks.length := by
    rcases Nat.lt_or_ge k ks.length with h' | h'
    · exact h'
    · rw [List.getElem?_eq_none h'] at hx; cases hx
  rw [h.cell k hk, getD_some hx]

theorem make_nums (w : World) (n : Nat) (h : n ≤ 1000000) : (Instr.makeSlice 29 (.int .i64 (n : Int)) (.int .i64 (n : Int))).run Try.prog w
    = .ok (.slice (some ⟨w.heap.size, 0, none⟩) n n) (w.alloc (.cells (madeCells #[.int .i64 0] n) 3)) := by
  have hi0 : (Try.prog.info? 3).map (fun i => (i.zero, i.size, i.bytes)) = some (some (.int .i64 0), 1, 8) := by kernel_rfl
  obtain ⟨i0, hi, hz0, hz1, hz2⟩ := info_parts hi0
  have := run_make (P := Try.prog) w 29 3 i0 (.int .i64 0) Try.underlying29 hi hz0 .i64 .i64 (n : Int) (n : Int) (by omega) (by omega) (by rw [hz2]; omega) (by omega)
  rw [hz1, Int.toNat_natCast, Nat.mul_one] at this
  exact this
theorem made_nums (w : World) (n : Nat) : NumIs (w.alloc (.cells (madeCells #[.int .i64 0] n) 3)) w.heap.size n (fun _ => 0) := by
  refine ⟨by simp, fun j hj => ?_, fun j hj => by rw [World.frozen?_alloc_new]⟩
  rw [World.cell?_alloc_new, made_flat hj]

set_option maxHeartbeats 1000000 in
theorem wplaces_any {w : World} {H : Nat → Prop} {v : Value} {c : Cl} (C : CW w H v c) :
    Calls Try.prog 41 #[v] w fun e w' => ∃ v', e = .returned v' ∧ IW w' (fun k => k < w.heap.size) v' (c.map (·.1)) ∧ Below w.heap.size w w' := by
  obtain ⟨a, cap, rfl, hc, hm, hx⟩ := C
  obtain ⟨n, hnn⟩ : ∃ n, n = c.length := ⟨_, rfl⟩
  rw [← hnn] at hc hm ⊢
  replace hx := hide hx
  replace hnn := hide hnn
  obtain ⟨ks, hks⟩ : ∃ ks, Hid (ks = c.map (·.1)) := ⟨_, hide rfl⟩
  rw [← hks.out]
  have hkl : Hid (ks.length = n) := hide (by rw [hks.out, List.length_map, hnn.out])
  have mk := make_nums w n hm
  have M0 := made_nums w n
  have g0 := grow w (.cells (madeCells #[.int .i64 0] n) 3)
  go_enter Try.func41, Try.ntmps41
  go_wp2_with fail
  generalize w.alloc (.cells (madeCells #[.int .i64 0] n) 3) = x0 at *
  obtain ⟨B, hBB⟩ : ∃ B, B = w.heap.size := ⟨_, rfl⟩
  rw [← hBB] at M0 mk ⊢
  replace M0 := hide M0
  replace g0 := hide g0
  replace hBB := hide hBB
  clear mk
  go_wp2_with fail
  go_loopw [11] (fun i y => ∃ k : Nat, k ≤ n ∧ i = .int .i64 (k : Int) ∧ Hid (NumIs y B n (fun j => if j < k then ks.getD j 0 else 0)) ∧ Hid (Below B w y)) (fun i _ => n - (intOf i).toNat)
  case atStart => exact ⟨0, Nat.zero_le _, rfl, hide (M0.out.congr fun j _ => by simp), hide (hBB.out ▸ g0.out)⟩
  case round =>
    clear M0 g0
    obtain ⟨k, hk, rfl, hM, hB⟩ := hrel
    by_cases h : k < n
    · obtain ⟨p, hp⟩ : ∃ p, c[k]? = some p := ⟨c[k]'(by have := hnn.out; omega), List.getElem?_eq_getElem _⟩
      obtain ⟨g, rfl, hg, -, q0, q1⟩ := hx.out k p hp
      rw [← hBB.out] at hg
      have r0 : wr.cell? ⟨g, k * 2, none⟩ = some (.int .i64 p.1) := (hB.out.cell (p := ⟨g, k * 2, none⟩) hg).trans q0
      have r1 : wr.cell? ⟨g, k * 2 + 1, none⟩ = some (.string p.2) := (hB.out.cell (p := ⟨g, k * 2 + 1, none⟩) hg).trans q1
      obtain ⟨px, hpx⟩ : ∃ px, px = p.2 := ⟨_, rfl⟩
      obtain ⟨K, hK⟩ : ∃ K, K = p.1 := ⟨_, rfl⟩
      rw [← hpx] at r1
      rw [← hK] at r0
      have hkx : Hid (ks.getD k 0 = K) := hide (by rw [hks.out, getD_some (x := p.1) (by rw [List.getElem?_map, hp]; rfl), hK])
      have hlt := hM.out.lt
      have g1 := grow wr (.cells #[.int .i64 K, .string px] 80)
      have M1 := hM.out.on g1
      have m0 := M1.cell k h
      have m1 := M1.free k h
      have hB2 := hide ((hB.out.setCell (show B ≤ (⟨B, k, none⟩ : Addr).block from Nat.le_refl _) (.int .i64 K)).alloc (by rw [World.size_setCell]; exact Nat.le_of_lt hlt) (.cells #[.int .i64 K, .string px] 80))
      have M2 := hide ((hM.out.set h K).on (grow _ (.cells #[.int .i64 K, .string px] 80)))
      clear q0 q1 hp hpx hK hx hnn M1 hM g1
      go_wp2_with fail
      go_wp2
      go_roundw
      case rel => exact ⟨k + 1, by omega, by go_num, hide (M2.out.congr fun j _ => by
        by_cases e : j = k
        · subst e; rw [if_pos rfl, if_pos (by omega), hkx.out]
        · rw [if_neg e]
          by_cases e2 : j < k
          · rw [if_pos e2, if_pos (by omega)]
          · rw [if_neg e2, if_neg (by omega)]), hB2⟩
      case measure => simp [intOf]; omega
    · obtain rfl : k = n := by omega
      go_wp2
      go_ret
      have M2 := hM.out.congr (g := fun j => ks.getD j 0) (fun j hj => by rw [if_pos hj])
      rw [← hkl.out] at M2 hm ⊢
      exact ⟨_, rfl, M2.row hm _ (by rw [hBB.out]; omega) _ (Nat.le_refl _), hBB.out ▸ hB.out⟩

end Go.Proofs.Ytgffhnggocbjhaa
