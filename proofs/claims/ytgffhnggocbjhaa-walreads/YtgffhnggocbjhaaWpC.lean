/- Layer 19: the program's log: cells in a room, in their places. -/
import Derived.Test.YtgffhnggocbjhaaWpB
namespace Go.Proofs.Ytgffhnggocbjhaa
open Go.RowKit
set_option linter.unusedVariables false
set_option maxRecDepth 100000
set_option linter.unusedSimpArgs false

/-- A row of n cells in block B, which may be written. -/
structure CellsIs (w : World) (B n : Nat) (f : Nat → Int × ByteArray) : Prop where
  lt : B < w.heap.size
  n0 : ∀ j, j < n → w.cell? ⟨B, j * 2, none⟩ = some (.int .i64 (f j).1)
  n1 : ∀ j, j < n → w.cell? ⟨B, j * 2 + 1, none⟩ = some (.string (f j).2)
  free : ∀ j, j < 2 * n → w.frozen? ⟨B, j, none⟩ = false

theorem CellsIs.set {w : World} {B n : Nat} {f : Nat → Int × ByteArray} (h : CellsIs w B n f) {k : Nat} (hk : k < n) (K : Int) (s : ByteArray) :
    CellsIs ((w.setCell ⟨B, k * 2, none⟩ (.int .i64 K)).setCell ⟨B, k * 2 + 1, none⟩ (.string s)) B n (fun j => if j = k then (K, s) else f j) := by
  have o1 : ∀ j, j * 2 ≠ k * 2 + 1 := fun j => by omega
  have o2 : ∀ j, j * 2 + 1 ≠ k * 2 := fun j => by omega
  have a0 : (w.setCell ⟨B, k * 2, none⟩ (.int .i64 K)).cell? ⟨B, k * 2 + 1, none⟩ = some (.string (f k).2) := by
    rw [World.cell?_setCell_other w _ _ _ (by intro c; injection c with _ c2; omega)]
    exact h.n1 k hk
  refine ⟨by rw [World.size_setCell, World.size_setCell]; exact h.lt, fun j hj => ?_, fun j hj => ?_, fun j hj => by rw [World.frozen?_setCell, World.frozen?_setCell]; exact h.free j hj⟩
  · rw [World.cell?_setCell_other _ _ _ _ (by intro c; injection c with _ c2; exact o1 j c2.symm)]
    by_cases e : j = k
    · subst e
      rw [World.cell?_setCell_same w _ _ (h.n0 j hj), if_pos rfl]
    · rw [World.cell?_setCell_other w _ _ _ (by intro c; injection c with _ c2; omega), if_neg e]
      exact h.n0 j hj
  · by_cases e : j = k
    · subst e
      rw [World.cell?_setCell_same _ _ _ a0, if_pos rfl]
    · rw [World.cell?_setCell_other _ _ _ _ (by intro c; injection c with _ c2; omega), World.cell?_setCell_other w _ _ _ (by intro c; injection c with _ c2; omega), if_neg e]
      exact h.n1 j hj
theorem CellsIs.congr {w : World} {B n : Nat} {f g : Nat → Int × ByteArray} (h : CellsIs w B n f) (e : ∀ j, j < n → f j = g j) : CellsIs w B n g :=
  ⟨h.lt, fun j hj => by rw [← e j hj]; exact h.n0 j hj, fun j hj => by rw [← e j hj]; exact h.n1 j hj, h.free⟩
theorem CellsIs.of_heap {w y : World} {B n : Nat} {f : Nat → Int × ByteArray} (h : CellsIs w B n f) (e : y.heap[B]? = w.heap[B]?) : CellsIs y B n f := by
  have hl := h.lt
  refine ⟨?_, fun j hj => by rw [World.cell?_of_block (a := ⟨B, j * 2, none⟩) e]; exact h.n0 j hj, fun j hj => by rw [World.cell?_of_block (a := ⟨B, j * 2 + 1, none⟩) e]; exact h.n1 j hj, fun j hj => ?_⟩
  · rw [Array.getElem?_eq_getElem hl] at e
    exact (Array.getElem?_eq_some_iff.1 e).1
  · have := h.free j hj
    unfold World.frozen? at this ⊢
    rw [e]
    exact this
theorem CellsIs.on {w y : World} {B n : Nat} {f : Nat → Int × ByteArray} (h : CellsIs w B n f) (hb : Below w.heap.size w y) : CellsIs y B n f := h.of_heap (hb.block B h.lt)
theorem CellsIs.row {w : World} {B : Nat} {c : Cl} (h : CellsIs w B c.length (fun j => c.getD j (0, T0))) (hm : c.length ≤ 1000000) (H : Nat → Prop) (hH : ¬ H B) (cap : Nat) (hc : c.length ≤ cap) :
    CW w H (.slice (some ⟨B, 0, none⟩) c.length cap) c := by
  refine ⟨_, cap, rfl, hc, hm, fun k x hx => ⟨B, rfl, h.lt, hH, ?_, ?_⟩⟩
  all_goals
    have hk : k < c.length := by
      rcases Nat.lt_or_ge k c.length with h' | h'
      · exact h'
      · rw [List.getElem?_eq_none h'] at hx; cases hx
  · rw [h.n0 k hk, getD_some hx]
  · rw [h.n1 k hk, getD_some hx]

theorem make_cells (w : World) (n : Nat) (h : n ≤ 1000000) : (Instr.makeSlice 36 (.int .i64 (n : Int)) (.int .i64 (n : Int))).run Try.prog w
    = .ok (.slice (some ⟨w.heap.size, 0, none⟩) n n) (w.alloc (.cells (madeCells #[.int .i64 0, .string ⟨#[]⟩] (n * 2)) 80)) := by
  obtain ⟨i0, hi, hz0, hz1, hz2⟩ := infoL
  have := run_make (P := Try.prog) w 36 80 i0 (.agg #[.int .i64 0, .string ⟨#[]⟩]) Try.underlying36 hi hz0 .i64 .i64 (n : Int) (n : Int) (by omega) (by omega) (by rw [hz2]; omega) (by omega)
  rw [hz1, Int.toNat_natCast] at this
  exact this
theorem made_cells (w : World) (n : Nat) : CellsIs (w.alloc (.cells (madeCells #[.int .i64 0, .string ⟨#[]⟩] (n * 2)) 80)) w.heap.size n (fun _ => (0, ⟨#[]⟩)) := by
  refine ⟨by simp, fun j hj => ?_, fun j hj => ?_, fun j hj => by rw [World.frozen?_alloc_new]⟩
  · rw [World.cell?_alloc_new]
    unfold madeCells
    rw [Array.getElem?_map, Array.getElem?_range, if_pos (by omega)]
    simp
  · rw [World.cell?_alloc_new]
    unfold madeCells
    rw [Array.getElem?_map, Array.getElem?_range, if_pos (by omega)]
    simp [show (j * 2 + 1) % 2 = 1 by omega]

/-- Cells in a change's room, in their places. -/
def roomC (num : Nat) (c : Cl) : Cl := (List.range c.length).map fun i => (((2 + 16 * (num % 2) + i : Nat) : Int), (c.getD i (0, T0)).2)
def placeC (c : Cl) : Cl := c.map fun p => (34 + p.1, p.2)
def doC (r : Cl) : List Do := r.map (fun p => Do.w p.1.toNat p.2) ++ [.f]
theorem roomC_len (num : Nat) (c : Cl) : (roomC num c).length = c.length := by simp [roomC]
theorem placeC_len (c : Cl) : (placeC c).length = c.length := by simp [placeC]
theorem roomD_is (num : Nat) (c : Cl) : roomD num c ++ [.f] = doC (roomC num c) := by
  unfold roomD doC roomC
  rw [List.map_map]
  rfl
theorem homeD_is {c : Cl} (h : ∀ p ∈ c, 0 ≤ p.1) : homeD c = doC (placeC c) := by
  unfold homeD doC placeC
  rw [List.map_map]
  congr 1
  refine List.map_congr_left fun p hp => ?_
  have := h p hp
  show Do.w (34 + p.1.toNat) p.2 = Do.w (34 + p.1).toNat p.2
  congr 1
  omega

set_option maxHeartbeats 1000000 in
theorem winPlace_any {w : World} {H : Nat → Prop} {v : Value} {c : Cl} (C : CW w H v c) (hk : ∀ p ∈ c, 0 ≤ p.1 ∧ p.1 < 65536) :
    Calls Try.prog 46 #[v] w fun e w' => ∃ v', e = .returned v' ∧ CW w' (fun k => k < w.heap.size) v' (placeC c) ∧ Below w.heap.size w w' := by
  obtain ⟨a, cap, rfl, hc, hm, hx⟩ := C
  obtain ⟨n, hnn⟩ : ∃ n, n = c.length := ⟨_, rfl⟩
  rw [← hnn] at hc hm ⊢
  replace hx := hide hx
  replace hnn := hide hnn
  replace hk := hide hk
  obtain ⟨r, hr⟩ : ∃ r, Hid (r = placeC c) := ⟨_, hide rfl⟩
  rw [← hr.out]
  have hrl : Hid (r.length = n) := hide (by rw [hr.out, placeC_len, hnn.out])
  have mk := make_cells w n hm
  have M0 := made_cells w n
  have g0 := grow w (.cells (madeCells #[.int .i64 0, .string ⟨#[]⟩] (n * 2)) 80)
  go_enter Try.func46, Try.ntmps46
  go_wp2_with fail
  generalize w.alloc (.cells (madeCells #[.int .i64 0, .string ⟨#[]⟩] (n * 2)) 80) = x0 at *
  obtain ⟨B, hBB⟩ : ∃ B, B = w.heap.size := ⟨_, rfl⟩
  rw [← hBB] at M0 mk ⊢
  replace M0 := hide M0
  replace g0 := hide g0
  replace hBB := hide hBB
  clear mk
  go_wp2_with fail
  go_loopw [11] (fun i y => ∃ k : Nat, k ≤ n ∧ i = .int .i64 (k : Int) ∧ Hid (CellsIs y B n (fun j => if j < k then r.getD j (0, T0) else (0, ⟨#[]⟩))) ∧ Hid (Below B w y)) (fun i _ => n - (intOf i).toNat)
  case atStart => exact ⟨0, Nat.zero_le _, rfl, hide (M0.out.congr fun j _ => by simp), hide (hBB.out ▸ g0.out)⟩
  case round =>
    clear M0 g0
    obtain ⟨k, hkn, rfl, hM, hB⟩ := hrel
    by_cases h : k < n
    · obtain ⟨p, hp⟩ : ∃ p, c[k]? = some p := ⟨c[k]'(by have := hnn.out; omega), List.getElem?_eq_getElem _⟩
      obtain ⟨g, rfl, hg, -, q0, q1⟩ := hx.out k p hp
      rw [← hBB.out] at hg
      have r0 : wr.cell? ⟨g, k * 2, none⟩ = some (.int .i64 p.1) := (hB.out.cell (p := ⟨g, k * 2, none⟩) hg).trans q0
      have r1 : wr.cell? ⟨g, k * 2 + 1, none⟩ = some (.string p.2) := (hB.out.cell (p := ⟨g, k * 2 + 1, none⟩) hg).trans q1
      obtain ⟨h1, h2⟩ := hk.out p (List.mem_of_getElem? hp)
      obtain ⟨px, hpx⟩ : ∃ px, px = p.2 := ⟨_, rfl⟩
      obtain ⟨K, hK⟩ : ∃ K, K = p.1 := ⟨_, rfl⟩
      have hkx : Hid (r.getD k (0, T0) = (34 + K, px)) := hide (by rw [hr.out, getD_some (x := (34 + p.1, p.2)) (by unfold placeC; rw [List.getElem?_map, hp]; rfl), hK, hpx])
      rw [← hpx] at r1
      rw [← hK] at r0 h1 h2
      have hlt := hM.out.lt
      have m0 := hM.out.n0 k h
      have m1 := hM.out.n1 k h
      have f0 := hM.out.free (k * 2) (by omega)
      have f1 := hM.out.free (k * 2 + 1) (by omega)
      have M2 := hide ((hM.out.set h (34 + K) px).on (grow _ (.cells #[.int .i64 K, .string px] 80)))
      have hB2 := hide (((hB.out.setCell (p := ⟨B, k * 2, none⟩) (Nat.le_refl _) (.int .i64 (34 + K))).setCell (p := ⟨B, k * 2 + 1, none⟩) (Nat.le_refl _) (.string px)).alloc (by rw [World.size_setCell, World.size_setCell]; exact Nat.le_of_lt hlt) (.cells #[.int .i64 K, .string px] 80))
      have hwK : IntKind.i64.wrap (34 + K) = 34 + K := by simp [IntKind.wrap, IntKind.bits, IntKind.signed]; omega
      clear q0 q1 hp hpx hK hx hnn hk hM
      go_wp2
      go_roundw
      case rel => exact ⟨k + 1, by omega, by go_num, hide (M2.out.congr fun j _ => by
        by_cases e : j = k
        · subst e; rw [if_pos rfl, if_pos (by omega), hkx.out]
        · rw [if_neg e]
          by_cases e2 : j < k
          · rw [if_pos e2, if_pos (by omega)]
          · rw [if_neg e2, if_neg (by omega)]), hB2⟩
      case measure => simp [intOf]; omega
    · obtain rfl : k = n := by omega
      go_wp2
      go_ret
      have M2 := hM.out.congr (g := fun j => r.getD j (0, T0)) (fun j hj => by rw [if_pos hj])
      rw [← hrl.out] at M2 hm ⊢
      exact ⟨_, rfl, M2.row hm _ (by rw [hBB.out]; omega) _ (Nat.le_refl _), hBB.out ▸ hB.out⟩

end Go.Proofs.Ytgffhnggocbjhaa
