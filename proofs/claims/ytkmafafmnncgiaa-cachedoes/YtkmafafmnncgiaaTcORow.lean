/- Layer 16: rows of words that begin anywhere in a block; what is put behind them; are they the same? -/
import Derived.Test.YtkmafafmnncgiaaTcSame
import Derived.Test.YtkmafafmnncgiaaTcOpen
import Derived.Test.YtkmafafmnncgiaaTcLaw
import Derived.Deep.AppendSrc
import Derived.Maps.AppendAt
namespace Go.Proofs.Ytkmafafmnncgiaa
open Go.RowKit
set_option linter.unusedVariables false
set_option linter.unusedSimpArgs false

/-- A row of words, in one way for all. -/
def Wd (w : World) (v : Value) (zs : List Int) : Prop :=
  ∃ ad n c, v = .slice ad n c ∧ n = zs.length ∧ n ≤ maxLen ∧ ∀ (i : Nat) z, zs[i]? = some z → ∃ b off, ad = some ⟨b, off, none⟩ ∧ b < w.heap.size ∧ w.cell? ⟨b, off + i, none⟩ = some (.int .u32 z)

theorem Row.wd {w : World} {F : Nat → Prop} {v : Value} {n : Nat} {l : List Int} (h : Row w F 32 1 v n (ints l)) : Wd w v l := by
  have hn := row_n h
  obtain ⟨ad, c, rfl, hc, hm, hx⟩ := h.open'
  refine ⟨ad, n, c, rfl, hn, hm, fun i z hz => ?_⟩
  obtain ⟨g, rfl, hg, hcell⟩ := hx i (.int .u32 z) (by simp [ints, hz])
  exact ⟨g, 0, rfl, hg, by rw [Nat.zero_add]; exact hcell⟩

theorem IsWords.wd {w : World} {v : Value} {l : List Int} (h : IsWords w v l) : Wd w v l := by
  obtain ⟨ad, n, c, rfl, hn, hm, -, hx⟩ := h.open'
  exact ⟨ad, n, c, rfl, hn, hm, fun i z hz => (hx i z hz).2⟩

theorem Wd.on {w y : World} {v : Value} {l : List Int} (h : Wd w v l) (hb : Below w.heap.size w y) : Wd y v l := by
  obtain ⟨ad, n, c, rfl, hn, hm, hx⟩ := h
  refine ⟨ad, n, c, rfl, hn, hm, fun i z hz => ?_⟩
  obtain ⟨b, off, rfl, hl, hc⟩ := hx i z hz
  exact ⟨b, off, rfl, Nat.lt_of_lt_of_le hl hb.size, by rw [← hc]; exact hb.cell (p := ⟨b, off + i, none⟩) hl⟩

set_option maxHeartbeats 4000000 in
theorem dsame_any {w : World} {a b : Value} {la lb : List Int} (ha : Wd w a la) (hb : Wd w b lb) :
    Calls Try.prog 18 #[a, b] w fun e w' => e = .returned (.bool (decide (la = lb))) ∧ Below w.heap.size w w' := by
  obtain ⟨ad, n, c, rfl, hn, hmx, hx⟩ := ha
  obtain ⟨bd, m, d, rfl, hm, hmx2, hy⟩ := hb
  unfold maxLen at hmx
  by_cases hl : n = m
  · subst hl
    obtain ⟨A, hA⟩ : ∃ A, decide (la = lb) = A := ⟨_, rfl⟩
    rw [hA]
    replace hn := hide hn
    replace hm := hide hm
    replace hx := hide hx
    replace hy := hide hy
    replace hA := hide hA
    go_enter Try.func18, Try.ntmps18
    go_wp2_with fail
    go_loopw [5] (fun i wr => ∃ k : Nat, k ≤ n ∧ i = .int .i64 (k : Int) ∧ Hid (∀ j, j < k → la[j]? = lb[j]?) ∧ Hid (Below w.heap.size w wr)) (fun i _ => n - (intOf i).toNat)
    case atStart => exact ⟨0, Nat.zero_le _, rfl, hide (fun j hj => absurd hj (Nat.not_lt_zero _)), hide (Below.refl _ _)⟩
    case round =>
      obtain ⟨k, hk, rfl, hE, hB⟩ := hrel
      by_cases hlt : k < n
      · have dk : decide ((k : Int) < (n : Int)) = true := by simp; omega
        obtain ⟨p, hp0⟩ : ∃ p, la[k]? = some p := ⟨la[k]'(by have := hn.out; omega), List.getElem?_eq_getElem _⟩
        obtain ⟨q, hq0⟩ : ∃ p, lb[k]? = some p := ⟨lb[k]'(by have := hm.out; omega), List.getElem?_eq_getElem _⟩
        obtain ⟨g, o, rfl, hg, hp1⟩ := hx.out k p hp0
        obtain ⟨g2, o2, rfl, hg2, hq1⟩ := hy.out k q hq0
        have e1 : wr.drew.cell? ⟨g, o + k, none⟩ = some (.int .u32 p) := (hB.out.cell (p := ⟨g, o + k, none⟩) hg).trans hp1
        have e2 : wr.drew.cell? ⟨g2, o2 + k, none⟩ = some (.int .u32 q) := (hB.out.cell (p := ⟨g2, o2 + k, none⟩) hg2).trans hq1
        have e3 : wr.cell? ⟨g, o + k, none⟩ = some (.int .u32 p) := e1
        have e4 : wr.cell? ⟨g2, o2 + k, none⟩ = some (.int .u32 q) := e2
        have hB2 := hide hB.out.drew
        clear hp1 hq1
        by_cases e : p = q
        · have e' : (p != q) = false := by simpa using e
          have hE2 : Hid (∀ j, j < k + 1 → la[j]? = lb[j]?) := hide (fun j hj => by
            by_cases h : j = k
            · rw [h, hp0, hq0, e]
            · exact hE.out j (by omega))
          clear e hE hp0 hq0
          go_wp2_with fail
          go_region
          go_wp2
          go_roundw
          case rel => exact ⟨k + 1, by omega, by go_num, hE2, hB2⟩
          case measure => simp [intOf]; omega
        · have e' : (p != q) = true := by simpa using e
          have hF : A = false := by
            rw [← hA.out]
            simp only [decide_eq_false_iff_not]
            intro h
            rw [h, hq0] at hp0
            exact e (Option.some.inj hp0).symm
          subst hF
          clear e hE hp0 hq0
          go_wp2_with fail
          go_region
          go_wp2
          go_ret
          exact ⟨rfl, hB2.out⟩
      · have dk : decide ((k : Int) < (n : Int)) = false := by simp; omega
        have hF : A = true := by
          rw [← hA.out]
          simp only [decide_eq_true_eq]
          apply List.ext_getElem?
          intro j
          by_cases hj : j < k
          · exact hE.out j hj
          · rw [List.getElem?_eq_none (by have := hn.out; omega), List.getElem?_eq_none (by have := hm.out; omega)]
        subst hF
        go_wp2
        go_ret
        exact ⟨rfl, hB.out⟩
  · rw [show decide (la = lb) = false by
      simp only [decide_eq_false_iff_not]
      intro h
      rw [h] at hn
      omega]
    have e : ((n : Int) == (m : Int)) = false := by simp; omega
    have e2 : ((n : Int) != (m : Int)) = true := by simp; omega
    replace hn := hide hn
    replace hm := hide hm
    clear hx hy
    go_enter Try.func18, Try.ntmps18
    go_wp2
    go_ret
    exact ⟨rfl, Below.refl _ _⟩

/-- A row of words of the call's own, from place o of block g on. -/
def ORow (w : World) (g o c : Nat) (zs : List Int) : Prop :=
  ∃ cur, w.heap[g]? = some (.cells cur 32 (0, 0)) ∧ zs.length ≤ c ∧ o + c ≤ cur.size ∧ ∀ (i : Nat) z, zs[i]? = some z → cur[o + i]? = some (.int .u32 z)

theorem ORow.keep {w y : World} {g o c : Nat} {zs : List Int} (h : ORow w g o c zs) (e : y.heap[g]? = w.heap[g]?) : ORow y g o c zs := by
  obtain ⟨cur, hg, rest⟩ := h
  exact ⟨cur, e.trans hg, rest⟩

theorem ORow.lt {w : World} {g o c : Nat} {zs : List Int} (h : ORow w g o c zs) : g < w.heap.size := by
  obtain ⟨cur, hg, rest⟩ := h
  exact (Array.getElem?_eq_some_iff.1 hg).1

theorem ORow.cell {w : World} {g o c : Nat} {zs : List Int} (h : ORow w g o c zs) {i : Nat} {z : Int} (hz : zs[i]? = some z) : w.cell? ⟨g, o + i, none⟩ = some (.int .u32 z) := by
  obtain ⟨cur, hg, -, -, hx⟩ := h
  rw [cell_of_row w g _ cur _ _ hg]
  exact hx i z hz

theorem ORow.wd {w : World} {g o c : Nat} {zs : List Int} (h : ORow w g o c zs) (hm : zs.length ≤ maxLen) : Wd w (.slice (some ⟨g, o, none⟩) zs.length c) zs :=
  ⟨_, _, _, rfl, rfl, hm, fun i z hz => ⟨g, o, rfl, h.lt, h.cell hz⟩⟩

theorem ORow.of_own {w : World} {B g cap : Nat} {zs : List Int} (h : w.ownsRow B 32 1 (.slice (some ⟨g, 0, none⟩) zs.length cap) zs.length (ints zs)) : ORow w g 0 cap zs := by
  rcases h.2 with ⟨hv, -⟩ | ⟨g', cap', cur, hv, -, hg, hc, -, hs, ht⟩
  · cases hv
  · injection hv with h1 h2 h3
    injection h1 with h1
    injection h1 with h1 _ _
    subst h1 h3
    refine ⟨cur, hg, hc, by omega, fun i z hz => ?_⟩
    have hi := (List.getElem?_eq_some_iff.1 hz).1
    have : (cur.toList.take (zs.length * 1))[i]? = some (.int .u32 z) := by rw [ht]; simp [ints, hz]
    rw [List.getElem?_take_of_lt (by omega)] at this
    rw [Nat.zero_add, ← Array.getElem?_toList]
    exact this

/-- Without the first one. -/
theorem ORow.tail {w : World} {g o c : Nat} {z : Int} {zs : List Int} (h : ORow w g o c (z :: zs)) : ORow w g (o + 1) (c - 1) zs := by
  obtain ⟨cur, hg, hc, hs, hx⟩ := h
  simp only [List.length_cons] at hc
  exact ⟨cur, hg, by omega, by omega, fun i y hy => by have := hx (i + 1) y (by simpa using hy); rw [← this]; congr 1; omega⟩

/-- One more word. -/
theorem ORow.put {w : World} {g o c : Nat} {zs : List Int} (h : ORow w g o c zs) (hl : zs.length ≤ 1000) (hcm : c ≤ maxLen) (x : Int) (a : Addr) (hx : w.cell? a = some (.int .u32 x)) (c1 : Nat) :
    ∃ g' o' c' w', (Builtin.append_ #[35, 35] 35 #[.slice (some ⟨g, o, none⟩) zs.length c, .slice (some a) 1 c1]).run Try.prog w = .ok (.slice (some ⟨g', o', none⟩) (zs.length + 1) c') w' ∧
      ORow w' g' o' c' (zs ++ [x]) ∧ c' ≤ maxLen ∧ w.grownBy w' (some g) ∧ (g' = g ∨ g' = w.heap.size) := by
  obtain ⟨i, hi, hz, hs, hb⟩ := infoW
  have ha0 : a.add 0 = a := by cases a; simp [Addr.add]
  have hnews : ∀ j u, [Value.int .u32 x][j]? = some u → w.cell? (a.add j) = some u := fun j u hj => by
    match j, hj with
    | 0, hj =>
      simp at hj
      subst hj
      rw [ha0]
      exact hx
  by_cases hroom : zs.length + 1 ≤ c
  · obtain ⟨cur, hg, hc, hsz, hcx⟩ := h
    have src := Src.ofSlice (P := Try.prog) w (size := i.size) Try.underlying35 a 1 c1 [.int .u32 x] (by rw [hs]; rfl) hnews (by simp [Value.oneCell'])
    have hr := run_append_room_src (P := Try.prog) w 35 35 35 32 i Try.underlying35 hi g o zs.length c _ 1 [.int .u32 x] src hroom
      (fun j hj => by
        obtain rfl : j = 0 := by simpa using hj
        rw [hs, cell_of_row w g _ cur _ _ hg, Array.getElem?_eq_getElem (by omega)]
        rfl)
      (fun j hj => frozen_of_row w g _ cur _ hg)
    rw [hs] at hr
    have hset : w.setCells g (o + zs.length * 1) [.int .u32 x] = w.setCell ⟨g, o + zs.length * 1, none⟩ (.int .u32 x) := rfl
    rw [hset, setCell_eq_setRow w g _ cur _ (0, 0) _ hg] at hr
    refine ⟨g, o, c, _, hr, ⟨_, setRow_heap w g cur _ _ _ hg, by simp; omega, by simp; omega, fun j z hj => ?_⟩, hcm, ⟨rfl, rfl, rfl, by simp, fun k _ hk => setRow_other w g k _ (fun e => hk (by rw [e]))⟩, .inl rfl⟩
    rw [Array.getElem?_setIfInBounds, Nat.mul_one]
    by_cases hjl : j < zs.length
    · rw [if_neg (by omega)]
      rw [List.getElem?_append_left hjl] at hj
      exact hcx j z hj
    · rw [List.getElem?_append_right (by omega)] at hj
      have hj0 : j - zs.length = 0 := by
        have := (List.getElem?_eq_some_iff.1 hj).1
        simpa using this
      rw [hj0] at hj
      simp at hj
      subst hj
      rw [if_pos (by omega), if_pos (by omega)]
  · have hcells : ∀ j v, (ints zs)[j]? = some v → w.cell? ((⟨g, o, none⟩ : Addr).add j) = some v := fun j v hj => by
      rw [Addr.add_lit]
      simp only [ints, List.getElem?_map, Option.map_eq_some_iff] at hj
      obtain ⟨z, hz', rfl⟩ := hj
      exact h.cell hz'
    have hr := run_append_grow (P := Try.prog) w 35 35 32 i _ Try.underlying35 hi hz ⟨g, o, none⟩ zs.length c (ints zs) (by rw [ints_len, hs, Nat.mul_one]) hcells a 1 c1 [.int .u32 x] (by rw [hs]; rfl) hnews (by omega) (by omega) (growslice_fits (by omega) (by rw [hb]; omega))
    have hge := grownCap_ge w (zs.length + 1) c 32
    refine ⟨w.heap.size, 0, _, _, hr, ⟨_, heap_alloc_new w.drew _, by simpa using hge, ?_, fun j z hj => ?_⟩, grownCap_le_maxLen w (zs.length + 1) c 32 (by unfold maxLen; omega), ⟨rfl, rfl, rfl, by simp, fun k hk _ => heap_alloc_old w.drew _ hk⟩, .inr rfl⟩
    · simp only [Array.size_append, List.size_toArray, size_zeroCells, ints_len, List.length_cons, List.length_nil, Value.cells, Array.size_singleton, List.size_toArray]
      simp
      omega
    · rw [Nat.zero_add, Array.getElem?_append_left (by
        have := (List.getElem?_eq_some_iff.1 hj).1
        simp [ints_len] at this ⊢
        omega)]
      have : (ints zs).toArray ++ [Value.int .u32 x].toArray = (ints (zs ++ [x])).toArray := by rw [ints_app]; simp [ints]
      rw [this, List.getElem?_toArray]
      unfold ints
      rw [List.getElem?_map, hj]
      rfl

end Go.Proofs.Ytkmafafmnncgiaa
