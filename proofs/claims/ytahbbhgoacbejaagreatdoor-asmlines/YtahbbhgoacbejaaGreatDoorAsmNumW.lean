/- The walk of the document's numbers: all numbers that stand in a text. -/
import Derived.Test.YtahbbhgoacbejaaGreatDoorAsmNumM
import Derived.Test.YtahbbhgoacbejaaGreatDoorAsmLined
set_option linter.unusedVariables false
set_option linter.unusedSimpArgs false
namespace Go.Proofs.YtahbbhgoacbejaaGreatDoor
open Go.RowKit Go.Shelf Go.Joins

/-- Is the byte ahead of a place a minus? -/
def Asm.minusAt (l : List UInt8) (k : Nat) : Bool := match k with | 0 => false | k + 1 => l[k]? == some 45

/-- Digits that have been gone over: from a place K to q, j of them, of the number n. -/
structure Asm.Step (l : List UInt8) (K q j n : Nat) : Prop where
  at_ : q = K + j
  all : ∀ c ∈ (l.drop K).take j, Asm.dig c = true
  num : n = (Asm.inner ((l.drop K).take j) 0 0).1
  len : ((l.drop K).take j).length = j

theorem Asm.Step.zero (l : List UInt8) (K : Nat) : Asm.Step l K K 0 0 := ⟨rfl, by simp, rfl, by simp⟩

theorem Asm.inner_lt : ∀ (l : List UInt8), (∀ c ∈ l, Asm.dig c = true) → ∀ n m, n < 10 ^ (min m 8) → (Asm.inner l n m).1 < 10 ^ (min (m + l.length) 8)
  | [], _, n, m, h => by simpa [Asm.inner] using h
  | c :: l, hl, n, m, h => by
    have hc := hl c List.mem_cons_self
    simp [Asm.dig] at hc
    rw [Asm.inner, List.length_cons]
    have ih := Asm.inner_lt l (fun c hc => hl c (List.mem_cons_of_mem _ hc)) (if m < 8 then 10 * n + (c.toNat - 48) else n) (m + 1) (by
      by_cases hm : m < 8
      · rw [if_pos hm]
        rw [Nat.min_eq_left (by omega)] at h
        rw [Nat.min_eq_left (by omega), Nat.pow_succ]
        omega
      · rw [if_neg hm]
        rw [Nat.min_eq_right (by omega)] at h ⊢
        exact h)
    rw [show m + 1 + l.length = m + (l.length + 1) by omega] at ih
    exact ih

theorem Asm.Step.small {s : ByteArray} {K q j n : Nat} (h : Asm.Step s.data.toList K q j n) (hs : s.size ≤ 1048576) : n < 100000000 ∧ (j < 8 → n < 10000000) ∧ j ≤ 1048576 := by
  have h1 := Asm.inner_lt _ h.all 0 0 (by simp)
  rw [← h.num, h.len, Nat.zero_add] at h1
  have h2 : j ≤ 1048576 := by
    have := h.len
    have e : s.data.toList.length = s.size := rfl
    rw [List.length_take, List.length_drop] at this
    omega
  refine ⟨Nat.lt_of_lt_of_le h1 ?_, fun hj => Nat.lt_of_lt_of_le h1 ?_, h2⟩
  · exact Nat.pow_le_pow_right (by decide) (Nat.min_le_right _ _)
  · exact Nat.le_trans (Nat.pow_le_pow_right (by decide) (show min j 8 ≤ 7 by omega)) (by decide)

theorem Asm.Step.more {l : List UInt8} {K q j n : Nat} {S : Nat} (h : Asm.Step l K q j n) (q' : Nat) (hq : q < S) {c : UInt8} (hc : l[q]? = some c) (hd : Asm.dig c = true) : Asm.Step l K (q + 1) (j + 1) (if j < 8 then 10 * n + (c.toNat - 48) else n) := by
  have e : (l.drop K).take (j + 1) = (l.drop K).take j ++ [c] := by
    rw [List.take_add_one, List.getElem?_drop, ← h.at_, hc]
    rfl
  have hm := Asm.inner_many ((l.drop K).take j) 0 0
  rw [h.len, Nat.zero_add] at hm
  refine ⟨by have := h.at_; omega, ?_, ?_, ?_⟩
  · rw [e]
    intro x hx
    rcases List.mem_append.mp hx with hx | hx
    · exact h.all x hx
    · rw [List.mem_singleton] at hx; rw [hx]; exact hd
  · rw [e, Asm.inner_snoc, hm, ← h.num]
  · rw [e, List.length_append, h.len]; rfl

theorem Asm.Step.parts {l : List UInt8} {K q j n : Nat} (h : Asm.Step l K q j n) : l.drop K = (l.drop K).take j ++ l.drop q := by
  rw [h.at_, ← List.drop_drop, List.take_append_drop]

theorem Asm.Step.none_ {l : List UInt8} {K q n : Nat} (h : Asm.Step l K q 0 n) (hK : K < l.length) (mb : Bool) (hf : Asm.flat (l.drop q)) : Asm.numsF (l.drop K) mb = Asm.numsF (l.drop (K + 1)) (Asm.minusAt l (K + 1)) ∧ q = K := by
  obtain rfl : q = K := h.at_
  refine ⟨?_, rfl⟩
  rw [List.drop_eq_getElem_cons hK] at hf ⊢
  rw [Asm.numsF_skip mb (hf _ _ rfl)]
  have : Asm.minusAt l (q + 1) = (l[q] == 45) := by
    show (l[q]? == some 45) = _
    rw [List.getElem?_eq_getElem hK]
    rfl
  rw [this]

theorem Asm.Step.some_ {l : List UInt8} {K q j n : Nat} (h : Asm.Step l K q j n) (hj : 0 < j) (mb : Bool) (hf : Asm.flat (l.drop q)) : Asm.numsF (l.drop K) mb = (if mb then -(n : Int) else (n : Int)) :: Asm.numsF (l.drop q) (Asm.minusAt l q) := by
  obtain ⟨h1, h2⟩ := Asm.take_dig _ _ h.all hf
  rw [← h.parts] at h1 h2
  have hl := h.len
  obtain ⟨j', rfl⟩ : ∃ j', j = j' + 1 := ⟨j - 1, by omega⟩
  have hK : K < l.length := by
    rw [List.length_take, List.length_drop] at hl
    omega
  have hc : Asm.dig l[K] = true := by
    refine h.all _ ?_
    rw [List.drop_eq_getElem_cons hK, List.take_succ_cons]
    exact List.mem_cons_self
  have hm : Asm.minusAt l q = false := by
    have hq := h.at_
    have hlt : K + j' < l.length := by
      rw [List.length_take, List.length_drop] at hl
      omega
    have hd : Asm.dig l[K + j'] = true := by
      refine h.all _ ?_
      refine List.mem_iff_getElem?.mpr ⟨j', ?_⟩
      rw [List.getElem?_take, if_pos (by omega), List.getElem?_drop, List.getElem?_eq_getElem hlt]
    rw [hq]
    show (l[K + j']? == some 45) = false
    rw [List.getElem?_eq_getElem hlt]
    have : l[K + j'] ≠ 45 := fun e => by rw [e] at hd; exact absurd hd (by decide)
    simpa using this
  rw [hm]
  have hn := h.num
  rw [← h1] at hn
  rw [List.drop_eq_getElem_cons hK] at h2 hn ⊢
  rw [Asm.numsF_take mb hc, h2, ← hn]

theorem flat_end (s : ByteArray) (q : Nat) (h : s.size ≤ q) : Asm.flat (s.data.toList.drop q) := by
  intro c r e
  rw [List.drop_of_length_le (show s.data.toList.length ≤ q from h)] at e
  cases e

theorem flat_at (s : ByteArray) (q : Nat) (h : q < s.size) (hd : Asm.dig (s[q]'h) = false) : Asm.flat (s.data.toList.drop q) := by
  intro c r e
  rw [List.drop_eq_getElem_cons (show q < s.data.toList.length from h)] at e
  injection e with e1 e2
  rw [← e1]
  exact hd

theorem dig_not (c : UInt8) (h : Asm.dig c = false) : ¬ (48 : Int) ≤ c.toNat ∨ ((48 : Int) ≤ c.toNat ∧ ¬ (c.toNat : Int) ≤ 57) := by
  simp [Asm.dig] at h
  by_cases h1 : 48 ≤ c.toNat
  · right
    have := h h1
    omega
  · left
    omega

theorem dig_facts (c : UInt8) (h : Asm.dig c = true) : decide ((c.toNat : Int) ≥ 48) = true ∧ decide ((c.toNat : Int) ≤ 57) = true ∧ (48 : Int) ≤ c.toNat ∧ (c.toNat : Int) ≤ 57 := by
  simp [Asm.dig] at h
  refine ⟨by simp; omega, by simp; omega, by omega, by omega⟩

theorem byte_at (s : ByteArray) (k : Nat) (h : k < s.size) : s.data.toList[k]? = some (s[k]'h) := by
  rw [List.getElem?_eq_getElem (show k < s.data.toList.length from h)]
  rfl
theorem minus_is (s : ByteArray) (k : Nat) (h : k < s.size) : (((s[k]'h).toNat : Int) == 45) = Asm.minusAt s.data.toList (k + 1) := by
  show _ = (s.data.toList[k]? == some 45)
  rw [byte_at s k h]
  by_cases e : s[k]'h = 45
  · rw [e]; rfl
  · have h1 : (s[k]'h).toNat ≠ 45 := fun e' => e (UInt8.toNat_inj.mp e')
    have h2 : (some (s[k]'h) == some (45 : UInt8)) = false := by simpa using e
    rw [h2]
    simp
    omega

set_option maxHeartbeats 4000000 in
set_option maxRecDepth 100000 in
theorem numbers_any (s : ByteArray) (hs : s.size ≤ 1048576) (w : World) :
    Calls Tryz.prog 20 #[.string s] w fun e' w' => (∃ v, e' = .returned v ∧ w'.ownsRow w.heap.size 3 1 v (Asm.numsF s.data.toList false).length ((Asm.numsF s.data.toList false).map (.int .i64 ·))) ∧ Below w.heap.size w w' := by
  have hi0 : (Tryz.prog.info? 3).map (fun i => (i.zero, i.size, i.bytes)) = some (some (.int .i64 0), 1, 8) := by kernel_rfl
  obtain ⟨i0, hi, hz0, hz1, hz2⟩ := info_parts hi0
  go_enter Tryz.func20, Tryz.ntmps20
  go_wp2_with fail
  have g0 := grow w (.cells #[] 3)
  have o0 : (w.alloc (.cells #[] 3)).ownsRow w.heap.size 3 1 (.slice (some ⟨w.heap.size, 0, none⟩) 0 0) 0 [] :=
    ⟨rfl, Or.inr ⟨w.heap.size, 0, #[], rfl, Nat.le_refl _, World.alloc_heap_new w _, Nat.le_refl _, by unfold maxLen; omega, rfl, rfl⟩⟩
  go_loopw [3, 4] (fun v i wr => ∃ (k : Nat) (ws : List Int), k ≤ s.size ∧ i = .int .i64 (k : Int) ∧ Hid (Asm.numsF s.data.toList false = ws ++ Asm.numsF (s.data.toList.drop k) (Asm.minusAt s.data.toList k)) ∧ ws.length ≤ k ∧
      Hid (wr.ownsRow w.heap.size 3 1 v ws.length (ws.map (.int .i64 ·))) ∧ Hid (Below w.heap.size w wr)) (fun _ i _ => s.size - (Lib.intOf i).toNat)
  case atStart => exact ⟨0, [], by omega, rfl, hide rfl, by simp, hide o0, hide g0⟩
  case round =>
    obtain ⟨k, ws, hk, rfl, hnum, hwl, hown, hb⟩ := hrel
    by_cases hlt : k < s.size
    · have hl : (k : Int) < (s.size : Int) := by omega
      obtain ⟨mb, hmb⟩ : ∃ b, Asm.minusAt s.data.toList k = b := ⟨_, rfl⟩
      rw [hmb] at hnum
      have hcut : ∃ k' : Nat, (k = 0 ∧ mb = false) ∨ (∃ h : k' < s.size, k = k' + 1 ∧ (((s[k']'h).toNat : Int) == 45) = mb) := by
        cases k with
        | zero => exact ⟨0, Or.inl ⟨rfl, hmb.symm⟩⟩
        | succ k' =>
          refine ⟨k', Or.inr ⟨by omega, rfl, ?_⟩⟩
          rw [← hmb]
          exact minus_is s k' (by omega)
      obtain ⟨k', ⟨rfl, rfl⟩ | ⟨hk', rfl, hmi⟩⟩ := hcut
      · clear hmb
        go_wp2_with fail
        go_loopw [4, 6, 7] (fun i a m wr' => ∃ (q j n : Nat), q ≤ s.size ∧ i = .int .i64 (q : Int) ∧ a = .int .i64 (n : Int) ∧ m = .int .i64 (j : Int) ∧ Hid (Asm.Step s.data.toList (0) q j n) ∧ wr' = wr) (fun i _ _ _ => s.size - (Lib.intOf i).toNat)
        case atStart => exact ⟨0, 0, 0, by omega, by simp, rfl, rfl, hide (Asm.Step.zero _ _), rfl⟩
        case round =>
          obtain ⟨q, j, n, hq, rfl, rfl, rfl, hst, rfl⟩ := hrel
          obtain ⟨hn1, hn2, hj1⟩ := hst.out.small hs
          by_cases hqs : q < s.size
          · have hql : (q : Int) < (s.size : Int) := by omega
            by_cases hdig : Asm.dig (s[q]'hqs) = true
            · obtain ⟨hd1, hd2, hd3, hd4⟩ := dig_facts (s[q]'hqs) hdig
              have hst2 := hide (hst.out.more q hqs (byte_at s q hqs) hdig)
              clear hd1 hd2
              by_cases hj8 : j < 8
              · rw [if_pos hj8] at hst2
                have hj8' : (j : Int) < 8 := by omega
                have hn3 := hn2 hj8
                have e1 : (10 * (n : Int) + ((s[q]'hqs).toNat : Int) - 48) = ((10 * n + ((s[q]'hqs).toNat - 48) : Nat) : Int) := by omega
                clear hn2 hst hdig
                go_wp2
                go_roundw
                case rel => exact ⟨q + 1, j + 1, 10 * n + ((s[q]'hqs).toNat - 48), hqs, by simp, congrArg (Value.int .i64) (by omega), by simp, hst2, trivial⟩
                case measure => simp [Lib.intOf]; omega
              · rw [if_neg hj8] at hst2
                have hj8' : ¬ (j : Int) < 8 := by omega
                clear hn2 hst hdig
                go_wp2
                go_roundw
                case rel => exact ⟨q + 1, j + 1, n, hqs, by simp, rfl, by simp, hst2, trivial⟩
                case measure => simp [Lib.intOf]; omega
            · have hfl := hide (flat_at s q hqs (by simpa using hdig))
              rcases dig_not (s[q]'hqs) (by simpa using hdig) with hd1 | ⟨hd1, hd2⟩
              · clear hdig hn2
                by_cases hj : j = 0
                · obtain rfl := hj
                  obtain ⟨hnx, rfl⟩ := hst.out.none_ (show 0 < s.data.toList.length from hlt) false hfl.out
                  have hr : Hid (Asm.numsF s.data.toList false = ws ++ Asm.numsF (s.data.toList.drop (0 + 1)) (Asm.minusAt s.data.toList (0 + 1))) := hide (by rw [hnum.out, hnx])
                  clear hnx hst hfl hnum
                  go_wp2
                  exact ⟨⟨0 + 1, ws, by omega, by simp, hr, by omega, hown, hb⟩, by simp [Lib.intOf]; omega⟩
                · have hj0 : ¬ (j : Int) = 0 := by omega
                  have hnx := hst.out.some_ (by omega) false hfl.out
                  have hqk : 0 + 1 ≤ q := by have := hst.out.at_; omega
                  rw [if_neg (by decide)] at hnx
                  have hr : Hid (Asm.numsF s.data.toList false = (ws ++ [(n : Int)]) ++ Asm.numsF (s.data.toList.drop q) (Asm.minusAt s.data.toList q)) := hide (by rw [hnum.out, hnx, List.append_assoc]; rfl)
                  have hsz := hb.out.size
                  clear hnx hst hfl hnum
                  go_wp2_with (at_builtin; refine wpList_append_own _ rfl _ _ 45 rfl w.heap.size 3 i0 (.int .i64 0) 1 8 Tryz.underlying45 hi hz0 hz1 hz2 rfl (by decide) _ _ _ rfl (hown.out.alloc _) ⟨wr.heap.size, 0, none⟩ 1 1 [.int .i64 ((n : Int))] rfl rfl (cell_one_new _ _ _) (by simp [Value.oneCell']) (by unfold maxLen; omega) (by omega) (by simp; omega) ?_)
                  intro v' w4 hown' hgrow _
                  have b4 : Below w.heap.size w w4 := by
                    refine (hb.out.alloc hsz _).grown hgrow (by simp; omega) (fun k hk => ?_)
                    rcases hown.out.2 with ⟨rfl, -⟩ | ⟨g, cap, cur, rfl, hg, -⟩
                    · cases hk
                    · cases hk; exact hg
                  obtain ⟨g', cap', rfl⟩ := ownsRow_succ hown'
                  have hown4 : Hid (w4.ownsRow w.heap.size 3 1 (.slice (some ⟨g', 0, none⟩) (ws.length + 1) cap') (ws ++ [(n : Int)]).length ((ws ++ [(n : Int)]).map (.int .i64 ·))) := hide (by
                    rw [List.map_append, List.length_append]
                    exact hown')
                  replace b4 := hide b4
                  clear hown' hgrow hown
                  go_wp2
                  exact ⟨⟨q, _, hq, rfl, hr, by simp; omega, hown4, b4⟩, by simp [Lib.intOf]; omega⟩
              · clear hdig hn2
                by_cases hj : j = 0
                · obtain rfl := hj
                  obtain ⟨hnx, rfl⟩ := hst.out.none_ (show 0 < s.data.toList.length from hlt) false hfl.out
                  have hr : Hid (Asm.numsF s.data.toList false = ws ++ Asm.numsF (s.data.toList.drop (0 + 1)) (Asm.minusAt s.data.toList (0 + 1))) := hide (by rw [hnum.out, hnx])
                  clear hnx hst hfl hnum
                  go_wp2
                  exact ⟨⟨0 + 1, ws, by omega, by simp, hr, by omega, hown, hb⟩, by simp [Lib.intOf]; omega⟩
                · have hj0 : ¬ (j : Int) = 0 := by omega
                  have hnx := hst.out.some_ (by omega) false hfl.out
                  have hqk : 0 + 1 ≤ q := by have := hst.out.at_; omega
                  rw [if_neg (by decide)] at hnx
                  have hr : Hid (Asm.numsF s.data.toList false = (ws ++ [(n : Int)]) ++ Asm.numsF (s.data.toList.drop q) (Asm.minusAt s.data.toList q)) := hide (by rw [hnum.out, hnx, List.append_assoc]; rfl)
                  have hsz := hb.out.size
                  clear hnx hst hfl hnum
                  go_wp2_with (at_builtin; refine wpList_append_own _ rfl _ _ 45 rfl w.heap.size 3 i0 (.int .i64 0) 1 8 Tryz.underlying45 hi hz0 hz1 hz2 rfl (by decide) _ _ _ rfl (hown.out.alloc _) ⟨wr.heap.size, 0, none⟩ 1 1 [.int .i64 ((n : Int))] rfl rfl (cell_one_new _ _ _) (by simp [Value.oneCell']) (by unfold maxLen; omega) (by omega) (by simp; omega) ?_)
                  intro v' w4 hown' hgrow _
                  have b4 : Below w.heap.size w w4 := by
                    refine (hb.out.alloc hsz _).grown hgrow (by simp; omega) (fun k hk => ?_)
                    rcases hown.out.2 with ⟨rfl, -⟩ | ⟨g, cap, cur, rfl, hg, -⟩
                    · cases hk
                    · cases hk; exact hg
                  obtain ⟨g', cap', rfl⟩ := ownsRow_succ hown'
                  have hown4 : Hid (w4.ownsRow w.heap.size 3 1 (.slice (some ⟨g', 0, none⟩) (ws.length + 1) cap') (ws ++ [(n : Int)]).length ((ws ++ [(n : Int)]).map (.int .i64 ·))) := hide (by
                    rw [List.map_append, List.length_append]
                    exact hown')
                  replace b4 := hide b4
                  clear hown' hgrow hown
                  go_wp2
                  exact ⟨⟨q, _, hq, rfl, hr, by simp; omega, hown4, b4⟩, by simp [Lib.intOf]; omega⟩
          · have hfl := hide (flat_end s q (by omega))
            have hql : ¬ (q : Int) < (s.size : Int) := by omega
            clear hn2
            by_cases hj : j = 0
            · obtain rfl := hj
              obtain ⟨hnx, rfl⟩ := hst.out.none_ (show 0 < s.data.toList.length from hlt) false hfl.out
              exact absurd hlt hqs
            · have hj0 : ¬ (j : Int) = 0 := by omega
              have hnx := hst.out.some_ (by omega) false hfl.out
              have hqk : 0 + 1 ≤ q := by have := hst.out.at_; omega
              rw [if_neg (by decide)] at hnx
              have hr : Hid (Asm.numsF s.data.toList false = (ws ++ [(n : Int)]) ++ Asm.numsF (s.data.toList.drop q) (Asm.minusAt s.data.toList q)) := hide (by rw [hnum.out, hnx, List.append_assoc]; rfl)
              have hsz := hb.out.size
              clear hnx hst hfl hnum
              go_wp2_with (at_builtin; refine wpList_append_own _ rfl _ _ 45 rfl w.heap.size 3 i0 (.int .i64 0) 1 8 Tryz.underlying45 hi hz0 hz1 hz2 rfl (by decide) _ _ _ rfl (hown.out.alloc _) ⟨wr.heap.size, 0, none⟩ 1 1 [.int .i64 ((n : Int))] rfl rfl (cell_one_new _ _ _) (by simp [Value.oneCell']) (by unfold maxLen; omega) (by omega) (by simp; omega) ?_)
              intro v' w4 hown' hgrow _
              have b4 : Below w.heap.size w w4 := by
                refine (hb.out.alloc hsz _).grown hgrow (by simp; omega) (fun k hk => ?_)
                rcases hown.out.2 with ⟨rfl, -⟩ | ⟨g, cap, cur, rfl, hg, -⟩
                · cases hk
                · cases hk; exact hg
              obtain ⟨g', cap', rfl⟩ := ownsRow_succ hown'
              have hown4 : Hid (w4.ownsRow w.heap.size 3 1 (.slice (some ⟨g', 0, none⟩) (ws.length + 1) cap') (ws ++ [(n : Int)]).length ((ws ++ [(n : Int)]).map (.int .i64 ·))) := hide (by
                rw [List.map_append, List.length_append]
                exact hown')
              replace b4 := hide b4
              clear hown' hgrow hown
              go_wp2
              exact ⟨⟨q, _, hq, rfl, hr, by simp; omega, hown4, b4⟩, by simp [Lib.intOf]; omega⟩
      · clear hmb
        have c1 : (k' : Int) < (s.size : Int) := by omega
        go_wp2_with fail
        go_loopw [4, 6, 7] (fun i a m wr' => ∃ (q j n : Nat), q ≤ s.size ∧ i = .int .i64 (q : Int) ∧ a = .int .i64 (n : Int) ∧ m = .int .i64 (j : Int) ∧ Hid (Asm.Step s.data.toList (k' + 1) q j n) ∧ wr' = wr) (fun i _ _ _ => s.size - (Lib.intOf i).toNat)
        case atStart => exact ⟨k' + 1, 0, 0, by omega, by simp, rfl, rfl, hide (Asm.Step.zero _ _), rfl⟩
        case round =>
          obtain ⟨q, j, n, hq, rfl, rfl, rfl, hst, rfl⟩ := hrel
          obtain ⟨hn1, hn2, hj1⟩ := hst.out.small hs
          by_cases hqs : q < s.size
          · have hql : (q : Int) < (s.size : Int) := by omega
            by_cases hdig : Asm.dig (s[q]'hqs) = true
            · obtain ⟨hd1, hd2, hd3, hd4⟩ := dig_facts (s[q]'hqs) hdig
              have hst2 := hide (hst.out.more q hqs (byte_at s q hqs) hdig)
              clear hd1 hd2
              by_cases hj8 : j < 8
              · rw [if_pos hj8] at hst2
                have hj8' : (j : Int) < 8 := by omega
                have hn3 := hn2 hj8
                have e1 : (10 * (n : Int) + ((s[q]'hqs).toNat : Int) - 48) = ((10 * n + ((s[q]'hqs).toNat - 48) : Nat) : Int) := by omega
                clear hn2 hst hdig
                go_wp2
                go_roundw
                case rel => exact ⟨q + 1, j + 1, 10 * n + ((s[q]'hqs).toNat - 48), hqs, by simp, congrArg (Value.int .i64) (by omega), by simp, hst2, trivial⟩
                case measure => simp [Lib.intOf]; omega
              · rw [if_neg hj8] at hst2
                have hj8' : ¬ (j : Int) < 8 := by omega
                clear hn2 hst hdig
                go_wp2
                go_roundw
                case rel => exact ⟨q + 1, j + 1, n, hqs, by simp, rfl, by simp, hst2, trivial⟩
                case measure => simp [Lib.intOf]; omega
            · have hfl := hide (flat_at s q hqs (by simpa using hdig))
              rcases dig_not (s[q]'hqs) (by simpa using hdig) with hd1 | ⟨hd1, hd2⟩
              · clear hdig hn2
                by_cases hj : j = 0
                · obtain rfl := hj
                  obtain ⟨hnx, rfl⟩ := hst.out.none_ (show k' + 1 < s.data.toList.length from hlt) mb hfl.out
                  have hr : Hid (Asm.numsF s.data.toList false = ws ++ Asm.numsF (s.data.toList.drop (k' + 1 + 1)) (Asm.minusAt s.data.toList (k' + 1 + 1))) := hide (by rw [hnum.out, hnx])
                  clear hnx hst hfl hnum
                  go_wp2
                  exact ⟨⟨k' + 1 + 1, ws, by omega, by simp, hr, by omega, hown, hb⟩, by simp [Lib.intOf]; omega⟩
                · have hj0 : ¬ (j : Int) = 0 := by omega
                  have hnx := hst.out.some_ (by omega) mb hfl.out
                  have hqk : k' + 1 + 1 ≤ q := by have := hst.out.at_; omega
                  cases mb with
                  | false =>
                    rw [if_neg (by decide)] at hnx
                    have hr : Hid (Asm.numsF s.data.toList false = (ws ++ [(n : Int)]) ++ Asm.numsF (s.data.toList.drop q) (Asm.minusAt s.data.toList q)) := hide (by rw [hnum.out, hnx, List.append_assoc]; rfl)
                    have hsz := hb.out.size
                    clear hnx hst hfl hnum
                    go_wp2_with (at_builtin; refine wpList_append_own _ rfl _ _ 45 rfl w.heap.size 3 i0 (.int .i64 0) 1 8 Tryz.underlying45 hi hz0 hz1 hz2 rfl (by decide) _ _ _ rfl (hown.out.alloc _) ⟨wr.heap.size, 0, none⟩ 1 1 [.int .i64 ((n : Int))] rfl rfl (cell_one_new _ _ _) (by simp [Value.oneCell']) (by unfold maxLen; omega) (by omega) (by simp; omega) ?_)
                    intro v' w4 hown' hgrow _
                    have b4 : Below w.heap.size w w4 := by
                      refine (hb.out.alloc hsz _).grown hgrow (by simp; omega) (fun k hk => ?_)
                      rcases hown.out.2 with ⟨rfl, -⟩ | ⟨g, cap, cur, rfl, hg, -⟩
                      · cases hk
                      · cases hk; exact hg
                    obtain ⟨g', cap', rfl⟩ := ownsRow_succ hown'
                    have hown4 : Hid (w4.ownsRow w.heap.size 3 1 (.slice (some ⟨g', 0, none⟩) (ws.length + 1) cap') (ws ++ [(n : Int)]).length ((ws ++ [(n : Int)]).map (.int .i64 ·))) := hide (by
                      rw [List.map_append, List.length_append]
                      exact hown')
                    replace b4 := hide b4
                    clear hown' hgrow hown
                    go_wp2
                    exact ⟨⟨q, _, hq, rfl, hr, by simp; omega, hown4, b4⟩, by simp [Lib.intOf]; omega⟩
                  | true =>
                    rw [if_pos rfl] at hnx
                    have hr : Hid (Asm.numsF s.data.toList false = (ws ++ [-(n : Int)]) ++ Asm.numsF (s.data.toList.drop q) (Asm.minusAt s.data.toList q)) := hide (by rw [hnum.out, hnx, List.append_assoc]; rfl)
                    have hsz := hb.out.size
                    clear hnx hst hfl hnum
                    go_wp2_with (at_builtin; refine wpList_append_own _ rfl _ _ 45 rfl w.heap.size 3 i0 (.int .i64 0) 1 8 Tryz.underlying45 hi hz0 hz1 hz2 rfl (by decide) _ _ _ rfl (hown.out.alloc _) ⟨wr.heap.size, 0, none⟩ 1 1 [.int .i64 (-(n : Int))] rfl rfl (cell_one_new _ _ _) (by simp [Value.oneCell']) (by unfold maxLen; omega) (by omega) (by simp; omega) ?_)
                    intro v' w4 hown' hgrow _
                    have b4 : Below w.heap.size w w4 := by
                      refine (hb.out.alloc hsz _).grown hgrow (by simp; omega) (fun k hk => ?_)
                      rcases hown.out.2 with ⟨rfl, -⟩ | ⟨g, cap, cur, rfl, hg, -⟩
                      · cases hk
                      · cases hk; exact hg
                    obtain ⟨g', cap', rfl⟩ := ownsRow_succ hown'
                    have hown4 : Hid (w4.ownsRow w.heap.size 3 1 (.slice (some ⟨g', 0, none⟩) (ws.length + 1) cap') (ws ++ [-(n : Int)]).length ((ws ++ [-(n : Int)]).map (.int .i64 ·))) := hide (by
                      rw [List.map_append, List.length_append]
                      exact hown')
                    replace b4 := hide b4
                    clear hown' hgrow hown
                    go_wp2
                    exact ⟨⟨q, _, hq, rfl, hr, by simp; omega, hown4, b4⟩, by simp [Lib.intOf]; omega⟩
              · clear hdig hn2
                by_cases hj : j = 0
                · obtain rfl := hj
                  obtain ⟨hnx, rfl⟩ := hst.out.none_ (show k' + 1 < s.data.toList.length from hlt) mb hfl.out
                  have hr : Hid (Asm.numsF s.data.toList false = ws ++ Asm.numsF (s.data.toList.drop (k' + 1 + 1)) (Asm.minusAt s.data.toList (k' + 1 + 1))) := hide (by rw [hnum.out, hnx])
                  clear hnx hst hfl hnum
                  go_wp2
                  exact ⟨⟨k' + 1 + 1, ws, by omega, by simp, hr, by omega, hown, hb⟩, by simp [Lib.intOf]; omega⟩
                · have hj0 : ¬ (j : Int) = 0 := by omega
                  have hnx := hst.out.some_ (by omega) mb hfl.out
                  have hqk : k' + 1 + 1 ≤ q := by have := hst.out.at_; omega
                  cases mb with
                  | false =>
                    rw [if_neg (by decide)] at hnx
                    have hr : Hid (Asm.numsF s.data.toList false = (ws ++ [(n : Int)]) ++ Asm.numsF (s.data.toList.drop q) (Asm.minusAt s.data.toList q)) := hide (by rw [hnum.out, hnx, List.append_assoc]; rfl)
                    have hsz := hb.out.size
                    clear hnx hst hfl hnum
                    go_wp2_with (at_builtin; refine wpList_append_own _ rfl _ _ 45 rfl w.heap.size 3 i0 (.int .i64 0) 1 8 Tryz.underlying45 hi hz0 hz1 hz2 rfl (by decide) _ _ _ rfl (hown.out.alloc _) ⟨wr.heap.size, 0, none⟩ 1 1 [.int .i64 ((n : Int))] rfl rfl (cell_one_new _ _ _) (by simp [Value.oneCell']) (by unfold maxLen; omega) (by omega) (by simp; omega) ?_)
                    intro v' w4 hown' hgrow _
                    have b4 : Below w.heap.size w w4 := by
                      refine (hb.out.alloc hsz _).grown hgrow (by simp; omega) (fun k hk => ?_)
                      rcases hown.out.2 with ⟨rfl, -⟩ | ⟨g, cap, cur, rfl, hg, -⟩
                      · cases hk
                      · cases hk; exact hg
                    obtain ⟨g', cap', rfl⟩ := ownsRow_succ hown'
                    have hown4 : Hid (w4.ownsRow w.heap.size 3 1 (.slice (some ⟨g', 0, none⟩) (ws.length + 1) cap') (ws ++ [(n : Int)]).length ((ws ++ [(n : Int)]).map (.int .i64 ·))) := hide (by
                      rw [List.map_append, List.length_append]
                      exact hown')
                    replace b4 := hide b4
                    clear hown' hgrow hown
                    go_wp2
                    exact ⟨⟨q, _, hq, rfl, hr, by simp; omega, hown4, b4⟩, by simp [Lib.intOf]; omega⟩
                  | true =>
                    rw [if_pos rfl] at hnx
                    have hr : Hid (Asm.numsF s.data.toList false = (ws ++ [-(n : Int)]) ++ Asm.numsF (s.data.toList.drop q) (Asm.minusAt s.data.toList q)) := hide (by rw [hnum.out, hnx, List.append_assoc]; rfl)
                    have hsz := hb.out.size
                    clear hnx hst hfl hnum
                    go_wp2_with (at_builtin; refine wpList_append_own _ rfl _ _ 45 rfl w.heap.size 3 i0 (.int .i64 0) 1 8 Tryz.underlying45 hi hz0 hz1 hz2 rfl (by decide) _ _ _ rfl (hown.out.alloc _) ⟨wr.heap.size, 0, none⟩ 1 1 [.int .i64 (-(n : Int))] rfl rfl (cell_one_new _ _ _) (by simp [Value.oneCell']) (by unfold maxLen; omega) (by omega) (by simp; omega) ?_)
                    intro v' w4 hown' hgrow _
                    have b4 : Below w.heap.size w w4 := by
                      refine (hb.out.alloc hsz _).grown hgrow (by simp; omega) (fun k hk => ?_)
                      rcases hown.out.2 with ⟨rfl, -⟩ | ⟨g, cap, cur, rfl, hg, -⟩
                      · cases hk
                      · cases hk; exact hg
                    obtain ⟨g', cap', rfl⟩ := ownsRow_succ hown'
                    have hown4 : Hid (w4.ownsRow w.heap.size 3 1 (.slice (some ⟨g', 0, none⟩) (ws.length + 1) cap') (ws ++ [-(n : Int)]).length ((ws ++ [-(n : Int)]).map (.int .i64 ·))) := hide (by
                      rw [List.map_append, List.length_append]
                      exact hown')
                    replace b4 := hide b4
                    clear hown' hgrow hown
                    go_wp2
                    exact ⟨⟨q, _, hq, rfl, hr, by simp; omega, hown4, b4⟩, by simp [Lib.intOf]; omega⟩
          · have hfl := hide (flat_end s q (by omega))
            have hql : ¬ (q : Int) < (s.size : Int) := by omega
            clear hn2
            by_cases hj : j = 0
            · obtain rfl := hj
              obtain ⟨hnx, rfl⟩ := hst.out.none_ (show k' + 1 < s.data.toList.length from hlt) mb hfl.out
              exact absurd hlt hqs
            · have hj0 : ¬ (j : Int) = 0 := by omega
              have hnx := hst.out.some_ (by omega) mb hfl.out
              have hqk : k' + 1 + 1 ≤ q := by have := hst.out.at_; omega
              cases mb with
              | false =>
                rw [if_neg (by decide)] at hnx
                have hr : Hid (Asm.numsF s.data.toList false = (ws ++ [(n : Int)]) ++ Asm.numsF (s.data.toList.drop q) (Asm.minusAt s.data.toList q)) := hide (by rw [hnum.out, hnx, List.append_assoc]; rfl)
                have hsz := hb.out.size
                clear hnx hst hfl hnum
                go_wp2_with (at_builtin; refine wpList_append_own _ rfl _ _ 45 rfl w.heap.size 3 i0 (.int .i64 0) 1 8 Tryz.underlying45 hi hz0 hz1 hz2 rfl (by decide) _ _ _ rfl (hown.out.alloc _) ⟨wr.heap.size, 0, none⟩ 1 1 [.int .i64 ((n : Int))] rfl rfl (cell_one_new _ _ _) (by simp [Value.oneCell']) (by unfold maxLen; omega) (by omega) (by simp; omega) ?_)
                intro v' w4 hown' hgrow _
                have b4 : Below w.heap.size w w4 := by
                  refine (hb.out.alloc hsz _).grown hgrow (by simp; omega) (fun k hk => ?_)
                  rcases hown.out.2 with ⟨rfl, -⟩ | ⟨g, cap, cur, rfl, hg, -⟩
                  · cases hk
                  · cases hk; exact hg
                obtain ⟨g', cap', rfl⟩ := ownsRow_succ hown'
                have hown4 : Hid (w4.ownsRow w.heap.size 3 1 (.slice (some ⟨g', 0, none⟩) (ws.length + 1) cap') (ws ++ [(n : Int)]).length ((ws ++ [(n : Int)]).map (.int .i64 ·))) := hide (by
                  rw [List.map_append, List.length_append]
                  exact hown')
                replace b4 := hide b4
                clear hown' hgrow hown
                go_wp2
                exact ⟨⟨q, _, hq, rfl, hr, by simp; omega, hown4, b4⟩, by simp [Lib.intOf]; omega⟩
              | true =>
                rw [if_pos rfl] at hnx
                have hr : Hid (Asm.numsF s.data.toList false = (ws ++ [-(n : Int)]) ++ Asm.numsF (s.data.toList.drop q) (Asm.minusAt s.data.toList q)) := hide (by rw [hnum.out, hnx, List.append_assoc]; rfl)
                have hsz := hb.out.size
                clear hnx hst hfl hnum
                go_wp2_with (at_builtin; refine wpList_append_own _ rfl _ _ 45 rfl w.heap.size 3 i0 (.int .i64 0) 1 8 Tryz.underlying45 hi hz0 hz1 hz2 rfl (by decide) _ _ _ rfl (hown.out.alloc _) ⟨wr.heap.size, 0, none⟩ 1 1 [.int .i64 (-(n : Int))] rfl rfl (cell_one_new _ _ _) (by simp [Value.oneCell']) (by unfold maxLen; omega) (by omega) (by simp; omega) ?_)
                intro v' w4 hown' hgrow _
                have b4 : Below w.heap.size w w4 := by
                  refine (hb.out.alloc hsz _).grown hgrow (by simp; omega) (fun k hk => ?_)
                  rcases hown.out.2 with ⟨rfl, -⟩ | ⟨g, cap, cur, rfl, hg, -⟩
                  · cases hk
                  · cases hk; exact hg
                obtain ⟨g', cap', rfl⟩ := ownsRow_succ hown'
                have hown4 : Hid (w4.ownsRow w.heap.size 3 1 (.slice (some ⟨g', 0, none⟩) (ws.length + 1) cap') (ws ++ [-(n : Int)]).length ((ws ++ [-(n : Int)]).map (.int .i64 ·))) := hide (by
                  rw [List.map_append, List.length_append]
                  exact hown')
                replace b4 := hide b4
                clear hown' hgrow hown
                go_wp2
                exact ⟨⟨q, _, hq, rfl, hr, by simp; omega, hown4, b4⟩, by simp [Lib.intOf]; omega⟩
    · obtain rfl : k = s.size := by omega
      go_wp2_with fail
      go_ret
      refine ⟨⟨_, rfl, ?_⟩, hb.out⟩
      have hd : s.data.toList.drop s.size = [] := List.drop_of_length_le (Nat.le_refl _)
      have := hnum.out
      rw [hd, Asm.numsF_nil, List.append_nil] at this
      rw [this]
      exact hown.out

end Go.Proofs.YtahbbhgoacbejaaGreatDoor
