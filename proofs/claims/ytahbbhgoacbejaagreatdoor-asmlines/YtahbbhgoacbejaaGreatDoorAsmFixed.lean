/- The calls of layer 5 whose answers the document fixes. -/
import Derived.Test.YtahbbhgoacbejaaGreatDoorAsmLined
set_option linter.unusedVariables false
set_option linter.unusedSimpArgs false
namespace Go.Proofs.YtahbbhgoacbejaaGreatDoor
open Go.RowKit Go.Shelf Go.Joins

/-- What a row of words reads as. -/
def RowAt (w : World) (v : Value) (xs : List Int) : Prop :=
  (v = .slice none 0 0 ∧ xs = []) ∨ ∃ g cap, v = .slice (some ⟨g, 0, none⟩) xs.length cap ∧ ∀ (j : Nat) u, xs[j]? = some u → w.cell? ⟨g, j, none⟩ = some (.int .u32 u)

theorem RowAt.on {w w' : World} {v : Value} {xs : List Int} (h : RowAt w v xs) (hb : Below w.heap.size w w') : RowAt w' v xs := by
  rcases h with h | ⟨g, cap, rfl, hc⟩
  · exact Or.inl h
  · exact Or.inr ⟨g, cap, rfl, fun j u hj => (hb.cell (p := ⟨g, j, none⟩) (cell_in (hc j u hj))).trans (hc j u hj)⟩

theorem RowAt.of {w : World} {base : Nat} {v : Value} {xs : List Int} (h : w.ownsRow base 36 1 v xs.length (xs.map (.int .u32 ·))) : RowAt w v xs := by
  rcases h with ⟨hl, ⟨rfl, h0⟩ | ⟨g, cap, cur, rfl, hb, hg, hn, hm, hc, ht⟩⟩
  · exact Or.inl ⟨rfl, List.length_eq_zero_iff.mp h0⟩
  · refine Or.inr ⟨g, cap, rfl, fun j u hj => ?_⟩
    have hlt : j < xs.length := (List.getElem?_eq_some_iff.mp hj).1
    have e : (cur.toList.take (xs.length * 1))[j]? = some (.int .u32 u) := by rw [ht]; simp [hj]
    rw [List.getElem?_take_of_lt (by omega)] at e
    simp only [World.cell?, hg]
    simpa using e

set_option maxHeartbeats 2000000 in
set_option maxRecDepth 100000 in
theorem same_rows (w : World) (g1 c1 g2 c2 n : Nat) (hn : n ≤ 1000000) (xs ys : List Int) (h1 : xs.length = n) (h2 : ys.length = n)
    (r1 : ∀ (j : Nat) u, xs[j]? = some u → w.cell? ⟨g1, j, none⟩ = some (.int .u32 u)) (r2 : ∀ (j : Nat) u, ys[j]? = some u → w.cell? ⟨g2, j, none⟩ = some (.int .u32 u)) :
    Calls Tryz.prog 13 #[.slice (some ⟨g1, 0, none⟩) n c1, .slice (some ⟨g2, 0, none⟩) n c2] w fun e w' => e = .returned (.bool (decide (xs = ys))) ∧ Below w.heap.size w w' := by
  go_enter Tryz.func13, Tryz.ntmps13
  go_wp2_with fail
  go_loopw [5] (fun i wr => ∃ k : Nat, k ≤ n ∧ i = .int .i64 (k : Int) ∧ Hid (∀ j < k, xs[j]? = ys[j]?) ∧ Hid (Below w.heap.size w wr)) (fun i _ => n - (Lib.intOf i).toNat)
  case atStart => exact ⟨0, by omega, rfl, hide (by intro j h; omega), hide (Below.refl _ _)⟩
  case round =>
    obtain ⟨k, hk, rfl, heq, hb⟩ := hrel
    by_cases hlt : k < n
    · have hl : (k : Int) < (n : Int) := by omega
      obtain ⟨x, hx⟩ : ∃ x, xs[k]? = some x := ⟨_, List.getElem?_eq_getElem (by omega)⟩
      obtain ⟨y, hy⟩ : ∃ y, ys[k]? = some y := ⟨_, List.getElem?_eq_getElem (by omega)⟩
      have k1 : wr.cell? ⟨g1, k, none⟩ = some (.int .u32 x) := (hb.out.cell (p := ⟨g1, k, none⟩) (cell_in (r1 k x hx))).trans (r1 k x hx)
      have k2 : wr.cell? ⟨g2, k, none⟩ = some (.int .u32 y) := (hb.out.cell (p := ⟨g2, k, none⟩) (cell_in (r2 k y hy))).trans (r2 k y hy)
      by_cases hxy : x = y
      · subst hxy
        have heq2 : Hid (∀ j < k + 1, xs[j]? = ys[j]?) := hide (by
          intro j hj
          rcases Nat.lt_succ_iff_lt_or_eq.mp hj with h | h
          · exact heq.out j h
          · rw [h, hx, hy])
        clear heq r1 r2 hx hy
        go_wp2_with fail
        go_quiet (fail)
        have hb2 := hide (below_drewN hb.out nq)
        clear hb
        go_wp2_with fail
        go_roundw
        case rel => exact ⟨k + 1, by omega, by go_num, heq2, hb2⟩
        case measure => simp [Lib.intOf]; omega
      · have hq : (x != y) = true := by simpa using hxy
        have hne : Hid (decide (xs = ys) = false) := hide (by
          refine decide_eq_false fun e => hxy ?_
          rw [e, hy] at hx
          cases hx
          rfl)
        clear heq r1 r2 hx hy hxy
        go_wp2_with fail
        go_quiet (fail)
        go_wp2_with fail
        go_ret
        exact ⟨by rw [hne.out]; rfl, below_drewN hb.out _⟩
    · obtain rfl : k = n := by omega
      go_wp2_with fail
      go_ret
      have hall : xs = ys := by
        refine List.ext_getElem? fun j => ?_
        by_cases hj : j < k
        · exact heq.out j hj
        · rw [List.getElem?_eq_none (by omega), List.getElem?_eq_none (by omega)]
      refine ⟨?_, hb.out⟩
      rw [decide_eq_true hall]
      rfl

theorem same_len (w : World) (a1 a2 : Option Addr) (n m c1 c2 : Nat) (hn : n ≤ 1000000) (hm : m ≤ 1000000) (h : n ≠ m) :
    Calls Tryz.prog 13 #[.slice a1 n c1, .slice a2 m c2] w fun e w' => e = .returned (.bool false) ∧ Below w.heap.size w w' := by
  have hq : ((n : Int) != (m : Int)) = true := by simp; omega
  go_enter Tryz.func13, Tryz.ntmps13
  go_wp2_with fail
  go_ret
  exact ⟨rfl, Below.refl _ _⟩

set_option maxRecDepth 100000 in
theorem same_none (w : World) (a1 a2 : Option Addr) (c1 c2 : Nat) :
    Calls Tryz.prog 13 #[.slice a1 0 c1, .slice a2 0 c2] w fun e w' => e = .returned (.bool true) ∧ Below w.heap.size w w' := by
  go_enter Tryz.func13, Tryz.ntmps13
  go_wp2_with fail
  go_loopw [5] (fun i wr => i = .int .i64 0 ∧ wr = w) (fun _ _ => 0)
  case atStart => exact ⟨rfl, rfl⟩
  case round =>
    obtain ⟨rfl, rfl⟩ := hrel
    go_wp2_with fail
    go_ret
    exact ⟨rfl, Below.refl _ _⟩

/-- Two rows of words are the same just if their words are. -/
theorem same_any (w : World) (v1 v2 : Value) (xs ys : List Int) (hx : xs.length ≤ 1000000) (hy : ys.length ≤ 1000000) (h1 : RowAt w v1 xs) (h2 : RowAt w v2 ys) :
    Calls Tryz.prog 13 #[v1, v2] w fun e w' => e = .returned (.bool (decide (xs = ys))) ∧ Below w.heap.size w w' := by
  by_cases hl : xs.length = ys.length
  · rcases h1 with ⟨rfl, rfl⟩ | ⟨g1, c1, rfl, r1⟩
    · obtain rfl : ys = [] := List.length_eq_zero_iff.mp (by simpa using hl.symm)
      rcases h2 with ⟨rfl, -⟩ | ⟨g2, c2, rfl, r2⟩ <;> exact same_none w _ _ _ _
    · rcases h2 with ⟨rfl, rfl⟩ | ⟨g2, c2, rfl, r2⟩
      · obtain rfl : xs = [] := List.length_eq_zero_iff.mp (by simpa using hl)
        exact same_none w _ _ _ _
      · rw [← hl]
        exact same_rows w g1 c1 g2 c2 xs.length hx xs ys rfl hl.symm r1 r2
  · have hd : decide (xs = ys) = false := decide_eq_false fun e => hl (by rw [e])
    rw [hd]
    rcases h1 with ⟨rfl, rfl⟩ | ⟨g1, c1, rfl, r1⟩ <;> rcases h2 with ⟨rfl, rfl⟩ | ⟨g2, c2, rfl, r2⟩
    · exact absurd rfl hl
    · exact same_len w _ _ 0 _ _ _ (by omega) hy hl
    · exact same_len w _ _ _ 0 _ _ hx (by omega) hl
    · exact same_len w _ _ _ _ _ _ hx hy hl


theorem good_lw : Good 61 29 8 0 0 (-4) := by unfold Good; decide +kernel
theorem good_syscall : Good 10 0 0 0 0 0 := by unfold Good; decide +kernel
theorem good_sll : Good 0 0 0 0 0 0 := by unfold Good; decide +kernel

theorem digits_one (u : Nat) (h : u < 10) : Lib.decDigits u = [UInt8.ofNat (48 + u)] := by rw [Lib.decDigits, dif_pos h]
theorem itoa_29 : Lib.itoa 29 = [50, 57] := by
  show (if (29 : Int) < 0 then 45 :: Lib.decDigits (29 : Int).natAbs else Lib.decDigits (29 : Int).toNat) = _
  rw [if_neg (by decide), show (29 : Int).toNat = 29 from rfl, Lib.decDigits, dif_neg (by decide), show 29 / 10 = 2 from rfl, digits_one 2 (by decide)]
  rfl
theorem itoa_8 : Lib.itoa 8 = [56] := by
  show (if (8 : Int) < 0 then 45 :: Lib.decDigits (8 : Int).natAbs else Lib.decDigits (8 : Int).toNat) = _
  rw [if_neg (by decide), show (8 : Int).toNat = 8 from rfl, digits_one 8 (by decide)]
  rfl
theorem itoa_0 : Lib.itoa 0 = [48] := by
  show (if (0 : Int) < 0 then 45 :: Lib.decDigits (0 : Int).natAbs else Lib.decDigits (0 : Int).toNat) = _
  rw [if_neg (by decide), show (0 : Int).toNat = 0 from rfl, digits_one 0 (by decide)]
  rfl
theorem itoa_m4 : Lib.itoa (-4) = [45, 52] := by
  show (if (-4 : Int) < 0 then 45 :: Lib.decDigits (-4 : Int).natAbs else Lib.decDigits (-4 : Int).toNat) = _
  rw [if_pos (by decide), show (-4 : Int).natAbs = 4 from rfl, digits_one 4 (by decide)]
  rfl

theorem text_lw : Asm.text 61 [29, 8, 0, 0, -4] = [108, 119, 32, 36, 56, 44, 45, 52, 40, 36, 50, 57, 41] := by
  have h1 : Dec.fm 61 = 19 := by decide
  have h2 : (Dec.name 61).data.toList = [108, 119] := by decide +kernel
  unfold Asm.text
  rw [h1, h2]
  simp [Asm.rounds, Asm.say, Asm.one, itoa_29, itoa_8, itoa_0, itoa_m4]
theorem text_syscall : Asm.text 10 [0, 0, 0, 0, 0] = [115, 121, 115, 99, 97, 108, 108] := by
  have h1 : Dec.fm 10 = 6 := by decide
  have h2 : (Dec.name 10).data.toList = [115, 121, 115, 99, 97, 108, 108] := by decide +kernel
  unfold Asm.text
  rw [h1, h2]
  simp [Asm.rounds, Asm.say]
theorem text_sll : Asm.text 0 [0, 0, 0, 0, 0] = [115, 108, 108, 32, 36, 48, 44, 36, 48, 44, 48] := by
  have h1 : Dec.fm 0 = 1 := by decide
  have h2 : (Dec.name 0).data.toList = [115, 108, 108] := by decide +kernel
  unfold Asm.text
  rw [h1, h2]
  simp [Asm.rounds, Asm.say, Asm.one, itoa_29, itoa_8, itoa_0, itoa_m4]

theorem print_lw (w : World) (L : Lay5 w) : Calls Tryz.prog 6 #[.agg #[.int .i64 61, .int .i64 29, .int .i64 8, .int .i64 0, .int .i64 0, .int .i64 (-4)]] w fun e' w' =>
    e' = .returned (.tuple #[.string ⟨#[108, 119, 32, 36, 56, 44, 45, 52, 40, 36, 50, 57, 41]⟩, .int .i64 0]) ∧ Below w.heap.size w w' := by
  obtain ⟨x, e, h, hc⟩ := print_any 61 29 8 0 0 (-4)
  rcases h with ⟨op, ho, eo, hg, rfl, rfl⟩ | ⟨hn, -, -⟩
  · obtain rfl : op = 61 := by omega
    have := hc w L
    rw [text_lw] at this
    exact this
  · exact absurd good_lw (hn 61 (by decide) (by decide))

theorem parse_lw (w : World) (L : Lay5 w) : Calls Tryz.prog 9 #[.string ⟨#[108, 119, 32, 36, 56, 44, 45, 52, 40, 36, 50, 57, 41]⟩] w fun e' w' =>
    e' = .returned (.tuple #[.agg #[.int .i64 61, .int .i64 29, .int .i64 8, .int .i64 0, .int .i64 0, .int .i64 (-4)], .int .i64 0]) ∧ Below w.heap.size w w' := by
  obtain ⟨o, a0, a1, a2, a3, a4, e, h, hc⟩ := parse_any ⟨#[108, 119, 32, 36, 56, 44, 45, 52, 40, 36, 50, 57, 41]⟩ (by decide)
  obtain ⟨rfl, rfl, rfl, rfl, rfl, rfl, rfl⟩ := h.one (Or.inl ⟨61, by decide, rfl, good_lw, text_lw.symm, rfl⟩)
  exact hc w L

theorem parse_addu (w : World) (L : Lay5 w) : Calls Tryz.prog 9 #[.string ⟨#[97, 100, 100, 117, 32, 36, 50, 44, 32, 36, 52, 44, 36, 53]⟩] w fun e' w' =>
    e' = .returned (.tuple #[.agg #[.int .i64 0, .int .i64 0, .int .i64 0, .int .i64 0, .int .i64 0, .int .i64 0], .int .i64 50]) ∧ Below w.heap.size w w' := by
  have hr : Asm.read [97, 100, 100, 117, 32, 36, 50, 44, 32, 36, 52, 44, 36, 53] = none := by decide +kernel
  obtain ⟨o, a0, a1, a2, a3, a4, e, h, hc⟩ := parse_any ⟨#[97, 100, 100, 117, 32, 36, 50, 44, 32, 36, 52, 44, 36, 53]⟩ (by decide)
  rcases h with ⟨op, ho, -, hg, hx, -⟩ | ⟨-, rfl, rfl, rfl, rfl, rfl, rfl, rfl⟩
  · have := Asm.read_text op ho _ (Asm.full_good ho hg)
    rw [← hx] at this
    exact absurd (hr.symm.trans this) (by simp)
  · exact hc w L

theorem line_syscall : Asm.Line [115, 121, 115, 99, 97, 108, 108] 12 := ⟨10, 0, 0, 0, 0, 0, by decide, good_syscall, text_syscall.symm, by decide +kernel⟩
theorem line_sll : Asm.Line [115, 108, 108, 32, 36, 48, 44, 36, 48, 44, 48] 0 := ⟨0, 0, 0, 0, 0, 0, by decide, good_sll, text_sll.symm, by decide +kernel⟩
theorem line_none (v : Int) : ¬ Asm.Line [] v := by
  rintro ⟨op, s, t, d, a, i, ho, hg, hx, -⟩
  have h1 : ∀ op < 69, (Dec.name op).data.toList ≠ [] := by decide +kernel
  unfold Asm.text at hx
  have := List.append_eq_nil_iff.mp hx.symm
  exact h1 op ho this.1

theorem rows_two : Asm.rows [115, 121, 115, 99, 97, 108, 108, 10, 115, 108, 108, 32, 36, 48, 44, 36, 48, 44, 48, 10] = [[115, 121, 115, 99, 97, 108, 108], [115, 108, 108, 32, 36, 48, 44, 36, 48, 44, 48]] := by
  rw [Asm.rows_cons (by simp), show ([115, 121, 115, 99, 97, 108, 108, 10, 115, 108, 108, 32, 36, 48, 44, 36, 48, 44, 48, 10] : List UInt8).takeWhile (· != 10) = [115, 121, 115, 99, 97, 108, 108] by decide,
    show ([115, 121, 115, 99, 97, 108, 108, 10, 115, 108, 108, 32, 36, 48, 44, 36, 48, 44, 48, 10] : List UInt8).drop (([115, 121, 115, 99, 97, 108, 108] : List UInt8).length + 1) = [115, 108, 108, 32, 36, 48, 44, 36, 48, 44, 48, 10] by decide,
    Asm.rows_cons (by simp), show ([115, 108, 108, 32, 36, 48, 44, 36, 48, 44, 48, 10] : List UInt8).takeWhile (· != 10) = [115, 108, 108, 32, 36, 48, 44, 36, 48, 44, 48] by decide,
    show ([115, 108, 108, 32, 36, 48, 44, 36, 48, 44, 48, 10] : List UInt8).drop (([115, 108, 108, 32, 36, 48, 44, 36, 48, 44, 48] : List UInt8).length + 1) = [] by decide, Asm.rows_nil]
theorem rows_one : Asm.rows [10] = [[]] := by
  rw [Asm.rows_cons (by simp), show ([10] : List UInt8).takeWhile (· != 10) = [] by decide, show ([10] : List UInt8).drop (([] : List UInt8).length + 1) = [] by decide, Asm.rows_nil]

theorem lines_two (w : World) (L : Lay5 w) : Calls Tryz.prog 12 #[.string ⟨#[115, 121, 115, 99, 97, 108, 108, 10, 115, 108, 108, 32, 36, 48, 44, 36, 48, 44, 48, 10]⟩] w fun e' w' =>
    (∃ v, e' = .returned (.tuple #[v, .int .i64 0]) ∧ RowAt w' v [12, 0]) ∧ Below w.heap.size w w' := by
  refine (lines_any ⟨#[115, 121, 115, 99, 97, 108, 108, 10, 115, 108, 108, 32, 36, 48, 44, 36, 48, 44, 48, 10]⟩ (by decide) w L).mono ?_
  rintro e' w' ⟨⟨ws, e, v, rfl, hl, ho⟩, hb⟩
  have h2 : Asm.Lined [115, 121, 115, 99, 97, 108, 108, 10, 115, 108, 108, 32, 36, 48, 44, 36, 48, 44, 48, 10] [12, 0] 0 := Or.inl ⟨by rw [rows_two]; exact .cons line_syscall (.cons line_sll .nil), rfl⟩
  obtain ⟨rfl, rfl⟩ := hl.one h2
  exact ⟨⟨v, rfl, RowAt.of ho⟩, hb⟩

theorem lines_none (w : World) (L : Lay5 w) : Calls Tryz.prog 12 #[.string ⟨#[10]⟩] w fun e' w' =>
    (∃ v, e' = .returned (.tuple #[v, .int .i64 50])) ∧ Below w.heap.size w w' := by
  refine (lines_any ⟨#[10]⟩ (by decide) w L).mono ?_
  rintro e' w' ⟨⟨ws, e, v, rfl, hl, ho⟩, hb⟩
  have h2 : Asm.Lined [10] [] 50 := Or.inr ⟨⟨[], by rw [rows_one]; simp, line_none⟩, rfl, rfl⟩
  obtain ⟨rfl, rfl⟩ := hl.one h2
  exact ⟨⟨v, rfl⟩, hb⟩

set_option maxHeartbeats 2000000 in
theorem facts5 (w : World) (L : Lay5 w) : Calls Tryz.prog 8 #[] w fun e w' => e = .returned (.bool true) ∧ Below w.heap.size w w' := by
  have hq := fun w => eql24 61 29 8 0 0 (-4) 61 29 8 0 0 (-4) w
  rw [show same6 61 29 8 0 0 (-4) 61 29 8 0 0 (-4) = true by decide] at hq
  go_enter Tryz.func8, Tryz.ntmps8
  go_wp2_with fail
  have g0 := grow w (.cells #[.int .i64 61, .int .i64 29, .int .i64 8, .int .i64 0, .int .i64 0, .int .i64 (-4)] 23)
  have i0 := cell6 w 23 (.int .i64 61) (.int .i64 29) (.int .i64 8) (.int .i64 0) (.int .i64 0) (.int .i64 (-4))
  generalize w.alloc (.cells #[.int .i64 61, .int .i64 29, .int .i64 8, .int .i64 0, .int .i64 0, .int .i64 (-4)] 23) = W0 at *
  have L0 := L.on g0
  refine (print_lw _ L0).mono ?_
  rintro e w1 ⟨rfl, h1⟩
  have i1 := i0.on h1
  have b1 := onto g0 h1
  have L1 := L0.on h1
  clear g0 i0 L0 h1 L
  clear W0
  go_wp2_with fail
  refine (parse_lw _ L1).mono ?_
  rintro e w2 ⟨rfl, h2⟩
  have g2 := grow w2 (.cells #[.int .i64 61, .int .i64 29, .int .i64 8, .int .i64 0, .int .i64 0, .int .i64 (-4)] 23)
  have j2 := cell6 w2 23 (.int .i64 61) (.int .i64 29) (.int .i64 8) (.int .i64 0) (.int .i64 0) (.int .i64 (-4))
  have i2 := (i1.on h2).on g2
  have b2 := onto (onto b1 h2) g2
  have L2 := (L1.on h2).on g2
  clear h2 g2 i1 b1 L1
  clear w1
  go_wp2_with fail
  generalize w2.alloc (.cells #[.int .i64 61, .int .i64 29, .int .i64 8, .int .i64 0, .int .i64 0, .int .i64 (-4)] 23) = W2 at *
  generalize w2.heap.size = J at *
  clear w2
  refine (parse_addu _ L2).mono ?_
  rintro e w3 ⟨rfl, h3⟩
  have g3 := grow w3 (.cells #[.int .i64 0, .int .i64 0, .int .i64 0, .int .i64 0, .int .i64 0, .int .i64 0] 23)
  have i3 := (i2.on h3).on g3
  have j3 := (j2.on h3).on g3
  have b3 := onto (onto b2 h3) g3
  have L3 := (L2.on h3).on g3
  clear h3 g3 i2 j2 b2 L2
  clear W2
  go_wp2_with fail
  generalize w3.alloc (.cells #[.int .i64 0, .int .i64 0, .int .i64 0, .int .i64 0, .int .i64 0, .int .i64 0] 23) = W3 at *
  refine (lines_two _ L3).mono ?_
  rintro e w4 ⟨⟨v4, rfl, r4⟩, h4⟩
  have i4 := i3.on h4
  have j4 := j3.on h4
  have b4 := onto b3 h4
  have L4 := L3.on h4
  clear h4 i3 j3 b3 L3
  clear W3
  go_wp2_with fail
  refine (lines_none _ L4).mono ?_
  rintro e w5 ⟨⟨v5, rfl⟩, h5⟩
  obtain ⟨p0, p1, p2, p3, p4, p5⟩ := i4.on h5
  obtain ⟨q0, q1, q2, q3, q4, q5⟩ := j4.on h5
  have b5 := onto b4 h5
  have r5 := r4.on h5
  have g5 := grow w5 (.cells #[.int .u32 12, .int .u32 0] 36)
  have hS := fun (v2 : Value) (h : RowAt (w5.alloc (.cells #[.int .u32 12, .int .u32 0] 36)) v2 [12, 0]) => same_any (w5.alloc (.cells #[.int .u32 12, .int .u32 0] 36)) v4 v2 [12, 0] [12, 0] (by decide) (by decide) (r5.on g5) h
  have rn : RowAt (w5.alloc (.cells #[.int .u32 12, .int .u32 0] 36)) (.slice (some ⟨w5.heap.size, 0, none⟩) 2 2) [12, 0] := by
    refine Or.inr ⟨_, _, rfl, fun j u hj => ?_⟩
    have := World.alloc_heap_new w5 (.cells #[.int .u32 12, .int .u32 0] 36)
    simp only [World.cell?, this]
    match j, hj with
    | 0, hj => cases hj; rfl
    | 1, hj => cases hj; rfl
  have hS2 := hS _ rn
  clear hS rn r5 r4 i4 j4 L4 h5
  go_wp2_with fail
  refine hS2.mono ?_
  rintro e w6 ⟨rfl, h6⟩
  go_wp2_with fail
  go_ret
  exact ⟨rfl, onto (onto b5 g5) h6⟩

end Go.Proofs.YtahbbhgoacbejaaGreatDoor
