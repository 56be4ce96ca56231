/- The calls of layer 5 whose answers the document fixes. -/
import Derived.Test.YtjgidjcniladeaaGreatDoorAsmSame
set_option linter.unusedVariables false
set_option linter.unusedSimpArgs false
namespace Go.Proofs.YtjgidjcniladeaaGreatDoor
open Go.RowKit Go.Shelf Go.Joins

theorem good_lw : Good 61 29 8 0 0 (-4) := by unfold Good; decide +kernel
theorem good_syscall : Good 10 0 0 0 0 0 := by unfold Good; decide +kernel
theorem good_sll : Good 0 0 0 0 0 0 := by unfold Good; decide +kernel

theorem digits_one (u : Nat) (h : u < 10) : Lib.decDigits u = [UInt8.ofNat (48 + u)] := by rw [Lib.decDigits, dif_pos h]
theorem itoa_29 : Lib.itoa 29 = [50, 57] := by
  show (if (29 : Int) < 0 then 45 :: Lib.decDigits (29 : Int).natAbs else Lib.decDigits (29 : Int).toNat) = _
  rw [if_neg (by decide), show (29 : Int).toNat = 29 from rfl, Lib.decDigits, dif_neg (by decide), show 29 / 10 = 2 from rfl, digits_one 2 (by decide)]
  rfl
theorem itoa_8 : Lib.itoa 8 = [56] := by
  show (if (8 : Int) < 0 then 45 :: Lib.decDigits (8 : Int).natAbs else Lib.decDigits (8 : Int).toNat) = _
  rw [if_neg (by decide), show (8 : Int).toNat = 8 from rfl, digits_one 8 (by decide)]
  rfl
theorem itoa_0 : Lib.itoa 0 = [48] := by
  show (if (0 : Int) < 0 then 45 :: Lib.decDigits (0 : Int).natAbs else Lib.decDigits (0 : Int).toNat) = _
  rw [if_neg (by decide), show (0 : Int).toNat = 0 from rfl, digits_one 0 (by decide)]
  rfl
theorem itoa_m4 : Lib.itoa (-4) = [45, 52] := by
  show (if (-4 : Int) < 0 then 45 :: Lib.decDigits (-4 : Int).natAbs else Lib.decDigits (-4 : Int).toNat) = _
  rw [if_pos (by decide), show (-4 : Int).natAbs = 4 from rfl, digits_one 4 (by decide)]
  rfl

theorem text_lw : Asm.text 61 [29, 8, 0, 0, -4] = [108, 119, 32, 36, 56, 44, 45, 52, 40, 36, 50, 57, 41] := by
  have h1 : Dec.fm 61 = 19 := by decide
  have h2 : (Dec.name 61).data.toList = [108, 119] := by decide +kernel
  unfold Asm.text
  rw [h1, h2]
  simp [Asm.rounds, Asm.say, Asm.one, itoa_29, itoa_8, itoa_0, itoa_m4]
theorem text_syscall : Asm.text 10 [0, 0, 0, 0, 0] = [115, 121, 115, 99, 97, 108, 108] := by
  have h1 : Dec.fm 10 = 6 := by decide
  have h2 : (Dec.name 10).data.toList = [115, 121, 115, 99, 97, 108, 108] := by decide +kernel
  unfold Asm.text
  rw [h1, h2]
  simp [Asm.rounds, Asm.say]
theorem text_sll : Asm.text 0 [0, 0, 0, 0, 0] = [115, 108, 108, 32, 36, 48, 44, 36, 48, 44, 48] := by
  have h1 : Dec.fm 0 = 1 := by decide
  have h2 : (Dec.name 0).data.toList = [115, 108, 108] := by decide +kernel
  unfold Asm.text
  rw [h1, h2]
  simp [Asm.rounds, Asm.say, Asm.one, itoa_29, itoa_8, itoa_0, itoa_m4]

theorem print_lw (w : World) (L : Lay5 w) : Calls Tryz.prog 6 #[.agg #[.int .i64 61, .int .i64 29, .int .i64 8, .int .i64 0, .int .i64 0, .int .i64 (-4)]] w fun e' w' =>
    e' = .returned (.tuple #[.string ⟨#[108, 119, 32, 36, 56, 44, 45, 52, 40, 36, 50, 57, 41]⟩, .int .i64 0]) ∧ Below w.heap.size w w' := by
  obtain ⟨x, e, h, hc⟩ := print_any 61 29 8 0 0 (-4)
  rcases h with ⟨op, ho, eo, hg, rfl, rfl⟩ | ⟨hn, -, -⟩
  · obtain rfl : op = 61 := by omega
    have := hc w L
    rw [text_lw] at this
    exact this
  · exact absurd good_lw (hn 61 (by decide) (by decide))

theorem parse_lw (w : World) (L : Lay5 w) : Calls Tryz.prog 9 #[.string ⟨#[108, 119, 32, 36, 56, 44, 45, 52, 40, 36, 50, 57, 41]⟩] w fun e' w' =>
    e' = .returned (.tuple #[.agg #[.int .i64 61, .int .i64 29, .int .i64 8, .int .i64 0, .int .i64 0, .int .i64 (-4)], .int .i64 0]) ∧ Below w.heap.size w w' := by
  obtain ⟨o, a0, a1, a2, a3, a4, e, h, hc⟩ := parse_any ⟨#[108, 119, 32, 36, 56, 44, 45, 52, 40, 36, 50, 57, 41]⟩ (by decide)
  obtain ⟨rfl, rfl, rfl, rfl, rfl, rfl, rfl⟩ := h.one (Or.inl ⟨61, by decide, rfl, good_lw, text_lw.symm, rfl⟩)
  exact hc w L

theorem parse_addu (w : World) (L : Lay5 w) : Calls Tryz.prog 9 #[.string ⟨#[97, 100, 100, 117, 32, 36, 50, 44, 32, 36, 52, 44, 36, 53]⟩] w fun e' w' =>
    e' = .returned (.tuple #[.agg #[.int .i64 0, .int .i64 0, .int .i64 0, .int .i64 0, .int .i64 0, .int .i64 0], .int .i64 50]) ∧ Below w.heap.size w w' := by
  have hr : Asm.read [97, 100, 100, 117, 32, 36, 50, 44, 32, 36, 52, 44, 36, 53] = none := by decide +kernel
  obtain ⟨o, a0, a1, a2, a3, a4, e, h, hc⟩ := parse_any ⟨#[97, 100, 100, 117, 32, 36, 50, 44, 32, 36, 52, 44, 36, 53]⟩ (by decide)
  rcases h with ⟨op, ho, -, hg, hx, -⟩ | ⟨-, rfl, rfl, rfl, rfl, rfl, rfl, rfl⟩
  · have := Asm.read_text op ho _ (Asm.full_good ho hg)
    rw [← hx] at this
    exact absurd (hr.symm.trans this) (by simp)
  · exact hc w L

theorem line_syscall : Asm.Line [115, 121, 115, 99, 97, 108, 108] 12 := ⟨10, 0, 0, 0, 0, 0, by decide, good_syscall, text_syscall.symm, by decide +kernel⟩
theorem line_sll : Asm.Line [115, 108, 108, 32, 36, 48, 44, 36, 48, 44, 48] 0 := ⟨0, 0, 0, 0, 0, 0, by decide, good_sll, text_sll.symm, by decide +kernel⟩
theorem line_none (v : Int) : ¬ Asm.Line [] v := by
  rintro ⟨op, s, t, d, a, i, ho, hg, hx, -⟩
  have h1 : ∀ op < 69, (Dec.name op).data.toList ≠ [] := by decide +kernel
  unfold Asm.text at hx
  have := List.append_eq_nil_iff.mp hx.symm
  exact h1 op ho this.1

theorem rows_two : Asm.rows [115, 121, 115, 99, 97, 108, 108, 10, 115, 108, 108, 32, 36, 48, 44, 36, 48, 44, 48, 10] = [[115, 121, 115, 99, 97, 108, 108], [115, 108, 108, 32, 36, 48, 44, 36, 48, 44, 48]] := by
  rw [Asm.rows_cons (by simp), show ([115, 121, 115, 99, 97, 108, 108, 10, 115, 108, 108, 32, 36, 48, 44, 36, 48, 44, 48, 10] : List UInt8).takeWhile (· != 10) = [115, 121, 115, 99, 97, 108, 108] by decide,
    show ([115, 121, 115, 99, 97, 108, 108, 10, 115, 108, 108, 32, 36, 48, 44, 36, 48, 44, 48, 10] : List UInt8).drop (([115, 121, 115, 99, 97, 108, 108] : List UInt8).length + 1) = [115, 108, 108, 32, 36, 48, 44, 36, 48, 44, 48, 10] by decide,
    Asm.rows_cons (by simp), show ([115, 108, 108, 32, 36, 48, 44, 36, 48, 44, 48, 10] : List UInt8).takeWhile (· != 10) = [115, 108, 108, 32, 36, 48, 44, 36, 48, 44, 48] by decide,
    show ([115, 108, 108, 32, 36, 48, 44, 36, 48, 44, 48, 10] : List UInt8).drop (([115, 108, 108, 32, 36, 48, 44, 36, 48, 44, 48] : List UInt8).length + 1) = [] by decide, Asm.rows_nil]
theorem rows_one : Asm.rows [10] = [[]] := by
  rw [Asm.rows_cons (by simp), show ([10] : List UInt8).takeWhile (· != 10) = [] by decide, show ([10] : List UInt8).drop (([] : List UInt8).length + 1) = [] by decide, Asm.rows_nil]

theorem lines_two (w : World) (L : Lay5 w) : Calls Tryz.prog 12 #[.string ⟨#[115, 121, 115, 99, 97, 108, 108, 10, 115, 108, 108, 32, 36, 48, 44, 36, 48, 44, 48, 10]⟩] w fun e' w' =>
    (∃ v, e' = .returned (.tuple #[v, .int .i64 0]) ∧ RowAt w' v [12, 0]) ∧ Below w.heap.size w w' := by
  refine (lines_any ⟨#[115, 121, 115, 99, 97, 108, 108, 10, 115, 108, 108, 32, 36, 48, 44, 36, 48, 44, 48, 10]⟩ (by decide) w L).mono ?_
  rintro e' w' ⟨⟨ws, e, v, rfl, hl, ho⟩, hb⟩
  have h2 : Asm.Lined [115, 121, 115, 99, 97, 108, 108, 10, 115, 108, 108, 32, 36, 48, 44, 36, 48, 44, 48, 10] [12, 0] 0 := Or.inl ⟨by rw [rows_two]; exact .cons line_syscall (.cons line_sll .nil), rfl⟩
  obtain ⟨rfl, rfl⟩ := hl.one h2
  exact ⟨⟨v, rfl, RowAt.of ho⟩, hb⟩

theorem lines_none (w : World) (L : Lay5 w) : Calls Tryz.prog 12 #[.string ⟨#[10]⟩] w fun e' w' =>
    (∃ v, e' = .returned (.tuple #[v, .int .i64 50])) ∧ Below w.heap.size w w' := by
  refine (lines_any ⟨#[10]⟩ (by decide) w L).mono ?_
  rintro e' w' ⟨⟨ws, e, v, rfl, hl, ho⟩, hb⟩
  have h2 : Asm.Lined [10] [] 50 := Or.inr ⟨⟨[], by rw [rows_one]; simp, line_none⟩, rfl, rfl⟩
  obtain ⟨rfl, rfl⟩ := hl.one h2
  exact ⟨⟨v, rfl⟩, hb⟩

set_option maxHeartbeats 2000000 in
theorem facts5 (w : World) (L : Lay5 w) : Calls Tryz.prog 8 #[] w fun e w' => e = .returned (.bool true) ∧ Below w.heap.size w w' := by
  have hq := fun w => eql24 61 29 8 0 0 (-4) 61 29 8 0 0 (-4) w
  rw [show same6 61 29 8 0 0 (-4) 61 29 8 0 0 (-4) = true by decide] at hq
  go_enter Tryz.func8, Tryz.ntmps8
  go_wp2_with fail
  have g0 := grow w (.cells #[.int .i64 61, .int .i64 29, .int .i64 8, .int .i64 0, .int .i64 0, .int .i64 (-4)] 23)
  have i0 := cell6 w 23 (.int .i64 61) (.int .i64 29) (.int .i64 8) (.int .i64 0) (.int .i64 0) (.int .i64 (-4))
  generalize w.alloc (.cells #[.int .i64 61, .int .i64 29, .int .i64 8, .int .i64 0, .int .i64 0, .int .i64 (-4)] 23) = W0 at *
  have L0 := L.on g0
  refine (print_lw _ L0).mono ?_
  rintro e w1 ⟨rfl, h1⟩
  have i1 := i0.on h1
  have b1 := onto g0 h1
  have L1 := L0.on h1
  clear g0 i0 L0 h1 L
  clear W0
  go_wp2_with fail
  refine (parse_lw _ L1).mono ?_
  rintro e w2 ⟨rfl, h2⟩
  have g2 := grow w2 (.cells #[.int .i64 61, .int .i64 29, .int .i64 8, .int .i64 0, .int .i64 0, .int .i64 (-4)] 23)
  have j2 := cell6 w2 23 (.int .i64 61) (.int .i64 29) (.int .i64 8) (.int .i64 0) (.int .i64 0) (.int .i64 (-4))
  have i2 := (i1.on h2).on g2
  have b2 := onto (onto b1 h2) g2
  have L2 := (L1.on h2).on g2
  clear h2 g2 i1 b1 L1
  clear w1
  go_wp2_with fail
  generalize w2.alloc (.cells #[.int .i64 61, .int .i64 29, .int .i64 8, .int .i64 0, .int .i64 0, .int .i64 (-4)] 23) = W2 at *
  generalize w2.heap.size = J at *
  clear w2
  refine (parse_addu _ L2).mono ?_
  rintro e w3 ⟨rfl, h3⟩
  have g3 := grow w3 (.cells #[.int .i64 0, .int .i64 0, .int .i64 0, .int .i64 0, .int .i64 0, .int .i64 0] 23)
  have i3 := (i2.on h3).on g3
  have j3 := (j2.on h3).on g3
  have b3 := onto (onto b2 h3) g3
  have L3 := (L2.on h3).on g3
  clear h3 g3 i2 j2 b2 L2
  clear W2
  go_wp2_with fail
  generalize w3.alloc (.cells #[.int .i64 0, .int .i64 0, .int .i64 0, .int .i64 0, .int .i64 0, .int .i64 0] 23) = W3 at *
  refine (lines_two _ L3).mono ?_
  rintro e w4 ⟨⟨v4, rfl, r4⟩, h4⟩
  have i4 := i3.on h4
  have j4 := j3.on h4
  have b4 := onto b3 h4
  have L4 := L3.on h4
  clear h4 i3 j3 b3 L3
  clear W3
  go_wp2_with fail
  refine (lines_none _ L4).mono ?_
  rintro e w5 ⟨⟨v5, rfl⟩, h5⟩
  obtain ⟨p0, p1, p2, p3, p4, p5⟩ := i4.on h5
  obtain ⟨q0, q1, q2, q3, q4, q5⟩ := j4.on h5
  have b5 := onto b4 h5
  have r5 := r4.on h5
  have g5 := grow w5 (.cells #[.int .u32 12, .int .u32 0] 36)
  have hS := fun (v2 : Value) (h : RowAt (w5.alloc (.cells #[.int .u32 12, .int .u32 0] 36)) v2 [12, 0]) => same_any (w5.alloc (.cells #[.int .u32 12, .int .u32 0] 36)) v4 v2 [12, 0] [12, 0] (by decide) (by decide) (r5.on g5) h
  have rn : RowAt (w5.alloc (.cells #[.int .u32 12, .int .u32 0] 36)) (.slice (some ⟨w5.heap.size, 0, none⟩) 2 2) [12, 0] := by
    refine Or.inr ⟨_, _, rfl, fun j u hj => ?_⟩
    have := World.alloc_heap_new w5 (.cells #[.int .u32 12, .int .u32 0] 36)
    simp only [World.cell?, this]
    match j, hj with
    | 0, hj => cases hj; rfl
    | 1, hj => cases hj; rfl
  have hS2 := hS _ rn
  clear hS rn r5 r4 i4 j4 L4 h5
  go_wp2_with fail
  refine hS2.mono ?_
  rintro e w6 ⟨rfl, h6⟩
  go_wp2_with fail
  go_ret
  exact ⟨rfl, onto (onto b5 g5) h6⟩

end Go.Proofs.YtjgidjcniladeaaGreatDoor
