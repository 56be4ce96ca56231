/- Layer 11: contract of the program's Move. -/
import Derived.Test.YtdapjpbdplhgbaaDmMove
import Derived.Laws.IdiomStrings
namespace Go.Proofs.Ytdapjpbdplhgbaa.Dm
open Go.RowKit
set_option linter.unusedVariables false
set_option maxRecDepth 100000
set_option linter.unusedSimpArgs false

/-- The world behind '[]byte(s)'. -/
def rowWorld (w : World) (s : ByteArray) : World :=
  w.drew.alloc (.cells (bytesRow s (grownCap w s.size 0 5)) 5 ((bytesRow s (grownCap w s.size 0 5)).size, (bytesRow s (grownCap w s.size 0 5)).size + 1))

theorem conv_row (w : World) (s : ByteArray) :
    (convert 9 60 (.string s)).run Try.prog w = .ok (.slice (some ⟨w.heap.size, 0, none⟩) s.size (grownCap w s.size 0 5)) (rowWorld w s) :=
  run_bytes_of_string w 9 60 5 s Try.underlying9 Try.underlying60 Try.underlying5

theorem row_of (w : World) (s : ByteArray) : RowIs (rowWorld w s) w.heap.size s.size (byteAt s) := by
  refine ⟨by unfold rowWorld; simp, fun j hj => ?_, fun j hj => ?_⟩
  · unfold rowWorld
    rw [show w.heap.size = w.drew.heap.size from rfl, World.cell?_alloc_mark, bytesRow_at s _ j hj, byteAt_in s j hj]
    rfl
  · unfold rowWorld
    rw [show w.heap.size = w.drew.heap.size from rfl, World.frozen?_alloc_mark]
    have : s.size ≤ (bytesRow s (grownCap w s.size 0 5)).size := by
      unfold bytesRow
      rw [Array.size_append, Array.size_map]
      exact Nat.le_add_right _ _
    simp
    omega

theorem row_below (w : World) (s : ByteArray) : Below w.heap.size w (rowWorld w s) := (Below.refl _ w).drew.alloc (Nat.le_refl _) _

theorem _root_.Go.Proofs.Ytdapjpbdplhgbaa.RowIs.sets {w : World} {L n : Nat} {f : Nat → Nat} (h : RowIs w L n f) (o m : Nat) (f' : Nat → Nat) (hm : o + m ≤ n) : RowIs (w.setCells L o (bytesAt m f')) L n (secB f o m f') := by
  refine ⟨?_, fun j hj => ?_, fun j hj => ?_⟩
  · exact Nat.lt_of_lt_of_le h.lt (grownBy_sets L _ _ _).size
  · unfold secB
    by_cases hi : o ≤ j ∧ j < o + m
    · have := World.cell?_setCells_in L (bytesAt m f') o w (fun i hi => by
        rw [bytesAt_len] at hi
        rw [h.cell (o + i) (by omega)]; rfl) (j - o) (by rw [bytesAt_len]; omega)
      rw [show o + (j - o) = j by omega] at this
      rw [this, ← List.getElem?_eq_getElem, bytesAt_at _ _ _ (by omega), if_pos hi]
    · rw [World.cell?_setCells_out L _ _ _ _ (fun _ _ => by rw [bytesAt_len]; show j < _ ∨ _ ≤ j; omega), if_neg hi]
      exact h.cell j hj
  · rw [World.frozen?_setCells]
    exact h.free j hj

/-- The first L bytes of a text, copied. -/
theorem run_copy_cut (w : World) (g o L cap : Nat) (s : ByteArray) (hs : L ≤ s.size) (hc : ∀ j, j < L → (w.cell? ⟨g, o + j, none⟩).isSome = true) (hf : ∀ j, j < L → w.frozen? ⟨g, o + j, none⟩ = false) :
    (Builtin.copy_ #[60, 9] 3 #[.slice (some ⟨g, o, none⟩) L cap, .string s]).run Try.prog w = .ok (goInt L) (w.setCells g o (bytesAt L (byteAt s))) := by
  have hst := run_storeCells_cells (P := Try.prog) g o (bytesAt L (byteAt s)) 0 w (by rw [bytesAt_len]; simpa using hc) (by rw [bytesAt_len]; simpa using hf) (bytesAt_one _ _)
  have he2 : List.take L (List.map (fun b => Value.int .u8 (b.toNat : Int)) s.data.toList) = bytesAt L (byteAt s) := by
    apply List.ext_getElem?
    intro j
    by_cases hj : j < L
    · have hlt : j < s.data.size := Nat.lt_of_lt_of_le hj hs
      rw [bytesAt_at _ _ _ hj, List.getElem?_take_of_lt hj, List.getElem?_map, Array.getElem?_toList, Array.getElem?_eq_getElem hlt]
      unfold byteAt
      rw [Array.getElem?_eq_getElem hlt]
      rfl
    · rw [List.getElem?_eq_none (by rw [List.length_take]; omega), List.getElem?_eq_none (by rw [bytesAt_len]; omega)]
  cases hq : Try.prog.info? 5 with
  | none => have := one5; rw [hq] at this; cases this
  | some i =>
    have hi : i.size = 1 := by have := one5; rw [hq] at this; simpa using this
    simp [Builtin.copy_, run_underlying Try.underlying60, Builtin.lenOf, Builtin.firstCells, sizeOf, typeInfo, hq]
    rw [show s.size.min L = L from Nat.min_eq_right hs, he2, hst]
    simp

/-- The disk with memory's bytes in sector num. -/
def outV (B : Nat → Nat) (a num : Nat) (disk : ByteArray) : ByteArray := textOf 1024 (secB (byteAt disk) (64 * num) 64 (fun j => B (a + j)))

theorem sec_slice (L num C : Nat) (h : num < 16) (hC : 1024 ≤ C) (w : World) :
    (Instr.sliceAt 60 (.slice (some ⟨L, 0, none⟩) 1024 C) (some (.int .i64 ((num : Int) * 64))) (some (.int .i64 (((num : Int) + 1) * 64))) none).run Try.prog w = .ok (.slice (some ⟨L, 64 * num, none⟩) 64 (C - 64 * num)) w := by
  have hu : Try.prog.underlying 60 = some (.slice (Try.prog.elem 60)) := by kernel_rfl
  have he : Try.prog.elem 60 = 5 := by kernel_rfl
  rw [run_sliceAt_slice w 60 _ _ _ _ hu, run_slice_lh w 60 _ _ _ hu .i64 .i64 ((num : Int) * 64) (((num : Int) + 1) * 64) (by omega) (by omega) (by omega), he, size5, Result.andThen_ok]
  unfold sliced
  rw [show ((num : Int) * 64).toNat = 64 * num by omega, show (((num : Int) + 1) * 64).toNat = 64 * num + 64 by omega, if_neg (by omega), Option.map_some, Addr.add_lit, Nat.mul_one, Nat.zero_add, Nat.add_sub_cancel_left]

set_option maxHeartbeats 1000000 in
set_option maxRecDepth 100000 in
theorem with_sector {w : World} {p g n c : Nat} {B : Nat → Nat} {D : Nat → Bool} (M : Mem w p g n c B D) (a num : Nat) (hn : num < 16) (ha : a % 64 = 0) (hz : a + 64 ≤ 256 * n) (disk : ByteArray) (hm : disk.size = 1024) :
    Calls Try.prog 84 #[.string disk, .int .i64 (num : Int), .pointer (some ⟨p, 0, none⟩), .int .u32 (a : Int)] w fun e w' => e = .returned (.string (outV B a num disk)) ∧ Below w.heap.size w w' := by
  have n64 := M.n64
  have lt := M.lt
  have P := hide (page_any M (a / 256) (by omega))
  rw [show ((a / 256 : Nat) : Int) = (a : Int) / 256 by omega] at P
  obtain ⟨T, hT⟩ : ∃ T, T = textOf 256 (fun j => B (256 * (a / 256) + j)) := ⟨_, rfl⟩
  have zT : T.size = 256 := by rw [hT]; exact textOf_size _ _
  rw [← hT] at P
  obtain ⟨q, hq⟩ : ∃ q, q = a % 256 := ⟨_, rfl⟩
  have q1 : q + 64 ≤ 256 := by omega
  have q2 : (a : Int) % 256 = (q : Int) := by omega
  have S1 : ∀ j, j < 64 → byteAt (T.extract q 256) j = B (a + j) := by
    intro j hj
    rw [byteAt_cut T q 256 j (by omega) (by omega), hT, byteAt_textOf 256 _ (fun j => lt _) _ (by omega), show 256 * (a / 256) + (q + j) = a + j by omega]
  have zS : 64 ≤ (T.extract q 256).size := by rw [ByteArray.size_extract]; omega
  have R := row_of w disk
  have hcv := conv_row w disk
  rw [hm] at R hcv
  have hC := grownCap_ge w 1024 0 5
  obtain ⟨C, hCC⟩ : ∃ C, C = grownCap w 1024 0 5 := ⟨_, rfl⟩
  rw [← hCC] at hcv hC
  have hC2 : C ≤ maxLen := by rw [hCC]; exact grownCap_le_maxLen w 1024 0 5 (by unfold maxLen; omega)
  unfold maxLen at hC2
  have hsl := fun W => sec_slice w.heap.size num C hn hC W
  have HC := run_copy_cut (rowWorld w disk) w.heap.size (64 * num) 64 (C - 64 * num) (T.extract q 256) zS (fun j hj => by rw [R.cell _ (by omega)]; rfl) (fun j hj => R.free _ (by omega))
  have R2 := (R.sets (64 * num) 64 (byteAt (T.extract q 256)) (by omega)).congr (g := secB (byteAt disk) (64 * num) 64 (fun j => B (a + j))) (fun j hj => by
    unfold secB
    by_cases h : 64 * num ≤ j ∧ j < 64 * num + 64
    · rw [if_pos h, if_pos h, S1 _ (by omega)]
    · rw [if_neg h, if_neg h])
  have hback := conv_back R2 C
  have b2 := hide (Below.grown (row_below w disk) (grownBy_sets w.heap.size (bytesAt 64 (byteAt (T.extract q 256))) (64 * num) (rowWorld w disk)) (row_below w disk).size (fun k hk => by cases hk; exact Nat.le_refl _))
  unfold outV
  generalize textOf 1024 (secB (byteAt disk) (64 * num) 64 (fun j => B (a + j))) = V at *
  generalize (rowWorld w disk).setCells w.heap.size (64 * num) (bytesAt 64 (byteAt (T.extract q 256))) = X2 at *
  generalize rowWorld w disk = X1 at *
  replace S1 := hide S1
  clear R R2 hT lt M hCC hq
  go_enter Try.func84, Try.ntmps84
  go_wp2_with fail
  refine P.out.mono ?_
  rintro e w' ⟨rfl, rfl⟩
  go_wp2
  go_ret
  exact ⟨rfl, b2.out⟩

/-- What a move makes of the disk, of memory's bytes and marks. -/
def moveT (n : Nat) (t : Dm) (y : Int) (disk : ByteArray) (B : Nat → Nat) : ByteArray := if fitsB n t disk = true ∧ y = 2 then outV B t.a.toNat t.n.toNat disk else disk
def moveB (n : Nat) (t : Dm) (y : Int) (disk : ByteArray) (B : Nat → Nat) : Nat → Nat := if fitsB n t disk = true ∧ y = 1 then secB B t.a.toNat 64 (fun j => byteAt disk (64 * t.n.toNat + j)) else B
def moveD (n : Nat) (t : Dm) (y : Int) (disk : ByteArray) (D : Nat → Bool) : Nat → Bool := if fitsB n t disk = true ∧ y = 1 then putD D (t.a.toNat / 256) else D

theorem fits_is {n : Nat} {t : Dm} {disk : ByteArray} (ht : Wd t) (h : fitsB n t disk = true) :
    ∃ a num : Nat, t.a = (a : Int) ∧ t.n = (num : Int) ∧ disk.size = 1024 ∧ num < 16 ∧ a % 64 = 0 ∧ a + 64 ≤ 256 * n := by
  unfold fitsB at h
  obtain ⟨h1, h2, h3, h4⟩ := of_decide_eq_true h
  have a0 := ht.a.1
  have b0 := ht.n.1
  exact ⟨t.a.toNat, t.n.toNat, by omega, by omega, h1, by omega, by omega, by omega⟩

set_option maxHeartbeats 1000000 in
theorem move_any {w : World} {p g n c : Nat} {B : Nat → Nat} {D : Nat → Bool} (M : Mem w p g n c B D) (t : Dm) (ht : Wd t) (y : Int) (disk : ByteArray) (hm : disk.size ≤ maxLen) :
    Calls Try.prog 66 #[.agg (cellsD t), .int .u32 y, .pointer (some ⟨p, 0, none⟩), .string disk] w fun e w' =>
      e = .returned (.string (moveT n t y disk B)) ∧ Mem w' p g n c (moveB n t y disk B) (moveD n t y disk D) ∧ w.grownBy w' (some g) := by
  obtain ⟨t1, t2, t3, t4, t5, t6, t7, t8, t9⟩ := dmRules
  obtain ⟨p0, p1, p2, p3, p4⟩ := dmParts
  have M0 := M.on (grow w (.cells (cellsD t) 66))
  have R0 := Rat.new w t 66
  have B0 := grow w (.cells (cellsD t) 66)
  have F := hide (fits_any M0 t ht disk hm)
  cases hf : fitsB n t disk
  · have e1 : moveT n t y disk B = disk := by unfold moveT; simp [hf]
    have e2 : moveB n t y disk B = B := by unfold moveB; simp [hf]
    have e3 : moveD n t y disk D = D := by unfold moveD; simp [hf]
    rw [e1, e2, e3]
    rw [hf] at F
    clear e1 e2 e3 hf
    go_enter Try.func66, Try.ntmps66
    go_wp2_with fail
    refine F.out.mono ?_
    rintro e w1 ⟨rfl, b1⟩
    have M1 := hide (M0.on b1)
    have G1 := hide (grownBy_of (onto B0 (Nat.le_refl _) b1) (some g))
    clear M0 B0 b1 M F R0
    go_wp2
    go_ret
    exact ⟨rfl, M1.out, G1.out⟩
  · obtain ⟨a, num, ea, en, hz, hn, ha, hl⟩ := fits_is ht hf
    rw [hf] at F
    have n64 := M.n64
    by_cases y1 : y = 1
    · have e1 : moveT n t y disk B = disk := by unfold moveT; simp [y1]
      have e2 : moveB n t y disk B = secB B a 64 (fun j => byteAt disk (64 * num + j)) := by unfold moveB; simp [hf, y1, ea, en]
      have e3 : moveD n t y disk D = putD D (a / 256) := by unfold moveD; simp [hf, y1, ea]
      rw [e1, e2, e3]
      clear e1 e2 e3 hf
      subst y1
      go_enter Try.func66, Try.ntmps66
      go_wp2_with fail
      refine F.out.mono ?_
      rintro e w1 ⟨rfl, b1⟩
      have M1 := M0.on b1
      have G1 := hide (grownBy_of (onto B0 (Nat.le_refl _) b1) (some g))
      obtain ⟨l0, l1, -, -, -⟩ := (R0.on b1).five
      rw [ea] at l0
      rw [en] at l1
      have S := hide (store_sector M1 a num hn ha hl disk hz)
      clear M0 B0 b1 M F R0 M1 ea en
      go_wp2_with fail
      refine S.out.mono ?_
      rintro e w2 ⟨rfl, M2, g2⟩
      have M3 := hide M2
      have G3 := hide (grownBy_trans G1.out g2)
      clear M2 g2 S G1
      go_wp2
      go_ret
      exact ⟨rfl, M3.out, G3.out⟩
    · have e2 : moveB n t y disk B = B := by unfold moveB; simp [y1]
      have e3 : moveD n t y disk D = D := by unfold moveD; simp [y1]
      rw [e2, e3]
      have d1 : (y == 1) = false := by simpa using y1
      by_cases y2 : y = 2
      · have e1 : moveT n t y disk B = outV B a num disk := by unfold moveT; simp [hf, y2, ea, en]
        rw [e1]
        clear e1 e2 e3 hf y1 d1
        subst y2
        go_enter Try.func66, Try.ntmps66
        go_wp2_with fail
        refine F.out.mono ?_
        rintro e w1 ⟨rfl, b1⟩
        have M1 := M0.on b1
        have B1 := hide (onto B0 (Nat.le_refl _) b1)
        obtain ⟨l0, l1, -, -, -⟩ := (R0.on b1).five
        rw [ea] at l0
        rw [en] at l1
        have S := hide (with_sector M1 a num hn ha hl disk hz)
        have M1 := hide M1
        clear M0 B0 b1 M F R0 ea en
        go_wp2_with fail
        refine S.out.mono ?_
        rintro e w2 ⟨rfl, b2⟩
        have M3 := hide (M1.out.on b2)
        have G3 := hide (grownBy_of (onto B1.out (Nat.le_refl _) b2) (some g))
        clear b2 S M1 B1
        go_wp2
        go_ret
        exact ⟨rfl, M3.out, G3.out⟩
      · have e1 : moveT n t y disk B = disk := by unfold moveT; simp [y2]
        rw [e1]
        have d2 : (y == 2) = false := by simpa using y2
        clear e1 e2 e3 hf y1 y2
        go_enter Try.func66, Try.ntmps66
        go_wp2_with fail
        refine F.out.mono ?_
        rintro e w1 ⟨rfl, b1⟩
        have M1 := hide (M0.on b1)
        have G1 := hide (grownBy_of (onto B0 (Nat.le_refl _) b1) (some g))
        clear M0 B0 b1 M F R0
        go_wp2
        go_ret
        exact ⟨rfl, M1.out, G1.out⟩

end Go.Proofs.Ytdapjpbdplhgbaa.Dm
