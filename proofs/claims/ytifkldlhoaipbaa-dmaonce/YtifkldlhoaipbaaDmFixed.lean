/- Layer 11: the calls whose answers the document fixes are answered so. -/
import Derived.Test.YtifkldlhoaipbaaDmMove2
import Derived.Test.YtifkldlhoaipbaaDmTextM
namespace Go.Proofs.Ytifkldlhoaipbaa
open Go.RowKit
set_option linter.unusedVariables false
set_option linter.unusedSimpArgs false

/-- A disk of noughts. -/
def disk0 : ByteArray := textOf 1024 (fun _ => 0)

theorem disk0_size : disk0.size = 1024 := textOf_size _ _

theorem disk0_at (j : Nat) (h : j < 1024) : byteAt disk0 j = 0 := byteAt_textOf 1024 (fun _ => 0) (fun _ => by decide) j h

/-- The state with k ticks left. -/
def fixD (k : Nat) : Dm := ⟨64, 2, (k : Int), 1, false⟩

theorem w_of (a : Int) (h0 : 0 ≤ a) (h1 : a < 4294967296) : W32 a := ⟨h0, h1⟩

theorem fixD_w (k : Nat) (h : k ≤ 10) : Wd (fixD k) := ⟨w_of 64 (by decide) (by decide), w_of 2 (by decide) (by decide), w_of (k : Int) (by omega) (by omega), w_of 1 (by decide) (by decide)⟩

theorem fixD_tick (k : Nat) : tickV (fixD (k + 2)) = fixD (k + 1) ∧ wayV (fixD (k + 2)) = 0 := by
  have h1 : ¬ (((k + 2 : Nat) : Int) = 0) := by omega
  have h2 : (1 : Int) < ((k + 2 : Nat) : Int) := by omega
  constructor
  · unfold tickV fixD
    rw [if_neg h1, if_pos h2]
    congr 1
    show ((k + 2 : Nat) : Int) - 1 = ((k + 1 : Nat) : Int)
    omega
  · unfold wayV fixD
    rw [if_neg h1, if_pos h2]

/-- The state behind the last tick. -/
def endD : Dm := ⟨64, 2, 0, 0, true⟩

theorem endD_w : Wd endD := ⟨⟨by decide, by decide⟩, ⟨by decide, by decide⟩, ⟨by decide, by decide⟩, ⟨by decide, by decide⟩⟩

def oneD : Dm := ⟨0, 1, 0, 0, false⟩

theorem oneD_w : Wd oneD := ⟨⟨by decide, by decide⟩, ⟨by decide, by decide⟩, ⟨by decide, by decide⟩, ⟨by decide, by decide⟩⟩

theorem fits_end : fitsB 4 endD disk0 = true := by
  unfold fitsB
  rw [disk0_size]
  decide

theorem fits_one : fitsB 4 oneD disk0 = true := by
  unfold fitsB
  rw [disk0_size]
  decide

/-- Memory's bytes behind the first move. -/
def fxB : Nat → Nat := secB (fillF 1) 64 64 (fun j => byteAt disk0 (128 + j))

theorem move_first : moveT 4 endD 1 disk0 (fillF 1) = disk0 ∧ moveB 4 endD 1 disk0 (fillF 1) = fxB := by
  constructor
  · unfold moveT
    rw [if_neg (by omega)]
  · unfold moveB
    rw [if_pos ⟨fits_end, rfl⟩]
    rfl

theorem fxB_num : numOf fxB 64 4 = 0 := by
  rw [num4]
  have h : ∀ j, 64 ≤ j → j < 128 → fxB j = 0 := by
    intro j h1 h2
    unfold fxB secB
    rw [if_pos (by omega)]
    exact disk0_at _ (by omega)
  rw [h 64 (by omega) (by omega), h (64 + 1) (by omega) (by omega), h (64 + 2) (by omega) (by omega), h (64 + 3) (by omega) (by omega)]
  rfl

theorem fxB_0 : fxB 0 = 1 := by
  unfold fxB secB
  rw [if_neg (by omega)]
  rfl

/-- The disk behind the second move. -/
def fixT : ByteArray := outV fxB 0 1 disk0

theorem move_second : moveT 4 oneD 2 disk0 fxB = fixT := by
  unfold moveT
  rw [if_pos ⟨fits_one, rfl⟩]
  rfl

theorem fixT_size : fixT.size = 1024 := textOf_size _ _

theorem fixT_head : fixT.extract 0 65 = disk0.extract 0 64 ++ ⟨#[1]⟩ := by
  have e1 : (⟨#[1]⟩ : ByteArray) = textOf 1 (fun _ => 1) := by decide +kernel
  have e2 : disk0.extract 0 64 = textOf 64 (fun _ => 0) := textOf_cut 1024 0 64 _ (by omega) (by omega)
  have e3 : fixT.extract 0 65 = textOf (64 + 1) (fun j => secB (byteAt disk0) (64 * 1) 64 (fun j => fxB (0 + j)) (0 + j)) := textOf_cut 1024 0 65 _ (by omega) (by omega)
  rw [e1, e2, e3, ← textOf_add]
  have a1 : textOf 64 (fun j => secB (byteAt disk0) (64 * 1) 64 (fun j => fxB (0 + j)) (0 + j)) = textOf 64 (fun _ => 0) := textOf_congr fun j hj => by
    unfold secB
    rw [if_neg (by omega), disk0_at _ (by omega)]
  have a2 : textOf 1 (fun j => secB (byteAt disk0) (64 * 1) 64 (fun j => fxB (0 + j)) (0 + (64 + j))) = textOf 1 (fun _ => 1) := textOf_congr fun j hj => by
    obtain rfl : j = 0 := by omega
    unfold secB
    rw [if_pos (by omega)]
    exact fxB_0
  rw [a1, a2]

theorem fixT_tail : fixT.extract 128 1024 = disk0.extract 128 1024 := by
  unfold fixT outV
  have e2 : disk0.extract 128 1024 = textOf (1024 - 128) (fun _ => 0) := textOf_cut 1024 128 1024 _ (by omega) (by omega)
  rw [textOf_cut 1024 128 1024 _ (by omega) (by omega), e2]
  apply textOf_congr
  intro j hj
  unfold secB
  rw [if_neg (by omega), disk0_at _ (by omega)]

theorem pages_4 : pagesN 4 = 4 := by decide

set_option maxHeartbeats 2000000 in
set_option maxRecDepth 100000 in
theorem fixed_any (w : World) : Calls Try.prog 15 #[] w fun e w' => e = .returned (.bool true) ∧ Below w.heap.size w w' := by
  obtain ⟨t1, t2, t3, t4, t5, t6, t7, t8, t9⟩ := dmRules
  obtain ⟨p0, p1, p2, p3, p4⟩ := dmParts
  obtain ⟨s0, s1, s2, s3, s4⟩ := dmSets
  obtain ⟨n2, n3, n4, n5, n0, -⟩ := five_more
  have fl := filled_any 4 1 (by decide) w
  rw [pages_4] at fl
  have c1 := hide fun W => write_any ⟨64, 2, 0, 0, false⟩ 8 1 W
  rw [show writeV ⟨64, 2, 0, 0, false⟩ 8 1 = fixD 10 from rfl, show formV 8 = 0 from rfl] at c1
  go_enter Try.func15, Try.ntmps15
  go_wp2_with fail
  refine fl.mono ?_
  rintro e w1 ⟨p, g, q, gb, gd, rfl, bo⟩
  have M := bo.m
  have hp := bo.bp
  have hg := bo.bg
  have be := bo.be
  clear bo fl
  go_wp2_with fail
  refine (c1.out _).mono ?_
  rintro e w2 ⟨rfl, b2⟩
  have g2 := grow w2 (.cells (cellsD (fixD 10)) 24)
  replace M := M.on b2
  have hpL : p < w2.heap.size := M.zp
  have hgL : g < w2.heap.size := M.zg
  replace M := M.on g2
  replace be := onto be (Nat.le_refl _) b2
  have hwL := be.size
  replace be := onto be (Nat.le_refl _) g2
  have R := Rat.new w2 (fixD 10) 24
  obtain ⟨-, -, l2, -, -⟩ := R.five
  replace l2 : (w2.alloc (.cells (cellsD (fixD 10)) 24)).cell? ⟨w2.heap.size, 2, none⟩ = some (.int .u32 10) := l2
  clear b2 g2 c1
  go_wp2_with fail
  generalize w2.alloc (.cells (cellsD (fixD 10)) 24) = X0 at *
  generalize w2.heap.size = L at *
  replace M := hide M
  replace R := hide R
  replace be := hide be
  clear l2
  go_loopw [5] (fun i wr => ∃ k : Nat, k ≤ 9 ∧ i = .int .i64 (k : Int) ∧ Hid (Mem wr p g 4 4 (fillF 1) (fun _ => false)) ∧ Hid (Rat wr L (fixD (10 - k))) ∧ Hid (Below w.heap.size w wr)) (fun i _ => 9 - (intOf i).toNat)
  case atStart => exact ⟨0, by omega, rfl, M, R, be⟩
  case round =>
    clear M R be
    obtain ⟨k, hk, rfl, M, R, be⟩ := hrel
    by_cases h : k < 9
    · have c2 := hide fun W => tick_any (fixD_w (10 - k) (by omega)) W
      obtain ⟨q1, q2⟩ := fixD_tick (8 - k)
      rw [show 8 - k + 2 = 10 - k by omega, show 8 - k + 1 = 10 - (k + 1) by omega] at q1
      rw [show 8 - k + 2 = 10 - k by omega] at q2
      rw [q1, q2] at c2
      have l1 := R.out.load
      obtain ⟨D1, hD1⟩ : ∃ D1, D1 = fixD (10 - (k + 1)) := ⟨_, rfl⟩
      rw [← hD1] at c2
      replace hD1 := hide hD1
      generalize fixD (10 - k) = D2 at *
      clear q1 q2
      go_wp2_with fail
      refine (c2.out _).mono ?_
      rintro e w3 ⟨rfl, b3⟩
      have g3 := grow w3 (.cells (cellsD D1) 24)
      have R3 := (R.out.on b3).on g3
      have M3 := (M.out.on b3).on g3
      have B3 := onto (onto be.out (Nat.le_refl _) b3) (Nat.le_refl _) g3
      have x1 := (R.out.on b3).1
      have x2 := (R.out.on b3).2.1
      have x3 := (R.out.on b3).2.2
      have es : (w3.alloc (.cells (cellsD D1) 24)).setRow L (cellsD D1) = (w3.setRow L (cellsD D1)).alloc (.cells (cellsD D1) 24) := by rw [setRow_alloc, if_neg (by omega)]
      have lx := (Rat.new w3 D1 24).load
      have R4 := hide (R3.set D1)
      have M4 := hide (M3.keep (w' := (w3.alloc (.cells (cellsD D1) 24)).setRow L (cellsD D1)) (by rw [setRow_size]; exact Nat.le_refl _) (setRow_other _ L p _ (by omega)) (setRow_other _ L g _ (by omega)))
      have B4 := hide (below_setRow B3 hwL (cellsD D1))
      rw [es] at R4 M4 B4
      clear es b3 g3 R3 M3 B3 R M be l1 c2
      go_wp2
      go_roundw
      case rel => exact ⟨k + 1, by omega, by go_num, M4, hide (by rw [← hD1.out]; exact R4.out), B4⟩
      case measure => simp [intOf]; omega
    · obtain rfl : k = 9 := by omega
      have c2 := hide fun W => tick_any (fixD_w 1 (by omega)) W
      rw [show tickV (fixD 1) = endD from rfl, show wayV (fixD 1) = 1 from rfl] at c2
      have R1 : Rat wr L (fixD 1) := R.out
      have l1 := R1.load
      replace R1 := hide R1
      generalize fixD 1 = D1 at *
      clear R
      go_wp2_with fail
      refine (c2.out _).mono ?_
      rintro e w3 ⟨rfl, b3⟩
      have g3 := grow w3 (.cells (cellsD endD) 24)
      have M3 := (M.out.on b3).on g3
      have B3 := onto (onto be.out (Nat.le_refl _) b3) (Nat.le_refl _) g3
      have RX := Rat.new w3 endD 24
      have mk := make_row (w3.alloc (.cells (cellsD endD) 24)) 1024 (by omega)
      have mr := made_row (w3.alloc (.cells (cellsD endD) 24)) 1024
      have g4 := grow (w3.alloc (.cells (cellsD endD) 24)) (.cells (madeCells #[.int .u8 0] 1024) 5)
      have hbk := conv_back mr 1024
      rw [show textOf 1024 (fun _ => 0) = disk0 from rfl] at hbk
      rw [show ((1024 : Nat) : Int) = 1024 from rfl] at mk
      replace M3 := M3.on g4
      replace RX := RX.on g4
      replace B3 := onto B3 (Nat.le_refl _) g4
      generalize (w3.alloc (.cells (cellsD endD) 24)).alloc (.cells (madeCells #[.int .u8 0] 1024) 5) = X4 at *
      have hsz : (w3.alloc (.cells (cellsD endD) 24)).heap.size = w3.heap.size + 1 := by simp
      rw [hsz] at mk hbk
      have lx := RX.load
      replace M3 := hide M3
      replace RX := hide RX
      replace B3 := hide B3
      have hL : L < w3.heap.size := (R1.out.on b3).2.2
      clear b3 g3 g4 mr M be R1 l1 c2 hsz
      have c3 := hide fun W => read_any endD 16 W
      have c4 := hide fun W => parse_no (s := ⟨#[]⟩) (by decide) (by decide) W
      rw [show readV endD 16 = 0 from rfl, show formV 16 = 110 from rfl] at c3
      go_wp2_with fail
      refine (move_any M3.out endD endD_w 1 disk0 (by rw [disk0_size]; unfold maxLen; omega)).mono ?_
      rintro e w5 ⟨rfl, M5, g5⟩
      rw [move_first.1]
      rw [move_first.2] at M5
      replace RX := hide (RX.out.far g5 (by omega))
      replace B3 := hide (grown_below B3.out g5 B3.out.size hg)
      clear M3 lx mk hbk g5
      go_wp2_with fail
      refine (load_any M5 64 4 (by decide) (by unfold may; decide)).mono ?_
      rintro e w' ⟨rfl, rfl⟩
      rw [fxB_num]
      replace M5 := hide M5
      go_wp2_with fail
      refine (move_any M5.out oneD oneD_w 2 disk0 (by rw [disk0_size]; unfold maxLen; omega)).mono ?_
      rintro e w6 ⟨rfl, M6, g6⟩
      rw [move_second]
      replace RX := hide (RX.out.far g6 (by omega))
      replace B3 := hide (grown_below B3.out g6 B3.out.size hg)
      have lx := RX.out.load
      clear M5 M6 g6
      go_wp2_with fail
      refine (c3.out _).mono ?_
      rintro e w7 ⟨rfl, b7⟩
      replace RX := hide (RX.out.on b7)
      replace B3 := hide (onto B3.out (Nat.le_refl _) b7)
      clear b7 lx
      go_wp2_with fail
      refine (c4.out _).mono ?_
      rintro e w8 ⟨rfl, b8⟩
      replace RX := hide (RX.out.on b8)
      replace B3 := hide (onto B3.out (Nat.le_refl _) b8)
      clear b8
      go_wp2_with fail
      have RY : Rat (w8.alloc (.cells (cellsD D0) 24)).drew w3.heap.size endD := RX.out.on (grow _ _).drew
      have lx := RY.load
      have z1 := fixT_size
      have z2 := disk0_size
      have z3 : (disk0.extract 0 64).size = 64 := by rw [ByteArray.size_extract, disk0_size]; rfl
      have h1 := fixT_head
      have h2 := fixT_tail
      have he : ∀ W : World, (binOp .eql 24 (.agg (cellsD endD)) (.agg (cellsD ⟨64, 2, D0.b, D0.y, true⟩))).run Try.prog W = .ok (.bool true) W := fun W => eq_self endD W
      clear RX RY
      generalize fixT = T at *
      generalize disk0 = Z at *
      go_region
      go_wp2
      go_ret
      exact ⟨rfl, (onto B3.out (Nat.le_refl _) (grow _ _)).drew⟩

end Go.Proofs.Ytifkldlhoaipbaa
