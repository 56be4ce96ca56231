/- Layer 11: contract of the document's Move. -/
import Derived.Test.YtdapjpbdplhgbaaGreatQDmThree
namespace Go.Proofs.YtdapjpbdplhgbaaGreat.Dm
open Go.RowKit
set_option linter.unusedVariables false
set_option maxRecDepth 100000
set_option linter.unusedSimpArgs false

set_option maxHeartbeats 2000000 in
set_option maxRecDepth 100000 in
theorem rmove_no {w : World} {p gb gd n : Nat} {B : Nat → Nat} {D : Nat → Bool} (R : RMem w p gb gd n B D) (t : Dm) (ht : Wd t) (y : Int) (disk : ByteArray) (hm : disk.size ≤ maxLen) (hf : fitsB n t disk = false) :
    Calls Tryz.prog 82 #[.agg (cellsD t), .int .u32 y, .pointer (some ⟨p, 0, none⟩), .string disk] w fun e w' =>
      e = .returned (.string disk) ∧ Below w.heap.size w w' := by
  obtain ⟨t1, t2, t3, t4, t5, t6, t7, t8, t9⟩ := dmRules
  obtain ⟨p0, p1, p2, p3, p4⟩ := dmParts
  obtain ⟨d1, d2, d3⟩ := dmDrew
  obtain ⟨a0, a1⟩ := ht.a
  obtain ⟨b0, b1⟩ := ht.n
  have n64 := R.n64
  have n4 := R.n4
  unfold maxLen at hm
  have R0 : RMem (w.alloc (.cells (cellsD t) 42)).drew p gb gd n B D := (R.on (grow w (.cells (cellsD t) 42))).drew
  have hb := R0.hb
  obtain ⟨l0, l1, -, -, -⟩ : _ := Rat.five (show Rat (w.alloc (.cells (cellsD t) 42)).drew w.heap.size t from Rat.new w t 42)
  have hw1 : IntKind.i64.wrap t.a = t.a := by rw [IntKind.wrap_i64]; omega
  have hw2 : IntKind.i64.wrap (256 * (n : Int) - 64) = 256 * (n : Int) - 64 := by rw [IntKind.wrap_i64]; omega
  clear ht R R0
  by_cases h1 : disk.size = 1024
  · have e1 : ((disk.size : Int) != 1024) = false := by simp [h1]
    by_cases h2 : t.n < 16
    · have e2 : decide (15 < t.n) = false := by simp; omega
      by_cases h3 : t.a % 64 = 0
      · have h4 : ¬ t.a + 64 ≤ 256 * (n : Int) := by
          intro h4
          unfold fitsB at hf
          simp [h1, h2, h3, h4] at hf
        have e4 : decide (256 * (n : Int) - 64 < t.a) = true := by simp; omega
        have e3 : t.a.tmod 64 = 0 := by rw [Int.tmod_eq_emod_of_nonneg a0]; exact h3
        clear hf
        go_enter Tryz.func82, Tryz.ntmps82
        go_wp2
        go_region
        all_goals
          go_wp2
          go_ret
          exact ⟨rfl, (grow _ _).drew⟩
      · have e3 : (t.a.tmod 64 != 0) = true := by rw [Int.tmod_eq_emod_of_nonneg a0]; simpa using h3
        have e3' : (t.a % 64 != 0) = true := by simpa using h3
        clear hf h3
        go_enter Tryz.func82, Tryz.ntmps82
        go_wp2
        go_region
        all_goals
          go_wp2
          go_ret
          exact ⟨rfl, (grow _ _).drew⟩
    · have e2 : decide (15 < t.n) = true := by simp; omega
      clear hf
      go_enter Tryz.func82, Tryz.ntmps82
      go_wp2
      go_region
      all_goals
        go_wp2
        go_ret
        exact ⟨rfl, (grow _ _).drew⟩
  · have e1 : ((disk.size : Int) != 1024) = true := by simp; omega
    clear hf h1
    go_enter Tryz.func82, Tryz.ntmps82
    go_wp2
    go_region
    all_goals
      go_wp2
      go_ret
      exact ⟨rfl, (grow _ _).drew⟩

theorem _root_.Go.Proofs.YtdapjpbdplhgbaaGreat.RKept.ofB {a b c : Nat} {x y : World} (h : Below x.heap.size x y) : RKept a b c x y := ⟨h.os, h.tape, h.output, h.size, fun k hk _ _ _ => h.block k hk⟩

theorem _root_.Go.Proofs.YtdapjpbdplhgbaaGreat.RMem.congr2 {w : World} {p gb gd n : Nat} {B B' : Nat → Nat} {D D' : Nat → Bool} (R : RMem w p gb gd n B D) (e : ∀ j, j < 256 * n → B j = B' j) (d : ∀ k, k < n → D k = D' k) (l : ∀ j, B' j < 256) : RMem w p gb gd n B' D' :=
  ⟨R.zp, R.zb, R.zd, R.n1, R.n2, R.n3, R.n4, R.n64, R.hb, R.hd, fun j hj => by rw [← e j hj]; exact R.by' j hj, fun k hk => by rw [← d k hk]; exact R.di k hk, R.fp, R.fb, R.fd, l⟩

theorem secB_one {B F : Nat → Nat} (h : ∀ j, F j < 256) (a k j : Nat) : putB (secB B a k F) (a + k) 1 (F k) j = secB B a (k + 1) F j := by
  unfold putB secB
  by_cases h1 : a + k ≤ j ∧ j < a + k + 1
  · have e : j - a = k := by omega
    have e2 : j - (a + k) = 0 := by omega
    have := h k
    rw [if_pos h1, if_pos (by omega), e, e2]
    unfold byteOf
    simp only [show 1 - 1 - 0 = 0 from rfl, Nat.pow_zero, Nat.div_one]
    omega
  · rw [if_neg h1]
    by_cases h2 : a ≤ j ∧ j < a + k
    · rw [if_pos h2, if_pos (by omega)]
    · rw [if_neg h2, if_neg (by omega)]

/-- What lies there behind the copy of the disk. -/
structure Copied (w X : World) (p gb gd n : Nat) (B : Nat → Nat) (D : Nat → Bool) (t : Dm) (disk : ByteArray) : Prop where
  r : RMem X p gb gd n B D
  a : Rat X w.heap.size t
  row : RowIs X (w.heap.size + 1) 1024 (byteAt disk)
  be : Below w.heap.size w X

theorem copied {w : World} {p gb gd n : Nat} {B : Nat → Nat} {D : Nat → Bool} (R : RMem w p gb gd n B D) (t : Dm) (disk : ByteArray) (hz : disk.size = 1024) :
    Copied w (rowWorld (w.alloc (.cells (cellsD t) 42)).drew disk) p gb gd n B D t disk := by
  obtain ⟨x, hx⟩ : ∃ x, (w.alloc (.cells (cellsD t) 42)).drew = x := ⟨_, rfl⟩
  have g1 : Below w.heap.size w x := by rw [← hx]; exact (grow w _).drew
  have hs : x.heap.size = w.heap.size + 1 := by rw [← hx]; simp
  have A : Rat x w.heap.size t := by rw [← hx]; exact Rat.new w t 42
  have b := row_below x disk
  have r := row_of x disk
  rw [hz, hs] at r
  rw [hx]
  exact ⟨(R.on g1).on b, A.on b, r, onto g1 (Nat.le_refl _) b⟩

theorem disk_back {disk : ByteArray} (hz : disk.size = 1024) : textOf 1024 (byteAt disk) = disk := by
  have := textOf_byteAt disk
  rw [hz] at this
  exact this.symm

set_option maxHeartbeats 2000000 in
set_option maxRecDepth 100000 in
theorem rmove_in {w : World} {p gb gd n : Nat} {B : Nat → Nat} {D : Nat → Bool} (R : RMem w p gb gd n B D) (a num : Nat) (tb ty : Int) (tr : Bool) (disk : ByteArray) (hz : disk.size = 1024) (hn : num < 16) (ha : a % 64 = 0) (hl : a + 64 ≤ 256 * n) :
    Calls Tryz.prog 82 #[.agg (cellsD ⟨(a : Int), (num : Int), tb, ty, tr⟩), .int .u32 1, .pointer (some ⟨p, 0, none⟩), .string disk] w fun e w' =>
      e = .returned (.string disk) ∧ RMem w' p gb gd n (secB B a 64 (fun j => byteAt disk (64 * num + j))) (putD D (a / 256)) ∧ RKept p gb gd w w' := by
  obtain ⟨t1, t2, t3, t4, t5, t6, t7, t8, t9⟩ := dmRules
  obtain ⟨p0, p1, p2, p3, p4⟩ := dmParts
  obtain ⟨d1, d2, d3⟩ := dmDrew
  have n64 := R.n64
  have n4 := R.n4
  have e1 : ((disk.size : Int) != 1024) = false := by simp [hz]
  have e2 : decide (15 < (num : Int)) = false := by simp; omega
  have e3 : (a : Int).tmod 64 = 0 := by rw [Int.tmod_eq_emod_of_nonneg (by omega)]; omega
  have e4 : decide (256 * (n : Int) - 64 < (a : Int)) = false := by simp; omega
  have hw1 : IntKind.i64.wrap (a : Int) = (a : Int) := by rw [IntKind.wrap_i64]; omega
  have hw2 : IntKind.i64.wrap (256 * (n : Int) - 64) = 256 * (n : Int) - 64 := by rw [IntKind.wrap_i64]; omega
  have R0 := (R.on (grow w (.cells (cellsD ⟨(a : Int), (num : Int), tb, ty, tr⟩) 42))).drew
  have A0 : Rat (w.alloc (.cells (cellsD ⟨(a : Int), (num : Int), tb, ty, tr⟩) 42)).drew w.heap.size ⟨(a : Int), (num : Int), tb, ty, tr⟩ := Rat.new w _ 42
  have hcv := conv_row (w.alloc (.cells (cellsD ⟨(a : Int), (num : Int), tb, ty, tr⟩) 42)).drew disk
  have CP := copied R ⟨(a : Int), (num : Int), tb, ty, tr⟩ disk hz
  have zp := R.zp
  have zb := R.zb
  have zd := R.zd
  rw [hz] at hcv
  rw [show (w.alloc (.cells (cellsD ⟨(a : Int), (num : Int), tb, ty, tr⟩) 42)).drew.heap.size = w.heap.size + 1 by simp] at hcv
  obtain ⟨C, hC⟩ : ∃ C, C = grownCap (w.alloc (.cells (cellsD ⟨(a : Int), (num : Int), tb, ty, tr⟩) 42)).drew 1024 0 5 := ⟨_, rfl⟩
  rw [← hC] at hcv
  generalize rowWorld (w.alloc (.cells (cellsD ⟨(a : Int), (num : Int), tb, ty, tr⟩) 42)).drew disk = X1 at *
  have hb := R0.hb
  obtain ⟨l0, l1, -, -, -⟩ := A0.five
  replace CP := hide CP
  clear R0 A0 hC R
  obtain ⟨F, hF⟩ : ∃ F : Nat → Nat, F = fun j => byteAt disk (64 * num + j) := ⟨_, rfl⟩
  have hF6 : ∀ j, F j < 256 := fun j => by rw [hF]; exact byteAt_lt _ _
  have hFi : ∀ k, k < 64 → ∀ h : 64 * num + k < disk.size, F k = (disk[64 * num + k]'h).toNat := fun k hk h => by rw [hF, ← byteAt_in]
  have lt := CP.out.r.lt
  rw [← hF]
  replace hF := hide hF
  replace hFi := hide hFi
  replace hF6 := hide hF6
  replace lt := hide lt
  go_enter Tryz.func82, Tryz.ntmps82
  go_wp2
  go_region
  all_goals
    go_wp2
    go_loopw [10] (fun i wr => ∃ k : Nat, k ≤ 64 ∧ i = .int .i64 (k : Int) ∧ Hid (RMem wr p gb gd n (secB B a k F) (secD D (a / 256) k)) ∧ Hid (RKept p gb gd X1 wr)) (fun i _ => 64 - (intOf i).toNat)
    case atStart => exact ⟨0, by omega, rfl, hide (RMem.congr2 CP.out.r (fun j _ => by unfold secB; rw [if_neg (by omega)]) (fun j _ => by simp [secD]) (secB_lt lt.out hF6.out _ _)), hide (RKept.refl _ _ _ _)⟩
    case round =>
      clear hb l0 l1 hcv
      obtain ⟨k, hk, rfl, R, K⟩ := hrel
      by_cases h : k < 64
      · have A1 := Rat.kept (i := p) (j := gb) (k := gd) CP.out.a K.out (by omega) (by omega) (by omega)
        have A2 : Rat wr.drew w.heap.size ⟨(a : Int), (num : Int), tb, ty, tr⟩ := A1
        obtain ⟨l0, l1, -, -, -⟩ := A2.five
        clear A1 A2
        have hin : 64 * num + k < disk.size := by omega
        have hin' : (64 : Int) * (num : Int) + (k : Int) < (disk.size : Int) := by omega
        have hFk := hFi.out k h hin
        have hin2 : (64 * (num : Int) + (k : Int)).toNat < disk.size := by omega
        have hFk2 : (disk[(64 * (num : Int) + (k : Int)).toNat]'hin2).toNat = F k := by
          rw [hFk]
          congr 2
        have hk8 := hF6.out k
        have c2 := hide (rstore_any R.out.drew (a + k) 1 (F k) (by omega) (Nat.lt_trans (hF6.out k) (by decide)) (by unfold may; omega))
        have hst := hide (fun j => secB_one (B := B) hF6.out a k j)
        rw [show ((a + k : Nat) : Int) = (a : Int) + (k : Int) by omega, show (a + k) / 256 = a / 256 by omega, show ((1 : Nat) : Int) = 1 from rfl] at c2
        have w1 : IntKind.u32.wrap (k : Int) = (k : Int) := by rw [IntKind.wrap_u32]; omega
        have w2 : IntKind.u32.wrap ((a : Int) + (k : Int)) = (a : Int) + (k : Int) := by rw [IntKind.wrap_u32]; omega
        have w3 : IntKind.i64.wrap (num : Int) = (num : Int) := by rw [IntKind.wrap_i64]; omega
        have w4 : IntKind.i64.wrap (64 * (num : Int)) = 64 * (num : Int) := by rw [IntKind.wrap_i64]; omega
        have w5 : IntKind.i64.wrap (64 * (num : Int) + (k : Int)) = 64 * (num : Int) + (k : Int) := by rw [IntKind.wrap_i64]; omega
        have w6 : IntKind.u32.wrap ((disk[(64 * (num : Int) + (k : Int)).toNat]'hin2).toNat : Int) = (F k : Int) := by rw [hFk2, IntKind.wrap_u32]; omega
        clear hFk hFk2
        go_wp2
        go_region_with (go_at_call 74; refine c2.out.mono ?_; rintro e w2 ⟨rfl, M2, k2⟩)
        all_goals
          have M3 := hide (RMem.congr2 M2 (fun j _ => hst.out j) (fun j _ => secD_step D (a / 256) k j) (secB_lt lt.out hF6.out _ _))
          have K3 := hide (K.out.trans ((RKept.ofB (Below.refl _ _).drew).trans k2))
          clear M2 k2 c2 hst R K l0 l1
          go_wp2
          go_roundw
          case rel => exact ⟨k + 1, by omega, by go_num, M3, K3⟩
          case measure => simp [intOf]; omega
      · obtain rfl : k = 64 := by omega
        have R2 := hide (RMem.congr2 R.out (D' := putD D (a / 256)) (fun _ _ => rfl) (fun _ _ => by simp [secD]) (secB_lt lt.out hF6.out _ _))
        have row := CP.out.row.keep (K.out.block _ CP.out.row.lt (by omega) (by omega) (by omega))
        have hback := conv_back row C
        rw [disk_back hz] at hback
        have K2 := hide ((RKept.ofB (a := p) (b := gb) (c := gd) CP.out.be).trans K.out)
        clear R K row
        go_wp2
        go_loopw [11] (fun i x => i = .int .i64 0 ∧ x = wr) (fun _ _ => 0)
        case atStart => exact ⟨rfl, rfl⟩
        case round =>
          obtain ⟨rfl, rfl⟩ := hrel
          go_wp2
          go_ret
          exact ⟨rfl, R2.out, K2.out⟩

end Go.Proofs.YtdapjpbdplhgbaaGreat.Dm
