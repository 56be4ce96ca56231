/- Layer 12: the rng of bytes, the program's. -/
import Derived.Test.YtdapjpbdplhgbaaGreatQBuText
import Derived.Test.YtdapjpbdplhgbaaGreatQDmTextM
import Derived.Test.YtdapjpbdplhgbaaGreatQTmAll
import Derived.Test.YtdapjpbdplhgbaaGreatQUaTwo
import Derived.RegionTactic
namespace Go.Proofs.YtdapjpbdplhgbaaGreat
open Go.RowKit
set_option linter.unusedVariables false
set_option maxRecDepth 100000

theorem or_step64 {a b : Nat} (k : Nat) (hb : b < 2 ^ k) (ha : a * 2 ^ k < 4294967296) (c : Nat) (hc : c = 2 ^ k) (hb' : b < 4294967296) : bits .or .i64 ((a : Int) * (c : Int)) (b : Int) = (a : Int) * (c : Int) + b := by
  subst hc
  have h1 : ((a : Int) * ((2 ^ k : Nat) : Int)) = ((a * 2 ^ k : Nat) : Int) := by rw [Int.natCast_mul]
  rw [h1]
  generalize hX : a * 2 ^ k = X at *
  have e : (BitVec.ofInt 64 (X : Int) ||| BitVec.ofInt 64 (b : Int)).toNat = X ||| b := by
    rw [BitVec.toNat_or, BitVec.toNat_ofInt, BitVec.toNat_ofInt]
    congr 1 <;> omega
  show IntKind.i64.wrap ((BitVec.ofInt 64 (X : Int) ||| BitVec.ofInt 64 (b : Int)).toNat : Int) = (X : Int) + b
  rw [e]
  have h2 : X ||| b = X + b := by
    have := Nat.shiftLeft_add_eq_or_of_lt (i := k) hb a
    rw [Nat.shiftLeft_eq, hX] at this
    exact this.symm
  rw [h2]
  have h3 : X + b < 8589934592 := by omega
  rw [show (X : Int) + (b : Int) = ((X + b : Nat) : Int) by omega]
  generalize X + b = Y at *
  simp [IntKind.wrap, IntKind.bits, IntKind.signed]
  split <;> omega

theorem ors64 (b0 b1 b2 b3 : Nat) (h0 : b0 < 256) (h1 : b1 < 256) (h2 : b2 < 256) (h3 : b3 < 256) :
    ∃ x y : Int, bits .or .i64 ((b0 : Int) * 16777216) ((b1 : Int) * 65536) = x ∧ bits .or .i64 x ((b2 : Int) * 256) = y ∧ bits .or .i64 y (b3 : Int) = (Dm.be b0 b1 b2 b3 : Nat) := by
  refine ⟨_, _, rfl, rfl, ?_⟩
  have e1 : bits .or .i64 ((b0 : Int) * 16777216) ((b1 : Int) * 65536) = ((b0 * 256 + b1 : Nat) : Int) * 65536 := by
    have := or_step64 (a := b0) (b := b1 * 65536) 24 (by omega) (by omega) 16777216 (by decide) (by omega)
    rw [show ((b1 * 65536 : Nat) : Int) = (b1 : Int) * 65536 by omega] at this
    refine Eq.trans this ?_
    omega
  rw [e1]
  have e2 : bits .or .i64 (((b0 * 256 + b1 : Nat) : Int) * 65536) ((b2 : Int) * 256) = (((b0 * 256 + b1) * 256 + b2 : Nat) : Int) * 256 := by
    have := or_step64 (a := b0 * 256 + b1) (b := b2 * 256) 16 (by omega) (by omega) 65536 (by decide) (by omega)
    rw [show ((b2 * 256 : Nat) : Int) = (b2 : Int) * 256 by omega] at this
    refine Eq.trans this ?_
    omega
  rw [e2]
  have := or_step64 (a := (b0 * 256 + b1) * 256 + b2) (b := b3) 8 (by omega) (by omega) 256 (by decide) (by omega)
  refine Eq.trans this ?_
  unfold Dm.be
  omega

theorem number_raw64 (s : ByteArray) (h : 4 ≤ s.size) (hm : s.size ≤ maxLen) (w : World) :
    Calls Tryz.prog 118 #[.string s] w fun e w' => e = .returned (.int .i64 (Dm.be s[0].toNat s[1].toNat s[2].toNat s[3].toNat : Nat)) ∧ w' = w.drew := by
  have b0 := s[0].toNat_lt
  have b1 := s[1].toNat_lt
  have b2 := s[2].toNat_lt
  have b3 := s[3].toNat_lt
  obtain ⟨x, y, o1, o2, o3⟩ := ors64 s[0].toNat s[1].toNat s[2].toNat s[3].toNat b0 b1 b2 b3
  obtain ⟨z, hz⟩ : ∃ z : Int, ((Dm.be s[0].toNat s[1].toNat s[2].toNat s[3].toNat : Nat) : Int) = z := ⟨_, rfl⟩
  rw [hz] at o3 ⊢
  clear hz
  have i0 : 0 < s.size := by omega
  have i1 : (1 : Int) < (s.size : Int) := by omega
  have i2 : (2 : Int) < (s.size : Int) := by omega
  have i3 : (3 : Int) < (s.size : Int) := by omega
  go_enter Tryz.func118, Tryz.ntmps118
  go_wp2
  go_region
  go_wp2
  go_ret
  exact ⟨rfl, rfl⟩

theorem number_at (s : ByteArray) (a : Nat) (h : a + 4 ≤ s.size) (hm : s.size ≤ maxLen) (w : World) :
    Calls Tryz.prog 118 #[.string (s.extract a s.size)] w fun e w' => e = .returned (.int .i64 (numOf (byteAt s) a 4 : Nat)) ∧ w' = w.drew := by
  have hz : (s.extract a s.size).size = s.size - a := by rw [ByteArray.size_extract]; omega
  refine (number_raw64 (s.extract a s.size) (by omega) (by omega) w).mono ?_
  rintro e w' ⟨rfl, rfl⟩
  refine ⟨?_, rfl⟩
  rw [Dm.num4, ← byteAt_in (s.extract a s.size) 0 (by omega), ← byteAt_in (s.extract a s.size) 1 (by omega), ← byteAt_in (s.extract a s.size) 2 (by omega), ← byteAt_in (s.extract a s.size) 3 (by omega),
    Dm.byteAt_cut s a s.size 0 (by omega) (by omega), Dm.byteAt_cut s a s.size 1 (by omega) (by omega), Dm.byteAt_cut s a s.size 2 (by omega) (by omega), Dm.byteAt_cut s a s.size 3 (by omega) (by omega)]
  rfl

theorem gSets : (∀ (r : Rg) (x : Int), (cellsG r).setIfInBounds 0 (.int .i64 x) = cellsG { r with a := x }) ∧ (∀ (r : Rg) (x : Int), (cellsG r).setIfInBounds 1 (.int .i64 x) = cellsG { r with b := x }) ∧
    (∀ (r : Rg) (x : Int), (cellsG r).setIfInBounds 2 (.int .i64 x) = cellsG { r with c := x }) ∧ (∀ (r : Rg) (x : Int), (cellsG r).setIfInBounds 3 (.int .i64 x) = cellsG { r with d := x }) :=
  ⟨fun _ _ => rfl, fun _ _ => rfl, fun _ _ => rfl, fun _ _ => rfl⟩

/-- The first k of four parts. -/
def arrG (p : Nat → Int) (k : Nat) : Array Value := #[.int .i64 (if 0 < k then p 0 else 0), .int .i64 (if 1 < k then p 1 else 0), .int .i64 (if 2 < k then p 2 else 0), .int .i64 (if 3 < k then p 3 else 0)]

/-- The parts of the rng that bytes tell. -/
def partsG (s : ByteArray) (j : Nat) : Int := (numOf (byteAt s) (4 * j) 4 : Nat)

theorem partsG_w (s : ByteArray) (j : Nat) : 0 ≤ partsG s j ∧ partsG s j < 4294967296 := by
  have := Dm.num_lt s (4 * j)
  unfold partsG
  omega

set_option maxHeartbeats 2000000 in
set_option maxRecDepth 100000 in
theorem parseRng_any (s : ByteArray) (hs : s.size = 16) (Q : Rg) (ok : Bool) (hq : ((∀ j, j < 4 → partsG s j ≤ 65520) ∧ Q = ⟨partsG s 0, partsG s 1, partsG s 2, partsG s 3⟩ ∧ ok = true) ∨ ((∃ j, j < 4 ∧ 65520 < partsG s j) ∧ Q = GZ ∧ ok = false)) (w : World) :
    Calls Tryz.prog 109 #[.string s] w fun e w' => e = .returned (.tuple #[.agg (cellsG Q), .bool ok]) ∧ Below w.heap.size w w' := by
  obtain ⟨t1, t2, t3, t4, t5, t6, t7, t8, t9⟩ := rowRules
  obtain ⟨-, -, -, z4, -, -, -, -, z9, -⟩ := sizeRules
  obtain ⟨-, -, -, c4, -, -, -, -, o4, -, -, -, -, n4, -⟩ := cellSizes
  obtain ⟨-, -, -, -, -, -, -, -, -, x1, x2, x3, -, -, -⟩ := boxRules
  obtain ⟨q, hp⟩ : ∃ q, q = partsG s := ⟨_, rfl⟩
  have hpw := partsG_w s
  have cn : ∀ j, j < 4 → ∀ x, Calls Tryz.prog 118 #[.string (s.extract (4 * j) 16)] x fun e w' => e = .returned (.int .i64 (q j)) ∧ w' = x.drew := fun j hj x => by
    have := number_at s (4 * j) (by omega) (by rw [hs]; decide) x
    rw [hs] at this
    rw [hp]; exact this
  rw [← hp] at hq hpw
  replace cn := hide cn
  replace hq := hide hq
  replace hpw := hide hpw
  clear hp
  have R0 := hide (two_boxes (w := w) (c := cellsG GZ) (d := arrG q 0) (s := 50) (t := 145) (Below.refl _ _))
  go_enter Tryz.func109, Tryz.ntmps109
  go_wp2
  go_loopw [6] (fun i wr => ∃ k : Nat, k ≤ 4 ∧ i = .int .i64 k ∧ Hid (∀ j, j < k → q j ≤ 65520) ∧ Hid (Box wr w.heap.size (cellsG GZ) ∧ Box wr (w.heap.size + 1) (arrG q k) ∧ Below w.heap.size w wr)) (fun i _ => 4 - (intOf i).toNat)
  case atStart => exact ⟨0, by omega, rfl, hide (by omega), R0⟩
  case round =>
    clear R0
    obtain ⟨k, hk, rfl, HL, HR⟩ := hrel
    by_cases h : k < 4
    · have hkk : k = 0 ∨ k = 1 ∨ k = 2 ∨ k = 3 := by omega
      have c := hide (cn.out k h)
      have qw := hpw.out k
      obtain ⟨R1, R2, R3⟩ := HR.out
      obtain ⟨m1, m2, m3, m4⟩ := And.intro (R2.cell 0) (And.intro (R2.cell 1) (And.intro (R2.cell 2) (R2.cell 3)))
      have fr := R2.free
      have W4 : Hid (Box (wr.setCell ⟨w.heap.size + 1, k, none⟩ (.int .i64 (q k))) w.heap.size (cellsG GZ) ∧ Box (wr.setCell ⟨w.heap.size + 1, k, none⟩ (.int .i64 (q k))) (w.heap.size + 1) (arrG q (k + 1)) ∧ Below w.heap.size w (wr.setCell ⟨w.heap.size + 1, k, none⟩ (.int .i64 (q k)))) := hide (by
        refine ⟨R1.of_heap (Below.heap_setCell _ _ _ _ (by show w.heap.size ≠ w.heap.size + 1; omega)), ⟨by rw [isRow_setCell]; exact R2.1, ?_, by rw [World.size_setCell]; exact R2.2.2⟩, R3.setCell (by show w.heap.size ≤ w.heap.size + 1; omega) _⟩
        rw [rowAt_setCell, R2.2.1]
        rcases hkk with rfl | rfl | rfl | rfl
        · simp [arrG]
        · simp [arrG]
        · simp [arrG]
        · simp [arrG])
      clear HR cn R1 R2 R3
      by_cases hp : q k ≤ 65520
      · have hd : decide (65520 < q k) = false := by simp; omega
        have HL' : Hid (∀ j, j < k + 1 → q j ≤ 65520) := hide fun j hj => by
          by_cases e : j = k
          · subst e; exact hp
          · exact HL.out j (by omega)
        clear HL
        generalize q k = X at *
        rcases hkk with rfl | rfl | rfl | rfl
        · simp [arrG] at m1 m2 m3 m4
          go_wp2_with fail
          refine (c.out _).mono ?_
          rintro e w1 ⟨rfl, rfl⟩
          go_wp2
          go_roundw
          case rel => exact ⟨0 + 1, by omega, by go_num, HL', hide ⟨W4.out.1.drew, W4.out.2.1.drew, W4.out.2.2.drew⟩⟩
          case measure => simp [intOf]
        · simp [arrG] at m1 m2 m3 m4
          go_wp2_with fail
          refine (c.out _).mono ?_
          rintro e w1 ⟨rfl, rfl⟩
          go_wp2
          go_roundw
          case rel => exact ⟨1 + 1, by omega, by go_num, HL', hide ⟨W4.out.1.drew, W4.out.2.1.drew, W4.out.2.2.drew⟩⟩
          case measure => simp [intOf]
        · simp [arrG] at m1 m2 m3 m4
          go_wp2_with fail
          refine (c.out _).mono ?_
          rintro e w1 ⟨rfl, rfl⟩
          go_wp2
          go_roundw
          case rel => exact ⟨2 + 1, by omega, by go_num, HL', hide ⟨W4.out.1.drew, W4.out.2.1.drew, W4.out.2.2.drew⟩⟩
          case measure => simp [intOf]
        · simp [arrG] at m1 m2 m3 m4
          go_wp2_with fail
          refine (c.out _).mono ?_
          rintro e w1 ⟨rfl, rfl⟩
          go_wp2
          go_roundw
          case rel => exact ⟨3 + 1, by omega, by go_num, HL', hide ⟨W4.out.1.drew, W4.out.2.1.drew, W4.out.2.2.drew⟩⟩
          case measure => simp [intOf]
      · have hd : decide (65520 < q k) = true := by simp; omega
        have hQ : Q = GZ ∧ ok = false := by
          rcases hq.out with ⟨h1, -, -⟩ | ⟨-, h2, h3⟩
          · exact absurd (h1 k h) hp
          · exact ⟨h2, h3⟩
        obtain ⟨rfl, rfl⟩ := hQ
        clear HL hq
        generalize q k = X at *
        rcases hkk with rfl | rfl | rfl | rfl
        all_goals
          simp [arrG] at m1 m2 m3 m4
          go_wp2_with fail
          refine (c.out _).mono ?_
          rintro e w1 ⟨rfl, rfl⟩
          obtain ⟨V1, V2, V3⟩ := W4.out
          clear W4
          obtain ⟨v1, v2, v3⟩ := id V1
          go_wp2
          have ld := (V1.set (cellsG GZ)).drew.loadG
          exact bodyPost_ret (v := .tuple #[.agg (cellsG GZ), .bool false]) (by simp [results, Tryz.results109, go_sem, z4, ld]) rfl ⟨rfl, (below_setRow V3 (Nat.le_refl _) _).drew⟩
    · have hk4 : k = 4 := by omega
      subst hk4
      have hQ : Q = ⟨q 0, q 1, q 2, q 3⟩ ∧ ok = true := by
        rcases hq.out with ⟨-, h2, h3⟩ | ⟨⟨j, h1, h2⟩, -, -⟩
        · exact ⟨h2, h3⟩
        · have := HL.out j h1; omega
      obtain ⟨rfl, rfl⟩ := hQ
      obtain ⟨V1, V2, V3⟩ := HR.out
      obtain ⟨m1, m2, m3, m4⟩ := And.intro (V2.cell 0) (And.intro (V2.cell 1) (And.intro (V2.cell 2) (V2.cell 3)))
      simp [arrG] at m1 m2 m3 m4
      clear HR cn hq HL hpw
      obtain ⟨v1, v2, v3⟩ := id V1
      obtain ⟨k0, k1, k2, k3⟩ := gSets
      go_wp2
      have ld := (V1.set (cellsG ⟨q 0, q 1, q 2, q 3⟩)).loadG
      exact bodyPost_ret (v := .tuple #[.agg (cellsG ⟨q 0, q 1, q 2, q 3⟩), .bool true]) (by simp [results, Tryz.results109, go_sem, z4, ld]) rfl ⟨rfl, below_setRow V3 (Nat.le_refl _) _⟩

end Go.Proofs.YtdapjpbdplhgbaaGreat
