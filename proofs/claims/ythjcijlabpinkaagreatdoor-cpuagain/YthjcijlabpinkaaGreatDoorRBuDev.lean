/- Layer 12: the devices' state as bytes, the program's. -/
import Derived.Test.YthjcijlabpinkaaGreatDoorRBuAll
import Derived.Test.YthjcijlabpinkaaGreatDoorRTmAll
import Derived.Test.YthjcijlabpinkaaGreatDoorRUaText
import Derived.Test.YthjcijlabpinkaaGreatDoorRDmText
import Derived.Deep.RegionHeld3
import Derived.Test.YthjcijlabpinkaaGreatDoorRDmTextM
import Derived.Test.YthjcijlabpinkaaGreatDoorRUaTwo
import Derived.RegionTactic
import Derived.Test.YthjcijlabpinkaaGreatDoorRTmRef2
import Derived.Test.YthjcijlabpinkaaGreatDoorRDmRef2
import Derived.Deep.CutBlock
namespace Go.Proofs.YthjcijlabpinkaaGreatDoor
open Go.RowKit
set_option linter.unusedVariables false
set_option maxRecDepth 100000

def fourG (g : Rg) : List Int := [g.a, g.b, g.c, g.d]
def quadsG (g : Rg) (j : Nat) : List Int := ((fourG g).take j).flatMap Dm.quad

theorem quadsG_succ (g : Rg) (j : Nat) (x : Int) (h : (fourG g)[j]? = some x) : quadsG g (j + 1) = quadsG g j ++ Dm.quad x := by
  unfold quadsG
  rw [List.take_add_one, h]
  simp

def textG (g : Rg) : ByteArray := strOfNums (quadsG g 4)

theorem index4i (a b c d x : Int) (j : Nat) (h : ([a, b, c, d] : List Int)[j]? = some x) (w : World) :
    (Instr.index 216 (.agg #[.int .i64 a, .int .i64 b, .int .i64 c, .int .i64 d]) (.int .i64 (j : Int))).run Tryz.prog w = .ok (.int .i64 x) w := by
  match j, h with
  | 0, h => simp at h; subst h; rfl
  | 1, h => simp at h; subst h; rfl
  | 2, h => simp at h; subst h; rfl
  | 3, h => simp at h; subst h; rfl
  | j + 4, h => simp at h

theorem fourG_w {g : Rg} (hg : Wg g) {j : Nat} {x : Int} (h : (fourG g)[j]? = some x) : 0 ≤ x ∧ x < 4294967296 := by
  unfold fourG at h
  match j, h with
  | 0, h => simp at h; subst h; have := hg.a; omega
  | 1, h => simp at h; subst h; have := hg.b; omega
  | 2, h => simp at h; subst h; have := hg.c; omega
  | 3, h => simp at h; subst h; have := hg.d; omega
  | j + 4, h => simp at h

theorem gParts : (∀ r : Rg, (cellsG r)[0]? = some (.int .i64 r.a)) ∧ (∀ r : Rg, (cellsG r)[1]? = some (.int .i64 r.b)) ∧ (∀ r : Rg, (cellsG r)[2]? = some (.int .i64 r.c)) ∧ (∀ r : Rg, (cellsG r)[3]? = some (.int .i64 r.d)) :=
  ⟨fun _ => rfl, fun _ => rfl, fun _ => rfl, fun _ => rfl⟩

set_option maxHeartbeats 1000000 in
set_option maxRecDepth 100000 in
theorem textG_any {t : Rg} (ht : Wg t) (w : World) :
    Calls Tryz.prog 76 #[.agg (cellsG t)] w fun e w' => e = .returned (.string (textG t)) ∧ Below w.heap.size w w' := by
  obtain ⟨-, -, -, z4, -, -, -, -, z9, -⟩ := sizeRules
  have hi0 : (Tryz.prog.info? 5).map (fun i => (i.zero, i.size, i.bytes)) = some (some (.int .u8 0), 1, 1) := by kernel_rfl
  obtain ⟨i0, hi, hz0, hz1, hz2⟩ := info_parts hi0
  have R := Box.new w (cellsG t) 68
  have B := grow w (.cells (cellsG t) 68)
  obtain ⟨X, hX⟩ : ∃ X, w.alloc (.cells (cellsG t) 68) = X := ⟨_, rfl⟩
  rw [hX] at R B
  have hwx : w.heap.size < X.heap.size := R.2.2
  obtain ⟨w1, hmk, hown, hgr⟩ := run_make_own (P := Tryz.prog) X X.heap.size 56 5 i0 (.int .u8 0) 1 Tryz.underlying56 hi hz0 hz1 .i64 .i64 16 (by rw [hz2]; omega) (by unfold maxLen; omega) (Nat.le_refl _)
  have b1 : Below X.heap.size X w1 := (Below.refl _ X).grown hgr (Nat.le_refl _) (fun k hk => by cases hk)
  replace R := R.on b1
  obtain ⟨l0, l1, l2, l3⟩ := And.intro (R.cell 0) (And.intro (R.cell 1) (And.intro (R.cell 2) (R.cell 3)))
  rw [gParts.1] at l0
  rw [gParts.2.1] at l1
  rw [gParts.2.2.1] at l2
  rw [gParts.2.2.2] at l3
  have O1 := hide hown
  have HB := hide B
  have b1 := hide b1
  clear hown hgr R B
  rw [show ((16 : Nat) : Int) = 16 from rfl] at hmk
  obtain ⟨T, hT⟩ : ∃ T, Hid (T = textG t) := ⟨_, hide rfl⟩
  rw [← hT.out]
  go_enter Tryz.func76, Tryz.ntmps76
  go_wp2
  go_loopw [3, 16] (fun v i wr => ∃ k : Nat, k ≤ 4 ∧ i = .int .i64 k ∧ Hid (wr.ownsRow X.heap.size 5 1 v (4 * k) (Dm.asU8 (quadsG t k))) ∧ Hid (Below X.heap.size X wr)) (fun _ i _ => 4 - (intOf i).toNat)
  case atStart => exact ⟨0, by omega, rfl, O1, b1⟩
  case round =>
    clear hmk O1 b1 l0 l1 l2 l3
    obtain ⟨k, hk, rfl, O, G⟩ := hrel
    by_cases h : k < 4
    · have hl : k < ([t.a, t.b, t.c, t.d] : List Int).length := h
      obtain ⟨x, hq⟩ : ∃ x, ([t.a, t.b, t.c, t.d] : List Int)[k] = x := ⟨_, rfl⟩
      have hx : (fourG t)[k]? = some x := by rw [← hq]; exact List.getElem?_eq_getElem hl
      have hix := fun w => index4i t.a t.b t.c t.d x k hx w
      clear hq
      obtain ⟨x0, x1⟩ := fourG_w ht hx
      have HS := hide (quadsG_succ t k x hx)
      have hsz := G.out.size
      have hc := Dm.asU8_new wr (Dm.quad x)
      have h1 := Dm.asU8_one (Dm.quad x)
      clear hx
      unfold Dm.asU8 Dm.quad at hc h1
      simp only [List.map_cons, List.map_nil] at hc h1
      have hc := hide hc
      have h1 := hide h1
      go_wp2_with (at_builtin; refine wpList_append_own _ rfl _ _ 56 rfl X.heap.size 5 i0 (.int .u8 0) 1 1 Tryz.underlying56 hi hz0 hz1 hz2 rfl (by decide) _ _ _ rfl (O.out.alloc _) ⟨wr.heap.size, 0, none⟩ 4 4 [.int .u8 (x / 16777216), .int .u8 (x / 65536 % 256), .int .u8 (x / 256 % 256), .int .u8 (x % 256)] rfl rfl hc.out h1.out (by unfold maxLen; omega) (by omega) (by simp; omega) ?_)
      intro v' w4 hown' hgrow _
      have b4 : Below X.heap.size X w4 := by
        refine (G.out.alloc hsz _).grown hgrow (by simp; omega) (fun k hk => ?_)
        rcases O.out.2 with ⟨rfl, -⟩ | ⟨g, cap, cur, rfl, hg, -⟩
        · cases hk
        · cases hk; exact hg
      have O4 : Hid (w4.ownsRow X.heap.size 5 1 v' (4 * (k + 1)) (Dm.asU8 (quadsG t (k + 1)))) := hide (by
        rw [HS.out]
        unfold Dm.asU8
        rw [List.map_append]
        exact hown')
      have b4 := hide b4
      clear hown' hgrow O G hc h1
      go_wp2
      go_roundw
      case rel => exact ⟨k + 1, by omega, by go_num, O4, b4⟩
      case measure => simp [intOf]; omega
    · have : k = 4 := by omega
      subst this
      have hcv : (convert 56 9 u3).run Tryz.prog wr = .ok (.string T) wr := by
        rw [hT.out]
        exact Dm.own_nums (base := X.heap.size) (n := 16) O.out rfl (by omega)
      have hb := hide (onto HB.out (Nat.le_refl _) G.out)
      clear hT G O
      go_wp2
      go_ret
      exact ⟨rfl, hb.out⟩

end Go.Proofs.YthjcijlabpinkaaGreatDoor

/- Layer 12: the contract of Devices, the program's. -/
namespace Go.Proofs.YthjcijlabpinkaaGreatDoor
open Go.RowKit
set_option linter.unusedVariables false
set_option maxRecDepth 100000

def devV (v : Dv) : ByteArray := Tm.textV v.t ++ Dm.textV v.d ++ textG v.g ++ v.k ++ Ua.textV v.u

theorem sizes_v (v : Dv) (h : Wv v) : (Tm.textV v.t).size = 9 ∧ (Dm.textV v.d).size = 17 ∧ (textG v.g).size = 16 ∧ (Ua.textV v.u).size = 3 + v.u.i.size + v.u.o.size := by
  refine ⟨strOfNums_size _, strOfNums_size _, strOfNums_size _, ?_⟩
  unfold Ua.textV Ua.countV
  rw [ByteArray.size_append, ByteArray.size_append, ByteArray.size_append, ByteArray.size_append, Ua.byteT_size, Ua.byteT_size, Ua.byteT_size]
  omega

theorem devV_size (v : Dv) (h : Wv v) : (devV v).size = 1069 + v.u.i.size + v.u.o.size := by
  obtain ⟨h1, h2, h3, h4⟩ := sizes_v v h
  unfold devV
  rw [ByteArray.size_append, ByteArray.size_append, ByteArray.size_append, ByteArray.size_append, h1, h2, h3, h4, h.k]
  omega

theorem Bus.reads {x : World} {b p g n c : Nat} {v : Dv} {B : Nat → Nat} {D : Nat → Bool} (h : Bus x b p g n c v B D) :
    (loadCellsFrom ⟨b, 0, none⟩ 0 Tm.N3 #[]).run Tryz.prog x = .ok (Tm.cellsT v.t) x ∧ (loadCellsFrom ⟨b, 3, none⟩ 0 Ua.N3 #[]).run Tryz.prog x = .ok (Ua.cellsU v.u) x ∧ (loadCellsFrom ⟨b, 6, none⟩ 0 Dm.N5 #[]).run Tryz.prog x = .ok (Dm.cellsD v.d) x ∧
      (loadCellsFrom ⟨b, 11, none⟩ 0 N4 #[]).run Tryz.prog x = .ok (cellsG v.g) x ∧ x.cell? ⟨b, 15, none⟩ = some (.string v.k) := by
  have q : Box x b (cellsB v p) := ⟨h.row, h.at', h.lt⟩
  exact ⟨q.loads 0 _ rfl rfl, q.loads 3 _ rfl rfl, q.loads 6 _ rfl rfl, q.loads 11 _ rfl rfl, q.cell 15⟩

theorem reads_on {w x y : World} {b p g n c : Nat} {v : Dv} {B : Nat → Nat} {D : Nat → Bool} (h : Bus x b p g n c v B D ∧ Below w.heap.size w x) (hb : Below x.heap.size x y) :
    (loadCellsFrom ⟨b, 0, none⟩ 0 Tm.N3 #[]).run Tryz.prog y = .ok (Tm.cellsT v.t) y ∧ (loadCellsFrom ⟨b, 3, none⟩ 0 Ua.N3 #[]).run Tryz.prog y = .ok (Ua.cellsU v.u) y ∧ (loadCellsFrom ⟨b, 6, none⟩ 0 Dm.N5 #[]).run Tryz.prog y = .ok (Dm.cellsD v.d) y ∧
      (loadCellsFrom ⟨b, 11, none⟩ 0 N4 #[]).run Tryz.prog y = .ok (cellsG v.g) y ∧ y.cell? ⟨b, 15, none⟩ = some (.string v.k) ∧ (Bus y b p g n c v B D ∧ Below w.heap.size w y) :=
  have q := (h.1.on hb).reads
  ⟨q.1, q.2.1, q.2.2.1, q.2.2.2.1, q.2.2.2.2, h.1.on hb, onto h.2 (Nat.le_refl _) hb⟩

set_option maxHeartbeats 2000000 in
set_option maxRecDepth 100000 in
theorem devices_any {w : World} {b p g n c : Nat} {v : Dv} {B : Nat → Nat} {D : Nat → Bool} (hB : Bus w b p g n c v B D) :
    Calls Tryz.prog 20 #[.pointer (some ⟨b, 0, none⟩)] w fun e w' => e = .returned (.string (devV v)) ∧ Below w.heap.size w w' := by
  obtain ⟨z1, z2, z3, z4, z5, z6, z7, z8, z9, z10⟩ := sizeRules
  obtain ⟨-, -, -, -, -, -, -, -, -, -, n1, n2, n3, n4, n5⟩ := cellSizes
  have hw := hB.wv
  have ct := hide (Tm.text_any hw.t)
  have cd := hide (Dm.text_any hw.d)
  have cg := hide (textG_any hw.g)
  have cu := hide (Ua.text_any v.u hw.u)
  obtain ⟨h1, h2, h3, h4⟩ := sizes_v v hw
  have hk := hw.k
  have h5 : ¬ (9223372036854775807 < 1066 + (Ua.textV v.u).size) := by
    have := hw.u.i
    have := hw.u.o
    rw [h4]; omega
  unfold devV
  generalize Tm.textV v.t = A1 at *
  generalize Dm.textV v.d = A2 at *
  generalize textG v.g = A3 at *
  generalize Ua.textV v.u = A4 at *
  clear h4
  have S0 := reads_on ⟨hB, Below.refl _ w⟩ (Below.refl _ w).drew
  clear hw hB
  go_enter Tryz.func20, Tryz.ntmps20
  go_wp2_with fail
  go_region_held3 (fun x => (loadCellsFrom ⟨b, 0, none⟩ 0 Tm.N3 #[]).run Tryz.prog x = .ok (Tm.cellsT v.t) x ∧ (loadCellsFrom ⟨b, 3, none⟩ 0 Ua.N3 #[]).run Tryz.prog x = .ok (Ua.cellsU v.u) x ∧ (loadCellsFrom ⟨b, 6, none⟩ 0 Dm.N5 #[]).run Tryz.prog x = .ok (Dm.cellsD v.d) x ∧
      (loadCellsFrom ⟨b, 11, none⟩ 0 N4 #[]).run Tryz.prog x = .ok (cellsG v.g) x ∧ x.cell? ⟨b, 15, none⟩ = some (.string v.k) ∧ (Bus x b p g n c v B D ∧ Below w.heap.size w x))
    (first | exact S0 | assumption | exact reads_on (And.right (And.right (And.right (And.right (And.right (by assumption)))))) (by assumption))
    (first
      | (go_at_call 74; refine (ct.out _).mono ?_; rintro e w1 ⟨rfl, b1⟩; go_wp2_with fail)
      | (go_at_call 75; refine (cd.out _).mono ?_; rintro e w1 ⟨rfl, b1⟩; go_wp2_with fail)
      | (go_at_call 76; refine (cg.out _).mono ?_; rintro e w1 ⟨rfl, b1⟩; go_wp2_with fail)
      | (go_at_call 77; refine (cu.out _).mono ?_; rintro e w1 ⟨rfl, b1⟩; go_wp2_with fail))
  have HB : Below w.heap.size w w1 := by
    have h : (loadCellsFrom ⟨b, 0, none⟩ 0 Tm.N3 #[]).run Tryz.prog w1 = .ok (Tm.cellsT v.t) w1 ∧ (loadCellsFrom ⟨b, 3, none⟩ 0 Ua.N3 #[]).run Tryz.prog w1 = .ok (Ua.cellsU v.u) w1 ∧ (loadCellsFrom ⟨b, 6, none⟩ 0 Dm.N5 #[]).run Tryz.prog w1 = .ok (Dm.cellsD v.d) w1 ∧
      (loadCellsFrom ⟨b, 11, none⟩ 0 N4 #[]).run Tryz.prog w1 = .ok (cellsG v.g) w1 ∧ w1.cell? ⟨b, 15, none⟩ = some (.string v.k) ∧ (Bus w1 b p g n c v B D ∧ Below w.heap.size w w1) := by assumption
    exact h.2.2.2.2.2.2
  replace HB := hide HB
  clear S0
  go_wp2
  go_ret
  exact ⟨rfl, HB.out⟩

end Go.Proofs.YthjcijlabpinkaaGreatDoor

/- Layer 12: the rng of bytes, the program's. -/
namespace Go.Proofs.YthjcijlabpinkaaGreatDoor
open Go.RowKit
set_option linter.unusedVariables false
set_option maxRecDepth 100000

theorem or_step64 {a b : Nat} (k : Nat) (hb : b < 2 ^ k) (ha : a * 2 ^ k < 4294967296) (c : Nat) (hc : c = 2 ^ k) (hb' : b < 4294967296) : bits .or .i64 ((a : Int) * (c : Int)) (b : Int) = (a : Int) * (c : Int) + b := by
  subst hc
  have h1 : ((a : Int) * ((2 ^ k : Nat) : Int)) = ((a * 2 ^ k : Nat) : Int) := by rw [Int.natCast_mul]
  rw [h1]
  generalize hX : a * 2 ^ k = X at *
  have e : (BitVec.ofInt 64 (X : Int) ||| BitVec.ofInt 64 (b : Int)).toNat = X ||| b := by
    rw [BitVec.toNat_or, BitVec.toNat_ofInt, BitVec.toNat_ofInt]
    congr 1 <;> omega
  show IntKind.i64.wrap ((BitVec.ofInt 64 (X : Int) ||| BitVec.ofInt 64 (b : Int)).toNat : Int) = (X : Int) + b
  rw [e]
  have h2 : X ||| b = X + b := by
    have := Nat.shiftLeft_add_eq_or_of_lt (i := k) hb a
    rw [Nat.shiftLeft_eq, hX] at this
    exact this.symm
  rw [h2]
  have h3 : X + b < 8589934592 := by omega
  rw [show (X : Int) + (b : Int) = ((X + b : Nat) : Int) by omega]
  generalize X + b = Y at *
  simp [IntKind.wrap, IntKind.bits, IntKind.signed]
  split <;> omega

theorem ors64 (b0 b1 b2 b3 : Nat) (h0 : b0 < 256) (h1 : b1 < 256) (h2 : b2 < 256) (h3 : b3 < 256) :
    ∃ x y : Int, bits .or .i64 ((b0 : Int) * 16777216) ((b1 : Int) * 65536) = x ∧ bits .or .i64 x ((b2 : Int) * 256) = y ∧ bits .or .i64 y (b3 : Int) = (Dm.be b0 b1 b2 b3 : Nat) := by
  refine ⟨_, _, rfl, rfl, ?_⟩
  have e1 : bits .or .i64 ((b0 : Int) * 16777216) ((b1 : Int) * 65536) = ((b0 * 256 + b1 : Nat) : Int) * 65536 := by
    have := or_step64 (a := b0) (b := b1 * 65536) 24 (by omega) (by omega) 16777216 (by decide) (by omega)
    rw [show ((b1 * 65536 : Nat) : Int) = (b1 : Int) * 65536 by omega] at this
    refine Eq.trans this ?_
    omega
  rw [e1]
  have e2 : bits .or .i64 (((b0 * 256 + b1 : Nat) : Int) * 65536) ((b2 : Int) * 256) = (((b0 * 256 + b1) * 256 + b2 : Nat) : Int) * 256 := by
    have := or_step64 (a := b0 * 256 + b1) (b := b2 * 256) 16 (by omega) (by omega) 65536 (by decide) (by omega)
    rw [show ((b2 * 256 : Nat) : Int) = (b2 : Int) * 256 by omega] at this
    refine Eq.trans this ?_
    omega
  rw [e2]
  have := or_step64 (a := (b0 * 256 + b1) * 256 + b2) (b := b3) 8 (by omega) (by omega) 256 (by decide) (by omega)
  refine Eq.trans this ?_
  unfold Dm.be
  omega

theorem number_raw64 (s : ByteArray) (h : 4 ≤ s.size) (hm : s.size ≤ maxLen) (w : World) :
    Calls Tryz.prog 237 #[.string s] w fun e w' => e = .returned (.int .i64 (Dm.be s[0].toNat s[1].toNat s[2].toNat s[3].toNat : Nat)) ∧ w' = w.drew := by
  have b0 := s[0].toNat_lt
  have b1 := s[1].toNat_lt
  have b2 := s[2].toNat_lt
  have b3 := s[3].toNat_lt
  obtain ⟨x, y, o1, o2, o3⟩ := ors64 s[0].toNat s[1].toNat s[2].toNat s[3].toNat b0 b1 b2 b3
  obtain ⟨z, hz⟩ : ∃ z : Int, ((Dm.be s[0].toNat s[1].toNat s[2].toNat s[3].toNat : Nat) : Int) = z := ⟨_, rfl⟩
  rw [hz] at o3 ⊢
  clear hz
  have i0 : 0 < s.size := by omega
  have i1 : (1 : Int) < (s.size : Int) := by omega
  have i2 : (2 : Int) < (s.size : Int) := by omega
  have i3 : (3 : Int) < (s.size : Int) := by omega
  go_enter Tryz.func237, Tryz.ntmps237
  go_wp2
  go_region
  go_wp2
  go_ret
  exact ⟨rfl, rfl⟩

theorem number_at (s : ByteArray) (a : Nat) (h : a + 4 ≤ s.size) (hm : s.size ≤ maxLen) (w : World) :
    Calls Tryz.prog 237 #[.string (s.extract a s.size)] w fun e w' => e = .returned (.int .i64 (numOf (byteAt s) a 4 : Nat)) ∧ w' = w.drew := by
  have hz : (s.extract a s.size).size = s.size - a := by rw [ByteArray.size_extract]; omega
  refine (number_raw64 (s.extract a s.size) (by omega) (by omega) w).mono ?_
  rintro e w' ⟨rfl, rfl⟩
  refine ⟨?_, rfl⟩
  rw [Dm.num4, ← byteAt_in (s.extract a s.size) 0 (by omega), ← byteAt_in (s.extract a s.size) 1 (by omega), ← byteAt_in (s.extract a s.size) 2 (by omega), ← byteAt_in (s.extract a s.size) 3 (by omega),
    Dm.byteAt_cut s a s.size 0 (by omega) (by omega), Dm.byteAt_cut s a s.size 1 (by omega) (by omega), Dm.byteAt_cut s a s.size 2 (by omega) (by omega), Dm.byteAt_cut s a s.size 3 (by omega) (by omega)]
  rfl

theorem gSets : (∀ (r : Rg) (x : Int), (cellsG r).setIfInBounds 0 (.int .i64 x) = cellsG { r with a := x }) ∧ (∀ (r : Rg) (x : Int), (cellsG r).setIfInBounds 1 (.int .i64 x) = cellsG { r with b := x }) ∧
    (∀ (r : Rg) (x : Int), (cellsG r).setIfInBounds 2 (.int .i64 x) = cellsG { r with c := x }) ∧ (∀ (r : Rg) (x : Int), (cellsG r).setIfInBounds 3 (.int .i64 x) = cellsG { r with d := x }) :=
  ⟨fun _ _ => rfl, fun _ _ => rfl, fun _ _ => rfl, fun _ _ => rfl⟩

def arrG (p : Nat → Int) (k : Nat) : Array Value := #[.int .i64 (if 0 < k then p 0 else 0), .int .i64 (if 1 < k then p 1 else 0), .int .i64 (if 2 < k then p 2 else 0), .int .i64 (if 3 < k then p 3 else 0)]

def partsG (s : ByteArray) (j : Nat) : Int := (numOf (byteAt s) (4 * j) 4 : Nat)

theorem partsG_w (s : ByteArray) (j : Nat) : 0 ≤ partsG s j ∧ partsG s j < 4294967296 := by
  have := Dm.num_lt s (4 * j)
  unfold partsG
  omega

set_option maxHeartbeats 2000000 in
set_option maxRecDepth 100000 in
theorem parseRng_any (s : ByteArray) (hs : s.size = 16) (Q : Rg) (ok : Bool) (hq : ((∀ j, j < 4 → partsG s j ≤ 65520) ∧ Q = ⟨partsG s 0, partsG s 1, partsG s 2, partsG s 3⟩ ∧ ok = true) ∨ ((∃ j, j < 4 ∧ 65520 < partsG s j) ∧ Q = GZ ∧ ok = false)) (w : World) :
    Calls Tryz.prog 187 #[.string s] w fun e w' => e = .returned (.tuple #[.agg (cellsG Q), .bool ok]) ∧ Below w.heap.size w w' := by
  obtain ⟨t1, t2, t3, t4, t5, t6, t7, t8, t9⟩ := rowRules
  obtain ⟨-, -, -, z4, -, -, -, -, z9, -⟩ := sizeRules
  obtain ⟨-, -, -, c4, -, -, -, -, o4, -, -, -, -, n4, -⟩ := cellSizes
  obtain ⟨-, -, -, -, -, -, -, -, -, x1, x2, x3, -, -, -⟩ := boxRules
  obtain ⟨q, hp⟩ : ∃ q, q = partsG s := ⟨_, rfl⟩
  have hpw := partsG_w s
  have cn : ∀ j, j < 4 → ∀ x, Calls Tryz.prog 237 #[.string (s.extract (4 * j) 16)] x fun e w' => e = .returned (.int .i64 (q j)) ∧ w' = x.drew := fun j hj x => by
    have := number_at s (4 * j) (by omega) (by rw [hs]; decide) x
    rw [hs] at this
    rw [hp]; exact this
  rw [← hp] at hq hpw
  replace cn := hide cn
  replace hq := hide hq
  replace hpw := hide hpw
  clear hp
  have R0 := hide (two_boxes (w := w) (c := cellsG GZ) (d := arrG q 0) (s := 68) (t := 216) (Below.refl _ _))
  go_enter Tryz.func187, Tryz.ntmps187
  go_wp2
  go_loopw [6] (fun i wr => ∃ k : Nat, k ≤ 4 ∧ i = .int .i64 k ∧ Hid (∀ j, j < k → q j ≤ 65520) ∧ Hid (Box wr w.heap.size (cellsG GZ) ∧ Box wr (w.heap.size + 1) (arrG q k) ∧ Below w.heap.size w wr)) (fun i _ => 4 - (intOf i).toNat)
  case atStart => exact ⟨0, by omega, rfl, hide (by omega), R0⟩
  case round =>
    clear R0
    obtain ⟨k, hk, rfl, HL, HR⟩ := hrel
    by_cases h : k < 4
    · have hkk : k = 0 ∨ k = 1 ∨ k = 2 ∨ k = 3 := by omega
      have c := hide (cn.out k h)
      have qw := hpw.out k
      obtain ⟨R1, R2, R3⟩ := HR.out
      obtain ⟨m1, m2, m3, m4⟩ := And.intro (R2.cell 0) (And.intro (R2.cell 1) (And.intro (R2.cell 2) (R2.cell 3)))
      have fr := R2.free
      have W4 : Hid (Box (wr.setCell ⟨w.heap.size + 1, k, none⟩ (.int .i64 (q k))) w.heap.size (cellsG GZ) ∧ Box (wr.setCell ⟨w.heap.size + 1, k, none⟩ (.int .i64 (q k))) (w.heap.size + 1) (arrG q (k + 1)) ∧ Below w.heap.size w (wr.setCell ⟨w.heap.size + 1, k, none⟩ (.int .i64 (q k)))) := hide (by
        refine ⟨R1.of_heap (Below.heap_setCell _ _ _ _ (by show w.heap.size ≠ w.heap.size + 1; omega)), ⟨by rw [isRow_setCell]; exact R2.1, ?_, by rw [World.size_setCell]; exact R2.2.2⟩, R3.setCell (by show w.heap.size ≤ w.heap.size + 1; omega) _⟩
        rw [rowAt_setCell, R2.2.1]
        rcases hkk with rfl | rfl | rfl | rfl
        · simp [arrG]
        · simp [arrG]
        · simp [arrG]
        · simp [arrG])
      clear HR cn R1 R2 R3
      by_cases hp : q k ≤ 65520
      · have hd : decide (65520 < q k) = false := by simp; omega
        have HL' : Hid (∀ j, j < k + 1 → q j ≤ 65520) := hide fun j hj => by
          by_cases e : j = k
          · subst e; exact hp
          · exact HL.out j (by omega)
        clear HL
        generalize q k = X at *
        rcases hkk with rfl | rfl | rfl | rfl
        · simp [arrG] at m1 m2 m3 m4
          go_wp2_with fail
          refine (c.out _).mono ?_
          rintro e w1 ⟨rfl, rfl⟩
          go_wp2
          go_roundw
          case rel => exact ⟨0 + 1, by omega, by go_num, HL', hide ⟨W4.out.1.drew, W4.out.2.1.drew, W4.out.2.2.drew⟩⟩
          case measure => simp [intOf]
        · simp [arrG] at m1 m2 m3 m4
          go_wp2_with fail
          refine (c.out _).mono ?_
          rintro e w1 ⟨rfl, rfl⟩
          go_wp2
          go_roundw
          case rel => exact ⟨1 + 1, by omega, by go_num, HL', hide ⟨W4.out.1.drew, W4.out.2.1.drew, W4.out.2.2.drew⟩⟩
          case measure => simp [intOf]
        · simp [arrG] at m1 m2 m3 m4
          go_wp2_with fail
          refine (c.out _).mono ?_
          rintro e w1 ⟨rfl, rfl⟩
          go_wp2
          go_roundw
          case rel => exact ⟨2 + 1, by omega, by go_num, HL', hide ⟨W4.out.1.drew, W4.out.2.1.drew, W4.out.2.2.drew⟩⟩
          case measure => simp [intOf]
        · simp [arrG] at m1 m2 m3 m4
          go_wp2_with fail
          refine (c.out _).mono ?_
          rintro e w1 ⟨rfl, rfl⟩
          go_wp2
          go_roundw
          case rel => exact ⟨3 + 1, by omega, by go_num, HL', hide ⟨W4.out.1.drew, W4.out.2.1.drew, W4.out.2.2.drew⟩⟩
          case measure => simp [intOf]
      · have hd : decide (65520 < q k) = true := by simp; omega
        have hQ : Q = GZ ∧ ok = false := by
          rcases hq.out with ⟨h1, -, -⟩ | ⟨-, h2, h3⟩
          · exact absurd (h1 k h) hp
          · exact ⟨h2, h3⟩
        obtain ⟨rfl, rfl⟩ := hQ
        clear HL hq
        generalize q k = X at *
        rcases hkk with rfl | rfl | rfl | rfl
        all_goals
          simp [arrG] at m1 m2 m3 m4
          go_wp2_with fail
          refine (c.out _).mono ?_
          rintro e w1 ⟨rfl, rfl⟩
          obtain ⟨V1, V2, V3⟩ := W4.out
          clear W4
          obtain ⟨v1, v2, v3⟩ := id V1
          go_wp2
          have ld := (V1.set (cellsG GZ)).drew.loadG
          exact bodyPost_ret (v := .tuple #[.agg (cellsG GZ), .bool false]) (by simp [results, Tryz.results187, go_sem, z4, ld]) rfl ⟨rfl, (below_setRow V3 (Nat.le_refl _) _).drew⟩
    · have hk4 : k = 4 := by omega
      subst hk4
      have hQ : Q = ⟨q 0, q 1, q 2, q 3⟩ ∧ ok = true := by
        rcases hq.out with ⟨-, h2, h3⟩ | ⟨⟨j, h1, h2⟩, -, -⟩
        · exact ⟨h2, h3⟩
        · have := HL.out j h1; omega
      obtain ⟨rfl, rfl⟩ := hQ
      obtain ⟨V1, V2, V3⟩ := HR.out
      obtain ⟨m1, m2, m3, m4⟩ := And.intro (V2.cell 0) (And.intro (V2.cell 1) (And.intro (V2.cell 2) (V2.cell 3)))
      simp [arrG] at m1 m2 m3 m4
      clear HR cn hq HL hpw
      obtain ⟨v1, v2, v3⟩ := id V1
      obtain ⟨k0, k1, k2, k3⟩ := gSets
      go_wp2
      have ld := (V1.set (cellsG ⟨q 0, q 1, q 2, q 3⟩)).loadG
      exact bodyPost_ret (v := .tuple #[.agg (cellsG ⟨q 0, q 1, q 2, q 3⟩), .bool true]) (by simp [results, Tryz.results187, go_sem, z4, ld]) rfl ⟨rfl, below_setRow V3 (Nat.le_refl _) _⟩

end Go.Proofs.YthjcijlabpinkaaGreatDoor

/- Layer 12: which bytes are the devices' state. -/
namespace Go.Proofs.YthjcijlabpinkaaGreatDoor
open Go.RowKit
set_option linter.unusedVariables false
set_option maxRecDepth 100000

theorem cut_cut (s : ByteArray) (a n : Nat) (h : a + n ≤ s.size) : (s.extract a s.size).extract 0 n = s.extract a (a + n) := by
  apply Ua.lst_ext
  rw [Ua.lst_extract, Ua.lst_extract, Ua.lst_extract]
  rw [List.drop_zero, Nat.sub_zero, List.take_take]
  congr 1
  omega

theorem cut_rest (s : ByteArray) (a n : Nat) (h : a + n ≤ s.size) : (s.extract a s.size).extract n (s.extract a s.size).size = s.extract (a + n) s.size := by
  apply Ua.lst_ext
  have hl : (Ua.lst s).length = s.size := Ua.lst_length s
  have hz : (s.extract a s.size).size = s.size - a := by rw [ByteArray.size_extract]; omega
  rw [hz, Ua.lst_extract, Ua.lst_extract, Ua.lst_extract, List.take_of_length_le (l := (Ua.lst s).drop a) (by rw [List.length_drop]; omega), List.drop_drop, Nat.sub_sub]

theorem cut_size (s : ByteArray) (a b : Nat) (h : a ≤ b) (hb : b ≤ s.size) : (s.extract a b).size = b - a := by rw [ByteArray.size_extract]; omega

theorem cut_first (a b : ByteArray) (n : Nat) (h : a.size = n) : (a ++ b).extract 0 n = a := by
  apply Ua.lst_ext
  rw [Ua.lst_extract, Ua.lst_append, List.drop_zero, Nat.sub_zero, List.take_append_of_le_length (by rw [Ua.lst_length]; omega), List.take_of_length_le (by rw [Ua.lst_length]; omega)]

theorem cut_after (a b : ByteArray) (n m : Nat) (h : a.size = n) : (a ++ b).extract (n + m) (a ++ b).size = b.extract m b.size := by
  apply Ua.lst_ext
  have hb : (Ua.lst b).length = b.size := Ua.lst_length b
  have ha : (Ua.lst a).length = n := by rw [Ua.lst_length]; exact h
  rw [Ua.lst_extract, Ua.lst_extract, Ua.lst_append, ByteArray.size_append, List.drop_append, ha]
  rw [List.drop_of_length_le (by omega), List.nil_append]
  rw [show n + m - n = m by omega, h, show n + b.size - (n + m) = b.size - m by omega]

theorem cut_mid (a b : ByteArray) (n m k : Nat) (h : a.size = n) : (a ++ b).extract (n + m) (n + k) = b.extract m k := by
  apply Ua.lst_ext
  have ha : (Ua.lst a).length = n := by rw [Ua.lst_length]; exact h
  rw [Ua.lst_extract, Ua.lst_extract, Ua.lst_append, List.drop_append, ha]
  rw [List.drop_of_length_le (by omega), List.nil_append]
  rw [show n + m - n = m by omega, show n + k - (n + m) = k - m by omega]

theorem cut_whole (a : ByteArray) : a.extract 0 a.size = a := by
  apply Ua.lst_ext
  rw [Ua.lst_extract, List.drop_zero, List.take_of_length_le (by rw [Ua.lst_length]; omega)]

theorem cat_assoc (a b c d e : ByteArray) : a ++ b ++ c ++ d ++ e = a ++ (b ++ (c ++ (d ++ e))) := by
  rw [ByteArray.append_assoc, ByteArray.append_assoc, ByteArray.append_assoc]

def IsDev (s : ByteArray) (v : Dv) : Prop := Wv v ∧ devV v = s

theorem dev_cut {s : ByteArray} {v : Dv} (h : IsDev s v) :
    1066 ≤ s.size ∧ s.extract 0 9 = Tm.textV v.t ∧ s.extract 9 26 = Dm.textV v.d ∧ s.extract 26 42 = textG v.g ∧ s.extract 42 1066 = v.k ∧ s.extract 1066 s.size = Ua.textV v.u := by
  obtain ⟨hw, rfl⟩ := h
  have hz := devV_size v hw
  obtain ⟨h1, h2, h3, h4⟩ := sizes_v v hw
  have hk := hw.k
  refine ⟨by omega, ?_⟩
  unfold devV
  rw [cat_assoc]
  generalize Tm.textV v.t = A at *
  generalize Dm.textV v.d = B at *
  generalize textG v.g = C at *
  generalize v.k = D at *
  generalize Ua.textV v.u = E at *
  refine ⟨cut_first A _ 9 h1, ?_, ?_, ?_, ?_⟩
  · rw [show (9 : Nat) = 9 + 0 from rfl, show 26 = 9 + 17 from rfl, cut_mid A _ 9 0 17 h1]; exact cut_first B _ 17 h2
  · rw [show 26 = 9 + 17 from rfl, show 42 = 9 + 33 from rfl, cut_mid A _ 9 17 33 h1, show 17 = 17 + 0 from rfl, show 33 = 17 + 16 from rfl, cut_mid B _ 17 0 16 h2]; exact cut_first C _ 16 h3
  · rw [show 42 = 9 + 33 from rfl, show 1066 = 9 + 1057 from rfl, cut_mid A _ 9 33 1057 h1, show 33 = 17 + 16 from rfl, show 1057 = 17 + 1040 from rfl, cut_mid B _ 17 16 1040 h2,
      show 16 = 16 + 0 from rfl, show 1040 = 16 + 1024 from rfl, cut_mid C _ 16 0 1024 h3]
    exact cut_first D _ 1024 hk
  · rw [show 1066 = 9 + 1057 from rfl, cut_after A _ 9 1057 h1, show 1057 = 17 + 1040 from rfl, cut_after B _ 17 1040 h2, show 1040 = 16 + 1024 from rfl, cut_after C _ 16 1024 h3,
      show 1024 = 1024 + 0 from rfl, cut_after D _ 1024 0 hk, cut_whole]

theorem cut_dev (s : ByteArray) (h : 1066 ≤ s.size) : s.extract 0 9 ++ s.extract 9 26 ++ s.extract 26 42 ++ s.extract 42 1066 ++ s.extract 1066 s.size = s := by
  apply Ua.lst_ext
  have hl : (Ua.lst s).length = s.size := Ua.lst_length s
  rw [Ua.lst_append, Ua.lst_append, Ua.lst_append, Ua.lst_append, Ua.lst_extract, Ua.lst_extract, Ua.lst_extract, Ua.lst_extract, Ua.lst_extract]
  generalize Ua.lst s = l at *
  rw [List.drop_zero, show 9 - 0 = 9 from rfl, show 26 - 9 = 17 from rfl, show 42 - 26 = 16 from rfl, show 1066 - 42 = 1024 from rfl]
  rw [← List.take_add, ← List.take_add, ← List.take_add, ← List.take_add, show 9 + 17 + 16 + 1024 + (s.size - 1066) = s.size by omega, List.take_of_length_le (by omega)]

theorem tm_both (s : ByteArray) (hs : s.size = 9) : ∃ (T : Tm.Tm) (E : Int),
    (∀ w, Calls Tryz.prog 185 #[.string s] w fun e w' => e = .returned (.tuple #[.agg (Tm.cellsT T), .int .i64 E]) ∧ Below w.heap.size w w') ∧
    (∀ w, Calls Tryz.prog 117 #[.string s] w fun e w' => e = .returned (.tuple #[.agg (Tm.cellsT T), .int .i64 E]) ∧ Below w.heap.size w w') ∧
    (E = 0 ∧ Tm.Wt T ∧ Tm.textV T = s ∨ ¬ E = 0 ∧ ∀ T', Tm.Wt T' → ¬ Tm.textV T' = s) := by
  by_cases h8 : Tm.byteN s 8 ≤ 1
  · exact ⟨Tm.tmOf s, 0, fun W => Tm.parse_yes hs h8 W, fun W => Tm.rparse_nine hs s (Tm.tmOf_text hs h8) _ _ (Or.inl ⟨by simp, rfl, rfl⟩) W, Or.inl ⟨rfl, Tm.tmOf_w s, Tm.tmOf_text hs h8⟩⟩
  · refine ⟨Tm.T0, 90, fun W => Tm.parse_no (by rw [hs]; decide) (fun h => h8 h.2) W, fun W => Tm.rparse_nine hs _ rfl _ _ (Or.inr ⟨Ua.bytes_ne (Tm.tmOf_none h8), rfl, rfl⟩) W, Or.inr ⟨by decide, fun T' hT e => ?_⟩⟩
    have := Tm.text_back hT
    rw [e] at this
    exact Tm.tmOf_none h8 (by rw [show Tm.tmOf s = T' from this]; exact e)

theorem dm_both (s : ByteArray) (hs : s.size = 17) : ∃ (T : Dm.Dm) (E : Int),
    (∀ w, Calls Tryz.prog 186 #[.string s] w fun e w' => e = .returned (.tuple #[.agg (Dm.cellsD T), .int .i64 E]) ∧ Below w.heap.size w w') ∧
    (∀ w, Calls Tryz.prog 118 #[.string s] w fun e w' => e = .returned (.tuple #[.agg (Dm.cellsD T), .int .i64 E]) ∧ Below w.heap.size w w') ∧
    (E = 0 ∧ Dm.Wd T ∧ Dm.textV T = s ∨ ¬ E = 0 ∧ ∀ T', Dm.Wd T' → ¬ Dm.textV T' = s) := by
  by_cases h8 : byteAt s 16 ≤ 1
  · exact ⟨Dm.dmOf s, 0, fun W => Dm.parse_yes hs h8 W, fun W => Dm.rparse_all hs s (Dm.dmOf_text hs h8) _ _ (Or.inl ⟨by simp, rfl, rfl⟩) W, Or.inl ⟨rfl, Dm.dmOf_w s, Dm.dmOf_text hs h8⟩⟩
  · refine ⟨Dm.D0, 110, fun W => Dm.parse_no (by rw [hs]; decide) (fun h => h8 h.2) W, fun W => Dm.rparse_all hs _ rfl _ _ (Or.inr ⟨Ua.bytes_ne (Dm.dmOf_none h8), rfl, rfl⟩) W, Or.inr ⟨by decide, fun T' hT e => ?_⟩⟩
    have := Dm.text_back hT
    rw [e] at this
    exact Dm.dmOf_none h8 (by rw [this]; exact e)

theorem ua_both (s : ByteArray) (hl : s.size ≤ maxLen) : ∃ (T : Ua.Ua) (E : Int),
    (∀ w, Calls Tryz.prog 189 #[.string s] w fun e w' => e = .returned (.tuple #[.agg (Ua.cellsU T), .int .i64 E]) ∧ Below w.heap.size w w') ∧
    (∀ w, Calls Tryz.prog 119 #[.string s] w fun e w' => e = .returned (.tuple #[.agg (Ua.cellsU T), .int .i64 E]) ∧ Below w.heap.size w w') ∧
    (E = 0 ∧ Ua.Fits T ∧ Ua.textV T = s ∨ ¬ E = 0 ∧ ∀ T', Ua.Fits T' → ¬ Ua.textV T' = s) := by
  by_cases h : Ua.Good s
  · exact ⟨Ua.uaOf s, 0, fun W => Ua.parse_yes hl h W, fun W => Ua.rparse_any s hl _ _ (Or.inl ⟨h, rfl, rfl⟩) W, Or.inl ⟨rfl, (Ua.good_text h).1, (Ua.good_text h).2⟩⟩
  · refine ⟨Ua.U0, 100, fun W => Ua.parse_no hl h W, fun W => Ua.rparse_any s hl _ _ (Or.inr ⟨h, rfl, rfl⟩) W, Or.inr ⟨by decide, fun T' hT e => ?_⟩⟩
    have := (Ua.text_good hT).1
    rw [e] at this
    exact h this

def rawG (s : ByteArray) : Rg := ⟨partsG s 0, partsG s 1, partsG s 2, partsG s 3⟩

theorem four_bytes {x : Int} (h0 : 0 ≤ x) (h1 : x < 4294967296) : ((Dm.be ((x / 16777216).toNat % 256) ((x / 65536 % 256).toNat % 256) ((x / 256 % 256).toNat % 256) ((x % 256).toNat % 256) : Nat) : Int) = x := Dm.be4_int ⟨h0, h1⟩

theorem rawG_text {g : Rg} (hg : Wg g) : rawG (textG g) = g := by
  obtain ⟨a, b, c, d⟩ := g
  obtain ⟨ha, hb, hc, hd⟩ := hg
  simp only at ha hb hc hd
  have e0 := four_bytes (x := a) ha.1 (by omega)
  have e1 := four_bytes (x := b) hb.1 (by omega)
  have e2 := four_bytes (x := c) hc.1 (by omega)
  have e3 := four_bytes (x := d) hd.1 (by omega)
  unfold rawG partsG
  rw [Dm.num4, Dm.num4, Dm.num4, Dm.num4]
  unfold textG quadsG fourG
  simp only [Dm.byteAt_nums, Dm.quad, List.take, List.flatMap_cons, List.flatMap_nil, List.cons_append, List.nil_append, List.map_cons, List.map_nil, List.append_nil, Nat.mul_zero, Nat.mul_one, Nat.reduceMul, Nat.reduceAdd, Nat.zero_add, List.getD_eq_getElem?_getD]
  simp only [List.getElem?_cons_zero, List.getElem?_cons_succ, Option.getD_some]
  rw [e0, e1, e2, e3]

theorem text_rawG {s : ByteArray} (hs : s.size = 16) : textG (rawG s) = s := by
  obtain ⟨⟨l⟩⟩ := s
  have hl : l.length = 16 := by simpa [ByteArray.size] using hs
  match l, hl with
  | [x0, x1, x2, x3, x4, x5, x6, x7, x8, x9, x10, x11, x12, x13, x14, x15], _ =>
    apply Ua.lst_ext
    have h1 := Dm.quad_be x0 x1 x2 x3
    have h2 := Dm.quad_be x4 x5 x6 x7
    have h3 := Dm.quad_be x8 x9 x10 x11
    have h4 := Dm.quad_be x12 x13 x14 x15
    show (strOfNums (quadsG (rawG _) 4)).data.toList = _
    have e : quadsG (rawG ⟨⟨[x0, x1, x2, x3, x4, x5, x6, x7, x8, x9, x10, x11, x12, x13, x14, x15]⟩⟩) 4 =
        Dm.quad ((Dm.be x0.toNat x1.toNat x2.toNat x3.toNat : Nat) : Int) ++ Dm.quad ((Dm.be x4.toNat x5.toNat x6.toNat x7.toNat : Nat) : Int) ++ Dm.quad ((Dm.be x8.toNat x9.toNat x10.toNat x11.toNat : Nat) : Int) ++ Dm.quad ((Dm.be x12.toNat x13.toNat x14.toNat x15.toNat : Nat) : Int) := by
      unfold quadsG fourG rawG partsG
      rw [Dm.num4, Dm.num4, Dm.num4, Dm.num4]
      rfl
    rw [e]
    have f : ∀ ns : List Int, (strOfNums ns).data.toList = ns.map fun n => UInt8.ofNat n.toNat := fun ns => rfl
    rw [f, List.map_append, List.map_append, List.map_append, h1, h2, h3, h4]
    rfl

theorem rg_both (s : ByteArray) (hs : s.size = 16) : ∃ (G : Rg) (ok : Bool),
    (∀ w, Calls Tryz.prog 187 #[.string s] w fun e w' => e = .returned (.tuple #[.agg (cellsG G), .bool ok]) ∧ Below w.heap.size w w') ∧
    (ok = true ∧ G = rawG s ∧ Wg G ∧ textG G = s ∨ ok = false ∧ (∃ j, j < 4 ∧ 65520 < partsG s j) ∧ ∀ G', Wg G' → ¬ textG G' = s) := by
  by_cases h : ∃ j, j < 4 ∧ 65520 < partsG s j
  · refine ⟨GZ, false, fun w => parseRng_any s hs _ _ (Or.inr ⟨h, rfl, rfl⟩) w, Or.inr ⟨rfl, h, fun G' hG e => ?_⟩⟩
    have := rawG_text hG
    rw [e] at this
    obtain ⟨j, hj, hlt⟩ := h
    have ha := hG.a
    have hb := hG.b
    have hc := hG.c
    have hd := hG.d
    rw [← this] at ha hb hc hd
    have k : ∀ i, i < 4 → partsG s i ≤ 65520 := fun i hi => by
      have : i = 0 ∨ i = 1 ∨ i = 2 ∨ i = 3 := by omega
      rcases this with rfl | rfl | rfl | rfl
      · exact ha.2
      · exact hb.2
      · exact hc.2
      · exact hd.2
    exact absurd hlt (Int.not_lt.2 (k j hj))
  · have h' : ∀ j, j < 4 → partsG s j ≤ 65520 := fun j hj => by
      by_cases e : partsG s j ≤ 65520
      · exact e
      · exact absurd ⟨j, hj, by omega⟩ h
    exact ⟨rawG s, true, fun w => parseRng_any s hs _ _ (Or.inl ⟨h', rfl, rfl⟩) w, Or.inl ⟨rfl, rfl,
      ⟨⟨(partsG_w s 0).1, h' 0 (by omega)⟩, ⟨(partsG_w s 1).1, h' 1 (by omega)⟩, ⟨(partsG_w s 2).1, h' 2 (by omega)⟩, ⟨(partsG_w s 3).1, h' 3 (by omega)⟩⟩, text_rawG hs⟩⟩

end Go.Proofs.YthjcijlabpinkaaGreatDoor

/- Layer 12: the contract of Set, the program's. -/
namespace Go.Proofs.YthjcijlabpinkaaGreatDoor
open Go.RowKit
set_option linter.unusedVariables false
set_option maxRecDepth 100000

theorem take_any {w : World} {a : Nat} {x A y : ByteArray} {n : Nat} (hc : Box w a #[.string x]) (hn : n ≤ x.size) (hm : x.size ≤ maxLen) (hA : x.extract 0 n = A) (hy : x.extract n x.size = y) :
    Calls Tryz.prog 184 #[.int .i64 (n : Int), .pointer (some ⟨a, 0, none⟩)] w fun e w' => e = .returned (.string A) ∧ w' = w.setCell ⟨a, 0, none⟩ (.string y) := by
  have c0 : w.cell? ⟨a, 0, none⟩ = some (.string x) := hc.cell 0
  have f0 := hc.free 0
  have hn' : (n : Int) ≤ (x.size : Int) := by omega
  unfold maxLen at hm
  have hm' : (x.size : Int) ≤ 9223372036854775807 := by omega
  clear hc
  go_enter Tryz.func184, Tryz.ntmps184
  go_wp2
  go_ret
  exact ⟨rfl, rfl⟩

structure Hold (w x : World) (L : Nat) (s : ByteArray) (l : List (Nat × Array Value)) : Prop where
  box : Box x L #[.string s]
  all : ∀ q, q ∈ l → Box x q.1 q.2 ∧ q.1 ≠ L
  be : Below w.heap.size w x
  le : w.heap.size ≤ L

theorem Hold.on {w x y : World} {L : Nat} {s : ByteArray} {l : List (Nat × Array Value)} (h : Hold w x L s l) (hb : Below x.heap.size x y) : Hold w y L s l :=
  ⟨h.box.on hb, fun q hq => ⟨(h.all q hq).1.on hb, (h.all q hq).2⟩, onto h.be (Nat.le_refl _) hb, h.le⟩

theorem Hold.take {w x : World} {L : Nat} {s : ByteArray} {l : List (Nat × Array Value)} (h : Hold w x L s l) (t : ByteArray) : Hold w (x.setCell ⟨L, 0, none⟩ (.string t)) L t l :=
  ⟨⟨by rw [isRow_setCell]; exact h.box.1, by rw [rowAt_setCell, h.box.2.1]; rfl, by rw [World.size_setCell]; exact h.box.2.2⟩,
    fun q hq => ⟨(h.all q hq).1.of_heap (Below.heap_setCell _ _ _ _ (by show q.1 ≠ L; exact (h.all q hq).2)), (h.all q hq).2⟩, h.be.setCell h.le _, h.le⟩

theorem Hold.new {w x : World} {L : Nat} {s : ByteArray} {l : List (Nat × Array Value)} (h : Hold w x L s l) (c : Array Value) (i : TypeId) : Hold w (x.alloc (.cells c i)) L s ((x.heap.size, c) :: l) := by
  refine ⟨h.box.on (grow _ _), fun q hq => ?_, onto h.be (Nat.le_refl _) (grow _ _), h.le⟩
  rcases List.mem_cons.1 hq with rfl | hq
  · exact ⟨Box.new x c i, by have := h.box.2.2; show x.heap.size ≠ L; omega⟩
  · exact ⟨(h.all q hq).1.on (grow _ _), (h.all q hq).2⟩

theorem Hold.start (w : World) (s : ByteArray) (c : Array Value) (i j : TypeId) : Hold w ((w.alloc (.cells #[.string s] i)).alloc (.cells c j)) w.heap.size s [(w.heap.size + 1, c)] := by
  refine ⟨(Box.new w _ i).on (grow _ _), fun q hq => ?_, (grow w _).alloc (by simp) _, Nat.le_refl _⟩
  rcases List.mem_singleton.1 hq with rfl
  have := Box.new (w.alloc (.cells #[.string s] i)) c j
  exact ⟨by simpa using this, by show w.heap.size + 1 ≠ w.heap.size; omega⟩

structure Parts (s : ByteArray) (T : Tm.Tm) (E1 : Int) (D : Dm.Dm) (E2 : Int) (G : Rg) (ok : Bool) (U : Ua.Ua) (E4 : Int) : Prop where
  ct : ∀ w, Calls Tryz.prog 185 #[.string (s.extract 0 9)] w fun e w' => e = .returned (.tuple #[.agg (Tm.cellsT T), .int .i64 E1]) ∧ Below w.heap.size w w'
  rt : ∀ w, Calls Tryz.prog 117 #[.string (s.extract 0 9)] w fun e w' => e = .returned (.tuple #[.agg (Tm.cellsT T), .int .i64 E1]) ∧ Below w.heap.size w w'
  cd : ∀ w, Calls Tryz.prog 186 #[.string (s.extract 9 26)] w fun e w' => e = .returned (.tuple #[.agg (Dm.cellsD D), .int .i64 E2]) ∧ Below w.heap.size w w'
  rd : ∀ w, Calls Tryz.prog 118 #[.string (s.extract 9 26)] w fun e w' => e = .returned (.tuple #[.agg (Dm.cellsD D), .int .i64 E2]) ∧ Below w.heap.size w w'
  cg : ∀ w, Calls Tryz.prog 187 #[.string (s.extract 26 42)] w fun e w' => e = .returned (.tuple #[.agg (cellsG G), .bool ok]) ∧ Below w.heap.size w w'
  cu : ∀ w, Calls Tryz.prog 189 #[.string (s.extract 1066 s.size)] w fun e w' => e = .returned (.tuple #[.agg (Ua.cellsU U), .int .i64 E4]) ∧ Below w.heap.size w w'
  ru : ∀ w, Calls Tryz.prog 119 #[.string (s.extract 1066 s.size)] w fun e w' => e = .returned (.tuple #[.agg (Ua.cellsU U), .int .i64 E4]) ∧ Below w.heap.size w w'
  mg : ok = true ∧ G = rawG (s.extract 26 42) ∧ Wg G ∨ ok = false ∧ ∃ j, j < 4 ∧ 65520 < partsG (s.extract 26 42) j
  yes : E1 = 0 → E2 = 0 → ok = true → E4 = 0 → IsDev s ⟨T, U, D, G, s.extract 42 1066⟩
  no : ¬ (E1 = 0 ∧ E2 = 0 ∧ ok = true ∧ E4 = 0) → ∀ v, ¬ IsDev s v

theorem parts_of (s : ByteArray) (h : 1066 ≤ s.size) (hm : s.size ≤ maxLen) : ∃ T E1 D E2 G ok U E4, Parts s T E1 D E2 G ok U E4 := by
  obtain ⟨T, E1, ct, rt, mt⟩ := tm_both (s.extract 0 9) (cut_size s 0 9 (by omega) (by omega))
  obtain ⟨D, E2, cd, rd, md⟩ := dm_both (s.extract 9 26) (cut_size s 9 26 (by omega) (by omega))
  obtain ⟨G, ok, cg, mg⟩ := rg_both (s.extract 26 42) (cut_size s 26 42 (by omega) (by omega))
  obtain ⟨U, E4, cu, ru, mu⟩ := ua_both (s.extract 1066 s.size) (by rw [cut_size s 1066 s.size h (Nat.le_refl _)]; omega)
  refine ⟨T, E1, D, E2, G, ok, U, E4, ct, rt, cd, rd, cg, cu, ru, ?_, fun e1 e2 e3 e4 => ?_, fun hn v hv => ?_⟩
  · rcases mg with ⟨h1, h2, h3, -⟩ | ⟨h1, h2, -⟩
    · exact Or.inl ⟨h1, h2, h3⟩
    · exact Or.inr ⟨h1, h2⟩
  · rcases mt with ⟨-, wt, xt⟩ | ⟨k, -⟩
    · rcases md with ⟨-, wd, xd⟩ | ⟨k, -⟩
      · rcases mg with ⟨-, -, wg, xg⟩ | ⟨k, -⟩
        · rcases mu with ⟨-, wu, xu⟩ | ⟨k, -⟩
          · refine ⟨⟨wt, wu, wd, wg, cut_size s 42 1066 (by omega) h⟩, ?_⟩
            unfold devV
            simp only
            rw [xt, xd, xg, xu]
            exact cut_dev s h
          · exact absurd e4 k
        · rw [e3] at k; cases k
      · exact absurd e2 k
    · exact absurd e1 k
  · obtain ⟨-, h1, h2, h3, h4, h5⟩ := dev_cut hv
    apply hn
    refine ⟨?_, ?_, ?_, ?_⟩
    · rcases mt with ⟨k, -, -⟩ | ⟨-, k⟩
      · exact k
      · exact absurd h1.symm (k _ hv.1.t)
    · rcases md with ⟨k, -, -⟩ | ⟨-, k⟩
      · exact k
      · exact absurd h2.symm (k _ hv.1.d)
    · rcases mg with ⟨k, -, -, -⟩ | ⟨-, -, k⟩
      · exact k
      · exact absurd h3.symm (k _ hv.1.g)
    · rcases mu with ⟨k, -, -⟩ | ⟨-, k⟩
      · exact k
      · exact absurd h5.symm (k _ hv.1.u)

theorem builtV (T : Tm.Tm) (U : Ua.Ua) (D : Dm.Dm) (G : Rg) (A : ByteArray) :
    Tryz.prog.built 99 [(0, .agg (Tm.cellsT T)), (1, .agg (Ua.cellsU U)), (2, .agg (Dm.cellsD D)), (3, .agg (cellsG G)), (4, .string A)] = some (cellsV ⟨T, U, D, G, A⟩) := by kernel_rfl

theorem wpList_buildV {ops : Array Oper} {rest : List Oper} {o : Oper} {a : Act} {w : World} {Q : Exit → Act → World → Prop} (hg : o.guard = none) (p0 p1 p2 p3 p4 : Operand)
    (ho : o.op = .build 99 #[(0, p0), (1, p1), (2, p2), (3, p3), (4, p4)]) (T : Tm.Tm) (U : Ua.Ua) (D : Dm.Dm) (G : Rg) (A : ByteArray)
    (h0 : a.eval p0 = .agg (Tm.cellsT T)) (h1 : a.eval p1 = .agg (Ua.cellsU U)) (h2 : a.eval p2 = .agg (Dm.cellsD D)) (h3 : a.eval p3 = .agg (cellsG G)) (h4 : a.eval p4 = .string A)
    (h : wpList Tryz.prog ops Q rest (a.put o.dst (.agg (cellsV ⟨T, U, D, G, A⟩))) w) : wpList Tryz.prog ops Q (o :: rest) a w := by
  have e : ((#[(0, p0), (1, p1), (2, p2), (3, p3), (4, p4)] : Array (Nat × Operand)).map fun (i, x) => (i, a.eval x)).toList = [(0, a.eval p0), (1, a.eval p1), (2, a.eval p2), (3, a.eval p3), (4, a.eval p4)] := by simp
  refine wpList_build hg 99 _ ho ?_ ?_
  · rw [e, h0, h1, h2, h3, h4, builtV]; rfl
  · rw [e, h0, h1, h2, h3, h4, builtV]; exact h

theorem parse_short {s : ByteArray} (h : s.size < 1066) (w : World) :
    Calls Tryz.prog 116 #[.string s] w fun e w' => e = .returned (.tuple #[.agg (cellsV VZ), .bool false]) ∧ Below w.heap.size w w' := by
  obtain ⟨t1, t2, t3, t4, t5, t6, t7, t8, t9⟩ := rowRules
  obtain ⟨-, -, -, -, z5, -, -, -, -, z10⟩ := sizeRules
  obtain ⟨-, -, -, -, c5, -, -, -, -, o5, -, -, -, -, n5⟩ := cellSizes
  obtain ⟨-, -, -, -, -, -, -, -, -, -, -, -, x1, x2, x3⟩ := boxRules
  have h' : (s.size : Int) < 1066 := by omega
  have H := Hold.start w s (cellsV VZ) 9 99
  have ld := (H.all _ (List.mem_singleton.2 rfl)).1.loadV
  have be := hide H.be
  clear H
  go_enter Tryz.func116, Tryz.ntmps116
  go_wp2
  exact bodyPost_ret (v := .tuple #[.agg (cellsV VZ), .bool false]) (by simp [results, Tryz.results116, go_sem, z5, ld]) rfl ⟨rfl, be.out⟩

set_option maxHeartbeats 4000000 in
set_option maxRecDepth 100000 in
theorem parse_any {s : ByteArray} (h : 1066 ≤ s.size) (hm : s.size ≤ maxLen) {T : Tm.Tm} {E1 : Int} {D : Dm.Dm} {E2 : Int} {G : Rg} {ok : Bool} {U : Ua.Ua} {E4 : Int} (P : Parts s T E1 D E2 G ok U E4) (q : Dv) (good : Bool)
    (hq : E1 = 0 ∧ E2 = 0 ∧ ok = true ∧ E4 = 0 ∧ q = ⟨T, U, D, G, s.extract 42 1066⟩ ∧ good = true ∨ ¬ (E1 = 0 ∧ E2 = 0 ∧ ok = true ∧ E4 = 0) ∧ q = VZ ∧ good = false) (w : World) :
    Calls Tryz.prog 116 #[.string s] w fun e w' => e = .returned (.tuple #[.agg (cellsV q), .bool good]) ∧ Below w.heap.size w w' := by
  obtain ⟨t1, t2, t3, t4, t5, t6, t7, t8, t9⟩ := rowRules
  obtain ⟨z1, z2, z3, z4, z5, z6, z7, z8, z9, z10⟩ := sizeRules
  obtain ⟨c1, c2, c3, c4, c5, o1, o2, o3, o4, o5, n1, n2, n3, n4, n5⟩ := cellSizes
  obtain ⟨a1, a2, a3, a4, a5, a6, a7, a8, a9, a10, a11, a12, x1, x2, x3⟩ := boxRules
  have hlen : ¬ ((s.size : Int) < 1066) := by omega
  have k1 := cut_size s 9 s.size (by omega) (Nat.le_refl _)
  have k2 := cut_size s 26 s.size (by omega) (Nat.le_refl _)
  have k3 := cut_size s 42 s.size (by omega) (Nat.le_refl _)
  have T1 := hide fun (x : World) (hb : Box x w.heap.size #[.string s]) => take_any (n := 9) hb (by omega) hm rfl rfl
  have T2 := hide fun (x : World) (hb : Box x w.heap.size #[.string (s.extract 9 s.size)]) => take_any (n := 17) hb (by omega) (by omega) (cut_cut s 9 17 (by omega)) (cut_rest s 9 17 (by omega))
  have T3 := hide fun (x : World) (hb : Box x w.heap.size #[.string (s.extract 26 s.size)]) => take_any (n := 16) hb (by omega) (by omega) (cut_cut s 26 16 (by omega)) (cut_rest s 26 16 (by omega))
  have T4 := hide fun (x : World) (hb : Box x w.heap.size #[.string (s.extract 42 s.size)]) => take_any (n := 1024) hb (by omega) (by omega) (cut_cut s 42 1024 (by omega)) (cut_rest s 42 1024 (by omega))
  have TC := hide fun (x : World) => Ua.clone_any (s.extract 42 1066) x (by rw [cut_size s 42 1066 (by omega) h]; decide)
  obtain ⟨ct, -, cd, -, cg, cu, -, -, -, -⟩ := P
  replace ct := hide ct
  replace cd := hide cd
  replace cg := hide cg
  replace cu := hide cu
  simp only [Nat.reduceAdd] at T2 T3 T4
  generalize s.extract 0 9 = A1 at *
  generalize s.extract 9 26 = A2 at *
  generalize s.extract 26 42 = A3 at *
  generalize s.extract 42 1066 = A4 at *
  generalize s.extract 1066 s.size = A5 at *
  generalize s.extract 9 s.size = s1 at *
  generalize s.extract 26 s.size = s2 at *
  generalize s.extract 42 s.size = s3 at *
  clear k1 k2 k3 h hm
  replace hq := hide hq
  have H := hide (Hold.start w s (cellsV VZ) 9 99)
  go_enter Tryz.func116, Tryz.ntmps116
  go_wp2_with fail
  generalize (w.alloc (.cells #[.string s] 9)).alloc (.cells (cellsV VZ) 99) = y0 at *
  refine (T1.out _ H.out.box).mono ?_
  rintro e y1 ⟨rfl, rfl⟩
  replace H := hide (H.out.take s1)
  go_wp2_with fail
  generalize y0.setCell ⟨w.heap.size, 0, none⟩ (.string s1) = y1 at *
  refine (ct.out _).mono ?_
  rintro e y2 ⟨rfl, b2⟩
  replace H := hide ((H.out.on b2).new (Tm.cellsT T) 62)
  clear b2 T1 ct
  go_wp2_with fail
  generalize hLt : y2.heap.size = Lt at *
  generalize y2.alloc (.cells (Tm.cellsT T) 62) = y3 at *
  clear hLt
  refine (T2.out _ H.out.box).mono ?_
  rintro e y4 ⟨rfl, rfl⟩
  replace H := hide (H.out.take s2)
  go_wp2_with fail
  generalize y3.setCell ⟨w.heap.size, 0, none⟩ (.string s2) = y5 at *
  refine (cd.out _).mono ?_
  rintro e y6 ⟨rfl, b2⟩
  replace H := hide ((H.out.on b2).new (Dm.cellsD D) 66)
  clear b2 T2 cd
  go_wp2_with fail
  generalize hLt : y6.heap.size = Ld at *
  generalize y6.alloc (.cells (Dm.cellsD D) 66) = y7 at *
  clear hLt
  refine (T3.out _ H.out.box).mono ?_
  rintro e y8 ⟨rfl, rfl⟩
  replace H := hide (H.out.take s3)
  go_wp2_with fail
  generalize y7.setCell ⟨w.heap.size, 0, none⟩ (.string s3) = y9 at *
  refine (cg.out _).mono ?_
  rintro e y10 ⟨rfl, b2⟩
  replace H := hide ((H.out.on b2).new (cellsG G) 68)
  clear b2 T3 cg
  go_wp2_with fail
  generalize hLt : y10.heap.size = Lg at *
  generalize y10.alloc (.cells (cellsG G) 68) = y11 at *
  clear hLt
  refine (T4.out _ H.out.box).mono ?_
  rintro e y12 ⟨rfl, rfl⟩
  replace H := hide (H.out.take A5)
  go_wp2_with fail
  generalize y11.setCell ⟨w.heap.size, 0, none⟩ (.string A5) = y13 at *
  refine (TC.out _).mono ?_
  rintro e y14 ⟨rfl, b2⟩
  replace H := hide (H.out.on b2)
  have h0 : y14.cell? ⟨w.heap.size, 0, none⟩ = some (.string A5) := H.out.box.cell 0
  clear b2 T4 TC
  go_wp2_with fail
  refine (cu.out _).mono ?_
  rintro e y15 ⟨rfl, b2⟩
  replace H := hide ((H.out.on b2).new (Ua.cellsU U) 64)
  clear b2 cu h0
  go_upto_region 9 with fail
  generalize hLu : y15.heap.size = Lu at *
  generalize y15.alloc (.cells (Ua.cellsU U) 64) = y16 at *
  clear hLu
  have V1 := hide (H.out.all (w.heap.size + 1, cellsV VZ) (by simp)).1
  have V2 := hide (H.out.all (Lt, Tm.cellsT T) (by simp)).1
  have V3 := hide (H.out.all (Ld, Dm.cellsD D) (by simp)).1
  have V4 := hide (H.out.all (Lg, cellsG G) (by simp)).1
  have V5 := hide (H.out.all (Lu, Ua.cellsU U) (by simp)).1
  have be := hide H.out.be
  clear H
  obtain ⟨u1, u2⟩ := And.intro V1.out.1 V1.out.2.1
  obtain ⟨u3, u4⟩ := And.intro V2.out.1 V2.out.2.1
  obtain ⟨u5, u6⟩ := And.intro V3.out.1 V3.out.2.1
  obtain ⟨u7, u8⟩ := And.intro V4.out.1 V4.out.2.1
  obtain ⟨u9, u10⟩ := And.intro V5.out.1 V5.out.2.1
  by_cases good' : E1 = 0 ∧ E2 = 0 ∧ ok = true ∧ E4 = 0
  · have hv : q = ⟨T, U, D, G, A4⟩ ∧ good = true := by
      rcases hq.out with ⟨-, -, -, -, h1, h2⟩ | ⟨h1, -, -⟩
      · exact ⟨h1, h2⟩
      · exact absurd good' h1
    obtain ⟨rfl, rfl⟩ := hv
    obtain ⟨rfl, rfl, rfl, rfl⟩ := good'
    clear hq
    go_wp2_with (refine wpList_buildV rfl (.tmp 60) (.tmp 61) (.tmp 62) (.tmp 63) (.tmp 64) (by with_reducible rfl) T U D G A4 rfl rfl rfl rfl rfl ?_)
    have ld := (V1.out.set (cellsV ⟨T, U, D, G, A4⟩)).loadV
    exact bodyPost_ret (v := .tuple #[.agg (cellsV ⟨T, U, D, G, A4⟩), .bool true]) (by simp [results, Tryz.results116, go_sem, z5, ld]) rfl ⟨rfl, below_setRow be.out (by omega) _⟩
  · have hv : q = VZ ∧ good = false := by
      rcases hq.out with ⟨h1, h2, h3, h4, -, -⟩ | ⟨-, h1, h2⟩
      · exact absurd ⟨h1, h2, h3, h4⟩ good'
      · exact ⟨h1, h2⟩
    obtain ⟨rfl, rfl⟩ := hv
    clear hq
    have fin : ∀ y : World, y = y16.setRow (w.heap.size + 1) (cellsV VZ) → (loadCellsFrom ⟨w.heap.size + 1, 0, none⟩ 0 N16 #[]).run Tryz.prog y = .ok (cellsV VZ) y ∧ Below w.heap.size w y := by
      rintro y rfl
      exact ⟨(V1.out.set (cellsV VZ)).loadV, below_setRow be.out (by omega) _⟩
    obtain ⟨ld, lb⟩ := fin _ rfl
    replace lb := hide lb
    clear fin
    by_cases h1 : E1 = 0
    · subst h1
      by_cases h2 : E2 = 0
      · subst h2
        cases ok
        · clear good'
          go_wp2
          exact bodyPost_ret (v := .tuple #[.agg (cellsV VZ), .bool false]) (by simp [results, Tryz.results116, go_sem, z5, ld]) rfl ⟨rfl, lb.out⟩
        · have h4 : (E4 == 0) = false := by simpa using good'
          clear good'
          go_wp2
          exact bodyPost_ret (v := .tuple #[.agg (cellsV VZ), .bool false]) (by simp [results, Tryz.results116, go_sem, z5, ld]) rfl ⟨rfl, lb.out⟩
      · have h4 : (E2 == 0) = false := by simpa using h2
        clear good' h2
        go_wp2
        all_goals exact bodyPost_ret (v := .tuple #[.agg (cellsV VZ), .bool false]) (by simp [results, Tryz.results116, go_sem, z5, ld]) rfl ⟨rfl, lb.out⟩
    · have h4 : (E1 == 0) = false := by simpa using h1
      clear good' h1
      go_wp2
      all_goals exact bodyPost_ret (v := .tuple #[.agg (cellsV VZ), .bool false]) (by simp [results, Tryz.results116, go_sem, z5, ld]) rfl ⟨rfl, lb.out⟩

end Go.Proofs.YthjcijlabpinkaaGreatDoor

/- Layer 12: the contract of Set, the program's. -/
namespace Go.Proofs.YthjcijlabpinkaaGreatDoor
open Go.RowKit
set_option linter.unusedVariables false
set_option maxRecDepth 100000

set_option maxHeartbeats 1000000 in
theorem set_no {w : World} {b p g n c : Nat} {v : Dv} {B : Nat → Nat} {D : Nat → Bool} (hB : Bus w b p g n c v B D) (s : ByteArray)
    (cp : ∀ x, Calls Tryz.prog 116 #[.string s] x fun e w' => e = .returned (.tuple #[.agg (cellsV VZ), .bool false]) ∧ Below x.heap.size x w') :
    Calls Tryz.prog 44 #[.pointer (some ⟨b, 0, none⟩), .string s] w fun e w' => e = .returned (.int .i64 120) ∧ Below w.heap.size w w' := by
  obtain ⟨t1, t2, t3, t4, t5, t6, t7, t8, t9⟩ := rowRules
  obtain ⟨-, -, -, -, z5, -, -, -, -, z10⟩ := sizeRules
  obtain ⟨-, -, -, -, c5, -, -, -, -, o5, -, -, -, -, n5⟩ := cellSizes
  obtain ⟨-, -, -, -, -, -, -, -, -, -, -, -, x1, x2, x3⟩ := boxRules
  replace cp := hide cp
  clear hB
  go_enter Tryz.func44, Tryz.ntmps44
  go_wp2_with fail
  refine (cp.out _).mono ?_
  rintro e w1 ⟨rfl, b1⟩
  go_wp2
  go_ret
  exact ⟨rfl, b1.alloc b1.size _⟩

set_option maxHeartbeats 1000000 in
theorem set_yes {w : World} {b p g n c : Nat} {v : Dv} {B : Nat → Nat} {D : Nat → Bool} (hB : Bus w b p g n c v B D) (s : ByteArray) (q : Dv) (hq : Wv q)
    (cp : ∀ x, Calls Tryz.prog 116 #[.string s] x fun e w' => e = .returned (.tuple #[.agg (cellsV q), .bool true]) ∧ Below x.heap.size x w') :
    Calls Tryz.prog 44 #[.pointer (some ⟨b, 0, none⟩), .string s] w fun e w' => e = .returned (.int .i64 0) ∧ Bus w' b p g n c q B D ∧ Kept [b] w w' := by
  obtain ⟨t1, t2, t3, t4, t5, t6, t7, t8, t9⟩ := rowRules
  obtain ⟨-, -, -, -, z5, -, -, -, -, z10⟩ := sizeRules
  obtain ⟨-, -, -, -, c5, -, -, -, -, o5, -, -, -, -, n5⟩ := cellSizes
  obtain ⟨-, -, -, -, -, -, -, -, -, -, -, -, x1, x2, x3⟩ := boxRules
  obtain ⟨-, -, -, -, f5, -, -, -, -, q5, -, -, -, -, s5, -, -, -⟩ := bParts
  replace cp := hide cp
  replace hB := hide hB
  go_enter Tryz.func44, Tryz.ntmps44
  go_wp2_with fail
  refine (cp.out _).mono ?_
  rintro e w1 ⟨rfl, b1⟩
  have B1 := hB.out.on b1
  have K1 := hide (Kept.of (l := [b]) b1)
  clear cp hB b1
  obtain ⟨r1, r2, r3⟩ := And.intro B1.row (And.intro B1.at' B1.lt)
  have r4 : ¬ b = w1.heap.size := by omega
  replace B1 := hide B1
  go_wp2
  go_ret
  refine ⟨rfl, ?_⟩
  exact ⟨(B1.out.set q hq).on (grow _ _), (K1.out.trans (Kept.set _ _ _ (by simp))).trans (Kept.of (grow _ _))⟩

end Go.Proofs.YthjcijlabpinkaaGreatDoor
