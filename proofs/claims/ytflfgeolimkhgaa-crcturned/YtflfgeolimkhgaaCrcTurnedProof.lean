/- Of two texts that differ in at most sixteen bits one behind the other, and in one at least, the sums differ, so a sealed text so turned is not opened: for every text (of which the first 300 bytes count), every place and every turn; no condition. -/
import Derived.Test.YtflfgeolimkhgaaRows
import Derived.Test.YtflfgeolimkhgaaCrcFixed
import Derived.Test.YtflfgeolimkhgaaCrcRow
import Derived.Deep.RegionHeld3
import Derived.WalkKit
import Derived.ProofKit
import Derived.OpenShut
import Derived.ShutString
import Derived.ChangeOld
import Derived.Below
import Derived.SizedLaws
import Derived.Lib.Strings
namespace Go.Proofs.Ytflfgeolimkhgaa.crcTurned
open Go.ChangeShapes Go.WideShapes Go.ChangeAt Go.RowKit
open Go.ChangeMaps (open_string shut_string)
set_option linter.unusedVariables false

theorem own : ownKnob Try.prog.godebug = none := by kernel_rfl
theorem laidOut : laidOutB Try.prog = true := by kernel_rfl

theorem ret_bool {a b : Bool} (h : a = b) : Ending.returned (.bool a) = .returned (.bool b) := by rw [h]

theorem nats_app (a b : ByteArray) : nats (a ++ b) = nats a ++ nats b := by
  unfold nats
  rw [data_app, List.map_append]

theorem nats_two (n : Nat) (h : n < 65536) : nats (two n) = [n / 256, n % 256] := by
  unfold nats two
  simp
  omega

theorem sum_sealed (t : ByteArray) : Crc.on 65535 (nats (sealOf t)) = 0 := by
  unfold sealOf
  rw [nats_app, nats_two _ (Crc.on_lt (by decide) (nats_small t)), Crc.on_append, Crc.on_sealed]

theorem made (s : ByteArray) (L : Nat) (h : s.size = L) (w : World) : ∃ B cap W1,
    (convert 9 32 (.string s)).run Try.prog w = .ok (.slice (some ⟨B, 0, none⟩) L cap) W1 ∧ RowIs W1 B L (byteAt s) ∧ Below w.heap.size w W1 ∧ w.heap.size ≤ B := by
  have r := row_of w s
  have c := conv_row w s
  rw [h] at r c
  exact ⟨_, _, _, c, r, row_below w _, Nat.le_refl _⟩

theorem low16 (a : Int) : ∃ m : Int, 0 ≤ m ∧ m < 65536 ∧ bits .and .i64 a 65535 = m := by
  have h : ((BitVec.ofInt 64 a) &&& (BitVec.ofInt 64 65535)).toNat ≤ 65535 := by
    rw [BitVec.toNat_and]
    exact Nat.and_le_right
  refine ⟨_, ?_, ?_, rfl⟩
  · show 0 ≤ IntKind.i64.wrap (((BitVec.ofInt 64 a) &&& (BitVec.ofInt 64 65535)).toNat : Int)
    rw [IntKind.wrap_i64]
    omega
  · show IntKind.i64.wrap (((BitVec.ofInt 64 a) &&& (BitVec.ofInt 64 65535)).toNat : Int) < 65536
    rw [IntKind.wrap_i64]
    omega

/-- Behind j bits the row in block B holds bytes whose sum is that of the turned bits alone. -/
def Turned (w : World) (B L K t j : Nat) : Prop :=
  ∃ f : Nat → Nat, (∀ x, f x < 256) ∧ RowIs w B L f ∧ Crc.on 65535 (Crc.row L f) = Crc.steps (8 * L - K) (Crc.rev t j)

theorem turned_first {w : World} {B L K t : Nat} {s : ByteArray} (h : RowIs w B L (byteAt s)) (e : Crc.on 65535 (Crc.row L (byteAt s)) = 0) : Turned w B L K t 0 :=
  ⟨byteAt s, byteAt_lt s, h, by rw [e]; exact (Crc.steps_zero _).symm⟩

theorem bit_of (t j : Nat) (ht : t < 65536) : bits .and .u16 ((t : Int) / 2 ^ j) 1 = ((t / 2 ^ j % 2 : Nat) : Int) := by
  have e : (t : Int) / 2 ^ j = ((t / 2 ^ j : Nat) : Int) := by simp
  have l : t / 2 ^ j < 65536 := Nat.lt_of_le_of_lt (Nat.div_le_self _ _) ht
  rw [e, show (1 : Int) = ((1 : Nat) : Int) from rfl, u16_and_nat _ _ l (by decide), nat_mask1]

theorem shr128 (r : Nat) (h : r < 8) : (128 : Int) / 2 ^ r = ((2 ^ (7 - r) : Nat) : Int) := by
  match r, h with
  | 0, _ => rfl
  | 1, _ => rfl
  | 2, _ => rfl
  | 3, _ => rfl
  | 4, _ => rfl
  | 5, _ => rfl
  | 6, _ => rfl
  | 7, _ => rfl

theorem pow_lt (r : Nat) : 2 ^ (7 - r) < 256 := Nat.pow_lt_pow_right (a := 2) (n := 8) (by decide) (by omega)

theorem turned_step {w : World} {B L K t j : Nat} {f : Nat → Nat} (hf : ∀ x, f x < 256) (h : RowIs w B L f) (e : Crc.on 65535 (Crc.row L f) = Crc.steps (8 * L - K) (Crc.rev t j))
    (hj : j < 16) (hK : K + 16 ≤ 8 * L) (hb : t / 2 ^ j % 2 = 1) :
    Turned (w.setCell ⟨B, (K + j) / 8, none⟩ (.int .u8 ((f ((K + j) / 8) ^^^ 2 ^ (7 - (K + j) % 8) : Nat) : Int))) B L K t (j + 1) := by
  refine ⟨fun x => if x = (K + j) / 8 then f x ^^^ 2 ^ (7 - (K + j) % 8) else f x, fun x => ?_, (h.set (k := (K + j) / 8) (by omega) _).congr fun x _ => ?_, ?_⟩
  · show (if x = (K + j) / 8 then f x ^^^ 2 ^ (7 - (K + j) % 8) else f x) < 256
    split
    · exact Nat.xor_lt_two_pow (n := 8) (hf x) (pow_lt _)
    · exact hf x
  · by_cases c : x = (K + j) / 8
    · rw [if_pos c, if_pos c, c]
    · rw [if_neg c, if_neg c]
  · rw [Crc.on_toggle (by decide) hf (by omega), e, Crc.steps_rev t K L j hj hK, if_pos hb]

theorem Turned.drew {w : World} {B L K t j : Nat} (h : Turned w B L K t j) : Turned w.drew B L K t j := by
  obtain ⟨f, h1, h2, h3⟩ := h
  exact ⟨f, h1, h2.drew, h3⟩

theorem turned_stay {w : World} {B L K t j : Nat} {f : Nat → Nat} (hf : ∀ x, f x < 256) (h : RowIs w B L f) (e : Crc.on 65535 (Crc.row L f) = Crc.steps (8 * L - K) (Crc.rev t j))
    (hj : j < 16) (hK : K + 16 ≤ 8 * L) (hb : ¬ t / 2 ^ j % 2 = 1) : Turned w B L K t (j + 1) :=
  ⟨f, hf, h, by rw [e, Crc.steps_rev t K L j hj hK, if_neg hb, Nat.xor_zero]⟩

theorem turned_last {w : World} {B L K t : Nat} {f : Nat → Nat} (hf : ∀ x, f x < 256) (e : Crc.on 65535 (Crc.row L f) = Crc.steps (8 * L - K) (Crc.rev t 16)) (ht : t < 65536) (h0 : ¬ t = 0) :
    ∀ s, textOf L f ≠ sealOf s := by
  intro s h
  have n := nats_textOf L f (fun j _ => hf j)
  have z := sum_sealed s
  rw [← h, n, e] at z
  exact h0 (Crc.rev_zero ht (Crc.steps_eq_zero (Crc.rev_lt t 16) z))

set_option maxHeartbeats 4000000 in
set_option maxRecDepth 100000 in
theorem walk (a0 : ByteArray) (a1 : Int) (a2 : Int) (w : World) (w0 : a0.size ≤ maxLen) (w1 : (Lit.int .i64 a1).wf = true) (w2 : (Lit.int .u16 a2).wf = true) (z0 : a0.size ≤ 140737488351232) :
    Calls Try.prog 6 #[.string a0, .int .i64 a1, .int .u16 a2] w fun e w' => e = .returned (.bool true) ∧ Below w.heap.size w w' := by
  obtain ⟨k0, k1⟩ := bounds_u16 w2
  obtain ⟨t, rfl⟩ := Int.eq_ofNat_of_zero_le k0
  have ht : t < 65536 := by omega
  obtain ⟨N, hN⟩ : ∃ N : Nat, min (a0.size : Int) 300 = (N : Int) := ⟨min a0.size 300, by omega⟩
  have n0 : N ≤ a0.size := by omega
  have n3 : N ≤ 300 := by omega
  obtain ⟨s, hs⟩ : ∃ s, a0.extract 0 N = s := ⟨_, rfl⟩
  have ns : s.size = N := by rw [← hs, ByteArray.size_extract]; omega
  have NS := hide ns
  go_enter Try.func6, Try.ntmps6
  go_wp2_with fail
  clear hs hN
  refine (seal_any s w (by omega)).mono ?_
  rintro e x1 ⟨rfl, b1⟩
  obtain ⟨L, hL⟩ : ∃ L, L = N + 2 := ⟨_, rfl⟩
  obtain ⟨B, cap, W1, hcv, hrow, hbel, hB⟩ := made (sealOf s) L (by rw [seal_size, ns, hL]) x1
  have hb0 := b1.trans (hbel.mono b1.size)
  have hBw : w.heap.size ≤ B := Nat.le_trans b1.size hB
  have hon : Crc.on 65535 (Crc.row L (byteAt (sealOf s))) = 0 := by
    have := nats_row (sealOf s)
    rw [seal_size, ns, ← hL] at this
    rw [← this, sum_sealed]
  have hl2 : 2 ≤ L := by omega
  have hl3 : L ≤ 302 := by omega
  clear ns hbel hB b1 hL NS n0 n3
  by_cases h0 : t = 0
  · subst h0
    go_wp2_with fail
    refine (fixed_any _).mono ?_
    rintro e x2 ⟨rfl, b2⟩
    go_wp2
    go_ret
    exact ⟨rfl, hb0.trans (b2.mono hb0.size)⟩
  have hq : ((t : Int) == 0) = false := by rw [beq_eq_false_iff_ne]; omega
  by_cases h3 : L < 3
  · have hd : decide ((L : Int) < 3) = true := by simp; omega
    go_wp2_with fail
    refine (fixed_any _).mono ?_
    rintro e x2 ⟨rfl, b2⟩
    go_wp2
    go_ret
    exact ⟨rfl, hb0.trans (b2.mono hb0.size)⟩
  have hd : decide ((L : Int) < 3) = false := by simp; omega
  obtain ⟨m, m0, m1, hm⟩ := low16 a1
  obtain ⟨K, hK⟩ : ∃ K : Nat, m % (8 * (L : Int) - 15) = (K : Int) := ⟨(m % (8 * (L : Int) - 15)).toNat, by have := Int.emod_nonneg m (show 8 * (L : Int) - 15 ≠ 0 by omega); omega⟩
  have hK1 : K + 16 ≤ 8 * L := by have := Int.emod_lt_of_pos m (show 0 < 8 * (L : Int) - 15 by omega); omega
  go_wp2
  rw [hK]
  clear hm hK hcv m0 m1 hq hd h3
  go_loopw [9] (fun i wr => ∃ j : Nat, j ≤ 16 ∧ i = .int .i64 j ∧ Below w.heap.size w wr ∧ Turned wr B L K t j) (fun i _ => 16 - (intOf i).toNat)
  case atStart => exact ⟨0, by omega, rfl, hb0, turned_first hrow hon⟩
  case round =>
    clear hrow hon hb0
    obtain ⟨j, hj, rfl, hbel, f, hf256, hrow, hsum⟩ := hrel
    by_cases h : j < 16
    · have hbit := bit_of t j ht
      obtain ⟨q, hq⟩ : ∃ q : Nat, q = (K + j) / 8 := ⟨_, rfl⟩
      obtain ⟨r, hr⟩ : ∃ r : Nat, r = (K + j) % 8 := ⟨_, rfl⟩
      have hqi : ((K : Int) + (j : Int)) / 8 = (q : Int) := by omega
      have hri : ((K : Int) + (j : Int)) % 8 = (r : Int) := by omega
      have hqL : q < L := by omega
      have hr8 : r < 8 := by omega
      have hc := hrow.cell q hqL
      have hf := hrow.free q hqL
      have hsh := shr128 r hr8
      have hpl := pow_lt r
      obtain ⟨P, hP⟩ : ∃ P : Nat, 2 ^ (7 - r) = P := ⟨_, rfl⟩
      rw [hP] at hsh hpl
      have hxo := u8_xor_nat (f q) P (hf256 q) hpl
      by_cases hb : t / 2 ^ j % 2 = 1
      · have ht1 : (bits .and .u16 ((t : Int) / 2 ^ j) 1 == 1) = true := by rw [hbit, hb]; rfl
        have R := hide (turned_step hf256 hrow hsum h hK1 hb)
        have BL := hide hbel
        rw [← hq, ← hr, hP] at R
        clear hrow hsum hbel hbit hq hr hb hP hpl
        go_wp2
        go_region
        go_wp2
        go_roundw
        case rel => exact ⟨j + 1, by omega, by go_num, (BL.out.setCell (p := ⟨B, q, none⟩) hBw _).drew, R.out.drew⟩
        case measure => simp [intOf]; omega
      · have ht0 : (bits .and .u16 ((t : Int) / 2 ^ j) 1 == 1) = false := by rw [hbit, show t / 2 ^ j % 2 = 0 by omega]; rfl
        have R := hide (turned_stay hf256 hrow hsum h hK1 hb)
        have BL := hide hbel
        clear hrow hsum hbel hbit hq hr hb hc hf hsh hxo hqi hri hP hpl
        go_wp2
        go_roundw
        case rel => exact ⟨j + 1, by omega, by go_num, BL.out, R.out⟩
        case measure => simp [intOf]; omega
    · have h16 : j = 16 := by omega
      subst h16
      have hcb := conv_back hrow cap
      have hno := turned_last (w := w) (B := B) hf256 hsum ht h0
      have hsz : (textOf L f).size ≤ 281474976710656 := by rw [textOf_size]; omega
      go_wp2_with fail
      refine (open_no _ _ hsz hno).mono ?_
      rintro e x2 ⟨rfl, b2⟩
      go_wp2_with fail
      refine (fixed_any _).mono ?_
      rintro e x3 ⟨rfl, b3⟩
      go_wp2
      go_ret
      have hs1 := hbel.size
      have hs2 := b2.size
      exact ⟨rfl, hbel.trans ((b2.mono (by omega)).trans (b3.mono (by omega)))⟩

set_option maxRecDepth 100000 in
theorem lifted (os : Os) (started : os.Started) (H : Type) (enc : TypeId × Value → H) :
    ReturnsInHanded {} Try.checked os 6 .any (Rows.crcTurnedSpec.pre6 enc Try.prog Try.f6 Rows.crcTurnedRow.domain false) (Rows.crcTurnedSpec.post enc Try.prog Try.f6 false true false false) := by
  refine returnsInHanded_of_change_sized (C := Try.checked) own started (by kernel_rfl) Try.func6
    (ChangeSpec.witness6 (enc := enc) (C := Try.checked) false ⟨#[], #[.string ByteArray.empty, .int .i64 0, .int .u16 0], []⟩ 8 (by kernel_rfl) (by kernel_rfl) (by kernel_rfl) (by kernel_rfl)) ?_
  intro W base args ds gs before hval0 hW hcnd hsz0 _
  have hval : ∀ (j : Nat) t v, Try.f6.params[j]? = some t → args[j]? = some v → Value.okWide Try.prog W .any base t v := hval0
  have hW' := hW
  obtain ⟨p, q, hA0, hV, rfl, hfz, hnd⟩ := hW
  have hA : DataW.TrodAll enc Try.prog W 0 (fun _ => true) true Try.f6.params.toList args.toList ds p := hA0
  have hsz : (DataW.weightsEach Try.prog (Try.f6.params.toList ++ Rows.crcTurnedSpec.plain.varTypes Try.prog) (ds ++ gs)).all (· ≤ reachBytes) = true := hsz0
  rw [Try.params6] at hA hval hsz
  obtain ⟨v0, vs0, d0, ds0, p0, q0, hargs, rfl, rfl, h0, r0⟩ := trodAll_cons hA
  obtain ⟨v1, vs1, d1, ds1, p1, q1, rfl, rfl, rfl, h1, r1⟩ := trodAll_cons r0
  obtain ⟨v2, vs2, d2, ds2, p2, q2, rfl, rfl, rfl, h2, r2⟩ := trodAll_cons r1
  obtain ⟨rfl, rfl, rfl⟩ := trodAll_nil r2
  obtain rfl : args = #[v0, v1, v2] := by cases args; simp_all
  obtain ⟨rfl, rfl⟩ := trodVars_none hV
  obtain ⟨a0, rfl, rfl, rfl, w0⟩ := open_string Try.underlying9 (hval 0 9 v0 rfl rfl) h0
  obtain ⟨a1, rfl, rfl, rfl, w1⟩ := open_int Try.underlying3 (hval 1 3 v1 rfl rfl) h1
  obtain ⟨a2, rfl, rfl, rfl, w2⟩ := open_int Try.underlying22 (hval 2 22 v2 rfl rfl) h2
  have z0 : a0.size ≤ 140737488351232 := by
    have := sized_string hsz (j := 0) (t := 9) rfl rfl
    simp only [reachBytes] at this
    rw [Lib.size_eq]
    exact this
  clear hA0 hval0
  refine (walk a0 a1 a2 W w0 w1 w2 z0).mono fun e W' ⟨he, bel⟩ => ?_
  subst he
  exact ⟨_, rfl, _, _, _, [], _, [], hW', trodAll_mk1 (shut_bool Try.underlying4 _), (trodAll_cons_mk (shut_string Try.underlying9 w0) (trodAll_cons_mk (shut_int Try.underlying3 w1) (trodAll_cons_mk (shut_int Try.underlying22 w2) trodAll_mk0))), rfl, bel.frame _, fun h => by cases h⟩

theorem over : Rows.crcTurnedRow.holds Try.pinned (OpenSpec.ofChange Rows.crcTurnedSpec) :=
  OpenClaim.holds_of_wide 6 Try.f6 rfl rfl rfl rfl rfl rfl rfl ⟨rfl, rfl, rfl, rfl, rfl⟩ rfl rfl rfl rfl rfl (by kernel_rfl) Try.func6 (by kernel_rfl)
    (of_decide_eq_true (by kernel_rfl)) (by unfold Func.isWrapper; first | (rw [if_pos (by decide +kernel)]; kernel_rfl) | (rw [if_neg (by decide +kernel)]; exact ⟨rfl, rfl⟩))
    (fun os started H enc _ => lifted os started H enc)

theorem proved : Rows.CrcTurnedSaid := over
end Go.Proofs.Ytflfgeolimkhgaa.crcTurned
namespace Go.Proofs.Ytflfgeolimkhgaa
theorem crcTurned_holds : Rows.CrcTurnedSaid := crcTurned.proved
#print axioms crcTurned_holds
end Go.Proofs.Ytflfgeolimkhgaa
