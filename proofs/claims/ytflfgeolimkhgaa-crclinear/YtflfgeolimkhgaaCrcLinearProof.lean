/- The sum of the exclusive or of three texts of one length is the exclusive or of their sums: for every three texts (of which as many bytes count as all have, 500 at most); no condition. -/
import Derived.Test.YtflfgeolimkhgaaRows
import Derived.Test.YtflfgeolimkhgaaCrcFixed
import Derived.Test.YtflfgeolimkhgaaCrcRow
import Derived.Deep.RegionHeld3
import Derived.WalkKit
import Derived.ProofKit
import Derived.OpenShut
import Derived.ShutString
import Derived.ChangeOld
import Derived.Below
import Derived.SizedLaws
import Derived.Lib.Strings
namespace Go.Proofs.Ytflfgeolimkhgaa.crcLinear
open Go.ChangeShapes Go.WideShapes Go.ChangeAt Go.RowKit
open Go.ChangeMaps (open_string shut_string)
set_option linter.unusedVariables false

theorem own : ownKnob Try.prog.godebug = none := by kernel_rfl
theorem laidOut : laidOutB Try.prog = true := by kernel_rfl

theorem ret_bool {a b : Bool} (h : a = b) : Ending.returned (.bool a) = .returned (.bool b) := by rw [h]

theorem min4 (x y z : Nat) (w : World) : (Builtin.min_ #[3, 3, 3, 3] 3 #[.int .i64 (x : Int), .int .i64 (y : Int), .int .i64 (z : Int), .int .i64 500]).run Try.prog w
    = .ok (.int .i64 ((min (min (min x y) z) 500 : Nat) : Int)) w := by
  have e : (if (500 : Int) < (if (z : Int) < (if (y : Int) < (x : Int) then (y : Int) else x) then (z : Int) else (if (y : Int) < (x : Int) then (y : Int) else x)) then (500 : Int) else (if (z : Int) < (if (y : Int) < (x : Int) then (y : Int) else x) then (z : Int) else (if (y : Int) < (x : Int) then (y : Int) else x))) = ((min (min (min x y) z) 500 : Nat) : Int) := by
    omega
  rw [← e]
  rfl

/-- What the row holds behind k rounds. -/
def laid (a b c : ByteArray) (k : Nat) : Nat → Nat := fun j => if j < k then byteAt a j ^^^ (byteAt b j ^^^ byteAt c j) else byteAt a j

theorem xb {a b : Nat} (ha : a < 256) (hb : b < 256) : a ^^^ b < 256 := Nat.xor_lt_two_pow (n := 8) ha hb

theorem laid_lt (a b c : ByteArray) (k j : Nat) : laid a b c k j < 256 := by
  unfold laid
  split
  · exact xb (byteAt_lt _ _) (xb (byteAt_lt _ _) (byteAt_lt _ _))
  · exact byteAt_lt _ _

theorem laid_step {w : World} {B n k : Nat} {a b c : ByteArray} (h : RowIs w B n (laid a b c k)) (hk : k < n) (v : Nat) (hv : v = byteAt a k ^^^ (byteAt b k ^^^ byteAt c k)) :
    RowIs (w.setCell ⟨B, k, none⟩ (.int .u8 ((v : Nat) : Int))) B n (laid a b c (k + 1)) := by
  refine (h.set hk v).congr fun j hj => ?_
  unfold laid
  by_cases e : j = k
  · subst e; rw [if_pos rfl, if_pos (by omega), hv]
  · rw [if_neg e]
    by_cases g : j < k
    · rw [if_pos g, if_pos (by omega)]
    · rw [if_neg g, if_neg (by omega)]

theorem laid_end (a b c : ByteArray) (N : Nat) (ha : N ≤ a.size) (hb : N ≤ b.size) (hc : N ≤ c.size) :
    Crc.on 65535 (nats (textOf N (laid a b c N))) = (Crc.on 65535 (nats (a.extract 0 N)) ^^^ Crc.on 65535 (nats (b.extract 0 N))) ^^^ Crc.on 65535 (nats (c.extract 0 N)) := by
  rw [nats_textOf _ _ (fun j _ => laid_lt a b c N j), nats_head a N ha, nats_head b N hb, nats_head c N hc, ← Crc.on_xor3 (by decide) (byteAt_lt a) (byteAt_lt b) (byteAt_lt c)]
  congr 1
  apply Crc.row_congr
  intro j hj
  unfold laid
  rw [if_pos hj]

theorem made (a : ByteArray) (N : Nat) (h : N ≤ a.size) (w : World) : ∃ B cap W1,
    (convert 9 32 (.string (a.extract 0 N))).run Try.prog w = .ok (.slice (some ⟨B, 0, none⟩) N cap) W1 ∧ RowIs W1 B N (byteAt a) ∧ Below w.heap.size w W1 ∧ w.heap.size ≤ B := by
  have e : (a.extract 0 N).size = N := by rw [ByteArray.size_extract]; omega
  have r := row_of w (a.extract 0 N)
  have c := conv_row w (a.extract 0 N)
  rw [e] at r c
  refine ⟨_, _, _, c, r.congr fun j hj => ?_, row_below w _, Nat.le_refl _⟩
  rw [byteAt_in _ j (by omega), byteAt_in a j (by omega)]
  congr 1
  rw [ByteArray.getElem_extract]
  simp

theorem hold {w x : World} {B n cap : Nat} {f : Nat → Nat} (h : RowIs x B n f) (hb : Below w.heap.size w x) :
    RowIs x B n f ∧ Below w.heap.size w x ∧ (convert 32 9 (.slice (some ⟨B, 0, none⟩) n cap)).run Try.prog x = .ok (.string (textOf n f)) x := ⟨h, hb, conv_back h cap⟩

theorem hold_on {w x y : World} {B n cap : Nat} {f : Nat → Nat} (h : RowIs x B n f ∧ Below w.heap.size w x ∧ (convert 32 9 (.slice (some ⟨B, 0, none⟩) n cap)).run Try.prog x = .ok (.string (textOf n f)) x) (hb : Below x.heap.size x y) :
    RowIs y B n f ∧ Below w.heap.size w y ∧ (convert 32 9 (.slice (some ⟨B, 0, none⟩) n cap)).run Try.prog y = .ok (.string (textOf n f)) y :=
  hold (h.1.below hb) (h.2.1.trans (hb.mono h.2.1.size))

set_option maxHeartbeats 4000000 in
set_option maxRecDepth 100000 in
theorem walk (a0 : ByteArray) (a1 : ByteArray) (a2 : ByteArray) (w : World) (w0 : a0.size ≤ maxLen) (w1 : a1.size ≤ maxLen) (w2 : a2.size ≤ maxLen) (z0 : a0.size ≤ 140737488351232) (z1 : a1.size ≤ 140737488351232) (z2 : a2.size ≤ 140737488351232) :
    Calls Try.prog 7 #[.string a0, .string a1, .string a2] w fun e w' => e = .returned (.bool true) ∧ Below w.heap.size w w' := by
  obtain ⟨N, hN⟩ : ∃ N, N = min (min (min a0.size a1.size) a2.size) 500 := ⟨_, rfl⟩
  have hmin := min4 a0.size a1.size a2.size
  rw [← hN] at hmin
  have n0 : N ≤ a0.size := by omega
  have n1 : N ≤ a1.size := by omega
  have n2 : N ≤ a2.size := by omega
  have n5 : N ≤ 500 := by omega
  clear hN
  obtain ⟨B, cap, W1, hcv, hrow, hbel, hB⟩ := made a0 N n0 w
  go_enter Try.func7, Try.ntmps7
  go_wp2
  go_loopw [9] (fun i wr => ∃ k : Nat, k ≤ N ∧ i = .int .i64 k ∧ RowIs wr B N (laid a0 a1 a2 k) ∧ Below w.heap.size w wr) (fun i _ => N - (intOf i).toNat)
  case atStart => exact ⟨0, Nat.zero_le _, rfl, hrow.congr fun j hj => by unfold laid; rw [if_neg (by omega)], hbel⟩
  case round =>
    clear hrow hbel hcv hmin
    obtain ⟨k, hk, rfl, hrow, hbel⟩ := hrel
    by_cases h : k < N
    · have hc := hrow.cell k h
      have hf := hrow.free k h
      have k1 : k < a1.size := by omega
      have k2 : k < a2.size := by omega
      have hl : laid a0 a1 a2 k k = byteAt a0 k := by unfold laid; rw [if_neg (by omega)]
      rw [hl] at hc
      have hx1 := u8_xor_nat a1[k].toNat a2[k].toNat a1[k].toNat_lt a2[k].toNat_lt
      have hx2 := u8_xor_nat (byteAt a0 k) (a1[k].toNat ^^^ a2[k].toNat) (byteAt_lt _ _) (xb a1[k].toNat_lt a2[k].toNat_lt)
      have R := hide (laid_step hrow h (byteAt a0 k ^^^ (a1[k].toNat ^^^ a2[k].toNat)) (by rw [byteAt_in a1 k k1, byteAt_in a2 k k2]))
      have BL := hide hbel
      clear hrow hbel hl
      go_wp2
      go_region
      go_wp2
      go_roundw
      case rel => exact ⟨k + 1, by omega, by go_num, R.out.drew, (BL.out.setCell (p := ⟨B, k, none⟩) hB _).drew⟩
      case measure => simp [intOf]; omega
    · have hkN : k = N := by omega
      subst hkN
      have hz0 : (a0.extract 0 k).size ≤ maxLen := by unfold maxLen; rw [ByteArray.size_extract]; omega
      have hz1 : (a1.extract 0 k).size ≤ maxLen := by unfold maxLen; rw [ByteArray.size_extract]; omega
      have hz2 : (a2.extract 0 k).size ≤ maxLen := by unfold maxLen; rw [ByteArray.size_extract]; omega
      have hzt : (textOf k (laid a0 a1 a2 k)).size ≤ maxLen := by unfold maxLen; rw [textOf_size]; omega
      have l0 := Crc.on_lt (n := 65535) (by decide) (nats_small (a0.extract 0 k))
      have l1 := Crc.on_lt (n := 65535) (by decide) (nats_small (a1.extract 0 k))
      have l2 := Crc.on_lt (n := 65535) (by decide) (nats_small (a2.extract 0 k))
      have x1 := u16_xor_nat _ _ l0 l1
      have x2 := u16_xor_nat _ _ (Crc.xor_lt l0 l1) l2
      have E := hide (laid_end a0 a1 a2 k n0 n1 n2)
      go_wp2
      go_region_held3 (fun x => RowIs x B k (laid a0 a1 a2 k) ∧ Below w.heap.size w x ∧ (convert 32 9 (.slice (some ⟨B, 0, none⟩) k cap)).run Try.prog x = .ok (.string (textOf k (laid a0 a1 a2 k))) x) (first | exact hold hrow.drew hbel.drew | assumption | exact hold_on (by assumption) (by assumption)) (first | (go_at_call 9; refine (fixed_any _).mono ?_; rintro e wf ⟨rfl, bf⟩) | (go_at_call 12; refine (sum_any _ (by assumption) _).mono ?_; rintro e w' ⟨rfl, rfl⟩))
      have HS : RowIs w' B k (laid a0 a1 a2 k) ∧ Below w.heap.size w w' ∧ (convert 32 9 (.slice (some ⟨B, 0, none⟩) k cap)).run Try.prog w' = .ok (.string (textOf k (laid a0 a1 a2 k))) w' := by assumption
      have hbw := HS.2.1
      go_wp2
      go_ret
      exact ⟨ret_bool (by rw [E.out]; exact beq_self_eq_true _), hbw⟩

set_option maxRecDepth 100000 in
theorem lifted (os : Os) (started : os.Started) (H : Type) (enc : TypeId × Value → H) :
    ReturnsInHanded {} Try.checked os 7 .any (Rows.crcLinearSpec.pre6 enc Try.prog Try.f7 Rows.crcLinearRow.domain false) (Rows.crcLinearSpec.post enc Try.prog Try.f7 false true false false) := by
  refine returnsInHanded_of_change_sized (C := Try.checked) own started (by kernel_rfl) Try.func7
    (ChangeSpec.witness6 (enc := enc) (C := Try.checked) false ⟨#[], #[.string ByteArray.empty, .string ByteArray.empty, .string ByteArray.empty], []⟩ 8 (by kernel_rfl) (by kernel_rfl) (by kernel_rfl) (by kernel_rfl)) ?_
  intro W base args ds gs before hval0 hW hcnd hsz0 _
  have hval : ∀ (j : Nat) t v, Try.f7.params[j]? = some t → args[j]? = some v → Value.okWide Try.prog W .any base t v := hval0
  have hW' := hW
  obtain ⟨p, q, hA0, hV, rfl, hfz, hnd⟩ := hW
  have hA : DataW.TrodAll enc Try.prog W 0 (fun _ => true) true Try.f7.params.toList args.toList ds p := hA0
  have hsz : (DataW.weightsEach Try.prog (Try.f7.params.toList ++ Rows.crcLinearSpec.plain.varTypes Try.prog) (ds ++ gs)).all (· ≤ reachBytes) = true := hsz0
  rw [Try.params7] at hA hval hsz
  obtain ⟨v0, vs0, d0, ds0, p0, q0, hargs, rfl, rfl, h0, r0⟩ := trodAll_cons hA
  obtain ⟨v1, vs1, d1, ds1, p1, q1, rfl, rfl, rfl, h1, r1⟩ := trodAll_cons r0
  obtain ⟨v2, vs2, d2, ds2, p2, q2, rfl, rfl, rfl, h2, r2⟩ := trodAll_cons r1
  obtain ⟨rfl, rfl, rfl⟩ := trodAll_nil r2
  obtain rfl : args = #[v0, v1, v2] := by cases args; simp_all
  obtain ⟨rfl, rfl⟩ := trodVars_none hV
  obtain ⟨a0, rfl, rfl, rfl, w0⟩ := open_string Try.underlying9 (hval 0 9 v0 rfl rfl) h0
  obtain ⟨a1, rfl, rfl, rfl, w1⟩ := open_string Try.underlying9 (hval 1 9 v1 rfl rfl) h1
  obtain ⟨a2, rfl, rfl, rfl, w2⟩ := open_string Try.underlying9 (hval 2 9 v2 rfl rfl) h2
  have z0 : a0.size ≤ 140737488351232 := by
    have := sized_string hsz (j := 0) (t := 9) rfl rfl
    simp only [reachBytes] at this
    rw [Lib.size_eq]
    exact this
  have z1 : a1.size ≤ 140737488351232 := by
    have := sized_string hsz (j := 1) (t := 9) rfl rfl
    simp only [reachBytes] at this
    rw [Lib.size_eq]
    exact this
  have z2 : a2.size ≤ 140737488351232 := by
    have := sized_string hsz (j := 2) (t := 9) rfl rfl
    simp only [reachBytes] at this
    rw [Lib.size_eq]
    exact this
  clear hA0 hval0
  refine (walk a0 a1 a2 W w0 w1 w2 z0 z1 z2).mono fun e W' ⟨he, bel⟩ => ?_
  subst he
  exact ⟨_, rfl, _, _, _, [], _, [], hW', trodAll_mk1 (shut_bool Try.underlying4 _), (trodAll_cons_mk (shut_string Try.underlying9 w0) (trodAll_cons_mk (shut_string Try.underlying9 w1) (trodAll_cons_mk (shut_string Try.underlying9 w2) trodAll_mk0))), rfl, bel.frame _, fun h => by cases h⟩

theorem over : Rows.crcLinearRow.holds Try.pinned (OpenSpec.ofChange Rows.crcLinearSpec) :=
  OpenClaim.holds_of_wide 7 Try.f7 rfl rfl rfl rfl rfl rfl rfl ⟨rfl, rfl, rfl, rfl, rfl⟩ rfl rfl rfl rfl rfl (by kernel_rfl) Try.func7 (by kernel_rfl)
    (of_decide_eq_true (by kernel_rfl)) (by unfold Func.isWrapper; first | (rw [if_pos (by decide +kernel)]; kernel_rfl) | (rw [if_neg (by decide +kernel)]; exact ⟨rfl, rfl⟩))
    (fun os started H enc _ => lifted os started H enc)

theorem proved : Rows.CrcLinearSaid := over
end Go.Proofs.Ytflfgeolimkhgaa.crcLinear
namespace Go.Proofs.Ytflfgeolimkhgaa
theorem crcLinear_holds : Rows.CrcLinearSaid := crcLinear.proved
#print axioms crcLinear_holds
end Go.Proofs.Ytflfgeolimkhgaa
