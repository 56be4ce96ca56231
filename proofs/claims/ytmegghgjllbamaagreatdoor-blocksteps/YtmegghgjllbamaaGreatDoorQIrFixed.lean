/- Layer 14: the law's fixed calls. -/
import Derived.Test.YtmegghgjllbamaaGreatDoorQIrSame
namespace Go.Proofs.YtmegghgjllbamaaGreatDoor.Ir
open Go.RowKit
set_option linter.unusedVariables false
set_option maxRecDepth 100000
set_option linter.unusedSimpArgs false

theorem dec_of {x : Int} (hx : Cp.W32 x) (op : Nat) (ho : op < 69) (hi : De.Dec.is x.toNat op = true) :
    decV x = ⟨(op : Int), (De.Dec.ds op x.toNat : Nat), (De.Dec.dt op x.toNat : Nat), (De.Dec.dd op x.toNat : Nat), (De.Dec.da op x.toNat : Nat), De.Dec.di op x.toNat, 0⟩ := by
  have h := De.told_of ho hi (decV_told x hx)
  generalize decV x = I at *
  obtain ⟨o, s, t, d, a, i, e⟩ := I
  simp only at h
  obtain ⟨rfl, rfl, rfl, rfl, rfl, rfl, rfl⟩ := h
  rfl

def fx1 : Mi := ⟨3, 1, 0, 32, 5, 1⟩
def fx2 : Mi := ⟨11, 2, 1, 32, 3, 2⟩

theorem fixed_dec1 : decV 604045317 = ⟨46, 0, 1, 0, 0, 5, 0⟩ := (dec_of ⟨by decide, by decide⟩ 46 (by decide) (by decide +kernel)).trans (by kernel_rfl)
theorem fixed_dec2 : decV 69824 = ⟨0, 0, 1, 2, 3, 0, 0⟩ := (dec_of ⟨by decide, by decide⟩ 0 (by decide) (by decide +kernel)).trans (by kernel_rfl)
theorem fixed_dec3 : (decV 2409889808).o = 61 := by rw [dec_of ⟨by decide, by decide⟩ 61 (by decide) (by decide +kernel)]; rfl

theorem fixed_trans : transV [604045317, 69824, 2409889808] = [fx1, fx2] := by
  have h3 : plB (decV 2409889808) = false := by unfold plB; rw [fixed_dec3]; simp [isPl]
  show transF 0 [604045317, 69824, 2409889808] = _
  simp only [transF, fixed_dec1, fixed_dec2, h3]
  decide +kernel

theorem fixed_may : mayB [fx1, fx2] = true := by decide +kernel
theorem fixed_may2 : mayB [⟨2, 0, 0, 0, 0, 0⟩] = false := by decide +kernel

theorem words_ops : WordsM [fx1, fx2] := fun i m h => by
  match i, h with
  | 0, h => obtain rfl : fx1 = m := by simpa using h
            exact ⟨by decide, by decide⟩
  | 1, h => obtain rfl : fx2 = m := by simpa using h
            exact ⟨by decide, by decide⟩
  | i + 2, h => simp at h

/-- A row of three words that is made. -/
theorem words_new (W : World) (a b c : Int) (ha : Cp.W32 a) (hb : Cp.W32 b) (hc : Cp.W32 c) : IsWords (W.alloc (.cells #[.int .u32 a, .int .u32 b, .int .u32 c] 23)) (.slice (some ⟨W.heap.size, 0, none⟩) 3 3) [a, b, c] := by
  have x := Box.new W #[.int .u32 a, .int .u32 b, .int .u32 c] 23
  refine Or.inr ⟨_, _, _, rfl, Nat.le_refl _, by unfold maxLen; omega, x.2.2, fun i z h => ?_⟩
  rw [Nat.zero_add, x.cell]
  match i, h with
  | 0, h => obtain rfl : a = z := by simpa using h
            exact ⟨ha, rfl⟩
  | 1, h => obtain rfl : b = z := by simpa using h
            exact ⟨hb, rfl⟩
  | 2, h => obtain rfl : c = z := by simpa using h
            exact ⟨hc, rfl⟩
  | i + 3, h => simp at h

/-- A row of operations that is made. -/
theorem ops_new (W : World) (l : List Mi) (hl : l.length ≤ 16) (c : Array Value) (hc : c.toList = flat l) (n : Nat) (hn : n = l.length) : IsOps (W.alloc (.cells c 66)) (.slice (some ⟨W.heap.size, 0, none⟩) n n) l := by
  subst hn
  have x := Box.new W c 66
  refine Or.inr ⟨_, _, _, rfl, by unfold maxLen; omega, x.2.2, fun i m h j hj => ?_⟩
  rw [x.cell, ← flat_at l i m h j hj, ← hc, Nat.zero_add]
  simp

set_option maxHeartbeats 4000000 in
theorem fixed_any (w : World) (tb : De.Tabs w) : Calls Tryz.prog 11 #[] w fun e w' => e = .returned (.bool true) ∧ Below w.heap.size w w' := by
  obtain ⟨r1, r2, r3, r4, r5, r6, r7, r8, r9⟩ := rowRules
  obtain ⟨s1, s2, s3, s4, s5, s6, s7, s8, s9, s10⟩ := irSizes
  obtain ⟨q1, q2, q3, q4, q5, q6⟩ := irWhole
  clear s1 s2 s5 s7 q1 q2 q3
  have hw := words_new w 604045317 69824 2409889808 ⟨by decide, by decide⟩ ⟨by decide, by decide⟩ ⟨by decide, by decide⟩
  have g0 := grow w (.cells #[.int .u32 604045317, .int .u32 69824, .int .u32 2409889808] 23)
  have ct := hide (translate_any hw (tb.on g0))
  rw [fixed_trans] at ct
  replace g0 := hide g0
  clear hw
  go_enter Tryz.func11, Tryz.ntmps11
  go_wp2_with fail
  refine ct.out.mono ?_
  rintro e w1 ⟨⟨v, rfl, ho⟩, h1⟩
  have b1 := hide (onto g0.out (Nat.le_refl _) h1)
  have o1 := ops_of_own ho
  clear ct g0 ho h1
  have X0w : ∀ k, Cp.W32 (X0 k) := fun _ => Cp.w0
  have cr := hide (run_any o1 words_ops X0 X0w)
  obtain ⟨F1, e1⟩ : ∃ F, untilV 9223372036854775807 [fx1, fx2] (putR X0 0 0) = F := ⟨_, rfl⟩
  obtain ⟨F2, e2⟩ : ∃ F, untilV 1 [fx1, fx2] (putR X0 0 0) = F := ⟨_, rfl⟩
  have f11 : F1 1 = 5 := by rw [← e1]; decide +kernel
  have f12 : F1 2 = 40 := by rw [← e1]; decide +kernel
  have f21 : F2 1 = 5 := by rw [← e2]; decide +kernel
  have f22 : F2 2 = 0 := by rw [← e2]; decide +kernel
  rw [e1] at cr
  clear e1
  replace o1 := hide o1
  replace e2 := hide e2
  replace X0w := hide X0w
  go_wp2_with fail
  refine cr.out.mono ?_
  rintro e w2 ⟨rfl, h2⟩
  have g3 := grow w2 (.cells (cellsX F1) 24)
  have x3 := Box.new w2 (cellsX F1) 24
  have o3 := (o1.out.on h2).on g3
  have b3 := onto (onto b1.out (Nat.le_refl _) h2) (Nat.le_refl _) g3
  have cu := until_any o3 words_ops X0 X0w.out 1
  rw [e2.out] at cu
  replace x3 := hide x3
  replace o3 := hide o3
  replace b3 := hide b3
  replace cu := hide cu
  clear cr o1 b1 h2 g3 e2 X0w
  go_wp2_with fail
  generalize w2.heap.size = L1 at *
  generalize World.alloc w2 _ = W3 at *
  refine cu.out.mono ?_
  rintro e w4 ⟨rfl, h4⟩
  have g5 := grow w4 (.cells (cellsX F2) 24)
  have x5 := Box.new w4 (cellsX F2) 24
  have y5 := (x3.out.on h4).on g5
  have o5 := (o3.out.on h4).on g5
  have b5 := onto (onto b3.out (Nat.le_refl _) h4) (Nat.le_refl _) g5
  clear cu x3 o3 b3 h4 g5
  generalize hL2 : w4.heap.size = L2 at *
  generalize hW5 : World.alloc w4 _ = W5 at *
  have hL5 : W5.heap.size = L2 + 1 := by rw [← hW5, World.size_alloc, hL2]
  have g6 := grow W5 (.cells #[.int .i64 3, .int .i64 1, .int .i64 0, .int .i64 32, .int .u32 5, .int .i64 1, .int .i64 11, .int .i64 2, .int .i64 1, .int .i64 32, .int .u32 3, .int .i64 2] 66)
  have o6 := ops_new W5 [fx1, fx2] (by decide) #[.int .i64 3, .int .i64 1, .int .i64 0, .int .i64 32, .int .u32 5, .int .i64 1, .int .i64 11, .int .i64 2, .int .i64 1, .int .i64 32, .int .u32 3, .int .i64 2] rfl 2 rfl
  have cs := hide (rsame_any (o5.on g6) o6)
  rw [show decide ([fx1, fx2] = [fx1, fx2]) = true by simp] at cs
  have x6 := hide (x5.on g6)
  have y6 := hide (y5.on g6)
  replace o5 := hide (o5.on g6)
  replace b5 := hide (onto b5 (Nat.le_refl _) g6)
  rw [hL5] at cs
  clear g6 o6 x5 y5
  subst hW5
  subst hL2
  replace hL5 := hide hL5
  go_wp2_with fail
  refine cs.out.mono ?_
  rintro e W7 ⟨rfl, h7⟩
  have x7 := x6.out.on h7
  have y7 := y6.out.on h7
  have o7 := o5.out.on h7
  have b7 := onto b5.out (Nat.le_refl _) h7
  have z1 := (y7.cell 1).trans (get_X F1 1 (by omega))
  have z2 := (y7.cell 2).trans (get_X F1 2 (by omega))
  have z3 := (x7.cell 1).trans (get_X F2 1 (by omega))
  have z4 := (x7.cell 2).trans (get_X F2 2 (by omega))
  rw [f11] at z1
  rw [f12] at z2
  rw [f21] at z3
  rw [f22] at z4
  have cm := hide (may_any o7)
  rw [fixed_may] at cm
  replace b7 := hide b7
  clear cs x6 y6 o5 b5 h7 x7 y7 o7 f11 f12 f21 f22
  go_wp2_with fail
  refine cm.out.mono ?_
  rintro e W8 ⟨rfl, h8⟩
  have b8 := onto b7.out (Nat.le_refl _) h8
  have g9 := grow W8 (.cells #[.int .i64 2, .int .i64 0, .int .i64 0, .int .i64 0, .int .u32 0, .int .i64 0] 66)
  have cm2 := hide (may_any (ops_new W8 [⟨2, 0, 0, 0, 0, 0⟩] (by decide) #[.int .i64 2, .int .i64 0, .int .i64 0, .int .i64 0, .int .u32 0, .int .i64 0] rfl 1 rfl))
  rw [fixed_may2] at cm2
  have b9 := hide (onto b8 (Nat.le_refl _) g9)
  clear cm b7 h8 g9 b8 z1 z2 z3 z4
  go_wp2_with fail
  refine cm2.out.mono ?_
  rintro e W9 ⟨rfl, h9⟩
  have bb := onto b9.out (Nat.le_refl _) h9
  clear cm2 b9 h9
  go_wp2
  go_ret
  exact ⟨rfl, bb⟩

end Go.Proofs.YtmegghgjllbamaaGreatDoor.Ir
