/- The bytes of any state, and the state of any bytes, are as the document says; what is laid is parsed as it was. -/
import Derived.Test.YthjcijlabpinkaaGreatDoorPCuFx
import Derived.Test.YthjcijlabpinkaaGreatDoorPCuRTx
import Derived.Test.YthjcijlabpinkaaGreatDoorPCuOpens
namespace Go.Proofs.YthjcijlabpinkaaGreatDoor
open Go.RowKit
set_option linter.unusedVariables false
set_option maxRecDepth 100000
set_option linter.unusedSimpArgs false

theorem parse_bothC (s : ByteArray) (hm : s.size ≤ maxLen) : ∃ (P : Cs) (E : Int),
    (∀ w, Calls Tryz.prog 29 #[.string s] w fun e w' => e = .returned (.tuple #[.agg (cellsC P), .int .i64 E]) ∧ Below w.heap.size w w') ∧
    (∀ w, Calls Tryz.prog 30 #[.string s] w fun e w' => e = .returned (.tuple #[.agg (cellsC P), .int .i64 E]) ∧ Below w.heap.size w w') := by
  by_cases hs : s.size = 252
  · by_cases h : (okP s 63 && numS s 12 == 0) = true
    · refine ⟨csOf s, 0, fun w => ?_, fun w => ?_⟩
      · have := parse_sizedC hs w
        rwa [if_pos h] at this
      · have := rparse_sizedC hs w
        rwa [if_pos h] at this
    · refine ⟨CZ, 130, fun w => ?_, fun w => ?_⟩
      · have := parse_sizedC hs w
        rwa [if_neg h] at this
      · have := rparse_sizedC hs w
        rwa [if_neg h] at this
  · exact ⟨CZ, 130, fun w => parse_longC hs hm w, fun w => rparse_longC hs hm w⟩

theorem Wc.zero {c : Cs} (h : Wc c) : Wc { c with R := putR c.R 0 0 } := by
  refine ⟨h.pc, h.nx, fun k => ?_, h.hi, h.lo, h.C, h.T⟩
  show Cp.W32 (if k = 0 then 0 else c.R k)
  split
  · exact ⟨by decide, by decide⟩
  · exact h.R k

theorem parse_own {c : Cs} (hc : Wc c) (hz : c.R 0 = 0) (w : World) :
    Calls Tryz.prog 29 #[.string (textC c)] w fun e w' => e = .returned (.tuple #[.agg (cellsC c), .int .i64 0]) ∧ Below w.heap.size w w' := by
  have := parse_sizedC (textC_size c) w
  rw [okP_text hc, num_R0 hc, csOf_textC hc, hz] at this
  rwa [show (true && (0 : Int) == 0) = true from rfl, if_pos rfl] at this

set_option maxHeartbeats 4000000 in
set_option maxRecDepth 100000 in
theorem texts_walk (w : World) (c : Cs) (hc : Wc c) (s : ByteArray) (hs : s.size ≤ maxLen) (tb : De.Tabs w) :
    Calls Tryz.prog 6 #[.agg (cellsC c), .string s] w fun e w' => e = .returned (.bool true) ∧ Below w.heap.size w w' := by
  obtain ⟨z1, z2, z3, z4, z5, z6, z7, z8, z9, z10, z11, z12, z13, z14, z15⟩ := cSizes
  obtain ⟨t1, t2, t3, t4, t5, t6, t7, t8, t9⟩ := rowRules
  obtain ⟨f1, f2, f3, f4, f5, f6, f7, f8, f9⟩ := cWhole
  obtain ⟨P, E, cp1, cp2⟩ := parse_bothC s hs
  replace cp1 := hide cp1
  replace cp2 := hide cp2
  have hd := hc.zero
  obtain ⟨d, hD⟩ : ∃ d, { c with R := putR c.R 0 0 } = d := ⟨_, rfl⟩
  have hset : (cellsC c).setIfInBounds 3 (.int .u32 0) = cellsC d := by rw [← hD]; rfl
  have hz : d.R 0 = 0 := by rw [← hD]; rfl
  have h3 : ∃ v, (cellsC c)[3]? = some (.int .u32 v) := ⟨_, rfl⟩
  obtain ⟨v3, h3⟩ := h3
  rw [hD] at hd
  have tx := hide (fun x h => text_anyC hd (cb := w.heap.size) x h)
  have tr := hide (fun x h => rtextC_any hd (b := w.heap.size) x h)
  have po := hide (parse_own hd hz)
  generalize textC d = TX at *
  have eP := fun w => eqlC P w
  have eD := fun w => eqlC d w
  have B0 := hide (grow w (.cells (cellsC d) 31))
  have X0 := hide (Box.new w (cellsC d) 31)
  have tb0 := hide (tb.on B0.out)
  clear hs hD tb hc hd hz
  go_enter Tryz.func6, Tryz.ntmps6
  go_wp2_with fail
  generalize w.alloc (.cells (cellsC d) 31) = x0 at *
  refine (cp1.out _).mono ?_
  rintro e x1 ⟨rfl, b1⟩
  replace X0 := hide (X0.out.on b1)
  replace tb0 := hide (tb0.out.on b1)
  replace B0 := hide (onto B0.out (Nat.le_refl _) b1)
  clear b1 cp1
  go_wp2_with fail
  have g1 := grow x1 (.cells (cellsC P) 31)
  have XA := hide (Box.new x1 (cellsC P) 31)
  replace X0 := hide (X0.out.on g1)
  replace tb0 := hide (tb0.out.on g1)
  replace B0 := hide (onto B0.out (Nat.le_refl _) g1)
  clear g1
  generalize x1.heap.size = LA at *
  generalize x1.alloc (.cells (cellsC P) 31) = x2 at *
  refine (cp2.out _).mono ?_
  rintro e x3 ⟨rfl, b1⟩
  replace X0 := hide (X0.out.on b1)
  replace XA := hide (XA.out.on b1)
  replace tb0 := hide (tb0.out.on b1)
  replace B0 := hide (onto B0.out (Nat.le_refl _) b1)
  clear b1 cp2
  go_wp2_with fail
  have g1 := grow x3 (.cells (cellsC P) 31)
  have XB := hide (Box.new x3 (cellsC P) 31)
  replace X0 := hide (X0.out.on g1)
  replace XA := hide (XA.out.on g1)
  replace tb0 := hide (tb0.out.on g1)
  replace B0 := hide (onto B0.out (Nat.le_refl _) g1)
  clear g1
  generalize x3.heap.size = LB at *
  generalize x3.alloc (.cells (cellsC P) 31) = x4 at *
  refine (tx.out _ X0.out).mono ?_
  rintro e x5 ⟨rfl, b1⟩
  replace X0 := hide (X0.out.on b1)
  replace XA := hide (XA.out.on b1)
  replace XB := hide (XB.out.on b1)
  replace tb0 := hide (tb0.out.on b1)
  replace B0 := hide (onto B0.out (Nat.le_refl _) b1)
  clear b1
  go_wp2_with fail
  refine (po.out _).mono ?_
  rintro e x6 ⟨rfl, b1⟩
  replace X0 := hide (X0.out.on b1)
  replace XA := hide (XA.out.on b1)
  replace XB := hide (XB.out.on b1)
  replace tb0 := hide (tb0.out.on b1)
  replace B0 := hide (onto B0.out (Nat.le_refl _) b1)
  clear b1 po
  go_wp2_with fail
  have g1 := grow x6 (.cells (cellsC d) 31)
  have XD := hide (Box.new x6 (cellsC d) 31)
  replace X0 := hide (X0.out.on g1)
  replace XA := hide (XA.out.on g1)
  replace XB := hide (XB.out.on g1)
  replace tb0 := hide (tb0.out.on g1)
  replace B0 := hide (onto B0.out (Nat.le_refl _) g1)
  clear g1
  generalize x6.heap.size = LD at *
  generalize x6.alloc (.cells (cellsC d) 31) = x7 at *
  refine (fixed13 _ tb0.out).mono ?_
  rintro e x8 ⟨rfl, b1⟩
  replace X0 := hide (X0.out.on b1)
  replace XA := hide (XA.out.on b1)
  replace XB := hide (XB.out.on b1)
  replace XD := hide (XD.out.on b1)
  replace B0 := hide (onto B0.out (Nat.le_refl _) b1)
  clear b1 tb0
  go_wp2_with fail
  refine (tx.out _ X0.out).mono ?_
  rintro e x9 ⟨rfl, b1⟩
  replace X0 := hide (X0.out.on b1)
  replace XA := hide (XA.out.on b1)
  replace XB := hide (XB.out.on b1)
  replace XD := hide (XD.out.on b1)
  replace B0 := hide (onto B0.out (Nat.le_refl _) b1)
  clear b1 tx
  go_wp2_with fail
  refine (tr.out _ X0.out).mono ?_
  rintro e x10 ⟨rfl, b1⟩
  replace X0 := hide (X0.out.on b1)
  replace XA := hide (XA.out.on b1)
  replace XB := hide (XB.out.on b1)
  replace XD := hide (XD.out.on b1)
  replace B0 := hide (onto B0.out (Nat.le_refl _) b1)
  clear b1 tr
  have q1 := X0.out.loads 0 N63 (f3 d) (f6 d)
  have q2 := XA.out.loads 0 N63 (f3 P) (f6 P)
  have q3 := XB.out.loads 0 N63 (f3 P) (f6 P)
  have q4 := XD.out.loads 0 N63 (f3 d) (f6 d)
  go_wp2
  go_ret
  exact ⟨rfl, B0.out⟩

end Go.Proofs.YthjcijlabpinkaaGreatDoor
