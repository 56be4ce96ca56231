/- Which instruction a text is, or that it is none, is as the document says (texts of at most 1048576 bytes). -/
import Derived.Test.YtahbbhgoacbejaaGreatDoorAsmParW
set_option linter.unusedVariables false
set_option linter.unusedSimpArgs false
namespace Go.Proofs.YtahbbhgoacbejaaGreatDoor
open Go.RowKit Go.Shelf Go.Joins

set_option maxHeartbeats 2000000 in
theorem parses_walk (s : ByteArray) (hs : s.size ≤ 1048576) (w : World) (L : Lay5 w) :
    Calls Tryz.prog 4 #[.string s] w fun e w' => e = .returned (.bool true) ∧ Below w.heap.size w w' := by
  obtain ⟨o, a0, a1, a2, a3, a4, e, hg, hp⟩ := parse_any s (by omega)
  have hN := fun w => eql24 o a0 a1 a2 a3 a4 o a0 a1 a2 a3 a4 w
  rw [show same6 o a0 a1 a2 a3 a4 o a0 a1 a2 a3 a4 = true from same6_iff.mpr ⟨rfl, rfl, rfl, rfl, rfl, rfl⟩] at hN
  have hq2 : (e == e) = true := by simp
  replace hg := hide hg
  go_enter Tryz.func4, Tryz.ntmps4
  go_wp2_with fail
  refine (hp _ L).mono ?_
  rintro e1 w1 ⟨rfl, h1⟩
  have g2 := grow w1 (.cells #[.int .i64 o, .int .i64 a0, .int .i64 a1, .int .i64 a2, .int .i64 a3, .int .i64 a4] 23)
  have c2 := cell6 w1 23 (.int .i64 o) (.int .i64 a0) (.int .i64 a1) (.int .i64 a2) (.int .i64 a3) (.int .i64 a4)
  have b2 := onto h1 g2
  have L2 := L.on b2
  clear hp h1 g2
  go_wp2_with fail
  generalize (w1.alloc (.cells #[.int .i64 o, .int .i64 a0, .int .i64 a1, .int .i64 a2, .int .i64 a3, .int .i64 a4] 23)) = w2 at *
  refine (rparse_any s hs _).mono ?_
  rintro e1 w3 ⟨⟨o', a0', a1', a2', a3', a4', e', hg', rfl⟩, h3⟩
  have hone := Asm.Got.one hg.out hg'
  obtain ⟨rfl, rfl, rfl, rfl, rfl, rfl, rfl⟩ := hone
  clear hg hg'
  have g4 := grow w3 (.cells #[.int .i64 o, .int .i64 a0, .int .i64 a1, .int .i64 a2, .int .i64 a3, .int .i64 a4] 23)
  have c4 := cell6 w3 23 (.int .i64 o) (.int .i64 a0) (.int .i64 a1) (.int .i64 a2) (.int .i64 a3) (.int .i64 a4)
  have c3 := (c2.on h3).on g4
  have b4 := onto (onto b2 h3) g4
  have L4 := (L2.on h3).on g4
  clear c2 b2 L2 h3 g4
  go_wp2_with fail
  generalize (w3.alloc (.cells #[.int .i64 o, .int .i64 a0, .int .i64 a1, .int .i64 a2, .int .i64 a3, .int .i64 a4] 23)) = w4 at *
  refine (facts5 _ L4).mono ?_
  rintro e1 w5 ⟨rfl, h5⟩
  obtain ⟨k0, k1, k2, k3, k4, k5⟩ := c3.on h5
  obtain ⟨m0, m1, m2, m3, m4, m5⟩ := c4.on h5
  go_wp2_with fail
  go_ret
  exact ⟨rfl, onto b4 h5⟩

end Go.Proofs.YtahbbhgoacbejaaGreatDoor
