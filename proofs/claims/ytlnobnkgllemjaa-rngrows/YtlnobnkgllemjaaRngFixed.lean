/- The calls of layer 3 whose answers the document fixes are answered so. -/
import Derived.Test.YtlnobnkgllemjaaRngWalks8
namespace Go.Proofs.Ytlnobnkgllemjaa
open Go.RowKit
set_option linter.unusedVariables false

theorem seed0 (w : World) : Calls Try.prog 9 #[.int .u32 0] w fun e w' => e = .returned (.agg #[.int .i64 0, .int .i64 0, .int .i64 12345, .int .i64 6789]) ∧ Below w.heap.size w w' := by
  have := seed_any 0 (by omega) w
  rw [show (0 : Int) % 65536 % 65521 = 0 by decide, show (0 : Int) / 65536 % 65521 = 0 by decide] at this
  exact this

theorem next0 (w : World) : Calls Try.prog 11 #[.agg #[.int .i64 0, .int .i64 0, .int .i64 12345, .int .i64 6789]] w fun e w' => e = .returned (.tuple #[.int .u32 444936249, .agg #[.int .i64 12345, .int .i64 6789, .int .i64 12345, .int .i64 6789]]) ∧ Below w.heap.size w w' := by
  have := next_any 0 0 12345 6789 w
  rw [show (0 : Int) % 65521 = 0 by decide, show (12345 : Int) % 65521 = 12345 by decide, show (6789 : Int) % 65521 = 6789 by decide, show Rng.nre 0 0 12345 = 12345 by decide, show Rng.nim 0 0 6789 = 6789 by decide] at this
  exact this

theorem skip0 (w : World) : Calls Try.prog 16 #[.agg #[.int .i64 0, .int .i64 0, .int .i64 12345, .int .i64 6789], .int .i64 1] w fun e w' => e = .returned (.agg #[.int .i64 12345, .int .i64 6789, .int .i64 12345, .int .i64 6789]) ∧ Below w.heap.size w w' := by
  have := skip_any 0 0 12345 6789 1 w
  rw [show (0 : Int) % 65521 = 0 by decide, show (12345 : Int) % 65521 = 12345 by decide, show (6789 : Int) % 65521 = 6789 by decide, show Rng.row 0 0 12345 6789 (min (1 : Int) 1000).toNat = (12345, 6789) by decide] at this
  exact this

theorem stir0 (w : World) : Calls Try.prog 14 #[.agg #[.int .i64 0, .int .i64 0, .int .i64 12345, .int .i64 6789], .int .u32 65537] w fun e w' => e = .returned (.agg #[.int .i64 1, .int .i64 1, .int .i64 12345, .int .i64 6789]) ∧ Below w.heap.size w w' := by
  have := stir_any 0 0 12345 6789 65537 (by omega) w
  rw [show ((0 : Int) % 65521 + 65537 % 65536 % 65521) % 65521 = 1 by decide, show ((0 : Int) % 65521 + 65537 / 65536 % 65521) % 65521 = 1 by decide, show (12345 : Int) % 65521 = 12345 by decide, show (6789 : Int) % 65521 = 6789 by decide] at this
  exact this

/-- Two places in blocks L and R stand behind a call. -/
theorem two_on {L R n : Nat} {w x y : World} {a b c d e f g h : Value}
    (hS : (x.cell? ⟨L, 0, none⟩ = some a ∧ x.cell? ⟨L, 1, none⟩ = some b ∧ x.cell? ⟨L, 2, none⟩ = some c ∧ x.cell? ⟨L, 3, none⟩ = some d) ∧
      (x.cell? ⟨R, 0, none⟩ = some e ∧ x.cell? ⟨R, 1, none⟩ = some f ∧ x.cell? ⟨R, 2, none⟩ = some g ∧ x.cell? ⟨R, 3, none⟩ = some h) ∧ L < x.heap.size ∧ R < x.heap.size ∧ Below n w x) (hn : n ≤ w.heap.size) (hb : Below x.heap.size x y) :
    (y.cell? ⟨L, 0, none⟩ = some a ∧ y.cell? ⟨L, 1, none⟩ = some b ∧ y.cell? ⟨L, 2, none⟩ = some c ∧ y.cell? ⟨L, 3, none⟩ = some d) ∧
      (y.cell? ⟨R, 0, none⟩ = some e ∧ y.cell? ⟨R, 1, none⟩ = some f ∧ y.cell? ⟨R, 2, none⟩ = some g ∧ y.cell? ⟨R, 3, none⟩ = some h) ∧ L < y.heap.size ∧ R < y.heap.size ∧ Below n w y := by
  obtain ⟨⟨h0, h1, h2, h3⟩, ⟨k0, k1, k2, k3⟩, hl, hr, he⟩ := hS
  obtain ⟨hc, hf⟩ := bcell hb
  have hz := hb.size
  have hz2 := he.size
  exact ⟨⟨by rw [hc _ _ hl, h0], by rw [hc _ _ hl, h1], by rw [hc _ _ hl, h2], by rw [hc _ _ hl, h3]⟩, ⟨by rw [hc _ _ hr, k0], by rw [hc _ _ hr, k1], by rw [hc _ _ hr, k2], by rw [hc _ _ hr, k3]⟩, by omega, by omega, he.trans (hb.mono (by omega))⟩

set_option maxHeartbeats 4000000 in
theorem fixed_any (w : World) : Calls Try.prog 13 #[] w fun e w' => e = .returned (.bool true) ∧ Below w.heap.size w w' := by
  go_enter Try.func13, Try.ntmps13
  go_wp2_with fail
  refine (seed0 _).mono ?_
  rintro e w1 ⟨rfl, hb1⟩
  go_wp2_with fail
  refine (next0 _).mono ?_
  rintro e w2 ⟨rfl, hb2⟩
  obtain ⟨hc2, hf2⟩ := bcell hb2
  have z2 : w1.heap.size < w2.heap.size := by have := hb2.size; simp at this; omega
  go_wp2_with fail
  generalize hW : w2.alloc (.cells #[.int .i64 12345, .int .i64 6789, .int .i64 12345, .int .i64 6789] 24) = W
  have hb : Below w.heap.size w W := hW ▸ ((hb1.alloc hb1.size _).trans (hb2.mono (by have := hb1.size; simp; omega))).alloc (by have := hb1.size; omega) _
  have hS : (W.cell? ⟨w1.heap.size, 0, none⟩ = some (.int .i64 0) ∧ W.cell? ⟨w1.heap.size, 1, none⟩ = some (.int .i64 0) ∧ W.cell? ⟨w1.heap.size, 2, none⟩ = some (.int .i64 12345) ∧ W.cell? ⟨w1.heap.size, 3, none⟩ = some (.int .i64 6789)) ∧
      (W.cell? ⟨w2.heap.size, 0, none⟩ = some (.int .i64 12345) ∧ W.cell? ⟨w2.heap.size, 1, none⟩ = some (.int .i64 6789) ∧ W.cell? ⟨w2.heap.size, 2, none⟩ = some (.int .i64 12345) ∧ W.cell? ⟨w2.heap.size, 3, none⟩ = some (.int .i64 6789)) ∧ w1.heap.size < W.heap.size ∧ w2.heap.size < W.heap.size ∧ Below w.heap.size w W := by
    refine ⟨⟨?_, ?_, ?_, ?_⟩, ⟨?_, ?_, ?_, ?_⟩, ?_, ?_, hb⟩ <;> rw [← hW] <;> simp [go_sem, hc2, z2]
  clear hc2 hf2 hW z2 hb1 hb2 hb
  generalize w1.heap.size = L at *
  generalize w2.heap.size = R at *
  go_region_held3 (fun x => (x.cell? ⟨L, 0, none⟩ = some (.int .i64 0) ∧ x.cell? ⟨L, 1, none⟩ = some (.int .i64 0) ∧ x.cell? ⟨L, 2, none⟩ = some (.int .i64 12345) ∧ x.cell? ⟨L, 3, none⟩ = some (.int .i64 6789)) ∧
      (x.cell? ⟨R, 0, none⟩ = some (.int .i64 12345) ∧ x.cell? ⟨R, 1, none⟩ = some (.int .i64 6789) ∧ x.cell? ⟨R, 2, none⟩ = some (.int .i64 12345) ∧ x.cell? ⟨R, 3, none⟩ = some (.int .i64 6789)) ∧ L < x.heap.size ∧ R < x.heap.size ∧ Below w.heap.size w x)
    (first
      | exact ⟨hS.1, hS.2.1, hS.2.2.1, hS.2.2.2.1, hS.2.2.2.2.drew⟩
      | assumption)
    (first
      | (go_at_call 16; refine (skip0 _).mono ?_; rintro e w' ⟨rfl, hn⟩; have hT := two_on (by assumption) (Nat.le_refl _) hn; clear hn)
      | (go_at_call 14; refine (stir0 _).mono ?_; rintro e w' ⟨rfl, hn⟩; have hT := two_on (by assumption) (Nat.le_refl _) hn; clear hn))
  go_wp2
  go_ret
  exact ⟨rfl, hT.2.2.2.2⟩

end Go.Proofs.Ytlnobnkgllemjaa
