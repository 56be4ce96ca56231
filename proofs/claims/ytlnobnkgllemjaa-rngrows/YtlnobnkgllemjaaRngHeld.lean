/- What stands behind a call that makes memory: all old cells. -/
import Derived.Test.YtlnobnkgllemjaaRngFixed
import Derived.Test.YtlnobnkgllemjaaRngOpen
namespace Go.Proofs.Ytlnobnkgllemjaa
open Go.RowKit
set_option linter.unusedVariables false

theorem since_refl (W : World) : (∀ b o, b < W.heap.size → W.drew.cell? ⟨b, o, none⟩ = W.cell? ⟨b, o, none⟩) ∧ Below W.heap.size W W.drew :=
  ⟨fun _ _ _ => rfl, (Below.refl _ W).drew⟩

theorem since_on {W x y : World} (h : (∀ b o, b < W.heap.size → x.cell? ⟨b, o, none⟩ = W.cell? ⟨b, o, none⟩) ∧ Below W.heap.size W x) (hb : Below x.heap.size x y) :
    (∀ b o, b < W.heap.size → y.cell? ⟨b, o, none⟩ = W.cell? ⟨b, o, none⟩) ∧ Below W.heap.size W y := by
  have hz := h.2.size
  obtain ⟨hc, hf⟩ := bcell hb
  exact ⟨fun b o hb' => by rw [hc b o (by omega), h.1 b o hb'], h.2.trans (hb.mono hz)⟩

/-- What a place is when it is skipped along, by the program and by the document. -/
theorem skip_both (a b c d m : Int) : ∃ p q u v : Int,
    (∀ w, Calls Try.prog 16 #[.agg #[.int .i64 a, .int .i64 b, .int .i64 c, .int .i64 d], .int .i64 m] w fun e w' => e = .returned (.agg #[.int .i64 p, .int .i64 q, .int .i64 u, .int .i64 v]) ∧ Below w.heap.size w w') ∧
    (∀ w, Calls Try.prog 17 #[.agg #[.int .i64 a, .int .i64 b, .int .i64 c, .int .i64 d], .int .i64 m] w fun e w' => e = .returned (.agg #[.int .i64 p, .int .i64 q, .int .i64 u, .int .i64 v]) ∧ Below w.heap.size w w') :=
  ⟨_, _, _, _, fun w => skip_any a b c d m w, fun w => rskip_any a b c d m w⟩

/-- The next word and place, by the program and by the document. -/
theorem next_both (a b c d : Int) : ∃ g p q u v : Int,
    (∀ w, Calls Try.prog 11 #[.agg #[.int .i64 a, .int .i64 b, .int .i64 c, .int .i64 d]] w fun e w' => e = .returned (.tuple #[.int .u32 g, .agg #[.int .i64 p, .int .i64 q, .int .i64 u, .int .i64 v]]) ∧ Below w.heap.size w w') ∧
    (∀ w, Calls Try.prog 12 #[.agg #[.int .i64 a, .int .i64 b, .int .i64 c, .int .i64 d]] w fun e w' => e = .returned (.tuple #[.int .u32 g, .agg #[.int .i64 p, .int .i64 q, .int .i64 u, .int .i64 v]]) ∧ Below w.heap.size w w') :=
  ⟨_, _, _, _, _, fun w => next_any a b c d w, fun w => rnext_any a b c d w⟩

/-- What a place is with a word stirred in, by the program and by the document. -/
theorem stir_both (a b c d n : Int) (hn : 0 ≤ n ∧ n ≤ 4294967295) : ∃ p q u v : Int,
    (∀ w, Calls Try.prog 14 #[.agg #[.int .i64 a, .int .i64 b, .int .i64 c, .int .i64 d], .int .u32 n] w fun e w' => e = .returned (.agg #[.int .i64 p, .int .i64 q, .int .i64 u, .int .i64 v]) ∧ Below w.heap.size w w') ∧
    (∀ w, Calls Try.prog 15 #[.agg #[.int .i64 a, .int .i64 b, .int .i64 c, .int .i64 d], .int .u32 n] w fun e w' => e = .returned (.agg #[.int .i64 p, .int .i64 q, .int .i64 u, .int .i64 v]) ∧ Below w.heap.size w w') :=
  ⟨_, _, _, _, fun w => stir_any a b c d n hn w, fun w => rstir_any a b c d n hn w⟩

end Go.Proofs.Ytlnobnkgllemjaa
