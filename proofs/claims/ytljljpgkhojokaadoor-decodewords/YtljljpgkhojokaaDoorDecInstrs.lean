/- The walk of the law: the word of any instruction is as the document says. -/
import Derived.Test.YtljljpgkhojokaaDoorDecEnc
namespace Go.Proofs.YtljljpgkhojokaaDoor
open Go.RowKit
set_option linter.unusedVariables false

theorem word_one {o s t d a i v e v' e' : Int} (h : Word o s t d a i v e) (h' : Word o s t d a i v' e') : v' = v ∧ e' = e := by
  rcases h with ⟨op, ho, rfl, hg, rfl, rfl⟩ | ⟨hn, rfl, rfl⟩
  · rcases h' with ⟨op', ho', eo, hg', rfl, rfl⟩ | ⟨hn', rfl, rfl⟩
    · obtain rfl : op = op' := by omega
      exact ⟨rfl, rfl⟩
    · exact absurd hg (hn' op ho rfl)
  · rcases h' with ⟨op', ho', eo, hg', rfl, rfl⟩ | ⟨hn', rfl, rfl⟩
    · exact absurd hg' (hn op' ho' eo)
    · exact ⟨rfl, rfl⟩

theorem instrs_raw {o s t d a i v e : Int}
    (hE : ∀ w, Tabs w → Calls Tryd.prog 12 #[.agg #[.int .i64 o, .int .i64 s, .int .i64 t, .int .i64 d, .int .i64 a, .int .i64 i]] w fun r w' => r = .returned (.tuple #[.int .u32 v, .int .i64 e]) ∧ Below w.heap.size w w')
    (hR : ∀ w, Calls Tryd.prog 13 #[.agg #[.int .i64 o, .int .i64 s, .int .i64 t, .int .i64 d, .int .i64 a, .int .i64 i]] w fun r w' => r = .returned (.tuple #[.int .u32 v, .int .i64 e]) ∧ Below w.heap.size w w') (w : World) (tb : Tabs w) :
    Calls Tryd.prog 4 #[.agg #[.int .i64 o, .int .i64 s, .int .i64 t, .int .i64 d, .int .i64 a, .int .i64 i]] w fun r w' => r = .returned (.bool true) ∧ Below w.heap.size w w' := by
  go_enter Tryd.func4, Tryd.ntmps4
  go_wp2_with fail
  have g0 := grow w (.cells #[.int .i64 o, .int .i64 s, .int .i64 t, .int .i64 d, .int .i64 a, .int .i64 i] 24)
  have k0 := cell6 w 24 (.int .i64 o) (.int .i64 s) (.int .i64 t) (.int .i64 d) (.int .i64 a) (.int .i64 i)
  refine (hE _ (tb.on g0)).mono ?_
  rintro r w1 ⟨rfl, h1⟩
  obtain ⟨x0, x1, x2, x3, x4, x5⟩ := k0.on h1
  have b1 := onto g0 h1
  have t1 := (tb.on g0).on h1
  clear g0 k0 h1 tb hE
  go_wp2_with fail
  refine (hR _).mono ?_
  rintro r w2 ⟨rfl, h2⟩
  have b2 := onto b1 h2
  have t2 := t1.on h2
  clear h2 b1 t1 hR x0 x1 x2 x3 x4 x5
  go_wp2_with fail
  refine (facts_any _ t2).mono ?_
  rintro r w3 ⟨rfl, h3⟩
  have b3 := onto b2 h3
  clear h3 b2 t2
  go_wp2
  go_ret
  exact ⟨rfl, b3⟩

theorem instrs_walk (o s t d a i : Int) (w : World) (tb : Tabs w) :
    Calls Tryd.prog 4 #[.agg #[.int .i64 o, .int .i64 s, .int .i64 t, .int .i64 d, .int .i64 a, .int .i64 i]] w fun r w' => r = .returned (.bool true) ∧ Below w.heap.size w w' := by
  obtain ⟨v, e, hW, hE⟩ := encode_any o s t d a i
  obtain ⟨v', e', hW', hR⟩ := renc_any o s t d a i
  obtain ⟨rfl, rfl⟩ := word_one hW hW'
  exact instrs_raw hE hR w tb

end Go.Proofs.YtljljpgkhojokaaDoor
