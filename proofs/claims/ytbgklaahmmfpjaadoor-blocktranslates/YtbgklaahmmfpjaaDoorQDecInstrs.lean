/- The walk of the law: the word of any instruction is as the document says. -/
import Derived.Test.YtbgklaahmmfpjaaDoorQDecEnc
namespace Go.Proofs.YtbgklaahmmfpjaaDoor.De
open Go.RowKit
set_option linter.unusedVariables false
set_option maxRecDepth 100000

theorem word_one {o s t d a i v e v' e' : Int} (h : Word o s t d a i v e) (h' : Word o s t d a i v' e') : v' = v ∧ e' = e := by
  rcases h with ⟨op, ho, rfl, hg, rfl, rfl⟩ | ⟨hn, rfl, rfl⟩
  · rcases h' with ⟨op', ho', eo, hg', rfl, rfl⟩ | ⟨hn', rfl, rfl⟩
    · obtain rfl : op = op' := by omega
      exact ⟨rfl, rfl⟩
    · exact absurd hg (hn' op ho rfl)
  · rcases h' with ⟨op', ho', eo, hg', rfl, rfl⟩ | ⟨hn', rfl, rfl⟩
    · exact absurd hg' (hn op' ho' eo)
    · exact ⟨rfl, rfl⟩

end Go.Proofs.YtbgklaahmmfpjaaDoor.De
