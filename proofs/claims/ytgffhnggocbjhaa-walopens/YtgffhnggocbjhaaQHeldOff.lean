/- HeldLate's region: an operation that its guard turns off. -/
import Derived.Test.YtgffhnggocbjhaaQHeldLate
namespace Go.Proofs.Ytgffhnggocbjhaa
open Go.RowKit
set_option linter.unusedVariables false
set_option maxRecDepth 100000
set_option linter.unusedSimpArgs false

section
variable {P : Program} {ops : Array Oper} {Q : Exit → Act → World → Prop} {md : Region.Mode} {S : World → Prop}

/-- Operation i is off. -/
theorem zio {late : List Nat} {oi : Oper} {fuel : Nat} {listed : Array Bool} {a : Act} {w : World} (i : Nat) (hi : ops.toList[i]? = some oi)
    (hb : ((Region.noSelect ops && (Region.free md ops listed i && (Region.ready md ops listed).contains i)) && (shutB md ops listed && (!late.contains i && late.all fun l => leads md ops i ops.size l))) = true)
    (hQ : ∀ c a w, Q (.panic c) (a.put oi.dst undef) w → Q (.panic c) a w) (hw : Region.wanted oi (yielded ops a.tmps) = false) (hS : S w)
    (h : wpAnyI P md ops Q S late fuel (listed.setIfInBounds i true) (a.put oi.dst undef) w) : wpAnyI P md ops Q S late (fuel + 1) listed a w := by
  simp only [Bool.and_eq_true] at hb
  obtain ⟨⟨h1, h2, h3⟩, h4, h5, h6⟩ := hb
  exact wpAnyI_first (by simpa using hi) (Region.noSelect_spec h1) hQ (by simpa using h5) (by simpa using h6) fuel listed a w (Region.free_spec (by simpa using hi) h2) (shutB_spec h4) (by simpa using h3) (Or.inr ⟨hw, rfl⟩) hS h

end

end Go.Proofs.Ytgffhnggocbjhaa
