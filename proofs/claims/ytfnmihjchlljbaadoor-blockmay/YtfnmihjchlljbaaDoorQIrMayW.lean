/- Whether any operations may be is as the document says. -/
import Derived.Test.YtfnmihjchlljbaaDoorQIrHeld
import Derived.Test.YtfnmihjchlljbaaDoorQIrRMay2
namespace Go.Proofs.YtfnmihjchlljbaaDoor.Ir
open Go.RowKit
set_option linter.unusedVariables false
set_option maxRecDepth 100000
set_option linter.unusedSimpArgs false

theorem may_cut {w : World} (tb : De.Tabs w) {ad : Option Addr} {n c K : Nat} {l : List Mi} (hnc : n ≤ c) (hK : (n ≤ 20 ∧ K = n) ∨ (20 < n ∧ K = 20)) (h : IsOps w (.slice ad K c) l) :
    Calls Tryd.prog 4 #[.slice ad n c] w fun e w' => e = .returned (.bool true) ∧ Below w.heap.size w w' := by
  have cf := hide (fixed_any w tb)
  have c1 := hide (fun (y : World) (hb : Below w.heap.size w y) => may_any (h.on hb))
  have c2 := hide (fun (y : World) (hb : Below w.heap.size w y) => rmay_any (h.on hb))
  generalize mayB l = B at *
  clear h tb
  rcases hK with ⟨hn, rfl⟩ | ⟨hn, rfl⟩
  all_goals
    go_enter Tryd.func4, Tryd.ntmps4
    go_wp2_with fail
    refine cf.out.mono ?_
    rintro e w1 ⟨rfl, h1⟩
    replace h1 := hide h1
    go_wp2_with fail
    refine (c1.out _ h1.out).mono ?_
    rintro e w2 ⟨rfl, h2⟩
    have h3 := hide (onto h1.out (Nat.le_refl _) h2)
    clear h1 h2
    go_wp2_with fail
    refine (c2.out _ h3.out).mono ?_
    rintro e w3 ⟨rfl, h4⟩
    have h5 := onto h3.out (Nat.le_refl _) h4
    clear h3 h4
    go_wp2
    go_ret
    exact ⟨by simp, h5⟩

theorem may_walk (w : World) (v : Value) (l : List Mi) (hl : IsOps w v l) (hw : WordsM l) (hc : CapOk v) (tb : De.Tabs w) :
    Calls Tryd.prog 4 #[v] w fun e w' => e = .returned (.bool true) ∧ Below w.heap.size w w' := by
  obtain ⟨ad, n, c, rfl, hnc, h⟩ := cut_ops hl hw hc 20
  rcases h with ⟨hn, h, -⟩ | ⟨hn, h, -⟩
  · exact may_cut tb hnc (Or.inl ⟨hn, rfl⟩) h
  · exact may_cut tb hnc (Or.inr ⟨hn, rfl⟩) h

end Go.Proofs.YtfnmihjchlljbaaDoor.Ir
