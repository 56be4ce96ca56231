/- Layer 19: what WalReads' walk wants. -/
import Derived.Test.YtgffhnggocbjhaaQWqWops
import Derived.Test.YtgffhnggocbjhaaQWqMore
import Derived.Test.YtgffhnggocbjhaaQWqWith
namespace Go.Proofs.Ytgffhnggocbjhaa
open Go.RowKit
set_option linter.unusedVariables false
set_option maxRecDepth 100000
set_option linter.unusedSimpArgs false

theorem errC_zero {l : Lg} {c : Cl} (h : l.errC c = 0) : l.refuse c = 0 := by
  by_cases hr : l.refuse c = 0
  · exact hr
  · unfold Lg.errC at h
    rw [if_pos hr] at h
    exact absurd h hr
theorem done_in {S : List ByteArray} {n m : Nat} {cr : Crs} {c : Cl} (h : (LQ n S m cr).errC c = 0) (h42 : 42 ≤ S.length) : ∀ p ∈ c, 0 ≤ p.1 ∧ p.1 < ((S.drop 34).length : Int) ∧ p.2.size = 64 := fun p hp => by
  obtain ⟨h16, h64, hr⟩ := refuse_zero (errC_zero h)
  obtain ⟨i, hi, hpi⟩ := List.getElem_of_mem hp
  have := rise_in hr i hi
  rw [getD_some (x := p.1) (by rw [List.getElem?_map, List.getElem?_eq_getElem hi, hpi]; rfl)] at this
  rw [List.length_drop]
  have e : (LQ n S m cr).d.own = (S.length : Int) - 34 := rfl
  rw [e] at this
  exact ⟨this.1, by omega, h64 p hp⟩

theorem turn_of {b : Nat} {F : Nat → Prop} {y z : World} (h : Below b y z) (hb : ∀ k, k < y.heap.size → ¬ F k → z.heap[k]? = y.heap[k]?) : Turn F y z := ⟨h.os, h.tape, h.output, h.size, hb⟩

theorem Fs.turn {b N : Nat} {P : Nat → Prop} {y z : World} {lb db : Nat} {l : Lg} (h : Fs b N P y lb db l) (T : Turn P y z) : Fs b N P z lb db l := by
  obtain ⟨H, L, hH⟩ := h.ex
  exact ⟨⟨H, L.turn T (fun k hk _ => (hH k hk).2.1) h.no, hH⟩, h.lo, h.hi, Nat.le_trans h.top T.size, h.no, fun k hk => Nat.lt_of_lt_of_le (h.old k hk) T.size⟩

theorem Fs.steps {b N : Nat} {P : Nat → Prop} {y : World} {lb db : Nat} {l : Lg} (h : Fs b N P y lb db l) : Calls Try.prog 26 #[.pointer (some ⟨db, 0, none⟩)] y fun e z => e = .returned (.int .i64 (l.d.m : Int)) ∧ z = y := by
  obtain ⟨H, L, hH⟩ := h.ex
  exact dsteps_any L.disk

end Go.Proofs.Ytgffhnggocbjhaa
