/- Layer 15: what Dead leaves: no operation that is none; in order; of each register the last one that writes it. -/
import Derived.Test.YtnbflahggpehpabQOpPure
namespace Go.Proofs.Ytnbflahggpehpab.Ir
open Go.RowKit
set_option linter.unusedVariables false
set_option maxRecDepth 100000
set_option linter.unusedSimpArgs false

theorem dead_k {l : List Mi} {m : Mi} (h : m ∈ deadV l) : ¬ m.k = 0 := by
  unfold deadV at h
  have := (List.mem_filter.1 h).2
  simpa using this

theorem dead_sub : ∀ l : List Mi, (deadV l).Sublist l
  | [] => List.Sublist.refl _
  | x :: l => by
    rcases dead_cons x l with e | ⟨e, -⟩
    · rw [e]; exact (dead_sub l).cons _
    · rw [e]; exact (dead_sub l).cons_cons _

/-- One step of the law's look for what is left. -/
theorem sub_step {a b : Mi} {s t : List Mi} (h : (a :: s).Sublist (b :: t)) : if b = a then s.Sublist t else (a :: s).Sublist t := by
  split
  · cases h with
    | cons _ h => exact (List.sublist_cons_self a s).trans h
    | cons_cons _ h => exact h
  · rename_i hne
    cases h with
    | cons _ h => exact h
    | cons_cons _ h => exact absurd rfl hne

theorem lost_none {n : Nat} : ∀ l : List Mi, (∀ x ∈ l, wrB x = true → n ≠ x.d.toNat) → lostV l n = false
  | [], _ => rfl
  | m :: l, h => by
    rw [lostV]
    exact dd_false (lost_none l (fun x hx => h x (List.mem_cons_of_mem _ hx))) (h m (List.mem_cons_self ..))

theorem dead_at : ∀ (l : List Mi) (i : Nat) (m : Mi), l[i]? = some m → lostV (l.drop (i + 1)) m.d.toNat = false → ¬ m.k = 0 → m ∈ deadV l
  | [], i, m, h, _, _ => by simp at h
  | x :: l, 0, m, h, hl, hk => by
    simp at h
    subst h
    have e : ddM (lostV l) x = x := by
      unfold ddM
      rw [if_neg (fun hh => by rw [show lostV l x.d.toNat = false from hl] at hh; cases hh.2)]
    unfold deadV
    rw [keptV, e, List.filter_cons_of_pos (by simp [hk])]
    exact List.mem_cons_self ..
  | x :: l, i + 1, m, h, hl, hk => by
    have hm := dead_at l i m (by simpa using h) hl hk
    rcases dead_cons x l with e | ⟨e, -⟩
    · rw [e]; exact hm
    · rw [e]; exact List.mem_cons_of_mem _ hm

/-- Marks of 33 registers. -/
def cellsB (L : Nat → Bool) : Array Value := ((List.range 33).map fun k => Value.bool (L k)).toArray

theorem sizeB (L : Nat → Bool) : (cellsB L).size = 33 := by simp [cellsB]
theorem get_B (L : Nat → Bool) (j : Nat) (h : j < 33) : (cellsB L)[j]? = some (.bool (L j)) := by simp [cellsB, h]

theorem set_B (R : Nat → Bool) (s : Nat) (hs : s < 33) (v : Bool) : (cellsB R).setIfInBounds s (.bool v) = cellsB (putL R s v) := by
  apply Array.ext_getElem?
  intro j
  have hsz : (cellsB R).size = 33 := sizeB R
  rw [Array.getElem?_setIfInBounds, hsz]
  by_cases hj : j < 33
  · rw [get_B _ j hj, get_B _ j hj, putL]
    by_cases e : s = j
    · subst e; rw [if_pos rfl, if_pos hj, if_pos rfl]
    · rw [if_neg e, if_neg (by omega)]
  · have n1 : (cellsB R)[j]? = none := by simp; omega
    have n2 : (cellsB (putL R s v))[j]? = none := by have := sizeB (putL R s v); simp at this ⊢; omega
    rw [n1, n2]
    repeat' split
    all_goals first | rfl | omega

/-- What is marked: no operation from a place on writes what is not. -/
def Marks (l : List Mi) (k : Nat) (L : Nat → Bool) : Prop := ∀ r, L r = false → ∀ x ∈ l.drop k, ¬ x.k = 0 → ¬ x.d.toNat = r

theorem marks_end (l : List Mi) (L : Nat → Bool) : Marks l l.length L := fun r _ x hx => by rw [List.drop_length] at hx; cases hx

theorem marks_skip {l : List Mi} {k : Nat} {L : Nat → Bool} {m : Mi} (h : Marks l (k + 1) L) (hm : l[k]? = some m) (hs : m.k = 0 ∨ L m.d.toNat = true) : Marks l k L := fun r hr x hx hk hd => by
  rw [drop_at hm] at hx
  rcases List.mem_cons.1 hx with rfl | hx
  · rcases hs with hs | hs
    · exact hk hs
    · rw [hd, hr] at hs; cases hs
  · exact h r hr x hx hk hd

theorem marks_put {l : List Mi} {k : Nat} {L : Nat → Bool} {m : Mi} (h : Marks l (k + 1) L) (hm : l[k]? = some m) : Marks l k (putL L m.d.toNat true) := fun r hr x hx hk hd => by
  rw [drop_at hm] at hx
  unfold putL at hr
  split at hr
  · cases hr
  · rename_i hne
    rcases List.mem_cons.1 hx with rfl | hx
    · exact hne hd.symm
    · exact h r hr x hx hk hd

theorem marks_last {l : List Mi} {k : Nat} {L : Nat → Bool} {m : Mi} (h : Marks l (k + 1) L) (hm : l[k]? = some m) (hk : ¬ m.k = 0) (hL : L m.d.toNat = false) : m ∈ deadV l :=
  dead_at l k m hm (lost_none _ (fun x hx hw e => h _ hL x hx (by have := wrB_iff.1 hw; omega) e.symm)) hk

end Go.Proofs.Ytnbflahggpehpab.Ir
