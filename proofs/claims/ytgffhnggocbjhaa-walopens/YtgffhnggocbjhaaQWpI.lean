/- Layer 19: the program's log: its small functions; the last head; a head's cells. -/
import Derived.Test.YtgffhnggocbjhaaQWpH
import Derived.Test.YtgffhnggocbjhaaQWlOpen
namespace Go.Proofs.Ytgffhnggocbjhaa
open Go.RowKit
set_option linter.unusedVariables false
set_option maxRecDepth 100000
set_option linter.unusedSimpArgs false

theorem wown_any {w : World} {H : Nat → Prop} {db : Nat} {d : Dk} (D : PD w H db d) : Calls Try.prog 69 #[.pointer (some ⟨db, 0, none⟩)] w fun e w' => e = .returned (.int .i64 d.own) ∧ w' = w := by
  have cs := dsectors_any D
  have s2 := D.good.1.s2
  obtain ⟨m, hm⟩ : ∃ m, m = d.S.length := ⟨_, rfl⟩
  have ho : d.own = (m : Int) - 34 := by rw [hm]; rfl
  rw [← hm] at cs s2
  rw [ho]
  clear ho hm
  go_enter Try.func69, Try.ntmps69
  go_wp2_with fail
  refine cs.mono ?_
  rintro e w2 ⟨rfl, h2⟩
  subst h2
  go_wp2
  go_ret
  exact ⟨rfl, rfl⟩

theorem wfits_any {w : World} {H : Nat → Prop} {db : Nat} {d : Dk} (D : PD w H db d) : Calls Try.prog 62 #[.pointer (some ⟨db, 0, none⟩)] w fun e w' => e = .returned (.bool d.fits) ∧ Below w.heap.size w w' := by
  have cs := dsectors_any D
  have s2 := D.good.1.s2
  obtain ⟨m, hm⟩ : ∃ m, m = d.S.length := ⟨_, rfl⟩
  obtain ⟨R, hR⟩ : ∃ R, Hid (R = d.fits) := ⟨_, hide rfl⟩
  have ho : Hid (R = (decide (42 ≤ m) && decide (m ≤ 4034))) := hide (by rw [hR.out, hm]; rfl)
  rw [← hm] at cs s2
  rw [← hR.out]
  clear hR hm
  go_enter Try.func62, Try.ntmps62
  go_wp2_with fail
  refine cs.mono ?_
  rintro e w2 ⟨rfl, h2⟩
  subst h2
  by_cases h : 42 ≤ m
  · by_cases h2 : m ≤ 4034
    · obtain rfl : R = true := by rw [ho.out, decide_eq_true h, decide_eq_true h2]; rfl
      go_wp2
      go_ret
      exact ⟨by show Ending.returned (.bool (decide ((m : Int) ≤ 4034))) = _; rw [decide_eq_true (by omega)], Below.refl _ _⟩
    · obtain rfl : R = false := by rw [ho.out, decide_eq_false h2]; simp
      go_wp2
      go_ret
      exact ⟨by show Ending.returned (.bool (decide ((m : Int) ≤ 4034))) = _; rw [decide_eq_false (by omega)], Below.refl _ _⟩
  · obtain rfl : R = false := by rw [ho.out, decide_eq_false h]; simp
    go_wp2
    go_ret
    exact ⟨rfl, Below.refl _ _⟩

/-- The log, its disk. -/
structure PL (w : World) (H : Nat → Prop) (lb db : Nat) (l : Lg) : Prop where
  log : Box w lb (cellsG db l.n l.dead)
  out : ¬ H lb
  disk : PD w H db l.d
  fit : 42 ≤ l.d.S.length

theorem PL.on {w y : World} {H : Nat → Prop} {lb db : Nat} {l : Lg} (h : PL w H lb db l) (b : Below w.heap.size w y) : PL y H lb db l := ⟨h.log.on b, h.out, h.disk.on b, h.fit⟩

theorem lsec_any {w : World} {H : Nat → Prop} {lb db : Nat} {l : Lg} (L : PL w H lb db l) : Calls Try.prog 34 #[.pointer (some ⟨lb, 0, none⟩)] w fun e w' => e = .returned (.int .i64 l.d.own) ∧ w' = w := by
  have cs := wown_any L.disk
  have b0 := L.log.cell 0
  obtain ⟨O, hO⟩ : ∃ O, O = l.d.own := ⟨_, rfl⟩
  rw [← hO] at cs ⊢
  unfold cellsG at b0
  clear L hO
  go_enter Try.func34, Try.ntmps34
  go_wp2_with fail
  refine cs.mono ?_
  rintro e w2 ⟨rfl, h2⟩
  subst h2
  go_wp2
  go_ret
  exact ⟨rfl, rfl⟩

theorem lnum_any {w : World} {H : Nat → Prop} {lb db : Nat} {l : Lg} (L : PL w H lb db l) : Calls Try.prog 27 #[.pointer (some ⟨lb, 0, none⟩)] w fun e w' => e = .returned (.int .i64 (l.n : Int)) ∧ w' = w := by
  have b1 := L.log.cell 1
  unfold cellsG at b1
  clear L
  go_enter Try.func27, Try.ntmps27
  go_wp2
  go_ret
  exact ⟨rfl, rfl⟩

theorem ldead_any {w : World} {H : Nat → Prop} {lb db : Nat} {l : Lg} (L : PL w H lb db l) : Calls Try.prog 28 #[.pointer (some ⟨lb, 0, none⟩)] w fun e w' => e = .returned (.bool l.dead) ∧ w' = w := by
  have b2 := L.log.cell 2
  unfold cellsG at b2
  clear L
  go_enter Try.func28, Try.ntmps28
  go_wp2
  go_ret
  exact ⟨rfl, rfl⟩

theorem PL.set_dead {w : World} {H : Nat → Prop} {lb db : Nat} {l : Lg} (L : PL w H lb db l) : PL (w.setCell ⟨lb, 2, none⟩ (.bool true)) H lb db { l with dead := true } := by
  refine ⟨?_, L.out, L.disk.keep fun k hk hl => Below.heap_setCell _ _ _ k (fun e => L.out (by rw [show lb = k from e.symm]; exact hk)), L.fit⟩
  have := L.log.set 2 (.bool true)
  exact this
theorem wturn_set (w : World) (lb j : Nat) (v : Value) : Turn (fun k => k = lb) w (w.setCell ⟨lb, j, none⟩ v) := ⟨rfl, rfl, rfl, by simp [World.setCell], fun i _ hn => Below.heap_setCell _ _ _ i hn⟩

theorem lnoted_any {w : World} {H : Nat → Prop} {lb db : Nat} {l : Lg} (L : PL w H lb db l) (er : Int) : Calls Try.prog 48 #[.pointer (some ⟨lb, 0, none⟩), .int .i64 er] w fun e w' => e = .returned (.int .i64 er) ∧ PL w' H lb db { l with dead := l.dead || decide (er = 2) } ∧ Turn (fun k => k = lb) w w' := by
  have b2 := L.log.cell 2
  have f2 := L.log.free 2
  have hb := L.log.2.2
  unfold cellsG at b2
  by_cases h : er = 2
  · have L2 := hide L.set_dead
    subst h
    replace L := hide L
    have e : (l.dead || decide ((2 : Int) = 2)) = true := by simp
    rw [e]
    go_enter Try.func48, Try.ntmps48
    go_wp2
    go_ret
    exact ⟨rfl, L2.out, wturn_set _ _ _ _⟩
  · rw [decide_eq_false h, Bool.or_false]
    replace L := hide L
    go_enter Try.func48, Try.ntmps48
    go_wp2
    go_ret
    exact ⟨rfl, L.out, Turn.refl _ _⟩

/-- Read of the program: one that is dead says so. -/
def Lg.errP (l : Lg) (n : Int) : Int := if n < 0 ∨ l.d.own ≤ n then 1 else if l.dead then 2 else l.d.errAt (34 + n)
def Lg.tolP (l : Lg) (n : Int) : ByteArray := if n < 0 ∨ l.d.own ≤ n then ByteArray.empty else if l.dead then ByteArray.empty else l.d.told (34 + n)
def Lg.redP (l : Lg) (n : Int) : Lg := if n < 0 ∨ l.d.own ≤ n then l else if l.dead then l else { l with dead := l.dead || decide (l.d.errAt (34 + n) = 2) }

set_option maxHeartbeats 1000000 in
theorem lread_any {w : World} {H : Nat → Prop} {lb db : Nat} {l : Lg} (L : PL w H lb db l) (n : Int) :
    Calls Try.prog 12 #[.pointer (some ⟨lb, 0, none⟩), .int .i64 n] w fun e w' => e = .returned (.tuple #[.string (l.tolP n), .int .i64 (l.errP n)]) ∧ PL w' H lb db (l.redP n) ∧ Turn (fun k => k = lb) w w' := by
  have cs := lsec_any L
  have s2 := L.disk.good.1.s2
  obtain ⟨O, hO⟩ : ∃ O, O = l.d.own := ⟨_, rfl⟩
  have hOm : O ≤ 5000 := by rw [hO]; unfold Dk.own; omega
  rw [← hO] at cs
  have b0 := L.log.cell 0
  have b2 := L.log.cell 2
  unfold cellsG at b0 b2
  have cr := fun (y : World) (Ly : PL y H lb db l) => dread_any Ly.disk (34 + n)
  have cn := fun (y : World) (Ly : PL y H lb db l) => lnoted_any Ly (l.d.errAt (34 + n))
  replace cr := hide cr
  replace cn := hide cn
  by_cases h0 : n < 0
  · have e1 : l.tolP n = ByteArray.empty := by unfold Lg.tolP; rw [if_pos (.inl h0)]
    have e2 : l.errP n = 1 := by unfold Lg.errP; rw [if_pos (.inl h0)]
    have e3 : l.redP n = l := by unfold Lg.redP; rw [if_pos (.inl h0)]
    rw [e1, e2, e3]
    replace L := hide L
    clear e1 e2 e3 cr cn cs b0 b2 hO
    go_enter Try.func12, Try.ntmps12
    go_wp2
    go_ret2
    exact ⟨rfl, L.out, Turn.refl _ _⟩
  · by_cases h1 : O ≤ n
    · have h1' : l.d.own ≤ n := by omega
      have e1 : l.tolP n = ByteArray.empty := by unfold Lg.tolP; rw [if_pos (.inr h1')]
      have e2 : l.errP n = 1 := by unfold Lg.errP; rw [if_pos (.inr h1')]
      have e3 : l.redP n = l := by unfold Lg.redP; rw [if_pos (.inr h1')]
      rw [e1, e2, e3]
      replace L := hide L
      clear e1 e2 e3 cr cn b0 b2 hO h1'
      go_enter Try.func12, Try.ntmps12
      go_wp2_with fail
      refine cs.mono ?_
      rintro e w2 ⟨rfl, h2⟩
      subst h2
      go_wp2
      go_ret2
      exact ⟨rfl, L.out, Turn.refl _ _⟩
    · have hn : ¬ (n < 0 ∨ l.d.own ≤ n) := by omega
      cases hd : l.dead with
      | true =>
        have e1 : l.tolP n = ByteArray.empty := by unfold Lg.tolP; rw [if_neg hn, hd]; rfl
        have e2 : l.errP n = 2 := by unfold Lg.errP; rw [if_neg hn, hd]; rfl
        have e3 : l.redP n = l := by unfold Lg.redP; rw [if_neg hn, hd]; rfl
        rw [e1, e2, e3]
        rw [hd] at b2
        replace L := hide L
        clear e1 e2 e3 cr cn b0 hO hn
        go_enter Try.func12, Try.ntmps12
        go_wp2_with fail
        refine cs.mono ?_
        rintro e w2 ⟨rfl, h2⟩
        subst h2
        go_wp2
        go_ret2
        exact ⟨rfl, L.out, Turn.refl _ _⟩
      | false =>
        have e1 : l.tolP n = l.d.told (34 + n) := by unfold Lg.tolP; rw [if_neg hn, hd]; rfl
        have e2 : l.errP n = l.d.errAt (34 + n) := by unfold Lg.errP; rw [if_neg hn, hd]; rfl
        have e3 : l.redP n = { l with dead := l.dead || decide (l.d.errAt (34 + n) = 2) } := by unfold Lg.redP; rw [if_neg hn, hd]; rfl
        rw [e1, e2, e3]
        rw [hd] at b2
        obtain ⟨E, hE⟩ : ∃ E, E = l.d.errAt (34 + n) := ⟨_, rfl⟩
        obtain ⟨S, hS⟩ : ∃ S, S = l.d.told (34 + n) := ⟨_, rfl⟩
        obtain ⟨l2, hl2⟩ : ∃ l2, l2 = { l with dead := l.dead || decide (l.d.errAt (34 + n) = 2) } := ⟨_, rfl⟩
        rw [← hl2, ← hS, ← hE]
        rw [← hE] at hl2
        rw [← hE, ← hS] at cr
        rw [← hE, ← hl2] at cn
        replace L := hide L
        have hw34 : IntKind.i64.wrap (34 + n) = 34 + n := by simp [IntKind.wrap, IntKind.bits, IntKind.signed]; omega
        have hlb := L.out.log.2.2
        clear e1 e2 e3 hO hn hE hS hl2 hd
        go_enter Try.func12, Try.ntmps12
        go_wp2_with fail
        refine cs.mono ?_
        rintro e w2 ⟨rfl, h2⟩
        subst h2
        go_wp2_with fail
        refine (cr.out _ L.out).mono ?_
        rintro e w3 ⟨rfl, hB⟩
        have L3 := hide (L.out.on hB)
        have T3 := hide (Turn.of (F := fun k => k = lb) hB)
        clear cs cr b0 b2 hB L
        go_wp2_with fail
        refine (cn.out _ L3.out).mono ?_
        rintro e w4 ⟨rfl, L4, T4⟩
        have T5 := hide (T3.out.trans T4 (fun b h => .inl h))
        replace L4 := hide L4
        clear cn L3 T3 T4
        go_wp2
        go_ret2
        exact ⟨rfl, L4.out, T5.out⟩

end Go.Proofs.Ytgffhnggocbjhaa
