/- Layer 18: the program's disk: the power goes; a step; what is armed; the power is there again. -/
import Derived.Test.YtgffhnggocbjhaaDkPe
import Derived.Laws.EntriesVeiled
namespace Go.Proofs.Ytgffhnggocbjhaa
open Go.RowKit
set_option linter.unusedVariables false
set_option maxRecDepth 100000
set_option linter.unusedSimpArgs false

theorem PS.goes {w : World} {H : Nat → Prop} {db : Nat} {sv lv gv : Value} {d : Dk} (P : PS w H db sv lv gv d) (j : Nat) (v : Value) : Turn H w (w.setCell ⟨db, j, none⟩ v) :=
  ⟨rfl, rfl, rfl, by simp [World.setCell], fun k hk hn => Below.heap_setCell w _ _ k (fun e => hn (by rw [e]; exact P.h))⟩

theorem pdisarm_any {w : World} {H : Nat → Prop} {db : Nat} {sv lv gv : Value} {d : Dk} (P : PS w H db sv lv gv d) :
    Calls Try.prog 56 #[.pointer (some ⟨db, 0, none⟩)] w fun e w' => e = .returned (.tuple #[]) ∧ PS w' H db sv lv .nilFunc { d with a := 0 } ∧ Turn H w w' := by
  have B2 := (P.box.set 4 (.int .i64 0)).set 5 .nilFunc
  have hfar : ∀ j, j ≠ db → ((w.setCell ⟨db, 4, none⟩ (.int .i64 0)).setCell ⟨db, 5, none⟩ .nilFunc).heap[j]? = w.heap[j]? := fun j hj => by rw [Below.heap_setCell _ _ _ j hj, Below.heap_setCell _ _ _ j hj]
  have P2 := hide (P.turn (d' := { d with a := 0 }) (gv' := .nilFunc) (by
    have e : ((cellsP sv lv gv d).setIfInBounds 4 (.int .i64 0)).setIfInBounds 5 .nilFunc = cellsP sv lv .nilFunc { d with a := 0 } := by simp [cellsP]
    rw [← e]; exact B2) rfl rfl (fun j hj _ => hfar j hj) ⟨P.g.s1, P.g.s2, P.g.s64, P.g.l64, by simp⟩ P.m6 (.inl ⟨rfl, rfl⟩))
  have T2 : Hid (Turn H w ((w.setCell ⟨db, 4, none⟩ (.int .i64 0)).setCell ⟨db, 5, none⟩ .nilFunc)) := hide ⟨rfl, rfl, rfl, by simp [World.setCell], fun j hj hn => hfar j (fun e => hn (by rw [e]; exact P.h))⟩
  have f4 : w.frozen? ⟨db, 4, none⟩ = false := P.box.free 4
  have f5 : w.frozen? ⟨db, 5, none⟩ = false := P.box.free 5
  have c4 := P.cells.2.2.2.2.1
  have c5 := P.cells.2.2.2.2.2
  clear P B2 hfar
  go_enter Try.func56, Try.ntmps56
  go_wp2
  go_end0
  exact ⟨rfl, P2.out, T2.out⟩

set_option maxHeartbeats 1000000 in
theorem pfail_any {w : World} {H : Nat → Prop} {db : Nat} {sv lv gv : Value} {d : Dk} (P : PS w H db sv lv gv d) (c : Crs) :
    Calls Try.prog 59 #[.pointer (some ⟨db, 0, none⟩), goesV c] w fun e w' => e = .returned (.tuple #[]) ∧ PS w' H db sv (.slice none 0 0) .nilFunc (d.crashed c) ∧ Turn H w w' := by
  have cs := hide (psettle_any P (IsStay.of c))
  have hS := settle_crash (c := c) P.g.s64 P.g.l64 d.L.length (Nat.le_refl _)
  rw [hS] at cs
  have hmono := hide P.h
  clear P hS
  unfold goesV
  go_enter Try.func59, Try.ntmps59
  go_wp2_with fail
  refine cs.out.mono ?_
  rintro e w1 ⟨rfl, P1, T1⟩
  have cd := hide (pdisarm_any P1)
  replace T1 := hide T1
  clear cs P1
  go_wp2_with fail
  refine cd.out.mono ?_
  rintro e w2 ⟨rfl, P2, T2⟩
  have B3 := P2.box.set 2 (.bool true)
  have P3 := hide (P2.turn (d' := d.crashed c) (y := w2.setCell ⟨db, 2, none⟩ (.bool true)) (gv' := .nilFunc) (by
    have e : (cellsP sv (.slice none 0 0) .nilFunc { S := crashK c d.L d.S d.L.length, L := [], a := 0, c := d.c, dead := d.dead, m := d.m }).setIfInBounds 2 (.bool true) = cellsP sv (.slice none 0 0) .nilFunc (d.crashed c) := by simp [cellsP, Dk.crashed]
    rw [← e]; exact B3) rfl rfl (fun j hj _ => Below.heap_setCell _ _ _ j hj) ⟨P2.g.s1, P2.g.s2, P2.g.s64, P2.g.l64, P2.g.a63⟩ P2.m6 (.inl ⟨rfl, rfl⟩))
  have T3 := hide ((T1.out.trans T2 (fun b h => .inl h)).trans (P2.goes 2 (.bool true)) (fun b h => .inl h))
  have f2 : w2.frozen? ⟨db, 2, none⟩ = false := P2.box.free 2
  have c2 := P2.cells.2.2.1
  clear P2 T2 T1 cd B3
  go_wp2
  go_end0
  exact ⟨rfl, P3.out, T3.out⟩

set_option maxHeartbeats 4000000 in
set_option maxRecDepth 100000 in
theorem pstep_any {w : World} {H : Nat → Prop} {db : Nat} {sv lv gv : Value} {d : Dk} (P : PS w H db sv lv gv d) (hm : d.m < 1000000) :
    Calls Try.prog 93 #[.pointer (some ⟨db, 0, none⟩)] w fun e w' => e = .returned (.int .i64 (if d.a = 1 then 2 else 0)) ∧ (∃ lv' gv', PS w' H db sv lv' gv' d.stepped) ∧ Turn H w w' := by
  have b3 := P.cells.2.2.2.1
  have f3 : w.frozen? ⟨db, 3, none⟩ = false := P.box.free 3
  have B1 := P.box.set 3 (.int .i64 ((d.m : Int) + 1))
  have P1 : PS (w.setCell ⟨db, 3, none⟩ (.int .i64 ((d.m : Int) + 1))) H db sv lv gv { d with m := d.m + 1 } := P.turn (by
    have e : (cellsP sv lv gv d).setIfInBounds 3 (.int .i64 ((d.m : Int) + 1)) = cellsP sv lv gv { d with m := d.m + 1 } := by simp [cellsP]
    rw [← e]; exact B1) rfl rfl (fun j hj _ => Below.heap_setCell w _ _ j hj) ⟨P.g.s1, P.g.s2, P.g.s64, P.g.l64, P.g.a63⟩ (by show d.m + 1 ≤ _; omega) P.v
  have T1 := P.goes 3 (.int .i64 ((d.m : Int) + 1))
  have hw1 : ∀ m : Int, m = d.m → IntKind.i64.wrap (m + 1) = m + 1 := fun m hm' => by simp [IntKind.wrap, IntKind.bits, IntKind.signed]; omega
  have hw2 := hw1 d.m rfl
  obtain ⟨w1, hww⟩ : ∃ w1, w1 = w.setCell ⟨db, 3, none⟩ (.int .i64 ((d.m : Int) + 1)) := ⟨_, rfl⟩
  rw [← hww] at P1 T1
  have a63 := P.g.a63
  obtain ⟨A, hA⟩ : ∃ A, A = d.a := ⟨_, rfl⟩
  have q4 : w1.cell? ⟨db, 4, none⟩ = some (.int .i64 (A : Int)) := by rw [hA]; exact P1.cells.2.2.2.2.1
  have f4 : w1.frozen? ⟨db, 4, none⟩ = false := P1.box.free 4
  rw [← hA] at a63 ⊢
  by_cases e0 : A = 0
  · have hst : d.stepped = { d with m := d.m + 1 } := by
      unfold Dk.stepped
      rw [if_neg (by omega)]
      have : d.a - 1 = d.a := by omega
      rw [this]
    rw [if_neg (by omega), hst]
    replace P1 := hide P1
    replace T1 := hide T1
    obtain ⟨M, hM⟩ : ∃ M, M = (d.m : Int) := ⟨_, rfl⟩
    rw [← hM] at hww b3 hw2
    clear hw1 B1 P hst hM hA
    subst e0
    go_enter Try.func93, Try.ntmps93
    subst hww
    go_wp2
    go_ret
    exact ⟨rfl, ⟨_, _, P1.out⟩, T1.out⟩
  · obtain ⟨X, hX⟩ : ∃ X : Int, X = (A : Int) - 1 := ⟨_, rfl⟩
    have B2 := P1.box.set 4 (.int .i64 X)
    have hwa : IntKind.i64.wrap ((A : Int) - 1) = X := by rw [hX]; simp [IntKind.wrap, IntKind.bits, IntKind.signed]; omega
    have P2 : PS (w1.setCell ⟨db, 4, none⟩ (.int .i64 X)) H db sv lv gv { d with m := d.m + 1, a := d.a - 1 } := P1.turn (by
      have e : (cellsP sv lv gv { d with m := d.m + 1 }).setIfInBounds 4 (.int .i64 X) = cellsP sv lv gv { d with m := d.m + 1, a := d.a - 1 } := by
        simp [cellsP]; omega
      rw [← e]; exact B2) rfl rfl (fun j hj _ => Below.heap_setCell w1 _ _ j hj) ⟨P1.g.s1, P1.g.s2, P1.g.s64, P1.g.l64, by show d.a - 1 < _; omega⟩ P1.m6 (.inr ⟨d.c, P1.v.is (by show d.a ≠ 0; omega), fun _ => rfl⟩)
    have T2 := T1.trans (P1.goes 4 (.int .i64 X)) (fun b h => .inl h)
    obtain ⟨w2, hw2'⟩ : ∃ w2, w2 = w1.setCell ⟨db, 4, none⟩ (.int .i64 X) := ⟨_, rfl⟩
    rw [← hw2'] at P2 T2
    by_cases e1 : A = 1
    · have hst : Hid (d.stepped = Dk.crashed d.c { d with m := d.m + 1, a := d.a - 1 }) := hide (by
        unfold Dk.stepped
        rw [← hA, if_pos e1]
        rfl)
      have hgv := P.v.is (by omega)
      have q5 : w2.cell? ⟨db, 5, none⟩ = some (goesV d.c) := by rw [← hgv]; exact P2.cells.2.2.2.2.2
      have cf := hide (pfail_any P2 d.c)
      rw [if_pos e1]
      replace T2 := hide T2
      obtain ⟨M, hM⟩ : ∃ M, M = (d.m : Int) := ⟨_, rfl⟩
      rw [← hM] at hww b3 hw2
      obtain ⟨gf, hgf⟩ : ∃ gf, gf = goesV d.c := ⟨_, rfl⟩
      rw [← hgf] at q5 cf
      clear hw1 B1 P P1 P2 B2 T1 hM hA hgv hgf e0
      subst e1
      obtain rfl : X = 0 := by omega
      clear hX
      rw [show ((1 : Nat) : Int) = 1 from rfl] at q4 hwa
      go_enter Try.func93, Try.ntmps93
      subst hww
      subst hw2'
      go_wp2_with fail
      refine cf.out.mono ?_
      rintro e w3 ⟨rfl, P3, T3⟩
      go_wp2
      go_ret
      exact ⟨rfl, ⟨.slice none 0 0, .nilFunc, by rw [hst.out]; exact P3⟩, T2.out.trans T3 (fun b h => .inl h)⟩
    · have hst : d.stepped = { d with m := d.m + 1, a := d.a - 1 } := by unfold Dk.stepped; rw [if_neg (by omega)]
      rw [if_neg (by omega), hst]
      replace P2 := hide P2
      replace T2 := hide T2
      obtain ⟨M, hM⟩ : ∃ M, M = (d.m : Int) := ⟨_, rfl⟩
      rw [← hM] at hww b3 hw2
      clear hw1 B1 P P1 B2 T1 hM hA hst
      subst hX
      go_enter Try.func93, Try.ntmps93
      subst hww
      subst hw2'
      go_wp2
      go_ret
      exact ⟨rfl, ⟨_, _, P2.out⟩, T2.out⟩

end Go.Proofs.Ytgffhnggocbjhaa
