/- Layer 19: the laws' laid: a log on a disk of noughts. -/
import Derived.Test.YtgffhnggocbjhaaQWqAll
import Derived.Test.YtgffhnggocbjhaaQWlForm
import Derived.Test.YtgffhnggocbjhaaQWqForm
namespace Go.Proofs.Ytgffhnggocbjhaa
open Go.RowKit
set_option linter.unusedVariables false
set_option maxRecDepth 100000
set_option linter.unusedSimpArgs false

theorem PL.turn {w y : World} {H F : Nat → Prop} {lb db : Nat} {l : Lg} (h : PL w H lb db l) (T : Turn F w y) (hF : ∀ k, H k → k < w.heap.size → ¬ F k) (hl : ¬ F lb) : PL y H lb db l :=
  ⟨h.log.of_heap (T.block lb h.log.2.2 hl), h.out, h.disk.keep (fun k hk hlt => T.block k hlt (hF k hk hlt)), h.fit⟩

set_option maxHeartbeats 1000000 in
theorem laid_any (a : Int) (wa : I64 a) (h42 : 42 ≤ a) (w : World) :
    Calls Try.prog 8 #[.int .i64 a] w fun e w' => ∃ db lb mv kv, e = .returned (.tuple #[.pointer (some ⟨db, 0, none⟩), .pointer (some ⟨lb, 0, none⟩), mv, kv, .bool true]) ∧
      PL w' (fun k => w.heap.size ≤ k ∧ k ≠ lb) lb db (LQ 1 (S1 (min a 80).toNat) 3 C00) ∧ w.heap.size ≤ lb ∧ Below w.heap.size w w' := by
  obtain ⟨n, hn⟩ : ∃ n, n = (min a 80).toNat := ⟨_, rfl⟩
  have hnI : (n : Int) = max 1 (min a 80) := by omega
  have h1 : 42 ≤ n := by omega
  have h2 : n ≤ 80 := by omega
  rw [← hn]
  have cd := hide (fun (y : World) => dnew_any n (by omega) (by omega) y)
  have cr := hide (fun (y : World) => rnew_any n (by omega) (by omega) y)
  rw [hnI] at cd cr
  replace hnI := hide hnI
  obtain ⟨f1, f2, -⟩ := form_new h1 (by omega : n ≤ 4034)
  have cf := hide (fun (y : World) (H : Nat → Prop) (db : Nat) (D : PD y H db (newD n)) => wformat_any D (by show 0 + 3 < 1000000; decide) (by show 0 + 3 < 1000; decide))
  have cg := hide (fun (y : World) (H : Nat → Prop) (rb : Nat) (lv lw : Value) (R : RD y H rb lv lw (newD n)) => rformat_any R (by show 0 + 3 < 1000000; decide) (by show 0 + 3 < 1000; decide))
  rw [f1, f2] at cf cg
  clear hn f1 f2
  go_enter Try.func8, Try.ntmps8
  go_wp2_with fail
  refine (cd.out _).mono ?_
  rintro e x1 ⟨db, rfl, D1, T1⟩
  have D1 := hide (D1.mono (G := fun k => w.heap.size ≤ k ∧ k < x1.heap.size) (fun k h hl => ⟨h, hl⟩))
  replace T1 := hide T1
  clear cd
  go_wp2_with fail
  refine (cr.out _).mono ?_
  rintro e x2 ⟨rb, lv, lw, rfl, R2, T2⟩
  have D2 := hide (D1.out.on T2)
  have T3 := hide (onto T1.out (Nat.le_refl _) T2)
  have hx12 := T2.size
  have hx01 := T1.out.size
  have hrb2 := R2.box.2.2
  replace R2 := hide R2
  clear cr D1 T1 T2
  go_wp2_with fail
  refine (cf.out _ _ _ D2.out).mono ?_
  rintro e x3 ⟨lvv, rfl, NL⟩
  obtain ⟨lb, rfl, hlb, PL3⟩ := NL.ok rfl
  have R3 := hide (R2.out.keep (y := x3) (fun k hk hl => NL.far.block k hl (fun h => by omega)))
  have T4 := hide (T3.out.trans (NL.far.below (by omega) (fun b h => h.1)))
  have hx23 := NL.far.size
  have PL4 := hide (PL3.mono (G := fun k => (w.heap.size ≤ k ∧ k < x1.heap.size ∨ x2.heap.size ≤ k ∧ k < x3.heap.size) ∧ k ≠ lb) (fun k h hl => ⟨by rcases h.1 with h' | h'; exact .inl h'; exact .inr ⟨h', hl⟩, h.2⟩) (fun h => h.2 rfl))
  clear cf D2 T3 R2 NL PL3
  go_wp2_with fail
  refine (cg.out _ _ _ _ _ R3.out).mono ?_
  rintro e x4 ⟨kv, rfl, LI⟩
  obtain ⟨kb, rfl, hkb, -⟩ := LI.log rfl
  have hrb := R3.out.h
  have PL5 := PL4.out.turn LI.turn (fun k hk hl h => by
    rcases hk.1 with h' | h'
    · omega
    · omega) (fun h => by omega)
  have fin : Hid (PL x4 (fun k => w.heap.size ≤ k ∧ k ≠ lb) lb db (LQ 1 (S1 n) 3 C00) ∧ w.heap.size ≤ lb ∧ Below w.heap.size w x4) := hide
    ⟨PL5.mono (fun k h hl => ⟨by rcases h.1 with h' | h'; exact h'.1; omega, h.2⟩) (fun h => h.2 rfl), by omega, T4.out.trans (LI.turn.below (by omega) (fun b h => by omega))⟩
  clear cg R3 LI PL4 PL5 T4
  go_wp2_with fail
  exact bodyPost_ret (v := .tuple #[.pointer (some ⟨db, 0, none⟩), .pointer (some ⟨lb, 0, none⟩), .pointer (some ⟨rb, 0, none⟩), .pointer (some ⟨kb, 0, none⟩), .bool true]) (by simp [results, Try.f8, go_sem]) rfl ⟨_, _, _, _, rfl, fin.out⟩

set_option maxHeartbeats 1000000 in
theorem laid_41 (w : World) :
    Calls Try.prog 8 #[.int .i64 41] w fun e w' => ∃ dv mv, e = .returned (.tuple #[dv, .pointer none, mv, .pointer none, .bool true]) ∧ Below w.heap.size w w' := by
  have cd := hide (fun (y : World) => dnew_any 41 (by decide) (by decide) y)
  have cr := hide (fun (y : World) => rnew_any 41 (by decide) (by decide) y)
  have hf : (newD 41).fits = false := by
    unfold Dk.fits newD
    rw [List.length_replicate]
    rfl
  have f1 : formE (newD 41) = 190 := by unfold formE; rw [if_pos hf]
  have f2 : formN (newD 41) = newD 41 := by unfold formN; rw [if_pos hf]
  have cf := hide (fun (y : World) (H : Nat → Prop) (db : Nat) (D : PD y H db (newD 41)) => wformat_any D (by show 0 + 3 < 1000000; decide) (by show 0 + 3 < 1000; decide))
  have cg := hide (fun (y : World) (H : Nat → Prop) (rb : Nat) (lv lw : Value) (R : RD y H rb lv lw (newD 41)) => rformat_any R (by show 0 + 3 < 1000000; decide) (by show 0 + 3 < 1000; decide))
  rw [f1, f2] at cf cg
  rw [show ((41 : Nat) : Int) = 41 from rfl] at cd cr
  clear hf f1 f2
  go_enter Try.func8, Try.ntmps8
  go_wp2_with fail
  refine (cd.out _).mono ?_
  rintro e x1 ⟨db, rfl, D1, T1⟩
  have D1 := hide (D1.mono (G := fun k => w.heap.size ≤ k ∧ k < x1.heap.size) (fun k h hl => ⟨h, hl⟩))
  replace T1 := hide T1
  clear cd
  go_wp2_with fail
  refine (cr.out _).mono ?_
  rintro e x2 ⟨rb, lv, lw, rfl, R2, T2⟩
  have D2 := hide (D1.out.on T2)
  have T3 := hide (onto T1.out (Nat.le_refl _) T2)
  have hx01 := T1.out.size
  have hx12 := T2.size
  replace R2 := hide R2
  clear cr D1 T1 T2
  go_wp2_with fail
  refine (cf.out _ _ _ D2.out).mono ?_
  rintro e x3 ⟨lvv, rfl, NL⟩
  obtain ⟨rfl, -⟩ := NL.no (by decide)
  have R3 := hide (R2.out.keep (y := x3) (fun k hk hl => NL.far.block k hl (fun h => by omega)))
  have T4 := hide (T3.out.trans (NL.far.below (by omega) (fun b h => h.1)))
  have hrb := R2.out.h
  clear cf D2 T3 R2 NL
  go_wp2_with fail
  refine (cg.out _ _ _ _ _ R3.out).mono ?_
  rintro e x4 ⟨kv, rfl, LI⟩
  obtain rfl := LI.none (by decide)
  have T5 := hide (T4.out.trans (LI.turn.below (by have := T4.out.size; omega) (fun b h => by omega)))
  clear cg R3 LI T4
  go_wp2_with fail
  exact bodyPost_ret (v := .tuple #[.pointer (some ⟨db, 0, none⟩), .pointer none, .pointer (some ⟨rb, 0, none⟩), .pointer none, .bool true]) (by simp [results, Try.f8, go_sem]) rfl ⟨_, _, rfl, T5.out⟩

end Go.Proofs.Ytgffhnggocbjhaa
