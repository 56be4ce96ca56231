/- Layer 19: the document's log: where it lies; do cells rise; what is done to its disk. -/
import Derived.Test.YtgffhnggocbjhaaQWlHead
import Derived.Test.YtgffhnggocbjhaaQDkRef6
import Derived.BigQuiet
import Derived.Deep.QuietTactic
namespace Go.Proofs.Ytgffhnggocbjhaa
open Go.RowKit
set_option linter.unusedVariables false
set_option maxRecDepth 100000
set_option linter.unusedSimpArgs false

/-- The cells of a log (the document's): its disk, its number, is it dead. -/
def cellsG (rb : Nat) (n : Nat) (dead : Bool) : Array Value := #[.pointer (some ⟨rb, 0, none⟩), .int .i64 (n : Int), .bool dead]

theorem riseK_at {own : Int} {ks : List Int} {k : Nat} {x : Int} (h : ks[k]? = some x) (y : Int) (hy : k = 0 ∨ ks[k - 1]? = some y) :
    riseK own ks (k + 1) = (riseK own ks k && (decide (0 ≤ x) && decide (x < own) && (decide (k = 0) || decide (y < x)))) := by
  rw [riseK, getD_some h]
  rcases hy with rfl | hy
  · simp
  · rw [getD_some hy]

theorem riseK_stop {own : Int} {ks : List Int} {k : Nat} (h : riseK own ks k = false) : ∀ j, riseK own ks (k + j) = false
  | 0 => h
  | j + 1 => by rw [show k + (j + 1) = k + j + 1 by omega, riseK, riseK_stop h j]; rfl

set_option maxHeartbeats 4000000 in
set_option maxRecDepth 100000 in
theorem rrise_any {w : World} {H G : Nat → Prop} {lb rb N : Nat} {dead : Bool} {lv lw v : Value} {d : Dk} {c : Cl} (L : Box w lb (cellsG rb N dead)) (R : RD w H rb lv lw d) (C : CW w G v c) :
    Calls Try.prog 49 #[.pointer (some ⟨lb, 0, none⟩), v] w fun e w' => e = .returned (.bool (riseK d.own (c.map (·.1)) c.length)) ∧ Below w.heap.size w w' := by
  obtain ⟨a, cap, rfl, hc, hm, hx⟩ := C
  obtain ⟨a2, c2, rfl, hc2, hm2, -⟩ := R.s.open'
  have b0 : w.cell? ⟨lb, 0, none⟩ = some (.pointer (some ⟨rb, 0, none⟩)) := L.cell 0
  have r0 : w.cell? ⟨rb, 0, none⟩ = some (.slice a2 d.S.length c2) := R.box.cell 0
  have hlb := L.2.2
  have hrb := R.box.2.2
  have s2 := R.g.s2
  have s1 := R.g.s1
  obtain ⟨m, hmm⟩ : ∃ m, m = d.S.length := ⟨_, rfl⟩
  obtain ⟨n, hnn⟩ : ∃ n, n = c.length := ⟨_, rfl⟩
  have how : d.own = (m : Int) - 34 := by rw [hmm]; rfl
  rw [← hmm] at r0 hc2 hm2 s2 s1
  rw [← hnn] at hc hm ⊢
  rw [how]
  obtain ⟨ks, hks⟩ : ∃ ks, Hid (ks = c.map (·.1)) := ⟨_, hide rfl⟩
  rw [← hks.out]
  obtain ⟨O, hO⟩ : ∃ O : Int, O = (m : Int) - 34 := ⟨_, rfl⟩
  rw [← hO]
  have hw1 : IntKind.i64.wrap ((m : Int) - 34) = O := by rw [hO]; simp [IntKind.wrap, IntKind.bits, IntKind.signed]; omega
  replace hx := hide hx
  replace hnn := hide hnn
  have hstop := hide (fun k h => riseK_stop (own := O) (ks := ks) (k := k) h)
  clear L R how hO hmm
  go_enter Try.func49, Try.ntmps49
  go_wp2
  go_loopw [5] (fun i y => ∃ k : Nat, k ≤ n ∧ i = .int .i64 (k : Int) ∧ Hid (Below w.heap.size w y) ∧ Hid (riseK O ks k = true)) (fun i _ => n - (intOf i).toNat)
  case atStart => exact ⟨0, Nat.zero_le _, rfl, hide (Below.refl _ _), hide rfl⟩
  case round =>
    obtain ⟨k, hk, rfl, hB, hr⟩ := hrel
    have b0' : wr.cell? ⟨lb, 0, none⟩ = some (.pointer (some ⟨rb, 0, none⟩)) := (hB.out.cell (p := ⟨lb, 0, none⟩) hlb).trans b0
    have r0' : wr.cell? ⟨rb, 0, none⟩ = some (.slice a2 m c2) := (hB.out.cell (p := ⟨rb, 0, none⟩) hrb).trans r0
    by_cases h : k < n
    · obtain ⟨p, hp⟩ : ∃ p, c[k]? = some p := ⟨c[k]'(by have := hnn.out; omega), List.getElem?_eq_getElem _⟩
      obtain ⟨g, rfl, hg, -, q0, -⟩ := hx.out k p hp
      have hkx : ks[k]? = some p.1 := by rw [hks.out, List.getElem?_map, hp]; rfl
      obtain ⟨x, hxx⟩ : ∃ x, x = p.1 := ⟨_, rfl⟩
      rw [← hxx] at q0 hkx
      have q := (hB.out.cell (p := ⟨g, k * 2, none⟩) hg).trans q0
      clear q0
      have bad : Hid (riseK O ks (k + 1) = false → riseK O ks n = false) := hide (fun hf => by
        have := hstop.out (k + 1) hf (n - (k + 1))
        rwa [show k + 1 + (n - (k + 1)) = n by omega] at this)
      by_cases hx0 : x < 0
      · have hf : Hid (riseK O ks n = false) := hide <| bad.out (by rw [riseK, getD_some hkx, show decide (0 ≤ x) = false by simpa using hx0]; simp)
        clear bad hp hxx hkx
        go_wp2_with fail
        go_quiet (fail)
        go_wp2_with fail
        go_ret
        exact ⟨by rw [hf.out]; rfl, below_drewN hB.out _⟩
      · have hd0 : decide (x < 0) = false := by simpa using hx0
        by_cases hx1 : O ≤ x
        · have hf : Hid (riseK O ks n = false) := hide <| bad.out (by rw [riseK, getD_some hkx, show decide (x < O) = false by simpa using hx1]; simp)
          clear bad hp hxx hkx
          go_wp2_with fail
          go_quiet (fail)
          go_wp2_with fail
          go_ret
          exact ⟨by rw [hf.out]; rfl, below_drewN hB.out _⟩
        · have hd1 : decide (O ≤ x) = false := by simpa using hx1
          by_cases hk0 : k = 0
          · subst hk0
            have hn1 : Hid (riseK O ks (0 + 1) = true) := hide (by
              rw [riseK, getD_some hkx, show decide (0 ≤ x) = true by simpa using hx0, show decide (x < O) = true by simpa using hx1]; rfl)
            clear bad hp hxx hkx
            go_wp2_with fail
            go_quiet (fail)
            go_wp2_with fail
            go_roundw
            case rel => exact ⟨0 + 1, by omega, by go_num, hide (below_drewN hB.out _), hn1⟩
            case measure => simp [intOf]; omega
          · obtain ⟨p', hp'⟩ : ∃ p, c[k - 1]? = some p := ⟨c[k - 1]'(by have := hnn.out; omega), List.getElem?_eq_getElem _⟩
            obtain ⟨g', e', hg', -, q0', -⟩ := hx.out (k - 1) p' hp'
            injection e' with e'
            injection e' with e'
            subst e'
            have hky : ks[k - 1]? = some p'.1 := by rw [hks.out, List.getElem?_map, hp']; rfl
            obtain ⟨y, hyy⟩ : ∃ y, y = p'.1 := ⟨_, rfl⟩
            rw [← hyy] at q0' hky
            have q' := (hB.out.cell (p := ⟨g, (k - 1) * 2, none⟩) hg).trans q0'
            clear q0'
            have hwk : IntKind.i64.wrap ((k : Int) - 1) = (k : Int) - 1 := by simp [IntKind.wrap, IntKind.bits, IntKind.signed]; omega
            have hk1 : ((k : Int) - 1).toNat = k - 1 := by omega
            have hk2 : 0 ≤ (k : Int) - 1 := by omega
            have hk3 : (k : Int) - 1 < (n : Int) := by omega
            have hk4 : 0 < k := by omega
            have hk5 : decide (0 < k) = true := by simpa using hk4
            have hstep := riseK_at (own := O) hkx y (.inr hky)
            rw [hr.out, show decide (0 ≤ x) = true by simpa using hx0, show decide (x < O) = true by simpa using hx1, show decide (k = 0) = false by simpa using hk0] at hstep
            by_cases hxy : y < x
            · have hd2 : decide (x ≤ y) = false := by simp; omega
              have hn1 : Hid (riseK O ks (k + 1) = true) := hide (by rw [hstep, show decide (y < x) = true by simpa using hxy]; rfl)
              clear bad hp hxx hkx hp' hyy hky hstep
              go_wp2_with fail
              go_quiet (fail)
              go_wp2_with fail
              go_roundw
              case rel => exact ⟨k + 1, by omega, by go_num, hide (below_drewN hB.out _), hn1⟩
              case measure => simp [intOf]; omega
            · have hd2 : x ≤ y := by omega
              have hf : Hid (riseK O ks n = false) := hide <| bad.out (by rw [hstep, show decide (y < x) = false by simpa using hxy]; rfl)
              clear bad hp hxx hkx hp' hyy hky hstep
              go_wp2_with fail
              go_quiet (fail)
              go_wp2_with fail
              go_ret
              exact ⟨by rw [hf.out]; rfl, below_drewN hB.out _⟩
    · obtain rfl : k = n := by omega
      go_wp2
      go_ret
      exact ⟨by rw [hr.out]; rfl, hB.out⟩

end Go.Proofs.Ytgffhnggocbjhaa
