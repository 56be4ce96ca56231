/- Layer 14: the document's May, walked. -/
import Derived.Test.YtnbflahggpehpabQIrRMay
import Derived.Deep.CutRange
namespace Go.Proofs.Ytnbflahggpehpab.Ir
open Go.RowKit
set_option linter.unusedVariables false
set_option maxRecDepth 100000
set_option linter.unusedSimpArgs false

theorem Box.six {w : World} {b : Nat} {m : Mi} (h : Box w b (cellsM m)) : w.cell? ⟨b, 0, none⟩ = some (.int .i64 m.k) ∧ w.cell? ⟨b, 1, none⟩ = some (.int .i64 m.d) ∧ w.cell? ⟨b, 2, none⟩ = some (.int .i64 m.a) ∧
    w.cell? ⟨b, 3, none⟩ = some (.int .i64 m.b) ∧ w.cell? ⟨b, 4, none⟩ = some (.int .u32 m.m) ∧ w.cell? ⟨b, 5, none⟩ = some (.int .i64 m.c) :=
  ⟨h.cell 0, h.cell 1, h.cell 2, h.cell 3, h.cell 4, h.cell 5⟩

set_option maxHeartbeats 8000000 in
theorem rmay_any {w : World} {v : Value} {l : List Mi} (h : IsOps w v l) : Calls Try.prog 11 #[v] w fun e w' => e = .returned (.bool (mayB l)) ∧ Below w.heap.size w w' := by
  obtain ⟨r1, r2, r3, r4, r5, r6, r7, r8, r9⟩ := rowRules
  obtain ⟨s1, s2, s3, s4, s5, s6, s7, s8, s9, s10⟩ := irSizes
  obtain ⟨q1, q2, q3, q4, q5, q6⟩ := irWhole
  obtain ⟨p1, p2, p3, p4, p5, p6, p7⟩ := irParts
  obtain ⟨ad, n, c, rfl, hn, hmx, hm⟩ := h.open'
  replace hm := hide hm
  unfold mayB
  by_cases h16 : l.length ≤ 16
  · have d16 : decide ((16 : Int) < (n : Int)) = false := by simp; omega
    have n16 : n ≤ 16 := by omega
    rw [show decide (l.length ≤ 16) = true by simpa using h16, Bool.true_and]
    obtain ⟨A, hA⟩ : ∃ A, mayFrom 0 l = A := ⟨_, rfl⟩
    rw [hA]
    replace hA := hide hA
    replace hn := hide hn
    clear h h16
    go_enter Try.func11, Try.ntmps11
    go_wp2_with fail
    go_loopw [3] (fun i wr => ∃ (k : Nat) (q : Int), k ≤ n ∧ i = .int .i64 (k : Int) ∧ Hid (mayFrom q (l.drop k) = A) ∧ Hid ((k = 0 ∧ q = 0) ∨ (0 ≤ q ∧ ∃ j m, k = j + 1 ∧ l[j]? = some m ∧ m.c = q)) ∧ Hid (Below w.heap.size w wr)) (fun i _ => n - (intOf i).toNat)
    case atStart => exact ⟨0, 0, Nat.zero_le _, rfl, hide hA.out, hide (Or.inl ⟨rfl, rfl⟩), hide (Below.refl _ _)⟩
    case round =>
      obtain ⟨k, q, hk, rfl, hM, hq, hb⟩ := hrel
      by_cases hlt : k < n
      · have dk : decide ((k : Int) < (n : Int)) = true := by simp; omega
        obtain ⟨m, hm0⟩ : ∃ m, l[k]? = some m := ⟨l[k]'(by have := hn.out; omega), List.getElem?_eq_getElem _⟩
        obtain ⟨g, o, rfl, hg, hM0⟩ := hm.out k m hm0
        have hld : (loadCellsFrom ⟨g, o + k * N6, none⟩ 0 N6 #[]).run Try.prog wr = .ok (cellsM m) wr := (hM0.on hg hb.out).load
        have hb2 := hide (onto hb.out (Nat.le_refl _) (grow wr (.cells (cellsM m) 32)))
        have hM2 := hM.out
        rw [drop_at hm0] at hM2
        unfold mayFrom at hM2
        have hlast : Hid (∀ (f : Bool) (p : Int), ((f = true ∧ q = 0) ∨ (f = false ∧ q = p ∧ 0 ≤ p)) → (ok3 (ok2 (ok1 f p m) m) m && mayFrom m.c (l.drop (k + 1))) = A) := hide (fun f p hfp => by
          rw [ok_is f p q m hfp]
          exact hM2)
        have bx := hide (Box.new wr (cellsM m) 32)
        have hcm : Hid (ok1 true 0 m = true → 0 ≤ m.c) := hide (fun h => by simp [ok1] at h; exact h.2.2.1)
        clear hM hM2 hM0
        go_wp2_with fail
        have hP : Hid (∀ j p, k = j + 1 → l[j]? = some p → wr.cell? ⟨g, o + j * N6 + 5, none⟩ = some (.int .i64 p.c)) := hide (fun j p e hj => by
          obtain ⟨g', o', e', hg', hM'⟩ := hm.out j p hj
          cases e'
          exact (hM'.on hg' hb.out) 5 (by decide))
        have hbW := hide ((Below.refl wr.heap.size wr).alloc (Nat.le_refl _) (.cells (cellsM m) 32))
        obtain ⟨z0, z1, z2, z3, z4, z5⟩ : _ ∧ _ ∧ _ ∧ _ ∧ _ ∧ _ := bx.out.six
        have hgw : g < wr.heap.size := Nat.lt_of_lt_of_le hg hb.out.size
        generalize World.alloc wr _ = W at *
        generalize hLB : wr.heap.size = LB at *
        replace hLB := hide hLB
        replace hm0 := hide hm0
        clear hld bx hm
        go_cut [5] from 9 to 159 (fun s5 x => ∃ (OK f : Bool) (p : Int), s5 = .bool OK ∧ x = W.drew ∧ Hid (OK = ok1 f p m) ∧ Hid ((f = true ∧ q = 0) ∨ (f = false ∧ q = p ∧ 0 ≤ p)))
        case first => as_aux_lemma =>
          clear hlast hcm
          rcases hq.out with ⟨rfl, rfl⟩ | ⟨hq0, j, p, hkj, hj, rfl⟩
          · clear hq hP
            by_cases a1 : 0 ≤ m.k
            · have d1 : decide (0 ≤ m.k) = true := by simpa using a1
              by_cases a2 : m.k ≤ 13
              · have d2 : decide (m.k ≤ 13) = true := by simpa using a2
                by_cases a3 : 0 ≤ m.c
                · have d3 : decide (0 ≤ m.c) = true := by simpa using a3
                  by_cases a4 : m.c ≤ 16
                  · have d4 : decide (m.c ≤ 16) = true := by simpa using a4
                    go_region
                    go_wp2_with fail
                    go_meet
                    case rel => exact ⟨_, true, 0, rfl, rfl, hide (by unfold ok1; simp only [d1, d2, d3, d4]; simp), hide (Or.inl ⟨by first | rfl | trivial, by first | rfl | trivial⟩)⟩
                  · have d4 : decide (m.c ≤ 16) = false := by simpa using a4
                    go_region
                    go_wp2_with fail
                    go_meet
                    case rel => exact ⟨_, true, 0, rfl, rfl, hide (by unfold ok1; simp only [d1, d2, d3, d4]; simp), hide (Or.inl ⟨by first | rfl | trivial, by first | rfl | trivial⟩)⟩
                · have d3 : decide (0 ≤ m.c) = false := by simpa using a3
                  go_region
                  go_wp2_with fail
                  go_meet
                  case rel => exact ⟨_, true, 0, rfl, rfl, hide (by unfold ok1; simp only [d1, d2, d3]; simp), hide (Or.inl ⟨by first | rfl | trivial, by first | rfl | trivial⟩)⟩
              · have d2 : decide (m.k ≤ 13) = false := by simpa using a2
                go_region
                go_wp2_with fail
                go_meet
                case rel => exact ⟨_, true, 0, rfl, rfl, hide (by unfold ok1; simp only [d1, d2]; simp), hide (Or.inl ⟨by first | rfl | trivial, by first | rfl | trivial⟩)⟩
            · have d1 : decide (0 ≤ m.k) = false := by simpa using a1
              go_region
              go_wp2_with fail
              go_meet
              case rel => exact ⟨_, true, 0, rfl, rfl, hide (by unfold ok1; simp only [d1]; simp), hide (Or.inl ⟨by first | rfl | trivial, by first | rfl | trivial⟩)⟩
          · have hc := hP.out j p hkj hj
            have hc2 : W.cell? ⟨g, o + j * N6 + 5, none⟩ = some (.int .i64 p.c) := by
              rw [← hc]
              exact hbW.out.cell (p := ⟨g, o + j * N6 + 5, none⟩) hgw
            have k0 : ((k : Int) == 0) = false := by simp; omega
            have k1 : IntKind.i64.wrap ((k : Int) - 1) = (j : Int) := by simp [IntKind.wrap, IntKind.bits, IntKind.signed]; omega
            have k2 : wrap64 ((k : Int) - 1) = (j : Int) := by unfold wrap64; omega
            have k3 : (k : Int) - 1 = (j : Int) := by omega
            have k4 : (j : Int) < (n : Int) := by omega
            replace hq0 := hide hq0
            replace hkj := hide hkj
            clear hq hP hc hj
            by_cases a1 : 0 ≤ m.k
            · have d1 : decide (0 ≤ m.k) = true := by simpa using a1
              by_cases a2 : m.k ≤ 13
              · have d2 : decide (m.k ≤ 13) = true := by simpa using a2
                by_cases a3 : 0 ≤ m.c
                · have d3 : decide (0 ≤ m.c) = true := by simpa using a3
                  by_cases a4 : m.c ≤ 16
                  · have d4 : decide (m.c ≤ 16) = true := by simpa using a4
                    by_cases a5 : p.c ≤ m.c
                    · have d5 : decide (p.c ≤ m.c) = true := by simpa using a5
                      go_region
                      go_wp2_with fail
                      go_meet
                      case rel => exact ⟨_, false, p.c, rfl, rfl, hide (by unfold ok1; simp only [d1, d2, d3, d4, d5]; simp), hide (Or.inr ⟨by first | rfl | trivial, by first | rfl | trivial, hq0.out⟩)⟩
                    · have d5 : decide (p.c ≤ m.c) = false := by simpa using a5
                      go_region
                      go_wp2_with fail
                      go_meet
                      case rel => exact ⟨_, false, p.c, rfl, rfl, hide (by unfold ok1; simp only [d1, d2, d3, d4, d5]; simp), hide (Or.inr ⟨by first | rfl | trivial, by first | rfl | trivial, hq0.out⟩)⟩
                  · have d4 : decide (m.c ≤ 16) = false := by simpa using a4
                    go_region
                    go_wp2_with fail
                    go_meet
                    case rel => exact ⟨_, false, p.c, rfl, rfl, hide (by unfold ok1; simp only [d1, d2, d3, d4]; simp), hide (Or.inr ⟨by first | rfl | trivial, by first | rfl | trivial, hq0.out⟩)⟩
                · have d3 : decide (0 ≤ m.c) = false := by simpa using a3
                  go_region
                  go_wp2_with fail
                  go_meet
                  case rel => exact ⟨_, false, p.c, rfl, rfl, hide (by unfold ok1; simp only [d1, d2, d3]; simp), hide (Or.inr ⟨by first | rfl | trivial, by first | rfl | trivial, hq0.out⟩)⟩
              · have d2 : decide (m.k ≤ 13) = false := by simpa using a2
                go_region
                go_wp2_with fail
                go_meet
                case rel => exact ⟨_, false, p.c, rfl, rfl, hide (by unfold ok1; simp only [d1, d2]; simp), hide (Or.inr ⟨by first | rfl | trivial, by first | rfl | trivial, hq0.out⟩)⟩
            · have d1 : decide (0 ≤ m.k) = false := by simpa using a1
              go_region
              go_wp2_with fail
              go_meet
              case rel => exact ⟨_, false, p.c, rfl, rfl, hide (by unfold ok1; simp only [d1]; simp), hide (Or.inr ⟨by first | rfl | trivial, by first | rfl | trivial, hq0.out⟩)⟩
        case rest => as_aux_lemma =>
          obtain ⟨OK, f, p, rfl, rfl, hOK, hfp⟩ := hcut
          have hL := hlast.out f p hfp.out
          rw [← hOK.out] at hL
          replace hL := hide hL
          have hc0 : Hid (OK = true → 0 ≤ m.c) := hide (fun h => by rw [hOK.out] at h; simp [ok1] at h; exact h.2.2.1)
          clear hlast hOK hfp hcm hP hq
          go_upto_if 54 with fail
          go_cut [5] from 9 to 159 (fun s5 x => ∃ O2 : Bool, s5 = .bool O2 ∧ x = W.drew ∧ Hid (O2 = ok2 OK m))
          case first =>
            by_cases em : m.m = 0
            · have em' : (m.m == 0) = true := by simpa using em
              go_wp2_with fail
              go_meet
              case rel => exact ⟨_, rfl, rfl, hide (by unfold ok2; rw [if_pos em])⟩
            · have em' : (m.m == 0) = false := by simpa using em
              have em2 : (m.m != 0) = true := by simpa using em
              cases OK
              · go_wp2_with fail
                go_meet
                case rel => exact ⟨_, rfl, rfl, hide (by unfold ok2; rw [if_neg em]; rfl)⟩
              · by_cases e1 : m.k = 1
                · have e1' : (m.k == 1) = true := by simpa using e1
                  go_wp2_with fail
                  go_meet
                  case rel => exact ⟨_, rfl, rfl, hide (by unfold ok2; rw [if_neg em, e1']; rfl)⟩
                · have e1' : (m.k == 1) = false := by simpa using e1
                  by_cases e2 : m.a = 32
                  · have e2' : (m.a == 32) = true := by simpa using e2
                    go_wp2_with fail
                    go_meet
                    case rel => exact ⟨_, rfl, rfl, hide (by unfold ok2; rw [if_neg em, e1', e2']; rfl)⟩
                  · have e2' : (m.a == 32) = false := by simpa using e2
                    by_cases e3 : m.b = 32
                    · have e3' : (m.b == 32) = true := by simpa using e3
                      go_wp2_with fail
                      go_meet
                      case rel => exact ⟨_, rfl, rfl, hide (by unfold ok2; rw [if_neg em, e1', e2', e3']; rfl)⟩
                    · have e3' : (m.b == 32) = false := by simpa using e3
                      go_wp2_with fail
                      go_meet
                      case rel => exact ⟨_, rfl, rfl, hide (by unfold ok2; rw [if_neg em, e1', e2', e3']; rfl)⟩
          case rest =>
            obtain ⟨O2, rfl, rfl, hO2⟩ := hcut
            have hc2 : Hid (O2 = true → 0 ≤ m.c) := hide (fun h => by
              rw [hO2.out] at h
              unfold ok2 at h
              split at h
              · exact hc0.out h
              · simp at h; exact hc0.out h.1)
            have hL' := hL.out
            rw [← hO2.out] at hL'
            replace hL := hide hL'
            have ca := hide (rreg_any m.a)
            have cb := hide (rreg_any m.b)
            obtain ⟨Oa, hOa⟩ : ∃ O, oprB m.a = O := ⟨_, rfl⟩
            obtain ⟨Ob, hOb⟩ : ∃ O, oprB m.b = O := ⟨_, rfl⟩
            rw [hOa] at ca
            rw [hOb] at cb
            replace hOa := hide hOa
            replace hOb := hide hOb
            clear hL' hO2 hc0
            cases O2
            · have hF : A = false := by
                rw [← hL.out]
                unfold ok3
                split
                · rfl
                · split
                  · rfl
                  · split <;> rfl
              subst hF
              by_cases h0 : m.k = 0
              · have h0' : (m.k == 0) = true := by simpa using h0
                go_wp2
                go_ret
                exact ⟨rfl, hb2.out.drew⟩
              · have h0' : (m.k == 0) = false := by simpa using h0
                by_cases h1 : m.k = 1
                · have h1' : (m.k == 1) = true := by simpa using h1
                  go_wp2
                  go_ret
                  exact ⟨rfl, hb2.out.drew⟩
                · have h1' : (m.k == 1) = false := by simpa using h1
                  by_cases h2 : m.k = 2
                  · have h2' : (m.k == 2) = true := by simpa using h2
                    go_wp2
                    go_ret
                    exact ⟨rfl, hb2.out.drew⟩
                  · have h2' : (m.k == 2) = false := by simpa using h2
                    go_wp2
                    go_ret
                    exact ⟨rfl, hb2.out.drew⟩
            · have hcp := hc2.out rfl
              clear hc2
              by_cases h0 : m.k = 0
              · have h0' : (m.k == 0) = true := by simpa using h0
                by_cases e1 : m.d = 0
                · have e1' : (m.d == 0) = true := by simpa using e1
                  by_cases e2 : m.a = 0
                  · have e2' : (m.a == 0) = true := by simpa using e2
                    by_cases e3 : m.b = 0
                    · have e3' : (m.b == 0) = true := by simpa using e3
                      have hL2 : Hid (mayFrom m.c (l.drop (k + 1)) = A) := hide (by rw [← hL.out]; simp [ok3, h0, e1, e2, e3])
                      go_wp2
                      go_roundw
                      case rel => exact ⟨k + 1, m.c, by omega, by go_num, hL2, hide (Or.inr ⟨hcp, k, m, rfl, hm0.out, rfl⟩), hide hb2.out.drew⟩
                      case measure => simp [intOf]; omega
                    · have e3' : (m.b == 0) = false := by simpa using e3
                      have hF : A = false := by rw [← hL.out]; simp [ok3, h0, e1, e2, e3]
                      subst hF
                      go_wp2
                      go_ret
                      exact ⟨rfl, hb2.out.drew⟩
                  · have e2' : (m.a == 0) = false := by simpa using e2
                    have hF : A = false := by rw [← hL.out]; simp [ok3, h0, e1, e2]
                    subst hF
                    go_wp2
                    go_ret
                    exact ⟨rfl, hb2.out.drew⟩
                · have e1' : (m.d == 0) = false := by simpa using e1
                  have hF : A = false := by rw [← hL.out]; simp [ok3, h0, e1]
                  subst hF
                  go_wp2
                  go_ret
                  exact ⟨rfl, hb2.out.drew⟩
              · have h0' : (m.k == 0) = false := by simpa using h0
                by_cases h1 : m.k = 1
                · have h1' : (m.k == 1) = true := by simpa using h1
                  by_cases e1 : 1 ≤ m.d
                  · have e1' : decide (1 ≤ m.d) = true := by simpa using e1
                    by_cases e2 : m.d ≤ 31
                    · have e2' : decide (m.d ≤ 31) = true := by simpa using e2
                      by_cases e3 : m.a = 0
                      · have e3' : (m.a == 0) = true := by simpa using e3
                        by_cases e4 : m.b = 0
                        · have e4' : (m.b == 0) = true := by simpa using e4
                          have hL2 : Hid (mayFrom m.c (l.drop (k + 1)) = A) := hide (by rw [← hL.out]; simp [ok3, h1, e1, e2, e3, e4])
                          go_wp2
                          go_roundw
                          case rel => exact ⟨k + 1, m.c, by omega, by go_num, hL2, hide (Or.inr ⟨hcp, k, m, rfl, hm0.out, rfl⟩), hide hb2.out.drew⟩
                          case measure => simp [intOf]; omega
                        · have e4' : (m.b == 0) = false := by simpa using e4
                          have hF : A = false := by rw [← hL.out]; simp [ok3, h1, e1, e2, e3, e4]
                          subst hF
                          go_wp2
                          go_ret
                          exact ⟨rfl, hb2.out.drew⟩
                      · have e3' : (m.a == 0) = false := by simpa using e3
                        have hF : A = false := by rw [← hL.out]; simp [ok3, h1, e1, e2, e3]
                        subst hF
                        go_wp2
                        go_ret
                        exact ⟨rfl, hb2.out.drew⟩
                    · have e2' : decide (m.d ≤ 31) = false := by simpa using e2
                      have hF : A = false := by rw [← hL.out]; simp [ok3, h1, e1, e2']
                      subst hF
                      go_wp2
                      go_ret
                      exact ⟨rfl, hb2.out.drew⟩
                  · have e1' : decide (1 ≤ m.d) = false := by simpa using e1
                    have hF : A = false := by rw [← hL.out]; simp [ok3, h1, e1']
                    subst hF
                    go_wp2
                    go_ret
                    exact ⟨rfl, hb2.out.drew⟩
                · have h1' : (m.k == 1) = false := by simpa using h1
                  by_cases h2 : m.k = 2
                  · have h2' : (m.k == 2) = true := by simpa using h2
                    by_cases e1 : 1 ≤ m.d
                    · have e1' : decide (1 ≤ m.d) = true := by simpa using e1
                      by_cases e2 : m.d ≤ 31
                      · have e2' : decide (m.d ≤ 31) = true := by simpa using e2
                        go_wp2_with fail
                        refine (ca.out _).mono ?_
                        rintro e w2 ⟨rfl, rfl⟩
                        cases Oa
                        · have hF : A = false := by rw [← hL.out]; simp [ok3, h0, h1, h2, e1, e2, hOa.out]
                          subst hF
                          go_wp2
                          go_ret
                          exact ⟨rfl, hb2.out.drew⟩
                        · by_cases e4 : m.b = 0
                          · have e4' : (m.b == 0) = true := by simpa using e4
                            have hL2 : Hid (mayFrom m.c (l.drop (k + 1)) = A) := hide (by rw [← hL.out]; simp [ok3, h0, h1, h2, e1, e2, hOa.out, e4])
                            go_wp2
                            go_roundw
                            case rel => exact ⟨k + 1, m.c, by omega, by go_num, hL2, hide (Or.inr ⟨hcp, k, m, rfl, hm0.out, rfl⟩), hide hb2.out.drew⟩
                            case measure => simp [intOf]; omega
                          · have e4' : (m.b == 0) = false := by simpa using e4
                            have hF : A = false := by rw [← hL.out]; simp [ok3, h0, h1, h2, e1, e2, hOa.out, e4]
                            subst hF
                            go_wp2
                            go_ret
                            exact ⟨rfl, hb2.out.drew⟩
                      · have e2' : decide (m.d ≤ 31) = false := by simpa using e2
                        have hF : A = false := by rw [← hL.out]; simp [ok3, h0, h1, h2, e1, e2']
                        subst hF
                        go_wp2
                        go_ret
                        exact ⟨rfl, hb2.out.drew⟩
                    · have e1' : decide (1 ≤ m.d) = false := by simpa using e1
                      have hF : A = false := by rw [← hL.out]; simp [ok3, h0, h1, h2, e1']
                      subst hF
                      go_wp2
                      go_ret
                      exact ⟨rfl, hb2.out.drew⟩
                  · have h2' : (m.k == 2) = false := by simpa using h2
                    by_cases e1 : 1 ≤ m.d
                    · have e1' : decide (1 ≤ m.d) = true := by simpa using e1
                      by_cases e2 : m.d ≤ 31
                      · have e2' : decide (m.d ≤ 31) = true := by simpa using e2
                        go_wp2_with fail
                        refine (ca.out _).mono ?_
                        rintro e w2 ⟨rfl, rfl⟩
                        cases Oa
                        · have hF : A = false := by rw [← hL.out]; simp [ok3, h0, h1, h2, e1, e2, hOa.out]
                          subst hF
                          go_wp2
                          go_ret
                          exact ⟨rfl, hb2.out.drew⟩
                        · go_wp2_with fail
                          refine (cb.out _).mono ?_
                          rintro e w2 ⟨rfl, rfl⟩
                          cases Ob
                          · have hF : A = false := by rw [← hL.out]; simp [ok3, h0, h1, h2, e1, e2, hOa.out, hOb.out]
                            subst hF
                            go_wp2
                            go_ret
                            exact ⟨rfl, hb2.out.drew⟩
                          · have hL2 : Hid (mayFrom m.c (l.drop (k + 1)) = A) := hide (by rw [← hL.out]; simp [ok3, h0, h1, h2, e1, e2, hOa.out, hOb.out])
                            go_wp2
                            go_roundw
                            case rel => exact ⟨k + 1, m.c, by omega, by go_num, hL2, hide (Or.inr ⟨hcp, k, m, rfl, hm0.out, rfl⟩), hide hb2.out.drew⟩
                            case measure => simp [intOf]; omega
                      · have e2' : decide (m.d ≤ 31) = false := by simpa using e2
                        have hF : A = false := by rw [← hL.out]; simp [ok3, h0, h1, h2, e1, e2']
                        subst hF
                        go_wp2
                        go_ret
                        exact ⟨rfl, hb2.out.drew⟩
                    · have e1' : decide (1 ≤ m.d) = false := by simpa using e1
                      have hF : A = false := by rw [← hL.out]; simp [ok3, h0, h1, h2, e1']
                      subst hF
                      go_wp2
                      go_ret
                      exact ⟨rfl, hb2.out.drew⟩
      · have dk : decide ((k : Int) < (n : Int)) = false := by simp; omega
        have hF : A = true := by rw [← hM.out, List.drop_eq_nil_of_le (by have := hn.out; omega)]; rfl
        subst hF
        go_wp2
        go_ret
        exact ⟨rfl, hb.out⟩
  · have d16 : decide ((16 : Int) < (n : Int)) = true := by simp; omega
    rw [show decide (l.length ≤ 16) = false by simpa using h16, Bool.false_and]
    replace hn := hide hn
    clear h h16
    go_enter Try.func11, Try.ntmps11
    go_wp2
    go_ret
    exact ⟨rfl, Below.refl _ _⟩

end Go.Proofs.Ytnbflahggpehpab.Ir
