/- Layer 10: contracts of the uart of bytes, the program's (a uart's bytes) and the document's. -/
import Derived.Test.YtdapjpbdplhgbaaUaParse
import Derived.Test.YtdapjpbdplhgbaaUaRText
namespace Go.Proofs.Ytdapjpbdplhgbaa.Ua
open Go.RowKit
set_option linter.unusedVariables false
set_option maxRecDepth 100000
set_option linter.unusedSimpArgs false

set_option maxRecDepth 100000 in
set_option maxHeartbeats 2000000 in
theorem parse_yes {s : ByteArray} (hl : s.size ≤ maxLen) (hg : Good s) (w : World) :
    Calls Try.prog 57 #[.string s] w fun e w' => e = .returned (.tuple #[.agg (cellsU (uaOf s)), .int .i64 0]) ∧ Below w.heap.size w w' := by
  obtain ⟨t1, t2, t3, t4, t5, t6, t7, t8, t9⟩ := uaRules
  obtain ⟨p0, p1, p2⟩ := uaParts
  obtain ⟨s0, s1, s2⟩ := uaSets
  obtain ⟨d1, d2, d3⟩ := uaDrew
  obtain ⟨hz, h1, m1, m2, h4⟩ := hg
  have hd : s.toList.isEmpty = false := by rw [empty_iff]; simpa using (show ¬ s.size = 0 by omega)
  have hb : byteN s 0 = (s[0]'(by omega)).toNat := byteN_in s 0 (by omega)
  have hlt : (s[0]'(by omega)).toNat < 256 := (s[0]'(by omega)).toNat_lt
  have hd2 : (tailT (tailT (s.extract 1 s.size))).toList.isEmpty = true := by rw [empty_iff]; simp [h4]
  have hr : (s.extract 1 s.size).size ≤ maxLen := by rw [ByteArray.size_extract]; omega
  have hr2 : (tailT (s.extract 1 s.size)).size ≤ maxLen := Nat.le_trans (tail_size _) hr
  have c1 := hide fun W => taken_yes hr (by decide) m1 W
  have c2 := hide fun W => taken_yes hr2 (by decide) m2 W
  unfold uaOf
  rw [hb] at h1 ⊢
  have h1' : ¬ 1 < (s[0]'(by omega)).toNat := by omega
  clear m1 m2 h4 hr hr2 hb h1
  unfold maxLen at hl
  generalize headT (tailT (s.extract 1 s.size)) = o at *
  generalize tailT (tailT (s.extract 1 s.size)) = z at *
  generalize headT (s.extract 1 s.size) = i at *
  generalize tailT (s.extract 1 s.size) = t at *
  have P0 := hide fun r => pair_new w r
  go_enter Try.func57, Try.ntmps57
  go_wp2
  go_step3
  go_wp2_with fail
  refine (c1.out _).mono ?_
  rintro e w1 ⟨rfl, b1⟩
  have P1 := pair_on (P0.out _) b1
  obtain ⟨x1, x2, x3, x4⟩ := P1.2.1.open_
  replace P1 := hide P1
  clear b1
  go_wp2_with fail
  have P2 := pair_i P1.out i
  clear x1 x2 x3 x4
  generalize w1.setCell ⟨w.heap.size + 1, 0, none⟩ (.string i) = v1 at *
  clear P1
  refine (c2.out _).mono ?_
  rintro e w2 ⟨rfl, b2⟩
  have P3 := pair_on P2 b2
  clear P2 b2
  obtain ⟨x1, x2, x3, x4⟩ := P3.2.1.open_
  have P4 := pair_o P3 o
  have l4 := P4.2.1.load
  have y1 := P4.1.1
  have y2 := P4.1.2.1
  replace P3 := hide P3
  replace P4 := hide P4
  go_wp2
  rw [Exit.noGoto_ret]
  exact bodyPost_ret (v := .tuple #[.agg (cellsU ⟨i, o, ((s[0]'(by omega)).toNat : Int) == 1⟩), .int .i64 0]) (by simp [results, Try.results57, go_sem, t1, t9, y1]) rfl ⟨rfl, below_setRow P4.out.2.2 (Nat.le_refl _) _⟩

theorem bytes_ne {a b : ByteArray} (h : ¬ a = b) : (a.toList == b.toList) = false := by
  rw [ByteArray.toList_eq, ByteArray.toList_eq]
  simp only [beq_eq_false_iff_ne]
  intro c
  apply h
  apply ByteArray.ext
  exact Array.toList_inj.1 c

/-- None of the document's uarts ahead of the n-th is it. -/
def NoneTill (s : ByteArray) (n : Nat) : Prop := ∀ j, j < n → j + 3 ≤ s.size → (cand s j).o.size ≤ 64 → ¬ textV (cand s j) = s

theorem cand_sizes {s : ByteArray} {n : Nat} (h : n + 3 ≤ s.size) : (cand s n).i.size = n ∧ (cand s n).o.size = s.size - (3 + n) := by
  constructor
  · show (s.extract 2 (2 + n)).size = n
    rw [ByteArray.size_extract]
    omega
  · show (s.extract (3 + n) s.size).size = _
    rw [ByteArray.size_extract]
    omega

/-- Where none is found there is none. -/
theorem none_good {s : ByteArray} {n : Nat} (h : NoneTill s n) (he : 16 < n ∨ s.size < n + 3) : ¬ Good s := by
  intro hg
  obtain ⟨hf, ht⟩ := good_text hg
  have hz := (text_good hf).2.2
  have hc := cand_of hf
  rw [ht] at hz hc
  have hi := hf.i
  have ho := hf.o
  refine h (uaOf s).i.size (by omega) (by omega) ?_ ?_
  · rw [hc]; exact ho
  · rw [hc]; exact ht

set_option maxRecDepth 100000 in
set_option maxHeartbeats 2000000 in
theorem rparse_any (s : ByteArray) (hl : s.size ≤ maxLen) (q : Ua) (f : Int) (hq : Good s ∧ q = uaOf s ∧ f = 0 ∨ ¬ Good s ∧ q = U0 ∧ f = 100) (w : World) :
    Calls Try.prog 30 #[.string s] w fun e w' => e = .returned (.tuple #[.agg (cellsU q), .int .i64 f]) ∧ Below w.heap.size w w' := by
  obtain ⟨t1, t2, t3, t4, t5, t6, t7, t8, t9⟩ := uaRules
  obtain ⟨p0, p1, p2⟩ := uaParts
  obtain ⟨s0, s1, s2⟩ := uaSets
  obtain ⟨d1, d2, d3⟩ := uaDrew
  have n1 : ¬ N3 < 1 := by decide
  have n2 : ¬ N3 < 2 := by decide
  have n3 : ¬ N3 < 3 := by decide
  have n0 : ¬ cellsU U0 = #[] := by unfold cellsU; simp
  unfold maxLen at hl
  replace hq := hide hq
  go_enter Try.func30, Try.ntmps30
  go_wp2
  go_loopw [4] (fun i wr => ∃ n : Nat, n ≤ 17 ∧ i = .int .i64 n ∧ Hid (NoneTill s n) ∧ Hid (Rat wr w.heap.size U0 ∧ Below w.heap.size w wr)) (fun i _ => 17 - (intOf i).toNat)
  case atStart => exact ⟨0, by omega, rfl, fun j hj => absurd hj (by omega), Rat.new w U0 _, grow _ _⟩
  case round =>
    obtain ⟨n, hn, rfl, hN, hR⟩ := hrel
    by_cases h16 : n ≤ 16
    · by_cases h3 : n + 3 ≤ s.size
      · have hd : decide ((n : Int) ≤ (s.size : Int) - 3) = true := by simp; omega
        have hi : byteN s 0 = (s[0]'(by omega)).toNat := byteN_in s 0 (by omega)
        have hlt : (s[0]'(by omega)).toNat < 256 := (s[0]'(by omega)).toNat_lt
        have q1 : 0 < s.size := by omega
        have q2 : 2 + n ≤ s.size := by omega
        have q3 : 3 + n ≤ s.size := by omega
        go_wp2
        go_region
        have hcand : (⟨s.extract 2 (2 + n), s.extract (3 + n) s.size, ((s[0]'(by omega)).toNat : Int) == 1⟩ : Ua) = cand s n := by unfold cand; rw [hi]
        obtain ⟨z1, z2⟩ := cand_sizes h3
        simp only [hcand]
        have hnew := Rat.new wr (cand s n) 64
        have hfit : (cand s n).o.size ≤ 64 → Fits (cand s n) := fun h => ⟨by omega, h⟩
        have hyes : textV (cand s n) = s → (cand s n).o.size ≤ 64 → q = cand s n ∧ f = 0 := by
          intro e h
          obtain ⟨g1, g2, -⟩ := text_good (hfit h)
          rw [e] at g1 g2
          rcases hq.out with h | h
          · exact ⟨h.2.1.trans g2, h.2.2⟩
          · exact absurd g1 h.1
        have hnext : ¬ ((cand s n).o.size ≤ 64 ∧ textV (cand s n) = s) → NoneTill s (n + 1) := by
          intro h j hj k1 k2 k3
          rcases Nat.lt_or_ge j n with hlt | hge
          · exact hN.out j hlt k1 k2 k3
          · rw [show j = n by omega] at k2 k3
            exact h ⟨k2, k3⟩
        have hbig : (cand s n).o.size ≤ 9223372036854775807 := by omega
        clear hcand hi hlt z1 z2 hd q2 q3 hN
        generalize cand s n = c at *
        have R0 := hR.out.1.on (grow wr (.cells (cellsU c) 64)).drew
        have B0 := onto hR.out.2 (Nat.le_refl _) (grow wr (.cells (cellsU c) 64)).drew
        have R1 : Rat (wr.alloc (.cells (cellsU c) 64)).drew wr.heap.size c := hnew
        clear hnew hR
        have l1 := R1.load
        have l2 := R1.cell 1
        rw [p1] at l2
        generalize (wr.alloc (.cells (cellsU c) 64)).drew = v1 at *
        generalize wr.heap.size = L at *
        replace R1 := hide R1
        replace R0 := hide R0
        replace B0 := hide B0
        replace hnext := hide hnext
        replace hyes := hide hyes
        by_cases ho : c.o.size ≤ 64
        · have c1 := hide fun W => rtext_any c (hfit ho) W
          clear hfit
          have hd : decide ((c.o.size : Int) ≤ 64) = true := by simp; omega
          go_wp2_with fail
          refine (c1.out _).mono ?_
          rintro e w1 ⟨rfl, b1⟩
          have l3 := (R1.out.on b1).load
          have R2 := R0.out.on b1
          have B2 := hide (onto B0.out (Nat.le_refl _) b1)
          clear b1 l1 l2 R1 R0 B0 c1
          by_cases hT : textV c = s
          · have he : ((textV c).toList == s.toList) = true := by rw [hT]; simp
            obtain ⟨rfl, rfl⟩ := hyes.out hT ho
            have x1 := R2.1
            have x2 := R2.2.1
            clear hnext hyes hT
            generalize textV q = T at *
            go_wp2
            exact bodyPost_ret (v := .tuple #[.agg (cellsU q), .int .i64 0]) (by simp [results, Try.results30, go_sem, t1, t9, x1]) rfl ⟨rfl, below_setRow B2.out (Nat.le_refl _) _⟩
          · have he := bytes_ne hT
            have hN := hide (hnext.out fun h => hT h.2)
            clear hnext hyes hT
            generalize textV c = T at *
            go_wp2
            go_roundw
            case rel => exact ⟨n + 1, by omega, by go_num, hN, R2, B2.out⟩
            case measure => simp [intOf]; omega
        · have hd : decide ((c.o.size : Int) ≤ 64) = false := by simp; omega
          have hN := hide (hnext.out fun h => ho h.1)
          clear hnext hyes hfit
          go_wp2
          go_roundw
          case rel => exact ⟨n + 1, by omega, by go_num, hN, R0.out, B0.out⟩
          case measure => simp [intOf]; omega
      · have hd : decide ((n : Int) ≤ (s.size : Int) - 3) = false := by simp; omega
        obtain ⟨rfl, rfl⟩ : q = U0 ∧ f = 100 := by
          rcases hq.out with h | h
          · exact absurd h.1 (none_good hN.out (Or.inr (by omega)))
          · exact h.2
        have x1 := hR.out.1.1
        have x2 := hR.out.1.2.1
        clear hq hN
        go_wp2
        exact bodyPost_ret (v := .tuple #[.agg (cellsU U0), .int .i64 100]) (by simp [results, Try.results30, go_sem, t1, t9, x1]) rfl ⟨rfl, below_setRow hR.out.2 (Nat.le_refl _) _⟩
    · obtain ⟨rfl, rfl⟩ : q = U0 ∧ f = 100 := by
        rcases hq.out with h | h
        · exact absurd h.1 (none_good hN.out (Or.inl (by omega)))
        · exact h.2
      have x1 := hR.out.1.1
      have x2 := hR.out.1.2.1
      clear hq hN
      go_wp2
      exact bodyPost_ret (v := .tuple #[.agg (cellsU U0), .int .i64 100]) (by simp [results, Try.results30, go_sem, t1, t9, x1]) rfl ⟨rfl, below_setRow hR.out.2 (Nat.le_refl _) _⟩

end Go.Proofs.Ytdapjpbdplhgbaa.Ua
