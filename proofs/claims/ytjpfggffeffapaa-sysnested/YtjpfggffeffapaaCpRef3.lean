/- Layer 8: contracts of the document's Pending and Raise. -/
import Derived.Test.YtjpfggffeffapaaCpRef
namespace Go.Proofs.Ytjpfggffeffapaa
open Go.RowKit
set_option linter.unusedVariables false

/-- Is there a bit from 8 up to k in both words? -/
def AnyTill (s c : Int) (k : Nat) (b : Bool) : Prop := b = true ↔ ∃ j : Nat, 8 ≤ j ∧ j < k ∧ bit s j = true ∧ bit c j = true

theorem AnyTill.start (s c : Int) : AnyTill s c 8 false := by
  unfold AnyTill
  constructor
  · intro h; cases h
  · rintro ⟨j, h1, h2, _⟩; omega

theorem AnyTill.next {s c : Int} {k : Nat} {b x : Bool} (h : AnyTill s c k b) (hk : 8 ≤ k) (hx : x = (b || (bit s k && bit c k))) : AnyTill s c (k + 1) x := by
  unfold AnyTill at *
  subst hx
  constructor
  · intro e
    rw [Bool.or_eq_true, Bool.and_eq_true] at e
    rcases e with e | e
    · obtain ⟨j, a1, a2, a3⟩ := h.1 e
      exact ⟨j, a1, by omega, a3⟩
    · exact ⟨k, hk, by omega, e⟩
  · rintro ⟨j, a1, a2, a3, a4⟩
    rw [Bool.or_eq_true, Bool.and_eq_true]
    by_cases e : j = k
    · subst e; exact Or.inr ⟨a3, a4⟩
    · exact Or.inl (h.2 ⟨j, a1, by omega, a3, a4⟩)

theorem any_is {s c : Int} (hs : W32 s) (hc : W32 c) {b : Bool} (h : AnyTill s c 16 b) : b = (bits .and .u32 (bits .and .u32 s c) 65280 != 0) := by
  have hm : W32 65280 := w_of _ (by omega) (by omega)
  have hsc := and_w hs hc
  have hx := and_w hsc hm
  have hb : ∀ i, bit (bits .and .u32 (bits .and .u32 s c) 65280) i = ((bit s i && bit c i) && bit 65280 i) := fun i => by rw [bit_and hsc hm, bit_and hs hc]
  have h8 : ∀ i : Nat, i < 32 → bit 65280 i = decide (8 ≤ i ∧ i < 16) := by decide +kernel
  rw [Bool.eq_iff_iff]
  unfold AnyTill at h
  rw [h, bne_iff_ne]
  constructor
  · rintro ⟨j, a1, a2, a3, a4⟩ e
    have := hb j
    rw [e, bit_zero, h8 j (by omega), a3, a4] at this
    simp [a1, a2] at this
  · intro e
    apply Classical.byContradiction
    intro hn
    apply e
    apply bit_ext hx w0
    intro i hi
    rw [hb i, bit_zero, h8 i hi]
    by_cases r : 8 ≤ i ∧ i < 16
    · cases e1 : bit s i
      · rfl
      · cases e2 : bit c i
        · rfl
        · exact absurd ⟨i, r.1, r.2, e1, e2⟩ hn
    · simp [r]

set_option maxHeartbeats 1000000 in
theorem rpend_any {r : Regs} (hr : Wr r) (w : World) :
    Calls Try.prog 23 #[.agg (cellsR r)] w fun e w' => e = .returned (.bool (pendV r)) ∧ Below w.heap.size w w' := by
  obtain ⟨t1, t2, t3, t4, t5, t6, t7, t8, t9⟩ := cpRules
  obtain ⟨p0, p1, p2, p3, p4, p5, p6, p7, p8⟩ := cpParts
  have ms := hide fun (n : Int) (h0 : 0 ≤ n) (h1 : n < 32) W => rbit_any hr.s h0 h1 W
  have mc := hide fun (n : Int) (h0 : 0 ≤ n) (h1 : n < 32) W => rbit_any hr.c h0 h1 W
  have ha := hide fun b (h : AnyTill r.s r.c 16 b) => any_is hr.s hr.c h
  clear hr
  go_enter Try.func23, Try.ntmps23
  go_wp2
  go_loop [3, 4] (fun a i => ∃ (k : Nat) (b : Bool), 8 ≤ k ∧ k ≤ 16 ∧ i = .int .i64 k ∧ a = .bool b ∧ Hid (AnyTill r.s r.c k b)) (fun _ i => 16 - (intOf i).toNat)
  case atStart => exact ⟨8, false, by omega, by omega, rfl, rfl, hide (AnyTill.start _ _)⟩
  case round =>
    obtain ⟨k, b, k0, k1, rfl, rfl, hb⟩ := hrel
    by_cases hlt : k < 16
    · have h1 : (k : Int) < 16 := by omega
      have ks := ms.out (k : Int) (by omega) (by omega)
      have kc := mc.out (k : Int) (by omega) (by omega)
      rw [show (k : Int).toNat = k by omega] at ks kc
      have hn := fun x => hb.out.next (x := x) k0
      generalize bit r.s k = x at *
      generalize bit r.c k = y at *
      replace ks := hide ks
      replace kc := hide kc
      replace hn := hide hn
      clear hb ms mc
      cases b
      · go_wp2_with fail
        refine (ks.out _).mono ?_
        rintro e w1 ⟨rfl, rfl⟩
        cases x
        · go_wp2
          go_round
          case rel => exact ⟨k + 1, false, by omega, by omega, by go_num, rfl, hide (hn.out _ rfl)⟩
          case measure => simp [intOf]; omega
        · go_wp2_with fail
          refine (kc.out _).mono ?_
          rintro e w1 ⟨rfl, rfl⟩
          go_wp2
          go_round
          case rel => exact ⟨k + 1, y, by omega, by omega, by go_num, rfl, hide (hn.out _ rfl)⟩
          case measure => simp [intOf]; omega
      · go_wp2
        go_round
        case rel => exact ⟨k + 1, true, by omega, by omega, by go_num, rfl, hide (hn.out _ rfl)⟩
        case measure => simp [intOf]; omega
    · have hx : k = 16 := by omega
      subst hx
      have hv : pendV r = (bit r.s 0 && !bit r.s 1 && b) := by unfold pendV; rw [ha.out _ hb.out]
      replace hv := hide hv
      have k0 := ms.out 0 (by omega) (by omega)
      have k1 := ms.out 1 (by omega) (by omega)
      rw [show (0 : Int).toNat = 0 from rfl] at k0
      rw [show (1 : Int).toNat = 1 from rfl] at k1
      clear ms mc ha hb
      generalize bit r.s 0 = x at *
      generalize bit r.s 1 = y at *
      replace k0 := hide k0
      replace k1 := hide k1
      cases b
      · go_wp2
        go_ret
        exact ⟨by rw [hv.out]; simp, grow _ _⟩
      · go_wp2_with fail
        refine (k0.out _).mono ?_
        rintro e w1 ⟨rfl, rfl⟩
        cases x
        · go_wp2
          go_ret
          exact ⟨by rw [hv.out]; simp, grow _ _⟩
        · go_wp2_with fail
          refine (k1.out _).mono ?_
          rintro e w1 ⟨rfl, rfl⟩
          go_wp2
          go_ret
          exact ⟨by rw [hv.out]; simp, grow _ _⟩

theorem bit_code (code : Int) (i : Nat) (h0 : 2 ≤ i) (h1 : i ≤ 6) : bit (4 * (code % 32)) i = bit (code % 4294967296 * 4 % 4294967296) i := by
  have e : (4 * (code % 32)).toNat = (code % 4294967296 * 4 % 4294967296).toNat % 2 ^ 7 := by omega
  unfold bit
  rw [e, Nat.testBit_mod_two_pow]
  simp; omega

set_option maxHeartbeats 1000000 in
theorem rraise_any {r : Regs} (hr : Wr r) (code : Int) (f : Bool) {pc : Int} (hp : W32 pc) (d : Bool) (w : World) :
    Calls Try.prog 15 #[.agg (cellsR r), .int .i64 code, .bool f, .int .u32 pc, .bool d] w fun e w' => e = .returned (.tuple #[.agg (cellsR (raiseV r code f pc d)), .int .u32 (toV r f)]) ∧ Below w.heap.size w w' := by
  obtain ⟨t1, t2, t3, t4, t5, t6, t7, t8, t9⟩ := cpRules
  obtain ⟨p0, p1, p2, p3, p4, p5, p6, p7, p8⟩ := cpParts
  obtain ⟨s0, s1, s2, s3, s4, s5, s6, s7, s8⟩ := cpSets
  have aM : W32 2147483648 := w_of _ (by omega) (by omega)
  have aS : W32 2 := w_of _ (by omega) (by omega)
  have aC : W32 124 := w_of _ (by omega) (by omega)
  obtain ⟨K, hK⟩ : ∃ K : Int, K = code % 32 := ⟨_, rfl⟩
  obtain ⟨Y, hY⟩ : ∃ Y : Int, Y = code % 4294967296 * 4 % 4294967296 := ⟨_, rfl⟩
  have K0 : 0 ≤ K ∧ K < 32 := by omega
  have mx : ∀ c : Int, W32 c → ∀ W, Calls Try.prog 27 #[.int .u32 c, .int .u32 (4 * K), .int .i64 2, .int .i64 6] W fun e w' => e = .returned (.int .u32 (mixV c Y 124)) ∧ w' = W := fun c hc W =>
    rmix_any hc (v := 4 * K) (w_of _ (by omega) (by omega)) (mix_w aC) (f := 2) (t := 6) (by omega) (by omega) (by omega) (fun i hi => by
      rw [mix_range (f := 2) (t := 6) aC (by decide +kernel) i hi]
      by_cases c : (2 : Int) ≤ (i : Int) ∧ (i : Int) ≤ 6
      · rw [if_pos c, if_pos c, hK, hY, bit_code code i (by omega) (by omega)]
      · rw [if_neg c, if_neg c]) W
  obtain ⟨M, hM⟩ : ∃ M : Int, code.tmod 32 = M := ⟨_, rfl⟩
  have hMK : M = K ∨ (M < 0 ∧ M + 32 = K) := by
    rw [← hM, hK, Int.tmod_eq_emod]
    split
    · left; omega
    · right; rename_i hx; have : ¬ code % 32 = 0 := fun e => hx (Or.inr (Int.dvd_of_emod_eq_zero e)); simp; omega
  obtain ⟨E, hE⟩ : ∃ E : Int, E = if d then (pc - 4) % 4294967296 else pc := ⟨_, rfl⟩
  obtain ⟨C, hC⟩ : ∃ C : Int, C = mixV r.c (if d then 2147483648 else 0) 2147483648 := ⟨_, rfl⟩
  have hm : W32 C := by rw [hC]; exact mix_w aM
  have m1 := fun W => rbit_any hr.s (n := 1) (by omega) (by omega) W
  rw [show (1 : Int).toNat = 1 from rfl] at m1
  have m2 := fun W => rwith_any (r := C) hr.c hm (n := 31) (by omega) (by omega) d (by rw [hC]; exact mix_one (n := 31) aM (by decide +kernel) (by cases d; exact bit_zero 31; decide +kernel)) W
  have m3 := hide fun W => rwith_any hr.s (mix_w aS) (n := 1) (by omega) (by omega) true (mix_one (n := 1) (x := 2) aS (by decide +kernel) (by decide +kernel)) W
  have mx1 := hide (mx C hm)
  have mx2 := hide (mx r.c hr.c)
  replace m2 := hide m2
  unfold raiseV toV
  rw [← hE, ← hC, ← hY]
  replace hE := hide hE
  clear hK
  clear mx hC hY hm aM aS aC
  obtain ⟨pc0, pc1⟩ := hp
  have fin : ∀ c d : Array Value, Below w.heap.size w ((w.alloc (.cells c 24)).alloc (.cells d 24)) := fun c d => (grow _ _).alloc (by simp) _
  replace fin := hide fin
  clear hr
  generalize bit r.s 1 = x at *
  replace m1 := hide m1
  obtain ⟨K0, K1⟩ := K0
  rcases hMK with rfl | ⟨hneg, hsum⟩
  · have hd : decide (M < 0) = false := by simpa using K0
    go_enter Try.func15, Try.ntmps15
    go_wp2_with fail
    refine (m1.out _).mono ?_
    rintro e w1 ⟨rfl, rfl⟩
    cases x
    · cases d
      · have hE' : pc = E := by simpa using hE.out.symm
        subst hE'
        cases f
        all_goals
          go_wp2_with fail
          refine (m2.out _).mono ?_
          rintro e w1 ⟨rfl, rfl⟩
          go_wp2_with fail
          refine (m3.out _).mono ?_
          rintro e w1 ⟨rfl, rfl⟩
          go_wp2_with fail
          refine (mx1.out _).mono ?_
          rintro e w1 ⟨rfl, rfl⟩
          go_wp2
          exact bodyPost_ret (by simp [results, Try.results15, go_sem, t1, t3, t5, t6, t7]) rfl ⟨rfl, fin.out _ _⟩
      · have hE' : (pc - 4) % 4294967296 = E := by simpa using hE.out.symm
        have hE2 : (pc + 4294967296 - 4) % 4294967296 = E := by omega
        have hE3 : (pc + 4294967292) % 4294967296 = E := by omega
        have E0 : 0 ≤ E := by omega
        have E1 : E < 4294967296 := by omega
        clear hE
        cases f
        all_goals
          go_wp2_with fail
          refine (m2.out _).mono ?_
          rintro e w1 ⟨rfl, rfl⟩
          go_wp2_with fail
          refine (m3.out _).mono ?_
          rintro e w1 ⟨rfl, rfl⟩
          go_wp2_with fail
          refine (mx1.out _).mono ?_
          rintro e w1 ⟨rfl, rfl⟩
          go_wp2
          exact bodyPost_ret (by simp [results, Try.results15, go_sem, t1, t3, t5, t6, t7]) rfl ⟨rfl, fin.out _ _⟩
    · go_wp2_with fail
      refine (m3.out _).mono ?_
      rintro e w1 ⟨rfl, rfl⟩
      go_wp2_with fail
      refine (mx2.out _).mono ?_
      rintro e w1 ⟨rfl, rfl⟩
      go_wp2
      exact bodyPost_ret (by simp [results, Try.results15, go_sem, t1, t3, t5, t6, t7]) rfl ⟨rfl, fin.out _ _⟩
  · have hd : decide (M < 0) = true := by simpa using hneg
    go_enter Try.func15, Try.ntmps15
    go_wp2_with fail
    refine (m1.out _).mono ?_
    rintro e w1 ⟨rfl, rfl⟩
    cases x
    · cases d
      · have hE' : pc = E := by simpa using hE.out.symm
        subst hE'
        cases f
        all_goals
          go_wp2_with fail
          refine (m2.out _).mono ?_
          rintro e w1 ⟨rfl, rfl⟩
          go_wp2_with fail
          refine (m3.out _).mono ?_
          rintro e w1 ⟨rfl, rfl⟩
          go_wp2_with fail
          refine (mx1.out _).mono ?_
          rintro e w1 ⟨rfl, rfl⟩
          go_wp2
          exact bodyPost_ret (by simp [results, Try.results15, go_sem, t1, t3, t5, t6, t7]) rfl ⟨rfl, fin.out _ _⟩
      · have hE' : (pc - 4) % 4294967296 = E := by simpa using hE.out.symm
        have hE2 : (pc + 4294967296 - 4) % 4294967296 = E := by omega
        have hE3 : (pc + 4294967292) % 4294967296 = E := by omega
        have E0 : 0 ≤ E := by omega
        have E1 : E < 4294967296 := by omega
        clear hE
        cases f
        all_goals
          go_wp2_with fail
          refine (m2.out _).mono ?_
          rintro e w1 ⟨rfl, rfl⟩
          go_wp2_with fail
          refine (m3.out _).mono ?_
          rintro e w1 ⟨rfl, rfl⟩
          go_wp2_with fail
          refine (mx1.out _).mono ?_
          rintro e w1 ⟨rfl, rfl⟩
          go_wp2
          exact bodyPost_ret (by simp [results, Try.results15, go_sem, t1, t3, t5, t6, t7]) rfl ⟨rfl, fin.out _ _⟩
    · go_wp2_with fail
      refine (m3.out _).mono ?_
      rintro e w1 ⟨rfl, rfl⟩
      go_wp2_with fail
      refine (mx2.out _).mono ?_
      rintro e w1 ⟨rfl, rfl⟩
      go_wp2
      exact bodyPost_ret (by simp [results, Try.results15, go_sem, t1, t3, t5, t6, t7]) rfl ⟨rfl, fin.out _ _⟩

end Go.Proofs.Ytjpfggffeffapaa
