/- Layer 14: a step of the processor does what an operation does, over plain values. -/
import Derived.Test.YtmegghgjllbamaaGreatDoorQIrStepsM
import Derived.Test.YtmegghgjllbamaaGreatDoorQCuStepM
import Derived.Test.YtmegghgjllbamaaGreatDoorQBuNew
import Derived.Test.YtmegghgjllbamaaGreatDoorQBuOne
import Derived.Test.YtmegghgjllbamaaGreatDoorQCuReset
namespace Go.Proofs.YtmegghgjllbamaaGreatDoor
open Go.RowKit
set_option linter.unusedVariables false
set_option maxRecDepth 100000
set_option linter.unusedSimpArgs false

theorem tick_still (n : Nat) (B : Nat → Nat) (D : Nat → Bool) : tkV n V0 B = V0 ∧ tkB n V0 B = B ∧ tkD n V0 D = D := by
  unfold tkV tkB tkD
  obtain ⟨e1, e2, e3⟩ := move_0 n (Dm.tickV V0.d) V0.k B D
  have e : Dm.wayV V0.d = 0 := rfl
  rw [e, e1, e2, e3]
  exact ⟨rfl, rfl, rfl⟩

/-- Both layers' instruction of a word is the same one. -/
theorem dec_same (x : Int) (hx : Cp.W32 x) : decV x = ⟨(Ir.decV x).o, (Ir.decV x).s, (Ir.decV x).t, (Ir.decV x).d, (Ir.decV x).a, (Ir.decV x).i, (Ir.decV x).e⟩ := by
  have h := decV_told x hx
  have k := Ir.decV_told x hx
  generalize decV x = I at *
  generalize Ir.decV x = J at *
  obtain ⟨o, s, t, d, a, i, e⟩ := I
  rcases h with ⟨op, h1, h2, q1, q2, q3, q4, q5, q6, q7⟩ | ⟨hn, q1, q2, q3, q4, q5, q6, q7⟩
  · obtain ⟨r1, r2, r3, r4, r5, r6, r7⟩ := De.told_of h1 h2 k
    simp only at q1 q2 q3 q4 q5 q6 q7
    rw [q1, q2, q3, q4, q5, q6, q7, r1, r2, r3, r4, r5, r6, r7]
  · obtain ⟨r1, r2, r3, r4, r5, r6, r7⟩ := De.told_no hn k
    simp only at q1 q2 q3 q4 q5 q6 q7
    rw [q1, q2, q3, q4, q5, q6, q7, r1, r2, r3, r4, r5, r6, r7]

theorem dec_a (x : Int) (hx : Cp.W32 x) : 0 ≤ (Ir.decV x).a ∧ (Ir.decV x).a < 32 := by
  rcases Ir.decV_told x hx with ⟨op, -, -, -, -, -, -, h5, -⟩ | ⟨-, -, -, -, -, h5, -⟩
  · rw [h5]
    unfold De.Dec.da
    omega
  · rw [h5]
    omega

/-- One number of two, by both layers. -/
theorem alu_kind {o : Int} (hp : Ir.isPl o) (h52 : o ≠ 52) (x y z : Int) : aluV o x y = (Ir.valV (Ir.kindV o) x y z, false) := by
  unfold Ir.isPl at hp
  rcases hp with (rfl | rfl | rfl | rfl | rfl | rfl | rfl | rfl | rfl | rfl | rfl) | rfl | rfl | rfl | rfl | rfl | rfl | rfl | rfl | rfl | rfl
  · exact absurd rfl h52
  all_goals rfl

theorem do_alu {o : Int} (hp : Ir.isPl o) (n : Nat) (m : Mc) (s t d a i e : Int) : doM n m ⟨o, s, t, d, a, i, e⟩ = aluM m ⟨o, s, t, d, a, i, e⟩ := by
  unfold Ir.isPl at hp
  rcases hp with (rfl | rfl | rfl | rfl | rfl | rfl | rfl | rfl | rfl | rfl | rfl) | rfl | rfl | rfl | rfl | rfl | rfl | rfl | rfl | rfl | rfl
  all_goals rfl

/-- The operands, and where it goes, by both layers. -/
theorem opnd_same {o : Int} (hp : Ir.isPl o) (h52 : o ≠ 52) (c : Cs) (s t d a i e : Int) (hs : 0 ≤ s ∧ s < 32) (ht : 0 ≤ t ∧ t < 32) (hd : 0 ≤ d ∧ d < 32) (ha : 0 ≤ a ∧ a < 32) :
    Ir.meanO (Ir.fillV o s t d a i).a (Ir.fillV o s t d a i).m c.R = opX c ⟨o, s, t, d, a, i, e⟩ ∧ Ir.meanO (Ir.fillV o s t d a i).b (Ir.fillV o s t d a i).m c.R = opY c ⟨o, s, t, d, a, i, e⟩ ∧ (Ir.fillV o s t d a i).d.toNat = opD ⟨o, s, t, d, a, i, e⟩ := by
  have am : a % 4294967296 = a := by omega
  have rs : ∀ z, Ir.meanO s z c.R = c.R s.toNat := fun z => by
    unfold Ir.meanO
    rw [if_neg (by omega), if_pos (by simp [Ir.regB]; omega)]
  have rt : ∀ z, Ir.meanO t z c.R = c.R t.toNat := fun z => by
    unfold Ir.meanO
    rw [if_neg (by omega), if_pos (by simp [Ir.regB]; omega)]
  have r32 : ∀ z, Ir.meanO 32 z c.R = z := fun z => by
    unfold Ir.meanO
    rw [if_pos rfl]
  unfold Ir.isPl at hp
  rcases hp with (rfl | rfl | rfl | rfl | rfl | rfl | rfl | rfl | rfl | rfl | rfl) | rfl | rfl | rfl | rfl | rfl | rfl | rfl | rfl | rfl | rfl
  · exact absurd rfl h52
  all_goals
    simp only [Ir.fillV, opX, opY, opD, isSH, isSV, isIm, rs, rt, r32, am]
    simp [rs, rt, r32]

/-- What a plain instruction does is what its operation does. -/
theorem do_plain {o : Int} (hp : Ir.isPl o) (n : Nat) (m : Mc) (s t d a i q : Int) (hs : 0 ≤ s ∧ s < 32) (ht : 0 ≤ t ∧ t < 32) (hd : 0 ≤ d ∧ d < 32) (ha : 0 ≤ a ∧ a < 32) :
    doM n m ⟨o, s, t, d, a, i, 0⟩ = nop { m with c := { m.c with R := Ir.behV { Ir.opM ⟨o, s, t, d, a, i, 0⟩ with c := q } m.c.R } } := by
  have hpl : Ir.plB ⟨o, s, t, d, a, i, 0⟩ = true := by simp [Ir.plB, hp]
  have hk := Ir.kind_yes hp
  rw [do_alu hp]
  unfold Ir.opM
  rw [if_pos hpl]
  simp only
  by_cases h52 : o = 52
  · subst h52
    have hf : Ir.fillV 52 s t d a i = ⟨0, t, 0, 0, i % 4294967296 * 65536 % 4294967296, 0⟩ := rfl
    rw [hf]
    simp only
    unfold aluM
    have ha2 : aluV 52 (opX m.c ⟨52, s, t, d, a, i, 0⟩) (opY m.c ⟨52, s, t, d, a, i, 0⟩) = (i % 4294967296 * 65536 % 4294967296, false) := rfl
    have hd2 : opD ⟨52, s, t, d, a, i, 0⟩ = t.toNat := rfl
    simp only
    rw [ha2, hd2, if_neg (by simp)]
    by_cases h0 : t = 0
    · subst h0
      rw [if_pos rfl]
      rfl
    · rw [if_neg h0]
      unfold Ir.behV putC
      rw [if_neg (by omega), if_pos (by simp [Ir.wrB, Ir.kindV]; omega)]
      rfl
  · obtain ⟨ex, ey, ed⟩ := opnd_same hp h52 m.c s t d a i 0 hs ht hd ha
    have hdr : 0 ≤ (Ir.fillV o s t d a i).d ∧ (Ir.fillV o s t d a i).d < 32 := by
      unfold Ir.fillV
      repeat' split
      all_goals assumption
    generalize Ir.fillV o s t d a i = F at *
    unfold aluM
    simp only
    rw [← ex, ← ey, ← ed, alu_kind hp h52 _ _ F.m, if_neg (by simp)]
    by_cases h0 : F.d = 0
    · rw [if_pos h0, h0]
      rfl
    · rw [if_neg h0]
      unfold Ir.behV putC
      rw [if_neg (by omega), if_pos (by simp [Ir.wrB]; omega)]
      rfl

/-- Where a block's step k finds the processor. -/
structure AtB (l : List Int) (r : Nat → Int) (k : Nat) (m : Mc) : Prop where
  pc : m.c.pc = 2147484160 + 4 * (k : Int)
  nx : m.c.nx = 2147484164 + 4 * (k : Int)
  s : m.c.C.s = 0
  R : m.c.R = Ir.untilV (k : Int) (Ir.transV l) r
  v : m.v = V0
  B : ∀ j z, l[j]? = some z → numOf m.B (512 + 4 * j) 4 = z.toNat

theorem trans_at : ∀ (l : List Int) (k i : Nat), i < (Ir.transF k l).length → ∃ x, l[i]? = some x ∧ Ir.plB (Ir.decV x) = true ∧ (Ir.transF k l)[i]? = some { Ir.opM (Ir.decV x) with c := ((k + i + 1 : Nat) : Int) }
  | [], k, i, h => by simp [Ir.transF] at h
  | x :: l, k, i, h => by
    unfold Ir.transF at h ⊢
    by_cases hp : Ir.plB (Ir.decV x) = true
    · rw [if_pos hp] at h ⊢
      cases i with
      | zero => exact ⟨x, rfl, hp, by simp⟩
      | succ i =>
        obtain ⟨y, h1, h2, h3⟩ := trans_at l (k + 1) i (by simpa using h)
        refine ⟨y, by simpa using h1, h2, ?_⟩
        rw [List.getElem?_cons_succ, h3, show k + 1 + i + 1 = k + (i + 1) + 1 by omega]
    · rw [if_neg hp] at h
      simp at h

theorem transV_at {l : List Int} {i : Nat} (h : i < (Ir.transV l).length) : ∃ x, l[i]? = some x ∧ Ir.plB (Ir.decV x) = true ∧ (Ir.transV l)[i]? = some { Ir.opM (Ir.decV x) with c := ((i + 1 : Nat) : Int) } := by
  obtain ⟨x, h1, h2, h3⟩ := trans_at (l.take 16) 0 i h
  have hlt : i < 16 := by
    have := (List.getElem?_eq_some_iff.1 h1).1
    rw [List.length_take] at this
    omega
  rw [List.getElem?_take_of_lt hlt] at h1
  refine ⟨x, h1, h2, ?_⟩
  show (Ir.transF 0 (l.take 16))[i]? = _
  rw [h3, Nat.zero_add]

/-- One operation more. -/
theorem until_step {l : List Int} {k : Nat} {r : Nat → Int} {m : Ir.Mi} (hm : (Ir.transV l)[k]? = some m) : Ir.untilV ((k + 1 : Nat) : Int) (Ir.transV l) r = Ir.behV m (Ir.untilV (k : Int) (Ir.transV l) r) := by
  have hc : ∀ (i : Nat) (m : Ir.Mi), (Ir.transV l)[i]? = some m → m.c = ((i + 1 : Nat) : Int) := fun i m h => by
    have := Ir.transF_c _ _ i m h
    rwa [Nat.zero_add] at this
  have hlt := (List.getElem?_eq_some_iff.1 hm).1
  have e : Ir.transV l = (Ir.transV l).take k ++ m :: (Ir.transV l).drop (k + 1) := by
    have e1 : (Ir.transV l)[k] = m := (List.getElem?_eq_some_iff.1 hm).2
    have e2 := List.drop_eq_getElem_cons hlt
    rw [e1] at e2
    rw [← e2, List.take_append_drop]
  have ha : ∀ (i : Nat) (q : Ir.Mi), ((Ir.transV l).take k)[i]? = some q → q.c ≤ (k : Int) := fun i q h => by
    have hik : i < k := by
      have := (List.getElem?_eq_some_iff.1 h).1
      rw [List.length_take] at this
      omega
    rw [List.getElem?_take_of_lt hik] at h
    rw [hc i q h]; omega
  have hz : ∀ (n : Int), n ≤ ((k + 1 : Nat) : Int) → ∀ (i : Nat) (q : Ir.Mi), ((Ir.transV l).drop (k + 1))[i]? = some q → n < q.c := fun n hn i q h => by
    rw [List.getElem?_drop] at h
    rw [hc _ q h]; omega
  rw [e, Ir.until_append, Ir.until_append]
  rw [← Ir.until_all ((Ir.transV l).take k) r ha ((k + 1 : Nat) : Int) (by omega)]
  generalize Ir.untilV (k : Int) ((Ir.transV l).take k) r = Q
  show Ir.untilV _ ((Ir.transV l).drop (k + 1)) (if m.c ≤ ((k + 1 : Nat) : Int) then Ir.behV m Q else Q) = Ir.behV m (Ir.untilV (k : Int) ((Ir.transV l).drop (k + 1)) (if m.c ≤ (k : Int) then Ir.behV m Q else Q))
  rw [hc k m hm, if_pos (Int.le_refl _), if_neg (by omega), Ir.until_none _ _ (hz _ (Int.le_refl _)), Ir.until_none _ _ (hz _ (by omega))]

theorem goes_pl : ∀ k < 69, Ir.isPl ((k : Nat) : Int) → goesV ((k : Nat) : Int) = false := by decide +kernel

/-- Behind a plain instruction's step. -/
theorem atB_step {l : List Int} (hl : ∀ (i : Nat) (x : Int), l[i]? = some x → Cp.W32 x) {r : Nat → Int} {k : Nat} {m : Mc} (h : AtB l r k m) (hk : k < (Ir.transV l).length) : AtB l r (k + 1) (stepM 4 m) := by
  obtain ⟨x, hx, hpl, hm⟩ := transV_at hk
  have hk16 : k < 16 := Nat.lt_of_lt_of_le hk (Ir.transV_len l).2
  have hxw := hl k x hx
  obtain ⟨hs, ht, hd⟩ := Ir.dec_fields x hxw
  have ha := dec_a x hxw
  have hsame := dec_same x hxw
  have hst := until_step (r := r) hm
  rw [← h.R] at hst
  obtain ⟨c, v, B, D⟩ := m
  obtain ⟨h1, h2, h3, h4, h5, h6⟩ := h
  simp only at h1 h2 h3 h4 h5 h6 hst
  subst h5
  obtain ⟨e1, e2, e3⟩ := tick_still 4 B D
  obtain ⟨K, hK, hKs⟩ : ∃ K, Cp.tickV c.C (linesV V0) = K ∧ K.s = 0 := ⟨_, rfl, h3⟩
  have t : tickM 4 ⟨c, V0, B, D⟩ = ⟨{ c with C := K }, V0, B, D⟩ := by
    unfold tickM
    rw [e1, e2, e3]
    show (⟨{ c with C := Cp.tickV c.C (linesV V0) }, V0, B, D⟩ : Mc) = _
    rw [hK]
  have b0 : Cp.bit K.s 0 = false ∧ Cp.bit K.s 4 = false := by rw [hKs]; exact ⟨by decide, by decide⟩
  have hu : Cp.userV K = false := by unfold Cp.userV; rw [b0.2]; rfl
  have hq : Cp.pendV K = false := by unfold Cp.pendV; rw [b0.1]; rfl
  have hmm : memX 4 B (512 + 4 * (k : Int)) 4 = x := by
    unfold memX
    rw [if_pos ⟨Or.inr (Or.inr rfl), by omega, by omega⟩, show (512 + 4 * (k : Int)).toNat = 512 + 4 * k by omega]
    show ((numOf B (512 + 4 * k) 4 : Nat) : Int) = x
    rw [h6 k x hx, Int.toNat_of_nonneg hxw.1]
  generalize Ir.decV x = J at *
  obtain ⟨o, s, tt, d, a, i, e⟩ := J
  simp only at hs ht hd ha hsame
  have hpl2 : e = 0 ∧ Ir.isPl o := by simpa [Ir.plB] using hpl
  obtain ⟨rfl, hp⟩ := hpl2
  have f : ∀ c' : Cs, c'.pc = 2147484160 + 4 * (k : Int) → c'.C = K → ftV 4 c' B = (⟨o, s, tt, d, a, i, 0⟩, F0, true) := by
    intro c' p1 p2
    have hu' : Cp.userV c'.C = false := by rw [p2]; exact hu
    have hw0 : whereV c' (2147484160 + 4 * (k : Int)) false = (512 + 4 * (k : Int), -1, false) := by
      unfold whereV
      rw [if_neg (by simp [hu']), if_pos ⟨by omega, by omega⟩, show (2147484160 + 4 * (k : Int)) % 536870912 = 512 + 4 * (k : Int) by omega]
    have hw : plV c' (2147484160 + 4 * (k : Int)) 4 false = (512 + 4 * (k : Int), F0, true) := by
      unfold plV
      rw [hw0, if_neg (by omega), if_pos rfl]
    unfold ftV
    rw [p1, hw]
    simp only
    rw [hmm, hsame, if_neg (by simp), if_neg (by intro hh; exact hh ⟨Or.inr (Or.inr rfl), by omega, by omega⟩), if_neg (by simp [hu'])]
  have hg : goesV o = false := by
    have hr : 0 ≤ o ∧ o < 69 := by unfold Ir.isPl at hp; omega
    have := goes_pl o.toNat (by omega) (by rw [Int.toNat_of_nonneg hr.1]; exact hp)
    rwa [Int.toNat_of_nonneg hr.1] at this
  have e : stepM 4 ⟨c, V0, B, D⟩ = ⟨gone { c with C := K, R := Ir.behV { Ir.opM ⟨o, s, tt, d, a, i, 0⟩ with c := ((k + 1 : Nat) : Int) } c.R } c.nx, V0, B, D⟩ := by
    unfold stepM
    rw [t]
    unfold restM
    simp only [f { c with C := K } h1 rfl]
    rw [if_neg (by rw [hq]; simp), if_neg (by simp), if_neg (by rw [hg]; simp)]
    rw [do_plain hp 4 ⟨{ c with C := K }, V0, B, D⟩ s tt d a i ((k + 1 : Nat) : Int) hs ht hd ha, if_pos (show (nop _).k = true from rfl)]
    rfl
  rw [e]
  refine ⟨?_, ?_, hKs, ?_, rfl, h6⟩
  · show c.nx = _
    rw [h2]; omega
  · show (c.nx + 4) % 4294967296 = _
    rw [h2]; omega
  · show Ir.behV _ c.R = _
    rw [hst]

/-- Memory, and its marks, behind the first k words of a block. -/
def fillS (zs : List Int) : Nat → Nat → Nat
  | 0 => fun _ => 0
  | k + 1 => putB (fillS zs k) (512 + 4 * k) 4 (zs.getD k 0).toNat

def markS : Nat → Nat → Bool
  | 0 => fun _ => false
  | k + 1 => putD (markS k) ((512 + 4 * k) / 256)

theorem putB_in (B : Nat → Nat) (a s v i : Nat) (h : i < s) : putB B a s v (a + i) = byteOf v s i := by
  unfold putB
  rw [if_pos ⟨by omega, by omega⟩, show a + i - a = i by omega]

theorem num_in (B : Nat → Nat) (a v : Nat) (hv : v < 4294967296) : numOf (putB B a 4 v) a 4 = v := by
  simp only [numOf]
  rw [putB_in B a 4 v 0 (by omega), putB_in B a 4 v 1 (by omega), putB_in B a 4 v 2 (by omega), putB_in B a 4 v 3 (by omega)]
  simp [byteOf]
  omega

theorem num_out (B : Nat → Nat) (a x v : Nat) (h : x + 4 ≤ a ∨ a + 4 ≤ x) : numOf (putB B a 4 v) x 4 = numOf B x 4 := by
  have e : ∀ i, i < 4 → putB B a 4 v (x + i) = B (x + i) := fun i hi => by
    unfold putB
    exact if_neg (by omega)
  simp only [numOf]
  rw [e 0 (by omega), e 1 (by omega), e 2 (by omega), e 3 (by omega)]

theorem fillS_at (zs : List Int) (k j : Nat) (hj : j < k) (z : Int) (hz : zs[j]? = some z) (hw : Cp.W32 z) : numOf (fillS zs k) (512 + 4 * j) 4 = z.toNat := by
  induction k with
  | zero => omega
  | succ k ih =>
    show numOf (putB (fillS zs k) (512 + 4 * k) 4 (zs.getD k 0).toNat) (512 + 4 * j) 4 = z.toNat
    by_cases e : j = k
    · subst e
      have e1 : zs.getD j 0 = z := by rw [List.getD_eq_getElem?_getD, hz]; rfl
      rw [e1, num_in _ _ _ (by have := hw.1; have := hw.2; omega)]
    · rw [num_out _ _ _ _ (by omega)]
      exact ih (by omega)

theorem store_wordS (v : Dv) (B : Nat → Nat) (D : Nat → Bool) (k : Nat) (z : Int) (h : k < 16) : stA 4 v B D (512 + 4 * (k : Int)) 4 z = ⟨0, v, putB B (512 + 4 * k) 4 z.toNat, putD D ((512 + 4 * k) / 256)⟩ := by
  unfold stA
  have e : (512 + 4 * (k : Int)).toNat = 512 + 4 * k := by omega
  rw [if_neg (by omega), if_pos ⟨Or.inr (Or.inr rfl), by omega, by omega⟩, e]
  rfl

/-- Where a block begins. -/
theorem atB_0 {l : List Int} (hl : ∀ (i : Nat) (x : Int), l[i]? = some x → Cp.W32 x) {r : Nat → Int} (h0 : r 0 = 0) (D : Nat → Bool) : AtB l r 0 ⟨{ C0 with R := r }, V0, fillS l l.length, D⟩ :=
  ⟨rfl, rfl, rfl, ((Ir.parts_eq l r h0 0 (Nat.zero_le _)).2.1).symm, rfl, fun j z h => fillS_at l l.length j (List.getElem?_eq_some_iff.1 h).1 z h (hl j z h)⟩

theorem wc_0 {r : Nat → Int} (hr : ∀ k, Cp.W32 (r k)) : Wc { C0 with R := r } := ⟨C0_w.pc, C0_w.nx, hr, C0_w.hi, C0_w.lo, C0_w.C, C0_w.T⟩

end Go.Proofs.YtmegghgjllbamaaGreatDoor
