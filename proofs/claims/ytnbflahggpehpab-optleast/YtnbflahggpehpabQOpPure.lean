/- Layer 15: passes make no difference: what is done to registers, and that operations may be. -/
import Derived.Test.YtnbflahggpehpabQOpPlain
namespace Go.Proofs.Ytnbflahggpehpab.Ir
open Go.RowKit
set_option linter.unusedVariables false
set_option maxRecDepth 100000
set_option linter.unusedSimpArgs false

/-- The registers behind all operations. -/
def runL : List Mi → (Nat → Int) → (Nat → Int)
  | [], R => R
  | m :: l, R => runL l (behV m R)

theorem until_runL {n : Int} : ∀ (l : List Mi) (R : Nat → Int), (∀ m ∈ l, m.c ≤ n) → untilV n l R = runL l R
  | [], R, _ => rfl
  | m :: l, R, h => by
    rw [untilV, runL, if_pos (h m (List.mem_cons_self ..)), until_runL l _ (fun x hx => h x (List.mem_cons_of_mem _ hx))]

theorem regB_iff {n : Int} : regB n = true ↔ 0 ≤ n ∧ n < 32 := by simp [regB]

theorem wrB_iff {m : Mi} : wrB m = true ↔ 0 < m.k ∧ m.k < 14 ∧ 0 < m.d ∧ m.d < 32 := by simp [wrB, and_assoc]

theorem tkA_iff {k : Int} : tkA k = true ↔ 2 ≤ k ∧ k < 14 := by simp [tkA]

theorem tkB_iff {k : Int} : tkB k = true ↔ 2 < k ∧ k < 14 := by simp [tkB]

theorem rdA_iff {m : Mi} : rdA m = true ↔ (2 ≤ m.k ∧ m.k < 14) ∧ 0 ≤ m.a ∧ m.a < 32 := by rw [rdA, Bool.and_eq_true, tkA_iff, regB_iff]

theorem rdB_iff {m : Mi} : rdB m = true ↔ (2 < m.k ∧ m.k < 14) ∧ 0 ≤ m.b ∧ m.b < 32 := by rw [rdB, Bool.and_eq_true, tkB_iff, regB_iff]

theorem oprB_iff {n : Int} : oprB n = true ↔ 0 ≤ n ∧ n < 33 := by simp [oprB]

theorem mean_reg {n imm : Int} {R : Nat → Int} (h : regB n = true) : meanO n imm R = R n.toNat := by
  have := regB_iff.1 h
  unfold meanO
  rw [if_neg (by omega), if_pos h]

theorem mean_same {n imm : Int} {R Q : Nat → Int} (h : regB n = true → R n.toNat = Q n.toNat) : meanO n imm R = meanO n imm Q := by
  unfold meanO
  split
  · rfl
  · split
    · rename_i e; exact h e
    · rfl

theorem val_one (x y m : Int) : valV 1 x y m = m := rfl
theorem val_two (x y m : Int) : valV 2 x y m = x := rfl

/-- Copies: each register is as its source is. -/
def SrcIs (S : Nat → Int) (R : Nat → Int) : Prop := ∀ n, n < 32 → regB (S n) = true ∧ R (S n).toNat = R n

theorem cp_a {S R : Nat → Int} {m : Mi} (h : SrcIs S R) : meanO (cpM S m).a m.m R = meanO m.a m.m R := by
  show meanO (if rdA m then S m.a.toNat else m.a) m.m R = _
  by_cases e : rdA m = true
  · rw [if_pos e]
    have hb := (rdA_iff.1 e).2
    obtain ⟨h1, h2⟩ := h m.a.toNat (by omega)
    rw [mean_reg h1, mean_reg (regB_iff.2 hb), h2]
  · rw [if_neg e]

theorem cp_b {S R : Nat → Int} {m : Mi} (h : SrcIs S R) : meanO (cpM S m).b m.m R = meanO m.b m.m R := by
  show meanO (if rdB m then S m.b.toNat else m.b) m.m R = _
  by_cases e : rdB m = true
  · rw [if_pos e]
    have hb := (rdB_iff.1 e).2
    obtain ⟨h1, h2⟩ := h m.b.toNat (by omega)
    rw [mean_reg h1, mean_reg (regB_iff.2 hb), h2]
  · rw [if_neg e]

theorem cp_beh {S R : Nat → Int} {m : Mi} (h : SrcIs S R) : behV (cpM S m) R = behV m R := by
  unfold behV
  rw [show wrB (cpM S m) = wrB m from rfl, show (cpM S m).d = m.d from rfl, show (cpM S m).k = m.k from rfl, show (cpM S m).m = m.m from rfl, cp_a h, cp_b h]

theorem src_keep {S R : Nat → Int} (h : SrcIs S R) (m : Mi) : SrcIs (cpS S m) (behV m R) := by
  unfold cpS behV
  by_cases hw : wrB m = true
  · rw [if_pos hw, if_pos hw]
    have hb := wrB_iff.1 hw
    intro n hn
    unfold srcB
    by_cases e : n = m.d.toNat
    · rw [if_pos e]
      by_cases e2 : m.k = 2 ∧ regB m.a = true
      · rw [if_pos e2]
        refine ⟨e2.2, ?_⟩
        unfold putR
        rw [if_pos e]
        by_cases e3 : m.a.toNat = m.d.toNat
        · rw [if_pos e3]
        · rw [if_neg e3, e2.1, val_two, mean_reg e2.2]
      · rw [if_neg e2]
        exact ⟨regB_iff.2 (by omega), by rw [e]⟩
    · rw [if_neg e]
      by_cases e2 : S n = m.d
      · rw [if_pos e2]
        exact ⟨regB_iff.2 (by omega), by rw [Int.toNat_natCast]⟩
      · rw [if_neg e2]
        obtain ⟨h1, h2⟩ := h n hn
        refine ⟨h1, ?_⟩
        have := regB_iff.1 h1
        unfold putR
        rw [if_neg (by omega), if_neg e, h2]
  · rw [if_neg hw, if_neg hw]; exact h

theorem copy_runs : ∀ (l : List Mi) (S R : Nat → Int), SrcIs S R → runL (mapS cpM (fun S m => cpS S (cpM S m)) S l) R = runL l R
  | [], _, _, _ => rfl
  | m :: l, S, R, h => by
    have := src_keep h (cpM S m)
    rw [cp_beh h] at this
    rw [mapS, runL, runL, cp_beh h]
    exact copy_runs l _ _ this

theorem src_id (R : Nat → Int) : SrcIs idS R := fun n hn => ⟨regB_iff.2 (by unfold idS; omega), by unfold idS; rw [Int.toNat_natCast]⟩

theorem copy_run (l : List Mi) (R : Nat → Int) : runL (copyV l) R = runL l R := copy_runs l _ R (src_id R)

/-- Known numbers: a register is as it is known. -/
def KnIs (K : Nat → Option Int) (R : Nat → Int) : Prop := ∀ n v, n < 32 → K n = some v → R n = v

theorem mn_is {K : Nat → Option Int} {R : Nat → Int} (h : KnIs K R) {n imm v : Int} (e : mnK K n imm = some v) : meanO n imm R = v := by
  unfold mnK at e
  unfold meanO
  by_cases e1 : n = 32
  · rw [if_pos e1] at e ⊢; exact Option.some.inj e
  · rw [if_neg e1] at e ⊢
    by_cases e2 : regB n = true
    · rw [if_pos e2] at e ⊢; exact h _ _ (by have := regB_iff.1 e2; omega) e
    · rw [if_neg e2] at e; cases e

theorem mn_none {K : Nat → Option Int} {n imm : Int} (e : mnK K n imm = none) : ¬ n = 32 := fun h => by
  unfold mnK at e
  rw [if_pos h] at e
  cases e

theorem mean_imm {n a b : Int} {R : Nat → Int} (h : ¬ n = 32) : meanO n a R = meanO n b R := by
  unfold meanO
  rw [if_neg h, if_neg h]

theorem val_zA {k y m : Int} (h : dzA k = true) (hy : Cp.W32 y) : valV k 0 y m = y := by
  have hk : k = 3 ∨ k = 6 ∨ k = 7 := by simpa [dzA, or_assoc] using h
  have hw : Cp.W32 0 := Cp.w0
  rcases hk with rfl | rfl | rfl
  · show (0 + y) % 4294967296 = y
    rw [Int.zero_add]
    exact Int.emod_eq_of_lt hy.1 hy.2
  · show bits .or .u32 0 y = y
    rw [u32_or 0 y hw.1 hw.2 hy.1 hy.2]
    simp [Int.toNat_of_nonneg hy.1]
  · show bits .xor .u32 0 y = y
    rw [u32_xor 0 y hw.1 hw.2 hy.1 hy.2]
    simp [Int.toNat_of_nonneg hy.1]

theorem val_zB {k x m : Int} (h : dzB k = true) (hx : Cp.W32 x) : valV k x 0 m = x := by
  have hk : (k = 3 ∨ k = 6 ∨ k = 7) ∨ k = 4 := by simpa [dzB, dzA, or_assoc] using h
  have hw : Cp.W32 0 := Cp.w0
  rcases hk with (rfl | rfl | rfl) | rfl
  · show (x + 0) % 4294967296 = x
    rw [Int.add_zero]
    exact Int.emod_eq_of_lt hx.1 hx.2
  · show bits .or .u32 x 0 = x
    rw [u32_or x 0 hx.1 hx.2 hw.1 hw.2]
    simp [Int.toNat_of_nonneg hx.1]
  · show bits .xor .u32 x 0 = x
    rw [u32_xor x 0 hx.1 hx.2 hw.1 hw.2]
    simp [Int.toNat_of_nonneg hx.1]
  · show (x - 0) % 4294967296 = x
    rw [Int.sub_zero]
    exact Int.emod_eq_of_lt hx.1 hx.2

theorem dz_tk {k : Int} (h : dzB k = true) : 2 < k ∧ k < 14 := by
  have hk : (k = 3 ∨ k = 6 ∨ k = 7) ∨ k = 4 := by simpa [dzB, dzA, or_assoc] using h
  omega

theorem dzA_B {k : Int} (h : dzA k = true) : dzB k = true := by unfold dzB; rw [h]; rfl

/-- What Fold makes of an operation, by cases. -/
theorem fd_cases (m : Mi) (a b : Option Int) (P : Mi → Prop)
    (h1 : P m)
    (h2 : ∀ x, tkA m.k = true → a = some x → (b.isSome = true ∨ m.k = 2) → P ⟨1, m.d, 0, 0, valV m.k x (b.getD 0) m.m, m.c⟩)
    (h3 : a = some 0 → b = none → dzA m.k = true → P ⟨2, m.d, m.b, 0, 0, m.c⟩)
    (h4 : a = none → b = some 0 → dzB m.k = true → P ⟨2, m.d, m.a, 0, 0, m.c⟩) : P (fdM m a b) := by
  unfold fdM
  by_cases e1 : tkA m.k = false
  · rw [if_pos e1]; exact h1
  · rw [if_neg e1]
    have e1' : tkA m.k = true := by simpa using e1
    by_cases e2 : a.isSome = true ∧ (b.isSome = true ∨ tkB m.k = false)
    · rw [if_pos e2]
      obtain ⟨x, hx⟩ := Option.isSome_iff_exists.1 e2.1
      subst hx
      refine h2 x e1' rfl ?_
      rcases e2.2 with h | h
      · exact Or.inl h
      · right
        have := tkA_iff.1 e1'
        have h' : ¬ (2 < m.k ∧ m.k < 14) := fun hh => by rw [tkB_iff.2 hh] at h; cases h
        omega
    · rw [if_neg e2]
      by_cases e3 : a = some 0 ∧ dzA m.k = true
      · rw [if_pos e3]
        refine h3 e3.1 ?_ e3.2
        cases b with
        | none => rfl
        | some y => exact absurd ⟨by rw [e3.1]; rfl, Or.inl rfl⟩ e2
      · rw [if_neg e3]
        by_cases e4 : b = some 0 ∧ dzB m.k = true
        · rw [if_pos e4]
          refine h4 ?_ e4.1 e4.2
          cases a with
          | none => rfl
          | some y => exact absurd ⟨rfl, Or.inl (by rw [e4.1]; rfl)⟩ e2
        · rw [if_neg e4]; exact h1

theorem fd_beh {K : Nat → Option Int} {R : Nat → Int} {m : Mi} (h : KnIs K R) (hR : ∀ k, Cp.W32 (R k)) (hm : Cp.W32 m.m) : behV (fdF K m) R = behV m R := by
  unfold fdF
  refine fd_cases m _ _ (fun q => behV q R = behV m R) rfl ?_ ?_ ?_
  · intro x ht ha hb
    have hk := tkA_iff.1 ht
    have e : wrB ⟨1, m.d, 0, 0, valV m.k x ((mnK K m.b m.m).getD 0) m.m, m.c⟩ = wrB m := by
      rw [Bool.eq_iff_iff, wrB_iff, wrB_iff]
      simp only
      omega
    unfold behV
    rw [e]
    by_cases hw : wrB m = true
    · rw [if_pos hw, if_pos hw]
      show putR R m.d.toNat (valV m.k x ((mnK K m.b m.m).getD 0) m.m) = _
      rw [mn_is h ha]
      rcases hb with hb | hb
      · obtain ⟨y, hy⟩ := Option.isSome_iff_exists.1 hb
        rw [hy, mn_is h hy]
        rfl
      · rw [hb, val_two, val_two]
    · rw [if_neg hw, if_neg hw]
  · intro ha hb hz
    have hk := dz_tk (dzA_B hz)
    have e : wrB ⟨2, m.d, m.b, 0, 0, m.c⟩ = wrB m := by
      rw [Bool.eq_iff_iff, wrB_iff, wrB_iff]
      simp only
      omega
    unfold behV
    rw [e]
    by_cases hw : wrB m = true
    · rw [if_pos hw, if_pos hw]
      show putR R m.d.toNat (meanO m.b 0 R) = _
      rw [mn_is h ha, val_zA hz (meanO_w hm hR), mean_imm (b := m.m) (mn_none hb)]
    · rw [if_neg hw, if_neg hw]
  · intro ha hb hz
    have hk := dz_tk hz
    have e : wrB ⟨2, m.d, m.a, 0, 0, m.c⟩ = wrB m := by
      rw [Bool.eq_iff_iff, wrB_iff, wrB_iff]
      simp only
      omega
    unfold behV
    rw [e]
    by_cases hw : wrB m = true
    · rw [if_pos hw, if_pos hw]
      show putR R m.d.toNat (meanO m.a 0 R) = _
      rw [mn_is h hb, val_zB hz (meanO_w hm hR), mean_imm (b := m.m) (mn_none ha)]
    · rw [if_neg hw, if_neg hw]

theorem kn_keep {K : Nat → Option Int} {R : Nat → Int} (h : KnIs K R) (m : Mi) : KnIs (fdK K m) (behV m R) := by
  unfold fdK behV
  by_cases hw : wrB m = true
  · rw [if_pos hw, if_pos hw]
    intro n v hn e
    unfold putK at e
    unfold putR
    by_cases e1 : n = m.d.toNat
    · rw [if_pos e1] at e ⊢
      by_cases e2 : m.k = 1
      · rw [if_pos e2] at e
        rw [e2, val_one]
        exact Option.some.inj e
      · rw [if_neg e2] at e; cases e
    · rw [if_neg e1] at e ⊢; exact h n v hn e
  · rw [if_neg hw, if_neg hw]; exact h

theorem fold_runs : ∀ (l : List Mi) (K : Nat → Option Int) (R : Nat → Int), KnIs K R → (∀ k, Cp.W32 (R k)) → (∀ m ∈ l, Cp.W32 m.m) → runL (mapS fdF (fun K m => fdK K (fdF K m)) K l) R = runL l R
  | [], _, _, _, _, _ => rfl
  | m :: l, K, R, h, hR, hl => by
    have hm := hl m (List.mem_cons_self ..)
    have := kn_keep h (fdF K m)
    rw [fd_beh h hR hm] at this
    rw [mapS, runL, runL, fd_beh h hR hm]
    exact fold_runs l _ _ this (behV_w hm hR) (fun x hx => hl x (List.mem_cons_of_mem _ hx))

theorem kn_0 {R : Nat → Int} (h : R 0 = 0) : KnIs K0 R := fun n v hn e => by
  unfold K0 at e
  by_cases e1 : n = 0
  · rw [if_pos e1] at e; cases e; rw [e1]; exact h
  · rw [if_neg e1] at e; cases e

theorem fold_run (l : List Mi) (R : Nat → Int) (h0 : R 0 = 0) (hR : ∀ k, Cp.W32 (R k)) (hl : ∀ m ∈ l, Cp.W32 m.m) : runL (foldV l) R = runL l R := fold_runs l _ R (kn_0 h0) hR hl

/-- What is lost makes no difference. -/
def Agr (L : Nat → Bool) (R Q : Nat → Int) : Prop := ∀ n, L n = false → R n = Q n

theorem ddB_f {L : Nat → Bool} {m : Mi} {n : Nat} (h : L n = false) : ddB L m n = false := by
  unfold ddB
  split
  · unfold putL; split
    · rfl
    · exact h
  · exact h

theorem ddA_f {L : Nat → Bool} {m : Mi} {n : Nat} (h : L n = false) : ddA L m n = false := by
  unfold ddA
  split
  · unfold putL; split
    · rfl
    · exact h
  · exact h

theorem dd_false {L : Nat → Bool} {m : Mi} {n : Nat} (h : L n = false) (hd : wrB m = true → n ≠ m.d.toNat) : ddL L m n = false := by
  refine ddB_f (ddA_f ?_)
  unfold ddW
  split
  · rename_i hw
    unfold putL
    rw [if_neg (hd hw)]; exact h
  · exact h

theorem dd_a {L : Nat → Bool} {m : Mi} (h : rdA m = true) : ddL L m m.a.toNat = false := by
  refine ddB_f ?_
  unfold ddA putL
  rw [if_pos h, if_pos rfl]

theorem dd_b {L : Nat → Bool} {m : Mi} (h : rdB m = true) : ddL L m m.b.toNat = false := by
  unfold ddL ddB
  rw [if_pos h]
  unfold putL
  rw [if_pos rfl]

theorem val_same {m : Mi} {R Q : Nat → Int} (hw : wrB m = true) (ha : rdA m = true → R m.a.toNat = Q m.a.toNat) (hb : rdB m = true → R m.b.toNat = Q m.b.toNat) :
    valV m.k (meanO m.a m.m R) (meanO m.b m.m R) m.m = valV m.k (meanO m.a m.m Q) (meanO m.b m.m Q) m.m := by
  have hk := wrB_iff.1 hw
  by_cases e1 : m.k = 1
  · rw [e1, val_one, val_one]
  · have h1 : meanO m.a m.m R = meanO m.a m.m Q := mean_same (fun h => ha (rdA_iff.2 ⟨by omega, regB_iff.1 h⟩))
    rw [h1]
    by_cases e2 : m.k = 2
    · rw [e2, val_two, val_two]
    · have h2 : meanO m.b m.m R = meanO m.b m.m Q := mean_same (fun h => hb (rdB_iff.2 ⟨by omega, regB_iff.1 h⟩))
      rw [h2]

theorem beh_none {m : Mi} (R : Nat → Int) (h : m.k = 0) : behV m R = R := by
  unfold behV
  rw [if_neg (fun hw => by have := wrB_iff.1 hw; omega)]

theorem dead_step {L : Nat → Bool} {R Q : Nat → Int} {m : Mi} (h : Agr (ddL L m) R Q) : Agr L (behV m R) (behV (ddM L m) Q) := by
  intro n hn
  unfold ddM
  by_cases hw : wrB m = true
  · by_cases hL : L m.d.toNat = true
    · rw [if_pos ⟨hw, hL⟩, beh_none Q rfl]
      have hnd : n ≠ m.d.toNat := fun e => by rw [e, hL] at hn; cases hn
      unfold behV
      rw [if_pos hw]
      unfold putR
      rw [if_neg hnd]
      exact h n (dd_false hn (fun _ => hnd))
    · rw [if_neg (fun hh => hL hh.2)]
      unfold behV
      rw [if_pos hw, if_pos hw, val_same hw (fun e => h _ (dd_a e)) (fun e => h _ (dd_b e))]
      unfold putR
      by_cases e : n = m.d.toNat
      · rw [if_pos e, if_pos e]
      · rw [if_neg e, if_neg e]; exact h n (dd_false hn (fun _ => e))
  · rw [if_neg (fun hh => hw hh.1)]
    unfold behV
    rw [if_neg hw, if_neg hw]
    exact h n (dd_false hn (fun e => absurd e hw))

theorem kept_runs : ∀ (l : List Mi) (R Q : Nat → Int), Agr (lostV l) R Q → runL (keptV l) Q = runL l R
  | [], R, Q, h => by
    funext n
    exact (h n rfl).symm
  | m :: l, R, Q, h => by
    rw [keptV, runL, runL]
    exact kept_runs l _ _ (dead_step h)

theorem filter_run : ∀ (l : List Mi) (R : Nat → Int), runL (l.filter fun m => !(m.k == 0)) R = runL l R
  | [], R => rfl
  | m :: l, R => by
    by_cases e : m.k = 0
    · rw [List.filter_cons_of_neg (by simp [e]), runL, beh_none R e]
      exact filter_run l R
    · rw [List.filter_cons_of_pos (by simp [e]), runL, runL]
      exact filter_run l _

theorem dead_run (l : List Mi) (R : Nat → Int) : runL (deadV l) R = runL l R := (filter_run _ _).trans (kept_runs l R R (fun _ _ => rfl))

/-- What may be. -/
theorem may_mono {p q : Int} (h : p ≤ q) : ∀ l, mayFrom q l = true → mayFrom p l = true
  | [], _ => rfl
  | m :: l, e => by
    simp only [mayFrom, Bool.and_eq_true, decide_eq_true_eq] at e ⊢
    exact ⟨⟨by omega, e.1.2⟩, e.2⟩

theorem sound_hi {m : Mi} (h : 2 ≤ m.k) : soundB m = true ↔ wrB m = true ∧ (m.k = 2 → m.b = 0) ∧ oprB m.a = true ∧ oprB m.b = true ∧ (m.m = 0 ∨ m.a = 32 ∨ m.b = 32) := by
  unfold soundB
  rw [if_neg (by omega)]
  by_cases hw : wrB m = false
  · rw [if_pos hw, hw]; simp
  · rw [if_neg hw, if_neg (by omega)]
    have hw' : wrB m = true := by simpa using hw
    rw [hw']
    by_cases e : m.k = 2 ∧ ¬ m.b = 0
    · rw [if_pos e]; simp [e.1, e.2]
    · rw [if_neg e]
      have e' : m.k = 2 → m.b = 0 := fun h => Classical.byContradiction fun hb => e ⟨h, hb⟩
      simp only [Bool.and_eq_true, Bool.or_eq_true, beq_iff_eq]
      exact ⟨fun h => ⟨trivial, e', h.1, h.2.1, h.2.2⟩, fun h => ⟨h.2.2.1, h.2.2.2.1, h.2.2.2.2⟩⟩

theorem sound_wr {m : Mi} (h : soundB m = true) (hk : ¬ m.k = 0) : wrB m = true := by
  unfold soundB at h
  rw [if_neg hk] at h
  by_cases hw : wrB m = false
  · rw [if_pos hw] at h; cases h
  · simpa using hw

theorem sound_k {m : Mi} (h : soundB m = true) : 0 ≤ m.k ∧ m.k < 14 := by
  by_cases hk : m.k = 0
  · omega
  · have := wrB_iff.1 (sound_wr h hk); omega

theorem cp_low {S : Nat → Int} {m : Mi} (h : ¬ 2 ≤ m.k) : cpM S m = m := by
  have h1 : ¬ rdA m = true := fun e => h (rdA_iff.1 e).1.1
  have h2 : ¬ rdB m = true := fun e => h (by have := (rdB_iff.1 e).1.1; omega)
  unfold cpM
  rw [if_neg h1, if_neg h2]

def SrcOk (S : Nat → Int) : Prop := ∀ n, n < 32 → regB (S n) = true

theorem srcOk_keep {S : Nat → Int} (h : SrcOk S) (m : Mi) : SrcOk (cpS S m) := by
  unfold cpS
  split
  · rename_i hw
    have hb := wrB_iff.1 hw
    intro n hn
    unfold srcB
    split
    · split
      · rename_i e; exact e.2
      · exact regB_iff.2 (by omega)
    · split
      · exact regB_iff.2 (by omega)
      · exact h n hn
  · exact h

theorem sound_cp {S : Nat → Int} {m : Mi} (hS : SrcOk S) (h : soundB m = true) : soundB (cpM S m) = true := by
  by_cases hk : 2 ≤ m.k
  · obtain ⟨h1, h2, h3, h4, h5⟩ := (sound_hi hk).1 h
    refine (sound_hi (m := cpM S m) hk).2 ⟨h1, ?_, ?_, ?_, ?_⟩
    · intro e
      have e' : m.k = 2 := e
      show (if rdB m then S m.b.toNat else m.b) = 0
      rw [if_neg (fun hh => by have := (rdB_iff.1 hh).1; omega)]
      exact h2 e
    · show oprB (if rdA m then S m.a.toNat else m.a) = true
      split
      · rename_i e
        have := regB_iff.1 (hS m.a.toNat (by have := rdA_iff.1 e; omega))
        exact oprB_iff.2 (by omega)
      · exact h3
    · show oprB (if rdB m then S m.b.toNat else m.b) = true
      split
      · rename_i e
        have := regB_iff.1 (hS m.b.toNat (by have := rdB_iff.1 e; omega))
        exact oprB_iff.2 (by omega)
      · exact h4
    · show m.m = 0 ∨ (if rdA m then S m.a.toNat else m.a) = 32 ∨ (if rdB m then S m.b.toNat else m.b) = 32
      rcases h5 with e | e | e
      · exact Or.inl e
      · right; left
        rw [if_neg (fun hh => by have := (rdA_iff.1 hh).2; omega)]; exact e
      · right; right
        rw [if_neg (fun hh => by have := (rdB_iff.1 hh).2; omega)]; exact e
  · rw [cp_low hk]; exact h

theorem copy_mays : ∀ (l : List Mi) (S : Nat → Int) (p : Int), SrcOk S → mayFrom p l = true → mayFrom p (mapS cpM (fun S m => cpS S (cpM S m)) S l) = true
  | [], _, _, _, _ => rfl
  | m :: l, S, p, hS, h => by
    simp only [mapS, mayFrom, Bool.and_eq_true, decide_eq_true_eq] at h ⊢
    exact ⟨⟨h.1.1, h.1.2.1, sound_cp hS h.1.2.2⟩, copy_mays l _ _ (srcOk_keep hS _) h.2⟩

theorem may_iff (l : List Mi) : mayB l = true ↔ l.length ≤ 16 ∧ mayFrom 0 l = true := by
  unfold mayB
  rw [Bool.and_eq_true, decide_eq_true_eq]

theorem copy_may {l : List Mi} (h : mayB l = true) : mayB (copyV l) = true := by
  rw [may_iff] at h ⊢
  refine ⟨by unfold copyV; rw [mapS_len]; exact h.1, copy_mays l _ 0 (fun n hn => (src_id (fun _ => 0) n hn).1) h.2⟩

theorem sound_fd {K : Nat → Option Int} {m : Mi} (h : soundB m = true) : soundB (fdF K m) = true := by
  unfold fdF
  refine fd_cases m _ _ (fun q => soundB q = true) h ?_ ?_ ?_
  · intro x ht ha hb
    have hk := tkA_iff.1 ht
    have hw := wrB_iff.1 (sound_wr h (by omega))
    unfold soundB
    have e : wrB ⟨1, m.d, 0, 0, valV m.k x ((mnK K m.b m.m).getD 0) m.m, m.c⟩ = true := wrB_iff.2 ⟨by show (0 : Int) < 1; decide, by show (1 : Int) < 14; decide, hw.2.2.1, hw.2.2.2⟩
    rw [if_neg (show ¬ (1 : Int) = 0 by decide), e]
    rfl
  · intro ha hb hz
    have hk := dz_tk (dzA_B hz)
    obtain ⟨h1, h2, h3, h4, h5⟩ := (sound_hi (by omega)).1 h
    have hw := wrB_iff.1 h1
    exact (sound_hi (m := ⟨2, m.d, m.b, 0, 0, m.c⟩) (by show (2 : Int) ≤ 2; decide)).2 ⟨wrB_iff.2 ⟨by show (0 : Int) < 2; decide, by show (2 : Int) < 14; decide, hw.2.2.1, hw.2.2.2⟩, fun _ => rfl, h4, rfl, Or.inl rfl⟩
  · intro ha hb hz
    have hk := dz_tk hz
    obtain ⟨h1, h2, h3, h4, h5⟩ := (sound_hi (by omega)).1 h
    have hw := wrB_iff.1 h1
    exact (sound_hi (m := ⟨2, m.d, m.a, 0, 0, m.c⟩) (by show (2 : Int) ≤ 2; decide)).2 ⟨wrB_iff.2 ⟨by show (0 : Int) < 2; decide, by show (2 : Int) < 14; decide, hw.2.2.1, hw.2.2.2⟩, fun _ => rfl, h3, rfl, Or.inl rfl⟩

theorem fd_c (K : Nat → Option Int) (m : Mi) : (fdF K m).c = m.c := by
  unfold fdF
  exact fd_cases m _ _ (fun q => q.c = m.c) rfl (fun _ _ _ _ => rfl) (fun _ _ _ => rfl) (fun _ _ _ => rfl)

theorem fold_mays : ∀ (l : List Mi) (K : Nat → Option Int) (p : Int), mayFrom p l = true → mayFrom p (mapS fdF (fun K m => fdK K (fdF K m)) K l) = true
  | [], _, _, _ => rfl
  | m :: l, K, p, h => by
    simp only [mapS, mayFrom, Bool.and_eq_true, decide_eq_true_eq] at h ⊢
    rw [fd_c]
    exact ⟨⟨h.1.1, h.1.2.1, sound_fd h.1.2.2⟩, fold_mays l _ _ h.2⟩

theorem fold_may {l : List Mi} (h : mayB l = true) : mayB (foldV l) = true := by
  rw [may_iff] at h ⊢
  exact ⟨by unfold foldV; rw [mapS_len]; exact h.1, fold_mays l _ 0 h.2⟩

theorem dead_cons (m : Mi) (l : List Mi) : deadV (m :: l) = deadV l ∨ (deadV (m :: l) = m :: deadV l ∧ ¬ m.k = 0) := by
  unfold deadV
  rw [keptV]
  by_cases e : (ddM (lostV l) m).k = 0
  · left; rw [List.filter_cons_of_neg (by simp [e])]
  · right
    rw [List.filter_cons_of_pos (by simp [e])]
    unfold ddM at e ⊢
    by_cases e2 : wrB m = true ∧ lostV l m.d.toNat = true
    · rw [if_pos e2] at e; exact absurd rfl e
    · rw [if_neg e2] at e ⊢; exact ⟨rfl, e⟩

theorem dead_mays : ∀ (l : List Mi) (p : Int), mayFrom p l = true → mayFrom p (deadV l) = true
  | [], _, _ => rfl
  | m :: l, p, h => by
    simp only [mayFrom, Bool.and_eq_true, decide_eq_true_eq] at h
    rcases dead_cons m l with e | ⟨e, -⟩
    · rw [e]; exact dead_mays l p (may_mono h.1.1 l h.2)
    · rw [e]
      simp only [mayFrom, Bool.and_eq_true, decide_eq_true_eq]
      exact ⟨h.1, dead_mays l _ h.2⟩

theorem dead_len (l : List Mi) : (deadV l).length ≤ l.length := by
  unfold deadV
  exact Nat.le_trans (List.length_filter_le _ _) (Nat.le_of_eq (keptV_len l))

theorem dead_may {l : List Mi} (h : mayB l = true) : mayB (deadV l) = true := by
  rw [may_iff] at h ⊢
  exact ⟨Nat.le_trans (dead_len l) h.1, dead_mays l 0 h.2⟩

/-- Numbers stay words. -/
theorem copy_w : ∀ (l : List Mi) (S : Nat → Int), (∀ m ∈ l, Cp.W32 m.m) → ∀ m ∈ mapS cpM (fun S m => cpS S (cpM S m)) S l, Cp.W32 m.m
  | [], _, _ => fun m hm => by cases hm
  | m :: l, S, h => fun x hx => by
    rw [mapS] at hx
    rcases List.mem_cons.1 hx with rfl | hx
    · exact h m (List.mem_cons_self ..)
    · exact copy_w l _ (fun y hy => h y (List.mem_cons_of_mem _ hy)) x hx

def KnW (K : Nat → Option Int) : Prop := ∀ n v, K n = some v → Cp.W32 v

theorem mn_w {K : Nat → Option Int} (h : KnW K) {n imm : Int} (hi : Cp.W32 imm) : ∀ v, mnK K n imm = some v → Cp.W32 v := by
  intro v e
  unfold mnK at e
  split at e
  · cases e; exact hi
  · split at e
    · exact h _ _ e
    · cases e

theorem mn_wD {K : Nat → Option Int} (h : KnW K) {n imm : Int} (hi : Cp.W32 imm) : Cp.W32 ((mnK K n imm).getD 0) := by
  cases e : mnK K n imm with
  | none => exact Cp.w0
  | some v => exact mn_w h hi v e

theorem fd_w {K : Nat → Option Int} {m : Mi} (h : KnW K) (hm : Cp.W32 m.m) : Cp.W32 (fdF K m).m := by
  unfold fdF
  refine fd_cases m _ _ (fun q => Cp.W32 q.m) hm ?_ ?_ ?_
  · intro x ht ha hb
    exact valV_w _ _ _ _ (mn_w h hm x ha) (mn_wD h hm) hm
  · intro _ _ _; exact Cp.w0
  · intro _ _ _; exact Cp.w0

theorem knW_keep {K : Nat → Option Int} {m : Mi} (h : KnW K) (hm : Cp.W32 m.m) : KnW (fdK K m) := by
  unfold fdK
  split
  · intro n v e
    unfold putK at e
    split at e
    · split at e
      · cases e; exact hm
      · cases e
    · exact h n v e
  · exact h

theorem folds_w : ∀ (l : List Mi) (K : Nat → Option Int), KnW K → (∀ m ∈ l, Cp.W32 m.m) → ∀ m ∈ mapS fdF (fun K m => fdK K (fdF K m)) K l, Cp.W32 m.m
  | [], _, _, _ => fun m hm => by cases hm
  | m :: l, K, hK, h => fun x hx => by
    have hm := h m (List.mem_cons_self ..)
    rw [mapS] at hx
    rcases List.mem_cons.1 hx with rfl | hx
    · exact fd_w hK hm
    · exact folds_w l _ (knW_keep hK (fd_w hK hm)) (fun y hy => h y (List.mem_cons_of_mem _ hy)) x hx

theorem knW_0 : KnW K0 := fun n v e => by
  unfold K0 at e
  split at e
  · cases e; exact Cp.w0
  · cases e

theorem dead_mem : ∀ (l : List Mi) (m : Mi), m ∈ deadV l → m ∈ l
  | [], m, h => by cases h
  | x :: l, m, h => by
    rcases dead_cons x l with e | ⟨e, -⟩
    · rw [e] at h; exact List.mem_cons_of_mem _ (dead_mem l m h)
    · rw [e] at h
      rcases List.mem_cons.1 h with rfl | h
      · exact List.mem_cons_self ..
      · exact List.mem_cons_of_mem _ (dead_mem l m h)

theorem words_iff (l : List Mi) : WordsM l ↔ ∀ m ∈ l, Cp.W32 m.m :=
  ⟨fun h m hm => by obtain ⟨i, hi, rfl⟩ := List.getElem_of_mem hm; exact h i _ (List.getElem?_eq_getElem hi), fun h i m hi => h m (List.mem_of_getElem? hi)⟩

/-- A list of operations that is as good as another one. -/
structure AsGood (l q : List Mi) : Prop where
  run : ∀ R : Nat → Int, R 0 = 0 → (∀ k, Cp.W32 (R k)) → runL q R = runL l R
  may : mayB l = true → mayB q = true
  words : WordsM l → WordsM q
  len : q.length ≤ l.length

theorem good_copy (l : List Mi) : AsGood l (copyV l) :=
  ⟨fun R _ _ => copy_run l R, copy_may, fun h => (words_iff _).2 (copy_w l _ ((words_iff _).1 h)), by unfold copyV; rw [mapS_len]; exact Nat.le_refl _⟩

theorem good_dead (l : List Mi) : AsGood l (deadV l) :=
  ⟨fun R _ _ => dead_run l R, dead_may, fun h => (words_iff _).2 (fun m hm => (words_iff _).1 h m (dead_mem l m hm)), dead_len l⟩

theorem good_fold (l : List Mi) (hw : WordsM l) : AsGood l (foldV l) :=
  ⟨fun R h0 hR => fold_run l R h0 hR ((words_iff _).1 hw), fold_may, fun h => (words_iff _).2 (folds_w l _ knW_0 ((words_iff _).1 h)), by unfold foldV; rw [mapS_len]; exact Nat.le_refl _⟩

theorem AsGood.trans {a b c : List Mi} (h : AsGood a b) (k : AsGood b c) : AsGood a c :=
  ⟨fun R h0 hR => (k.run R h0 hR).trans (h.run R h0 hR), fun e => k.may (h.may e), fun e => k.words (h.words e), Nat.le_trans k.len h.len⟩

theorem AsGood.rfl' (a : List Mi) : AsGood a a := ⟨fun _ _ _ => rfl, id, id, Nat.le_refl _⟩

theorem good_all (c f d : Bool) (l : List Mi) (hw : WordsM l) : AsGood l (allV c f d l) := by
  have g1 : AsGood l (if c then copyV l else l) := by
    cases c
    · exact AsGood.rfl' l
    · exact good_copy l
  have g2 : AsGood l (if f then foldV (if c then copyV l else l) else (if c then copyV l else l)) := by
    cases f
    · exact g1
    · exact g1.trans (good_fold _ (g1.words hw))
  have g3 : AsGood l (if c then copyV (if f then foldV (if c then copyV l else l) else (if c then copyV l else l)) else (if f then foldV (if c then copyV l else l) else (if c then copyV l else l))) := by
    cases c
    · exact g2
    · exact g2.trans (good_copy _)
  show AsGood l (if d then deadV _ else _)
  cases d
  · exact g3
  · exact g3.trans (good_dead _)

theorem may_count {l : List Mi} (h : mayB l = true) : ∀ m ∈ l, m.c ≤ 9223372036854775807 := by
  have key : ∀ (l : List Mi) (p : Int), mayFrom p l = true → ∀ m ∈ l, m.c ≤ 16 := by
    intro l
    induction l with
    | nil => intro p _ m hm; cases hm
    | cons x l ih =>
      intro p h m hm
      simp only [mayFrom, Bool.and_eq_true, decide_eq_true_eq] at h
      rcases List.mem_cons.1 hm with rfl | hm
      · exact h.1.2.1
      · exact ih _ h.2 m hm
  intro m hm
  have := key l 0 ((may_iff l).1 h).2 m hm
  omega

/-- So Run tells the same. -/
theorem AsGood.until {l q : List Mi} (h : AsGood l q) (hm : mayB l = true) (R : Nat → Int) (h0 : R 0 = 0) (hR : ∀ k, Cp.W32 (R k)) :
    untilV 9223372036854775807 q R = untilV 9223372036854775807 l R := by
  rw [until_runL q R (may_count (h.may hm)), until_runL l R (may_count hm)]
  exact h.run R h0 hR

end Go.Proofs.Ytnbflahggpehpab.Ir
