/- Layer 15: operations that are known numbers alone are all set behind Fold. -/
import Derived.Test.YtnbflahggpehpabQOpPure
namespace Go.Proofs.Ytnbflahggpehpab.Ir
open Go.RowKit
set_option linter.unusedVariables false
set_option maxRecDepth 100000
set_option linter.unusedSimpArgs false

/-- The law's operations of numbers. -/
def numM (i : Nat) (z : Int) : Mi := if i % 2 = 0 then ⟨1, 1 + (i : Int), 0, 0, z, (i : Int) + 1⟩ else ⟨3 + bits .and .i64 z 7, 1 + (i : Int), (i : Int), 0, 0, (i : Int) + 1⟩

def numsM : Nat → List Int → List Mi
  | _, [] => []
  | i, z :: r => numM i z :: numsM (i + 1) r

/-- A number is set. -/
def SetOf (m q : Mi) : Prop := q.k = 1 ∧ q.d = m.d ∧ q.c = m.c

theorem and7 (z : Int) (h : Cp.W32 z) : 0 ≤ bits .and .i64 z 7 ∧ bits .and .i64 z 7 ≤ 7 := by
  have h8 : (BitVec.ofInt 64 z &&& 7#64).toNat < 8 := by
    have : (BitVec.ofInt 64 z &&& 7#64).toNat = (BitVec.ofInt 64 z).toNat &&& 7 := by simp [BitVec.toNat_and]
    rw [this]
    exact Nat.lt_of_le_of_lt Nat.and_le_right (by decide)
  have e : bits .and .i64 z 7 = ((BitVec.ofInt 64 z &&& 7#64).toNat : Int) := by
    show IntKind.i64.wrap ((BitVec.ofInt 64 z &&& BitVec.ofInt 64 7).toNat : Int) = _
    rw [show BitVec.ofInt 64 7 = 7#64 from rfl, IntKind.wrap_i64]
    omega
  rw [e]
  omega

theorem num_set {K : Nat → Option Int} {i : Nat} {z : Int} (hz : Cp.W32 z) (hi : i < 31) (hK : ∀ j, j ≤ i → (K j).isSome = true) : SetOf (numM i z) (fdF K (numM i z)) := by
  unfold numM
  split
  · unfold fdF fdM
    rw [if_pos (by simp [tkA])]
    exact ⟨rfl, rfl, rfl⟩
  · obtain ⟨a0, a7⟩ := and7 z hz
    generalize bits .and .i64 z 7 = q at *
    unfold fdF fdM
    have e1 : ¬ tkA (3 + q) = false := by
      have : tkA (3 + q) = true := tkA_iff.2 (by omega)
      rw [this]; simp
    have eA : (mnK K (i : Int) 0).isSome = true := by
      unfold mnK
      rw [if_neg (by omega), if_pos (regB_iff.2 (by omega)), Int.toNat_natCast]
      exact hK i (Nat.le_refl _)
    have eB : (mnK K 0 0).isSome = true := by
      unfold mnK
      rw [if_neg (by omega), if_pos (regB_iff.2 (by omega))]
      exact hK 0 (Nat.zero_le _)
    dsimp only
    rw [if_neg e1, if_pos ⟨eA, Or.inl eB⟩]
    exact ⟨rfl, rfl, rfl⟩

theorem num_keep {K : Nat → Option Int} {i : Nat} {q : Mi} (hi : i < 31) (hK : ∀ j, j ≤ i → (K j).isSome = true) (hq : q.k = 1 ∧ q.d = 1 + (i : Int)) : ∀ j, j ≤ i + 1 → (fdK K q j).isSome = true := by
  intro j hj
  unfold fdK
  rw [if_pos (wrB_iff.2 (by omega)), if_pos hq.1]
  unfold putK
  split
  · rfl
  · rename_i h
    exact hK j (by have := hq.2; omega)

theorem num_d (i : Nat) (z : Int) : (numM i z).d = 1 + (i : Int) := by unfold numM; split <;> rfl

theorem nums_set : ∀ (r : List Int) (i : Nat) (K : Nat → Option Int), (∀ z ∈ r, Cp.W32 z) → i + r.length ≤ 31 → (∀ j, j ≤ i → (K j).isSome = true) →
    ∀ (p : Nat) (m : Mi), (numsM i r)[p]? = some m → ∃ q, (mapS fdF (fun K m => fdK K (fdF K m)) K (numsM i r))[p]? = some q ∧ SetOf m q
  | [], _, _, _, _, _, p, m, h => by simp [numsM] at h
  | z :: r, i, K, hw, hi, hK, p, m, h => by
    simp only [List.length_cons] at hi
    have hz := hw z (List.mem_cons_self ..)
    have hs := num_set hz (by omega) hK
    rw [numsM] at h ⊢
    rw [mapS]
    cases p with
    | zero =>
      simp at h
      subst h
      exact ⟨_, rfl, hs⟩
    | succ p =>
      simp only [List.getElem?_cons_succ] at h ⊢
      exact nums_set r (i + 1) _ (fun x hx => hw x (List.mem_cons_of_mem _ hx)) (by omega) (num_keep (by omega) hK ⟨hs.1, by rw [hs.2.1, num_d]⟩) p m h

theorem nums_len : ∀ (r : List Int) (i : Nat), (numsM i r).length = r.length
  | [], _ => rfl
  | _ :: r, i => by simp [numsM, nums_len r (i + 1)]

theorem nums_at : ∀ (r : List Int) (i p : Nat) (z : Int), r[p]? = some z → (numsM i r)[p]? = some (numM (i + p) z)
  | [], _, p, z, h => by simp at h
  | y :: r, i, p, z, h => by
    rw [numsM]
    cases p with
    | zero => simp at h; subst h; rfl
    | succ p =>
      simp only [List.getElem?_cons_succ] at h ⊢
      rw [nums_at r (i + 1) p z h]
      congr 2
      omega

theorem num_w {z : Int} (hz : Cp.W32 z) (i : Nat) : Cp.W32 (numM i z).m := by
  unfold numM
  split
  · exact hz
  · exact Cp.w0

theorem nums_w : ∀ (r : List Int) (i : Nat), (∀ z ∈ r, Cp.W32 z) → ∀ m ∈ numsM i r, Cp.W32 m.m
  | [], _, _, m, hm => by cases hm
  | z :: r, i, h, m, hm => by
    rw [numsM] at hm
    rcases List.mem_cons.1 hm with rfl | hm
    · exact num_w (h z (List.mem_cons_self ..)) i
    · exact nums_w r (i + 1) (fun x hx => h x (List.mem_cons_of_mem _ hx)) m hm

theorem fold_nums (r : List Int) (hr : r.length ≤ 15) (hw : ∀ z ∈ r, Cp.W32 z) (p : Nat) (m : Mi) (h : (numsM 0 r)[p]? = some m) : ∃ q, (foldV (numsM 0 r))[p]? = some q ∧ SetOf m q := by
  unfold foldV
  exact nums_set r 0 K0 hw (by omega) (fun j hj => by
    have : j = 0 := by omega
    subst this
    rfl) p m h

end Go.Proofs.Ytnbflahggpehpab.Ir
