/- Pages that are not dirty are what they were: what each call keeps. -/
import Derived.Test.YtbbofbilagaihaaMemApartW
namespace Go.Proofs.Ytbbofbilagaihaa
open Go.RowKit
set_option linter.unusedVariables false
set_option linter.unusedSimpArgs false

/-- A page that is not dirty now was not dirty, and has the bytes that it had. -/
def Less (n : Nat) (B : Nat → Nat) (D : Nat → Bool) (B' : Nat → Nat) (D' : Nat → Bool) : Prop := ∀ k, k < n → D' k = false → D k = false ∧ ∀ i, i < 256 → B' (256 * k + i) = B (256 * k + i)

theorem Less.refl (n : Nat) (B : Nat → Nat) (D : Nat → Bool) : Less n B D B D := fun k _ h => ⟨h, fun _ _ => rfl⟩

/-- Pages that are not dirty have W's bytes. -/
def Just (n : Nat) (B : Nat → Nat) (D : Nat → Bool) (W : Nat → Nat) : Prop := ∀ k, k < n → D k = false → ∀ i, i < 256 → B (256 * k + i) = W (256 * k + i)

theorem Just.less {n : Nat} {B B' W : Nat → Nat} {D D' : Nat → Bool} (h : Just n B D W) (l : Less n B D B' D') : Just n B' D' W := fun k hk hd i hi => by
  obtain ⟨h1, h2⟩ := l k hk hd
  rw [h2 i hi, h k hk h1 i hi]

theorem Just.all (n : Nat) (B : Nat → Nat) (D : Nat → Bool) : Just n B D B := fun _ _ _ _ _ => rfl

theorem store_keep {w : World} {p g n c : Nat} {B : Nat → Nat} {D : Nat → Bool} (M : Mem w p g n c B D) (a v : Nat) (z : Int) (ha : a < 4294967296) (hv : v < 4294967296) :
    Calls Try.prog 17 #[.pointer (some ⟨p, 0, none⟩), .int .u32 (a : Int), .int .i64 z, .int .u32 (v : Int)] w fun e w' =>
      ∃ err : Int, e = .returned (.int .i64 err) ∧ (∃ B' D', Mem w' p g n c B' D' ∧ Less n B D B' D') ∧ w.grownBy w' (some g) := by
  by_cases hm : (z = 1 ∨ z = 2 ∨ z = 4) ∧ (a : Int) % z = 0 ∧ (a : Int) + z ≤ 256 * n
  · obtain ⟨s, rfl⟩ : ∃ s : Nat, z = (s : Int) := ⟨z.toNat, by omega⟩
    have hm2 : may n a s := by unfold may; omega
    refine (store_any M a s v ha hv hm2).mono ?_
    rintro e w' ⟨rfl, M', g'⟩
    refine ⟨0, rfl, ⟨_, _, M', ?_⟩, g'⟩
    intro k hk hd
    unfold putD at hd
    by_cases e : k = a / 256
    · rw [if_pos e] at hd; cases hd
    · rw [if_neg e] at hd
      refine ⟨hd, fun i hi => ?_⟩
      unfold putB
      have h1 := hm2.1
      have h2 := hm2.2.1
      rw [if_neg (by rcases h1 with rfl | rfl | rfl <;> omega)]
  · refine (store_bad M (a : Int) z (v : Int) (by omega) (by omega) hm).mono ?_
    rintro e w' ⟨rfl, rfl⟩
    exact ⟨61, rfl, ⟨_, _, M, Less.refl _ _ _⟩, grownBy_refl _ _⟩

theorem put_keep {w : World} {p g n c : Nat} {B : Nat → Nat} {D : Nat → Bool} (M : Mem w p g n c B D) (z : Int) (s : ByteArray) :
    Calls Try.prog 21 #[.pointer (some ⟨p, 0, none⟩), .int .i64 z, .string s] w fun e w' =>
      ∃ err : Int, e = .returned (.int .i64 err) ∧ (∃ B' D', Mem w' p g n c B' D' ∧ Less n B D B' D') ∧ w.grownBy w' (some g) := by
  by_cases hz : 0 ≤ z ∧ z < n
  · obtain ⟨q, rfl⟩ : ∃ q : Nat, z = (q : Int) := ⟨z.toNat, by omega⟩
    by_cases hs : s.size = 256
    · refine (put_any M q s (by omega) hs).mono ?_
      rintro e w' ⟨rfl, M', g'⟩
      refine ⟨0, rfl, ⟨_, _, M', ?_⟩, g'⟩
      intro k hk hd
      unfold putD at hd
      by_cases e : k = q
      · rw [if_pos e] at hd; cases hd
      · rw [if_neg e] at hd
        refine ⟨hd, fun i hi => ?_⟩
        unfold pageB
        rw [if_neg (by omega)]
    · refine (put_size M q s (by omega) hs).mono ?_
      rintro e w' ⟨rfl, rfl⟩
      exact ⟨60, rfl, ⟨_, _, M, Less.refl _ _ _⟩, grownBy_refl _ _⟩
  · refine (put_bad M z s hz).mono ?_
    rintro e w' ⟨rfl, rfl⟩
    exact ⟨61, rfl, ⟨_, _, M, Less.refl _ _ _⟩, grownBy_refl _ _⟩

theorem load_keep {w : World} {p g n c : Nat} {B : Nat → Nat} {D : Nat → Bool} (M : Mem w p g n c B D) (a : Nat) (z : Int) (ha : a < 4294967296) :
    Calls Try.prog 15 #[.pointer (some ⟨p, 0, none⟩), .int .u32 (a : Int), .int .i64 z] w fun e w' => ∃ x err : Int, e = .returned (.tuple #[.int .u32 x, .int .i64 err]) ∧ w' = w := by
  by_cases hm : (z = 1 ∨ z = 2 ∨ z = 4) ∧ (a : Int) % z = 0 ∧ (a : Int) + z ≤ 256 * n
  · obtain ⟨s, rfl⟩ : ∃ s : Nat, z = (s : Int) := ⟨z.toNat, by omega⟩
    refine (load_any M a s ha (by unfold may; omega)).mono ?_
    rintro e w' ⟨rfl, rfl⟩
    exact ⟨_, _, rfl, rfl⟩
  · refine (load_bad M (a : Int) z (by omega) (by omega) hm).mono ?_
    rintro e w' ⟨rfl, rfl⟩
    exact ⟨_, _, rfl, rfl⟩

/-- A piece of a text. -/
theorem cut_mid (S : ByteArray) (l h : Int) (a b : Nat) (e1 : l = (a : Int)) (e2 : h = (b : Int)) (h1 : a ≤ b) (h2 : b ≤ S.size) (w : World) :
    (Instr.sliceAt 9 (.string S) (some (.int .i64 l)) (some (.int .i64 h)) none).run Try.prog w = .ok (.string (S.extract a b)) w := by
  subst e1 e2
  rw [run_sliceAt_string w 9 _ _ _ _ Try.underlying9]
  simp [Instr.slice, run_underlying Try.underlying9, Instr.sliceBounds, run_sliceBound, sliced, h1, h2]

theorem just_cut {n : Nat} {B W : Nat → Nat} {D : Nat → Bool} (h : Just n B D W) (q : Nat) (hq : q < n) (hd : D q = false) :
    (textOf (256 * n) B).extract (256 * q) (256 * q + 256) = (textOf (256 * n) W).extract (256 * q) (256 * q + 256) := by
  rw [textOf_cut _ _ _ _ (by omega) (by omega), textOf_cut _ _ _ _ (by omega) (by omega)]
  apply textOf_congr
  intro j hj
  exact h q hq hd j (by omega)

theorem dirts_mem (D : Nat → Bool) (n q : Nat) (h : q < n) : decide (q ∈ dirts D n) = D q := by
  cases e : D q <;> simp [dirts, e, h]

theorem take_mem (l : List Nat) (j x q : Nat) (h : l[j]? = some x) : decide (q ∈ l.take (j + 1)) = (decide (q ∈ l.take j) || ((x : Int) == (q : Int))) := by
  have hj := (List.getElem?_eq_some_iff.1 h).1
  rw [List.take_add_one, h]
  simp only [Option.toList_some, List.mem_append, List.mem_singleton]
  by_cases e : x = q
  · subst e; simp
  · have h1 : ¬ q = x := fun c => e c.symm
    have h2 : ((x : Int) == (q : Int)) = false := by simp; omega
    rw [h2]
    simp [h1]

theorem RowAt.parts {w : World} {v : Value} {xs : List Nat} (h : RowAt w v xs) : ∃ ad c, v = .slice ad xs.length c ∧ ∀ (j x : Nat), xs[j]? = some x → ∃ gl, ad = some ⟨gl, 0, none⟩ ∧ w.cell? ⟨gl, j, none⟩ = some (.int .i64 ((x : Nat) : Int)) := by
  rcases h with ⟨rfl, rfl⟩ | ⟨g, cap, rfl, hc⟩
  · exact ⟨_, _, rfl, fun j x h => by simp at h⟩
  · exact ⟨_, _, rfl, fun j x h => ⟨g, rfl, hc j x h⟩⟩

end Go.Proofs.Ytbbofbilagaihaa
