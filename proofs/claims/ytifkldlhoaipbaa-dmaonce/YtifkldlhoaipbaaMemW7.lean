/- Two rows of numbers are held one against the other; the calls whose answers the document fixes are answered so. -/
import Derived.Test.YtifkldlhoaipbaaMemW6
import Derived.Deep.QuietTactic
import Derived.BigQuiet
namespace Go.Proofs.Ytifkldlhoaipbaa
open Go.RowKit
set_option linter.unusedVariables false
set_option linter.unusedSimpArgs false

theorem cell_in {W : World} {b o : Nat} {v : Value} (h : W.cell? ⟨b, o, none⟩ = some v) : b < W.heap.size := World.block_lt_of_cell? W _ h

theorem below_drewN {B : Nat} {a w : World} (h : Below B a w) (n : Nat) : Below B a (w.drewN n) := h.trans ⟨rfl, rfl, rfl, Nat.le_refl _, fun _ _ => rfl⟩

/-- What a row of numbers reads as. -/
def RowAt (w : World) (v : Value) (xs : List Nat) : Prop :=
  (v = .slice none 0 0 ∧ xs = []) ∨ ∃ g cap, v = .slice (some ⟨g, 0, none⟩) xs.length cap ∧ ∀ (j : Nat) u, xs[j]? = some u → w.cell? ⟨g, j, none⟩ = some (.int .i64 ((u : Nat) : Int))

theorem RowAt.on {w w' : World} {v : Value} {xs : List Nat} (h : RowAt w v xs) (hb : Below w.heap.size w w') : RowAt w' v xs := by
  rcases h with h | ⟨g, cap, rfl, hc⟩
  · exact Or.inl h
  · exact Or.inr ⟨g, cap, rfl, fun j u hj => (hb.cell (p := ⟨g, j, none⟩) (cell_in (hc j u hj))).trans (hc j u hj)⟩

theorem RowAt.of {w : World} {base : Nat} {v : Value} {xs : List Nat} (h : w.ownsRow base 3 1 v xs.length (ints xs)) : RowAt w v xs := by
  rcases h with ⟨hl, ⟨rfl, h0⟩ | ⟨g, cap, cur, rfl, hb, hg, hn, hm, hc, ht⟩⟩
  · exact Or.inl ⟨rfl, List.length_eq_zero_iff.mp h0⟩
  · refine Or.inr ⟨g, cap, rfl, fun j u hj => ?_⟩
    have hlt : j < xs.length := (List.getElem?_eq_some_iff.mp hj).1
    have e : (cur.toList.take (xs.length * 1))[j]? = some (.int .i64 ((u : Nat) : Int)) := by rw [ht]; simp [ints, hj]
    rw [List.getElem?_take_of_lt (by omega)] at e
    simp only [World.cell?, hg]
    simpa using e

set_option maxHeartbeats 2000000 in
set_option maxRecDepth 100000 in
theorem same_rows (w : World) (g1 c1 g2 c2 n : Nat) (hn : n ≤ 1000000) (xs ys : List Nat) (h1 : xs.length = n) (h2 : ys.length = n)
    (r1 : ∀ (j : Nat) u, xs[j]? = some u → w.cell? ⟨g1, j, none⟩ = some (.int .i64 ((u : Nat) : Int))) (r2 : ∀ (j : Nat) u, ys[j]? = some u → w.cell? ⟨g2, j, none⟩ = some (.int .i64 ((u : Nat) : Int))) :
    Calls Try.prog 24 #[.slice (some ⟨g1, 0, none⟩) n c1, .slice (some ⟨g2, 0, none⟩) n c2] w fun e w' => e = .returned (.bool (decide (xs = ys))) ∧ Below w.heap.size w w' := by
  go_enter Try.func24, Try.ntmps24
  go_wp2_with fail
  go_loopw [5] (fun i wr => ∃ k : Nat, k ≤ n ∧ i = .int .i64 (k : Int) ∧ Hid (∀ j < k, xs[j]? = ys[j]?) ∧ Hid (Below w.heap.size w wr)) (fun i _ => n - (intOf i).toNat)
  case atStart => exact ⟨0, by omega, rfl, hide (by intro j h; omega), hide (Below.refl _ _)⟩
  case round =>
    obtain ⟨k, hk, rfl, heq, hb⟩ := hrel
    by_cases hlt : k < n
    · have hl : (k : Int) < (n : Int) := by omega
      obtain ⟨x, hx⟩ : ∃ x, xs[k]? = some x := ⟨_, List.getElem?_eq_getElem (by omega)⟩
      obtain ⟨y, hy⟩ : ∃ y, ys[k]? = some y := ⟨_, List.getElem?_eq_getElem (by omega)⟩
      have k1 : wr.cell? ⟨g1, k, none⟩ = some (.int .i64 (x : Int)) := (hb.out.cell (p := ⟨g1, k, none⟩) (cell_in (r1 k x hx))).trans (r1 k x hx)
      have k2 : wr.cell? ⟨g2, k, none⟩ = some (.int .i64 (y : Int)) := (hb.out.cell (p := ⟨g2, k, none⟩) (cell_in (r2 k y hy))).trans (r2 k y hy)
      by_cases hxy : x = y
      · subst hxy
        have heq2 : Hid (∀ j < k + 1, xs[j]? = ys[j]?) := hide (by
          intro j hj
          rcases Nat.lt_succ_iff_lt_or_eq.mp hj with h | h
          · exact heq.out j h
          · rw [h, hx, hy])
        clear heq r1 r2 hx hy
        go_wp2_with fail
        go_quiet (fail)
        have hb2 := hide (below_drewN hb.out nq)
        clear hb
        go_wp2_with fail
        go_roundw
        case rel => exact ⟨k + 1, by omega, by go_num, heq2, hb2⟩
        case measure => simp [intOf]; omega
      · have hq : ((x : Int) != (y : Int)) = true := by simp; omega
        have hne : Hid (decide (xs = ys) = false) := hide (by
          refine decide_eq_false fun e => hxy ?_
          rw [e, hy] at hx
          cases hx
          rfl)
        clear heq r1 r2 hx hy hxy
        go_wp2_with fail
        go_quiet (fail)
        go_wp2_with fail
        go_ret
        exact ⟨by rw [hne.out]; rfl, below_drewN hb.out _⟩
    · obtain rfl : k = n := by omega
      go_wp2_with fail
      go_ret
      have hall : xs = ys := by
        refine List.ext_getElem? fun j => ?_
        by_cases hj : j < k
        · exact heq.out j hj
        · rw [List.getElem?_eq_none (by omega), List.getElem?_eq_none (by omega)]
      refine ⟨?_, hb.out⟩
      rw [decide_eq_true hall]
      rfl

theorem same_len (w : World) (a1 a2 : Option Addr) (n m c1 c2 : Nat) (hn : n ≤ 1000000) (hm : m ≤ 1000000) (h : n ≠ m) :
    Calls Try.prog 24 #[.slice a1 n c1, .slice a2 m c2] w fun e w' => e = .returned (.bool false) ∧ Below w.heap.size w w' := by
  have hq : ((n : Int) != (m : Int)) = true := by simp; omega
  go_enter Try.func24, Try.ntmps24
  go_wp2_with fail
  go_ret
  exact ⟨rfl, Below.refl _ _⟩

set_option maxRecDepth 100000 in
theorem same_none (w : World) (a1 a2 : Option Addr) (c1 c2 : Nat) :
    Calls Try.prog 24 #[.slice a1 0 c1, .slice a2 0 c2] w fun e w' => e = .returned (.bool true) ∧ Below w.heap.size w w' := by
  go_enter Try.func24, Try.ntmps24
  go_wp2_with fail
  go_loopw [5] (fun i wr => i = .int .i64 0 ∧ wr = w) (fun _ _ => 0)
  case atStart => exact ⟨rfl, rfl⟩
  case round =>
    obtain ⟨rfl, rfl⟩ := hrel
    go_wp2_with fail
    go_ret
    exact ⟨rfl, Below.refl _ _⟩

/-- Two rows of numbers are the same just if their numbers are. -/
theorem same_any (w : World) (v1 v2 : Value) (xs ys : List Nat) (hx : xs.length ≤ 1000000) (hy : ys.length ≤ 1000000) (h1 : RowAt w v1 xs) (h2 : RowAt w v2 ys) :
    Calls Try.prog 24 #[v1, v2] w fun e w' => e = .returned (.bool (decide (xs = ys))) ∧ Below w.heap.size w w' := by
  by_cases hl : xs.length = ys.length
  · rcases h1 with ⟨rfl, rfl⟩ | ⟨g1, c1, rfl, r1⟩
    · obtain rfl : ys = [] := List.length_eq_zero_iff.mp (by simpa using hl.symm)
      rcases h2 with ⟨rfl, -⟩ | ⟨g2, c2, rfl, r2⟩ <;> exact same_none w _ _ _ _
    · rcases h2 with ⟨rfl, rfl⟩ | ⟨g2, c2, rfl, r2⟩
      · obtain rfl : xs = [] := List.length_eq_zero_iff.mp (by simpa using hl)
        exact same_none w _ _ _ _
      · rw [← hl]
        exact same_rows w g1 c1 g2 c2 xs.length hx xs ys rfl hl.symm r1 r2
  · have hd : decide (xs = ys) = false := decide_eq_false fun e => hl (by rw [e])
    rw [hd]
    rcases h1 with ⟨rfl, rfl⟩ | ⟨g1, c1, rfl, r1⟩ <;> rcases h2 with ⟨rfl, rfl⟩ | ⟨g2, c2, rfl, r2⟩
    · exact absurd rfl hl
    · exact same_len w _ _ 0 _ _ _ (by omega) hy hl
    · exact same_len w _ _ _ 0 _ _ hx (by omega) hl
    · exact same_len w _ _ _ _ _ _ hx hy hl

/-- The bytes behind the one store of the fixed calls. -/
def fixB : Nat → Nat := putB (fun _ => 0) 254 2 4660

theorem fix_tail : (textOf 256 (fun j => fixB (256 * 0 + j))).extract 254 256 = ⟨#[18, 52]⟩ := by decide +kernel

theorem fix_dirts : dirts (putD (fun _ => false) 0) 4 = [0] := by decide +kernel

theorem one_row (w : World) (k : Nat) : RowAt (w.alloc (.cells #[.int .i64 (k : Int)] 3)) (.slice (some ⟨w.heap.size, 0, none⟩) 1 1) [k] := by
  refine Or.inr ⟨w.heap.size, 1, rfl, fun j u hj => ?_⟩
  match j, hj with
  | 0, hj =>
    simp at hj
    subst hj
    rw [World.cell?_alloc_new]
    rfl

theorem fix_clean : dirts (fun _ => false) 4 = [] := by decide +kernel

theorem own_none {w : World} {base : Nat} {v : Value} (h : w.ownsRow base 3 1 v ([] : List Nat).length (ints [])) : ∃ a c, v = .slice a 0 c := by
  rcases h with ⟨hl, ⟨rfl, h0⟩ | ⟨g, cap, cur, rfl, -⟩⟩
  · exact ⟨_, _, rfl⟩
  · exact ⟨_, _, rfl⟩

theorem own_far {x y : World} {base g : Nat} {e : TypeId} {s : Nat} {v : Value} {n : Nat} {xs : List Value} (O : x.ownsRow base e s v n xs) (G : x.grownBy y (some g)) (h : g < base) : y.ownsRow base e s v n xs := by
  refine O.kept G ?_
  cases hv : v.ownBlock with
  | none => exact Or.inl rfl
  | some k =>
    refine Or.inr fun e => ?_
    cases e
    have := (O.lt _ hv).1
    omega

end Go.Proofs.Ytifkldlhoaipbaa
