/- Two rows of numbers are held one against the other; the calls whose answers the document fixes are answered so. -/
import Derived.Test.YtbbofbilagaihaaMemW6
import Derived.Deep.QuietTactic
import Derived.BigQuiet
namespace Go.Proofs.Ytbbofbilagaihaa
open Go.RowKit
set_option linter.unusedVariables false
set_option linter.unusedSimpArgs false

theorem cell_in {W : World} {b o : Nat} {v : Value} (h : W.cell? ⟨b, o, none⟩ = some v) : b < W.heap.size := World.block_lt_of_cell? W _ h

theorem below_drewN {B : Nat} {a w : World} (h : Below B a w) (n : Nat) : Below B a (w.drewN n) := h.trans ⟨rfl, rfl, rfl, Nat.le_refl _, fun _ _ => rfl⟩

/-- What a row of numbers reads as. -/
def RowAt (w : World) (v : Value) (xs : List Nat) : Prop :=
  (v = .slice none 0 0 ∧ xs = []) ∨ ∃ g cap, v = .slice (some ⟨g, 0, none⟩) xs.length cap ∧ ∀ (j : Nat) u, xs[j]? = some u → w.cell? ⟨g, j, none⟩ = some (.int .i64 ((u : Nat) : Int))

theorem RowAt.on {w w' : World} {v : Value} {xs : List Nat} (h : RowAt w v xs) (hb : Below w.heap.size w w') : RowAt w' v xs := by
  rcases h with h | ⟨g, cap, rfl, hc⟩
  · exact Or.inl h
  · exact Or.inr ⟨g, cap, rfl, fun j u hj => (hb.cell (p := ⟨g, j, none⟩) (cell_in (hc j u hj))).trans (hc j u hj)⟩

theorem RowAt.of {w : World} {base : Nat} {v : Value} {xs : List Nat} (h : w.ownsRow base 3 1 v xs.length (ints xs)) : RowAt w v xs := by
  rcases h with ⟨hl, ⟨rfl, h0⟩ | ⟨g, cap, cur, rfl, hb, hg, hn, hm, hc, ht⟩⟩
  · exact Or.inl ⟨rfl, List.length_eq_zero_iff.mp h0⟩
  · refine Or.inr ⟨g, cap, rfl, fun j u hj => ?_⟩
    have hlt : j < xs.length := (List.getElem?_eq_some_iff.mp hj).1
    have e : (cur.toList.take (xs.length * 1))[j]? = some (.int .i64 ((u : Nat) : Int)) := by rw [ht]; simp [ints, hj]
    rw [List.getElem?_take_of_lt (by omega)] at e
    simp only [World.cell?, hg]
    simpa using e

set_option maxHeartbeats 2000000 in
set_option maxRecDepth 100000 in
theorem same_rows (w : World) (g1 c1 g2 c2 n : Nat) (hn : n ≤ 1000000) (xs ys : List Nat) (h1 : xs.length = n) (h2 : ys.length = n)
    (r1 : ∀ (j : Nat) u, xs[j]? = some u → w.cell? ⟨g1, j, none⟩ = some (.int .i64 ((u : Nat) : Int))) (r2 : ∀ (j : Nat) u, ys[j]? = some u → w.cell? ⟨g2, j, none⟩ = some (.int .i64 ((u : Nat) : Int))) :
    Calls Try.prog 27 #[.slice (some ⟨g1, 0, none⟩) n c1, .slice (some ⟨g2, 0, none⟩) n c2] w fun e w' => e = .returned (.bool (decide (xs = ys))) ∧ Below w.heap.size w w' := by
  go_enter Try.func27, Try.ntmps27
  go_wp2_with fail
  go_loopw [5] (fun i wr => ∃ k : Nat, k ≤ n ∧ i = .int .i64 (k : Int) ∧ Hid (∀ j < k, xs[j]? = ys[j]?) ∧ Hid (Below w.heap.size w wr)) (fun i _ => n - (intOf i).toNat)
  case atStart => exact ⟨0, by omega, rfl, hide (by intro j h; omega), hide (Below.refl _ _)⟩
  case round =>
    obtain ⟨k, hk, rfl, heq, hb⟩ := hrel
    by_cases hlt : k < n
    · have hl : (k : Int) < (n : Int) := by omega
      obtain ⟨x, hx⟩ : ∃ x, xs[k]? = some x := ⟨_, List.getElem?_eq_getElem (by omega)⟩
      obtain ⟨y, hy⟩ : ∃ y, ys[k]? = some y := ⟨_, List.getElem?_eq_getElem (by omega)⟩
      have k1 : wr.cell? ⟨g1, k, none⟩ = some (.int .i64 (x : Int)) := (hb.out.cell (p := ⟨g1, k, none⟩) (cell_in (r1 k x hx))).trans (r1 k x hx)
      have k2 : wr.cell? ⟨g2, k, none⟩ = some (.int .i64 (y : Int)) := (hb.out.cell (p := ⟨g2, k, none⟩) (cell_in (r2 k y hy))).trans (r2 k y hy)
      by_cases hxy : x = y
      · subst hxy
        have heq2 : Hid (∀ j < k + 1, xs[j]? = ys[j]?) := hide (by
          intro j hj
          rcases Nat.lt_succ_iff_lt_or_eq.mp hj with h | h
          · exact heq.out j h
          · rw [h, hx, hy])
        clear heq r1 r2 hx hy
        go_wp2_with fail
        go_quiet (fail)
        have hb2 := hide (below_drewN hb.out nq)
        clear hb
        go_wp2_with fail
        go_roundw
        case rel => exact ⟨k + 1, by omega, by go_num, heq2, hb2⟩
        case measure => simp [intOf]; omega
      · have hq : ((x : Int) != (y : Int)) = true := by simp; omega
        have hne : Hid (decide (xs = ys) = false) := hide (by
          refine decide_eq_false fun e => hxy ?_
          rw [e, hy] at hx
          cases hx
          rfl)
        clear heq r1 r2 hx hy hxy
        go_wp2_with fail
        go_quiet (fail)
        go_wp2_with fail
        go_ret
        exact ⟨by rw [hne.out]; rfl, below_drewN hb.out _⟩
    · obtain rfl : k = n := by omega
      go_wp2_with fail
      go_ret
      have hall : xs = ys := by
        refine List.ext_getElem? fun j => ?_
        by_cases hj : j < k
        · exact heq.out j hj
        · rw [List.getElem?_eq_none (by omega), List.getElem?_eq_none (by omega)]
      refine ⟨?_, hb.out⟩
      rw [decide_eq_true hall]
      rfl

theorem same_len (w : World) (a1 a2 : Option Addr) (n m c1 c2 : Nat) (hn : n ≤ 1000000) (hm : m ≤ 1000000) (h : n ≠ m) :
    Calls Try.prog 27 #[.slice a1 n c1, .slice a2 m c2] w fun e w' => e = .returned (.bool false) ∧ Below w.heap.size w w' := by
  have hq : ((n : Int) != (m : Int)) = true := by simp; omega
  go_enter Try.func27, Try.ntmps27
  go_wp2_with fail
  go_ret
  exact ⟨rfl, Below.refl _ _⟩

set_option maxRecDepth 100000 in
theorem same_none (w : World) (a1 a2 : Option Addr) (c1 c2 : Nat) :
    Calls Try.prog 27 #[.slice a1 0 c1, .slice a2 0 c2] w fun e w' => e = .returned (.bool true) ∧ Below w.heap.size w w' := by
  go_enter Try.func27, Try.ntmps27
  go_wp2_with fail
  go_loopw [5] (fun i wr => i = .int .i64 0 ∧ wr = w) (fun _ _ => 0)
  case atStart => exact ⟨rfl, rfl⟩
  case round =>
    obtain ⟨rfl, rfl⟩ := hrel
    go_wp2_with fail
    go_ret
    exact ⟨rfl, Below.refl _ _⟩

/-- Two rows of numbers are the same just if their numbers are. -/
theorem same_any (w : World) (v1 v2 : Value) (xs ys : List Nat) (hx : xs.length ≤ 1000000) (hy : ys.length ≤ 1000000) (h1 : RowAt w v1 xs) (h2 : RowAt w v2 ys) :
    Calls Try.prog 27 #[v1, v2] w fun e w' => e = .returned (.bool (decide (xs = ys))) ∧ Below w.heap.size w w' := by
  by_cases hl : xs.length = ys.length
  · rcases h1 with ⟨rfl, rfl⟩ | ⟨g1, c1, rfl, r1⟩
    · obtain rfl : ys = [] := List.length_eq_zero_iff.mp (by simpa using hl.symm)
      rcases h2 with ⟨rfl, -⟩ | ⟨g2, c2, rfl, r2⟩ <;> exact same_none w _ _ _ _
    · rcases h2 with ⟨rfl, rfl⟩ | ⟨g2, c2, rfl, r2⟩
      · obtain rfl : xs = [] := List.length_eq_zero_iff.mp (by simpa using hl)
        exact same_none w _ _ _ _
      · rw [← hl]
        exact same_rows w g1 c1 g2 c2 xs.length hx xs ys rfl hl.symm r1 r2
  · have hd : decide (xs = ys) = false := decide_eq_false fun e => hl (by rw [e])
    rw [hd]
    rcases h1 with ⟨rfl, rfl⟩ | ⟨g1, c1, rfl, r1⟩ <;> rcases h2 with ⟨rfl, rfl⟩ | ⟨g2, c2, rfl, r2⟩
    · exact absurd rfl hl
    · exact same_len w _ _ 0 _ _ _ (by omega) hy hl
    · exact same_len w _ _ _ 0 _ _ hx (by omega) hl
    · exact same_len w _ _ _ _ _ _ hx hy hl

/-- The bytes behind the one store of the fixed calls. -/
def fixB : Nat → Nat := putB (fun _ => 0) 254 2 4660

theorem fix_tail : (textOf 256 (fun j => fixB (256 * 0 + j))).extract 254 256 = ⟨#[18, 52]⟩ := by decide +kernel

theorem fix_dirts : dirts (putD (fun _ => false) 0) 4 = [0] := by decide +kernel

theorem one_row (w : World) (k : Nat) : RowAt (w.alloc (.cells #[.int .i64 (k : Int)] 3)) (.slice (some ⟨w.heap.size, 0, none⟩) 1 1) [k] := by
  refine Or.inr ⟨w.heap.size, 1, rfl, fun j u hj => ?_⟩
  match j, hj with
  | 0, hj =>
    simp at hj
    subst hj
    rw [World.cell?_alloc_new]
    rfl

theorem fix_clean : dirts (fun _ => false) 4 = [] := by decide +kernel

theorem own_none {w : World} {base : Nat} {v : Value} (h : w.ownsRow base 3 1 v ([] : List Nat).length (ints [])) : ∃ a c, v = .slice a 0 c := by
  rcases h with ⟨hl, ⟨rfl, h0⟩ | ⟨g, cap, cur, rfl, -⟩⟩
  · exact ⟨_, _, rfl⟩
  · exact ⟨_, _, rfl⟩

theorem own_far {x y : World} {base g : Nat} {e : TypeId} {s : Nat} {v : Value} {n : Nat} {xs : List Value} (O : x.ownsRow base e s v n xs) (G : x.grownBy y (some g)) (h : g < base) : y.ownsRow base e s v n xs := by
  refine O.kept G ?_
  cases hv : v.ownBlock with
  | none => exact Or.inl rfl
  | some k =>
    refine Or.inr fun e => ?_
    cases e
    have := (O.lt _ hv).1
    omega

set_option maxHeartbeats 4000000 in
set_option maxRecDepth 100000 in
theorem fixed_any (w : World) : Calls Try.prog 11 #[] w fun e w' => e = .returned (.bool true) ∧ Below w.heap.size w w' := by
  go_enter Try.func11, Try.ntmps11
  go_wp2_with fail
  refine (new_any 4 (by decide) (by decide) w).mono ?_
  rintro e w1 ⟨p, g, rfl, M1, hp, hg, b1⟩
  go_wp2_with fail
  refine (new_bad 3 (by decide) w1).mono ?_
  rintro e w' ⟨rfl, rfl⟩
  go_wp2_with fail
  refine (store_any M1 254 2 4660 (by decide) (by decide) (by unfold may; decide)).mono ?_
  rintro e w2 ⟨rfl, M2, g2⟩
  have b2 := grown_below b1 g2 b1.size hg
  clear g2 M1 b1
  go_wp2_with fail
  refine (load_any M2 254 1 (by decide) (by unfold may; decide)).mono ?_
  rintro e w' ⟨rfl, rfl⟩
  go_wp2_with fail
  refine (load_bad M2 255 2 (by decide) (by decide) (by decide)).mono ?_
  rintro e w' ⟨rfl, rfl⟩
  go_wp2_with fail
  refine (load_bad M2 1024 1 (by decide) (by decide) (by decide)).mono ?_
  rintro e w' ⟨rfl, rfl⟩
  go_wp2_with fail
  refine (page_any M2 0 (by decide)).mono ?_
  rintro e w' ⟨rfl, rfl⟩
  obtain ⟨T, hT⟩ : ∃ T, T = textOf 256 (fun j => putB (fun _ => 0) 254 2 4660 (256 * 0 + j)) := ⟨_, rfl⟩
  have hs : T.size = 256 := by rw [hT, textOf_size]
  have ht : T.extract 254 256 = ⟨#[18, 52]⟩ := by rw [hT]; exact fix_tail
  rw [← hT]
  clear hT
  have hn : numOf (putB (fun _ => 0) 254 2 4660) 254 1 = 18 := by decide
  rw [hn]
  go_wp2_with fail
  refine (put_size M2 1 ⟨#[120]⟩ (by decide) (by decide)).mono ?_
  rintro e w' ⟨rfl, rfl⟩
  go_wp2_with fail
  refine (dirty_any M2).mono ?_
  rintro e w3 ⟨⟨v3, rfl, O3⟩, b3⟩
  have M3 := M2.on b3
  have hg2 := M2.zg
  have c3 : Below w.heap.size w w3 := b2.trans (b3.mono b2.size)
  clear M2 b3
  go_wp2_with fail
  refine (clean_any M3).mono ?_
  rintro e w4 ⟨rfl, M4, g4⟩
  have O4 := own_far O3 g4 hg2
  have c4 := grown_below c3 g4 c3.size hg
  have R4 := RowAt.of O4
  rw [fix_dirts] at R4
  clear O4 O3 M3 g4 c3
  have hr := one_row w4 0
  have M5 := M4.on ((Below.refl _ _).alloc (Nat.le_refl _) (.cells #[.int .i64 0] 3))
  have R5 := R4.on ((Below.refl _ _).alloc (Nat.le_refl _) (.cells #[.int .i64 0] 3))
  have c5 := c4.alloc c4.size (.cells #[.int .i64 0] 3)
  clear M4 R4 c4
  go_wp2_with fail
  refine (same_any _ _ _ [0] [0] (by decide) (by decide) R5 hr).mono ?_
  rintro e w6 ⟨rfl, b6⟩
  have M6 := M5.on b6
  have c6 := c5.trans (b6.mono c5.size)
  clear M5 R5 hr c5 b6
  go_wp2_with fail
  refine (dirty_any M6).mono ?_
  rintro e w7 ⟨⟨v7, rfl, O7⟩, b7⟩
  rw [fix_clean] at O7
  obtain ⟨a7, k7, rfl⟩ := own_none O7
  have M7 := M6.on b7
  have c7 := c6.trans (b7.mono c6.size)
  clear O7 M6 c6 b7
  go_wp2_with fail
  refine (image_any M7).mono ?_
  rintro e w8 ⟨rfl, b8⟩
  have hz : (textOf (256 * 4) (putB (fun _ => 0) 254 2 4660)).size = 1024 := textOf_size _ _
  obtain ⟨Z, hZ⟩ : ∃ Z, Z = textOf (256 * 4) (putB (fun _ => 0) 254 2 4660) := ⟨_, rfl⟩
  rw [← hZ] at hz ⊢
  clear hZ
  have c8 := c7.trans (b8.mono c7.size)
  clear c7 M7 b8
  go_wp2
  go_ret
  exact ⟨rfl, c8⟩

end Go.Proofs.Ytbbofbilagaihaa
