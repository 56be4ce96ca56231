/- Without a way that was begun no step moves anything; registers tell what was written to them. -/
import Derived.Test.YtifkldlhoaipbaaDmOpen
import Derived.Deep.RegionHeld3
import Derived.Deep.CutRange
namespace Go.Proofs.Ytifkldlhoaipbaa
open Go.RowKit
set_option linter.unusedVariables false
set_option linter.unusedSimpArgs false

/-- What a round reads, behind a call. -/
theorem si_on {w x y : World} {A : Nat} {d : Dm} {b o : Nat} {z : Int} (hb : b < w.heap.size) (h : x.cell? ⟨b, o, none⟩ = some (.int .u32 z) ∧ Rat x A d ∧ Below w.heap.size w x) (hn : Below x.heap.size x y) :
    (loadCellsFrom ⟨A, 0, none⟩ 0 N5 #[]).run Try.prog y = .ok (cellsD d) y ∧ y.cell? ⟨b, o, none⟩ = some (.int .u32 z) ∧ Rat y A d ∧ Below w.heap.size w y :=
  ⟨(h.2.1.on hn).load, by rw [hn.cell (p := ⟨b, o, none⟩) (Nat.lt_of_lt_of_le hb h.2.2.size)]; exact h.1, h.2.1.on hn, onto h.2.2 (Nat.le_refl _) hn⟩

/-- What a round reads, behind a store into a box that was made since. -/
theorem si_far {w x : World} {A : Nat} {d : Dm} {b o : Nat} {z : Int} (hb : b < w.heap.size) (h : x.cell? ⟨b, o, none⟩ = some (.int .u32 z) ∧ Rat x A d ∧ Below w.heap.size w x) (g : Nat) (c : Array Value) (hg : A < g) (hw : w.heap.size ≤ g) :
    (loadCellsFrom ⟨A, 0, none⟩ 0 N5 #[]).run Try.prog (x.setRow g c) = .ok (cellsD d) (x.setRow g c) ∧ (x.setRow g c).cell? ⟨b, o, none⟩ = some (.int .u32 z) ∧ Rat (x.setRow g c) A d ∧ Below w.heap.size w (x.setRow g c) :=
  ⟨(h.2.1.setFar g c (by omega)).load, by rw [cell_setRow_lt _ _ _ _ _ (by omega)]; exact h.1, h.2.1.setFar g c (by omega), below_setRow h.2.2 hw c⟩

/-- A block that was made ahead of a call, behind the call and a store. -/
theorem set_new {w' x : World} {L : Nat} {u q : Dm} (h : Rat x L u) (hk : ((∀ b, b < x.heap.size → rowAt w' b = rowAt x b) ∧ (∀ b, b < x.heap.size → isRow w' b = isRow x b)) ∧ x.heap.size ≤ w'.heap.size) : Rat (w'.setRow L (cellsD q)) L q :=
  Rat.set (r := u) ⟨by rw [hk.1.2 _ h.2.2]; exact h.1, by rw [hk.1.1 _ h.2.2]; exact h.2.1, Nat.lt_of_lt_of_le h.2.2 hk.2⟩ q

theorem two_ways {k n m : Nat} (h : ¬ (k < n ∧ k < m)) : (decide ((k : Int) < (n : Int)) = true ∧ (k : Int) < (n : Int) ∧ decide ((k : Int) < (m : Int)) = false ∧ ¬ (k : Int) < (m : Int)) ∨ (decide ((k : Int) < (n : Int)) = false ∧ ¬ (k : Int) < (n : Int)) := by
  by_cases h1 : k < n
  · exact Or.inl ⟨by simp; omega, by omega, by simp; omega, by omega⟩
  · exact Or.inr ⟨by simp; omega, by omega⟩

/-- Nothing is begun. -/
structure Rest (d : Dm) : Prop where
  w : Wd d
  b : d.b = 0
  y : d.y = 0

theorem Rest.tick {d : Dm} (h : Rest d) : tickV d = d ∧ wayV d = 0 := by
  unfold tickV wayV
  rw [if_pos h.b, if_pos h.b]
  exact ⟨rfl, rfl⟩

/-- What a write to one of three registers makes of a state at rest. -/
theorem Rest.write {d : Dm} (h : Rest d) {g z : Int} (hz : W32 z) (hg : g = 0 ∨ g = 4 ∨ g = 12) :
    Rest (writeV d g z) ∧ formV g = 0 ∧ (g = 12 → readV (writeV d g z) g = 0) ∧ (g ≠ 12 → readV (writeV d g z) g = z) := by
  refine ⟨⟨write_w h.w g hz, ?_, ?_⟩, ?_, ?_, ?_⟩
  · rcases hg with rfl | rfl | rfl <;> exact h.b
  · rcases hg with rfl | rfl | rfl <;> exact h.y
  · rcases hg with rfl | rfl | rfl <;> rfl
  · rintro rfl
    exact h.b
  · rcases hg with rfl | rfl | rfl
    · intro _; rfl
    · intro _; rfl
    · intro h; exact absurd rfl h

set_option maxRecDepth 100000 in
set_option maxHeartbeats 4000000 in
theorem idle_walk (w : World) (v0 : Value) (zs : List Int) (hv : IsWords w v0 zs) :
    Calls Try.prog 8 #[v0] w fun e w' => e = .returned (.bool true) ∧ Below w.heap.size w w' := by
  obtain ⟨t1, t2, t3, t4, t5, t6, t7, t8, t9⟩ := dmRules
  obtain ⟨p0, p1, p2, p3, p4⟩ := dmParts
  obtain ⟨s0, s1, s2, s3, s4⟩ := dmSets
  obtain ⟨d1, d2, d3⟩ := dmDrew
  obtain ⟨n2, n3, n4, n5, n0, -⟩ := five_more
  obtain ⟨ad, n, cp, rfl, hn, hnl, hx⟩ := hv.open'
  replace hn := hide hn
  replace hx := hide hx
  unfold maxLen at hnl
  clear hv
  have hst : Hid (Rat (w.alloc (.cells (cellsD D0) 24)) w.heap.size D0 ∧ Below w.heap.size w (w.alloc (.cells (cellsD D0) 24))) := hide ⟨Rat.new w D0 _, grow _ _⟩
  go_enter Try.func8, Try.ntmps8
  go_wp2
  go_loopw [4] (fun i wr => ∃ (k : Nat) (d : Dm), k ≤ 60 ∧ i = .int .i64 k ∧ Hid (Rest d) ∧ Hid (Rat wr w.heap.size d ∧ Below w.heap.size w wr)) (fun i _ => 60 - (intOf i).toNat)
  case atStart => exact ⟨0, D0, by omega, rfl, hide ⟨D0_w, rfl, rfl⟩, hst⟩
  case round =>
    clear hst
    obtain ⟨k, d, hk, rfl, hd, hR⟩ := hrel
    by_cases hlt : k < n ∧ k < 60
    · obtain ⟨h1, h2⟩ := hlt
      obtain ⟨z, hz⟩ : ∃ z, zs[k]? = some z := ⟨_, List.getElem?_eq_getElem (by rw [← hn.out]; exact h1)⟩
      obtain ⟨wz, b, o, rfl, hb, hcell⟩ := hx.out k z hz
      have wz' := wz
      obtain ⟨z0, z1⟩ := wz'
      have hc0 : wr.cell? ⟨b, o + k, none⟩ = some (.int .u32 z) := by rw [hR.out.2.cell (p := ⟨b, o + k, none⟩) hb]; exact hcell
      have hc1 : (wr.alloc (.cells #[.int .u32 0, .int .u32 4, .int .u32 12] 22)).cell? ⟨b, o + k, none⟩ = some (.int .u32 z) := by
        rw [World.cell?_alloc_past _ _ _ (Nat.lt_of_lt_of_le hb hR.out.2.size)]; exact hc0
      have hk1 : (k : Int) < (n : Int) := by omega
      have hk2 : (0 : Int) ≤ (k : Int) := by omega
      have hm3 : z.tmod 3 = z % 3 := Int.tmod_eq_emod_of_nonneg z0
      have gx := grow wr (.cells #[.int .u32 0, .int .u32 4, .int .u32 12] 22)
      have hS := si_on hb ⟨hc0, hR.out⟩ gx
      clear hz hcell hx hn
      have hk60 : decide ((k : Int) < 60) = true := by simp; omega
      rcases (show z % 3 = 0 ∨ z % 3 = 1 ∨ z % 3 = 2 by omega) with h3 | h3 | h3
      · obtain ⟨r1, r2, r3, r4⟩ := hd.out.write (g := 0) wz (by omega)
        rw [h3] at hm3
        have c1 := hide fun W => write_any d 0 z W
        rw [r2] at c1
        have rv : readV (writeV d 0 z) 0 = z := r4 (by omega)
        have c2 := hide fun W => read_any (writeV d 0 z) 0 W
        rw [r2, rv] at c2
        obtain ⟨k1, k2⟩ := r1.tick
        have c3 := hide fun W => tick_any r1.w W
        rw [k1, k2] at c3
        generalize writeV d 0 z = q at *
        have he := fun W => eq_self q W
        have he2 := fun W => neq_self q W
        replace r1 := hide r1
        clear r2 r3 r4 rv k1 k2
        go_wp2_with fail
        clear hc0 hc1 hR
        generalize wr.alloc (.cells #[.int .u32 0, .int .u32 4, .int .u32 12] 22) = W2 at *
        replace hS := si_on hb hS.2 (Below.refl _ W2).drew
        have hlt2 : w.heap.size < W2.heap.size := hS.2.2.1.2.2
        go_cut [6, 7] from 31 to 40 (fun p e x => ∃ L : Nat, p = .pointer (some ⟨L, 0, none⟩) ∧ e = .int .i64 0 ∧ Hid (x.cell? ⟨b, o + k, none⟩ = some (.int .u32 z) ∧ Rat x L q ∧ Rat x w.heap.size d ∧ ¬ w.heap.size = L ∧ Below w.heap.size w x))
        case first =>
          go_region_held3 (fun x => (loadCellsFrom ⟨w.heap.size, 0, none⟩ 0 N5 #[]).run Try.prog x = .ok (cellsD d) x ∧ x.cell? ⟨b, o + k, none⟩ = some (.int .u32 z) ∧ Rat x w.heap.size d ∧ Below w.heap.size w x)
            (first | exact hS | assumption | exact si_on hb hT.2 (grow _ _) | exact si_far hb hT.2 _ _ hlt2 (by omega) | exact si_on hb hS.2 (grow _ _) | exact si_on hb (And.right (by assumption)) (grow _ _) | exact si_on hb (And.right (by assumption)) (grow _ _).drew)
            (first | (go_at_call 11; refine (c1.out _).mono ?_; rintro e w' ⟨rfl, hbn⟩; have hT := si_on hb (And.right (by assumption)) hbn; have hk1 := And.intro (brow hbn) hbn.size; clear hbn))
          · go_wp2_with fail
            go_meet
            case rel => exact ⟨w'.heap.size, rfl, rfl, (si_on hb hT.2 (grow _ _)).2.1, Rat.new _ _ _, hT.2.2.1.on (grow _ _), by have := hT.2.2.1.2.2; omega, onto hT.2.2.2 (Nat.le_refl _) (grow _ _)⟩
          all_goals
            go_wp2_with fail
            go_meet
            case rel => exact ⟨W2.heap.size, rfl, rfl, (si_far hb hT.2 _ _ hlt2 (by omega)).2.1, set_new (Rat.new W2.drew D0 _) hk1, hT.2.2.1.setFar _ _ (by omega), by omega, below_setRow hT.2.2.2 (by omega) _⟩
        case rest =>
          obtain ⟨L, rfl, rfl, hX⟩ := hcut
          obtain ⟨x0, x1, x2, x3, x4⟩ := hX.out
          have l1 := x1.load
          clear hX hS c1
          go_wp2_with fail
          refine (c2.out _).mono ?_
          rintro e w5 ⟨rfl, b5⟩
          replace x0 : w5.cell? ⟨b, o + k, none⟩ = some (.int .u32 z) := by rw [b5.cell (p := ⟨b, o + k, none⟩) (Nat.lt_of_lt_of_le hb x4.size)]; exact x0
          replace x1 := x1.on b5
          replace x2 := x2.on b5
          replace x4 := onto x4 (Nat.le_refl _) b5
          replace l1 := x1.load
          clear b5 c2
          go_wp2_with fail
          refine (c3.out _).mono ?_
          rintro e w6 ⟨rfl, b6⟩
          have g6 := grow w6 (.cells (cellsD q) 24)
          have y1 := x2.on b6
          have y2 := y1.1
          have y3 := y1.2.1
          have y4 := y1.2.2
          replace x1 := (x1.on b6).on g6
          replace l1 := x1.load
          have l2 := (Rat.new w6 q 24).load
          have es : (w6.alloc (.cells (cellsD q) 24)).setRow w.heap.size (cellsD q) = (w6.setRow w.heap.size (cellsD q)).alloc (.cells (cellsD q) 24) := by rw [setRow_alloc, if_neg (by omega)]
          have hF : Rat ((w6.alloc (.cells (cellsD q) 24)).setRow w.heap.size (cellsD q)) w.heap.size q ∧ Below w.heap.size w ((w6.alloc (.cells (cellsD q) 24)).setRow w.heap.size (cellsD q)) :=
            ⟨(y1.on g6).set q, below_setRow (onto (onto x4 (Nat.le_refl _) b6) (Nat.le_refl _) g6) (Nat.le_refl _) _⟩
          rw [es] at hF
          replace hF := hide hF
          clear es b6 g6 c3 y1 x1 x2 x4 x0
          go_wp2
          go_roundw
          case rel => exact ⟨k + 1, q, by omega, by go_num, r1, hF⟩
          case measure => simp [intOf]; omega
      · obtain ⟨r1, r2, r3, r4⟩ := hd.out.write (g := 4) wz (by omega)
        rw [h3] at hm3
        have c1 := hide fun W => write_any d 4 z W
        rw [r2] at c1
        have rv : readV (writeV d 4 z) 4 = z := r4 (by omega)
        have c2 := hide fun W => read_any (writeV d 4 z) 4 W
        rw [r2, rv] at c2
        obtain ⟨k1, k2⟩ := r1.tick
        have c3 := hide fun W => tick_any r1.w W
        rw [k1, k2] at c3
        generalize writeV d 4 z = q at *
        have he := fun W => eq_self q W
        have he2 := fun W => neq_self q W
        replace r1 := hide r1
        clear r2 r3 r4 rv k1 k2
        go_wp2_with fail
        clear hc0 hc1 hR
        generalize wr.alloc (.cells #[.int .u32 0, .int .u32 4, .int .u32 12] 22) = W2 at *
        replace hS := si_on hb hS.2 (Below.refl _ W2).drew
        have hlt2 : w.heap.size < W2.heap.size := hS.2.2.1.2.2
        go_cut [6, 7] from 31 to 40 (fun p e x => ∃ L : Nat, p = .pointer (some ⟨L, 0, none⟩) ∧ e = .int .i64 0 ∧ Hid (x.cell? ⟨b, o + k, none⟩ = some (.int .u32 z) ∧ Rat x L q ∧ Rat x w.heap.size d ∧ ¬ w.heap.size = L ∧ Below w.heap.size w x))
        case first =>
          go_region_held3 (fun x => (loadCellsFrom ⟨w.heap.size, 0, none⟩ 0 N5 #[]).run Try.prog x = .ok (cellsD d) x ∧ x.cell? ⟨b, o + k, none⟩ = some (.int .u32 z) ∧ Rat x w.heap.size d ∧ Below w.heap.size w x)
            (first | exact hS | assumption | exact si_on hb hT.2 (grow _ _) | exact si_far hb hT.2 _ _ hlt2 (by omega) | exact si_on hb hS.2 (grow _ _) | exact si_on hb (And.right (by assumption)) (grow _ _) | exact si_on hb (And.right (by assumption)) (grow _ _).drew)
            (first | (go_at_call 11; refine (c1.out _).mono ?_; rintro e w' ⟨rfl, hbn⟩; have hT := si_on hb (And.right (by assumption)) hbn; have hk1 := And.intro (brow hbn) hbn.size; clear hbn))
          · go_wp2_with fail
            go_meet
            case rel => exact ⟨w'.heap.size, rfl, rfl, (si_on hb hT.2 (grow _ _)).2.1, Rat.new _ _ _, hT.2.2.1.on (grow _ _), by have := hT.2.2.1.2.2; omega, onto hT.2.2.2 (Nat.le_refl _) (grow _ _)⟩
          all_goals
            go_wp2_with fail
            go_meet
            case rel => exact ⟨W2.heap.size, rfl, rfl, (si_far hb hT.2 _ _ hlt2 (by omega)).2.1, set_new (Rat.new W2.drew D0 _) hk1, hT.2.2.1.setFar _ _ (by omega), by omega, below_setRow hT.2.2.2 (by omega) _⟩
        case rest =>
          obtain ⟨L, rfl, rfl, hX⟩ := hcut
          obtain ⟨x0, x1, x2, x3, x4⟩ := hX.out
          have l1 := x1.load
          clear hX hS c1
          go_wp2_with fail
          refine (c2.out _).mono ?_
          rintro e w5 ⟨rfl, b5⟩
          replace x0 : w5.cell? ⟨b, o + k, none⟩ = some (.int .u32 z) := by rw [b5.cell (p := ⟨b, o + k, none⟩) (Nat.lt_of_lt_of_le hb x4.size)]; exact x0
          replace x1 := x1.on b5
          replace x2 := x2.on b5
          replace x4 := onto x4 (Nat.le_refl _) b5
          replace l1 := x1.load
          clear b5 c2
          go_wp2_with fail
          refine (c3.out _).mono ?_
          rintro e w6 ⟨rfl, b6⟩
          have g6 := grow w6 (.cells (cellsD q) 24)
          have y1 := x2.on b6
          have y2 := y1.1
          have y3 := y1.2.1
          have y4 := y1.2.2
          replace x1 := (x1.on b6).on g6
          replace l1 := x1.load
          have l2 := (Rat.new w6 q 24).load
          have es : (w6.alloc (.cells (cellsD q) 24)).setRow w.heap.size (cellsD q) = (w6.setRow w.heap.size (cellsD q)).alloc (.cells (cellsD q) 24) := by rw [setRow_alloc, if_neg (by omega)]
          have hF : Rat ((w6.alloc (.cells (cellsD q) 24)).setRow w.heap.size (cellsD q)) w.heap.size q ∧ Below w.heap.size w ((w6.alloc (.cells (cellsD q) 24)).setRow w.heap.size (cellsD q)) :=
            ⟨(y1.on g6).set q, below_setRow (onto (onto x4 (Nat.le_refl _) b6) (Nat.le_refl _) g6) (Nat.le_refl _) _⟩
          rw [es] at hF
          replace hF := hide hF
          clear es b6 g6 c3 y1 x1 x2 x4 x0
          go_wp2
          go_roundw
          case rel => exact ⟨k + 1, q, by omega, by go_num, r1, hF⟩
          case measure => simp [intOf]; omega
      · obtain ⟨r1, r2, r3, r4⟩ := hd.out.write (g := 12) wz (by omega)
        rw [h3] at hm3
        have c1 := hide fun W => write_any d 12 z W
        rw [r2] at c1
        have rv : readV (writeV d 12 z) 12 = 0 := r3 rfl
        have c2 := hide fun W => read_any (writeV d 12 z) 12 W
        rw [r2, rv] at c2
        obtain ⟨k1, k2⟩ := r1.tick
        have c3 := hide fun W => tick_any r1.w W
        rw [k1, k2] at c3
        generalize writeV d 12 z = q at *
        have he := fun W => eq_self q W
        have he2 := fun W => neq_self q W
        replace r1 := hide r1
        clear r2 r3 r4 rv k1 k2
        go_wp2_with fail
        clear hc0 hc1 hR
        generalize wr.alloc (.cells #[.int .u32 0, .int .u32 4, .int .u32 12] 22) = W2 at *
        replace hS := si_on hb hS.2 (Below.refl _ W2).drew
        have hlt2 : w.heap.size < W2.heap.size := hS.2.2.1.2.2
        go_cut [6, 7] from 31 to 40 (fun p e x => ∃ L : Nat, p = .pointer (some ⟨L, 0, none⟩) ∧ e = .int .i64 0 ∧ Hid (x.cell? ⟨b, o + k, none⟩ = some (.int .u32 z) ∧ Rat x L q ∧ Rat x w.heap.size d ∧ ¬ w.heap.size = L ∧ Below w.heap.size w x))
        case first =>
          go_region_held3 (fun x => (loadCellsFrom ⟨w.heap.size, 0, none⟩ 0 N5 #[]).run Try.prog x = .ok (cellsD d) x ∧ x.cell? ⟨b, o + k, none⟩ = some (.int .u32 z) ∧ Rat x w.heap.size d ∧ Below w.heap.size w x)
            (first | exact hS | assumption | exact si_on hb hT.2 (grow _ _) | exact si_far hb hT.2 _ _ hlt2 (by omega) | exact si_on hb hS.2 (grow _ _) | exact si_on hb (And.right (by assumption)) (grow _ _) | exact si_on hb (And.right (by assumption)) (grow _ _).drew)
            (first | (go_at_call 11; refine (c1.out _).mono ?_; rintro e w' ⟨rfl, hbn⟩; have hT := si_on hb (And.right (by assumption)) hbn; have hk1 := And.intro (brow hbn) hbn.size; clear hbn))
          · go_wp2_with fail
            go_meet
            case rel => exact ⟨w'.heap.size, rfl, rfl, (si_on hb hT.2 (grow _ _)).2.1, Rat.new _ _ _, hT.2.2.1.on (grow _ _), by have := hT.2.2.1.2.2; omega, onto hT.2.2.2 (Nat.le_refl _) (grow _ _)⟩
          all_goals
            go_wp2_with fail
            go_meet
            case rel => exact ⟨W2.heap.size, rfl, rfl, (si_far hb hT.2 _ _ hlt2 (by omega)).2.1, set_new (Rat.new W2.drew D0 _) hk1, hT.2.2.1.setFar _ _ (by omega), by omega, below_setRow hT.2.2.2 (by omega) _⟩
        case rest =>
          obtain ⟨L, rfl, rfl, hX⟩ := hcut
          obtain ⟨x0, x1, x2, x3, x4⟩ := hX.out
          have l1 := x1.load
          clear hX hS c1
          go_wp2_with fail
          refine (c2.out _).mono ?_
          rintro e w5 ⟨rfl, b5⟩
          replace x0 : w5.cell? ⟨b, o + k, none⟩ = some (.int .u32 z) := by rw [b5.cell (p := ⟨b, o + k, none⟩) (Nat.lt_of_lt_of_le hb x4.size)]; exact x0
          replace x1 := x1.on b5
          replace x2 := x2.on b5
          replace x4 := onto x4 (Nat.le_refl _) b5
          replace l1 := x1.load
          clear b5 c2
          go_wp2_with fail
          refine (c3.out _).mono ?_
          rintro e w6 ⟨rfl, b6⟩
          have g6 := grow w6 (.cells (cellsD q) 24)
          have y1 := x2.on b6
          have y2 := y1.1
          have y3 := y1.2.1
          have y4 := y1.2.2
          replace x1 := (x1.on b6).on g6
          replace l1 := x1.load
          have l2 := (Rat.new w6 q 24).load
          have es : (w6.alloc (.cells (cellsD q) 24)).setRow w.heap.size (cellsD q) = (w6.setRow w.heap.size (cellsD q)).alloc (.cells (cellsD q) 24) := by rw [setRow_alloc, if_neg (by omega)]
          have hF : Rat ((w6.alloc (.cells (cellsD q) 24)).setRow w.heap.size (cellsD q)) w.heap.size q ∧ Below w.heap.size w ((w6.alloc (.cells (cellsD q) 24)).setRow w.heap.size (cellsD q)) :=
            ⟨(y1.on g6).set q, below_setRow (onto (onto x4 (Nat.le_refl _) b6) (Nat.le_refl _) g6) (Nat.le_refl _) _⟩
          rw [es] at hF
          replace hF := hide hF
          clear es b6 g6 c3 y1 x1 x2 x4 x0
          go_wp2
          go_roundw
          case rel => exact ⟨k + 1, q, by omega, by go_num, r1, hF⟩
          case measure => simp [intOf]; omega
    · clear hx hn
      rcases two_ways (m := 60) hlt with ⟨a1, a2, a3, a4⟩ | ⟨a1, a2⟩
      all_goals
        go_wp2_with fail
        refine (fixed_any _).mono ?_
        rintro e w7 ⟨rfl, b7⟩
        have B7 := hide (onto hR.out.2 (Nat.le_refl _) b7)
        clear b7
        go_wp2
        go_ret
        exact ⟨rfl, B7.out⟩

end Go.Proofs.Ytifkldlhoaipbaa
