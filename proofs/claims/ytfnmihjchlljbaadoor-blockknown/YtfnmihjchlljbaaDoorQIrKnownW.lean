/- Operations that read nothing come to the same from any registers; none writes register 0. -/
import Derived.Test.YtfnmihjchlljbaaDoorQIrPartsM
import Derived.Test.YtfnmihjchlljbaaDoorQIrRUntil
import Derived.Deep.CutRange
namespace Go.Proofs.YtfnmihjchlljbaaDoor.Ir
open Go.RowKit
set_option linter.unusedVariables false
set_option maxRecDepth 100000
set_option linter.unusedSimpArgs false

/-- What is known behind an operation. -/
def knB (K : Nat → Bool) (m : Mi) : Bool := decide (m.k = 1) || (K m.a.toNat && (decide (m.k = 2) || K m.b.toNat))

def knS (K : Nat → Bool) (m : Mi) : Nat → Bool := if m.k = 0 then K else fun j => if j = m.d.toNat then knB K m else K j

def knV : List Mi → (Nat → Bool) → (Nat → Bool)
  | [], K => K
  | m :: l, K => knV l (knS K m)

def K0 : Nat → Bool := fun j => decide (j = 0) || decide (j = 32)

/-- Registers that are known are alike. -/
def Alike (K : Nat → Bool) (A B : Nat → Int) : Prop := A 0 = 0 ∧ B 0 = 0 ∧ K 32 = true ∧ ∀ j, j < 32 → K j = true → A j = B j

theorem valV_set (x y x' y' m : Int) : valV 1 x y m = valV 1 x' y' m := by simp [valV]
theorem valV_move (x y y' m : Int) : valV 2 x y m = valV 2 x y' m := by simp [valV]

theorem meanO_alike {K : Nat → Bool} {A B : Nat → Int} (h : Alike K A B) (n imm : Int) (hn : 0 ≤ n ∧ n ≤ 32) (hk : K n.toNat = true) : meanO n imm A = meanO n imm B := by
  unfold meanO
  by_cases e : n = 32
  · rw [if_pos e, if_pos e]
  · rw [if_neg e, if_neg e]
    have hr : regB n = true := by simp [regB]; omega
    rw [hr]
    exact h.2.2.2 n.toNat (by omega) hk

theorem alike_step {K : Nat → Bool} {A B : Nat → Int} (h : Alike K A B) (m : Mi) (hs : soundB m = true) : Alike (knS K m) (behV m A) (behV m B) := by
  rcases sound_is hs with ⟨hk, hw⟩ | ⟨hk, hw, ha, hb, hd⟩
  · have e1 : behV m A = A := by unfold behV; rw [hw]; rfl
    have e2 : behV m B = B := by unfold behV; rw [hw]; rfl
    rw [e1, e2]
    unfold knS
    rw [if_pos hk]
    exact h
  · refine ⟨by rw [behV_zero]; exact h.1, by rw [behV_zero]; exact h.2.1, ?_, fun j hj hK => ?_⟩
    · unfold knS
      rw [if_neg (by omega)]
      show (if 32 = m.d.toNat then _ else K 32) = true
      rw [if_neg (by omega)]
      exact h.2.2.1
    · unfold knS at hK
      rw [if_neg (by omega)] at hK
      unfold behV
      rw [if_pos hw, if_pos hw]
      unfold putR
      by_cases e : j = m.d.toNat
      · rw [if_pos e, if_pos e]
        have hK' : knB K m = true := by
          have : (if j = m.d.toNat then knB K m else K j) = true := hK
          rwa [if_pos e] at this
        unfold knB at hK'
        by_cases k1 : m.k = 1
        · rw [k1]; exact valV_set _ _ _ _ _
        · simp only [k1, decide_false, Bool.false_or, Bool.and_eq_true, Bool.or_eq_true, decide_eq_true_eq] at hK'
          have e1 := meanO_alike h m.a m.m ha hK'.1
          rcases hK'.2 with k2 | k2
          · rw [k2, e1]; exact valV_move _ _ _ _
          · rw [e1, meanO_alike h m.b m.m hb k2]
      · rw [if_neg e, if_neg e]
        have : (if j = m.d.toNat then knB K m else K j) = true := hK
        rw [if_neg e] at this
        exact h.2.2.2 j hj this

theorem alike_all {n : Int} : ∀ (l : List Mi) (K : Nat → Bool) (A B : Nat → Int), SoundAll l → (∀ (i : Nat) (m : Mi), l[i]? = some m → m.c ≤ n) → Alike K A B → Alike (knV l K) (untilV n l A) (untilV n l B)
  | [], _, _, _, _, _, h => h
  | m :: l, K, A, B, hs, hc, h => by
    unfold knV untilV
    have h0 : m.c ≤ n := hc 0 m (by simp)
    rw [if_pos h0, if_pos h0]
    exact alike_all l _ _ _ (fun i m hi => hs (i + 1) m (by simpa using hi)) (fun i m hi => hc (i + 1) m (by simpa using hi)) (alike_step h m (hs 0 m (by simp)))

theorem mayFrom_c' : ∀ (l : List Mi) (p : Int), mayFrom p l = true → ∀ (i : Nat) (m : Mi), l[i]? = some m → m.c ≤ 16
  | [], _, _ => fun i m h => by simp at h
  | x :: l, p, h => fun i m hi => by
    unfold mayFrom at h
    simp only [Bool.and_eq_true, decide_eq_true_eq] at h
    cases i with
    | zero => obtain rfl : x = m := by simpa using hi
              exact h.1.2.1
    | succ i => exact mayFrom_c' l x.c h.2 i m (by simpa using hi)

theorem known_eq {l : List Mi} (h : mayB l = true) (R S : Nat → Int) : Alike (knV l K0) (untilV 9223372036854775807 l (putR R 0 0)) (untilV 9223372036854775807 l (putR S 0 0)) := by
  have hm : mayFrom 0 l = true := by unfold mayB at h; simp at h; exact h.2
  refine alike_all l K0 _ _ (mayFrom_sound l 0 hm) (fun i m hi => by have := mayFrom_c' l 0 hm i m hi; omega) ⟨rfl, rfl, rfl, fun j hj hK => ?_⟩
  have : j = 0 := by simp [K0] at hK; omega
  subst this
  rfl

/-- What is known as a row. -/
def cellsK (K : Nat → Bool) : Array Value := ((List.range 33).map fun k => Value.bool (K k)).toArray
def KZ : Nat → Bool := fun _ => false
def K1 : Nat → Bool := fun j => decide (j = 0)
def putK (K : Nat → Bool) (s : Nat) (b : Bool) : Nat → Bool := fun j => if j = s then b else K j

theorem get_K (K : Nat → Bool) (j : Nat) (h : j < 33) : (cellsK K)[j]? = some (.bool (K j)) := by simp [cellsK, h]

theorem size_K (K : Nat → Bool) : (cellsK K).size = 33 := by simp [cellsK]

theorem set_K (K : Nat → Bool) (s : Nat) (hs : s < 33) (v : Bool) : (cellsK K).setIfInBounds s (.bool v) = cellsK (putK K s v) := by
  apply Array.ext_getElem?
  intro j
  have hsz := size_K K
  rw [Array.getElem?_setIfInBounds, hsz]
  by_cases hj : j < 33
  · rw [get_K _ j hj, get_K _ j hj, putK]
    by_cases e : s = j
    · subst e; rw [if_pos rfl, if_pos hj, if_pos rfl]
    · rw [if_neg e, if_neg (by omega)]
  · have n1 : (cellsK K)[j]? = none := by simp; omega
    have n2 : (cellsK (putK K s v))[j]? = none := by have := size_K (putK K s v); simp at this ⊢; omega
    rw [n1, n2]
    repeat' split
    all_goals first | rfl | omega

theorem cellsK_0 : (cellsK KZ).setIfInBounds 0 (.bool true) = cellsK K1 := by kernel_rfl
theorem cellsK_32 : (cellsK K1).setIfInBounds 32 (.bool true) = cellsK K0 := by kernel_rfl

/-- What is held in the loop. -/
def HeldK (w : World) (LA LC LK : Nat) (F1 F2 : Nat → Int) (K : Nat → Bool) (x : World) : Prop :=
  Box x LK (cellsK K) ∧ Box x LA (cellsX F1) ∧ Box x LC (cellsX F2) ∧ Below w.heap.size w x

theorem HeldK.on {w : World} {LA LC LK : Nat} {F1 F2 : Nat → Int} {K : Nat → Bool} {x y : World} (h : HeldK w LA LC LK F1 F2 K x) (b : Below x.heap.size x y) : HeldK w LA LC LK F1 F2 K y :=
  ⟨h.1.on b, h.2.1.on b, h.2.2.1.on b, onto h.2.2.2 (Nat.le_refl _) b⟩

theorem HeldK.put {w : World} {LA LC LK : Nat} {F1 F2 : Nat → Int} {K : Nat → Bool} {x : World} (h : HeldK w LA LC LK F1 F2 K x) (h1 : LA < LK) (h2 : LC < LK) (h3 : w.heap.size ≤ LK) (s : Nat) (hs : s < 33) (v : Bool) :
    HeldK w LA LC LK F1 F2 (putK K s v) (x.setCell ⟨LK, s, none⟩ (.bool v)) := by
  rw [setCell_row LK x s (.bool v) h.1.1, h.1.2.1, set_K K s hs v]
  exact ⟨h.1.set _, h.2.1.far _ _ (by omega), h.2.2.1.far _ _ (by omega), below_setRow h.2.2.2 h3 _⟩

set_option maxHeartbeats 8000000 in
theorem known_cut {w : World} (tb : De.Tabs w) {ad : Option Addr} {n c K : Nat} {l : List Mi} (hnc : n ≤ c) (hK : (n ≤ 16 ∧ K = n) ∨ (16 < n ∧ K = 16)) (h : IsOps w (.slice ad K c) l) (hw : WordsM l) (R S : Nat → Int) (hR : ∀ k, Cp.W32 (R k)) (hS : ∀ k, Cp.W32 (S k)) :
    Calls Tryd.prog 8 #[.slice ad n c, .agg (cellsX R), .agg (cellsX S)] w fun e w' => e = .returned (.bool true) ∧ Below w.heap.size w w' := by
  obtain ⟨r1, r2, r3, r4, r5, r6, r7, r8, r9⟩ := rowRules
  obtain ⟨s1, s2, s3, s4, s5, s6, s7, s8, s9, s10⟩ := irSizes
  obtain ⟨q1, q2, q3, q4, q5, q6⟩ := irWhole
  obtain ⟨k1, k2⟩ := rowSets
  obtain ⟨p1, p2, p3, p4, p5, p6, p7⟩ := irParts
  have b0 := (Box.new w (cellsX R) 32).on (grow _ (.cells (cellsX S) 32))
  have b0' := Box.new (w.alloc (.cells (cellsX R) 32)) (cellsX S) 32
  rw [World.size_alloc] at b0'
  have g0 := onto (grow w (.cells (cellsX R) 32)) (Nat.le_refl _) (grow _ (.cells (cellsX S) 32))
  have c0 := hide (fun (y : World) (hb : Below w.heap.size w y) => may_any (h.on hb))
  have c1 := hide (fun (y : World) (hb : Below w.heap.size w y) => run_any (h.on hb) hw R hR)
  have c2 := hide (fun (y : World) (hb : Below w.heap.size w y) => run_any (h.on hb) hw S hS)
  have cf := hide (fun (y : World) (hb : Below w.heap.size w y) => fixed_any y (tb.on hb))
  have hke := hide (fun hm => known_eq (l := l) hm R S)
  obtain ⟨F1, e1⟩ : ∃ F, untilV 9223372036854775807 l (putR R 0 0) = F := ⟨_, rfl⟩
  obtain ⟨F2, e2⟩ : ∃ F, untilV 9223372036854775807 l (putR S 0 0) = F := ⟨_, rfl⟩
  rw [e1] at c1 hke
  rw [e2] at c2 hke
  have hsd : Hid (mayB l = true → SoundAll l) := hide (fun hm => mayFrom_sound l 0 (by unfold mayB at hm; simp at hm; exact hm.2))
  have hop := hide h.open'
  generalize mayB l = B at *
  replace b0 := hide b0
  replace b0' := hide b0'
  replace g0 := hide g0
  clear h tb e1 e2 hw hR hS
  rcases hK with ⟨hn, rfl⟩ | ⟨hn, rfl⟩
  · go_enter Tryd.func8, Tryd.ntmps8
    go_wp2_with fail
    refine (c0.out _ g0.out).mono ?_
    rintro e x1 ⟨rfl, h1⟩
    have hX := hide ((b0.out.on h1).on (Below.refl _ _).drew)
    have hY := hide ((b0'.out.on h1).on (Below.refl _ _).drew)
    have hB0 := hide (onto g0.out (Nat.le_refl _) h1)
    have hB := hide hB0.out.drew
    clear b0 b0' g0 h1 c0
    cases B
    · clear hke hsd c1 c2 hX hY
      go_wp2_with fail
      refine (cf.out x1 hB0.out).mono ?_
      rintro e x2 ⟨rfl, h2⟩
      have hB2 := onto hB0.out (Nat.le_refl _) h2
      clear hB0 hB h2
      go_wp2
      go_ret
      exact ⟨rfl, hB2⟩
    · go_wp2_with fail
      have hke' := hide (hke.out (by first | rfl | trivial))
      have hsd' := hide (hsd.out (by first | rfl | trivial))
      clear hke hsd hB0
      go_cut [7, 8] from 9 (fun s7 s8 x => ∃ LA LC, s7 = .pointer (some ⟨LA, 0, none⟩) ∧ s8 = .pointer (some ⟨LC, 0, none⟩) ∧ Hid (Box x LA (cellsX F1) ∧ Box x LC (cellsX F2) ∧ Below w.heap.size w x))
      case first => as_aux_lemma =>
        refine wp_region_held_drew (S := fun y => Box y w.heap.size (cellsX R) ∧ Box y (w.heap.size + 1) (cellsX S)) (by kernel_rfl) ⟨hX.out, hY.out⟩ (fun hHeld => ?_)
        generalize World.drew _ = y0 at *
        refine wpAnyH_take (i := 0) (v := ?_) rfl (by kernel_rfl) (by kernel_rfl) (by kernel_rfl) (fun _ _ _ h => h) (Or.inl ⟨by rfl, ?_⟩) (by assumption) ?_
        rotate_left
        · intro y hSw
          have ld := hSw.1.loads 0 N32 (q4 _) (q5 _); have ld2 := hSw.2.loads 0 N32 (q4 _) (q5 _)
          go_simp
          try with_reducible rfl
        try simp only [Act.put, List.setIfInBounds_toArray, List.set_cons_zero, List.set_cons_succ]
        refine wpAnyH_take (i := 1) (v := ?_) rfl (by kernel_rfl) (by kernel_rfl) (by kernel_rfl) (fun _ _ _ h => h) (Or.inl ⟨by rfl, ?_⟩) (by assumption) ?_
        rotate_left
        · intro y hSw
          have ld := hSw.1.loads 0 N32 (q4 _) (q5 _); have ld2 := hSw.2.loads 0 N32 (q4 _) (q5 _)
          go_simp
          try with_reducible rfl
        try simp only [Act.put, List.setIfInBounds_toArray, List.set_cons_zero, List.set_cons_succ]
        refine wpAnyH_take (i := 3) (v := ?_) rfl (by kernel_rfl) (by kernel_rfl) (by kernel_rfl) (fun _ _ _ h => h) (Or.inl ⟨by rfl, ?_⟩) (by assumption) ?_
        rotate_left
        · intro y hSw
          have ld := hSw.1.loads 0 N32 (q4 _) (q5 _); have ld2 := hSw.2.loads 0 N32 (q4 _) (q5 _)
          go_simp
          try with_reducible rfl
        try simp only [Act.put, List.setIfInBounds_toArray, List.set_cons_zero, List.set_cons_succ]
        refine wpAnyH_take (i := 4) (v := ?_) rfl (by kernel_rfl) (by kernel_rfl) (by kernel_rfl) (fun _ _ _ h => h) (Or.inl ⟨by rfl, ?_⟩) (by assumption) ?_
        rotate_left
        · intro y hSw
          have ld := hSw.1.loads 0 N32 (q4 _) (q5 _); have ld2 := hSw.2.loads 0 N32 (q4 _) (q5 _)
          go_simp
          try with_reducible rfl
        try simp only [Act.put, List.setIfInBounds_toArray, List.set_cons_zero, List.set_cons_succ]
        refine wpAnyH_ready (rs := [2, 6, 7]) (by kernel_rfl) (by simp) ?_
        refine AllReadyH.cons rfl (fun K hK => ?_) ?_
        · go_simp
          refine (c1.out _ hB.out).mono ?_
          rintro e y1 ⟨rfl, bl⟩
          replace hX := hide (hX.out.on bl)
          replace hY := hide (hY.out.on bl)
          replace hB := hide (onto hB.out (Nat.le_refl _) bl)
          go_wp2_with fail
          refine hK.out _ _ (⟨hHeld.1.on bl, hHeld.2.on bl⟩) (fun hHeld => ?_)
          clear hK K
          try simp only [Act.put, List.setIfInBounds_toArray, List.set_cons_zero, List.set_cons_succ]
          clear bl
          refine wpAnyH_ready (rs := [5, 6, 7]) (by kernel_rfl) (by simp) ?_
          refine AllReadyH.cons rfl (fun K hK => ?_) ?_
          · go_simp
            refine (c2.out _ hB.out).mono ?_
            rintro e y2 ⟨rfl, bl⟩
            replace hX := hide (hX.out.on bl)
            replace hY := hide (hY.out.on bl)
            replace hB := hide (onto hB.out (Nat.le_refl _) bl)
            go_wp2_with fail
            refine hK.out _ _ (⟨hHeld.1.on bl, hHeld.2.on bl⟩) (fun hHeld => ?_)
            clear hK K
            try simp only [Act.put, List.setIfInBounds_toArray, List.set_cons_zero, List.set_cons_succ]
            clear bl
            refine wpAnyH_ready (rs := [6, 7]) (by kernel_rfl) (by simp) ?_
            refine AllReadyH.cons rfl (fun K hK => ?_) ?_
            · have nAhX := hX.out.2.2
              have nAhY := hY.out.2.2
              go_simp
              refine hK.out _ _ (⟨hHeld.1.on (grow y2 _), hHeld.2.on (grow y2 _)⟩) (fun hHeld => ?_)
              clear hK K
              try simp only [Act.put, List.setIfInBounds_toArray, List.set_cons_zero, List.set_cons_succ]
              have hA := hide (Box.new y2 (cellsX X0) 32)
              replace hX := hide (hX.out.on (grow y2 (.cells (cellsX X0) 32)))
              replace hY := hide (hY.out.on (grow y2 (.cells (cellsX X0) 32)))
              replace hB := hide (onto hB.out (Nat.le_refl _) (grow y2 (.cells (cellsX X0) 32)))
              generalize World.alloc y2 _ = y3 at *
              generalize y2.heap.size = LA at *
              refine wpAnyH_ready (rs := [7]) (by kernel_rfl) (by simp) ?_
              refine AllReadyH.cons rfl (fun K hK => ?_) AllReadyH.nil
              have nChX := hX.out.2.2
              have nChY := hY.out.2.2
              have nChA := hA.out.2.2
              go_simp
              refine hK.out _ _ (⟨hHeld.1.on (grow y3 _), hHeld.2.on (grow y3 _)⟩) (fun hHeld => ?_)
              clear hK K
              try simp only [Act.put, List.setIfInBounds_toArray, List.set_cons_zero, List.set_cons_succ]
              have hC := hide (Box.new y3 (cellsX X0) 32)
              replace hX := hide (hX.out.on (grow y3 (.cells (cellsX X0) 32)))
              replace hY := hide (hY.out.on (grow y3 (.cells (cellsX X0) 32)))
              replace hA := hide (hA.out.on (grow y3 (.cells (cellsX X0) 32)))
              replace hB := hide (onto hB.out (Nat.le_refl _) (grow y3 (.cells (cellsX X0) 32)))
              generalize World.alloc y3 _ = y4 at *
              generalize y3.heap.size = LC at *
              refine wpAnyH_ready (rs := [8]) (by kernel_rfl) (by simp) ?_
              refine AllReadyH.cons rfl (fun K hK => ?_) AllReadyH.nil
              have hst := store_part _ LA 0 (cellsX F1) hA.out.1 (by rw [hA.out.2.1, s6]; exact q4 _) (s8 _)
              rw [hA.out.2.1, q6] at hst
              go_simp
              refine hK.out _ _ (⟨hHeld.1.far LA (cellsX F1) (by omega), hHeld.2.far LA (cellsX F1) (by omega)⟩) (fun hHeld => ?_)
              clear hK K
              try simp only [Act.put, List.setIfInBounds_toArray, List.set_cons_zero, List.set_cons_succ]
              replace hA := hide (hA.out.set (cellsX F1))
              replace hX := hide (hX.out.far LA (cellsX F1) (by omega))
              replace hY := hide (hY.out.far LA (cellsX F1) (by omega))
              replace hC := hide (hC.out.far LA (cellsX F1) (by omega))
              replace hB := hide (below_setRow (g := LA) hB.out (by omega) (cellsX F1))
              clear hst
              refine wpAnyH_ready (rs := [9]) (by kernel_rfl) (by simp) ?_
              refine AllReadyH.cons rfl (fun K hK => ?_) AllReadyH.nil
              have hst := store_part _ LC 0 (cellsX F2) hC.out.1 (by rw [hC.out.2.1, s6]; exact q4 _) (s8 _)
              rw [hC.out.2.1, q6] at hst
              go_simp
              refine hK.out _ _ (⟨hHeld.1.far LC (cellsX F2) (by omega), hHeld.2.far LC (cellsX F2) (by omega)⟩) (fun hHeld => ?_)
              clear hK K
              try simp only [Act.put, List.setIfInBounds_toArray, List.set_cons_zero, List.set_cons_succ]
              replace hC := hide (hC.out.set (cellsX F2))
              replace hX := hide (hX.out.far LC (cellsX F2) (by omega))
              replace hY := hide (hY.out.far LC (cellsX F2) (by omega))
              replace hA := hide (hA.out.far LC (cellsX F2) (by omega))
              replace hB := hide (below_setRow (g := LC) hB.out (by omega) (cellsX F2))
              clear hst
              refine wpAnyH_done (by kernel_rfl) ?_ _
              go_wp2_with fail
              go_meet
              case rel => exact ⟨_, _, rfl, rfl, hide ⟨hA.out, hC.out, hB.out⟩⟩
            refine AllReadyH.cons rfl (fun K hK => ?_) AllReadyH.nil
            have nChX := hX.out.2.2
            have nChY := hY.out.2.2
            go_simp
            refine hK.out _ _ (⟨hHeld.1.on (grow y2 _), hHeld.2.on (grow y2 _)⟩) (fun hHeld => ?_)
            clear hK K
            try simp only [Act.put, List.setIfInBounds_toArray, List.set_cons_zero, List.set_cons_succ]
            have hC := hide (Box.new y2 (cellsX X0) 32)
            replace hX := hide (hX.out.on (grow y2 (.cells (cellsX X0) 32)))
            replace hY := hide (hY.out.on (grow y2 (.cells (cellsX X0) 32)))
            replace hB := hide (onto hB.out (Nat.le_refl _) (grow y2 (.cells (cellsX X0) 32)))
            generalize World.alloc y2 _ = y3 at *
            generalize y2.heap.size = LC at *
            refine wpAnyH_ready (rs := [6]) (by kernel_rfl) (by simp) ?_
            refine AllReadyH.cons rfl (fun K hK => ?_) AllReadyH.nil
            have nAhX := hX.out.2.2
            have nAhY := hY.out.2.2
            have nAhC := hC.out.2.2
            go_simp
            refine hK.out _ _ (⟨hHeld.1.on (grow y3 _), hHeld.2.on (grow y3 _)⟩) (fun hHeld => ?_)
            clear hK K
            try simp only [Act.put, List.setIfInBounds_toArray, List.set_cons_zero, List.set_cons_succ]
            have hA := hide (Box.new y3 (cellsX X0) 32)
            replace hX := hide (hX.out.on (grow y3 (.cells (cellsX X0) 32)))
            replace hY := hide (hY.out.on (grow y3 (.cells (cellsX X0) 32)))
            replace hC := hide (hC.out.on (grow y3 (.cells (cellsX X0) 32)))
            replace hB := hide (onto hB.out (Nat.le_refl _) (grow y3 (.cells (cellsX X0) 32)))
            generalize World.alloc y3 _ = y4 at *
            generalize y3.heap.size = LA at *
            refine wpAnyH_ready (rs := [8]) (by kernel_rfl) (by simp) ?_
            refine AllReadyH.cons rfl (fun K hK => ?_) AllReadyH.nil
            have hst := store_part _ LA 0 (cellsX F1) hA.out.1 (by rw [hA.out.2.1, s6]; exact q4 _) (s8 _)
            rw [hA.out.2.1, q6] at hst
            go_simp
            refine hK.out _ _ (⟨hHeld.1.far LA (cellsX F1) (by omega), hHeld.2.far LA (cellsX F1) (by omega)⟩) (fun hHeld => ?_)
            clear hK K
            try simp only [Act.put, List.setIfInBounds_toArray, List.set_cons_zero, List.set_cons_succ]
            replace hA := hide (hA.out.set (cellsX F1))
            replace hX := hide (hX.out.far LA (cellsX F1) (by omega))
            replace hY := hide (hY.out.far LA (cellsX F1) (by omega))
            replace hC := hide (hC.out.far LA (cellsX F1) (by omega))
            replace hB := hide (below_setRow (g := LA) hB.out (by omega) (cellsX F1))
            clear hst
            refine wpAnyH_ready (rs := [9]) (by kernel_rfl) (by simp) ?_
            refine AllReadyH.cons rfl (fun K hK => ?_) AllReadyH.nil
            have hst := store_part _ LC 0 (cellsX F2) hC.out.1 (by rw [hC.out.2.1, s6]; exact q4 _) (s8 _)
            rw [hC.out.2.1, q6] at hst
            go_simp
            refine hK.out _ _ (⟨hHeld.1.far LC (cellsX F2) (by omega), hHeld.2.far LC (cellsX F2) (by omega)⟩) (fun hHeld => ?_)
            clear hK K
            try simp only [Act.put, List.setIfInBounds_toArray, List.set_cons_zero, List.set_cons_succ]
            replace hC := hide (hC.out.set (cellsX F2))
            replace hX := hide (hX.out.far LC (cellsX F2) (by omega))
            replace hY := hide (hY.out.far LC (cellsX F2) (by omega))
            replace hA := hide (hA.out.far LC (cellsX F2) (by omega))
            replace hB := hide (below_setRow (g := LC) hB.out (by omega) (cellsX F2))
            clear hst
            refine wpAnyH_done (by kernel_rfl) ?_ _
            go_wp2_with fail
            go_meet
            case rel => exact ⟨_, _, rfl, rfl, hide ⟨hA.out, hC.out, hB.out⟩⟩
          refine AllReadyH.cons rfl (fun K hK => ?_) ?_
          · have nAhX := hX.out.2.2
            have nAhY := hY.out.2.2
            go_simp
            refine hK.out _ _ (⟨hHeld.1.on (grow y1 _), hHeld.2.on (grow y1 _)⟩) (fun hHeld => ?_)
            clear hK K
            try simp only [Act.put, List.setIfInBounds_toArray, List.set_cons_zero, List.set_cons_succ]
            have hA := hide (Box.new y1 (cellsX X0) 32)
            replace hX := hide (hX.out.on (grow y1 (.cells (cellsX X0) 32)))
            replace hY := hide (hY.out.on (grow y1 (.cells (cellsX X0) 32)))
            replace hB := hide (onto hB.out (Nat.le_refl _) (grow y1 (.cells (cellsX X0) 32)))
            generalize World.alloc y1 _ = y2 at *
            generalize y1.heap.size = LA at *
            refine wpAnyH_ready (rs := [5, 7]) (by kernel_rfl) (by simp) ?_
            refine AllReadyH.cons rfl (fun K hK => ?_) ?_
            · go_simp
              refine (c2.out _ hB.out).mono ?_
              rintro e y3 ⟨rfl, bl⟩
              replace hX := hide (hX.out.on bl)
              replace hY := hide (hY.out.on bl)
              replace hA := hide (hA.out.on bl)
              replace hB := hide (onto hB.out (Nat.le_refl _) bl)
              go_wp2_with fail
              refine hK.out _ _ (⟨hHeld.1.on bl, hHeld.2.on bl⟩) (fun hHeld => ?_)
              clear hK K
              try simp only [Act.put, List.setIfInBounds_toArray, List.set_cons_zero, List.set_cons_succ]
              clear bl
              refine wpAnyH_ready (rs := [7]) (by kernel_rfl) (by simp) ?_
              refine AllReadyH.cons rfl (fun K hK => ?_) AllReadyH.nil
              have nChX := hX.out.2.2
              have nChY := hY.out.2.2
              have nChA := hA.out.2.2
              go_simp
              refine hK.out _ _ (⟨hHeld.1.on (grow y3 _), hHeld.2.on (grow y3 _)⟩) (fun hHeld => ?_)
              clear hK K
              try simp only [Act.put, List.setIfInBounds_toArray, List.set_cons_zero, List.set_cons_succ]
              have hC := hide (Box.new y3 (cellsX X0) 32)
              replace hX := hide (hX.out.on (grow y3 (.cells (cellsX X0) 32)))
              replace hY := hide (hY.out.on (grow y3 (.cells (cellsX X0) 32)))
              replace hA := hide (hA.out.on (grow y3 (.cells (cellsX X0) 32)))
              replace hB := hide (onto hB.out (Nat.le_refl _) (grow y3 (.cells (cellsX X0) 32)))
              generalize World.alloc y3 _ = y4 at *
              generalize y3.heap.size = LC at *
              refine wpAnyH_ready (rs := [8]) (by kernel_rfl) (by simp) ?_
              refine AllReadyH.cons rfl (fun K hK => ?_) AllReadyH.nil
              have hst := store_part _ LA 0 (cellsX F1) hA.out.1 (by rw [hA.out.2.1, s6]; exact q4 _) (s8 _)
              rw [hA.out.2.1, q6] at hst
              go_simp
              refine hK.out _ _ (⟨hHeld.1.far LA (cellsX F1) (by omega), hHeld.2.far LA (cellsX F1) (by omega)⟩) (fun hHeld => ?_)
              clear hK K
              try simp only [Act.put, List.setIfInBounds_toArray, List.set_cons_zero, List.set_cons_succ]
              replace hA := hide (hA.out.set (cellsX F1))
              replace hX := hide (hX.out.far LA (cellsX F1) (by omega))
              replace hY := hide (hY.out.far LA (cellsX F1) (by omega))
              replace hC := hide (hC.out.far LA (cellsX F1) (by omega))
              replace hB := hide (below_setRow (g := LA) hB.out (by omega) (cellsX F1))
              clear hst
              refine wpAnyH_ready (rs := [9]) (by kernel_rfl) (by simp) ?_
              refine AllReadyH.cons rfl (fun K hK => ?_) AllReadyH.nil
              have hst := store_part _ LC 0 (cellsX F2) hC.out.1 (by rw [hC.out.2.1, s6]; exact q4 _) (s8 _)
              rw [hC.out.2.1, q6] at hst
              go_simp
              refine hK.out _ _ (⟨hHeld.1.far LC (cellsX F2) (by omega), hHeld.2.far LC (cellsX F2) (by omega)⟩) (fun hHeld => ?_)
              clear hK K
              try simp only [Act.put, List.setIfInBounds_toArray, List.set_cons_zero, List.set_cons_succ]
              replace hC := hide (hC.out.set (cellsX F2))
              replace hX := hide (hX.out.far LC (cellsX F2) (by omega))
              replace hY := hide (hY.out.far LC (cellsX F2) (by omega))
              replace hA := hide (hA.out.far LC (cellsX F2) (by omega))
              replace hB := hide (below_setRow (g := LC) hB.out (by omega) (cellsX F2))
              clear hst
              refine wpAnyH_done (by kernel_rfl) ?_ _
              go_wp2_with fail
              go_meet
              case rel => exact ⟨_, _, rfl, rfl, hide ⟨hA.out, hC.out, hB.out⟩⟩
            refine AllReadyH.cons rfl (fun K hK => ?_) AllReadyH.nil
            have nChX := hX.out.2.2
            have nChY := hY.out.2.2
            have nChA := hA.out.2.2
            go_simp
            refine hK.out _ _ (⟨hHeld.1.on (grow y2 _), hHeld.2.on (grow y2 _)⟩) (fun hHeld => ?_)
            clear hK K
            try simp only [Act.put, List.setIfInBounds_toArray, List.set_cons_zero, List.set_cons_succ]
            have hC := hide (Box.new y2 (cellsX X0) 32)
            replace hX := hide (hX.out.on (grow y2 (.cells (cellsX X0) 32)))
            replace hY := hide (hY.out.on (grow y2 (.cells (cellsX X0) 32)))
            replace hA := hide (hA.out.on (grow y2 (.cells (cellsX X0) 32)))
            replace hB := hide (onto hB.out (Nat.le_refl _) (grow y2 (.cells (cellsX X0) 32)))
            generalize World.alloc y2 _ = y3 at *
            generalize y2.heap.size = LC at *
            refine wpAnyH_ready (rs := [5]) (by kernel_rfl) (by simp) ?_
            refine AllReadyH.cons rfl (fun K hK => ?_) AllReadyH.nil
            go_simp
            refine (c2.out _ hB.out).mono ?_
            rintro e y4 ⟨rfl, bl⟩
            replace hX := hide (hX.out.on bl)
            replace hY := hide (hY.out.on bl)
            replace hA := hide (hA.out.on bl)
            replace hC := hide (hC.out.on bl)
            replace hB := hide (onto hB.out (Nat.le_refl _) bl)
            go_wp2_with fail
            refine hK.out _ _ (⟨hHeld.1.on bl, hHeld.2.on bl⟩) (fun hHeld => ?_)
            clear hK K
            try simp only [Act.put, List.setIfInBounds_toArray, List.set_cons_zero, List.set_cons_succ]
            clear bl
            refine wpAnyH_ready (rs := [8]) (by kernel_rfl) (by simp) ?_
            refine AllReadyH.cons rfl (fun K hK => ?_) AllReadyH.nil
            have hst := store_part _ LA 0 (cellsX F1) hA.out.1 (by rw [hA.out.2.1, s6]; exact q4 _) (s8 _)
            rw [hA.out.2.1, q6] at hst
            go_simp
            refine hK.out _ _ (⟨hHeld.1.far LA (cellsX F1) (by omega), hHeld.2.far LA (cellsX F1) (by omega)⟩) (fun hHeld => ?_)
            clear hK K
            try simp only [Act.put, List.setIfInBounds_toArray, List.set_cons_zero, List.set_cons_succ]
            replace hA := hide (hA.out.set (cellsX F1))
            replace hX := hide (hX.out.far LA (cellsX F1) (by omega))
            replace hY := hide (hY.out.far LA (cellsX F1) (by omega))
            replace hC := hide (hC.out.far LA (cellsX F1) (by omega))
            replace hB := hide (below_setRow (g := LA) hB.out (by omega) (cellsX F1))
            clear hst
            refine wpAnyH_ready (rs := [9]) (by kernel_rfl) (by simp) ?_
            refine AllReadyH.cons rfl (fun K hK => ?_) AllReadyH.nil
            have hst := store_part _ LC 0 (cellsX F2) hC.out.1 (by rw [hC.out.2.1, s6]; exact q4 _) (s8 _)
            rw [hC.out.2.1, q6] at hst
            go_simp
            refine hK.out _ _ (⟨hHeld.1.far LC (cellsX F2) (by omega), hHeld.2.far LC (cellsX F2) (by omega)⟩) (fun hHeld => ?_)
            clear hK K
            try simp only [Act.put, List.setIfInBounds_toArray, List.set_cons_zero, List.set_cons_succ]
            replace hC := hide (hC.out.set (cellsX F2))
            replace hX := hide (hX.out.far LC (cellsX F2) (by omega))
            replace hY := hide (hY.out.far LC (cellsX F2) (by omega))
            replace hA := hide (hA.out.far LC (cellsX F2) (by omega))
            replace hB := hide (below_setRow (g := LC) hB.out (by omega) (cellsX F2))
            clear hst
            refine wpAnyH_done (by kernel_rfl) ?_ _
            go_wp2_with fail
            go_meet
            case rel => exact ⟨_, _, rfl, rfl, hide ⟨hA.out, hC.out, hB.out⟩⟩
          refine AllReadyH.cons rfl (fun K hK => ?_) AllReadyH.nil
          have nChX := hX.out.2.2
          have nChY := hY.out.2.2
          go_simp
          refine hK.out _ _ (⟨hHeld.1.on (grow y1 _), hHeld.2.on (grow y1 _)⟩) (fun hHeld => ?_)
          clear hK K
          try simp only [Act.put, List.setIfInBounds_toArray, List.set_cons_zero, List.set_cons_succ]
          have hC := hide (Box.new y1 (cellsX X0) 32)
          replace hX := hide (hX.out.on (grow y1 (.cells (cellsX X0) 32)))
          replace hY := hide (hY.out.on (grow y1 (.cells (cellsX X0) 32)))
          replace hB := hide (onto hB.out (Nat.le_refl _) (grow y1 (.cells (cellsX X0) 32)))
          generalize World.alloc y1 _ = y2 at *
          generalize y1.heap.size = LC at *
          refine wpAnyH_ready (rs := [5, 6]) (by kernel_rfl) (by simp) ?_
          refine AllReadyH.cons rfl (fun K hK => ?_) ?_
          · go_simp
            refine (c2.out _ hB.out).mono ?_
            rintro e y3 ⟨rfl, bl⟩
            replace hX := hide (hX.out.on bl)
            replace hY := hide (hY.out.on bl)
            replace hC := hide (hC.out.on bl)
            replace hB := hide (onto hB.out (Nat.le_refl _) bl)
            go_wp2_with fail
            refine hK.out _ _ (⟨hHeld.1.on bl, hHeld.2.on bl⟩) (fun hHeld => ?_)
            clear hK K
            try simp only [Act.put, List.setIfInBounds_toArray, List.set_cons_zero, List.set_cons_succ]
            clear bl
            refine wpAnyH_ready (rs := [6]) (by kernel_rfl) (by simp) ?_
            refine AllReadyH.cons rfl (fun K hK => ?_) AllReadyH.nil
            have nAhX := hX.out.2.2
            have nAhY := hY.out.2.2
            have nAhC := hC.out.2.2
            go_simp
            refine hK.out _ _ (⟨hHeld.1.on (grow y3 _), hHeld.2.on (grow y3 _)⟩) (fun hHeld => ?_)
            clear hK K
            try simp only [Act.put, List.setIfInBounds_toArray, List.set_cons_zero, List.set_cons_succ]
            have hA := hide (Box.new y3 (cellsX X0) 32)
            replace hX := hide (hX.out.on (grow y3 (.cells (cellsX X0) 32)))
            replace hY := hide (hY.out.on (grow y3 (.cells (cellsX X0) 32)))
            replace hC := hide (hC.out.on (grow y3 (.cells (cellsX X0) 32)))
            replace hB := hide (onto hB.out (Nat.le_refl _) (grow y3 (.cells (cellsX X0) 32)))
            generalize World.alloc y3 _ = y4 at *
            generalize y3.heap.size = LA at *
            refine wpAnyH_ready (rs := [8]) (by kernel_rfl) (by simp) ?_
            refine AllReadyH.cons rfl (fun K hK => ?_) AllReadyH.nil
            have hst := store_part _ LA 0 (cellsX F1) hA.out.1 (by rw [hA.out.2.1, s6]; exact q4 _) (s8 _)
            rw [hA.out.2.1, q6] at hst
            go_simp
            refine hK.out _ _ (⟨hHeld.1.far LA (cellsX F1) (by omega), hHeld.2.far LA (cellsX F1) (by omega)⟩) (fun hHeld => ?_)
            clear hK K
            try simp only [Act.put, List.setIfInBounds_toArray, List.set_cons_zero, List.set_cons_succ]
            replace hA := hide (hA.out.set (cellsX F1))
            replace hX := hide (hX.out.far LA (cellsX F1) (by omega))
            replace hY := hide (hY.out.far LA (cellsX F1) (by omega))
            replace hC := hide (hC.out.far LA (cellsX F1) (by omega))
            replace hB := hide (below_setRow (g := LA) hB.out (by omega) (cellsX F1))
            clear hst
            refine wpAnyH_ready (rs := [9]) (by kernel_rfl) (by simp) ?_
            refine AllReadyH.cons rfl (fun K hK => ?_) AllReadyH.nil
            have hst := store_part _ LC 0 (cellsX F2) hC.out.1 (by rw [hC.out.2.1, s6]; exact q4 _) (s8 _)
            rw [hC.out.2.1, q6] at hst
            go_simp
            refine hK.out _ _ (⟨hHeld.1.far LC (cellsX F2) (by omega), hHeld.2.far LC (cellsX F2) (by omega)⟩) (fun hHeld => ?_)
            clear hK K
            try simp only [Act.put, List.setIfInBounds_toArray, List.set_cons_zero, List.set_cons_succ]
            replace hC := hide (hC.out.set (cellsX F2))
            replace hX := hide (hX.out.far LC (cellsX F2) (by omega))
            replace hY := hide (hY.out.far LC (cellsX F2) (by omega))
            replace hA := hide (hA.out.far LC (cellsX F2) (by omega))
            replace hB := hide (below_setRow (g := LC) hB.out (by omega) (cellsX F2))
            clear hst
            refine wpAnyH_done (by kernel_rfl) ?_ _
            go_wp2_with fail
            go_meet
            case rel => exact ⟨_, _, rfl, rfl, hide ⟨hA.out, hC.out, hB.out⟩⟩
          refine AllReadyH.cons rfl (fun K hK => ?_) AllReadyH.nil
          have nAhX := hX.out.2.2
          have nAhY := hY.out.2.2
          have nAhC := hC.out.2.2
          go_simp
          refine hK.out _ _ (⟨hHeld.1.on (grow y2 _), hHeld.2.on (grow y2 _)⟩) (fun hHeld => ?_)
          clear hK K
          try simp only [Act.put, List.setIfInBounds_toArray, List.set_cons_zero, List.set_cons_succ]
          have hA := hide (Box.new y2 (cellsX X0) 32)
          replace hX := hide (hX.out.on (grow y2 (.cells (cellsX X0) 32)))
          replace hY := hide (hY.out.on (grow y2 (.cells (cellsX X0) 32)))
          replace hC := hide (hC.out.on (grow y2 (.cells (cellsX X0) 32)))
          replace hB := hide (onto hB.out (Nat.le_refl _) (grow y2 (.cells (cellsX X0) 32)))
          generalize World.alloc y2 _ = y3 at *
          generalize y2.heap.size = LA at *
          refine wpAnyH_ready (rs := [5]) (by kernel_rfl) (by simp) ?_
          refine AllReadyH.cons rfl (fun K hK => ?_) AllReadyH.nil
          go_simp
          refine (c2.out _ hB.out).mono ?_
          rintro e y4 ⟨rfl, bl⟩
          replace hX := hide (hX.out.on bl)
          replace hY := hide (hY.out.on bl)
          replace hA := hide (hA.out.on bl)
          replace hC := hide (hC.out.on bl)
          replace hB := hide (onto hB.out (Nat.le_refl _) bl)
          go_wp2_with fail
          refine hK.out _ _ (⟨hHeld.1.on bl, hHeld.2.on bl⟩) (fun hHeld => ?_)
          clear hK K
          try simp only [Act.put, List.setIfInBounds_toArray, List.set_cons_zero, List.set_cons_succ]
          clear bl
          refine wpAnyH_ready (rs := [8]) (by kernel_rfl) (by simp) ?_
          refine AllReadyH.cons rfl (fun K hK => ?_) AllReadyH.nil
          have hst := store_part _ LA 0 (cellsX F1) hA.out.1 (by rw [hA.out.2.1, s6]; exact q4 _) (s8 _)
          rw [hA.out.2.1, q6] at hst
          go_simp
          refine hK.out _ _ (⟨hHeld.1.far LA (cellsX F1) (by omega), hHeld.2.far LA (cellsX F1) (by omega)⟩) (fun hHeld => ?_)
          clear hK K
          try simp only [Act.put, List.setIfInBounds_toArray, List.set_cons_zero, List.set_cons_succ]
          replace hA := hide (hA.out.set (cellsX F1))
          replace hX := hide (hX.out.far LA (cellsX F1) (by omega))
          replace hY := hide (hY.out.far LA (cellsX F1) (by omega))
          replace hC := hide (hC.out.far LA (cellsX F1) (by omega))
          replace hB := hide (below_setRow (g := LA) hB.out (by omega) (cellsX F1))
          clear hst
          refine wpAnyH_ready (rs := [9]) (by kernel_rfl) (by simp) ?_
          refine AllReadyH.cons rfl (fun K hK => ?_) AllReadyH.nil
          have hst := store_part _ LC 0 (cellsX F2) hC.out.1 (by rw [hC.out.2.1, s6]; exact q4 _) (s8 _)
          rw [hC.out.2.1, q6] at hst
          go_simp
          refine hK.out _ _ (⟨hHeld.1.far LC (cellsX F2) (by omega), hHeld.2.far LC (cellsX F2) (by omega)⟩) (fun hHeld => ?_)
          clear hK K
          try simp only [Act.put, List.setIfInBounds_toArray, List.set_cons_zero, List.set_cons_succ]
          replace hC := hide (hC.out.set (cellsX F2))
          replace hX := hide (hX.out.far LC (cellsX F2) (by omega))
          replace hY := hide (hY.out.far LC (cellsX F2) (by omega))
          replace hA := hide (hA.out.far LC (cellsX F2) (by omega))
          replace hB := hide (below_setRow (g := LC) hB.out (by omega) (cellsX F2))
          clear hst
          refine wpAnyH_done (by kernel_rfl) ?_ _
          go_wp2_with fail
          go_meet
          case rel => exact ⟨_, _, rfl, rfl, hide ⟨hA.out, hC.out, hB.out⟩⟩
        refine AllReadyH.cons rfl (fun K hK => ?_) ?_
        · have nAhX := hX.out.2.2
          have nAhY := hY.out.2.2
          go_simp
          refine hK.out _ _ (⟨hHeld.1.on (grow y0 _), hHeld.2.on (grow y0 _)⟩) (fun hHeld => ?_)
          clear hK K
          try simp only [Act.put, List.setIfInBounds_toArray, List.set_cons_zero, List.set_cons_succ]
          have hA := hide (Box.new y0 (cellsX X0) 32)
          replace hX := hide (hX.out.on (grow y0 (.cells (cellsX X0) 32)))
          replace hY := hide (hY.out.on (grow y0 (.cells (cellsX X0) 32)))
          replace hB := hide (onto hB.out (Nat.le_refl _) (grow y0 (.cells (cellsX X0) 32)))
          generalize World.alloc y0 _ = y1 at *
          generalize y0.heap.size = LA at *
          refine wpAnyH_ready (rs := [2, 7]) (by kernel_rfl) (by simp) ?_
          refine AllReadyH.cons rfl (fun K hK => ?_) ?_
          · go_simp
            refine (c1.out _ hB.out).mono ?_
            rintro e y2 ⟨rfl, bl⟩
            replace hX := hide (hX.out.on bl)
            replace hY := hide (hY.out.on bl)
            replace hA := hide (hA.out.on bl)
            replace hB := hide (onto hB.out (Nat.le_refl _) bl)
            go_wp2_with fail
            refine hK.out _ _ (⟨hHeld.1.on bl, hHeld.2.on bl⟩) (fun hHeld => ?_)
            clear hK K
            try simp only [Act.put, List.setIfInBounds_toArray, List.set_cons_zero, List.set_cons_succ]
            clear bl
            refine wpAnyH_ready (rs := [5, 7]) (by kernel_rfl) (by simp) ?_
            refine AllReadyH.cons rfl (fun K hK => ?_) ?_
            · go_simp
              refine (c2.out _ hB.out).mono ?_
              rintro e y3 ⟨rfl, bl⟩
              replace hX := hide (hX.out.on bl)
              replace hY := hide (hY.out.on bl)
              replace hA := hide (hA.out.on bl)
              replace hB := hide (onto hB.out (Nat.le_refl _) bl)
              go_wp2_with fail
              refine hK.out _ _ (⟨hHeld.1.on bl, hHeld.2.on bl⟩) (fun hHeld => ?_)
              clear hK K
              try simp only [Act.put, List.setIfInBounds_toArray, List.set_cons_zero, List.set_cons_succ]
              clear bl
              refine wpAnyH_ready (rs := [7]) (by kernel_rfl) (by simp) ?_
              refine AllReadyH.cons rfl (fun K hK => ?_) AllReadyH.nil
              have nChX := hX.out.2.2
              have nChY := hY.out.2.2
              have nChA := hA.out.2.2
              go_simp
              refine hK.out _ _ (⟨hHeld.1.on (grow y3 _), hHeld.2.on (grow y3 _)⟩) (fun hHeld => ?_)
              clear hK K
              try simp only [Act.put, List.setIfInBounds_toArray, List.set_cons_zero, List.set_cons_succ]
              have hC := hide (Box.new y3 (cellsX X0) 32)
              replace hX := hide (hX.out.on (grow y3 (.cells (cellsX X0) 32)))
              replace hY := hide (hY.out.on (grow y3 (.cells (cellsX X0) 32)))
              replace hA := hide (hA.out.on (grow y3 (.cells (cellsX X0) 32)))
              replace hB := hide (onto hB.out (Nat.le_refl _) (grow y3 (.cells (cellsX X0) 32)))
              generalize World.alloc y3 _ = y4 at *
              generalize y3.heap.size = LC at *
              refine wpAnyH_ready (rs := [8]) (by kernel_rfl) (by simp) ?_
              refine AllReadyH.cons rfl (fun K hK => ?_) AllReadyH.nil
              have hst := store_part _ LA 0 (cellsX F1) hA.out.1 (by rw [hA.out.2.1, s6]; exact q4 _) (s8 _)
              rw [hA.out.2.1, q6] at hst
              go_simp
              refine hK.out _ _ (⟨hHeld.1.far LA (cellsX F1) (by omega), hHeld.2.far LA (cellsX F1) (by omega)⟩) (fun hHeld => ?_)
              clear hK K
              try simp only [Act.put, List.setIfInBounds_toArray, List.set_cons_zero, List.set_cons_succ]
              replace hA := hide (hA.out.set (cellsX F1))
              replace hX := hide (hX.out.far LA (cellsX F1) (by omega))
              replace hY := hide (hY.out.far LA (cellsX F1) (by omega))
              replace hC := hide (hC.out.far LA (cellsX F1) (by omega))
              replace hB := hide (below_setRow (g := LA) hB.out (by omega) (cellsX F1))
              clear hst
              refine wpAnyH_ready (rs := [9]) (by kernel_rfl) (by simp) ?_
              refine AllReadyH.cons rfl (fun K hK => ?_) AllReadyH.nil
              have hst := store_part _ LC 0 (cellsX F2) hC.out.1 (by rw [hC.out.2.1, s6]; exact q4 _) (s8 _)
              rw [hC.out.2.1, q6] at hst
              go_simp
              refine hK.out _ _ (⟨hHeld.1.far LC (cellsX F2) (by omega), hHeld.2.far LC (cellsX F2) (by omega)⟩) (fun hHeld => ?_)
              clear hK K
              try simp only [Act.put, List.setIfInBounds_toArray, List.set_cons_zero, List.set_cons_succ]
              replace hC := hide (hC.out.set (cellsX F2))
              replace hX := hide (hX.out.far LC (cellsX F2) (by omega))
              replace hY := hide (hY.out.far LC (cellsX F2) (by omega))
              replace hA := hide (hA.out.far LC (cellsX F2) (by omega))
              replace hB := hide (below_setRow (g := LC) hB.out (by omega) (cellsX F2))
              clear hst
              refine wpAnyH_done (by kernel_rfl) ?_ _
              go_wp2_with fail
              go_meet
              case rel => exact ⟨_, _, rfl, rfl, hide ⟨hA.out, hC.out, hB.out⟩⟩
            refine AllReadyH.cons rfl (fun K hK => ?_) AllReadyH.nil
            have nChX := hX.out.2.2
            have nChY := hY.out.2.2
            have nChA := hA.out.2.2
            go_simp
            refine hK.out _ _ (⟨hHeld.1.on (grow y2 _), hHeld.2.on (grow y2 _)⟩) (fun hHeld => ?_)
            clear hK K
            try simp only [Act.put, List.setIfInBounds_toArray, List.set_cons_zero, List.set_cons_succ]
            have hC := hide (Box.new y2 (cellsX X0) 32)
            replace hX := hide (hX.out.on (grow y2 (.cells (cellsX X0) 32)))
            replace hY := hide (hY.out.on (grow y2 (.cells (cellsX X0) 32)))
            replace hA := hide (hA.out.on (grow y2 (.cells (cellsX X0) 32)))
            replace hB := hide (onto hB.out (Nat.le_refl _) (grow y2 (.cells (cellsX X0) 32)))
            generalize World.alloc y2 _ = y3 at *
            generalize y2.heap.size = LC at *
            refine wpAnyH_ready (rs := [5]) (by kernel_rfl) (by simp) ?_
            refine AllReadyH.cons rfl (fun K hK => ?_) AllReadyH.nil
            go_simp
            refine (c2.out _ hB.out).mono ?_
            rintro e y4 ⟨rfl, bl⟩
            replace hX := hide (hX.out.on bl)
            replace hY := hide (hY.out.on bl)
            replace hA := hide (hA.out.on bl)
            replace hC := hide (hC.out.on bl)
            replace hB := hide (onto hB.out (Nat.le_refl _) bl)
            go_wp2_with fail
            refine hK.out _ _ (⟨hHeld.1.on bl, hHeld.2.on bl⟩) (fun hHeld => ?_)
            clear hK K
            try simp only [Act.put, List.setIfInBounds_toArray, List.set_cons_zero, List.set_cons_succ]
            clear bl
            refine wpAnyH_ready (rs := [8]) (by kernel_rfl) (by simp) ?_
            refine AllReadyH.cons rfl (fun K hK => ?_) AllReadyH.nil
            have hst := store_part _ LA 0 (cellsX F1) hA.out.1 (by rw [hA.out.2.1, s6]; exact q4 _) (s8 _)
            rw [hA.out.2.1, q6] at hst
            go_simp
            refine hK.out _ _ (⟨hHeld.1.far LA (cellsX F1) (by omega), hHeld.2.far LA (cellsX F1) (by omega)⟩) (fun hHeld => ?_)
            clear hK K
            try simp only [Act.put, List.setIfInBounds_toArray, List.set_cons_zero, List.set_cons_succ]
            replace hA := hide (hA.out.set (cellsX F1))
            replace hX := hide (hX.out.far LA (cellsX F1) (by omega))
            replace hY := hide (hY.out.far LA (cellsX F1) (by omega))
            replace hC := hide (hC.out.far LA (cellsX F1) (by omega))
            replace hB := hide (below_setRow (g := LA) hB.out (by omega) (cellsX F1))
            clear hst
            refine wpAnyH_ready (rs := [9]) (by kernel_rfl) (by simp) ?_
            refine AllReadyH.cons rfl (fun K hK => ?_) AllReadyH.nil
            have hst := store_part _ LC 0 (cellsX F2) hC.out.1 (by rw [hC.out.2.1, s6]; exact q4 _) (s8 _)
            rw [hC.out.2.1, q6] at hst
            go_simp
            refine hK.out _ _ (⟨hHeld.1.far LC (cellsX F2) (by omega), hHeld.2.far LC (cellsX F2) (by omega)⟩) (fun hHeld => ?_)
            clear hK K
            try simp only [Act.put, List.setIfInBounds_toArray, List.set_cons_zero, List.set_cons_succ]
            replace hC := hide (hC.out.set (cellsX F2))
            replace hX := hide (hX.out.far LC (cellsX F2) (by omega))
            replace hY := hide (hY.out.far LC (cellsX F2) (by omega))
            replace hA := hide (hA.out.far LC (cellsX F2) (by omega))
            replace hB := hide (below_setRow (g := LC) hB.out (by omega) (cellsX F2))
            clear hst
            refine wpAnyH_done (by kernel_rfl) ?_ _
            go_wp2_with fail
            go_meet
            case rel => exact ⟨_, _, rfl, rfl, hide ⟨hA.out, hC.out, hB.out⟩⟩
          refine AllReadyH.cons rfl (fun K hK => ?_) AllReadyH.nil
          have nChX := hX.out.2.2
          have nChY := hY.out.2.2
          have nChA := hA.out.2.2
          go_simp
          refine hK.out _ _ (⟨hHeld.1.on (grow y1 _), hHeld.2.on (grow y1 _)⟩) (fun hHeld => ?_)
          clear hK K
          try simp only [Act.put, List.setIfInBounds_toArray, List.set_cons_zero, List.set_cons_succ]
          have hC := hide (Box.new y1 (cellsX X0) 32)
          replace hX := hide (hX.out.on (grow y1 (.cells (cellsX X0) 32)))
          replace hY := hide (hY.out.on (grow y1 (.cells (cellsX X0) 32)))
          replace hA := hide (hA.out.on (grow y1 (.cells (cellsX X0) 32)))
          replace hB := hide (onto hB.out (Nat.le_refl _) (grow y1 (.cells (cellsX X0) 32)))
          generalize World.alloc y1 _ = y2 at *
          generalize y1.heap.size = LC at *
          refine wpAnyH_ready (rs := [2]) (by kernel_rfl) (by simp) ?_
          refine AllReadyH.cons rfl (fun K hK => ?_) AllReadyH.nil
          go_simp
          refine (c1.out _ hB.out).mono ?_
          rintro e y3 ⟨rfl, bl⟩
          replace hX := hide (hX.out.on bl)
          replace hY := hide (hY.out.on bl)
          replace hA := hide (hA.out.on bl)
          replace hC := hide (hC.out.on bl)
          replace hB := hide (onto hB.out (Nat.le_refl _) bl)
          go_wp2_with fail
          refine hK.out _ _ (⟨hHeld.1.on bl, hHeld.2.on bl⟩) (fun hHeld => ?_)
          clear hK K
          try simp only [Act.put, List.setIfInBounds_toArray, List.set_cons_zero, List.set_cons_succ]
          clear bl
          refine wpAnyH_ready (rs := [5]) (by kernel_rfl) (by simp) ?_
          refine AllReadyH.cons rfl (fun K hK => ?_) AllReadyH.nil
          go_simp
          refine (c2.out _ hB.out).mono ?_
          rintro e y4 ⟨rfl, bl⟩
          replace hX := hide (hX.out.on bl)
          replace hY := hide (hY.out.on bl)
          replace hA := hide (hA.out.on bl)
          replace hC := hide (hC.out.on bl)
          replace hB := hide (onto hB.out (Nat.le_refl _) bl)
          go_wp2_with fail
          refine hK.out _ _ (⟨hHeld.1.on bl, hHeld.2.on bl⟩) (fun hHeld => ?_)
          clear hK K
          try simp only [Act.put, List.setIfInBounds_toArray, List.set_cons_zero, List.set_cons_succ]
          clear bl
          refine wpAnyH_ready (rs := [8]) (by kernel_rfl) (by simp) ?_
          refine AllReadyH.cons rfl (fun K hK => ?_) AllReadyH.nil
          have hst := store_part _ LA 0 (cellsX F1) hA.out.1 (by rw [hA.out.2.1, s6]; exact q4 _) (s8 _)
          rw [hA.out.2.1, q6] at hst
          go_simp
          refine hK.out _ _ (⟨hHeld.1.far LA (cellsX F1) (by omega), hHeld.2.far LA (cellsX F1) (by omega)⟩) (fun hHeld => ?_)
          clear hK K
          try simp only [Act.put, List.setIfInBounds_toArray, List.set_cons_zero, List.set_cons_succ]
          replace hA := hide (hA.out.set (cellsX F1))
          replace hX := hide (hX.out.far LA (cellsX F1) (by omega))
          replace hY := hide (hY.out.far LA (cellsX F1) (by omega))
          replace hC := hide (hC.out.far LA (cellsX F1) (by omega))
          replace hB := hide (below_setRow (g := LA) hB.out (by omega) (cellsX F1))
          clear hst
          refine wpAnyH_ready (rs := [9]) (by kernel_rfl) (by simp) ?_
          refine AllReadyH.cons rfl (fun K hK => ?_) AllReadyH.nil
          have hst := store_part _ LC 0 (cellsX F2) hC.out.1 (by rw [hC.out.2.1, s6]; exact q4 _) (s8 _)
          rw [hC.out.2.1, q6] at hst
          go_simp
          refine hK.out _ _ (⟨hHeld.1.far LC (cellsX F2) (by omega), hHeld.2.far LC (cellsX F2) (by omega)⟩) (fun hHeld => ?_)
          clear hK K
          try simp only [Act.put, List.setIfInBounds_toArray, List.set_cons_zero, List.set_cons_succ]
          replace hC := hide (hC.out.set (cellsX F2))
          replace hX := hide (hX.out.far LC (cellsX F2) (by omega))
          replace hY := hide (hY.out.far LC (cellsX F2) (by omega))
          replace hA := hide (hA.out.far LC (cellsX F2) (by omega))
          replace hB := hide (below_setRow (g := LC) hB.out (by omega) (cellsX F2))
          clear hst
          refine wpAnyH_done (by kernel_rfl) ?_ _
          go_wp2_with fail
          go_meet
          case rel => exact ⟨_, _, rfl, rfl, hide ⟨hA.out, hC.out, hB.out⟩⟩
        refine AllReadyH.cons rfl (fun K hK => ?_) AllReadyH.nil
        have nChX := hX.out.2.2
        have nChY := hY.out.2.2
        go_simp
        refine hK.out _ _ (⟨hHeld.1.on (grow y0 _), hHeld.2.on (grow y0 _)⟩) (fun hHeld => ?_)
        clear hK K
        try simp only [Act.put, List.setIfInBounds_toArray, List.set_cons_zero, List.set_cons_succ]
        have hC := hide (Box.new y0 (cellsX X0) 32)
        replace hX := hide (hX.out.on (grow y0 (.cells (cellsX X0) 32)))
        replace hY := hide (hY.out.on (grow y0 (.cells (cellsX X0) 32)))
        replace hB := hide (onto hB.out (Nat.le_refl _) (grow y0 (.cells (cellsX X0) 32)))
        generalize World.alloc y0 _ = y1 at *
        generalize y0.heap.size = LC at *
        refine wpAnyH_ready (rs := [2, 6]) (by kernel_rfl) (by simp) ?_
        refine AllReadyH.cons rfl (fun K hK => ?_) ?_
        · go_simp
          refine (c1.out _ hB.out).mono ?_
          rintro e y2 ⟨rfl, bl⟩
          replace hX := hide (hX.out.on bl)
          replace hY := hide (hY.out.on bl)
          replace hC := hide (hC.out.on bl)
          replace hB := hide (onto hB.out (Nat.le_refl _) bl)
          go_wp2_with fail
          refine hK.out _ _ (⟨hHeld.1.on bl, hHeld.2.on bl⟩) (fun hHeld => ?_)
          clear hK K
          try simp only [Act.put, List.setIfInBounds_toArray, List.set_cons_zero, List.set_cons_succ]
          clear bl
          refine wpAnyH_ready (rs := [5, 6]) (by kernel_rfl) (by simp) ?_
          refine AllReadyH.cons rfl (fun K hK => ?_) ?_
          · go_simp
            refine (c2.out _ hB.out).mono ?_
            rintro e y3 ⟨rfl, bl⟩
            replace hX := hide (hX.out.on bl)
            replace hY := hide (hY.out.on bl)
            replace hC := hide (hC.out.on bl)
            replace hB := hide (onto hB.out (Nat.le_refl _) bl)
            go_wp2_with fail
            refine hK.out _ _ (⟨hHeld.1.on bl, hHeld.2.on bl⟩) (fun hHeld => ?_)
            clear hK K
            try simp only [Act.put, List.setIfInBounds_toArray, List.set_cons_zero, List.set_cons_succ]
            clear bl
            refine wpAnyH_ready (rs := [6]) (by kernel_rfl) (by simp) ?_
            refine AllReadyH.cons rfl (fun K hK => ?_) AllReadyH.nil
            have nAhX := hX.out.2.2
            have nAhY := hY.out.2.2
            have nAhC := hC.out.2.2
            go_simp
            refine hK.out _ _ (⟨hHeld.1.on (grow y3 _), hHeld.2.on (grow y3 _)⟩) (fun hHeld => ?_)
            clear hK K
            try simp only [Act.put, List.setIfInBounds_toArray, List.set_cons_zero, List.set_cons_succ]
            have hA := hide (Box.new y3 (cellsX X0) 32)
            replace hX := hide (hX.out.on (grow y3 (.cells (cellsX X0) 32)))
            replace hY := hide (hY.out.on (grow y3 (.cells (cellsX X0) 32)))
            replace hC := hide (hC.out.on (grow y3 (.cells (cellsX X0) 32)))
            replace hB := hide (onto hB.out (Nat.le_refl _) (grow y3 (.cells (cellsX X0) 32)))
            generalize World.alloc y3 _ = y4 at *
            generalize y3.heap.size = LA at *
            refine wpAnyH_ready (rs := [8]) (by kernel_rfl) (by simp) ?_
            refine AllReadyH.cons rfl (fun K hK => ?_) AllReadyH.nil
            have hst := store_part _ LA 0 (cellsX F1) hA.out.1 (by rw [hA.out.2.1, s6]; exact q4 _) (s8 _)
            rw [hA.out.2.1, q6] at hst
            go_simp
            refine hK.out _ _ (⟨hHeld.1.far LA (cellsX F1) (by omega), hHeld.2.far LA (cellsX F1) (by omega)⟩) (fun hHeld => ?_)
            clear hK K
            try simp only [Act.put, List.setIfInBounds_toArray, List.set_cons_zero, List.set_cons_succ]
            replace hA := hide (hA.out.set (cellsX F1))
            replace hX := hide (hX.out.far LA (cellsX F1) (by omega))
            replace hY := hide (hY.out.far LA (cellsX F1) (by omega))
            replace hC := hide (hC.out.far LA (cellsX F1) (by omega))
            replace hB := hide (below_setRow (g := LA) hB.out (by omega) (cellsX F1))
            clear hst
            refine wpAnyH_ready (rs := [9]) (by kernel_rfl) (by simp) ?_
            refine AllReadyH.cons rfl (fun K hK => ?_) AllReadyH.nil
            have hst := store_part _ LC 0 (cellsX F2) hC.out.1 (by rw [hC.out.2.1, s6]; exact q4 _) (s8 _)
            rw [hC.out.2.1, q6] at hst
            go_simp
            refine hK.out _ _ (⟨hHeld.1.far LC (cellsX F2) (by omega), hHeld.2.far LC (cellsX F2) (by omega)⟩) (fun hHeld => ?_)
            clear hK K
            try simp only [Act.put, List.setIfInBounds_toArray, List.set_cons_zero, List.set_cons_succ]
            replace hC := hide (hC.out.set (cellsX F2))
            replace hX := hide (hX.out.far LC (cellsX F2) (by omega))
            replace hY := hide (hY.out.far LC (cellsX F2) (by omega))
            replace hA := hide (hA.out.far LC (cellsX F2) (by omega))
            replace hB := hide (below_setRow (g := LC) hB.out (by omega) (cellsX F2))
            clear hst
            refine wpAnyH_done (by kernel_rfl) ?_ _
            go_wp2_with fail
            go_meet
            case rel => exact ⟨_, _, rfl, rfl, hide ⟨hA.out, hC.out, hB.out⟩⟩
          refine AllReadyH.cons rfl (fun K hK => ?_) AllReadyH.nil
          have nAhX := hX.out.2.2
          have nAhY := hY.out.2.2
          have nAhC := hC.out.2.2
          go_simp
          refine hK.out _ _ (⟨hHeld.1.on (grow y2 _), hHeld.2.on (grow y2 _)⟩) (fun hHeld => ?_)
          clear hK K
          try simp only [Act.put, List.setIfInBounds_toArray, List.set_cons_zero, List.set_cons_succ]
          have hA := hide (Box.new y2 (cellsX X0) 32)
          replace hX := hide (hX.out.on (grow y2 (.cells (cellsX X0) 32)))
          replace hY := hide (hY.out.on (grow y2 (.cells (cellsX X0) 32)))
          replace hC := hide (hC.out.on (grow y2 (.cells (cellsX X0) 32)))
          replace hB := hide (onto hB.out (Nat.le_refl _) (grow y2 (.cells (cellsX X0) 32)))
          generalize World.alloc y2 _ = y3 at *
          generalize y2.heap.size = LA at *
          refine wpAnyH_ready (rs := [5]) (by kernel_rfl) (by simp) ?_
          refine AllReadyH.cons rfl (fun K hK => ?_) AllReadyH.nil
          go_simp
          refine (c2.out _ hB.out).mono ?_
          rintro e y4 ⟨rfl, bl⟩
          replace hX := hide (hX.out.on bl)
          replace hY := hide (hY.out.on bl)
          replace hA := hide (hA.out.on bl)
          replace hC := hide (hC.out.on bl)
          replace hB := hide (onto hB.out (Nat.le_refl _) bl)
          go_wp2_with fail
          refine hK.out _ _ (⟨hHeld.1.on bl, hHeld.2.on bl⟩) (fun hHeld => ?_)
          clear hK K
          try simp only [Act.put, List.setIfInBounds_toArray, List.set_cons_zero, List.set_cons_succ]
          clear bl
          refine wpAnyH_ready (rs := [8]) (by kernel_rfl) (by simp) ?_
          refine AllReadyH.cons rfl (fun K hK => ?_) AllReadyH.nil
          have hst := store_part _ LA 0 (cellsX F1) hA.out.1 (by rw [hA.out.2.1, s6]; exact q4 _) (s8 _)
          rw [hA.out.2.1, q6] at hst
          go_simp
          refine hK.out _ _ (⟨hHeld.1.far LA (cellsX F1) (by omega), hHeld.2.far LA (cellsX F1) (by omega)⟩) (fun hHeld => ?_)
          clear hK K
          try simp only [Act.put, List.setIfInBounds_toArray, List.set_cons_zero, List.set_cons_succ]
          replace hA := hide (hA.out.set (cellsX F1))
          replace hX := hide (hX.out.far LA (cellsX F1) (by omega))
          replace hY := hide (hY.out.far LA (cellsX F1) (by omega))
          replace hC := hide (hC.out.far LA (cellsX F1) (by omega))
          replace hB := hide (below_setRow (g := LA) hB.out (by omega) (cellsX F1))
          clear hst
          refine wpAnyH_ready (rs := [9]) (by kernel_rfl) (by simp) ?_
          refine AllReadyH.cons rfl (fun K hK => ?_) AllReadyH.nil
          have hst := store_part _ LC 0 (cellsX F2) hC.out.1 (by rw [hC.out.2.1, s6]; exact q4 _) (s8 _)
          rw [hC.out.2.1, q6] at hst
          go_simp
          refine hK.out _ _ (⟨hHeld.1.far LC (cellsX F2) (by omega), hHeld.2.far LC (cellsX F2) (by omega)⟩) (fun hHeld => ?_)
          clear hK K
          try simp only [Act.put, List.setIfInBounds_toArray, List.set_cons_zero, List.set_cons_succ]
          replace hC := hide (hC.out.set (cellsX F2))
          replace hX := hide (hX.out.far LC (cellsX F2) (by omega))
          replace hY := hide (hY.out.far LC (cellsX F2) (by omega))
          replace hA := hide (hA.out.far LC (cellsX F2) (by omega))
          replace hB := hide (below_setRow (g := LC) hB.out (by omega) (cellsX F2))
          clear hst
          refine wpAnyH_done (by kernel_rfl) ?_ _
          go_wp2_with fail
          go_meet
          case rel => exact ⟨_, _, rfl, rfl, hide ⟨hA.out, hC.out, hB.out⟩⟩
        refine AllReadyH.cons rfl (fun K hK => ?_) AllReadyH.nil
        have nAhX := hX.out.2.2
        have nAhY := hY.out.2.2
        have nAhC := hC.out.2.2
        go_simp
        refine hK.out _ _ (⟨hHeld.1.on (grow y1 _), hHeld.2.on (grow y1 _)⟩) (fun hHeld => ?_)
        clear hK K
        try simp only [Act.put, List.setIfInBounds_toArray, List.set_cons_zero, List.set_cons_succ]
        have hA := hide (Box.new y1 (cellsX X0) 32)
        replace hX := hide (hX.out.on (grow y1 (.cells (cellsX X0) 32)))
        replace hY := hide (hY.out.on (grow y1 (.cells (cellsX X0) 32)))
        replace hC := hide (hC.out.on (grow y1 (.cells (cellsX X0) 32)))
        replace hB := hide (onto hB.out (Nat.le_refl _) (grow y1 (.cells (cellsX X0) 32)))
        generalize World.alloc y1 _ = y2 at *
        generalize y1.heap.size = LA at *
        refine wpAnyH_ready (rs := [2]) (by kernel_rfl) (by simp) ?_
        refine AllReadyH.cons rfl (fun K hK => ?_) AllReadyH.nil
        go_simp
        refine (c1.out _ hB.out).mono ?_
        rintro e y3 ⟨rfl, bl⟩
        replace hX := hide (hX.out.on bl)
        replace hY := hide (hY.out.on bl)
        replace hA := hide (hA.out.on bl)
        replace hC := hide (hC.out.on bl)
        replace hB := hide (onto hB.out (Nat.le_refl _) bl)
        go_wp2_with fail
        refine hK.out _ _ (⟨hHeld.1.on bl, hHeld.2.on bl⟩) (fun hHeld => ?_)
        clear hK K
        try simp only [Act.put, List.setIfInBounds_toArray, List.set_cons_zero, List.set_cons_succ]
        clear bl
        refine wpAnyH_ready (rs := [5]) (by kernel_rfl) (by simp) ?_
        refine AllReadyH.cons rfl (fun K hK => ?_) AllReadyH.nil
        go_simp
        refine (c2.out _ hB.out).mono ?_
        rintro e y4 ⟨rfl, bl⟩
        replace hX := hide (hX.out.on bl)
        replace hY := hide (hY.out.on bl)
        replace hA := hide (hA.out.on bl)
        replace hC := hide (hC.out.on bl)
        replace hB := hide (onto hB.out (Nat.le_refl _) bl)
        go_wp2_with fail
        refine hK.out _ _ (⟨hHeld.1.on bl, hHeld.2.on bl⟩) (fun hHeld => ?_)
        clear hK K
        try simp only [Act.put, List.setIfInBounds_toArray, List.set_cons_zero, List.set_cons_succ]
        clear bl
        refine wpAnyH_ready (rs := [8]) (by kernel_rfl) (by simp) ?_
        refine AllReadyH.cons rfl (fun K hK => ?_) AllReadyH.nil
        have hst := store_part _ LA 0 (cellsX F1) hA.out.1 (by rw [hA.out.2.1, s6]; exact q4 _) (s8 _)
        rw [hA.out.2.1, q6] at hst
        go_simp
        refine hK.out _ _ (⟨hHeld.1.far LA (cellsX F1) (by omega), hHeld.2.far LA (cellsX F1) (by omega)⟩) (fun hHeld => ?_)
        clear hK K
        try simp only [Act.put, List.setIfInBounds_toArray, List.set_cons_zero, List.set_cons_succ]
        replace hA := hide (hA.out.set (cellsX F1))
        replace hX := hide (hX.out.far LA (cellsX F1) (by omega))
        replace hY := hide (hY.out.far LA (cellsX F1) (by omega))
        replace hC := hide (hC.out.far LA (cellsX F1) (by omega))
        replace hB := hide (below_setRow (g := LA) hB.out (by omega) (cellsX F1))
        clear hst
        refine wpAnyH_ready (rs := [9]) (by kernel_rfl) (by simp) ?_
        refine AllReadyH.cons rfl (fun K hK => ?_) AllReadyH.nil
        have hst := store_part _ LC 0 (cellsX F2) hC.out.1 (by rw [hC.out.2.1, s6]; exact q4 _) (s8 _)
        rw [hC.out.2.1, q6] at hst
        go_simp
        refine hK.out _ _ (⟨hHeld.1.far LC (cellsX F2) (by omega), hHeld.2.far LC (cellsX F2) (by omega)⟩) (fun hHeld => ?_)
        clear hK K
        try simp only [Act.put, List.setIfInBounds_toArray, List.set_cons_zero, List.set_cons_succ]
        replace hC := hide (hC.out.set (cellsX F2))
        replace hX := hide (hX.out.far LC (cellsX F2) (by omega))
        replace hY := hide (hY.out.far LC (cellsX F2) (by omega))
        replace hA := hide (hA.out.far LC (cellsX F2) (by omega))
        replace hB := hide (below_setRow (g := LC) hB.out (by omega) (cellsX F2))
        clear hst
        refine wpAnyH_done (by kernel_rfl) ?_ _
        go_wp2_with fail
        go_meet
        case rel => exact ⟨_, _, rfl, rfl, hide ⟨hA.out, hC.out, hB.out⟩⟩
      case rest => as_aux_lemma =>
        obtain ⟨LA, LC, rfl, rfl, hH⟩ := hcut
        clear hX hY hB c1 c2
        have hmk : ∀ w : World, (Instr.makeSlice 39 (.int .i64 33) (.int .i64 33)).run Tryd.prog w = .ok (.slice (some ⟨w.heap.size, 0, none⟩) 33 33) (w.alloc (.cells (cellsK KZ) 4)) := fun _ => by kernel_rfl
        have u1 := cellsK_0
        have u2 := cellsK_32
        have u3 : (cellsK KZ)[0]? = some (.bool false) := get_K _ 0 (by omega)
        have u4 : (cellsK K1)[32]? = some (.bool false) := get_K _ 32 (by omega)
        obtain ⟨KN, hKN⟩ : ∃ KN, knV l K0 = KN := ⟨_, rfl⟩
        have hke2 := hke'.out
        rw [hKN] at hke2
        replace hke2 := hide hke2
        replace hKN := hide hKN
        obtain ⟨hA, hC, hB⟩ := hH.out
        have hHK := hide (show HeldK w LA LC wc.heap.size F1 F2 K0 (wc.alloc (.cells (cellsK K0) 4)) from ⟨Box.new _ _ _, hA.on (grow _ _), hC.on (grow _ _), onto hB (Nat.le_refl _) (grow _ _)⟩)
        have l1 : LA < wc.heap.size := hA.2.2
        have l2 : LC < wc.heap.size := hC.2.2
        have l3 : w.heap.size ≤ wc.heap.size := hB.size
        clear hH hke' hA hC hB
        go_wp2_with fail
        generalize wc.heap.size = LK at *
        obtain ⟨ad', n', c', heq, hnl, hmx, hm⟩ := hop.out
        cases heq
        replace hm := hide hm
        replace hnl := hide hnl
        have hmx2 : K ≤ 16 := by omega
        clear hop hmk u1 u2 u3 u4 hmx
        go_loopw [10] (fun i wr => ∃ (k : Nat) (Kf : Nat → Bool), k ≤ K ∧ i = .int .i64 (k : Int) ∧ Hid (knV (l.drop k) Kf = KN) ∧ Hid (HeldK w LA LC LK F1 F2 Kf wr)) (fun i _ => K - (intOf i).toNat)
        case atStart => exact ⟨0, K0, Nat.zero_le _, rfl, hide hKN.out, hHK⟩
        case round =>
          obtain ⟨k, Kf, hk, rfl, hU0, hH⟩ := hrel
          by_cases hlt : k < K
          · have dk : decide ((k : Int) < (K : Int)) = true := by simp; omega
            obtain ⟨m, hm0⟩ : ∃ m, l[k]? = some m := ⟨l[k]'(by have := hnl.out; omega), List.getElem?_eq_getElem _⟩
            obtain ⟨g, o, rfl, hg, hM0⟩ := hm.out k m hm0
            have hld : (loadCellsFrom ⟨g, o + k * N6, none⟩ 0 N6 #[]).run Tryd.prog wr = .ok (cellsM m) wr := (hM0.on hg hH.out.2.2.2).load
            have hsm := sound_is (hsd'.out k m hm0)
            have hU1 := hU0.out
            rw [drop_at hm0] at hU1
            unfold knV at hU1
            replace hU1 := hide hU1
            have hW := hide (hH.out.on (grow wr (.cells (cellsM m) 28)))
            have bx := hide (Box.new wr (cellsM m) 28)
            clear hU0 hm0 hM0
            rcases hsm with ⟨hk0, -⟩ | ⟨hkr, -, hra, hrb, hrd⟩
            · have e0 : (m.k != 0) = false := by simpa using hk0
              have e0' : (m.k == 0) = true := by simpa using hk0
              have hU2 : Hid (knV (l.drop (k + 1)) Kf = KN) := hide (by rw [← hU1.out, knS, if_pos hk0])
              clear hH
              go_wp2
              go_roundw
              case rel => exact ⟨k + 1, Kf, by omega, by go_num, hU2, hW⟩
              case measure => simp [intOf]; omega
            · have e0 : (m.k != 0) = true := by simp; omega
              have e0' : (m.k == 0) = false := by simp; omega
              obtain ⟨an, ha, ha33⟩ : ∃ an : Nat, m.a = (an : Int) ∧ an < 33 := ⟨m.a.toNat, by omega, by omega⟩
              obtain ⟨bn, hbb, hb33⟩ : ∃ bn : Nat, m.b = (bn : Int) ∧ bn < 33 := ⟨m.b.toNat, by omega, by omega⟩
              obtain ⟨dn, hd, hd33⟩ : ∃ dn : Nat, m.d = (dn : Int) ∧ dn < 33 := ⟨m.d.toNat, by omega, by omega⟩
              have hU : ∀ v, knB Kf m = v → Hid (knV (l.drop (k + 1)) (putK Kf dn v) = KN) := fun v hv => hide (by
                rw [← hU1.out]
                unfold knS
                rw [if_neg (by omega), hd, Int.toNat_natCast, ← hv]
                rfl)
              obtain ⟨z0, z1, z2, z3, z4, z5⟩ : _ ∧ _ ∧ _ ∧ _ ∧ _ ∧ _ := bx.out.six'
              rw [hd] at z1
              rw [ha] at z2
              rw [hbb] at z3
              have xa := (hW.out.1.cell an).trans (get_K Kf an ha33)
              have xb := (hW.out.1.cell bn).trans (get_K Kf bn hb33)
              have xd := (hW.out.1.cell dn).trans (get_K Kf dn hd33)
              have fd := hW.out.1.free dn
              have ia : (an : Int) < 33 := by omega
              have ib : (bn : Int) < 33 := by omega
              have id' : (dn : Int) < 33 := by omega
              have hkn : knB Kf m = (decide (m.k = 1) || (Kf an && (decide (m.k = 2) || Kf bn))) := by unfold knB; rw [ha, hbb, Int.toNat_natCast, Int.toNat_natCast]
              replace hU := hide hU
              replace hkn := hide hkn
              replace hU1 := hide hU1
              replace z0 := hide z0
              replace z1 := hide z1
              replace z2 := hide z2
              replace z3 := hide z3
              replace xa := hide xa
              replace xb := hide xb
              replace xd := hide xd
              replace fd := hide fd
              clear z4 z5 hrd hrb hra hkr ha hbb hd hH bx
              go_wp2_with fail
              generalize World.alloc wr _ = W at *
              generalize wr.heap.size = LB at *
              clear hld
              replace z0 := z0.out
              replace z1 := z1.out
              replace z2 := z2.out
              replace z3 := z3.out
              replace xa := xa.out
              replace xb := xb.out
              replace xd := xd.out
              replace fd := fd.out
              by_cases f1 : m.k = 1
              · have f1' : (m.k == 1) = true := by simpa using f1
                have hU3 := hU.out true (by rw [hkn.out]; simp [f1])
                go_region
                go_wp2
                go_roundw
                case rel => exact ⟨k + 1, _, by omega, by go_num, hU3, hide ((hW.out.on (Below.refl _ _).drew).put l1 l2 l3 dn hd33 _)⟩
                case measure => simp [intOf]; omega
              · have f1' : (m.k == 1) = false := by simpa using f1
                generalize hVA : Kf an = VA at *
                cases VA
                · skip
                  have hU3 := hU.out false (by rw [hkn.out]; simp [f1])
                  go_region
                  go_wp2
                  go_roundw
                  case rel => exact ⟨k + 1, _, by omega, by go_num, hU3, hide ((hW.out.on (Below.refl _ _).drew).put l1 l2 l3 dn hd33 _)⟩
                  case measure => simp [intOf]; omega
                · by_cases f2 : m.k = 2
                  · have f2' : (m.k == 2) = true := by simpa using f2
                    have hU3 := hU.out true (by rw [hkn.out]; simp [f1, f2])
                    go_region
                    go_wp2
                    go_roundw
                    case rel => exact ⟨k + 1, _, by omega, by go_num, hU3, hide ((hW.out.on (Below.refl _ _).drew).put l1 l2 l3 dn hd33 _)⟩
                    case measure => simp [intOf]; omega
                  · have f2' : (m.k == 2) = false := by simpa using f2
                    generalize hVB : Kf bn = VB at *
                    have hU3 := hU.out VB (by rw [hkn.out]; simp [f1, f2])
                    go_region
                    go_wp2
                    go_roundw
                    case rel => exact ⟨k + 1, _, by omega, by go_num, hU3, hide ((hW.out.on (Below.refl _ _).drew).put l1 l2 l3 dn hd33 _)⟩
                    case measure => simp [intOf]; omega
          · have dk : decide ((k : Int) < (K : Int)) = false := by simp; omega
            have hF : Kf = KN := by rw [← hU0.out, List.drop_eq_nil_of_le (by have := hnl.out; omega)]; rfl
            subst hF
            clear hU0 hHK
            go_wp2_with fail
            replace hH := hide hH.out
            go_loopw [12] (fun i wr => ∃ k : Nat, k ≤ 32 ∧ i = .int .i64 (k : Int) ∧ Hid (HeldK w LA LC LK F1 F2 Kf wr)) (fun i _ => 32 - (intOf i).toNat)
            case atStart => exact ⟨0, Nat.zero_le _, rfl, hH⟩
            case round =>
              obtain ⟨j, hj, rfl, hH2⟩ := hrel
              clear hH
              by_cases hlt2 : j < 32
              · have dj : decide ((j : Int) < 32) = true := by simp; omega
                have ij : (j : Int) < 33 := by omega
                have ij2 : (j : Int) < 32 := by omega
                have xk := (hH2.out.1.cell j).trans (get_K Kf j (by omega))
                have xa := (hH2.out.2.1.cell j).trans (get_X F1 j hlt2)
                have xc := (hH2.out.2.2.1.cell j).trans (get_X F2 j hlt2)
                have hal := hke2.out.2.2.2 j hlt2
                have hH3 := hide (hH2.out.on (Below.refl _ _).drew)
                generalize Kf j = V at *
                cases V
                · clear hal
                  go_wp2_with fail
                  go_region
                  go_wp2
                  go_roundw
                  case rel => exact ⟨j + 1, by omega, by go_num, hH3⟩
                  case measure => simp [intOf]; omega
                · rw [← hal rfl] at xc
                  clear hal
                  go_wp2_with fail
                  go_region
                  go_wp2
                  go_roundw
                  case rel => exact ⟨j + 1, by omega, by go_num, hH3⟩
                  case measure => simp [intOf]; omega
              · have dj : decide ((j : Int) < 32) = false := by simp; omega
                have xa := (hH2.out.2.1.cell 0).trans (get_X F1 0 (by omega))
                have xc := (hH2.out.2.2.1.cell 0).trans (get_X F2 0 (by omega))
                rw [hke2.out.1] at xa
                rw [hke2.out.2.1] at xc
                have hB3 := hide hH2.out.2.2.2
                clear hH2
                go_wp2_with fail
                refine (cf.out _ hB3.out).mono ?_
                rintro e w9 ⟨rfl, h9⟩
                have hB9 := onto hB3.out (Nat.le_refl _) h9
                clear cf h9
                go_wp2
                go_ret
                exact ⟨rfl, hB9⟩
  · go_enter Tryd.func8, Tryd.ntmps8
    go_wp2_with fail
    refine (c0.out _ g0.out).mono ?_
    rintro e x1 ⟨rfl, h1⟩
    have hX := hide ((b0.out.on h1).on (Below.refl _ _).drew)
    have hY := hide ((b0'.out.on h1).on (Below.refl _ _).drew)
    have hB0 := hide (onto g0.out (Nat.le_refl _) h1)
    have hB := hide hB0.out.drew
    clear b0 b0' g0 h1 c0
    cases B
    · clear hke hsd c1 c2 hX hY
      go_wp2_with fail
      refine (cf.out x1 hB0.out).mono ?_
      rintro e x2 ⟨rfl, h2⟩
      have hB2 := onto hB0.out (Nat.le_refl _) h2
      clear hB0 hB h2
      go_wp2
      go_ret
      exact ⟨rfl, hB2⟩
    · go_wp2_with fail
      have hke' := hide (hke.out (by first | rfl | trivial))
      have hsd' := hide (hsd.out (by first | rfl | trivial))
      clear hke hsd hB0
      go_cut [7, 8] from 9 (fun s7 s8 x => ∃ LA LC, s7 = .pointer (some ⟨LA, 0, none⟩) ∧ s8 = .pointer (some ⟨LC, 0, none⟩) ∧ Hid (Box x LA (cellsX F1) ∧ Box x LC (cellsX F2) ∧ Below w.heap.size w x))
      case first => as_aux_lemma =>
        refine wp_region_held_drew (S := fun y => Box y w.heap.size (cellsX R) ∧ Box y (w.heap.size + 1) (cellsX S)) (by kernel_rfl) ⟨hX.out, hY.out⟩ (fun hHeld => ?_)
        generalize World.drew _ = y0 at *
        refine wpAnyH_take (i := 0) (v := ?_) rfl (by kernel_rfl) (by kernel_rfl) (by kernel_rfl) (fun _ _ _ h => h) (Or.inl ⟨by rfl, ?_⟩) (by assumption) ?_
        rotate_left
        · intro y hSw
          have ld := hSw.1.loads 0 N32 (q4 _) (q5 _); have ld2 := hSw.2.loads 0 N32 (q4 _) (q5 _)
          go_simp
          try with_reducible rfl
        try simp only [Act.put, List.setIfInBounds_toArray, List.set_cons_zero, List.set_cons_succ]
        refine wpAnyH_take (i := 1) (v := ?_) rfl (by kernel_rfl) (by kernel_rfl) (by kernel_rfl) (fun _ _ _ h => h) (Or.inl ⟨by rfl, ?_⟩) (by assumption) ?_
        rotate_left
        · intro y hSw
          have ld := hSw.1.loads 0 N32 (q4 _) (q5 _); have ld2 := hSw.2.loads 0 N32 (q4 _) (q5 _)
          go_simp
          try with_reducible rfl
        try simp only [Act.put, List.setIfInBounds_toArray, List.set_cons_zero, List.set_cons_succ]
        refine wpAnyH_take (i := 3) (v := ?_) rfl (by kernel_rfl) (by kernel_rfl) (by kernel_rfl) (fun _ _ _ h => h) (Or.inl ⟨by rfl, ?_⟩) (by assumption) ?_
        rotate_left
        · intro y hSw
          have ld := hSw.1.loads 0 N32 (q4 _) (q5 _); have ld2 := hSw.2.loads 0 N32 (q4 _) (q5 _)
          go_simp
          try with_reducible rfl
        try simp only [Act.put, List.setIfInBounds_toArray, List.set_cons_zero, List.set_cons_succ]
        refine wpAnyH_take (i := 4) (v := ?_) rfl (by kernel_rfl) (by kernel_rfl) (by kernel_rfl) (fun _ _ _ h => h) (Or.inl ⟨by rfl, ?_⟩) (by assumption) ?_
        rotate_left
        · intro y hSw
          have ld := hSw.1.loads 0 N32 (q4 _) (q5 _); have ld2 := hSw.2.loads 0 N32 (q4 _) (q5 _)
          go_simp
          try with_reducible rfl
        try simp only [Act.put, List.setIfInBounds_toArray, List.set_cons_zero, List.set_cons_succ]
        refine wpAnyH_ready (rs := [2, 6, 7]) (by kernel_rfl) (by simp) ?_
        refine AllReadyH.cons rfl (fun K hK => ?_) ?_
        · go_simp
          refine (c1.out _ hB.out).mono ?_
          rintro e y1 ⟨rfl, bl⟩
          replace hX := hide (hX.out.on bl)
          replace hY := hide (hY.out.on bl)
          replace hB := hide (onto hB.out (Nat.le_refl _) bl)
          go_wp2_with fail
          refine hK.out _ _ (⟨hHeld.1.on bl, hHeld.2.on bl⟩) (fun hHeld => ?_)
          clear hK K
          try simp only [Act.put, List.setIfInBounds_toArray, List.set_cons_zero, List.set_cons_succ]
          clear bl
          refine wpAnyH_ready (rs := [5, 6, 7]) (by kernel_rfl) (by simp) ?_
          refine AllReadyH.cons rfl (fun K hK => ?_) ?_
          · go_simp
            refine (c2.out _ hB.out).mono ?_
            rintro e y2 ⟨rfl, bl⟩
            replace hX := hide (hX.out.on bl)
            replace hY := hide (hY.out.on bl)
            replace hB := hide (onto hB.out (Nat.le_refl _) bl)
            go_wp2_with fail
            refine hK.out _ _ (⟨hHeld.1.on bl, hHeld.2.on bl⟩) (fun hHeld => ?_)
            clear hK K
            try simp only [Act.put, List.setIfInBounds_toArray, List.set_cons_zero, List.set_cons_succ]
            clear bl
            refine wpAnyH_ready (rs := [6, 7]) (by kernel_rfl) (by simp) ?_
            refine AllReadyH.cons rfl (fun K hK => ?_) ?_
            · have nAhX := hX.out.2.2
              have nAhY := hY.out.2.2
              go_simp
              refine hK.out _ _ (⟨hHeld.1.on (grow y2 _), hHeld.2.on (grow y2 _)⟩) (fun hHeld => ?_)
              clear hK K
              try simp only [Act.put, List.setIfInBounds_toArray, List.set_cons_zero, List.set_cons_succ]
              have hA := hide (Box.new y2 (cellsX X0) 32)
              replace hX := hide (hX.out.on (grow y2 (.cells (cellsX X0) 32)))
              replace hY := hide (hY.out.on (grow y2 (.cells (cellsX X0) 32)))
              replace hB := hide (onto hB.out (Nat.le_refl _) (grow y2 (.cells (cellsX X0) 32)))
              generalize World.alloc y2 _ = y3 at *
              generalize y2.heap.size = LA at *
              refine wpAnyH_ready (rs := [7]) (by kernel_rfl) (by simp) ?_
              refine AllReadyH.cons rfl (fun K hK => ?_) AllReadyH.nil
              have nChX := hX.out.2.2
              have nChY := hY.out.2.2
              have nChA := hA.out.2.2
              go_simp
              refine hK.out _ _ (⟨hHeld.1.on (grow y3 _), hHeld.2.on (grow y3 _)⟩) (fun hHeld => ?_)
              clear hK K
              try simp only [Act.put, List.setIfInBounds_toArray, List.set_cons_zero, List.set_cons_succ]
              have hC := hide (Box.new y3 (cellsX X0) 32)
              replace hX := hide (hX.out.on (grow y3 (.cells (cellsX X0) 32)))
              replace hY := hide (hY.out.on (grow y3 (.cells (cellsX X0) 32)))
              replace hA := hide (hA.out.on (grow y3 (.cells (cellsX X0) 32)))
              replace hB := hide (onto hB.out (Nat.le_refl _) (grow y3 (.cells (cellsX X0) 32)))
              generalize World.alloc y3 _ = y4 at *
              generalize y3.heap.size = LC at *
              refine wpAnyH_ready (rs := [8]) (by kernel_rfl) (by simp) ?_
              refine AllReadyH.cons rfl (fun K hK => ?_) AllReadyH.nil
              have hst := store_part _ LA 0 (cellsX F1) hA.out.1 (by rw [hA.out.2.1, s6]; exact q4 _) (s8 _)
              rw [hA.out.2.1, q6] at hst
              go_simp
              refine hK.out _ _ (⟨hHeld.1.far LA (cellsX F1) (by omega), hHeld.2.far LA (cellsX F1) (by omega)⟩) (fun hHeld => ?_)
              clear hK K
              try simp only [Act.put, List.setIfInBounds_toArray, List.set_cons_zero, List.set_cons_succ]
              replace hA := hide (hA.out.set (cellsX F1))
              replace hX := hide (hX.out.far LA (cellsX F1) (by omega))
              replace hY := hide (hY.out.far LA (cellsX F1) (by omega))
              replace hC := hide (hC.out.far LA (cellsX F1) (by omega))
              replace hB := hide (below_setRow (g := LA) hB.out (by omega) (cellsX F1))
              clear hst
              refine wpAnyH_ready (rs := [9]) (by kernel_rfl) (by simp) ?_
              refine AllReadyH.cons rfl (fun K hK => ?_) AllReadyH.nil
              have hst := store_part _ LC 0 (cellsX F2) hC.out.1 (by rw [hC.out.2.1, s6]; exact q4 _) (s8 _)
              rw [hC.out.2.1, q6] at hst
              go_simp
              refine hK.out _ _ (⟨hHeld.1.far LC (cellsX F2) (by omega), hHeld.2.far LC (cellsX F2) (by omega)⟩) (fun hHeld => ?_)
              clear hK K
              try simp only [Act.put, List.setIfInBounds_toArray, List.set_cons_zero, List.set_cons_succ]
              replace hC := hide (hC.out.set (cellsX F2))
              replace hX := hide (hX.out.far LC (cellsX F2) (by omega))
              replace hY := hide (hY.out.far LC (cellsX F2) (by omega))
              replace hA := hide (hA.out.far LC (cellsX F2) (by omega))
              replace hB := hide (below_setRow (g := LC) hB.out (by omega) (cellsX F2))
              clear hst
              refine wpAnyH_done (by kernel_rfl) ?_ _
              go_wp2_with fail
              go_meet
              case rel => exact ⟨_, _, rfl, rfl, hide ⟨hA.out, hC.out, hB.out⟩⟩
            refine AllReadyH.cons rfl (fun K hK => ?_) AllReadyH.nil
            have nChX := hX.out.2.2
            have nChY := hY.out.2.2
            go_simp
            refine hK.out _ _ (⟨hHeld.1.on (grow y2 _), hHeld.2.on (grow y2 _)⟩) (fun hHeld => ?_)
            clear hK K
            try simp only [Act.put, List.setIfInBounds_toArray, List.set_cons_zero, List.set_cons_succ]
            have hC := hide (Box.new y2 (cellsX X0) 32)
            replace hX := hide (hX.out.on (grow y2 (.cells (cellsX X0) 32)))
            replace hY := hide (hY.out.on (grow y2 (.cells (cellsX X0) 32)))
            replace hB := hide (onto hB.out (Nat.le_refl _) (grow y2 (.cells (cellsX X0) 32)))
            generalize World.alloc y2 _ = y3 at *
            generalize y2.heap.size = LC at *
            refine wpAnyH_ready (rs := [6]) (by kernel_rfl) (by simp) ?_
            refine AllReadyH.cons rfl (fun K hK => ?_) AllReadyH.nil
            have nAhX := hX.out.2.2
            have nAhY := hY.out.2.2
            have nAhC := hC.out.2.2
            go_simp
            refine hK.out _ _ (⟨hHeld.1.on (grow y3 _), hHeld.2.on (grow y3 _)⟩) (fun hHeld => ?_)
            clear hK K
            try simp only [Act.put, List.setIfInBounds_toArray, List.set_cons_zero, List.set_cons_succ]
            have hA := hide (Box.new y3 (cellsX X0) 32)
            replace hX := hide (hX.out.on (grow y3 (.cells (cellsX X0) 32)))
            replace hY := hide (hY.out.on (grow y3 (.cells (cellsX X0) 32)))
            replace hC := hide (hC.out.on (grow y3 (.cells (cellsX X0) 32)))
            replace hB := hide (onto hB.out (Nat.le_refl _) (grow y3 (.cells (cellsX X0) 32)))
            generalize World.alloc y3 _ = y4 at *
            generalize y3.heap.size = LA at *
            refine wpAnyH_ready (rs := [8]) (by kernel_rfl) (by simp) ?_
            refine AllReadyH.cons rfl (fun K hK => ?_) AllReadyH.nil
            have hst := store_part _ LA 0 (cellsX F1) hA.out.1 (by rw [hA.out.2.1, s6]; exact q4 _) (s8 _)
            rw [hA.out.2.1, q6] at hst
            go_simp
            refine hK.out _ _ (⟨hHeld.1.far LA (cellsX F1) (by omega), hHeld.2.far LA (cellsX F1) (by omega)⟩) (fun hHeld => ?_)
            clear hK K
            try simp only [Act.put, List.setIfInBounds_toArray, List.set_cons_zero, List.set_cons_succ]
            replace hA := hide (hA.out.set (cellsX F1))
            replace hX := hide (hX.out.far LA (cellsX F1) (by omega))
            replace hY := hide (hY.out.far LA (cellsX F1) (by omega))
            replace hC := hide (hC.out.far LA (cellsX F1) (by omega))
            replace hB := hide (below_setRow (g := LA) hB.out (by omega) (cellsX F1))
            clear hst
            refine wpAnyH_ready (rs := [9]) (by kernel_rfl) (by simp) ?_
            refine AllReadyH.cons rfl (fun K hK => ?_) AllReadyH.nil
            have hst := store_part _ LC 0 (cellsX F2) hC.out.1 (by rw [hC.out.2.1, s6]; exact q4 _) (s8 _)
            rw [hC.out.2.1, q6] at hst
            go_simp
            refine hK.out _ _ (⟨hHeld.1.far LC (cellsX F2) (by omega), hHeld.2.far LC (cellsX F2) (by omega)⟩) (fun hHeld => ?_)
            clear hK K
            try simp only [Act.put, List.setIfInBounds_toArray, List.set_cons_zero, List.set_cons_succ]
            replace hC := hide (hC.out.set (cellsX F2))
            replace hX := hide (hX.out.far LC (cellsX F2) (by omega))
            replace hY := hide (hY.out.far LC (cellsX F2) (by omega))
            replace hA := hide (hA.out.far LC (cellsX F2) (by omega))
            replace hB := hide (below_setRow (g := LC) hB.out (by omega) (cellsX F2))
            clear hst
            refine wpAnyH_done (by kernel_rfl) ?_ _
            go_wp2_with fail
            go_meet
            case rel => exact ⟨_, _, rfl, rfl, hide ⟨hA.out, hC.out, hB.out⟩⟩
          refine AllReadyH.cons rfl (fun K hK => ?_) ?_
          · have nAhX := hX.out.2.2
            have nAhY := hY.out.2.2
            go_simp
            refine hK.out _ _ (⟨hHeld.1.on (grow y1 _), hHeld.2.on (grow y1 _)⟩) (fun hHeld => ?_)
            clear hK K
            try simp only [Act.put, List.setIfInBounds_toArray, List.set_cons_zero, List.set_cons_succ]
            have hA := hide (Box.new y1 (cellsX X0) 32)
            replace hX := hide (hX.out.on (grow y1 (.cells (cellsX X0) 32)))
            replace hY := hide (hY.out.on (grow y1 (.cells (cellsX X0) 32)))
            replace hB := hide (onto hB.out (Nat.le_refl _) (grow y1 (.cells (cellsX X0) 32)))
            generalize World.alloc y1 _ = y2 at *
            generalize y1.heap.size = LA at *
            refine wpAnyH_ready (rs := [5, 7]) (by kernel_rfl) (by simp) ?_
            refine AllReadyH.cons rfl (fun K hK => ?_) ?_
            · go_simp
              refine (c2.out _ hB.out).mono ?_
              rintro e y3 ⟨rfl, bl⟩
              replace hX := hide (hX.out.on bl)
              replace hY := hide (hY.out.on bl)
              replace hA := hide (hA.out.on bl)
              replace hB := hide (onto hB.out (Nat.le_refl _) bl)
              go_wp2_with fail
              refine hK.out _ _ (⟨hHeld.1.on bl, hHeld.2.on bl⟩) (fun hHeld => ?_)
              clear hK K
              try simp only [Act.put, List.setIfInBounds_toArray, List.set_cons_zero, List.set_cons_succ]
              clear bl
              refine wpAnyH_ready (rs := [7]) (by kernel_rfl) (by simp) ?_
              refine AllReadyH.cons rfl (fun K hK => ?_) AllReadyH.nil
              have nChX := hX.out.2.2
              have nChY := hY.out.2.2
              have nChA := hA.out.2.2
              go_simp
              refine hK.out _ _ (⟨hHeld.1.on (grow y3 _), hHeld.2.on (grow y3 _)⟩) (fun hHeld => ?_)
              clear hK K
              try simp only [Act.put, List.setIfInBounds_toArray, List.set_cons_zero, List.set_cons_succ]
              have hC := hide (Box.new y3 (cellsX X0) 32)
              replace hX := hide (hX.out.on (grow y3 (.cells (cellsX X0) 32)))
              replace hY := hide (hY.out.on (grow y3 (.cells (cellsX X0) 32)))
              replace hA := hide (hA.out.on (grow y3 (.cells (cellsX X0) 32)))
              replace hB := hide (onto hB.out (Nat.le_refl _) (grow y3 (.cells (cellsX X0) 32)))
              generalize World.alloc y3 _ = y4 at *
              generalize y3.heap.size = LC at *
              refine wpAnyH_ready (rs := [8]) (by kernel_rfl) (by simp) ?_
              refine AllReadyH.cons rfl (fun K hK => ?_) AllReadyH.nil
              have hst := store_part _ LA 0 (cellsX F1) hA.out.1 (by rw [hA.out.2.1, s6]; exact q4 _) (s8 _)
              rw [hA.out.2.1, q6] at hst
              go_simp
              refine hK.out _ _ (⟨hHeld.1.far LA (cellsX F1) (by omega), hHeld.2.far LA (cellsX F1) (by omega)⟩) (fun hHeld => ?_)
              clear hK K
              try simp only [Act.put, List.setIfInBounds_toArray, List.set_cons_zero, List.set_cons_succ]
              replace hA := hide (hA.out.set (cellsX F1))
              replace hX := hide (hX.out.far LA (cellsX F1) (by omega))
              replace hY := hide (hY.out.far LA (cellsX F1) (by omega))
              replace hC := hide (hC.out.far LA (cellsX F1) (by omega))
              replace hB := hide (below_setRow (g := LA) hB.out (by omega) (cellsX F1))
              clear hst
              refine wpAnyH_ready (rs := [9]) (by kernel_rfl) (by simp) ?_
              refine AllReadyH.cons rfl (fun K hK => ?_) AllReadyH.nil
              have hst := store_part _ LC 0 (cellsX F2) hC.out.1 (by rw [hC.out.2.1, s6]; exact q4 _) (s8 _)
              rw [hC.out.2.1, q6] at hst
              go_simp
              refine hK.out _ _ (⟨hHeld.1.far LC (cellsX F2) (by omega), hHeld.2.far LC (cellsX F2) (by omega)⟩) (fun hHeld => ?_)
              clear hK K
              try simp only [Act.put, List.setIfInBounds_toArray, List.set_cons_zero, List.set_cons_succ]
              replace hC := hide (hC.out.set (cellsX F2))
              replace hX := hide (hX.out.far LC (cellsX F2) (by omega))
              replace hY := hide (hY.out.far LC (cellsX F2) (by omega))
              replace hA := hide (hA.out.far LC (cellsX F2) (by omega))
              replace hB := hide (below_setRow (g := LC) hB.out (by omega) (cellsX F2))
              clear hst
              refine wpAnyH_done (by kernel_rfl) ?_ _
              go_wp2_with fail
              go_meet
              case rel => exact ⟨_, _, rfl, rfl, hide ⟨hA.out, hC.out, hB.out⟩⟩
            refine AllReadyH.cons rfl (fun K hK => ?_) AllReadyH.nil
            have nChX := hX.out.2.2
            have nChY := hY.out.2.2
            have nChA := hA.out.2.2
            go_simp
            refine hK.out _ _ (⟨hHeld.1.on (grow y2 _), hHeld.2.on (grow y2 _)⟩) (fun hHeld => ?_)
            clear hK K
            try simp only [Act.put, List.setIfInBounds_toArray, List.set_cons_zero, List.set_cons_succ]
            have hC := hide (Box.new y2 (cellsX X0) 32)
            replace hX := hide (hX.out.on (grow y2 (.cells (cellsX X0) 32)))
            replace hY := hide (hY.out.on (grow y2 (.cells (cellsX X0) 32)))
            replace hA := hide (hA.out.on (grow y2 (.cells (cellsX X0) 32)))
            replace hB := hide (onto hB.out (Nat.le_refl _) (grow y2 (.cells (cellsX X0) 32)))
            generalize World.alloc y2 _ = y3 at *
            generalize y2.heap.size = LC at *
            refine wpAnyH_ready (rs := [5]) (by kernel_rfl) (by simp) ?_
            refine AllReadyH.cons rfl (fun K hK => ?_) AllReadyH.nil
            go_simp
            refine (c2.out _ hB.out).mono ?_
            rintro e y4 ⟨rfl, bl⟩
            replace hX := hide (hX.out.on bl)
            replace hY := hide (hY.out.on bl)
            replace hA := hide (hA.out.on bl)
            replace hC := hide (hC.out.on bl)
            replace hB := hide (onto hB.out (Nat.le_refl _) bl)
            go_wp2_with fail
            refine hK.out _ _ (⟨hHeld.1.on bl, hHeld.2.on bl⟩) (fun hHeld => ?_)
            clear hK K
            try simp only [Act.put, List.setIfInBounds_toArray, List.set_cons_zero, List.set_cons_succ]
            clear bl
            refine wpAnyH_ready (rs := [8]) (by kernel_rfl) (by simp) ?_
            refine AllReadyH.cons rfl (fun K hK => ?_) AllReadyH.nil
            have hst := store_part _ LA 0 (cellsX F1) hA.out.1 (by rw [hA.out.2.1, s6]; exact q4 _) (s8 _)
            rw [hA.out.2.1, q6] at hst
            go_simp
            refine hK.out _ _ (⟨hHeld.1.far LA (cellsX F1) (by omega), hHeld.2.far LA (cellsX F1) (by omega)⟩) (fun hHeld => ?_)
            clear hK K
            try simp only [Act.put, List.setIfInBounds_toArray, List.set_cons_zero, List.set_cons_succ]
            replace hA := hide (hA.out.set (cellsX F1))
            replace hX := hide (hX.out.far LA (cellsX F1) (by omega))
            replace hY := hide (hY.out.far LA (cellsX F1) (by omega))
            replace hC := hide (hC.out.far LA (cellsX F1) (by omega))
            replace hB := hide (below_setRow (g := LA) hB.out (by omega) (cellsX F1))
            clear hst
            refine wpAnyH_ready (rs := [9]) (by kernel_rfl) (by simp) ?_
            refine AllReadyH.cons rfl (fun K hK => ?_) AllReadyH.nil
            have hst := store_part _ LC 0 (cellsX F2) hC.out.1 (by rw [hC.out.2.1, s6]; exact q4 _) (s8 _)
            rw [hC.out.2.1, q6] at hst
            go_simp
            refine hK.out _ _ (⟨hHeld.1.far LC (cellsX F2) (by omega), hHeld.2.far LC (cellsX F2) (by omega)⟩) (fun hHeld => ?_)
            clear hK K
            try simp only [Act.put, List.setIfInBounds_toArray, List.set_cons_zero, List.set_cons_succ]
            replace hC := hide (hC.out.set (cellsX F2))
            replace hX := hide (hX.out.far LC (cellsX F2) (by omega))
            replace hY := hide (hY.out.far LC (cellsX F2) (by omega))
            replace hA := hide (hA.out.far LC (cellsX F2) (by omega))
            replace hB := hide (below_setRow (g := LC) hB.out (by omega) (cellsX F2))
            clear hst
            refine wpAnyH_done (by kernel_rfl) ?_ _
            go_wp2_with fail
            go_meet
            case rel => exact ⟨_, _, rfl, rfl, hide ⟨hA.out, hC.out, hB.out⟩⟩
          refine AllReadyH.cons rfl (fun K hK => ?_) AllReadyH.nil
          have nChX := hX.out.2.2
          have nChY := hY.out.2.2
          go_simp
          refine hK.out _ _ (⟨hHeld.1.on (grow y1 _), hHeld.2.on (grow y1 _)⟩) (fun hHeld => ?_)
          clear hK K
          try simp only [Act.put, List.setIfInBounds_toArray, List.set_cons_zero, List.set_cons_succ]
          have hC := hide (Box.new y1 (cellsX X0) 32)
          replace hX := hide (hX.out.on (grow y1 (.cells (cellsX X0) 32)))
          replace hY := hide (hY.out.on (grow y1 (.cells (cellsX X0) 32)))
          replace hB := hide (onto hB.out (Nat.le_refl _) (grow y1 (.cells (cellsX X0) 32)))
          generalize World.alloc y1 _ = y2 at *
          generalize y1.heap.size = LC at *
          refine wpAnyH_ready (rs := [5, 6]) (by kernel_rfl) (by simp) ?_
          refine AllReadyH.cons rfl (fun K hK => ?_) ?_
          · go_simp
            refine (c2.out _ hB.out).mono ?_
            rintro e y3 ⟨rfl, bl⟩
            replace hX := hide (hX.out.on bl)
            replace hY := hide (hY.out.on bl)
            replace hC := hide (hC.out.on bl)
            replace hB := hide (onto hB.out (Nat.le_refl _) bl)
            go_wp2_with fail
            refine hK.out _ _ (⟨hHeld.1.on bl, hHeld.2.on bl⟩) (fun hHeld => ?_)
            clear hK K
            try simp only [Act.put, List.setIfInBounds_toArray, List.set_cons_zero, List.set_cons_succ]
            clear bl
            refine wpAnyH_ready (rs := [6]) (by kernel_rfl) (by simp) ?_
            refine AllReadyH.cons rfl (fun K hK => ?_) AllReadyH.nil
            have nAhX := hX.out.2.2
            have nAhY := hY.out.2.2
            have nAhC := hC.out.2.2
            go_simp
            refine hK.out _ _ (⟨hHeld.1.on (grow y3 _), hHeld.2.on (grow y3 _)⟩) (fun hHeld => ?_)
            clear hK K
            try simp only [Act.put, List.setIfInBounds_toArray, List.set_cons_zero, List.set_cons_succ]
            have hA := hide (Box.new y3 (cellsX X0) 32)
            replace hX := hide (hX.out.on (grow y3 (.cells (cellsX X0) 32)))
            replace hY := hide (hY.out.on (grow y3 (.cells (cellsX X0) 32)))
            replace hC := hide (hC.out.on (grow y3 (.cells (cellsX X0) 32)))
            replace hB := hide (onto hB.out (Nat.le_refl _) (grow y3 (.cells (cellsX X0) 32)))
            generalize World.alloc y3 _ = y4 at *
            generalize y3.heap.size = LA at *
            refine wpAnyH_ready (rs := [8]) (by kernel_rfl) (by simp) ?_
            refine AllReadyH.cons rfl (fun K hK => ?_) AllReadyH.nil
            have hst := store_part _ LA 0 (cellsX F1) hA.out.1 (by rw [hA.out.2.1, s6]; exact q4 _) (s8 _)
            rw [hA.out.2.1, q6] at hst
            go_simp
            refine hK.out _ _ (⟨hHeld.1.far LA (cellsX F1) (by omega), hHeld.2.far LA (cellsX F1) (by omega)⟩) (fun hHeld => ?_)
            clear hK K
            try simp only [Act.put, List.setIfInBounds_toArray, List.set_cons_zero, List.set_cons_succ]
            replace hA := hide (hA.out.set (cellsX F1))
            replace hX := hide (hX.out.far LA (cellsX F1) (by omega))
            replace hY := hide (hY.out.far LA (cellsX F1) (by omega))
            replace hC := hide (hC.out.far LA (cellsX F1) (by omega))
            replace hB := hide (below_setRow (g := LA) hB.out (by omega) (cellsX F1))
            clear hst
            refine wpAnyH_ready (rs := [9]) (by kernel_rfl) (by simp) ?_
            refine AllReadyH.cons rfl (fun K hK => ?_) AllReadyH.nil
            have hst := store_part _ LC 0 (cellsX F2) hC.out.1 (by rw [hC.out.2.1, s6]; exact q4 _) (s8 _)
            rw [hC.out.2.1, q6] at hst
            go_simp
            refine hK.out _ _ (⟨hHeld.1.far LC (cellsX F2) (by omega), hHeld.2.far LC (cellsX F2) (by omega)⟩) (fun hHeld => ?_)
            clear hK K
            try simp only [Act.put, List.setIfInBounds_toArray, List.set_cons_zero, List.set_cons_succ]
            replace hC := hide (hC.out.set (cellsX F2))
            replace hX := hide (hX.out.far LC (cellsX F2) (by omega))
            replace hY := hide (hY.out.far LC (cellsX F2) (by omega))
            replace hA := hide (hA.out.far LC (cellsX F2) (by omega))
            replace hB := hide (below_setRow (g := LC) hB.out (by omega) (cellsX F2))
            clear hst
            refine wpAnyH_done (by kernel_rfl) ?_ _
            go_wp2_with fail
            go_meet
            case rel => exact ⟨_, _, rfl, rfl, hide ⟨hA.out, hC.out, hB.out⟩⟩
          refine AllReadyH.cons rfl (fun K hK => ?_) AllReadyH.nil
          have nAhX := hX.out.2.2
          have nAhY := hY.out.2.2
          have nAhC := hC.out.2.2
          go_simp
          refine hK.out _ _ (⟨hHeld.1.on (grow y2 _), hHeld.2.on (grow y2 _)⟩) (fun hHeld => ?_)
          clear hK K
          try simp only [Act.put, List.setIfInBounds_toArray, List.set_cons_zero, List.set_cons_succ]
          have hA := hide (Box.new y2 (cellsX X0) 32)
          replace hX := hide (hX.out.on (grow y2 (.cells (cellsX X0) 32)))
          replace hY := hide (hY.out.on (grow y2 (.cells (cellsX X0) 32)))
          replace hC := hide (hC.out.on (grow y2 (.cells (cellsX X0) 32)))
          replace hB := hide (onto hB.out (Nat.le_refl _) (grow y2 (.cells (cellsX X0) 32)))
          generalize World.alloc y2 _ = y3 at *
          generalize y2.heap.size = LA at *
          refine wpAnyH_ready (rs := [5]) (by kernel_rfl) (by simp) ?_
          refine AllReadyH.cons rfl (fun K hK => ?_) AllReadyH.nil
          go_simp
          refine (c2.out _ hB.out).mono ?_
          rintro e y4 ⟨rfl, bl⟩
          replace hX := hide (hX.out.on bl)
          replace hY := hide (hY.out.on bl)
          replace hA := hide (hA.out.on bl)
          replace hC := hide (hC.out.on bl)
          replace hB := hide (onto hB.out (Nat.le_refl _) bl)
          go_wp2_with fail
          refine hK.out _ _ (⟨hHeld.1.on bl, hHeld.2.on bl⟩) (fun hHeld => ?_)
          clear hK K
          try simp only [Act.put, List.setIfInBounds_toArray, List.set_cons_zero, List.set_cons_succ]
          clear bl
          refine wpAnyH_ready (rs := [8]) (by kernel_rfl) (by simp) ?_
          refine AllReadyH.cons rfl (fun K hK => ?_) AllReadyH.nil
          have hst := store_part _ LA 0 (cellsX F1) hA.out.1 (by rw [hA.out.2.1, s6]; exact q4 _) (s8 _)
          rw [hA.out.2.1, q6] at hst
          go_simp
          refine hK.out _ _ (⟨hHeld.1.far LA (cellsX F1) (by omega), hHeld.2.far LA (cellsX F1) (by omega)⟩) (fun hHeld => ?_)
          clear hK K
          try simp only [Act.put, List.setIfInBounds_toArray, List.set_cons_zero, List.set_cons_succ]
          replace hA := hide (hA.out.set (cellsX F1))
          replace hX := hide (hX.out.far LA (cellsX F1) (by omega))
          replace hY := hide (hY.out.far LA (cellsX F1) (by omega))
          replace hC := hide (hC.out.far LA (cellsX F1) (by omega))
          replace hB := hide (below_setRow (g := LA) hB.out (by omega) (cellsX F1))
          clear hst
          refine wpAnyH_ready (rs := [9]) (by kernel_rfl) (by simp) ?_
          refine AllReadyH.cons rfl (fun K hK => ?_) AllReadyH.nil
          have hst := store_part _ LC 0 (cellsX F2) hC.out.1 (by rw [hC.out.2.1, s6]; exact q4 _) (s8 _)
          rw [hC.out.2.1, q6] at hst
          go_simp
          refine hK.out _ _ (⟨hHeld.1.far LC (cellsX F2) (by omega), hHeld.2.far LC (cellsX F2) (by omega)⟩) (fun hHeld => ?_)
          clear hK K
          try simp only [Act.put, List.setIfInBounds_toArray, List.set_cons_zero, List.set_cons_succ]
          replace hC := hide (hC.out.set (cellsX F2))
          replace hX := hide (hX.out.far LC (cellsX F2) (by omega))
          replace hY := hide (hY.out.far LC (cellsX F2) (by omega))
          replace hA := hide (hA.out.far LC (cellsX F2) (by omega))
          replace hB := hide (below_setRow (g := LC) hB.out (by omega) (cellsX F2))
          clear hst
          refine wpAnyH_done (by kernel_rfl) ?_ _
          go_wp2_with fail
          go_meet
          case rel => exact ⟨_, _, rfl, rfl, hide ⟨hA.out, hC.out, hB.out⟩⟩
        refine AllReadyH.cons rfl (fun K hK => ?_) ?_
        · have nAhX := hX.out.2.2
          have nAhY := hY.out.2.2
          go_simp
          refine hK.out _ _ (⟨hHeld.1.on (grow y0 _), hHeld.2.on (grow y0 _)⟩) (fun hHeld => ?_)
          clear hK K
          try simp only [Act.put, List.setIfInBounds_toArray, List.set_cons_zero, List.set_cons_succ]
          have hA := hide (Box.new y0 (cellsX X0) 32)
          replace hX := hide (hX.out.on (grow y0 (.cells (cellsX X0) 32)))
          replace hY := hide (hY.out.on (grow y0 (.cells (cellsX X0) 32)))
          replace hB := hide (onto hB.out (Nat.le_refl _) (grow y0 (.cells (cellsX X0) 32)))
          generalize World.alloc y0 _ = y1 at *
          generalize y0.heap.size = LA at *
          refine wpAnyH_ready (rs := [2, 7]) (by kernel_rfl) (by simp) ?_
          refine AllReadyH.cons rfl (fun K hK => ?_) ?_
          · go_simp
            refine (c1.out _ hB.out).mono ?_
            rintro e y2 ⟨rfl, bl⟩
            replace hX := hide (hX.out.on bl)
            replace hY := hide (hY.out.on bl)
            replace hA := hide (hA.out.on bl)
            replace hB := hide (onto hB.out (Nat.le_refl _) bl)
            go_wp2_with fail
            refine hK.out _ _ (⟨hHeld.1.on bl, hHeld.2.on bl⟩) (fun hHeld => ?_)
            clear hK K
            try simp only [Act.put, List.setIfInBounds_toArray, List.set_cons_zero, List.set_cons_succ]
            clear bl
            refine wpAnyH_ready (rs := [5, 7]) (by kernel_rfl) (by simp) ?_
            refine AllReadyH.cons rfl (fun K hK => ?_) ?_
            · go_simp
              refine (c2.out _ hB.out).mono ?_
              rintro e y3 ⟨rfl, bl⟩
              replace hX := hide (hX.out.on bl)
              replace hY := hide (hY.out.on bl)
              replace hA := hide (hA.out.on bl)
              replace hB := hide (onto hB.out (Nat.le_refl _) bl)
              go_wp2_with fail
              refine hK.out _ _ (⟨hHeld.1.on bl, hHeld.2.on bl⟩) (fun hHeld => ?_)
              clear hK K
              try simp only [Act.put, List.setIfInBounds_toArray, List.set_cons_zero, List.set_cons_succ]
              clear bl
              refine wpAnyH_ready (rs := [7]) (by kernel_rfl) (by simp) ?_
              refine AllReadyH.cons rfl (fun K hK => ?_) AllReadyH.nil
              have nChX := hX.out.2.2
              have nChY := hY.out.2.2
              have nChA := hA.out.2.2
              go_simp
              refine hK.out _ _ (⟨hHeld.1.on (grow y3 _), hHeld.2.on (grow y3 _)⟩) (fun hHeld => ?_)
              clear hK K
              try simp only [Act.put, List.setIfInBounds_toArray, List.set_cons_zero, List.set_cons_succ]
              have hC := hide (Box.new y3 (cellsX X0) 32)
              replace hX := hide (hX.out.on (grow y3 (.cells (cellsX X0) 32)))
              replace hY := hide (hY.out.on (grow y3 (.cells (cellsX X0) 32)))
              replace hA := hide (hA.out.on (grow y3 (.cells (cellsX X0) 32)))
              replace hB := hide (onto hB.out (Nat.le_refl _) (grow y3 (.cells (cellsX X0) 32)))
              generalize World.alloc y3 _ = y4 at *
              generalize y3.heap.size = LC at *
              refine wpAnyH_ready (rs := [8]) (by kernel_rfl) (by simp) ?_
              refine AllReadyH.cons rfl (fun K hK => ?_) AllReadyH.nil
              have hst := store_part _ LA 0 (cellsX F1) hA.out.1 (by rw [hA.out.2.1, s6]; exact q4 _) (s8 _)
              rw [hA.out.2.1, q6] at hst
              go_simp
              refine hK.out _ _ (⟨hHeld.1.far LA (cellsX F1) (by omega), hHeld.2.far LA (cellsX F1) (by omega)⟩) (fun hHeld => ?_)
              clear hK K
              try simp only [Act.put, List.setIfInBounds_toArray, List.set_cons_zero, List.set_cons_succ]
              replace hA := hide (hA.out.set (cellsX F1))
              replace hX := hide (hX.out.far LA (cellsX F1) (by omega))
              replace hY := hide (hY.out.far LA (cellsX F1) (by omega))
              replace hC := hide (hC.out.far LA (cellsX F1) (by omega))
              replace hB := hide (below_setRow (g := LA) hB.out (by omega) (cellsX F1))
              clear hst
              refine wpAnyH_ready (rs := [9]) (by kernel_rfl) (by simp) ?_
              refine AllReadyH.cons rfl (fun K hK => ?_) AllReadyH.nil
              have hst := store_part _ LC 0 (cellsX F2) hC.out.1 (by rw [hC.out.2.1, s6]; exact q4 _) (s8 _)
              rw [hC.out.2.1, q6] at hst
              go_simp
              refine hK.out _ _ (⟨hHeld.1.far LC (cellsX F2) (by omega), hHeld.2.far LC (cellsX F2) (by omega)⟩) (fun hHeld => ?_)
              clear hK K
              try simp only [Act.put, List.setIfInBounds_toArray, List.set_cons_zero, List.set_cons_succ]
              replace hC := hide (hC.out.set (cellsX F2))
              replace hX := hide (hX.out.far LC (cellsX F2) (by omega))
              replace hY := hide (hY.out.far LC (cellsX F2) (by omega))
              replace hA := hide (hA.out.far LC (cellsX F2) (by omega))
              replace hB := hide (below_setRow (g := LC) hB.out (by omega) (cellsX F2))
              clear hst
              refine wpAnyH_done (by kernel_rfl) ?_ _
              go_wp2_with fail
              go_meet
              case rel => exact ⟨_, _, rfl, rfl, hide ⟨hA.out, hC.out, hB.out⟩⟩
            refine AllReadyH.cons rfl (fun K hK => ?_) AllReadyH.nil
            have nChX := hX.out.2.2
            have nChY := hY.out.2.2
            have nChA := hA.out.2.2
            go_simp
            refine hK.out _ _ (⟨hHeld.1.on (grow y2 _), hHeld.2.on (grow y2 _)⟩) (fun hHeld => ?_)
            clear hK K
            try simp only [Act.put, List.setIfInBounds_toArray, List.set_cons_zero, List.set_cons_succ]
            have hC := hide (Box.new y2 (cellsX X0) 32)
            replace hX := hide (hX.out.on (grow y2 (.cells (cellsX X0) 32)))
            replace hY := hide (hY.out.on (grow y2 (.cells (cellsX X0) 32)))
            replace hA := hide (hA.out.on (grow y2 (.cells (cellsX X0) 32)))
            replace hB := hide (onto hB.out (Nat.le_refl _) (grow y2 (.cells (cellsX X0) 32)))
            generalize World.alloc y2 _ = y3 at *
            generalize y2.heap.size = LC at *
            refine wpAnyH_ready (rs := [5]) (by kernel_rfl) (by simp) ?_
            refine AllReadyH.cons rfl (fun K hK => ?_) AllReadyH.nil
            go_simp
            refine (c2.out _ hB.out).mono ?_
            rintro e y4 ⟨rfl, bl⟩
            replace hX := hide (hX.out.on bl)
            replace hY := hide (hY.out.on bl)
            replace hA := hide (hA.out.on bl)
            replace hC := hide (hC.out.on bl)
            replace hB := hide (onto hB.out (Nat.le_refl _) bl)
            go_wp2_with fail
            refine hK.out _ _ (⟨hHeld.1.on bl, hHeld.2.on bl⟩) (fun hHeld => ?_)
            clear hK K
            try simp only [Act.put, List.setIfInBounds_toArray, List.set_cons_zero, List.set_cons_succ]
            clear bl
            refine wpAnyH_ready (rs := [8]) (by kernel_rfl) (by simp) ?_
            refine AllReadyH.cons rfl (fun K hK => ?_) AllReadyH.nil
            have hst := store_part _ LA 0 (cellsX F1) hA.out.1 (by rw [hA.out.2.1, s6]; exact q4 _) (s8 _)
            rw [hA.out.2.1, q6] at hst
            go_simp
            refine hK.out _ _ (⟨hHeld.1.far LA (cellsX F1) (by omega), hHeld.2.far LA (cellsX F1) (by omega)⟩) (fun hHeld => ?_)
            clear hK K
            try simp only [Act.put, List.setIfInBounds_toArray, List.set_cons_zero, List.set_cons_succ]
            replace hA := hide (hA.out.set (cellsX F1))
            replace hX := hide (hX.out.far LA (cellsX F1) (by omega))
            replace hY := hide (hY.out.far LA (cellsX F1) (by omega))
            replace hC := hide (hC.out.far LA (cellsX F1) (by omega))
            replace hB := hide (below_setRow (g := LA) hB.out (by omega) (cellsX F1))
            clear hst
            refine wpAnyH_ready (rs := [9]) (by kernel_rfl) (by simp) ?_
            refine AllReadyH.cons rfl (fun K hK => ?_) AllReadyH.nil
            have hst := store_part _ LC 0 (cellsX F2) hC.out.1 (by rw [hC.out.2.1, s6]; exact q4 _) (s8 _)
            rw [hC.out.2.1, q6] at hst
            go_simp
            refine hK.out _ _ (⟨hHeld.1.far LC (cellsX F2) (by omega), hHeld.2.far LC (cellsX F2) (by omega)⟩) (fun hHeld => ?_)
            clear hK K
            try simp only [Act.put, List.setIfInBounds_toArray, List.set_cons_zero, List.set_cons_succ]
            replace hC := hide (hC.out.set (cellsX F2))
            replace hX := hide (hX.out.far LC (cellsX F2) (by omega))
            replace hY := hide (hY.out.far LC (cellsX F2) (by omega))
            replace hA := hide (hA.out.far LC (cellsX F2) (by omega))
            replace hB := hide (below_setRow (g := LC) hB.out (by omega) (cellsX F2))
            clear hst
            refine wpAnyH_done (by kernel_rfl) ?_ _
            go_wp2_with fail
            go_meet
            case rel => exact ⟨_, _, rfl, rfl, hide ⟨hA.out, hC.out, hB.out⟩⟩
          refine AllReadyH.cons rfl (fun K hK => ?_) AllReadyH.nil
          have nChX := hX.out.2.2
          have nChY := hY.out.2.2
          have nChA := hA.out.2.2
          go_simp
          refine hK.out _ _ (⟨hHeld.1.on (grow y1 _), hHeld.2.on (grow y1 _)⟩) (fun hHeld => ?_)
          clear hK K
          try simp only [Act.put, List.setIfInBounds_toArray, List.set_cons_zero, List.set_cons_succ]
          have hC := hide (Box.new y1 (cellsX X0) 32)
          replace hX := hide (hX.out.on (grow y1 (.cells (cellsX X0) 32)))
          replace hY := hide (hY.out.on (grow y1 (.cells (cellsX X0) 32)))
          replace hA := hide (hA.out.on (grow y1 (.cells (cellsX X0) 32)))
          replace hB := hide (onto hB.out (Nat.le_refl _) (grow y1 (.cells (cellsX X0) 32)))
          generalize World.alloc y1 _ = y2 at *
          generalize y1.heap.size = LC at *
          refine wpAnyH_ready (rs := [2]) (by kernel_rfl) (by simp) ?_
          refine AllReadyH.cons rfl (fun K hK => ?_) AllReadyH.nil
          go_simp
          refine (c1.out _ hB.out).mono ?_
          rintro e y3 ⟨rfl, bl⟩
          replace hX := hide (hX.out.on bl)
          replace hY := hide (hY.out.on bl)
          replace hA := hide (hA.out.on bl)
          replace hC := hide (hC.out.on bl)
          replace hB := hide (onto hB.out (Nat.le_refl _) bl)
          go_wp2_with fail
          refine hK.out _ _ (⟨hHeld.1.on bl, hHeld.2.on bl⟩) (fun hHeld => ?_)
          clear hK K
          try simp only [Act.put, List.setIfInBounds_toArray, List.set_cons_zero, List.set_cons_succ]
          clear bl
          refine wpAnyH_ready (rs := [5]) (by kernel_rfl) (by simp) ?_
          refine AllReadyH.cons rfl (fun K hK => ?_) AllReadyH.nil
          go_simp
          refine (c2.out _ hB.out).mono ?_
          rintro e y4 ⟨rfl, bl⟩
          replace hX := hide (hX.out.on bl)
          replace hY := hide (hY.out.on bl)
          replace hA := hide (hA.out.on bl)
          replace hC := hide (hC.out.on bl)
          replace hB := hide (onto hB.out (Nat.le_refl _) bl)
          go_wp2_with fail
          refine hK.out _ _ (⟨hHeld.1.on bl, hHeld.2.on bl⟩) (fun hHeld => ?_)
          clear hK K
          try simp only [Act.put, List.setIfInBounds_toArray, List.set_cons_zero, List.set_cons_succ]
          clear bl
          refine wpAnyH_ready (rs := [8]) (by kernel_rfl) (by simp) ?_
          refine AllReadyH.cons rfl (fun K hK => ?_) AllReadyH.nil
          have hst := store_part _ LA 0 (cellsX F1) hA.out.1 (by rw [hA.out.2.1, s6]; exact q4 _) (s8 _)
          rw [hA.out.2.1, q6] at hst
          go_simp
          refine hK.out _ _ (⟨hHeld.1.far LA (cellsX F1) (by omega), hHeld.2.far LA (cellsX F1) (by omega)⟩) (fun hHeld => ?_)
          clear hK K
          try simp only [Act.put, List.setIfInBounds_toArray, List.set_cons_zero, List.set_cons_succ]
          replace hA := hide (hA.out.set (cellsX F1))
          replace hX := hide (hX.out.far LA (cellsX F1) (by omega))
          replace hY := hide (hY.out.far LA (cellsX F1) (by omega))
          replace hC := hide (hC.out.far LA (cellsX F1) (by omega))
          replace hB := hide (below_setRow (g := LA) hB.out (by omega) (cellsX F1))
          clear hst
          refine wpAnyH_ready (rs := [9]) (by kernel_rfl) (by simp) ?_
          refine AllReadyH.cons rfl (fun K hK => ?_) AllReadyH.nil
          have hst := store_part _ LC 0 (cellsX F2) hC.out.1 (by rw [hC.out.2.1, s6]; exact q4 _) (s8 _)
          rw [hC.out.2.1, q6] at hst
          go_simp
          refine hK.out _ _ (⟨hHeld.1.far LC (cellsX F2) (by omega), hHeld.2.far LC (cellsX F2) (by omega)⟩) (fun hHeld => ?_)
          clear hK K
          try simp only [Act.put, List.setIfInBounds_toArray, List.set_cons_zero, List.set_cons_succ]
          replace hC := hide (hC.out.set (cellsX F2))
          replace hX := hide (hX.out.far LC (cellsX F2) (by omega))
          replace hY := hide (hY.out.far LC (cellsX F2) (by omega))
          replace hA := hide (hA.out.far LC (cellsX F2) (by omega))
          replace hB := hide (below_setRow (g := LC) hB.out (by omega) (cellsX F2))
          clear hst
          refine wpAnyH_done (by kernel_rfl) ?_ _
          go_wp2_with fail
          go_meet
          case rel => exact ⟨_, _, rfl, rfl, hide ⟨hA.out, hC.out, hB.out⟩⟩
        refine AllReadyH.cons rfl (fun K hK => ?_) AllReadyH.nil
        have nChX := hX.out.2.2
        have nChY := hY.out.2.2
        go_simp
        refine hK.out _ _ (⟨hHeld.1.on (grow y0 _), hHeld.2.on (grow y0 _)⟩) (fun hHeld => ?_)
        clear hK K
        try simp only [Act.put, List.setIfInBounds_toArray, List.set_cons_zero, List.set_cons_succ]
        have hC := hide (Box.new y0 (cellsX X0) 32)
        replace hX := hide (hX.out.on (grow y0 (.cells (cellsX X0) 32)))
        replace hY := hide (hY.out.on (grow y0 (.cells (cellsX X0) 32)))
        replace hB := hide (onto hB.out (Nat.le_refl _) (grow y0 (.cells (cellsX X0) 32)))
        generalize World.alloc y0 _ = y1 at *
        generalize y0.heap.size = LC at *
        refine wpAnyH_ready (rs := [2, 6]) (by kernel_rfl) (by simp) ?_
        refine AllReadyH.cons rfl (fun K hK => ?_) ?_
        · go_simp
          refine (c1.out _ hB.out).mono ?_
          rintro e y2 ⟨rfl, bl⟩
          replace hX := hide (hX.out.on bl)
          replace hY := hide (hY.out.on bl)
          replace hC := hide (hC.out.on bl)
          replace hB := hide (onto hB.out (Nat.le_refl _) bl)
          go_wp2_with fail
          refine hK.out _ _ (⟨hHeld.1.on bl, hHeld.2.on bl⟩) (fun hHeld => ?_)
          clear hK K
          try simp only [Act.put, List.setIfInBounds_toArray, List.set_cons_zero, List.set_cons_succ]
          clear bl
          refine wpAnyH_ready (rs := [5, 6]) (by kernel_rfl) (by simp) ?_
          refine AllReadyH.cons rfl (fun K hK => ?_) ?_
          · go_simp
            refine (c2.out _ hB.out).mono ?_
            rintro e y3 ⟨rfl, bl⟩
            replace hX := hide (hX.out.on bl)
            replace hY := hide (hY.out.on bl)
            replace hC := hide (hC.out.on bl)
            replace hB := hide (onto hB.out (Nat.le_refl _) bl)
            go_wp2_with fail
            refine hK.out _ _ (⟨hHeld.1.on bl, hHeld.2.on bl⟩) (fun hHeld => ?_)
            clear hK K
            try simp only [Act.put, List.setIfInBounds_toArray, List.set_cons_zero, List.set_cons_succ]
            clear bl
            refine wpAnyH_ready (rs := [6]) (by kernel_rfl) (by simp) ?_
            refine AllReadyH.cons rfl (fun K hK => ?_) AllReadyH.nil
            have nAhX := hX.out.2.2
            have nAhY := hY.out.2.2
            have nAhC := hC.out.2.2
            go_simp
            refine hK.out _ _ (⟨hHeld.1.on (grow y3 _), hHeld.2.on (grow y3 _)⟩) (fun hHeld => ?_)
            clear hK K
            try simp only [Act.put, List.setIfInBounds_toArray, List.set_cons_zero, List.set_cons_succ]
            have hA := hide (Box.new y3 (cellsX X0) 32)
            replace hX := hide (hX.out.on (grow y3 (.cells (cellsX X0) 32)))
            replace hY := hide (hY.out.on (grow y3 (.cells (cellsX X0) 32)))
            replace hC := hide (hC.out.on (grow y3 (.cells (cellsX X0) 32)))
            replace hB := hide (onto hB.out (Nat.le_refl _) (grow y3 (.cells (cellsX X0) 32)))
            generalize World.alloc y3 _ = y4 at *
            generalize y3.heap.size = LA at *
            refine wpAnyH_ready (rs := [8]) (by kernel_rfl) (by simp) ?_
            refine AllReadyH.cons rfl (fun K hK => ?_) AllReadyH.nil
            have hst := store_part _ LA 0 (cellsX F1) hA.out.1 (by rw [hA.out.2.1, s6]; exact q4 _) (s8 _)
            rw [hA.out.2.1, q6] at hst
            go_simp
            refine hK.out _ _ (⟨hHeld.1.far LA (cellsX F1) (by omega), hHeld.2.far LA (cellsX F1) (by omega)⟩) (fun hHeld => ?_)
            clear hK K
            try simp only [Act.put, List.setIfInBounds_toArray, List.set_cons_zero, List.set_cons_succ]
            replace hA := hide (hA.out.set (cellsX F1))
            replace hX := hide (hX.out.far LA (cellsX F1) (by omega))
            replace hY := hide (hY.out.far LA (cellsX F1) (by omega))
            replace hC := hide (hC.out.far LA (cellsX F1) (by omega))
            replace hB := hide (below_setRow (g := LA) hB.out (by omega) (cellsX F1))
            clear hst
            refine wpAnyH_ready (rs := [9]) (by kernel_rfl) (by simp) ?_
            refine AllReadyH.cons rfl (fun K hK => ?_) AllReadyH.nil
            have hst := store_part _ LC 0 (cellsX F2) hC.out.1 (by rw [hC.out.2.1, s6]; exact q4 _) (s8 _)
            rw [hC.out.2.1, q6] at hst
            go_simp
            refine hK.out _ _ (⟨hHeld.1.far LC (cellsX F2) (by omega), hHeld.2.far LC (cellsX F2) (by omega)⟩) (fun hHeld => ?_)
            clear hK K
            try simp only [Act.put, List.setIfInBounds_toArray, List.set_cons_zero, List.set_cons_succ]
            replace hC := hide (hC.out.set (cellsX F2))
            replace hX := hide (hX.out.far LC (cellsX F2) (by omega))
            replace hY := hide (hY.out.far LC (cellsX F2) (by omega))
            replace hA := hide (hA.out.far LC (cellsX F2) (by omega))
            replace hB := hide (below_setRow (g := LC) hB.out (by omega) (cellsX F2))
            clear hst
            refine wpAnyH_done (by kernel_rfl) ?_ _
            go_wp2_with fail
            go_meet
            case rel => exact ⟨_, _, rfl, rfl, hide ⟨hA.out, hC.out, hB.out⟩⟩
          refine AllReadyH.cons rfl (fun K hK => ?_) AllReadyH.nil
          have nAhX := hX.out.2.2
          have nAhY := hY.out.2.2
          have nAhC := hC.out.2.2
          go_simp
          refine hK.out _ _ (⟨hHeld.1.on (grow y2 _), hHeld.2.on (grow y2 _)⟩) (fun hHeld => ?_)
          clear hK K
          try simp only [Act.put, List.setIfInBounds_toArray, List.set_cons_zero, List.set_cons_succ]
          have hA := hide (Box.new y2 (cellsX X0) 32)
          replace hX := hide (hX.out.on (grow y2 (.cells (cellsX X0) 32)))
          replace hY := hide (hY.out.on (grow y2 (.cells (cellsX X0) 32)))
          replace hC := hide (hC.out.on (grow y2 (.cells (cellsX X0) 32)))
          replace hB := hide (onto hB.out (Nat.le_refl _) (grow y2 (.cells (cellsX X0) 32)))
          generalize World.alloc y2 _ = y3 at *
          generalize y2.heap.size = LA at *
          refine wpAnyH_ready (rs := [5]) (by kernel_rfl) (by simp) ?_
          refine AllReadyH.cons rfl (fun K hK => ?_) AllReadyH.nil
          go_simp
          refine (c2.out _ hB.out).mono ?_
          rintro e y4 ⟨rfl, bl⟩
          replace hX := hide (hX.out.on bl)
          replace hY := hide (hY.out.on bl)
          replace hA := hide (hA.out.on bl)
          replace hC := hide (hC.out.on bl)
          replace hB := hide (onto hB.out (Nat.le_refl _) bl)
          go_wp2_with fail
          refine hK.out _ _ (⟨hHeld.1.on bl, hHeld.2.on bl⟩) (fun hHeld => ?_)
          clear hK K
          try simp only [Act.put, List.setIfInBounds_toArray, List.set_cons_zero, List.set_cons_succ]
          clear bl
          refine wpAnyH_ready (rs := [8]) (by kernel_rfl) (by simp) ?_
          refine AllReadyH.cons rfl (fun K hK => ?_) AllReadyH.nil
          have hst := store_part _ LA 0 (cellsX F1) hA.out.1 (by rw [hA.out.2.1, s6]; exact q4 _) (s8 _)
          rw [hA.out.2.1, q6] at hst
          go_simp
          refine hK.out _ _ (⟨hHeld.1.far LA (cellsX F1) (by omega), hHeld.2.far LA (cellsX F1) (by omega)⟩) (fun hHeld => ?_)
          clear hK K
          try simp only [Act.put, List.setIfInBounds_toArray, List.set_cons_zero, List.set_cons_succ]
          replace hA := hide (hA.out.set (cellsX F1))
          replace hX := hide (hX.out.far LA (cellsX F1) (by omega))
          replace hY := hide (hY.out.far LA (cellsX F1) (by omega))
          replace hC := hide (hC.out.far LA (cellsX F1) (by omega))
          replace hB := hide (below_setRow (g := LA) hB.out (by omega) (cellsX F1))
          clear hst
          refine wpAnyH_ready (rs := [9]) (by kernel_rfl) (by simp) ?_
          refine AllReadyH.cons rfl (fun K hK => ?_) AllReadyH.nil
          have hst := store_part _ LC 0 (cellsX F2) hC.out.1 (by rw [hC.out.2.1, s6]; exact q4 _) (s8 _)
          rw [hC.out.2.1, q6] at hst
          go_simp
          refine hK.out _ _ (⟨hHeld.1.far LC (cellsX F2) (by omega), hHeld.2.far LC (cellsX F2) (by omega)⟩) (fun hHeld => ?_)
          clear hK K
          try simp only [Act.put, List.setIfInBounds_toArray, List.set_cons_zero, List.set_cons_succ]
          replace hC := hide (hC.out.set (cellsX F2))
          replace hX := hide (hX.out.far LC (cellsX F2) (by omega))
          replace hY := hide (hY.out.far LC (cellsX F2) (by omega))
          replace hA := hide (hA.out.far LC (cellsX F2) (by omega))
          replace hB := hide (below_setRow (g := LC) hB.out (by omega) (cellsX F2))
          clear hst
          refine wpAnyH_done (by kernel_rfl) ?_ _
          go_wp2_with fail
          go_meet
          case rel => exact ⟨_, _, rfl, rfl, hide ⟨hA.out, hC.out, hB.out⟩⟩
        refine AllReadyH.cons rfl (fun K hK => ?_) AllReadyH.nil
        have nAhX := hX.out.2.2
        have nAhY := hY.out.2.2
        have nAhC := hC.out.2.2
        go_simp
        refine hK.out _ _ (⟨hHeld.1.on (grow y1 _), hHeld.2.on (grow y1 _)⟩) (fun hHeld => ?_)
        clear hK K
        try simp only [Act.put, List.setIfInBounds_toArray, List.set_cons_zero, List.set_cons_succ]
        have hA := hide (Box.new y1 (cellsX X0) 32)
        replace hX := hide (hX.out.on (grow y1 (.cells (cellsX X0) 32)))
        replace hY := hide (hY.out.on (grow y1 (.cells (cellsX X0) 32)))
        replace hC := hide (hC.out.on (grow y1 (.cells (cellsX X0) 32)))
        replace hB := hide (onto hB.out (Nat.le_refl _) (grow y1 (.cells (cellsX X0) 32)))
        generalize World.alloc y1 _ = y2 at *
        generalize y1.heap.size = LA at *
        refine wpAnyH_ready (rs := [2]) (by kernel_rfl) (by simp) ?_
        refine AllReadyH.cons rfl (fun K hK => ?_) AllReadyH.nil
        go_simp
        refine (c1.out _ hB.out).mono ?_
        rintro e y3 ⟨rfl, bl⟩
        replace hX := hide (hX.out.on bl)
        replace hY := hide (hY.out.on bl)
        replace hA := hide (hA.out.on bl)
        replace hC := hide (hC.out.on bl)
        replace hB := hide (onto hB.out (Nat.le_refl _) bl)
        go_wp2_with fail
        refine hK.out _ _ (⟨hHeld.1.on bl, hHeld.2.on bl⟩) (fun hHeld => ?_)
        clear hK K
        try simp only [Act.put, List.setIfInBounds_toArray, List.set_cons_zero, List.set_cons_succ]
        clear bl
        refine wpAnyH_ready (rs := [5]) (by kernel_rfl) (by simp) ?_
        refine AllReadyH.cons rfl (fun K hK => ?_) AllReadyH.nil
        go_simp
        refine (c2.out _ hB.out).mono ?_
        rintro e y4 ⟨rfl, bl⟩
        replace hX := hide (hX.out.on bl)
        replace hY := hide (hY.out.on bl)
        replace hA := hide (hA.out.on bl)
        replace hC := hide (hC.out.on bl)
        replace hB := hide (onto hB.out (Nat.le_refl _) bl)
        go_wp2_with fail
        refine hK.out _ _ (⟨hHeld.1.on bl, hHeld.2.on bl⟩) (fun hHeld => ?_)
        clear hK K
        try simp only [Act.put, List.setIfInBounds_toArray, List.set_cons_zero, List.set_cons_succ]
        clear bl
        refine wpAnyH_ready (rs := [8]) (by kernel_rfl) (by simp) ?_
        refine AllReadyH.cons rfl (fun K hK => ?_) AllReadyH.nil
        have hst := store_part _ LA 0 (cellsX F1) hA.out.1 (by rw [hA.out.2.1, s6]; exact q4 _) (s8 _)
        rw [hA.out.2.1, q6] at hst
        go_simp
        refine hK.out _ _ (⟨hHeld.1.far LA (cellsX F1) (by omega), hHeld.2.far LA (cellsX F1) (by omega)⟩) (fun hHeld => ?_)
        clear hK K
        try simp only [Act.put, List.setIfInBounds_toArray, List.set_cons_zero, List.set_cons_succ]
        replace hA := hide (hA.out.set (cellsX F1))
        replace hX := hide (hX.out.far LA (cellsX F1) (by omega))
        replace hY := hide (hY.out.far LA (cellsX F1) (by omega))
        replace hC := hide (hC.out.far LA (cellsX F1) (by omega))
        replace hB := hide (below_setRow (g := LA) hB.out (by omega) (cellsX F1))
        clear hst
        refine wpAnyH_ready (rs := [9]) (by kernel_rfl) (by simp) ?_
        refine AllReadyH.cons rfl (fun K hK => ?_) AllReadyH.nil
        have hst := store_part _ LC 0 (cellsX F2) hC.out.1 (by rw [hC.out.2.1, s6]; exact q4 _) (s8 _)
        rw [hC.out.2.1, q6] at hst
        go_simp
        refine hK.out _ _ (⟨hHeld.1.far LC (cellsX F2) (by omega), hHeld.2.far LC (cellsX F2) (by omega)⟩) (fun hHeld => ?_)
        clear hK K
        try simp only [Act.put, List.setIfInBounds_toArray, List.set_cons_zero, List.set_cons_succ]
        replace hC := hide (hC.out.set (cellsX F2))
        replace hX := hide (hX.out.far LC (cellsX F2) (by omega))
        replace hY := hide (hY.out.far LC (cellsX F2) (by omega))
        replace hA := hide (hA.out.far LC (cellsX F2) (by omega))
        replace hB := hide (below_setRow (g := LC) hB.out (by omega) (cellsX F2))
        clear hst
        refine wpAnyH_done (by kernel_rfl) ?_ _
        go_wp2_with fail
        go_meet
        case rel => exact ⟨_, _, rfl, rfl, hide ⟨hA.out, hC.out, hB.out⟩⟩
      case rest => as_aux_lemma =>
        obtain ⟨LA, LC, rfl, rfl, hH⟩ := hcut
        clear hX hY hB c1 c2
        have hmk : ∀ w : World, (Instr.makeSlice 39 (.int .i64 33) (.int .i64 33)).run Tryd.prog w = .ok (.slice (some ⟨w.heap.size, 0, none⟩) 33 33) (w.alloc (.cells (cellsK KZ) 4)) := fun _ => by kernel_rfl
        have u1 := cellsK_0
        have u2 := cellsK_32
        have u3 : (cellsK KZ)[0]? = some (.bool false) := get_K _ 0 (by omega)
        have u4 : (cellsK K1)[32]? = some (.bool false) := get_K _ 32 (by omega)
        obtain ⟨KN, hKN⟩ : ∃ KN, knV l K0 = KN := ⟨_, rfl⟩
        have hke2 := hke'.out
        rw [hKN] at hke2
        replace hke2 := hide hke2
        replace hKN := hide hKN
        obtain ⟨hA, hC, hB⟩ := hH.out
        have hHK := hide (show HeldK w LA LC wc.heap.size F1 F2 K0 (wc.alloc (.cells (cellsK K0) 4)) from ⟨Box.new _ _ _, hA.on (grow _ _), hC.on (grow _ _), onto hB (Nat.le_refl _) (grow _ _)⟩)
        have l1 : LA < wc.heap.size := hA.2.2
        have l2 : LC < wc.heap.size := hC.2.2
        have l3 : w.heap.size ≤ wc.heap.size := hB.size
        clear hH hke' hA hC hB
        go_wp2_with fail
        generalize wc.heap.size = LK at *
        obtain ⟨ad', n', c', heq, hnl, hmx, hm⟩ := hop.out
        cases heq
        replace hm := hide hm
        replace hnl := hide hnl
        have hmx2 : 16 ≤ 16 := by omega
        clear hop hmk u1 u2 u3 u4 hmx
        go_loopw [10] (fun i wr => ∃ (k : Nat) (Kf : Nat → Bool), k ≤ 16 ∧ i = .int .i64 (k : Int) ∧ Hid (knV (l.drop k) Kf = KN) ∧ Hid (HeldK w LA LC LK F1 F2 Kf wr)) (fun i _ => 16 - (intOf i).toNat)
        case atStart => exact ⟨0, K0, Nat.zero_le _, rfl, hide hKN.out, hHK⟩
        case round =>
          obtain ⟨k, Kf, hk, rfl, hU0, hH⟩ := hrel
          by_cases hlt : k < 16
          · have dk : decide ((k : Int) < 16) = true := by simp; omega
            obtain ⟨m, hm0⟩ : ∃ m, l[k]? = some m := ⟨l[k]'(by have := hnl.out; omega), List.getElem?_eq_getElem _⟩
            obtain ⟨g, o, rfl, hg, hM0⟩ := hm.out k m hm0
            have hld : (loadCellsFrom ⟨g, o + k * N6, none⟩ 0 N6 #[]).run Tryd.prog wr = .ok (cellsM m) wr := (hM0.on hg hH.out.2.2.2).load
            have hsm := sound_is (hsd'.out k m hm0)
            have hU1 := hU0.out
            rw [drop_at hm0] at hU1
            unfold knV at hU1
            replace hU1 := hide hU1
            have hW := hide (hH.out.on (grow wr (.cells (cellsM m) 28)))
            have bx := hide (Box.new wr (cellsM m) 28)
            clear hU0 hm0 hM0
            rcases hsm with ⟨hk0, -⟩ | ⟨hkr, -, hra, hrb, hrd⟩
            · have e0 : (m.k != 0) = false := by simpa using hk0
              have e0' : (m.k == 0) = true := by simpa using hk0
              have hU2 : Hid (knV (l.drop (k + 1)) Kf = KN) := hide (by rw [← hU1.out, knS, if_pos hk0])
              clear hH
              go_wp2
              go_roundw
              case rel => exact ⟨k + 1, Kf, by omega, by go_num, hU2, hW⟩
              case measure => simp [intOf]; omega
            · have e0 : (m.k != 0) = true := by simp; omega
              have e0' : (m.k == 0) = false := by simp; omega
              obtain ⟨an, ha, ha33⟩ : ∃ an : Nat, m.a = (an : Int) ∧ an < 33 := ⟨m.a.toNat, by omega, by omega⟩
              obtain ⟨bn, hbb, hb33⟩ : ∃ bn : Nat, m.b = (bn : Int) ∧ bn < 33 := ⟨m.b.toNat, by omega, by omega⟩
              obtain ⟨dn, hd, hd33⟩ : ∃ dn : Nat, m.d = (dn : Int) ∧ dn < 33 := ⟨m.d.toNat, by omega, by omega⟩
              have hU : ∀ v, knB Kf m = v → Hid (knV (l.drop (k + 1)) (putK Kf dn v) = KN) := fun v hv => hide (by
                rw [← hU1.out]
                unfold knS
                rw [if_neg (by omega), hd, Int.toNat_natCast, ← hv]
                rfl)
              obtain ⟨z0, z1, z2, z3, z4, z5⟩ : _ ∧ _ ∧ _ ∧ _ ∧ _ ∧ _ := bx.out.six'
              rw [hd] at z1
              rw [ha] at z2
              rw [hbb] at z3
              have xa := (hW.out.1.cell an).trans (get_K Kf an ha33)
              have xb := (hW.out.1.cell bn).trans (get_K Kf bn hb33)
              have xd := (hW.out.1.cell dn).trans (get_K Kf dn hd33)
              have fd := hW.out.1.free dn
              have ia : (an : Int) < 33 := by omega
              have ib : (bn : Int) < 33 := by omega
              have id' : (dn : Int) < 33 := by omega
              have hkn : knB Kf m = (decide (m.k = 1) || (Kf an && (decide (m.k = 2) || Kf bn))) := by unfold knB; rw [ha, hbb, Int.toNat_natCast, Int.toNat_natCast]
              replace hU := hide hU
              replace hkn := hide hkn
              replace hU1 := hide hU1
              replace z0 := hide z0
              replace z1 := hide z1
              replace z2 := hide z2
              replace z3 := hide z3
              replace xa := hide xa
              replace xb := hide xb
              replace xd := hide xd
              replace fd := hide fd
              clear z4 z5 hrd hrb hra hkr ha hbb hd hH bx
              go_wp2_with fail
              generalize World.alloc wr _ = W at *
              generalize wr.heap.size = LB at *
              clear hld
              replace z0 := z0.out
              replace z1 := z1.out
              replace z2 := z2.out
              replace z3 := z3.out
              replace xa := xa.out
              replace xb := xb.out
              replace xd := xd.out
              replace fd := fd.out
              by_cases f1 : m.k = 1
              · have f1' : (m.k == 1) = true := by simpa using f1
                have hU3 := hU.out true (by rw [hkn.out]; simp [f1])
                go_region
                go_wp2
                go_roundw
                case rel => exact ⟨k + 1, _, by omega, by go_num, hU3, hide ((hW.out.on (Below.refl _ _).drew).put l1 l2 l3 dn hd33 _)⟩
                case measure => simp [intOf]; omega
              · have f1' : (m.k == 1) = false := by simpa using f1
                generalize hVA : Kf an = VA at *
                cases VA
                · skip
                  have hU3 := hU.out false (by rw [hkn.out]; simp [f1])
                  go_region
                  go_wp2
                  go_roundw
                  case rel => exact ⟨k + 1, _, by omega, by go_num, hU3, hide ((hW.out.on (Below.refl _ _).drew).put l1 l2 l3 dn hd33 _)⟩
                  case measure => simp [intOf]; omega
                · by_cases f2 : m.k = 2
                  · have f2' : (m.k == 2) = true := by simpa using f2
                    have hU3 := hU.out true (by rw [hkn.out]; simp [f1, f2])
                    go_region
                    go_wp2
                    go_roundw
                    case rel => exact ⟨k + 1, _, by omega, by go_num, hU3, hide ((hW.out.on (Below.refl _ _).drew).put l1 l2 l3 dn hd33 _)⟩
                    case measure => simp [intOf]; omega
                  · have f2' : (m.k == 2) = false := by simpa using f2
                    generalize hVB : Kf bn = VB at *
                    have hU3 := hU.out VB (by rw [hkn.out]; simp [f1, f2])
                    go_region
                    go_wp2
                    go_roundw
                    case rel => exact ⟨k + 1, _, by omega, by go_num, hU3, hide ((hW.out.on (Below.refl _ _).drew).put l1 l2 l3 dn hd33 _)⟩
                    case measure => simp [intOf]; omega
          · have dk : decide ((k : Int) < 16) = false := by simp; omega
            have hF : Kf = KN := by rw [← hU0.out, List.drop_eq_nil_of_le (by have := hnl.out; omega)]; rfl
            subst hF
            clear hU0 hHK
            go_wp2_with fail
            replace hH := hide hH.out
            go_loopw [12] (fun i wr => ∃ k : Nat, k ≤ 32 ∧ i = .int .i64 (k : Int) ∧ Hid (HeldK w LA LC LK F1 F2 Kf wr)) (fun i _ => 32 - (intOf i).toNat)
            case atStart => exact ⟨0, Nat.zero_le _, rfl, hH⟩
            case round =>
              obtain ⟨j, hj, rfl, hH2⟩ := hrel
              clear hH
              by_cases hlt2 : j < 32
              · have dj : decide ((j : Int) < 32) = true := by simp; omega
                have ij : (j : Int) < 33 := by omega
                have ij2 : (j : Int) < 32 := by omega
                have xk := (hH2.out.1.cell j).trans (get_K Kf j (by omega))
                have xa := (hH2.out.2.1.cell j).trans (get_X F1 j hlt2)
                have xc := (hH2.out.2.2.1.cell j).trans (get_X F2 j hlt2)
                have hal := hke2.out.2.2.2 j hlt2
                have hH3 := hide (hH2.out.on (Below.refl _ _).drew)
                generalize Kf j = V at *
                cases V
                · clear hal
                  go_wp2_with fail
                  go_region
                  go_wp2
                  go_roundw
                  case rel => exact ⟨j + 1, by omega, by go_num, hH3⟩
                  case measure => simp [intOf]; omega
                · rw [← hal rfl] at xc
                  clear hal
                  go_wp2_with fail
                  go_region
                  go_wp2
                  go_roundw
                  case rel => exact ⟨j + 1, by omega, by go_num, hH3⟩
                  case measure => simp [intOf]; omega
              · have dj : decide ((j : Int) < 32) = false := by simp; omega
                have xa := (hH2.out.2.1.cell 0).trans (get_X F1 0 (by omega))
                have xc := (hH2.out.2.2.1.cell 0).trans (get_X F2 0 (by omega))
                rw [hke2.out.1] at xa
                rw [hke2.out.2.1] at xc
                have hB3 := hide hH2.out.2.2.2
                clear hH2
                go_wp2_with fail
                refine (cf.out _ hB3.out).mono ?_
                rintro e w9 ⟨rfl, h9⟩
                have hB9 := onto hB3.out (Nat.le_refl _) h9
                clear cf h9
                go_wp2
                go_ret
                exact ⟨rfl, hB9⟩

theorem known_walk (w : World) (v : Value) (l : List Mi) (hl : IsOps w v l) (hw : WordsM l) (hc : CapOk v) (R : Nat → Int) (hR : ∀ k, Cp.W32 (R k)) (S : Nat → Int) (hS : ∀ k, Cp.W32 (S k)) (tb : De.Tabs w) :
    Calls Tryd.prog 8 #[v, .agg (cellsX R), .agg (cellsX S)] w fun e w' => e = .returned (.bool true) ∧ Below w.heap.size w w' := by
  obtain ⟨ad, n, c, rfl, hnc, h⟩ := cut_ops hl hw hc 16
  rcases h with ⟨hn, h, hw'⟩ | ⟨hn, h, hw'⟩
  · exact known_cut tb hnc (Or.inl ⟨hn, rfl⟩) h hw' R S hR hS
  · exact known_cut tb hnc (Or.inr ⟨hn, rfl⟩) h hw' R S hR hS

end Go.Proofs.YtfnmihjchlljbaaDoor.Ir
