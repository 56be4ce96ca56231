/- Layer 19: the program's log: the last head. -/
import Derived.Test.YtgffhnggocbjhaaQWpI
namespace Go.Proofs.Ytgffhnggocbjhaa
open Go.RowKit
set_option linter.unusedVariables false
set_option maxRecDepth 100000
set_option linter.unusedSimpArgs false

/-- The head that is taken behind the first k places. -/
def bst (d : Dk) : Nat → Nat × Nat × List Int
  | 0 => (0, 0, [])
  | k + 1 => if (bst d k).1 < numAt d k then (numAt d k, tH (d.told (k : Int)), ksH (d.told (k : Int))) else bst d k

theorem numAt_par (d : Dk) (k : Nat) : numAt d k = if parB d.own (d.told (k : Int)) k then numH (d.told (k : Int)) else 0 := by
  unfold numAt rightH rightB parB
  generalize riseK d.own (ksH (d.told (k : Int))) (cntH (d.told (k : Int))) = R
  by_cases h1 : cntH (d.told (k : Int)) ≤ 16 <;> by_cases h2 : numH (d.told (k : Int)) % 2 = k <;> by_cases h3 : numH (d.told (k : Int)) = 0 <;> by_cases h4 : headT (numH (d.told (k : Int))) (ksH (d.told (k : Int))) (tH (d.told (k : Int))) = d.told (k : Int) <;> cases R <;> simp [h1, h2, h3, h4]

theorem bst_is (d : Dk) : (bst d 2).1 = bestN d ∧ (bestN d ≠ 0 → bst d 2 = (bestN d, tH (d.told (bestP d : Int)), ksH (d.told (bestP d : Int)))) := by
  have b1 : bst d 1 = if 0 < numAt d 0 then (numAt d 0, tH (d.told ((0 : Nat) : Int)), ksH (d.told ((0 : Nat) : Int))) else (0, 0, []) := rfl
  have b2 : bst d 2 = if (bst d 1).1 < numAt d 1 then (numAt d 1, tH (d.told ((1 : Nat) : Int)), ksH (d.told ((1 : Nat) : Int))) else bst d 1 := rfl
  rw [b2, b1]
  clear b1 b2
  unfold bestN bestP
  by_cases h0 : 0 < numAt d 0
  · simp only [if_pos h0]
    by_cases h1 : numAt d 0 < numAt d 1
    · simp only [if_pos h1]; exact ⟨trivial, fun _ => trivial⟩
    · simp only [if_neg h1]; exact ⟨trivial, fun _ => trivial⟩
  · simp only [if_neg h0]
    have e0 : numAt d 0 = 0 := by omega
    by_cases h1 : 0 < numAt d 1
    · simp only [e0, if_pos h1]; exact ⟨trivial, fun _ => trivial⟩
    · simp only [e0, if_neg h1]; exact ⟨trivial, fun h => (h rfl).elim⟩

/-- What the last head is told as. -/
structure LastIs (w w' : World) (d : Dk) (er : Int) (num t : Nat) (v : Value) (ks : List Int) : Prop where
  err : er = if d.dead then 2 else if bestN d = 0 then 190 else 0
  row : IW w' (fun k => k < w.heap.size) v ks
  far : Below w.heap.size w w'
  is : er = 0 → num = bestN d ∧ t = tH (d.told (bestP d : Int)) ∧ ks = ksH (d.told (bestP d : Int))

theorem errAt_live {d : Dk} (hd : d.dead = false) {k : Nat} (h : k < d.S.length) : d.errAt (k : Int) = 0 := by
  unfold Dk.errAt
  rw [hd, if_neg (by decide), if_neg (by omega)]
theorem told_64 {d : Dk} (g : d.Good) (hd : d.dead = false) {k : Nat} (h : k < d.S.length) : (d.told (k : Int)).size = 64 := by
  unfold Dk.told
  rw [if_pos (errAt_live hd h)]
  exact readK_size (getD_64 g.s64 _) (fun p hp => (g.l64 p hp).2) _ (Nat.le_refl _)

/-- Three cells of a block are other ones. -/
def set3 (y : World) (b : Nat) (u0 u1 u2 : Value) : World := ((y.setCell ⟨b, 0, none⟩ u0).setCell ⟨b, 1, none⟩ u1).setCell ⟨b, 2, none⟩ u2
theorem set3_box {y : World} {b : Nat} {a0 a1 a2 : Value} (h : Box y b #[a0, a1, a2]) (u0 u1 u2 : Value) : Box (set3 y b u0 u1 u2) b #[u0, u1, u2] := ((h.set 0 u0).set 1 u1).set 2 u2
theorem set3_far {y : World} {b : Nat} (u0 u1 u2 : Value) (g : Nat) (hg : g ≠ b) : (set3 y b u0 u1 u2).heap[g]? = y.heap[g]? :=
  (Below.heap_setCell _ ⟨b, 2, none⟩ _ g hg).trans ((Below.heap_setCell _ ⟨b, 1, none⟩ _ g hg).trans (Below.heap_setCell _ ⟨b, 0, none⟩ _ g hg))
theorem set3_below {w y : World} {n b : Nat} (h : Below n w y) (hb : n ≤ b) (u0 u1 u2 : Value) : Below n w (set3 y b u0 u1 u2) :=
  ((h.setCell (p := ⟨b, 0, none⟩) hb _).setCell (p := ⟨b, 1, none⟩) hb _).setCell (p := ⟨b, 2, none⟩) hb _
theorem set3_turn (y : World) (b : Nat) (u0 u1 u2 : Value) : Turn (fun g => g = b) y (set3 y b u0 u1 u2) :=
  ⟨rfl, rfl, rfl, by simp [set3, World.setCell], fun g _ hn => set3_far u0 u1 u2 g hn⟩

set_option maxHeartbeats 1000000 in
theorem wlast_any {w : World} {H : Nat → Prop} {db : Nat} {d : Dk} (D : PD w H db d) (h42 : 42 ≤ d.S.length) :
    Calls Try.prog 63 #[.pointer (some ⟨db, 0, none⟩)] w fun e w' => ∃ num t v ks er, e = .returned (.tuple #[headV num v t, .int .i64 er]) ∧ LastIs w w' d er num t v ks := by
  have B0 := Box.new w none3 77
  have g0 := grow w (.cells none3 77)
  have h0 : (w.alloc (.cells none3 77)).heap.size = w.heap.size + 1 := by simp
  have B1 := Box.new (w.alloc (.cells none3 77)) none3 77
  have g1 := grow (w.alloc (.cells none3 77)) (.cells none3 77)
  rw [h0] at B1
  have B0' := B0.on g1
  have T0 := onto g0 (Nat.le_refl _) g1
  have D0 := (D.mono (G := fun k => H k ∧ k < w.heap.size) (fun k h hl => ⟨h, hl⟩)).on T0
  clear h0 g0 g1 B0
  unfold none3 at B0' B1 T0 D0
  have hg := hide D.good.1
  clear D
  cases hd : d.dead with
  | true =>
    have hE : ∀ k : Nat, d.errAt (k : Int) = 2 := fun k => by unfold Dk.errAt; rw [hd]; rfl
    go_enter Try.func63, Try.ntmps63
    go_wp2_with fail
    generalize (w.alloc (.cells #[.int .i64 0, .slice none 0 0, .int .u16 0] 77)).alloc (.cells #[.int .i64 0, .slice none 0 0, .int .u16 0] 77) = x0 at *
    go_loopw [11] (fun i y => i = .int .i64 0 ∧ Hid (PD y (fun k => H k ∧ k < w.heap.size) db d) ∧ Hid (Below w.heap.size w y) ∧ Hid (Box y w.heap.size #[.int .i64 0, .slice none 0 0, .int .u16 0])) (fun i _ => 2 - (intOf i).toNat)
    case atStart => exact ⟨rfl, hide D0, hide T0, hide B0'⟩
    case round =>
      clear D0 T0 B0' B1
      obtain ⟨rfl, D1, T1, O1⟩ := hrel
      have cr := dread_any D1.out ((0 : Nat) : Int)
      rw [hE 0] at cr
      generalize d.told ((0 : Nat) : Int) = s at *
      go_wp2_with fail
      refine cr.mono ?_
      rintro e y1 ⟨rfl, b1⟩
      have T2 := hide (onto T1.out (Nat.le_refl _) b1)
      have O2 := hide (O1.out.on b1)
      have o0 : y1.cell? ⟨w.heap.size, 0, none⟩ = some (.int .i64 0) := O2.out.cell 0
      have o1 : y1.cell? ⟨w.heap.size, 1, none⟩ = some (.slice none 0 0) := O2.out.cell 1
      have o2 : y1.cell? ⟨w.heap.size, 2, none⟩ = some (.int .u16 0) := O2.out.cell 2
      have f0 := O2.out.free 0
      have f1 := O2.out.free 1
      have f2 := O2.out.free 2
      have LI : Hid (LastIs w (set3 y1 w.heap.size (.int .i64 0) (.slice none 0 0) (.int .u16 0)) d 2 0 0 (.slice none 0 0) []) := hide
        ⟨by rw [hd]; rfl, IW.none _ _, set3_below T2.out (Nat.le_refl _) _ _ _, fun h => by cases h⟩
      have BZ := set3_box O2.out (.int .i64 0) (.slice none 0 0) (.int .u16 0)
      have q0 := hide (BZ.cell 0)
      have q1 := hide (BZ.cell 1)
      have q2 := hide (BZ.cell 2)
      unfold set3 at LI q0 q1 q2
      clear D1 T1 O1 O2 T2 BZ cr b1 hE
      go_wp2
      replace q0 := q0.out
      replace q1 := q1.out
      replace q2 := q2.out
      simp at q0 q1 q2
      exact bodyPost_ret (v := .tuple #[.agg #[.int .i64 0, .slice none 0 0, .int .u16 0], .int .i64 2]) (by simp [results, Try.f63, go_sem, q0, q1, q2]) rfl ⟨0, 0, .slice none 0 0, [], 2, rfl, LI.out⟩
  | false =>
    have hE : ∀ k : Nat, k < 2 → d.errAt (k : Int) = 0 := fun k hk => errAt_live hd (by omega)
    replace hE := hide hE
    go_enter Try.func63, Try.ntmps63
    go_wp2_with fail
    generalize (w.alloc (.cells #[.int .i64 0, .slice none 0 0, .int .u16 0] 77)).alloc (.cells #[.int .i64 0, .slice none 0 0, .int .u16 0] 77) = x0 at *
    go_loopw [11] (fun i y => ∃ (k : Nat) (a : Option Addr) (l c : Nat), k ≤ 2 ∧ i = .int .i64 (k : Int) ∧ Hid (PD y (fun k => H k ∧ k < w.heap.size) db d) ∧ Hid (Below w.heap.size w y) ∧ Hid (Box y w.heap.size #[.int .i64 0, .slice none 0 0, .int .u16 0]) ∧
      Hid (Box y (w.heap.size + 1) #[.int .i64 ((bst d k).1 : Int), .slice a l c, .int .u16 ((bst d k).2.1 : Int)]) ∧ Hid (IW y (fun j => j < w.heap.size + 1 + 1) (.slice a l c) (bst d k).2.2)) (fun i _ => 2 - (intOf i).toNat)
    case atStart => exact ⟨0, none, 0, 0, Nat.zero_le _, rfl, hide D0, hide T0, hide B0', hide B1, hide (IW.none _ _)⟩
    case round =>
      clear D0 T0 B0' B1
      obtain ⟨k, a, l, c, hk, rfl, D1, T1, O1, L1, I1⟩ := hrel
      by_cases h : k < 2
      · have cr := dread_any D1.out (k : Int)
        rw [hE.out k h] at cr
        have hs64 := told_64 hg.out hd (show k < d.S.length by omega)
        have hnum := numAt_par d k
        obtain ⟨s, hs⟩ : ∃ s, s = d.told (k : Int) := ⟨_, rfl⟩
        rw [← hs] at cr hs64 hnum
        have co := fun (y : World) (Dy : PD y (fun k => H k ∧ k < w.heap.size) db d) => wown_any Dy
        have cp := fun y => wparse_any s hs64 k h d.own y
        unfold headV at cp
        replace cp := hide cp
        replace co := hide co
        replace hs := hide hs
        replace hnum := hide hnum
        go_wp2_with fail
        refine cr.mono ?_
        rintro e y1 ⟨rfl, b1⟩
        have D2 := hide (D1.out.on b1)
        have T2 := hide (onto T1.out (Nat.le_refl _) b1)
        have O2 := hide (O1.out.on b1)
        have L2 := hide (L1.out.on b1)
        have I2 := hide (I1.out.on b1)
        clear D1 T1 O1 L1 I1 b1 cr
        go_wp2_with fail
        refine (co.out _ D2.out).mono ?_
        rintro e y1' ⟨rfl, hy⟩
        subst hy
        go_wp2_with fail
        refine (cp.out _).mono ?_
        rintro e y2 ⟨num, t, v, ks, rfl, P⟩
        obtain ⟨av, cv, hv⟩ := P.row.shape
        subst hv
        have D3 := hide (D2.out.on P.far)
        have T3 := hide (onto T2.out (Nat.le_refl _) P.far)
        have O3 := hide (O2.out.on P.far)
        have L3 := hide (L2.out.on P.far)
        have I3 := hide (I2.out.on P.far)
        have hy2 : w.heap.size + 1 + 1 ≤ y1'.heap.size := by have := L2.out.2.2; omega
        obtain ⟨st, hst⟩ : ∃ st, st = bst d k := ⟨_, rfl⟩
        have hnx : bst d (k + 1) = if st.1 < numAt d k then (numAt d k, tH (d.told (k : Int)), ksH (d.told (k : Int))) else st := by rw [hst]; rfl
        rw [← hst] at L3 I3
        obtain ⟨m, mt, mks⟩ := st
        simp only at L3 I3 hnx
        rw [hnum.out, ← hs.out] at hnx
        have P4 := P.is
        have I4 := hide (P.row.less (G := fun j => j < w.heap.size + 1 + 1) (fun j _ h => by omega))
        have hc0 : y2.cell? ⟨w.heap.size + 1, 0, none⟩ = some (.int .i64 (m : Int)) := L3.out.cell 0
        have hl0 := L3.out.2.2
        generalize parB d.own s k = Q at *
        generalize ks.length = kl at *
        clear D2 T2 O2 L2 I2 co cp hst P hy2
        cases Q with
        | false =>
          have hnx2 : Hid (bst d (k + 1) = (m, mt, mks)) := hide (by rw [hnx]; simp)
          have g4 := grow y2 (.cells #[.int .i64 (num : Int), .slice av kl cv, .int .u16 (t : Int)] 77)
          have D4 := hide (D3.out.on g4)
          have T4 := hide (onto T3.out (Nat.le_refl _) g4)
          have O4 := hide (O3.out.on g4)
          have L4 := hide (L3.out.on g4)
          have I5 := hide (I3.out.on g4)
          clear D3 T3 O3 L3 I3 hnx g4 I4 P4 hc0
          go_wp2
          go_roundw
          case rel => exact ⟨k + 1, a, l, c, by omega, by go_num, D4, T4, O4, by rw [hnx2.out]; exact L4, by rw [hnx2.out]; exact I5⟩
          case measure => simp [intOf]; omega
        | true =>
          obtain ⟨p1, p2, p3⟩ := P4 rfl
          by_cases hlt : m < num
          · have hnx2 : Hid (bst d (k + 1) = (num, t, ks)) := hide (by rw [hnx, if_pos rfl, ← p1, if_pos hlt, p2, p3])
            have Z : Hid (((y2.setCell ⟨w.heap.size + 1, 0, none⟩ (.int .i64 (num : Int))).setCell ⟨w.heap.size + 1, 1, none⟩ (.slice av kl cv)).setCell ⟨w.heap.size + 1, 2, none⟩ (.int .u16 (t : Int)) = set3 y2 (w.heap.size + 1) (.int .i64 (num : Int)) (.slice av kl cv) (.int .u16 (t : Int))) := hide rfl
            have D4 := D3.out.keep (y := set3 y2 (w.heap.size + 1) (.int .i64 (num : Int)) (.slice av kl cv) (.int .u16 (t : Int))) (fun k hk _ => set3_far _ _ _ k (by omega))
            have T4 := set3_below T3.out (Nat.le_succ _) (.int .i64 (num : Int)) (.slice av kl cv) (.int .u16 (t : Int))
            have O4 := O3.out.of_heap (set3_far (b := w.heap.size + 1) (.int .i64 (num : Int)) (.slice av kl cv) (.int .u16 (t : Int)) w.heap.size (by omega))
            have L4 := set3_box L3.out (.int .i64 (num : Int)) (.slice av kl cv) (.int .u16 (t : Int))
            have I5 := I4.out.turn ((set3_turn y2 (w.heap.size + 1) (.int .i64 (num : Int)) (.slice av kl cv) (.int .u16 (t : Int))).mono (fun b _ h => by omega))
            have g4 := grow (set3 y2 (w.heap.size + 1) (.int .i64 (num : Int)) (.slice av kl cv) (.int .u16 (t : Int))) (.cells #[.int .i64 (num : Int), .slice av kl cv, .int .u16 (t : Int)] 77)
            replace D4 := hide (D4.on g4)
            replace T4 := hide (onto T4 (Nat.le_refl _) g4)
            replace O4 := hide (O4.on g4)
            replace L4 := hide (L4.on g4)
            replace I5 := hide (I5.on g4)
            have hc1 : y2.cell? ⟨w.heap.size + 1, 1, none⟩ = some (.slice a l c) := L3.out.cell 1
            have hc2 : y2.cell? ⟨w.heap.size + 1, 2, none⟩ = some (.int .u16 (mt : Int)) := L3.out.cell 2
            have hf0 := L3.out.free 0
            have hf1 := L3.out.free 1
            have hf2 := L3.out.free 2
            clear D3 T3 O3 L3 I3 hnx g4 I4 p1 p2 p3 P4
            go_wp2
            rw [Z.out]
            go_roundw
            case rel => exact ⟨k + 1, av, kl, cv, by omega, by go_num, D4, T4, O4, by rw [hnx2.out]; exact L4, by rw [hnx2.out]; exact I5⟩
            case measure => simp [intOf]; omega
          · have hnx2 : Hid (bst d (k + 1) = (m, mt, mks)) := hide (by rw [hnx, if_pos rfl, ← p1, if_neg hlt])
            have g4 := grow y2 (.cells #[.int .i64 (num : Int), .slice av kl cv, .int .u16 (t : Int)] 77)
            have D4 := hide (D3.out.on g4)
            have T4 := hide (onto T3.out (Nat.le_refl _) g4)
            have O4 := hide (O3.out.on g4)
            have L4 := hide (L3.out.on g4)
            have I5 := hide (I3.out.on g4)
            clear D3 T3 O3 L3 I3 hnx g4 I4 p1 p2 p3 P4
            go_wp2
            go_roundw
            case rel => exact ⟨k + 1, a, l, c, by omega, by go_num, D4, T4, O4, by rw [hnx2.out]; exact L4, by rw [hnx2.out]; exact I5⟩
            case measure => simp [intOf]; omega
      · obtain rfl : k = 2 := by omega
        obtain ⟨b1, b2⟩ := bst_is d
        obtain ⟨m, hm⟩ : ∃ m, m = (bst d 2).1 := ⟨_, rfl⟩
        obtain ⟨mt, hmt⟩ : ∃ m, m = (bst d 2).2.1 := ⟨_, rfl⟩
        obtain ⟨mks, hmks⟩ : ∃ m, m = (bst d 2).2.2 := ⟨_, rfl⟩
        rw [← hm, ← hmt] at L1
        rw [← hmks] at I1
        rw [← hm] at b1
        have o0 : wr.cell? ⟨w.heap.size, 0, none⟩ = some (.int .i64 0) := O1.out.cell 0
        have o1 : wr.cell? ⟨w.heap.size, 1, none⟩ = some (.slice none 0 0) := O1.out.cell 1
        have o2 : wr.cell? ⟨w.heap.size, 2, none⟩ = some (.int .u16 0) := O1.out.cell 2
        have f0 := O1.out.free 0
        have f1 := O1.out.free 1
        have f2 := O1.out.free 2
        have l0 : wr.cell? ⟨w.heap.size + 1, 0, none⟩ = some (.int .i64 (m : Int)) := L1.out.cell 0
        have l1 : wr.cell? ⟨w.heap.size + 1, 1, none⟩ = some (.slice a l c) := L1.out.cell 1
        have l2 : wr.cell? ⟨w.heap.size + 1, 2, none⟩ = some (.int .u16 (mt : Int)) := L1.out.cell 2
        by_cases hm0 : m = 0
        · have LI : Hid (LastIs w (set3 wr w.heap.size (.int .i64 0) (.slice none 0 0) (.int .u16 0)) d 190 0 0 (.slice none 0 0) []) := hide
            ⟨by rw [hd, ← b1, if_pos hm0]; rfl, IW.none _ _, set3_below T1.out (Nat.le_refl _) _ _ _, fun h => by cases h⟩
          have BZ := set3_box O1.out (.int .i64 0) (.slice none 0 0) (.int .u16 0)
          have q0 := hide (BZ.cell 0)
          have q1 := hide (BZ.cell 1)
          have q2 := hide (BZ.cell 2)
          unfold set3 at LI q0 q1 q2
          subst hm0
          clear D1 T1 O1 L1 I1 b1 b2 hmt hmks BZ hm
          go_wp2
          replace q0 := q0.out
          replace q1 := q1.out
          replace q2 := q2.out
          simp at q0 q1 q2
          exact bodyPost_ret (v := .tuple #[.agg #[.int .i64 0, .slice none 0 0, .int .u16 0], .int .i64 190]) (by simp [results, Try.f63, go_sem, q0, q1, q2]) rfl ⟨0, 0, .slice none 0 0, [], 190, rfl, LI.out⟩
        · have b3 := b2 (by rw [← b1]; exact hm0)
          have LI : Hid (LastIs w (set3 wr w.heap.size (.int .i64 (m : Int)) (.slice a l c) (.int .u16 (mt : Int))) d 0 m mt (.slice a l c) mks) := hide
            ⟨by rw [hd, ← b1, if_neg hm0]; rfl, (I1.out.turn ((set3_turn wr w.heap.size (.int .i64 (m : Int)) (.slice a l c) (.int .u16 (mt : Int))).mono (fun b _ h => by omega))).less (fun g _ h => by omega), set3_below T1.out (Nat.le_refl _) _ _ _, fun _ => ⟨b1, by rw [hmt, b3], by rw [hmks, b3]⟩⟩
          have BZ := set3_box O1.out (.int .i64 (m : Int)) (.slice a l c) (.int .u16 (mt : Int))
          have q0 := hide (BZ.cell 0)
          have q1 := hide (BZ.cell 1)
          have q2 := hide (BZ.cell 2)
          unfold set3 at LI q0 q1 q2
          clear D1 T1 O1 L1 I1 b1 b2 b3 hmt hmks BZ hm
          go_wp2
          replace q0 := q0.out
          replace q1 := q1.out
          replace q2 := q2.out
          simp at q0 q1 q2
          exact bodyPost_ret (v := .tuple #[.agg #[.int .i64 (m : Int), .slice a l c, .int .u16 (mt : Int)], .int .i64 0]) (by simp [results, Try.f63, go_sem, q0, q1, q2]) rfl ⟨m, mt, .slice a l c, mks, 0, rfl, LI.out⟩

end Go.Proofs.Ytgffhnggocbjhaa
