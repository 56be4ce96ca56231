/- Layer 14: the document's Until. -/
import Derived.Test.YtfnmihjchlljbaaDoorQIrUntil
import Derived.Test.YtfnmihjchlljbaaDoorQIrBits
import Derived.Deep.CutRange
namespace Go.Proofs.YtfnmihjchlljbaaDoor.Ir
open Go.RowKit
set_option linter.unusedVariables false
set_option maxRecDepth 100000
set_option linter.unusedSimpArgs false

/-- All operations may be, but for their Counts. -/
def SoundAll (l : List Mi) : Prop := ∀ (i : Nat) (m : Mi), l[i]? = some m → soundB m = true

theorem mayFrom_sound : ∀ (l : List Mi) (p : Int), mayFrom p l = true → SoundAll l
  | [], _, _ => fun i m h => by simp at h
  | x :: l, p, h => fun i m hi => by
    unfold mayFrom at h
    simp only [Bool.and_eq_true] at h
    cases i with
    | zero => obtain rfl : x = m := by simpa using hi
              exact h.1.2.2
    | succ i => exact mayFrom_sound l x.c h.2 i m (by simpa using hi)

/-- What a sound operation is. -/
theorem sound_is {m : Mi} (h : soundB m = true) : (m.k = 0 ∧ wrB m = false) ∨ ((1 ≤ m.k ∧ m.k ≤ 13) ∧ wrB m = true ∧ (0 ≤ m.a ∧ m.a ≤ 32) ∧ (0 ≤ m.b ∧ m.b ≤ 32) ∧ (1 ≤ m.d ∧ m.d ≤ 31)) := by
  unfold soundB at h
  by_cases h0 : m.k = 0
  · exact Or.inl ⟨h0, by simp [wrB, h0]⟩
  · rw [if_neg h0] at h
    by_cases hw : wrB m = false
    · rw [if_pos hw] at h; cases h
    · rw [if_neg hw] at h
      have hw' : wrB m = true := by simpa using hw
      have hw2 := hw'
      simp [wrB] at hw2
      refine Or.inr ⟨by omega, hw', ?_, ?_, by omega⟩
      · by_cases h1 : m.k = 1
        · rw [if_pos h1] at h; simp at h; omega
        · rw [if_neg h1] at h
          by_cases h2 : m.k = 2 ∧ ¬ m.b = 0
          · rw [if_pos h2] at h; cases h
          · rw [if_neg h2] at h; simp [oprB] at h; omega
      · by_cases h1 : m.k = 1
        · rw [if_pos h1] at h; simp at h; omega
        · rw [if_neg h1] at h
          by_cases h2 : m.k = 2 ∧ ¬ m.b = 0
          · rw [if_pos h2] at h; cases h
          · rw [if_neg h2] at h; simp [oprB] at h; omega

theorem Box.six' {w : World} {b : Nat} {m : Mi} (h : Box w b (cellsM m)) : w.cell? ⟨b, 0, none⟩ = some (.int .i64 m.k) ∧ w.cell? ⟨b, 1, none⟩ = some (.int .i64 m.d) ∧ w.cell? ⟨b, 2, none⟩ = some (.int .i64 m.a) ∧
    w.cell? ⟨b, 3, none⟩ = some (.int .i64 m.b) ∧ w.cell? ⟨b, 4, none⟩ = some (.int .u32 m.m) ∧ w.cell? ⟨b, 5, none⟩ = some (.int .i64 m.c) :=
  ⟨h.cell 0, h.cell 1, h.cell 2, h.cell 3, h.cell 4, h.cell 5⟩

set_option maxHeartbeats 8000000 in
theorem runtil_any {w : World} {v : Value} {l : List Mi} (h : IsOps w v l) (hw : WordsM l) (hs : SoundAll l) (R : Nat → Int) (hR : ∀ k, Cp.W32 (R k)) (cnt : Int) :
    Calls Tryd.prog 17 #[v, .agg (cellsX R), .int .i64 cnt] w fun e w' => e = .returned (.agg (cellsX (untilV cnt l (putR R 0 0)))) ∧ Below w.heap.size w w' := by
  obtain ⟨r1, r2, r3, r4, r5, r6, r7, r8, r9⟩ := rowRules
  obtain ⟨s1, s2, s3, s4, s5, s6, s7, s8, s9, s10⟩ := irSizes
  obtain ⟨q1, q2, q3, q4, q5, q6⟩ := irWhole
  obtain ⟨p1, p2, p3, p4, p5, p6, p7⟩ := irParts
  obtain ⟨k1, k2⟩ := rowSets
  obtain ⟨ad, n, c, rfl, hn, hmx, hm⟩ := h.open'
  unfold maxLen at hmx
  have hz := set_X R 0 (by omega) 0
  have gz := p7 R 0 (by omega)
  have h0 := HeldU.new w (putR R 0 0)
  have hR0 : Hid (∀ k, Cp.W32 (putR R 0 0 k)) := hide (putR_w hR Cp.w0 0)
  replace hm := hide hm
  replace hn := hide hn
  replace hw := hide hw
  replace hs := hide hs
  clear h hR
  obtain ⟨F, hF⟩ : ∃ F, untilV cnt l (putR R 0 0) = F := ⟨_, rfl⟩
  rw [hF]
  replace hF := hide hF
  go_enter Tryd.func17, Tryd.ntmps17
  go_wp2_with fail
  go_loopw [7] (fun i wr => ∃ (k : Nat) (Q : Nat → Int), k ≤ n ∧ i = .int .i64 (k : Int) ∧ Hid (untilV cnt (l.drop k) Q = F) ∧ Hid (∀ k, Cp.W32 (Q k)) ∧ Hid (HeldU w Q wr)) (fun i _ => n - (intOf i).toNat)
  case atStart => exact ⟨0, _, Nat.zero_le _, rfl, hide hF.out, hR0, hide h0⟩
  case round =>
    obtain ⟨k, Q, hk, rfl, hU, hQ, hH⟩ := hrel
    clear h0 hR0 hF hz gz
    by_cases hlt : k < n
    · have dk : decide ((k : Int) < (n : Int)) = true := by simp; omega
      obtain ⟨m, hm0⟩ : ∃ m, l[k]? = some m := ⟨l[k]'(by have := hn.out; omega), List.getElem?_eq_getElem _⟩
      obtain ⟨g, o, rfl, hg, hM0⟩ := hm.out k m hm0
      have hld : (loadCellsFrom ⟨g, o + k * N6, none⟩ 0 N6 #[]).run Tryd.prog wr = .ok (cellsM m) wr := (hM0.on hg hH.out.2.2).load
      have hmw := hide (hw.out k m hm0)
      have hsd := sound_is (hs.out k m hm0)
      have hU2 := hU.out
      rw [drop_at hm0] at hU2
      unfold untilV at hU2
      replace hU2 := hide hU2
      clear hU hm0 hM0
      have hH1 := hide (hH.out.on (grow wr (.cells (cellsM m) 28)))
      rcases hsd with ⟨hk0, hwr⟩ | ⟨hkr, hwr, hra, hrb, hrd⟩
      · have e0 : (m.k == 0) = true := by simpa using hk0
        have hU3 : Hid (untilV cnt (l.drop (k + 1)) Q = F) := hide (by
          rw [← hU2.out]
          have : behV m Q = Q := by unfold behV; rw [hwr]; rfl
          rw [this]
          split <;> rfl)
        clear hU2 hH hwr hmw
        go_wp2
        go_roundw
        case rel => exact ⟨k + 1, Q, by omega, by go_num, hU3, hQ, hH1⟩
        case measure => simp [intOf]; omega
      · have e0 : (m.k == 0) = false := by simp; omega
        by_cases e1 : m.c ≤ cnt
        · have d1 : decide (cnt < m.c) = false := by simp; omega
          have hU3 : Hid (untilV cnt (l.drop (k + 1)) (behV m Q) = F) := hide (by have := hU2.out; rwa [if_pos e1] at this)
          have hQ2 := hide (behV_w hmw.out hQ.out)
          have bx := hide (Box.new wr (cellsM m) 28)
          clear hU2 e1
          go_wp2_with fail
          obtain ⟨z0, z1, z2, z3, z4, z5⟩ : _ ∧ _ ∧ _ ∧ _ ∧ _ ∧ _ := bx.out.six'
          have hLn : w.heap.size + 1 < wr.heap.size := hH.out.2.1.2.2
          generalize World.alloc wr _ = W at *
          generalize wr.heap.size = LB at *
          clear hld hH
          go_region
          go_upto_if 37 with fail
          go_cut [9] from 12 to 58 (fun s9 x => s9 = .int .u32 (meanO m.a m.m Q) ∧ x = W.drew)
          case first =>
            by_cases ea : m.a < 32
            · obtain ⟨ka, hka⟩ : ∃ ka : Nat, m.a = (ka : Int) := ⟨m.a.toNat, by omega⟩
              have ka32 : ka < 32 := by omega
              have dA : decide (m.a < 32) = true := by simpa using ea
              have hme : meanO m.a m.m Q = Q ka := by unfold meanO; rw [if_neg (by omega), hka, Int.toNat_natCast, if_pos (by simp [regB]; omega)]
              have cX := (hH1.out.1.cell ka).trans (get_X Q ka ka32)
              have fX := hH1.out.1.free ka
              rw [hka] at z2
              have kaI : (ka : Int) < 32 := by omega
              have dB : decide ((ka : Int) < 32) = true := by simpa using kaI
              clear hra hrb hrd hkr hka
              go_wp2_with fail
              go_meet
              case rel => exact ⟨by rw [hme], rfl⟩
            · have ea' : m.a = 32 := by omega
              have dA : decide (m.a < 32) = false := by simpa using ea
              have hme : meanO m.a m.m Q = m.m := by unfold meanO; rw [if_pos ea']
              clear ea'
              go_wp2_with fail
              go_meet
              case rel => exact ⟨by rw [hme], rfl⟩
          case rest =>
            obtain ⟨rfl, rfl⟩ := hcut
            go_upto_if 44 with fail
            go_cut [10] from 12 to 58 (fun s9 x => s9 = .int .u32 (meanO m.b m.m Q) ∧ x = W.drew)
            case first =>
              by_cases ea : m.b < 32
              · obtain ⟨ka, hka⟩ : ∃ ka : Nat, m.b = (ka : Int) := ⟨m.b.toNat, by omega⟩
                have ka32 : ka < 32 := by omega
                have hme : meanO m.b m.m Q = Q ka := by unfold meanO; rw [if_neg (by omega), hka, Int.toNat_natCast, if_pos (by simp [regB]; omega)]
                have cX := (hH1.out.1.cell ka).trans (get_X Q ka ka32)
                have fX := hH1.out.1.free ka
                have dA : decide (m.b < 32) = true := by simpa using ea
                rw [hka] at z3
                have kaI : (ka : Int) < 32 := by omega
                have dB : decide ((ka : Int) < 32) = true := by simpa using kaI
                clear hra hrb hrd hkr hka
                go_wp2_with fail
                go_meet
                case rel => exact ⟨by rw [hme], rfl⟩
              · have ea' : m.b = 32 := by omega
                have dA : decide (m.b < 32) = false := by simpa using ea
                have hme : meanO m.b m.m Q = m.m := by unfold meanO; rw [if_pos ea']
                clear ea'
                go_wp2_with fail
                go_meet
                case rel => exact ⟨by rw [hme], rfl⟩
            case rest =>
              obtain ⟨rfl, rfl⟩ := hcut
              go_wp2_with fail
              obtain ⟨dn, hdn, hd32⟩ : ∃ dn : Nat, m.d = (dn : Int) ∧ dn < 32 := ⟨m.d.toNat, by omega, by omega⟩
              have hdI : (dn : Int) < 32 := by omega
              obtain ⟨V, hV⟩ : ∃ V, valV m.k (meanO m.a m.m Q) (meanO m.b m.m Q) m.m = V := ⟨_, rfl⟩
              have c3 := hide (rvalue_any m.k _ _ m.m hkr (meanO_w (n := m.a) hmw.out hQ.out) (meanO_w (n := m.b) hmw.out hQ.out))
              rw [hV] at c3
              have hbe : behV m Q = putR Q dn V := by unfold behV; rw [if_pos hwr, hdn, Int.toNat_natCast, hV]
              have hU4 := hU3.out
              rw [hbe] at hU4
              replace hU4 := hide hU4
              have hQ3 := hQ2.out
              rw [hbe] at hQ3
              replace hQ3 := hide hQ3
              have hsx := hide (set_X Q dn hd32 V)
              have hH2 := hide (hH1.out.on (Below.refl _ _).drew.drew)
              have bx2 := hide (bx.out.on (Below.refl _ _).drew.drew)
              rw [hdn] at z1
              replace hdn := hide hdn
              generalize meanO m.a m.m Q = A at *
              generalize meanO m.b m.m Q = B at *
              clear hV hbe hwr hra hrb hrd hkr hU3 hQ2 hH1 bx z2 z3 z5
              refine wp_region_held_drew (S := fun y => y.cell? ⟨LB, 0, none⟩ = some (.int .i64 m.k) ∧ y.cell? ⟨LB, 1, none⟩ = some (.int .i64 (dn : Int)) ∧ y.cell? ⟨LB, 4, none⟩ = some (.int .u32 m.m)) (by kernel_rfl) ⟨z0, z1, z4⟩ (fun hHeld => ?_)
              clear z0 z1 z4
              refine wpAnyH_take (i := 0) (v := ?_) rfl (by kernel_rfl) (by kernel_rfl) (by kernel_rfl) (fun _ _ _ h => h) (Or.inl ⟨by rfl, ?_⟩) (by assumption) ?_
              rotate_left
              · intro y hSw
                obtain ⟨l0, l1, l4⟩ := hSw
                go_simp
                try with_reducible rfl
              try simp only [Act.put, List.setIfInBounds_toArray, List.set_cons_zero, List.set_cons_succ]
              refine wpAnyH_take (i := 1) (v := ?_) rfl (by kernel_rfl) (by kernel_rfl) (by kernel_rfl) (fun _ _ _ h => h) (Or.inl ⟨by rfl, ?_⟩) (by assumption) ?_
              rotate_left
              · intro y hSw
                obtain ⟨l0, l1, l4⟩ := hSw
                go_simp
                try with_reducible rfl
              try simp only [Act.put, List.setIfInBounds_toArray, List.set_cons_zero, List.set_cons_succ]
              refine wpAnyH_take (i := 2) (v := ?_) rfl (by kernel_rfl) (by kernel_rfl) (by kernel_rfl) (fun _ _ _ h => h) (Or.inl ⟨by rfl, ?_⟩) (by assumption) ?_
              rotate_left
              · intro y hSw
                obtain ⟨l0, l1, l4⟩ := hSw
                go_simp
                try with_reducible rfl
              try simp only [Act.put, List.setIfInBounds_toArray, List.set_cons_zero, List.set_cons_succ]
              refine wpAnyH_take (i := 3) (v := ?_) rfl (by kernel_rfl) (by kernel_rfl) (by kernel_rfl) (fun _ _ _ h => h) (Or.inl ⟨by rfl, ?_⟩) (by assumption) ?_
              rotate_left
              · intro y hSw
                obtain ⟨l0, l1, l4⟩ := hSw
                go_simp
                try with_reducible rfl
              try simp only [Act.put, List.setIfInBounds_toArray, List.set_cons_zero, List.set_cons_succ]
              refine wpAnyH_take (i := 4) (v := ?_) rfl (by kernel_rfl) (by kernel_rfl) (by kernel_rfl) (fun _ _ _ h => h) (Or.inl ⟨by rfl, ?_⟩) (by assumption) ?_
              rotate_left
              · intro y hSw
                obtain ⟨l0, l1, l4⟩ := hSw
                go_simp
                try with_reducible rfl
              try simp only [Act.put, List.setIfInBounds_toArray, List.set_cons_zero, List.set_cons_succ]
              refine wpAnyH_take (i := 5) (v := ?_) rfl (by kernel_rfl) (by kernel_rfl) (by kernel_rfl) (fun _ _ _ h => h) (Or.inl ⟨by rfl, ?_⟩) (by assumption) ?_
              rotate_left
              · intro y hSw
                obtain ⟨l0, l1, l4⟩ := hSw
                go_simp
                try with_reducible rfl
              try simp only [Act.put, List.setIfInBounds_toArray, List.set_cons_zero, List.set_cons_succ]
              refine wpAnyH_take (i := 6) (v := ?_) rfl (by kernel_rfl) (by kernel_rfl) (by kernel_rfl) (fun _ _ _ h => h) (Or.inl ⟨by rfl, ?_⟩) (by assumption) ?_
              rotate_left
              · intro y hSw
                obtain ⟨l0, l1, l4⟩ := hSw
                go_simp
                try with_reducible rfl
              try simp only [Act.put, List.setIfInBounds_toArray, List.set_cons_zero, List.set_cons_succ]
              refine wpAnyH_take (i := 7) (v := ?_) rfl (by kernel_rfl) (by kernel_rfl) (by kernel_rfl) (fun _ _ _ h => h) (Or.inl ⟨by rfl, ?_⟩) (by assumption) ?_
              rotate_left
              · intro y hSw
                obtain ⟨l0, l1, l4⟩ := hSw
                go_simp
                try with_reducible rfl
              try simp only [Act.put, List.setIfInBounds_toArray, List.set_cons_zero, List.set_cons_succ]
              refine wpAnyH_ready (rs := [8]) (by kernel_rfl) (by simp) ?_
              refine AllReadyH.cons rfl (fun K hK => ?_) AllReadyH.nil
              go_simp
              refine (c3.out _).mono ?_
              rintro e y8 ⟨rfl, rfl⟩
              go_wp2_with fail
              refine hK.out _ _ (hHeld) (fun hHeld => ?_)
              clear hK K
              try simp only [Act.put, List.setIfInBounds_toArray, List.set_cons_zero, List.set_cons_succ]
              refine wpAnyH_take (i := 9) (v := ?_) rfl (by kernel_rfl) (by kernel_rfl) (by kernel_rfl) (fun _ _ _ h => h) (Or.inl ⟨by rfl, ?_⟩) (by assumption) ?_
              rotate_left
              · intro y hSw
                obtain ⟨l0, l1, l4⟩ := hSw
                go_simp
                try with_reducible rfl
              try simp only [Act.put, List.setIfInBounds_toArray, List.set_cons_zero, List.set_cons_succ]
              refine wpAnyH_ready (rs := [10]) (by kernel_rfl) (by simp) ?_
              refine AllReadyH.cons rfl (fun K hK => ?_) AllReadyH.nil
              have cX := hH2.out.1.cell dn
              have fX := hH2.out.1.free dn
              rw [get_X Q dn hd32] at cX
              have e3 := setCell_row w.heap.size _ dn (.int .u32 V) hH2.out.1.1
              rw [hH2.out.1.2.1, hsx.out] at e3
              go_simp
              refine hK.out _ _ (⟨(bx2.out.far w.heap.size _ (by omega)).cell 0, ((bx2.out.far w.heap.size _ (by omega)).cell 1).trans (congrArg (fun x => some (Value.int .i64 x)) hdn.out), (bx2.out.far w.heap.size _ (by omega)).cell 4⟩) (fun hHeld => ?_)
              clear hK K
              try simp only [Act.put, List.setIfInBounds_toArray, List.set_cons_zero, List.set_cons_succ]
              have H2 := hide (hH2.out.put (putR Q dn V))
              clear cX fX e3 hHeld hH2 bx2
              refine wpAnyH_done (by kernel_rfl) ?_ _
              go_wp2
              go_roundw
              case rel => exact ⟨k + 1, _, by omega, by go_num, hU4, hQ3, H2⟩
              case measure => simp [intOf]; omega
        · have d1 : decide (cnt < m.c) = true := by simp; omega
          have hU3 : Hid (untilV cnt (l.drop (k + 1)) Q = F) := hide (by have := hU2.out; rwa [if_neg e1] at this)
          clear e1 hU2 hH hwr hmw
          go_wp2
          go_roundw
          case rel => exact ⟨k + 1, Q, by omega, by go_num, hU3, hQ, hH1⟩
          case measure => simp [intOf]; omega
    · have dk : decide ((k : Int) < (n : Int)) = false := by simp; omega
      have hF : Q = F := by rw [← hU.out, List.drop_eq_nil_of_le (by have := hn.out; omega)]; rfl
      subst hF
      obtain ⟨⟨x1, x2, x3⟩, ⟨y1, y2, y3⟩, b4⟩ := hH.out
      clear hU hH hm hw
      go_wp2
      refine bodyPost_ret (v := .agg (cellsX Q)) (by simp [results, Tryd.results17, go_sem, *]) rfl ⟨rfl, ?_⟩
      exact below_setRow b4 (by omega) _

end Go.Proofs.YtfnmihjchlljbaaDoor.Ir
