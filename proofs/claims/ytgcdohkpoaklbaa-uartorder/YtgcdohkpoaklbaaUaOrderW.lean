/- What comes in is read in order, each byte once; what finds 16 waiting is lost. -/
import Derived.Test.YtgcdohkpoaklbaaUaOrderM
import Derived.Deep.RegionHeld3
import Derived.Deep.CutRange
import Derived.Maps.AppendAt
namespace Go.Proofs.Ytgcdohkpoaklbaa
open Go.RowKit
set_option linter.unusedVariables false
set_option linter.unusedSimpArgs false

theorem Rat.of_heap {w y : World} {b : Nat} {r : Ua} (h : Rat w b r) (e : y.heap[b]? = w.heap[b]?) : Rat y b r := by
  refine ⟨by rw [isRow_of e]; exact h.1, by rw [rowAt_of e]; exact h.2.1, ?_⟩
  have hl := h.2.2
  rw [Array.getElem?_eq_getElem hl] at e
  exact (Array.getElem?_eq_some_iff.1 e).1

/-- What a byte that comes in reads, behind a call. -/
theorem so_on {w x y : World} {I : ByteArray} {v : Value} {b o : Nat} {z : Int} (hb : b < w.heap.size) (h : x.cell? ⟨b, o, none⟩ = some (.int .i64 z) ∧ St w I I v x) (hn : Below x.heap.size x y) :
    (loadCellsFrom ⟨w.heap.size + 1, 0, none⟩ 0 N3 #[]).run Try.prog y = .ok (cellsU (UI I)) y ∧ y.cell? ⟨b, o, none⟩ = some (.int .i64 z) ∧ St w I I v y :=
  ⟨(h.2.on hn).rat.load, by rw [hn.cell (p := ⟨b, o, none⟩) (Nat.lt_of_lt_of_le hb h.2.b.size)]; exact h.1, h.2.on hn⟩

theorem so_far {w x : World} {I : ByteArray} {v : Value} {b o : Nat} {z : Int} (hb : b < w.heap.size) (h : x.cell? ⟨b, o, none⟩ = some (.int .i64 z) ∧ St w I I v x) (g : Nat) (c : Array Value) (hg : w.heap.size + 1 < g) (hv : v.ownBlock ≠ some g) :
    (loadCellsFrom ⟨w.heap.size + 1, 0, none⟩ 0 N3 #[]).run Try.prog (x.setRow g c) = .ok (cellsU (UI I)) (x.setRow g c) ∧ (x.setRow g c).cell? ⟨b, o, none⟩ = some (.int .i64 z) ∧ St w I I v (x.setRow g c) :=
  ⟨(h.2.far g c hg hv).rat.load, by rw [cell_setRow_lt _ _ _ _ _ (by omega)]; exact h.1, h.2.far g c hg hv⟩

/-- A block that was made ahead of a call, behind the call and a store. -/
theorem set_new {w' x : World} {L : Nat} {u q : Ua} (h : Rat x L u) (hk : ((∀ b, b < x.heap.size → rowAt w' b = rowAt x b) ∧ (∀ b, b < x.heap.size → isRow w' b = isRow x b)) ∧ x.heap.size ≤ w'.heap.size) : Rat (w'.setRow L (cellsU q)) L q :=
  Rat.set (r := u) ⟨by rw [hk.1.2 _ h.2.2]; exact h.1, by rw [hk.1.1 _ h.2.2]; exact h.2.1, Nat.lt_of_lt_of_le h.2.2 hk.2⟩ q

theorem not_own {v : Value} {w x : World} {I J : ByteArray} (h : St w I J v x) {g : Nat} (hg : x.heap.size ≤ g) : v.ownBlock ≠ some g := fun e => by
  have := (h.o.lt g e).2
  omega

theorem two_ways {k n m : Nat} (h : ¬ (k < n ∧ k < m)) : (decide ((k : Int) < (n : Int)) = true ∧ (k : Int) < (n : Int) ∧ decide ((k : Int) < (m : Int)) = false ∧ ¬ (k : Int) < (m : Int)) ∨ (decide ((k : Int) < (n : Int)) = false ∧ ¬ (k : Int) < (n : Int)) := by
  by_cases h1 : k < n
  · exact Or.inl ⟨by simp; omega, by omega, by simp; omega, by omega⟩
  · exact Or.inr ⟨by simp; omega, by omega⟩

set_option maxRecDepth 100000 in
set_option maxHeartbeats 4000000 in
theorem order_walk (w : World) (v0 : Value) (zs : List Int) (hv : IsInts w v0 zs) :
    Calls Try.prog 5 #[v0] w fun e w' => e = .returned (.bool true) ∧ Below w.heap.size w w' := by
  obtain ⟨t1, t2, t3, t4, t5, t6, t7, t8, t9⟩ := uaRules
  obtain ⟨p0, p1, p2⟩ := uaParts
  obtain ⟨d1, d2, d3⟩ := uaDrew
  have n0 : ¬ cellsU U0 = #[] := by unfold cellsU; simp
  have hi0 : (Try.prog.info? 24).map (fun i => (i.zero, i.size, i.bytes)) = some (some (.int .u32 0), 1, 4) := by kernel_rfl
  obtain ⟨i0, hi, hz0, hz1, hz2⟩ := info_parts hi0
  obtain ⟨ad, n, cp, rfl, hn, hnl, hx⟩ := hv.open'
  replace hn := hide hn
  replace hx := hide hx
  unfold maxLen at hnl
  clear hv
  have hst := hide (St.start w)
  go_enter Try.func5, Try.ntmps5
  go_wp2
  go_loopw [4, 5] (fun a i wr => ∃ (k : Nat) (I : ByteArray), k ≤ 200 ∧ i = .int .i64 k ∧ I.size ≤ 16 ∧ Hid (St w I I a wr)) (fun _ i _ => 200 - (intOf i).toNat)
  case atStart => exact ⟨0, ⟨#[]⟩, by omega, rfl, by decide, hst⟩
  case round =>
    clear hst
    obtain ⟨k, I, hk, rfl, hI, hS⟩ := hrel
    obtain ⟨ao, cap, rfl, hcap⟩ := own_len hS.out.o
    by_cases hlt : k < n ∧ k < 200
    · obtain ⟨k1, k2⟩ := hlt
      have hk200 : decide ((k : Int) < 200) = true := by simp; omega
      obtain ⟨z, hz⟩ : ∃ z, zs[k]? = some z := ⟨_, List.getElem?_eq_getElem (by rw [← hn.out]; exact k1)⟩
      obtain ⟨hzb, b, off, rfl, hbw, hc0⟩ := hx.out k z hz
      have hc1 : wr.cell? ⟨b, off + k, none⟩ = some (.int .i64 z) := by rw [hS.out.b.cell (p := ⟨b, off + k, none⟩) hbw]; exact hc0
      clear hz hc0 hx hn
      obtain ⟨c, hc⟩ : ∃ c : Nat, z % 256 = c := ⟨(z % 256).toNat, by omega⟩
      have hc256 : c < 256 := by omega
      have h255 := and255 z
      rw [hc] at h255
      have hw8 : IntKind.u8.wrap z = c := by rw [IntKind.wrap_u8]; omega
      replace hc := hide hc
      cases hbit : (bits .and .i64 z 256 == 0)
      · have l1 := hS.out.rat.load
        have c2 := hide fun W => read_in I hI W
        obtain ⟨I1, hI1e⟩ : ∃ I1, I.extract 1 I.size = I1 := ⟨_, rfl⟩
        have hI1s : I1.size = I.size - 1 := by rw [← hI1e, ByteArray.size_extract]; omega
        have hI1 : I1.size ≤ 16 := by omega
        rw [hI1e] at c2
        by_cases hz : I.size = 0
        · have e1 : I1 = I := by rw [← hI1e]; exact none_left hz
          rw [show ((byteN I 0 : Nat) : Int) = 0 by rw [byteN_out I 0 (by omega)]; rfl] at c2
          have hg0 : decide ((0 : Int) < (I.size : Int)) = false := decide_eq_false (by omega)
          have hg1 : decide (0 < I.size) = false := decide_eq_false (by omega)
          clear hI1e hI1s
          subst e1
          replace hz := hide hz
          go_wp2_with fail
          refine (c2.out _).mono ?_
          rintro e w1 ⟨rfl, b1⟩
          have hT1 := (hS.out.on b1).on (grow w1 (.cells (cellsU (UI I1)) 23))
          have RL := Rat.new w1 (UI I1) 23
          clear b1 hS l1 c2 hc1
          go_upto_region 14 with fail
          generalize w1.alloc (.cells (cellsU (UI I1)) 23) = x1 at *
          generalize w1.heap.size = L at *
          have z3 := RL.load
          have z4 := hT1.rat.1
          have z5 := hT1.rat.2.1
          have hF := hide (hT1.put I1)
          clear hT1 RL
          go_wp2_with fail
          generalize x1.setRow (w.heap.size + 1) (cellsU (UI I1)) = x5 at *
          clear z3 z4 z5
          have c3 := hide fun W => count_in I1 hI1 W
          refine (c3.out _).mono ?_
          rintro e w6 ⟨rfl, b6⟩
          have hF2 := hide ((hF.out.on b6).on (grow w6 (.cells (cellsU (UI I1)) 23)))
          clear b6 hF c3
          go_wp2
          go_roundw
          case rel => exact ⟨k + 1, I1, by omega, by go_num, hI1, hF2.out⟩
          case measure => simp [intOf]; omega
        · have hg0 : decide ((0 : Int) < (I.size : Int)) = true := decide_eq_true (by omega)
          have hg1 : decide (0 < I.size) = true := decide_eq_true (by omega)
          obtain ⟨g, rfl⟩ : ∃ g, ao = some ⟨g, 0, none⟩ := by
            rcases hS.out.o.2 with ⟨-, h0⟩ | ⟨g, cap', cur, he, -⟩
            · omega
            · injection he with h1 h2 h3
              exact ⟨g, h1⟩
          go_wp2_with fail
          refine (c2.out _).mono ?_
          rintro e w1 ⟨rfl, b1⟩
          have hT := (hS.out.on b1).on (grow w1 (.cells (cellsU (UI I1)) 23))
          have RL := Rat.new w1 (UI I1) 23
          clear b1 hS l1 c2 hc1
          go_upto_region 14 with fail
          generalize w1.alloc (.cells (cellsU (UI I1)) 23) = x1 at *
          generalize w1.heap.size = L at *
          have h0c := World.ownsRow.cells hT.o (g := g) rfl 0 _ (wv_head I (by omega))
          rw [Addr.add_lit, Nat.add_zero] at h0c
          have hsz := hT.b.size
          have hlt3 := hT.lt
          have hRL := RL.2.2
          by_cases hc1 : cap = 1
          · have hs1 : I.size = 1 := by omega
            have hI0 : I1.size = 0 := by omega
            have hw0 : wv I1 = [] := List.eq_nil_of_length_eq_zero (by rw [wv_length]; exact hI0)
            have hm0 : (x1.alloc (.cells #[] 24)).ownsRow w.heap.size 24 1 (.slice (some ⟨x1.heap.size, 0, none⟩) 0 0) I1.size (wv I1) := by
              rw [hI0, hw0]
              exact World.ownsRow_made x1 #[] 0 hT.b.size (Nat.zero_le _) (by simp)
            have hT1 : St w I I1 (.slice (some ⟨x1.heap.size, 0, none⟩) 0 0) (x1.alloc (.cells #[] 24)) := ⟨(hT.on (grow _ _)).u, hm0, (hT.on (grow _ _)).b⟩
            replace RL := RL.on (grow x1 (.cells #[] 24))
            clear hm0 hT hw0 hI1e
            go_upto_region 17 with fail
            generalize x1.alloc (.cells #[] 24) = w4 at *
            have z3 := RL.load
            have z4 := hT1.rat.1
            have z5 := hT1.rat.2.1
            have hF := hide (hT1.put I1)
            clear hT1 RL
            go_wp2_with fail
            generalize w4.setRow (w.heap.size + 1) (cellsU (UI I1)) = x5 at *
            clear z3 z4 z5
            have c3 := hide fun W => count_in I1 hI1 W
            refine (c3.out _).mono ?_
            rintro e w6 ⟨rfl, b6⟩
            have hF2 := hide ((hF.out.on b6).on (grow w6 (.cells (cellsU (UI I1)) 23)))
            clear b6 hF c3
            go_wp2
            go_roundw
            case rel => exact ⟨k + 1, I1, by omega, by go_num, hI1, hF2.out⟩
            case measure => simp [intOf]; omega
          · have hm0 : (x1.alloc (.cells #[] 24)).ownsRow w.heap.size 24 1 (.slice (some ⟨x1.heap.size, 0, none⟩) 0 0) 0 [] := World.ownsRow_made x1 #[] 0 hT.b.size (Nat.zero_le _) (by simp)
            have hcellA := World.ownsRow.cells (hT.o.alloc (.cells #[] 24)) (g := g) rfl
            have hnews : ∀ j u, (wv I1)[j]? = some u → (x1.alloc (.cells #[] 24)).cell? ((⟨g, 1, none⟩ : Addr).add j) = some u := by
              intro j u hj
              rw [← hI1e, wv_tail, List.getElem?_drop] at hj
              have := hcellA (1 + j) u hj
              rw [Addr.add_lit, Nat.zero_add] at this
              rw [Addr.add_lit]
              exact this
            have hnl2 : (wv I1).length = (I.size - 1) * 1 := by rw [wv_length, hI1s, Nat.mul_one]
            have hone := wv_one I1
            have hTA := hide (hT.on (grow x1 (.cells #[] 24)))
            replace hcellA := hide hcellA
            replace RL := hide RL
            replace hT := hide hT
            go_wp2_with (at_builtin; refine wpList_append_own _ rfl _ _ 40 rfl w.heap.size 24 i0 (.int .u32 0) 1 4 Try.underlying40 hi hz0 hz1 hz2 rfl (by decide) _ _ _ rfl hm0 ⟨g, 1, none⟩ (I.size - 1) (cap - 1) (wv I1) rfl hnl2 hnews hone (by unfold maxLen; omega) (by omega) (by simp; omega) ?_)
            intro v' w4 hown' hgrow _
            rw [← hI1s] at hown'
            have hne1 : (Value.slice (some ⟨x1.heap.size, 0, none⟩) 0 0).ownBlock ≠ some (w.heap.size + 1) := by
              intro e
              simp [Value.ownBlock] at e
              omega
            have hown1 : ∀ q, (Value.slice (some ⟨x1.heap.size, 0, none⟩) 0 0).ownBlock = some q → w.heap.size ≤ q := by
              intro q e
              simp [Value.ownBlock] at e
              omega
            have hneL : some L ≠ (Value.slice (some ⟨x1.heap.size, 0, none⟩) 0 0).ownBlock := by
              intro e
              simp [Value.ownBlock] at e
              omega
            have hT1 := hTA.out.app hown' hgrow hne1 hown1
            replace RL := RL.out.on (grow x1 (.cells #[] 24))
            replace RL := RL.of_heap (y := w4) (hgrow.block L RL.2.2 hneL)
            obtain ⟨a', c', rfl, -⟩ := own_len hT1.o
            clear hown' hgrow hm0 hcellA hnews hnl2 hone hTA hT h0c hI1s
            have z3 := RL.load
            have z4 := hT1.rat.1
            have z5 := hT1.rat.2.1
            have hF := hide (hT1.put I1)
            clear hT1 RL
            go_wp2_with fail
            generalize w4.setRow (w.heap.size + 1) (cellsU (UI I1)) = x5 at *
            clear z3 z4 z5
            have c3 := hide fun W => count_in I1 hI1 W
            refine (c3.out _).mono ?_
            rintro e w6 ⟨rfl, b6⟩
            have hF2 := hide ((hF.out.on b6).on (grow w6 (.cells (cellsU (UI I1)) 23)))
            clear b6 hF c3
            go_wp2
            go_roundw
            case rel => exact ⟨k + 1, I1, by omega, by go_num, hI1, hF2.out⟩
            case measure => simp [intOf]; omega
      · have hlt2 := hS.out.lt
        have hvne := hide (not_own hS.out (Nat.le_refl _))
        have hS0 := so_on hbw ⟨hc1, hS.out⟩ (Below.refl _ wr).drew
        by_cases h16 : I.size < 16
        · have c1 := hide fun W => feed_in I hI c (by omega) (by omega) W
          rw [show feedI I c = I ++ byteT c by unfold feedI; rw [if_pos h16], show decide (I.size < 16) = true by simpa using h16] at c1
          go_wp2_with fail
          go_cut [6, 7] from 31 to 42 (fun p e x => ∃ L : Nat, p = .pointer (some ⟨L, 0, none⟩) ∧ e = .bool true ∧ Hid (Rat x L (UI (I ++ byteT c)) ∧ ¬ w.heap.size + 1 = L ∧ (Value.slice ao I.size cap).ownBlock ≠ some L ∧ x.cell? ⟨b, off + k, none⟩ = some (.int .i64 z) ∧ St w I I (.slice ao I.size cap) x))
          case first =>
            go_region_held3 (fun x => (loadCellsFrom ⟨w.heap.size + 1, 0, none⟩ 0 N3 #[]).run Try.prog x = .ok (cellsU (UI I)) x ∧ x.cell? ⟨b, off + k, none⟩ = some (.int .i64 z) ∧ St w I I (.slice ao I.size cap) x)
              (first | exact hS0 | assumption | exact so_on hbw hT.2 (grow _ _) | exact so_far hbw hT.2 _ _ hlt2 hvne.out | exact so_on hbw hS0.2 (grow _ _) | exact so_on hbw (And.right (by assumption)) (grow _ _) | exact so_on hbw (And.right (by assumption)) (grow _ _).drew)
              (first | (go_at_call 13; refine (c1.out _).mono ?_; rintro e w' ⟨rfl, hbn⟩; have hT := so_on hbw (And.right (by assumption)) hbn; have hk1 := And.intro (brow hbn) hbn.size; clear hbn))
            · go_wp2_with fail
              go_meet
              case rel =>
                have hX := so_on hbw hT.2 (grow w' (.cells (cellsU (UI (I ++ byteT c))) 23))
                exact ⟨w'.heap.size, rfl, rfl, Rat.new _ _ _, by have := hT.2.2.lt; omega, not_own hT.2.2 (Nat.le_refl _), hX.2.1, hX.2.2⟩
            · go_wp2_with fail
              go_meet
              case rel =>
                have hX := so_far hbw hT.2 wr.heap.size (cellsU (UI (I ++ byteT c))) hlt2 hvne.out
                exact ⟨wr.heap.size, rfl, rfl, set_new (Rat.new wr.drew U0 _) hk1, by omega, hvne.out, hX.2.1, hX.2.2⟩
          case rest =>
            obtain ⟨L, rfl, rfl, hX⟩ := hcut
            clear hS0 hvne hS c1 hlt2 hc1
            have q1 := hX.out.2.2.2.1
            have hT0 := hX.out.2.2.2.2
            have hsz := hT0.b.size
            have hlen : decide ((I.size : Int) < 16) = true := by simp; omega
            have hIs : ((I ++ byteT c)).size = I.size + 1 := by rw [ByteArray.size_append, byteT_size]
            have hwv := wv_push I c hc256
            go_wp2_with (at_builtin; refine wpList_append_own _ rfl _ _ 40 rfl w.heap.size 24 i0 (.int .u32 0) 1 4 Try.underlying40 hi hz0 hz1 hz2 rfl (by decide) _ _ _ rfl (hT0.o.alloc _) ⟨wc.heap.size, 0, none⟩ 1 1 [.int .u32 (c : Int)] rfl rfl (cell_one_new _ _ _) (by simp [Value.oneCell']) (by unfold maxLen; omega) (by omega) (by simp; omega) ?_)
            intro v' w4 hown' hgrow _
            rw [← hIs, ← hwv] at hown'
            have hA := hT0.on (grow wc (.cells #[.int .u32 (c : Int)] 24))
            have hT1 := hA.app hown' hgrow hA.ne hA.own
            have RL := (hX.out.1.on (grow wc (.cells #[.int .u32 (c : Int)] 24))).of_heap (y := w4) (hgrow.block L (hX.out.1.on (grow wc (.cells #[.int .u32 (c : Int)] 24))).2.2 (fun e => hX.out.2.2.1 e.symm))
            have z3 := RL.load
            have z4 := hT1.rat.1
            have z5 := hT1.rat.2.1
            have hF := hide (hT1.put (I ++ byteT c))
            have hI1 : (I ++ byteT c).size ≤ 16 := by omega
            clear hX hT0 hA hT1 RL hown' hgrow hwv hIs
            generalize I ++ byteT (c : Int) = I1 at *
            go_wp2
            go_roundw
            case rel => exact ⟨k + 1, I1, by omega, by go_num, hI1, hF.out⟩
            case measure => simp [intOf]; omega
        · have c1 := hide fun W => feed_in I hI c (by omega) (by omega) W
          rw [show feedI I c = I by unfold feedI; rw [if_neg h16], show decide (I.size < 16) = false by simpa using h16] at c1
          go_wp2_with fail
          go_cut [6, 7] from 31 to 42 (fun p e x => ∃ L : Nat, p = .pointer (some ⟨L, 0, none⟩) ∧ e = .bool false ∧ Hid (Rat x L (UI I) ∧ ¬ w.heap.size + 1 = L ∧ (Value.slice ao I.size cap).ownBlock ≠ some L ∧ x.cell? ⟨b, off + k, none⟩ = some (.int .i64 z) ∧ St w I I (.slice ao I.size cap) x))
          case first =>
            go_region_held3 (fun x => (loadCellsFrom ⟨w.heap.size + 1, 0, none⟩ 0 N3 #[]).run Try.prog x = .ok (cellsU (UI I)) x ∧ x.cell? ⟨b, off + k, none⟩ = some (.int .i64 z) ∧ St w I I (.slice ao I.size cap) x)
              (first | exact hS0 | assumption | exact so_on hbw hT.2 (grow _ _) | exact so_far hbw hT.2 _ _ hlt2 hvne.out | exact so_on hbw hS0.2 (grow _ _) | exact so_on hbw (And.right (by assumption)) (grow _ _) | exact so_on hbw (And.right (by assumption)) (grow _ _).drew)
              (first | (go_at_call 13; refine (c1.out _).mono ?_; rintro e w' ⟨rfl, hbn⟩; have hT := so_on hbw (And.right (by assumption)) hbn; have hk1 := And.intro (brow hbn) hbn.size; clear hbn))
            · go_wp2_with fail
              go_meet
              case rel =>
                have hX := so_on hbw hT.2 (grow w' (.cells (cellsU (UI I)) 23))
                exact ⟨w'.heap.size, rfl, rfl, Rat.new _ _ _, by have := hT.2.2.lt; omega, not_own hT.2.2 (Nat.le_refl _), hX.2.1, hX.2.2⟩
            · go_wp2_with fail
              go_meet
              case rel =>
                have hX := so_far hbw hT.2 wr.heap.size (cellsU (UI I)) hlt2 hvne.out
                exact ⟨wr.heap.size, rfl, rfl, set_new (Rat.new wr.drew U0 _) hk1, by omega, hvne.out, hX.2.1, hX.2.2⟩
          case rest =>
            obtain ⟨L, rfl, rfl, hX⟩ := hcut
            clear hS0 hvne hS c1 hlt2 hc1
            have hT0 := hX.out.2.2.2.2
            have hlen : decide ((I.size : Int) < 16) = false := by simp; omega
            have z3 := hX.out.1.load
            have z4 := hT0.rat.1
            have z5 := hT0.rat.2.1
            have hF := hide (hT0.put I)
            clear hX hT0
            go_wp2
            go_roundw
            case rel => exact ⟨k + 1, I, by omega, by go_num, hI, hF.out⟩
            case measure => simp [intOf]; omega
    · have hB := hide hS.out.b
      clear hx hn
      rcases two_ways hlt with ⟨g1, g2, g3, g4⟩ | ⟨g1, g2⟩
      all_goals
        clear hlt
        go_wp2_with fail
        refine (fixed_any _).mono ?_
        rintro e w' ⟨rfl, hbn⟩
        replace hB := hide (onto hB.out (Nat.le_refl _) hbn)
        clear hbn hS
        go_wp2
        go_ret
        exact ⟨rfl, hB.out⟩

end Go.Proofs.Ytgcdohkpoaklbaa
