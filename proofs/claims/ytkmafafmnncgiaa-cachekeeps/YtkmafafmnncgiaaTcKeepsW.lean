/- Layer 16: the walk of CacheKeeps. -/
import Derived.Test.YtkmafafmnncgiaaTcOpen
import Derived.Test.YtkmafafmnncgiaaTcSame2
import Derived.Test.YtkmafafmnncgiaaTcLaw
import Derived.Deep.RegionHeld3
import Derived.Deep.CutRange
namespace Go.Proofs.Ytkmafafmnncgiaa
open Go.RowKit
set_option linter.unusedVariables false
set_option linter.unusedSimpArgs false

set_option maxRecDepth 100000 in
set_option maxHeartbeats 8000000 in
theorem keeps_walk (w : World) (a : Int) (ha : (Lit.int .i64 a).wf = true) (v : Value) (ops : List Oc) (hv : IsOcs w v ops) :
    Calls Try.prog 4 #[.int .i64 a, v] w fun e w' => e = .returned (.bool true) ∧ Below w.heap.size w w' := by
  have hfix := fixed_any
  by_cases hr : 1 ≤ a ∧ a ≤ 64
  · obtain ⟨r, rfl⟩ := Int.eq_ofNat_of_zero_le (show 0 ≤ a by omega)
    have h1 : 1 ≤ r := by omega
    have h64 : r ≤ 64 := by omega
    have cn := ca_new r h1 h64 w
    obtain ⟨ad, n, c, rfl, hn, hmx, hx⟩ := hv.open'
    unfold maxLen at hmx
    replace hx := hide hx
    replace hn := hide hn
    replace hfix := hide hfix
    clear hr ha hv
    go_enter Try.func4, Try.ntmps4
    go_wp2_with fail
    refine cn.mono ?_
    rintro e w1 ⟨cb, F, rfl, C, hb⟩
    replace C := hide C
    replace hb := hide hb
    clear cn
    go_wp2_with fail
    go_loopw [7] (fun i wr => ∃ (k : Nat) (G : Nat → Prop) (L : List Blk), k ≤ n ∧ i = .int .i64 (k : Int) ∧ Hid (Ca w.heap.size wr G cb r L) ∧ Hid (Below w.heap.size w wr)) (fun i _ => n - (intOf i).toNat)
    case atStart => exact ⟨0, F, [], Nat.zero_le _, rfl, C, hb⟩
    case round =>
      clear C hb
      obtain ⟨k, G, L, hk, rfl, C, hb⟩ := hrel
      by_cases h : k < n ∧ k < 100
      · obtain ⟨hk1, hk2⟩ := h
        obtain ⟨o, ho⟩ : ∃ o, ops[k]? = some o := ⟨ops[k]'(by have := hn.out; omega), List.getElem?_eq_getElem _⟩
        obtain ⟨hw, b, off, rfl, hbl, hat⟩ := hx.out k o ho
        obtain ⟨o0, o1, o2, o3, o4⟩ := (hat.keep (hb.out.block b hbl)).five
        have g := grow wr (.cells #[.int .i64 o.k, .int .u32 o.p, .int .i64 o.n, .int .u32 o.s, .int .u32 o.m] 34)
        have BO := Box.new wr #[.int .i64 o.k, .int .u32 o.p, .int .i64 o.n, .int .u32 o.s, .int .u32 o.m] 34
        have C1 := C.out.on g
        have hin := hide C.out.in'
        have hb1 := hide (onto hb.out (Nat.le_refl _) g)
        replace hw := hide hw
        clear C hat ho
        by_cases e3 : o.k = 3
        · have t3 : (o.k == 3) = true := by simpa using e3
          have cf := ca_flush C1
          replace C1 := hide C1
          clear e3 BO
          go_wp2_with fail
          refine cf.mono ?_
          rintro e w2 ⟨rfl, C2, T2⟩
          have hb2 := hide (hb1.out.trans (C1.out.below T2 hb1.out.size))
          have cpl := ca_places C2
          replace C2 := hide C2
          clear cf T2 C1
          go_wp2_with fail
          refine cpl.mono ?_
          rintro e w3 ⟨vp, rfl, R3, h3⟩
          obtain ⟨a3, c3, rfl, -⟩ := R3.shape
          have hb3 := hide (onto hb2.out (Nat.le_refl _) h3)
          have C3 := hide (C2.out.on h3)
          clear cpl R3 h3
          go_wp2
          go_roundw
          case rel => exact ⟨k + 1, G, [], by omega, by go_num, C3, hb3⟩
          case measure => simp [intOf]; omega
        · have t3 : (o.k == 3) = false := by simpa using e3
          by_cases e2 : o.k = 2
          · have t2 : (o.k == 2) = true := by simpa using e2
            obtain ⟨D, hD⟩ : ∃ D, D = hitsL o.p o.s L := ⟨_, rfl⟩
            have hcount := drop_count o.p o.s L
            rw [← hD] at hcount
            have hle := C1.le
            have cpl := ca_places C1
            have p1 : (wr.alloc (.cells #[.int .i64 o.k, .int .u32 o.p, .int .i64 o.n, .int .u32 o.s, .int .u32 o.m] 34)).cell? ⟨wr.heap.size, 1, none⟩ = some (.int .u32 o.p) := BO.cell 1
            have BO1 := hide BO
            replace C1 := hide C1
            clear e2 e3 BO p1
            go_wp2_with fail
            refine cpl.mono ?_
            rintro e w2 ⟨vp, rfl, R2, h2⟩
            obtain ⟨a2, c2, rfl, -⟩ := R2.shape
            have hb2 := hide (onto hb1.out (Nat.le_refl _) h2)
            have C2 := hide (C1.out.on h2)
            have BO2 := BO1.out.on h2
            have p1 : w2.cell? ⟨wr.heap.size, 1, none⟩ = some (.int .u32 o.p) := BO2.cell 1
            have p3 : w2.cell? ⟨wr.heap.size, 3, none⟩ = some (.int .u32 o.s) := BO2.cell 3
            have cd := ca_drop C2.out o.p o.s hw.out.2.1 hw.out.2.2.2.1
            rw [← hD] at cd
            clear cpl R2 h2 C1 BO1 BO2
            go_wp2_with fail
            refine cd.mono ?_
            rintro e w3 ⟨rfl, C3, T3⟩
            have hb3 := hide (hb2.out.trans (C2.out.below T3 hb2.out.size))
            have cpl := ca_places C3
            obtain ⟨M, hM⟩ : ∃ M, M = (dropL o.p o.s L).length := ⟨_, rfl⟩
            obtain ⟨N, hN⟩ : ∃ N, N = L.length := ⟨_, rfl⟩
            rw [← hM] at hcount cpl
            rw [← hN] at hcount hle ⊢
            have t5 : ((D : Int) < 0) = False := by simp
            have t6 : (N : Int) - (D : Int) = (M : Int) := by omega
            replace C3 := hide C3
            clear cd T3 C2 p1 p3 hM hN hD
            go_wp2_with fail
            refine cpl.mono ?_
            rintro e w4 ⟨vp, rfl, R4, h4⟩
            obtain ⟨a4, c4, rfl, -⟩ := R4.shape
            have hb4 := hide (onto hb3.out (Nat.le_refl _) h4)
            have C4 := hide (C3.out.on h4)
            clear cpl R4 h4 C3
            go_wp2
            go_roundw
            case rel => exact ⟨k + 1, G, _, by omega, by go_num, C4, hb4⟩
            case measure => simp [intOf]; omega
          · have t2 : (o.k == 2) = false := by simpa using e2
            have cbk := block_any o hw.out (wr.alloc (.cells #[.int .i64 o.k, .int .u32 o.p, .int .i64 o.n, .int .u32 o.s, .int .u32 o.m] 34))
            simp only [cellsO] at cbk
            replace C1 := hide C1
            replace BO := hide BO
            clear e2 e3
            go_wp2_with fail
            refine cbk.mono ?_
            rintro e w2 ⟨vb, rfl, VB, h2⟩
            have hb2 := hide (onto hb1.out (Nat.le_refl _) h2)
            have C2 := C1.out.on h2
            have BO2 := hide (BO.out.on h2)
            have cpt := ca_put C2 hb2.out.size VB (fun j hj hG => by have := (hin.out j hG).2; have := g.size; omega)
            replace C2 := hide C2
            clear cbk C1 BO VB h2
            clear g
            go_wp2_with fail
            refine cpt.mono ?_
            rintro e w3 ⟨rfl, G3, C3, T3, hG3⟩
            have hb3 := hide (hb2.out.trans (C2.out.below T3 hb2.out.size))
            have BO3 := hide (BO2.out.kept T3 (fun hG => by have := (hin.out _ hG).2; omega))
            have cg := ca_get C3 o.p
            have hgl : getL (putL r L (blkO o)) o.p = some (blkO o) := getL_put r L (blkO o)
            rw [hgl] at cg
            simp only [Option.isSome_some, Option.getD_some] at cg
            replace C3 := hide C3
            have p1 : w3.cell? ⟨wr.heap.size, 1, none⟩ = some (.int .u32 o.p) := BO3.out.cell 1
            clear cpt T3 hG3 hgl C2 BO2 hin
            go_wp2_with fail
            refine cg.mono ?_
            rintro e w4 ⟨v4, rfl, V4, h4⟩
            obtain ⟨u1, u2, u3, rfl, V1, V2, V3, hp5, l1, l2, l3⟩ := V4
            obtain ⟨q1, m1, rfl, -⟩ := V1.shape
            obtain ⟨q2, m2, rfl, -⟩ := V2.shape
            obtain ⟨q3, m3, rfl, -⟩ := V3.shape
            obtain ⟨x, hxo⟩ : ∃ x, x = blkO o := ⟨_, rfl⟩
            rw [← hxo] at V1 V2 V3 hp5 l1 l2 l3 C3 ⊢
            have hxp : Hid (x.pc = o.p) := hide (by rw [hxo]; rfl)
            have g5 := grow w4 (.cells #[.int .u32 x.pc, .slice q1 x.ws.length m1, .slice q2 x.os.length m2, .slice q3 x.ps.length m3] 38)
            have BV := Box.new w4 #[.int .u32 x.pc, .slice q1 x.ws.length m1, .slice q2 x.os.length m2, .slice q3 x.ps.length m3] 38
            have VX : BlkAt w4 (fun k => w3.heap.size ≤ k) (.agg #[.int .u32 x.pc, .slice q1 x.ws.length m1, .slice q2 x.os.length m2, .slice q3 x.ps.length m3]) x := ⟨_, _, _, rfl, V1, V2, V3, hp5, l1, l2, l3⟩
            replace VX := hide (VX.on g5)
            have hb5 := hide (onto (onto hb3.out (Nat.le_refl _) h4) (Nat.le_refl _) g5)
            have C5 := (C3.out.on h4).on g5
            have BO5 := hide ((BO3.out.on h4).on g5)
            have cpl := ca_places C5
            replace C5 := hide C5
            replace BV := hide BV
            replace hxo := hide hxo
            clear cg C3 BO3 p1 V1 V2 V3 hp5 l1 l2 l3 h4 g5
            go_wp2_with fail
            refine cpl.mono ?_
            rintro e w6 ⟨vp, rfl, R6, h6⟩
            obtain ⟨A, hA⟩ := putL_last r L x
            obtain ⟨L', hL'⟩ : ∃ L', L' = putL r L x := ⟨_, rfl⟩
            rw [← hL'] at C5 R6 hA
            obtain ⟨M, hM⟩ : ∃ M, M = A.length := ⟨_, rfl⟩
            have hN : L'.length = M + 1 := by rw [hA, hM]; simp
            have hMr : M + 1 ≤ r := by have := C5.out.le.1; omega
            obtain ⟨N, hNL⟩ : ∃ N, N = L'.length := ⟨_, rfl⟩
            rw [← hNL] at R6 hN
            have i3 : IntKind.i64.wrap ((N : Int) - 1) = (M : Int) := by rw [show (N : Int) - 1 = (M : Int) by omega]; simp [IntKind.wrap, IntKind.bits, IntKind.signed]; omega
            have i4 : M < N := by omega
            obtain ⟨ad6, c6, rfl, hc6, hm6, hcl⟩ := R6.open'
            have hlast : (ints (pcL L'))[M]? = some (.int .u32 o.p) := by
              rw [hA, pcL, List.map_append, ints, List.map_append, List.getElem?_append_right (by simp [hM])]
              simp [hM, hxp.out]
            obtain ⟨g6, rfl, hg6, hcM⟩ := hcl M _ hlast
            have hb6 := hide (onto hb5.out (Nat.le_refl _) h6)
            have C6 := hide (C5.out.on h6)
            have BO6 := hide (BO5.out.on h6)
            have BV6 := hide (BV.out.on h6)
            have VX6 := hide (VX.out.on h6)
            have hcl6 : Hid (∀ (j : Nat) z, (pcL L')[j]? = some z → w6.cell? ⟨g6, j, none⟩ = some (.int .u32 z)) := hide (fun j z hz => by
              obtain ⟨g, e, -, hc⟩ := hcl j (.int .u32 z) (by simp [ints, hz])
              injection e with e
              injection e with e
              subst e
              exact hc)
            have cblk := hide (block_any o hw.out)
            have hS0 : ∀ y : World, (∀ k, k < w6.heap.size → y.heap[k]? = w6.heap[k]?) → (y.cell? ⟨w4.heap.size, 0, none⟩ = some (.int .u32 x.pc) ∧ y.cell? ⟨w4.heap.size, 1, none⟩ = some (.slice q1 x.ws.length m1) ∧ y.cell? ⟨w4.heap.size, 2, none⟩ = some (.slice q2 x.os.length m2) ∧ y.cell? ⟨w4.heap.size, 3, none⟩ = some (.slice q3 x.ps.length m3) ∧
                y.cell? ⟨wr.heap.size, 0, none⟩ = some (.int .i64 o.k) ∧ y.cell? ⟨wr.heap.size, 1, none⟩ = some (.int .u32 o.p) ∧ y.cell? ⟨wr.heap.size, 2, none⟩ = some (.int .i64 o.n) ∧ y.cell? ⟨wr.heap.size, 3, none⟩ = some (.int .u32 o.s) ∧ y.cell? ⟨wr.heap.size, 4, none⟩ = some (.int .u32 o.m) ∧ y.cell? ⟨g6, M, none⟩ = some (.int .u32 o.p)) := fun y hy => by
              have Bv := BV6.out.of_heap (hy _ BV6.out.2.2)
              have Bo := BO6.out.of_heap (hy _ BO6.out.2.2)
              exact ⟨Bv.cell 0, Bv.cell 1, Bv.cell 2, Bv.cell 3, Bo.cell 0, Bo.cell 1, Bo.cell 2, Bo.cell 3, Bo.cell 4, (World.cell?_of_block (a := ⟨g6, M, none⟩) (hy g6 hg6)).trans hcM⟩
            have hSw0 := hide (hS0 w6.drew (fun _ _ => rfl))
            replace hS0 := hide hS0
            have tM : ((N : Int) == 0) = false := by simp; omega
            have tR : decide ((r : Int) < (N : Int)) = false := by simp; omega
            have tM2 : (N == 0) = false := by simp; omega
            have tM3 : ¬ N = 0 := by omega
            have tR2 : decide (r < N) = false := by simp; omega
            have tR3 : ¬ r < N := by omega
            replace hNL := hide hNL
            replace hL' := hide hL'
            replace hA := hide hA
            replace hM := hide hM
            replace hN := hide hN
            clear cpl C5 R6 hcl hlast h6 BO5 BV VX
            go_wp2_with fail
            go_region_held3 (fun y => y.cell? ⟨w4.heap.size, 0, none⟩ = some (.int .u32 x.pc) ∧ y.cell? ⟨w4.heap.size, 1, none⟩ = some (.slice q1 x.ws.length m1) ∧ y.cell? ⟨w4.heap.size, 2, none⟩ = some (.slice q2 x.os.length m2) ∧ y.cell? ⟨w4.heap.size, 3, none⟩ = some (.slice q3 x.ps.length m3) ∧
                y.cell? ⟨wr.heap.size, 0, none⟩ = some (.int .i64 o.k) ∧ y.cell? ⟨wr.heap.size, 1, none⟩ = some (.int .u32 o.p) ∧ y.cell? ⟨wr.heap.size, 2, none⟩ = some (.int .i64 o.n) ∧ y.cell? ⟨wr.heap.size, 3, none⟩ = some (.int .u32 o.s) ∧ y.cell? ⟨wr.heap.size, 4, none⟩ = some (.int .u32 o.m) ∧ y.cell? ⟨g6, M, none⟩ = some (.int .u32 o.p))
              (first | exact hSw0.out | assumption | exact hS2.out | exact hS1.out)
              (first
                | (go_at_call 9; refine (cblk.out _).mono ?_; rintro e x2 ⟨v2, rfl, VB2, b2⟩; have hS1 := hide (hS0.out x2 (fun k hk => b2.block k hk)); rw [← hxo.out] at VB2; have VX2 := hide (VX6.out.keep (y := x2) (fun k _ hk => b2.block k hk)); replace VB2 := hide VB2; have hb7 := hide (onto hb6.out.drew (Nat.le_refl _) b2); have hb67 := hide b2; clear b2; go_wp2_with fail)
                | (go_at_call 14; have cs := bsame_any VX2.out VB2.out; rw [decide_eq_true rfl] at cs; refine cs.mono ?_; rintro e y2 ⟨rfl, b3⟩; have hS2 := hide (hS0.out y2 (fun k hk => (b3.block k (Nat.lt_of_lt_of_le hk hb67.out.size)).trans (hb67.out.block k hk))); have hb8 := hide (onto hb7.out (Nat.le_refl _) b3); have hk8 := hide (And.intro (fun k (hk : k < w6.heap.size) => (b3.block k (Nat.lt_of_lt_of_le hk hb67.out.size)).trans (hb67.out.block k hk)) (Nat.le_trans hb67.out.size b3.size)); clear b3 cs; go_wp2_with fail))
            have C8 := hide (C6.out.keep hk8.out.2 (fun j hj => hk8.out.1 j (C6.out.in' j hj).2))
            have hnd := hide C6.out.nodup
            have hcl8 : Hid (∀ (j : Nat) z, (pcL L')[j]? = some z → y2.cell? ⟨g6, j, none⟩ = some (.int .u32 z)) := hide (fun j z hz => (World.cell?_of_block (a := ⟨g6, j, none⟩) (hk8.out.1 g6 hg6)).trans (hcl6.out j z hz))
            have hg8 : g6 < y2.heap.size := Nat.lt_of_lt_of_le hg6 hk8.out.2
            have hNP : Hid (N = (pcL L').length) := hide (by rw [hNL.out]; simp [pcL])
            obtain ⟨W0, rfl⟩ : ∃ W0, W0 = wr := ⟨_, rfl⟩
            clear hS0 hSw0 hS1 hS2 cblk VX6 VX2 VB2 hb7 hb67 BO6 BV6 hcl6 C6 hcM
            go_wp2_with fail
            go_loopw [14] (fun i wr => ∃ k2 : Nat, k2 ≤ N ∧ i = .int .i64 (k2 : Int) ∧ Hid (Below y2.heap.size y2 wr)) (fun i _ => N - (intOf i).toNat)
            case atStart => exact ⟨0, Nat.zero_le _, rfl, hide (Below.refl _ _)⟩
            case round =>
              obtain ⟨k2, hk2', rfl, hB2⟩ := hrel
              by_cases hlt : k2 < N
              · obtain ⟨z2, hz2⟩ : ∃ z, (pcL L')[k2]? = some z := ⟨(pcL L')[k2]'(by have := hNP.out; omega), List.getElem?_eq_getElem _⟩
                obtain ⟨W1, rfl⟩ : ∃ W1, W1 = wr := ⟨_, rfl⟩
                have hz2 := hide hz2
                go_wp2_with fail
                go_loopw [15] (fun i wr => ∃ j2 : Nat, j2 ≤ k2 ∧ i = .int .i64 (j2 : Int) ∧ Hid (Below y2.heap.size y2 wr)) (fun i _ => k2 - (intOf i).toNat)
                case atStart => exact ⟨0, Nat.zero_le _, rfl, hB2⟩
                case round =>
                  obtain ⟨j2, hj2, rfl, hB3⟩ := hrel
                  by_cases hjk : j2 < k2
                  · obtain ⟨z3, hz3⟩ : ∃ z, (pcL L')[j2]? = some z := ⟨(pcL L')[j2]'(by have := hNP.out; omega), List.getElem?_eq_getElem _⟩
                    have q1 : wr.cell? ⟨g6, k2, none⟩ = some (.int .u32 z2) := (hB3.out.cell (p := ⟨g6, k2, none⟩) hg8).trans (hcl8.out k2 z2 hz2.out)
                    have q2 : wr.cell? ⟨g6, j2, none⟩ = some (.int .u32 z3) := (hB3.out.cell (p := ⟨g6, j2, none⟩) hg8).trans (hcl8.out j2 z3 hz3)
                    have hne : (z2 == z3) = false := by
                      simp only [beq_eq_false_iff_ne, ne_eq]
                      intro e
                      have h1 := (List.getElem?_eq_some_iff.1 hz2.out)
                      have h2 := (List.getElem?_eq_some_iff.1 hz3)
                      obtain ⟨l1, e1⟩ := h1
                      obtain ⟨l2, e2⟩ := h2
                      have := (List.nodup_iff_pairwise_ne.1 hnd.out)
                      rw [List.pairwise_iff_getElem] at this
                      exact this j2 k2 l2 l1 hjk (by rw [e1, e2, e])
                    have hB4 := hide hB3.out.drew
                    have hjn : j2 < N := by omega
                    clear hz3 hB3
                    go_wp2_with fail
                    go_region
                    go_wp2
                    go_roundw
                    case rel => exact ⟨j2 + 1, by omega, by go_num, hB4⟩
                    case measure => simp [intOf]; omega
                  · go_wp2
                    go_roundw
                    case rel => exact ⟨k2 + 1, by omega, by go_num, hB3⟩
                    case measure => simp [intOf]; omega
              · have C9 := hide (C8.out.on hB2.out)
                have hb9 := hide (onto hb8.out (Nat.le_refl _) hB2.out)
                go_wp2
                go_roundw
                case rel => exact ⟨k + 1, G3, L', by omega, by go_num, C9, hb9⟩
                case measure => simp [intOf]; omega
      · have cf := hfix.out
        by_cases hk1 : k < n
        · have hk2 : ¬ k < 100 := fun h2 => h ⟨hk1, h2⟩
          clear h
          go_wp2_with fail
          refine (cf _).mono ?_
          rintro e w7 ⟨rfl, h7⟩
          go_wp2
          go_ret
          exact ⟨rfl, onto hb.out (Nat.le_refl _) h7⟩
        · clear h
          go_wp2_with fail
          refine (cf _).mono ?_
          rintro e w7 ⟨rfl, h7⟩
          go_wp2
          go_ret
          exact ⟨rfl, onto hb.out (Nat.le_refl _) h7⟩
  · have cn := new_bad a (by omega) w
    have cf := hide (hfix w)
    clear hfix hv ha hr
    go_enter Try.func4, Try.ntmps4
    go_wp2_with fail
    refine cn.mono ?_
    rintro e w1 ⟨rfl, rfl⟩
    go_wp2_with fail
    refine cf.out.mono ?_
    rintro e w7 ⟨rfl, h7⟩
    go_wp2
    go_ret
    exact ⟨rfl, h7⟩

end Go.Proofs.Ytkmafafmnncgiaa
