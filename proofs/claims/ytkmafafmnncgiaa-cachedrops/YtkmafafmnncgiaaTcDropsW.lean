/- Layer 16: the walk of CacheDrops. -/
import Derived.Test.YtkmafafmnncgiaaTcOpen
import Derived.Test.YtkmafafmnncgiaaTcLaw
import Derived.Deep.RegionHeld3
import Derived.Deep.CutRange
import Derived.Deep.CutBlock
namespace Go.Proofs.Ytkmafafmnncgiaa
open Go.RowKit
set_option linter.unusedVariables false
set_option linter.unusedSimpArgs false

set_option maxRecDepth 100000 in
set_option maxHeartbeats 8000000 in
theorem drops_walk (w : World) (v : Value) (ops : List Oc) (hv : IsOcs w v ops) (f : Int) (hf : (Lit.int .u32 f).wf = true) (s : Int) (hs : (Lit.int .u32 s).wf = true) :
    Calls Try.prog 5 #[v, .int .u32 f, .int .u32 s] w fun e w' => e = .returned (.bool true) ∧ Below w.heap.size w w' := by
  have hfix := fixed_any
  have cn := ca_new 64 (by decide) (by decide) w
  rw [show ((64 : Nat) : Int) = 64 from rfl] at cn
  have wf := wf_u32 hf
  have ws := wf_u32 hs
  obtain ⟨ad, n, c, rfl, hn, hmx, hx⟩ := hv.open'
  unfold maxLen at hmx
  replace hx := hide hx
  replace hn := hide hn
  replace hfix := hide hfix
  replace wf := hide wf
  replace ws := hide ws
  clear hf hs hv
  go_enter Try.func5, Try.ntmps5
  go_wp2_with fail
  refine cn.mono ?_
  rintro e w1 ⟨cb, F, rfl, C, hb⟩
  replace C := hide C
  replace hb := hide hb
  clear cn
  go_upto_block 0 with fail
  go_cut [7] from 17 (fun p y => ∃ (G : Nat → Prop) (L : List Blk), p = .pointer (some ⟨cb, 0, none⟩) ∧ Hid (Ca w.heap.size y G cb 64 L) ∧ Hid (Below w.heap.size w y) ∧ Hid (∀ x ∈ L, x.ws.length ≤ 15))
  case first =>
    go_wp2_with fail
    go_loopw [9] (fun i wr => ∃ (k : Nat) (G : Nat → Prop) (L : List Blk), k ≤ n ∧ i = .int .i64 (k : Int) ∧ Hid (Ca w.heap.size wr G cb 64 L) ∧ Hid (Below w.heap.size w wr) ∧ Hid (∀ x ∈ L, x.ws.length ≤ 15)) (fun i _ => n - (intOf i).toNat)
    case atStart => exact ⟨0, F, [], Nat.zero_le _, rfl, C, hb, hide (fun x hx => by cases hx)⟩
    case round =>
      clear C hb
      obtain ⟨k, G, L, hk, rfl, C, hb, h15⟩ := hrel
      by_cases h : k < n ∧ k < 60
      · obtain ⟨hk1, hk2⟩ := h
        obtain ⟨o, ho⟩ : ∃ o, ops[k]? = some o := ⟨ops[k]'(by have := hn.out; omega), List.getElem?_eq_getElem _⟩
        obtain ⟨hw, b, off, rfl, hbl, hat⟩ := hx.out k o ho
        obtain ⟨o0, o1, o2, o3, o4⟩ := (hat.keep (hb.out.block b hbl)).five
        have cbk := block_any o hw wr
        simp only [cellsO] at cbk
        replace hw := hide hw
        clear hat ho
        go_wp2_with fail
        refine cbk.mono ?_
        rintro e w2 ⟨vb, rfl, VB, h2⟩
        have hb2 := hide (onto hb.out (Nat.le_refl _) h2)
        have C2 := C.out.on h2
        have cpt := ca_put C2 hb2.out.size VB (fun j hj hG => by have := (C.out.in' j hG).2; omega)
        replace C2 := hide C2
        clear cbk VB h2
        go_wp2_with fail
        refine cpt.mono ?_
        rintro e w3 ⟨rfl, G3, C3, T3, hG3⟩
        have hb3 := hide (hb2.out.trans (C2.out.below T3 hb2.out.size))
        replace C3 := hide C3
        have h15' : Hid (∀ x ∈ putL 64 L (blkO o), x.ws.length ≤ 15) := hide (put_all (by simp only [blkO, wsO_len]; exact cntO_lt _) h15.out)
        clear cpt T3 hG3 C2
        go_wp2
        go_roundw
        case rel => exact ⟨k + 1, G3, _, by omega, by go_num, C3, hb3, h15'⟩
        case measure => simp [intOf]; omega
      · have fin : Hid (∃ (G : Nat → Prop) (L : List Blk), Hid (Ca w.heap.size wr G cb 64 L) ∧ Hid (Below w.heap.size w wr) ∧ Hid (∀ x ∈ L, x.ws.length ≤ 15)) := hide ⟨G, L, C, hb, h15⟩
        by_cases hk1 : k < n
        · have hk2 : ¬ k < 60 := fun h2 => h ⟨hk1, h2⟩
          clear h
          go_wp2
          go_meet
          case rel => obtain ⟨G, L, q1, q2, q3⟩ := fin.out; exact ⟨G, L, rfl, q1, q2, q3⟩
        · clear h
          go_wp2
          go_meet
          case rel => obtain ⟨G, L, q1, q2, q3⟩ := fin.out; exact ⟨G, L, rfl, q1, q2, q3⟩
  case rest =>
    obtain ⟨G, L, rfl, C, hb, h15⟩ := hcut
    have cpl := ca_places C.out
    go_wp2_with fail
    refine cpl.mono ?_
    rintro e w3 ⟨vp, rfl, R3, h3⟩
    obtain ⟨a3, c3, rfl, -⟩ := R3.shape
    have hb3 := hide (onto hb.out (Nat.le_refl _) h3)
    have C3 := hide (C.out.on h3)
    have cd := ca_drop C3.out f s wf.out ws.out
    obtain ⟨L', hL'⟩ : ∃ L', L' = dropL f s L := ⟨_, rfl⟩
    obtain ⟨D, hD⟩ : ∃ D, D = hitsL f s L := ⟨_, rfl⟩
    obtain ⟨N, hN⟩ : ∃ N, N = L.length := ⟨_, rfl⟩
    obtain ⟨M, hM⟩ : ∃ M, M = L'.length := ⟨_, rfl⟩
    have hcount := drop_count f s L
    have hdn := drop_none f s L
    have hdd := drop_drop f s L
    have hle := C.out.le.1
    rw [← hL', ← hD, ← hN, ← hM] at hcount
    rw [← hL'] at hdn hdd
    rw [← hL', ← hD] at cd
    rw [← hN] at hle ⊢
    have h15' : Hid (∀ x ∈ L', x.ws.length ≤ 15 ∧ hitV x f s = false) := hide (fun x hx => by
      rw [hL'] at hx
      have := List.mem_filter.1 hx
      exact ⟨h15.out x this.1, by simpa using this.2⟩)
    replace hN := hide hN
    replace hM := hide hM
    replace hD := hide hD
    replace hL' := hide hL'
    clear cpl R3 h3 C h15 hb
    go_wp2_with fail
    refine cd.mono ?_
    rintro e w4 ⟨rfl, C4, T4⟩
    have hb4 := hide (hb3.out.trans (C3.out.below T4 hb3.out.size))
    have cpl := ca_places C4
    rw [← hM.out] at cpl
    replace C4 := hide C4
    clear cd T4 C3
    go_wp2_with fail
    refine cpl.mono ?_
    rintro e w5 ⟨vp, rfl, R5, h5⟩
    have hb5 := hide (onto hb4.out (Nat.le_refl _) h5)
    have C5 := hide (C4.out.on h5)
    obtain ⟨ad5, c5, rfl, hc5, hm5, hcl⟩ := R5.open'
    have hcl5 : Hid (∀ (j : Nat) x, L'[j]? = some x → ∃ g, ad5 = some ⟨g, 0, none⟩ ∧ (g < w5.heap.size ∧ w4.heap.size ≤ g) ∧ w5.cell? ⟨g, j, none⟩ = some (.int .u32 x.pc)) := hide (fun j x hxj => by
      obtain ⟨g, rfl, hg, hc⟩ := hcl j (.int .u32 x.pc) (by simp [ints, pcL, hxj])
      exact ⟨g, rfl, ⟨hg, R5.2 g rfl⟩, hc⟩)
    have hinG := hide C4.out.in'
    have cd := ca_drop C5.out f s wf.out ws.out
    rw [hdn, hdd, show ((0 : Nat) : Int) = 0 from rfl] at cd
    have t1 : (M : Int) + (D : Int) = (N : Int) := by omega
    have t2 : M + D = N := hcount
    have hm5' : M ≤ 64 := by omega
    clear cpl R5 h5 C4 hcl hm5 hdn hdd
    go_wp2_with fail
    refine cd.mono ?_
    rintro e w6 ⟨rfl, C6, T6⟩
    have hb6 := hide (hb5.out.trans (C5.out.below T6 hb5.out.size))
    have hcl6 : Hid (∀ (j : Nat) x, L'[j]? = some x → ∃ g, ad5 = some ⟨g, 0, none⟩ ∧ g < w6.heap.size ∧ w6.cell? ⟨g, j, none⟩ = some (.int .u32 x.pc)) := hide (fun j x hxj => by
      obtain ⟨g, e, ⟨hg1, hg2⟩, hc⟩ := hcl5.out j x hxj
      refine ⟨g, e, Nat.lt_of_lt_of_le hg1 T6.size, ?_⟩
      rw [← hc]
      exact World.cell?_of_block (a := ⟨g, j, none⟩) (T6.block g hg1 (fun h => by have := (hinG.out g h).2; omega)))
    replace C6 := hide C6
    have hnd := hide C6.out.nodup
    clear cd T6 C5 hcl5 hinG
    go_wp2_with fail
    go_loopw [13] (fun i wr => ∃ k : Nat, k ≤ M ∧ i = .int .i64 (k : Int) ∧ Hid (Ca w.heap.size wr G cb 64 L') ∧ Hid (Below w6.heap.size w6 wr)) (fun i _ => M - (intOf i).toNat)
    case atStart => exact ⟨0, Nat.zero_le _, rfl, C6, hide (Below.refl _ _)⟩
    case round =>
      clear C6
      obtain ⟨k, hk, rfl, C, hB⟩ := hrel
      by_cases h : k < M
      · obtain ⟨x, hx0⟩ : ∃ x, L'[k]? = some x := ⟨L'[k]'(by have := hM.out; omega), List.getElem?_eq_getElem _⟩
        obtain ⟨g, rfl, hg, hc0⟩ := hcl6.out k x hx0
        have hc : wr.cell? ⟨g, k, none⟩ = some (.int .u32 x.pc) := (hB.out.cell (p := ⟨g, k, none⟩) hg).trans hc0
        have cg := ca_get C.out x.pc
        rw [get_at hnd.out hx0] at cg
        simp only [Option.isSome_some, Option.getD_some] at cg
        obtain ⟨hx15, hxh⟩ := h15'.out x (List.mem_of_getElem? hx0)
        have hxh := hide hxh
        clear hx0
        go_wp2_with fail
        refine cg.mono ?_
        rintro e w7 ⟨v7, rfl, V7, h7⟩
        obtain ⟨u1, u2, u3, rfl, V1, V2, V3, ⟨p0, p1⟩, l1, l2, l3⟩ := V7
        obtain ⟨q1, m1, rfl, -⟩ := V1.shape
        obtain ⟨q2, m2, rfl, -⟩ := V2.shape
        obtain ⟨q3, m3, rfl, -⟩ := V3.shape
        obtain ⟨pc, hpc⟩ : ∃ pc, pc = x.pc := ⟨_, rfl⟩
        obtain ⟨ln, hln⟩ : ∃ ln, ln = x.ws.length := ⟨_, rfl⟩
        have hhit : ¬ (max pc f < min (pc + 4 * (ln : Int)) (f + s)) := by
          have := hxh.out
          unfold hitV at this
          rw [hpc, hln]
          simpa using this
        rw [← hpc] at hc p0 p1 ⊢
        rw [← hln] at hx15 ⊢
        have g8 := grow w7 (.cells #[.int .u32 pc, .slice q1 ln m1, .slice q2 x.os.length m2, .slice q3 x.ps.length m3] 38)
        have BX := Box.new w7 #[.int .u32 pc, .slice q1 ln m1, .slice q2 x.os.length m2, .slice q3 x.ps.length m3] 38
        have hc8 : (w7.alloc (.cells #[.int .u32 pc, .slice q1 ln m1, .slice q2 x.os.length m2, .slice q3 x.ps.length m3] 38)).cell? ⟨g, k, none⟩ = some (.int .u32 pc) := by
          have hgr : g < wr.heap.size := Nat.lt_of_lt_of_le hg hB.out.size
          rw [g8.cell (p := ⟨g, k, none⟩) (Nat.lt_of_lt_of_le hgr h7.size), h7.cell (p := ⟨g, k, none⟩) hgr]
          exact hc
        have C8 := hide ((C.out.on h7).on g8)
        have hB8 := hide (onto (onto hB.out (Nat.le_refl _) h7) (Nat.le_refl _) g8)
        clear cg V1 V2 V3 l1 l2 l3 h7 g8 C hB hc hc0 hpc hln
        generalize hw8 : w7.alloc (.cells #[.int .u32 pc, .slice q1 ln m1, .slice q2 x.os.length m2, .slice q3 x.ps.length m3] 38) = w8 at *
        have b0 : w8.cell? ⟨w7.heap.size, 0, none⟩ = some (.int .u32 pc) := BX.cell 0
        have b1 : w8.cell? ⟨w7.heap.size, 1, none⟩ = some (.slice q1 ln m1) := BX.cell 1
        have f0 := wf.out.1
        have f1 := wf.out.2
        have s0 := ws.out.1
        have s1 := ws.out.2
        subst hw8
        go_wp2_with fail
        generalize w7.alloc (.cells #[.int .u32 pc, .slice q1 ln m1, .slice q2 x.os.length m2, .slice q3 x.ps.length m3] 38) = w8 at *
        have fin : ∃ k2 : Nat, k2 ≤ M ∧ (Value.int .i64 ((k : Int) + 1)) = .int .i64 (k2 : Int) := ⟨k + 1, by omega, by simp⟩
        have hC9 : Hid (Ca w.heap.size w8.drew G cb 64 L') := hide (C8.out.on (Below.refl _ w8).drew)
        have hB9 : Hid (Below w6.heap.size w6 w8.drew) := hide hB8.out.drew
        clear BX C8 hB8 fin
        by_cases c1 : 0 < s
        · have d1 : decide (0 < s) = true := by simpa using c1
          by_cases c2 : 0 < ln
          · have d2 : decide (0 < (ln : Int)) = true := by simpa using c2
            have d2' : decide (0 < ln) = true := by simpa using c2
            by_cases c3 : pc < f + s
            · have d3 : decide (pc < f + s) = true := by simpa using c3
              have c4 : ¬ f < pc + 4 * (ln : Int) := by omega
              have d4 : decide (f < pc + 4 * (ln : Int)) = false := by simpa using c4
              clear hhit
              go_region
              go_wp2
              go_roundw
              case rel => exact ⟨k + 1, by omega, by go_num, hC9, hB9⟩
              case measure => simp [intOf]; omega
            · have d3 : decide (pc < f + s) = false := by simpa using c3
              clear hhit
              go_region
              go_wp2
              go_roundw
              case rel => exact ⟨k + 1, by omega, by go_num, hC9, hB9⟩
              case measure => simp [intOf]; omega
          · have d2 : decide (0 < (ln : Int)) = false := by simp; omega
            have d2' : decide (0 < ln) = false := by simpa using c2
            clear hhit
            go_region
            go_wp2
            go_roundw
            case rel => exact ⟨k + 1, by omega, by go_num, hC9, hB9⟩
            case measure => simp [intOf]; omega
        · have d1 : decide (0 < s) = false := by simpa using c1
          clear hhit
          go_region
          go_wp2
          go_roundw
          case rel => exact ⟨k + 1, by omega, by go_num, hC9, hB9⟩
          case measure => simp [intOf]; omega
      · have cf := hfix.out
        go_wp2_with fail
        refine (cf _).mono ?_
        rintro e w7 ⟨rfl, h7⟩
        go_wp2
        go_ret
        exact ⟨rfl, onto hb6.out (Nat.le_refl _) (onto hB.out (Nat.le_refl _) h7)⟩

end Go.Proofs.Ytkmafafmnncgiaa
