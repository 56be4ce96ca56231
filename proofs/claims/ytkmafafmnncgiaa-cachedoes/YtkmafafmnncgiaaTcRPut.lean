/- Layer 16: the document's cache: a block is kept. -/
import Derived.Test.YtkmafafmnncgiaaTcRef2
import Derived.Test.YtkmafafmnncgiaaTcLaw
import Derived.Deep.CutBlock
import Derived.Maps.AppendAt
namespace Go.Proofs.Ytkmafafmnncgiaa
open Go.RowKit
set_option linter.unusedVariables false
set_option linter.unusedSimpArgs false

theorem trim_le {α : Type} (r : Nat) (l : List α) : (trim r l).length ≤ l.length := by
  unfold trim
  split
  · rw [List.length_drop]; omega
  · exact Nat.le_refl _

/-- The end of the document's Put, put together. -/
theorem rput_end {w y : World} {H H' : Nat → Prop} {rb r W4 : Nat} {E tE : List (Blk × Value)} {x : Blk} {vx v6 : Value} (htm : ∀ p ∈ tE, BlkAt w (fun k => H k ∧ k ≠ rb) p.2 p.1) (hB0 : BlkAt w H' vx x) (hne : ∀ k, H' k → k ≠ rb) (hr : H rb)
    (htE : tE = trim r (wout E x.pc)) (hk : ∀ k, k < w.heap.size → k ≠ rb → y.heap[k]? = w.heap[k]?) (BY : Box y rb #[.int .i64 r, v6]) (OY : y.ownsRow W4 38 4 v6 (tE.length + 1) (fcells tE ++ vcells vx)) (hW : w.heap.size ≤ W4) (hrb : rb < w.heap.size)
    (hsz : w.heap.size ≤ y.heap.size) (h1 : y.os = w.os) (h2 : y.tape = w.tape) (h3 : y.output = w.output) :
    (∃ G, RC y G rb r (putL r (blks E) x) ∧ ∀ k, G k → H k ∨ H' k ∨ w.heap.size ≤ k) ∧ Turn (fun k => k = rb) w y := by
  refine ⟨⟨fun k => H k ∨ H' k ∨ w.heap.size ≤ k, ⟨v6, tE ++ [(x, vx)], BY, ⟨?_, fun p hp => ?_⟩, ?_, .inl hr⟩, fun k h => h⟩, h1, h2, h3, hsz, fun k hl hn => hk k hl hn⟩
  · have e1 : (tE ++ [(x, vx)]).length = tE.length + 1 := by simp
    have e2 : fcells (tE ++ [(x, vx)]) = fcells tE ++ vcells vx := by rw [fcells_app]; simp [fcells]
    rw [e1, e2]
    exact (Row.of_own OY).mono fun k h _ => ⟨.inr (.inr (by omega)), by omega⟩
  · rcases List.mem_append.1 hp with hp | hp
    · exact ((htm p hp).keep fun k h hl => hk k hl h.2).mono fun k h _ => ⟨.inl h.1, h.2⟩
    · obtain rfl : p = (x, vx) := by simpa using hp
      exact (hB0.keep fun k h hl => hk k hl (hne k h)).mono fun k h _ => ⟨.inr (.inl h), hne k h⟩
  · have : blks (tE ++ [(x, vx)]) = blks tE ++ [x] := by simp [blks]
    rw [this, htE, blks_trim, blks_wout]
    rfl

/-- An append whose run is told, in a region that draws. -/
theorem step_append_told' {P : Program} {w w' : World} {ops : Array Oper} {o : Oper} {a : Act} {K : Act → World → Prop} {Q : Exit → Act → World → Prop} {E : Prop}
    (hg : o.guard = none) (s x : Operand) (t : TypeId) (hop : o.op = Op.call { callee := Callee.builtin Builtin.append, args := #[s, x], argTypes := #[t, t] })
    (u y v : Value) (hs : a.eval s = u) (hx : a.eval x = y) (hrun : (Builtin.append_ #[t, t] o.type #[u, y]).run P w = .ok v w')
    (hK : K (a.put o.dst v) w') : if Region.wanted o (yielded ops a.tmps) = true then Oper.wp P o a w K Q else E := by
  have hw : Region.wanted o (yielded ops a.tmps) = true := by simp [Region.wanted, hg]
  rw [if_pos hw]
  unfold Oper.wp
  simp [execOp, hop, resolve, invoke, builtin, hs, hx, hrun, Result.andThen]
  exact hK

set_option maxRecDepth 100000 in
set_option maxHeartbeats 8000000 in
theorem rput_any {w : World} {H H' : Nat → Prop} {rb r : Nat} {L : List Blk} (h : RC w H rb r L) (hl : L.length ≤ r) (h1 : 1 ≤ r) (h64 : r ≤ 64) {v : Value} {x : Blk} (hB : BlkAt w H' v x) (hne : ∀ k, H' k → k ≠ rb) :
    Calls Try.prog 11 #[.pointer (some ⟨rb, 0, none⟩), v] w fun e w' => e = .returned (.tuple #[]) ∧ (∃ G, RC w' G rb r (putL r L x) ∧ ∀ k, G k → H k ∨ H' k ∨ w.heap.size ≤ k) ∧ Turn (fun k => k = rb) w w' := by
  obtain ⟨lv, E, B, R, rfl, hr⟩ := h
  rw [blks_len] at hl
  obtain ⟨i, hi, hz, hs, hb⟩ := infoB
  have hB0 := hide hB
  have h4 := hB.four
  obtain ⟨v1, v2, v3, rfl, k1, k2, k3, hpc, l1, l2, l3⟩ := hB
  obtain ⟨a1, m1, rfl, hm1⟩ := k1.shape
  obtain ⟨a2, m2, rfl, hm2⟩ := k2.shape
  obtain ⟨a3, m3, rfl, hm3⟩ := k3.shape
  have G1 := grow w (.cells #[.int .u32 x.pc, .slice a1 x.ws.length m1, .slice a2 x.os.length m2, .slice a3 x.ps.length m3] 38)
  have BX := Box.new w #[.int .u32 x.pc, .slice a1 x.ws.length m1, .slice a2 x.os.length m2, .slice a3 x.ps.length m3] 38
  obtain ⟨w1, hw1⟩ : ∃ w1, w1 = w.alloc (.cells #[.int .u32 x.pc, .slice a1 x.ws.length m1, .slice a2 x.os.length m2, .slice a3 x.ps.length m3] 38) := ⟨_, rfl⟩
  rw [← hw1] at G1 BX
  have B1 := B.on G1
  have R1 := R.on G1
  have hcall := without_any (w := w1.drew) (R1.keep (fun _ _ _ => rfl)) (by omega) x.pc
  have s0 : Hid (w1.drew.cell? ⟨rb, 1, none⟩ = some lv ∧ w1.drew.cell? ⟨w.heap.size, 0, none⟩ = some (.int .u32 x.pc)) := hide ⟨B1.drew.cell 1, BX.drew.cell 0⟩
  have hrb : rb < w.heap.size := B.2.2
  obtain ⟨E1, hE1⟩ : ∃ E1, E1 = wout E x.pc := ⟨_, rfl⟩
  have hEl : E1.length ≤ r := by rw [hE1]; exact Nat.le_trans (wout_len _ _) hl
  have hE1m : Hid (∀ p ∈ E1, BlkAt w (fun k => H k ∧ k ≠ rb) p.2 p.1) := hide (fun p hp => R.2 p (by rw [hE1] at hp; exact (List.mem_filter.1 hp).1))
  rw [← hE1] at hcall
  obtain ⟨n, hn⟩ : ∃ n, n = E1.length := ⟨_, rfl⟩
  rw [← hn] at hcall hEl
  replace B1 := hide B1
  replace BX := hide BX
  replace G1 := hide G1
  replace hE1 := hide hE1
  replace hn := hide hn
  replace hr := hide hr
  replace hne := hide hne
  replace h4 := hide h4
  replace R := hide R
  clear k1 k2 k3 hpc l1 l2 l3 R1 B
  subst hw1
  go_enter Try.func11, Try.ntmps11
  go_wp2_with fail
  generalize w.alloc (.cells #[.int .u32 x.pc, .slice a1 x.ws.length m1, .slice a2 x.os.length m2, .slice a3 x.ps.length m3] 38) = w1 at *
  go_region_held3 (fun y => y.cell? ⟨rb, 1, none⟩ = some lv ∧ y.cell? ⟨w.heap.size, 0, none⟩ = some (.int .u32 x.pc)) (first | exact s0.out | assumption | exact hS1.out)
    (first | (go_at_call 23; refine hcall.mono ?_; rintro e w2 ⟨g, c, rfl, O2, b2⟩; have hS1 := hide (And.intro ((B1.out.drew.on b2).cell 1) ((BX.out.drew.on b2).cell 0)); have B2 := hide (B1.out.drew.on b2); have BX2 := hide (BX.out.drew.on b2); have G2 := hide (onto G1.out.drew (Nat.le_refl _) b2); replace O2 := hide O2; clear b2; go_wp2_with fail))
  have r0 : w2.cell? ⟨rb, 0, none⟩ = some (.int .i64 r) := B2.out.cell 0
  have hcn : n ≤ c := by
    rcases O2.out.2 with ⟨hv, -⟩ | ⟨g', cap, cur, hv, -, -, hc, -⟩
    · cases hv
    · injection hv with q1 q2 q3; omega
  have hgl : w.heap.size ≤ g ∧ g < w2.heap.size := by
    have := O2.out.lt g rfl
    have h2 : w1.drew.heap.size = w1.heap.size := rfl
    have := G1.out.size
    omega
  have hcells : Hid (∀ j u, (fcells E1)[j]? = some u → w2.cell? ⟨g, j, none⟩ = some u) := hide (fun j u hj => by
    have := O2.out.cells (g := g) rfl j u hj
    rwa [Addr.add_lit, Nat.zero_add] at this)
  have hfl : Hid ((fcells E1).length = n * 4) := hide O2.out.1
  clear hcall s0 hS1
  go_upto_if 18 with fail
  go_cut [4] from 5 (fun l y => ∃ (o c' : Nat), l = .slice (some ⟨g, o, none⟩) (trim r E1).length c' ∧ y = w2 ∧ Hid (∀ j u, (fcells (trim r E1))[j]? = some u → w2.cell? ⟨g, o + j, none⟩ = some u))
  case first =>
    by_cases hrn : r ≤ n
    · have d1 : decide ((r : Int) ≤ (n : Int)) = true := by simp; omega
      have d2 : decide (r ≤ n) = true := by simpa using hrn
      obtain ⟨p0, E2, hE2⟩ : ∃ p0 E2, E1 = p0 :: E2 := by
        cases hq : E1 with
        | nil => exfalso; have := hn.out; rw [hq] at this; simp at this; omega
        | cons p0 E2 => exact ⟨p0, E2, rfl⟩
      have hnE : n = E2.length + 1 := by have := hn.out; rw [hE2] at this; simpa using this
      have ht : Hid (trim r E1 = E2) := hide (by
        unfold trim
        rw [if_pos (by have := hn.out; omega), hE2]
        rfl)
      have hp0 := (hE1m.out p0 (by rw [hE2]; simp)).four.1
      have hfc : Hid (∀ j u, (fcells E2)[j]? = some u → w2.cell? ⟨g, 4 + j, none⟩ = some u) := hide (fun j u hj => by
        refine hcells.out (4 + j) u ?_
        rw [hE2]
        show (vcells p0.2 ++ fcells E2)[4 + j]? = some u
        rw [List.getElem?_append_right (by omega), hp0, show 4 + j - 4 = j by omega]
        exact hj)
      have hnE' := hide hnE
      clear hp0 hnE
      by_cases hc1 : c = 1
      · subst hc1
        have hn1 : n = 1 := by omega
        have hE20 : E2 = [] := List.length_eq_zero_iff.1 (by have := hnE'.out; omega)
        subst hn1
        go_wp2
        go_meet
        case rel => exact ⟨0, 0, by rw [ht.out, hE20]; rfl, rfl, hide (fun j u hj => by rw [ht.out, hE20] at hj; simp [fcells] at hj)⟩
      · have hle1 : 1 ≤ n := by omega
        go_wp2
        go_meet
        case rel => exact ⟨4, c - 1, by rw [ht.out, show n - 1 = E2.length by have := hnE'.out; omega], rfl, by rw [ht.out]; exact hfc⟩
    · have d1 : decide ((r : Int) ≤ (n : Int)) = false := by simp; omega
      have d2 : decide (r ≤ n) = false := by simpa using hrn
      have ht : Hid (trim r E1 = E1) := hide (by
        unfold trim
        rw [if_neg (by have := hn.out; omega)])
      go_wp2
      go_meet
      case rel => exact ⟨0, c, by rw [ht.out, ← hn.out], rfl, hide (fun j u hj => by rw [ht.out] at hj; rw [Nat.zero_add]; exact hcells.out j u hj)⟩
  case rest =>
    obtain ⟨o, c', rfl, rfl, hsrc⟩ := hcut
    obtain ⟨tE, htE⟩ : ∃ tE, tE = trim r E1 := ⟨_, rfl⟩
    rw [← htE] at hsrc ⊢
    have htl : tE.length ≤ 64 := by rw [htE]; have := trim_le r E1; have := hn.out; omega
    have htm : Hid (∀ p ∈ tE, BlkAt w (fun k => H k ∧ k ≠ rb) p.2 p.1) := hide (fun p hp => hE1m.out p (by rw [htE] at hp; exact mem_trim hp))
    have htf : Hid ((fcells tE).length = tE.length * 4) := hide (by
      have : ∀ l : List (Blk × Value), (∀ p ∈ l, BlkAt w (fun k => H k ∧ k ≠ rb) p.2 p.1) → (fcells l).length = l.length * 4 := fun l => by
        induction l with
        | nil => intro _; rfl
        | cons p l ih =>
          intro hp
          show (vcells p.2 ++ fcells l).length = _
          rw [List.length_append, (hp p (by simp)).four.1, ih (fun q hq => hp q (by simp [hq])), List.length_cons]
          omega
      exact this tE htm.out)
    have ht1 : Hid (∀ u ∈ fcells tE, u.oneCell' = true) := hide (fun u hu => by
      obtain ⟨p, hp, hu⟩ := List.mem_flatMap.1 hu
      exact (htm.out p hp).four.2.1 u hu)
    obtain ⟨t, ht⟩ : ∃ t, t = tE.length := ⟨_, rfl⟩
    rw [← ht] at htl htf ⊢
    replace ht := hide ht
    replace htE := hide htE
    clear r0 hcn hcells hfl
    go_wp2_with fail
    have RB := hide B2.out.drew
    have BB : Box wc.drew w.heap.size #[.int .u32 x.pc, .slice a1 x.ws.length m1, .slice a2 x.os.length m2, .slice a3 x.ps.length m3] := BX2.out.drew
    have hx4 : Hid (Below w.heap.size w wc.drew) := hide G2.out.drew
    have hsrc4 : Hid (∀ j u, (fcells tE)[j]? = some u → wc.drew.cell? ⟨g, o + j, none⟩ = some u) := hide (fun j u hj => hsrc.out j u hj)
    obtain ⟨W4, hW4⟩ : ∃ W4, W4 = wc.heap.size := ⟨_, rfl⟩
    have BW : Hid (Below W4 wc.drew wc.drew) := hide (Below.refl _ _)
    have hW4d : W4 = wc.drew.heap.size := hW4
    have hwW : w.heap.size ≤ W4 := by omega
    have hgW : g < W4 := by omega
    have hBlt : w.heap.size < W4 := by have := BX2.out.2.2; omega
    replace BW : Hid (Below W4 wc.drew wc.drew) := BW
    clear hsrc B2 BX2 G2 hgl
    replace hsrc4 := hsrc4
    refine wp_region_held_drew (S := fun y => Box y w.heap.size #[.int .u32 x.pc, .slice a1 x.ws.length m1, .slice a2 x.os.length m2, .slice a3 x.ps.length m3]) (by kernel_rfl) BB (fun hHeld => ?_)
    have hsrc := hsrc4
    clear BB hsrc4 hW4
    generalize wc.drew = x4 at *
    subst hW4d
    obtain ⟨W4, hW4⟩ : ∃ W4, W4 = x4.heap.size := ⟨_, rfl⟩
    rw [← hW4] at BW hwW hgW hBlt
    have BS : Hid (W4 ≤ x4.heap.size) := hide (by omega)
    clear hW4
    refine wpAnyH_take (i := 0) (v := ?_) rfl (by kernel_rfl) (by kernel_rfl) (by kernel_rfl) (fun _ _ _ h => h) (Or.inl ⟨by rfl, ?_⟩) (by assumption) ?_
    rotate_left
    · intro y hSw
      have e0 := hSw.cell 0; have e1 := hSw.cell 1; have e2 := hSw.cell 2; have e3 := hSw.cell 3
      go_simp
      try with_reducible rfl
    try simp only [Act.put, List.setIfInBounds_toArray, List.set_cons_zero, List.set_cons_succ]
    refine wpAnyH_take (i := 2) (v := ?_) rfl (by kernel_rfl) (by kernel_rfl) (by kernel_rfl) (fun _ _ _ h => h) (Or.inl ⟨by rfl, ?_⟩) (by assumption) ?_
    rotate_left
    · intro y hSw
      have e0 := hSw.cell 0; have e1 := hSw.cell 1; have e2 := hSw.cell 2; have e3 := hSw.cell 3
      go_simp
      try with_reducible rfl
    try simp only [Act.put, List.setIfInBounds_toArray, List.set_cons_zero, List.set_cons_succ]
    refine wpAnyH_take (i := 4) (v := ?_) rfl (by kernel_rfl) (by kernel_rfl) (by kernel_rfl) (fun _ _ _ h => h) (Or.inl ⟨by rfl, ?_⟩) (by assumption) ?_
    rotate_left
    · intro y hSw
      have e0 := hSw.cell 0; have e1 := hSw.cell 1; have e2 := hSw.cell 2; have e3 := hSw.cell 3
      go_simp
      try with_reducible rfl
    try simp only [Act.put, List.setIfInBounds_toArray, List.set_cons_zero, List.set_cons_succ]
    refine wpAnyH_ready (rs := [1, 5]) (by kernel_rfl) (by simp) ?_
    refine AllReadyH.cons rfl (fun K hK => ?_) ?_
    · have gA := grow x4 (.cells #[] 38)
      have OZ := hide (World.ownsRow_made x4 #[] 0 (base := W4) (e := 38) (size := 4) BS.out (Nat.zero_le _) rfl)
      replace BW := hide (BW.out.trans (gA.mono BS.out))
      replace BS := hide (Nat.le_trans BS.out gA.size)
      go_simp
      refine hK.out _ _ (hHeld.on gA) (fun hHeld => ?_)
      clear hK K
      try simp only [Act.put, List.setIfInBounds_toArray, List.set_cons_zero, List.set_cons_succ]
      clear gA
      generalize x4.alloc (.cells #[] 38) = x5 at *
      generalize x4.heap.size = Z0 at *
      refine wpAnyH_ready (rs := [3, 5]) (by kernel_rfl) (by simp) ?_
      refine AllReadyH.cons rfl (fun K hK => ?_) ?_
      · obtain ⟨v5, x6, hap, O5, G5, hnil, hat⟩ := run_append_own_at (P := Try.prog) x5 W4 29 29 38 i _ 4 80 Try.underlying29 hi hz hs hb rfl (by decide) (.slice (some ⟨Z0, 0, none⟩) 0 0) 0 [] OZ.out ⟨g, o, none⟩ t c' (fcells tE) htf.out (fun j u hj => by rw [Addr.add_lit, BW.out.cell (p := ⟨g, o + j, none⟩) hgW]; exact hsrc.out j u hj) ht1.out (by unfold maxLen; omega) (by omega) BS.out
        rw [Nat.zero_add, List.nil_append] at O5
        have hZW := (OZ.out.lt Z0 rfl).1
        have hfar := G5.block w.heap.size hHeld.2.2 (fun e => by injection e with e; have e2 : _ = Z0 := e; omega)
        replace BW := hide (BW.out.grown G5 BS.out (fun j hj => by injection hj with hj; have hj2 : Z0 = j := hj; omega))
        replace BS := hide (Nat.le_trans BS.out G5.size)
        obtain ⟨a5, c5, rfl, -⟩ := (Row.of_own O5).shape
        replace OZ := hide O5
        refine step_append_told' rfl (.tmp 22) (.tmp 23) 29 rfl (.slice (some ⟨Z0, 0, none⟩) 0 0) (.slice (some ⟨g, o, none⟩) t c') _ rfl rfl hap ?_
        refine hK.out _ _ (hHeld.of_heap hfar) (fun hHeld => ?_)
        clear hK K
        try simp only [Act.put, List.setIfInBounds_toArray, List.set_cons_zero, List.set_cons_succ]
        clear hap hfar O5 G5 hnil hat hZW
        refine wpAnyH_ready (rs := [5]) (by kernel_rfl) (by simp) ?_
        refine AllReadyH.cons rfl (fun K hK => ?_) AllReadyH.nil
        have gA := grow x6 (.cells #[.int .u32 x.pc, .slice a1 x.ws.length m1, .slice a2 x.os.length m2, .slice a3 x.ps.length m3] 38)
        have BL := hide (Box.new x6 #[.int .u32 x.pc, .slice a1 x.ws.length m1, .slice a2 x.os.length m2, .slice a3 x.ps.length m3] 38)
        replace BW := hide (BW.out.trans (gA.mono BS.out))
        replace BS := hide (Nat.le_trans BS.out gA.size)
        have hLB := hide (Nat.le_refl x6.heap.size)
        replace OZ := hide (OZ.out.alloc (.cells #[.int .u32 x.pc, .slice a1 x.ws.length m1, .slice a2 x.os.length m2, .slice a3 x.ps.length m3] 38))
        go_simp
        refine hK.out _ _ (hHeld.on gA) (fun hHeld => ?_)
        clear hK K
        try simp only [Act.put, List.setIfInBounds_toArray, List.set_cons_zero, List.set_cons_succ]
        clear gA hLB
        generalize x6.alloc (.cells #[.int .u32 x.pc, .slice a1 x.ws.length m1, .slice a2 x.os.length m2, .slice a3 x.ps.length m3] 38) = x7 at *
        generalize x6.heap.size = LB at *
        refine wpAnyH_ready (rs := [6]) (by kernel_rfl) (by simp) ?_
        refine AllReadyH.cons rfl (fun K hK => ?_) AllReadyH.nil
        obtain ⟨v6, x8, hap, O6, G6, hnil, hat⟩ := run_append_own_at (P := Try.prog) x7 W4 29 29 38 i _ 4 80 Try.underlying29 hi hz hs hb rfl (by decide) (.slice a5 t c5) t (fcells tE) OZ.out ⟨LB, 0, none⟩ 1 1 (#[.int .u32 x.pc, .slice a1 x.ws.length m1, .slice a2 x.os.length m2, .slice a3 x.ps.length m3] : Array Value).toList rfl (fun j u hj => by rw [Addr.add_lit, Nat.zero_add, BL.out.cell]; simpa using hj) h4.out.2.1 (by unfold maxLen; omega) (by omega) BS.out
        have hfar := G6.block w.heap.size hHeld.2.2 (fun e => by have := (OZ.out.lt _ e.symm).1; omega)
        replace BW := hide (BW.out.grown G6 BS.out (fun j hj => (OZ.out.lt j hj).1))
        replace BS := hide (Nat.le_trans BS.out G6.size)
        obtain ⟨a6, c6, rfl, -⟩ := (Row.of_own O6).shape
        replace OZ := hide O6
        refine step_append_told' rfl (.tmp 24) (.tmp 26) 29 rfl (.slice a5 t c5) (.slice (some ⟨LB, 0, none⟩) 1 1) _ rfl rfl hap ?_
        refine hK.out _ _ (hHeld.of_heap hfar) (fun hHeld => ?_)
        clear hK K
        try simp only [Act.put, List.setIfInBounds_toArray, List.set_cons_zero, List.set_cons_succ]
        clear hap hfar O6 G6 hnil hat BL
        refine wpAnyH_take (i := 7) (v := ?_) rfl (by kernel_rfl) (by kernel_rfl) (by kernel_rfl) (fun _ _ _ h => h) (Or.inl ⟨by rfl, ?_⟩) (by assumption) ?_
        rotate_left
        · intro y hSw
          have e0 := hSw.cell 0; have e1 := hSw.cell 1; have e2 := hSw.cell 2; have e3 := hSw.cell 3
          go_simp
          try with_reducible rfl
        try simp only [Act.put, List.setIfInBounds_toArray, List.set_cons_zero, List.set_cons_succ]
        refine wpAnyH_take (i := 8) (v := ?_) rfl (by kernel_rfl) (by kernel_rfl) (by kernel_rfl) (fun _ _ _ h => h) (Or.inl ⟨by rfl, ?_⟩) (by assumption) ?_
        rotate_left
        · intro y hSw
          have e0 := hSw.cell 0; have e1 := hSw.cell 1; have e2 := hSw.cell 2; have e3 := hSw.cell 3
          go_simp
          try with_reducible rfl
        try simp only [Act.put, List.setIfInBounds_toArray, List.set_cons_zero, List.set_cons_succ]
        refine wpAnyH_ready (rs := [9]) (by kernel_rfl) (by simp) ?_
        refine AllReadyH.cons rfl (fun K hK => ?_) AllReadyH.nil
        have RBc : Box x8 rb #[.int .i64 r, lv] := RB.out.of_heap (BW.out.block rb (by omega))
        have b1 := RBc.cell 1
        have f1 := RBc.free 1
        have BY := hide (RBc.set 1 (.slice a6 (t + 1) c6))
        have hfr : ∀ k, k ≠ rb → (x8.setCell ⟨rb, 1, none⟩ (.slice a6 (t + 1) c6)).heap[k]? = x8.heap[k]? := fun k hk => Below.heap_setCell x8 _ _ k hk
        replace hfr := hide hfr
        go_simp
        refine hK.out _ _ (hHeld.of_heap (hfr.out _ (by omega))) (fun hHeld => ?_)
        clear hK K
        try simp only [Act.put, List.setIfInBounds_toArray, List.set_cons_zero, List.set_cons_succ]
        clear b1 f1 RBc
        refine wpAnyH_done (by kernel_rfl) ?_ _
        go_wp2_with fail
        go_end0
        refine ⟨rfl, rput_end htm.out hB0.out hne.out hr.out (by rw [htE.out, hE1.out]) (fun k h1 h2 => ?_) BY.out (W4 := W4) (v6 := .slice a6 (t + 1) c6) ?_ hwW hrb ?_ ?_ ?_ ?_⟩
        · rw [hfr.out k h2, BW.out.block k (by omega), hx4.out.block k h1]
        · rw [← ht.out]; exact ownsRow_setCell_below OZ.out (show rb < W4 by omega) _
        · exact Nat.le_trans (Nat.le_trans hx4.out.size BW.out.size) (by simp [World.setCell])
        · exact BW.out.os.trans hx4.out.os
        · exact BW.out.tape.trans hx4.out.tape
        · exact BW.out.output.trans hx4.out.output
      refine AllReadyH.cons rfl (fun K hK => ?_) AllReadyH.nil
      have gA := grow x5 (.cells #[.int .u32 x.pc, .slice a1 x.ws.length m1, .slice a2 x.os.length m2, .slice a3 x.ps.length m3] 38)
      have BL := hide (Box.new x5 #[.int .u32 x.pc, .slice a1 x.ws.length m1, .slice a2 x.os.length m2, .slice a3 x.ps.length m3] 38)
      replace BW := hide (BW.out.trans (gA.mono BS.out))
      replace BS := hide (Nat.le_trans BS.out gA.size)
      have hLB := hide (Nat.le_refl x5.heap.size)
      have NE := (OZ.out.lt _ rfl).2
      replace OZ := hide (OZ.out.alloc (.cells #[.int .u32 x.pc, .slice a1 x.ws.length m1, .slice a2 x.os.length m2, .slice a3 x.ps.length m3] 38))
      go_simp
      refine hK.out _ _ (hHeld.on gA) (fun hHeld => ?_)
      clear hK K
      try simp only [Act.put, List.setIfInBounds_toArray, List.set_cons_zero, List.set_cons_succ]
      clear gA hLB
      generalize x5.alloc (.cells #[.int .u32 x.pc, .slice a1 x.ws.length m1, .slice a2 x.os.length m2, .slice a3 x.ps.length m3] 38) = x6 at *
      generalize x5.heap.size = LB at *
      refine wpAnyH_ready (rs := [3]) (by kernel_rfl) (by simp) ?_
      refine AllReadyH.cons rfl (fun K hK => ?_) AllReadyH.nil
      obtain ⟨v5, x7, hap, O5, G5, hnil, hat⟩ := run_append_own_at (P := Try.prog) x6 W4 29 29 38 i _ 4 80 Try.underlying29 hi hz hs hb rfl (by decide) (.slice (some ⟨Z0, 0, none⟩) 0 0) 0 [] OZ.out ⟨g, o, none⟩ t c' (fcells tE) htf.out (fun j u hj => by rw [Addr.add_lit, BW.out.cell (p := ⟨g, o + j, none⟩) hgW]; exact hsrc.out j u hj) ht1.out (by unfold maxLen; omega) (by omega) BS.out
      rw [Nat.zero_add, List.nil_append] at O5
      have hZW := (OZ.out.lt Z0 rfl).1
      replace BL := hide (BL.out.of_heap (G5.block LB BL.out.2.2 (fun e => by injection e with e; have e2 : _ = Z0 := e; omega)))
      have hfar := G5.block w.heap.size hHeld.2.2 (fun e => by injection e with e; have e2 : _ = Z0 := e; omega)
      replace BW := hide (BW.out.grown G5 BS.out (fun j hj => by injection hj with hj; have hj2 : Z0 = j := hj; omega))
      replace BS := hide (Nat.le_trans BS.out G5.size)
      obtain ⟨a5, c5, rfl, -⟩ := (Row.of_own O5).shape
      replace OZ := hide O5
      refine step_append_told' rfl (.tmp 22) (.tmp 23) 29 rfl (.slice (some ⟨Z0, 0, none⟩) 0 0) (.slice (some ⟨g, o, none⟩) t c') _ rfl rfl hap ?_
      refine hK.out _ _ (hHeld.of_heap hfar) (fun hHeld => ?_)
      clear hK K
      try simp only [Act.put, List.setIfInBounds_toArray, List.set_cons_zero, List.set_cons_succ]
      clear hap hfar O5 G5 hnil hat hZW
      clear NE
      refine wpAnyH_ready (rs := [6]) (by kernel_rfl) (by simp) ?_
      refine AllReadyH.cons rfl (fun K hK => ?_) AllReadyH.nil
      obtain ⟨v6, x8, hap, O6, G6, hnil, hat⟩ := run_append_own_at (P := Try.prog) x7 W4 29 29 38 i _ 4 80 Try.underlying29 hi hz hs hb rfl (by decide) (.slice a5 t c5) t (fcells tE) OZ.out ⟨LB, 0, none⟩ 1 1 (#[.int .u32 x.pc, .slice a1 x.ws.length m1, .slice a2 x.os.length m2, .slice a3 x.ps.length m3] : Array Value).toList rfl (fun j u hj => by rw [Addr.add_lit, Nat.zero_add, BL.out.cell]; simpa using hj) h4.out.2.1 (by unfold maxLen; omega) (by omega) BS.out
      have hfar := G6.block w.heap.size hHeld.2.2 (fun e => by have := (OZ.out.lt _ e.symm).1; omega)
      replace BW := hide (BW.out.grown G6 BS.out (fun j hj => (OZ.out.lt j hj).1))
      replace BS := hide (Nat.le_trans BS.out G6.size)
      obtain ⟨a6, c6, rfl, -⟩ := (Row.of_own O6).shape
      replace OZ := hide O6
      refine step_append_told' rfl (.tmp 24) (.tmp 26) 29 rfl (.slice a5 t c5) (.slice (some ⟨LB, 0, none⟩) 1 1) _ rfl rfl hap ?_
      refine hK.out _ _ (hHeld.of_heap hfar) (fun hHeld => ?_)
      clear hK K
      try simp only [Act.put, List.setIfInBounds_toArray, List.set_cons_zero, List.set_cons_succ]
      clear hap hfar O6 G6 hnil hat BL
      refine wpAnyH_take (i := 7) (v := ?_) rfl (by kernel_rfl) (by kernel_rfl) (by kernel_rfl) (fun _ _ _ h => h) (Or.inl ⟨by rfl, ?_⟩) (by assumption) ?_
      rotate_left
      · intro y hSw
        have e0 := hSw.cell 0; have e1 := hSw.cell 1; have e2 := hSw.cell 2; have e3 := hSw.cell 3
        go_simp
        try with_reducible rfl
      try simp only [Act.put, List.setIfInBounds_toArray, List.set_cons_zero, List.set_cons_succ]
      refine wpAnyH_take (i := 8) (v := ?_) rfl (by kernel_rfl) (by kernel_rfl) (by kernel_rfl) (fun _ _ _ h => h) (Or.inl ⟨by rfl, ?_⟩) (by assumption) ?_
      rotate_left
      · intro y hSw
        have e0 := hSw.cell 0; have e1 := hSw.cell 1; have e2 := hSw.cell 2; have e3 := hSw.cell 3
        go_simp
        try with_reducible rfl
      try simp only [Act.put, List.setIfInBounds_toArray, List.set_cons_zero, List.set_cons_succ]
      refine wpAnyH_ready (rs := [9]) (by kernel_rfl) (by simp) ?_
      refine AllReadyH.cons rfl (fun K hK => ?_) AllReadyH.nil
      have RBc : Box x8 rb #[.int .i64 r, lv] := RB.out.of_heap (BW.out.block rb (by omega))
      have b1 := RBc.cell 1
      have f1 := RBc.free 1
      have BY := hide (RBc.set 1 (.slice a6 (t + 1) c6))
      have hfr : ∀ k, k ≠ rb → (x8.setCell ⟨rb, 1, none⟩ (.slice a6 (t + 1) c6)).heap[k]? = x8.heap[k]? := fun k hk => Below.heap_setCell x8 _ _ k hk
      replace hfr := hide hfr
      go_simp
      refine hK.out _ _ (hHeld.of_heap (hfr.out _ (by omega))) (fun hHeld => ?_)
      clear hK K
      try simp only [Act.put, List.setIfInBounds_toArray, List.set_cons_zero, List.set_cons_succ]
      clear b1 f1 RBc
      refine wpAnyH_done (by kernel_rfl) ?_ _
      go_wp2_with fail
      go_end0
      refine ⟨rfl, rput_end htm.out hB0.out hne.out hr.out (by rw [htE.out, hE1.out]) (fun k h1 h2 => ?_) BY.out (W4 := W4) (v6 := .slice a6 (t + 1) c6) ?_ hwW hrb ?_ ?_ ?_ ?_⟩
      · rw [hfr.out k h2, BW.out.block k (by omega), hx4.out.block k h1]
      · rw [← ht.out]; exact ownsRow_setCell_below OZ.out (show rb < W4 by omega) _
      · exact Nat.le_trans (Nat.le_trans hx4.out.size BW.out.size) (by simp [World.setCell])
      · exact BW.out.os.trans hx4.out.os
      · exact BW.out.tape.trans hx4.out.tape
      · exact BW.out.output.trans hx4.out.output
    refine AllReadyH.cons rfl (fun K hK => ?_) AllReadyH.nil
    have gA := grow x4 (.cells #[.int .u32 x.pc, .slice a1 x.ws.length m1, .slice a2 x.os.length m2, .slice a3 x.ps.length m3] 38)
    have BL := hide (Box.new x4 #[.int .u32 x.pc, .slice a1 x.ws.length m1, .slice a2 x.os.length m2, .slice a3 x.ps.length m3] 38)
    replace BW := hide (BW.out.trans (gA.mono BS.out))
    replace BS := hide (Nat.le_trans BS.out gA.size)
    have hLB := hide (Nat.le_refl x4.heap.size)
    go_simp
    refine hK.out _ _ (hHeld.on gA) (fun hHeld => ?_)
    clear hK K
    try simp only [Act.put, List.setIfInBounds_toArray, List.set_cons_zero, List.set_cons_succ]
    clear gA hLB
    generalize x4.alloc (.cells #[.int .u32 x.pc, .slice a1 x.ws.length m1, .slice a2 x.os.length m2, .slice a3 x.ps.length m3] 38) = x5 at *
    generalize x4.heap.size = LB at *
    refine wpAnyH_ready (rs := [1]) (by kernel_rfl) (by simp) ?_
    refine AllReadyH.cons rfl (fun K hK => ?_) AllReadyH.nil
    have gA := grow x5 (.cells #[] 38)
    have OZ := hide (World.ownsRow_made x5 #[] 0 (base := W4) (e := 38) (size := 4) BS.out (Nat.zero_le _) rfl)
    replace BW := hide (BW.out.trans (gA.mono BS.out))
    replace BS := hide (Nat.le_trans BS.out gA.size)
    have NE := BL.out.2.2
    replace BL := hide (BL.out.on gA)
    go_simp
    refine hK.out _ _ (hHeld.on gA) (fun hHeld => ?_)
    clear hK K
    try simp only [Act.put, List.setIfInBounds_toArray, List.set_cons_zero, List.set_cons_succ]
    clear gA
    generalize x5.alloc (.cells #[] 38) = x6 at *
    generalize x5.heap.size = Z0 at *
    refine wpAnyH_ready (rs := [3]) (by kernel_rfl) (by simp) ?_
    refine AllReadyH.cons rfl (fun K hK => ?_) AllReadyH.nil
    obtain ⟨v5, x7, hap, O5, G5, hnil, hat⟩ := run_append_own_at (P := Try.prog) x6 W4 29 29 38 i _ 4 80 Try.underlying29 hi hz hs hb rfl (by decide) (.slice (some ⟨Z0, 0, none⟩) 0 0) 0 [] OZ.out ⟨g, o, none⟩ t c' (fcells tE) htf.out (fun j u hj => by rw [Addr.add_lit, BW.out.cell (p := ⟨g, o + j, none⟩) hgW]; exact hsrc.out j u hj) ht1.out (by unfold maxLen; omega) (by omega) BS.out
    rw [Nat.zero_add, List.nil_append] at O5
    have hZW := (OZ.out.lt Z0 rfl).1
    replace BL := hide (BL.out.of_heap (G5.block LB BL.out.2.2 (fun e => by injection e with e; have e2 : _ = Z0 := e; omega)))
    have hfar := G5.block w.heap.size hHeld.2.2 (fun e => by injection e with e; have e2 : _ = Z0 := e; omega)
    replace BW := hide (BW.out.grown G5 BS.out (fun j hj => by injection hj with hj; have hj2 : Z0 = j := hj; omega))
    replace BS := hide (Nat.le_trans BS.out G5.size)
    obtain ⟨a5, c5, rfl, -⟩ := (Row.of_own O5).shape
    replace OZ := hide O5
    refine step_append_told' rfl (.tmp 22) (.tmp 23) 29 rfl (.slice (some ⟨Z0, 0, none⟩) 0 0) (.slice (some ⟨g, o, none⟩) t c') _ rfl rfl hap ?_
    refine hK.out _ _ (hHeld.of_heap hfar) (fun hHeld => ?_)
    clear hK K
    try simp only [Act.put, List.setIfInBounds_toArray, List.set_cons_zero, List.set_cons_succ]
    clear hap hfar O5 G5 hnil hat hZW
    clear NE
    refine wpAnyH_ready (rs := [6]) (by kernel_rfl) (by simp) ?_
    refine AllReadyH.cons rfl (fun K hK => ?_) AllReadyH.nil
    obtain ⟨v6, x8, hap, O6, G6, hnil, hat⟩ := run_append_own_at (P := Try.prog) x7 W4 29 29 38 i _ 4 80 Try.underlying29 hi hz hs hb rfl (by decide) (.slice a5 t c5) t (fcells tE) OZ.out ⟨LB, 0, none⟩ 1 1 (#[.int .u32 x.pc, .slice a1 x.ws.length m1, .slice a2 x.os.length m2, .slice a3 x.ps.length m3] : Array Value).toList rfl (fun j u hj => by rw [Addr.add_lit, Nat.zero_add, BL.out.cell]; simpa using hj) h4.out.2.1 (by unfold maxLen; omega) (by omega) BS.out
    have hfar := G6.block w.heap.size hHeld.2.2 (fun e => by have := (OZ.out.lt _ e.symm).1; omega)
    replace BW := hide (BW.out.grown G6 BS.out (fun j hj => (OZ.out.lt j hj).1))
    replace BS := hide (Nat.le_trans BS.out G6.size)
    obtain ⟨a6, c6, rfl, -⟩ := (Row.of_own O6).shape
    replace OZ := hide O6
    refine step_append_told' rfl (.tmp 24) (.tmp 26) 29 rfl (.slice a5 t c5) (.slice (some ⟨LB, 0, none⟩) 1 1) _ rfl rfl hap ?_
    refine hK.out _ _ (hHeld.of_heap hfar) (fun hHeld => ?_)
    clear hK K
    try simp only [Act.put, List.setIfInBounds_toArray, List.set_cons_zero, List.set_cons_succ]
    clear hap hfar O6 G6 hnil hat BL
    refine wpAnyH_take (i := 7) (v := ?_) rfl (by kernel_rfl) (by kernel_rfl) (by kernel_rfl) (fun _ _ _ h => h) (Or.inl ⟨by rfl, ?_⟩) (by assumption) ?_
    rotate_left
    · intro y hSw
      have e0 := hSw.cell 0; have e1 := hSw.cell 1; have e2 := hSw.cell 2; have e3 := hSw.cell 3
      go_simp
      try with_reducible rfl
    try simp only [Act.put, List.setIfInBounds_toArray, List.set_cons_zero, List.set_cons_succ]
    refine wpAnyH_take (i := 8) (v := ?_) rfl (by kernel_rfl) (by kernel_rfl) (by kernel_rfl) (fun _ _ _ h => h) (Or.inl ⟨by rfl, ?_⟩) (by assumption) ?_
    rotate_left
    · intro y hSw
      have e0 := hSw.cell 0; have e1 := hSw.cell 1; have e2 := hSw.cell 2; have e3 := hSw.cell 3
      go_simp
      try with_reducible rfl
    try simp only [Act.put, List.setIfInBounds_toArray, List.set_cons_zero, List.set_cons_succ]
    refine wpAnyH_ready (rs := [9]) (by kernel_rfl) (by simp) ?_
    refine AllReadyH.cons rfl (fun K hK => ?_) AllReadyH.nil
    have RBc : Box x8 rb #[.int .i64 r, lv] := RB.out.of_heap (BW.out.block rb (by omega))
    have b1 := RBc.cell 1
    have f1 := RBc.free 1
    have BY := hide (RBc.set 1 (.slice a6 (t + 1) c6))
    have hfr : ∀ k, k ≠ rb → (x8.setCell ⟨rb, 1, none⟩ (.slice a6 (t + 1) c6)).heap[k]? = x8.heap[k]? := fun k hk => Below.heap_setCell x8 _ _ k hk
    replace hfr := hide hfr
    go_simp
    refine hK.out _ _ (hHeld.of_heap (hfr.out _ (by omega))) (fun hHeld => ?_)
    clear hK K
    try simp only [Act.put, List.setIfInBounds_toArray, List.set_cons_zero, List.set_cons_succ]
    clear b1 f1 RBc
    refine wpAnyH_done (by kernel_rfl) ?_ _
    go_wp2_with fail
    go_end0
    refine ⟨rfl, rput_end htm.out hB0.out hne.out hr.out (by rw [htE.out, hE1.out]) (fun k h1 h2 => ?_) BY.out (W4 := W4) (v6 := .slice a6 (t + 1) c6) ?_ hwW hrb ?_ ?_ ?_ ?_⟩
    · rw [hfr.out k h2, BW.out.block k (by omega), hx4.out.block k h1]
    · rw [← ht.out]; exact ownsRow_setCell_below OZ.out (show rb < W4 by omega) _
    · exact Nat.le_trans (Nat.le_trans hx4.out.size BW.out.size) (by simp [World.setCell])
    · exact BW.out.os.trans hx4.out.os
    · exact BW.out.tape.trans hx4.out.tape
    · exact BW.out.output.trans hx4.out.output

end Go.Proofs.Ytkmafafmnncgiaa
