/- Layer 16: a block is kept. -/
import Derived.Test.YtkmafafmnncgiaaTcGet
import Derived.OwnWalk
import Derived.Maps.AppendAt
namespace Go.Proofs.Ytkmafafmnncgiaa
open Go.RowKit
set_option linter.unusedVariables false
set_option linter.unusedSimpArgs false

/-- Without the first one, if there are r. -/
def trim {α : Type} (r : Nat) (l : List α) : List α := if l.length = r then l.drop 1 else l

theorem trim_len {α : Type} {r : Nat} {l : List α} (h : l.length ≤ r) (h1 : 1 ≤ r) : (trim r l).length < r := by
  unfold trim
  split
  · rw [List.length_drop]; omega
  · omega

theorem CacheAt.mono {w : World} {F G : Nat → Prop} {cb mb r : Nat} {ov : Value} {E : List (Blk × Value)} (C : CacheAt w F cb mb ov r E) (h : ∀ k, F k → k < w.heap.size → G k) : CacheAt w G cb mb ov r E :=
  { C with ord := C.ord.mono h, fc := h cb C.fc C.box.2.2, fm := h mb C.fm C.map.lt, each := fun p hp => (C.each p hp).mono fun k hk hl => ⟨h k hk.1 hl, hk.2⟩ }

theorem Box.kept {w y : World} {F : Nat → Prop} {b : Nat} {c : Array Value} (h : Box w b c) (T : Turn F w y) (hb : ¬ F b) : Box y b c := h.of_heap (T.block b h.2.2 hb)

theorem CacheAt.drew {w : World} {F : Nat → Prop} {cb mb r : Nat} {ov : Value} {E : List (Blk × Value)} (C : CacheAt w F cb mb ov r E) : CacheAt w.drew F cb mb ov r E := C.keep fun _ _ _ => rfl
theorem Turn.drew {F : Nat → Prop} {w y : World} (T : Turn F w y) : Turn F w y.drew := ⟨T.os, T.tape, T.output, T.size, T.block⟩

theorem wout_head {E : List (Blk × Value)} {p : Blk × Value} (hd : (pcs (p :: E)).Nodup) : wout (p :: E) p.1.pc = E := by
  simp only [pcs, List.map_cons, List.nodup_cons] at hd
  unfold wout
  rw [List.filter_cons_of_neg (by simp), List.filter_eq_self]
  intro q hq
  simp only [Bool.not_eq_true', beq_eq_false_iff_ne, ne_eq]
  intro e
  exact hd.1 (e ▸ List.mem_map_of_mem (f := fun p : Blk × Value => p.1.pc) hq)

theorem Row.turn {w y : World} {F G : Nat → Prop} {t : TypeId} {size n : Nat} {v : Value} {xs : List Value} (h : Row w F t size v n xs) (T : Turn G w y) (hG : ∀ k, v.ownBlock = some k → ¬ G k) : Row y F t size v n xs := by
  refine ⟨⟨h.1.1, ?_⟩, h.2⟩
  rcases h.1.2 with hn | ⟨g, cap, cur, rfl, hb, hgg, rest⟩
  · exact .inl hn
  · exact .inr ⟨g, cap, cur, rfl, hb, (T.block g (Array.getElem?_eq_some_iff.1 hgg).1 (hG g rfl)).trans hgg, rest⟩

/-- The end of Put, put together. -/
theorem put_end {w w1 x1 x2 y : World} {F F0 : Nat → Prop} {cb mb r W : Nat} {ov v5 v4 : Value} {E3 : List (Blk × Value)} {x : Blk} (hF0 : F0 = fun k => F k ∧ k < w.heap.size) (G1 : Below w.heap.size w w1) (T3 : Turn F0 w1 x1)
    (C3 : CacheAt x1 F0 cb mb ov r E3) (V4 : BlkAt x1 (fun k => W ≤ k) v4 x) (hW : w.heap.size ≤ W) (M5 : MapIs x2 mb (kvs E3 ++ [(x.pc, v4)])) (T5 : Turn (fun k => k = mb) x1 x2) (hno : ∀ p ∈ E3, p.1.pc ≠ x.pc) (hlt : E3.length < r)
    (hk : ∀ k, k < x2.heap.size → k ≠ cb → ov.ownBlock ≠ some k → y.heap[k]? = x2.heap[k]?) (BY : Box y cb #[.int .i64 r, .map (some mb), v5]) (OY : y.ownsRow 0 32 1 v5 ((pcs E3).length + 1) (ints (pcs E3) ++ [.int .u32 x.pc]))
    (hat : v5.ownBlock = ov.ownBlock ∨ ∃ b, v5.ownBlock = some b ∧ x2.heap.size ≤ b) (hsz : x2.heap.size ≤ y.heap.size) (h1 : y.os = x2.os) (h2 : y.tape = x2.tape) (h3 : y.output = x2.output) :
    ∃ G ov' v', CacheAt y G cb mb ov' r (E3 ++ [(x, v')]) ∧ Turn F w y ∧ ∀ k, G k → (F k ∨ w.heap.size ≤ k) ∧ k < y.heap.size := by
  have s1 := G1.size
  have s3 := T3.size
  have s5 := T5.size
  have hw : ∀ k, F0 k → F k ∧ k < w.heap.size := fun k h => by rw [hF0] at h; exact h
  have lcb := hw cb C3.fc
  have lmb := hw mb C3.fm
  have lov : ∀ k, ov.ownBlock = some k → F k ∧ k < w.heap.size := fun k h => hw k (C3.ord.2 k h)
  have nv : ∀ k, k < x2.heap.size → ov.ownBlock ≠ some k → v5.ownBlock ≠ some k := fun k hl hne => by
    rcases hat with e | ⟨b, e, hb⟩
    · rw [e]; exact hne
    · rw [e]; intro h; injection h with h; omega
  refine ⟨fun k => (F k ∨ w.heap.size ≤ k) ∧ k < y.heap.size, v5, v4, { box := BY, map := ?_, ord := ?_, fc := ⟨.inl lcb.1, by have := lcb.2; omega⟩, fm := ⟨.inl lmb.1, by have := lmb.2; omega⟩, cm := C3.cm, co := nv cb (by have := lcb.2; omega) C3.co, mo := nv mb (by have := lmb.2; omega) C3.mo, each := fun p hp => ?_, nodup := ?_, r1 := C3.r1, r64 := C3.r64, le := by simp; omega }, ?_, fun k h => h⟩
  · rw [kvs_app]
    exact M5.keep (hk mb (by have := lmb.2; omega) (fun e => C3.cm e.symm) C3.mo)
  · rw [pcs_app, ints_app, List.length_append]
    refine ⟨OY, fun k e => ⟨?_, (OY.lt k e).2⟩⟩
    rcases hat with e' | ⟨b, e', hb⟩
    · rw [e'] at e
      exact .inl (lov k e).1
    · rw [e'] at e
      injection e with e
      right
      omega
  · rcases List.mem_append.1 hp with hp | hp
    · refine ((C3.each p hp).mono (G := fun k => (((F k ∨ w.heap.size ≤ k) ∧ k < y.heap.size) ∧ k ≠ cb ∧ k ≠ mb ∧ v5.ownBlock ≠ some k) ∧ ov.ownBlock ≠ some k) ?_ |>.keep ?_).mono (fun k h _ => h.1)
      · exact fun k h hl => ⟨⟨⟨.inl (hw k h.1).1, by omega⟩, h.2.1, h.2.2.1, nv k (by omega) h.2.2.2⟩, h.2.2.2⟩
      · exact fun k h hl => by rw [hk k (by omega) h.1.2.1 h.2, T5.block k hl h.1.2.2.1]
    · obtain rfl : p = (x, v4) := by simpa using hp
      have no : ∀ k, W ≤ k → ov.ownBlock ≠ some k := fun k h e => by have := (lov k e).2; omega
      refine ((V4.mono (G := fun k => (((F k ∨ w.heap.size ≤ k) ∧ k < y.heap.size) ∧ k ≠ cb ∧ k ≠ mb ∧ v5.ownBlock ≠ some k) ∧ ov.ownBlock ≠ some k) ?_).keep ?_).mono (fun k h _ => h.1)
      · exact fun k h hl => ⟨⟨⟨.inr (by omega), by omega⟩, by have := lcb.2; omega, by have := lmb.2; omega, nv k (by omega) (no k h)⟩, no k h⟩
      · exact fun k h hl => by rw [hk k (by omega) h.1.2.1 h.2, T5.block k hl h.1.2.2.1]
  · rw [pcs_app]
    refine List.nodup_append.2 ⟨C3.nodup, by simp [pcs], fun a ha b hb e => ?_⟩
    obtain ⟨q, hq, rfl⟩ := List.mem_map.1 ha
    simp [pcs] at hb
    exact hno q hq (e.trans hb)
  · refine ⟨?_, ?_, ?_, by omega, fun k hl hn => ?_⟩
    · rw [h1, T5.os, T3.os, G1.os]
    · rw [h2, T5.tape, T3.tape, G1.tape]
    · rw [h3, T5.output, T3.output, G1.output]
    · rw [hk k (by omega) (fun e => hn (e ▸ lcb.1)) (fun e => hn (lov k e).1), T5.block k (by omega) (fun e => hn (e ▸ lmb.1)), T3.block k (by omega) (fun h => hn (hw k h).1), G1.block k hl]

/-- An append whose run is told, in a region that draws. -/
theorem step_append_told {P : Program} {w w' : World} {ops : Array Oper} {o : Oper} {a : Act} {K : Act → World → Prop} {Q : Exit → Act → World → Prop} {E : Prop}
    (hg : o.guard = none) (s x : Operand) (t : TypeId) (hop : o.op = Op.call { callee := Callee.builtin Builtin.append, args := #[s, x], argTypes := #[t, t] })
    (u y v : Value) (hs : a.eval s = u) (hx : a.eval x = y) (hrun : (Builtin.append_ #[t, t] o.type #[u, y]).run P w = .ok v w')
    (hK : K (a.put o.dst v) w') : if Region.wanted o (yielded ops a.tmps) = true then Oper.wp P o a w K Q else E := by
  have hw : Region.wanted o (yielded ops a.tmps) = true := by simp [Region.wanted, hg]
  rw [if_pos hw]
  unfold Oper.wp
  simp [execOp, hop, resolve, invoke, builtin, hs, hx, hrun, Result.andThen]
  exact hK

set_option maxHeartbeats 4000000 in
theorem put_any {w : World} {F F' : Nat → Prop} {cb mb r : Nat} {ov : Value} {E : List (Blk × Value)} (C : CacheAt w F cb mb ov r E) {v : Value} {x : Blk} (hB : BlkAt w F' v x) (hFF : ∀ k, F' k → ¬ F k) :
    Calls Try.prog 10 #[.pointer (some ⟨cb, 0, none⟩), v] w fun e w' => e = .returned (.tuple #[]) ∧ ∃ G ov' v',
      CacheAt w' G cb mb ov' r (trim r (wout E x.pc) ++ [(x, v')]) ∧ Turn F w w' ∧ ∀ k, G k → (F k ∨ w.heap.size ≤ k) ∧ k < w'.heap.size := by
  obtain ⟨F0, hF0⟩ : ∃ F0 : Nat → Prop, F0 = fun k => F k ∧ k < w.heap.size := ⟨_, rfl⟩
  have C0 : CacheAt w F0 cb mb ov r E := C.mono fun k h1 h2 => by rw [hF0]; exact ⟨h1, h2⟩
  have hB0 := hide hB
  obtain ⟨v1, v2, v3, rfl, h1, h2, h3, hpc, l1, l2, l3⟩ := hB
  obtain ⟨a1, m1, rfl, hm1⟩ := h1.shape
  obtain ⟨a2, m2, rfl, hm2⟩ := h2.shape
  obtain ⟨a3, m3, rfl, hm3⟩ := h3.shape
  obtain ⟨w1, hw1⟩ : ∃ w1, w1 = w.alloc (.cells #[.int .u32 x.pc, .slice a1 x.ws.length m1, .slice a2 x.os.length m2, .slice a3 x.ps.length m3] 38) := ⟨_, rfl⟩
  have G1 : Below w.heap.size w w1 := by rw [hw1]; exact grow _ _
  have BX : Box w1 w.heap.size #[.int .u32 x.pc, .slice a1 x.ws.length m1, .slice a2 x.os.length m2, .slice a3 x.ps.length m3] := by rw [hw1]; exact Box.new _ _ _
  have nB : ¬ F0 w.heap.size := by rw [hF0]; exact fun h => Nat.lt_irrefl _ h.2
  have hrem := remove_any (C0.on G1) x.pc
  have b0 := BX.cell 0
  replace BX := hide BX
  replace G1 := hide G1
  replace nB := hide nB
  replace hF0 := hide hF0
  replace hpc := hide hpc
  replace hFF := hide hFF
  have hr1 := C.r1
  have hr64 := C.r64
  clear C C0 h1 h2 h3
  go_enter Try.func10, Try.ntmps10
  subst hw1
  go_wp2_with fail
  generalize w.alloc (.cells #[.int .u32 x.pc, .slice a1 x.ws.length m1, .slice a2 x.os.length m2, .slice a3 x.ps.length m3] 38) = w1 at *
  refine hrem.mono ?_
  rintro e w2 ⟨rfl, ov2, C2, T2⟩
  have BX2 := BX.out.kept T2 nB.out
  have c20 : w2.cell? ⟨cb, 0, none⟩ = some (.int .i64 r) := C2.box.cell 0
  have c22 : w2.cell? ⟨cb, 2, none⟩ = some ov2 := C2.box.cell 2
  have hlen := C2.ord.1.1
  obtain ⟨E1, hE1⟩ : ∃ E1, E1 = wout E x.pc := ⟨_, rfl⟩
  rw [← hE1] at C2
  have hord := C2.ord
  have hle := C2.le
  have hpl := pcs_len E1
  obtain ⟨n, hn⟩ : ∃ n, n = (pcs E1).length := ⟨_, rfl⟩
  have hshape := hord.shape
  rw [← hn] at hshape hpl
  obtain ⟨ao, mo, rfl, hmo⟩ := hshape
  replace C2 := hide C2
  replace T2 := hide T2
  replace BX2 := hide BX2
  replace hE1 := hide hE1
  replace hord := hide hord
  replace hn := hide hn
  have hnr : n ≤ r := by omega
  replace hpl := hide hpl
  replace hle := hide hle
  clear hrem b0 hlen
  go_wp2_with fail
  go_region
  go_upto_if 17 with fail
  replace C2 := hide C2.out.drew
  replace T2 := hide T2.out.drew
  replace BX2 := hide BX2.out.drew
  replace hord := hide (C2.out.ord)
  clear c20 c22
  generalize w2.drew = w3 at *
  go_cut [] from 8 (fun y => Hid (∃ ov3, CacheAt y F0 cb mb ov3 r (trim r E1) ∧ Turn F0 w1 y))
  case first =>
    by_cases h : n = r
    · have e1 : ((n : Int) == (r : Int)) = true := by simp; omega
      obtain ⟨p0, E2, hE2⟩ : ∃ p0 E2, E1 = p0 :: E2 := by
        cases hE : E1 with
        | nil => exfalso; rw [hE] at hpl; have := hpl.out; simp at this; omega
        | cons p E2 => exact ⟨p, E2, rfl⟩
      have hcase := hord.out.1.2
      obtain ⟨g, ho, hg⟩ : ∃ g, ao = some ⟨g, 0, none⟩ ∧ w3.cell? ⟨g, 0, none⟩ = some (.int .u32 p0.1.pc) := by
        rcases hcase with ⟨hv, h0⟩ | ⟨g, cap, cur, hv, -⟩
        · exfalso; have := hn.out; omega
        · injection hv with hv1 hv2 hv3
          refine ⟨g, hv1, ?_⟩
          have := hord.out.1.cells (g := g) (by rw [hv1]; rfl) 0 (.int .u32 p0.1.pc) (by rw [hE2]; rfl)
          rwa [Addr.add_lit] at this
      have c2 : w3.cell? ⟨cb, 2, none⟩ = some (.slice ao n mo) := C2.out.box.cell 2
      have hrem := remove_any C2.out p0.1.pc
      rw [ho] at c2
      clear hcase
      go_wp2_with fail
      refine hrem.mono ?_
      rintro e w4 ⟨rfl, ov4, C4, T4⟩
      replace C4 := hide C4
      replace T4 := hide T4
      clear hrem
      go_wp2_with fail
      go_meet
      case rel =>
        refine hide ⟨ov4, ?_, T2.out.trans T4.out (fun b h => .inl h)⟩
        have hnd := C2.out.nodup
        have ht : trim r E1 = wout E1 p0.1.pc := by
          rw [hE2] at hnd ⊢
          rw [wout_head hnd]
          unfold trim
          rw [if_pos (by rw [← hE2]; have := hpl.out; omega)]
          rfl
        rw [ht]
        exact C4.out
    · have e1 : ((n : Int) == (r : Int)) = false := by simp; omega
      go_wp2_with fail
      go_meet
      case rel =>
        refine hide ⟨.slice ao n mo, ?_, T2.out⟩
        have ht : trim r E1 = E1 := by
          unfold trim
          rw [if_neg (by have := hpl.out; omega)]
        rw [ht]
        exact C2.out
  case rest =>
    obtain ⟨ov3, C3, T3⟩ := hcut.out
    have BXc := BX2
    clear hcut T2 C2 hord BX2
    have BX3 : Hid (Box wc w.heap.size #[.int .u32 x.pc, .slice a1 x.ws.length m1, .slice a2 x.os.length m2, .slice a3 x.ps.length m3]) := hide (BX.out.kept T3 nB.out)
    have hB3 : Hid (BlkAt wc F' (.agg #[.int .u32 x.pc, .slice a1 x.ws.length m1, .slice a2 x.os.length m2, .slice a3 x.ps.length m3]) x) := hide (hB0.out.keep fun k h1 h2 => by
      rw [T3.block k (Nat.lt_of_lt_of_le h2 G1.out.size) (fun h => hFF.out k h1 (by have := hF0.out; rw [this] at h; exact h.1)), G1.out.block k h2])
    replace C3 := hide C3
    replace T3 := hide T3
    have hno : Hid (∀ p ∈ trim r E1, p.1.pc ≠ x.pc) := hide (fun p hp => by
      have h : p ∈ E1 := by
        unfold trim at hp
        split at hp
        · exact List.mem_of_mem_drop hp
        · exact hp
      rw [hE1.out] at h
      exact wout_not p h)
    obtain ⟨E3, hE3⟩ : ∃ E3, Hid (E3 = trim r E1) := ⟨_, hide rfl⟩
    rw [← hE3.out] at C3 hno
    have hWC : Hid (w.heap.size ≤ wc.heap.size) := hide (Nat.le_trans G1.out.size T3.out.size)
    clear BXc BX
    go_wp2_with fail
    refine wp_region_held_drew (S := fun y => Box y cb #[.int .i64 r, .map (some mb), ov3] ∧ Box y w.heap.size #[.int .u32 x.pc, .slice a1 x.ws.length m1, .slice a2 x.os.length m2, .slice a3 x.ps.length m3]) (by kernel_rfl) ⟨C3.out.box.drew, BX3.out.drew⟩ (fun hHeld => ?_)
    have hSZ : Hid (wc.heap.size ≤ wc.drew.heap.size) := hide (Nat.le_refl _)
    replace C3 := hide C3.out.drew
    replace T3 := hide T3.out.drew
    replace hB3 := hide (hB3.out.on (below_drewN' (Below.refl _ wc) 1))
    have hdr : wc.drewN 1 = wc.drew := rfl
    rw [hdr] at hB3
    generalize wc.drew = w4 at *
    clear BX3 hdr
    refine wpAnyH_take (i := 0) (v := ?_) rfl (by kernel_rfl) (by kernel_rfl) (by kernel_rfl) (fun _ _ _ h => h) (Or.inl ⟨by rfl, ?_⟩) (by assumption) ?_
    rotate_left
    · intro y hSw
      have q1 := hSw.1.cell 1; have e0 := hSw.2.cell 0; have e1 := hSw.2.cell 1; have e2 := hSw.2.cell 2; have e3 := hSw.2.cell 3
      go_simp
      try with_reducible rfl
    try simp only [Act.put, List.setIfInBounds_toArray, List.set_cons_zero, List.set_cons_succ]
    refine wpAnyH_take (i := 1) (v := ?_) rfl (by kernel_rfl) (by kernel_rfl) (by kernel_rfl) (fun _ _ _ h => h) (Or.inl ⟨by rfl, ?_⟩) (by assumption) ?_
    rotate_left
    · intro y hSw
      have q1 := hSw.1.cell 1; have e0 := hSw.2.cell 0; have e1 := hSw.2.cell 1; have e2 := hSw.2.cell 2; have e3 := hSw.2.cell 3
      go_simp
      try with_reducible rfl
    try simp only [Act.put, List.setIfInBounds_toArray, List.set_cons_zero, List.set_cons_succ]
    refine wpAnyH_take (i := 2) (v := ?_) rfl (by kernel_rfl) (by kernel_rfl) (by kernel_rfl) (fun _ _ _ h => h) (Or.inl ⟨by rfl, ?_⟩) (by assumption) ?_
    rotate_left
    · intro y hSw
      have q1 := hSw.1.cell 1; have e0 := hSw.2.cell 0; have e1 := hSw.2.cell 1; have e2 := hSw.2.cell 2; have e3 := hSw.2.cell 3
      go_simp
      try with_reducible rfl
    try simp only [Act.put, List.setIfInBounds_toArray, List.set_cons_zero, List.set_cons_succ]
    refine wpAnyH_take (i := 3) (v := ?_) rfl (by kernel_rfl) (by kernel_rfl) (by kernel_rfl) (fun _ _ _ h => h) (Or.inl ⟨by rfl, ?_⟩) (by assumption) ?_
    rotate_left
    · intro y hSw
      have q1 := hSw.1.cell 1; have e0 := hSw.2.cell 0; have e1 := hSw.2.cell 1; have e2 := hSw.2.cell 2; have e3 := hSw.2.cell 3
      go_simp
      try with_reducible rfl
    try simp only [Act.put, List.setIfInBounds_toArray, List.set_cons_zero, List.set_cons_succ]
    refine wpAnyH_take (i := 4) (v := ?_) rfl (by kernel_rfl) (by kernel_rfl) (by kernel_rfl) (fun _ _ _ h => h) (Or.inl ⟨by rfl, ?_⟩) (by assumption) ?_
    rotate_left
    · intro y hSw
      have q1 := hSw.1.cell 1; have e0 := hSw.2.cell 0; have e1 := hSw.2.cell 1; have e2 := hSw.2.cell 2; have e3 := hSw.2.cell 3
      go_simp
      try with_reducible rfl
    try simp only [Act.put, List.setIfInBounds_toArray, List.set_cons_zero, List.set_cons_succ]
    refine wpAnyH_take (i := 5) (v := ?_) rfl (by kernel_rfl) (by kernel_rfl) (by kernel_rfl) (fun _ _ _ h => h) (Or.inl ⟨by rfl, ?_⟩) (by assumption) ?_
    rotate_left
    · intro y hSw
      have q1 := hSw.1.cell 1; have e0 := hSw.2.cell 0; have e1 := hSw.2.cell 1; have e2 := hSw.2.cell 2; have e3 := hSw.2.cell 3
      go_simp
      try with_reducible rfl
    try simp only [Act.put, List.setIfInBounds_toArray, List.set_cons_zero, List.set_cons_succ]
    refine wpAnyH_take (i := 6) (v := ?_) rfl (by kernel_rfl) (by kernel_rfl) (by kernel_rfl) (fun _ _ _ h => h) (Or.inl ⟨by rfl, ?_⟩) (by assumption) ?_
    rotate_left
    · intro y hSw
      have q1 := hSw.1.cell 1; have e0 := hSw.2.cell 0; have e1 := hSw.2.cell 1; have e2 := hSw.2.cell 2; have e3 := hSw.2.cell 3
      go_simp
      try with_reducible rfl
    try simp only [Act.put, List.setIfInBounds_toArray, List.set_cons_zero, List.set_cons_succ]
    refine wpAnyH_ready (rs := [7]) (by kernel_rfl) (by simp) ?_
    refine AllReadyH.cons rfl (fun K hK => ?_) AllReadyH.nil
    go_simp
    refine (clone_any hB3.out).mono ?_
    rintro e x1 ⟨v4, rfl, V4, hn⟩
    replace C3 := hide (C3.out.on hn)
    replace T3 := hide (T3.out.trans (Turn.of (F := F0) hn) (fun b h => .inl h))
    have hz : wc.heap.size ≤ w4.heap.size := hSZ.out
    replace V4 := hide (V4.mono (G := fun k => wc.heap.size ≤ k) (fun k h1 _ => Nat.le_trans hz h1))
    clear hz
    go_wp2_with fail
    refine hK.out _ _ (⟨hHeld.1.on hn, hHeld.2.on hn⟩) (fun hHeld => ?_)
    clear hK K
    try simp only [Act.put, List.setIfInBounds_toArray, List.set_cons_zero, List.set_cons_succ]
    clear hn
    refine wpAnyH_ready (rs := [8]) (by kernel_rfl) (by simp) ?_
    refine AllReadyH.cons rfl (fun K hK => ?_) AllReadyH.nil
    obtain ⟨x2, hup, M5, T5⟩ := put_new C3.out.map x.pc v4 (fun p hp => by obtain ⟨q, hq, rfl⟩ := List.mem_map.1 hp; exact hno.out q hq)
    have hcm := C3.out.cm
    have hmB : ¬ mb = w.heap.size := fun e => nB.out (e ▸ C3.out.fm)
    replace M5 := hide M5
    replace T5 := hide T5
    go_simp
    refine hK.out _ _ (⟨hHeld.1.kept T5.out (fun e => hcm e), hHeld.2.kept T5.out (fun e => hmB e.symm)⟩) (fun hHeld => ?_)
    clear hK K
    try simp only [Act.put, List.setIfInBounds_toArray, List.set_cons_zero, List.set_cons_succ]
    clear hup hcm hmB
    refine wpAnyH_done (by kernel_rfl) ?_ _
    go_wp2_with fail
    obtain ⟨i, hi, hz, hs, hb⟩ := infoW
    have BC := hide hHeld.1.drew
    have OR : Hid (Row x2 F0 32 1 ov3 (pcs E3).length (ints (pcs E3))) := hide (C3.out.ord.turn T5.out (fun k e h => C3.out.mo (h ▸ e)))
    have hlt : Hid (E3.length < r) := hide (by rw [hE3.out]; exact trim_len hle.out hr1)
    have hP : (pcs E3).length ≤ 64 := by rw [pcs_len]; have := hlt.out; omega
    have hx : cb < x2.heap.size ∧ w.heap.size < x2.heap.size := ⟨hHeld.1.2.2, hHeld.2.2.2⟩
    have hx5 : Hid (Below x2.heap.size x2 x2.drew) := hide (Below.refl _ x2).drew
    have BB := hHeld.2.drew
    clear hHeld
    refine wp_region_held_drew (S := fun y => Box y w.heap.size #[.int .u32 x.pc, .slice a1 x.ws.length m1, .slice a2 x.os.length m2, .slice a3 x.ps.length m3]) (by kernel_rfl) BB (fun hHeld => ?_)
    clear BB
    replace OR := hide (OR.out.on (Below.refl _ x2).drew)
    generalize x2.drew = x5 at *
    refine wpAnyH_take (i := 0) (v := ?_) rfl (by kernel_rfl) (by kernel_rfl) (by kernel_rfl) (fun _ _ _ h => h) (Or.inl ⟨by rfl, ?_⟩) (by assumption) ?_
    rotate_left
    · intro y hSw
      have e0 := hSw.cell 0
      go_simp
      try with_reducible rfl
    try simp only [Act.put, List.setIfInBounds_toArray, List.set_cons_zero, List.set_cons_succ]
    refine wpAnyH_take (i := 1) (v := ?_) rfl (by kernel_rfl) (by kernel_rfl) (by kernel_rfl) (fun _ _ _ h => h) (Or.inl ⟨by rfl, ?_⟩) (by assumption) ?_
    rotate_left
    · intro y hSw
      have e0 := hSw.cell 0
      go_simp
      try with_reducible rfl
    try simp only [Act.put, List.setIfInBounds_toArray, List.set_cons_zero, List.set_cons_succ]
    refine wpAnyH_take (i := 2) (v := ?_) rfl (by kernel_rfl) (by kernel_rfl) (by kernel_rfl) (fun _ _ _ h => h) (Or.inl ⟨by rfl, ?_⟩) (by assumption) ?_
    rotate_left
    · intro y hSw
      have e0 := hSw.cell 0
      go_simp
      try with_reducible rfl
    try simp only [Act.put, List.setIfInBounds_toArray, List.set_cons_zero, List.set_cons_succ]
    refine wpAnyH_take (i := 3) (v := ?_) rfl (by kernel_rfl) (by kernel_rfl) (by kernel_rfl) (fun _ _ _ h => h) (Or.inl ⟨by rfl, ?_⟩) (by assumption) ?_
    rotate_left
    · intro y hSw
      have e0 := hSw.cell 0
      go_simp
      try with_reducible rfl
    try simp only [Act.put, List.setIfInBounds_toArray, List.set_cons_zero, List.set_cons_succ]
    refine wpAnyH_take (i := 5) (v := ?_) rfl (by kernel_rfl) (by kernel_rfl) (by kernel_rfl) (fun _ _ _ h => h) (Or.inl ⟨by rfl, ?_⟩) (by assumption) ?_
    rotate_left
    · intro y hSw
      have e0 := hSw.cell 0
      go_simp
      try with_reducible rfl
    try simp only [Act.put, List.setIfInBounds_toArray, List.set_cons_zero, List.set_cons_succ]
    refine wpAnyH_take (i := 6) (v := ?_) rfl (by kernel_rfl) (by kernel_rfl) (by kernel_rfl) (fun _ _ _ h => h) (Or.inl ⟨by rfl, ?_⟩) (by assumption) ?_
    rotate_left
    · intro y hSw
      have e0 := hSw.cell 0
      go_simp
      try with_reducible rfl
    try simp only [Act.put, List.setIfInBounds_toArray, List.set_cons_zero, List.set_cons_succ]
    refine wpAnyH_ready (rs := [4, 7]) (by kernel_rfl) (by simp) ?_
    refine AllReadyH.cons rfl (fun K hK => ?_) ?_
    · have c2 := BC.out.cell 2
      go_simp
      refine hK.out _ _ (hHeld) (fun hHeld => ?_)
      clear hK K
      try simp only [Act.put, List.setIfInBounds_toArray, List.set_cons_zero, List.set_cons_succ]
      clear c2
      refine wpAnyH_ready (rs := [7]) (by kernel_rfl) (by simp) ?_
      refine AllReadyH.cons rfl (fun K hK => ?_) AllReadyH.nil
      have gA := grow x5 (.cells #[.int .u32 x.pc] 32)
      have BN := hide (Box.new x5 #[.int .u32 x.pc] 32)
      replace BC := hide (BC.out.on gA)
      replace OR := hide (OR.out.on gA)
      have hLB := hx5.out.size
      replace hx5 := hide (onto hx5.out (Nat.le_refl _) gA)
      replace hLB := hide hLB
      go_simp
      refine hK.out _ _ (hHeld.on gA) (fun hHeld => ?_)
      clear hK K
      try simp only [Act.put, List.setIfInBounds_toArray, List.set_cons_zero, List.set_cons_succ]
      clear gA
      generalize x5.alloc (.cells #[.int .u32 x.pc] 32) = x7 at *
      generalize x5.heap.size = LB at *
      refine wpAnyH_ready (rs := [8]) (by kernel_rfl) (by simp) ?_
      refine AllReadyH.cons rfl (fun K hK => ?_) AllReadyH.nil
      obtain ⟨v5, x8, hap, O5, G5, -, hat⟩ := run_append_own_at (P := Try.prog) x7 0 35 35 32 i _ 1 4 Try.underlying35 hi hz hs hb rfl (by decide) ov3 (pcs E3).length (ints (pcs E3)) OR.out.1 ⟨LB, 0, none⟩ 1 1 [.int .u32 x.pc] rfl (fun j u hj => by rw [Addr.add_lit, Nat.zero_add, BN.out.cell]; simpa using hj) (by simp [Value.oneCell']) (by unfold maxLen; omega) (by omega) (Nat.zero_le _)
      obtain ⟨a5, m5, rfl, -⟩ := (show Row _ (fun _ => True) _ _ _ _ _ from ⟨O5, fun _ _ => trivial⟩).shape
      replace BC := hide (BC.out.of_heap (G5.block cb BC.out.2.2 (fun e => C3.out.co e.symm)))
      have hov := G5.block w.heap.size hHeld.2.2 (fun e => nB.out (C3.out.ord.2 _ e.symm))
      replace O5 := hide O5
      replace G5 := hide G5
      replace hat := hide hat
      refine step_append_told rfl (.tmp 38) (.tmp 41) 35 rfl ov3 (.slice (some ⟨LB, 0, none⟩) 1 1) _ rfl rfl hap ?_
      refine hK.out _ _ (hHeld.of_heap hov) (fun hHeld => ?_)
      clear hK K
      try simp only [Act.put, List.setIfInBounds_toArray, List.set_cons_zero, List.set_cons_succ]
      clear hap hov
      refine wpAnyH_take (i := 9) (v := ?_) rfl (by kernel_rfl) (by kernel_rfl) (by kernel_rfl) (fun _ _ _ h => h) (Or.inl ⟨by rfl, ?_⟩) (by assumption) ?_
      rotate_left
      · intro y hSw
        have e0 := hSw.cell 0
        go_simp
        try with_reducible rfl
      try simp only [Act.put, List.setIfInBounds_toArray, List.set_cons_zero, List.set_cons_succ]
      refine wpAnyH_take (i := 10) (v := ?_) rfl (by kernel_rfl) (by kernel_rfl) (by kernel_rfl) (fun _ _ _ h => h) (Or.inl ⟨by rfl, ?_⟩) (by assumption) ?_
      rotate_left
      · intro y hSw
        have e0 := hSw.cell 0
        go_simp
        try with_reducible rfl
      try simp only [Act.put, List.setIfInBounds_toArray, List.set_cons_zero, List.set_cons_succ]
      refine wpAnyH_ready (rs := [11]) (by kernel_rfl) (by simp) ?_
      refine AllReadyH.cons rfl (fun K hK => ?_) AllReadyH.nil
      have c2 := BC.out.cell 2
      have f2 := BC.out.free 2
      have BY := hide (BC.out.set 2 (.slice a5 ((pcs E3).length + 1) m5))
      have hfr : ∀ k, k ≠ cb → (x8.setCell ⟨cb, 2, none⟩ (.slice a5 ((pcs E3).length + 1) m5)).heap[k]? = x8.heap[k]? := fun k hk => Below.heap_setCell x8 _ _ k hk
      have hcB : ¬ w.heap.size = cb := fun e => nB.out (e ▸ C3.out.fc)
      replace hfr := hide hfr
      go_simp
      refine hK.out _ _ (hHeld.of_heap (hfr.out _ hcB)) (fun hHeld => ?_)
      clear hK K
      try simp only [Act.put, List.setIfInBounds_toArray, List.set_cons_zero, List.set_cons_succ]
      clear c2 f2 BC hcB
      refine wpAnyH_done (by kernel_rfl) ?_ _
      go_wp2_with fail
      go_end0
      refine ⟨rfl, ?_⟩
      rw [← hE1.out, ← hE3.out]
      refine put_end hF0.out G1.out T3.out C3.out V4.out hWC.out M5.out T5.out hno.out hlt.out (v5 := .slice a5 ((pcs E3).length + 1) m5) (fun k h1 h2 h3 => ?_) BY.out ?_ ?_ ?_ ?_ ?_ ?_
      · rw [hfr.out k h2, G5.out.block k (Nat.lt_of_lt_of_le h1 hx5.out.size) (fun e => h3 e.symm), hx5.out.block k h1]
      · have hne : (Value.slice a5 ((pcs E3).length + 1) m5).ownBlock ≠ some cb := fun e => by
          rcases hat.out with h | h
          · exact C3.out.co (h.symm.trans e)
          · rw [h] at e; injection e with e; have h1 := hx.1; have h2 := hx5.out.size; omega
        exact ((show Row _ (fun _ => True) _ _ _ _ _ from ⟨O5.out, fun _ _ => trivial⟩).turn (y := x8.setCell ⟨cb, 2, none⟩ (.slice a5 ((pcs E3).length + 1) m5)) (G := fun k => k = cb) ⟨rfl, rfl, rfl, by simp [World.setCell], fun k _ hk => hfr.out k hk⟩ (fun k e h => hne (h ▸ e))).1
      · exact hat.out.imp id (fun e => ⟨_, e, hx5.out.size⟩)
      · refine Nat.le_trans (Nat.le_trans hx5.out.size G5.out.size) (by simp [World.setCell])
      · exact G5.out.os.trans hx5.out.os
      · exact G5.out.tape.trans hx5.out.tape
      · exact G5.out.output.trans hx5.out.output
    refine AllReadyH.cons rfl (fun K hK => ?_) AllReadyH.nil
    have gA := grow x5 (.cells #[.int .u32 x.pc] 32)
    have BN := hide (Box.new x5 #[.int .u32 x.pc] 32)
    replace BC := hide (BC.out.on gA)
    replace OR := hide (OR.out.on gA)
    have hLB := hx5.out.size
    replace hx5 := hide (onto hx5.out (Nat.le_refl _) gA)
    replace hLB := hide hLB
    go_simp
    refine hK.out _ _ (hHeld.on gA) (fun hHeld => ?_)
    clear hK K
    try simp only [Act.put, List.setIfInBounds_toArray, List.set_cons_zero, List.set_cons_succ]
    clear gA
    generalize x5.alloc (.cells #[.int .u32 x.pc] 32) = x6 at *
    generalize x5.heap.size = LB at *
    refine wpAnyH_ready (rs := [4]) (by kernel_rfl) (by simp) ?_
    refine AllReadyH.cons rfl (fun K hK => ?_) AllReadyH.nil
    have c2 := BC.out.cell 2
    go_simp
    refine hK.out _ _ (hHeld) (fun hHeld => ?_)
    clear hK K
    try simp only [Act.put, List.setIfInBounds_toArray, List.set_cons_zero, List.set_cons_succ]
    clear c2
    refine wpAnyH_ready (rs := [8]) (by kernel_rfl) (by simp) ?_
    refine AllReadyH.cons rfl (fun K hK => ?_) AllReadyH.nil
    obtain ⟨v5, x8, hap, O5, G5, -, hat⟩ := run_append_own_at (P := Try.prog) x6 0 35 35 32 i _ 1 4 Try.underlying35 hi hz hs hb rfl (by decide) ov3 (pcs E3).length (ints (pcs E3)) OR.out.1 ⟨LB, 0, none⟩ 1 1 [.int .u32 x.pc] rfl (fun j u hj => by rw [Addr.add_lit, Nat.zero_add, BN.out.cell]; simpa using hj) (by simp [Value.oneCell']) (by unfold maxLen; omega) (by omega) (Nat.zero_le _)
    obtain ⟨a5, m5, rfl, -⟩ := (show Row _ (fun _ => True) _ _ _ _ _ from ⟨O5, fun _ _ => trivial⟩).shape
    replace BC := hide (BC.out.of_heap (G5.block cb BC.out.2.2 (fun e => C3.out.co e.symm)))
    have hov := G5.block w.heap.size hHeld.2.2 (fun e => nB.out (C3.out.ord.2 _ e.symm))
    replace O5 := hide O5
    replace G5 := hide G5
    replace hat := hide hat
    refine step_append_told rfl (.tmp 38) (.tmp 41) 35 rfl ov3 (.slice (some ⟨LB, 0, none⟩) 1 1) _ rfl rfl hap ?_
    refine hK.out _ _ (hHeld.of_heap hov) (fun hHeld => ?_)
    clear hK K
    try simp only [Act.put, List.setIfInBounds_toArray, List.set_cons_zero, List.set_cons_succ]
    clear hap hov
    refine wpAnyH_take (i := 9) (v := ?_) rfl (by kernel_rfl) (by kernel_rfl) (by kernel_rfl) (fun _ _ _ h => h) (Or.inl ⟨by rfl, ?_⟩) (by assumption) ?_
    rotate_left
    · intro y hSw
      have e0 := hSw.cell 0
      go_simp
      try with_reducible rfl
    try simp only [Act.put, List.setIfInBounds_toArray, List.set_cons_zero, List.set_cons_succ]
    refine wpAnyH_take (i := 10) (v := ?_) rfl (by kernel_rfl) (by kernel_rfl) (by kernel_rfl) (fun _ _ _ h => h) (Or.inl ⟨by rfl, ?_⟩) (by assumption) ?_
    rotate_left
    · intro y hSw
      have e0 := hSw.cell 0
      go_simp
      try with_reducible rfl
    try simp only [Act.put, List.setIfInBounds_toArray, List.set_cons_zero, List.set_cons_succ]
    refine wpAnyH_ready (rs := [11]) (by kernel_rfl) (by simp) ?_
    refine AllReadyH.cons rfl (fun K hK => ?_) AllReadyH.nil
    have c2 := BC.out.cell 2
    have f2 := BC.out.free 2
    have BY := hide (BC.out.set 2 (.slice a5 ((pcs E3).length + 1) m5))
    have hfr : ∀ k, k ≠ cb → (x8.setCell ⟨cb, 2, none⟩ (.slice a5 ((pcs E3).length + 1) m5)).heap[k]? = x8.heap[k]? := fun k hk => Below.heap_setCell x8 _ _ k hk
    have hcB : ¬ w.heap.size = cb := fun e => nB.out (e ▸ C3.out.fc)
    replace hfr := hide hfr
    go_simp
    refine hK.out _ _ (hHeld.of_heap (hfr.out _ hcB)) (fun hHeld => ?_)
    clear hK K
    try simp only [Act.put, List.setIfInBounds_toArray, List.set_cons_zero, List.set_cons_succ]
    clear c2 f2 BC hcB
    refine wpAnyH_done (by kernel_rfl) ?_ _
    go_wp2_with fail
    go_end0
    refine ⟨rfl, ?_⟩
    rw [← hE1.out, ← hE3.out]
    refine put_end hF0.out G1.out T3.out C3.out V4.out hWC.out M5.out T5.out hno.out hlt.out (v5 := .slice a5 ((pcs E3).length + 1) m5) (fun k h1 h2 h3 => ?_) BY.out ?_ ?_ ?_ ?_ ?_ ?_
    · rw [hfr.out k h2, G5.out.block k (Nat.lt_of_lt_of_le h1 hx5.out.size) (fun e => h3 e.symm), hx5.out.block k h1]
    · have hne : (Value.slice a5 ((pcs E3).length + 1) m5).ownBlock ≠ some cb := fun e => by
        rcases hat.out with h | h
        · exact C3.out.co (h.symm.trans e)
        · rw [h] at e; injection e with e; have h1 := hx.1; have h2 := hx5.out.size; omega
      exact ((show Row _ (fun _ => True) _ _ _ _ _ from ⟨O5.out, fun _ _ => trivial⟩).turn (y := x8.setCell ⟨cb, 2, none⟩ (.slice a5 ((pcs E3).length + 1) m5)) (G := fun k => k = cb) ⟨rfl, rfl, rfl, by simp [World.setCell], fun k _ hk => hfr.out k hk⟩ (fun k e h => hne (h ▸ e))).1
    · exact hat.out.imp id (fun e => ⟨_, e, hx5.out.size⟩)
    · refine Nat.le_trans (Nat.le_trans hx5.out.size G5.out.size) (by simp [World.setCell])
    · exact G5.out.os.trans hx5.out.os
    · exact G5.out.tape.trans hx5.out.tape
    · exact G5.out.output.trans hx5.out.output

end Go.Proofs.Ytkmafafmnncgiaa
