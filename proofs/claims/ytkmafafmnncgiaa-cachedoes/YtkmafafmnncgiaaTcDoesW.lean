/- Layer 16: the walk of CacheDoes. -/
import Derived.Test.YtkmafafmnncgiaaTcORow
import Derived.Test.YtkmafafmnncgiaaTcSame2
import Derived.Test.YtkmafafmnncgiaaTcRPut
import Derived.Test.YtkmafafmnncgiaaTcRGet
import Derived.Test.YtkmafafmnncgiaaTcRDrop
import Derived.Deep.RegionHeld3
import Derived.Deep.CutRange
import Derived.Deep.CutBlock
namespace Go.Proofs.Ytkmafafmnncgiaa
open Go.RowKit
set_option linter.unusedVariables false
set_option linter.unusedSimpArgs false

/-- The program's cache and the document's, with the same blocks, apart. -/
structure Dual (w y : World) (cb rb r : Nat) (G H : Nat → Prop) (L : List Blk) : Prop where
  ca : Ca w.heap.size y G cb r L
  rc : RC y H rb r L
  ap : ∀ k, H k → w.heap.size ≤ k ∧ k < y.heap.size ∧ ¬ G k
  be : Below w.heap.size w y

theorem Dual.on {w y z : World} {cb rb r : Nat} {G H : Nat → Prop} {L : List Blk} (h : Dual w y cb rb r G H L) (hb : Below y.heap.size y z) : Dual w z cb rb r G H L :=
  ⟨h.ca.on hb, h.rc.on hb, fun k hk => ⟨(h.ap k hk).1, Nat.lt_of_lt_of_le (h.ap k hk).2.1 hb.size, (h.ap k hk).2.2⟩, h.be.trans (hb.mono h.be.size)⟩

/-- Blocks of neither may be written. -/
theorem Dual.keep {w y z : World} {cb rb r : Nat} {G H : Nat → Prop} {L : List Blk} (h : Dual w y cb rb r G H L) (hs : y.heap.size ≤ z.heap.size) (hk : ∀ k, (G k ∨ H k) → z.heap[k]? = y.heap[k]?) (hb : Below w.heap.size y z) : Dual w z cb rb r G H L :=
  ⟨h.ca.keep hs (fun k h => hk k (.inl h)), h.rc.keep (fun k h _ => hk k (.inr h)), fun k hk => ⟨(h.ap k hk).1, Nat.lt_of_lt_of_le (h.ap k hk).2.1 hs, (h.ap k hk).2.2⟩, h.be.trans hb⟩

/-- Block g is a row that may be written, of m cells at least. -/
def Wr (w : World) (g : Nat) (t : TypeId) (m : Nat) : Prop := ∃ cur, w.heap[g]? = some (.cells cur t (0, 0)) ∧ m ≤ cur.size

theorem Wr.cell {w : World} {g m : Nat} {t : TypeId} (h : Wr w g t m) {j : Nat} (hj : j < m) : ∃ u, w.cell? ⟨g, j, none⟩ = some u := by
  obtain ⟨cur, hg, hm⟩ := h
  exact ⟨_, by rw [cell_of_row w g j cur t _ hg, Array.getElem?_eq_getElem (by omega)]⟩
theorem Wr.free {w : World} {g m : Nat} {t : TypeId} (h : Wr w g t m) (j : Nat) : w.frozen? ⟨g, j, none⟩ = false := by
  obtain ⟨cur, hg, hm⟩ := h
  exact frozen_of_row w g j cur t hg
theorem Wr.set {w : World} {g m : Nat} {t : TypeId} (h : Wr w g t m) (j : Nat) (u : Value) : Wr (w.setCell ⟨g, j, none⟩ u) g t m := by
  obtain ⟨cur, hg, hm⟩ := h
  rw [setCell_eq_setRow w g j cur t (0, 0) u hg]
  exact ⟨_, setRow_heap w g cur _ t _ hg, by simpa using hm⟩
theorem Wr.keep {w y : World} {g m : Nat} {t : TypeId} (h : Wr w g t m) (e : y.heap[g]? = w.heap[g]?) : Wr y g t m := by
  obtain ⟨cur, hg, hm⟩ := h
  exact ⟨cur, e.trans hg, hm⟩
theorem Wr.lt {w : World} {g m : Nat} {t : TypeId} (h : Wr w g t m) : g < w.heap.size := by
  obtain ⟨cur, hg, hm⟩ := h
  exact (Array.getElem?_eq_some_iff.1 hg).1

/-- A row of some elements, as one that may be written. -/
theorem Row.wr {w : World} {F : Nat → Prop} {t : TypeId} {size n : Nat} {v : Value} {xs : List Value} (h : Row w F t size v n xs) : (v = .slice none 0 0 ∧ n = 0) ∨ ∃ g c, v = .slice (some ⟨g, 0, none⟩) n c ∧ F g ∧ n ≤ c ∧ Wr w g t (n * size) := by
  rcases h.1.2 with h0 | ⟨g, cap, cur, rfl, -, hg, hc, -, hs, -⟩
  · exact .inl h0
  · exact .inr ⟨g, cap, rfl, h.2 g rfl, hc, cur, hg, by rw [hs]; exact Nat.mul_le_mul_right _ hc⟩

theorem Dual.set {w y : World} {cb rb r : Nat} {G H : Nat → Prop} {L : List Blk} (h : Dual w y cb rb r G H L) {g : Nat} (hG : ¬ G g) (hH : ¬ H g) (hg : w.heap.size ≤ g) (j : Nat) (u : Value) : Dual w (y.setCell ⟨g, j, none⟩ u) cb rb r G H L :=
  h.keep (by simp [World.setCell]) (fun k hk => Below.heap_setCell y _ _ k (fun e => by have e' : k = g := e; subst e'; rcases hk with hk | hk; exact hG hk; exact hH hk)) ((Below.refl _ _).setCell (p := ⟨g, j, none⟩) hg _)

theorem RC.rb {w : World} {H : Nat → Prop} {rb r : Nat} {L : List Blk} (h : RC w H rb r L) : H rb := by
  obtain ⟨_, _, _, _, _, h⟩ := h
  exact h

set_option maxRecDepth 100000 in
set_option maxHeartbeats 16000000 in
theorem does_walk (w : World) (a : Int) (ha : (Lit.int .i64 a).wf = true) (v : Value) (ops : List Oc) (hv : IsOcs w v ops) :
    Calls Try.prog 3 #[.int .i64 a, v] w fun e w' => e = .returned (.bool true) ∧ Below w.heap.size w w' := by
  have hfix := fixed_any
  by_cases hr : 1 ≤ a ∧ a ≤ 64
  · obtain ⟨r, rfl⟩ := Int.eq_ofNat_of_zero_le (show 0 ≤ a by omega)
    have h1 : 1 ≤ r := by omega
    have h64 : r ≤ 64 := by omega
    have cn := ca_new r h1 h64 w
    obtain ⟨ad, n, c, rfl, hn, hmx, hx⟩ := hv.open'
    unfold maxLen at hmx
    replace hx := hide hx
    replace hn := hide hn
    replace hfix := hide hfix
    clear hr ha hv
    go_enter Try.func3, Try.ntmps3
    go_wp2_with fail
    refine cn.mono ?_
    rintro e w1 ⟨cb, F, rfl, C, hb⟩
    have hF := C.in'
    have g1 := grow w1 (.cells #[.int .i64 r, .slice none 0 0] 31)
    have B1 := Box.new w1 #[.int .i64 r, .slice none 0 0] 31
    have RC0 : RC (w1.alloc (.cells #[.int .i64 r, .slice none 0 0] 31)) (fun k => k = w1.heap.size) w1.heap.size r [] :=
      ⟨.slice none 0 0, [], B1, ⟨⟨World.ownsRow_nil _ 0 _ 4, fun k hk => by simp [Value.ownBlock] at hk⟩, fun p hp => by cases hp⟩, rfl, rfl⟩
    have D0 : Hid (Dual w (w1.alloc (.cells #[.int .i64 r, .slice none 0 0] 31)) cb w1.heap.size r F (fun k => k = w1.heap.size) []) := hide
      ⟨C.on g1, RC0, fun k hk => ⟨by rw [hk]; exact hb.size, by rw [hk]; simp, fun hG => by have := (hF k hG).2; omega⟩, onto hb (Nat.le_refl _) g1⟩
    obtain ⟨rb, hrb⟩ : ∃ rb, rb = w1.heap.size := ⟨_, rfl⟩
    clear cn C hb hF g1 B1 RC0
    go_wp2_with fail
    rw [← hrb] at D0 ⊢
    generalize w1.alloc (.cells #[.int .i64 r, .slice none 0 0] 31) = w2 at *
    clear hrb
    go_loopw [8] (fun i wr => ∃ (k : Nat) (G H : Nat → Prop) (L : List Blk), k ≤ n ∧ i = .int .i64 (k : Int) ∧ Hid (Dual w wr cb rb r G H L)) (fun i _ => n - (intOf i).toNat)
    case atStart => exact ⟨0, F, _, [], Nat.zero_le _, rfl, D0⟩
    case round =>
      clear D0
      obtain ⟨k, G, H, L, hk, rfl, D⟩ := hrel
      by_cases h : k < n ∧ k < 100
      · obtain ⟨hk1, hk2⟩ := h
        obtain ⟨o, ho⟩ : ∃ o, ops[k]? = some o := ⟨ops[k]'(by have := hn.out; omega), List.getElem?_eq_getElem _⟩
        obtain ⟨hw, b, off, rfl, hbl, hat⟩ := hx.out k o ho
        obtain ⟨o0, o1, o2, o3, o4⟩ := (hat.keep (D.out.be.block b hbl)).five
        have g := grow wr (.cells #[.int .i64 o.k, .int .u32 o.p, .int .i64 o.n, .int .u32 o.s, .int .u32 o.m] 34)
        have BO := hide (Box.new wr #[.int .i64 o.k, .int .u32 o.p, .int .i64 o.n, .int .u32 o.s, .int .u32 o.m] 34)
        have D1 := hide (D.out.on g)
        have nG : Hid (¬ G wr.heap.size ∧ ¬ H wr.heap.size) := hide ⟨fun h => Nat.lt_irrefl _ (D.out.ca.in' _ h).2, fun h => Nat.lt_irrefl _ (D.out.ap _ h).2.1⟩
        have hsw : Hid (w.heap.size ≤ wr.heap.size) := hide D.out.be.size
        replace hw := hide hw
        clear hat ho D g
        obtain ⟨W0, rfl⟩ : ∃ W0, W0 = wr := ⟨_, rfl⟩
        have dk100 : decide ((k : Int) < 100) = true := by simp; omega
        go_upto_block 2 with fail
        go_cut [] from 45 to 155 (fun y => ∃ (G2 H2 : Nat → Prop) (L2 : List Blk), Hid (Dual w y cb rb r G2 H2 L2))
        case first =>
          by_cases e0 : o.k = 0
          · have t0 : (o.k == 0) = true := by simpa using e0
            have hle := hide D1.out.ca.le
            have cbk := fun y => block_any o hw.out y
            simp only [cellsO] at cbk
            replace cbk := hide cbk
            clear e0
            go_wp2_with fail
            generalize W0.alloc (.cells #[.int .i64 o.k, .int .u32 o.p, .int .i64 o.n, .int .u32 o.s, .int .u32 o.m] 34) = Y0 at *
            have hY0 : Hid (W0.heap.size < Y0.heap.size) := hide BO.out.2.2
            refine (cbk.out _).mono ?_
            rintro e w3 ⟨vb, rfl, VB, h3⟩
            obtain ⟨x, hxo⟩ : ∃ x, x = blkO o := ⟨_, rfl⟩
            rw [← hxo] at VB
            have hlo : Hid (x.os.length = x.ws.length) := hide (by rw [hxo]; simp [blkO, wsO_len, osO_len])
            replace hxo := hide hxo
            obtain ⟨u1, u2, u3, rfl, V1, V2, V3, hp5, l1, l2, l3⟩ := VB
            obtain ⟨q1, m1, rfl, hm1⟩ := V1.shape
            obtain ⟨q2, m2, rfl, hm2⟩ := V2.shape
            obtain ⟨q3, m3, rfl, hm3⟩ := V3.shape
            have VX3 : BlkAt w3 (fun k => Y0.heap.size ≤ k) (.agg #[.int .u32 x.pc, .slice q1 x.ws.length m1, .slice q2 x.os.length m2, .slice q3 x.ps.length m3]) x := ⟨_, _, _, rfl, V1, V2, V3, hp5, l1, l2, l3⟩
            have b1lt : Hid (∀ g, (Value.slice q1 x.ws.length m1).ownBlock = some g → g < w3.heap.size) := hide (fun g hg => (V1.1.lt g hg).2)
            have b2lt : Hid (∀ g, (Value.slice q2 x.os.length m2).ownBlock = some g → g < w3.heap.size) := hide (fun g hg => (V2.1.lt g hg).2)
            have g4 := grow w3 (.cells #[.int .u32 x.pc, .slice q1 x.ws.length m1, .slice q2 x.os.length m2, .slice q3 x.ps.length m3] 38)
            have BV := Box.new w3 #[.int .u32 x.pc, .slice q1 x.ws.length m1, .slice q2 x.os.length m2, .slice q3 x.ps.length m3] 38
            have D4 := (D1.out.on h3).on g4
            have BO4 := (BO.out.on h3).on g4
            have hin := D1.out.ca.in'
            have cpt := ca_put D4.ca D4.be.size (VX3.on g4) (fun j hj hG => by have := (hin j hG).2; omega)
            have V14 := hide (V1.on g4)
            have V24 := hide (V2.on g4)
            have hs34 : Hid (Y0.heap.size ≤ w3.heap.size) := hide h3.size
            replace D4 := hide D4
            replace BO4 := hide BO4
            replace BV := hide BV
            replace hin := hide hin
            clear VX3 V1 V2 V3 hp5 l1 l2 l3 h3 BO
            go_wp2_with fail
            generalize hw4 : w3.alloc (.cells #[.int .u32 x.pc, .slice q1 x.ws.length m1, .slice q2 x.os.length m2, .slice q3 x.ps.length m3] 38) = w4 at *
            have hs4 : Hid (w3.heap.size < w4.heap.size) := hide BV.out.2.2
            clear hw4 g4
            refine cpt.mono ?_
            rintro e w5 ⟨rfl, G5, C5, T5, hG5⟩
            have BO5 := BO4.out.kept T5 nG.out.1
            have p0 : w5.cell? ⟨W0.heap.size, 0, none⟩ = some (.int .i64 o.k) := BO5.cell 0
            have p1 : w5.cell? ⟨W0.heap.size, 1, none⟩ = some (.int .u32 o.p) := BO5.cell 1
            have p2 : w5.cell? ⟨W0.heap.size, 2, none⟩ = some (.int .i64 o.n) := BO5.cell 2
            have p3 : w5.cell? ⟨W0.heap.size, 3, none⟩ = some (.int .u32 o.s) := BO5.cell 3
            have p4 : w5.cell? ⟨W0.heap.size, 4, none⟩ = some (.int .u32 o.m) := BO5.cell 4
            have hs45 : Hid (w4.heap.size ≤ w5.heap.size) := hide T5.size
            have R5 := hide (D4.out.rc.keep (y := w5) (fun j hj hl => T5.block j hl (D4.out.ap j hj).2.2))
            have BV5 := hide (BV.out.kept T5 (fun hG => by have := (hin.out _ hG).2; have := hs34.out; omega))
            have V15 := hide (V14.out.turn T5 (fun j e hG => by have := V14.out.2 j e; have := (hin.out _ hG).2; omega))
            have V25 := hide (V24.out.turn T5 (fun j e hG => by have := V24.out.2 j e; have := (hin.out _ hG).2; omega))
            have be5 := hide (D4.out.be.trans (D4.out.ca.below T5 D4.out.be.size))
            have hrbY : Hid (rb < Y0.heap.size ∧ w.heap.size ≤ rb ∧ ¬ G rb) := hide ⟨(D1.out.ap rb D1.out.rc.rb).2.1, (D1.out.ap rb D1.out.rc.rb).1, (D1.out.ap rb D1.out.rc.rb).2.2⟩
            have nrb5 : Hid (¬ G5 rb) := hide (fun h => by
              rcases hG5 rb h with h | h
              · exact hrbY.out.2.2 h
              · have := hrbY.out.1; have := hs34.out; have := hs4.out; omega)
            have hin5 := hide C5.in'
            replace C5 := hide C5
            replace hG5 := hide hG5
            clear cpt T5 BO4 BO5 BV V14 V24
            go_wp2_with fail
            refine (cbk.out _).mono ?_
            rintro e w6 ⟨v6, rfl, V6, h6⟩
            rw [← hxo.out] at V6
            have crp := rput_any (R5.out.on h6) hle.out.1 h1 h64 V6 (fun j hj e => by have := hrbY.out.1; have := hs34.out; have := hs4.out; have := hs45.out; omega)
            have C6 := hide (C5.out.on h6)
            have BV6 := hide (BV5.out.on h6)
            have V16 := hide (V15.out.on h6)
            have V26 := hide (V25.out.on h6)
            have be6 := hide (be5.out.trans (h6.mono be5.out.size))
            have hs56 : Hid (w5.heap.size ≤ w6.heap.size) := hide h6.size
            clear R5 C5 BV5 V15 V25 V6 h6 p0 p1 p2 p3 p4
            go_wp2_with fail
            refine crp.mono ?_
            rintro e w7 ⟨rfl, ⟨H7, R7, hH7⟩, T7⟩
            have hs67 : Hid (w6.heap.size ≤ w7.heap.size) := hide T7.size
            have D7 : Hid (Dual w w7 cb rb r G5 (fun j => H7 j ∧ j < w7.heap.size) (putL r L x)) := hide
              ⟨C6.out.keep T7.size (fun j hj => T7.block j (C6.out.in' j hj).2 (fun e => nrb5.out (e ▸ hj))), R7.mono (fun j hj hl => ⟨hj, hl⟩),
                fun j hj => by
                  have q1 := hs34.out
                  have q2 := hs4.out
                  have q3 := hs45.out
                  have q4 := hs56.out
                  have hw0 := hsw.out
                  have hy0 := hY0.out
                  rcases hH7 j hj.1 with h | h | h
                  · have ha := D1.out.ap j h
                    refine ⟨ha.1, hj.2, fun hG => ?_⟩
                    rcases hG5.out j hG with h' | h'
                    · exact ha.2.2 h'
                    · have := ha.2.1; omega
                  · exact ⟨by omega, hj.2, fun hG => by have := (hin5.out j hG).2; omega⟩
                  · exact ⟨by omega, hj.2, fun hG => by have := (hin5.out j hG).2; omega⟩,
                be6.out.trans (T7.below be6.out.size (fun j hj => by rw [hj]; exact hrbY.out.2.1))⟩
            have BV7 := hide (BV6.out.kept T7 (fun e => by have := hrbY.out.1; have := hs34.out; omega))
            have R1 := (V16.out.turn T7 (fun j e h => by have := V16.out.2 j e; have := hrbY.out.1; omega))
            have R2 := (V26.out.turn T7 (fun j e h => by have := V26.out.2 j e; have := hrbY.out.1; omega))
            have nD : Hid (∀ j, Y0.heap.size ≤ j → j < w3.heap.size → ¬ G5 j ∧ ¬ (H7 j ∧ j < w7.heap.size) ∧ w.heap.size ≤ j) := hide (fun j hj1 hj2 => by
              have q2 := hs4.out
              have q3 := hs45.out
              have q4 := hs56.out
              have hw0 := hsw.out
              have hy0 := hY0.out
              refine ⟨fun h => ?_, fun h => ?_, by omega⟩
              · rcases hG5.out j h with h' | h'
                · have := (hin.out j h').2; omega
                · omega
              · rcases hH7 j h.1 with h' | h' | h'
                · have := (D1.out.ap j h').2.1; omega
                · omega
                · omega)
            have hdist : Hid (∀ a b, (Value.slice q1 x.ws.length m1).ownBlock = some a → (Value.slice q2 x.os.length m2).ownBlock = some b → a ≠ b) := hide (fun a b h1 h2 e => own_ne R1.1 R2.1 (by decide) h1 (e ▸ h2))
            have W1 := R1.wr
            have W2 := R2.wr
            have hF1 := hide R1.2
            have hF2 := hide R2.2
            obtain ⟨ln, hln⟩ : ∃ ln, ln = x.ws.length := ⟨_, rfl⟩
            have hl15 : ln ≤ 15 := by
              rw [hln, hxo.out]
              simpa [blkO, wsO_len] using cntO_lt o.n
            rw [hlo.out] at W2 BV7 b2lt hdist hF2
            rw [← hln] at W1 W2 BV7 b1lt b2lt hdist hF1 hF2
            clear crp C6 R7 hH7 T7 BV6 V16 V26 R1 R2 hlo
            by_cases hl0 : ln = 0
            · subst hl0
              have k1 : w7.cell? ⟨w3.heap.size, 1, none⟩ = some (.slice q1 0 m1) := BV7.out.cell 1
              clear W1 W2 hln
              go_wp2_with fail
              go_loopw [11] (fun i wr => i = .int .i64 0 ∧ wr = w7) (fun i _ => 0)
              case atStart => exact ⟨rfl, rfl⟩
              case round =>
                obtain ⟨rfl, rfl⟩ := hrel
                go_wp2
                go_meet
                case rel => exact ⟨G5, _, _, D7⟩
            · rcases W1 with ⟨he, h0⟩ | ⟨ga, c8, he, -, hc8, Wa⟩
              · exact absurd h0 hl0
              · rcases W2 with ⟨he2, h0⟩ | ⟨gb, c9, he2, -, hc9, Wb⟩
                · exact absurd h0 hl0
                · injection he with he1 _ he3
                  injection he2 with he4 _ he6
                  subst he1 he3 he4 he6
                  have la := b1lt.out ga rfl
                  have lb := b2lt.out gb rfl
                  have na := hide (nD.out ga (hF1.out ga rfl) la)
                  have nb := hide (nD.out gb (hF2.out gb rfl) lb)
                  have hab : ¬ ga = gb := hdist.out ga gb rfl rfl
                  have hba : ¬ gb = ga := fun e => hab e.symm
                  rw [Nat.mul_one] at Wa
                  replace Wa := hide Wa
                  replace Wb := hide Wb
                  clear hln b1lt b2lt nD hdist hF1 hF2
                  go_wp2_with fail
                  go_loopw [11] (fun i wr => ∃ j : Nat, j ≤ ln ∧ i = .int .i64 (j : Int) ∧ Hid (Dual w wr cb rb r G5 (fun j => H7 j ∧ j < w7.heap.size) (putL r L x)) ∧ Hid (Box wr w3.heap.size #[.int .u32 x.pc, .slice (some ⟨ga, 0, none⟩) ln m1, .slice (some ⟨gb, 0, none⟩) ln m2, .slice q3 x.ps.length m3]) ∧ Hid (Wr wr ga 32 ln) ∧ Hid (Wr wr gb 42 (ln * 6))) (fun i _ => ln - (intOf i).toNat)
                  case atStart => exact ⟨0, Nat.zero_le _, rfl, D7, BV7, Wa, Wb⟩
                  case round =>
                    clear D7 BV7 Wa Wb
                    obtain ⟨j, hj, rfl, D9, BV9, Wa9, Wb9⟩ := hrel
                    have k1 : wr.cell? ⟨w3.heap.size, 1, none⟩ = some (.slice (some ⟨ga, 0, none⟩) ln m1) := BV9.out.cell 1
                    have k2' : wr.cell? ⟨w3.heap.size, 2, none⟩ = some (.slice (some ⟨gb, 0, none⟩) ln m2) := BV9.out.cell 2
                    by_cases hjl : j < ln
                    · obtain ⟨u, hu⟩ := Wa9.out.cell hjl
                      have fu := Wa9.out.free j
                      obtain ⟨y0, hy0⟩ := Wb9.out.cell (j := j * 6) (by omega)
                      obtain ⟨y1, hy1⟩ := Wb9.out.cell (j := j * 6 + 1) (by omega)
                      obtain ⟨y2, hy2⟩ := Wb9.out.cell (j := j * 6 + 2) (by omega)
                      obtain ⟨y3, hy3⟩ := Wb9.out.cell (j := j * 6 + 3) (by omega)
                      obtain ⟨y4, hy4⟩ := Wb9.out.cell (j := j * 6 + 4) (by omega)
                      obtain ⟨y5, hy5⟩ := Wb9.out.cell (j := j * 6 + 5) (by omega)
                      have fy0 := Wb9.out.free (j * 6)
                      have fy1 := Wb9.out.free (j * 6 + 1)
                      have fy2 := Wb9.out.free (j * 6 + 2)
                      have fy3 := Wb9.out.free (j * 6 + 3)
                      have fy4 := Wb9.out.free (j * 6 + 4)
                      have fy5 := Wb9.out.free (j * 6 + 5)
                      have bne1 : ¬ w3.heap.size = ga := by omega
                      have bne2 : ¬ w3.heap.size = gb := by omega
                      have D10 := hide (((((((D9.out.set na.out.1 na.out.2.1 na.out.2.2 j (.int .u32 0)).set nb.out.1 nb.out.2.1 nb.out.2.2 (j * 6) (.int .i64 0)).set nb.out.1 nb.out.2.1 nb.out.2.2 (j * 6 + 1) (.int .i64 0)).set nb.out.1 nb.out.2.1 nb.out.2.2 (j * 6 + 2) (.int .i64 0)).set nb.out.1 nb.out.2.1 nb.out.2.2 (j * 6 + 3) (.int .i64 0)).set nb.out.1 nb.out.2.1 nb.out.2.2 (j * 6 + 4) (.int .u32 0)).set nb.out.1 nb.out.2.1 nb.out.2.2 (j * 6 + 5) (.int .i64 0))
                      have far6 : ∀ t, t ≠ ga → t ≠ gb → (((((((wr.setCell ⟨ga, j, none⟩ (.int .u32 0)).setCell ⟨gb, j * 6, none⟩ (.int .i64 0)).setCell ⟨gb, j * 6 + 1, none⟩ (.int .i64 0)).setCell ⟨gb, j * 6 + 2, none⟩ (.int .i64 0)).setCell ⟨gb, j * 6 + 3, none⟩ (.int .i64 0)).setCell ⟨gb, j * 6 + 4, none⟩ (.int .u32 0)).setCell ⟨gb, j * 6 + 5, none⟩ (.int .i64 0)).heap[t]? = wr.heap[t]? := fun t h1 h2 => by
                        rw [Below.heap_setCell _ _ _ t h2, Below.heap_setCell _ _ _ t h2, Below.heap_setCell _ _ _ t h2, Below.heap_setCell _ _ _ t h2, Below.heap_setCell _ _ _ t h2, Below.heap_setCell _ _ _ t h2, Below.heap_setCell _ _ _ t h1]
                      have BV10 := hide (BV9.out.of_heap (far6 _ bne1 bne2))
                      have Wa1 := Wa9.out.set j (.int .u32 0)
                      have Wa10 : Hid (Wr (((((((wr.setCell ⟨ga, j, none⟩ (.int .u32 0)).setCell ⟨gb, j * 6, none⟩ (.int .i64 0)).setCell ⟨gb, j * 6 + 1, none⟩ (.int .i64 0)).setCell ⟨gb, j * 6 + 2, none⟩ (.int .i64 0)).setCell ⟨gb, j * 6 + 3, none⟩ (.int .i64 0)).setCell ⟨gb, j * 6 + 4, none⟩ (.int .u32 0)).setCell ⟨gb, j * 6 + 5, none⟩ (.int .i64 0)) ga 32 ln) := hide (Wa1.keep (by
                        rw [Below.heap_setCell _ _ _ ga hab, Below.heap_setCell _ _ _ ga hab, Below.heap_setCell _ _ _ ga hab, Below.heap_setCell _ _ _ ga hab, Below.heap_setCell _ _ _ ga hab, Below.heap_setCell _ _ _ ga hab]))
                      have Wb10 := hide (((((((Wb9.out.keep (Below.heap_setCell wr ⟨ga, j, none⟩ (.int .u32 0) gb hba)).set (j * 6) (.int .i64 0)).set (j * 6 + 1) (.int .i64 0)).set (j * 6 + 2) (.int .i64 0)).set (j * 6 + 3) (.int .i64 0)).set (j * 6 + 4) (.int .u32 0)).set (j * 6 + 5) (.int .i64 0))
                      clear D9 BV9 Wa9 Wb9 far6 Wa1
                      go_wp2
                      go_roundw
                      case rel => exact ⟨j + 1, by omega, by go_num, D10, BV10, Wa10, Wb10⟩
                      case measure => simp [intOf]; omega
                    · clear BV9 Wa9 Wb9
                      go_wp2
                      go_meet
                      case rel => exact ⟨G5, _, _, D9⟩
          · have t0 : (o.k == 0) = false := by simpa using e0
            by_cases e1 : o.k = 1
            · have t1 : (o.k == 1) = true := by simpa using e1
              have hle := hide D1.out.ca.le
              clear e0 e1
              go_wp2_with fail
              generalize W0.alloc (.cells #[.int .i64 o.k, .int .u32 o.p, .int .i64 o.n, .int .u32 o.s, .int .u32 o.m] 34) = Y0 at *
              go_loopw [12] (fun i wr => ∃ tn : Nat, tn ≤ 2 ∧ i = .int .i64 (tn : Int) ∧ Hid (Dual w wr cb rb r G H L) ∧ Hid (Box wr W0.heap.size #[.int .i64 o.k, .int .u32 o.p, .int .i64 o.n, .int .u32 o.s, .int .u32 o.m])) (fun i _ => 2 - (intOf i).toNat)
              case atStart => exact ⟨0, by decide, rfl, D1, BO⟩
              case round =>
                clear D1 BO
                obtain ⟨tn, htn, rfl, D, BO⟩ := hrel
                by_cases ht : tn < 2
                · have p1 : wr.cell? ⟨W0.heap.size, 1, none⟩ = some (.int .u32 o.p) := BO.out.cell 1
                  have cg := ca_get D.out.ca o.p
                  obtain ⟨x, hxe⟩ : ∃ x, x = (getL L o.p).getD B0 := ⟨_, rfl⟩
                  obtain ⟨is, his⟩ : ∃ is, is = (getL L o.p).isSome := ⟨_, rfl⟩
                  rw [← hxe, ← his] at cg
                  obtain ⟨W1, rfl⟩ : ∃ W1, W1 = wr := ⟨_, rfl⟩
                  go_wp2_with fail
                  refine cg.mono ?_
                  rintro e w4 ⟨v4, rfl, V4, h4⟩
                  obtain ⟨u1, u2, u3, rfl, V1, V2, V3, hp5, l1, l2, l3⟩ := V4
                  obtain ⟨q1, m1, rfl, -⟩ := V1.shape
                  obtain ⟨q2, m2, rfl, -⟩ := V2.shape
                  obtain ⟨q3, m3, rfl, -⟩ := V3.shape
                  have VX4 : BlkAt w4 (fun k => W1.heap.size ≤ k) (.agg #[.int .u32 x.pc, .slice q1 x.ws.length m1, .slice q2 x.os.length m2, .slice q3 x.ps.length m3]) x := ⟨_, _, _, rfl, V1, V2, V3, hp5, l1, l2, l3⟩
                  have V1' := hide V1
                  have h4v : Hid (∀ g, (Value.slice q1 x.ws.length m1).ownBlock = some g → g < w4.heap.size) := hide (fun g hg => (V1.1.lt g hg).2)
                  have g5 := grow w4 (.cells #[.int .u32 x.pc, .slice q1 x.ws.length m1, .slice q2 x.os.length m2, .slice q3 x.ps.length m3] 38)
                  have BV := Box.new w4 #[.int .u32 x.pc, .slice q1 x.ws.length m1, .slice q2 x.os.length m2, .slice q3 x.ps.length m3] 38
                  have D5 := (D.out.on h4).on g5
                  have BO5 := (BO.out.on h4).on g5
                  have p5 : (w4.alloc (.cells #[.int .u32 x.pc, .slice q1 x.ws.length m1, .slice q2 x.os.length m2, .slice q3 x.ps.length m3] 38)).cell? ⟨W0.heap.size, 1, none⟩ = some (.int .u32 o.p) := BO5.cell 1
                  have crg := rget_any D5.rc (Nat.le_trans hle.out.1 (by omega)) o.p
                  rw [← hxe, ← his] at crg
                  replace VX4 := hide (VX4.on g5)
                  replace V1' := hide (V1'.out.on g5)
                  have h45 := hide h4.size
                  replace D5 := hide D5
                  replace BO5 := hide BO5
                  replace BV := hide BV
                  have hBOlt : Hid (W0.heap.size < W1.heap.size) := hide BO.out.2.2
                  clear cg V1 V2 V3 hp5 l1 l2 l3 h4 g5 BO p1 hxe his
                  go_wp2_with fail
                  generalize w4.alloc (.cells #[.int .u32 x.pc, .slice q1 x.ws.length m1, .slice q2 x.os.length m2, .slice q3 x.ps.length m3] 38) = w5 at *
                  refine crg.mono ?_
                  rintro e w6 ⟨v6, F6, rfl, V6, h6⟩
                  obtain ⟨u1, u2, u3, rfl, Z1, Z2, Z3, hp5, l1, l2, l3⟩ := V6
                  obtain ⟨r1, n1, rfl, -⟩ := Z1.shape
                  obtain ⟨r2, n2, rfl, -⟩ := Z2.shape
                  obtain ⟨r3, n3, rfl, -⟩ := Z3.shape
                  have VX6 : BlkAt w6 F6 (.agg #[.int .u32 x.pc, .slice r1 x.ws.length n1, .slice r2 x.os.length n2, .slice r3 x.ps.length n3]) x := ⟨_, _, _, rfl, Z1, Z2, Z3, hp5, l1, l2, l3⟩
                  have g7 := grow w6 (.cells #[.int .u32 x.pc, .slice r1 x.ws.length n1, .slice r2 x.os.length n2, .slice r3 x.ps.length n3] 38)
                  have cs := bsame_any ((VX4.out.on h6).on g7) (VX6.on g7)
                  rw [decide_eq_true rfl] at cs
                  have BV7 := (BV.out.on h6).on g7
                  have k0 := BV7.cell 0
                  have k1 := BV7.cell 1
                  have k2' := BV7.cell 2
                  have k3 := BV7.cell 3
                  have D7 := hide ((D5.out.on h6).on g7)
                  have BO7 := hide ((BO5.out.on h6).on g7)
                  have V17 := hide ((V1'.out.on h6).on g7)
                  replace BV7 := hide BV7
                  clear crg Z1 Z2 Z3 hp5 l2 l3 h6 g7 VX6 VX4 V1' D5 BO5 BV p5
                  have tis : (is != is) = false := by cases is <;> rfl
                  go_wp2_with fail
                  refine cs.mono ?_
                  rintro e w8 ⟨rfl, h8⟩
                  have D8 := hide (D7.out.on h8)
                  have BO8 := hide (BO7.out.on h8)
                  have BV8 := hide (BV7.out.on h8)
                  have R8 := (V17.out.on h8).wr
                  have hlt5 : Hid (w4.heap.size < w8.heap.size) := hide BV8.out.2.2
                  have nD : Hid (∀ j, W1.heap.size ≤ j → ¬ G j ∧ ¬ H j ∧ w.heap.size ≤ j) := hide (fun j hj => ⟨fun h => by have := (D.out.ca.in' j h).2; omega, fun h => by have := (D.out.ap j h).2.1; omega, Nat.le_trans D.out.be.size hj⟩)
                  have hg4 : Hid (∀ g c, Value.slice q1 x.ws.length m1 = .slice (some ⟨g, 0, none⟩) x.ws.length c → g < w4.heap.size) := hide (fun g c hgc => by
                    have := h4v.out g (by rw [hgc]; rfl)
                    exact this)
                  clear cs h8 D7 BO7 BV7 V17 D k0 k1 k2' k3
                  obtain ⟨ln, hln⟩ : ∃ ln, ln = x.ws.length := ⟨_, rfl⟩
                  rw [← hln] at R8 BV8 l1 hg4 ⊢
                  rcases R8 with ⟨he, h0⟩ | ⟨g, c8, he, hgW, hc8, Wg⟩
                  · injection he with he1 he2 he3
                    subst he1 he3
                    subst h0
                    have k1 := BV8.out.cell 1
                    clear hg4 hln
                    go_wp2_with fail
                    go_loopw [17] (fun i wr => i = .int .i64 0 ∧ wr = w8) (fun i _ => 0)
                    case atStart => exact ⟨rfl, rfl⟩
                    case round =>
                      obtain ⟨rfl, rfl⟩ := hrel
                      go_wp2
                      go_roundw
                      case rel => exact ⟨tn + 1, by omega, by go_num, D8, BO8⟩
                      case measure => simp [intOf]; omega
                  · injection he with he1 he2 he3
                    subst he1 he3
                    have hg4' := hg4.out g m1 rfl
                    rw [Nat.mul_one] at Wg
                    replace Wg := hide Wg
                    have ngG := hide (nD.out g hgW)
                    clear hg4 hln nD he2
                    go_wp2_with fail
                    go_loopw [17] (fun i wr => ∃ j : Nat, j ≤ ln ∧ i = .int .i64 (j : Int) ∧ Hid (Dual w wr cb rb r G H L) ∧ Hid (Box wr W0.heap.size #[.int .i64 o.k, .int .u32 o.p, .int .i64 o.n, .int .u32 o.s, .int .u32 o.m]) ∧ Hid (Box wr w4.heap.size #[.int .u32 x.pc, .slice (some ⟨g, 0, none⟩) ln m1, .slice q2 x.os.length m2, .slice q3 x.ps.length m3]) ∧ Hid (Wr wr g 32 ln)) (fun i _ => ln - (intOf i).toNat)
                    case atStart => exact ⟨0, Nat.zero_le _, rfl, D8, BO8, BV8, Wg⟩
                    case round =>
                      clear D8 BO8 BV8 Wg
                      obtain ⟨j, hj, rfl, D9, BO9, BV9, Wg9⟩ := hrel
                      have k1 : wr.cell? ⟨w4.heap.size, 1, none⟩ = some (.slice (some ⟨g, 0, none⟩) ln m1) := BV9.out.cell 1
                      by_cases hjl : j < ln
                      · obtain ⟨u, hu⟩ := Wg9.out.cell hjl
                        have fu := Wg9.out.free j
                        have D10 := hide (D9.out.set ngG.out.1 ngG.out.2.1 ngG.out.2.2 j (.int .u32 0))
                        have W10 := hide (Wg9.out.set j (.int .u32 0))
                        have BO10 := hide (BO9.out.of_heap (y := wr.setCell ⟨g, j, none⟩ (.int .u32 0)) (Below.heap_setCell wr _ _ _ (by show W0.heap.size ≠ g; have := hBOlt.out; omega)))
                        have BV10 := hide (BV9.out.of_heap (y := wr.setCell ⟨g, j, none⟩ (.int .u32 0)) (Below.heap_setCell wr _ _ _ (by show w4.heap.size ≠ g; omega)))
                        clear D9 BO9 BV9 Wg9
                        go_wp2
                        go_roundw
                        case rel => exact ⟨j + 1, by omega, by go_num, D10, BO10, BV10, W10⟩
                        case measure => simp [intOf]; omega
                      · clear BV9 Wg9
                        go_wp2
                        go_roundw
                        case rel => exact ⟨tn + 1, by omega, by go_num, D9, BO9⟩
                        case measure => simp [intOf]; omega
                · go_wp2
                  go_meet
                  case rel => exact ⟨G, H, L, D⟩
            · have t1 : (o.k == 1) = false := by simpa using e1
              by_cases e2 : o.k = 2
              · have t2 : (o.k == 2) = true := by simpa using e2
                have cd := ca_drop (w := (W0.alloc (.cells #[.int .i64 o.k, .int .u32 o.p, .int .i64 o.n, .int .u32 o.s, .int .u32 o.m] 34)).drew) (D1.out.ca.on (Below.refl _ _).drew) o.p o.s hw.out.2.1 hw.out.2.2.2.1
                have bo := hide (BO.out.drew)
                have s0 : Hid ((W0.alloc (.cells #[.int .i64 o.k, .int .u32 o.p, .int .i64 o.n, .int .u32 o.s, .int .u32 o.m] 34)).drew.cell? ⟨W0.heap.size, 1, none⟩ = some (.int .u32 o.p) ∧ (W0.alloc (.cells #[.int .i64 o.k, .int .u32 o.p, .int .i64 o.n, .int .u32 o.s, .int .u32 o.m] 34)).drew.cell? ⟨W0.heap.size, 3, none⟩ = some (.int .u32 o.s)) := hide ⟨bo.out.cell 1, bo.out.cell 3⟩
                obtain ⟨hh, hhh⟩ : ∃ hh, hh = hitsL o.p o.s L := ⟨_, rfl⟩
                rw [← hhh] at cd
                have hle := hide D1.out.ca.le
                have hrbH := hide (D1.out.ap rb D1.out.rc.rb)
                have hrbW : Hid (¬ W0.heap.size = rb) := hide (fun e => nG.out.2 (e ▸ D1.out.rc.rb))
                clear e0 e1 e2
                go_wp2_with fail
                go_region_held3 (fun y => y.cell? ⟨W0.heap.size, 1, none⟩ = some (.int .u32 o.p) ∧ y.cell? ⟨W0.heap.size, 3, none⟩ = some (.int .u32 o.s)) (first | exact s0.out | assumption | exact hS2.out | exact hS1.out)
                  (first
                    | (go_at_call 15; refine cd.mono ?_; rintro e x2 ⟨rfl, C2, T2⟩; have bo2 := hide (bo.out.kept T2 nG.out.1); have hS1 := hide (And.intro (bo2.out.cell 1) (bo2.out.cell 3)); have T2' := hide T2; have R2 := hide (D1.out.rc.keep (y := x2) (fun j hj hl => T2.block j hl (D1.out.ap j hj).2.2)); have C2' := hide C2; clear T2 C2; go_wp2_with fail)
                    | (go_at_call 16; have cr := rdrop_any R2.out (Nat.le_trans hle.out.1 (by omega)) o.p o.s hw.out.2.1 hw.out.2.2.2.1; rw [← hhh] at cr; refine cr.mono ?_; rintro e x3 ⟨rfl, ⟨H3, R3, hH3⟩, T3⟩; have bo3 := hide (bo2.out.kept T3 hrbW.out); have hS2 := hide (And.intro (bo3.out.cell 1) (bo3.out.cell 3)); have T3' := hide T3; have R3' := hide R3; have hH3' := hide hH3; clear T3 R3 hH3 cr; go_wp2_with fail))
                have b2 : Hid (Below w.heap.size w x2) := hide (D1.out.be.drew.trans ((D1.out.ca.on (Below.refl _ _).drew).below T2'.out D1.out.be.size))
                have fin : Hid (∃ (G2 H2 : Nat → Prop) (L2 : List Blk), Hid (Dual w x3 cb rb r G2 H2 L2)) := hide ⟨G, fun j => H3 j ∧ j < x3.heap.size, dropL o.p o.s L, hide ⟨C2'.out.keep T3'.out.size (fun j hj => T3'.out.block j (C2'.out.in' j hj).2 (fun e => hrbH.out.2.2 (e ▸ hj))), R3'.out.mono (fun j hj hl => ⟨hj, hl⟩),
                  fun j hj => by
                    rcases hH3'.out j hj.1 with h | h
                    · exact ⟨(D1.out.ap j h).1, hj.2, (D1.out.ap j h).2.2⟩
                    · exact ⟨Nat.le_trans b2.out.size h, hj.2, fun hG => by have := (C2'.out.in' j hG).2; omega⟩,
                  b2.out.trans (T3'.out.below b2.out.size (fun j hj => by rw [hj]; exact hrbH.out.1))⟩⟩
                clear cd s0 hS1 hS2 hle hrbW bo bo2 bo3
                go_wp2
                go_meet
                case rel => exact fin.out
              · have t2 : (o.k == 2) = false := by simpa using e2
                by_cases e3 : o.k = 3
                · have t3 : (o.k == 3) = true := by simpa using e3
                  have cf := ca_flush D1.out.ca
                  have hle := hide D1.out.ca.le
                  have hsz := D1.out.rc
                  obtain ⟨lv, E, Bm, Rm, -, hrm⟩ := hsz
                  have hap := D1.out.ap
                  replace Bm := hide Bm
                  clear e0 e1 e2 e3 Rm
                  go_wp2_with fail
                  refine cf.mono ?_
                  rintro e x2 ⟨rfl, C2, T2⟩
                  have bm := Bm.out.kept T2 (hap rb hrm).2.2
                  have b1 : x2.cell? ⟨rb, 1, none⟩ = some lv := bm.cell 1
                  have f1 : x2.frozen? ⟨rb, 1, none⟩ = false := bm.free 1
                  have BY := hide (bm.set 1 (.slice none 0 0))
                  have hfr : ∀ j, j ≠ rb → (x2.setCell ⟨rb, 1, none⟩ (.slice none 0 0)).heap[j]? = x2.heap[j]? := fun j hj => Below.heap_setCell x2 _ _ j hj
                  have fin : Hid (∃ (G2 H2 : Nat → Prop) (L2 : List Blk), Hid (Dual w (x2.setCell ⟨rb, 1, none⟩ (.slice none 0 0)) cb rb r G2 H2 L2)) := hide ⟨G, fun j => j = rb, [], hide ⟨C2.keep (by simp [World.setCell]) (fun j hj => hfr j (fun e => (hap rb hrm).2.2 (e ▸ hj))), ⟨.slice none 0 0, [], BY.out, ⟨⟨World.ownsRow_nil _ 0 _ 4, fun k hk => by simp [Value.ownBlock] at hk⟩, fun p hp => by cases hp⟩, rfl, rfl⟩,
                    fun j hj => by rw [hj]; exact ⟨(hap rb hrm).1, BY.out.2.2, (hap rb hrm).2.2⟩, (D1.out.be.trans (D1.out.ca.below T2 D1.out.be.size)).setCell (p := ⟨rb, 1, none⟩) (hap rb hrm).1 _⟩⟩
                  clear cf C2 T2 bm hfr hap hrm
                  go_wp2
                  go_meet
                  case rel => exact fin.out
                · have t3 : (o.k == 3) = false := by simpa using e3
                  clear e0 e1 e2 e3
                  go_wp2
                  go_meet
                  case rel => exact ⟨G, H, L, D1⟩
        case rest =>
          obtain ⟨G2, H2, L2, D2⟩ := hcut
          have hle := hide D2.out.ca.le
          have c1 := ca_places D2.out.ca
          clear D1 BO
          go_wp2_with fail
          refine c1.mono ?_
          rintro e x2 ⟨vp, rfl, R1, b1⟩
          have D3 := hide (D2.out.on b1)
          have R1 := hide R1
          have c2 := rplaces_any D3.out.rc (Nat.le_trans hle.out.1 (by omega))
          clear c1 b1 D2
          go_wp2_with fail
          refine c2.mono ?_
          rintro e x3 ⟨vq, rfl, R2, b2⟩
          have D4 := hide (D3.out.on b2)
          have cs := wsame_any (R1.out.on b2) R2
          rw [show decide (pcL L2 = pcL L2) = true by simp] at cs
          clear c2 b2 R1 R2 D3
          go_wp2_with fail
          refine cs.mono ?_
          rintro e x4 ⟨rfl, b3⟩
          have D5 := hide (D4.out.on b3)
          clear cs b3 D4
          go_wp2
          go_roundw
          case rel => exact ⟨k + 1, G2, H2, L2, by omega, by go_num, D5⟩
          case measure => simp [intOf]; omega
      · have cf := hfix.out
        by_cases hk1 : k < n
        · have hk2 : ¬ k < 100 := fun h2 => h ⟨hk1, h2⟩
          clear h
          go_wp2_with fail
          refine (cf _).mono ?_
          rintro e w7 ⟨rfl, h7⟩
          go_wp2
          go_ret
          exact ⟨rfl, onto D.out.be (Nat.le_refl _) h7⟩
        · clear h
          go_wp2_with fail
          refine (cf _).mono ?_
          rintro e w7 ⟨rfl, h7⟩
          go_wp2
          go_ret
          exact ⟨rfl, onto D.out.be (Nat.le_refl _) h7⟩
  · have cn := new_bad a (by omega) w
    have cf := hide (hfix w)
    have d1 : a < 1 ∨ 64 < a := by omega
    clear hfix hv ha hr
    rcases d1 with d1 | d1
    · have d2 : decide (a < 1) = true := by simpa using d1
      go_enter Try.func3, Try.ntmps3
      go_wp2_with fail
      refine cn.mono ?_
      rintro e w1 ⟨rfl, rfl⟩
      go_wp2_with fail
      refine cf.out.mono ?_
      rintro e w7 ⟨rfl, h7⟩
      go_wp2
      go_ret
      exact ⟨rfl, h7⟩
    · have d2 : decide (a < 1) = false := by simp; omega
      have d3 : decide (64 < a) = true := by simpa using d1
      go_enter Try.func3, Try.ntmps3
      go_wp2_with fail
      refine cn.mono ?_
      rintro e w1 ⟨rfl, rfl⟩
      go_wp2_with fail
      refine cf.out.mono ?_
      rintro e w7 ⟨rfl, h7⟩
      go_wp2
      go_ret
      exact ⟨rfl, h7⟩

end Go.Proofs.Ytkmafafmnncgiaa
