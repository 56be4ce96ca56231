/- A block's operations do to the registers what the processor's steps do, instruction by instruction. -/
import Derived.Test.YtmegghgjllbamaaGreatDoorQBsPure
import Derived.Test.YtmegghgjllbamaaGreatDoorQCuSix
namespace Go.Proofs.YtmegghgjllbamaaGreatDoor
open Go.RowKit
set_option linter.unusedVariables false
set_option maxRecDepth 100000
set_option linter.unusedSimpArgs false

/-- A bus that is the call's own. -/
structure OwnS (w x : World) (b p g : Nat) (B : Nat → Nat) (D : Nat → Bool) : Prop where
  bus : Bus x b p g 4 4 V0 B D
  be : Below w.heap.size w x
  zb : w.heap.size ≤ b
  zp : w.heap.size ≤ p
  zg : w.heap.size ≤ g

theorem OwnS.next {w x y : World} {b p g : Nat} {B B' : Nat → Nat} {D D' : Nat → Bool} (h : OwnS w x b p g B D) (hB : Bus y b p g 4 4 V0 B' D') (k : Kept [b, g] x y) : OwnS w y b p g B' D' :=
  ⟨hB, Kept.below h.be k (Nat.le_refl _) (by intro i hi; simp at hi; rcases hi with rfl | rfl; exact h.zb; exact h.zg), h.zb, h.zp, h.zg⟩

theorem OwnS.on {w x y : World} {b p g : Nat} {B : Nat → Nat} {D : Nat → Bool} (h : OwnS w x b p g B D) (hb : Below x.heap.size x y) : OwnS w y b p g B D :=
  ⟨h.bus.on hb, onto h.be (Nat.le_refl _) hb, h.zb, h.zp, h.zg⟩

/-- Operations that lie in a block that stays. -/
theorem ops_kept {w x : World} {l : List Nat} {v : Value} {ms : List Ir.Mi} (h : Ir.IsOps w v ms) (k : Kept l w x) (hv : ∀ g o n c, v = .slice (some ⟨g, o, none⟩) n c → g ∉ l) : Ir.IsOps x v ms := by
  rcases h with h | ⟨g, o, c, rfl, hl, hg, hm⟩
  · exact Or.inl h
  · refine Or.inr ⟨g, o, c, rfl, hl, Nat.lt_of_lt_of_le hg k.size, fun i m hi j hj => ?_⟩
    rw [← hm i m hi j hj]
    have e := k.block g hg (hv g o _ c rfl)
    unfold World.cell?
    simp only [e]

/-- What walks over the processor's state are told beside the registers. -/
theorem cpuX : (∀ c : Cs, Ir.fitsP (cellsC c) 3 Ir.N32 = true) ∧ (∀ c : Cs, Ir.part (cellsC c) 3 Ir.N32 = Ir.cellsX c.R) ∧ (∀ (c : Cs) (R : Nat → Int), Ir.placed (cellsC c) 3 (Ir.cellsX R) = cellsC { c with R := R }) ∧
    (∀ c : Cs, Ir.fitsP (cellsC c) 0 N63 = true) ∧ (∀ c d : Cs, Ir.placed (cellsC c) 0 (cellsC d) = cellsC d) ∧ (∀ c : Cs, Ir.ones (cellsC c) = true) ∧ (∀ c : Cs, (cellsC c).size = N63) ∧
    (∀ w : World, (sizeOf 40).run Tryz.prog w = .ok N63 w) ∧ (∀ w : World, (zeroValue 40).run Tryz.prog w = .ok (.agg (cellsC CZ)) w) ∧ ¬ N63 = 0 :=
  ⟨fun _ => rfl, fun _ => rfl, fun _ _ => rfl, fun _ => rfl, fun _ _ => rfl, fun _ => rfl, fun _ => rfl, sizeCpu, zeroCpu, by decide⟩

/-- What stays beside the processor and its bus. -/
structure Beside (w W x : World) (cb b p g : Nat) (v : Value) (ms : List Ir.Mi) (R : Nat → Int) (m : Mc) : Prop where
  ma : Mach x cb b p g 4 4 m
  z : m.c.R 0 = 0
  k : Kept [cb, b, g] W x
  be : Below w.heap.size w x
  ops : Ir.IsOps x v ms
  bx : Ir.Box x w.heap.size (Ir.cellsX R)

theorem Beside.step {w W x y : World} {cb b p g : Nat} {v : Value} {ms : List Ir.Mi} {R : Nat → Int} {m : Mc} (h : Beside w W x cb b p g v ms R m) (hm : Mach y cb b p g 4 4 (stepM 4 m)) (k : Kept [cb, b, g] x y)
    (zc : w.heap.size < cb) (zb : w.heap.size < b) (zg : w.heap.size < g) (hv : ∀ g' o n c, v = .slice (some ⟨g', o, none⟩) n c → g' ∉ [cb, b, g]) : Beside w W y cb b p g v ms R (stepM 4 m) :=
  ⟨hm, step_0 4 m h.z, h.k.trans k, Kept.below h.be k (Nat.le_refl _) (by simp; omega), ops_kept h.ops k hv, h.bx.of_heap (k.block _ h.bx.2.2 (by simp; omega))⟩

theorem Beside.on {w W x y : World} {cb b p g : Nat} {v : Value} {ms : List Ir.Mi} {R : Nat → Int} {m : Mc} (h : Beside w W x cb b p g v ms R m) (hb : Below x.heap.size x y) : Beside w W y cb b p g v ms R m :=
  ⟨h.ma.on hb, h.z, h.k.trans (Kept.of hb), onto h.be (Nat.le_refl _) hb, h.ops.on hb, h.bx.on hb⟩

/-- A world in which all of that lies. -/
structure HeldB (w W : World) (cb b p g : Nat) (v : Value) (ms : List Ir.Mi) (R : Nat → Int) (m : Mc) where
  x : World
  h : Beside w W x cb b p g v ms R m

def HeldB.on {w W z : World} {cb b p g : Nat} {v : Value} {ms : List Ir.Mi} {R : Nat → Int} {m : Mc} (y : HeldB w W cb b p g v ms R m) (hb : Below y.x.heap.size y.x z) : HeldB w W cb b p g v ms R m := ⟨z, y.h.on hb⟩

theorem HeldB.reads {w W : World} {cb b p g : Nat} {v : Value} {ms : List Ir.Mi} {R : Nat → Int} {m : Mc} :
    (∀ y : HeldB w W cb b p g v ms R m, (loadCellsFrom ⟨w.heap.size, 0, none⟩ 0 Ir.N32 #[]).run Tryz.prog y.x = .ok (Ir.cellsX R) y.x) ∧
    (∀ y : HeldB w W cb b p g v ms R m, (loadCellsFrom ⟨cb, 3, none⟩ 0 Ir.N32 #[]).run Tryz.prog y.x = .ok (Ir.cellsX m.c.R) y.x) :=
  ⟨fun y => y.h.bx.loads 0 Ir.N32 (Ir.irWhole.2.2.2.1 _) (Ir.irWhole.2.2.2.2.1 _), fun y => Ir.Box.loads (show Ir.Box y.x cb (cellsC m.c) from y.h.ma.bx) 3 Ir.N32 (cpuX.1 _) (cpuX.2.1 _)⟩

set_option maxHeartbeats 8000000 in
theorem Ir.steps_cut {w : World} (tb : De.Tabs w) {ad : Option Addr} {n c K : Nat} {ws : List Int} (hKc : K ≤ c) (hK16 : K ≤ 16) (hws : Ir.IsWords w (.slice ad K c) ws) (hlw : ws.length = K) (hnc : n ≤ c) (hKn : (n ≤ 16 ∧ K = n) ∨ (16 < n ∧ K = 16)) (R : Nat → Int) (hR : ∀ k, Cp.W32 (R k)) :
    Calls Tryz.prog 3 #[.slice ad n c, .agg (Ir.cellsX R)] w fun e w' => e = .returned (.bool true) ∧ Below w.heap.size w w' := by
  obtain ⟨r1, r2, r3, r4, r5, r6, r7, r8, r9⟩ := Ir.rowRules
  obtain ⟨s1, s2, s3, s4, s5, s6, s7, s8, s9, s10⟩ := Ir.irSizes
  obtain ⟨q1, q2, q3, q4, q5, q6⟩ := Ir.irWhole
  obtain ⟨k1, k2⟩ := Ir.rowSets
  obtain ⟨u1, u2, u3, u4, u5, u6, u7, u8, u9, u10⟩ := cpuX
  have em : min (n : Int) 16 = (K : Int) := by omega
  clear hKn hnc
  have hm := hide (show ∀ (i : Nat) (x : Int), ws[i]? = some x → Cp.W32 x ∧ ∃ b off, ad = some ⟨b, off, none⟩ ∧ b < w.heap.size ∧ w.cell? ⟨b, off + i, none⟩ = some (.int .u32 x) from fun i x h => by
    obtain ⟨ad', n', c', e, -, -, -, hx⟩ := hws.open'
    cases e
    exact hx i x h)
  have hR0 : Hid (∀ k, Cp.W32 (Ir.putR R 0 0 k)) := hide (Ir.putR_w hR Cp.w0 0)
  have hz := Ir.set_X R 0 (by omega) 0
  have gz := Ir.get_X R 0 (by omega)
  have b0 := Ir.Box.new w (Ir.cellsX R) 24
  have g0 := Ir.grow w (.cells (Ir.cellsX R) 24)
  have tb0 := hide (tb.on g0)
  have hws0 := hide (hws.on g0)
  have hsz0 : w.heap.size < (w.alloc (.cells (Ir.cellsX R) 24)).heap.size := by simp
  have h2w := tb.n
  replace b0 := hide b0
  replace g0 := hide g0
  replace hlw := hide hlw
  replace tb := hide tb
  have hm0 := hm
  clear hws
  go_enter Tryz.func3, Tryz.ntmps3
  go_wp2_with fail
  generalize w.alloc (.cells (Ir.cellsX R) 24) = W0 at *
  refine (busNew_any 4 (by omega) (by omega) W0).mono ?_
  rintro e x1 ⟨b, p, g, rfl, hB, zb, zp, zg, h1⟩
  have O0 : Hid (OwnS W0 x1 b p g (fillS ws 0) (markS 0)) := hide ⟨hB, h1, zb, zp, zg⟩
  clear hB h1
  go_wp2_with fail
  go_loopw [7] (fun i wr => ∃ k : Nat, k ≤ K ∧ i = .int .i64 k ∧ Hid (OwnS W0 wr b p g (fillS ws k) (markS k))) (fun i _ => K - (intOf i).toNat)
  case atStart => exact ⟨0, by omega, rfl, O0⟩
  case round =>
    clear O0
    obtain ⟨k, hk, rfl, O⟩ := hrel
    by_cases hlt : k < K
    · have d1 : decide ((k : Int) < (K : Int)) = true := by simp; omega
      obtain ⟨z, hzz⟩ : ∃ z, ws[k]? = some z := ⟨ws[k]'(by have := hlw.out; omega), List.getElem?_eq_getElem _⟩
      obtain ⟨hzw, bk, off, rfl, hbl, hc0⟩ := hm.out k z hzz
      have hc1 : wr.cell? ⟨bk, off + k, none⟩ = some (.int .u32 z) := by
        rw [O.out.be.cell (p := ⟨bk, off + k, none⟩) (by show bk < _; omega), g0.out.cell (p := ⟨bk, off + k, none⟩) hbl]; exact hc0
      obtain ⟨z0, z1⟩ := hzw
      have cs := hide (store_is O.out.bus (512 + 4 * (k : Int)) 4 z (by omega) (by omega) z0 z1)
      rw [store_wordS _ _ _ _ _ (by omega)] at cs
      have u32k : IntKind.u32.wrap (512 + 4 * (k : Int)) = 512 + 4 * (k : Int) := by rw [IntKind.wrap_u32]; omega
      have eF : Hid (putB (fillS ws k) (512 + 4 * k) 4 z.toNat = fillS ws (k + 1)) := hide (by
        have e : ws.getD k 0 = z := by rw [List.getD_eq_getElem?_getD, hzz]; rfl
        show _ = putB (fillS ws k) (512 + 4 * k) 4 (ws.getD k 0).toNat
        rw [e])
      clear hc0 hzz
      go_wp2_with fail
      refine cs.out.mono ?_
      rintro e x4 ⟨rfl, hB, K4⟩
      have O2 : Hid (OwnS W0 x4 b p g (fillS ws (k + 1)) (markS (k + 1))) := hide (by
        have := O.out.next hB K4
        rw [eF.out] at this
        exact this)
      clear O hB K4 cs hc1
      go_wp2
      go_roundw
      case rel => exact ⟨k + 1, by omega, by go_num, O2⟩
      case measure => simp [intOf]; omega
    · have d1 : decide ((k : Int) < (K : Int)) = false := by simp; omega
      obtain rfl : k = K := by omega
      have hl9 := hlw.out
      clear d1 hlt hk hm
      obtain ⟨W1, hW1⟩ : ∃ W1, W1 = wr := ⟨_, rfl⟩
      rw [← hW1] at O ⊢
      clear hW1
      have tb1 := hide (tb0.out.on O.out.be)
      have ct := hide (Ir.translate_any (hws0.out.on O.out.be) tb1.out)
      obtain ⟨hl1, hl2⟩ := Ir.transV_len ws
      have hmay : Hid (Ir.mayB (Ir.transV ws) = true) := hide (Ir.trans_may (fun i x h => (hm0.out i x h).1))
      have hmw := hide (Ir.transV_w ws)
      go_wp2_with fail
      refine ct.out.mono ?_
      rintro e w1 ⟨⟨mv, rfl, ho⟩, h1⟩
      have hv : ∀ g' o n c, mv = .slice (some ⟨g', o, none⟩) n c → W1.heap.size ≤ g' ∧ g' < w1.heap.size := by
        intro g' o n c e
        rcases ho.2 with ⟨rfl, -⟩ | ⟨gm, cap, cur, rfl, hgm, hh, -⟩
        · cases e
        · cases e
          exact ⟨hgm, (Array.getElem?_eq_some_iff.1 hh).1⟩
      have hop := Ir.ops_of_own ho
      have hbW : b < W1.heap.size ∧ g < W1.heap.size ∧ W0.heap.size ≤ W1.heap.size ∧ W1.heap.size ≤ w1.heap.size := ⟨O.out.bus.lt, O.out.bus.m.zg, O.out.be.size, h1.size⟩
      obtain ⟨ms, hms⟩ : ∃ ms, Ir.transV ws = ms := ⟨_, rfl⟩
      rw [hms] at hop hmay hmw hl1 hl2
      replace hms := hide hms
      clear ho ct hws0
      obtain ⟨am, N, cm, rfl, hN, hmx, -⟩ := hop.open'
      have hNK : N ≤ ws.length := by omega
      have cmay := hide (Ir.may_any hop)
      rw [hmay.out] at cmay
      have O1 := hide (O.out.on h1)
      have b1 := hide ((b0.out.on O.out.be).on h1)
      have dg : decide ((ws.length : Int) < (N : Int)) = false := by simp; omega
      replace hop := hide hop
      replace hv := hide hv
      replace hN := hide hN
      clear O h1 b0 hmay
      go_wp2_with fail
      refine cmay.out.mono ?_
      rintro e w2 ⟨rfl, h2⟩
      have O2 := hide (O1.out.on h2)
      have hs2 := h2.size
      have hop2 := hide (hop.out.on h2)
      have b2 := hide (b1.out.on h2)
      clear O1 b1 hop h2 cmay
      go_wp2_with fail
      refine (reset_any _).mono ?_
      rintro e w3 ⟨rfl, h3⟩
      have at0 := hide (atB_0 (l := ws) (fun i x h => (hm0.out i x h).1) (r := Ir.putR R 0 0) rfl (markS k))
      rw [hl9] at at0
      have wc0 := hide (wc_0 hR0.out)
      obtain ⟨c0, hc0⟩ : ∃ c0, C0 = c0 := ⟨_, rfl⟩
      rw [hc0] at at0 wc0 ⊢
      replace hc0 := hide hc0
      have O3 := hide (O2.out.on h3)
      have hs3 := h3.size
      have hop3 := hide (hop2.out.on h3)
      have b3 := b2.out.on h3
      have hx0 : isRow w3 w.heap.size = true := b3.1
      have hx1 : rowAt w3 w.heap.size = Ir.cellsX R := b3.2.1
      have hx2 := (b3.cell 0).trans gz
      have hx3 := b3.free 0
      have hx5 := b3.2.2
      have hx6 : ¬ w.heap.size = w3.heap.size := by omega
      have hx7 : ¬ w3.heap.size = w.heap.size := by omega
      have hx4 := Ir.setCell_row w.heap.size
      have hx8 := Ir.setCell_row w3.heap.size
      clear O2 hop2 b2 h3
      go_wp2_with fail
      have B0 : Hid (Beside w ((w3.setRow w.heap.size (Ir.cellsX (Ir.putR R 0 0))).alloc (.cells (cellsC { c0 with R := Ir.putR R 0 0 }) 40)) ((w3.setRow w.heap.size (Ir.cellsX (Ir.putR R 0 0))).alloc (.cells (cellsC { c0 with R := Ir.putR R 0 0 }) 40)) w3.heap.size b p g (.slice am N cm) ms (Ir.putR R 0 0) ⟨{ c0 with R := Ir.putR R 0 0 }, V0, fillS ws k, markS k⟩) := hide (by
        have K0 : Kept [w.heap.size] w3 (w3.setRow w.heap.size (Ir.cellsX (Ir.putR R 0 0))) := Kept.set _ _ _ (by simp)
        have g1 := Ir.grow (w3.setRow w.heap.size (Ir.cellsX (Ir.putR R 0 0))) (.cells (cellsC { c0 with R := Ir.putR R 0 0 }) 40)
        have be : Below w.heap.size w ((w3.setRow w.heap.size (Ir.cellsX (Ir.putR R 0 0))).alloc (.cells (cellsC { c0 with R := Ir.putR R 0 0 }) 40)) :=
          onto (below_setRow (g := w.heap.size) (onto g0.out (Nat.le_refl _) O3.out.be) (Nat.le_refl _) _) (Nat.le_refl _) g1
        have l1 := O3.out.bus.lt
        have l2 := O3.out.bus.m.zp
        have l3 := O3.out.bus.m.zg
        have bx := Box.new (w3.setRow w.heap.size (Ir.cellsX (Ir.putR R 0 0))) (cellsC { c0 with R := Ir.putR R 0 0 }) 40
        rw [setRow_size] at bx
        refine ⟨⟨bx, (O3.out.bus.keep K0 (by simp; omega) (by simp; omega) (by simp; omega)).on g1, wc0.out, tb.out.on be, by omega, by omega, by omega, by omega, by omega, by omega⟩, rfl, Kept.refl _ _, be, ?_, (b3.set _).on g1⟩
        refine (ops_kept hop3.out K0 fun g' o n' c' e => ?_).on g1
        have := (hv.out g' o n' c' e).1
        simp
        omega)
      have hv9 : Hid (∀ g' o n' c', Value.slice am N cm = .slice (some ⟨g', o, none⟩) n' c' → g' ∉ [w3.heap.size, b, g]) := hide (fun g' o n' c' e => by
        have := hv.out g' o n' c' e
        simp
        omega)
      have hcb : w.heap.size < w3.heap.size ∧ w.heap.size < b ∧ w.heap.size < g := by omega
      generalize w3.setRow w.heap.size (Ir.cellsX (Ir.putR R 0 0)) = X1 at *
      generalize ({ c0 with R := Ir.putR R 0 0 } : Cs) = cc at *
      generalize X1.alloc (.cells (cellsC cc) 40) = W2 at *
      generalize w3.heap.size = cb at *
      have hR00 : Ir.putR R 0 0 0 = 0 := rfl
      generalize Ir.putR R 0 0 = R0 at *
      replace hR00 := hide hR00
      have hnX := hide Ir.neqX
      clear hx0 hx1 hx2 hx3 hx4 hx5 hx6 hx7 hx8 b3 hz gz O3 hop3 wc0 hv hbW hs2 hs3 tb0 tb1 zb zp zg hsz0 dg hNK
      go_loopw [10] (fun i wr => ∃ (j : Nat) (m : Mc), j ≤ N + 1 ∧ i = .int .i64 (j : Int) ∧ Hid (j ≤ N → AtB ws R0 j m) ∧ Hid (Beside w W2 wr cb b p g (.slice am N cm) ms R0 m)) (fun i _ => N + 1 - (intOf i).toNat)
      case atStart => exact ⟨0, _, Nat.zero_le _, rfl, hide (fun _ => at0.out), B0⟩
      case round =>
        clear B0 at0
        obtain ⟨j, m, hj, rfl, hA, hB⟩ := hrel
        by_cases hlt : j ≤ N
        · have d1 : decide ((j : Int) ≤ (N : Int)) = true := by simp; omega
          have A := hA.out hlt
          have eR : Ir.untilV (j : Int) ms (Ir.putR R0 0 0) = m.c.R := by
            rw [Ir.putR_same hR00.out, A.R, hms.out]
          have c1 := hide (fun y : HeldB w W2 cb b p g (.slice am N cm) ms R0 m => Ir.until_any y.h.ops hmw.out R0 hR0.out (j : Int))
          rw [eR] at c1
          have rd := hide (HeldB.reads (w := w) (W := W2) (cb := cb) (b := b) (p := p) (g := g) (v := .slice am N cm) (ms := ms) (R := R0) (m := m))
          have hS := hide (hB.out.on (Below.refl _ _).drew)
          replace A := hide A
          clear eR hA
          go_wp2_with fail
          refine Ir.region_calm (fun x => ∃ y : HeldB w W2 cb b p g (.slice am N cm) ms R0 m, x = y.x) (by kernel_rfl) (by kernel_rfl) ⟨⟨_, hS.out⟩, rfl⟩ ?_
          obtain ⟨rd1, rd2⟩ := rd.out
          replace hnX := hnX.out
          repeat (go_big_quiet_step (first
            | with_reducible rfl
            | (go_at_call 9; with_reducible refine (c1.out _).mono ?_; rintro e wf ⟨rfl, bf⟩; exact ⟨rfl, HeldB.on _ bf, rfl⟩)))
          refine wpQuiet_nil ?_
          rintro _ ⟨y, rfl⟩
          clear c1 rd rd1 rd2 hnX hS
          have cst := hide (step_any y.h.ma y.h.z)
          go_wp2_with fail
          refine cst.out.mono ?_
          rintro e y2 ⟨rfl, M2, K2⟩
          have B2 := hide (y.h.step M2 K2 hcb.1 hcb.2.1 hcb.2.2 hv9.out)
          have A2 : Hid (j + 1 ≤ N → AtB ws R0 (j + 1) (stepM 4 m)) := hide (fun hj1 => atB_step (fun i x h => (hm0.out i x h).1) A.out (by rw [hms.out, ← hN.out]; omega))
          clear M2 K2 cst hB A
          generalize stepM 4 m = m2 at *
          go_wp2
          go_roundw
          case rel => exact ⟨j + 1, m2, by omega, by go_num, A2, B2⟩
          case measure => simp [intOf]; omega
        · have d1 : decide ((j : Int) ≤ (N : Int)) = false := by simp; omega
          have cf := hide (Ir.fixed_any wr hB.out.ma.tb)
          have fin := hide (fun y hb => onto hB.out.be (Nat.le_refl _) (y := y) hb)
          clear hA hB
          go_wp2_with fail
          refine cf.out.mono ?_
          rintro e w9 ⟨rfl, h9⟩
          have hB9 := hide (fin.out _ h9)
          clear cf h9 fin
          go_wp2
          go_ret
          exact ⟨rfl, hB9.out⟩

theorem Ir.steps_walk (w : World) (v : Value) (l : List Int) (hl : Ir.IsWords w v l) (hc : Ir.CapOk v) (R : Nat → Int) (hR : ∀ k, Cp.W32 (R k)) (tb : De.Tabs w) :
    Calls Tryz.prog 3 #[v, .agg (Ir.cellsX R)] w fun e w' => e = .returned (.bool true) ∧ Below w.heap.size w w' := by
  obtain ⟨ad, n, c, rfl, hnc, hcs⟩ := Ir.cut_words hl hc 16
  rcases hcs with ⟨h, hw⟩ | ⟨h, hw⟩
  · refine Ir.steps_cut tb hnc h hw ?_ hnc (Or.inl ⟨h, rfl⟩) R hR
    obtain ⟨_, _, _, e, hn, -⟩ := hw.open'
    cases e; exact hn.symm
  · refine Ir.steps_cut tb (by omega) (Nat.le_refl _) hw ?_ hnc (Or.inr ⟨h, rfl⟩) R hR
    obtain ⟨_, _, _, e, hn, -⟩ := hw.open'
    cases e; exact hn.symm

end Go.Proofs.YtmegghgjllbamaaGreatDoor
