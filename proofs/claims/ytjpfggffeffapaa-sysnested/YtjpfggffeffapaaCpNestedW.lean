/- Exceptions within one another, and as many returns: all but the first keep its place; behind a return Status is what it was, without the bit of exceptions. -/
import Derived.Test.YtjpfggffeffapaaCpCountsW
namespace Go.Proofs.Ytjpfggffeffapaa
open Go.RowKit
set_option linter.unusedVariables false

theorem IsExcs.open' {w : World} {v : Value} {xs : List Exc8} (h : IsExcs w v xs) :
    ∃ ad n c, v = .slice ad n c ∧ n = xs.length ∧ n ≤ maxLen ∧ ∀ (i : Nat) (o : Exc8), xs[i]? = some o → W32 o.pc ∧ ∃ b off, ad = some ⟨b, off, none⟩ ∧ ∀ j, j < 4 → w.cell? ⟨b, off + i * 4 + j, none⟩ = (listX o)[j]? := by
  rcases h with ⟨a, c, rfl, rfl⟩ | ⟨b, off, c, rfl, hc, hl, hx⟩
  · exact ⟨a, 0, c, rfl, rfl, Nat.zero_le _, fun i o h => by simp at h⟩
  · exact ⟨_, _, c, rfl, rfl, hl, fun i o h => ⟨(hx i o h).1.1, b, off, rfl, (hx i o h).2⟩⟩

/-- What a round of SysNested reads. -/
def HeldN (w : World) (b o : Nat) (q : Regs) (x : Exc8) (y : World) : Prop :=
  Rat y w.heap.size q ∧ (∀ j, j < 4 → y.cell? ⟨b, o + j, none⟩ = (listX x)[j]?) ∧ b < w.heap.size ∧ Below w.heap.size w y

def PartsN (w : World) (b o : Nat) (q : Regs) (x : Exc8) (y : World) : Prop :=
  (loadCellsFrom ⟨w.heap.size, 0, none⟩ 0 N9 #[]).run Try.prog y = .ok (cellsR q) y ∧ y.cell? ⟨b, o, none⟩ = some (.int .i64 x.code) ∧ y.cell? ⟨b, o + 1, none⟩ = some (.bool x.f) ∧
    y.cell? ⟨b, o + 3, none⟩ = some (.int .u32 x.pc) ∧ y.cell? ⟨b, o + 2, none⟩ = some (.bool x.d) ∧ HeldN w b o q x y

theorem HeldN.parts {w : World} {b o : Nat} {q : Regs} {x : Exc8} {y : World} (h : HeldN w b o q x y) : PartsN w b o q x y :=
  ⟨h.1.load, h.2.1 0 (by omega), h.2.1 1 (by omega), h.2.1 3 (by omega), h.2.1 2 (by omega), h⟩

theorem HeldN.on {w : World} {b o : Nat} {q : Regs} {x : Exc8} {y z : World} (h : HeldN w b o q x y) (hb : Below y.heap.size y z) : HeldN w b o q x z :=
  ⟨h.1.on hb, fun j hj => by rw [(bcell hb).1 _ _ (Nat.lt_trans h.2.2.1 h.1.2.2)]; exact h.2.1 j hj, h.2.2.1, onto h.2.2.2 (Nat.le_refl _) hb⟩

theorem HeldN.far {w : World} {b o : Nat} {q : Regs} {x : Exc8} {y : World} (h : HeldN w b o q x y) (g : Nat) (c : Array Value) (hg : w.heap.size < g) : HeldN w b o q x (y.setRow g c) :=
  ⟨h.1.setFar g c hg, fun j hj => by rw [cell_setRow_lt _ _ _ _ _ (Nat.lt_trans h.2.2.1 hg)]; exact h.2.1 j hj, h.2.2.1, below_setRow h.2.2.2 (Nat.le_of_lt hg) c⟩

/-- The registers behind k exceptions: the first one's place, the Status. -/
def Nest (s0 : Int) (k : Nat) (q : Regs) (pl : Int) : Prop := Wr q ∧ q.e = pl ∧ (k = 0 → q.s = s0) ∧ (1 ≤ k → q.s = mixV s0 2 2)

theorem nest_next {s0 : Int} (hz : bit s0 1 = false) {k : Nat} {q : Regs} {pl : Int} (h : Nest s0 k q pl) (x : Exc8) (hx : W32 x.pc) :
    Nest s0 (k + 1) (raiseV q x.code x.f x.pc x.d) (if k = 0 then wantV x.pc x.d else pl) ∧ (1 ≤ k → toV q x.f = 2147484032) ∧ (raiseV q x.code x.f x.pc x.d).s = mixV s0 2 2 := by
  obtain ⟨h1, h2, h3, h4⟩ := h
  by_cases c : k = 0
  · have e := h3 c
    have hb : bit q.s 1 = false := by rw [e]; exact hz
    have f1 := raise_first hb x.code x.f x.pc x.d
    have f2 := raised (r := q) x.code x.f x.pc x.d
    rw [e] at f2
    rw [if_pos c]
    exact ⟨⟨raise_w h1 _ _ hx _, f1.1, fun h => absurd h (by omega), fun _ => f2.1⟩, fun h => absurd h (by omega), f2.1⟩
  · have e := h4 (by omega)
    have hb : bit q.s 1 = true := by rw [e, bit_mix k2 1 (by omega), bit_2]; rfl
    have f1 := raise_within hb x.code x.f x.pc x.d
    have f2 := (raised (r := q) x.code x.f x.pc x.d).1
    rw [e, mix_mix k2] at f2
    rw [if_neg c]
    exact ⟨⟨raise_w h1 _ _ hx _, f1.1.trans h2, fun h => absurd h (by omega), fun _ => f2⟩, fun _ => f1.2, f2⟩

set_option maxRecDepth 100000 in
set_option maxHeartbeats 4000000 in
theorem nested_walk (w : World) (r : Regs) (hr : Wr r) (v : Value) (xs : List Exc8) (hx : IsExcs w v xs) :
    Calls Try.prog 8 #[.agg (cellsR r), v] w fun e w' => e = .returned (.bool true) ∧ Below w.heap.size w w' := by
  obtain ⟨t1, t2, t3, t4, t5, t6, t7, t8, t9⟩ := cpRules
  obtain ⟨p0, p1, p2, p3, p4, p5, p6, p7, p8⟩ := cpParts
  obtain ⟨u0, u1, u2, u3, u4, u5, u6, u7, u8⟩ := cpSets
  obtain ⟨d1, d2, d3⟩ := cpDrew
  obtain ⟨ad, n, c, rfl, hn, hm, hx⟩ := hx.open'
  have n1 := not_of hr.s k2
  obtain ⟨s0, hs0⟩ : ∃ s0 : Int, mixV r.s 0 2 = s0 := ⟨_, rfl⟩
  rw [hs0] at n1
  have ws : W32 s0 := by rw [← hs0]; exact mix_w k2
  have n2 := or_of ws k2
  have hz := hide (show bit s0 1 = false by rw [← hs0]; exact cleared r.s)
  have hst : Hid (Nest s0 0 { r with s := s0 } r.e) := hide ⟨⟨hr.i, hr.l, hr.b, hr.n, hr.h, hr.p, ws, hr.c, hr.e⟩, rfl, fun _ => rfl, fun h => absurd h (by omega)⟩
  have hret : Hid (mixV (mixV s0 2 2) 0 2 = s0 ∧ mixV s0 0 2 = s0) := hide ⟨by rw [mix_mix k2, ← hs0, mix_mix k2], by rw [← hs0, mix_mix k2]⟩
  obtain ⟨S2, hS2⟩ : ∃ S2, mixV s0 2 2 = S2 := ⟨_, rfl⟩
  rw [hS2] at n2
  replace hn := hide hn
  replace hm := hide hm
  replace hx := hide hx
  clear hr hs0 ws
  replace hS2 := hide hS2
  go_enter Try.func8, Try.ntmps8
  go_wp2
  go_loopw [6, 7] (fun p i wr => ∃ (k : Nat) (q : Regs) (pl : Int), k ≤ 20 ∧ i = .int .i64 k ∧ p = .int .u32 pl ∧ Hid (Nest s0 k q pl) ∧ Hid (Rat wr w.heap.size q ∧ Below w.heap.size w wr)) (fun _ i _ => 20 - (intOf i).toNat)
  case atStart => exact ⟨0, _, r.e, by omega, rfl, rfl, hst, hide ⟨Rat.new _ _ _, grow _ _⟩⟩
  case round =>
    obtain ⟨k, q, pl, hk, rfl, rfl, hN, hR⟩ := hrel
    by_cases hc : k < n ∧ k < 20
    · have h1 := hc.1
      have h2 := hc.2
      have e1 : decide ((k : Int) < (n : Int)) = true := by simp; omega
      have e2 : decide ((k : Int) < 20) = true := by simp; omega
      have e3 : (k : Int) < (n : Int) := by omega
      obtain ⟨o, ho⟩ : ∃ o, xs[k]? = some o := ⟨_, List.getElem?_eq_getElem (by rw [← hn.out]; exact h1)⟩
      obtain ⟨hF, b, off, rfl, hat⟩ := hx.out k o ho
      have hbw : b < w.heap.size := World.block_lt_of_cell? w _ (hat 0 (by omega))
      have hH : HeldN w b (off + k * 4) q o wr := ⟨hR.out.1, fun j hj => by rw [(bcell hR.out.2).1 _ _ hbw]; exact hat j hj, hbw, hR.out.2⟩
      obtain ⟨hN1, hto, hqs⟩ := nest_next hz.out hN.out o hF
      have cr := fun W => raise_any hN.out.1 o.code o.f hF o.d W
      obtain ⟨Q, hQ⟩ : ∃ Q, raiseV q o.code o.f o.pc o.d = Q := ⟨_, rfl⟩
      obtain ⟨to, hto'⟩ : ∃ to, toV q o.f = to := ⟨_, rfl⟩
      rw [hQ] at hN1 hqs cr
      rw [hto'] at hto cr
      clear hQ hto' hat ho hN hR
      obtain ⟨code, f, d, pc⟩ := o
      have hlt := hH.1.2.2
      have hS := (hH.on (Below.refl _ wr).drew).parts
      unfold PartsN at hS
      replace hN1 := hide hN1
      replace hto := hide hto
      replace hqs := hide hqs
      replace hF := hide hF
      clear hst hc
      go_wp2_with fail
      go_region_held3 (fun y => (loadCellsFrom ⟨w.heap.size, 0, none⟩ 0 N9 #[]).run Try.prog y = .ok (cellsR q) y ∧ y.cell? ⟨b, off + k * 4, none⟩ = some (.int .i64 code) ∧ y.cell? ⟨b, off + k * 4 + 1, none⟩ = some (.bool f) ∧
        y.cell? ⟨b, off + k * 4 + 3, none⟩ = some (.int .u32 pc) ∧ y.cell? ⟨b, off + k * 4 + 2, none⟩ = some (.bool d) ∧ HeldN w b (off + k * 4) q ⟨code, f, d, pc⟩ y)
        (first | exact hS | assumption | exact (HeldN.on hT.2.2.2.2.2 (grow _ _)).parts | exact (HeldN.far hT.2.2.2.2.2 _ _ hlt).parts | exact (HeldN.on (And.right (And.right (And.right (And.right (And.right (by assumption)))))) (grow _ _)).parts | exact (HeldN.on (And.right (And.right (And.right (And.right (And.right (by assumption)))))) (grow _ _).drew).parts | exact (HeldN.on (hH.on (Below.refl _ wr).drew) (grow _ _)).parts)
        (first
          | (go_at_call 14; refine (cr _).mono ?_; rintro e w' ⟨rfl, hbn⟩; have hT := (HeldN.on (And.right (And.right (And.right (And.right (And.right (by assumption)))))) hbn).parts; have hk1 := And.intro (brow hbn) hbn.size; unfold PartsN at hT; clear hbn))
      · have hY : HeldN w b (off + k * 4) q ⟨code, f, d, pc⟩ (w'.alloc (.cells (cellsR Q) 24)) := HeldN.on hT.2.2.2.2.2 (grow _ _)
        have RD := Rat.new w' Q 24
        have hlt := hT.2.2.2.2.2.1.2.2
        clear hS hT hk1 cr hH
        generalize w'.alloc (.cells (cellsR Q) 24) = y at *
        generalize w'.heap.size = LD at *
        have hlt2 := hY.1.2.2
        have hpl : Hid (Q.e = if k = 0 then wantV pc d else pl) := hide hN1.out.2.1
        have z1 : y.cell? ⟨LD, 6, none⟩ = some (.int .u32 S2) := by have : y.cell? ⟨LD, 6, none⟩ = some (.int .u32 Q.s) := RD.cell 6; rwa [hqs.out, hS2.out] at this
        have z2 : y.cell? ⟨LD, 8, none⟩ = some (.int .u32 Q.e) := RD.cell 8
        have z3 := RD.load
        have z4 := hY.1.1
        have z5 := hY.1.2.1
        have z6 := hY.2.1 3 (by omega)
        have z7 := hY.2.1 2 (by omega)
        have hF' := hide (And.intro (hY.1.set Q) (below_setRow hY.2.2.2 (Nat.le_refl _) (cellsR Q)))
        simp only [listX, List.getElem?_cons_zero, List.getElem?_cons_succ] at z6 z7
        clear RD hY hqs
        by_cases hk0 : k = 0
        · have q1 : ((k : Int) == 0) = true := by simp [hk0]
          have q2 : decide ((0 : Int) < (k : Int)) = false := by simp [hk0]
          have q3 : decide (0 < k) = false := by simp [hk0]
          rw [if_pos hk0] at hN1 hpl
          obtain ⟨p0', p1'⟩ := hF.out
          replace hk0 := hide hk0
          cases d
          · have hE : Q.e = pc := by rw [hpl.out]; rfl
            rw [hE] at z2
            replace hE := hide hE
            replace hpl := hide hpl
            go_wp2
            go_roundw
            case rel => exact ⟨k + 1, Q, pc, by omega, by go_num, rfl, hide (by have := hN1.out; rwa [show wantV pc false = pc from rfl] at this), hF'⟩
            case measure => simp [intOf]; omega
          · have hE : Q.e = (pc - 4) % 4294967296 := by rw [hpl.out]; rfl
            rw [hE] at z2
            replace hE := hide hE
            replace hpl := hide hpl
            go_wp2
            go_roundw
            case rel => exact ⟨k + 1, Q, (pc - 4) % 4294967296, by omega, by go_num, rfl, hide (by have := hN1.out; rwa [show wantV pc true = (pc - 4) % 4294967296 from rfl] at this), hF'⟩
            case measure => simp [intOf]; omega
        · have q1 : ((k : Int) == 0) = false := by simp [hk0]
          have q2 : decide ((0 : Int) < (k : Int)) = true := by simp; omega
          have q3 : decide (0 < k) = true := by simp; omega
          rw [if_neg hk0] at hN1 hpl
          have hE : Q.e = pl := hpl.out
          rw [hE] at z2
          replace hE := hide hE
          have hto2 : to = 2147484032 := hto.out (by omega)
          subst hto2
          replace hk0 := hide hk0
          clear hpl
          go_wp2
          go_roundw
          case rel => exact ⟨k + 1, Q, pl, by omega, by go_num, rfl, hN1, hF'⟩
          case measure => simp [intOf]; omega
      · have hY : HeldN w b (off + k * 4) q ⟨code, f, d, pc⟩ (w'.setRow wr.heap.size (cellsR Q)) := HeldN.far hT.2.2.2.2.2 _ _ hlt
        have iR : isRow w' wr.heap.size = true := by rw [hk1.1.2 wr.heap.size (by simp)]; simp [isRow_drew, isRow_alloc]
        have RD : Rat (w'.setRow wr.heap.size (cellsR Q)) wr.heap.size Q := ⟨by rw [isRow_setRow]; exact iR, rowAt_setRow _ _ _ iR, by rw [setRow_size]; have := hk1.2; simp at this; omega⟩
        clear hS hT hk1 cr hH iR
        generalize w'.setRow wr.heap.size (cellsR Q) = y at *
        generalize wr.heap.size = LD at *
        have hlt2 := hY.1.2.2
        have hpl : Hid (Q.e = if k = 0 then wantV pc d else pl) := hide hN1.out.2.1
        have z1 : y.cell? ⟨LD, 6, none⟩ = some (.int .u32 S2) := by have : y.cell? ⟨LD, 6, none⟩ = some (.int .u32 Q.s) := RD.cell 6; rwa [hqs.out, hS2.out] at this
        have z2 : y.cell? ⟨LD, 8, none⟩ = some (.int .u32 Q.e) := RD.cell 8
        have z3 := RD.load
        have z4 := hY.1.1
        have z5 := hY.1.2.1
        have z6 := hY.2.1 3 (by omega)
        have z7 := hY.2.1 2 (by omega)
        have hF' := hide (And.intro (hY.1.set Q) (below_setRow hY.2.2.2 (Nat.le_refl _) (cellsR Q)))
        simp only [listX, List.getElem?_cons_zero, List.getElem?_cons_succ] at z6 z7
        clear RD hY hqs
        by_cases hk0 : k = 0
        · have q1 : ((k : Int) == 0) = true := by simp [hk0]
          have q2 : decide ((0 : Int) < (k : Int)) = false := by simp [hk0]
          have q3 : decide (0 < k) = false := by simp [hk0]
          rw [if_pos hk0] at hN1 hpl
          obtain ⟨p0', p1'⟩ := hF.out
          replace hk0 := hide hk0
          cases d
          · have hE : Q.e = pc := by rw [hpl.out]; rfl
            rw [hE] at z2
            replace hE := hide hE
            replace hpl := hide hpl
            go_wp2
            go_roundw
            case rel => exact ⟨k + 1, Q, pc, by omega, by go_num, rfl, hide (by have := hN1.out; rwa [show wantV pc false = pc from rfl] at this), hF'⟩
            case measure => simp [intOf]; omega
          · have hE : Q.e = (pc - 4) % 4294967296 := by rw [hpl.out]; rfl
            rw [hE] at z2
            replace hE := hide hE
            replace hpl := hide hpl
            go_wp2
            go_roundw
            case rel => exact ⟨k + 1, Q, (pc - 4) % 4294967296, by omega, by go_num, rfl, hide (by have := hN1.out; rwa [show wantV pc true = (pc - 4) % 4294967296 from rfl] at this), hF'⟩
            case measure => simp [intOf]; omega
        · have q1 : ((k : Int) == 0) = false := by simp [hk0]
          have q2 : decide ((0 : Int) < (k : Int)) = true := by simp; omega
          have q3 : decide (0 < k) = true := by simp; omega
          rw [if_neg hk0] at hN1 hpl
          have hE : Q.e = pl := hpl.out
          rw [hE] at z2
          replace hE := hide hE
          have hto2 : to = 2147484032 := hto.out (by omega)
          subst hto2
          replace hk0 := hide hk0
          clear hpl
          go_wp2
          go_roundw
          case rel => exact ⟨k + 1, Q, pl, by omega, by go_num, rfl, hN1, hF'⟩
          case measure => simp [intOf]; omega
    · have hD : mixV q.s 0 2 = s0 := by
        by_cases hk0 : k = 0
        · rw [hN.out.2.2.1 hk0]; exact hret.out.2
        · rw [hN.out.2.2.2 (by omega)]; exact hret.out.1
      have cr := fun W => ret_any hN.out.1 W
      rw [hN.out.2.1] at cr
      obtain ⟨D, hD1⟩ : ∃ D, retV q = D := ⟨_, rfl⟩
      have hD2 : D.s = s0 := by rw [← hD1]; exact hD
      rw [hD1] at cr
      replace cr := hide cr
      have R := hR.out.1
      have B := hide hR.out.2
      have l1 := R.load
      have tw : (¬ k < n ∧ decide (k < n) = false) ∨ ((k < n ∧ decide (k < n) = true) ∧ ¬ k < 20 ∧ decide (k < 20) = false) := by
        by_cases h1 : k < n
        · exact Or.inr ⟨⟨h1, by simpa using h1⟩, by omega, by simp; omega⟩
        · exact Or.inl ⟨h1, by simpa using h1⟩
      clear hc hx hn hm hN hR hret hst hD hD1 hS2
      replace hD2 := hide hD2
      rcases tw with ⟨e0, e1⟩ | ⟨⟨e0, e1⟩, e2, e3⟩
      all_goals
        go_wp2_with fail
        refine (cr.out _).mono ?_
        rintro e w1 ⟨rfl, b1⟩
        have g1 := grow w1 (.cells (cellsR D) 24)
        replace B := hide (onto (onto B.out (Nat.le_refl _) b1) (Nat.le_refl _) g1)
        have z1 : (w1.alloc (.cells (cellsR D) 24)).cell? ⟨w1.heap.size, 6, none⟩ = some (.int .u32 s0) := by
          have : (w1.alloc (.cells (cellsR D) 24)).cell? ⟨w1.heap.size, 6, none⟩ = some (.int .u32 D.s) := (Rat.new w1 D 24).cell 6
          rwa [hD2.out] at this
        clear b1 g1 R l1
        go_wp2_with fail
        generalize w1.alloc (.cells (cellsR D) 24) = y at *
        refine (fixed_any _).mono ?_
        rintro e w2 ⟨rfl, b2⟩
        replace B := hide (onto B.out (Nat.le_refl _) b2)
        clear b2 z1
        go_wp2
        go_ret
        exact ⟨rfl, B.out⟩

end Go.Proofs.Ytjpfggffeffapaa
