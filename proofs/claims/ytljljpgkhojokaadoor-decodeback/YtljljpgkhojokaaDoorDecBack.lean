/- The walk of the law: words and instructions go there and back. -/
import Derived.Test.YtljljpgkhojokaaDoorDecNear
namespace Go.Proofs.YtljljpgkhojokaaDoor
open Go.RowKit
set_option linter.unusedVariables false

theorem word_told {o s t d a i v : Int} (h : Word o s t d a i v 0) : ∃ n : Nat, n < 4294967296 ∧ v = (n : Int) ∧ ∃ op, op < 69 ∧ o = ((op : Nat) : Int) ∧ Dec.laid op s t d a i = n ∧ Good op s t d a i ∧ Dec.is n op = true := by
  rcases h with ⟨op, ho, rfl, hg, rfl, -⟩ | ⟨-, -, e⟩
  · refine ⟨_, Dec.laid_lt op ho s t d a i, rfl, op, ho, rfl, rfl, hg, ?_⟩
    obtain ⟨g1, g2, g3, g4, g5⟩ := hg
    unfold Dec.is
    rw [g1, g2, g3, g4, g5]
    simp
  · cases e

/-- What is encoded is decoded as it was. -/
theorem there {n : Nat} {o s t d a i o' s' t' d' a' i' e' : Int} {op : Nat} (ho : op < 69) (eo : o = (op : Int)) (hl : Dec.laid op s t d a i = n) (hg : Good op s t d a i) (hi : Dec.is n op = true) (h : Told n o' s' t' d' a' i' e') :
    e' = 0 ∧ same6 o' s' t' d' a' i' o s t d a i = true := by
  obtain ⟨r1, r2, r3, r4, r5, r6, r7⟩ := told_of ho hi h
  obtain ⟨g1, g2, g3, g4, g5⟩ := hg
  rw [hl] at g1 g2 g3 g4 g5
  refine ⟨r7, same6_iff.mpr ⟨by omega, by omega, by omega, by omega, by omega, ?_⟩⟩
  rw [r6, g5]

/-- What is decoded is encoded as it was. -/
theorem back {n : Nat} {o s t d a i v e : Int} (h : Told n o s t d a i 0) (hw : Word o s t d a i v e) : e = 0 ∧ v = (n : Int) := by
  rcases h with ⟨op, ho, hi, rfl, rfl, rfl, rfl, rfl, rfl, -⟩ | ⟨-, -, -, -, -, -, -, h0⟩
  · have hl := eq_of_beq hi
    have hg : Good op (Dec.ds op n : Nat) (Dec.dt op n : Nat) (Dec.dd op n : Nat) (Dec.da op n : Nat) (Dec.di op n) := by
      unfold Good
      rw [hl]
      exact ⟨rfl, rfl, rfl, rfl, rfl⟩
    rcases hw with ⟨op', ho', eo, hg', rfl, rfl⟩ | ⟨hn, -, -⟩
    · obtain rfl : op = op' := by omega
      exact ⟨rfl, by rw [hl]⟩
    · exact absurd hg (hn op ho rfl)
  · cases h0

/-- Two instructions have one word just if they are one. -/
theorem just {o s t d a i v o' s' t' d' a' i' v' : Int} (h : Word o s t d a i v 0) (h' : Word o' s' t' d' a' i' v' 0) : ((v == v') == same6 o s t d a i o' s' t' d' a' i') = true := by
  obtain ⟨n, hn, rfl, op, ho, rfl, hl, hg, hi⟩ := word_told h
  obtain ⟨n', hn', rfl, op', ho', rfl, hl', hg', hi'⟩ := word_told h'
  cases hs : same6 op s t d a i op' s' t' d' a' i' with
  | true =>
    obtain ⟨e0, rfl, rfl, rfl, rfl, rfl⟩ := same6_iff.mp hs
    obtain rfl : op = op' := by omega
    rw [← hl, ← hl']
    simp
  | false =>
    have : n ≠ n' := fun e => by
      subst e
      have eop := Dec.one ho ho' (Dec.is_shut ho hi) (Dec.is_shut ho' hi')
      subst eop
      obtain ⟨g1, g2, g3, g4, g5⟩ := hg
      obtain ⟨k1, k2, k3, k4, k5⟩ := hg'
      rw [hl] at g1 g2 g3 g4 g5
      rw [hl'] at k1 k2 k3 k4 k5
      rw [same6_iff.mpr ⟨rfl, g1.symm.trans k1, g2.symm.trans k2, g3.symm.trans k3, g4.symm.trans k4, g5.symm.trans k5⟩] at hs
      cases hs
    simp
    omega

theorem word_e {o s t d a i v e : Int} (h : Word o s t d a i v e) : e = 0 ∨ e = 40 := by
  rcases h with ⟨op, ho, rfl, hg, rfl, rfl⟩ | ⟨-, -, rfl⟩
  · exact Or.inl rfl
  · exact Or.inr rfl

set_option maxHeartbeats 4000000 in
theorem back_raw {o s t d a i o' s' t' d' a' i' n x e y f oc sc tc dc ac ic oq sq tq dq aq iq g : Int}
    (hE : ∀ w, Tabs w → Calls Tryd.prog 12 #[.agg #[.int .i64 o, .int .i64 s, .int .i64 t, .int .i64 d, .int .i64 a, .int .i64 i]] w fun r w' => r = .returned (.tuple #[.int .u32 x, .int .i64 e]) ∧ Below w.heap.size w w')
    (hE2 : ∀ w, Tabs w → Calls Tryd.prog 12 #[.agg #[.int .i64 o', .int .i64 s', .int .i64 t', .int .i64 d', .int .i64 a', .int .i64 i']] w fun r w' => r = .returned (.tuple #[.int .u32 y, .int .i64 f]) ∧ Below w.heap.size w w')
    (hfirst : e = 40 ∨ e = 0 ∧ same6 oc sc tc dc ac ic o s t d a i = true ∧ (∀ w, Tabs w → Calls Tryd.prog 9 #[.int .u32 x] w fun r w' => r = .returned (.tuple #[.agg #[.int .i64 oc, .int .i64 sc, .int .i64 tc, .int .i64 dc, .int .i64 ac, .int .i64 ic], .int .i64 0]) ∧ Below w.heap.size w w') ∧ (f = 40 ∨ f = 0 ∧ (x == y) = same6 o s t d a i o' s' t' d' a' i'))
    (hD2 : ∀ w, Tabs w → Calls Tryd.prog 9 #[.int .u32 n] w fun r w' => r = .returned (.tuple #[.agg #[.int .i64 oq, .int .i64 sq, .int .i64 tq, .int .i64 dq, .int .i64 aq, .int .i64 iq], .int .i64 g]) ∧ Below w.heap.size w w')
    (hlast : g = 40 ∧ same6 oq sq tq dq aq iq 0 0 0 0 0 0 = true ∨ g = 0 ∧ (n == n) = true ∧ (∀ w, Tabs w → Calls Tryd.prog 12 #[.agg #[.int .i64 oq, .int .i64 sq, .int .i64 tq, .int .i64 dq, .int .i64 aq, .int .i64 iq]] w fun r w' => r = .returned (.tuple #[.int .u32 n, .int .i64 0]) ∧ Below w.heap.size w w')) (w : World) (tb : Tabs w) :
    Calls Tryd.prog 6 #[.agg #[.int .i64 o, .int .i64 s, .int .i64 t, .int .i64 d, .int .i64 a, .int .i64 i], .agg #[.int .i64 o', .int .i64 s', .int .i64 t', .int .i64 d', .int .i64 a', .int .i64 i'], .int .u32 n] w fun r w' => r = .returned (.bool true) ∧ Below w.heap.size w w' := by
  go_enter Tryd.func6, Tryd.ntmps6
  go_wp2_with fail
  have g0 := grow w (.cells #[.int .i64 o, .int .i64 s, .int .i64 t, .int .i64 d, .int .i64 a, .int .i64 i] 24)
  have g1 := grow (w.alloc (.cells #[.int .i64 o, .int .i64 s, .int .i64 t, .int .i64 d, .int .i64 a, .int .i64 i] 24)) (.cells #[.int .i64 o', .int .i64 s', .int .i64 t', .int .i64 d', .int .i64 a', .int .i64 i'] 24)
  have p1 := (cell6 w 24 (.int .i64 o) (.int .i64 s) (.int .i64 t) (.int .i64 d) (.int .i64 a) (.int .i64 i)).on g1
  have q1 := cell6 (w.alloc (.cells #[.int .i64 o, .int .i64 s, .int .i64 t, .int .i64 d, .int .i64 a, .int .i64 i] 24)) 24 (.int .i64 o') (.int .i64 s') (.int .i64 t') (.int .i64 d') (.int .i64 a') (.int .i64 i')
  have b1 := onto g0 g1
  have t1 := (tb.on g0).on g1
  rw [show (w.alloc (.cells #[.int .i64 o, .int .i64 s, .int .i64 t, .int .i64 d, .int .i64 a, .int .i64 i] 24)).heap.size = w.heap.size + 1 by simp] at q1
  clear g0 g1 tb
  generalize (w.alloc (.cells #[.int .i64 o, .int .i64 s, .int .i64 t, .int .i64 d, .int .i64 a, .int .i64 i] 24)).alloc (.cells #[.int .i64 o', .int .i64 s', .int .i64 t', .int .i64 d', .int .i64 a', .int .i64 i'] 24) = W at *
  refine (hE _ t1).mono ?_
  rintro r w2 ⟨rfl, h2⟩
  have p2 := p1.on h2
  have q2 := q1.on h2
  have b2 := onto b1 h2
  have t2 := t1.on h2
  clear h2 p1 q1 b1 t1 hE
  clear W
  have qq := id q2
  obtain ⟨y0, y1, y2, y3, y4, y5⟩ := qq
  go_wp2_with fail
  refine (hE2 _ t2).mono ?_
  rintro r w3 ⟨rfl, h3⟩
  have p3 := p2.on h3
  have q3 := q2.on h3
  have b3 := onto b2 h3
  have t3 := t2.on h3
  clear h3 p2 q2 b2 t2 hE2 y0 y1 y2 y3 y4 y5
  clear w2
  rcases hfirst with rfl | ⟨rfl, hs1, hD1, hf⟩
  · clear p3 q3
    go_wp2_with fail
    refine (hD2 _ t3).mono ?_
    rintro r w7 ⟨rfl, h7⟩
    have g7 := grow w7 (.cells #[.int .i64 oq, .int .i64 sq, .int .i64 tq, .int .i64 dq, .int .i64 aq, .int .i64 iq] 24)
    have k7 := cell6 w7 24 (.int .i64 oq) (.int .i64 sq) (.int .i64 tq) (.int .i64 dq) (.int .i64 aq) (.int .i64 iq)
    have b7 := onto (onto b3 h7) g7
    have t7 := ((Tabs.on t3 h7).on g7)
    clear h7 g7 t3 b3 hD2
    rcases hlast with ⟨rfl, hz⟩ | ⟨rfl, hv, hE3⟩
    · have hsz := fun w => eql24 oq sq tq dq aq iq 0 0 0 0 0 0 w
      rw [hz] at hsz
      go_wp2_with fail
      refine (facts_any _ t7).mono ?_
      rintro r w8 ⟨rfl, h8⟩
      have b8 := onto b7 h8
      clear h8 t7 b7 k7
      go_wp2
      go_ret
      exact ⟨rfl, b8⟩
    · go_wp2_with fail
      refine (hE3 _ t7).mono ?_
      rintro r w8 ⟨rfl, h8⟩
      have b8 := onto b7 h8
      have t8 := Tabs.on t7 h8
      clear h8 t7 b7 k7 hE3
      go_wp2_with fail
      refine (facts_any _ t8).mono ?_
      rintro r w9 ⟨rfl, h9⟩
      have b9 := onto b8 h9
      clear h9 t8 b8
      go_wp2
      go_ret
      exact ⟨rfl, b9⟩
  · go_wp2_with fail
    refine (hD1 _ t3).mono ?_
    rintro r w4 ⟨rfl, h4⟩
    have g4 := grow w4 (.cells #[.int .i64 oc, .int .i64 sc, .int .i64 tc, .int .i64 dc, .int .i64 ac, .int .i64 ic] 24)
    have k5 := cell6 w4 24 (.int .i64 oc) (.int .i64 sc) (.int .i64 tc) (.int .i64 dc) (.int .i64 ac) (.int .i64 ic)
    have p5 := (p3.on h4).on g4
    have q5 := (q3.on h4).on g4
    have b5 := onto (onto b3 h4) g4
    have t5 := (t3.on h4).on g4
    have hne := fun w => neq24 oc sc tc dc ac ic o s t d a i w
    rw [hs1] at hne
    have z1 := cell_in (p3.on h4).c0
    have z2 := cell_in (q3.on h4).c0
    obtain ⟨u0, u1, u2, u3, u4, u5⟩ := p3.on h4
    obtain ⟨v0, v1, v2, v3, v4, v5⟩ := q3.on h4
    clear h4 p3 q3 b3 t3 hD1 hs1 g4 p5 q5 k5
    rcases hf with rfl | ⟨rfl, hxy⟩
    · go_wp2_with fail
      refine (hD2 _ t5).mono ?_
      rintro r w7 ⟨rfl, h7⟩
      have g7 := grow w7 (.cells #[.int .i64 oq, .int .i64 sq, .int .i64 tq, .int .i64 dq, .int .i64 aq, .int .i64 iq] 24)
      have k7 := cell6 w7 24 (.int .i64 oq) (.int .i64 sq) (.int .i64 tq) (.int .i64 dq) (.int .i64 aq) (.int .i64 iq)
      have b7 := onto (onto b5 h7) g7
      have t7 := ((Tabs.on t5 h7).on g7)
      clear h7 g7 t5 b5 hD2 u0 u1 u2 u3 u4 u5 v0 v1 v2 v3 v4 v5
      rcases hlast with ⟨rfl, hz⟩ | ⟨rfl, hv, hE3⟩
      · have hsz := fun w => eql24 oq sq tq dq aq iq 0 0 0 0 0 0 w
        rw [hz] at hsz
        go_wp2_with fail
        refine (facts_any _ t7).mono ?_
        rintro r w8 ⟨rfl, h8⟩
        have b8 := onto b7 h8
        clear h8 t7 b7 k7
        go_wp2
        go_ret
        exact ⟨rfl, b8⟩
      · go_wp2_with fail
        refine (hE3 _ t7).mono ?_
        rintro r w8 ⟨rfl, h8⟩
        have b8 := onto b7 h8
        have t8 := Tabs.on t7 h8
        clear h8 t7 b7 k7 hE3
        go_wp2_with fail
        refine (facts_any _ t8).mono ?_
        rintro r w9 ⟨rfl, h9⟩
        have b9 := onto b8 h9
        clear h9 t8 b8
        go_wp2
        go_ret
        exact ⟨rfl, b9⟩
    · have hee := fun w => eql24 o s t d a i o' s' t' d' a' i' w
      generalize same6 o s t d a i o' s' t' d' a' i' = c at *
      cases c
      · go_wp2_with fail
        refine (hD2 _ t5).mono ?_
        rintro r w7 ⟨rfl, h7⟩
        have g7 := grow w7 (.cells #[.int .i64 oq, .int .i64 sq, .int .i64 tq, .int .i64 dq, .int .i64 aq, .int .i64 iq] 24)
        have k7 := cell6 w7 24 (.int .i64 oq) (.int .i64 sq) (.int .i64 tq) (.int .i64 dq) (.int .i64 aq) (.int .i64 iq)
        have b7 := onto (onto b5 h7) g7
        have t7 := ((Tabs.on t5 h7).on g7)
        clear h7 g7 t5 b5 hD2 u0 u1 u2 u3 u4 u5 v0 v1 v2 v3 v4 v5
        rcases hlast with ⟨rfl, hz⟩ | ⟨rfl, hv, hE3⟩
        · have hsz := fun w => eql24 oq sq tq dq aq iq 0 0 0 0 0 0 w
          rw [hz] at hsz
          go_wp2_with fail
          refine (facts_any _ t7).mono ?_
          rintro r w8 ⟨rfl, h8⟩
          have b8 := onto b7 h8
          clear h8 t7 b7 k7
          go_wp2
          go_ret
          exact ⟨rfl, b8⟩
        · go_wp2_with fail
          refine (hE3 _ t7).mono ?_
          rintro r w8 ⟨rfl, h8⟩
          have b8 := onto b7 h8
          have t8 := Tabs.on t7 h8
          clear h8 t7 b7 k7 hE3
          go_wp2_with fail
          refine (facts_any _ t8).mono ?_
          rintro r w9 ⟨rfl, h9⟩
          have b9 := onto b8 h9
          clear h9 t8 b8
          go_wp2
          go_ret
          exact ⟨rfl, b9⟩
      · go_wp2_with fail
        refine (hD2 _ t5).mono ?_
        rintro r w7 ⟨rfl, h7⟩
        have g7 := grow w7 (.cells #[.int .i64 oq, .int .i64 sq, .int .i64 tq, .int .i64 dq, .int .i64 aq, .int .i64 iq] 24)
        have k7 := cell6 w7 24 (.int .i64 oq) (.int .i64 sq) (.int .i64 tq) (.int .i64 dq) (.int .i64 aq) (.int .i64 iq)
        have b7 := onto (onto b5 h7) g7
        have t7 := ((Tabs.on t5 h7).on g7)
        clear h7 g7 t5 b5 hD2 u0 u1 u2 u3 u4 u5 v0 v1 v2 v3 v4 v5
        rcases hlast with ⟨rfl, hz⟩ | ⟨rfl, hv, hE3⟩
        · have hsz := fun w => eql24 oq sq tq dq aq iq 0 0 0 0 0 0 w
          rw [hz] at hsz
          go_wp2_with fail
          refine (facts_any _ t7).mono ?_
          rintro r w8 ⟨rfl, h8⟩
          have b8 := onto b7 h8
          clear h8 t7 b7 k7
          go_wp2
          go_ret
          exact ⟨rfl, b8⟩
        · go_wp2_with fail
          refine (hE3 _ t7).mono ?_
          rintro r w8 ⟨rfl, h8⟩
          have b8 := onto b7 h8
          have t8 := Tabs.on t7 h8
          clear h8 t7 b7 k7 hE3
          go_wp2_with fail
          refine (facts_any _ t8).mono ?_
          rintro r w9 ⟨rfl, h9⟩
          have b9 := onto b8 h9
          clear h9 t8 b8
          go_wp2
          go_ret
          exact ⟨rfl, b9⟩

theorem just2 {o s t d a i v o' s' t' d' a' i' v' : Int} (h : Word o s t d a i v 0) (h' : Word o' s' t' d' a' i' v' 0) : (v == v') = same6 o s t d a i o' s' t' d' a' i' := eq_of_beq (just h h')

theorem back_walk (o s t d a i o' s' t' d' a' i' a2 : Int) (w : World) (w2 : (Lit.int .u32 a2).wf = true) (tb : Tabs w) :
    Calls Tryd.prog 6 #[.agg #[.int .i64 o, .int .i64 s, .int .i64 t, .int .i64 d, .int .i64 a, .int .i64 i], .agg #[.int .i64 o', .int .i64 s', .int .i64 t', .int .i64 d', .int .i64 a', .int .i64 i'], .int .u32 a2] w fun r w' => r = .returned (.bool true) ∧ Below w.heap.size w w' := by
  obtain ⟨n, hn, rfl⟩ : ∃ n : Nat, n < 4294967296 ∧ a2 = (n : Int) := by
    have : 0 ≤ a2 ∧ a2 ≤ 4294967295 := by simpa [Lit.wf, IntKind.min, IntKind.max, IntKind.signed, IntKind.bits] using w2
    exact ⟨a2.toNat, by omega, by omega⟩
  obtain ⟨x, e, hW1, hE1⟩ := encode_any o s t d a i
  obtain ⟨y, f, hW2, hE2⟩ := encode_any o' s' t' d' a' i'
  obtain ⟨oq, sq, tq, dq, aq, iq, g, hT, hD2⟩ := decode_any n hn
  have hlast : g = 40 ∧ same6 oq sq tq dq aq iq 0 0 0 0 0 0 = true ∨ g = 0 ∧ ((n : Int) == (n : Int)) = true ∧ (∀ w, Tabs w → Calls Tryd.prog 12 #[.agg #[.int .i64 oq, .int .i64 sq, .int .i64 tq, .int .i64 dq, .int .i64 aq, .int .i64 iq]] w fun r w' => r = .returned (.tuple #[.int .u32 (n : Int), .int .i64 0]) ∧ Below w.heap.size w w') := by
    rcases told_word hT with ⟨rfl, -⟩ | rfl
    · obtain ⟨v, h, hW3, hE3⟩ := encode_any oq sq tq dq aq iq
      obtain ⟨rfl, rfl⟩ := back hT hW3
      exact Or.inr ⟨rfl, by simp, hE3⟩
    · rcases hT with ⟨op, ho, hi, -, -, -, -, -, -, h0⟩ | ⟨-, rfl, rfl, rfl, rfl, rfl, rfl, -⟩
      · cases h0
      · exact Or.inl ⟨rfl, by decide⟩
  rcases word_e hW1 with rfl | rfl
  · obtain ⟨m, hm, rfl, op, ho, eo, hl, hg, hi⟩ := word_told hW1
    obtain ⟨oc, sc, tc, dc, ac, ic, ec, hTc, hDc⟩ := decode_any m hm
    obtain ⟨rfl, hsm⟩ := there ho eo hl hg hi hTc
    refine back_raw hE1 hE2 (Or.inr ⟨rfl, hsm, hDc, ?_⟩) hD2 hlast w tb
    rcases word_e hW2 with rfl | rfl
    · exact Or.inr ⟨rfl, just2 hW1 hW2⟩
    · exact Or.inl rfl
  · exact back_raw (oc := 0) (sc := 0) (tc := 0) (dc := 0) (ac := 0) (ic := 0) hE1 hE2 (Or.inl rfl) hD2 hlast w tb

end Go.Proofs.YtljljpgkhojokaaDoor
