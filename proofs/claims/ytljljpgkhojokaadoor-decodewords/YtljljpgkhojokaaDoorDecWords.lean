/- The walk of the law: which instruction any word is, is as the document says. -/
import Derived.Test.YtljljpgkhojokaaDoorDecRdecA
import Derived.Test.YtljljpgkhojokaaDoorDecRdecB
namespace Go.Proofs.YtljljpgkhojokaaDoor
open Go.RowKit
set_option linter.unusedVariables false

theorem r_enc (wd k : Nat) (hk : k < 69) : ∃ v e : Int, Hid ((e = 0 ∧ v = (wd : Int)) ↔ Dec.is wd k = true) ∧
    Enc (k : Int) (Dec.ds k wd : Nat) (Dec.dt k wd : Nat) (Dec.dd k wd : Nat) (Dec.da k wd : Nat) (Dec.di k wd) (.tuple #[.int .u32 v, .int .i64 e]) := by
  obtain ⟨v, e, hW, hE⟩ := renc_any (k : Int) (Dec.ds k wd : Nat) (Dec.dt k wd : Nat) (Dec.dd k wd : Nat) (Dec.da k wd : Nat) (Dec.di k wd)
  refine ⟨v, e, hide ?_, hE⟩
  rcases hW with ⟨op, ho, eo, hg, rfl, rfl⟩ | ⟨hn, rfl, rfl⟩
  · obtain rfl : k = op := by omega
    constructor
    · rintro ⟨-, h⟩
      exact beq_iff_eq.mpr (Int.natCast_inj.mp h)
    · intro h
      exact ⟨rfl, by rw [eq_of_beq h]⟩
  · constructor
    · rintro ⟨h, -⟩; cases h
    · intro h
      refine absurd ?_ (hn k hk rfl)
      have hl := eq_of_beq h
      unfold Good
      rw [hl]
      exact ⟨rfl, rfl, rfl, rfl, rfl⟩

theorem r_major (wd k : Nat) (hw : wd < 4294967296) (hk : k < 69) (h : Dec.is wd k = true) : ((Dec.mj k : Nat) : Int) = (wd : Int) / 67108864 := by
  have := Dec.major_of_shut k wd hk hw (Dec.is_shut hk h)
  omega

theorem rdecode_any (wd : Nat) (hw : wd < 4294967296) {o s t d a i e : Int} (hT : Told wd o s t d a i e) (w : World) :
    Calls Tryd.prog 10 #[.int .u32 (wd : Int)] w fun r w' => r = .returned (.tuple #[.agg #[.int .i64 o, .int .i64 s, .int .i64 t, .int .i64 d, .int .i64 a, .int .i64 i], .int .i64 e]) ∧ Below w.heap.size w w' := by
  have fin : ∀ r w', rsends (wd : Int) (Dec.is wd) (fun k => (Dec.ds k wd : Nat)) (fun k => (Dec.dt k wd : Nat)) (fun k => (Dec.dd k wd : Nat)) (fun k => (Dec.da k wd : Nat)) (fun k => Dec.di k wd) w r w' →
      r = .returned (.tuple #[.agg #[.int .i64 o, .int .i64 s, .int .i64 t, .int .i64 d, .int .i64 a, .int .i64 i], .int .i64 e]) ∧ Below w.heap.size w w' := by
    rintro r w' ⟨⟨k, hk, hik, rfl⟩ | ⟨hn, rfl⟩, hb⟩
    · obtain ⟨rfl, rfl, rfl, rfl, rfl, rfl, rfl⟩ := told_of hk hik hT
      exact ⟨rfl, hb⟩
    · obtain ⟨rfl, rfl, rfl, rfl, rfl, rfl, rfl⟩ := told_no hn hT
      exact ⟨rfl, hb⟩
  have d1 : ∀ k : Nat, k < 69 → ((Dec.ds k wd : Nat) : Int) = if HasS (Dec.fm k) then (wd : Int) / 2097152 % 32 else 0 := fun k hk => by
    rw [(draws_at k hk wd).1]; split <;> omega
  have d2 : ∀ k : Nat, k < 69 → ((Dec.dt k wd : Nat) : Int) = if HasT (Dec.fm k) then (wd : Int) / 65536 % 32 else 0 := fun k hk => by
    rw [(draws_at k hk wd).2.1]; split <;> omega
  have d3 : ∀ k : Nat, k < 69 → ((Dec.dd k wd : Nat) : Int) = if HasD (Dec.fm k) then (wd : Int) / 2048 % 32 else 0 := fun k hk => by
    rw [(draws_at k hk wd).2.2.1]; split <;> omega
  have d4 : ∀ k : Nat, k < 69 → ((Dec.da k wd : Nat) : Int) = if HasA (Dec.fm k) then (wd : Int) / 64 % 32 else 0 := fun k hk => by
    rw [(draws_at k hk wd).2.2.2]; split <;> omega
  cases hsg : decide (32768 ≤ (wd : Int) % 65536) with
  | true =>
    have hs := of_decide_eq_true hsg
    have es : Dec.sign wd = (wd : Int) % 65536 - 65536 := by unfold Dec.sign; rw [if_neg (by omega)]; omega
    refine (rdec_neg (wd : Int) (by omega) (by omega) hsg (Dec.is wd) _ _ _ _ (fun k => Dec.di k wd) (r_enc wd) d1 d2 d3 d4 (fun k hk => ?_) (fun k hk h => r_major wd k hw hk h) w).mono fin
    show Dec.di k wd = _
    rw [di_at k hk wd, es]
    rfl
  | false =>
    have hs := of_decide_eq_false hsg
    have es : Dec.sign wd = (wd : Int) % 65536 := by unfold Dec.sign; rw [if_pos (by omega)]; omega
    refine (rdec_pos (wd : Int) (by omega) (by omega) hsg (Dec.is wd) _ _ _ _ (fun k => Dec.di k wd) (r_enc wd) d1 d2 d3 d4 (fun k hk => ?_) (fun k hk h => r_major wd k hw hk h) w).mono fin
    show Dec.di k wd = _
    rw [di_at k hk wd, es]
    rfl

theorem words_raw {n o s t d a i e : Int}
    (hD : ∀ w, Tabs w → Calls Tryd.prog 9 #[.int .u32 n] w fun r w' => r = .returned (.tuple #[.agg #[.int .i64 o, .int .i64 s, .int .i64 t, .int .i64 d, .int .i64 a, .int .i64 i], .int .i64 e]) ∧ Below w.heap.size w w')
    (hD' : ∀ w, Calls Tryd.prog 10 #[.int .u32 n] w fun r w' => r = .returned (.tuple #[.agg #[.int .i64 o, .int .i64 s, .int .i64 t, .int .i64 d, .int .i64 a, .int .i64 i], .int .i64 e]) ∧ Below w.heap.size w w') (w : World) (tb : Tabs w) :
    Calls Tryd.prog 3 #[.int .u32 n] w fun r w' => r = .returned (.bool true) ∧ Below w.heap.size w w' := by
  have hq := fun w => eql24 o s t d a i o s t d a i w
  rw [same6_iff.mpr ⟨rfl, rfl, rfl, rfl, rfl, rfl⟩] at hq
  go_enter Tryd.func3, Tryd.ntmps3
  go_wp2_with fail
  refine (hD _ tb).mono ?_
  rintro r w1 ⟨rfl, h1⟩
  go_wp2_with fail
  have g1 := grow w1 (.cells #[.int .i64 o, .int .i64 s, .int .i64 t, .int .i64 d, .int .i64 a, .int .i64 i] 24)
  have k1 := cell6 w1 24 (.int .i64 o) (.int .i64 s) (.int .i64 t) (.int .i64 d) (.int .i64 a) (.int .i64 i)
  have b1 := onto h1 g1
  have t1 := (tb.on h1).on g1
  clear g1 h1 tb hD
  refine (hD' _).mono ?_
  rintro r w2 ⟨rfl, h2⟩
  have k2 := k1.on h2
  have b2 := onto b1 h2
  have t2 := t1.on h2
  clear h2 b1 t1 k1 hD'
  generalize w1.heap.size = L at *
  clear w1
  go_wp2_with fail
  have g3 := grow w2 (.cells #[.int .i64 o, .int .i64 s, .int .i64 t, .int .i64 d, .int .i64 a, .int .i64 i] 24)
  have q3 := cell6 w2 24 (.int .i64 o) (.int .i64 s) (.int .i64 t) (.int .i64 d) (.int .i64 a) (.int .i64 i)
  have k3 := k2.on g3
  have b3 := onto b2 g3
  have t3 := t2.on g3
  clear g3 k2 b2 t2
  refine (facts_any _ t3).mono ?_
  rintro r w4 ⟨rfl, h4⟩
  obtain ⟨x0, x1, x2, x3, x4, x5⟩ := k3.on h4
  obtain ⟨y0, y1, y2, y3, y4, y5⟩ := q3.on h4
  have b4 := onto b3 h4
  clear h4 k3 q3 b3 t3
  generalize w2.heap.size = R at *
  clear w2
  go_wp2
  go_ret
  exact ⟨rfl, b4⟩

theorem words_walk (a0 : Int) (w : World) (w0 : (Lit.int .u32 a0).wf = true) (tb : Tabs w) :
    Calls Tryd.prog 3 #[.int .u32 a0] w fun r w' => r = .returned (.bool true) ∧ Below w.heap.size w w' := by
  obtain ⟨n, hn, rfl⟩ : ∃ n : Nat, n < 4294967296 ∧ a0 = (n : Int) := by
    have : 0 ≤ a0 ∧ a0 ≤ 4294967295 := by simpa [Lit.wf, IntKind.min, IntKind.max, IntKind.signed, IntKind.bits] using w0
    exact ⟨a0.toNat, by omega, by omega⟩
  obtain ⟨o, s, t, d, a, i, e, hT, hD⟩ := decode_any n hn
  exact words_raw hD (fun w => rdecode_any n hn hT w) w tb

end Go.Proofs.YtljljpgkhojokaaDoor
