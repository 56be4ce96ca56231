/- The walk of the law: which instruction any word is, is as the document says. -/
import Derived.Test.YtbgklaahmmfpjaaDoorQDecRdecA
import Derived.Test.YtbgklaahmmfpjaaDoorQDecRdecB
namespace Go.Proofs.YtbgklaahmmfpjaaDoor.De
open Go.RowKit
set_option linter.unusedVariables false
set_option maxRecDepth 100000

theorem r_enc (wd k : Nat) (hk : k < 69) : ∃ v e : Int, Hid ((e = 0 ∧ v = (wd : Int)) ↔ Dec.is wd k = true) ∧
    Enc (k : Int) (Dec.ds k wd : Nat) (Dec.dt k wd : Nat) (Dec.dd k wd : Nat) (Dec.da k wd : Nat) (Dec.di k wd) (.tuple #[.int .u32 v, .int .i64 e]) := by
  obtain ⟨v, e, hW, hE⟩ := renc_any (k : Int) (Dec.ds k wd : Nat) (Dec.dt k wd : Nat) (Dec.dd k wd : Nat) (Dec.da k wd : Nat) (Dec.di k wd)
  refine ⟨v, e, hide ?_, hE⟩
  rcases hW with ⟨op, ho, eo, hg, rfl, rfl⟩ | ⟨hn, rfl, rfl⟩
  · obtain rfl : k = op := by omega
    constructor
    · rintro ⟨-, h⟩
      exact beq_iff_eq.mpr (Int.natCast_inj.mp h)
    · intro h
      exact ⟨rfl, by rw [eq_of_beq h]⟩
  · constructor
    · rintro ⟨h, -⟩; cases h
    · intro h
      refine absurd ?_ (hn k hk rfl)
      have hl := eq_of_beq h
      unfold Good
      rw [hl]
      exact ⟨rfl, rfl, rfl, rfl, rfl⟩

theorem r_major (wd k : Nat) (hw : wd < 4294967296) (hk : k < 69) (h : Dec.is wd k = true) : ((Dec.mj k : Nat) : Int) = (wd : Int) / 67108864 := by
  have := Dec.major_of_shut k wd hk hw (Dec.is_shut hk h)
  omega

theorem rdecode_any (wd : Nat) (hw : wd < 4294967296) {o s t d a i e : Int} (hT : Told wd o s t d a i e) (w : World) :
    Calls Tryd.prog 8 #[.int .u32 (wd : Int)] w fun r w' => r = .returned (.tuple #[.agg #[.int .i64 o, .int .i64 s, .int .i64 t, .int .i64 d, .int .i64 a, .int .i64 i], .int .i64 e]) ∧ Below w.heap.size w w' := by
  have fin : ∀ r w', rsends (wd : Int) (Dec.is wd) (fun k => (Dec.ds k wd : Nat)) (fun k => (Dec.dt k wd : Nat)) (fun k => (Dec.dd k wd : Nat)) (fun k => (Dec.da k wd : Nat)) (fun k => Dec.di k wd) w r w' →
      r = .returned (.tuple #[.agg #[.int .i64 o, .int .i64 s, .int .i64 t, .int .i64 d, .int .i64 a, .int .i64 i], .int .i64 e]) ∧ Below w.heap.size w w' := by
    rintro r w' ⟨⟨k, hk, hik, rfl⟩ | ⟨hn, rfl⟩, hb⟩
    · obtain ⟨rfl, rfl, rfl, rfl, rfl, rfl, rfl⟩ := told_of hk hik hT
      exact ⟨rfl, hb⟩
    · obtain ⟨rfl, rfl, rfl, rfl, rfl, rfl, rfl⟩ := told_no hn hT
      exact ⟨rfl, hb⟩
  have d1 : ∀ k : Nat, k < 69 → ((Dec.ds k wd : Nat) : Int) = if HasS (Dec.fm k) then (wd : Int) / 2097152 % 32 else 0 := fun k hk => by
    rw [(draws_at k hk wd).1]; split <;> omega
  have d2 : ∀ k : Nat, k < 69 → ((Dec.dt k wd : Nat) : Int) = if HasT (Dec.fm k) then (wd : Int) / 65536 % 32 else 0 := fun k hk => by
    rw [(draws_at k hk wd).2.1]; split <;> omega
  have d3 : ∀ k : Nat, k < 69 → ((Dec.dd k wd : Nat) : Int) = if HasD (Dec.fm k) then (wd : Int) / 2048 % 32 else 0 := fun k hk => by
    rw [(draws_at k hk wd).2.2.1]; split <;> omega
  have d4 : ∀ k : Nat, k < 69 → ((Dec.da k wd : Nat) : Int) = if HasA (Dec.fm k) then (wd : Int) / 64 % 32 else 0 := fun k hk => by
    rw [(draws_at k hk wd).2.2.2]; split <;> omega
  cases hsg : decide (32768 ≤ (wd : Int) % 65536) with
  | true =>
    have hs := of_decide_eq_true hsg
    have es : Dec.sign wd = (wd : Int) % 65536 - 65536 := by unfold Dec.sign; rw [if_neg (by omega)]; omega
    refine (rdec_neg (wd : Int) (by omega) (by omega) hsg (Dec.is wd) _ _ _ _ (fun k => Dec.di k wd) (r_enc wd) d1 d2 d3 d4 (fun k hk => ?_) (fun k hk h => r_major wd k hw hk h) w).mono fin
    show Dec.di k wd = _
    rw [di_at k hk wd, es]
    rfl
  | false =>
    have hs := of_decide_eq_false hsg
    have es : Dec.sign wd = (wd : Int) % 65536 := by unfold Dec.sign; rw [if_pos (by omega)]; omega
    refine (rdec_pos (wd : Int) (by omega) (by omega) hsg (Dec.is wd) _ _ _ _ (fun k => Dec.di k wd) (r_enc wd) d1 d2 d3 d4 (fun k hk => ?_) (fun k hk h => r_major wd k hw hk h) w).mono fin
    show Dec.di k wd = _
    rw [di_at k hk wd, es]
    rfl

end Go.Proofs.YtbgklaahmmfpjaaDoor.De
