/- The contract of the document's walk along a row. -/
import Derived.Test.YtlnobnkgllemjaaRngWalks7
namespace Go.Proofs.Ytlnobnkgllemjaa
open Go.RowKit
set_option linter.unusedVariables false

/-- In block L lies a place of four numbers, block R is four zeros, and nothing below n has turned since w. -/
structure Stands4 (L R n : Nat) (w : World) (p q u v : Int) (x : World) : Prop where
  l0 : x.cell? ⟨L, 0, none⟩ = some (.int .i64 p)
  l1 : x.cell? ⟨L, 1, none⟩ = some (.int .i64 q)
  l2 : x.cell? ⟨L, 2, none⟩ = some (.int .i64 u)
  l3 : x.cell? ⟨L, 3, none⟩ = some (.int .i64 v)
  r0 : x.cell? ⟨R, 0, none⟩ = some (.int .i64 0)
  r1 : x.cell? ⟨R, 1, none⟩ = some (.int .i64 0)
  r2 : x.cell? ⟨R, 2, none⟩ = some (.int .i64 0)
  r3 : x.cell? ⟨R, 3, none⟩ = some (.int .i64 0)
  fl : ∀ o, x.frozen? ⟨L, o, none⟩ = false
  fr : ∀ o, x.frozen? ⟨R, o, none⟩ = false
  zl : L < x.heap.size
  zr : R < x.heap.size
  ne : R ≠ L
  nl : n ≤ L
  nr : n ≤ R
  nw : n ≤ w.heap.size
  be : Below n w x

theorem Stands4.on {L R n : Nat} {w x y : World} {p q u v : Int} (h : Stands4 L R n w p q u v x) (hb : Below x.heap.size x y) : Stands4 L R n w p q u v y := by
  obtain ⟨hc, hf⟩ := bcell hb
  have hz := hb.size
  have hz2 := h.be.size
  have hz3 := h.nw
  have zl := h.zl
  have zr := h.zr
  exact ⟨by rw [hc _ _ zl, h.l0], by rw [hc _ _ zl, h.l1], by rw [hc _ _ zl, h.l2], by rw [hc _ _ zl, h.l3], by rw [hc _ _ zr, h.r0], by rw [hc _ _ zr, h.r1], by rw [hc _ _ zr, h.r2], by rw [hc _ _ zr, h.r3],
    fun o => by rw [hf _ _ zl, h.fl], fun o => by rw [hf _ _ zr, h.fr], by omega, by omega, h.ne, h.nl, h.nr, h.nw, h.be.trans (hb.mono (by omega))⟩

theorem Stands4.put {L R n : Nat} {w x : World} {p q u v : Int} (h : Stands4 L R n w p q u v x) (p' q' u' v' : Int) :
    Stands4 L R n w p' q' u' v' ((((x.setCell ⟨L, 0, none⟩ (.int .i64 p')).setCell ⟨L, 1, none⟩ (.int .i64 q')).setCell ⟨L, 2, none⟩ (.int .i64 u')).setCell ⟨L, 3, none⟩ (.int .i64 v')) := by
  have hn : L ≠ R := fun e => h.ne e.symm
  refine ⟨?_, ?_, ?_, ?_, ?_, ?_, ?_, ?_, ?_, ?_, ?_, ?_, h.ne, h.nl, h.nr, h.nw, set4 h.be h.nl⟩
  · simp [go_sem, h.l0]
  · simp [go_sem, h.l1]
  · simp [go_sem, h.l2]
  · simp [go_sem, h.l3]
  · simp [World.cell?_setCell_far, hn, h.r0]
  · simp [World.cell?_setCell_far, hn, h.r1]
  · simp [World.cell?_setCell_far, hn, h.r2]
  · simp [World.cell?_setCell_far, hn, h.r3]
  · intro o; simp [h.fl]
  · intro o; simp [h.fr]
  · simpa using h.zl
  · simpa using h.zr

set_option maxHeartbeats 4000000 in
theorem rskip_over {p q g : Nat → Int} {m a b c d u v : Int} {K : Nat} (hK : K = (min m 1000).toNat)
    (hl : ∀ w, Calls Try.prog 22 #[.agg #[.int .i64 a, .int .i64 b, .int .i64 c, .int .i64 d]] w fun e w' => e = .returned (.agg #[.int .i64 (p 0), .int .i64 (q 0), .int .i64 u, .int .i64 v]) ∧ Below w.heap.size w w')
    (hn : ∀ k w, Calls Try.prog 12 #[.agg #[.int .i64 (p k), .int .i64 (q k), .int .i64 u, .int .i64 v]] w fun e w' => e = .returned (.tuple #[.int .u32 (g k), .agg #[.int .i64 (p (k + 1)), .int .i64 (q (k + 1)), .int .i64 u, .int .i64 v]]) ∧ Below w.heap.size w w') (w : World) :
    Calls Try.prog 17 #[.agg #[.int .i64 a, .int .i64 b, .int .i64 c, .int .i64 d], .int .i64 m] w fun e w' => e = .returned (.agg #[.int .i64 (p K), .int .i64 (q K), .int .i64 u, .int .i64 v]) ∧ Below w.heap.size w w' := by
  have HK := hide hK
  clear hK
  go_enter Try.func17, Try.ntmps17
  go_wp2_with fail
  refine (hl _).mono ?_
  rintro e w1 ⟨rfl, hb1⟩
  obtain ⟨hc1, hf1⟩ := bcell hb1
  have z1 : w.heap.size + 1 < w1.heap.size := by have := hb1.size; simp at this; omega
  go_wp2_with fail
  have hS : Stands4 w1.heap.size (w.heap.size + 1) w.heap.size w (p 0) (q 0) u v (w1.alloc (.cells #[.int .i64 (p 0), .int .i64 (q 0), .int .i64 u, .int .i64 v] 24)) := by
    refine ⟨?_, ?_, ?_, ?_, ?_, ?_, ?_, ?_, ?_, ?_, ?_, ?_, ?_, ?_, ?_, ?_, ?_⟩
    · simp [go_sem]
    · simp [go_sem]
    · simp [go_sem]
    · simp [go_sem]
    · simp [go_sem, hc1, z1]
    · simp [go_sem, hc1, z1]
    · simp [go_sem, hc1, z1]
    · simp [go_sem, hc1, z1]
    · intro o; simp [go_sem]
    · intro o; simp [go_sem, hf1, z1]
    · simp
    · simp; omega
    · omega
    · omega
    · omega
    · omega
    · exact ((((Below.refl _ w).alloc (Nat.le_refl _) _).alloc (by simp) _).trans (hb1.mono (by simp; omega))).alloc (by omega) _
  clear hl hc1 hf1 hb1 z1
  generalize w1.alloc (.cells #[.int .i64 (p 0), .int .i64 (q 0), .int .i64 u, .int .i64 v] 24) = W at *
  generalize w1.heap.size = L at *
  generalize w.heap.size + 1 = R at *
  go_loopw [6] (fun i x => ∃ k : Nat, k ≤ K ∧ i = .int .i64 k ∧ Stands4 L R w.heap.size w (p k) (q k) u v x) (fun i _ => K - (intOf i).toNat)
  case atStart => exact ⟨0, Nat.zero_le _, rfl, hS⟩
  case round =>
    obtain ⟨k, hk, rfl, hT⟩ := hrel
    obtain ⟨l0, l1, l2, l3, r0, r1, r2, r3, fl, fr, zl, zr, ne, nl, nr, nw, be⟩ := id hT
    clear hS
    by_cases hlt : k < K
    · have h1 : (k : Int) < m := by have := HK.out; omega
      have h2 : (k : Int) < 1000 := by have := HK.out; omega
      go_wp2_with fail
      refine (hn k _).mono ?_
      rintro e w2 ⟨rfl, hb2⟩
      have hT2 := hT.on hb2
      obtain ⟨m0, m1, m2, m3, s0, s1, s2, s3, gl, gr, yl, yr, ne2, nl2, nr2, nw2, be2⟩ := id hT2
      clear hb2 hT l0 l1 l2 l3 r0 r1 r2 r3 fl fr zl zr be
      go_wp2
      go_roundw
      case rel => exact ⟨k + 1, by omega, by go_num, (hT2.put _ _ _ _).on ((Below.refl _ _).alloc (Nat.le_refl _) _)⟩
      case measure => simp [intOf]; omega
    · have hx : k = K := by omega
      subst hx
      by_cases h1 : (k : Int) < m
      all_goals
        first
          | have h2 : ¬ (k : Int) < 1000 := by have := HK.out; omega
          | skip
        go_wp2
        refine bodyPost_ret (v := .agg #[.int .i64 (p k), .int .i64 (q k), .int .i64 u, .int .i64 v]) (by simp [results, Try.results17, go_sem, r0, r1, r2, r3]) rfl ⟨rfl, ?_⟩
        exact set4 be nr

theorem rskip_any (a b c d m : Int) (w : World) :
    Calls Try.prog 17 #[.agg #[.int .i64 a, .int .i64 b, .int .i64 c, .int .i64 d], .int .i64 m] w fun e w' =>
      e = .returned (.agg #[.int .i64 (Rng.row (a % 65521) (b % 65521) (c % 65521) (d % 65521) (min m 1000).toNat).1, .int .i64 (Rng.row (a % 65521) (b % 65521) (c % 65521) (d % 65521) (min m 1000).toNat).2,
        .int .i64 (c % 65521), .int .i64 (d % 65521)]) ∧ Below w.heap.size w w' := by
  have hr := Rng.row_in (a % 65521) (b % 65521) (c % 65521) (d % 65521) (Rng.md_in a) (Rng.md_in b)
  refine rskip_over (p := fun k => (Rng.row (a % 65521) (b % 65521) (c % 65521) (d % 65521) k).1) (q := fun k => (Rng.row (a % 65521) (b % 65521) (c % 65521) (d % 65521) k).2)
    (g := fun k => (Rng.row (a % 65521) (b % 65521) (c % 65521) (d % 65521) (k + 1)).1 + 65536 * (Rng.row (a % 65521) (b % 65521) (c % 65521) (d % 65521) (k + 1)).2)
    rfl (fun w => least_any a b c d w) (fun k w => ?_) w
  have := rnext_any (Rng.row (a % 65521) (b % 65521) (c % 65521) (d % 65521) k).1 (Rng.row (a % 65521) (b % 65521) (c % 65521) (d % 65521) k).2 (c % 65521) (d % 65521) w
  rw [Int.emod_emod, Int.emod_emod, Rng.md_id _ (hr k).1, Rng.md_id _ (hr k).2] at this
  exact this

end Go.Proofs.Ytlnobnkgllemjaa
