/- Contracts of the program's walk along a row over whatever its inner functions answer. -/
import Derived.Test.YtlnobnkgllemjaaRngWalks3
namespace Go.Proofs.Ytlnobnkgllemjaa
open Go.RowKit
set_option linter.unusedVariables false

/-- In block L lies a place of two numbers, block R is four zeros, and nothing below n has turned since w. -/
structure Stands (L R n : Nat) (w : World) (c d : Value) (x : World) : Prop where
  l0 : x.cell? ⟨L, 0, none⟩ = some c
  l1 : x.cell? ⟨L, 1, none⟩ = some d
  r0 : x.cell? ⟨R, 0, none⟩ = some (.int .i64 0)
  r1 : x.cell? ⟨R, 1, none⟩ = some (.int .i64 0)
  r2 : x.cell? ⟨R, 2, none⟩ = some (.int .i64 0)
  r3 : x.cell? ⟨R, 3, none⟩ = some (.int .i64 0)
  fl : ∀ o, x.frozen? ⟨L, o, none⟩ = false
  fr : ∀ o, x.frozen? ⟨R, o, none⟩ = false
  zl : L < x.heap.size
  zr : R < x.heap.size
  ne : R ≠ L
  nl : n ≤ L
  nr : n ≤ R
  nw : n ≤ w.heap.size
  be : Below n w x

theorem Stands.on {L R n : Nat} {w x y : World} {c d : Value} (h : Stands L R n w c d x) (hb : Below x.heap.size x y) : Stands L R n w c d y := by
  obtain ⟨hc, hf⟩ := bcell hb
  have hz := hb.size
  have hz2 := h.be.size
  have hz3 := h.nw
  have zl := h.zl
  have zr := h.zr
  exact ⟨by rw [hc _ _ zl, h.l0], by rw [hc _ _ zl, h.l1], by rw [hc _ _ zr, h.r0], by rw [hc _ _ zr, h.r1], by rw [hc _ _ zr, h.r2], by rw [hc _ _ zr, h.r3],
    fun o => by rw [hf _ _ zl, h.fl], fun o => by rw [hf _ _ zr, h.fr], by omega, by omega, h.ne, h.nl, h.nr, h.nw, h.be.trans (hb.mono (by omega))⟩

theorem Stands.put {L R n : Nat} {w x : World} {c d : Value} (h : Stands L R n w c d x) (c' d' : Value) : Stands L R n w c' d' ((x.setCell ⟨L, 0, none⟩ c').setCell ⟨L, 1, none⟩ d') := by
  have hn : L ≠ R := fun e => h.ne e.symm
  refine ⟨?_, ?_, ?_, ?_, ?_, ?_, ?_, ?_, ?_, ?_, h.ne, h.nl, h.nr, h.nw, (h.be.setCell h.nl _).setCell h.nl _⟩
  · simp [go_sem, h.l0]
  · simp [go_sem, h.l1]
  · simp [World.cell?_setCell_far, hn, h.r0]
  · simp [World.cell?_setCell_far, hn, h.r1]
  · simp [World.cell?_setCell_far, hn, h.r2]
  · simp [World.cell?_setCell_far, hn, h.r3]
  · intro o; simp [h.fl]
  · intro o; simp [h.fr]
  · simpa using h.zl
  · simpa using h.zr

set_option maxHeartbeats 4000000 in
theorem skip_over {C D : Nat} {P Q : Nat → Nat} {p q : Nat → Int} {m a b c d u v : Int} {K : Nat} (hK : K = (min m 1000).toNat)
    (hp : ∀ w, Calls Try.prog 23 #[.agg #[.int .i64 a, .int .i64 b, .int .i64 c, .int .i64 d]] w fun e w' => e = .returned (.agg #[.complex .f64 (P 0) (Q 0), .complex .f64 C D]) ∧ Below w.heap.size w w')
    (hn : ∀ k w, Calls Try.prog 24 #[.agg #[.complex .f64 (P k) (Q k), .complex .f64 C D]] w fun e w' => e = .returned (.agg #[.complex .f64 (P (k + 1)) (Q (k + 1)), .complex .f64 C D]) ∧ Below w.heap.size w w')
    (ht : ∀ k w, Calls Try.prog 21 #[.agg #[.complex .f64 (P k) (Q k), .complex .f64 C D]] w fun e w' => e = .returned (.agg #[.int .i64 (p k), .int .i64 (q k), .int .i64 u, .int .i64 v]) ∧ Below w.heap.size w w') (w : World) :
    Calls Try.prog 16 #[.agg #[.int .i64 a, .int .i64 b, .int .i64 c, .int .i64 d], .int .i64 m] w fun e w' => e = .returned (.agg #[.int .i64 (p K), .int .i64 (q K), .int .i64 u, .int .i64 v]) ∧ Below w.heap.size w w' := by
  have HK := hide hK
  clear hK
  by_cases hm : m ≤ 1000
  all_goals
    have hst := store_complex
    go_enter Try.func16, Try.ntmps16
    go_wp2_with fail
    refine (hp _).mono ?_
    rintro e w1 ⟨rfl, hb1⟩
    obtain ⟨hc1, hf1⟩ := bcell hb1
    have z1 : w.heap.size + 1 < w1.heap.size := by have := hb1.size; simp at this; omega
    go_wp2_with fail
    have hS : Stands w1.heap.size (w.heap.size + 1) w.heap.size w (.complex .f64 (P 0) (Q 0)) (.complex .f64 C D) (w1.alloc (.cells #[.complex .f64 (P 0) (Q 0), .complex .f64 C D] 42)) := by
      refine ⟨?_, ?_, ?_, ?_, ?_, ?_, ?_, ?_, ?_, ?_, ?_, ?_, ?_, ?_, ?_⟩
      · simp [go_sem]
      · simp [go_sem]
      · simp [go_sem, hc1, z1]
      · simp [go_sem, hc1, z1]
      · simp [go_sem, hc1, z1]
      · simp [go_sem, hc1, z1]
      · intro o; simp [go_sem]
      · intro o; simp [go_sem, hf1, z1]
      · simp
      · simp; omega
      · omega
      · omega
      · omega
      · omega
      · exact ((((Below.refl _ w).alloc (Nat.le_refl _) _).alloc (by simp) _).trans (hb1.mono (by simp; omega))).alloc (by omega) _
    clear hp hc1 hf1 hb1 z1
    generalize w1.alloc (.cells #[.complex .f64 (P 0) (Q 0), .complex .f64 C D] 42) = W at *
    generalize w1.heap.size = L at *
    generalize w.heap.size + 1 = R at *
    go_loopw [10] (fun i x => ∃ k : Nat, k ≤ K ∧ i = .int .i64 k ∧ Stands L R w.heap.size w (.complex .f64 (P k) (Q k)) (.complex .f64 C D) x) (fun i _ => K - (intOf i).toNat)
    case atStart => exact ⟨0, Nat.zero_le _, rfl, hS⟩
    case round =>
      obtain ⟨k, hk, rfl, hT⟩ := hrel
      obtain ⟨l0, l1, r0, r1, r2, r3, fl, fr, zl, zr, ne, nl, nr, nw, be⟩ := id hT
      by_cases hlt : k < K
      · have h1 : (k : Int) < m := by have := HK.out; omega
        have h2 : (k : Int) < 1000 := by have := HK.out; omega
        clear hS
        go_wp2_with fail
        refine (hn k _).mono ?_
        rintro e w2 ⟨rfl, hb2⟩
        have hT2 := hT.on hb2
        obtain ⟨m0, m1, s0, s1, s2, s3, gl, gr, yl, yr, ne2, nl2, nr2, nw2, be2⟩ := id hT2
        clear hb2
        go_wp2
        go_roundw
        case rel => exact ⟨k + 1, by omega, by go_num, hT2.put _ _⟩
        case measure => simp [intOf]; omega
      · have hx : k = K := by omega
        subst hx
        first
          | have h1 : ¬ (k : Int) < m := by have := HK.out; omega
          | have h1 : ¬ (k : Int) < 1000 := by have := HK.out; omega
        clear hS
        go_wp2_with fail
        refine (ht k _).mono ?_
        rintro e w2 ⟨rfl, hb2⟩
        have hT2 := hT.on hb2
        obtain ⟨m0, m1, s0, s1, s2, s3, gl, gr, yl, yr, ne2, nl2, nr2, nw2, be2⟩ := id hT2
        clear hb2
        go_wp2
        refine bodyPost_ret (v := .agg #[.int .i64 (p k), .int .i64 (q k), .int .i64 u, .int .i64 v]) (by simp [results, Try.results16, go_sem, s0, s1, s2, s3]) rfl ⟨rfl, ?_⟩
        exact set4 be2 nr2

end Go.Proofs.Ytlnobnkgllemjaa
