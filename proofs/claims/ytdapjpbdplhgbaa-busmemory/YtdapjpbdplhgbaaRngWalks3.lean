/- Contracts of the program's four calls over whatever its inner functions answer. -/
import Derived.Test.YtdapjpbdplhgbaaRngWalks2
namespace Go.Proofs.Ytdapjpbdplhgbaa.Rng
open Go.RowKit
set_option linter.unusedVariables false
set_option maxRecDepth 100000

theorem bcell {W w1 : World} (hb : Below W.heap.size W w1) : (∀ b o, b < W.heap.size → w1.cell? ⟨b, o, none⟩ = W.cell? ⟨b, o, none⟩) ∧ (∀ b o, b < W.heap.size → w1.frozen? ⟨b, o, none⟩ = W.frozen? ⟨b, o, none⟩) :=
  ⟨fun b o h => hb.cell (p := ⟨b, o, none⟩) h, fun b o h => hb.frozen (p := ⟨b, o, none⟩) h⟩

theorem set4 {n b : Nat} {w W : World} {v0 v1 v2 v3 : Value} (h : Below n w W) (hb : n ≤ b) : Below n w ((((W.setCell ⟨b, 0, none⟩ v0).setCell ⟨b, 1, none⟩ v1).setCell ⟨b, 2, none⟩ v2).setCell ⟨b, 3, none⟩ v3) :=
  (((h.setCell hb _).setCell hb _).setCell hb _).setCell hb _

set_option maxHeartbeats 2000000 in
theorem seed_raw {A B C D : Nat} {n x y u v : Int} (hh : ∀ w, Calls Try.prog 49 #[.int .u32 n] w fun e w' => e = .returned (.complex .f64 A B) ∧ w' = w)
    (hn : ∀ w, Calls Try.prog 50 #[.int .i64 12345, .int .i64 6789] w fun e w' => e = .returned (.complex .f64 C D) ∧ w' = w)
    (ht : ∀ w, Calls Try.prog 51 #[.agg #[.complex .f64 A B, .complex .f64 C D]] w fun e w' => e = .returned (.agg #[.int .i64 x, .int .i64 y, .int .i64 u, .int .i64 v]) ∧ Below w.heap.size w w') (w : World) :
    Calls Try.prog 24 #[.int .u32 n] w fun e w' => e = .returned (.agg #[.int .i64 x, .int .i64 y, .int .i64 u, .int .i64 v]) ∧ Below w.heap.size w w' := by
  go_enter Try.func24, Try.ntmps24
  go_wp2_with fail
  refine (hh _).mono ?_
  rintro e w' ⟨rfl, rfl⟩
  go_wp2_with fail
  refine (hn _).mono ?_
  rintro e w' ⟨rfl, rfl⟩
  go_wp2_with fail
  refine (ht _).mono ?_
  rintro e w1 ⟨rfl, hb⟩
  obtain ⟨hc, hf⟩ := bcell hb
  go_wp2
  refine bodyPost_ret (v := .agg #[.int .i64 x, .int .i64 y, .int .i64 u, .int .i64 v]) (by simp [results, Try.results24, go_sem, hc]) rfl ⟨rfl, ?_⟩
  exact set4 (((Below.refl _ w).alloc (Nat.le_refl _) _).trans (hb.mono (by simp))) (Nat.le_refl _)

set_option maxHeartbeats 2000000 in
theorem stir_raw {A B C D E F : Nat} {n a b c d x y u v : Int}
    (hp : ∀ w, Calls Try.prog 87 #[.agg #[.int .i64 a, .int .i64 b, .int .i64 c, .int .i64 d]] w fun e w' => e = .returned (.agg #[.complex .f64 A B, .complex .f64 C D]) ∧ Below w.heap.size w w')
    (hs : ∀ w, Calls Try.prog 88 #[.agg #[.complex .f64 A B, .complex .f64 C D], .int .u32 n] w fun e w' => e = .returned (.agg #[.complex .f64 E F, .complex .f64 C D]) ∧ Below w.heap.size w w')
    (ht : ∀ w, Calls Try.prog 51 #[.agg #[.complex .f64 E F, .complex .f64 C D]] w fun e w' => e = .returned (.agg #[.int .i64 x, .int .i64 y, .int .i64 u, .int .i64 v]) ∧ Below w.heap.size w w') (w : World) :
    Calls Try.prog 69 #[.agg #[.int .i64 a, .int .i64 b, .int .i64 c, .int .i64 d], .int .u32 n] w fun e w' => e = .returned (.agg #[.int .i64 x, .int .i64 y, .int .i64 u, .int .i64 v]) ∧ Below w.heap.size w w' := by
  go_enter Try.func69, Try.ntmps69
  go_wp2_with fail
  refine (hp _).mono ?_
  rintro e w1 ⟨rfl, hb1⟩
  obtain ⟨hc1, hf1⟩ := bcell hb1
  have z1 : w.heap.size + 1 < w1.heap.size := by have := hb1.size; simp at this; omega
  go_wp2_with fail
  refine (hs _).mono ?_
  rintro e w2 ⟨rfl, hb2⟩
  obtain ⟨hc2, hf2⟩ := bcell hb2
  have z2 : w.heap.size + 1 < w2.heap.size := by have := hb2.size; omega
  go_wp2_with fail
  refine (ht _).mono ?_
  rintro e w3 ⟨rfl, hb3⟩
  obtain ⟨hc3, hf3⟩ := bcell hb3
  go_wp2
  refine bodyPost_ret (v := .agg #[.int .i64 x, .int .i64 y, .int .i64 u, .int .i64 v]) (by simp [results, Try.results69, go_sem, hc1, hc2, hc3, z1, z2]) rfl ⟨rfl, ?_⟩
  exact set4 ((((((Below.refl _ w).alloc (Nat.le_refl _) _).alloc (by simp) _).trans (hb1.mono (by simp; omega))).trans (hb2.mono (by omega))).trans (hb3.mono (by omega))) (by omega)

/-- A row of a place's two numbers in block L stands behind a call; nothing old has turned. -/
theorem held_on {L R n : Nat} {w x y : World} {c d : Value}
    (h : x.cell? ⟨L, 0, none⟩ = some c ∧ x.cell? ⟨L, 1, none⟩ = some d ∧ (∀ o, x.frozen? ⟨R, o, none⟩ = false) ∧ L < x.heap.size ∧ R < x.heap.size ∧ Below n w x) (hn : n ≤ w.heap.size) (hb : Below x.heap.size x y) :
    y.cell? ⟨L, 0, none⟩ = some c ∧ y.cell? ⟨L, 1, none⟩ = some d ∧ (∀ o, y.frozen? ⟨R, o, none⟩ = false) ∧ L < y.heap.size ∧ R < y.heap.size ∧ Below n w y := by
  obtain ⟨h0, h1, h2, h3, h4, h5⟩ := h
  obtain ⟨hc, hf⟩ := bcell hb
  have hz := hb.size
  have hz2 := h5.size
  exact ⟨by rw [hc _ _ h3, h0], by rw [hc _ _ h3, h1], fun o => by rw [hf _ _ h4, h2], by omega, by omega, h5.trans (hb.mono (by omega))⟩

theorem held_set {L R n : Nat} {w x : World} {c d v0 v1 v2 v3 : Value}
    (h : x.cell? ⟨L, 0, none⟩ = some c ∧ x.cell? ⟨L, 1, none⟩ = some d ∧ (∀ o, x.frozen? ⟨R, o, none⟩ = false) ∧ L < x.heap.size ∧ R < x.heap.size ∧ Below n w x) (hR : n ≤ R) (hd : R ≠ L) :
    let y := (((x.setCell ⟨R, 0, none⟩ v0).setCell ⟨R, 1, none⟩ v1).setCell ⟨R, 2, none⟩ v2).setCell ⟨R, 3, none⟩ v3
    y.cell? ⟨L, 0, none⟩ = some c ∧ y.cell? ⟨L, 1, none⟩ = some d ∧ (∀ o, y.frozen? ⟨R, o, none⟩ = false) ∧ L < y.heap.size ∧ R < y.heap.size ∧ Below n w y := by
  obtain ⟨h0, h1, h2, h3, h4, h5⟩ := h
  refine ⟨?_, ?_, ?_, ?_, ?_, set4 h5 hR⟩
  · simp [World.cell?_setCell_far, hd, h0]
  · simp [World.cell?_setCell_far, hd, h1]
  · intro o; simp [h2]
  · simpa using h3
  · simpa using h4

theorem held_below {L R n : Nat} {w x : World} {c d : Value}
    (h : x.cell? ⟨L, 0, none⟩ = some c ∧ x.cell? ⟨L, 1, none⟩ = some d ∧ (∀ o, x.frozen? ⟨R, o, none⟩ = false) ∧ L < x.heap.size ∧ R < x.heap.size ∧ Below n w x) : Below n w x := h.2.2.2.2.2

theorem zeros_on {L R n : Nat} {w x y : World} {c d : Value} {v : Value} (h : x.cell? ⟨R, 0, none⟩ = some v ∧ x.cell? ⟨R, 1, none⟩ = some v ∧ x.cell? ⟨R, 2, none⟩ = some v ∧ x.cell? ⟨R, 3, none⟩ = some v)
    (hS : x.cell? ⟨L, 0, none⟩ = some c ∧ x.cell? ⟨L, 1, none⟩ = some d ∧ (∀ o, x.frozen? ⟨R, o, none⟩ = false) ∧ L < x.heap.size ∧ R < x.heap.size ∧ Below n w x) (hb : Below x.heap.size x y) :
    y.cell? ⟨R, 0, none⟩ = some v ∧ y.cell? ⟨R, 1, none⟩ = some v ∧ y.cell? ⟨R, 2, none⟩ = some v ∧ y.cell? ⟨R, 3, none⟩ = some v := by
  obtain ⟨hc, hf⟩ := bcell hb
  have z := hS.2.2.2.2.1
  exact ⟨by rw [hc _ _ z, h.1], by rw [hc _ _ z, h.2.1], by rw [hc _ _ z, h.2.2.1], by rw [hc _ _ z, h.2.2.2]⟩

set_option maxHeartbeats 4000000 in
theorem next_over {A B C D E F : Nat} {g a b c d x y u v : Int}
    (hp : ∀ w, Calls Try.prog 87 #[.agg #[.int .i64 a, .int .i64 b, .int .i64 c, .int .i64 d]] w fun e w' => e = .returned (.agg #[.complex .f64 A B, .complex .f64 C D]) ∧ Below w.heap.size w w')
    (hn : ∀ w, Calls Try.prog 100 #[.agg #[.complex .f64 A B, .complex .f64 C D]] w fun e w' => e = .returned (.agg #[.complex .f64 E F, .complex .f64 C D]) ∧ Below w.heap.size w w')
    (hg : ∀ w, Calls Try.prog 101 #[.agg #[.complex .f64 E F, .complex .f64 C D]] w fun e w' => e = .returned (.int .u32 g) ∧ Below w.heap.size w w')
    (ht : ∀ w, Calls Try.prog 51 #[.agg #[.complex .f64 E F, .complex .f64 C D]] w fun e w' => e = .returned (.agg #[.int .i64 x, .int .i64 y, .int .i64 u, .int .i64 v]) ∧ Below w.heap.size w w') (w : World) :
    Calls Try.prog 96 #[.agg #[.int .i64 a, .int .i64 b, .int .i64 c, .int .i64 d]] w fun e w' => e = .returned (.tuple #[.int .u32 g, .agg #[.int .i64 x, .int .i64 y, .int .i64 u, .int .i64 v]]) ∧ Below w.heap.size w w' := by
  have hst := store_complex
  go_enter Try.func96, Try.ntmps96
  go_wp2_with fail
  refine (hp _).mono ?_
  rintro e w1 ⟨rfl, hb1⟩
  obtain ⟨hc1, hf1⟩ := bcell hb1
  have z1 : w.heap.size + 1 < w1.heap.size := by have := hb1.size; simp at this; omega
  go_wp2_with fail
  refine (hn _).mono ?_
  rintro e w2 ⟨rfl, hb2⟩
  obtain ⟨hc2, hf2⟩ := bcell hb2
  have z2 : w.heap.size + 1 < w2.heap.size := by have := hb2.size; omega
  go_wp2_with fail
  generalize hW : w2.alloc (.cells #[.complex .f64 E F, .complex .f64 C D] 107) = W
  have hb : Below w.heap.size w W := hW ▸ (((((Below.refl _ w).alloc (Nat.le_refl _) _).alloc (by simp) _).trans (hb1.mono (by simp; omega))).trans (hb2.mono (by omega))).alloc (by omega) _
  have zB : w2.heap.size < W.heap.size := by rw [← hW]; simp
  have zR : w.heap.size + 1 < W.heap.size := by omega
  have k0 : W.cell? ⟨w2.heap.size, 0, none⟩ = some (.complex .f64 E F) := by rw [← hW]; simp [go_sem]
  have k1 : W.cell? ⟨w2.heap.size, 1, none⟩ = some (.complex .f64 C D) := by rw [← hW]; simp [go_sem]
  have r0 : W.cell? ⟨w.heap.size + 1, 0, none⟩ = some (.int .i64 0) := by rw [← hW]; simp [go_sem, hc1, hc2, z1, z2]
  have r1 : W.cell? ⟨w.heap.size + 1, 1, none⟩ = some (.int .i64 0) := by rw [← hW]; simp [go_sem, hc1, hc2, z1, z2]
  have r2 : W.cell? ⟨w.heap.size + 1, 2, none⟩ = some (.int .i64 0) := by rw [← hW]; simp [go_sem, hc1, hc2, z1, z2]
  have r3 : W.cell? ⟨w.heap.size + 1, 3, none⟩ = some (.int .i64 0) := by rw [← hW]; simp [go_sem, hc1, hc2, z1, z2]
  have f0 : ∀ o, W.frozen? ⟨w.heap.size + 1, o, none⟩ = false := by intro o; rw [← hW]; simp [go_sem, hf1, hf2, z1, z2]
  have hR : w.heap.size ≤ w.heap.size + 1 := by omega
  have hd : w.heap.size + 1 ≠ w2.heap.size := by omega
  clear hp hn hc1 hc2 hf1 hf2 hW hb1 hb2 z1
  generalize w2.heap.size = L at *
  generalize w.heap.size + 1 = R at *
  clear z2
  have hd' : L ≠ R := fun h => hd h.symm
  go_region_held3 (fun x => x.cell? ⟨L, 0, none⟩ = some (.complex .f64 E F) ∧ x.cell? ⟨L, 1, none⟩ = some (.complex .f64 C D) ∧ (∀ o, x.frozen? ⟨R, o, none⟩ = false) ∧ L < x.heap.size ∧ R < x.heap.size ∧ Below w.heap.size w x)
    (first
      | exact ⟨k0, k1, f0, zB, zR, hb.drew⟩
      | assumption
      | exact held_set (by assumption) hR hd)
    (first
      | (go_at_call 101; refine (hg _).mono ?_; rintro e w' ⟨rfl, hn⟩; have hZ := zeros_on (by first | exact ⟨r0, r1, r2, r3⟩ | assumption) (by assumption) hn; have hS := held_on (by assumption) (Nat.le_refl _) hn; clear hn)
      | (go_at_call 51; refine (ht _).mono ?_; rintro e w' ⟨rfl, hn⟩; have hZ := zeros_on (by first | exact ⟨r0, r1, r2, r3⟩ | assumption) (by assumption) hn; have hS := held_on (by assumption) (Nat.le_refl _) hn; clear hn))
  all_goals
    go_wp2
    refine bodyPost_ret (v := .tuple #[.int .u32 g, .agg #[.int .i64 x, .int .i64 y, .int .i64 u, .int .i64 v]]) (by simp [results, Try.results96, go_sem, hZ]) rfl ⟨rfl, ?_⟩
    exact held_below (L := L) (R := R) (c := .complex .f64 E F) (d := .complex .f64 C D) (by assumption)

end Go.Proofs.Ytdapjpbdplhgbaa.Rng
