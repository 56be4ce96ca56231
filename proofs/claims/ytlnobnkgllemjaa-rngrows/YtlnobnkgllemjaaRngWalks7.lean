/- Contracts of the document's four calls of layer 3. -/
import Derived.Test.YtlnobnkgllemjaaRngWalks6
namespace Go.Proofs.Ytlnobnkgllemjaa
open Go.RowKit
set_option linter.unusedVariables false

theorem rseed_over {n x y : Int} (h1 : 0 ≤ n) (h2 : n ≤ 4294967295)
    (hl : ∀ w, Calls Try.prog 22 #[.agg #[.int .i64 (n % 65536), .int .i64 (n / 65536), .int .i64 12345, .int .i64 6789]] w fun e w' => e = .returned (.agg #[.int .i64 x, .int .i64 y, .int .i64 12345, .int .i64 6789]) ∧ Below w.heap.size w w') (w : World) :
    Calls Try.prog 10 #[.int .u32 n] w fun e w' =>
      e = .returned (.agg #[.int .i64 x, .int .i64 y, .int .i64 12345, .int .i64 6789]) ∧ Below w.heap.size w w' := by
  go_enter Try.func10, Try.ntmps10
  go_wp2_with fail
  refine (hl _).mono ?_
  rintro e w1 ⟨rfl, hb⟩
  obtain ⟨hc, hf⟩ := bcell hb
  go_wp2
  refine bodyPost_ret (v := .agg #[.int .i64 x, .int .i64 y, .int .i64 12345, .int .i64 6789]) (by simp [results, Try.results10, go_sem, hc]) rfl ⟨rfl, ?_⟩
  exact set4 (((Below.refl _ w).alloc (Nat.le_refl _) _).trans (hb.mono (by simp))) (Nat.le_refl _)

theorem rseed_any (n : Int) (hn : 0 ≤ n ∧ n ≤ 4294967295) (w : World) :
    Calls Try.prog 10 #[.int .u32 n] w fun e w' =>
      e = .returned (.agg #[.int .i64 (n % 65536 % 65521), .int .i64 (n / 65536 % 65521), .int .i64 12345, .int .i64 6789]) ∧ Below w.heap.size w w' :=
  rseed_over hn.1 hn.2 (fun w => least_any (n % 65536) (n / 65536) 12345 6789 w) w

set_option maxHeartbeats 4000000 in
theorem rnext_over {a b c d x y u v X Y U V : Int}
    (hl : ∀ w, Calls Try.prog 22 #[.agg #[.int .i64 a, .int .i64 b, .int .i64 c, .int .i64 d]] w fun e w' => e = .returned (.agg #[.int .i64 x, .int .i64 y, .int .i64 u, .int .i64 v]) ∧ Below w.heap.size w w')
    (hk : ∀ w, Calls Try.prog 22 #[.agg #[.int .i64 (x * x - y * y + u), .int .i64 (2 * x * y + v), .int .i64 u, .int .i64 v]] w fun e w' => e = .returned (.agg #[.int .i64 X, .int .i64 Y, .int .i64 U, .int .i64 V]) ∧ Below w.heap.size w w')
    (x1 : 0 ≤ x) (x2 : x ≤ 65520) (y1 : 0 ≤ y) (y2 : y ≤ 65520) (u1 : 0 ≤ u) (u2 : u ≤ 65520) (v1 : 0 ≤ v) (v2 : v ≤ 65520)
    (X1 : 0 ≤ X) (X2 : X ≤ 65520) (Y1 : 0 ≤ Y) (Y2 : Y ≤ 65520) (w : World) :
    Calls Try.prog 12 #[.agg #[.int .i64 a, .int .i64 b, .int .i64 c, .int .i64 d]] w fun e w' =>
      e = .returned (.tuple #[.int .u32 (X + 65536 * Y), .agg #[.int .i64 X, .int .i64 Y, .int .i64 U, .int .i64 V]]) ∧ Below w.heap.size w w' := by
  have p1 := Rng.sq_in x x ⟨x1, x2⟩ ⟨x1, x2⟩
  have p2 := Rng.sq_in y y ⟨y1, y2⟩ ⟨y1, y2⟩
  have p3 : 0 ≤ 2 * x * y ∧ 2 * x * y ≤ 8585740800 := by
    have := Rng.sq_in x y ⟨x1, x2⟩ ⟨y1, y2⟩
    rw [Int.mul_assoc]; omega
  obtain ⟨p1a, p1b⟩ := p1
  obtain ⟨p2a, p2b⟩ := p2
  obtain ⟨p3a, p3b⟩ := p3
  go_enter Try.func12, Try.ntmps12
  go_wp2_with fail
  refine (hl _).mono ?_
  rintro e w1 ⟨rfl, hb1⟩
  obtain ⟨hc1, hf1⟩ := bcell hb1
  have z1 : w.heap.size + 1 < w1.heap.size := by have := hb1.size; simp at this; omega
  go_wp2_with fail
  refine (hk _).mono ?_
  rintro e w2 ⟨rfl, hb2⟩
  obtain ⟨hc2, hf2⟩ := bcell hb2
  have z2 : w1.heap.size < w2.heap.size := by have := hb2.size; simp at this; omega
  go_wp2_with fail
  generalize hW : w2.alloc (.cells #[.int .i64 X, .int .i64 Y, .int .i64 U, .int .i64 V] 24) = W
  have hb : Below w.heap.size w W := hW ▸ (((((((Below.refl _ w).alloc (Nat.le_refl _) _).alloc (by simp) _).trans (hb1.mono (by simp; omega))).alloc (by omega) _).trans (hb2.mono (by simp; omega))).alloc (by omega) _)
  have zB : w2.heap.size < W.heap.size := by rw [← hW]; simp
  have zR : w.heap.size + 1 < W.heap.size := by omega
  have k0 : W.cell? ⟨w2.heap.size, 0, none⟩ = some (.int .i64 X) := by rw [← hW]; simp [go_sem]
  have k1 : W.cell? ⟨w2.heap.size, 1, none⟩ = some (.int .i64 Y) := by rw [← hW]; simp [go_sem]
  have k2 : W.cell? ⟨w2.heap.size, 2, none⟩ = some (.int .i64 U) := by rw [← hW]; simp [go_sem]
  have k3 : W.cell? ⟨w2.heap.size, 3, none⟩ = some (.int .i64 V) := by rw [← hW]; simp [go_sem]
  have za : w.heap.size + 1 < w1.heap.size + 1 := by omega
  have zb : w.heap.size + 1 < w2.heap.size := by omega
  have r0 : W.cell? ⟨w.heap.size + 1, 0, none⟩ = some (.int .i64 0) := by rw [← hW]; simp [go_sem, hc1, hc2, z1, za, zb]
  have r1 : W.cell? ⟨w.heap.size + 1, 1, none⟩ = some (.int .i64 0) := by rw [← hW]; simp [go_sem, hc1, hc2, z1, za, zb]
  have r2 : W.cell? ⟨w.heap.size + 1, 2, none⟩ = some (.int .i64 0) := by rw [← hW]; simp [go_sem, hc1, hc2, z1, za, zb]
  have r3 : W.cell? ⟨w.heap.size + 1, 3, none⟩ = some (.int .i64 0) := by rw [← hW]; simp [go_sem, hc1, hc2, z1, za, zb]
  have f0 : ∀ o, W.frozen? ⟨w.heap.size + 1, o, none⟩ = false := by intro o; rw [← hW]; simp [go_sem, hf1, hf2, z1, za, zb]
  have hR : w.heap.size ≤ w.heap.size + 1 := by omega
  have hd : w.heap.size + 1 ≠ w2.heap.size := by omega
  clear hl hk hc1 hc2 hf1 hf2 hW hb1 hb2 z1 za zb z2 p1a p1b p2a p2b p3a p3b
  generalize w2.heap.size = L at *
  generalize w.heap.size + 1 = R at *
  go_region
  have hm : (X + 65536 * Y) % 4294967296 = X + 65536 * Y := by omega
  all_goals
    go_wp2
    refine bodyPost_ret (v := .tuple #[.int .u32 (X + 65536 * Y), .agg #[.int .i64 X, .int .i64 Y, .int .i64 U, .int .i64 V]]) (by simp [results, Try.results12, go_sem, r0, r1, r2, r3, hm]) rfl ⟨rfl, ?_⟩
    first | exact (set4 hb hR).drew | exact set4 hb.drew hR

theorem rnext_any (a b c d : Int) (w : World) :
    Calls Try.prog 12 #[.agg #[.int .i64 a, .int .i64 b, .int .i64 c, .int .i64 d]] w fun e w' =>
      e = .returned (.tuple #[.int .u32 (Rng.nre (a % 65521) (b % 65521) (c % 65521) + 65536 * Rng.nim (a % 65521) (b % 65521) (d % 65521)),
        .agg #[.int .i64 (Rng.nre (a % 65521) (b % 65521) (c % 65521)), .int .i64 (Rng.nim (a % 65521) (b % 65521) (d % 65521)), .int .i64 (c % 65521), .int .i64 (d % 65521)]]) ∧ Below w.heap.size w w' := by
  have h1 := Rng.nre_in (a % 65521) (b % 65521) (c % 65521)
  have h2 := Rng.nim_in (a % 65521) (b % 65521) (d % 65521)
  have ha := Rng.md_in a
  have hb := Rng.md_in b
  have h3 := Rng.md_in c
  have h4 := Rng.md_in d
  refine rnext_over (fun w => least_any a b c d w) (fun w => ?_) ha.1 ha.2 hb.1 hb.2 h3.1 h3.2 h4.1 h4.2 h1.1 h1.2 h2.1 h2.2 w
  have := least_any (a % 65521 * (a % 65521) - b % 65521 * (b % 65521) + c % 65521) (2 * (a % 65521) * (b % 65521) + d % 65521) (c % 65521) (d % 65521) w
  rw [Int.emod_emod, Int.emod_emod] at this
  unfold Rng.nre Rng.nim
  rw [← Int.mul_assoc]
  exact this

set_option maxHeartbeats 4000000 in
theorem rstir_over {a b c d n x y u v X Y U V : Int}
    (hl : ∀ w, Calls Try.prog 22 #[.agg #[.int .i64 a, .int .i64 b, .int .i64 c, .int .i64 d]] w fun e w' => e = .returned (.agg #[.int .i64 x, .int .i64 y, .int .i64 u, .int .i64 v]) ∧ Below w.heap.size w w')
    (hk : ∀ w, Calls Try.prog 22 #[.agg #[.int .i64 (x + n % 65536), .int .i64 (y + n / 65536), .int .i64 u, .int .i64 v]] w fun e w' => e = .returned (.agg #[.int .i64 X, .int .i64 Y, .int .i64 U, .int .i64 V]) ∧ Below w.heap.size w w')
    (x1 : 0 ≤ x) (x2 : x ≤ 65520) (y1 : 0 ≤ y) (y2 : y ≤ 65520) (n1 : 0 ≤ n) (n2 : n ≤ 4294967295) (w : World) :
    Calls Try.prog 15 #[.agg #[.int .i64 a, .int .i64 b, .int .i64 c, .int .i64 d], .int .u32 n] w fun e w' =>
      e = .returned (.agg #[.int .i64 X, .int .i64 Y, .int .i64 U, .int .i64 V]) ∧ Below w.heap.size w w' := by
  go_enter Try.func15, Try.ntmps15
  go_wp2_with fail
  refine (hl _).mono ?_
  rintro e w1 ⟨rfl, hb1⟩
  obtain ⟨hc1, hf1⟩ := bcell hb1
  have z1 : w.heap.size + 1 < w1.heap.size := by have := hb1.size; simp at this; omega
  go_wp2_with fail
  refine (hk _).mono ?_
  rintro e w2 ⟨rfl, hb2⟩
  obtain ⟨hc2, hf2⟩ := bcell hb2
  have z2 : w.heap.size + 1 < w1.heap.size + 1 := by omega
  have z3 : w1.heap.size ≤ w2.heap.size := by have := hb2.size; simp at this; omega
  go_wp2
  refine bodyPost_ret (v := .agg #[.int .i64 X, .int .i64 Y, .int .i64 U, .int .i64 V]) (by simp [results, Try.results15, go_sem, hc1, hc2, z1, z2]) rfl ⟨rfl, ?_⟩
  exact set4 ((((((Below.refl _ w).alloc (Nat.le_refl _) _).alloc (by simp) _).trans (hb1.mono (by simp; omega))).alloc (by omega) _).trans (hb2.mono (by simp; omega))) (by omega)

theorem rstir_any (a b c d n : Int) (hn : 0 ≤ n ∧ n ≤ 4294967295) (w : World) :
    Calls Try.prog 15 #[.agg #[.int .i64 a, .int .i64 b, .int .i64 c, .int .i64 d], .int .u32 n] w fun e w' =>
      e = .returned (.agg #[.int .i64 ((a % 65521 + n % 65536 % 65521) % 65521), .int .i64 ((b % 65521 + n / 65536 % 65521) % 65521), .int .i64 (c % 65521), .int .i64 (d % 65521)]) ∧ Below w.heap.size w w' := by
  have ha := Rng.md_in a
  have hb := Rng.md_in b
  refine rstir_over (fun w => least_any a b c d w) (fun w => ?_) ha.1 ha.2 hb.1 hb.2 hn.1 hn.2 w
  have := least_any (a % 65521 + n % 65536) (b % 65521 + n / 65536) (c % 65521) (d % 65521) w
  rw [Int.emod_emod, Int.emod_emod] at this
  have e1 : (a % 65521 + n % 65536 % 65521) % 65521 = (a % 65521 + n % 65536) % 65521 := by omega
  have e2 : (b % 65521 + n / 65536 % 65521) % 65521 = (b % 65521 + n / 65536) % 65521 := by omega
  rw [e1, e2]
  exact this

end Go.Proofs.Ytlnobnkgllemjaa
