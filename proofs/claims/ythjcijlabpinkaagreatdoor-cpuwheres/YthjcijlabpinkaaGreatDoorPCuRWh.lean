/- Layer 13: the document's Where. -/
import Derived.Test.YthjcijlabpinkaaGreatDoorPCuOne
import Derived.Test.YthjcijlabpinkaaGreatDoorPCpRefs
import Derived.Test.YthjcijlabpinkaaGreatDoorPTlAll
namespace Go.Proofs.YthjcijlabpinkaaGreatDoor
open Go.RowKit
set_option linter.unusedVariables false
set_option maxRecDepth 100000
set_option linter.unusedSimpArgs false

theorem rmap_fn (T : Nat → Int) (a s : Int) (wr : Bool) (hT : Tl.Wd T) (ha : Cp.W32 a) (hs : Cp.W32 s) (w : World) :
    Calls Tryz.prog 40 #[.agg (Tl.cellsT T), .int .u32 a, .int .u32 s, .bool wr] w fun e w' => e = .returned (.tuple #[.int .u32 (Tl.mapV T a wr (findV T a s)).1, .int .i64 (Tl.mapV T a wr (findV T a s)).2]) ∧ Below w.heap.size w w' := by
  refine (Tl.rmap_any T a s wr hT ha.1 ha.2 hs.1 hs.2 w).mono ?_
  rintro e w1 ⟨k, hk, rfl, hb⟩
  rw [hk.one (findV_is T a s)]
  exact ⟨rfl, hb⟩

set_option maxHeartbeats 2000000 in
theorem rwhere_mapped {w : World} {b : Nat} {c : Cs} (h : Box w b (cellsC c)) (hc : Wc c) (a : Int) (ha : Cp.W32 a) (wr : Bool) (M N A K : Int) (F : Bool)
    (cm : ∀ w, Calls Tryz.prog 40 #[.agg (Tl.cellsT c.T), .int .u32 a, .int .u32 (c.C.h % 256), .bool wr] w fun e w' => e = .returned (.tuple #[.int .u32 M, .int .i64 N]) ∧ Below w.heap.size w w')
    (hk : (decide (2147483648 ≤ a) = true ∧ decide (a ≤ 3221225471) = false ∧ Cp.userV c.C = false) ∨ decide (2147483648 ≤ a) = false)
    (hN : (N = 0 ∧ A = M ∧ K = -1 ∧ F = false) ∨ (N = 3 ∧ A = 0 ∧ K = 1 ∧ F = false) ∨ ((N == 0) = false ∧ (N == 3) = false ∧ A = 0 ∧ K = (mcV wr) ∧ F = (N == 1))) :
    Calls Tryz.prog 10 #[.pointer (some ⟨b, 0, none⟩), .int .u32 a, .bool wr] w fun e w' => e = .returned (.tuple #[.int .u32 A, .int .i64 K, .bool F]) ∧ Below w.heap.size w w' := by
  obtain ⟨t1, t2, t3, t4, t5, t6, t7, t8, t9⟩ := rowRules
  obtain ⟨z1, z2, z3, z4, z5, z6, z7, z8, z9, z10, z11, z12, z13, z14, z15⟩ := cSizes
  obtain ⟨f1, f2, f3, f4, f5, f6, f7, f8, f9⟩ := cWhole
  obtain ⟨p0, p1, p2, p3, p4, p5, p6, p7, p8, p9⟩ := cParts
  have cu := hide (Cp.ruser_any hc.C)
  have hH := hc.C.h
  have a255 : (c.C.h).tmod 256 = c.C.h % 256 := Int.tmod_eq_emod_of_nonneg hH.1
  have w1h : IntKind.i64.wrap c.C.h = c.C.h := by have := hH.1; have := hH.2; rw [IntKind.wrap_i64]; omega
  have w2h : IntKind.u32.wrap (c.C.h % 256) = c.C.h % 256 := by rw [IntKind.wrap_u32]; omega
  have w3h : IntKind.i64.wrap (c.C.h % 256) = c.C.h % 256 := by rw [IntKind.wrap_i64]; omega
  have w4h : IntKind.u32.wrap ((c.C.h).tmod 256) = c.C.h % 256 := by rw [a255]; exact w2h
  replace cm := hide cm
  replace hc := hide hc
  replace hN := hide hN
  obtain ⟨a0, a1⟩ := ha
  clear hH
  cases wr
  all_goals
    rcases hk with ⟨k1, k2, hu⟩ | k1
    · rw [hu] at cu
      clear hu
      obtain ⟨r1, r2, r3, r4, r5⟩ := h.cells
      go_enter Tryz.func10, Tryz.ntmps10
      go_wp2_with fail
      refine (cu.out _).mono ?_
      rintro e w1 ⟨rfl, b1⟩
      have h1 := h.on b1
      have S0 := sees ⟨h1, b1⟩ (Below.refl _ _).drew
      clear r1 r2 r3 r4 r5 h1 cu
      go_wp2_with fail
      go_region_held3 (fun x => (loadCellsFrom ⟨b, 47, none⟩ 0 Tl.N16 #[]).run Tryz.prog x = .ok (Tl.cellsT c.T) x ∧ x.cell? ⟨b, 42, none⟩ = some (.int .u32 c.C.h) ∧ (Box x b (cellsC c) ∧ Below w.heap.size w x))
        (first | exact S0 | assumption | exact sees (And.right (And.right (by assumption))) (by assumption))
        (first | (go_at_call 40; refine (cm.out _).mono ?_; rintro e w2 ⟨rfl, b2⟩; go_wp2_with fail))
      have b3 : Hid (Below w.heap.size w w2) := by
        have h : (loadCellsFrom ⟨b, 47, none⟩ 0 Tl.N16 #[]).run Tryz.prog w2 = .ok (Tl.cellsT c.T) w2 ∧ w2.cell? ⟨b, 42, none⟩ = some (.int .u32 c.C.h) ∧ (Box w2 b (cellsC c) ∧ Below w.heap.size w w2) := by assumption
        exact hide h.2.2.2
      clear cm h a255 S0
      rcases hN.out with ⟨rfl, rfl, rfl, rfl⟩ | ⟨rfl, rfl, rfl, rfl⟩ | ⟨e0, e3, rfl, rfl, rfl⟩
      all_goals
        go_wp2
        go_ret3
        exact ⟨rfl, b3.out⟩
    · clear cu
      have S0 := sees ⟨h, Below.refl _ _⟩ (Below.refl _ _).drew
      go_enter Tryz.func10, Tryz.ntmps10
      go_wp2_with fail
      go_region_held3 (fun x => (loadCellsFrom ⟨b, 47, none⟩ 0 Tl.N16 #[]).run Tryz.prog x = .ok (Tl.cellsT c.T) x ∧ x.cell? ⟨b, 42, none⟩ = some (.int .u32 c.C.h) ∧ (Box x b (cellsC c) ∧ Below w.heap.size w x))
        (first | exact S0 | assumption | exact sees (And.right (And.right (by assumption))) (by assumption))
        (first | (go_at_call 40; refine (cm.out _).mono ?_; rintro e w2 ⟨rfl, b2⟩; go_wp2_with fail))
      have b3 : Hid (Below w.heap.size w w2) := by
        have h : (loadCellsFrom ⟨b, 47, none⟩ 0 Tl.N16 #[]).run Tryz.prog w2 = .ok (Tl.cellsT c.T) w2 ∧ w2.cell? ⟨b, 42, none⟩ = some (.int .u32 c.C.h) ∧ (Box w2 b (cellsC c) ∧ Below w.heap.size w w2) := by assumption
        exact hide h.2.2.2
      clear cm h a255 S0
      rcases hN.out with ⟨rfl, rfl, rfl, rfl⟩ | ⟨rfl, rfl, rfl, rfl⟩ | ⟨e0, e3, rfl, rfl, rfl⟩
      all_goals
        go_wp2
        go_ret3
        exact ⟨rfl, b3.out⟩

end Go.Proofs.YthjcijlabpinkaaGreatDoor

/- Layer 13: the document's Where. -/
namespace Go.Proofs.YthjcijlabpinkaaGreatDoor
open Go.RowKit
set_option linter.unusedVariables false
set_option maxRecDepth 100000
set_option linter.unusedSimpArgs false

set_option maxHeartbeats 2000000 in
theorem rwhere_any {w : World} {b : Nat} {c : Cs} (h : Box w b (cellsC c)) (hc : Wc c) (a : Int) (ha : Cp.W32 a) (wr : Bool) :
    Calls Tryz.prog 10 #[.pointer (some ⟨b, 0, none⟩), .int .u32 a, .bool wr] w fun e w' =>
      e = .returned (.tuple #[.int .u32 (whereV c a wr).1, .int .i64 (whereV c a wr).2.1, .bool (whereV c a wr).2.2]) ∧ Below w.heap.size w w' := by
  have hH := hc.C.h
  have cm := rmap_fn c.T a (c.C.h % 256) wr hc.T ha (by constructor <;> omega)
  by_cases hd : 2147483648 ≤ a ∧ (Cp.userV c.C = true ∨ a < 3221225472)
  · obtain ⟨hk, hd⟩ := hd
    obtain ⟨t1, t2, t3, t4, t5, t6, t7, t8, t9⟩ := rowRules
    obtain ⟨z1, z2, z3, z4, z5, z6, z7, z8, z9, z10, z11, z12, z13, z14, z15⟩ := cSizes
    obtain ⟨f1, f2, f3, f4, f5, f6, f7, f8, f9⟩ := cWhole
    obtain ⟨r1, r2, r3, r4, r5⟩ := h.cells
    have cu := hide (Cp.ruser_any hc.C)
    replace hc := hide hc
    replace h := hide h
    obtain ⟨a0, a1⟩ := ha
    clear cm hH
    have k1 : decide (2147483648 ≤ a) = true := by simpa using hk
    cases hu : Cp.userV c.C with
    | true =>
      have hV : whereV c a wr = (0, wcV wr, false) := by unfold whereV; rw [if_pos ⟨hk, hu⟩]
      rw [hV]
      rw [hu] at cu
      clear hV hd
      cases wr
      all_goals
        go_enter Tryz.func10, Tryz.ntmps10
        go_wp2_with fail
        refine (cu.out _).mono ?_
        rintro e w1 ⟨rfl, b1⟩
        go_wp2
        go_ret3
        exact ⟨rfl, b1⟩
    | false =>
      rw [hu] at cu
      have hd : a < 3221225472 := by rcases hd with e | e <;> simp_all
      have k2 : decide (a ≤ 3221225471) = true := by simp only [decide_eq_true_eq]; omega
      have hV : whereV c a wr = (a % 536870912, -1, false) := by unfold whereV; rw [if_neg (by rw [hu]; simp), if_pos ⟨hk, hd⟩]
      rw [hV]
      have am : a.tmod 536870912 = a % 536870912 := Int.tmod_eq_emod_of_nonneg a0
      have am1 : IntKind.i64.wrap a = a := by rw [IntKind.wrap_i64]; omega
      have am2 : IntKind.u32.wrap (a % 536870912) = a % 536870912 := by rw [IntKind.wrap_u32]; omega
      clear hV
      cases wr
      all_goals
        go_enter Tryz.func10, Tryz.ntmps10
        go_wp2_with fail
        refine (cu.out _).mono ?_
        rintro e w1 ⟨rfl, b1⟩
        go_wp2
        go_ret3
        exact ⟨rfl, b1⟩
  · have n1 : ¬ (2147483648 ≤ a ∧ Cp.userV c.C = true) := fun ⟨x, y⟩ => hd ⟨x, Or.inl y⟩
    have n2 : ¬ (2147483648 ≤ a ∧ a < 3221225472) := fun ⟨x, y⟩ => hd ⟨x, Or.inr y⟩
    rw [whereV_map n1 n2 rfl rfl]
    generalize (Tl.mapV c.T a wr (findV c.T a (c.C.h % 256))).1 = M at cm ⊢
    generalize (Tl.mapV c.T a wr (findV c.T a (c.C.h % 256))).2 = N at cm ⊢
    refine rwhere_mapped h hc a ha wr M N _ _ _ cm ?_ ?_
    · by_cases hk : 2147483648 ≤ a
      · refine Or.inl ⟨by simpa using hk, ?_, ?_⟩
        · simp only [decide_eq_false_iff_not]; exact fun x => n2 ⟨hk, by omega⟩
        · cases hu : Cp.userV c.C with
          | true => exact absurd ⟨hk, hu⟩ n1
          | false => rfl
      · exact Or.inr (by simpa using hk)
    · by_cases n0 : N = 0
      · rw [if_pos n0]; exact Or.inl ⟨n0, rfl, rfl, rfl⟩
      by_cases n3 : N = 3
      · rw [if_neg n0, if_pos n3]; exact Or.inr (Or.inl ⟨n3, rfl, rfl, rfl⟩)
      · rw [if_neg n0, if_neg n3]
        exact Or.inr (Or.inr ⟨by simpa using n0, by simpa using n3, rfl, rfl, by rw [Bool.eq_iff_iff]; simp⟩)

end Go.Proofs.YthjcijlabpinkaaGreatDoor
