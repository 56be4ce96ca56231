/- Layer 13: the walk of the document's Text. -/
import Derived.Test.YthjcijlabpinkaaGreatDoorQCuRText
namespace Go.Proofs.YthjcijlabpinkaaGreatDoor
open Go.RowKit
set_option linter.unusedVariables false
set_option maxRecDepth 100000
set_option linter.unusedSimpArgs false

theorem rbit_below (b : Bool) (w : World) : Calls Tryz.prog 103 #[.bool b] w fun e w' => e = .returned (.int .u32 (oneN b)) ∧ Below w.heap.size w w' := by
  refine (Dm.rbit_any b w).mono ?_
  rintro e w1 ⟨rfl, rfl⟩
  exact ⟨by rw [one_is], Below.refl _ _⟩

set_option maxHeartbeats 4000000 in
set_option maxRecDepth 100000 in
theorem rtextC_any {c : Cs} (hc : Wc c) {b : Nat} (w : World) (h : Box w b (cellsC c)) :
    Calls Tryz.prog 32 #[.pointer (some ⟨b, 0, none⟩)] w fun e w' => e = .returned (.string (textC c)) ∧ Below w.heap.size w w' := by
  obtain ⟨t1, t2, t3, t4, t5, t6, t7, t8, t9⟩ := rowRules
  obtain ⟨z1, z2, z3, z4, z5, z6, z7, z8, z9, z10, z11, z12, z13, z14, z15⟩ := cSizes
  obtain ⟨f1, f2, f3, f4, f5, f6, f7, f8, f9⟩ := cWhole
  have cw := hide (fun (x : Int) (h0 : 0 ≤ x) (h1 : x < 4294967296) (y : World) => Dm.rword_any (v := x) ⟨h0, h1⟩ y)
  have cb := hide (fun (x : Bool) (y : World) => rbit_below x y)
  have cr := hide (fun (g : Int) (y : World) => Cp.rread_any c.C g y)
  have hz : ∀ x : Int, (Dm.wordV x).size = 4 := fun x => strOfNums_size _
  obtain ⟨pc0, pc1⟩ := hc.pc
  obtain ⟨nx0, nx1⟩ := hc.nx
  obtain ⟨hi0, hi1⟩ := hc.hi
  obtain ⟨lo0, lo1⟩ := hc.lo
  have o0 : ∀ x, 0 ≤ oneN x := fun x => by cases x <;> decide
  have o1 : ∀ x, oneN x < 4294967296 := fun x => by cases x <;> decide
  have R0 : RT b c w w.drew := ⟨h.drew, (Below.refl _ w).drew⟩
  have S0 := R0.three
  have E3 := hide (texC_3 c)
  have E38 := hide (texC_38 c)
  replace hc := hide hc
  replace h := hide h
  clear R0
  go_enter Tryz.func32, Tryz.ntmps32
  go_wp2_with fail
  go_region_held3 (fun y => y.cell? ⟨b, 0, none⟩ = some (.int .u32 c.pc) ∧ y.cell? ⟨b, 1, none⟩ = some (.int .u32 c.nx) ∧ y.cell? ⟨b, 2, none⟩ = some (.bool c.dl) ∧ RT b c w y)
    (first | exact S0 | assumption | exact (RT.on (And.right (And.right (And.right (by assumption)))) (by assumption)).three)
    (first
      | (go_at_call 103; refine (cb.out _ _).mono ?_; rintro e w1 ⟨rfl, b1⟩; go_wp2_with fail)
      | (go_at_call 80; refine (cw.out _ (by first | assumption | exact o0 _) (by first | assumption | exact o1 _) _).mono ?_; rintro e w1 ⟨rfl, b1⟩; go_wp2_with fail))
  have R1 : RT b c w w1 := And.right (And.right (And.right (by assumption)))
  replace R1 := hide R1
  clear S0
  rw [E3.out]
  have hzt := texC_size c
  go_wp2_with fail
  go_loopw [3, 4] (fun s i wr => ∃ k : Nat, k ≤ 32 ∧ i = .int .i64 k ∧ Hid (s = .string (texC c (3 + k))) ∧ Hid (RT b c w wr)) (fun _ i _ => 32 - (intOf i).toNat)
  case atStart => exact ⟨0, by omega, rfl, hide rfl, R1⟩
  case round =>
    clear R1
    obtain ⟨k, hk, rfl, hs, hR⟩ := hrel
    have hs' := hs.out
    subst hs'
    clear hs
    by_cases hlt : k < 32
    · have z1' : (texC c (3 + k)).size = 4 * (3 + k) := texC_size c _ (by omega)
      have hn := hide (texC_next c (3 + k) (c.R k) (words_R c k hlt))
      have lim : ¬ (9223372036854775807 < 4 * (3 + k) + 4) := by omega
      obtain ⟨r0, r1⟩ := hc.out.R k
      have d1 : decide ((k : Int) < 32) = true := by simp; omega
      have c1 := (RT.reg hR.out hlt).1
      generalize texC c (3 + k) = T at *
      clear hzt
      go_wp2_with fail
      refine (cw.out _ r0 r1 _).mono ?_
      rintro e w2 ⟨rfl, b2⟩
      have R2 := hide (hR.out.on b2)
      clear hR c1 b2
      go_wp2
      go_roundw
      case rel => exact ⟨k + 1, by omega, by go_num, hide (by rw [hn.out]; rfl), R2⟩
      case measure => simp [intOf]; omega
    · have hk32 : k = 32 := by omega
      subst hk32
      clear hlt hk
      have z1' : (texC c (3 + 32)).size = 140 := texC_size c _ (by omega)
      have S1 := RT.more (hR.out.on (Below.refl _ wr).drew)
      obtain ⟨W1, hW1⟩ : ∃ W1, W1 = wr := ⟨_, rfl⟩
      rw [← hW1] at hR S1 ⊢
      clear hW1 hzt
      generalize hT35 : texC c (3 + 32) = T at *
      replace hT35 := hide hT35
      go_wp2_with fail
      go_region_held3 (fun y => y.cell? ⟨b, 35, none⟩ = some (.int .u32 c.hi) ∧ y.cell? ⟨b, 36, none⟩ = some (.int .u32 c.lo) ∧ y.cell? ⟨b, 37, none⟩ = some (.bool c.lk) ∧ RT b c w y)
        (first | exact S1 | assumption | exact (RT.on (And.right (And.right (And.right (by assumption)))) (by assumption)).more)
        (first
          | (go_at_call 103; refine (cb.out _ _).mono ?_; rintro e w2 ⟨rfl, b2⟩; go_wp2_with fail)
          | (go_at_call 80; refine (cw.out _ (by first | assumption | exact o0 _) (by first | assumption | exact o1 _) _).mono ?_; rintro e w2 ⟨rfl, b2⟩; go_wp2_with fail))
      have R2 : RT b c w w2 := And.right (And.right (And.right (by assumption)))
      have e38 : T ++ (Dm.wordV c.hi ++ Dm.wordV c.lo ++ Dm.wordV (oneN c.lk)) = texC c 38 := E38.out
      rw [e38]
      clear S1 hR hT35 z1' e38 E3 E38
      have bl := Box.new w2 regRow 3
      have R3 := hide (R2.on (grow w2 (.cells regRow 3)))
      have hrr : regRow = #[.int .i64 0, .int .i64 2, .int .i64 8, .int .i64 9, .int .i64 10, .int .i64 11, .int .i64 12, .int .i64 13, .int .i64 14] := rfl
      rw [hrr] at bl R3
      replace bl := hide bl
      clear R2 hrr
      go_wp2_with fail
      obtain ⟨L, hL⟩ : ∃ L, L = w2.heap.size := ⟨_, rfl⟩
      rw [← hL] at bl ⊢
      clear hL
      generalize w2.alloc (.cells #[.int .i64 0, .int .i64 2, .int .i64 8, .int .i64 9, .int .i64 10, .int .i64 11, .int .i64 12, .int .i64 13, .int .i64 14] 3) = W2 at *
      go_loopw [3, 6] (fun s i wr => ∃ k : Nat, k ≤ 9 ∧ i = .int .i64 k ∧ Hid (s = .string (texC c (38 + k))) ∧ Hid (RT b c w wr ∧ Box wr L #[.int .i64 0, .int .i64 2, .int .i64 8, .int .i64 9, .int .i64 10, .int .i64 11, .int .i64 12, .int .i64 13, .int .i64 14])) (fun _ i _ => 9 - (intOf i).toNat)
      case atStart => exact ⟨0, by omega, rfl, hide rfl, hide ⟨R3.out, bl.out⟩⟩
      case round =>
        clear R3 bl
        obtain ⟨k, hk, rfl, hs, hR⟩ := hrel
        have hs' := hs.out
        subst hs'
        clear hs
        by_cases hlt : k < 9
        · have z1' : (texC c (38 + k)).size = 4 * (38 + k) := texC_size c _ (by omega)
          have hn := hide (texC_next c (38 + k) _ (words_C c k hlt))
          have lim : ¬ (9223372036854775807 < 4 * (38 + k) + 4) := by omega
          obtain ⟨r0, r1⟩ := read_w hc.out k hlt
          have d1 : decide ((k : Int) < 9) = true := by simp; omega
          have c1 : wr.cell? ⟨L, k, none⟩ = some (.int .i64 (regL.getD k 0)) := by
            rw [hR.out.2.cell]
            match k, hlt with
            | 0, _ => rfl
            | 1, _ => rfl
            | 2, _ => rfl
            | 3, _ => rfl
            | 4, _ => rfl
            | 5, _ => rfl
            | 6, _ => rfl
            | 7, _ => rfl
            | 8, _ => rfl
            | n + 9, h => omega
          have c2 := hR.out.1.1.loads 38 Cp.N9 (f1 c) (f4 c)
          generalize regL.getD k 0 = G at *
          generalize texC c (38 + k) = T at *
          replace cr := hide (cr.out G)
          generalize Cp.readV c.C G = V at *
          have k0 : (0 : Int) ≤ (k : Int) := by omega
          have k9 : (k : Int) < 9 := by omega
          generalize hLL : (#[.int .i64 0, .int .i64 2, .int .i64 8, .int .i64 9, .int .i64 10, .int .i64 11, .int .i64 12, .int .i64 13, .int .i64 14] : Array Value) = LL at *
          have S1 : (loadCellsFrom ⟨b, 38, none⟩ 0 Cp.N9 #[]).run Tryz.prog wr.drew = .ok (Cp.cellsR c.C) wr.drew ∧ wr.drew.cell? ⟨L, k, none⟩ = some (.int .i64 G) ∧ (RT b c w wr.drew ∧ Box wr.drew L LL) :=
            ⟨(hR.out.1.on (Below.refl _ wr).drew).1.loads 38 Cp.N9 (f1 c) (f4 c), c1, hR.out.1.on (Below.refl _ wr).drew, hR.out.2.on (Below.refl _ wr).drew⟩
          have St : ∀ x y : World, ((loadCellsFrom ⟨b, 38, none⟩ 0 Cp.N9 #[]).run Tryz.prog x = .ok (Cp.cellsR c.C) x ∧ x.cell? ⟨L, k, none⟩ = some (.int .i64 G) ∧ (RT b c w x ∧ Box x L LL)) → Below x.heap.size x y →
              ((loadCellsFrom ⟨b, 38, none⟩ 0 Cp.N9 #[]).run Tryz.prog y = .ok (Cp.cellsR c.C) y ∧ y.cell? ⟨L, k, none⟩ = some (.int .i64 G) ∧ (RT b c w y ∧ Box y L LL)) := fun x y h hb => by
            have q1 := h.2.2.1.on hb
            have q2 := h.2.2.2.on hb
            refine ⟨q1.1.loads 38 Cp.N9 (f1 c) (f4 c), ?_, q1, q2⟩
            rw [q2.cell, ← h.2.2.2.cell]
            exact h.2.1
          replace St := hide St
          clear c1 c2
          go_wp2_with fail
          go_region_held3 (fun y => (loadCellsFrom ⟨b, 38, none⟩ 0 Cp.N9 #[]).run Tryz.prog y = .ok (Cp.cellsR c.C) y ∧ y.cell? ⟨L, k, none⟩ = some (.int .i64 G) ∧ (RT b c w y ∧ Box y L LL))
            (first | exact S1 | assumption | exact St.out _ _ (by assumption) (by assumption))
            (first
              | (go_at_call 104; refine (cr.out _).mono ?_; rintro e w2 ⟨rfl, b2⟩; go_wp2_with fail)
              | (go_at_call 80; refine (cw.out _ (by assumption) (by assumption) _).mono ?_; rintro e w2 ⟨rfl, b2⟩; go_wp2_with fail))
          have R2 : RT b c w w2 ∧ Box w2 L LL := And.right (And.right (by assumption))
          replace hR := hide R2
          clear R2 S1 St
          go_wp2
          go_roundw
          case rel => exact ⟨k + 1, by omega, by go_num, hide (by rw [hn.out]; rfl), hR⟩
          case measure => simp [intOf]; omega
        · have hk9 : k = 9 := by omega
          subst hk9
          clear hlt hk
          obtain ⟨W3, hW3⟩ : ∃ W3, W3 = wr := ⟨_, rfl⟩
          rw [← hW3] at hR ⊢
          clear hW3
          have R4 := hide hR.out.1
          clear hR
          rw [show ((9 : Nat) : Int) = 9 from rfl]
          go_wp2_with fail
          go_loopw [3, 7] (fun s i wr => ∃ k : Nat, k ≤ 8 ∧ i = .int .i64 k ∧ Hid (s = .string (texC c (47 + 2 * k))) ∧ Hid (RT b c w wr)) (fun _ i _ => 8 - (intOf i).toNat)
          case atStart => exact ⟨0, by omega, rfl, hide rfl, R4⟩
          case round =>
            clear R4
            obtain ⟨k, hk, rfl, hs, hR⟩ := hrel
            have hs' := hs.out
            subst hs'
            clear hs
            by_cases hlt : k < 8
            · have z1' : (texC c (47 + 2 * k)).size = 4 * (47 + 2 * k) := texC_size c _ (by omega)
              have hn := hide (texC_T c k hlt)
              have lim : ¬ (9223372036854775807 < 4 * (47 + 2 * k) + 8) := by omega
              obtain ⟨r0, r1⟩ := hc.out.T (k * 2)
              obtain ⟨r2, r3⟩ := hc.out.T (k * 2 + 1)
              have d1 : decide ((k : Int) < 8) = true := by simp; omega
              have S1 := RT.slot (hR.out.on (Below.refl _ wr).drew) hlt
              have k0 : (0 : Int) ≤ (k : Int) := by omega
              have k8 : (k : Int) < 8 := by omega
              generalize texC c (47 + 2 * k) = T at *
              generalize hA : c.T (k * 2) = A at *
              generalize hB : c.T (k * 2 + 1) = B at *
              replace hA := hide hA
              replace hB := hide hB
              go_wp2_with fail
              go_region_held3 (fun y => y.cell? ⟨b, 47 + k * 2, none⟩ = some (.int .u32 A) ∧ y.cell? ⟨b, 47 + k * 2 + 1, none⟩ = some (.int .u32 B) ∧ RT b c w y)
                (first | exact S1 | assumption | (rw [← hA.out, ← hB.out]; exact (RT.on (And.right (And.right (by assumption))) (by assumption)).slot hlt))
                (first
                  | (go_at_call 80; refine (cw.out _ (by assumption) (by assumption) _).mono ?_; rintro e w2 ⟨rfl, b2⟩; go_wp2_with fail))
              have R2 : RT b c w w2 := And.right (And.right (by assumption))
              replace hR := hide R2
              clear R2 S1
              go_wp2
              go_roundw
              case rel => exact ⟨k + 1, by omega, by go_num, hide (by rw [hn.out]), hR⟩
              case measure => simp [intOf]; omega
            · have hk8 : k = 8 := by omega
              subst hk8
              clear hlt hk
              have e63 : texC c (47 + 2 * 8) = textC c := texC_all c
              rw [e63]
              go_wp2
              go_ret
              exact ⟨rfl, hR.out.2⟩

end Go.Proofs.YthjcijlabpinkaaGreatDoor
