/- Layer 13: the document's Text of a state. -/
import Derived.Test.YthjcijlabpinkaaGreatDoorPCuTm
import Derived.Test.YthjcijlabpinkaaGreatDoorPCpRefs
import Derived.Test.YthjcijlabpinkaaGreatDoorPDmRef
import Derived.Deep.RegionHeld3
import Derived.Test.YthjcijlabpinkaaGreatDoorPCuRAt
import Derived.Deep.QuietTactic
namespace Go.Proofs.YthjcijlabpinkaaGreatDoor
open Go.RowKit
set_option linter.unusedVariables false
set_option maxRecDepth 100000
set_option linter.unusedSimpArgs false

def texC (c : Cs) (k : Nat) : ByteArray := strOfNums (bytesW ((wordsC c).take k))

theorem texC_size (c : Cs) (k : Nat) (h : k ≤ 63) : (texC c k).size = 4 * k := by
  unfold texC
  rw [strOfNums_size, bytesW_length, List.length_take, wordsC_length]
  omega

theorem strOf_append (a b : List Int) : strOfNums (a ++ b) = strOfNums a ++ strOfNums b := by
  apply ByteArray.ext
  simp [strOfNums]

theorem texC_next (c : Cs) (k : Nat) (v : Int) (h : (wordsC c)[k]? = some v) : texC c k ++ Dm.wordV v = texC c (k + 1) := by
  unfold texC Dm.wordV
  rw [take_word c k v h, bytesW_snoc, strOf_append]
  rfl

theorem texC_all (c : Cs) : texC c 63 = textC c := by
  unfold texC textC
  rw [List.take_of_length_le (by rw [wordsC_length]; omega)]

theorem one_is (b : Bool) : Dm.one b = oneN b := by cases b <;> rfl

theorem texC_3 (c : Cs) : Dm.wordV c.pc ++ Dm.wordV c.nx ++ Dm.wordV (oneN c.dl) = texC c 3 := by
  rw [← texC_next c 2 _ rfl, ← texC_next c 1 _ rfl, ← texC_next c 0 _ rfl]
  have : texC c 0 = ByteArray.empty := rfl
  rw [this, ByteArray.empty_append]
  rfl

theorem texC_38 (c : Cs) : texC c 35 ++ (Dm.wordV c.hi ++ Dm.wordV c.lo ++ Dm.wordV (oneN c.lk)) = texC c 38 := by
  rw [← texC_next c 37 _ rfl, ← texC_next c 36 _ rfl, ← texC_next c 35 _ rfl]
  simp only [ByteArray.append_assoc]
  rfl

def RT (b : Nat) (c : Cs) (w y : World) : Prop := Box y b (cellsC c) ∧ Below w.heap.size w y

theorem RT.on {b : Nat} {c : Cs} {w x y : World} (h : RT b c w x) (hb : Below x.heap.size x y) : RT b c w y := ⟨h.1.on hb, onto h.2 (Nat.le_refl _) hb⟩

theorem RT.three {b : Nat} {c : Cs} {w y : World} (h : RT b c w y) : y.cell? ⟨b, 0, none⟩ = some (.int .u32 c.pc) ∧ y.cell? ⟨b, 1, none⟩ = some (.int .u32 c.nx) ∧ y.cell? ⟨b, 2, none⟩ = some (.bool c.dl) ∧ RT b c w y := ⟨h.1.cell 0, h.1.cell 1, h.1.cell 2, h⟩
theorem RT.more {b : Nat} {c : Cs} {w y : World} (h : RT b c w y) : y.cell? ⟨b, 35, none⟩ = some (.int .u32 c.hi) ∧ y.cell? ⟨b, 36, none⟩ = some (.int .u32 c.lo) ∧ y.cell? ⟨b, 37, none⟩ = some (.bool c.lk) ∧ RT b c w y := ⟨h.1.cell 35, h.1.cell 36, h.1.cell 37, h⟩
theorem RT.reg {b : Nat} {c : Cs} {w y : World} (h : RT b c w y) {k : Nat} (hk : k < 32) : y.cell? ⟨b, 3 + k, none⟩ = some (.int .u32 (c.R k)) ∧ RT b c w y := ⟨by rw [h.1.cell]; exact get_R c k hk, h⟩

theorem get_T (c : Cs) (k : Nat) (h : k < 16) : (cellsC c)[47 + k]? = some (.int .u32 (c.T k)) := by
  match k, h with
  | 0, _ => rfl
  | 1, _ => rfl
  | 2, _ => rfl
  | 3, _ => rfl
  | 4, _ => rfl
  | 5, _ => rfl
  | 6, _ => rfl
  | 7, _ => rfl
  | 8, _ => rfl
  | 9, _ => rfl
  | 10, _ => rfl
  | 11, _ => rfl
  | 12, _ => rfl
  | 13, _ => rfl
  | 14, _ => rfl
  | 15, _ => rfl
  | n + 16, h => omega

theorem words_T (c : Cs) (k : Nat) (h : k < 16) : (wordsC c)[47 + k]? = some (c.T k) := by
  unfold wordsC
  rw [List.getElem?_map, Array.getElem?_toList, get_T c k h]
  rfl

theorem words_R (c : Cs) (k : Nat) (h : k < 32) : (wordsC c)[3 + k]? = some (c.R k) := by
  unfold wordsC
  rw [List.getElem?_map, Array.getElem?_toList, get_R c k h]
  rfl

theorem RT.slot {b : Nat} {c : Cs} {w y : World} (h : RT b c w y) {k : Nat} (hk : k < 8) : y.cell? ⟨b, 47 + k * 2, none⟩ = some (.int .u32 (c.T (k * 2))) ∧ y.cell? ⟨b, 47 + k * 2 + 1, none⟩ = some (.int .u32 (c.T (k * 2 + 1))) ∧ RT b c w y :=
  ⟨by rw [h.1.cell]; exact get_T c _ (by omega), by rw [h.1.cell, Nat.add_assoc]; exact get_T c _ (by omega), h⟩

theorem texC_T (c : Cs) (k : Nat) (h : k < 8) : texC c (47 + 2 * k) ++ (Dm.wordV (c.T (k * 2)) ++ Dm.wordV (c.T (k * 2 + 1))) = texC c (47 + 2 * (k + 1)) := by
  rw [show 47 + 2 * (k + 1) = 47 + 2 * k + 1 + 1 by omega, ← texC_next c (47 + 2 * k + 1) (c.T (k * 2 + 1)) (by rw [show 47 + 2 * k + 1 = 47 + (k * 2 + 1) by omega]; exact words_T c _ (by omega)),
    ← texC_next c (47 + 2 * k) (c.T (k * 2)) (by rw [show 2 * k = k * 2 by omega]; exact words_T c _ (by omega)), ByteArray.append_assoc]

def regL : List Int := [0, 2, 8, 9, 10, 11, 12, 13, 14]

theorem words_C (c : Cs) (k : Nat) (h : k < 9) : (wordsC c)[38 + k]? = some (Cp.readV c.C (regL.getD k 0)) :=
  match k, h with
  | 0, _ => rfl
  | 1, _ => rfl
  | 2, _ => rfl
  | 3, _ => rfl
  | 4, _ => rfl
  | 5, _ => rfl
  | 6, _ => rfl
  | 7, _ => rfl
  | 8, _ => rfl
  | n + 9, h => absurd h (by omega)

theorem read_w {c : Cs} (hc : Wc c) (k : Nat) (h : k < 9) : 0 ≤ Cp.readV c.C (regL.getD k 0) ∧ Cp.readV c.C (regL.getD k 0) < 4294967296 := by
  obtain ⟨v, e1, e2, -⟩ := word_w hc (38 + k) (by omega)
  rw [words_C c k h] at e1
  cases e1
  exact e2

def regRow : Array Value := (regL.map (Value.int .i64)).toArray

end Go.Proofs.YthjcijlabpinkaaGreatDoor

namespace Go.Proofs.YthjcijlabpinkaaGreatDoor
open Go.RowKit
set_option linter.unusedVariables false
set_option maxRecDepth 100000
set_option linter.unusedSimpArgs false

theorem rbit_below (b : Bool) (w : World) : Calls Tryz.prog 103 #[.bool b] w fun e w' => e = .returned (.int .u32 (oneN b)) ∧ Below w.heap.size w w' := by
  refine (Dm.rbit_any b w).mono ?_
  rintro e w1 ⟨rfl, rfl⟩
  exact ⟨by rw [one_is], Below.refl _ _⟩

set_option maxHeartbeats 4000000 in
set_option maxRecDepth 100000 in
theorem rtextC_any {c : Cs} (hc : Wc c) {b : Nat} (w : World) (h : Box w b (cellsC c)) :
    Calls Tryz.prog 32 #[.pointer (some ⟨b, 0, none⟩)] w fun e w' => e = .returned (.string (textC c)) ∧ Below w.heap.size w w' := by
  obtain ⟨t1, t2, t3, t4, t5, t6, t7, t8, t9⟩ := rowRules
  obtain ⟨z1, z2, z3, z4, z5, z6, z7, z8, z9, z10, z11, z12, z13, z14, z15⟩ := cSizes
  obtain ⟨f1, f2, f3, f4, f5, f6, f7, f8, f9⟩ := cWhole
  have cw := hide (fun (x : Int) (h0 : 0 ≤ x) (h1 : x < 4294967296) (y : World) => Dm.rword_any (v := x) ⟨h0, h1⟩ y)
  have cb := hide (fun (x : Bool) (y : World) => rbit_below x y)
  have cr := hide (fun (g : Int) (y : World) => Cp.rread_any c.C g y)
  have hz : ∀ x : Int, (Dm.wordV x).size = 4 := fun x => strOfNums_size _
  obtain ⟨pc0, pc1⟩ := hc.pc
  obtain ⟨nx0, nx1⟩ := hc.nx
  obtain ⟨hi0, hi1⟩ := hc.hi
  obtain ⟨lo0, lo1⟩ := hc.lo
  have o0 : ∀ x, 0 ≤ oneN x := fun x => by cases x <;> decide
  have o1 : ∀ x, oneN x < 4294967296 := fun x => by cases x <;> decide
  have R0 : RT b c w w.drew := ⟨h.drew, (Below.refl _ w).drew⟩
  have S0 := R0.three
  have E3 := hide (texC_3 c)
  have E38 := hide (texC_38 c)
  replace hc := hide hc
  replace h := hide h
  clear R0
  go_enter Tryz.func32, Tryz.ntmps32
  go_wp2_with fail
  go_region_held3 (fun y => y.cell? ⟨b, 0, none⟩ = some (.int .u32 c.pc) ∧ y.cell? ⟨b, 1, none⟩ = some (.int .u32 c.nx) ∧ y.cell? ⟨b, 2, none⟩ = some (.bool c.dl) ∧ RT b c w y)
    (first | exact S0 | assumption | exact (RT.on (And.right (And.right (And.right (by assumption)))) (by assumption)).three)
    (first
      | (go_at_call 103; refine (cb.out _ _).mono ?_; rintro e w1 ⟨rfl, b1⟩; go_wp2_with fail)
      | (go_at_call 80; refine (cw.out _ (by first | assumption | exact o0 _) (by first | assumption | exact o1 _) _).mono ?_; rintro e w1 ⟨rfl, b1⟩; go_wp2_with fail))
  have R1 : RT b c w w1 := And.right (And.right (And.right (by assumption)))
  replace R1 := hide R1
  clear S0
  rw [E3.out]
  have hzt := texC_size c
  go_wp2_with fail
  go_loopw [3, 4] (fun s i wr => ∃ k : Nat, k ≤ 32 ∧ i = .int .i64 k ∧ Hid (s = .string (texC c (3 + k))) ∧ Hid (RT b c w wr)) (fun _ i _ => 32 - (intOf i).toNat)
  case atStart => exact ⟨0, by omega, rfl, hide rfl, R1⟩
  case round =>
    clear R1
    obtain ⟨k, hk, rfl, hs, hR⟩ := hrel
    have hs' := hs.out
    subst hs'
    clear hs
    by_cases hlt : k < 32
    · have z1' : (texC c (3 + k)).size = 4 * (3 + k) := texC_size c _ (by omega)
      have hn := hide (texC_next c (3 + k) (c.R k) (words_R c k hlt))
      have lim : ¬ (9223372036854775807 < 4 * (3 + k) + 4) := by omega
      obtain ⟨r0, r1⟩ := hc.out.R k
      have d1 : decide ((k : Int) < 32) = true := by simp; omega
      have c1 := (RT.reg hR.out hlt).1
      generalize texC c (3 + k) = T at *
      clear hzt
      go_wp2_with fail
      refine (cw.out _ r0 r1 _).mono ?_
      rintro e w2 ⟨rfl, b2⟩
      have R2 := hide (hR.out.on b2)
      clear hR c1 b2
      go_wp2
      go_roundw
      case rel => exact ⟨k + 1, by omega, by go_num, hide (by rw [hn.out]; rfl), R2⟩
      case measure => simp [intOf]; omega
    · have hk32 : k = 32 := by omega
      subst hk32
      clear hlt hk
      have z1' : (texC c (3 + 32)).size = 140 := texC_size c _ (by omega)
      have S1 := RT.more (hR.out.on (Below.refl _ wr).drew)
      obtain ⟨W1, hW1⟩ : ∃ W1, W1 = wr := ⟨_, rfl⟩
      rw [← hW1] at hR S1 ⊢
      clear hW1 hzt
      generalize hT35 : texC c (3 + 32) = T at *
      replace hT35 := hide hT35
      go_wp2_with fail
      go_region_held3 (fun y => y.cell? ⟨b, 35, none⟩ = some (.int .u32 c.hi) ∧ y.cell? ⟨b, 36, none⟩ = some (.int .u32 c.lo) ∧ y.cell? ⟨b, 37, none⟩ = some (.bool c.lk) ∧ RT b c w y)
        (first | exact S1 | assumption | exact (RT.on (And.right (And.right (And.right (by assumption)))) (by assumption)).more)
        (first
          | (go_at_call 103; refine (cb.out _ _).mono ?_; rintro e w2 ⟨rfl, b2⟩; go_wp2_with fail)
          | (go_at_call 80; refine (cw.out _ (by first | assumption | exact o0 _) (by first | assumption | exact o1 _) _).mono ?_; rintro e w2 ⟨rfl, b2⟩; go_wp2_with fail))
      have R2 : RT b c w w2 := And.right (And.right (And.right (by assumption)))
      have e38 : T ++ (Dm.wordV c.hi ++ Dm.wordV c.lo ++ Dm.wordV (oneN c.lk)) = texC c 38 := E38.out
      rw [e38]
      clear S1 hR hT35 z1' e38 E3 E38
      have bl := Box.new w2 regRow 3
      have R3 := hide (R2.on (grow w2 (.cells regRow 3)))
      have hrr : regRow = #[.int .i64 0, .int .i64 2, .int .i64 8, .int .i64 9, .int .i64 10, .int .i64 11, .int .i64 12, .int .i64 13, .int .i64 14] := rfl
      rw [hrr] at bl R3
      replace bl := hide bl
      clear R2 hrr
      go_wp2_with fail
      obtain ⟨L, hL⟩ : ∃ L, L = w2.heap.size := ⟨_, rfl⟩
      rw [← hL] at bl ⊢
      clear hL
      generalize w2.alloc (.cells #[.int .i64 0, .int .i64 2, .int .i64 8, .int .i64 9, .int .i64 10, .int .i64 11, .int .i64 12, .int .i64 13, .int .i64 14] 3) = W2 at *
      go_loopw [3, 6] (fun s i wr => ∃ k : Nat, k ≤ 9 ∧ i = .int .i64 k ∧ Hid (s = .string (texC c (38 + k))) ∧ Hid (RT b c w wr ∧ Box wr L #[.int .i64 0, .int .i64 2, .int .i64 8, .int .i64 9, .int .i64 10, .int .i64 11, .int .i64 12, .int .i64 13, .int .i64 14])) (fun _ i _ => 9 - (intOf i).toNat)
      case atStart => exact ⟨0, by omega, rfl, hide rfl, hide ⟨R3.out, bl.out⟩⟩
      case round =>
        clear R3 bl
        obtain ⟨k, hk, rfl, hs, hR⟩ := hrel
        have hs' := hs.out
        subst hs'
        clear hs
        by_cases hlt : k < 9
        · have z1' : (texC c (38 + k)).size = 4 * (38 + k) := texC_size c _ (by omega)
          have hn := hide (texC_next c (38 + k) _ (words_C c k hlt))
          have lim : ¬ (9223372036854775807 < 4 * (38 + k) + 4) := by omega
          obtain ⟨r0, r1⟩ := read_w hc.out k hlt
          have d1 : decide ((k : Int) < 9) = true := by simp; omega
          have c1 : wr.cell? ⟨L, k, none⟩ = some (.int .i64 (regL.getD k 0)) := by
            rw [hR.out.2.cell]
            match k, hlt with
            | 0, _ => rfl
            | 1, _ => rfl
            | 2, _ => rfl
            | 3, _ => rfl
            | 4, _ => rfl
            | 5, _ => rfl
            | 6, _ => rfl
            | 7, _ => rfl
            | 8, _ => rfl
            | n + 9, h => omega
          have c2 := hR.out.1.1.loads 38 Cp.N9 (f1 c) (f4 c)
          generalize regL.getD k 0 = G at *
          generalize texC c (38 + k) = T at *
          replace cr := hide (cr.out G)
          generalize Cp.readV c.C G = V at *
          have k0 : (0 : Int) ≤ (k : Int) := by omega
          have k9 : (k : Int) < 9 := by omega
          generalize hLL : (#[.int .i64 0, .int .i64 2, .int .i64 8, .int .i64 9, .int .i64 10, .int .i64 11, .int .i64 12, .int .i64 13, .int .i64 14] : Array Value) = LL at *
          have S1 : (loadCellsFrom ⟨b, 38, none⟩ 0 Cp.N9 #[]).run Tryz.prog wr.drew = .ok (Cp.cellsR c.C) wr.drew ∧ wr.drew.cell? ⟨L, k, none⟩ = some (.int .i64 G) ∧ (RT b c w wr.drew ∧ Box wr.drew L LL) :=
            ⟨(hR.out.1.on (Below.refl _ wr).drew).1.loads 38 Cp.N9 (f1 c) (f4 c), c1, hR.out.1.on (Below.refl _ wr).drew, hR.out.2.on (Below.refl _ wr).drew⟩
          have St : ∀ x y : World, ((loadCellsFrom ⟨b, 38, none⟩ 0 Cp.N9 #[]).run Tryz.prog x = .ok (Cp.cellsR c.C) x ∧ x.cell? ⟨L, k, none⟩ = some (.int .i64 G) ∧ (RT b c w x ∧ Box x L LL)) → Below x.heap.size x y →
              ((loadCellsFrom ⟨b, 38, none⟩ 0 Cp.N9 #[]).run Tryz.prog y = .ok (Cp.cellsR c.C) y ∧ y.cell? ⟨L, k, none⟩ = some (.int .i64 G) ∧ (RT b c w y ∧ Box y L LL)) := fun x y h hb => by
            have q1 := h.2.2.1.on hb
            have q2 := h.2.2.2.on hb
            refine ⟨q1.1.loads 38 Cp.N9 (f1 c) (f4 c), ?_, q1, q2⟩
            rw [q2.cell, ← h.2.2.2.cell]
            exact h.2.1
          replace St := hide St
          clear c1 c2
          go_wp2_with fail
          go_region_held3 (fun y => (loadCellsFrom ⟨b, 38, none⟩ 0 Cp.N9 #[]).run Tryz.prog y = .ok (Cp.cellsR c.C) y ∧ y.cell? ⟨L, k, none⟩ = some (.int .i64 G) ∧ (RT b c w y ∧ Box y L LL))
            (first | exact S1 | assumption | exact St.out _ _ (by assumption) (by assumption))
            (first
              | (go_at_call 104; refine (cr.out _).mono ?_; rintro e w2 ⟨rfl, b2⟩; go_wp2_with fail)
              | (go_at_call 80; refine (cw.out _ (by assumption) (by assumption) _).mono ?_; rintro e w2 ⟨rfl, b2⟩; go_wp2_with fail))
          have R2 : RT b c w w2 ∧ Box w2 L LL := And.right (And.right (by assumption))
          replace hR := hide R2
          clear R2 S1 St
          go_wp2
          go_roundw
          case rel => exact ⟨k + 1, by omega, by go_num, hide (by rw [hn.out]; rfl), hR⟩
          case measure => simp [intOf]; omega
        · have hk9 : k = 9 := by omega
          subst hk9
          clear hlt hk
          obtain ⟨W3, hW3⟩ : ∃ W3, W3 = wr := ⟨_, rfl⟩
          rw [← hW3] at hR ⊢
          clear hW3
          have R4 := hide hR.out.1
          clear hR
          rw [show ((9 : Nat) : Int) = 9 from rfl]
          go_wp2_with fail
          go_loopw [3, 7] (fun s i wr => ∃ k : Nat, k ≤ 8 ∧ i = .int .i64 k ∧ Hid (s = .string (texC c (47 + 2 * k))) ∧ Hid (RT b c w wr)) (fun _ i _ => 8 - (intOf i).toNat)
          case atStart => exact ⟨0, by omega, rfl, hide rfl, R4⟩
          case round =>
            clear R4
            obtain ⟨k, hk, rfl, hs, hR⟩ := hrel
            have hs' := hs.out
            subst hs'
            clear hs
            by_cases hlt : k < 8
            · have z1' : (texC c (47 + 2 * k)).size = 4 * (47 + 2 * k) := texC_size c _ (by omega)
              have hn := hide (texC_T c k hlt)
              have lim : ¬ (9223372036854775807 < 4 * (47 + 2 * k) + 8) := by omega
              obtain ⟨r0, r1⟩ := hc.out.T (k * 2)
              obtain ⟨r2, r3⟩ := hc.out.T (k * 2 + 1)
              have d1 : decide ((k : Int) < 8) = true := by simp; omega
              have S1 := RT.slot (hR.out.on (Below.refl _ wr).drew) hlt
              have k0 : (0 : Int) ≤ (k : Int) := by omega
              have k8 : (k : Int) < 8 := by omega
              generalize texC c (47 + 2 * k) = T at *
              generalize hA : c.T (k * 2) = A at *
              generalize hB : c.T (k * 2 + 1) = B at *
              replace hA := hide hA
              replace hB := hide hB
              go_wp2_with fail
              go_region_held3 (fun y => y.cell? ⟨b, 47 + k * 2, none⟩ = some (.int .u32 A) ∧ y.cell? ⟨b, 47 + k * 2 + 1, none⟩ = some (.int .u32 B) ∧ RT b c w y)
                (first | exact S1 | assumption | (rw [← hA.out, ← hB.out]; exact (RT.on (And.right (And.right (by assumption))) (by assumption)).slot hlt))
                (first
                  | (go_at_call 80; refine (cw.out _ (by assumption) (by assumption) _).mono ?_; rintro e w2 ⟨rfl, b2⟩; go_wp2_with fail))
              have R2 : RT b c w w2 := And.right (And.right (by assumption))
              replace hR := hide R2
              clear R2 S1
              go_wp2
              go_roundw
              case rel => exact ⟨k + 1, by omega, by go_num, hide (by rw [hn.out]), hR⟩
              case measure => simp [intOf]; omega
            · have hk8 : k = 8 := by omega
              subst hk8
              clear hlt hk
              have e63 : texC c (47 + 2 * 8) = textC c := texC_all c
              rw [e63]
              go_wp2
              go_ret
              exact ⟨rfl, hR.out.2⟩

end Go.Proofs.YthjcijlabpinkaaGreatDoor

namespace Go.Proofs.YthjcijlabpinkaaGreatDoor
open Go.RowKit
set_option linter.unusedVariables false
set_option maxRecDepth 100000
set_option linter.unusedSimpArgs false

theorem rat_same {s : ByteArray} (hs : s.size = 252) (n : Nat) (hn : n < 63) (w : World) :
    Calls Tryz.prog 99 #[.string s, .int .i64 n] w fun e w' => e = .returned (.int .u32 (numS s (4 * n))) ∧ w' = w := by
  have hv := fun w => Dm.rval_any (s.extract (4 * n) (4 * n + 4)) (by rw [ByteArray.size_extract]; omega) w
  rw [num_cut s (4 * n) (4 * n + 4) (by omega) (by omega)] at hv
  replace hv := hide hv
  generalize numS s (4 * n) = N at *
  have l1 : (0 : Int) ≤ 4 * (n : Int) := by omega
  have l2 : 4 * (n : Int) + 4 ≤ 252 := by omega
  have l3 : (4 * (n : Int)).toNat = 4 * n := by omega
  have l4 : (4 * (n : Int) + 4).toNat = 4 * n + 4 := by omega
  have l5 : IntKind.i64.wrap (4 * (n : Int)) = 4 * (n : Int) := by rw [IntKind.wrap_i64]; omega
  have l6 : IntKind.i64.wrap (4 * (n : Int) + 4) = 4 * (n : Int) + 4 := by rw [IntKind.wrap_i64]; omega
  have l7 : 4 * (n : Int) ≤ 4 * (n : Int) + 4 := by omega
  have l8 : (0 : Int) ≤ 4 * (n : Int) + 4 := by omega
  go_enter Tryz.func99, Tryz.ntmps99
  go_wp2_with fail
  refine (hv.out _).mono ?_
  rintro e w1 ⟨rfl, rfl⟩
  go_wp2
  go_ret
  exact ⟨rfl, rfl⟩

theorem rat_at {s : ByteArray} (hs : s.size = 252) (n : Int) (h0 : 0 ≤ n) (h1 : n < 63) (w : World) :
    Calls Tryz.prog 99 #[.string s, .int .i64 n] w fun e w' => e = .returned (.int .u32 (numS s (4 * n.toNat))) ∧ w' = w := by
  obtain ⟨k, rfl⟩ := Int.eq_ofNat_of_zero_le h0
  exact rat_same hs k (by omega) w

theorem rparse_longC {s : ByteArray} (hs : ¬ s.size = 252) (hm : s.size ≤ maxLen) (w : World) :
    Calls Tryz.prog 30 #[.string s] w fun e w' => e = .returned (.tuple #[.agg (cellsC CZ), .int .i64 130]) ∧ Below w.heap.size w w' := by
  obtain ⟨z1, z2, z3, z4, z5, z6, z7, z8, z9, z10, z11, z12, z13, z14, z15⟩ := cSizes
  obtain ⟨t1, t2, t3, t4, t5, t6, t7, t8, t9⟩ := rowRules
  obtain ⟨f1, f2, f3, f4, f5, f6, f7, f8, f9⟩ := cWhole
  unfold maxLen at hm
  have d1 : ((s.size : Int) == 252) = false := by simp; omega
  have d2 : ((s.size : Int) != 252) = true := by simp; omega
  have d3 : ¬ (s.size : Int) = 252 := by omega
  go_enter Tryz.func30, Tryz.ntmps30
  go_wp2
  exact bodyPost_ret (v := .tuple #[.agg (cellsC CZ), .int .i64 130]) (by simp [results, Tryz.results30, go_sem, z1, z7, z13, t1, t3, t4, t5, t6, f3, f6, f9]) rfl ⟨rfl, grow _ _⟩

def csR (s : ByteArray) (k : Nat) : Cs := ⟨numS s 0, numS s 4, numS s 8 == 1, fun j => if j < k then numS s (4 * (3 + j)) else 0, numS s 140, numS s 144, numS s 148 == 1, Cp.R0, Tl.T0⟩

def csT (s : ByteArray) (k : Nat) : Cs :=
  ⟨numS s 0, numS s 4, numS s 8 == 1, fun j => if j < 32 then numS s (4 * (3 + j)) else 0, numS s 140, numS s 144, numS s 148 == 1, ⟨numS s 152, numS s 156, numS s 160, numS s 164, numS s 168, numS s 172, numS s 176, numS s 180, numS s 184⟩, fun j => if j < 2 * k then numS s (4 * (47 + j)) else 0⟩

theorem csR_next (s : ByteArray) (k : Nat) : ({ csR s k with R := putR (csR s k).R k (numS s (4 * (3 + k))) } : Cs) = csR s (k + 1) := by
  refine congrArg (fun R => (⟨numS s 0, numS s 4, numS s 8 == 1, R, numS s 140, numS s 144, numS s 148 == 1, Cp.R0, Tl.T0⟩ : Cs)) ?_
  funext j
  show (if j = k then numS s (4 * (3 + k)) else if j < k then numS s (4 * (3 + j)) else 0) = if j < k + 1 then numS s (4 * (3 + j)) else 0
  by_cases h : j = k
  · subst h
    rw [if_pos rfl, if_pos (by omega)]
  · rw [if_neg h]
    by_cases h2 : j < k
    · rw [if_pos h2, if_pos (by omega)]
    · rw [if_neg h2, if_neg (by omega)]

def putW (T : Nat → Int) (k : Nat) (v : Int) : Nat → Int := fun j => if j = k then v else T j

theorem set_T (c : Cs) (k : Nat) (h : k < 16) (v : Int) : (cellsC c).setIfInBounds (47 + k) (.int .u32 v) = cellsC { c with T := putW c.T k v } :=
  match k, h with
  | 0, _ => rfl
  | 1, _ => rfl
  | 2, _ => rfl
  | 3, _ => rfl
  | 4, _ => rfl
  | 5, _ => rfl
  | 6, _ => rfl
  | 7, _ => rfl
  | 8, _ => rfl
  | 9, _ => rfl
  | 10, _ => rfl
  | 11, _ => rfl
  | 12, _ => rfl
  | 13, _ => rfl
  | 14, _ => rfl
  | 15, _ => rfl
  | n + 16, h => absurd h (by omega)

theorem csT_next (s : ByteArray) (k : Nat) : ({ csT s k with T := putW (putW (csT s k).T (k * 2) (numS s (4 * (47 + 2 * k)))) (k * 2 + 1) (numS s (4 * (48 + 2 * k))) } : Cs) = csT s (k + 1) := by
  refine congrArg (fun T => (⟨numS s 0, numS s 4, numS s 8 == 1, fun j => if j < 32 then numS s (4 * (3 + j)) else 0, numS s 140, numS s 144, numS s 148 == 1, ⟨numS s 152, numS s 156, numS s 160, numS s 164, numS s 168, numS s 172, numS s 176, numS s 180, numS s 184⟩, T⟩ : Cs)) ?_
  funext j
  show (if j = k * 2 + 1 then numS s (4 * (48 + 2 * k)) else if j = k * 2 then numS s (4 * (47 + 2 * k)) else if j < 2 * k then numS s (4 * (47 + j)) else 0) = if j < 2 * (k + 1) then numS s (4 * (47 + j)) else 0
  by_cases h : j = k * 2 + 1
  · subst h
    rw [if_pos rfl, if_pos (by omega), show 48 + 2 * k = 47 + (k * 2 + 1) by omega]
  rw [if_neg h]
  by_cases h1 : j = k * 2
  · subst h1
    rw [if_pos rfl, if_pos (by omega), show 47 + 2 * k = 47 + k * 2 by omega]
  · rw [if_neg h1]
    by_cases h2 : j < 2 * k
    · rw [if_pos h2, if_pos (by omega)]
    · rw [if_neg h2, if_neg (by omega)]

theorem csT_all (s : ByteArray) : cellsC (csT s 8) = cellsC (csOf s) := rfl

set_option maxHeartbeats 4000000 in
set_option maxRecDepth 100000 in
theorem rparse_sizedC {s : ByteArray} (hs : s.size = 252) (w : World) :
    Calls Tryz.prog 30 #[.string s] w fun e w' => e = .returned (if okP s 63 && numS s 12 == 0 then .tuple #[.agg (cellsC (csOf s)), .int .i64 0] else .tuple #[.agg (cellsC CZ), .int .i64 130]) ∧ Below w.heap.size w w' := by
  obtain ⟨z1, z2, z3, z4, z5, z6, z7, z8, z9, z10, z11, z12, z13, z14, z15⟩ := cSizes
  obtain ⟨t1, t2, t3, t4, t5, t6, t7, t8, t9⟩ := rowRules
  obtain ⟨f1, f2, f3, f4, f5, f6, f7, f8, f9⟩ := cWhole
  obtain ⟨s0, s1, s2, s3, s4, s5, s6, s7, s8, s9⟩ := cSets
  obtain ⟨p0, p1, p2, p3, p4, p5, p6, p7, p8, p9⟩ := cParts
  have ca := hide (fun n h0 h1 x => rat_at hs n h0 h1 x)
  obtain ⟨ok, hok⟩ : ∃ ok, okP s 63 = ok := ⟨_, rfl⟩
  obtain ⟨N, hN⟩ : ∃ N, numS s 12 = N := ⟨_, rfl⟩
  obtain ⟨C, hC⟩ : ∃ C, csOf s = C := ⟨_, rfl⟩
  have hR0 := hide (show (cellsC (csOf s))[3]? = some (.int .u32 (numS s 12)) from rfl)
  have tc := hide (text_csOf hs)
  have hCw := hide (csOf_w s)
  have hCa := hide (csT_all s)
  rw [hok, hN, hC]
  rw [hN, hC] at hR0
  rw [hok, hC] at tc
  rw [hC] at hCw hCa
  clear hok hN hC
  go_enter Tryz.func30, Tryz.ntmps30
  go_wp2_with fail
  have b0 := hide (Box.new w (cellsC CZ) 31)
  have B0 := hide (grow w (.cells (cellsC CZ) 31))
  generalize w.alloc (.cells (cellsC CZ) 31) = x0 at *
  refine (ca.out _ (by decide) (by decide) _).mono ?_
  rintro e x ⟨rfl, rfl⟩
  go_wp2_with fail
  refine (ca.out _ (by decide) (by decide) _).mono ?_
  rintro e x ⟨rfl, rfl⟩
  go_wp2_with fail
  refine (ca.out _ (by decide) (by decide) _).mono ?_
  rintro e x ⟨rfl, rfl⟩
  go_wp2_with fail
  refine (ca.out _ (by decide) (by decide) _).mono ?_
  rintro e x ⟨rfl, rfl⟩
  go_wp2_with fail
  refine (ca.out _ (by decide) (by decide) _).mono ?_
  rintro e x ⟨rfl, rfl⟩
  go_wp2_with fail
  refine (ca.out _ (by decide) (by decide) _).mono ?_
  rintro e x ⟨rfl, rfl⟩
  go_wp2_with fail
  have hcs : cellsC { pc := numS s 0, nx := numS s 4, dl := numS s 8 == 1, R := CZ.R, hi := numS s 140, lo := numS s 144, lk := numS s 148 == 1, C := CZ.C, T := CZ.T } = cellsC (csR s 0) := rfl
  rw [hcs]
  have hne : Hid (w.heap.size < x.heap.size) := hide b0.out.2.2
  have bC := hide (Box.new x (cellsC (csR s 0)) 31)
  replace b0 := hide (b0.out.on (grow x (.cells (cellsC (csR s 0)) 31)))
  replace B0 := hide (onto B0.out (Nat.le_refl _) (grow x (.cells (cellsC (csR s 0)) 31)))
  generalize x.heap.size = Lc at *
  generalize x.alloc (.cells (cellsC (csR s 0)) 31) = x1 at *
  clear hcs
  go_loopw [5] (fun i wr => ∃ k : Nat, k ≤ 32 ∧ i = .int .i64 k ∧ Hid (Box wr Lc (cellsC (csR s k)) ∧ Box wr w.heap.size (cellsC CZ) ∧ Below w.heap.size w wr)) (fun i _ => 32 - (intOf i).toNat)
  case atStart => exact ⟨0, by omega, rfl, hide ⟨bC.out, b0.out, B0.out⟩⟩
  case round =>
    clear bC b0 B0
    obtain ⟨k, hk, rfl, hR⟩ := hrel
    by_cases hlt : k < 32
    · have d1 : decide ((k : Int) < 32) = true := by simp; omega
      have ck : Hid (∀ x, Calls Tryz.prog 99 #[.string s, .int .i64 (3 + (k : Int))] x fun e w' => e = .returned (.int .u32 (numS s (4 * (3 + k)))) ∧ w' = x) := hide fun x => by
        have := rat_at hs (3 + (k : Int)) (by omega) (by omega) x
        rwa [show (3 + (k : Int)).toNat = 3 + k by omega] at this
      have nx := hide (csR_next s k)
      generalize numS s (4 * (3 + k)) = V at *
      obtain ⟨r1, r2, r3, r4, r5⟩ := hR.out.1.cells
      obtain ⟨q1, q2, q3, q4, q5, q6⟩ := stRules Lc
      have k0 : (0 : Int) ≤ (k : Int) := by omega
      have k1 : (k : Int) < 32 := by omega
      go_wp2_with fail
      refine (ck.out _).mono ?_
      rintro e y ⟨rfl, rfl⟩
      go_wp2
      rw [nx.out]
      refine ⟨⟨k + 1, by omega, by simp, hide ⟨hR.out.1.set _, hR.out.2.1.far Lc _ (by have := hne.out; omega), below_setRow (g := Lc) hR.out.2.2 (by have := hne.out; omega) _⟩⟩, by simp [intOf]; omega⟩
    · have hk32 : k = 32 := by omega
      subst hk32
      clear hlt hk
      obtain ⟨W1, hW1⟩ : ∃ W1, W1 = wr := ⟨_, rfl⟩
      rw [← hW1] at hR ⊢
      clear hW1
      rw [show ((32 : Nat) : Int) = 32 from rfl]
      obtain ⟨r1, r2, r3⟩ := hR.out.1
      have v0 : ∀ (r : Cp.Regs) (x : Int), (Cp.cellsR r).toList.set 0 (.int .u32 x) = (Cp.cellsR { r with i := x }).toList := fun _ _ => rfl
      have v1 : ∀ (r : Cp.Regs) (x : Int), (Cp.cellsR r).toList.set 1 (.int .u32 x) = (Cp.cellsR { r with l := x }).toList := fun _ _ => rfl
      have v2 : ∀ (r : Cp.Regs) (x : Int), (Cp.cellsR r).toList.set 2 (.int .u32 x) = (Cp.cellsR { r with b := x }).toList := fun _ _ => rfl
      have v3 : ∀ (r : Cp.Regs) (x : Int), (Cp.cellsR r).toList.set 3 (.int .u32 x) = (Cp.cellsR { r with n := x }).toList := fun _ _ => rfl
      have v4 : ∀ (r : Cp.Regs) (x : Int), (Cp.cellsR r).toList.set 4 (.int .u32 x) = (Cp.cellsR { r with h := x }).toList := fun _ _ => rfl
      have v5 : ∀ (r : Cp.Regs) (x : Int), (Cp.cellsR r).toList.set 5 (.int .u32 x) = (Cp.cellsR { r with p := x }).toList := fun _ _ => rfl
      have v6 : ∀ (r : Cp.Regs) (x : Int), (Cp.cellsR r).toList.set 6 (.int .u32 x) = (Cp.cellsR { r with s := x }).toList := fun _ _ => rfl
      have v7 : ∀ (r : Cp.Regs) (x : Int), (Cp.cellsR r).toList.set 7 (.int .u32 x) = (Cp.cellsR { r with c := x }).toList := fun _ _ => rfl
      have v8 : ∀ (r : Cp.Regs) (x : Int), (Cp.cellsR r).toList.set 8 (.int .u32 x) = (Cp.cellsR { r with e := x }).toList := fun _ _ => rfl
      go_wp2_with fail
      refine (ca.out _ (by decide) (by decide) _).mono ?_
      rintro e x ⟨rfl, rfl⟩
      go_wp2_with fail
      refine (ca.out _ (by decide) (by decide) _).mono ?_
      rintro e x ⟨rfl, rfl⟩
      go_wp2_with fail
      refine (ca.out _ (by decide) (by decide) _).mono ?_
      rintro e x ⟨rfl, rfl⟩
      go_wp2_with fail
      refine (ca.out _ (by decide) (by decide) _).mono ?_
      rintro e x ⟨rfl, rfl⟩
      go_wp2_with fail
      refine (ca.out _ (by decide) (by decide) _).mono ?_
      rintro e x ⟨rfl, rfl⟩
      go_wp2_with fail
      refine (ca.out _ (by decide) (by decide) _).mono ?_
      rintro e x ⟨rfl, rfl⟩
      go_wp2_with fail
      refine (ca.out _ (by decide) (by decide) _).mono ?_
      rintro e x ⟨rfl, rfl⟩
      go_wp2_with fail
      refine (ca.out _ (by decide) (by decide) _).mono ?_
      rintro e x ⟨rfl, rfl⟩
      go_wp2_with fail
      refine (ca.out _ (by decide) (by decide) _).mono ?_
      rintro e x ⟨rfl, rfl⟩
      go_wp2_with fail
      have hcs : cellsC { pc := (csR s 32).pc, nx := (csR s 32).nx, dl := (csR s 32).dl, R := (csR s 32).R, hi := (csR s 32).hi, lo := (csR s 32).lo, lk := (csR s 32).lk, C := { i := numS s 152, l := numS s 156, b := numS s 160, n := numS s 164, h := numS s 168, p := numS s 172, s := numS s 176, c := numS s 180, e := numS s 184 }, T := (csR s 32).T } = cellsC (csT s 0) := rfl
      rw [hcs]
      have T1 : Hid (Box (x.setRow Lc (cellsC (csT s 0))) Lc (cellsC (csT s 0)) ∧ Box (x.setRow Lc (cellsC (csT s 0))) w.heap.size (cellsC CZ) ∧ Below w.heap.size w (x.setRow Lc (cellsC (csT s 0)))) := hide ⟨hR.out.1.set _, hR.out.2.1.far Lc _ (by have := hne.out; omega), below_setRow (g := Lc) hR.out.2.2 (by have := hne.out; omega) _⟩
      clear hcs hR r1 r2 r3 v0 v1 v2 v3 v4 v5 v6 v7 v8
      generalize x.setRow Lc (cellsC (csT s 0)) = x2 at *
      go_loopw [6] (fun i wr => ∃ k : Nat, k ≤ 8 ∧ i = .int .i64 k ∧ Hid (Box wr Lc (cellsC (csT s k)) ∧ Box wr w.heap.size (cellsC CZ) ∧ Below w.heap.size w wr)) (fun i _ => 8 - (intOf i).toNat)
      case atStart => exact ⟨0, by omega, rfl, T1⟩
      case round =>
        clear T1
        obtain ⟨k, hk, rfl, hR⟩ := hrel
        by_cases hlt : k < 8
        · have d1 : decide ((k : Int) < 8) = true := by simp; omega
          have ck : Hid (∀ x, Calls Tryz.prog 99 #[.string s, .int .i64 (47 + 2 * (k : Int))] x fun e w' => e = .returned (.int .u32 (numS s (4 * (47 + 2 * k)))) ∧ w' = x) := hide fun x => by
            have := rat_at hs (47 + 2 * (k : Int)) (by omega) (by omega) x
            rwa [show (47 + 2 * (k : Int)).toNat = 47 + 2 * k by omega] at this
          have ck2 : Hid (∀ x, Calls Tryz.prog 99 #[.string s, .int .i64 (48 + 2 * (k : Int))] x fun e w' => e = .returned (.int .u32 (numS s (4 * (48 + 2 * k)))) ∧ w' = x) := hide fun x => by
            have := rat_at hs (48 + 2 * (k : Int)) (by omega) (by omega) x
            rwa [show (48 + 2 * (k : Int)).toNat = 48 + 2 * k by omega] at this
          have nx := hide (csT_next s k)
          generalize numS s (4 * (47 + 2 * k)) = V at *
          generalize numS s (4 * (48 + 2 * k)) = U at *
          obtain ⟨r1, r2, r3, r4, r5⟩ := hR.out.1.cells
          obtain ⟨q1, q2, q3, q4, q5, q6⟩ := stRules Lc
          have k0 : (0 : Int) ≤ (k : Int) := by omega
          have k1 : (k : Int) < 8 := by omega
          have h1 : k * 2 < 16 := by omega
          have h2 : k * 2 + 1 < 16 := by omega
          have pT : ∀ (c : Cs) (j : Nat), j < 16 → (cellsC c)[47 + j]? = some (.int .u32 (c.T j)) := get_T
          have sT : ∀ (c : Cs) (j : Nat), j < 16 → ∀ v : Int, (cellsC c).setIfInBounds (47 + j) (.int .u32 v) = cellsC { c with T := putW c.T j v } := fun c j h v => set_T c j h v
          have pU : ∀ (c : Cs), (cellsC c)[47 + k * 2 + 1]? = some (.int .u32 (c.T (k * 2 + 1))) := fun c => get_T c (k * 2 + 1) h2
          have sU : ∀ (c : Cs) (v : Int), (cellsC c).setIfInBounds (47 + k * 2 + 1) (.int .u32 v) = cellsC { c with T := putW c.T (k * 2 + 1) v } := fun c v => set_T c (k * 2 + 1) h2 v
          go_wp2_with fail
          refine (ck.out _).mono ?_
          rintro e y ⟨rfl, rfl⟩
          go_wp2_with fail
          refine (ck2.out _).mono ?_
          rintro e y ⟨rfl, rfl⟩
          go_wp2
          rw [nx.out]
          refine ⟨⟨k + 1, by omega, by simp, hide ⟨hR.out.1.set _, hR.out.2.1.far Lc _ (by have := hne.out; omega), below_setRow (g := Lc) hR.out.2.2 (by have := hne.out; omega) _⟩⟩, by simp [intOf]; omega⟩
        · have hk8 : k = 8 := by omega
          subst hk8
          clear hlt hk
          rw [hCa.out] at hR
          obtain ⟨W2, hW2⟩ : ∃ W2, W2 = wr := ⟨_, rfl⟩
          rw [← hW2] at hR ⊢
          clear hW2
          rw [show ((8 : Nat) : Int) = 8 from rfl]
          have tx := hide (fun y h => rtextC_any hCw.out (b := Lc) y h)
          obtain ⟨r1, r2, r3, r4, r5⟩ := hR.out.1.cells
          have g1 : W2.cell? ⟨Lc, 3, none⟩ = some (.int .u32 N) := by rw [r4]; exact hR0.out
          clear r4
          by_cases hz : N = 0
          · subst hz
            go_wp2_with fail
            refine (tx.out _ hR.out.1).mono ?_
            rintro e y ⟨rfl, b9⟩
            have b2 := hide (hR.out.2.1.on b9)
            have b1 := hR.out.1.on b9
            have fin := hide (fun c : Array Value => below_setRow (g := w.heap.size) (onto hR.out.2.2 (Nat.le_refl _) b9) (Nat.le_refl _) c)
            clear b9 g1 r1 r2 r3 r5 hR
            obtain ⟨r1, r2, r3⟩ := b1
            obtain ⟨q1, q2, q3⟩ := b2.out
            by_cases ht : textC C = s
            · have h9 : ok = true := tc.out.1 ht
              subst h9
              rw [ht]
              go_wp2
              exact bodyPost_ret (v := .tuple #[.agg (cellsC C), .int .i64 0]) (by simp [results, Tryz.results30, go_sem, z1, z7, z13, t1, t3, f3, f6, f9, q1, q2]) rfl ⟨rfl, fin.out _⟩
            · have h9 : ok = false := by
                cases ok
                · rfl
                · exact absurd (tc.out.2 rfl) ht
              subst h9
              have hb : ((textC C).toList == s.toList) = false := by
                rw [beq_eq_false_iff_ne]
                exact fun e => ht (by rw [ByteArray.toList_eq, ByteArray.toList_eq] at e; exact ByteArray.ext (Array.ext' e))
              have hb2 : ¬ (textC C).toList = s.toList := by simpa using hb
              generalize textC C = TX at *
              go_wp2
              all_goals exact bodyPost_ret (v := .tuple #[.agg (cellsC CZ), .int .i64 130]) (by simp [results, Tryz.results30, go_sem, z1, z7, z13, t1, t3, f3, f6, f9, q1, q2]) rfl ⟨rfl, fin.out _⟩
          · have hz1 : (N == 0) = false := by simpa using hz
            have hz2 : (N != 0) = true := by simpa using hz
            have fin := hide (fun c : Array Value => below_setRow (g := w.heap.size) hR.out.2.2 (Nat.le_refl _) c)
            obtain ⟨q1, q2, q3⟩ := hR.out.2.1
            clear hR tx
            go_wp2
            all_goals exact bodyPost_ret (v := .tuple #[.agg (cellsC CZ), .int .i64 130]) (by simp [results, Tryz.results30, go_sem, z1, z7, z13, t1, t3, f3, f6, f9, q1, q2]) rfl ⟨by first | rfl | simp [hz], fin.out _⟩

end Go.Proofs.YthjcijlabpinkaaGreatDoor
