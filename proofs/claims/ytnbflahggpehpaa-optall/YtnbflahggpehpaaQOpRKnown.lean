/- Layer 15: the document's known and means. -/
import Derived.Test.YtnbflahggpehpaaQOpOpen
namespace Go.Proofs.Ytnbflahggpehpaa.Ir
open Go.RowKit
set_option linter.unusedVariables false
set_option maxRecDepth 100000
set_option linter.unusedSimpArgs false

/-- What a register is known to be behind operations, as the document says: the last one first. -/
def knowR (n : Int) : List Mi → Int × Bool
  | [] => (0, false)
  | m :: r => if ¬ m.k = 0 ∧ m.d = n then (m.m, m.k == 1) else knowR n r

def knowD (n : Int) (l : List Mi) : Int × Bool := if n = 0 then (0, true) else knowR n l.reverse

/-- A world in which all that was there ahead of it is as it was. -/
structure OnW (w : World) where
  x : World
  h : Below w.heap.size w x

def OnW.on {w z : World} (y : OnW w) (hb : Below y.x.heap.size y.x z) : OnW w := ⟨z, onto y.h (Nat.le_refl _) hb⟩

set_option maxHeartbeats 4000000 in
theorem rknown_any {w : World} {v : Value} {l : List Mi} (h : IsOps w v l) (hl : l.length ≤ 16) (n : Int) : Calls Try.prog 53 #[v, .int .i64 (l.length : Int), .int .i64 n] w fun e w' =>
    e = .returned (.tuple #[.int .u32 (knowD n l).1, .bool (knowD n l).2]) ∧ Below w.heap.size w w' := by
  obtain ⟨r1, r2, r3, r4, r5, r6, r7, r8, r9⟩ := rowRules
  obtain ⟨s1, s2, s3, s4, s5, s6, s7, s8, s9, s10⟩ := irSizes
  obtain ⟨q1, q2, q3, q4, q5, q6⟩ := irWhole
  obtain ⟨ad, N, c, rfl, hn, hmx, hm⟩ := h.open'
  rw [← hn] at hl ⊢
  obtain ⟨F, hF⟩ : ∃ F, knowD n l = F := ⟨_, rfl⟩
  rw [hF]
  unfold knowD at hF
  replace hm := hide hm
  clear h
  by_cases e0 : n = 0
  · rw [if_pos e0] at hF
    subst hF
    have d0 : (n == 0) = true := by simpa using e0
    clear e0
    go_enter Try.func53, Try.ntmps53
    go_wp2
    go_ret2
    exact ⟨rfl, Below.refl _ _⟩
  · rw [if_neg e0] at hF
    have d0 : (n == 0) = false := by simpa using e0
    have hF0 : Hid (knowR n (l.take N).reverse = F) := hide (by rw [List.take_of_length_le (by omega)]; exact hF)
    replace hn := hide hn
    clear hF
    go_enter Try.func53, Try.ntmps53
    go_wp2_with fail
    go_loopw [8] (fun i wr => ∃ (k : Nat) (z : Int), k ≤ N ∧ i = .int .i64 z ∧ Hid (z = (k : Int) - 1) ∧ Hid (knowR n (l.take k).reverse = F) ∧ Hid (Below w.heap.size w wr)) (fun i _ => (intOf i + 1).toNat)
    case atStart => exact ⟨N, _, Nat.le_refl _, rfl, hide rfl, hF0, hide (Below.refl _ _)⟩
    case round =>
      obtain ⟨k, z, hk, rfl, hz, hK, hb⟩ := hrel
      clear hF0
      match k, hk, hz, hK with
      | 0, hk, hz, hK =>
        obtain rfl : z = -1 := by have := hz.out; omega
        obtain rfl : F = (0, false) := by rw [← hK.out]; rfl
        go_wp2
        go_ret2
        exact ⟨rfl, hb.out⟩
      | j + 1, hk, hz, hK =>
        obtain rfl : z = (j : Int) := by have := hz.out; omega
        have hd : decide ((0 : Int) ≤ (j : Int)) = true := by simp
        obtain ⟨m, hm0⟩ : ∃ m, l[j]? = some m := ⟨l[j]'(by have := hn.out; omega), List.getElem?_eq_getElem _⟩
        obtain ⟨g, o, rfl, hg, hM0⟩ := hm.out j m hm0
        have hM := hM0.on hg hb.out
        have x0 : wr.cell? ⟨g, o + j * N6, none⟩ = some (.int .i64 m.k) := hM 0 (by decide)
        have x1 : wr.cell? ⟨g, o + j * N6 + 1, none⟩ = some (.int .i64 m.d) := hM 1 (by decide)
        have x4 : wr.cell? ⟨g, o + j * N6 + 4, none⟩ = some (.int .u32 m.m) := hM 4 (by decide)
        have hK2 := hK.out
        rw [List.take_add_one, hm0] at hK2
        simp only [Option.toList_some, List.reverse_append, List.reverse_cons, List.reverse_nil, List.nil_append, List.singleton_append] at hK2
        rw [knowR] at hK2
        replace hK2 := hide hK2
        clear hK hM0 hm0 hz hM
        by_cases hk0 : m.k = 0
        · have dk0 : (m.k != 0) = false := by simpa using hk0
          have dk1 : (m.k == 0) = true := by simpa using hk0
          have hK3 : Hid (knowR n (l.take j).reverse = F) := hide (by rw [← hK2.out, if_neg (fun h => h.1 hk0)])
          clear hK2 hk0
          go_wp2
          go_roundw
          case rel => exact ⟨j, _, by omega, rfl, hide rfl, hK3, hb⟩
          case measure => simp [intOf]
        · have dk0 : (m.k != 0) = true := by simpa using hk0
          have dk1 : (m.k == 0) = false := by simpa using hk0
          by_cases hd0 : m.d = n
          · have dd0 : (m.d == n) = true := by simpa using hd0
            obtain rfl : F = (m.m, m.k == 1) := by rw [← hK2.out, if_pos ⟨hk0, hd0⟩]
            clear hK2 hd0
            have z0 : wr.drew.cell? ⟨g, o + j * N6, none⟩ = some (.int .i64 m.k) := x0
            have z4 : wr.drew.cell? ⟨g, o + j * N6 + 4, none⟩ = some (.int .u32 m.m) := x4
            have hb2 := hide hb.out.drew
            go_wp2_with fail
            go_region
            go_wp2
            go_ret2
            exact ⟨rfl, hb2.out⟩
          · have dd0 : (m.d == n) = false := by simpa using hd0
            have hK3 : Hid (knowR n (l.take j).reverse = F) := hide (by rw [← hK2.out, if_neg (fun h => hd0 h.2)])
            clear hK2
            go_wp2
            go_roundw
            case rel => exact ⟨j, _, by omega, rfl, hide rfl, hK3, hb⟩
            case measure => simp [intOf]

/-- What A or B means. -/
def meanD (n imm : Int) (l : List Mi) : Int × Bool := if n = 32 then (imm, true) else knowD n l

set_option maxHeartbeats 4000000 in
theorem rmeans_any {w : World} {v : Value} {l : List Mi} (h : IsOps w v l) (hl : l.length ≤ 16) (m : Mi) (n : Int) : Calls Try.prog 35 #[v, .int .i64 (l.length : Int), .agg (cellsM m), .int .i64 n] w fun e w' =>
    e = .returned (.tuple #[.int .u32 (meanD n m.m l).1, .bool (meanD n m.m l).2]) ∧ Below w.heap.size w w' := by
  obtain ⟨r1, r2, r3, r4, r5, r6, r7, r8, r9⟩ := rowRules
  obtain ⟨s1, s2, s3, s4, s5, s6, s7, s8, s9, s10⟩ := irSizes
  obtain ⟨p1, p2, p3, p4, p5, p6, p7⟩ := irParts
  have g0 := grow w (.cells (cellsM m) 34)
  have ck := hide (rknown_any (h.on g0) hl n)
  replace g0 := hide g0
  unfold meanD
  clear h
  by_cases e : n = 32
  · have d : (n == 32) = true := by simpa using e
    rw [if_pos e]
    clear e
    go_enter Try.func35, Try.ntmps35
    go_wp2
    go_ret2
    exact ⟨rfl, g0.out⟩
  · have d : (n == 32) = false := by simpa using e
    rw [if_neg e]
    go_enter Try.func35, Try.ntmps35
    go_wp2_with fail
    refine ck.out.mono ?_
    rintro r w1 ⟨rfl, h1⟩
    have b1 := hide (onto g0.out (Nat.le_refl _) h1)
    clear ck h1 g0
    go_wp2
    go_ret2
    exact ⟨rfl, b1.out⟩

end Go.Proofs.Ytnbflahggpehpaa.Ir
