/- Layer 15: the document's source. -/
import Derived.Test.YtnbflahggpehpaaQOpRKnown
namespace Go.Proofs.Ytnbflahggpehpaa.Ir
open Go.RowKit
set_option linter.unusedVariables false
set_option maxRecDepth 100000
set_option linter.unusedSimpArgs false

/-- Does an operation write a register, as the document says? -/
def dwr (m : Mi) (n : Int) : Bool := !(m.k == 0) && m.d == n

/-- The register of which one is a copy behind operations, the last one first; what stood behind them is given beside. -/
def srcR (n : Int) : List Mi → List Mi → Int
  | [], _ => n
  | m :: r, aft => if dwr m n = true then (if m.k = 2 ∧ m.a < 32 ∧ ¬ m.a = n then (if aft.any (fun x => dwr x m.a) = true then n else m.a) else n) else srcR n r (m :: aft)

def srcD (n : Int) (l : List Mi) : Int := srcR n l.reverse []

set_option maxHeartbeats 4000000 in
theorem rsource_any {w : World} {v : Value} {l : List Mi} (h : IsOps w v l) (hl : l.length ≤ 16) (n : Int) : Calls Try.prog 30 #[v, .int .i64 (l.length : Int), .int .i64 n] w fun e w' =>
    e = .returned (.int .i64 (srcD n l)) ∧ Below w.heap.size w w' := by
  obtain ⟨r1, r2, r3, r4, r5, r6, r7, r8, r9⟩ := rowRules
  obtain ⟨s1, s2, s3, s4, s5, s6, s7, s8, s9, s10⟩ := irSizes
  obtain ⟨q1, q2, q3, q4, q5, q6⟩ := irWhole
  obtain ⟨p1, p2, p3, p4, p5, p6, p7⟩ := irParts
  obtain ⟨ad, N, c, rfl, hn, hmx, hm⟩ := h.open'
  rw [← hn] at hl ⊢
  obtain ⟨F, hF⟩ : ∃ F, srcD n l = F := ⟨_, rfl⟩
  rw [hF]
  unfold srcD at hF
  have hF0 : Hid (srcR n (l.take N).reverse (l.drop N) = F) := hide (by rw [List.take_of_length_le (by omega), List.drop_eq_nil_of_le (by omega)]; exact hF)
  replace hm := hide hm
  replace hn := hide hn
  clear h hF
  go_enter Try.func30, Try.ntmps30
  go_wp2_with fail
  go_loopw [7] (fun i wr => ∃ (k : Nat) (z : Int), k ≤ N ∧ i = .int .i64 z ∧ Hid (z = (k : Int) - 1) ∧ Hid (srcR n (l.take k).reverse (l.drop k) = F) ∧ Hid (Below w.heap.size w wr)) (fun i _ => (intOf i + 1).toNat)
  case atStart => exact ⟨N, _, Nat.le_refl _, rfl, hide rfl, hF0, hide (Below.refl _ _)⟩
  case round =>
    obtain ⟨k, z, hk, rfl, hz, hK, hb⟩ := hrel
    clear hF0
    match k, hk, hz, hK with
    | 0, hk, hz, hK =>
      obtain rfl : z = -1 := by have := hz.out; omega
      obtain rfl : F = n := by rw [← hK.out]; rfl
      go_wp2
      go_ret
      exact ⟨rfl, hb.out⟩
    | j + 1, hk, hz, hK =>
      obtain rfl : z = (j : Int) := by have := hz.out; omega
      have hd : decide ((0 : Int) ≤ (j : Int)) = true := by simp
      obtain ⟨m, hm0⟩ : ∃ m, l[j]? = some m := ⟨l[j]'(by have := hn.out; omega), List.getElem?_eq_getElem _⟩
      obtain ⟨g, o, rfl, hg, hM0⟩ := hm.out j m hm0
      have hM := hM0.on hg hb.out
      have hld : (loadCellsFrom ⟨g, o + j * N6, none⟩ 0 N6 #[]).run Try.prog wr = .ok (cellsM m) wr := hM.load
      have hK2 := hK.out
      rw [List.take_add_one, hm0] at hK2
      simp only [Option.toList_some, List.reverse_append, List.reverse_cons, List.reverse_nil, List.nil_append, List.singleton_append] at hK2
      rw [srcR, ← drop_at hm0] at hK2
      replace hK2 := hide hK2
      have hgr := grow wr (.cells (cellsM m) 34)
      have hb2 := hide (onto hb.out (Nat.le_refl _) hgr)
      have xM := hide (Box.new wr (cellsM m) 34)
      clear hK hM hM0 hm0 hz hb hgr
      by_cases hk0 : m.k = 0
      · have dk1 : (m.k == 0) = true := by simpa using hk0
        have hK3 : Hid (srcR n (l.take j).reverse (l.drop j) = F) := hide (by rw [← hK2.out, if_neg (by simp [dwr, hk0])])
        clear hK2 hk0
        go_wp2
        go_roundw
        case rel => exact ⟨j, _, by omega, rfl, hide rfl, hK3, hb2⟩
        case measure => simp [intOf]
      · have dk1 : (m.k == 0) = false := by simpa using hk0
        by_cases hd0 : m.d = n
        · have dd0 : (m.d != n) = false := by simpa using hd0
          have dd1 : (m.d == n) = true := by simpa using hd0
          have hK3 : Hid ((if m.k = 2 ∧ m.a < 32 ∧ ¬ m.a = n then (if (l.drop (j + 1)).any (fun x => dwr x m.a) = true then n else m.a) else n) = F) := hide (by
            have e := hK2.out
            rw [if_pos (by simp [dwr, hk0, hd0])] at e
            exact e)
          clear hK2 hd0 hk0
          by_cases k2 : m.k = 2
          · have dk2 : (m.k != 2) = false := by simpa using k2
            have dk3 : (m.k == 2) = true := by simpa using k2
            replace k2 := hide k2
            by_cases a32 : m.a < 32
            · have da : decide (32 ≤ m.a) = false := by simp; omega
              by_cases an : m.a = n
              · have dn : (m.a == n) = true := by simpa using an
                obtain rfl : F = n := by rw [← hK3.out, if_neg (fun h => h.2.2 an)]
                clear hK3 an
                go_wp2
                go_ret
                exact ⟨rfl, hb2.out⟩
              · have dn : (m.a == n) = false := by simpa using an
                obtain ⟨G, hG⟩ : ∃ G, (l.drop (j + 1)).any (fun x => dwr x m.a) = G := ⟨_, rfl⟩
                have hK4 : Hid ((if G = true then n else m.a) = F) := hide (by
                  have e := hK3.out
                  rw [if_pos ⟨k2.out, a32, an⟩, hG] at e
                  exact e)
                replace hG := hide hG
                clear hK3
                go_wp2_with fail
                generalize wr.heap.size = LM at *
                generalize World.alloc wr _ = W1 at *
                go_loopw [9] (fun i wr => ∃ t : Nat, j + 1 ≤ t ∧ t ≤ N ∧ i = .int .i64 (t : Int) ∧ Hid ((l.drop t).any (fun x => dwr x m.a) = G) ∧ Hid (Box wr LM (cellsM m)) ∧ Hid (Below w.heap.size w wr)) (fun i _ => N - (intOf i).toNat)
                case atStart => exact ⟨j + 1, Nat.le_refl _, by omega, by go_num, hG, xM, hb2⟩
                case round =>
                  obtain ⟨t, ht, htN, rfl, hGt, xT, hbT⟩ := hrel
                  clear hG xM hb2 hld
                  have z2 : wr.cell? ⟨LM, 2, none⟩ = some (.int .i64 m.a) := (xT.out.cell 2).trans (p3 m)
                  by_cases hlt : t < N
                  · have dt : decide ((t : Int) < (N : Int)) = true := by simp; omega
                    obtain ⟨x, hx0⟩ : ∃ x, l[t]? = some x := ⟨l[t]'(by have := hn.out; omega), List.getElem?_eq_getElem _⟩
                    obtain ⟨g', o', e', hg', hX0⟩ := hm.out t x hx0
                    cases e'
                    have hX := hX0.on hg' hbT.out
                    have x0 : wr.drew.cell? ⟨g, o + t * N6, none⟩ = some (.int .i64 x.k) := hX 0 (by decide)
                    have x1 : wr.drew.cell? ⟨g, o + t * N6 + 1, none⟩ = some (.int .i64 x.d) := hX 1 (by decide)
                    have z3 : wr.drew.cell? ⟨LM, 2, none⟩ = some (.int .i64 m.a) := z2
                    have xD : Hid (Box wr.drew LM (cellsM m)) := hide xT.out.drew
                    have hbD := hide hbT.out.drew
                    have hG2 := hGt.out
                    rw [drop_at hx0, List.any_cons] at hG2
                    replace hG2 := hide hG2
                    clear hGt hX hX0 hx0
                    by_cases hk0 : x.k = 0
                    · have dk0 : (x.k != 0) = false := by simpa using hk0
                      have dk1 : (x.k == 0) = true := by simpa using hk0
                      have hG3 : Hid ((l.drop (t + 1)).any (fun x => dwr x m.a) = G) := hide (by rw [← hG2.out]; simp [dwr, hk0])
                      clear hG2 hk0
                      go_wp2_with fail
                      go_region
                      go_wp2
                      go_roundw
                      case rel => exact ⟨t + 1, by omega, by omega, by go_num, hG3, xD, hbD⟩
                      case measure => simp [intOf]; omega
                    · have dk0 : (x.k != 0) = true := by simpa using hk0
                      have dk1 : (x.k == 0) = false := by simpa using hk0
                      by_cases hd0 : x.d = m.a
                      · have dd0 : (x.d == m.a) = true := by simpa using hd0
                        obtain rfl : G = true := by rw [← hG2.out]; simp [dwr, hk0, hd0]
                        obtain rfl : F = n := by rw [← hK4.out, if_pos rfl]
                        clear hG2 hd0 hK4
                        go_wp2_with fail
                        go_region
                        go_wp2
                        go_ret
                        exact ⟨rfl, hbD.out⟩
                      · have dd0 : (x.d == m.a) = false := by simpa using hd0
                        have hG3 : Hid ((l.drop (t + 1)).any (fun x => dwr x m.a) = G) := hide (by rw [← hG2.out]; simp [dwr, hd0])
                        clear hG2
                        go_wp2_with fail
                        go_region
                        go_wp2
                        go_roundw
                        case rel => exact ⟨t + 1, by omega, by omega, by go_num, hG3, xD, hbD⟩
                        case measure => simp [intOf]; omega
                  · have dt : decide ((t : Int) < (N : Int)) = false := by simp; omega
                    obtain rfl : G = false := by rw [← hGt.out, List.drop_eq_nil_of_le (by have := hn.out; omega)]; rfl
                    obtain rfl : F = m.a := by rw [← hK4.out, if_neg (by simp)]
                    clear hK4 hGt
                    go_wp2
                    go_ret
                    exact ⟨rfl, hbT.out⟩
            · have da : decide (32 ≤ m.a) = true := by simp; omega
              obtain rfl : F = n := by rw [← hK3.out, if_neg (fun h => a32 h.2.1)]
              clear hK3
              go_wp2
              go_ret
              exact ⟨rfl, hb2.out⟩
          · have dk2 : (m.k != 2) = true := by simpa using k2
            have dk3 : (m.k == 2) = false := by simpa using k2
            obtain rfl : F = n := by rw [← hK3.out, if_neg (fun h => k2 h.1)]
            clear hK3
            go_wp2
            go_ret
            exact ⟨rfl, hb2.out⟩
        · have dd0 : (m.d != n) = true := by simpa using hd0
          have dd1 : (m.d == n) = false := by simpa using hd0
          have hK3 : Hid (srcR n (l.take j).reverse (l.drop j) = F) := hide (by rw [← hK2.out, if_neg (by simp [dwr, hd0])])
          clear hK2
          go_wp2
          go_roundw
          case rel => exact ⟨j, _, by omega, rfl, hide rfl, hK3, hb2⟩
          case measure => simp [intOf]

end Go.Proofs.Ytnbflahggpehpaa.Ir
