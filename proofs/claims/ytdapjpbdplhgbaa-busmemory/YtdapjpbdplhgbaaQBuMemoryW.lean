/- What is stored in memory is loaded, and peeked; devices are not touched by it. -/
import Derived.Test.YtdapjpbdplhgbaaQBuLaws
namespace Go.Proofs.Ytdapjpbdplhgbaa
open Go.RowKit
set_option linter.unusedVariables false
set_option maxRecDepth 100000

/-- The first k words lie in memory from A on. -/
def Lie (zs : List Int) (A k : Nat) (B : Nat → Nat) : Prop := ∀ j z, j < k → zs[j]? = some z → ((numOf B (A + 4 * j) 4 : Nat) : Int) = z

theorem mem_st {B : Nat → Nat} {D : Nat → Bool} {v : Dv} {a : Int} {z : Int} (h0 : 0 ≤ a) (h1 : a % 4 = 0) (h2 : a + 4 ≤ 1024) : stA 4 v B D a 4 z = ⟨0, v, putB B a.toNat 4 z.toNat, putD D (a.toNat / 256)⟩ := by
  unfold stA
  rw [if_neg (by omega), if_pos ⟨Or.inr (Or.inr rfl), h1, by omega⟩]
  rfl

theorem mem_ld {B : Nat → Nat} {v : Dv} {a : Int} (h0 : 0 ≤ a) (h1 : a % 4 = 0) (h2 : a + 4 ≤ 1024) : ldA 4 v B a 4 = ⟨(numOf B a.toNat 4 : Nat), 0, v⟩ ∧ memX 4 B a 4 = (numOf B a.toNat 4 : Nat) ∧ decide (mayI 4 a 4) = true := by
  have hm : mayI 4 a 4 := ⟨Or.inr (Or.inr rfl), h1, by omega⟩
  unfold ldA memX
  rw [if_neg (by omega), if_pos hm, if_pos hm]
  exact ⟨rfl, rfl, decide_eq_true hm⟩

set_option maxHeartbeats 4000000 in
set_option maxRecDepth 100000 in
theorem memory_walk (w : World) (v0 : Value) (zs : List Int) (hv : IsWords w v0 zs) (a1 : Int) (w1 : (Lit.int .i64 a1).wf = true) :
    Calls Try.prog 6 #[v0, .int .i64 a1] w fun e w' => e = .returned (.bool true) ∧ Below w.heap.size w w' := by
  obtain ⟨ad, N, cp, rfl, hN, hM, hX⟩ := hv.open'
  unfold maxLen at hM
  replace hN := hide hN
  replace hX := hide hX
  clear hv w1
  have hand := and63 a1
  obtain ⟨A, hA⟩ : ∃ A : Nat, a1 % 64 * 4 = (A : Int) := ⟨(a1 % 64 * 4).toNat, by omega⟩
  have hA4 : A % 4 = 0 := by omega
  have hA5 : A ≤ 252 := by omega
  have hr : 0 ≤ a1 % 64 ∧ a1 % 64 < 64 := by omega
  generalize a1 % 64 = r at *
  go_enter Try.func6, Try.ntmps6
  go_wp2_with fail
  refine (busNew_any 4 (by omega) (by omega) w).mono ?_
  rintro e x1 ⟨b, p, g, rfl, hB, zb, zp, zg, b1⟩
  have O : Hid (Own w x1 b p g 4 4 V0 (fun _ => 0) (fun _ => false)) := hide ⟨hB, b1, zb, zp, zg⟩
  clear hB b1
  go_wp2_with fail
  refine (devices_any O.out.bus).mono ?_
  rintro e x2 ⟨rfl, K⟩
  replace O := hide (O.out.on K)
  clear K
  generalize hT : devV V0 = T at *
  replace hT := hide hT
  go_wp2_with fail
  go_loopw [9] (fun i wr => ∃ k : Nat, k ≤ 60 ∧ i = .int .i64 k ∧ Hid (∃ B D, Own w wr b p g 4 4 V0 B D ∧ Lie zs A k B)) (fun i _ => 60 - (intOf i).toNat)
  case atStart => exact ⟨0, by omega, rfl, hide ⟨_, _, O.out, fun j z hj => absurd hj (by omega)⟩⟩
  case round =>
    clear O
    obtain ⟨k, hk, rfl, HO⟩ := hrel
    by_cases hc : k < N ∧ k < 60
    · have h1 := hc.1
      have h2 := hc.2
      have d1 : decide ((k : Int) < (N : Int)) = true := by simp; omega
      have d2 : decide ((k : Int) < 60) = true := by simp; omega
      have d3 : (k : Int) < (N : Int) := by omega
      clear hc
      obtain ⟨z, hz⟩ : ∃ z, zs[k]? = some z := ⟨_, List.getElem?_eq_getElem (by rw [← hN.out]; exact h1)⟩
      obtain ⟨hW, bb, off, rfl, hlt, hcell⟩ := hX.out k z hz
      obtain ⟨B, D, O, L⟩ := HO.out
      have hc1 : wr.cell? ⟨bb, off + k, none⟩ = some (.int .u32 z) := by
        rw [O.be.cell (p := ⟨bb, off + k, none⟩) hlt]; exact hcell
      replace O := hide O
      replace L := hide L
      replace hz := hide hz
      obtain ⟨z0, z1⟩ := hW
      clear HO hcell
      have ha : (0 : Int) ≤ (A : Int) + 4 * (k : Int) ∧ ((A : Int) + 4 * (k : Int)) % 4 = 0 ∧ (A : Int) + 4 * (k : Int) + 4 ≤ 1024 := by omega
      have cs := hide (store_is O.out.bus ((A : Int) + 4 * (k : Int)) 4 z ha.1 (by omega) z0 z1)
      rw [mem_st ha.1 ha.2.1 ha.2.2] at cs
      go_wp2_with fail
      refine cs.out.mono ?_
      rintro e wm ⟨rfl, hB, K⟩
      have O2 := hide (O.out.next hB K)
      have L2 : Hid (Lie zs A (k + 1) (putB B ((A : Int) + 4 * (k : Int)).toNat 4 z.toNat)) := hide (by
        have ht : ((A : Int) + 4 * (k : Int)).toNat = A + 4 * k := by omega
        rw [ht]
        intro j y hj hy
        by_cases e : j = k
        · subst e
          rw [hz.out] at hy
          injection hy with hy
          subst hy
          rw [num_put _ _ _ (by omega)]
          omega
        · rw [num_far _ _ _ _ (by omega)]
          exact L.out j y (by omega) hy)
      clear O L cs hB K hz hc1
      go_wp2
      go_roundw
      case rel => exact ⟨k + 1, by omega, by go_num, hide ⟨_, _, O2.out, L2.out⟩⟩
      case measure => simp [intOf]; omega
    · have hend : Hid (∃ B D, Own w wr b p g 4 4 V0 B D ∧ ∀ j z, j < 60 → zs[j]? = some z → ((numOf B (A + 4 * j) 4 : Nat) : Int) = z) := hide (by
        obtain ⟨B, D, O, L⟩ := HO.out
        refine ⟨B, D, O, fun j z hj hz => L j z ?_ hz⟩
        have := (List.getElem?_eq_some_iff.1 hz).1
        have := hN.out
        omega)
      have tw := two_ways hc
      clear hc HO
      obtain ⟨W1, hW1⟩ : ∃ W1, W1 = wr := ⟨_, rfl⟩
      rw [← hW1] at hend ⊢
      clear hW1
      rcases tw with ⟨d1, d2, d3, d4⟩ | ⟨d1, d2⟩
      all_goals
        go_wp2_with fail
        go_loopw [10] (fun i wq => ∃ k : Nat, k ≤ 60 ∧ i = .int .i64 k ∧ Hid (∃ B D, Own w wq b p g 4 4 V0 B D ∧ ∀ j z, j < 60 → zs[j]? = some z → ((numOf B (A + 4 * j) 4 : Nat) : Int) = z)) (fun i _ => 60 - (intOf i).toNat)
        case atStart => exact ⟨0, by omega, rfl, hend⟩
        case round =>
          clear d1 d2 hend
          try clear d3 d4
          obtain ⟨q, hq, rfl, HO⟩ := hrel
          by_cases hc : q < N ∧ q < 60
          · have h1 := hc.1
            have h2 := hc.2
            have d1 : decide ((q : Int) < (N : Int)) = true := by simp; omega
            have d2 : decide ((q : Int) < 60) = true := by simp; omega
            have d3 : (q : Int) < (N : Int) := by omega
            clear hc
            obtain ⟨z, hz⟩ : ∃ z, zs[q]? = some z := ⟨_, List.getElem?_eq_getElem (by rw [← hN.out]; exact h1)⟩
            obtain ⟨hW, bb, off, rfl, hlt, hcell⟩ := hX.out q z hz
            obtain ⟨B, D, O, L⟩ := HO.out
            have hn := L q z h2 hz
            have ht : ((A : Int) + 4 * (q : Int)).toNat = A + 4 * q := by omega
            have ha : (0 : Int) ≤ (A : Int) + 4 * (q : Int) ∧ ((A : Int) + 4 * (q : Int)) % 4 = 0 ∧ (A : Int) + 4 * (q : Int) + 4 ≤ 1024 := by omega
            obtain ⟨m1, m2, m3⟩ := mem_ld (v := V0) (B := B) ha.1 ha.2.1 ha.2.2
            rw [ht, hn] at m1 m2
            replace O := hide O
            replace L := hide L
            have cs := hide (load_is O.out.bus ((A : Int) + 4 * (q : Int)) 4 ha.1 (by omega))
            rw [m1] at cs
            clear HO hz m1 hn ht
            go_wp2_with fail
            refine cs.out.mono ?_
            rintro e wm ⟨rfl, hB, K⟩
            replace O := hide (O.out.next hB (kept1 K))
            have cp := hide (peek_is O.out.bus ((A : Int) + 4 * (q : Int)) ha.1 (by omega))
            rw [m2, m3] at cp
            have hc1 : wm.cell? ⟨bb, off + q, none⟩ = some (.int .u32 z) := by
              rw [O.out.be.cell (p := ⟨bb, off + q, none⟩) hlt]; exact hcell
            clear cs hB K m2 m3 hcell
            go_wp2_with fail
            refine cp.out.mono ?_
            rintro e wn ⟨rfl, rfl⟩
            have fin := hide (⟨_, _, O.out, L.out⟩ : ∃ B D, Own w wn b p g 4 4 V0 B D ∧ ∀ j z, j < 60 → zs[j]? = some z → ((numOf B (A + 4 * j) 4 : Nat) : Int) = z)
            clear cp O L
            go_wp2
            go_roundw
            case rel => exact ⟨q + 1, by omega, by go_num, fin⟩
            case measure => simp [intOf]; omega
          · have tw := two_ways hc
            obtain ⟨B, D, O, -⟩ := HO.out
            have cd := hide (devices_any O.bus)
            rw [hT.out] at cd
            have be := hide O.be
            clear hc HO O
            rcases tw with ⟨d1, d2, d3, d4⟩ | ⟨d1, d2⟩
            all_goals
              go_wp2_with fail
              refine cd.out.mono ?_
              rintro e w8 ⟨rfl, b8⟩
              have be2 := hide (onto be.out (Nat.le_refl _) b8)
              clear be b8 cd
              go_wp2_with fail
              refine (fixed_any12 _).mono ?_
              rintro e w9 ⟨rfl, b9⟩
              have be3 := hide (onto be2.out (Nat.le_refl _) b9)
              clear be2 b9
              go_wp2
              go_ret
              exact ⟨rfl, be3.out⟩

end Go.Proofs.Ytdapjpbdplhgbaa
