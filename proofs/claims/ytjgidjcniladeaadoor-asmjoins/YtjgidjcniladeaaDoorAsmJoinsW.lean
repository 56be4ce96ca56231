/- The walk of the law: the words of two texts of lines, one behind the other, are the words of both together. -/
import Derived.Test.YtjgidjcniladeaaDoorAsmJoinsM
set_option linter.unusedVariables false
set_option linter.unusedSimpArgs false
namespace Go.Proofs.YtjgidjcniladeaaDoor
open Go.RowKit Go.Shelf Go.Joins

theorem RowAt.some {w : World} {v : Value} {xs : List Int} (h : RowAt w v xs) (hx : xs ≠ []) : ∃ g cap, v = .slice (some ⟨g, 0, none⟩) xs.length cap ∧ ∀ (j : Nat) u, xs[j]? = some u → w.cell? ⟨g, j, none⟩ = some (.int .u32 u) := by
  rcases h with ⟨-, e⟩ | h
  · exact absurd e hx
  · exact h

theorem Asm.rows_few (s : List UInt8) : (Asm.rows s).length ≤ s.length := by
  have : ∀ n, ∀ s : List UInt8, s.length ≤ n → (Asm.rows s).length ≤ s.length := by
    intro n
    induction n with
    | zero =>
      intro s hs
      have : s = [] := List.length_eq_zero_iff.mp (by omega)
      rw [this, Asm.rows_nil]
      simp
    | succ n ih =>
      intro s hs
      by_cases h : s = []
      · rw [h, Asm.rows_nil]; simp
      · rw [Asm.rows_cons h]
        have hp : 0 < s.length := List.length_pos_iff.mpr h
        have h2 := ih (s.drop ((s.takeWhile (· != 10)).length + 1)) (by simp; omega)
        simp only [List.length_cons, List.length_drop] at h2 ⊢
        omega
  exact this s.length s (Nat.le_refl _)

theorem wrap_small (j : Nat) (h : j ≤ 1000000) : wrap64 (j : Int) = (j : Int) := wrap64_id _ (by omega) (by omega)

theorem join_facts (X Y k : Nat) (hX : X ≤ 1000) (hY : Y ≤ 1000) (hk : k < X + Y) (h : ¬ k < X) :
    ∃ j, k = X + j ∧ j < Y ∧ decide ((k : Int) < (X : Int)) = false ∧ decide ((k : Int) ≥ (X : Int)) = true ∧ wrap64 ((k : Int) - (X : Int)) = (j : Int) ∧ (j : Int) < (Y : Int) := by
  refine ⟨k - X, by omega, by omega, by simp; omega, by simp; omega, ?_, by omega⟩
  rw [show (k : Int) - (X : Int) = ((k - X : Nat) : Int) by omega]
  exact wrap_small _ (by omega)

set_option maxHeartbeats 4000000 in
set_option maxRecDepth 100000 in
theorem joins_raw (a b : ByteArray) (za : a.size ≤ 140737488351232) (zb : b.size ≤ 140737488351232) (w : World) (L : Lay5 w) :
    Calls Tryd.prog 4 #[.string a, .string b] w fun e w' => e = .returned (.bool true) ∧ Below w.heap.size w w' := by
  obtain ⟨m, hm, hm1, hm2⟩ : ∃ m : Nat, (min (a.size : Int) 1000 = (m : Int)) ∧ m ≤ a.size ∧ m ≤ 1000 := ⟨min a.size 1000, by omega, by omega, by omega⟩
  obtain ⟨n, hn, hn1, hn2⟩ : ∃ n : Nat, (min (b.size : Int) 1000 = (n : Int)) ∧ n ≤ b.size ∧ n ≤ 1000 := ⟨min b.size 1000, by omega, by omega, by omega⟩
  have c1 : (m : Int) ≤ (a.size : Int) := by omega
  have c2 : (n : Int) ≤ (b.size : Int) := by omega
  go_enter Tryd.func4, Tryd.ntmps4
  go_wp2_with fail
  have hAs : (a.extract 0 m).size ≤ 1000 := by simp; omega
  have hBs : (b.extract 0 n).size ≤ 1000 := by simp; omega
  generalize a.extract 0 m = A at *
  generalize b.extract 0 n = B at *
  clear hm hm1 hm2 hn hn1 hn2 c1 c2 za zb
  have hJd : (A ++ (⟨#[10]⟩ : ByteArray) ++ B).data.toList = A.data.toList ++ 10 :: B.data.toList := by simp
  have hJs : (A ++ (⟨#[10]⟩ : ByteArray) ++ B).size ≤ 1000000 := by
    show (A ++ (⟨#[10]⟩ : ByteArray) ++ B).data.toList.length ≤ _
    rw [hJd]
    have e1 : A.data.toList.length = A.size := rfl
    have e2 : B.data.toList.length = B.size := rfl
    simp only [List.length_append, List.length_cons]
    omega
  refine (lines_any A (by omega) _ L).mono ?_
  rintro e1 w1 ⟨⟨xs, e, vx, rfl, hx, ox⟩, h1⟩
  have rx := RowAt.of ox
  have L1 := L.on h1
  clear ox L
  go_wp2_with fail
  refine (lines_any B (by omega) _ L1).mono ?_
  rintro e1 w2 ⟨⟨ys, f, vy, rfl, hy, oy⟩, h2⟩
  have ry := RowAt.of oy
  replace rx := rx.on h2
  have b2 := onto h1 h2
  have L2 := L1.on h2
  clear oy L1 h1 h2
  go_wp2_with fail
  have hlz := fun w L => lines_any (A ++ (⟨#[10]⟩ : ByteArray) ++ B) hJs w L
  rw [hJd] at hlz
  refine (hlz _ L2).mono ?_
  rintro e1 w3 ⟨⟨zs, g, vz, rfl, hz, oz⟩, h3⟩
  have rz := RowAt.of oz
  replace rx := rx.on h3
  replace ry := ry.on h3
  have b3 := onto b2 h3
  have L3 := L2.on h3
  clear oz L2 b2 h3 hlz hJs hJd
  clear w1 w2
  have he : e = 0 ∨ e = 50 := by
    rcases hx with ⟨-, rfl⟩ | ⟨-, -, rfl⟩
    · exact Or.inl rfl
    · exact Or.inr rfl
  have hf : f = 0 ∨ f = 50 := by
    rcases hy with ⟨-, rfl⟩ | ⟨-, -, rfl⟩
    · exact Or.inl rfl
    · exact Or.inr rfl
  rcases he with rfl | rfl
  · rcases hf with rfl | rfl
    · by_cases hA0 : A.data.toList = []
      · have hq : A.toList = [] := by rw [ByteArray.toList_eq]; exact hA0
        clear rx ry rz hx hy hz
        go_wp2_with fail
        refine (facts5 _ L3).mono ?_
        rintro e w4 ⟨rfl, h4⟩
        go_wp2_with fail
        go_ret
        exact ⟨rfl, onto b3 h4⟩
      · have hq2 : A.toList.isEmpty = false := by rw [ByteArray.toList_eq]; simpa using hA0
        have hpos : 0 < A.size := List.length_pos_iff.mpr hA0
        have hkl : A.size - 1 < A.size := by omega
        have c3 : (1 : Int) ≤ (A.size : Int) := by omega
        have c4 : (A.size : Int) - 1 < (A.size : Int) := by omega
        have hlastb : A.data.toList.getLast? = some (A[A.size - 1]'hkl) := by
          rw [List.getLast?_eq_getElem?]
          have e1 : A.data.toList.length = A.size := rfl
          rw [e1, List.getElem?_eq_getElem (by rw [e1]; exact hkl)]
          rfl
        by_cases h10 : A[A.size - 1]'hkl = 10
        · have hq3 : (((A[A.size - 1]'hkl).toNat : Int) == 10) = true := by rw [h10]; rfl
          clear rx ry rz hx hy hz hlastb h10
          go_wp2_with fail
          refine (facts5 _ L3).mono ?_
          rintro e w4 ⟨rfl, h4⟩
          go_wp2_with fail
          go_ret
          exact ⟨rfl, onto b3 h4⟩
        · have hq3 : (((A[A.size - 1]'hkl).toNat : Int) == 10) = false := by
            have : (A[A.size - 1]'hkl).toNat ≠ 10 := fun e => h10 (UInt8.toNat_inj.mp e)
            simp; omega
          obtain ⟨rfl, rfl, hxn⟩ := Asm.lined_join hA0 (by rw [hlastb]; intro e; exact h10 (Option.some.inj e)) hx hy hz
          have hxl : xs.length ≤ 1000 := by
            rcases hx with ⟨hx, -⟩ | ⟨-, -, h⟩
            · have h1 := hx.length
              have h2 := Asm.rows_few A.data.toList
              have h3 : A.data.toList.length = A.size := rfl
              omega
            · cases h
          have hyl : ys.length ≤ 1000 := by
            rcases hy with ⟨hy, -⟩ | ⟨-, -, h⟩
            · have h1 := hy.length
              have h2 := Asm.rows_few B.data.toList
              have h3 : B.data.toList.length = B.size := rfl
              omega
            · cases h
          clear hlastb h10 hx hy hz
          obtain ⟨gx, cx, rfl, fx⟩ := rx.some hxn
          obtain ⟨gz, cz, rfl, fz⟩ := rz.some (by simpa using fun h => absurd h hxn)
          obtain ⟨ay, cy, rfl, fy⟩ : ∃ ay cy, vy = .slice ay ys.length cy ∧ ∀ (j : Nat) u, ys[j]? = some u → ∃ gy, ay = some ⟨gy, 0, none⟩ ∧ w3.cell? ⟨gy, j, none⟩ = some (.int .u32 u) := by
            rcases ry with ⟨rfl, rfl⟩ | ⟨g, c, rfl, hc⟩
            · exact ⟨none, 0, rfl, fun j u h => by simp at h⟩
            · exact ⟨_, c, rfl, fun j u h => ⟨g, rfl, hc j u h⟩⟩
          have hzl : (xs ++ ys).length = xs.length + ys.length := List.length_append
          rw [hzl]
          have ew : wrap64 ((xs.length : Int) + (ys.length : Int)) = (xs.length : Int) + (ys.length : Int) := wrap64_id _ (by omega) (by omega)
          have hcast : (((xs.length + ys.length : Nat) : Int) != (xs.length : Int) + (ys.length : Int)) = false := by simp
          replace fx := hide fx
          replace fy := hide fy
          replace fz := hide fz
          clear rx ry rz
          go_wp2_with fail
          go_loopw [11] (fun i wr => ∃ k : Nat, k ≤ xs.length + ys.length ∧ i = .int .i64 (k : Int) ∧ Hid (Below w3.heap.size w3 wr)) (fun i _ => xs.length + ys.length - (Lib.intOf i).toNat)
          case atStart => exact ⟨0, by omega, rfl, hide (Below.refl _ _)⟩
          case round =>
            obtain ⟨k, hk, rfl, hb⟩ := hrel
            by_cases hlt : k < xs.length + ys.length
            · have hl : (k : Int) < (xs.length : Int) + (ys.length : Int) := by omega
              by_cases hlx : k < xs.length
              · have hlx' : (k : Int) < (xs.length : Int) := by omega
                have hge : ((k : Int) ≥ (xs.length : Int)) = False := by simp; omega
                obtain ⟨u, hu⟩ : ∃ u, xs[k]? = some u := ⟨_, List.getElem?_eq_getElem hlx⟩
                have hu2 : (xs ++ ys)[k]? = some u := by rw [List.getElem?_append_left hlx]; exact hu
                have k1 : wr.cell? ⟨gx, k, none⟩ = some (.int .u32 u) := (hb.out.cell (p := ⟨gx, k, none⟩) (cell_in (fx.out k u hu))).trans (fx.out k u hu)
                have k2 : wr.cell? ⟨gz, k, none⟩ = some (.int .u32 u) := (hb.out.cell (p := ⟨gz, k, none⟩) (cell_in (fz.out k u hu2))).trans (fz.out k u hu2)
                clear hu hu2
                go_wp2_with fail
                go_quiet (fail)
                have hb2 := hide (below_drewN hb.out nq)
                clear hb
                go_wp2_with fail
                go_roundw
                case rel => exact ⟨k + 1, by omega, by go_num, hb2⟩
                case measure => simp [Lib.intOf]; omega
              · obtain ⟨j, hkj, hjY, hn1, hn2, ej, hjl'⟩ := join_facts xs.length ys.length k hxl hyl hlt hlx
                obtain ⟨u, hu⟩ : ∃ u, ys[j]? = some u := ⟨_, List.getElem?_eq_getElem hjY⟩
                have hu2 : (xs ++ ys)[k]? = some u := by rw [hkj, List.getElem?_append_right (Nat.le_add_right _ _), Nat.add_sub_cancel_left]; exact hu
                obtain ⟨gy, rfl, hcy⟩ := fy.out j u hu
                have k1 : wr.cell? ⟨gy, j, none⟩ = some (.int .u32 u) := (hb.out.cell (p := ⟨gy, j, none⟩) (cell_in hcy)).trans hcy
                have k2 : wr.cell? ⟨gz, k, none⟩ = some (.int .u32 u) := (hb.out.cell (p := ⟨gz, k, none⟩) (cell_in (fz.out _ u hu2))).trans (fz.out _ u hu2)
                have ejk : k - xs.length = j := by rw [hkj]; exact Nat.add_sub_cancel_left _ _
                have k1' : wr.cell? ⟨gy, k - xs.length, none⟩ = some (.int .u32 u) := by rw [ejk]; exact k1
                have hle : xs.length ≤ k := Nat.le_of_not_lt hlx
                have hle' : (xs.length : Int) ≤ (k : Int) := by omega
                have hjl2 : (k : Int) - (xs.length : Int) < (ys.length : Int) := by omega
                clear hkj ejk k1 hn1 hn2 ej hjl' hjY
                clear hu hu2 hcy
                go_wp2_with fail
                go_quiet (fail)
                have hb2 := hide (below_drewN hb.out nq)
                clear hb
                go_wp2_with fail
                go_roundw
                case rel => exact ⟨k + 1, by omega, by go_num, hb2⟩
                case measure => simp [Lib.intOf]; omega
            · obtain rfl : k = xs.length + ys.length := by omega
              have L4 := L3.on hb.out
              go_wp2_with fail
              refine (facts5 _ L4).mono ?_
              rintro e w5 ⟨rfl, h5⟩
              go_wp2_with fail
              go_ret
              exact ⟨rfl, onto (onto b3 hb.out) h5⟩
    · clear rx ry rz hx hy hz
      go_wp2_with fail
      refine (facts5 _ L3).mono ?_
      rintro e w4 ⟨rfl, h4⟩
      go_wp2_with fail
      go_ret
      exact ⟨rfl, onto b3 h4⟩
  · clear rx ry rz hx hy hz
    go_wp2_with fail
    refine (facts5 _ L3).mono ?_
    rintro e w4 ⟨rfl, h4⟩
    go_wp2_with fail
    go_ret
    exact ⟨rfl, onto b3 h4⟩

end Go.Proofs.YtjgidjcniladeaaDoor
