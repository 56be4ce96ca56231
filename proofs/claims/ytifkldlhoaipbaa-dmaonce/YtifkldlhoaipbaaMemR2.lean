/- The document's memory: may, Load, Page, Clean, Dirty. -/
import Derived.Test.YtifkldlhoaipbaaMemText
namespace Go.Proofs.Ytifkldlhoaipbaa
open Go.RowKit
set_option linter.unusedVariables false
set_option linter.unusedSimpArgs false

theorem rmay_yes {w : World} {p gb gd n : Nat} {B : Nat → Nat} {D : Nat → Bool} (R : RMem w p gb gd n B D) (a s : Nat) (h : may n a s) :
    Calls Try.prog 49 #[.pointer (some ⟨p, 0, none⟩), .int .i64 (a : Int), .int .i64 (s : Int)] w fun e w' => e = .returned (.bool true) ∧ w' = w := by
  obtain ⟨h1, h2, h3⟩ := h
  have hb := R.hb
  have n64 := R.n64
  obtain ⟨A, hA⟩ : ∃ A : Int, A = (a : Int) := ⟨_, rfl⟩
  have a0 : 0 ≤ A := by omega
  have a1 : A ≤ 256 * 64 := by omega
  rw [← hA]
  rcases h1 with rfl | rfl | rfl
  · have d2 : decide (A ≤ 256 * (n : Int) - 1) = true := by simp; omega
    have d3 : A ≤ 256 * (n : Int) - 1 := by omega
    clear hA h2 h3
    go_enter Try.func49, Try.ntmps49
    go_wp2
    go_ret
    exact ⟨rfl, rfl⟩
  · have d1 : (A % 2 == 0) = true := by simp; omega
    have d4 : A % 2 = 0 := by omega
    have d2 : decide (A ≤ 256 * (n : Int) - 2) = true := by simp; omega
    have d3 : A ≤ 256 * (n : Int) - 2 := by omega
    clear hA h2 h3
    go_enter Try.func49, Try.ntmps49
    go_wp2
    go_ret
    exact ⟨rfl, rfl⟩
  · have d1 : (A % 4 == 0) = true := by simp; omega
    have d4 : A % 4 = 0 := by omega
    have d2 : decide (A ≤ 256 * (n : Int) - 4) = true := by simp; omega
    have d3 : A ≤ 256 * (n : Int) - 4 := by omega
    clear hA h2 h3
    go_enter Try.func49, Try.ntmps49
    go_wp2
    go_ret
    exact ⟨rfl, rfl⟩

theorem rmay_no {w : World} {p gb gd n : Nat} {B : Nat → Nat} {D : Nat → Bool} (R : RMem w p gb gd n B D) (A s : Int) (a0 : 0 ≤ A) (a1 : A < 4294967296)
    (h : ¬ ((s = 1 ∨ s = 2 ∨ s = 4) ∧ A % s = 0 ∧ A + s ≤ 256 * n)) :
    Calls Try.prog 49 #[.pointer (some ⟨p, 0, none⟩), .int .i64 A, .int .i64 s] w fun e w' => e = .returned (.bool false) ∧ w' = w := by
  have hb := R.hb
  have n64 := R.n64
  by_cases h1 : s = 1 ∨ s = 2 ∨ s = 4
  · by_cases h2 : A % s = 0
    · have h3 : ¬ (A + s ≤ 256 * n) := fun c => h ⟨h1, h2, c⟩
      rcases h1 with rfl | rfl | rfl
      · have d2 : decide (A ≤ 256 * (n : Int) - 1) = false := by simp; omega
        have d3 : ¬ A ≤ 256 * (n : Int) - 1 := by omega
        clear h h2 h3
        go_enter Try.func49, Try.ntmps49
        go_wp2
        go_ret
        exact ⟨rfl, rfl⟩
      · have d1 : (A % 2 == 0) = true := by simp; omega
        have d2 : decide (A ≤ 256 * (n : Int) - 2) = false := by simp; omega
        have d3 : ¬ A ≤ 256 * (n : Int) - 2 := by omega
        clear h h3
        go_enter Try.func49, Try.ntmps49
        go_wp2
        go_ret
        exact ⟨rfl, rfl⟩
      · have d1 : (A % 4 == 0) = true := by simp; omega
        have d2 : decide (A ≤ 256 * (n : Int) - 4) = false := by simp; omega
        have d3 : ¬ A ≤ 256 * (n : Int) - 4 := by omega
        clear h h3
        go_enter Try.func49, Try.ntmps49
        go_wp2
        go_ret
        exact ⟨rfl, rfl⟩
    · clear h
      rcases h1 with rfl | rfl | rfl
      · omega
      · have d1 : (A % 2 == 0) = false := by simpa using h2
        go_enter Try.func49, Try.ntmps49
        go_wp2
        go_ret
        exact ⟨rfl, rfl⟩
      · have d1 : (A % 4 == 0) = false := by simpa using h2
        go_enter Try.func49, Try.ntmps49
        go_wp2
        go_ret
        exact ⟨rfl, rfl⟩
  · clear h
    have b1 : (s == 1) = false := by simp; omega
    have b2 : (s == 2) = false := by simp; omega
    have b3 : (s == 4) = false := by simp; omega
    clear h1
    go_enter Try.func49, Try.ntmps49
    go_wp2
    go_ret
    exact ⟨rfl, rfl⟩

theorem rslice_text {w : World} {p gb gd n : Nat} {B : Nat → Nat} {D : Nat → Bool} (R : RMem w p gb gd n B D) (k c : Nat) (h : k < n) :
    (convert 46 9 (.slice (some ⟨gb, 256 * k, none⟩) 256 c)).run Try.prog w = .ok (.string (textOf 256 (fun j => B (256 * k + j)))) w := by
  refine run_convert_bytes_arg w 46 5 Try.underlying46 Try.underlying5 gb (256 * k) 256 c _ (by rw [List.length_map, List.length_range]) ?_ 9 Try.underlying9
  intro i hi
  have := R.by' (256 * k + i) (by omega)
  rw [this, List.getD_eq_getElem?_getD, List.getElem?_map, List.getElem?_range hi]
  rfl

theorem rpage_slice (n k gb : Nat) (h : k < n) (h64 : n ≤ 64) (w : World) :
    (Instr.sliceAt 46 (.slice (some ⟨gb, 0, none⟩) (256 * n) (256 * n)) (some (.int .i64 (256 * (k : Int)))) (some (.int .i64 (256 * (k : Int) + 256))) none).run Try.prog w = .ok (.slice (some ⟨gb, 256 * k, none⟩) 256 (256 * n - 256 * k)) w := by
  have hu : Try.prog.underlying 46 = some (.slice (Try.prog.elem 46)) := by kernel_rfl
  have he : Try.prog.elem 46 = 5 := by kernel_rfl
  rw [run_sliceAt_slice w 46 _ _ _ _ hu, run_slice_lh w 46 _ _ _ hu .i64 .i64 (256 * (k : Int)) (256 * (k : Int) + 256) (by omega) (by omega) (by omega), he, size5, Result.andThen_ok]
  unfold sliced
  rw [show (256 * (k : Int)).toNat = 256 * k by omega, show (256 * (k : Int) + 256).toNat = 256 * k + 256 by omega, if_neg (by omega), Option.map_some, Addr.add_lit, Nat.mul_one, Nat.zero_add, Nat.add_sub_cancel_left]

theorem rclean_mem {w : World} {p gb gd n : Nat} {B : Nat → Nat} {D : Nat → Bool} (R : RMem w p gb gd n B D) :
    RMem ((w.setCell ⟨p, 1, none⟩ (.slice (some ⟨w.heap.size, 0, none⟩) n n)).alloc (.cells (madeCells #[.bool false] n) 4)) p gb w.heap.size n B (fun _ => false) := by
  have hp := R.zp
  have hbz := R.zb
  obtain ⟨x, hx⟩ : ∃ x, x = w.setCell ⟨p, 1, none⟩ (.slice (some ⟨w.heap.size, 0, none⟩) n n) := ⟨_, rfl⟩
  have hz : w.heap.size = x.heap.size := by rw [hx]; simp
  rw [← hx]
  have old : ∀ b o, b < w.heap.size → (x.alloc (.cells (madeCells #[.bool false] n) 4)).cell? ⟨b, o, none⟩ = x.cell? ⟨b, o, none⟩ := fun b o h => World.cell?_alloc_lt _ _ _ (by show b < _; omega)
  have oldf : ∀ b o, b < w.heap.size → (x.alloc (.cells (madeCells #[.bool false] n) 4)).frozen? ⟨b, o, none⟩ = x.frozen? ⟨b, o, none⟩ := fun b o h => World.frozen?_alloc_old _ _ _ (by show b ≠ _; omega)
  refine ⟨by simp; omega, by simp; omega, by simp; omega, R.n1, by omega, by omega, R.n4, R.n64, ?_, ?_, ?_, ?_, ?_, ?_, ?_, R.lt⟩
  · rw [old _ _ hp, hx, World.cell?_setCell_other _ _ _ _ (by intro e; injection e with _ e2; omega)]; exact R.hb
  · rw [old _ _ hp, hx]; exact World.cell?_setCell_same _ _ _ R.hd
  · intro j hj
    rw [old _ _ hbz, hx, World.cell?_setCell_other _ _ _ _ (by intro e; injection e with e1; exact R.n1 e1)]; exact R.by' j hj
  · intro k hk
    rw [hz, World.cell?_alloc_new, made_flat hk]
  · intro o; rw [oldf _ _ hp, hx, World.frozen?_setCell]; exact R.fp o
  · intro o; rw [oldf _ _ hbz, hx, World.frozen?_setCell]; exact R.fb o
  · intro o; rw [hz, World.frozen?_alloc_new]

theorem rclean_any {w : World} {p gb gd n : Nat} {B : Nat → Nat} {D : Nat → Bool} (R : RMem w p gb gd n B D) :
    Calls Try.prog 38 #[.pointer (some ⟨p, 0, none⟩)] w fun e w' => e = .returned (.tuple #[]) ∧ (∃ gd', w.heap.size ≤ gd' ∧ RMem w' p gb gd' n B (fun _ => false)) ∧ w.grownBy w' (some p) := by
  have hd := R.hd
  have n64 := R.n64
  have md := rmake_d n n64
  have hf := R.fp 1
  have RC := hide (rclean_mem R)
  have hz := R.zp
  clear R
  go_enter Try.func38, Try.ntmps38
  go_wp2
  go_end0
  exact ⟨rfl, ⟨_, Nat.le_refl _, RC.out⟩, grownBy_trans (grownBy_set _ _ _ _) (grownBy_of ((Below.refl _ _).alloc (Nat.le_refl _) _) _)⟩

set_option maxHeartbeats 1000000 in
theorem rdirty_any {w : World} {p gb gd n : Nat} {B : Nat → Nat} {D : Nat → Bool} (R : RMem w p gb gd n B D) :
    Calls Try.prog 26 #[.pointer (some ⟨p, 0, none⟩)] w fun e w' =>
      (∃ v, e = .returned v ∧ w'.ownsRow w.heap.size 3 1 v (dirts D n).length (ints (dirts D n))) ∧ Below w.heap.size w w' := by
  have n64 := R.n64
  have hi0 : (Try.prog.info? 3).map (fun i => (i.zero, i.size, i.bytes)) = some (some (.int .i64 0), 1, 8) := by kernel_rfl
  obtain ⟨i0, hi, hz0, hz1, hz2⟩ := info_parts hi0
  have g0 := hide ((Below.refl _ w).alloc (Nat.le_refl _) (.cells #[] 3))
  have o0 : Hid ((w.alloc (.cells #[] 3)).ownsRow w.heap.size 3 1 (.slice (some ⟨w.heap.size, 0, none⟩) 0 0) 0 []) := hide (World.ownsRow_made w #[] 0 (Nat.le_refl _) (Nat.zero_le _) (by simp))
  go_enter Try.func26, Try.ntmps26
  go_wp2
  go_loopw [3, 4] (fun v i wr => ∃ k : Nat, k ≤ n ∧ i = .int .i64 k ∧ Hid (wr.ownsRow w.heap.size 3 1 v (dirts D k).length (ints (dirts D k))) ∧ Hid (Below w.heap.size w wr)) (fun _ i _ => n - (intOf i).toNat)
  case atStart => exact ⟨0, by omega, rfl, o0, g0⟩
  case round =>
    clear g0 o0
    obtain ⟨k, hk, rfl, O, G⟩ := hrel
    have Rr := R.on G.out
    have hd := Rr.hd
    by_cases h : k < n
    · have hc := Rr.di k h
      have HS := hide (dirts_succ D k)
      have hl := dirts_len D k
      have hsz := G.out.size
      obtain ⟨L, hL⟩ : ∃ L, L = dirts D k := ⟨_, rfl⟩
      rw [← hL] at O HS hl
      cases hD : D k
      · rw [hD] at hc HS
        have HS2 : Hid (dirts D (k + 1) = L) := hide (by rw [HS.out]; simp)
        clear HS Rr hL
        go_wp2
        go_roundw
        case rel => exact ⟨k + 1, by omega, by go_num, hide (by rw [HS2.out]; exact O.out), G⟩
        case measure => simp [intOf]; omega
      · rw [hD] at hc HS
        have HS2 : Hid (dirts D (k + 1) = L ++ [k]) := hide (by rw [HS.out]; simp)
        clear HS Rr hL
        go_wp2_with (at_builtin; refine wpList_append_own _ rfl _ _ 51 rfl w.heap.size 3 i0 (.int .i64 0) 1 8 Try.underlying51 hi hz0 hz1 hz2 rfl (by decide) _ _ _ rfl (O.out.alloc _) ⟨wr.heap.size, 0, none⟩ 1 1 [.int .i64 ((k : Nat) : Int)] rfl rfl (cell_one_new _ _ _) (by simp [Value.oneCell']) (by unfold maxLen; omega) (by omega) (by simp; omega) ?_)
        intro v' w4 hown' hgrow _
        have b4 : Below w.heap.size w w4 := by
          refine (G.out.alloc hsz _).grown hgrow (by simp; omega) (fun k hk => ?_)
          rcases O.out.2 with ⟨rfl, -⟩ | ⟨g, cap, cur, rfl, hg, -⟩
          · cases hk
          · cases hk; exact hg
        have O4 : Hid (w4.ownsRow w.heap.size 3 1 v' (dirts D (k + 1)).length (ints (dirts D (k + 1)))) := hide (by
          rw [HS2.out, List.length_append]
          unfold ints
          rw [List.map_append]
          exact hown')
        have b4 := hide b4
        clear hown' hgrow O G
        go_wp2
        go_roundw
        case rel => exact ⟨k + 1, by omega, by go_num, O4, b4⟩
        case measure => simp [intOf]; omega
    · have : k = n := by omega
      subst this
      clear Rr
      go_wp2
      go_ret
      exact ⟨⟨_, rfl, O.out⟩, G.out⟩

end Go.Proofs.Ytifkldlhoaipbaa
