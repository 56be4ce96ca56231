/- Contracts of the program's Clean, Dirty and Image. -/
import Derived.Test.YtifkldlhoaipbaaMemW4
import Derived.Maps.AppendAt
import Derived.RangeFuncBox
import Derived.OwnWalk
namespace Go.Proofs.Ytifkldlhoaipbaa
open Go.RowKit
set_option linter.unusedVariables false
set_option linter.unusedSimpArgs false

/-- A page's mark, set. -/
theorem Mem.mark {w : World} {p g n c : Nat} {B : Nat → Nat} {D : Nat → Bool} (M : Mem w p g n c B D) (k : Nat) (hk : k < n) (b : Bool) :
    Mem (w.setCell ⟨g, k * 257 + 256, none⟩ (.bool b)) p g n c B (fun i => if i = k then b else D i) := by
  refine ⟨?_, ?_, M.ne, M.n4, M.n64, M.nc, ?_, ?_, ?_, ?_, M.lt⟩
  · rw [World.size_setCell]; exact M.zp
  · rw [World.size_setCell]; exact M.zg
  · rw [World.cell?_setCell_other _ _ _ _ (by intro e; injection e with e1; exact M.ne e1.symm)]
    exact M.hd
  · intro j hj
    rw [World.cell?_setCell_other _ _ _ _ (by intro e; injection e with _ e2; omega)]
    exact M.by' j hj
  · intro i hi
    by_cases e : i = k
    · subst e
      have := M.di i hi
      rw [show 257 * i + 256 = i * 257 + 256 by omega] at this ⊢
      rw [World.cell?_setCell_same _ _ _ this, if_pos rfl]
    · rw [World.cell?_setCell_other _ _ _ _ (by intro e; injection e with _ e2; omega), M.di i hi, if_neg e]
  · intro o
    rw [World.frozen?_setCell]
    exact M.fr o

set_option maxHeartbeats 1000000 in
theorem clean_any {w : World} {p g n c : Nat} {B : Nat → Nat} {D : Nat → Bool} (M : Mem w p g n c B D) :
    Calls Try.prog 37 #[.pointer (some ⟨p, 0, none⟩)] w fun e w' => e = .returned (.tuple #[]) ∧ Mem w' p g n c B (fun _ => false) ∧ w.grownBy w' (some g) := by
  have hd := M.hd
  have n64 := M.n64
  have nc := M.nc
  go_enter Try.func37, Try.ntmps37
  go_wp2
  go_loopw [8] (fun i wr => ∃ k : Nat, k ≤ n ∧ i = .int .i64 k ∧ Hid (Mem wr p g n c B (fun i => if i < k then false else D i)) ∧ Hid (w.grownBy wr (some g))) (fun i _ => n - (intOf i).toNat)
  case atStart => exact ⟨0, by omega, rfl, hide (M.congr (fun _ _ => rfl) (fun i _ => by simp) M.lt), hide (grownBy_refl _ _)⟩
  case round =>
    clear hd M
    obtain ⟨k, hk, rfl, M, G⟩ := hrel
    by_cases h : k < n
    · have hd := M.out.hd
      have hc := M.out.di k h
      have hf := M.out.fr (257 * k + 256)
      rw [show 257 * k + 256 = k * 257 + 256 by omega] at hc hf
      have M2 := hide ((M.out.mark k h false).congr (D' := fun i => if i < k + 1 then false else D i) (fun _ _ => rfl) (fun i _ => by
        by_cases e : i = k
        · subst e; simp
        · by_cases l : i < k
          · simp [e, l, show i < k + 1 by omega]
          · simp [e, l, show ¬ i < k + 1 by omega]) M.out.lt)
      have G2 := hide (grownBy_trans G.out (grownBy_set wr g (k * 257 + 256) (.bool false)))
      clear M G
      go_wp2
      go_roundw
      case rel => exact ⟨k + 1, by omega, by go_num, M2, G2⟩
      case measure => simp [intOf]; omega
    · have : k = n := by omega
      subst this
      have M2 := hide (M.out.congr (D' := fun _ => false) (fun _ _ => rfl) (fun i hi => by simp [hi]) M.out.lt)
      clear M
      go_wp2
      go_end0
      exact ⟨rfl, M2.out, G.out⟩

/-- The dirty pages of the first k. -/
def dirts (D : Nat → Bool) (k : Nat) : List Nat := (List.range k).filter D

theorem dirts_succ (D : Nat → Bool) (k : Nat) : dirts D (k + 1) = dirts D k ++ (if D k then [k] else []) := by
  unfold dirts
  rw [List.range_succ, List.filter_append]
  congr 1
  cases h : D k <;> simp [h]

theorem dirts_len (D : Nat → Bool) (k : Nat) : (dirts D k).length ≤ k := by
  have := List.length_filter_le D (List.range k)
  rw [List.length_range] at this
  exact this

/-- Numbers as cells. -/
def ints (l : List Nat) : List Value := l.map fun k => .int .i64 ((k : Nat) : Int)

set_option maxHeartbeats 1000000 in
theorem dirty_any {w : World} {p g n c : Nat} {B : Nat → Nat} {D : Nat → Bool} (M : Mem w p g n c B D) :
    Calls Try.prog 25 #[.pointer (some ⟨p, 0, none⟩)] w fun e w' =>
      (∃ v, e = .returned v ∧ w'.ownsRow w.heap.size 3 1 v (dirts D n).length (ints (dirts D n))) ∧ Below w.heap.size w w' := by
  have hd := M.hd
  have n64 := M.n64
  have nc := M.nc
  have hi0 : (Try.prog.info? 3).map (fun i => (i.zero, i.size, i.bytes)) = some (some (.int .i64 0), 1, 8) := by kernel_rfl
  obtain ⟨i0, hi, hz0, hz1, hz2⟩ := info_parts hi0
  go_enter Try.func25, Try.ntmps25
  go_wp2
  go_loopw [3, 10] (fun v i wr => ∃ k : Nat, k ≤ n ∧ i = .int .i64 k ∧ Hid (wr.ownsRow w.heap.size 3 1 v (dirts D k).length (ints (dirts D k))) ∧ Hid (Below w.heap.size w wr)) (fun _ i _ => n - (intOf i).toNat)
  case atStart => exact ⟨0, by omega, rfl, hide (World.ownsRow_nil _ _ _ _), hide (Below.refl _ _)⟩
  case round =>
    clear hd
    obtain ⟨k, hk, rfl, O, G⟩ := hrel
    by_cases h : k < n
    · have Mr := M.on G.out
      have hd := Mr.hd
      have hc := Mr.di k h
      rw [show 257 * k + 256 = k * 257 + 256 by omega] at hc
      have HS := hide (dirts_succ D k)
      have hl := dirts_len D k
      have hsz := G.out.size
      obtain ⟨L, hL⟩ : ∃ L, L = dirts D k := ⟨_, rfl⟩
      rw [← hL] at O HS hl
      cases hD : D k
      · rw [hD] at hc HS
        have HS2 : Hid (dirts D (k + 1) = L) := hide (by rw [HS.out]; simp)
        clear HS Mr hL
        go_wp2
        go_roundw
        case rel => exact ⟨k + 1, by omega, by go_num, hide (by rw [HS2.out]; exact O.out), G⟩
        case measure => simp [intOf]; omega
      · rw [hD] at hc HS
        have HS2 : Hid (dirts D (k + 1) = L ++ [k]) := hide (by rw [HS.out]; simp)
        clear HS Mr hL
        go_wp2_with (at_builtin; refine wpList_append_own _ rfl _ _ 51 rfl w.heap.size 3 i0 (.int .i64 0) 1 8 Try.underlying51 hi hz0 hz1 hz2 rfl (by decide) _ _ _ rfl (O.out.alloc _) ⟨wr.heap.size, 0, none⟩ 1 1 [.int .i64 ((k : Nat) : Int)] rfl rfl (cell_one_new _ _ _) (by simp [Value.oneCell']) (by unfold maxLen; omega) (by omega) (by simp; omega) ?_)
        intro v' w4 hown' hgrow _
        have b4 : Below w.heap.size w w4 := by
          refine (G.out.alloc hsz _).grown hgrow (by simp; omega) (fun k hk => ?_)
          rcases O.out.2 with ⟨rfl, -⟩ | ⟨g, cap, cur, rfl, hg, -⟩
          · cases hk
          · cases hk; exact hg
        have O4 : Hid (w4.ownsRow w.heap.size 3 1 v' (dirts D (k + 1)).length (ints (dirts D (k + 1)))) := hide (by
          rw [HS2.out, List.length_append]
          unfold ints
          rw [List.map_append]
          exact hown')
        have b4 := hide b4
        clear hown' hgrow O G
        go_wp2
        go_roundw
        case rel => exact ⟨k + 1, by omega, by go_num, O4, b4⟩
        case measure => simp [intOf]; omega
    · have : k = n := by omega
      subst this
      go_wp2
      go_ret
      exact ⟨⟨_, rfl, O.out⟩, G.out⟩

end Go.Proofs.Ytifkldlhoaipbaa
