/- Layer 16: the row of places without one of them; a cache in memory; the block at a place goes. -/
import Derived.Test.YtkmafafmnncgiaaTcMap
import Derived.Shelf.SlicesE.DeleteFunc
namespace Go.Proofs.Ytkmafafmnncgiaa
open Go.RowKit Go.Sort
set_option linter.unusedVariables false
set_option linter.unusedSimpArgs false

def renD : Go.Shelf.Ren := ⟨fun | 6 => 30 | 10 => 27 | n => n, fun | 22 => 35 | 23 => 32 | 25 => 62 | n => n, fun n => n⟩

theorem lays10 : SlLaysH.n10 Try.prog renD :=
  { mixed := by kernel_rfl, f6 := ⟨"slices.IndexFunc[[]uint32,uint32]", by decide, by kernel_rfl⟩, f10 := ⟨"slices.DeleteFunc[[]uint32,uint32]", by decide, by kernel_rfl⟩,
    t0 := by kernel_rfl, a0 := fun _ => by kernel_rfl, z0 := fun _ => by kernel_rfl, v0 := fun _ => by kernel_rfl,
    t3 := by kernel_rfl, a3 := fun _ => by kernel_rfl, z3 := fun _ => by kernel_rfl, v3 := fun _ => by kernel_rfl,
    t4 := by kernel_rfl, a4 := fun _ => by kernel_rfl, z4 := fun _ => by kernel_rfl, v4 := fun _ => by kernel_rfl,
    t22 := by kernel_rfl, a22 := fun _ => by kernel_rfl, z22 := fun _ => by kernel_rfl, v22 := fun _ => by kernel_rfl,
    a23 := fun _ => by kernel_rfl, z23 := fun _ => by kernel_rfl,
    t25 := by kernel_rfl, a25 := fun _ => by kernel_rfl, z25 := fun _ => by kernel_rfl, v25 := fun _ => by kernel_rfl }

/-- The closure, in whatever world holds the place in the cell ⟨B, 0⟩. -/
theorem same_place (pc x : Int) (B : Nat) (W : World) (hc : W.cell? ⟨B, 0, none⟩ = some (.int .u32 pc)) :
    FnGives Try.prog 28 #[.pointer (some ⟨B, 0, none⟩)] #[.int .u32 x] (.bool (x == pc)) W := by
  show Calls Try.prog 28 #[.int .u32 x, .pointer (some ⟨B, 0, none⟩)] W _
  go_enter Try.func28, Try.ntmps28
  go_wp2
  all_goals (go_ret; exact ⟨by simp_all, 0, rfl⟩)

/-- The function value that is handed to DeleteFunc. -/
def delV (B : Nat) : Value := .func (.func 28) #[] #[.pointer (some ⟨B, 0, none⟩)]

set_option maxHeartbeats 1000000 in
theorem index_nil (f : Value) (w : World) : Calls Try.prog 30 #[.slice none 0 0, f] w fun e w' => e = .returned (.int .i64 (-1)) ∧ w' = w := by
  go_enter Try.func30, Try.ntmps30
  go_wp2
  refine wp_loop_rounds 1 ?_
  rw [rounds_succ]
  go_wp2
  go_ret
  exact ⟨rfl, rfl⟩

set_option maxHeartbeats 1000000 in
theorem delete_nil (f : Value) (w : World) : Calls Try.prog 27 #[.slice none 0 0, f] w fun e w' => e = .returned (.slice none 0 0) ∧ w' = w := by
  go_enter Try.func27, Try.ntmps27
  go_wp2_with fail
  refine (index_nil f _).mono ?_
  rintro e w1 ⟨rfl, rfl⟩
  go_wp2
  go_ret
  exact ⟨rfl, rfl⟩

theorem put_heap (w : World) (g q : Nat) (d : Array Int) (cur : Array Value) (t : TypeId) (hg : w.heap[g]? = some (.cells cur t (0, 0))) :
    (putRow (Value.int .u32) (Sort.ahead w q) g 0 d).heap[g]? = some (.cells (putCells (Value.int .u32) 0 d cur) t (0, 0)) := by
  unfold putRow mapBlock
  show (w.heap.modify g _)[g]? = _
  rw [Array.getElem?_modify, if_pos rfl, hg]
  rfl

theorem put_far (w : World) (g q : Nat) (d : Array Int) (k : Nat) (hk : k ≠ g) : (putRow (Value.int .u32) (Sort.ahead w q) g 0 d).heap[k]? = w.heap[k]? := by
  unfold putRow mapBlock
  show (w.heap.modify g _)[k]? = _
  rw [Array.getElem?_modify, if_neg (fun e => hk e.symm)]

/-- The places but one. -/
def but (l : List Int) (pc : Int) : List Int := l.filter fun x => !(x == pc)

theorem delete_any {w : World} {F : Nat → Prop} {v : Value} {l : List Int} (h : Row w F 32 1 v l.length (ints l)) (hn : l.length ≤ 1000000) (pc : Int) (B : Nat) (hB : w.cell? ⟨B, 0, none⟩ = some (.int .u32 pc)) (hne : v.ownBlock ≠ some B) :
    Calls Try.prog 27 #[v, delV B] w fun e w' => ∃ v', e = .returned v' ∧ Row w' F 32 1 v' (but l pc).length (ints (but l pc)) ∧ Turn (fun k => v.ownBlock = some k) w w' ∧ v'.ownBlock = v.ownBlock := by
  rcases h.1.2 with ⟨rfl, h0⟩ | ⟨g, cap, cur, rfl, -, hg, hc, hm, hsz, ht⟩
  · obtain rfl : l = [] := List.length_eq_zero_iff.1 h0
    refine (delete_nil _ w).mono ?_
    rintro e w' ⟨rfl, rfl⟩
    exact ⟨_, rfl, h, Turn.refl _ _, rfl⟩
  · have hgB : B ≠ g := fun e => hne (by rw [e]; rfl)
    have hBl : B < w.heap.size := World.block_lt_of_cell? _ _ hB
    have lt : ∀ i, i < l.length → l.toArray[i]! = l[i]! := fun i hi => by simp
    have H : Holds (Value.int .u32) w g 0 l.toArray := fun j hj => by
      have hj' : j < l.length := by simpa using hj
      refine ⟨?_, frozen_of_row w g _ cur 32 hg⟩
      have := h.1.cells (g := g) rfl j (.int .u32 l[j]!) (by simp [ints, hj'])
      rw [Addr.add_lit] at this
      rw [this, lt j hj']
    have con := AnyE.slices_DeleteFunc (P := Try.prog) lays10 (Value.int .u32) (fun _ => rfl) (fun x => x == pc) 28 #[.pointer (some ⟨B, 0, none⟩)] (enters_of Try.func28 (by kernel_rfl) rfl) 0 Try.zeroValue32 g 0 cap l.toArray w
      (fun W x hb => same_place pc x B W ((hb.cell (p := ⟨B, 0, none⟩) hBl).trans hB))
      (fun n os dk x _ => same_place pc x B _ (by
        unfold sortWorld
        rw [cell?_grow _ _ _ (by show B < (putRow _ _ _ _ _).heap.size; rw [size_putRow]; exact hBl), cell?_putRow_other _ _ g 0 _ _ (Or.inl hgB)]
        exact hB)) H (by simp; omega) (by simpa using hc)
    rw [show l.toArray.size = l.length by simp, show (l.toArray.toList.filter fun x => !(x == pc)) = but l pc from rfl] at con
    refine con.mono ?_
    rintro e w' ⟨rfl, q, rfl⟩
    have hle : (but l pc).length ≤ l.length := List.length_filter_le _ _
    refine ⟨_, rfl, ⟨⟨by rw [ints_len, Nat.mul_one], .inr ⟨g, cap, _, rfl, Nat.zero_le _, put_heap w g q _ cur _ hg, by omega, hm, by rw [putCells, Array.size_mapIdx]; exact hsz, ?_⟩⟩, h.2⟩,
      ⟨rfl, rfl, rfl, by rw [size_putRow]; exact Nat.le_refl _, fun k hk hF => put_far w g q _ k (fun e => hF (by rw [e]; rfl))⟩, rfl⟩
    apply List.ext_getElem?
    intro j
    rw [Nat.mul_one, List.getElem?_take]
    by_cases hj : j < (but l pc).length
    · rw [if_pos hj, Array.getElem?_toList, putCells, Array.getElem?_mapIdx, Array.getElem?_eq_getElem (by rw [hsz, Nat.mul_one]; omega), Option.map_some, if_pos ⟨Nat.zero_le _, by simp; omega⟩, ints, List.getElem?_map, List.getElem?_eq_getElem hj, Option.map_some, Nat.sub_zero]
      congr 2
      simp [List.getElem?_append_left hj, List.getElem?_eq_getElem hj]
    · rw [if_neg hj, List.getElem?_eq_none (by rw [ints_len]; omega)]

end Go.Proofs.Ytkmafafmnncgiaa
