/- Contracts of the program's New, Pages, find, pageOf, number. -/
import Derived.Test.YtdapjpbdplhgbaaMemPlain
namespace Go.Proofs.Ytdapjpbdplhgbaa
open Go.RowKit
set_option linter.unusedVariables false
set_option maxRecDepth 100000

/-- A page of noughts, cell by cell. -/
def page0 : List Value := List.replicate 256 (.int .u8 0) ++ [.bool false]

theorem page0_len : page0.length = 257 := by
  unfold page0
  rw [List.length_append, List.length_replicate]
  rfl

theorem page0_at (j : Nat) (h : j < 256) : page0[j]? = some (.int .u8 0) := by
  unfold page0
  rw [List.getElem?_append_left (by rw [List.length_replicate]; exact h), List.getElem?_replicate, if_pos h]

theorem page0_end : page0[256]? = some (.bool false) := by
  unfold page0
  rw [List.getElem?_append_right (by rw [List.length_replicate]; exact Nat.le_refl _), List.length_replicate]
  rfl

theorem info63 : ∃ i z, Try.prog.info? 98 = some i ∧ i.zero = some z ∧ i.size = 257 ∧ i.bytes = 257 ∧ z.cells.toList = page0 := by
  have h : (Try.prog.info? 98).map (fun i => (i.zero.map (fun z => z.cells.toList), i.size, i.bytes)) = some (some page0, 257, 257) := by kernel_rfl
  cases e : Try.prog.info? 98 with
  | none => rw [e] at h; cases h
  | some i =>
    rw [e] at h
    simp only [Option.map_some, Option.some.injEq, Prod.mk.injEq] at h
    obtain ⟨h1, h2, h3⟩ := h
    cases f : i.zero with
    | none => rw [f] at h1; cases h1
    | some z =>
      rw [f] at h1
      simp only [Option.map_some, Option.some.injEq] at h1
      exact ⟨i, z, rfl, f, h2, h3, h1⟩

theorem made_at {z : Array Value} (hz : z.toList = page0) (m o : Nat) (h : o < m) : (madeCells z m)[o]? = page0[o % 257]? := by
  have hs : z.size = 257 := by rw [← Array.length_toList, hz, page0_len]
  unfold madeCells
  rw [Array.getElem?_map, Array.getElem?_range, if_pos h]
  simp only [Option.map_some, hs]
  have hlt : o % 257 < z.size := by rw [hs]; exact Nat.mod_lt _ (by decide)
  rw [getElem!_pos z _ hlt, ← hz, Array.getElem?_toList, Array.getElem?_eq_getElem hlt]

/-- A memory of noughts. -/
theorem mem_new (w : World) (n : Nat) (h4 : 4 ≤ n) (h64 : n ≤ 64) {z : Array Value} (hz : z.toList = page0) (t : TypeId) :
    Mem ((w.alloc (.cells (madeCells z (n * 257)) 98)).alloc (.cells #[.slice (some ⟨w.heap.size, 0, none⟩) n n] t)) (w.heap.size + 1) w.heap.size n n (fun _ => 0) (fun _ => false) := by
  have hne : w.heap.size ≠ (w.alloc (.cells (madeCells z (n * 257)) 98)).heap.size := by simp
  refine ⟨by simp, by simp; omega, by omega, h4, h64, Nat.le_refl _, ?_, ?_, ?_, ?_, fun _ => by decide⟩
  · rw [show w.heap.size + 1 = (w.alloc (.cells (madeCells z (n * 257)) 98)).heap.size by simp, World.cell?_alloc_new]; rfl
  · intro j hj
    rw [World.cell?_alloc_old _ _ _ hne, World.cell?_alloc_new, made_at hz _ _ (by omega), show (j + j / 256) % 257 = j % 256 by omega, page0_at _ (by omega)]
    rfl
  · intro k hk
    rw [World.cell?_alloc_old _ _ _ hne, World.cell?_alloc_new, made_at hz _ _ (by omega), show (257 * k + 256) % 257 = 256 by omega, page0_end]
  · intro o
    rw [World.frozen?_alloc_old _ _ _ hne, World.frozen?_alloc_new]

theorem new_bad (n : Int) (h : ¬ (4 ≤ n ∧ n ≤ 64)) (w : World) :
    Calls Try.prog 23 #[.int .i64 n] w fun e w' => e = .returned (.tuple #[.pointer none, .int .i64 60]) ∧ w' = w := by
  by_cases h1 : n < 4
  · go_enter Try.func23, Try.ntmps23
    go_wp2
    go_ret2
    exact ⟨rfl, rfl⟩
  · have h2 : 64 < n := by omega
    go_enter Try.func23, Try.ntmps23
    go_wp2
    go_ret2
    exact ⟨rfl, rfl⟩

theorem new_any (n : Nat) (h4 : 4 ≤ n) (h64 : n ≤ 64) (w : World) :
    Calls Try.prog 23 #[.int .i64 (n : Int)] w fun e w' => ∃ p g, e = .returned (.tuple #[.pointer (some ⟨p, 0, none⟩), .int .i64 0]) ∧ Mem w' p g n n (fun _ => 0) (fun _ => false) ∧ w.heap.size ≤ p ∧ w.heap.size ≤ g ∧ Below w.heap.size w w' := by
  obtain ⟨i, z, hi, hz, hs, hb, hc⟩ := info63
  have hm := run_make (P := Try.prog) w 99 98 i z Try.underlying99 hi hz .i64 .i64 (n : Int) (n : Int) (by omega) (by omega) (by rw [hb]; omega) (by omega)
  rw [hs, Int.toNat_natCast] at hm
  obtain ⟨Z, hZ⟩ : ∃ Z, Z = z.cells := ⟨_, rfl⟩
  rw [← hZ] at hm hc
  clear hZ
  have M := mem_new w n h4 h64 hc 101
  go_enter Try.func23, Try.ntmps23
  go_wp2
  go_ret2
  exact ⟨_, _, rfl, M, by omega, by omega, ((Below.refl _ w).alloc (Nat.le_refl _) _).alloc (by simp) _⟩

theorem find_any {w : World} {p g n c : Nat} {B : Nat → Nat} {D : Nat → Bool} (M : Mem w p g n c B D) (k : Nat) (h : k < n) :
    Calls Try.prog 43 #[.pointer (some ⟨p, 0, none⟩), .int .i64 (k : Int)] w fun e w' => e = .returned (.tuple #[.pointer (some ⟨g, k * 257, none⟩), .int .i64 0]) ∧ w' = w := by
  have hd := M.hd
  have n64 := M.n64
  have nc := M.nc
  go_enter Try.func43, Try.ntmps43
  go_wp2
  go_ret2
  exact ⟨rfl, rfl⟩

theorem find_bad {w : World} {p g n c : Nat} {B : Nat → Nat} {D : Nat → Bool} (M : Mem w p g n c B D) (k : Int) (h : ¬ (0 ≤ k ∧ k < n)) :
    Calls Try.prog 43 #[.pointer (some ⟨p, 0, none⟩), .int .i64 k] w fun e w' => e = .returned (.tuple #[.pointer none, .int .i64 61]) ∧ w' = w := by
  have hd := M.hd
  have n64 := M.n64
  by_cases h0 : k < 0
  · go_enter Try.func43, Try.ntmps43
    go_wp2
    go_ret2
    exact ⟨rfl, rfl⟩
  · have h1 : (n : Int) ≤ k := by omega
    go_enter Try.func43, Try.ntmps43
    go_wp2
    go_ret2
    exact ⟨rfl, rfl⟩

theorem pages_any {w : World} {p g n c : Nat} {B : Nat → Nat} {D : Nat → Bool} (M : Mem w p g n c B D) :
    Calls Try.prog 97 #[.pointer (some ⟨p, 0, none⟩)] w fun e w' => e = .returned (.int .i64 (n : Int)) ∧ w' = w := by
  have hd := M.hd
  have n64 := M.n64
  go_enter Try.func97, Try.ntmps97
  go_wp2
  go_ret
  exact ⟨rfl, rfl⟩

theorem u61 : Try.prog.underlying 96 = some (.array (Try.prog.arrayLen 96) (Try.prog.elem 96)) := by kernel_rfl

theorem l61 : Try.prog.arrayLen 96 = 256 := by kernel_rfl

theorem e61 : Try.prog.elem 96 = 5 := by kernel_rfl

theorem size5 (w : World) : (sizeOf 5).run Try.prog w = .ok 1 w := rfl

/-- A piece of a page's bytes. -/
theorem piece (w : World) (g o s q : Nat) (h : q + s ≤ 256) (h0 : 0 < s) :
    (Instr.sliceAt 96 (.pointer (some ⟨g, o, none⟩)) (some (.int .i64 (q : Int))) (some (.int .i64 ((q : Int) + (s : Int)))) none).run Try.prog w = .ok (.slice (some ⟨g, o + q, none⟩) s (256 - q)) w := by
  rw [run_sliceAt_array_lh w 96 ⟨g, o, none⟩ u61 .i64 .i64 (q : Int) ((q : Int) + (s : Int)) (by omega) (by omega) (by rw [l61]; omega), e61, size5, Result.andThen_ok, l61]
  unfold slicedAt
  rw [Int.toNat_natCast, show ((q : Int) + (s : Int)).toNat = q + s by omega, if_neg (by omega), Addr.add_lit, Nat.mul_one, Nat.add_sub_cancel_left]

theorem number_raw (w : World) (g o s q : Nat) (a : Int) (hq : a % 256 = (q : Int)) (hs : q + s ≤ 256) (h0 : 0 < s) (a0 : 0 ≤ a) (a1 : a < 4294967296) :
    Calls Try.prog 71 #[.pointer (some ⟨g, o, none⟩), .int .u32 a, .int .i64 (s : Int)] w fun e w' => e = .returned (.slice (some ⟨g, o + q, none⟩) s (256 - q)) ∧ w' = w := by
  have hp := piece w g o s q hs h0
  go_enter Try.func71, Try.ntmps71
  go_wp2
  go_ret
  exact ⟨rfl, rfl⟩

theorem pageOf_raw {w : World} {p g n c : Nat} {B : Nat → Nat} {D : Nat → Bool} (M : Mem w p g n c B D) (a : Int) (s k : Nat) (hk : a / 256 = (k : Int)) (h : k < n) (hs : s = 1 ∨ s = 2 ∨ s = 4) (hm : a % (s : Int) = 0) (a0 : 0 ≤ a) (a1 : a < 4294967296) :
    Calls Try.prog 70 #[.pointer (some ⟨p, 0, none⟩), .int .u32 a, .int .i64 (s : Int)] w fun e w' => e = .returned (.tuple #[.pointer (some ⟨g, k * 257, none⟩), .int .i64 0]) ∧ w' = w := by
  have F := find_any M k h
  rcases hs with rfl | rfl | rfl
  all_goals
    go_enter Try.func70, Try.ntmps70
    go_wp2_with fail
    refine F.mono ?_
    rintro e w' ⟨rfl, rfl⟩
    go_wp2
    go_ret2
    exact ⟨rfl, rfl⟩

end Go.Proofs.Ytdapjpbdplhgbaa
