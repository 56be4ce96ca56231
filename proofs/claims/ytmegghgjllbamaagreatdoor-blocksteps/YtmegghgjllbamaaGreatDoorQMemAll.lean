/- Layer 6: what lies in memory where a memory of pages lies: its bytes and which pages are dirty. -/
import Derived.Test.YtmegghgjllbamaaGreatDoorQWholeAt
import Derived.Laws.BitsAllLaws
import Derived.Laws.MakeOwn
import Derived.Laws.IdiomCopy
import Derived.WalkKit
import Derived.WalkSpells
import Derived.WalkLawsBesides
import Derived.Below
import Derived.Deep.RegionHeld3
import Derived.Laws.BytesArg
import Derived.Maps.AppendAt
import Derived.RangeFuncBox
import Derived.OwnWalk
import Derived.Shelf.SlicesE.Clone
import Derived.Deep.QuietTactic
import Derived.BigQuiet
namespace Go.Proofs.YtmegghgjllbamaaGreatDoor
open Go.RowKit
set_option linter.unusedVariables false
set_option maxRecDepth 100000

/-- In block p lies a memory: n pages in block g (with room for c), the bytes B, the marks D. Byte j lies at the place j + j / 256 (a page is 256 bytes and its mark). -/
structure Mem (w : World) (p g n c : Nat) (B : Nat → Nat) (D : Nat → Bool) : Prop where
  zp : p < w.heap.size
  zg : g < w.heap.size
  ne : p ≠ g
  n4 : 4 ≤ n
  n64 : n ≤ 64
  nc : n ≤ c
  hd : w.cell? ⟨p, 0, none⟩ = some (.slice (some ⟨g, 0, none⟩) n c)
  by' : ∀ j, j < 256 * n → w.cell? ⟨g, j + j / 256, none⟩ = some (.int .u8 ((B j : Nat) : Int))
  di : ∀ k, k < n → w.cell? ⟨g, 257 * k + 256, none⟩ = some (.bool (D k))
  fr : ∀ o, w.frozen? ⟨g, o, none⟩ = false
  lt : ∀ j, B j < 256

theorem Mem.keep {w w' : World} {p g n c : Nat} {B : Nat → Nat} {D : Nat → Bool} (h : Mem w p g n c B D) (hs : w.heap.size ≤ w'.heap.size)
    (hp : w'.heap[p]? = w.heap[p]?) (hg : w'.heap[g]? = w.heap[g]?) : Mem w' p g n c B D :=
  ⟨Nat.lt_of_lt_of_le h.zp hs, Nat.lt_of_lt_of_le h.zg hs, h.ne, h.n4, h.n64, h.nc, (World.cell?_of_block (a := ⟨p, 0, none⟩) hp).trans h.hd,
    fun j hj => (World.cell?_of_block (a := ⟨g, j + j / 256, none⟩) hg).trans (h.by' j hj), fun k hk => (World.cell?_of_block (a := ⟨g, 257 * k + 256, none⟩) hg).trans (h.di k hk),
    fun o => (World.frozen?_of_block (a := ⟨g, o, none⟩) hg).trans (h.fr o), h.lt⟩

theorem Mem.on {w w' : World} {p g n c : Nat} {B : Nat → Nat} {D : Nat → Bool} (h : Mem w p g n c B D) (hb : Below w.heap.size w w') : Mem w' p g n c B D :=
  h.keep hb.size (hb.block p h.zp) (hb.block g h.zg)

theorem Mem.far {w w' : World} {p g n c r : Nat} {B : Nat → Nat} {D : Nat → Bool} (h : Mem w p g n c B D) (hb : w.grownBy w' (some r)) (hp : p ≠ r) (hg : g ≠ r) : Mem w' p g n c B D :=
  h.keep hb.size (hb.block p h.zp (by simpa using hp)) (hb.block g h.zg (by simpa using hg))

theorem Mem.drew {w : World} {p g n c : Nat} {B : Nat → Nat} {D : Nat → Bool} (h : Mem w p g n c B D) : Mem w.drew p g n c B D := h.on (Below.refl _ _).drew

theorem Mem.congr {w : World} {p g n c : Nat} {B B' : Nat → Nat} {D D' : Nat → Bool} (h : Mem w p g n c B D) (e : ∀ j, j < 256 * n → B j = B' j) (d : ∀ k, k < n → D k = D' k) (l : ∀ j, B' j < 256) : Mem w p g n c B' D' :=
  ⟨h.zp, h.zg, h.ne, h.n4, h.n64, h.nc, h.hd, fun j hj => by rw [← e j hj]; exact h.by' j hj, fun k hk => by rw [← d k hk]; exact h.di k hk, h.fr, l⟩

theorem grownBy_of {w w' : World} (hb : Below w.heap.size w w') (r : Option Nat) : w.grownBy w' r := ⟨hb.os, hb.tape, hb.output, hb.size, fun k hk _ => hb.block k hk⟩

theorem grownBy_trans {a b c : World} {r : Option Nat} (h : a.grownBy b r) (k : b.grownBy c r) : a.grownBy c r :=
  ⟨k.os.trans h.os, k.tape.trans h.tape, k.output.trans h.output, Nat.le_trans h.size k.size, fun i hi hr => (k.block i (Nat.lt_of_lt_of_le hi h.size) hr).trans (h.block i hi hr)⟩

theorem grownBy_refl (w : World) (r : Option Nat) : w.grownBy w r := ⟨rfl, rfl, rfl, Nat.le_refl _, fun _ _ _ => rfl⟩

theorem grownBy_set (w : World) (g o : Nat) (v : Value) : w.grownBy (w.setCell ⟨g, o, none⟩ v) (some g) :=
  ⟨rfl, rfl, rfl, by simp, fun k hk hr => Below.heap_setCell w ⟨g, o, none⟩ v k (by simpa using hr)⟩

theorem grownBy_sets (g : Nat) : ∀ (vs : List Value) (o : Nat) (w : World), w.grownBy (w.setCells g o vs) (some g)
  | [], _, w => grownBy_refl w _
  | v :: r, o, w => grownBy_trans (grownBy_set w g o v) (grownBy_sets g r (o + 1) _)

/-- What has grown, and changed in block r, is a world of which nothing below b has changed, where r is not below b. -/
theorem grown_below {a w w' : World} {b r : Nat} (h : Below b a w) (hg : w.grownBy w' (some r)) (hb : b ≤ w.heap.size) (hr : b ≤ r) : Below b a w' :=
  h.grown hg hb (fun k hk => by cases hk; exact hr)

/-- The number of k bytes from place a on, the highest first. -/
def numOf (B : Nat → Nat) (a : Nat) : Nat → Nat
  | 0 => 0
  | k + 1 => numOf B a k * 256 + B (a + k)

theorem numOf_lt {B : Nat → Nat} (l : ∀ j, B j < 256) (a k : Nat) : numOf B a k < 256 ^ k := by
  induction k with
  | zero => simp [numOf]
  | succ k ih =>
    have := l (a + k)
    simp only [numOf, Nat.pow_succ]
    omega

/-- Byte number i of a number of s bytes. -/
def byteOf (v s i : Nat) : Nat := v / 256 ^ (s - 1 - i) % 256

theorem byteOf_lt (v s i : Nat) : byteOf v s i < 256 := Nat.mod_lt _ (by decide)

/-- The bytes behind a store of v in s bytes at a. -/
def putB (B : Nat → Nat) (a s v : Nat) : Nat → Nat := fun j => if a ≤ j ∧ j < a + s then byteOf v s (j - a) else B j

theorem putB_lt {B : Nat → Nat} (l : ∀ j, B j < 256) (a s v j : Nat) : putB B a s v j < 256 := by
  unfold putB
  split
  · exact byteOf_lt _ _ _
  · exact l j

/-- The marks behind a change of page k. -/
def putD (D : Nat → Bool) (k : Nat) : Nat → Bool := fun i => if i = k then true else D i

/-- May a number of s bytes lie at a, in a memory of n pages? -/
def may (n a s : Nat) : Prop := (s = 1 ∨ s = 2 ∨ s = 4) ∧ a % s = 0 ∧ a + s ≤ 256 * n

/-- The text of a row of bytes. -/
def textOf (n : Nat) (f : Nat → Nat) : ByteArray := strOfNums ((List.range n).map fun j => ((f j : Nat) : Int))

theorem textOf_size (n : Nat) (f : Nat → Nat) : (textOf n f).size = n := by
  unfold textOf
  rw [strOfNums_size, List.length_map, List.length_range]

end Go.Proofs.YtmegghgjllbamaaGreatDoor

/- Contracts of the program's New, Pages, find, pageOf, number. -/
namespace Go.Proofs.YtmegghgjllbamaaGreatDoor
open Go.RowKit
set_option linter.unusedVariables false
set_option maxRecDepth 100000

/-- A page of noughts, cell by cell. -/
def page0 : List Value := List.replicate 256 (.int .u8 0) ++ [.bool false]

theorem page0_len : page0.length = 257 := by
  unfold page0
  rw [List.length_append, List.length_replicate]
  rfl

theorem page0_at (j : Nat) (h : j < 256) : page0[j]? = some (.int .u8 0) := by
  unfold page0
  rw [List.getElem?_append_left (by rw [List.length_replicate]; exact h), List.getElem?_replicate, if_pos h]

theorem page0_end : page0[256]? = some (.bool false) := by
  unfold page0
  rw [List.getElem?_append_right (by rw [List.length_replicate]; exact Nat.le_refl _), List.length_replicate]
  rfl

theorem info63 : ∃ i z, Tryz.prog.info? 110 = some i ∧ i.zero = some z ∧ i.size = 257 ∧ i.bytes = 257 ∧ z.cells.toList = page0 := by
  have h : (Tryz.prog.info? 110).map (fun i => (i.zero.map (fun z => z.cells.toList), i.size, i.bytes)) = some (some page0, 257, 257) := by kernel_rfl
  cases e : Tryz.prog.info? 110 with
  | none => rw [e] at h; cases h
  | some i =>
    rw [e] at h
    simp only [Option.map_some, Option.some.injEq, Prod.mk.injEq] at h
    obtain ⟨h1, h2, h3⟩ := h
    cases f : i.zero with
    | none => rw [f] at h1; cases h1
    | some z =>
      rw [f] at h1
      simp only [Option.map_some, Option.some.injEq] at h1
      exact ⟨i, z, rfl, f, h2, h3, h1⟩

theorem made_at {z : Array Value} (hz : z.toList = page0) (m o : Nat) (h : o < m) : (madeCells z m)[o]? = page0[o % 257]? := by
  have hs : z.size = 257 := by rw [← Array.length_toList, hz, page0_len]
  unfold madeCells
  rw [Array.getElem?_map, Array.getElem?_range, if_pos h]
  simp only [Option.map_some, hs]
  have hlt : o % 257 < z.size := by rw [hs]; exact Nat.mod_lt _ (by decide)
  rw [getElem!_pos z _ hlt, ← hz, Array.getElem?_toList, Array.getElem?_eq_getElem hlt]

/-- A memory of noughts. -/
theorem mem_new (w : World) (n : Nat) (h4 : 4 ≤ n) (h64 : n ≤ 64) {z : Array Value} (hz : z.toList = page0) (t : TypeId) :
    Mem ((w.alloc (.cells (madeCells z (n * 257)) 110)).alloc (.cells #[.slice (some ⟨w.heap.size, 0, none⟩) n n] t)) (w.heap.size + 1) w.heap.size n n (fun _ => 0) (fun _ => false) := by
  have hne : w.heap.size ≠ (w.alloc (.cells (madeCells z (n * 257)) 110)).heap.size := by simp
  refine ⟨by simp, by simp; omega, by omega, h4, h64, Nat.le_refl _, ?_, ?_, ?_, ?_, fun _ => by decide⟩
  · rw [show w.heap.size + 1 = (w.alloc (.cells (madeCells z (n * 257)) 110)).heap.size by simp, World.cell?_alloc_new]; rfl
  · intro j hj
    rw [World.cell?_alloc_old _ _ _ hne, World.cell?_alloc_new, made_at hz _ _ (by omega), show (j + j / 256) % 257 = j % 256 by omega, page0_at _ (by omega)]
    rfl
  · intro k hk
    rw [World.cell?_alloc_old _ _ _ hne, World.cell?_alloc_new, made_at hz _ _ (by omega), show (257 * k + 256) % 257 = 256 by omega, page0_end]
  · intro o
    rw [World.frozen?_alloc_old _ _ _ hne, World.frozen?_alloc_new]

theorem new_bad (n : Int) (h : ¬ (4 ≤ n ∧ n ≤ 64)) (w : World) :
    Calls Tryz.prog 12 #[.int .i64 n] w fun e w' => e = .returned (.tuple #[.pointer none, .int .i64 60]) ∧ w' = w := by
  by_cases h1 : n < 4
  · go_enter Tryz.func12, Tryz.ntmps12
    go_wp2
    go_ret2
    exact ⟨rfl, rfl⟩
  · have h2 : 64 < n := by omega
    go_enter Tryz.func12, Tryz.ntmps12
    go_wp2
    go_ret2
    exact ⟨rfl, rfl⟩

theorem new_any (n : Nat) (h4 : 4 ≤ n) (h64 : n ≤ 64) (w : World) :
    Calls Tryz.prog 12 #[.int .i64 (n : Int)] w fun e w' => ∃ p g, e = .returned (.tuple #[.pointer (some ⟨p, 0, none⟩), .int .i64 0]) ∧ Mem w' p g n n (fun _ => 0) (fun _ => false) ∧ w.heap.size ≤ p ∧ w.heap.size ≤ g ∧ Below w.heap.size w w' := by
  obtain ⟨i, z, hi, hz, hs, hb, hc⟩ := info63
  have hm := run_make (P := Tryz.prog) w 90 110 i z Tryz.underlying90 hi hz .i64 .i64 (n : Int) (n : Int) (by omega) (by omega) (by rw [hb]; omega) (by omega)
  rw [hs, Int.toNat_natCast] at hm
  obtain ⟨Z, hZ⟩ : ∃ Z, Z = z.cells := ⟨_, rfl⟩
  rw [← hZ] at hm hc
  clear hZ
  have M := mem_new w n h4 h64 hc 92
  go_enter Tryz.func12, Tryz.ntmps12
  go_wp2
  go_ret2
  exact ⟨_, _, rfl, M, by omega, by omega, ((Below.refl _ w).alloc (Nat.le_refl _) _).alloc (by simp) _⟩

theorem find_any {w : World} {p g n c : Nat} {B : Nat → Nat} {D : Nat → Bool} (M : Mem w p g n c B D) (k : Nat) (h : k < n) :
    Calls Tryz.prog 71 #[.pointer (some ⟨p, 0, none⟩), .int .i64 (k : Int)] w fun e w' => e = .returned (.tuple #[.pointer (some ⟨g, k * 257, none⟩), .int .i64 0]) ∧ w' = w := by
  have hd := M.hd
  have n64 := M.n64
  have nc := M.nc
  go_enter Tryz.func71, Tryz.ntmps71
  go_wp2
  go_ret2
  exact ⟨rfl, rfl⟩

theorem find_bad {w : World} {p g n c : Nat} {B : Nat → Nat} {D : Nat → Bool} (M : Mem w p g n c B D) (k : Int) (h : ¬ (0 ≤ k ∧ k < n)) :
    Calls Tryz.prog 71 #[.pointer (some ⟨p, 0, none⟩), .int .i64 k] w fun e w' => e = .returned (.tuple #[.pointer none, .int .i64 61]) ∧ w' = w := by
  have hd := M.hd
  have n64 := M.n64
  by_cases h0 : k < 0
  · go_enter Tryz.func71, Tryz.ntmps71
    go_wp2
    go_ret2
    exact ⟨rfl, rfl⟩
  · have h1 : (n : Int) ≤ k := by omega
    go_enter Tryz.func71, Tryz.ntmps71
    go_wp2
    go_ret2
    exact ⟨rfl, rfl⟩

theorem pages_any {w : World} {p g n c : Nat} {B : Nat → Nat} {D : Nat → Bool} (M : Mem w p g n c B D) :
    Calls Tryz.prog 114 #[.pointer (some ⟨p, 0, none⟩)] w fun e w' => e = .returned (.int .i64 (n : Int)) ∧ w' = w := by
  have hd := M.hd
  have n64 := M.n64
  go_enter Tryz.func114, Tryz.ntmps114
  go_wp2
  go_ret
  exact ⟨rfl, rfl⟩

theorem u61 : Tryz.prog.underlying 108 = some (.array (Tryz.prog.arrayLen 108) (Tryz.prog.elem 108)) := by kernel_rfl

theorem l61 : Tryz.prog.arrayLen 108 = 256 := by kernel_rfl

theorem e61 : Tryz.prog.elem 108 = 5 := by kernel_rfl

theorem size5 (w : World) : (sizeOf 5).run Tryz.prog w = .ok 1 w := rfl

/-- A piece of a page's bytes. -/
theorem piece (w : World) (g o s q : Nat) (h : q + s ≤ 256) (h0 : 0 < s) :
    (Instr.sliceAt 108 (.pointer (some ⟨g, o, none⟩)) (some (.int .i64 (q : Int))) (some (.int .i64 ((q : Int) + (s : Int)))) none).run Tryz.prog w = .ok (.slice (some ⟨g, o + q, none⟩) s (256 - q)) w := by
  rw [run_sliceAt_array_lh w 108 ⟨g, o, none⟩ u61 .i64 .i64 (q : Int) ((q : Int) + (s : Int)) (by omega) (by omega) (by rw [l61]; omega), e61, size5, Result.andThen_ok, l61]
  unfold slicedAt
  rw [Int.toNat_natCast, show ((q : Int) + (s : Int)).toNat = q + s by omega, if_neg (by omega), Addr.add_lit, Nat.mul_one, Nat.add_sub_cancel_left]

theorem number_raw (w : World) (g o s q : Nat) (a : Int) (hq : a % 256 = (q : Int)) (hs : q + s ≤ 256) (h0 : 0 < s) (a0 : 0 ≤ a) (a1 : a < 4294967296) :
    Calls Tryz.prog 38 #[.pointer (some ⟨g, o, none⟩), .int .u32 a, .int .i64 (s : Int)] w fun e w' => e = .returned (.slice (some ⟨g, o + q, none⟩) s (256 - q)) ∧ w' = w := by
  have hp := piece w g o s q hs h0
  go_enter Tryz.func38, Tryz.ntmps38
  go_wp2
  go_ret
  exact ⟨rfl, rfl⟩

theorem pageOf_raw {w : World} {p g n c : Nat} {B : Nat → Nat} {D : Nat → Bool} (M : Mem w p g n c B D) (a : Int) (s k : Nat) (hk : a / 256 = (k : Int)) (h : k < n) (hs : s = 1 ∨ s = 2 ∨ s = 4) (hm : a % (s : Int) = 0) (a0 : 0 ≤ a) (a1 : a < 4294967296) :
    Calls Tryz.prog 37 #[.pointer (some ⟨p, 0, none⟩), .int .u32 a, .int .i64 (s : Int)] w fun e w' => e = .returned (.tuple #[.pointer (some ⟨g, k * 257, none⟩), .int .i64 0]) ∧ w' = w := by
  have F := find_any M k h
  rcases hs with rfl | rfl | rfl
  all_goals
    go_enter Tryz.func37, Tryz.ntmps37
    go_wp2_with fail
    refine F.mono ?_
    rintro e w' ⟨rfl, rfl⟩
    go_wp2
    go_ret2
    exact ⟨rfl, rfl⟩

end Go.Proofs.YtmegghgjllbamaaGreatDoor

/- Contracts of the program's Load and Page, and of refusals. -/
namespace Go.Proofs.YtmegghgjllbamaaGreatDoor
open Go.RowKit
set_option linter.unusedVariables false
set_option maxRecDepth 100000

theorem pageOf_bad {w : World} {p g n c : Nat} {B : Nat → Nat} {D : Nat → Bool} (M : Mem w p g n c B D) (a s : Int) (a0 : 0 ≤ a) (a1 : a < 4294967296)
    (h : ¬ ((s = 1 ∨ s = 2 ∨ s = 4) ∧ a % s = 0 ∧ a + s ≤ 256 * n)) :
    Calls Tryz.prog 37 #[.pointer (some ⟨p, 0, none⟩), .int .u32 a, .int .i64 s] w fun e w' => e = .returned (.tuple #[.pointer none, .int .i64 61]) ∧ w' = w := by
  have n64 := M.n64
  by_cases h1 : s = 1 ∨ s = 2 ∨ s = 4
  · by_cases h2 : a % s = 0
    · have h3 : ¬ (a + s ≤ 256 * n) := fun c => h ⟨h1, h2, c⟩
      have F := find_bad M (a / 256) (by rcases h1 with rfl | rfl | rfl <;> omega)
      rcases h1 with rfl | rfl | rfl
      all_goals
        clear h
        go_enter Tryz.func37, Tryz.ntmps37
        go_wp2_with fail
        refine F.mono ?_
        rintro e w' ⟨rfl, rfl⟩
        go_wp2
        go_ret2
        exact ⟨rfl, rfl⟩
    · clear h
      rcases h1 with rfl | rfl | rfl
      · omega
      · have hb : (a % 2 != 0) = true := by simpa using h2
        go_enter Tryz.func37, Tryz.ntmps37
        go_wp2
        go_ret2
        exact ⟨rfl, rfl⟩
      · have hb : (a % 4 != 0) = true := by simpa using h2
        go_enter Tryz.func37, Tryz.ntmps37
        go_wp2
        go_ret2
        exact ⟨rfl, rfl⟩
  · clear h
    have b1 : (s != 1) = true := by simp; omega
    have b2 : (s != 2) = true := by simp; omega
    have b3 : (s != 4) = true := by simp; omega
    clear h1
    go_enter Tryz.func37, Tryz.ntmps37
    go_wp2
    go_ret2
    exact ⟨rfl, rfl⟩

theorem load_bad {w : World} {p g n c : Nat} {B : Nat → Nat} {D : Nat → Bool} (M : Mem w p g n c B D) (a s : Int) (a0 : 0 ≤ a) (a1 : a < 4294967296)
    (h : ¬ ((s = 1 ∨ s = 2 ∨ s = 4) ∧ a % s = 0 ∧ a + s ≤ 256 * n)) :
    Calls Tryz.prog 87 #[.pointer (some ⟨p, 0, none⟩), .int .u32 a, .int .i64 s] w fun e w' => e = .returned (.tuple #[.int .u32 0, .int .i64 61]) ∧ w' = w := by
  have F := pageOf_bad M a s a0 a1 h
  clear h
  go_enter Tryz.func87, Tryz.ntmps87
  go_wp2_with fail
  refine F.mono ?_
  rintro e w' ⟨rfl, rfl⟩
  go_wp2
  go_ret2
  exact ⟨rfl, rfl⟩

theorem or_add (v b : Nat) (hv : v < 16777216) (hb : b < 256) : bits .or .u32 ((v : Int) * 256) (b : Int) = (v : Int) * 256 + (b : Int) := by
  rw [show (v : Int) * 256 = ((v * 256 : Nat) : Int) by omega, u32_or_nat _ _ (by omega) (by omega)]
  have := Nat.shiftLeft_add_eq_or_of_lt (a := v) (b := b) (i := 8) (by omega)
  rw [Nat.shiftLeft_eq] at this
  rw [show v * 256 = v * 2 ^ 8 from rfl, ← this]
  omega

set_option maxHeartbeats 1000000 in
theorem load_any {w : World} {p g n c : Nat} {B : Nat → Nat} {D : Nat → Bool} (M : Mem w p g n c B D) (a : Nat) (s : Nat) (a1 : a < 4294967296) (h : may n a s) :
    Calls Tryz.prog 87 #[.pointer (some ⟨p, 0, none⟩), .int .u32 (a : Int), .int .i64 (s : Int)] w fun e w' => e = .returned (.tuple #[.int .u32 (numOf B a s : Nat), .int .i64 0]) ∧ w' = w := by
  obtain ⟨h1, h2, h3⟩ := h
  have n64 := M.n64
  have P := pageOf_raw M (a : Int) s (a / 256) (by omega) (by omega) h1 (by omega) (by omega) (by omega)
  have N := number_raw w g (a / 256 * 257) s (a % 256) (a : Int) (by omega) (by rcases h1 with rfl | rfl | rfl <;> omega) (by omega) (by omega) (by omega)
  have hc : ∀ j, j < s → w.cell? ⟨g, a / 256 * 257 + a % 256 + j, none⟩ = some (.int .u8 ((B (a + j) : Nat) : Int)) := by
    intro j hj
    have := M.by' (a + j) (by omega)
    rw [show a / 256 * 257 + a % 256 + j = a + j + (a + j) / 256 by rcases h1 with rfl | rfl | rfl <;> omega]
    exact this
  have hlt := M.lt
  have hs4 : s ≤ 4 := by omega
  obtain ⟨k, hk⟩ : ∃ k, k = a / 256 * 257 := ⟨_, rfl⟩
  obtain ⟨q, hq⟩ : ∃ q, q = a % 256 := ⟨_, rfl⟩
  rw [← hk] at P N hc
  rw [← hq] at N hc
  obtain ⟨A, hA⟩ : ∃ A : Int, A = (a : Int) := ⟨_, rfl⟩
  rw [← hA] at P N ⊢
  have HC : Hid (∀ j, j < s → w.cell? ⟨g, k + q + j, none⟩ = some (.int .u8 ((B (a + j) : Nat) : Int))) := hc
  have HP : Hid (1 ≤ s) := by show 1 ≤ s; omega
  clear hc h1 h2 h3 hk hq hA M n64
  go_enter Tryz.func87, Tryz.ntmps87
  go_wp2_with fail
  refine P.mono ?_
  rintro e w' ⟨rfl, rfl⟩
  go_wp2_with fail
  refine N.mono ?_
  rintro e w' ⟨rfl, rfl⟩
  clear P N
  go_wp2
  go_loop [10, 28] (fun t i => ∃ j : Nat, j ≤ s ∧ i = .int .i64 j ∧ t = .int .u32 ((numOf B a j : Nat) : Int)) (fun _ i => s - (intOf i).toNat)
  case atStart => exact ⟨0, by omega, rfl, rfl⟩
  case round =>
    obtain ⟨j, hj, rfl, rfl⟩ := hrel
    by_cases hl : j < s
    · have hv := numOf_lt hlt a j
      have hv2 : numOf B a j < 16777216 := Nat.lt_of_lt_of_le hv (by have : j ≤ 3 := by omega
                                                                     exact Nat.pow_le_pow_right (n := 256) (by decide) this)
      have hor := or_add (numOf B a j) (B (a + j)) hv2 (hlt _)
      have hb := hlt (a + j)
      have hcj := HC.out j hl
      have HN : Hid (numOf B a (j + 1) = numOf B a j * 256 + B (a + j)) := rfl
      obtain ⟨x, hx⟩ : ∃ x, x = numOf B a j := ⟨_, rfl⟩
      obtain ⟨b, hb'⟩ : ∃ b, b = B (a + j) := ⟨_, rfl⟩
      rw [← hx] at hor hv2 HN ⊢
      rw [← hb'] at hor hb hcj HN
      clear hv hx hb' HC
      go_wp2
      go_round
      case rel => exact ⟨j + 1, by omega, by go_num, by rw [HN.out]; go_num⟩
      case measure => simp [intOf]; omega
    · have : j = s := by omega
      subst this
      go_wp2
      go_ret2
      exact ⟨rfl, rfl⟩

theorem page_all (w : World) (g o : Nat) :
    (Instr.sliceAt 108 (.pointer (some ⟨g, o, none⟩)) none none none).run Tryz.prog w = .ok (.slice (some ⟨g, o, none⟩) 256 256) w := by
  rw [run_sliceAt_array_all w 108 ⟨g, o, none⟩ u61, e61, size5, Result.andThen_ok, l61]
  unfold slicedAt
  rw [if_neg (by decide), Addr.add_lit]
  rfl

theorem page_text {w : World} {p g n c : Nat} {B : Nat → Nat} {D : Nat → Bool} (M : Mem w p g n c B D) (k : Nat) (h : k < n) :
    (convert 53 9 (.slice (some ⟨g, k * 257, none⟩) 256 256)).run Tryz.prog w = .ok (.string (textOf 256 (fun j => B (256 * k + j)))) w := by
  refine run_convert_bytes_arg w 53 5 Tryz.underlying53 Tryz.underlying5 g (k * 257) 256 256 _ (by rw [List.length_map, List.length_range]) ?_ 9 Tryz.underlying9
  intro i hi
  have := M.by' (256 * k + i) (by omega)
  rw [show k * 257 + i = 256 * k + i + (256 * k + i) / 256 by omega, this, List.getD_eq_getElem?_getD, List.getElem?_map, List.getElem?_range hi]
  rfl

theorem page_any {w : World} {p g n c : Nat} {B : Nat → Nat} {D : Nat → Bool} (M : Mem w p g n c B D) (k : Nat) (h : k < n) :
    Calls Tryz.prog 116 #[.pointer (some ⟨p, 0, none⟩), .int .i64 (k : Int)] w fun e w' => e = .returned (.tuple #[.string (textOf 256 (fun j => B (256 * k + j))), .int .i64 0]) ∧ w' = w := by
  have F := find_any M k h
  have hs := page_all w g (k * 257)
  have ht := page_text M k h
  obtain ⟨T, hT⟩ : ∃ T, T = textOf 256 (fun j => B (256 * k + j)) := ⟨_, rfl⟩
  rw [← hT] at ht ⊢
  obtain ⟨o, ho⟩ : ∃ o, o = k * 257 := ⟨_, rfl⟩
  rw [← ho] at hs ht F
  clear hT ho
  go_enter Tryz.func116, Tryz.ntmps116
  go_wp2_with fail
  refine F.mono ?_
  rintro e w' ⟨rfl, rfl⟩
  go_wp2
  go_ret2
  exact ⟨rfl, rfl⟩

theorem page_bad {w : World} {p g n c : Nat} {B : Nat → Nat} {D : Nat → Bool} (M : Mem w p g n c B D) (k : Int) (h : ¬ (0 ≤ k ∧ k < n)) :
    Calls Tryz.prog 116 #[.pointer (some ⟨p, 0, none⟩), .int .i64 k] w fun e w' => e = .returned (.tuple #[.string ⟨#[]⟩, .int .i64 61]) ∧ w' = w := by
  have F := find_bad M k h
  clear h
  go_enter Tryz.func116, Tryz.ntmps116
  go_wp2_with fail
  refine F.mono ?_
  rintro e w' ⟨rfl, rfl⟩
  go_wp2
  go_ret2
  exact ⟨rfl, rfl⟩

end Go.Proofs.YtmegghgjllbamaaGreatDoor

/- Contracts of the program's Store and Put. -/
namespace Go.Proofs.YtmegghgjllbamaaGreatDoor
open Go.RowKit
set_option linter.unusedVariables false
set_option maxRecDepth 100000

theorem u70 : Tryz.prog.underlying 106 = some (.array (Tryz.prog.arrayLen 106) (Tryz.prog.elem 106)) := by kernel_rfl

theorem l70 : Tryz.prog.arrayLen 106 = 4 := by kernel_rfl

theorem e70 : Tryz.prog.elem 106 = 5 := by kernel_rfl

/-- The last s bytes of a word. -/
theorem tail4 (w : World) (g s : Nat) (h : s ≤ 4) (h0 : 0 < s) (l : Int) (hl : l = 4 - (s : Int)) :
    (Instr.sliceAt 106 (.pointer (some ⟨g, 0, none⟩)) (some (.int .i64 l)) none none).run Tryz.prog w = .ok (.slice (some ⟨g, 4 - s, none⟩) s s) w := by
  subst hl
  rw [run_sliceAt_array_l w 106 ⟨g, 0, none⟩ u70 .i64 (4 - (s : Int)) (by omega) (by rw [l70]; omega), e70, size5, Result.andThen_ok, l70]
  unfold slicedAt
  rw [show (4 - (s : Int)).toNat = 4 - s by omega, if_neg (by omega), Addr.add_lit, Nat.mul_one, Nat.zero_add, show 4 - (4 - s) = s by omega]

theorem store_bad {w : World} {p g n c : Nat} {B : Nat → Nat} {D : Nat → Bool} (M : Mem w p g n c B D) (a s v : Int) (a0 : 0 ≤ a) (a1 : a < 4294967296)
    (h : ¬ ((s = 1 ∨ s = 2 ∨ s = 4) ∧ a % s = 0 ∧ a + s ≤ 256 * n)) :
    Calls Tryz.prog 16 #[.pointer (some ⟨p, 0, none⟩), .int .u32 a, .int .i64 s, .int .u32 v] w fun e w' => e = .returned (.int .i64 61) ∧ w' = w := by
  have F := pageOf_bad M a s a0 a1 h
  clear h
  go_enter Tryz.func16, Tryz.ntmps16
  go_wp2_with fail
  refine F.mono ?_
  rintro e w' ⟨rfl, rfl⟩
  go_wp2
  go_ret
  exact ⟨rfl, rfl⟩

set_option maxHeartbeats 1000000 in
theorem store_raw {w X : World} {p g o q s : Nat} {A V : Int} (v0 : 0 ≤ V) (v1 : V < 4294967296) (b : Bool)
    (P : Calls Tryz.prog 37 #[.pointer (some ⟨p, 0, none⟩), .int .u32 A, .int .i64 (s : Int)] w fun e w' => e = .returned (.tuple #[.pointer (some ⟨g, o, none⟩), .int .i64 0]) ∧ w' = w)
    (N : ∀ w, Calls Tryz.prog 38 #[.pointer (some ⟨g, o, none⟩), .int .u32 A, .int .i64 (s : Int)] w fun e w' => e = .returned (.slice (some ⟨g, o + q, none⟩) s (256 - q)) ∧ w' = w)
    (h4 : s ≤ 4) (h0 : 0 < s)
    (HC : (Builtin.copy_ #[53, 53] 3 #[.slice (some ⟨g, o + q, none⟩) s (256 - q), .slice (some ⟨w.heap.size, 4 - s, none⟩) s s]).run Tryz.prog
      (w.alloc (.cells #[.int .u8 (V / 16777216), .int .u8 (V / 65536 % 256), .int .u8 (V / 256 % 256), .int .u8 (V % 256)] 106)).drew = .ok (goInt s) X)
    (HD : X.cell? ⟨g, o + 256, none⟩ = some (.bool b)) (HF : X.frozen? ⟨g, o + 256, none⟩ = false) :
    Calls Tryz.prog 16 #[.pointer (some ⟨p, 0, none⟩), .int .u32 A, .int .i64 (s : Int), .int .u32 V] w fun e w' => e = .returned (.int .i64 0) ∧ w' = X.setCell ⟨g, o + 256, none⟩ (.bool true) := by
  have T := fun w g => tail4 w g s h4 h0 (IntKind.i64.wrap (4 - (s : Int))) (by rw [IntKind.wrap_i64]; omega)
  go_enter Tryz.func16, Tryz.ntmps16
  go_wp2_with fail
  refine P.mono ?_
  rintro e w' ⟨rfl, rfl⟩
  go_wp2
  go_region_with (go_at_call 38; refine (N _).mono ?_; rintro e w' ⟨rfl, rfl⟩)
  go_wp2
  go_ret
  exact ⟨rfl, rfl⟩

/-- Bytes, one behind the other, as cells. -/
def bytesAt (L : Nat) (f : Nat → Nat) : List Value := (List.range L).map fun j => .int .u8 ((f j : Nat) : Int)

theorem bytesAt_len (L : Nat) (f : Nat → Nat) : (bytesAt L f).length = L := by simp [bytesAt]

theorem bytesAt_at (L : Nat) (f : Nat → Nat) (j : Nat) (h : j < L) : (bytesAt L f)[j]? = some (.int .u8 ((f j : Nat) : Int)) := by
  unfold bytesAt
  rw [List.getElem?_map, List.getElem?_range h]
  rfl

theorem bytesAt_one (L : Nat) (f : Nat → Nat) : ∀ v ∈ bytesAt L f, v.oneCell' = true := by
  intro v hv
  unfold bytesAt at hv
  rw [List.mem_map] at hv
  obtain ⟨j, -, rfl⟩ := hv
  rfl

/-- Bytes put into a page, and its mark: what lies there then. -/
theorem Mem.put {w : World} {p g n c : Nat} {B : Nat → Nat} {D : Nat → Bool} (M : Mem w p g n c B D) (k q L : Nat) (hk : k < n) (hq : q + L ≤ 256) (f B' : Nat → Nat)
    (hin : ∀ j, j < L → B' (256 * k + q + j) = f j) (hout : ∀ j, ¬ (256 * k + q ≤ j ∧ j < 256 * k + q + L) → B' j = B j) (hlt : ∀ j, B' j < 256) :
    Mem ((w.setCells g (k * 257 + q) (bytesAt L f)).setCell ⟨g, k * 257 + 256, none⟩ (.bool true)) p g n c B' (putD D k) := by
  have hsz : ∀ (vs : List Value) (o : Nat) (w : World), (w.setCells g o vs).heap.size = w.heap.size := by
    intro vs
    induction vs with
    | nil => intro o w; rfl
    | cons v r ih => intro o w; rw [World.setCells, ih, World.size_setCell]
  have hmid : ∀ o, (w.cell? ⟨g, o, none⟩).isSome = true → ((w.setCells g (k * 257 + q) (bytesAt L f)).cell? ⟨g, o, none⟩).isSome = true := by
    intro o ho
    by_cases hj : k * 257 + q ≤ o ∧ o < k * 257 + q + L
    · have := World.cell?_setCells_in g (bytesAt L f) (k * 257 + q) w (fun i hi => by
        rw [bytesAt_len] at hi
        have := M.by' (256 * k + q + i) (by omega)
        rw [show k * 257 + q + i = 256 * k + q + i + (256 * k + q + i) / 256 by omega, this]; rfl) (o - (k * 257 + q)) (by rw [bytesAt_len]; omega)
      rw [show k * 257 + q + (o - (k * 257 + q)) = o by omega] at this
      rw [this]; rfl
    · rw [World.cell?_setCells_out g _ _ _ _ (fun _ _ => by rw [bytesAt_len]; show o < _ ∨ _ ≤ o; omega)]
      exact ho
  refine ⟨?_, ?_, M.ne, M.n4, M.n64, M.nc, ?_, ?_, ?_, ?_, hlt⟩
  · rw [World.size_setCell, hsz]; exact M.zp
  · rw [World.size_setCell, hsz]; exact M.zg
  · rw [World.cell?_setCell_other _ _ _ _ (by intro e; injection e with e1; exact M.ne e1.symm), World.cell?_setCells_out g _ _ _ _ (fun e _ => absurd e M.ne)]
    exact M.hd
  · intro j hj
    rw [World.cell?_setCell_other _ _ _ _ (by intro e; injection e with _ e2; omega)]
    by_cases hi : 256 * k + q ≤ j ∧ j < 256 * k + q + L
    · have := World.cell?_setCells_in g (bytesAt L f) (k * 257 + q) w (fun i hi => by
        rw [bytesAt_len] at hi
        have := M.by' (256 * k + q + i) (by omega)
        rw [show k * 257 + q + i = 256 * k + q + i + (256 * k + q + i) / 256 by omega, this]; rfl) (j - (256 * k + q)) (by rw [bytesAt_len]; omega)
      rw [show k * 257 + q + (j - (256 * k + q)) = j + j / 256 by omega] at this
      rw [this, ← List.getElem?_eq_getElem, bytesAt_at _ _ _ (by omega), ← hin _ (by omega), show 256 * k + q + (j - (256 * k + q)) = j by omega]
    · rw [World.cell?_setCells_out g _ _ _ _ (fun _ _ => by rw [bytesAt_len]; show j + j / 256 < _ ∨ _ ≤ j + j / 256; omega), hout j hi]
      exact M.by' j hj
  · intro i hi
    by_cases e : i = k
    · subst e
      obtain ⟨u, hu⟩ := Option.isSome_iff_exists.1 (hmid (i * 257 + 256) (by have := M.di i hi; rw [show i * 257 + 256 = 257 * i + 256 by omega, this]; rfl))
      rw [show 257 * i + 256 = i * 257 + 256 by omega, World.cell?_setCell_same _ _ _ hu]
      simp [putD]
    · rw [World.cell?_setCell_other _ _ _ _ (by intro e; injection e with _ e2; omega), World.cell?_setCells_out g _ _ _ _ (fun _ _ => by rw [bytesAt_len]; show 257 * i + 256 < _ ∨ _ ≤ 257 * i + 256; omega), M.di i hi]
      simp [putD, e]
  · intro o
    rw [World.frozen?_setCell, World.frozen?_setCells]
    exact M.fr o

end Go.Proofs.YtmegghgjllbamaaGreatDoor

/- Contracts of the program's Store and Put, over the bytes of a memory. -/
namespace Go.Proofs.YtmegghgjllbamaaGreatDoor
open Go.RowKit
set_option linter.unusedVariables false
set_option maxRecDepth 100000

theorem one5 : (Tryz.prog.info? 5).map (·.size) = some 1 := by kernel_rfl

theorem word_at (v s j : Nat) (hv : v < 4294967296) (hs : s = 1 ∨ s = 2 ∨ s = 4) (hj : j < s) :
    (#[Value.int .u8 ((v : Int) / 16777216), .int .u8 ((v : Int) / 65536 % 256), .int .u8 ((v : Int) / 256 % 256), .int .u8 ((v : Int) % 256)] : Array Value)[4 - s + j]? = some (.int .u8 ((byteOf v s j : Nat) : Int)) := by
  unfold byteOf
  rcases hs with rfl | rfl | rfl
  · obtain rfl : j = 0 := by omega
    simp
  · have : j = 0 ∨ j = 1 := by omega
    rcases this with rfl | rfl <;> simp
  · have : j = 0 ∨ j = 1 ∨ j = 2 ∨ j = 3 := by omega
    rcases this with rfl | rfl | rfl | rfl <;> simp
    omega

theorem store_any {w : World} {p g n c : Nat} {B : Nat → Nat} {D : Nat → Bool} (M : Mem w p g n c B D) (a s v : Nat) (a1 : a < 4294967296) (hv : v < 4294967296) (h : may n a s) :
    Calls Tryz.prog 16 #[.pointer (some ⟨p, 0, none⟩), .int .u32 (a : Int), .int .i64 (s : Int), .int .u32 (v : Int)] w fun e w' =>
      e = .returned (.int .i64 0) ∧ Mem w' p g n c (putB B a s v) (putD D (a / 256)) ∧ w.grownBy w' (some g) := by
  obtain ⟨h1, h2, h3⟩ := h
  have n64 := M.n64
  have hq : a % 256 + s ≤ 256 := by rcases h1 with rfl | rfl | rfl <;> omega
  have h0 : 0 < s := by omega
  have P := pageOf_raw M (a : Int) s (a / 256) (by omega) (by omega) h1 (by omega) (by omega) (by omega)
  have N := fun w => number_raw w g (a / 256 * 257) s (a % 256) (a : Int) (by omega) hq h0 (by omega) (by omega)
  obtain ⟨W, hW⟩ : ∃ W, W = (w.alloc (.cells #[.int .u8 ((v : Int) / 16777216), .int .u8 ((v : Int) / 65536 % 256), .int .u8 ((v : Int) / 256 % 256), .int .u8 ((v : Int) % 256)] 106)).drew := ⟨_, rfl⟩
  have hb : Below w.heap.size w W := by rw [hW]; exact ((Below.refl _ w).alloc (Nat.le_refl _) _).drew
  have MW := M.on hb
  have hin : ∀ j, j < s → (W.cell? ⟨g, a / 256 * 257 + a % 256 + j, none⟩) = some (.int .u8 ((B (a + j) : Nat) : Int)) := by
    intro j hj
    have := MW.by' (a + j) (by omega)
    rw [show a / 256 * 257 + a % 256 + j = a + j + (a + j) / 256 by omega]
    exact this
  have HC := run_copy_cells (P := Tryz.prog) W 53 53 3 5 g (a / 256 * 257 + a % 256) s (256 - a % 256) ⟨w.heap.size, 4 - s, none⟩ s s (bytesAt s (byteOf v s)) Tryz.underlying53 one5
    (by rw [bytesAt_len]; exact (Nat.min_self s).symm)
    (by
      intro j u hj
      have hjs : j < s := by
        have := (List.getElem?_eq_some_iff.1 hj).1
        rwa [bytesAt_len] at this
      rw [bytesAt_at _ _ _ hjs] at hj
      rw [Addr.add_lit, hW, World.cell?_drew, World.cell?_alloc_new, word_at v s j hv h1 hjs, hj])
    (by intro j hj; rw [bytesAt_len] at hj; rw [hin j hj]; rfl)
    (by intro j hj; exact MW.fr _) (bytesAt_one _ _)
  rw [bytesAt_len] at HC
  have HD : (W.setCells g (a / 256 * 257 + a % 256) (bytesAt s (byteOf v s))).cell? ⟨g, a / 256 * 257 + 256, none⟩ = some (.bool (D (a / 256))) := by
    rw [World.cell?_setCells_out g _ _ _ _ (fun _ _ => by rw [bytesAt_len]; show a / 256 * 257 + 256 < _ ∨ _ ≤ a / 256 * 257 + 256; omega)]
    have := MW.di (a / 256) (by omega)
    rwa [show 257 * (a / 256) + 256 = a / 256 * 257 + 256 by omega] at this
  have HF : (W.setCells g (a / 256 * 257 + a % 256) (bytesAt s (byteOf v s))).frozen? ⟨g, a / 256 * 257 + 256, none⟩ = false := by
    rw [World.frozen?_setCells]; exact MW.fr _
  have MP := MW.put (a / 256) (a % 256) s (by omega) hq (byteOf v s) (putB B a s v)
    (by intro j hj; unfold putB; rw [if_pos (by omega)]; congr 1; omega)
    (by intro j hj; unfold putB; rw [if_neg (by omega)])
    (putB_lt M.lt a s v)
  rw [hW] at HC
  refine (store_raw (w := w) (by omega) (by omega) _ P N (by omega) h0 HC (by rw [← hW]; exact HD) (by rw [← hW]; exact HF)).mono ?_
  rintro e w' ⟨rfl, rfl⟩
  rw [← hW]
  exact ⟨rfl, MP, grownBy_trans (grownBy_of hb _) (grownBy_trans (grownBy_sets g _ _ _) (grownBy_set _ _ _ _))⟩

/-- Byte number j of a text (0 behind its end). -/
def byteAt (s : ByteArray) (j : Nat) : Nat := (s.data[j]?.getD 0).toNat

theorem byteAt_lt (s : ByteArray) (j : Nat) : byteAt s j < 256 := UInt8.toNat_lt _

/-- The bytes behind a page's being put. -/
def pageB (B : Nat → Nat) (k : Nat) (s : ByteArray) : Nat → Nat := fun j => if j / 256 = k then byteAt s (j % 256) else B j

theorem run_copy_text (w : World) (g o : Nat) (s : ByteArray) (hs : s.size = 256) (hc : ∀ j, j < 256 → (w.cell? ⟨g, o + j, none⟩).isSome = true) (hf : ∀ j, j < 256 → w.frozen? ⟨g, o + j, none⟩ = false) :
    (Builtin.copy_ #[53, 9] 3 #[.slice (some ⟨g, o, none⟩) 256 256, .string s]).run Tryz.prog w = .ok (goInt 256) (w.setCells g o (bytesAt 256 (byteAt s))) := by
  have hst := run_storeCells_cells (P := Tryz.prog) g o (bytesAt 256 (byteAt s)) 0 w (by rw [bytesAt_len]; simpa using hc) (by rw [bytesAt_len]; simpa using hf) (bytesAt_one _ _)
  have he : ((s.extract 0 256).data.map fun b => Value.int .u8 b.toNat).toList = bytesAt 256 (byteAt s) := by
    apply List.ext_getElem?
    intro j
    rw [Array.getElem?_toList, Array.getElem?_map]
    by_cases hj : j < 256
    · rw [bytesAt_at _ _ _ hj]
      have e1 : (s.extract 0 256).data[j]? = s.data[j]? := by
        rw [ByteArray.data_extract, Array.getElem?_extract]
        have : s.data.size = 256 := hs
        rw [if_pos (by omega), Nat.zero_add]
      have hlt : j < s.data.size := by have : s.data.size = 256 := hs; omega
      rw [e1]
      unfold byteAt
      rw [Array.getElem?_eq_getElem hlt]
      rfl
    · rw [List.getElem?_eq_none (by rw [bytesAt_len]; omega), Array.getElem?_eq_none (by
        have : (s.extract 0 256).data.size ≤ 256 := by
          rw [ByteArray.data_extract, Array.size_extract]; omega
        omega)]
      rfl
  cases hq : Tryz.prog.info? 5 with
  | none => have := one5; rw [hq] at this; cases this
  | some i =>
    have hi : i.size = 1 := by have := one5; rw [hq] at this; simpa using this
    simp [Builtin.copy_, run_underlying Tryz.underlying53, Builtin.lenOf, Builtin.firstCells, sizeOf, typeInfo, hq, hs]
    have he2 : List.take 256 (List.map (fun b => Value.int .u8 (b.toNat : Int)) s.data.toList) = bytesAt 256 (byteAt s) := by
      rw [← he]
      simp
    rw [he2, hst]
    simp

end Go.Proofs.YtmegghgjllbamaaGreatDoor

/- Contracts of the program's Clean, Dirty and Image. -/
namespace Go.Proofs.YtmegghgjllbamaaGreatDoor
open Go.RowKit
set_option linter.unusedVariables false
set_option maxRecDepth 100000
set_option linter.unusedSimpArgs false

/-- A page's mark, set. -/
theorem Mem.mark {w : World} {p g n c : Nat} {B : Nat → Nat} {D : Nat → Bool} (M : Mem w p g n c B D) (k : Nat) (hk : k < n) (b : Bool) :
    Mem (w.setCell ⟨g, k * 257 + 256, none⟩ (.bool b)) p g n c B (fun i => if i = k then b else D i) := by
  refine ⟨?_, ?_, M.ne, M.n4, M.n64, M.nc, ?_, ?_, ?_, ?_, M.lt⟩
  · rw [World.size_setCell]; exact M.zp
  · rw [World.size_setCell]; exact M.zg
  · rw [World.cell?_setCell_other _ _ _ _ (by intro e; injection e with e1; exact M.ne e1.symm)]
    exact M.hd
  · intro j hj
    rw [World.cell?_setCell_other _ _ _ _ (by intro e; injection e with _ e2; omega)]
    exact M.by' j hj
  · intro i hi
    by_cases e : i = k
    · subst e
      have := M.di i hi
      rw [show 257 * i + 256 = i * 257 + 256 by omega] at this ⊢
      rw [World.cell?_setCell_same _ _ _ this, if_pos rfl]
    · rw [World.cell?_setCell_other _ _ _ _ (by intro e; injection e with _ e2; omega), M.di i hi, if_neg e]
  · intro o
    rw [World.frozen?_setCell]
    exact M.fr o

/-- The dirty pages of the first k. -/
def dirts (D : Nat → Bool) (k : Nat) : List Nat := (List.range k).filter D

theorem dirts_succ (D : Nat → Bool) (k : Nat) : dirts D (k + 1) = dirts D k ++ (if D k then [k] else []) := by
  unfold dirts
  rw [List.range_succ, List.filter_append]
  congr 1
  cases h : D k <;> simp [h]

theorem dirts_len (D : Nat → Bool) (k : Nat) : (dirts D k).length ≤ k := by
  have := List.length_filter_le D (List.range k)
  rw [List.length_range] at this
  exact this

/-- Numbers as cells. -/
def ints (l : List Nat) : List Value := l.map fun k => .int .i64 ((k : Nat) : Int)

end Go.Proofs.YtmegghgjllbamaaGreatDoor

/- Contracts of the program's Image and Clone. -/
namespace Go.Proofs.YtmegghgjllbamaaGreatDoor
open Go.RowKit
set_option linter.unusedVariables false
set_option maxRecDepth 100000
set_option linter.unusedSimpArgs false

theorem bytesAt_add (a b : Nat) (f : Nat → Nat) : bytesAt (a + b) f = bytesAt a f ++ bytesAt b (fun j => f (a + j)) := by
  unfold bytesAt
  rw [List.range_add, List.map_append, List.map_map]
  rfl

/-- A row of bytes of the call's own, as a text. -/
theorem own_text {w : World} {base n : Nat} {v : Value} {f : Nat → Nat} (O : w.ownsRow base 5 1 v n (bytesAt n f)) (h0 : 0 < n) :
    (convert 53 9 v).run Tryz.prog w = .ok (.string (textOf n f)) w := by
  have hc := O.2
  rcases hc with ⟨-, rfl⟩ | ⟨g, cap, cur, rfl, -⟩
  · omega
  · refine run_convert_bytes_arg w 53 5 Tryz.underlying53 Tryz.underlying5 g 0 n cap _ (by rw [List.length_map, List.length_range]) ?_ 9 Tryz.underlying9
    intro i hi
    have := O.cells (g := g) rfl i _ (bytesAt_at n f i hi)
    rw [Addr.add_lit] at this
    rw [this, List.getD_eq_getElem?_getD, List.getElem?_map, List.getElem?_range hi]
    rfl

/-- All cells of a memory's pages. -/
def pageCells (n : Nat) (B : Nat → Nat) (D : Nat → Bool) : List Value := (List.range (n * 257)).map fun o => if o % 257 = 256 then .bool (D (o / 257)) else .int .u8 ((B (256 * (o / 257) + o % 257) : Nat) : Int)

theorem pageCells_len (n : Nat) (B : Nat → Nat) (D : Nat → Bool) : (pageCells n B D).length = n * 257 := by
  unfold pageCells
  rw [List.length_map, List.length_range]

theorem pageCells_at (n : Nat) (B : Nat → Nat) (D : Nat → Bool) (o : Nat) (h : o < n * 257) :
    (pageCells n B D)[o]? = some (if o % 257 = 256 then .bool (D (o / 257)) else .int .u8 ((B (256 * (o / 257) + o % 257) : Nat) : Int)) := by
  unfold pageCells
  rw [List.getElem?_map, List.getElem?_range h]
  rfl

theorem pageCells_one (n : Nat) (B : Nat → Nat) (D : Nat → Bool) : ∀ v ∈ pageCells n B D, v.oneCell' = true := by
  intro v hv
  unfold pageCells at hv
  rw [List.mem_map] at hv
  obtain ⟨o, -, rfl⟩ := hv
  split <;> rfl

theorem Mem.all {w : World} {p g n c : Nat} {B : Nat → Nat} {D : Nat → Bool} (M : Mem w p g n c B D) (j : Nat) (u : Value) (h : (pageCells n B D)[j]? = some u) : w.cell? ⟨g, 0 + j, none⟩ = some u := by
  have hj : j < n * 257 := by
    have := (List.getElem?_eq_some_iff.1 h).1
    rwa [pageCells_len] at this
  rw [pageCells_at n B D j hj] at h
  rw [← h, Nat.zero_add]
  by_cases e : j % 257 = 256
  · rw [if_pos e]
    have := M.di (j / 257) (by omega)
    rwa [show 257 * (j / 257) + 256 = j by omega] at this
  · rw [if_neg e]
    have := M.by' (256 * (j / 257) + j % 257) (by omega)
    rwa [show 256 * (j / 257) + j % 257 + (256 * (j / 257) + j % 257) / 256 = j by omega] at this

/-- What is a row of the call's own of such cells, and a pointer to it, is a memory. -/
theorem Mem.of_own {w x : World} {base n c g : Nat} {B : Nat → Nat} {D : Nat → Bool} {v : Value} (O : x.ownsRow base 110 257 v n (pageCells n B D)) (h4 : 4 ≤ n) (h64 : n ≤ 64) (hlt : ∀ j, B j < 256) (hb : base ≤ x.heap.size) (t : TypeId) :
    ∃ g c, base ≤ g ∧ v = .slice (some ⟨g, 0, none⟩) n c ∧ Mem (x.alloc (.cells #[v] t)) x.heap.size g n c B D := by
  have hc := O.2
  rcases hc with ⟨-, rfl⟩ | ⟨g, cap, cur, rfl, hbg, hg, hnc, -⟩
  · omega
  · have hgl : g < x.heap.size := by
      by_cases h : g < x.heap.size
      · exact h
      · rw [Array.getElem?_eq_none (by omega)] at hg; cases hg
    have hne : ∀ o, (⟨g, o, none⟩ : Addr).block ≠ x.heap.size := fun o => by show g ≠ _; omega
    refine ⟨g, cap, hbg, rfl, by simp, by simp; omega, by omega, h4, h64, hnc, by rw [World.cell?_alloc_new]; rfl, ?_, ?_, ?_, hlt⟩
    · intro j hj
      rw [World.cell?_alloc_old _ _ _ (hne _)]
      have := O.cells (g := g) rfl (j + j / 256) _ (pageCells_at n B D (j + j / 256) (by omega))
      rw [Addr.add_lit, Nat.zero_add, if_neg (by omega), show 256 * ((j + j / 256) / 257) + (j + j / 256) % 257 = j by omega] at this
      exact this
    · intro k hk
      rw [World.cell?_alloc_old _ _ _ (hne _)]
      have := O.cells (g := g) rfl (257 * k + 256) _ (pageCells_at n B D (257 * k + 256) (by omega))
      rw [Addr.add_lit, Nat.zero_add, if_pos (by omega), show (257 * k + 256) / 257 = k by omega] at this
      exact this
    · intro o
      rw [World.frozen?_alloc_old _ _ _ (hne _)]
      simp [World.frozen?, hg]

end Go.Proofs.YtmegghgjllbamaaGreatDoor

/- Two rows of numbers are held one against the other; the calls whose answers the document fixes are answered so. -/
namespace Go.Proofs.YtmegghgjllbamaaGreatDoor
open Go.RowKit
set_option linter.unusedVariables false
set_option maxRecDepth 100000
set_option linter.unusedSimpArgs false

theorem cell_in {W : World} {b o : Nat} {v : Value} (h : W.cell? ⟨b, o, none⟩ = some v) : b < W.heap.size := World.block_lt_of_cell? W _ h

theorem below_drewN {B : Nat} {a w : World} (h : Below B a w) (n : Nat) : Below B a (w.drewN n) := h.trans ⟨rfl, rfl, rfl, Nat.le_refl _, fun _ _ => rfl⟩

/-- What a row of numbers reads as. -/
def RowAt (w : World) (v : Value) (xs : List Nat) : Prop :=
  (v = .slice none 0 0 ∧ xs = []) ∨ ∃ g cap, v = .slice (some ⟨g, 0, none⟩) xs.length cap ∧ ∀ (j : Nat) u, xs[j]? = some u → w.cell? ⟨g, j, none⟩ = some (.int .i64 ((u : Nat) : Int))

theorem RowAt.on {w w' : World} {v : Value} {xs : List Nat} (h : RowAt w v xs) (hb : Below w.heap.size w w') : RowAt w' v xs := by
  rcases h with h | ⟨g, cap, rfl, hc⟩
  · exact Or.inl h
  · exact Or.inr ⟨g, cap, rfl, fun j u hj => (hb.cell (p := ⟨g, j, none⟩) (cell_in (hc j u hj))).trans (hc j u hj)⟩

theorem RowAt.of {w : World} {base : Nat} {v : Value} {xs : List Nat} (h : w.ownsRow base 3 1 v xs.length (ints xs)) : RowAt w v xs := by
  rcases h with ⟨hl, ⟨rfl, h0⟩ | ⟨g, cap, cur, rfl, hb, hg, hn, hm, hc, ht⟩⟩
  · exact Or.inl ⟨rfl, List.length_eq_zero_iff.mp h0⟩
  · refine Or.inr ⟨g, cap, rfl, fun j u hj => ?_⟩
    have hlt : j < xs.length := (List.getElem?_eq_some_iff.mp hj).1
    have e : (cur.toList.take (xs.length * 1))[j]? = some (.int .i64 ((u : Nat) : Int)) := by rw [ht]; simp [ints, hj]
    rw [List.getElem?_take_of_lt (by omega)] at e
    simp only [World.cell?, hg]
    simpa using e

/-- The bytes behind the one store of the fixed calls. -/
def fixB : Nat → Nat := putB (fun _ => 0) 254 2 4660

theorem fix_tail : (textOf 256 (fun j => fixB (256 * 0 + j))).extract 254 256 = ⟨#[18, 52]⟩ := by decide +kernel

theorem fix_dirts : dirts (putD (fun _ => false) 0) 4 = [0] := by decide +kernel

theorem one_row (w : World) (k : Nat) : RowAt (w.alloc (.cells #[.int .i64 (k : Int)] 3)) (.slice (some ⟨w.heap.size, 0, none⟩) 1 1) [k] := by
  refine Or.inr ⟨w.heap.size, 1, rfl, fun j u hj => ?_⟩
  match j, hj with
  | 0, hj =>
    simp at hj
    subst hj
    rw [World.cell?_alloc_new]
    rfl

theorem fix_clean : dirts (fun _ => false) 4 = [] := by decide +kernel

theorem own_none {w : World} {base : Nat} {v : Value} (h : w.ownsRow base 3 1 v ([] : List Nat).length (ints [])) : ∃ a c, v = .slice a 0 c := by
  rcases h with ⟨hl, ⟨rfl, h0⟩ | ⟨g, cap, cur, rfl, -⟩⟩
  · exact ⟨_, _, rfl⟩
  · exact ⟨_, _, rfl⟩

theorem own_far {x y : World} {base g : Nat} {e : TypeId} {s : Nat} {v : Value} {n : Nat} {xs : List Value} (O : x.ownsRow base e s v n xs) (G : x.grownBy y (some g)) (h : g < base) : y.ownsRow base e s v n xs := by
  refine O.kept G ?_
  cases hv : v.ownBlock with
  | none => exact Or.inl rfl
  | some k =>
    refine Or.inr fun e => ?_
    cases e
    have := (O.lt _ hv).1
    omega

end Go.Proofs.YtmegghgjllbamaaGreatDoor

/- The document's memory: where it lies, New, may, Load. -/
namespace Go.Proofs.YtmegghgjllbamaaGreatDoor
open Go.RowKit
set_option linter.unusedVariables false
set_option maxRecDepth 100000
set_option linter.unusedSimpArgs false

/-- In block p lies the document's memory: its bytes in block gb, its marks in block gd. -/
structure RMem (w : World) (p gb gd n : Nat) (B : Nat → Nat) (D : Nat → Bool) : Prop where
  zp : p < w.heap.size
  zb : gb < w.heap.size
  zd : gd < w.heap.size
  n1 : p ≠ gb
  n2 : p ≠ gd
  n3 : gb ≠ gd
  n4 : 4 ≤ n
  n64 : n ≤ 64
  hb : w.cell? ⟨p, 0, none⟩ = some (.slice (some ⟨gb, 0, none⟩) (256 * n) (256 * n))
  hd : w.cell? ⟨p, 1, none⟩ = some (.slice (some ⟨gd, 0, none⟩) n n)
  by' : ∀ j, j < 256 * n → w.cell? ⟨gb, j, none⟩ = some (.int .u8 ((B j : Nat) : Int))
  di : ∀ k, k < n → w.cell? ⟨gd, k, none⟩ = some (.bool (D k))
  fp : ∀ o, w.frozen? ⟨p, o, none⟩ = false
  fb : ∀ o, w.frozen? ⟨gb, o, none⟩ = false
  fd : ∀ o, w.frozen? ⟨gd, o, none⟩ = false
  lt : ∀ j, B j < 256

theorem RMem.keep {w w' : World} {p gb gd n : Nat} {B : Nat → Nat} {D : Nat → Bool} (h : RMem w p gb gd n B D) (hs : w.heap.size ≤ w'.heap.size)
    (hp : w'.heap[p]? = w.heap[p]?) (hb : w'.heap[gb]? = w.heap[gb]?) (hd : w'.heap[gd]? = w.heap[gd]?) : RMem w' p gb gd n B D :=
  ⟨Nat.lt_of_lt_of_le h.zp hs, Nat.lt_of_lt_of_le h.zb hs, Nat.lt_of_lt_of_le h.zd hs, h.n1, h.n2, h.n3, h.n4, h.n64,
    (World.cell?_of_block (a := ⟨p, 0, none⟩) hp).trans h.hb, (World.cell?_of_block (a := ⟨p, 1, none⟩) hp).trans h.hd,
    fun j hj => (World.cell?_of_block (a := ⟨gb, j, none⟩) hb).trans (h.by' j hj), fun k hk => (World.cell?_of_block (a := ⟨gd, k, none⟩) hd).trans (h.di k hk),
    fun o => (World.frozen?_of_block (a := ⟨p, o, none⟩) hp).trans (h.fp o), fun o => (World.frozen?_of_block (a := ⟨gb, o, none⟩) hb).trans (h.fb o),
    fun o => (World.frozen?_of_block (a := ⟨gd, o, none⟩) hd).trans (h.fd o), h.lt⟩

theorem RMem.on {w w' : World} {p gb gd n : Nat} {B : Nat → Nat} {D : Nat → Bool} (h : RMem w p gb gd n B D) (hb : Below w.heap.size w w') : RMem w' p gb gd n B D :=
  h.keep hb.size (hb.block p h.zp) (hb.block gb h.zb) (hb.block gd h.zd)

theorem RMem.far {w w' : World} {p gb gd n r : Nat} {B : Nat → Nat} {D : Nat → Bool} (h : RMem w p gb gd n B D) (hb : w.grownBy w' (some r)) (hp : p ≠ r) (h1 : gb ≠ r) (h2 : gd ≠ r) : RMem w' p gb gd n B D :=
  h.keep hb.size (hb.block p h.zp (by simpa using hp)) (hb.block gb h.zb (by simpa using h1)) (hb.block gd h.zd (by simpa using h2))

theorem made_flat {z : Value} {m o : Nat} (h : o < m) : (madeCells #[z] m)[o]? = some z := by
  unfold madeCells
  rw [Array.getElem?_map, Array.getElem?_range, if_pos h]
  simp [Nat.mod_one]

theorem heap_in {x : World} {b : Nat} {o : Obj} (h : x.heap[b]? = some o) : b < x.heap.size := (Array.getElem?_eq_some_iff.1 h).1

theorem rmem_made {x : World} {p gb gd n : Nat} (h4 : 4 ≤ n) (h64 : n ≤ 64) (n1 : p ≠ gb) (n2 : p ≠ gd) (n3 : gb ≠ gd) (t : TypeId)
    (hp : x.heap[p]? = some (.cells #[.slice (some ⟨gb, 0, none⟩) (256 * n) (256 * n), .slice (some ⟨gd, 0, none⟩) n n] t (0, 0)))
    (hb : x.heap[gb]? = some (.cells (madeCells #[.int .u8 0] (256 * n)) 5 (0, 0))) (hd : x.heap[gd]? = some (.cells (madeCells #[.bool false] n) 4 (0, 0))) :
    RMem x p gb gd n (fun _ => 0) (fun _ => false) := by
  refine ⟨heap_in hp, heap_in hb, heap_in hd, n1, n2, n3, h4, h64, ?_, ?_, ?_, ?_, ?_, ?_, ?_, fun _ => by decide⟩
  · simp [World.cell?, hp]
  · simp [World.cell?, hp]
  · intro j hj
    simp only [World.cell?, hb]
    rw [made_flat hj]
    rfl
  · intro k hk
    simp only [World.cell?, hd]
    rw [made_flat hk]
    rfl
  · intro o; simp [World.frozen?, hp]
  · intro o; simp [World.frozen?, hb]
  · intro o; simp [World.frozen?, hd]

theorem heap3 (w : World) (a b c : Obj) : ((((w.alloc a).alloc b).alloc c).drew).heap[w.heap.size]? = some a ∧ ((((w.alloc a).alloc b).alloc c).drew).heap[w.heap.size + 1]? = some b ∧ ((((w.alloc a).alloc b).alloc c).drew).heap[w.heap.size + 1 + 1]? = some c := by
  refine ⟨?_, ?_, ?_⟩
  · show (((w.alloc a).alloc b).alloc c).heap[w.heap.size]? = some a
    rw [Below.heap_alloc _ _ _ (by simp; omega), Below.heap_alloc _ _ _ (by simp), heap_alloc_new]
  · show (((w.alloc a).alloc b).alloc c).heap[w.heap.size + 1]? = some b
    rw [Below.heap_alloc _ _ _ (by simp), show w.heap.size + 1 = (w.alloc a).heap.size by simp, heap_alloc_new]
  · show (((w.alloc a).alloc b).alloc c).heap[w.heap.size + 1 + 1]? = some c
    rw [show w.heap.size + 1 + 1 = ((w.alloc a).alloc b).heap.size by simp, heap_alloc_new]

theorem below3 (w : World) (a b c : Obj) : Below w.heap.size w (((w.alloc a).alloc b).alloc c).drew :=
  ((((Below.refl _ w).alloc (Nat.le_refl _) _).alloc (by simp) _).alloc (by simp; omega) _).drew

theorem rmake_b (n : Nat) (h : n ≤ 64) (w : World) : (Instr.makeSlice 53 (.int .i64 (256 * (n : Int))) (.int .i64 (256 * (n : Int)))).run Tryz.prog w
    = .ok (.slice (some ⟨w.heap.size, 0, none⟩) (256 * n) (256 * n)) (w.alloc (.cells (madeCells #[.int .u8 0] (256 * n)) 5)) := by
  have hi0 : (Tryz.prog.info? 5).map (fun i => (i.zero, i.size, i.bytes)) = some (some (.int .u8 0), 1, 1) := by kernel_rfl
  obtain ⟨i0, hi, hz0, hz1, hz2⟩ := info_parts hi0
  have := run_make (P := Tryz.prog) w 53 5 i0 (.int .u8 0) Tryz.underlying53 hi hz0 .i64 .i64 (256 * (n : Int)) (256 * (n : Int)) (by omega) (by omega) (by rw [hz2]; omega) (by omega)
  rw [hz1, show (256 * (n : Int)).toNat = 256 * n by omega, Nat.mul_one] at this
  exact this

theorem rtext {w : World} {p gb gd n : Nat} {B : Nat → Nat} {D : Nat → Bool} (R : RMem w p gb gd n B D) :
    (convert 53 9 (.slice (some ⟨gb, 0, none⟩) (256 * n) (256 * n))).run Tryz.prog w = .ok (.string (textOf (256 * n) B)) w := by
  refine run_convert_bytes_arg w 53 5 Tryz.underlying53 Tryz.underlying5 gb 0 (256 * n) (256 * n) _ (by rw [List.length_map, List.length_range]) ?_ 9 Tryz.underlying9
  intro i hi
  have := R.by' i hi
  rw [Nat.zero_add, this, List.getD_eq_getElem?_getD, List.getElem?_map, List.getElem?_range hi]
  rfl

end Go.Proofs.YtmegghgjllbamaaGreatDoor

/- A page's bytes, filled. -/
namespace Go.Proofs.YtmegghgjllbamaaGreatDoor
open Go.RowKit
set_option linter.unusedVariables false
set_option maxRecDepth 100000
set_option linter.unusedSimpArgs false

/-- A row of n bytes in block B: cell j holds f j, and may be written. -/
structure RowIs (w : World) (B n : Nat) (f : Nat → Nat) : Prop where
  lt : B < w.heap.size
  cell : ∀ j, j < n → w.cell? ⟨B, j, none⟩ = some (.int .u8 ((f j : Nat) : Int))
  free : ∀ j, j < n → w.frozen? ⟨B, j, none⟩ = false

theorem RowIs.set {w : World} {B n : Nat} {f : Nat → Nat} (h : RowIs w B n f) {k : Nat} (hk : k < n) (v : Nat) :
    RowIs (w.setCell ⟨B, k, none⟩ (.int .u8 ((v : Nat) : Int))) B n (fun j => if j = k then v else f j) := by
  refine ⟨by rw [World.size_setCell]; exact h.lt, fun j hj => ?_, fun j hj => by rw [World.frozen?_setCell]; exact h.free j hj⟩
  by_cases e : j = k
  · subst e
    rw [World.cell?_setCell_same w _ _ (h.cell j hj), if_pos rfl]
  · rw [World.cell?_setCell_other w _ _ _ (by intro c; injection c with _ c2; omega), if_neg e]
    exact h.cell j hj

theorem RowIs.congr {w : World} {B n : Nat} {f g : Nat → Nat} (h : RowIs w B n f) (e : ∀ j, j < n → f j = g j) : RowIs w B n g :=
  ⟨h.lt, fun j hj => by rw [← e j hj]; exact h.cell j hj, h.free⟩

theorem conv_back {w : World} {B n : Nat} {f : Nat → Nat} (h : RowIs w B n f) (cap : Nat) :
    (convert 53 9 (.slice (some ⟨B, 0, none⟩) n cap)).run Tryz.prog w = .ok (.string (textOf n f)) w := by
  refine run_convert_bytes_arg w 53 5 Tryz.underlying53 Tryz.underlying5 B 0 n cap _ (by rw [List.length_map, List.length_range]) ?_ 9 Tryz.underlying9
  intro i hi
  rw [Nat.zero_add, h.cell i hi, List.getD_eq_getElem?_getD, List.getElem?_map, List.getElem?_range hi]
  rfl

theorem made_row (w : World) (n : Nat) : RowIs (w.alloc (.cells (madeCells #[.int .u8 0] n) 5)) w.heap.size n (fun _ => 0) := by
  refine ⟨by simp, fun j hj => ?_, fun j hj => by rw [World.frozen?_alloc_new]⟩
  rw [World.cell?_alloc_new, made_flat hj]
  rfl

theorem make_row (w : World) (n : Nat) (h : n ≤ 1000000) : (Instr.makeSlice 53 (.int .i64 (n : Int)) (.int .i64 (n : Int))).run Tryz.prog w
    = .ok (.slice (some ⟨w.heap.size, 0, none⟩) n n) (w.alloc (.cells (madeCells #[.int .u8 0] n) 5)) := by
  have hi0 : (Tryz.prog.info? 5).map (fun i => (i.zero, i.size, i.bytes)) = some (some (.int .u8 0), 1, 1) := by kernel_rfl
  obtain ⟨i0, hi, hz0, hz1, hz2⟩ := info_parts hi0
  have := run_make (P := Tryz.prog) w 53 5 i0 (.int .u8 0) Tryz.underlying53 hi hz0 .i64 .i64 (n : Int) (n : Int) (by omega) (by omega) (by rw [hz2]; omega) (by omega)
  rw [hz1, Int.toNat_natCast, Nat.mul_one] at this
  exact this

/-- How long a filled page is, and its bytes. -/
def fillN (m : Int) : Nat := (256 + max (-256) (min m 10)).toNat

def fillB (v : Nat) : Nat → Nat := fun j => (v + j) % 256

def fillT (v : Nat) (m : Int) : ByteArray := textOf (fillN m) (fillB v)

theorem fillN_le (m : Int) : fillN m ≤ 266 := by unfold fillN; omega

theorem fillT_size (v : Nat) (m : Int) : (fillT v m).size = fillN m := textOf_size _ _

end Go.Proofs.YtmegghgjllbamaaGreatDoor

/- Texts of rows of bytes: cut, one behind the other, byte by byte. A region walked once. -/
namespace Go.Proofs.YtmegghgjllbamaaGreatDoor
open Go.RowKit
set_option linter.unusedVariables false
set_option maxRecDepth 100000
set_option linter.unusedSimpArgs false

theorem text_ext {a b : ByteArray} (h : a.data.toList = b.data.toList) : a = b := by
  apply ByteArray.ext
  exact Array.toList_inj.1 h

theorem textOf_data (n : Nat) (f : Nat → Nat) : (textOf n f).data.toList = (List.range n).map fun j => UInt8.ofNat (f j) := by
  unfold textOf
  rw [strOfNums_data, List.map_map]
  apply List.map_congr_left
  intro j hj
  simp

theorem textOf_congr {n : Nat} {f g : Nat → Nat} (h : ∀ j, j < n → f j = g j) : textOf n f = textOf n g := by
  apply text_ext
  rw [textOf_data, textOf_data]
  apply List.map_congr_left
  intro j hj
  rw [h j (List.mem_range.1 hj)]

theorem textOf_add (a b : Nat) (f : Nat → Nat) : textOf a f ++ textOf b (fun j => f (a + j)) = textOf (a + b) f := by
  apply text_ext
  rw [ByteArray.data_append, Array.toList_append, textOf_data, textOf_data, textOf_data, List.range_add, List.map_append, List.map_map]
  rfl

theorem textOf_cut (n a b : Nat) (f : Nat → Nat) (h1 : a ≤ b) (h2 : b ≤ n) : (textOf n f).extract a b = textOf (b - a) (fun j => f (a + j)) := by
  apply text_ext
  rw [textOf_data, ByteArray.data_extract, Array.toList_extract, textOf_data]
  apply List.ext_getElem?
  intro j
  by_cases hj : j < b - a
  · rw [List.extract_eq_take_drop, List.getElem?_take_of_lt hj, List.getElem?_drop, List.getElem?_map, List.getElem?_map, List.getElem?_range (by omega), List.getElem?_range hj]
    rfl
  · rw [List.extract_eq_take_drop, List.getElem?_eq_none (by rw [List.length_take]; omega), List.getElem?_eq_none (by rw [List.length_map, List.length_range]; omega)]

theorem byteAt_textOf (n : Nat) (f : Nat → Nat) (hf : ∀ j, f j < 256) (j : Nat) (h : j < n) : byteAt (textOf n f) j = f j := by
  unfold byteAt
  rw [← Array.getElem?_toList, textOf_data, List.getElem?_map, List.getElem?_range h]
  simp
  have := hf j
  omega

theorem textOf_byteAt (s : ByteArray) : s = textOf s.size (byteAt s) := by
  apply text_ext
  rw [textOf_data]
  apply List.ext_getElem?
  intro j
  by_cases hj : j < s.size
  · rw [List.getElem?_map, List.getElem?_range hj]
    unfold byteAt
    rw [Array.getElem?_toList, Array.getElem?_eq_getElem (show j < s.data.size from hj)]
    simp [Array.getElem?_eq_getElem (show j < s.data.size from hj)]
  · rw [List.getElem?_eq_none (by rw [Array.length_toList]; show s.data.size ≤ j; have : s.data.size = s.size := rfl; omega), List.getElem?_eq_none (by rw [List.length_map, List.length_range]; omega)]

/-- A text with a piece put into it. -/
theorem textOf_put (n a : Nat) (f : Nat → Nat) (t : ByteArray) (h : a + t.size ≤ n) :
    (textOf n f).extract 0 a ++ t ++ (textOf n f).extract (a + t.size) n = textOf n (fun j => if a ≤ j ∧ j < a + t.size then byteAt t (j - a) else f j) := by
  rw [textOf_cut n 0 a f (by omega) (by omega), textOf_cut n (a + t.size) n f h (by omega)]
  have e1 : textOf (a - 0) (fun j => f (0 + j)) = textOf a (fun j => if a ≤ j ∧ j < a + t.size then byteAt t (j - a) else f j) := by
    rw [Nat.sub_zero]
    apply textOf_congr
    intro j hj
    rw [if_neg (by omega), Nat.zero_add]
  have e2 : t = textOf t.size (fun j => (fun j => if a ≤ j ∧ j < a + t.size then byteAt t (j - a) else f j) (a + j)) := by
    refine (textOf_byteAt t).trans (textOf_congr fun j hj => ?_)
    show byteAt t j = if a ≤ a + j ∧ a + j < a + t.size then byteAt t (a + j - a) else f (a + j)
    rw [if_pos (by omega), Nat.add_sub_cancel_left]
  have e3 : textOf (n - (a + t.size)) (fun j => f (a + t.size + j)) = textOf (n - (a + t.size)) (fun j => (fun j => if a ≤ j ∧ j < a + t.size then byteAt t (j - a) else f j) (a + t.size + j)) := by
    apply textOf_congr
    intro j hj
    show _ = if a ≤ a + t.size + j ∧ a + t.size + j < a + t.size then _ else f (a + t.size + j)
    rw [if_neg (by omega)]
  rw [e1, e3]
  have e4 : textOf a (fun j => if a ≤ j ∧ j < a + t.size then byteAt t (j - a) else f j) ++ t = textOf (a + t.size) (fun j => if a ≤ j ∧ j < a + t.size then byteAt t (j - a) else f j) := by
    refine Eq.trans ?_ (textOf_add a t.size _)
    congr 1
  rw [e4, textOf_add, show a + t.size + (n - (a + t.size)) = n by omega]

/-- A region that draws its order, walked once, in a class of worlds in which each of its operations tells one value. -/
theorem region_calm {P : Program} {id : Nat} {Q : Exit → Act → World → Prop} {a : Act} {w : World} {l : List Oper} (C : World → Prop) (hm : P.follows .mixedOrders = true) (hB : Region.lexB .any l.toArray = true) (hC : C w.drew)
    (h : wpQuiet P l.toArray C (fun a' => ∀ w', C w' → Q .normal a' w') l a) : (Code.region id l.toArray true).wp P Q a w :=
  wp_region_quiet (C := C) hm hB hC (by simpa using h)

end Go.Proofs.YtmegghgjllbamaaGreatDoor

/- The document's memory: may, Load, Page, Clean, Dirty. -/
namespace Go.Proofs.YtmegghgjllbamaaGreatDoor
open Go.RowKit
set_option linter.unusedVariables false
set_option maxRecDepth 100000
set_option linter.unusedSimpArgs false

theorem rslice_text {w : World} {p gb gd n : Nat} {B : Nat → Nat} {D : Nat → Bool} (R : RMem w p gb gd n B D) (k c : Nat) (h : k < n) :
    (convert 53 9 (.slice (some ⟨gb, 256 * k, none⟩) 256 c)).run Tryz.prog w = .ok (.string (textOf 256 (fun j => B (256 * k + j)))) w := by
  refine run_convert_bytes_arg w 53 5 Tryz.underlying53 Tryz.underlying5 gb (256 * k) 256 c _ (by rw [List.length_map, List.length_range]) ?_ 9 Tryz.underlying9
  intro i hi
  have := R.by' (256 * k + i) (by omega)
  rw [this, List.getD_eq_getElem?_getD, List.getElem?_map, List.getElem?_range hi]
  rfl

theorem rpage_slice (n k gb : Nat) (h : k < n) (h64 : n ≤ 64) (w : World) :
    (Instr.sliceAt 53 (.slice (some ⟨gb, 0, none⟩) (256 * n) (256 * n)) (some (.int .i64 (256 * (k : Int)))) (some (.int .i64 (256 * (k : Int) + 256))) none).run Tryz.prog w = .ok (.slice (some ⟨gb, 256 * k, none⟩) 256 (256 * n - 256 * k)) w := by
  have hu : Tryz.prog.underlying 53 = some (.slice (Tryz.prog.elem 53)) := by kernel_rfl
  have he : Tryz.prog.elem 53 = 5 := by kernel_rfl
  rw [run_sliceAt_slice w 53 _ _ _ _ hu, run_slice_lh w 53 _ _ _ hu .i64 .i64 (256 * (k : Int)) (256 * (k : Int) + 256) (by omega) (by omega) (by omega), he, size5, Result.andThen_ok]
  unfold sliced
  rw [show (256 * (k : Int)).toNat = 256 * k by omega, show (256 * (k : Int) + 256).toNat = 256 * k + 256 by omega, if_neg (by omega), Option.map_some, Addr.add_lit, Nat.mul_one, Nat.zero_add, Nat.add_sub_cancel_left]

theorem rclean_mem {w : World} {p gb gd n : Nat} {B : Nat → Nat} {D : Nat → Bool} (R : RMem w p gb gd n B D) :
    RMem ((w.setCell ⟨p, 1, none⟩ (.slice (some ⟨w.heap.size, 0, none⟩) n n)).alloc (.cells (madeCells #[.bool false] n) 4)) p gb w.heap.size n B (fun _ => false) := by
  have hp := R.zp
  have hbz := R.zb
  obtain ⟨x, hx⟩ : ∃ x, x = w.setCell ⟨p, 1, none⟩ (.slice (some ⟨w.heap.size, 0, none⟩) n n) := ⟨_, rfl⟩
  have hz : w.heap.size = x.heap.size := by rw [hx]; simp
  rw [← hx]
  have old : ∀ b o, b < w.heap.size → (x.alloc (.cells (madeCells #[.bool false] n) 4)).cell? ⟨b, o, none⟩ = x.cell? ⟨b, o, none⟩ := fun b o h => World.cell?_alloc_lt _ _ _ (by show b < _; omega)
  have oldf : ∀ b o, b < w.heap.size → (x.alloc (.cells (madeCells #[.bool false] n) 4)).frozen? ⟨b, o, none⟩ = x.frozen? ⟨b, o, none⟩ := fun b o h => World.frozen?_alloc_old _ _ _ (by show b ≠ _; omega)
  refine ⟨by simp; omega, by simp; omega, by simp; omega, R.n1, by omega, by omega, R.n4, R.n64, ?_, ?_, ?_, ?_, ?_, ?_, ?_, R.lt⟩
  · rw [old _ _ hp, hx, World.cell?_setCell_other _ _ _ _ (by intro e; injection e with _ e2; omega)]; exact R.hb
  · rw [old _ _ hp, hx]; exact World.cell?_setCell_same _ _ _ R.hd
  · intro j hj
    rw [old _ _ hbz, hx, World.cell?_setCell_other _ _ _ _ (by intro e; injection e with e1; exact R.n1 e1)]; exact R.by' j hj
  · intro k hk
    rw [hz, World.cell?_alloc_new, made_flat hk]
  · intro o; rw [oldf _ _ hp, hx, World.frozen?_setCell]; exact R.fp o
  · intro o; rw [oldf _ _ hbz, hx, World.frozen?_setCell]; exact R.fb o
  · intro o; rw [hz, World.frozen?_alloc_new]

end Go.Proofs.YtmegghgjllbamaaGreatDoor

/- The document's memory: Store, Put. -/
namespace Go.Proofs.YtmegghgjllbamaaGreatDoor
open Go.RowKit
set_option linter.unusedVariables false
set_option maxRecDepth 100000
set_option linter.unusedSimpArgs false

/-- Nothing but three blocks has changed. -/
structure RKept (a b c : Nat) (w w' : World) : Prop where
  os : w'.os = w.os
  tape : w'.tape = w.tape
  output : w'.output = w.output
  size : w.heap.size ≤ w'.heap.size
  block : ∀ k, k < w.heap.size → k ≠ a → k ≠ b → k ≠ c → w'.heap[k]? = w.heap[k]?

theorem RKept.refl (a b c : Nat) (w : World) : RKept a b c w w := ⟨rfl, rfl, rfl, Nat.le_refl _, fun _ _ _ _ _ => rfl⟩

theorem RKept.trans {a b c : Nat} {x y z : World} (h : RKept a b c x y) (k : RKept a b c y z) : RKept a b c x z :=
  ⟨k.os.trans h.os, k.tape.trans h.tape, k.output.trans h.output, Nat.le_trans h.size k.size, fun i hi h1 h2 h3 => (k.block i (Nat.lt_of_lt_of_le hi h.size) h1 h2 h3).trans (h.block i hi h1 h2 h3)⟩

theorem RKept.of1 {a b c : Nat} {x y : World} (h : x.grownBy y (some a)) : RKept a b c x y := ⟨h.os, h.tape, h.output, h.size, fun k hk h1 _ _ => h.block k hk (by simpa using h1)⟩

theorem RKept.of2 {a b c : Nat} {x y : World} (h : x.grownBy y (some b)) : RKept a b c x y := ⟨h.os, h.tape, h.output, h.size, fun k hk _ h1 _ => h.block k hk (by simpa using h1)⟩

theorem RKept.of3 {a b c : Nat} {x y : World} (h : x.grownBy y (some c)) : RKept a b c x y := ⟨h.os, h.tape, h.output, h.size, fun k hk _ _ h1 => h.block k hk (by simpa using h1)⟩

theorem RKept.drew {a b c : Nat} {x y : World} (h : RKept a b c x y) : RKept a b c x y.drew := ⟨h.os, h.tape, h.output, h.size, h.block⟩

theorem RKept.below {a b c : Nat} {w x y : World} (h : Below w.heap.size w x) (k : RKept a b c x y) (h1 : w.heap.size ≤ a) (h2 : w.heap.size ≤ b) (h3 : w.heap.size ≤ c) : Below w.heap.size w y :=
  h.trans ⟨k.os, k.tape, k.output, k.size, fun i hi => k.block i (Nat.lt_of_lt_of_le hi h.size) (by omega) (by omega) (by omega)⟩

theorem RKept.mem {a b c : Nat} {x y : World} (k : RKept a b c x y) {p g n cc : Nat} {B : Nat → Nat} {D : Nat → Bool} (M : Mem x p g n cc B D) (p1 : p ≠ a) (p2 : p ≠ b) (p3 : p ≠ c) (g1 : g ≠ a) (g2 : g ≠ b) (g3 : g ≠ c) : Mem y p g n cc B D :=
  M.keep k.size (k.block p M.zp p1 p2 p3) (k.block g M.zg g1 g2 g3)

theorem RMem.setB {w : World} {p gb gd n : Nat} {B : Nat → Nat} {D : Nat → Bool} (R : RMem w p gb gd n B D) (j b : Nat) (hj : j < 256 * n) (hb : b < 256) :
    RMem (w.setCell ⟨gb, j, none⟩ (.int .u8 ((b : Nat) : Int))) p gb gd n (fun x => if x = j then b else B x) D := by
  refine ⟨by simpa using R.zp, by simpa using R.zb, by simpa using R.zd, R.n1, R.n2, R.n3, R.n4, R.n64, ?_, ?_, ?_, ?_, ?_, ?_, ?_, ?_⟩
  · rw [World.cell?_setCell_other _ _ _ _ (by intro e; injection e with e1; exact R.n1 e1.symm)]; exact R.hb
  · rw [World.cell?_setCell_other _ _ _ _ (by intro e; injection e with e1; exact R.n1 e1.symm)]; exact R.hd
  · intro x hx
    by_cases e : x = j
    · subst e
      rw [World.cell?_setCell_same _ _ _ (R.by' x hx), if_pos rfl]
    · rw [World.cell?_setCell_other _ _ _ _ (by intro c; injection c with _ c2; omega), if_neg e]; exact R.by' x hx
  · intro k hk
    rw [World.cell?_setCell_other _ _ _ _ (by intro e; injection e with e1; exact R.n3 e1)]; exact R.di k hk
  · intro o; rw [World.frozen?_setCell]; exact R.fp o
  · intro o; rw [World.frozen?_setCell]; exact R.fb o
  · intro o; rw [World.frozen?_setCell]; exact R.fd o
  · intro x; split
    · exact hb
    · exact R.lt x

theorem RMem.setD {w : World} {p gb gd n : Nat} {B : Nat → Nat} {D : Nat → Bool} (R : RMem w p gb gd n B D) (k : Nat) (hk : k < n) :
    RMem (w.setCell ⟨gd, k, none⟩ (.bool true)) p gb gd n B (putD D k) := by
  refine ⟨by simpa using R.zp, by simpa using R.zb, by simpa using R.zd, R.n1, R.n2, R.n3, R.n4, R.n64, ?_, ?_, ?_, ?_, ?_, ?_, ?_, R.lt⟩
  · rw [World.cell?_setCell_other _ _ _ _ (by intro e; injection e with e1; exact R.n2 e1.symm)]; exact R.hb
  · rw [World.cell?_setCell_other _ _ _ _ (by intro e; injection e with e1; exact R.n2 e1.symm)]; exact R.hd
  · intro x hx
    rw [World.cell?_setCell_other _ _ _ _ (by intro e; injection e with e1; exact R.n3 e1.symm)]; exact R.by' x hx
  · intro i hi
    unfold putD
    by_cases e : i = k
    · subst e
      rw [World.cell?_setCell_same _ _ _ (R.di i hi), if_pos rfl]
    · rw [World.cell?_setCell_other _ _ _ _ (by intro c; injection c with _ c2; omega), if_neg e]; exact R.di i hi
  · intro o; rw [World.frozen?_setCell]; exact R.fp o
  · intro o; rw [World.frozen?_setCell]; exact R.fb o
  · intro o; rw [World.frozen?_setCell]; exact R.fd o

theorem RMem.congr {w : World} {p gb gd n : Nat} {B B' : Nat → Nat} {D : Nat → Bool} (R : RMem w p gb gd n B D) (e : ∀ j, j < 256 * n → B j = B' j) (l : ∀ j, B' j < 256) : RMem w p gb gd n B' D :=
  ⟨R.zp, R.zb, R.zd, R.n1, R.n2, R.n3, R.n4, R.n64, R.hb, R.hd, fun j hj => by rw [← e j hj]; exact R.by' j hj, R.di, R.fp, R.fb, R.fd, l⟩

theorem RMem.drew {w : World} {p gb gd n : Nat} {B : Nat → Nat} {D : Nat → Bool} (R : RMem w p gb gd n B D) : RMem w.drew p gb gd n B D := R.on (Below.refl _ _).drew

/-- The bytes when all but the first m of s are stored. -/
def partB (B : Nat → Nat) (a s v m : Nat) : Nat → Nat := fun x => if a + m ≤ x ∧ x < a + s then byteOf v s (x - a) else B x

theorem partB_lt {B : Nat → Nat} (l : ∀ j, B j < 256) (a s v m j : Nat) : partB B a s v m j < 256 := by
  unfold partB
  split
  · exact byteOf_lt _ _ _
  · exact l j

/-- The bytes when the first m of a page are put. -/
def partP (B : Nat → Nat) (k : Nat) (s : ByteArray) (m : Nat) : Nat → Nat := fun x => if 256 * k ≤ x ∧ x < 256 * k + m then byteAt s (x - 256 * k) else B x

theorem partP_lt {B : Nat → Nat} (l : ∀ j, B j < 256) (k : Nat) (s : ByteArray) (m j : Nat) : partP B k s m j < 256 := by
  unfold partP
  split
  · exact byteAt_lt _ _
  · exact l j

theorem byteAt_in (s : ByteArray) (j : Nat) (h : j < s.size) : byteAt s j = (s[j]'h).toNat := by
  unfold byteAt
  rw [Array.getElem?_eq_getElem (show j < s.data.size from h)]
  rfl

end Go.Proofs.YtmegghgjllbamaaGreatDoor
