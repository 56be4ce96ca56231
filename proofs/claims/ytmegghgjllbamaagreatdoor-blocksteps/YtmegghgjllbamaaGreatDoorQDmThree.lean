/- Layer 11: two memories, the program's and the document's, filled alike. -/
import Derived.Test.YtmegghgjllbamaaGreatDoorQDmTwo
import Derived.Test.YtmegghgjllbamaaGreatDoorQDmParse
import Derived.Laws.IdiomStrings
namespace Go.Proofs.YtmegghgjllbamaaGreatDoor.Dm
open Go.RowKit
set_option linter.unusedVariables false
set_option maxRecDepth 100000
set_option linter.unusedSimpArgs false

/-- The program's memory and the document's, apart from one another, made since w. -/
structure Both (w x : World) (p g q gb gd n : Nat) (B B' : Nat → Nat) (D D' : Nat → Bool) : Prop where
  m : Mem x p g n n B D
  r : RMem x q gb gd n B' D'
  bp : w.heap.size ≤ p
  bg : w.heap.size ≤ g
  bq : w.heap.size ≤ q
  bb : w.heap.size ≤ gb
  bd : w.heap.size ≤ gd
  pq : p ≠ q
  pb : p ≠ gb
  pd : p ≠ gd
  gq : g ≠ q
  ggb : g ≠ gb
  ggd : g ≠ gd
  be : Below w.heap.size w x

theorem Both.on {w x y : World} {p g q gb gd n : Nat} {B B' : Nat → Nat} {D D' : Nat → Bool} (h : Both w x p g q gb gd n B B' D D') (hb : Below x.heap.size x y) : Both w y p g q gb gd n B B' D D' :=
  { h with m := h.m.on hb, r := h.r.on hb, be := onto h.be (Nat.le_refl _) hb }

theorem Both.putM {w x y : World} {p g q gb gd n : Nat} {B B' C : Nat → Nat} {D D' E : Nat → Bool} (h : Both w x p g q gb gd n B B' D D') (hm : Mem y p g n n C E) (hg : x.grownBy y (some g)) : Both w y p g q gb gd n C B' E D' :=
  { h with m := hm, r := h.r.far hg h.gq.symm h.ggb.symm h.ggd.symm, be := grown_below h.be hg h.be.size h.bg }

theorem Both.putR {w x y : World} {p g q gb gd n : Nat} {B B' C : Nat → Nat} {D D' E : Nat → Bool} (h : Both w x p g q gb gd n B B' D D') (hr : RMem y q gb gd n C E) (hk : RKept q gb gd x y) : Both w y p g q gb gd n B C D E :=
  { h with m := hk.mem h.m h.pq h.pb h.pd h.gq h.ggb h.ggd, r := hr, be := RKept.below h.be hk h.bq h.bb h.bd }

theorem Both.cleanR {w x y : World} {p g q gb gd gd' n : Nat} {B B' : Nat → Nat} {D D' E : Nat → Bool} (h : Both w x p g q gb gd n B B' D D') (hd : x.heap.size ≤ gd') (hr : RMem y q gb gd' n B' E) (hg : x.grownBy y (some q)) : Both w y p g q gb gd' n B B' D E :=
  { h with m := h.m.far hg h.pq h.gq, r := hr, bd := Nat.le_trans h.be.size hd, pd := by have := h.m.zp; omega, ggd := by have := h.m.zg; omega, be := grown_below h.be hg h.be.size h.bq }

theorem Both.congr {w x : World} {p g q gb gd n : Nat} {B B' C : Nat → Nat} {D D' : Nat → Bool} (h : Both w x p g q gb gd n B B' D D') (e : ∀ j, j < 256 * n → B j = C j) (e' : ∀ j, j < 256 * n → B' j = C j) (l : ∀ j, C j < 256) : Both w x p g q gb gd n C C D D' :=
  { h with m := h.m.congr e (fun _ _ => rfl) l, r := h.r.congr e' l }

/-- The bytes of a memory that is filled. -/
def fillF (c : Nat) : Nat → Nat := fun j => (c + j % 256 * (j / 256 + 1)) % 256

theorem fillF_lt (c j : Nat) : fillF c j < 256 := Nat.mod_lt _ (by decide)

/-- The bytes of page i. -/
def rowF (c i : Nat) : Nat → Nat := fun j => (c + j * (i + 1)) % 256

/-- The bytes when i pages are filled. -/
def fillP (c i : Nat) : Nat → Nat := fun j => if j / 256 < i then fillF c j else 0

theorem fillP_lt (c i j : Nat) : fillP c i j < 256 := by
  unfold fillP
  split
  · exact fillF_lt c j
  · decide

theorem fillP_put (c i j : Nat) : pageB (fillP c i) i (textOf 256 (rowF c i)) j = fillP c (i + 1) j := by
  unfold pageB fillP
  by_cases h : j / 256 = i
  · rw [if_pos h, if_pos (by omega), byteAt_textOf 256 (rowF c i) (fun j => by unfold rowF; exact Nat.mod_lt _ (by decide)) _ (Nat.mod_lt _ (by decide))]
    unfold rowF fillF
    rw [h]
  · rw [if_neg h]
    by_cases l : j / 256 < i
    · rw [if_pos l, if_pos (by omega)]
    · rw [if_neg l, if_neg (by omega)]

/-- How many pages there are. -/
def pagesN (m : Int) : Nat := (max 4 (min m 64)).toNat

theorem pagesN_is (m : Int) : 4 ≤ pagesN m ∧ pagesN m ≤ 64 ∧ max 4 (min m 64) = (pagesN m : Int) := by
  unfold pagesN
  omega

theorem _root_.Go.Proofs.YtmegghgjllbamaaGreatDoor.RowIs.keep {w w' : World} {B n : Nat} {f : Nat → Nat} (h : RowIs w B n f) (e : w'.heap[B]? = w.heap[B]?) : RowIs w' B n f := by
  refine ⟨?_, fun j hj => (World.cell?_of_block (a := ⟨B, j, none⟩) e).trans (h.cell j hj), fun j hj => (World.frozen?_of_block (a := ⟨B, j, none⟩) e).trans (h.free j hj)⟩
  have hl := h.lt
  rw [Array.getElem?_eq_getElem hl] at e
  exact (Array.getElem?_eq_some_iff.1 e).1

end Go.Proofs.YtmegghgjllbamaaGreatDoor.Dm

/- Layer 11: contracts of a move, the program's. -/
namespace Go.Proofs.YtmegghgjllbamaaGreatDoor.Dm
open Go.RowKit
set_option linter.unusedVariables false
set_option maxRecDepth 100000
set_option linter.unusedSimpArgs false

/-- Are both ends of a move there, in a memory of n pages? -/
def fitsB (n : Nat) (t : Dm) (disk : ByteArray) : Bool := decide (disk.size = 1024 ∧ t.n < 16 ∧ t.a % 64 = 0 ∧ t.a + 64 ≤ 256 * (n : Int))

set_option maxHeartbeats 1000000 in
theorem fits_any {w : World} {p g n c : Nat} {B : Nat → Nat} {D : Nat → Bool} (M : Mem w p g n c B D) (t : Dm) (ht : Wd t) (disk : ByteArray) (hm : disk.size ≤ maxLen) :
    Calls Tryz.prog 81 #[.agg (cellsD t), .pointer (some ⟨p, 0, none⟩), .string disk] w fun e w' => e = .returned (.bool (fitsB n t disk)) ∧ Below w.heap.size w w' := by
  obtain ⟨t1, t2, t3, t4, t5, t6, t7, t8, t9⟩ := dmRules
  obtain ⟨p0, p1, p2, p3, p4⟩ := dmParts
  obtain ⟨a0, a1⟩ := ht.a
  obtain ⟨b0, b1⟩ := ht.n
  have n64 := M.n64
  unfold maxLen at hm
  clear ht
  by_cases h1 : disk.size = 1024
  · by_cases h2 : t.n < 16
    · by_cases h3 : t.a % 64 = 0
      · have hf : fitsB n t disk = decide (t.a + 64 ≤ (n : Int) * 256) := by
          unfold fitsB
          simp only [h1, h2, h3, true_and]
          congr 1
          rw [Int.mul_comm]
        rw [hf]
        have e3 : t.a.tmod 64 = 0 := by rw [Int.tmod_eq_emod_of_nonneg a0]; exact h3
        have e2 : decide (16 ≤ t.n) = false := by simp; omega
        have hw1 : IntKind.i64.wrap t.a = t.a := by rw [IntKind.wrap_i64]; omega
        have hw2 : IntKind.i64.wrap (t.a + 64) = t.a + 64 := by rw [IntKind.wrap_i64]; omega
        have hw3 : IntKind.i64.wrap ((n : Int) * 256) = (n : Int) * 256 := by rw [IntKind.wrap_i64]; omega
        have P := pages_any ((M.on (grow w (.cells (cellsD t) 59))).drew)
        clear hf h3 M
        go_enter Tryz.func81, Tryz.ntmps81
        go_wp2_with fail
        go_region_with (go_at_call 114; refine P.mono ?_; rintro e w' ⟨rfl, rfl⟩)
        all_goals
          go_wp2
          go_ret
          exact ⟨rfl, (grow _ _).drew⟩
      · have hf : fitsB n t disk = false := by unfold fitsB; simp [h3]
        rw [hf]
        have e3 : (t.a % 64 != 0) = true := by simpa using h3
        have e2 : decide (16 ≤ t.n) = false := by simp; omega
        clear hf h3 M
        go_enter Tryz.func81, Tryz.ntmps81
        go_wp2
        go_ret
        exact ⟨rfl, grow _ _⟩
    · have hf : fitsB n t disk = false := by unfold fitsB; simp [h2]
      rw [hf]
      have e2 : decide (16 ≤ t.n) = true := by simp; omega
      clear hf M
      go_enter Tryz.func81, Tryz.ntmps81
      go_wp2
      go_ret
      exact ⟨rfl, grow _ _⟩
  · have hf : fitsB n t disk = false := by unfold fitsB; simp [h1]
    rw [hf]
    have e1 : ((disk.size : Int) != 1024) = true := by simp; omega
    clear hf h1 M
    go_enter Tryz.func81, Tryz.ntmps81
    go_wp2
    go_ret
    exact ⟨rfl, grow _ _⟩

/-- The bytes when the first m bytes of a row F are stored from a on. -/
def secB (B : Nat → Nat) (a m : Nat) (F : Nat → Nat) : Nat → Nat := fun j => if a ≤ j ∧ j < a + m then F (j - a) else B j

theorem secB_lt {B F : Nat → Nat} (l : ∀ j, B j < 256) (k : ∀ j, F j < 256) (a m j : Nat) : secB B a m F j < 256 := by
  unfold secB
  split
  · exact k _
  · exact l j

theorem byteOf_num (F : Nat → Nat) (h : ∀ j, F j < 256) (x i : Nat) (hi : i < 4) : byteOf (numOf F x 4) 4 i = F (x + i) := by
  rw [num4]
  unfold byteOf be
  have h0 := h x
  have h1 := h (x + 1)
  have h2 := h (x + 2)
  have h3 := h (x + 3)
  match i, hi with
  | 0, _ => simp only [show (256 : Nat) ^ (4 - 1 - 0) = 16777216 from rfl, Nat.add_zero]; omega
  | 1, _ => simp only [show (256 : Nat) ^ (4 - 1 - 1) = 65536 from rfl]; omega
  | 2, _ => simp only [show (256 : Nat) ^ (4 - 1 - 2) = 256 from rfl]; omega
  | 3, _ => simp only [show (256 : Nat) ^ (4 - 1 - 3) = 1 from rfl, Nat.div_one]; omega

theorem secB_step {B F : Nat → Nat} (h : ∀ j, F j < 256) (a k j : Nat) : putB (secB B a (4 * k) F) (a + 4 * k) 4 (numOf F (4 * k) 4) j = secB B a (4 * (k + 1)) F j := by
  unfold putB secB
  by_cases h1 : a + 4 * k ≤ j ∧ j < a + 4 * k + 4
  · rw [if_pos h1, if_pos (by omega), byteOf_num F h _ _ (by omega), show 4 * k + (j - (a + 4 * k)) = j - a by omega]
  · rw [if_neg h1]
    by_cases h2 : a ≤ j ∧ j < a + 4 * k
    · rw [if_pos h2, if_pos (by omega)]
    · rw [if_neg h2, if_neg (by omega)]

/-- The marks when k numbers are stored in page i. -/
def secD (D : Nat → Bool) (i k : Nat) : Nat → Bool := fun j => if k = 0 then D j else putD D i j

theorem secD_step (D : Nat → Bool) (i k j : Nat) : putD (secD D i k) i j = secD D i (k + 1) j := by
  unfold secD putD
  by_cases h : j = i
  · simp [h]
  · by_cases h0 : k = 0
    · simp [h, h0]
    · simp [h, h0]

theorem num_sec (disk sec : ByteArray) (x i : Nat) (h : ∀ j, j < 64 → byteAt sec j = byteAt disk (x + j)) (hi : i + 4 ≤ 64) : numOf (byteAt sec) i 4 = numOf (fun j => byteAt disk (x + j)) i 4 := by
  rw [num4, num4, h i (by omega), h (i + 1) (by omega), h (i + 2) (by omega), h (i + 3) (by omega)]

set_option maxHeartbeats 1000000 in
set_option maxRecDepth 100000 in
theorem store_sector {w : World} {p g n c : Nat} {B : Nat → Nat} {D : Nat → Bool} (M : Mem w p g n c B D) (a num : Nat) (hn : num < 16) (ha : a % 64 = 0) (hz : a + 64 ≤ 256 * n) (disk : ByteArray) (hm : disk.size = 1024) :
    Calls Tryz.prog 82 #[.pointer (some ⟨p, 0, none⟩), .int .u32 (a : Int), .string disk, .int .i64 (num : Int)] w fun e w' => e = .returned (.tuple #[]) ∧
      Mem w' p g n c (secB B a 64 (fun j => byteAt disk (64 * num + j))) (putD D (a / 256)) ∧ w.grownBy w' (some g) := by
  have n64 := M.n64
  have lt := M.lt
  obtain ⟨F, hF⟩ : ∃ F : Nat → Nat, F = fun j => byteAt disk (64 * num + j) := ⟨_, rfl⟩
  have hF6 : ∀ j, F j < 256 := fun j => by rw [hF]; exact byteAt_lt _ _
  rw [← hF]
  obtain ⟨sec, hsec⟩ : ∃ sec, disk.extract (num * 64) ((num + 1) * 64) = sec := ⟨_, rfl⟩
  have zs : sec.size = 64 := by rw [← hsec, ByteArray.size_extract]; omega
  have hs : Hid (∀ j, j < 64 → byteAt sec j = byteAt disk (64 * num + j)) := hide (fun j hj => by rw [← hsec, byteAt_cut disk _ _ _ (by omega) (by omega), Nat.mul_comm num 64])
  replace hF := hide hF
  replace hF6 := hide hF6
  replace lt := hide lt
  replace M := hide M
  go_enter Tryz.func82, Tryz.ntmps82
  go_wp2_with fail
  simp only [hsec]
  clear hsec
  go_loopw [9] (fun i wr => ∃ k : Nat, k ≤ 16 ∧ i = .int .i64 (4 * (k : Int)) ∧ Hid (Mem wr p g n c (secB B a (4 * k) F) (secD D (a / 256) k)) ∧ Hid (w.grownBy wr (some g))) (fun i _ => 64 - (intOf i).toNat)
  case atStart => exact ⟨0, by omega, rfl, hide (M.out.congr (fun j _ => by unfold secB; rw [if_neg (by omega)]) (fun j _ => by simp [secD]) (secB_lt lt.out hF6.out _ _)), hide (grownBy_refl _ _)⟩
  case round =>
    clear M
    obtain ⟨k, hk, rfl, M, G⟩ := hrel
    by_cases h : k < 16
    · have c1 := hide fun W => number_any sec (4 * k) 64 (by omega) (by omega) (by unfold maxLen; omega) W
      rw [num_sec disk sec (64 * num) (4 * k) hs.out (by omega), ← hF.out] at c1
      have v1 := numOf_lt hF6.out (4 * k) 4
      have hst := hide (fun j => secB_step (B := B) hF6.out a k j)
      obtain ⟨v, hv⟩ : ∃ v, v = numOf F (4 * k) 4 := ⟨_, rfl⟩
      rw [← hv] at c1 v1 hst
      clear hv
      have v2 : v < 4294967296 := v1
      have c2 := hide (store_any M.out.drew (a + 4 * k) 4 v (by omega) v2 (by unfold may; omega))
      rw [show ((a + 4 * k : Nat) : Int) = (a : Int) + 4 * (k : Int) by omega, show (a + 4 * k) / 256 = a / 256 by omega] at c2
      clear v1
      go_wp2_with fail
      refine (c1.out _).mono ?_
      rintro e w1 ⟨rfl, rfl⟩
      go_wp2_with fail
      refine c2.out.mono ?_
      rintro e w2 ⟨rfl, M2, g2⟩
      have M3 := hide (M2.congr (fun j _ => hst.out j) (fun j _ => secD_step D (a / 256) k j) (secB_lt lt.out hF6.out _ _))
      have G3 := hide (grownBy_trans G.out (grownBy_trans (grownBy_of (Below.refl _ _).drew _) g2))
      clear M2 g2 c1 c2 M G hst
      go_wp2
      go_roundw
      case rel => exact ⟨k + 1, by omega, by go_num, M3, G3⟩
      case measure => simp [intOf]; omega
    · obtain rfl : k = 16 := by omega
      have M2 := hide (M.out.congr (D' := putD D (a / 256)) (fun _ _ => rfl) (fun _ _ => by simp [secD]) (secB_lt lt.out hF6.out _ _))
      clear M
      go_wp2
      go_end0
      exact ⟨rfl, M2.out, G.out⟩

end Go.Proofs.YtmegghgjllbamaaGreatDoor.Dm

/- Layer 11: contract of the program's Move. -/
namespace Go.Proofs.YtmegghgjllbamaaGreatDoor.Dm
open Go.RowKit
set_option linter.unusedVariables false
set_option maxRecDepth 100000
set_option linter.unusedSimpArgs false

/-- The world behind '[]byte(s)'. -/
def rowWorld (w : World) (s : ByteArray) : World :=
  w.drew.alloc (.cells (bytesRow s (grownCap w s.size 0 5)) 5 ((bytesRow s (grownCap w s.size 0 5)).size, (bytesRow s (grownCap w s.size 0 5)).size + 1))

theorem conv_row (w : World) (s : ByteArray) :
    (convert 9 53 (.string s)).run Tryz.prog w = .ok (.slice (some ⟨w.heap.size, 0, none⟩) s.size (grownCap w s.size 0 5)) (rowWorld w s) :=
  run_bytes_of_string w 9 53 5 s Tryz.underlying9 Tryz.underlying53 Tryz.underlying5

theorem row_of (w : World) (s : ByteArray) : RowIs (rowWorld w s) w.heap.size s.size (byteAt s) := by
  refine ⟨by unfold rowWorld; simp, fun j hj => ?_, fun j hj => ?_⟩
  · unfold rowWorld
    rw [show w.heap.size = w.drew.heap.size from rfl, World.cell?_alloc_mark, bytesRow_at s _ j hj, byteAt_in s j hj]
    rfl
  · unfold rowWorld
    rw [show w.heap.size = w.drew.heap.size from rfl, World.frozen?_alloc_mark]
    have : s.size ≤ (bytesRow s (grownCap w s.size 0 5)).size := by
      unfold bytesRow
      rw [Array.size_append, Array.size_map]
      exact Nat.le_add_right _ _
    simp
    omega

theorem row_below (w : World) (s : ByteArray) : Below w.heap.size w (rowWorld w s) := (Below.refl _ w).drew.alloc (Nat.le_refl _) _

theorem _root_.Go.Proofs.YtmegghgjllbamaaGreatDoor.RowIs.sets {w : World} {L n : Nat} {f : Nat → Nat} (h : RowIs w L n f) (o m : Nat) (f' : Nat → Nat) (hm : o + m ≤ n) : RowIs (w.setCells L o (bytesAt m f')) L n (secB f o m f') := by
  refine ⟨?_, fun j hj => ?_, fun j hj => ?_⟩
  · exact Nat.lt_of_lt_of_le h.lt (grownBy_sets L _ _ _).size
  · unfold secB
    by_cases hi : o ≤ j ∧ j < o + m
    · have := World.cell?_setCells_in L (bytesAt m f') o w (fun i hi => by
        rw [bytesAt_len] at hi
        rw [h.cell (o + i) (by omega)]; rfl) (j - o) (by rw [bytesAt_len]; omega)
      rw [show o + (j - o) = j by omega] at this
      rw [this, ← List.getElem?_eq_getElem, bytesAt_at _ _ _ (by omega), if_pos hi]
    · rw [World.cell?_setCells_out L _ _ _ _ (fun _ _ => by rw [bytesAt_len]; show j < _ ∨ _ ≤ j; omega), if_neg hi]
      exact h.cell j hj
  · rw [World.frozen?_setCells]
    exact h.free j hj

/-- The first L bytes of a text, copied. -/
theorem run_copy_cut (w : World) (g o L cap : Nat) (s : ByteArray) (hs : L ≤ s.size) (hc : ∀ j, j < L → (w.cell? ⟨g, o + j, none⟩).isSome = true) (hf : ∀ j, j < L → w.frozen? ⟨g, o + j, none⟩ = false) :
    (Builtin.copy_ #[53, 9] 3 #[.slice (some ⟨g, o, none⟩) L cap, .string s]).run Tryz.prog w = .ok (goInt L) (w.setCells g o (bytesAt L (byteAt s))) := by
  have hst := run_storeCells_cells (P := Tryz.prog) g o (bytesAt L (byteAt s)) 0 w (by rw [bytesAt_len]; simpa using hc) (by rw [bytesAt_len]; simpa using hf) (bytesAt_one _ _)
  have he2 : List.take L (List.map (fun b => Value.int .u8 (b.toNat : Int)) s.data.toList) = bytesAt L (byteAt s) := by
    apply List.ext_getElem?
    intro j
    by_cases hj : j < L
    · have hlt : j < s.data.size := Nat.lt_of_lt_of_le hj hs
      rw [bytesAt_at _ _ _ hj, List.getElem?_take_of_lt hj, List.getElem?_map, Array.getElem?_toList, Array.getElem?_eq_getElem hlt]
      unfold byteAt
      rw [Array.getElem?_eq_getElem hlt]
      rfl
    · rw [List.getElem?_eq_none (by rw [List.length_take]; omega), List.getElem?_eq_none (by rw [bytesAt_len]; omega)]
  cases hq : Tryz.prog.info? 5 with
  | none => have := one5; rw [hq] at this; cases this
  | some i =>
    have hi : i.size = 1 := by have := one5; rw [hq] at this; simpa using this
    simp [Builtin.copy_, run_underlying Tryz.underlying53, Builtin.lenOf, Builtin.firstCells, sizeOf, typeInfo, hq]
    rw [show s.size.min L = L from Nat.min_eq_right hs, he2, hst]
    simp

/-- The disk with memory's bytes in sector num. -/
def outV (B : Nat → Nat) (a num : Nat) (disk : ByteArray) : ByteArray := textOf 1024 (secB (byteAt disk) (64 * num) 64 (fun j => B (a + j)))

theorem sec_slice (L num C : Nat) (h : num < 16) (hC : 1024 ≤ C) (w : World) :
    (Instr.sliceAt 53 (.slice (some ⟨L, 0, none⟩) 1024 C) (some (.int .i64 ((num : Int) * 64))) (some (.int .i64 (((num : Int) + 1) * 64))) none).run Tryz.prog w = .ok (.slice (some ⟨L, 64 * num, none⟩) 64 (C - 64 * num)) w := by
  have hu : Tryz.prog.underlying 53 = some (.slice (Tryz.prog.elem 53)) := by kernel_rfl
  have he : Tryz.prog.elem 53 = 5 := by kernel_rfl
  rw [run_sliceAt_slice w 53 _ _ _ _ hu, run_slice_lh w 53 _ _ _ hu .i64 .i64 ((num : Int) * 64) (((num : Int) + 1) * 64) (by omega) (by omega) (by omega), he, size5, Result.andThen_ok]
  unfold sliced
  rw [show ((num : Int) * 64).toNat = 64 * num by omega, show (((num : Int) + 1) * 64).toNat = 64 * num + 64 by omega, if_neg (by omega), Option.map_some, Addr.add_lit, Nat.mul_one, Nat.zero_add, Nat.add_sub_cancel_left]

set_option maxHeartbeats 1000000 in
set_option maxRecDepth 100000 in
theorem with_sector {w : World} {p g n c : Nat} {B : Nat → Nat} {D : Nat → Bool} (M : Mem w p g n c B D) (a num : Nat) (hn : num < 16) (ha : a % 64 = 0) (hz : a + 64 ≤ 256 * n) (disk : ByteArray) (hm : disk.size = 1024) :
    Calls Tryz.prog 83 #[.string disk, .int .i64 (num : Int), .pointer (some ⟨p, 0, none⟩), .int .u32 (a : Int)] w fun e w' => e = .returned (.string (outV B a num disk)) ∧ Below w.heap.size w w' := by
  have n64 := M.n64
  have lt := M.lt
  have P := hide (page_any M (a / 256) (by omega))
  rw [show ((a / 256 : Nat) : Int) = (a : Int) / 256 by omega] at P
  obtain ⟨T, hT⟩ : ∃ T, T = textOf 256 (fun j => B (256 * (a / 256) + j)) := ⟨_, rfl⟩
  have zT : T.size = 256 := by rw [hT]; exact textOf_size _ _
  rw [← hT] at P
  obtain ⟨q, hq⟩ : ∃ q, q = a % 256 := ⟨_, rfl⟩
  have q1 : q + 64 ≤ 256 := by omega
  have q2 : (a : Int) % 256 = (q : Int) := by omega
  have S1 : ∀ j, j < 64 → byteAt (T.extract q 256) j = B (a + j) := by
    intro j hj
    rw [byteAt_cut T q 256 j (by omega) (by omega), hT, byteAt_textOf 256 _ (fun j => lt _) _ (by omega), show 256 * (a / 256) + (q + j) = a + j by omega]
  have zS : 64 ≤ (T.extract q 256).size := by rw [ByteArray.size_extract]; omega
  have R := row_of w disk
  have hcv := conv_row w disk
  rw [hm] at R hcv
  have hC := grownCap_ge w 1024 0 5
  obtain ⟨C, hCC⟩ : ∃ C, C = grownCap w 1024 0 5 := ⟨_, rfl⟩
  rw [← hCC] at hcv hC
  have hC2 : C ≤ maxLen := by rw [hCC]; exact grownCap_le_maxLen w 1024 0 5 (by unfold maxLen; omega)
  unfold maxLen at hC2
  have hsl := fun W => sec_slice w.heap.size num C hn hC W
  have HC := run_copy_cut (rowWorld w disk) w.heap.size (64 * num) 64 (C - 64 * num) (T.extract q 256) zS (fun j hj => by rw [R.cell _ (by omega)]; rfl) (fun j hj => R.free _ (by omega))
  have R2 := (R.sets (64 * num) 64 (byteAt (T.extract q 256)) (by omega)).congr (g := secB (byteAt disk) (64 * num) 64 (fun j => B (a + j))) (fun j hj => by
    unfold secB
    by_cases h : 64 * num ≤ j ∧ j < 64 * num + 64
    · rw [if_pos h, if_pos h, S1 _ (by omega)]
    · rw [if_neg h, if_neg h])
  have hback := conv_back R2 C
  have b2 := hide (Below.grown (row_below w disk) (grownBy_sets w.heap.size (bytesAt 64 (byteAt (T.extract q 256))) (64 * num) (rowWorld w disk)) (row_below w disk).size (fun k hk => by cases hk; exact Nat.le_refl _))
  unfold outV
  generalize textOf 1024 (secB (byteAt disk) (64 * num) 64 (fun j => B (a + j))) = V at *
  generalize (rowWorld w disk).setCells w.heap.size (64 * num) (bytesAt 64 (byteAt (T.extract q 256))) = X2 at *
  generalize rowWorld w disk = X1 at *
  replace S1 := hide S1
  clear R R2 hT lt M hCC hq
  go_enter Tryz.func83, Tryz.ntmps83
  go_wp2_with fail
  refine P.out.mono ?_
  rintro e w' ⟨rfl, rfl⟩
  go_wp2
  go_ret
  exact ⟨rfl, b2.out⟩

/-- What a move makes of the disk, of memory's bytes and marks. -/
def moveT (n : Nat) (t : Dm) (y : Int) (disk : ByteArray) (B : Nat → Nat) : ByteArray := if fitsB n t disk = true ∧ y = 2 then outV B t.a.toNat t.n.toNat disk else disk
def moveB (n : Nat) (t : Dm) (y : Int) (disk : ByteArray) (B : Nat → Nat) : Nat → Nat := if fitsB n t disk = true ∧ y = 1 then secB B t.a.toNat 64 (fun j => byteAt disk (64 * t.n.toNat + j)) else B
def moveD (n : Nat) (t : Dm) (y : Int) (disk : ByteArray) (D : Nat → Bool) : Nat → Bool := if fitsB n t disk = true ∧ y = 1 then putD D (t.a.toNat / 256) else D

theorem fits_is {n : Nat} {t : Dm} {disk : ByteArray} (ht : Wd t) (h : fitsB n t disk = true) :
    ∃ a num : Nat, t.a = (a : Int) ∧ t.n = (num : Int) ∧ disk.size = 1024 ∧ num < 16 ∧ a % 64 = 0 ∧ a + 64 ≤ 256 * n := by
  unfold fitsB at h
  obtain ⟨h1, h2, h3, h4⟩ := of_decide_eq_true h
  have a0 := ht.a.1
  have b0 := ht.n.1
  exact ⟨t.a.toNat, t.n.toNat, by omega, by omega, h1, by omega, by omega, by omega⟩

set_option maxHeartbeats 1000000 in
theorem move_any {w : World} {p g n c : Nat} {B : Nat → Nat} {D : Nat → Bool} (M : Mem w p g n c B D) (t : Dm) (ht : Wd t) (y : Int) (disk : ByteArray) (hm : disk.size ≤ maxLen) :
    Calls Tryz.prog 49 #[.agg (cellsD t), .int .u32 y, .pointer (some ⟨p, 0, none⟩), .string disk] w fun e w' =>
      e = .returned (.string (moveT n t y disk B)) ∧ Mem w' p g n c (moveB n t y disk B) (moveD n t y disk D) ∧ w.grownBy w' (some g) := by
  obtain ⟨t1, t2, t3, t4, t5, t6, t7, t8, t9⟩ := dmRules
  obtain ⟨p0, p1, p2, p3, p4⟩ := dmParts
  have M0 := M.on (grow w (.cells (cellsD t) 59))
  have R0 := Rat.new w t 59
  have B0 := grow w (.cells (cellsD t) 59)
  have F := hide (fits_any M0 t ht disk hm)
  cases hf : fitsB n t disk
  · have e1 : moveT n t y disk B = disk := by unfold moveT; simp [hf]
    have e2 : moveB n t y disk B = B := by unfold moveB; simp [hf]
    have e3 : moveD n t y disk D = D := by unfold moveD; simp [hf]
    rw [e1, e2, e3]
    rw [hf] at F
    clear e1 e2 e3 hf
    go_enter Tryz.func49, Tryz.ntmps49
    go_wp2_with fail
    refine F.out.mono ?_
    rintro e w1 ⟨rfl, b1⟩
    have M1 := hide (M0.on b1)
    have G1 := hide (grownBy_of (onto B0 (Nat.le_refl _) b1) (some g))
    clear M0 B0 b1 M F R0
    go_wp2
    go_ret
    exact ⟨rfl, M1.out, G1.out⟩
  · obtain ⟨a, num, ea, en, hz, hn, ha, hl⟩ := fits_is ht hf
    rw [hf] at F
    have n64 := M.n64
    by_cases y1 : y = 1
    · have e1 : moveT n t y disk B = disk := by unfold moveT; simp [y1]
      have e2 : moveB n t y disk B = secB B a 64 (fun j => byteAt disk (64 * num + j)) := by unfold moveB; simp [hf, y1, ea, en]
      have e3 : moveD n t y disk D = putD D (a / 256) := by unfold moveD; simp [hf, y1, ea]
      rw [e1, e2, e3]
      clear e1 e2 e3 hf
      subst y1
      go_enter Tryz.func49, Tryz.ntmps49
      go_wp2_with fail
      refine F.out.mono ?_
      rintro e w1 ⟨rfl, b1⟩
      have M1 := M0.on b1
      have G1 := hide (grownBy_of (onto B0 (Nat.le_refl _) b1) (some g))
      obtain ⟨l0, l1, -, -, -⟩ := (R0.on b1).five
      rw [ea] at l0
      rw [en] at l1
      have S := hide (store_sector M1 a num hn ha hl disk hz)
      clear M0 B0 b1 M F R0 M1 ea en
      go_wp2_with fail
      refine S.out.mono ?_
      rintro e w2 ⟨rfl, M2, g2⟩
      have M3 := hide M2
      have G3 := hide (grownBy_trans G1.out g2)
      clear M2 g2 S G1
      go_wp2
      go_ret
      exact ⟨rfl, M3.out, G3.out⟩
    · have e2 : moveB n t y disk B = B := by unfold moveB; simp [y1]
      have e3 : moveD n t y disk D = D := by unfold moveD; simp [y1]
      rw [e2, e3]
      have d1 : (y == 1) = false := by simpa using y1
      by_cases y2 : y = 2
      · have e1 : moveT n t y disk B = outV B a num disk := by unfold moveT; simp [hf, y2, ea, en]
        rw [e1]
        clear e1 e2 e3 hf y1 d1
        subst y2
        go_enter Tryz.func49, Tryz.ntmps49
        go_wp2_with fail
        refine F.out.mono ?_
        rintro e w1 ⟨rfl, b1⟩
        have M1 := M0.on b1
        have B1 := hide (onto B0 (Nat.le_refl _) b1)
        obtain ⟨l0, l1, -, -, -⟩ := (R0.on b1).five
        rw [ea] at l0
        rw [en] at l1
        have S := hide (with_sector M1 a num hn ha hl disk hz)
        have M1 := hide M1
        clear M0 B0 b1 M F R0 ea en
        go_wp2_with fail
        refine S.out.mono ?_
        rintro e w2 ⟨rfl, b2⟩
        have M3 := hide (M1.out.on b2)
        have G3 := hide (grownBy_of (onto B1.out (Nat.le_refl _) b2) (some g))
        clear b2 S M1 B1
        go_wp2
        go_ret
        exact ⟨rfl, M3.out, G3.out⟩
      · have e1 : moveT n t y disk B = disk := by unfold moveT; simp [y2]
        rw [e1]
        have d2 : (y == 2) = false := by simpa using y2
        clear e1 e2 e3 hf y1 y2
        go_enter Tryz.func49, Tryz.ntmps49
        go_wp2_with fail
        refine F.out.mono ?_
        rintro e w1 ⟨rfl, b1⟩
        have M1 := hide (M0.on b1)
        have G1 := hide (grownBy_of (onto B0 (Nat.le_refl _) b1) (some g))
        clear M0 B0 b1 M F R0
        go_wp2
        go_ret
        exact ⟨rfl, M1.out, G1.out⟩

end Go.Proofs.YtmegghgjllbamaaGreatDoor.Dm
