/- Contracts of the program's Store and Put, over the bytes of a memory. -/
import Derived.Test.YtdapjpbdplhgbaaMemW3
namespace Go.Proofs.Ytdapjpbdplhgbaa
open Go.RowKit
set_option linter.unusedVariables false
set_option maxRecDepth 100000

theorem one5 : (Try.prog.info? 5).map (·.size) = some 1 := by kernel_rfl

theorem word_at (v s j : Nat) (hv : v < 4294967296) (hs : s = 1 ∨ s = 2 ∨ s = 4) (hj : j < s) :
    (#[Value.int .u8 ((v : Int) / 16777216), .int .u8 ((v : Int) / 65536 % 256), .int .u8 ((v : Int) / 256 % 256), .int .u8 ((v : Int) % 256)] : Array Value)[4 - s + j]? = some (.int .u8 ((byteOf v s j : Nat) : Int)) := by
  unfold byteOf
  rcases hs with rfl | rfl | rfl
  · obtain rfl : j = 0 := by omega
    simp
  · have : j = 0 ∨ j = 1 := by omega
    rcases this with rfl | rfl <;> simp
  · have : j = 0 ∨ j = 1 ∨ j = 2 ∨ j = 3 := by omega
    rcases this with rfl | rfl | rfl | rfl <;> simp
    omega

theorem store_any {w : World} {p g n c : Nat} {B : Nat → Nat} {D : Nat → Bool} (M : Mem w p g n c B D) (a s v : Nat) (a1 : a < 4294967296) (hv : v < 4294967296) (h : may n a s) :
    Calls Try.prog 47 #[.pointer (some ⟨p, 0, none⟩), .int .u32 (a : Int), .int .i64 (s : Int), .int .u32 (v : Int)] w fun e w' =>
      e = .returned (.int .i64 0) ∧ Mem w' p g n c (putB B a s v) (putD D (a / 256)) ∧ w.grownBy w' (some g) := by
  obtain ⟨h1, h2, h3⟩ := h
  have n64 := M.n64
  have hq : a % 256 + s ≤ 256 := by rcases h1 with rfl | rfl | rfl <;> omega
  have h0 : 0 < s := by omega
  have P := pageOf_raw M (a : Int) s (a / 256) (by omega) (by omega) h1 (by omega) (by omega) (by omega)
  have N := fun w => number_raw w g (a / 256 * 257) s (a % 256) (a : Int) (by omega) hq h0 (by omega) (by omega)
  obtain ⟨W, hW⟩ : ∃ W, W = (w.alloc (.cells #[.int .u8 ((v : Int) / 16777216), .int .u8 ((v : Int) / 65536 % 256), .int .u8 ((v : Int) / 256 % 256), .int .u8 ((v : Int) % 256)] 135)).drew := ⟨_, rfl⟩
  have hb : Below w.heap.size w W := by rw [hW]; exact ((Below.refl _ w).alloc (Nat.le_refl _) _).drew
  have MW := M.on hb
  have hin : ∀ j, j < s → (W.cell? ⟨g, a / 256 * 257 + a % 256 + j, none⟩) = some (.int .u8 ((B (a + j) : Nat) : Int)) := by
    intro j hj
    have := MW.by' (a + j) (by omega)
    rw [show a / 256 * 257 + a % 256 + j = a + j + (a + j) / 256 by omega]
    exact this
  have HC := run_copy_cells (P := Try.prog) W 60 60 3 5 g (a / 256 * 257 + a % 256) s (256 - a % 256) ⟨w.heap.size, 4 - s, none⟩ s s (bytesAt s (byteOf v s)) Try.underlying60 one5
    (by rw [bytesAt_len]; exact (Nat.min_self s).symm)
    (by
      intro j u hj
      have hjs : j < s := by
        have := (List.getElem?_eq_some_iff.1 hj).1
        rwa [bytesAt_len] at this
      rw [bytesAt_at _ _ _ hjs] at hj
      rw [Addr.add_lit, hW, World.cell?_drew, World.cell?_alloc_new, word_at v s j hv h1 hjs, hj])
    (by intro j hj; rw [bytesAt_len] at hj; rw [hin j hj]; rfl)
    (by intro j hj; exact MW.fr _) (bytesAt_one _ _)
  rw [bytesAt_len] at HC
  have HD : (W.setCells g (a / 256 * 257 + a % 256) (bytesAt s (byteOf v s))).cell? ⟨g, a / 256 * 257 + 256, none⟩ = some (.bool (D (a / 256))) := by
    rw [World.cell?_setCells_out g _ _ _ _ (fun _ _ => by rw [bytesAt_len]; show a / 256 * 257 + 256 < _ ∨ _ ≤ a / 256 * 257 + 256; omega)]
    have := MW.di (a / 256) (by omega)
    rwa [show 257 * (a / 256) + 256 = a / 256 * 257 + 256 by omega] at this
  have HF : (W.setCells g (a / 256 * 257 + a % 256) (bytesAt s (byteOf v s))).frozen? ⟨g, a / 256 * 257 + 256, none⟩ = false := by
    rw [World.frozen?_setCells]; exact MW.fr _
  have MP := MW.put (a / 256) (a % 256) s (by omega) hq (byteOf v s) (putB B a s v)
    (by intro j hj; unfold putB; rw [if_pos (by omega)]; congr 1; omega)
    (by intro j hj; unfold putB; rw [if_neg (by omega)])
    (putB_lt M.lt a s v)
  rw [hW] at HC
  refine (store_raw (w := w) (by omega) (by omega) _ P N (by omega) h0 HC (by rw [← hW]; exact HD) (by rw [← hW]; exact HF)).mono ?_
  rintro e w' ⟨rfl, rfl⟩
  rw [← hW]
  exact ⟨rfl, MP, grownBy_trans (grownBy_of hb _) (grownBy_trans (grownBy_sets g _ _ _) (grownBy_set _ _ _ _))⟩

theorem put_bad {w : World} {p g n c : Nat} {B : Nat → Nat} {D : Nat → Bool} (M : Mem w p g n c B D) (k : Int) (s : ByteArray) (h : ¬ (0 ≤ k ∧ k < n)) :
    Calls Try.prog 17 #[.pointer (some ⟨p, 0, none⟩), .int .i64 k, .string s] w fun e w' => e = .returned (.int .i64 61) ∧ w' = w := by
  have F := find_bad M k h
  clear h
  go_enter Try.func17, Try.ntmps17
  go_wp2_with fail
  refine F.mono ?_
  rintro e w' ⟨rfl, rfl⟩
  go_wp2
  go_ret
  exact ⟨rfl, rfl⟩

theorem put_size {w : World} {p g n c : Nat} {B : Nat → Nat} {D : Nat → Bool} (M : Mem w p g n c B D) (k : Nat) (s : ByteArray) (h : k < n) (hs : s.size ≠ 256) :
    Calls Try.prog 17 #[.pointer (some ⟨p, 0, none⟩), .int .i64 (k : Int), .string s] w fun e w' => e = .returned (.int .i64 60) ∧ w' = w := by
  have F := find_any M k h
  have hb : ((s.size : Int) != 256) = true := by simp; omega
  clear hs
  go_enter Try.func17, Try.ntmps17
  go_wp2_with fail
  refine F.mono ?_
  rintro e w' ⟨rfl, rfl⟩
  go_wp2
  go_ret
  exact ⟨rfl, rfl⟩

/-- Byte number j of a text (0 behind its end). -/
def byteAt (s : ByteArray) (j : Nat) : Nat := (s.data[j]?.getD 0).toNat

theorem byteAt_lt (s : ByteArray) (j : Nat) : byteAt s j < 256 := UInt8.toNat_lt _

/-- The bytes behind a page's being put. -/
def pageB (B : Nat → Nat) (k : Nat) (s : ByteArray) : Nat → Nat := fun j => if j / 256 = k then byteAt s (j % 256) else B j

theorem run_copy_text (w : World) (g o : Nat) (s : ByteArray) (hs : s.size = 256) (hc : ∀ j, j < 256 → (w.cell? ⟨g, o + j, none⟩).isSome = true) (hf : ∀ j, j < 256 → w.frozen? ⟨g, o + j, none⟩ = false) :
    (Builtin.copy_ #[60, 9] 3 #[.slice (some ⟨g, o, none⟩) 256 256, .string s]).run Try.prog w = .ok (goInt 256) (w.setCells g o (bytesAt 256 (byteAt s))) := by
  have hst := run_storeCells_cells (P := Try.prog) g o (bytesAt 256 (byteAt s)) 0 w (by rw [bytesAt_len]; simpa using hc) (by rw [bytesAt_len]; simpa using hf) (bytesAt_one _ _)
  have he : ((s.extract 0 256).data.map fun b => Value.int .u8 b.toNat).toList = bytesAt 256 (byteAt s) := by
    apply List.ext_getElem?
    intro j
    rw [Array.getElem?_toList, Array.getElem?_map]
    by_cases hj : j < 256
    · rw [bytesAt_at _ _ _ hj]
      have e1 : (s.extract 0 256).data[j]? = s.data[j]? := by
        rw [ByteArray.data_extract, Array.getElem?_extract]
        have : s.data.size = 256 := hs
        rw [if_pos (by omega), Nat.zero_add]
      have hlt : j < s.data.size := by have : s.data.size = 256 := hs; omega
      rw [e1]
      unfold byteAt
      rw [Array.getElem?_eq_getElem hlt]
      rfl
    · rw [List.getElem?_eq_none (by rw [bytesAt_len]; omega), Array.getElem?_eq_none (by
        have : (s.extract 0 256).data.size ≤ 256 := by
          rw [ByteArray.data_extract, Array.size_extract]; omega
        omega)]
      rfl
  cases hq : Try.prog.info? 5 with
  | none => have := one5; rw [hq] at this; cases this
  | some i =>
    have hi : i.size = 1 := by have := one5; rw [hq] at this; simpa using this
    simp [Builtin.copy_, run_underlying Try.underlying60, Builtin.lenOf, Builtin.firstCells, sizeOf, typeInfo, hq, hs]
    have he2 : List.take 256 (List.map (fun b => Value.int .u8 (b.toNat : Int)) s.data.toList) = bytesAt 256 (byteAt s) := by
      rw [← he]
      simp
    rw [he2, hst]
    simp

theorem put_raw {w X : World} {p g o : Nat} {s : ByteArray} {k : Int} {b : Bool} (hs : s.size = 256)
    (F : Calls Try.prog 43 #[.pointer (some ⟨p, 0, none⟩), .int .i64 k] w fun e w' => e = .returned (.tuple #[.pointer (some ⟨g, o, none⟩), .int .i64 0]) ∧ w' = w)
    (HC : (Builtin.copy_ #[60, 9] 3 #[.slice (some ⟨g, o, none⟩) 256 256, .string s]).run Try.prog w = .ok (goInt 256) X)
    (HD : X.cell? ⟨g, o + 256, none⟩ = some (.bool b)) (HF : X.frozen? ⟨g, o + 256, none⟩ = false) :
    Calls Try.prog 17 #[.pointer (some ⟨p, 0, none⟩), .int .i64 k, .string s] w fun e w' => e = .returned (.int .i64 0) ∧ w' = X.setCell ⟨g, o + 256, none⟩ (.bool true) := by
  have A := fun w => page_all w g o
  go_enter Try.func17, Try.ntmps17
  go_wp2_with fail
  refine F.mono ?_
  rintro e w' ⟨rfl, rfl⟩
  go_wp2
  go_ret
  exact ⟨rfl, rfl⟩

theorem put_any {w : World} {p g n c : Nat} {B : Nat → Nat} {D : Nat → Bool} (M : Mem w p g n c B D) (k : Nat) (s : ByteArray) (h : k < n) (hs : s.size = 256) :
    Calls Try.prog 17 #[.pointer (some ⟨p, 0, none⟩), .int .i64 (k : Int), .string s] w fun e w' =>
      e = .returned (.int .i64 0) ∧ Mem w' p g n c (pageB B k s) (putD D k) ∧ w.grownBy w' (some g) := by
  have HC := run_copy_text w g (k * 257) s hs (by
    intro j hj
    have := M.by' (256 * k + j) (by omega)
    rw [show k * 257 + j = 256 * k + j + (256 * k + j) / 256 by omega, this]; rfl) (fun j _ => M.fr _)
  have HD : (w.setCells g (k * 257) (bytesAt 256 (byteAt s))).cell? ⟨g, k * 257 + 256, none⟩ = some (.bool (D k)) := by
    rw [World.cell?_setCells_out g _ _ _ _ (fun _ _ => by rw [bytesAt_len]; show k * 257 + 256 < _ ∨ _ ≤ k * 257 + 256; omega)]
    have := M.di k h
    rwa [show 257 * k + 256 = k * 257 + 256 by omega] at this
  have HF : (w.setCells g (k * 257) (bytesAt 256 (byteAt s))).frozen? ⟨g, k * 257 + 256, none⟩ = false := by
    rw [World.frozen?_setCells]; exact M.fr _
  have MP := M.put k 0 256 h (by omega) (byteAt s) (pageB B k s)
    (by intro j hj; unfold pageB; rw [if_pos (by omega), show (256 * k + 0 + j) % 256 = j by omega])
    (by intro j hj; unfold pageB; rw [if_neg (by omega)])
    (by intro j; unfold pageB; split; exact byteAt_lt _ _; exact M.lt j)
  rw [Nat.add_zero] at MP
  refine (put_raw hs (find_any M k h) HC HD HF).mono ?_
  rintro e w' ⟨rfl, rfl⟩
  exact ⟨rfl, MP, grownBy_trans (grownBy_sets g _ _ _) (grownBy_set _ _ _ _)⟩

end Go.Proofs.Ytdapjpbdplhgbaa
