/- Contracts of the program's Store and Put. -/
import Derived.Test.YtdapjpbdplhgbaaMemW2
namespace Go.Proofs.Ytdapjpbdplhgbaa
open Go.RowKit
set_option linter.unusedVariables false
set_option maxRecDepth 100000

theorem u70 : Try.prog.underlying 135 = some (.array (Try.prog.arrayLen 135) (Try.prog.elem 135)) := by kernel_rfl

theorem l70 : Try.prog.arrayLen 135 = 4 := by kernel_rfl

theorem e70 : Try.prog.elem 135 = 5 := by kernel_rfl

/-- The last s bytes of a word. -/
theorem tail4 (w : World) (g s : Nat) (h : s ≤ 4) (h0 : 0 < s) (l : Int) (hl : l = 4 - (s : Int)) :
    (Instr.sliceAt 135 (.pointer (some ⟨g, 0, none⟩)) (some (.int .i64 l)) none none).run Try.prog w = .ok (.slice (some ⟨g, 4 - s, none⟩) s s) w := by
  subst hl
  rw [run_sliceAt_array_l w 135 ⟨g, 0, none⟩ u70 .i64 (4 - (s : Int)) (by omega) (by rw [l70]; omega), e70, size5, Result.andThen_ok, l70]
  unfold slicedAt
  rw [show (4 - (s : Int)).toNat = 4 - s by omega, if_neg (by omega), Addr.add_lit, Nat.mul_one, Nat.zero_add, show 4 - (4 - s) = s by omega]

theorem store_bad {w : World} {p g n c : Nat} {B : Nat → Nat} {D : Nat → Bool} (M : Mem w p g n c B D) (a s v : Int) (a0 : 0 ≤ a) (a1 : a < 4294967296)
    (h : ¬ ((s = 1 ∨ s = 2 ∨ s = 4) ∧ a % s = 0 ∧ a + s ≤ 256 * n)) :
    Calls Try.prog 47 #[.pointer (some ⟨p, 0, none⟩), .int .u32 a, .int .i64 s, .int .u32 v] w fun e w' => e = .returned (.int .i64 61) ∧ w' = w := by
  have F := pageOf_bad M a s a0 a1 h
  clear h
  go_enter Try.func47, Try.ntmps47
  go_wp2_with fail
  refine F.mono ?_
  rintro e w' ⟨rfl, rfl⟩
  go_wp2
  go_ret
  exact ⟨rfl, rfl⟩

set_option maxHeartbeats 1000000 in
theorem store_raw {w X : World} {p g o q s : Nat} {A V : Int} (v0 : 0 ≤ V) (v1 : V < 4294967296) (b : Bool)
    (P : Calls Try.prog 70 #[.pointer (some ⟨p, 0, none⟩), .int .u32 A, .int .i64 (s : Int)] w fun e w' => e = .returned (.tuple #[.pointer (some ⟨g, o, none⟩), .int .i64 0]) ∧ w' = w)
    (N : ∀ w, Calls Try.prog 71 #[.pointer (some ⟨g, o, none⟩), .int .u32 A, .int .i64 (s : Int)] w fun e w' => e = .returned (.slice (some ⟨g, o + q, none⟩) s (256 - q)) ∧ w' = w)
    (h4 : s ≤ 4) (h0 : 0 < s)
    (HC : (Builtin.copy_ #[60, 60] 3 #[.slice (some ⟨g, o + q, none⟩) s (256 - q), .slice (some ⟨w.heap.size, 4 - s, none⟩) s s]).run Try.prog
      (w.alloc (.cells #[.int .u8 (V / 16777216), .int .u8 (V / 65536 % 256), .int .u8 (V / 256 % 256), .int .u8 (V % 256)] 135)).drew = .ok (goInt s) X)
    (HD : X.cell? ⟨g, o + 256, none⟩ = some (.bool b)) (HF : X.frozen? ⟨g, o + 256, none⟩ = false) :
    Calls Try.prog 47 #[.pointer (some ⟨p, 0, none⟩), .int .u32 A, .int .i64 (s : Int), .int .u32 V] w fun e w' => e = .returned (.int .i64 0) ∧ w' = X.setCell ⟨g, o + 256, none⟩ (.bool true) := by
  have T := fun w g => tail4 w g s h4 h0 (IntKind.i64.wrap (4 - (s : Int))) (by rw [IntKind.wrap_i64]; omega)
  go_enter Try.func47, Try.ntmps47
  go_wp2_with fail
  refine P.mono ?_
  rintro e w' ⟨rfl, rfl⟩
  go_wp2
  go_region_with (go_at_call 71; refine (N _).mono ?_; rintro e w' ⟨rfl, rfl⟩)
  go_wp2
  go_ret
  exact ⟨rfl, rfl⟩

/-- Bytes, one behind the other, as cells. -/
def bytesAt (L : Nat) (f : Nat → Nat) : List Value := (List.range L).map fun j => .int .u8 ((f j : Nat) : Int)

theorem bytesAt_len (L : Nat) (f : Nat → Nat) : (bytesAt L f).length = L := by simp [bytesAt]

theorem bytesAt_at (L : Nat) (f : Nat → Nat) (j : Nat) (h : j < L) : (bytesAt L f)[j]? = some (.int .u8 ((f j : Nat) : Int)) := by
  unfold bytesAt
  rw [List.getElem?_map, List.getElem?_range h]
  rfl

theorem bytesAt_one (L : Nat) (f : Nat → Nat) : ∀ v ∈ bytesAt L f, v.oneCell' = true := by
  intro v hv
  unfold bytesAt at hv
  rw [List.mem_map] at hv
  obtain ⟨j, -, rfl⟩ := hv
  rfl

/-- Bytes put into a page, and its mark: what lies there then. -/
theorem Mem.put {w : World} {p g n c : Nat} {B : Nat → Nat} {D : Nat → Bool} (M : Mem w p g n c B D) (k q L : Nat) (hk : k < n) (hq : q + L ≤ 256) (f B' : Nat → Nat)
    (hin : ∀ j, j < L → B' (256 * k + q + j) = f j) (hout : ∀ j, ¬ (256 * k + q ≤ j ∧ j < 256 * k + q + L) → B' j = B j) (hlt : ∀ j, B' j < 256) :
    Mem ((w.setCells g (k * 257 + q) (bytesAt L f)).setCell ⟨g, k * 257 + 256, none⟩ (.bool true)) p g n c B' (putD D k) := by
  have hsz : ∀ (vs : List Value) (o : Nat) (w : World), (w.setCells g o vs).heap.size = w.heap.size := by
    intro vs
    induction vs with
    | nil => intro o w; rfl
    | cons v r ih => intro o w; rw [World.setCells, ih, World.size_setCell]
  have hmid : ∀ o, (w.cell? ⟨g, o, none⟩).isSome = true → ((w.setCells g (k * 257 + q) (bytesAt L f)).cell? ⟨g, o, none⟩).isSome = true := by
    intro o ho
    by_cases hj : k * 257 + q ≤ o ∧ o < k * 257 + q + L
    · have := World.cell?_setCells_in g (bytesAt L f) (k * 257 + q) w (fun i hi => by
        rw [bytesAt_len] at hi
        have := M.by' (256 * k + q + i) (by omega)
        rw [show k * 257 + q + i = 256 * k + q + i + (256 * k + q + i) / 256 by omega, this]; rfl) (o - (k * 257 + q)) (by rw [bytesAt_len]; omega)
      rw [show k * 257 + q + (o - (k * 257 + q)) = o by omega] at this
      rw [this]; rfl
    · rw [World.cell?_setCells_out g _ _ _ _ (fun _ _ => by rw [bytesAt_len]; show o < _ ∨ _ ≤ o; omega)]
      exact ho
  refine ⟨?_, ?_, M.ne, M.n4, M.n64, M.nc, ?_, ?_, ?_, ?_, hlt⟩
  · rw [World.size_setCell, hsz]; exact M.zp
  · rw [World.size_setCell, hsz]; exact M.zg
  · rw [World.cell?_setCell_other _ _ _ _ (by intro e; injection e with e1; exact M.ne e1.symm), World.cell?_setCells_out g _ _ _ _ (fun e _ => absurd e M.ne)]
    exact M.hd
  · intro j hj
    rw [World.cell?_setCell_other _ _ _ _ (by intro e; injection e with _ e2; omega)]
    by_cases hi : 256 * k + q ≤ j ∧ j < 256 * k + q + L
    · have := World.cell?_setCells_in g (bytesAt L f) (k * 257 + q) w (fun i hi => by
        rw [bytesAt_len] at hi
        have := M.by' (256 * k + q + i) (by omega)
        rw [show k * 257 + q + i = 256 * k + q + i + (256 * k + q + i) / 256 by omega, this]; rfl) (j - (256 * k + q)) (by rw [bytesAt_len]; omega)
      rw [show k * 257 + q + (j - (256 * k + q)) = j + j / 256 by omega] at this
      rw [this, ← List.getElem?_eq_getElem, bytesAt_at _ _ _ (by omega), ← hin _ (by omega), show 256 * k + q + (j - (256 * k + q)) = j by omega]
    · rw [World.cell?_setCells_out g _ _ _ _ (fun _ _ => by rw [bytesAt_len]; show j + j / 256 < _ ∨ _ ≤ j + j / 256; omega), hout j hi]
      exact M.by' j hj
  · intro i hi
    by_cases e : i = k
    · subst e
      obtain ⟨u, hu⟩ := Option.isSome_iff_exists.1 (hmid (i * 257 + 256) (by have := M.di i hi; rw [show i * 257 + 256 = 257 * i + 256 by omega, this]; rfl))
      rw [show 257 * i + 256 = i * 257 + 256 by omega, World.cell?_setCell_same _ _ _ hu]
      simp [putD]
    · rw [World.cell?_setCell_other _ _ _ _ (by intro e; injection e with _ e2; omega), World.cell?_setCells_out g _ _ _ _ (fun _ _ => by rw [bytesAt_len]; show 257 * i + 256 < _ ∨ _ ≤ 257 * i + 256; omega), M.di i hi]
      simp [putD, e]
  · intro o
    rw [World.frozen?_setCell, World.frozen?_setCells]
    exact M.fr o

end Go.Proofs.Ytdapjpbdplhgbaa
