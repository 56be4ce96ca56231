/- A page's bytes, filled. -/
import Derived.Test.YtbbofbilagaihaaMemR1
namespace Go.Proofs.Ytbbofbilagaihaa
open Go.RowKit
set_option linter.unusedVariables false
set_option linter.unusedSimpArgs false

/-- A row of n bytes in block B: cell j holds f j, and may be written. -/
structure RowIs (w : World) (B n : Nat) (f : Nat → Nat) : Prop where
  lt : B < w.heap.size
  cell : ∀ j, j < n → w.cell? ⟨B, j, none⟩ = some (.int .u8 ((f j : Nat) : Int))
  free : ∀ j, j < n → w.frozen? ⟨B, j, none⟩ = false

theorem RowIs.set {w : World} {B n : Nat} {f : Nat → Nat} (h : RowIs w B n f) {k : Nat} (hk : k < n) (v : Nat) :
    RowIs (w.setCell ⟨B, k, none⟩ (.int .u8 ((v : Nat) : Int))) B n (fun j => if j = k then v else f j) := by
  refine ⟨by rw [World.size_setCell]; exact h.lt, fun j hj => ?_, fun j hj => by rw [World.frozen?_setCell]; exact h.free j hj⟩
  by_cases e : j = k
  · subst e
    rw [World.cell?_setCell_same w _ _ (h.cell j hj), if_pos rfl]
  · rw [World.cell?_setCell_other w _ _ _ (by intro c; injection c with _ c2; omega), if_neg e]
    exact h.cell j hj

theorem RowIs.congr {w : World} {B n : Nat} {f g : Nat → Nat} (h : RowIs w B n f) (e : ∀ j, j < n → f j = g j) : RowIs w B n g :=
  ⟨h.lt, fun j hj => by rw [← e j hj]; exact h.cell j hj, h.free⟩

theorem conv_back {w : World} {B n : Nat} {f : Nat → Nat} (h : RowIs w B n f) (cap : Nat) :
    (convert 32 9 (.slice (some ⟨B, 0, none⟩) n cap)).run Try.prog w = .ok (.string (textOf n f)) w := by
  refine run_convert_bytes_arg w 32 5 Try.underlying32 Try.underlying5 B 0 n cap _ (by rw [List.length_map, List.length_range]) ?_ 9 Try.underlying9
  intro i hi
  rw [Nat.zero_add, h.cell i hi, List.getD_eq_getElem?_getD, List.getElem?_map, List.getElem?_range hi]
  rfl

theorem made_row (w : World) (n : Nat) : RowIs (w.alloc (.cells (madeCells #[.int .u8 0] n) 5)) w.heap.size n (fun _ => 0) := by
  refine ⟨by simp, fun j hj => ?_, fun j hj => by rw [World.frozen?_alloc_new]⟩
  rw [World.cell?_alloc_new, made_flat hj]
  rfl

theorem make_row (w : World) (n : Nat) (h : n ≤ 1000000) : (Instr.makeSlice 32 (.int .i64 (n : Int)) (.int .i64 (n : Int))).run Try.prog w
    = .ok (.slice (some ⟨w.heap.size, 0, none⟩) n n) (w.alloc (.cells (madeCells #[.int .u8 0] n) 5)) := by
  have hi0 : (Try.prog.info? 5).map (fun i => (i.zero, i.size, i.bytes)) = some (some (.int .u8 0), 1, 1) := by kernel_rfl
  obtain ⟨i0, hi, hz0, hz1, hz2⟩ := info_parts hi0
  have := run_make (P := Try.prog) w 32 5 i0 (.int .u8 0) Try.underlying32 hi hz0 .i64 .i64 (n : Int) (n : Int) (by omega) (by omega) (by rw [hz2]; omega) (by omega)
  rw [hz1, Int.toNat_natCast, Nat.mul_one] at this
  exact this

/-- How long a filled page is, and its bytes. -/
def fillN (m : Int) : Nat := (256 + max (-256) (min m 10)).toNat

def fillB (v : Nat) : Nat → Nat := fun j => (v + j) % 256

def fillT (v : Nat) (m : Int) : ByteArray := textOf (fillN m) (fillB v)

theorem fillN_le (m : Int) : fillN m ≤ 266 := by unfold fillN; omega

theorem fillT_size (v : Nat) (m : Int) : (fillT v m).size = fillN m := textOf_size _ _

set_option maxHeartbeats 1000000 in
set_option maxRecDepth 100000 in
theorem filled_any (v : Nat) (m : Int) (hv : v < 4294967296) (w : World) :
    Calls Try.prog 22 #[.int .u32 (v : Int), .int .i64 m] w fun e w' => e = .returned (.string (fillT v m)) ∧ Below w.heap.size w w' := by
  have hN : (256 : Int) + max (-256) (min m 10) = (fillN m : Int) := by unfold fillN; omega
  have hle := fillN_le m
  unfold fillT
  obtain ⟨N, HN⟩ : ∃ N, N = fillN m := ⟨_, rfl⟩
  rw [← HN] at hN hle ⊢
  clear HN
  have mk := make_row w N (by omega)
  have R0 := hide (made_row w N)
  have B0 := hide ((Below.refl _ w).alloc (Nat.le_refl _) (.cells (madeCells #[.int .u8 0] N) 5))
  obtain ⟨T, hT⟩ : ∃ T, Hid (T = textOf N (fillB v)) := ⟨_, hide rfl⟩
  rw [← hT.out]
  obtain ⟨V, hV⟩ : ∃ V : Int, Hid (V = (v : Int)) := ⟨_, hide rfl⟩
  have v0 : 0 ≤ V := by rw [hV.out]; omega
  have v1 : V < 4294967296 := by rw [hV.out]; omega
  rw [← hV.out]
  go_enter Try.func22, Try.ntmps22
  go_wp2
  go_loopw [6] (fun i wr => ∃ k : Nat, k ≤ N ∧ i = .int .i64 k ∧ Hid (RowIs wr w.heap.size N (fun j => if j < k then fillB v j else 0)) ∧ Hid (Below w.heap.size w wr)) (fun i _ => N - (intOf i).toNat)
  case atStart => exact ⟨0, by omega, rfl, hide (R0.out.congr fun j hj => by simp), B0⟩
  case round =>
    clear mk R0 B0
    obtain ⟨k, hk, rfl, R, G⟩ := hrel
    by_cases h : k < N
    · have hc := R.out.cell k h
      have hf := R.out.free k h
      have hl : (if k < k then fillB v k else 0) = 0 := by simp
      rw [hl] at hc
      have R2 := hide ((R.out.set h (fillB v k)).congr (g := fun j => if j < k + 1 then fillB v j else 0) fun j hj => by
        by_cases e : j = k
        · subst e; simp
        · by_cases l : j < k
          · simp [e, l, show j < k + 1 by omega]
          · simp [e, l, show ¬ j < k + 1 by omega])
      have G2 := hide (G.out.setCell (p := ⟨w.heap.size, k, none⟩) (Nat.le_refl _) (.int .u8 ((fillB v k : Nat) : Int)))
      have hb : ((fillB v k : Nat) : Int) = (V + (k : Int)) % 256 := by unfold fillB; rw [hV.out]; omega
      rw [hb] at R2 G2
      clear R G hl hb
      go_wp2
      go_roundw
      case rel => exact ⟨k + 1, by omega, by go_num, R2, G2⟩
      case measure => simp [intOf]; omega
    · have : k = N := by omega
      subst this
      have ht := conv_back (R.out.congr (g := fillB v) fun j hj => by simp [hj]) k
      rw [← hT.out] at ht
      clear hT R
      go_wp2
      go_ret
      exact ⟨rfl, G.out⟩

end Go.Proofs.Ytbbofbilagaihaa
