/- The document's memory: may, Load, Page, Clean, Dirty. -/
import Derived.Test.YtdapjpbdplhgbaaMemText
namespace Go.Proofs.Ytdapjpbdplhgbaa
open Go.RowKit
set_option linter.unusedVariables false
set_option maxRecDepth 100000
set_option linter.unusedSimpArgs false

theorem rslice_text {w : World} {p gb gd n : Nat} {B : Nat → Nat} {D : Nat → Bool} (R : RMem w p gb gd n B D) (k c : Nat) (h : k < n) :
    (convert 60 9 (.slice (some ⟨gb, 256 * k, none⟩) 256 c)).run Try.prog w = .ok (.string (textOf 256 (fun j => B (256 * k + j)))) w := by
  refine run_convert_bytes_arg w 60 5 Try.underlying60 Try.underlying5 gb (256 * k) 256 c _ (by rw [List.length_map, List.length_range]) ?_ 9 Try.underlying9
  intro i hi
  have := R.by' (256 * k + i) (by omega)
  rw [this, List.getD_eq_getElem?_getD, List.getElem?_map, List.getElem?_range hi]
  rfl

theorem rpage_slice (n k gb : Nat) (h : k < n) (h64 : n ≤ 64) (w : World) :
    (Instr.sliceAt 60 (.slice (some ⟨gb, 0, none⟩) (256 * n) (256 * n)) (some (.int .i64 (256 * (k : Int)))) (some (.int .i64 (256 * (k : Int) + 256))) none).run Try.prog w = .ok (.slice (some ⟨gb, 256 * k, none⟩) 256 (256 * n - 256 * k)) w := by
  have hu : Try.prog.underlying 60 = some (.slice (Try.prog.elem 60)) := by kernel_rfl
  have he : Try.prog.elem 60 = 5 := by kernel_rfl
  rw [run_sliceAt_slice w 60 _ _ _ _ hu, run_slice_lh w 60 _ _ _ hu .i64 .i64 (256 * (k : Int)) (256 * (k : Int) + 256) (by omega) (by omega) (by omega), he, size5, Result.andThen_ok]
  unfold sliced
  rw [show (256 * (k : Int)).toNat = 256 * k by omega, show (256 * (k : Int) + 256).toNat = 256 * k + 256 by omega, if_neg (by omega), Option.map_some, Addr.add_lit, Nat.mul_one, Nat.zero_add, Nat.add_sub_cancel_left]

theorem rclean_mem {w : World} {p gb gd n : Nat} {B : Nat → Nat} {D : Nat → Bool} (R : RMem w p gb gd n B D) :
    RMem ((w.setCell ⟨p, 1, none⟩ (.slice (some ⟨w.heap.size, 0, none⟩) n n)).alloc (.cells (madeCells #[.bool false] n) 4)) p gb w.heap.size n B (fun _ => false) := by
  have hp := R.zp
  have hbz := R.zb
  obtain ⟨x, hx⟩ : ∃ x, x = w.setCell ⟨p, 1, none⟩ (.slice (some ⟨w.heap.size, 0, none⟩) n n) := ⟨_, rfl⟩
  have hz : w.heap.size = x.heap.size := by rw [hx]; simp
  rw [← hx]
  have old : ∀ b o, b < w.heap.size → (x.alloc (.cells (madeCells #[.bool false] n) 4)).cell? ⟨b, o, none⟩ = x.cell? ⟨b, o, none⟩ := fun b o h => World.cell?_alloc_lt _ _ _ (by show b < _; omega)
  have oldf : ∀ b o, b < w.heap.size → (x.alloc (.cells (madeCells #[.bool false] n) 4)).frozen? ⟨b, o, none⟩ = x.frozen? ⟨b, o, none⟩ := fun b o h => World.frozen?_alloc_old _ _ _ (by show b ≠ _; omega)
  refine ⟨by simp; omega, by simp; omega, by simp; omega, R.n1, by omega, by omega, R.n4, R.n64, ?_, ?_, ?_, ?_, ?_, ?_, ?_, R.lt⟩
  · rw [old _ _ hp, hx, World.cell?_setCell_other _ _ _ _ (by intro e; injection e with _ e2; omega)]; exact R.hb
  · rw [old _ _ hp, hx]; exact World.cell?_setCell_same _ _ _ R.hd
  · intro j hj
    rw [old _ _ hbz, hx, World.cell?_setCell_other _ _ _ _ (by intro e; injection e with e1; exact R.n1 e1)]; exact R.by' j hj
  · intro k hk
    rw [hz, World.cell?_alloc_new, made_flat hk]
  · intro o; rw [oldf _ _ hp, hx, World.frozen?_setCell]; exact R.fp o
  · intro o; rw [oldf _ _ hbz, hx, World.frozen?_setCell]; exact R.fb o
  · intro o; rw [hz, World.frozen?_alloc_new]

end Go.Proofs.Ytdapjpbdplhgbaa
