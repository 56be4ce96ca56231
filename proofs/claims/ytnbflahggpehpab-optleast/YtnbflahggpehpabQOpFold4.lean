/- Layer 15: contract of the program's Fold. -/
import Derived.Test.YtnbflahggpehpabQOpFold3
import Derived.Test.YtnbflahggpehpabQOpCopy2
namespace Go.Proofs.Ytnbflahggpehpab.Ir
open Go.RowKit
set_option linter.unusedVariables false
set_option maxRecDepth 100000
set_option linter.unusedSimpArgs false

theorem zeroK (w : World) : (zeroValue 40).run Try.prog w = .ok (.agg (cellsK fun _ => none)) w := Try.zeroValue40 w

theorem built_K : Array.foldl (fun (cs : Array Value) (x : Value × Nat) => cs.setIfInBounds x.snd x.fst) (cellsK fun _ => none) (cellsN (some 0)).zipIdx 0 N2 = cellsK K0 := by kernel_rfl

theorem fdF_w {K : Nat → Option Int} {m : Mi} (hK : ∀ n, Cp.W32 ((K n).getD 0)) (hm : Cp.W32 m.m) : Cp.W32 (fdF K m).m := by
  unfold fdF fdM
  split
  · exact hm
  · split
    · exact valV_w _ _ _ _ (mnK_w hK hm) (mnK_w hK hm) hm
    · split
      · exact Cp.w0
      · split
        · exact Cp.w0
        · exact hm

theorem fdK_w {K : Nat → Option Int} {m : Mi} (hK : ∀ n, Cp.W32 ((K n).getD 0)) (hm : Cp.W32 m.m) (n : Nat) : Cp.W32 ((fdK K m n).getD 0) := by
  unfold fdK
  split
  · unfold putK
    split
    · split
      · exact hm
      · exact Cp.w0
    · exact hK n
  · exact hK n

/-- A function's value is stored into a box that was made for it. -/
theorem store_func (w : World) (g : Nat) (lb : Array Value) (t : TypeId) : (store ⟨w.heap.size, 0, none⟩ (.func (.func g) #[] lb)).run Try.prog (w.alloc (.cells #[.nilFunc] t)) = .ok () (w.alloc (.cells #[.func (.func g) #[] lb] t)) := by
  rw [run_store Try.prog _ _ _ _ rfl]
  have h1 : (w.alloc (.cells #[.nilFunc] t)).cell? ⟨w.heap.size, 0, none⟩ = some .nilFunc := (Box.new w #[.nilFunc] t).cell 0
  have h2 := (Box.new w #[.nilFunc] t).free 0
  have h3 : (w.alloc (.cells #[.nilFunc] t)).setCell ⟨w.heap.size, 0, none⟩ (.func (.func g) #[] lb) = w.alloc (.cells #[.func (.func g) #[] lb] t) := by
    rw [setCell_row _ _ _ _ (isRow_new _ _ _), rowAt_new, World.setRow_alloc_new]
    rfl
  simp only [stored, h1, h2, h3, Bool.false_eq_true, if_false]

/-- What is held in Fold. -/
def HeldJ (B C : Nat) (K : Nat → Option Int) (y : World) : Prop := Box y B (cellsK K) ∧ (y.cell? ⟨C, 0, none⟩ = some (meanF B) ∧ C < y.heap.size) ∧ ∀ n, Cp.W32 ((K n).getD 0)

theorem HeldJ.new (w : World) : HeldJ w.heap.size (w.heap.size + 1) K0 ((w.alloc (.cells (cellsK K0) 40)).alloc (.cells #[meanF w.heap.size] 42)) := by
  have a := Box.new w (cellsK K0) 40
  have b := Box.new (w.alloc (.cells (cellsK K0) 40)) #[meanF w.heap.size] 42
  simp only [World.size_alloc] at b
  refine ⟨a.on (grow _ _), ⟨b.cell 0, by simp⟩, fun n => ?_⟩
  unfold K0
  split <;> exact Cp.w0

set_option maxHeartbeats 4000000 in
theorem fold_any {w : World} {v : Value} {l : List Mi} (h : IsOps w v l) (hl : l.length ≤ 16) (hw : WordsM l) : Calls Try.prog 8 #[v] w fun e w' =>
    ∃ v', e = .returned v' ∧ w'.ownsRow w.heap.size 32 6 v' l.length (flat (foldV l)) ∧ Below w.heap.size w w' := by
  obtain ⟨r1, r2, r3, r4, r5, r6, r7, r8, r9⟩ := rowRules
  obtain ⟨z1, z2, z3, z4, z5, z6, z7, z8, z9, z10, z11, z12, z13, z14, z15, z16⟩ := opSizesK
  obtain ⟨n1, n2, n3, n4, n5⟩ := numSets
  have zk := zeroK
  have zn : ¬ (cellsK fun _ => none) = #[] := by simp [cellsK]
  have zs : ¬ NK < N2 := by decide
  have zb := built_K
  have zp : placed (cellsK fun _ => none) 0 (cellsK K0) = cellsK K0 := placed_all _ _ (by rw [sizeK, sizeK])
  have zt : ∀ K, fitsP (cellsK K) 0 NK = true := fun K => by simp [fitsP, sizeK]
  have hJ0 := HeldJ.new w
  have g0 := onto (grow w (.cells (cellsK K0) 40)) (Nat.le_refl _) (grow _ (.cells #[meanF w.heap.size] 42))
  have ce := hide (each_any fdF (fun K m => fdK K (fdF K m)) K0 (HeldJ w.heap.size (w.heap.size + 1)) (fun m => Cp.W32 m.m) 17 #[.pointer (some ⟨w.heap.size + 1, 0, none⟩), .pointer (some ⟨w.heap.size, 0, none⟩)] w.heap.size w _ v l
    (enters_of Try.func17 (by kernel_rfl) rfl) h hl (fun m hm => by obtain ⟨i, hi⟩ := List.mem_iff_getElem?.1 hm; exact hw i m hi) g0 (Nat.le_refl _) hJ0.1.2.2
    (fun K y z hy hz => ⟨hy.1.of_heap (hz _ hJ0.1.2.2), ⟨by rw [← hy.2.1.1]; exact World.cell?_of_block (hz _ hJ0.2.1.2), by
      have hb := hz _ hJ0.2.1.2
      have hc : y.heap[w.heap.size + 1]? ≠ none := by rw [Array.getElem?_eq_getElem hy.2.1.2]; simp
      rw [← hb] at hc
      rcases Nat.lt_or_ge (w.heap.size + 1) z.heap.size with h | h
      · exact h
      · exact absurd (Array.getElem?_eq_none h) hc⟩, hy.2.2⟩) hJ0
    (fun K m y hm hy => (fold1_any K m w.heap.size (w.heap.size + 1) y hy.1 hy.2.1.1 hy.2.2 hm).mono (by
      rintro e z ⟨rfl, hz, hg⟩
      exact ⟨rfl, ⟨hz, ⟨by rw [← hy.2.1.1]; exact World.cell?_of_block (hg.block (w.heap.size + 1) hy.2.1.2 (fun e => absurd (Option.some.inj e) (by omega))), Nat.lt_of_lt_of_le hy.2.1.2 hg.size⟩, fdK_w hy.2.2 (fdF_w hy.2.2 hm)⟩, hg⟩)))
  have hsz := g0.size
  clear h hw hJ0 g0 hl
  have hst := store_func (w.alloc (.cells (cellsK K0) 40)) 14 #[.pointer (some ⟨w.heap.size, 0, none⟩)] 42
  rw [World.size_alloc] at hst
  unfold meanF at ce hsz
  go_enter Try.func8, Try.ntmps8
  go_wp2_with fail
  refine ce.out.mono ?_
  rintro e w2 ⟨v', rfl, ho, hb⟩
  have ho2 := hide (own_mono ho hsz)
  clear ho ce
  go_wp2
  go_ret
  exact ⟨_, rfl, ho2.out, hb⟩

end Go.Proofs.Ytnbflahggpehpab.Ir
