/- Layer 12: the contract of Clone, the program's. -/
import Derived.Test.YthjcijlabpinkaaGreatDoorRBuNew
import Derived.Deep.RegionHeld3
namespace Go.Proofs.YthjcijlabpinkaaGreatDoor
open Go.RowKit
set_option linter.unusedVariables false
set_option maxRecDepth 100000
set_option linter.unusedSimpArgs false

theorem at_buildB {w : World} {ops : Array Oper} {o : Oper} {a : Act} {K : Act → World → Prop} {Q : Exit → Act → World → Prop} {E : Prop} (hg : o.guard = none) (p0 p1 : Operand)
    (ho : o.op = .build 101 #[(0, p0), (1, p1)]) (v : Dv) (p : Nat) (h0 : a.eval p0 = .agg (cellsV v)) (h1 : a.eval p1 = .pointer (some ⟨p, 0, none⟩))
    (hK : K (a.put o.dst (.agg (cellsB v p))) w) : if Region.wanted o (yielded ops a.tmps) = true then Oper.wp Tryz.prog o a w K Q else E := by
  have hw : Region.wanted o (yielded ops a.tmps) = true := by simp [Region.wanted, hg]
  have e : ((#[(0, p0), (1, p1)] : Array (Nat × Operand)).map fun (i, x) => (i, a.eval x)).toList = [(0, a.eval p0), (1, a.eval p1)] := by simp
  rw [if_pos hw]
  refine wp_build 101 _ ho ?_ ?_
  · rw [e, h0, h1, builtB]; rfl
  · rw [e, h0, h1, builtB]; exact hK

theorem Bus.mptr {x : World} {b p g n c : Nat} {v : Dv} {B : Nat → Nat} {D : Nat → Bool} (h : Bus x b p g n c v B D) : x.cell? ⟨b, 16, none⟩ = some (.pointer (some ⟨p, 0, none⟩)) := h.cell 16

theorem Bus.loadV {x : World} {b p g n c : Nat} {v : Dv} {B : Nat → Nat} {D : Nat → Bool} (h : Bus x b p g n c v B D) : (loadCellsFrom ⟨b, 0, none⟩ 0 N16 #[]).run Tryz.prog x = .ok (cellsV v) x :=
  Box.loads (c := cellsB v p) ⟨h.row, h.at', h.lt⟩ 0 _ rfl rfl

set_option maxHeartbeats 2000000 in
set_option maxRecDepth 100000 in
theorem busClone_any {w : World} {b p g n c : Nat} {v : Dv} {B : Nat → Nat} {D : Nat → Bool} (hB : Bus w b p g n c v B D) :
    Calls Tryz.prog 33 #[.pointer (some ⟨b, 0, none⟩)] w fun e w' => ∃ b' p' g' c', e = .returned (.pointer (some ⟨b', 0, none⟩)) ∧ Bus w' b' p' g' n c' v B D ∧ w.heap.size ≤ b' ∧ w.heap.size ≤ p' ∧ w.heap.size ≤ g' ∧ Below w.heap.size w w' := by
  obtain ⟨-, -, -, -, z5, -, -, -, -, z10⟩ := sizeRules
  obtain ⟨-, -, -, -, -, -, -, -, -, -, -, -, -, -, n5⟩ := cellSizes
  have hv := hide hB.wv
  replace hB := hide hB
  go_enter Tryz.func33, Tryz.ntmps33
  go_wp2_with fail
  refine wp_region_held_drew (S := fun x => Bus x b p g n c v B D ∧ Below w.heap.size w x) (by kernel_rfl) ⟨hB.out.drew, (Below.refl _ w).drew⟩ (fun hHeld => ?_)
  generalize w.drew = xd at *
  refine wpAnyH_take (i := 0) (oi := ⟨some 3, .move (.tmp 0), 42, "bus.go:282", #[], none⟩) (v := ?_) rfl (by kernel_rfl) (by kernel_rfl) (by kernel_rfl) (fun _ _ _ h => h) (Or.inl ⟨by rfl, ?_⟩) (by assumption) ?_
  rotate_left
  · intro y hSw
    obtain ⟨q0, q1⟩ := And.intro hSw.1.loadV hSw.1.mptr
    go_simp
    try with_reducible rfl
  try simp only [Act.put, List.setIfInBounds_toArray, List.set_cons_zero, List.set_cons_succ]
  refine wpAnyH_take (i := 1) (oi := ⟨some 4, .nilCheck (.tmp 3), 0, "bus.go:282", #[⟨0, .data⟩], none⟩) (v := ?_) rfl (by kernel_rfl) (by kernel_rfl) (by kernel_rfl) (fun _ _ _ h => h) (Or.inl ⟨by rfl, ?_⟩) (by assumption) ?_
  rotate_left
  · intro y hSw
    obtain ⟨q0, q1⟩ := And.intro hSw.1.loadV hSw.1.mptr
    go_simp
    try with_reducible rfl
  try simp only [Act.put, List.setIfInBounds_toArray, List.set_cons_zero, List.set_cons_succ]
  refine wpAnyH_take (i := 2) (oi := ⟨some 5, .fieldAddr 101 (.tmp 4) 0, 0, "bus.go:282", #[⟨1, .data⟩], none⟩) (v := ?_) rfl (by kernel_rfl) (by kernel_rfl) (by kernel_rfl) (fun _ _ _ h => h) (Or.inl ⟨by rfl, ?_⟩) (by assumption) ?_
  rotate_left
  · intro y hSw
    obtain ⟨q0, q1⟩ := And.intro hSw.1.loadV hSw.1.mptr
    go_simp
    try with_reducible rfl
  try simp only [Act.put, List.setIfInBounds_toArray, List.set_cons_zero, List.set_cons_succ]
  refine wpAnyH_take (i := 3) (oi := ⟨some 6, .load 99 (.tmp 5), 99, "bus.go:282", #[⟨2, .data⟩], none⟩) (v := ?_) rfl (by kernel_rfl) (by kernel_rfl) (by kernel_rfl) (fun _ _ _ h => h) (Or.inl ⟨by rfl, ?_⟩) (by assumption) ?_
  rotate_left
  · intro y hSw
    obtain ⟨q0, q1⟩ := And.intro hSw.1.loadV hSw.1.mptr
    go_simp
    try with_reducible rfl
  try simp only [Act.put, List.setIfInBounds_toArray, List.set_cons_zero, List.set_cons_succ]
  refine wpAnyH_take (i := 4) (oi := ⟨some 7, .move (.tmp 0), 42, "bus.go:282", #[], none⟩) (v := ?_) rfl (by kernel_rfl) (by kernel_rfl) (by kernel_rfl) (fun _ _ _ h => h) (Or.inl ⟨by rfl, ?_⟩) (by assumption) ?_
  rotate_left
  · intro y hSw
    obtain ⟨q0, q1⟩ := And.intro hSw.1.loadV hSw.1.mptr
    go_simp
    try with_reducible rfl
  try simp only [Act.put, List.setIfInBounds_toArray, List.set_cons_zero, List.set_cons_succ]
  refine wpAnyH_take (i := 5) (oi := ⟨some 8, .nilCheck (.tmp 7), 0, "bus.go:282", #[⟨4, .data⟩], none⟩) (v := ?_) rfl (by kernel_rfl) (by kernel_rfl) (by kernel_rfl) (fun _ _ _ h => h) (Or.inl ⟨by rfl, ?_⟩) (by assumption) ?_
  rotate_left
  · intro y hSw
    obtain ⟨q0, q1⟩ := And.intro hSw.1.loadV hSw.1.mptr
    go_simp
    try with_reducible rfl
  try simp only [Act.put, List.setIfInBounds_toArray, List.set_cons_zero, List.set_cons_succ]
  refine wpAnyH_take (i := 6) (oi := ⟨some 9, .fieldAddr 101 (.tmp 8) 1, 0, "bus.go:282", #[⟨5, .data⟩], none⟩) (v := ?_) rfl (by kernel_rfl) (by kernel_rfl) (by kernel_rfl) (fun _ _ _ h => h) (Or.inl ⟨by rfl, ?_⟩) (by assumption) ?_
  rotate_left
  · intro y hSw
    obtain ⟨q0, q1⟩ := And.intro hSw.1.loadV hSw.1.mptr
    go_simp
    try with_reducible rfl
  try simp only [Act.put, List.setIfInBounds_toArray, List.set_cons_zero, List.set_cons_succ]
  refine wpAnyH_take (i := 7) (oi := ⟨some 10, .load 54 (.tmp 9), 54, "bus.go:282", #[⟨6, .data⟩], none⟩) (v := ?_) rfl (by kernel_rfl) (by kernel_rfl) (by kernel_rfl) (fun _ _ _ h => h) (Or.inl ⟨by rfl, ?_⟩) (by assumption) ?_
  rotate_left
  · intro y hSw
    obtain ⟨q0, q1⟩ := And.intro hSw.1.loadV hSw.1.mptr
    go_simp
    try with_reducible rfl
  try simp only [Act.put, List.setIfInBounds_toArray, List.set_cons_zero, List.set_cons_succ]
  refine wpAnyH_ready (rs := [8]) (by kernel_rfl) (by simp) ?_
  refine AllReadyH.cons (o := ⟨some 11, .call { callee := .value (.func 105), args := #[.tmp 10], argTypes := #[54] }, 54, "bus.go:282", #[⟨7, .data⟩], none⟩) rfl (fun K hK => ?_) AllReadyH.nil
  go_simp
  refine (clone_any hHeld.1.m).mono ?_
  rintro e x1 ⟨p2, g2, c2, rfl, MC, hp2, hg2, hn⟩
  have hz2 : w.heap.size ≤ xd.heap.size := hHeld.2.size
  replace MC := hide MC
  go_wp2_with fail
  refine hK.out _ _ (⟨hHeld.1.on hn, onto hHeld.2 (Nat.le_refl _) hn⟩) (fun hHeld => ?_)
  clear hK K
  try simp only [Act.put, List.setIfInBounds_toArray, List.set_cons_zero, List.set_cons_succ]
  clear hn
  refine wpAnyH_ready (rs := [9]) (by kernel_rfl) (by simp) ?_
  refine AllReadyH.cons (o := ⟨some 12, .build 101 #[(0, .tmp 6), (1, .tmp 11)], 101, "bus.go:282", #[⟨3, .data⟩, ⟨8, .data⟩], none⟩) rfl (fun K hK => ?_) AllReadyH.nil
  refine at_buildB rfl (.tmp 6) (.tmp 11) (by with_reducible rfl) v p2 rfl rfl ?_
  refine hK.out _ _ (hHeld) (fun hHeld => ?_)
  clear hK K
  try simp only [Act.put, List.setIfInBounds_toArray, List.set_cons_zero, List.set_cons_succ]
  refine wpAnyH_ready (rs := [10]) (by kernel_rfl) (by simp) ?_
  refine AllReadyH.cons (o := ⟨some 13, .box 101 (.tmp 12), 42, "bus.go:282", #[⟨9, .data⟩], none⟩) rfl (fun K hK => ?_) AllReadyH.nil
  have gA := grow x1 (.cells (cellsB v p2) 101)
  have BB := hide (Bus.made MC.out hv.out 101)
  have hz0 : w.heap.size ≤ x1.heap.size := hHeld.2.size
  go_simp
  refine hK.out _ _ (⟨hHeld.1.on gA, onto hHeld.2 (Nat.le_refl _) gA⟩) (fun hHeld => ?_)
  clear hK K
  try simp only [Act.put, List.setIfInBounds_toArray, List.set_cons_zero, List.set_cons_succ]
  clear gA
  generalize x1.alloc (.cells (cellsB v p2) 101) = x3 at *
  generalize x1.heap.size = LB at *
  refine wpAnyH_ready (rs := [11]) (by kernel_rfl) (by simp) ?_
  refine AllReadyH.cons (o := ⟨some 2, .assign (.tmp 13), 42, "bus.go:282", #[⟨10, .data⟩, ⟨8, .chain⟩, ⟨0, .phase⟩, ⟨1, .phase⟩, ⟨2, .phase⟩, ⟨3, .phase⟩, ⟨4, .phase⟩, ⟨5, .phase⟩, ⟨6, .phase⟩, ⟨7, .phase⟩, ⟨8, .phase⟩, ⟨9, .phase⟩, ⟨10, .phase⟩], none⟩) rfl (fun K hK => ?_) AllReadyH.nil
  go_simp
  refine hK.out _ _ (hHeld) (fun hHeld => ?_)
  clear hK K
  try simp only [Act.put, List.setIfInBounds_toArray, List.set_cons_zero, List.set_cons_succ]
  refine wpAnyH_done (by kernel_rfl) ?_ _
  replace hHeld := hide hHeld
  go_wp2
  go_ret
  exact ⟨LB, p2, g2, c2, rfl, BB.out, hz0, by omega, by omega, hHeld.out.2⟩

end Go.Proofs.YthjcijlabpinkaaGreatDoor
