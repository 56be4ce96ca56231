/- Layer 12: the contract of New, the document's. -/
import Derived.Test.YthjcijlabpinkaaGreatDoorRBuNew
namespace Go.Proofs.YthjcijlabpinkaaGreatDoor
open Go.RowKit
set_option linter.unusedVariables false
set_option maxRecDepth 100000
set_option linter.unusedSimpArgs false

theorem builtM (p : Nat) (G : Rg) (A : ByteArray) : Tryz.prog.built 70 [(0, .pointer (some ⟨p, 0, none⟩)), (4, .agg (cellsG G)), (5, .string A)] = some (cellsM ⟨Tm.T0, Ua.U0, Dm.D0, G, A⟩ p) := by kernel_rfl

theorem at_buildM {w : World} {ops : Array Oper} {o : Oper} {a : Act} {K : Act → World → Prop} {Q : Exit → Act → World → Prop} {E : Prop} (hg : o.guard = none) (p0 p1 p2 : Operand)
    (ho : o.op = .build 70 #[(0, p0), (4, p1), (5, p2)]) (p : Nat) (G : Rg) (A : ByteArray) (h0 : a.eval p0 = .pointer (some ⟨p, 0, none⟩)) (h1 : a.eval p1 = .agg (cellsG G)) (h2 : a.eval p2 = .string A)
    (hK : K (a.put o.dst (.agg (cellsM ⟨Tm.T0, Ua.U0, Dm.D0, G, A⟩ p))) w) : if Region.wanted o (yielded ops a.tmps) = true then Oper.wp Tryz.prog o a w K Q else E := by
  have hw : Region.wanted o (yielded ops a.tmps) = true := by simp [Region.wanted, hg]
  have e : ((#[(0, p0), (4, p1), (5, p2)] : Array (Nat × Operand)).map fun (i, x) => (i, a.eval x)).toList = [(0, a.eval p0), (4, a.eval p1), (5, a.eval p2)] := by simp
  rw [if_pos hw]
  refine wp_build 70 _ ho ?_ ?_
  · rw [e, h0, h1, h2, builtM]; rfl
  · rw [e, h0, h1, h2, builtM]; exact hK

set_option maxHeartbeats 4000000 in
set_option maxRecDepth 100000 in
theorem rbusNew_any (n : Nat) (h4 : 4 ≤ n) (h64 : n ≤ 64) (w : World) :
    Calls Tryz.prog 43 #[.int .i64 (n : Int)] w fun e w' => ∃ b p gb gd, e = .returned (.tuple #[.pointer (some ⟨b, 0, none⟩), .int .i64 0]) ∧ RBus w' b p gb gd n V0 (fun _ => 0) (fun _ => false) ∧ w.heap.size ≤ b ∧ w.heap.size ≤ p ∧ w.heap.size ≤ gb ∧ w.heap.size ≤ gd ∧ Below w.heap.size w w' := by
  have c := hide (rnew_any n h4 h64 w)
  have cs := hide rseed_0
  obtain ⟨dk, hdk⟩ : ∃ dk, Hid (dk = textOf 1024 (fun _ => 0)) := ⟨_, hide rfl⟩
  have hV : Hid (V0 = ⟨Tm.T0, Ua.U0, Dm.D0, G0, dk⟩) := hide (by rw [hdk.out]; rfl)
  rw [hV.out]
  have hW : Hid (Wv ⟨Tm.T0, Ua.U0, Dm.D0, G0, dk⟩) := hide (by rw [← hV.out]; exact V0_w)
  go_enter Tryz.func43, Tryz.ntmps43
  go_wp2_with fail
  refine c.out.mono ?_
  rintro e w1 ⟨p, gb, gd, rfl, M, hp, hgb, hgd, b1⟩
  replace M := hide M
  replace b1 := hide b1
  clear c
  go_wp2_with fail
  refine wp_region_held_drew (S := fun x => Below w1.heap.size w1 x) (by kernel_rfl) (Below.refl _ w1).drew (fun hHeld => ?_)
  generalize w1.drew = xd at *
  refine wpAnyH_take (i := 0) (oi := ⟨some 14, .move (.tmp 4), 60, "ref.go:29", #[], none⟩) (v := ?_) rfl (by kernel_rfl) (by kernel_rfl) (by kernel_rfl) (fun _ _ _ h => h) (Or.inl ⟨by rfl, ?_⟩) (by assumption) ?_
  rotate_left
  · intro y hSw
    skip
    go_simp
    try with_reducible rfl
  try simp only [Act.put, List.setIfInBounds_toArray, List.set_cons_zero, List.set_cons_succ]
  refine wpAnyH_ready (rs := [1, 2]) (by kernel_rfl) (by simp) ?_
  refine AllReadyH.cons (o := ⟨some 15, .call { callee := .value (.func 115), args := #[.const (.int .u32 0)], argTypes := #[22] }, 68, "ref.go:29", #[], none⟩) rfl (fun K hK => ?_) ?_
  · go_simp
    refine (cs.out _).mono ?_
    rintro e x1 ⟨rfl, hn⟩
    go_wp2_with fail
    refine hK.out _ _ (onto hHeld (Nat.le_refl _) hn) (fun hHeld => ?_)
    clear hK K
    try simp only [Act.put, List.setIfInBounds_toArray, List.set_cons_zero, List.set_cons_succ]
    clear hn
    refine wpAnyH_ready (rs := [2]) (by kernel_rfl) (by simp) ?_
    refine AllReadyH.cons (o := ⟨some 16, .makeSlice 56 (.const (.int .i64 1024)) (.const (.int .i64 1024)), 56, "ref.go:29", #[], none⟩) rfl (fun K hK => ?_) AllReadyH.nil
    have gM := grow x1 (.cells (madeCells #[.int .u8 0] 1024) 5)
    have RW := made_row x1 1024
    have hmk := make_row x1 1024 (by omega)
    rw [show ((1024 : Nat) : Int) = 1024 from rfl] at hmk
    go_simp
    refine hK.out _ _ (onto hHeld (Nat.le_refl _) gM) (fun hHeld => ?_)
    clear hK K
    try simp only [Act.put, List.setIfInBounds_toArray, List.set_cons_zero, List.set_cons_succ]
    clear gM hmk
    generalize x1.alloc (.cells (madeCells #[.int .u8 0] 1024) 5) = x2 at *
    generalize x1.heap.size = LS at *
    refine wpAnyH_ready (rs := [3]) (by kernel_rfl) (by simp) ?_
    refine AllReadyH.cons (o := ⟨some 17, .convert 56 9 (.tmp 16), 9, "ref.go:29", #[⟨2, .data⟩], none⟩) rfl (fun K hK => ?_) AllReadyH.nil
    have hcv := conv_back RW 1024
    rw [← hdk.out] at hcv
    go_simp
    refine hK.out _ _ (hHeld) (fun hHeld => ?_)
    clear hK K
    try simp only [Act.put, List.setIfInBounds_toArray, List.set_cons_zero, List.set_cons_succ]
    clear hcv RW
    refine wpAnyH_ready (rs := [4]) (by kernel_rfl) (by simp) ?_
    refine AllReadyH.cons (o := ⟨some 18, .build 70 #[(0, .tmp 14), (4, .tmp 15), (5, .tmp 17)], 70, "ref.go:29", #[⟨0, .data⟩, ⟨1, .data⟩, ⟨3, .data⟩], none⟩) rfl (fun K hK => ?_) AllReadyH.nil
    refine at_buildM rfl (.tmp 14) (.tmp 15) (.tmp 17) (by with_reducible rfl) p G0 dk rfl rfl rfl ?_
    refine hK.out _ _ (hHeld) (fun hHeld => ?_)
    clear hK K
    try simp only [Act.put, List.setIfInBounds_toArray, List.set_cons_zero, List.set_cons_succ]
    refine wpAnyH_ready (rs := [5]) (by kernel_rfl) (by simp) ?_
    refine AllReadyH.cons (o := ⟨some 19, .box 70 (.tmp 18), 43, "ref.go:29", #[⟨4, .data⟩], none⟩) rfl (fun K hK => ?_) AllReadyH.nil
    have gA := grow x2 (.cells (cellsM ⟨Tm.T0, Ua.U0, Dm.D0, G0, dk⟩ p) 70)
    have RB := Box.new x2 (cellsM ⟨Tm.T0, Ua.U0, Dm.D0, G0, dk⟩ p) 70
    have hz0 : w1.heap.size ≤ x2.heap.size := hHeld.size
    go_simp
    refine hK.out _ _ (onto hHeld (Nat.le_refl _) gA) (fun hHeld => ?_)
    clear hK K
    try simp only [Act.put, List.setIfInBounds_toArray, List.set_cons_zero, List.set_cons_succ]
    clear gA
    generalize x2.alloc (.cells (cellsM ⟨Tm.T0, Ua.U0, Dm.D0, G0, dk⟩ p) 70) = x5 at *
    generalize x2.heap.size = LB at *
    refine wpAnyH_ready (rs := [6]) (by kernel_rfl) (by simp) ?_
    refine AllReadyH.cons (o := ⟨some 2, .assign (.tmp 19), 43, "ref.go:29", #[⟨5, .data⟩, ⟨1, .chain⟩, ⟨0, .phase⟩, ⟨1, .phase⟩, ⟨2, .phase⟩, ⟨3, .phase⟩, ⟨4, .phase⟩, ⟨5, .phase⟩], none⟩) rfl (fun K hK => ?_) AllReadyH.nil
    go_simp
    refine hK.out _ _ (hHeld) (fun hHeld => ?_)
    clear hK K
    try simp only [Act.put, List.setIfInBounds_toArray, List.set_cons_zero, List.set_cons_succ]
    refine wpAnyH_ready (rs := [7]) (by kernel_rfl) (by simp) ?_
    refine AllReadyH.cons (o := ⟨some 3, .assign (.const (.int .i64 0)), 49, "ref.go:29", #[⟨6, .chain⟩, ⟨0, .phase⟩, ⟨1, .phase⟩, ⟨2, .phase⟩, ⟨3, .phase⟩, ⟨4, .phase⟩, ⟨5, .phase⟩, ⟨6, .phase⟩], none⟩) rfl (fun K hK => ?_) AllReadyH.nil
    go_simp
    refine hK.out _ _ (hHeld) (fun hHeld => ?_)
    clear hK K
    try simp only [Act.put, List.setIfInBounds_toArray, List.set_cons_zero, List.set_cons_succ]
    refine wpAnyH_done (by kernel_rfl) ?_ _
    have M2 := hide (M.out.on hHeld)
    have b2 := hide (onto b1.out (Nat.le_refl _) hHeld)
    have hz := b1.out.size
    replace RB := hide RB
    go_wp2
    go_ret2
    exact ⟨LB, p, gb, gd, rfl, ⟨RB.out.1, RB.out.2.1, RB.out.2.2, M2.out, hW.out, by have := M.out.zp; omega, by have := M.out.zb; omega, by have := M.out.zd; omega⟩, by omega, hp, hgb, hgd, b2.out⟩
  refine AllReadyH.cons (o := ⟨some 16, .makeSlice 56 (.const (.int .i64 1024)) (.const (.int .i64 1024)), 56, "ref.go:29", #[], none⟩) rfl (fun K hK => ?_) AllReadyH.nil
  have gM := grow xd (.cells (madeCells #[.int .u8 0] 1024) 5)
  have RW := made_row xd 1024
  have hmk := make_row xd 1024 (by omega)
  rw [show ((1024 : Nat) : Int) = 1024 from rfl] at hmk
  go_simp
  refine hK.out _ _ (onto hHeld (Nat.le_refl _) gM) (fun hHeld => ?_)
  clear hK K
  try simp only [Act.put, List.setIfInBounds_toArray, List.set_cons_zero, List.set_cons_succ]
  clear gM hmk
  generalize xd.alloc (.cells (madeCells #[.int .u8 0] 1024) 5) = x1 at *
  generalize xd.heap.size = LS at *
  refine wpAnyH_ready (rs := [1, 3]) (by kernel_rfl) (by simp) ?_
  refine AllReadyH.cons (o := ⟨some 15, .call { callee := .value (.func 115), args := #[.const (.int .u32 0)], argTypes := #[22] }, 68, "ref.go:29", #[], none⟩) rfl (fun K hK => ?_) ?_
  · go_simp
    refine (cs.out _).mono ?_
    rintro e x2 ⟨rfl, hn⟩
    replace RW := RW.keep (hn.block LS RW.lt)
    go_wp2_with fail
    refine hK.out _ _ (onto hHeld (Nat.le_refl _) hn) (fun hHeld => ?_)
    clear hK K
    try simp only [Act.put, List.setIfInBounds_toArray, List.set_cons_zero, List.set_cons_succ]
    clear hn
    refine wpAnyH_ready (rs := [3]) (by kernel_rfl) (by simp) ?_
    refine AllReadyH.cons (o := ⟨some 17, .convert 56 9 (.tmp 16), 9, "ref.go:29", #[⟨2, .data⟩], none⟩) rfl (fun K hK => ?_) AllReadyH.nil
    have hcv := conv_back RW 1024
    rw [← hdk.out] at hcv
    go_simp
    refine hK.out _ _ (hHeld) (fun hHeld => ?_)
    clear hK K
    try simp only [Act.put, List.setIfInBounds_toArray, List.set_cons_zero, List.set_cons_succ]
    clear hcv RW
    refine wpAnyH_ready (rs := [4]) (by kernel_rfl) (by simp) ?_
    refine AllReadyH.cons (o := ⟨some 18, .build 70 #[(0, .tmp 14), (4, .tmp 15), (5, .tmp 17)], 70, "ref.go:29", #[⟨0, .data⟩, ⟨1, .data⟩, ⟨3, .data⟩], none⟩) rfl (fun K hK => ?_) AllReadyH.nil
    refine at_buildM rfl (.tmp 14) (.tmp 15) (.tmp 17) (by with_reducible rfl) p G0 dk rfl rfl rfl ?_
    refine hK.out _ _ (hHeld) (fun hHeld => ?_)
    clear hK K
    try simp only [Act.put, List.setIfInBounds_toArray, List.set_cons_zero, List.set_cons_succ]
    refine wpAnyH_ready (rs := [5]) (by kernel_rfl) (by simp) ?_
    refine AllReadyH.cons (o := ⟨some 19, .box 70 (.tmp 18), 43, "ref.go:29", #[⟨4, .data⟩], none⟩) rfl (fun K hK => ?_) AllReadyH.nil
    have gA := grow x2 (.cells (cellsM ⟨Tm.T0, Ua.U0, Dm.D0, G0, dk⟩ p) 70)
    have RB := Box.new x2 (cellsM ⟨Tm.T0, Ua.U0, Dm.D0, G0, dk⟩ p) 70
    have hz0 : w1.heap.size ≤ x2.heap.size := hHeld.size
    go_simp
    refine hK.out _ _ (onto hHeld (Nat.le_refl _) gA) (fun hHeld => ?_)
    clear hK K
    try simp only [Act.put, List.setIfInBounds_toArray, List.set_cons_zero, List.set_cons_succ]
    clear gA
    generalize x2.alloc (.cells (cellsM ⟨Tm.T0, Ua.U0, Dm.D0, G0, dk⟩ p) 70) = x5 at *
    generalize x2.heap.size = LB at *
    refine wpAnyH_ready (rs := [6]) (by kernel_rfl) (by simp) ?_
    refine AllReadyH.cons (o := ⟨some 2, .assign (.tmp 19), 43, "ref.go:29", #[⟨5, .data⟩, ⟨1, .chain⟩, ⟨0, .phase⟩, ⟨1, .phase⟩, ⟨2, .phase⟩, ⟨3, .phase⟩, ⟨4, .phase⟩, ⟨5, .phase⟩], none⟩) rfl (fun K hK => ?_) AllReadyH.nil
    go_simp
    refine hK.out _ _ (hHeld) (fun hHeld => ?_)
    clear hK K
    try simp only [Act.put, List.setIfInBounds_toArray, List.set_cons_zero, List.set_cons_succ]
    refine wpAnyH_ready (rs := [7]) (by kernel_rfl) (by simp) ?_
    refine AllReadyH.cons (o := ⟨some 3, .assign (.const (.int .i64 0)), 49, "ref.go:29", #[⟨6, .chain⟩, ⟨0, .phase⟩, ⟨1, .phase⟩, ⟨2, .phase⟩, ⟨3, .phase⟩, ⟨4, .phase⟩, ⟨5, .phase⟩, ⟨6, .phase⟩], none⟩) rfl (fun K hK => ?_) AllReadyH.nil
    go_simp
    refine hK.out _ _ (hHeld) (fun hHeld => ?_)
    clear hK K
    try simp only [Act.put, List.setIfInBounds_toArray, List.set_cons_zero, List.set_cons_succ]
    refine wpAnyH_done (by kernel_rfl) ?_ _
    have M2 := hide (M.out.on hHeld)
    have b2 := hide (onto b1.out (Nat.le_refl _) hHeld)
    have hz := b1.out.size
    replace RB := hide RB
    go_wp2
    go_ret2
    exact ⟨LB, p, gb, gd, rfl, ⟨RB.out.1, RB.out.2.1, RB.out.2.2, M2.out, hW.out, by have := M.out.zp; omega, by have := M.out.zb; omega, by have := M.out.zd; omega⟩, by omega, hp, hgb, hgd, b2.out⟩
  refine AllReadyH.cons (o := ⟨some 17, .convert 56 9 (.tmp 16), 9, "ref.go:29", #[⟨2, .data⟩], none⟩) rfl (fun K hK => ?_) AllReadyH.nil
  have hcv := conv_back RW 1024
  rw [← hdk.out] at hcv
  go_simp
  refine hK.out _ _ (hHeld) (fun hHeld => ?_)
  clear hK K
  try simp only [Act.put, List.setIfInBounds_toArray, List.set_cons_zero, List.set_cons_succ]
  clear hcv RW
  refine wpAnyH_ready (rs := [1]) (by kernel_rfl) (by simp) ?_
  refine AllReadyH.cons (o := ⟨some 15, .call { callee := .value (.func 115), args := #[.const (.int .u32 0)], argTypes := #[22] }, 68, "ref.go:29", #[], none⟩) rfl (fun K hK => ?_) AllReadyH.nil
  go_simp
  refine (cs.out _).mono ?_
  rintro e x3 ⟨rfl, hn⟩
  go_wp2_with fail
  refine hK.out _ _ (onto hHeld (Nat.le_refl _) hn) (fun hHeld => ?_)
  clear hK K
  try simp only [Act.put, List.setIfInBounds_toArray, List.set_cons_zero, List.set_cons_succ]
  clear hn
  refine wpAnyH_ready (rs := [4]) (by kernel_rfl) (by simp) ?_
  refine AllReadyH.cons (o := ⟨some 18, .build 70 #[(0, .tmp 14), (4, .tmp 15), (5, .tmp 17)], 70, "ref.go:29", #[⟨0, .data⟩, ⟨1, .data⟩, ⟨3, .data⟩], none⟩) rfl (fun K hK => ?_) AllReadyH.nil
  refine at_buildM rfl (.tmp 14) (.tmp 15) (.tmp 17) (by with_reducible rfl) p G0 dk rfl rfl rfl ?_
  refine hK.out _ _ (hHeld) (fun hHeld => ?_)
  clear hK K
  try simp only [Act.put, List.setIfInBounds_toArray, List.set_cons_zero, List.set_cons_succ]
  refine wpAnyH_ready (rs := [5]) (by kernel_rfl) (by simp) ?_
  refine AllReadyH.cons (o := ⟨some 19, .box 70 (.tmp 18), 43, "ref.go:29", #[⟨4, .data⟩], none⟩) rfl (fun K hK => ?_) AllReadyH.nil
  have gA := grow x3 (.cells (cellsM ⟨Tm.T0, Ua.U0, Dm.D0, G0, dk⟩ p) 70)
  have RB := Box.new x3 (cellsM ⟨Tm.T0, Ua.U0, Dm.D0, G0, dk⟩ p) 70
  have hz0 : w1.heap.size ≤ x3.heap.size := hHeld.size
  go_simp
  refine hK.out _ _ (onto hHeld (Nat.le_refl _) gA) (fun hHeld => ?_)
  clear hK K
  try simp only [Act.put, List.setIfInBounds_toArray, List.set_cons_zero, List.set_cons_succ]
  clear gA
  generalize x3.alloc (.cells (cellsM ⟨Tm.T0, Ua.U0, Dm.D0, G0, dk⟩ p) 70) = x5 at *
  generalize x3.heap.size = LB at *
  refine wpAnyH_ready (rs := [6]) (by kernel_rfl) (by simp) ?_
  refine AllReadyH.cons (o := ⟨some 2, .assign (.tmp 19), 43, "ref.go:29", #[⟨5, .data⟩, ⟨1, .chain⟩, ⟨0, .phase⟩, ⟨1, .phase⟩, ⟨2, .phase⟩, ⟨3, .phase⟩, ⟨4, .phase⟩, ⟨5, .phase⟩], none⟩) rfl (fun K hK => ?_) AllReadyH.nil
  go_simp
  refine hK.out _ _ (hHeld) (fun hHeld => ?_)
  clear hK K
  try simp only [Act.put, List.setIfInBounds_toArray, List.set_cons_zero, List.set_cons_succ]
  refine wpAnyH_ready (rs := [7]) (by kernel_rfl) (by simp) ?_
  refine AllReadyH.cons (o := ⟨some 3, .assign (.const (.int .i64 0)), 49, "ref.go:29", #[⟨6, .chain⟩, ⟨0, .phase⟩, ⟨1, .phase⟩, ⟨2, .phase⟩, ⟨3, .phase⟩, ⟨4, .phase⟩, ⟨5, .phase⟩, ⟨6, .phase⟩], none⟩) rfl (fun K hK => ?_) AllReadyH.nil
  go_simp
  refine hK.out _ _ (hHeld) (fun hHeld => ?_)
  clear hK K
  try simp only [Act.put, List.setIfInBounds_toArray, List.set_cons_zero, List.set_cons_succ]
  refine wpAnyH_done (by kernel_rfl) ?_ _
  have M2 := hide (M.out.on hHeld)
  have b2 := hide (onto b1.out (Nat.le_refl _) hHeld)
  have hz := b1.out.size
  replace RB := hide RB
  go_wp2
  go_ret2
  exact ⟨LB, p, gb, gd, rfl, ⟨RB.out.1, RB.out.2.1, RB.out.2.2, M2.out, hW.out, by have := M.out.zp; omega, by have := M.out.zb; omega, by have := M.out.zd; omega⟩, by omega, hp, hgb, hgd, b2.out⟩

end Go.Proofs.YthjcijlabpinkaaGreatDoor
