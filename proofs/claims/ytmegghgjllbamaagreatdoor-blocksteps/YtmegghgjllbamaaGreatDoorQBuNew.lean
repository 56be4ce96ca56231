/- Layer 12: the contract of New, the program's. -/
import Derived.Test.YtmegghgjllbamaaGreatDoorQBuAll
import Derived.Test.YtmegghgjllbamaaGreatDoorQDmThree
import Derived.Deep.RegionHeld3
import Derived.Deep.CutRange
namespace Go.Proofs.YtmegghgjllbamaaGreatDoor
open Go.RowKit
set_option linter.unusedVariables false
set_option maxRecDepth 100000
set_option linter.unusedSimpArgs false

/-- A disk of noughts. -/
def disk0 : ByteArray := textOf 1024 (fun _ => 0)

theorem disk0_size : disk0.size = 1024 := textOf_size _ _

/-- The devices of a new bus. -/
def V0 : Dv := ⟨Tm.T0, Ua.U0, Dm.D0, G0, disk0⟩

theorem V0_w : Wv V0 := ⟨⟨⟨by decide, by decide⟩, ⟨by decide, by decide⟩⟩, ⟨by decide, by decide⟩, Dm.D0_w, G0_w, disk0_size⟩

theorem busNew_bad (n : Int) (h : ¬ (4 ≤ n ∧ n ≤ 64)) (w : World) :
    Calls Tryz.prog 4 #[.int .i64 n] w fun e w' => e = .returned (.tuple #[.pointer none, .int .i64 60]) ∧ w' = w := by
  have c := hide (new_bad n h w)
  clear h
  go_enter Tryz.func4, Tryz.ntmps4
  go_wp2_with fail
  refine c.out.mono ?_
  rintro e w1 ⟨rfl, rfl⟩
  go_wp2
  go_ret2
  exact ⟨rfl, rfl⟩

theorem built2 (G : Rg) (A : ByteArray) : Tryz.prog.built 61 [(3, .agg (cellsG G)), (4, .string A)] = some (cellsV ⟨Tm.T0, Ua.U0, Dm.D0, G, A⟩) := by kernel_rfl

theorem at_build2 {w : World} {ops : Array Oper} {o : Oper} {a : Act} {K : Act → World → Prop} {Q : Exit → Act → World → Prop} {E : Prop} (hg : o.guard = none) (p0 p1 : Operand)
    (ho : o.op = .build 61 #[(3, p0), (4, p1)]) (G : Rg) (A : ByteArray) (h0 : a.eval p0 = .agg (cellsG G)) (h1 : a.eval p1 = .string A)
    (hK : K (a.put o.dst (.agg (cellsV ⟨Tm.T0, Ua.U0, Dm.D0, G, A⟩))) w) : if Region.wanted o (yielded ops a.tmps) = true then Oper.wp Tryz.prog o a w K Q else E := by
  have hw : Region.wanted o (yielded ops a.tmps) = true := by simp [Region.wanted, hg]
  have e : ((#[(3, p0), (4, p1)] : Array (Nat × Operand)).map fun (i, x) => (i, a.eval x)).toList = [(3, a.eval p0), (4, a.eval p1)] := by simp
  rw [if_pos hw]
  refine wp_build 61 _ ho ?_ ?_
  · rw [e, h0, h1, built2]; rfl
  · rw [e, h0, h1, built2]; exact hK

theorem builtB (v : Dv) (p : Nat) : Tryz.prog.built 63 [(0, .agg (cellsV v)), (1, .pointer (some ⟨p, 0, none⟩))] = some (cellsB v p) := by kernel_rfl

theorem wpList_buildB {ops : Array Oper} {rest : List Oper} {o : Oper} {a : Act} {w : World} {Q : Exit → Act → World → Prop} (hg : o.guard = none) (p0 p1 : Operand)
    (ho : o.op = .build 63 #[(0, p0), (1, p1)]) (v : Dv) (p : Nat) (h0 : a.eval p0 = .agg (cellsV v)) (h1 : a.eval p1 = .pointer (some ⟨p, 0, none⟩))
    (h : wpList Tryz.prog ops Q rest (a.put o.dst (.agg (cellsB v p))) w) : wpList Tryz.prog ops Q (o :: rest) a w := by
  have e : ((#[(0, p0), (1, p1)] : Array (Nat × Operand)).map fun (i, x) => (i, a.eval x)).toList = [(0, a.eval p0), (1, a.eval p1)] := by simp
  refine wpList_build hg 63 _ ho ?_ ?_
  · rw [e, h0, h1, builtB]; rfl
  · rw [e, h0, h1, builtB]; exact h

/-- A bus that is just made. -/
theorem Bus.made {w : World} {p g n c : Nat} {v : Dv} {B : Nat → Nat} {D : Nat → Bool} (M : Mem w p g n c B D) (hv : Wv v) (t : TypeId) : Bus (w.alloc (.cells (cellsB v p) t)) w.heap.size p g n c v B D :=
  ⟨isRow_new _ _ _, rowAt_new _ _ _, by simp, M.on (grow _ _), hv, by have := M.zp; omega, by have := M.zg; omega⟩

set_option maxHeartbeats 4000000 in
set_option maxRecDepth 100000 in
theorem busNew_any (n : Nat) (h4 : 4 ≤ n) (h64 : n ≤ 64) (w : World) :
    Calls Tryz.prog 4 #[.int .i64 (n : Int)] w fun e w' => ∃ b p g, e = .returned (.tuple #[.pointer (some ⟨b, 0, none⟩), .int .i64 0]) ∧ Bus w' b p g n n V0 (fun _ => 0) (fun _ => false) ∧ w.heap.size ≤ b ∧ w.heap.size ≤ p ∧ w.heap.size ≤ g ∧ Below w.heap.size w w' := by
  obtain ⟨t1, t2, t3, t4, t5, t6, t7, t8, t9⟩ := rowRules
  obtain ⟨-, -, -, -, z5, -, -, -, -, z10⟩ := sizeRules
  obtain ⟨-, -, -, -, c5, -, -, -, -, o5, -, -, -, -, n5⟩ := cellSizes
  obtain ⟨-, -, -, -, -, -, -, -, -, -, -, -, x1', x2', hpl⟩ := boxRules
  have c := hide (new_any n h4 h64 w)
  have cs := hide seed_0
  obtain ⟨dk, hdk⟩ : ∃ dk, Hid (dk = textOf 1024 (fun _ => 0)) := ⟨_, hide rfl⟩
  have hV : Hid (V0 = ⟨Tm.T0, Ua.U0, Dm.D0, G0, dk⟩) := hide (by rw [hdk.out]; rfl)
  rw [hV.out]
  have hW : Hid (Wv ⟨Tm.T0, Ua.U0, Dm.D0, G0, dk⟩) := hide (by rw [← hV.out]; exact V0_w)
  go_enter Tryz.func4, Tryz.ntmps4
  go_wp2_with fail
  refine c.out.mono ?_
  rintro e w1 ⟨p, g, rfl, M, hp, hg, b1⟩
  replace M := hide M
  replace b1 := hide b1
  clear c
  go_wp2_with fail
  go_cut [6] from 15 (fun s6 x => ∃ LB, s6 = .pointer (some ⟨LB, 0, none⟩) ∧ Hid (Box x LB (cellsV ⟨Tm.T0, Ua.U0, Dm.D0, G0, dk⟩) ∧ Below w1.heap.size w1 x))
  case first =>
    clear t1 t2 t3 t4 t5 t6 t7 t8 t9 z5
    refine wp_region_held_drew (S := fun x => Below w1.heap.size w1 x) (by kernel_rfl) (Below.refl _ w1).drew (fun hHeld => ?_)
    generalize w1.drew = xd at *
    refine wpAnyH_ready (rs := [0, 1, 4]) (by kernel_rfl) (by simp) ?_
    refine AllReadyH.cons (o := { dst := some 15, op := Op.call { callee := Callee.value (Operand.func 13), args := #[Operand.const (Value.int IntKind.u32 0)], argTypes := #[23] }, type := 51, pos := "bus.go:63", after := #[], guard := none }) rfl (fun K hK => ?_) ?_
    · go_simp
      refine (cs.out _).mono ?_
      rintro e x1 ⟨rfl, hn⟩
      go_wp2_with fail
      refine hK.out _ _ (onto hHeld (Nat.le_refl _) hn) (fun hHeld => ?_)
      clear hK K
      try simp only [Act.put, List.setIfInBounds_toArray, List.set_cons_zero, List.set_cons_succ]
      clear hn
      refine wpAnyH_ready (rs := [1, 4]) (by kernel_rfl) (by simp) ?_
      refine AllReadyH.cons (o := { dst := some 16, op := Op.makeSlice 53 (Operand.const (Value.int IntKind.i64 1024)) (Operand.const (Value.int IntKind.i64 1024)), type := 53, pos := "bus.go:63", after := #[], guard := none }) rfl (fun K hK => ?_) ?_
      · have gM := grow x1 (.cells (madeCells #[.int .u8 0] 1024) 5)
        have RW := made_row x1 1024
        have hmk := make_row x1 1024 (by omega)
        rw [show ((1024 : Nat) : Int) = 1024 from rfl] at hmk
        go_simp
        refine hK.out _ _ (onto hHeld (Nat.le_refl _) gM) (fun hHeld => ?_)
        clear hK K
        try simp only [Act.put, List.setIfInBounds_toArray, List.set_cons_zero, List.set_cons_succ]
        clear gM hmk
        generalize x1.alloc (.cells (madeCells #[.int .u8 0] 1024) 5) = x2 at *
        generalize x1.heap.size = LS at *
        refine wpAnyH_ready (rs := [2, 4]) (by kernel_rfl) (by simp) ?_
        refine AllReadyH.cons (o := { dst := some 17, op := Op.convert 53 9 (Operand.tmp 16), type := 9, pos := "bus.go:63", after := #[{ on := 1, ground := Ground.data }], guard := none }) rfl (fun K hK => ?_) ?_
        · have hcv := conv_back RW 1024
          rw [← hdk.out] at hcv
          go_simp
          refine hK.out _ _ (hHeld) (fun hHeld => ?_)
          clear hK K
          try simp only [Act.put, List.setIfInBounds_toArray, List.set_cons_zero, List.set_cons_succ]
          clear hcv RW
          refine wpAnyH_ready (rs := [3, 4]) (by kernel_rfl) (by simp) ?_
          refine AllReadyH.cons (o := { dst := some 18, op := Op.build 61 #[(3, Operand.tmp 15), (4, Operand.tmp 17)], type := 61, pos := "bus.go:63", after := #[{ on := 0, ground := Ground.data }, { on := 2, ground := Ground.data }], guard := none }) rfl (fun K hK => ?_) ?_
          · refine at_build2 rfl (.tmp 15) (.tmp 17) (by with_reducible rfl) G0 dk rfl rfl ?_
            refine hK.out _ _ (hHeld) (fun hHeld => ?_)
            clear hK K
            try simp only [Act.put, List.setIfInBounds_toArray, List.set_cons_zero, List.set_cons_succ]
            refine wpAnyH_ready (rs := [4]) (by kernel_rfl) (by simp) ?_
            refine AllReadyH.cons (o := { dst := some 6, op := Op.alloc 61, type := 0, pos := "bus.go:63", after := #[], guard := none }) rfl (fun K hK => ?_) AllReadyH.nil
            have gA := grow x2 (.cells (cellsV VZ) 61)
            have VB := Box.new x2 (cellsV VZ) 61
            have hLB : w1.heap.size ≤ x2.heap.size := hHeld.size
            go_simp
            refine hK.out _ _ (onto hHeld (Nat.le_refl _) gA) (fun hHeld => ?_)
            clear hK K
            try simp only [Act.put, List.setIfInBounds_toArray, List.set_cons_zero, List.set_cons_succ]
            clear gA
            generalize x2.alloc (.cells (cellsV VZ) 61) = x5 at *
            generalize x2.heap.size = LB at *
            refine wpAnyH_ready (rs := [5]) (by kernel_rfl) (by simp) ?_
            refine AllReadyH.cons (o := { dst := none, op := Op.store 61 (Operand.tmp 6) (Operand.tmp 18), type := 0, pos := "bus.go:63", after := #[{ on := 4, ground := Ground.data }, { on := 3, ground := Ground.data }, { on := 0, ground := Ground.chain }, { on := 0, ground := Ground.phase }, { on := 1, ground := Ground.phase }, { on := 2, ground := Ground.phase }, { on := 3, ground := Ground.phase }, { on := 4, ground := Ground.phase }], guard := none }) rfl (fun K hK => ?_) AllReadyH.nil
            have hst := store_part x5 LB 0 (cellsV ⟨Tm.T0, Ua.U0, Dm.D0, G0, dk⟩) VB.1 (by rw [VB.2.1]; rfl) rfl
            rw [VB.2.1, hpl] at hst
            have RC := VB.set (cellsV ⟨Tm.T0, Ua.U0, Dm.D0, G0, dk⟩)
            go_simp
            refine hK.out _ _ (below_setRow hHeld hLB _) (fun hHeld => ?_)
            clear hK K
            try simp only [Act.put, List.setIfInBounds_toArray, List.set_cons_zero, List.set_cons_succ]
            clear hst VB
            generalize x5.setRow LB (cellsV ⟨Tm.T0, Ua.U0, Dm.D0, G0, dk⟩) = x6 at *
            refine wpAnyH_done (by kernel_rfl) ?_ _
            go_wp2_with fail
            go_meet
            case rel => exact ⟨LB, rfl, hide ⟨RC, hHeld⟩⟩
          refine AllReadyH.cons (o := { dst := some 6, op := Op.alloc 61, type := 0, pos := "bus.go:63", after := #[], guard := none }) rfl (fun K hK => ?_) AllReadyH.nil
          have gA := grow x2 (.cells (cellsV VZ) 61)
          have VB := Box.new x2 (cellsV VZ) 61
          have hLB : w1.heap.size ≤ x2.heap.size := hHeld.size
          go_simp
          refine hK.out _ _ (onto hHeld (Nat.le_refl _) gA) (fun hHeld => ?_)
          clear hK K
          try simp only [Act.put, List.setIfInBounds_toArray, List.set_cons_zero, List.set_cons_succ]
          clear gA
          generalize x2.alloc (.cells (cellsV VZ) 61) = x4 at *
          generalize x2.heap.size = LB at *
          refine wpAnyH_ready (rs := [3]) (by kernel_rfl) (by simp) ?_
          refine AllReadyH.cons (o := { dst := some 18, op := Op.build 61 #[(3, Operand.tmp 15), (4, Operand.tmp 17)], type := 61, pos := "bus.go:63", after := #[{ on := 0, ground := Ground.data }, { on := 2, ground := Ground.data }], guard := none }) rfl (fun K hK => ?_) AllReadyH.nil
          refine at_build2 rfl (.tmp 15) (.tmp 17) (by with_reducible rfl) G0 dk rfl rfl ?_
          refine hK.out _ _ (hHeld) (fun hHeld => ?_)
          clear hK K
          try simp only [Act.put, List.setIfInBounds_toArray, List.set_cons_zero, List.set_cons_succ]
          refine wpAnyH_ready (rs := [5]) (by kernel_rfl) (by simp) ?_
          refine AllReadyH.cons (o := { dst := none, op := Op.store 61 (Operand.tmp 6) (Operand.tmp 18), type := 0, pos := "bus.go:63", after := #[{ on := 4, ground := Ground.data }, { on := 3, ground := Ground.data }, { on := 0, ground := Ground.chain }, { on := 0, ground := Ground.phase }, { on := 1, ground := Ground.phase }, { on := 2, ground := Ground.phase }, { on := 3, ground := Ground.phase }, { on := 4, ground := Ground.phase }], guard := none }) rfl (fun K hK => ?_) AllReadyH.nil
          have hst := store_part x4 LB 0 (cellsV ⟨Tm.T0, Ua.U0, Dm.D0, G0, dk⟩) VB.1 (by rw [VB.2.1]; rfl) rfl
          rw [VB.2.1, hpl] at hst
          have RC := VB.set (cellsV ⟨Tm.T0, Ua.U0, Dm.D0, G0, dk⟩)
          go_simp
          refine hK.out _ _ (below_setRow hHeld hLB _) (fun hHeld => ?_)
          clear hK K
          try simp only [Act.put, List.setIfInBounds_toArray, List.set_cons_zero, List.set_cons_succ]
          clear hst VB
          generalize x4.setRow LB (cellsV ⟨Tm.T0, Ua.U0, Dm.D0, G0, dk⟩) = x6 at *
          refine wpAnyH_done (by kernel_rfl) ?_ _
          go_wp2_with fail
          go_meet
          case rel => exact ⟨LB, rfl, hide ⟨RC, hHeld⟩⟩
        refine AllReadyH.cons (o := { dst := some 6, op := Op.alloc 61, type := 0, pos := "bus.go:63", after := #[], guard := none }) rfl (fun K hK => ?_) AllReadyH.nil
        have gA := grow x2 (.cells (cellsV VZ) 61)
        have VB := Box.new x2 (cellsV VZ) 61
        have hLB : w1.heap.size ≤ x2.heap.size := hHeld.size
        replace RW := RW.keep (gA.block LS RW.lt)
        go_simp
        refine hK.out _ _ (onto hHeld (Nat.le_refl _) gA) (fun hHeld => ?_)
        clear hK K
        try simp only [Act.put, List.setIfInBounds_toArray, List.set_cons_zero, List.set_cons_succ]
        clear gA
        generalize x2.alloc (.cells (cellsV VZ) 61) = x3 at *
        generalize x2.heap.size = LB at *
        refine wpAnyH_ready (rs := [2]) (by kernel_rfl) (by simp) ?_
        refine AllReadyH.cons (o := { dst := some 17, op := Op.convert 53 9 (Operand.tmp 16), type := 9, pos := "bus.go:63", after := #[{ on := 1, ground := Ground.data }], guard := none }) rfl (fun K hK => ?_) AllReadyH.nil
        have hcv := conv_back RW 1024
        rw [← hdk.out] at hcv
        go_simp
        refine hK.out _ _ (hHeld) (fun hHeld => ?_)
        clear hK K
        try simp only [Act.put, List.setIfInBounds_toArray, List.set_cons_zero, List.set_cons_succ]
        clear hcv RW
        refine wpAnyH_ready (rs := [3]) (by kernel_rfl) (by simp) ?_
        refine AllReadyH.cons (o := { dst := some 18, op := Op.build 61 #[(3, Operand.tmp 15), (4, Operand.tmp 17)], type := 61, pos := "bus.go:63", after := #[{ on := 0, ground := Ground.data }, { on := 2, ground := Ground.data }], guard := none }) rfl (fun K hK => ?_) AllReadyH.nil
        refine at_build2 rfl (.tmp 15) (.tmp 17) (by with_reducible rfl) G0 dk rfl rfl ?_
        refine hK.out _ _ (hHeld) (fun hHeld => ?_)
        clear hK K
        try simp only [Act.put, List.setIfInBounds_toArray, List.set_cons_zero, List.set_cons_succ]
        refine wpAnyH_ready (rs := [5]) (by kernel_rfl) (by simp) ?_
        refine AllReadyH.cons (o := { dst := none, op := Op.store 61 (Operand.tmp 6) (Operand.tmp 18), type := 0, pos := "bus.go:63", after := #[{ on := 4, ground := Ground.data }, { on := 3, ground := Ground.data }, { on := 0, ground := Ground.chain }, { on := 0, ground := Ground.phase }, { on := 1, ground := Ground.phase }, { on := 2, ground := Ground.phase }, { on := 3, ground := Ground.phase }, { on := 4, ground := Ground.phase }], guard := none }) rfl (fun K hK => ?_) AllReadyH.nil
        have hst := store_part x3 LB 0 (cellsV ⟨Tm.T0, Ua.U0, Dm.D0, G0, dk⟩) VB.1 (by rw [VB.2.1]; rfl) rfl
        rw [VB.2.1, hpl] at hst
        have RC := VB.set (cellsV ⟨Tm.T0, Ua.U0, Dm.D0, G0, dk⟩)
        go_simp
        refine hK.out _ _ (below_setRow hHeld hLB _) (fun hHeld => ?_)
        clear hK K
        try simp only [Act.put, List.setIfInBounds_toArray, List.set_cons_zero, List.set_cons_succ]
        clear hst VB
        generalize x3.setRow LB (cellsV ⟨Tm.T0, Ua.U0, Dm.D0, G0, dk⟩) = x6 at *
        refine wpAnyH_done (by kernel_rfl) ?_ _
        go_wp2_with fail
        go_meet
        case rel => exact ⟨LB, rfl, hide ⟨RC, hHeld⟩⟩
      refine AllReadyH.cons (o := { dst := some 6, op := Op.alloc 61, type := 0, pos := "bus.go:63", after := #[], guard := none }) rfl (fun K hK => ?_) AllReadyH.nil
      have gA := grow x1 (.cells (cellsV VZ) 61)
      have VB := Box.new x1 (cellsV VZ) 61
      have hLB : w1.heap.size ≤ x1.heap.size := hHeld.size
      go_simp
      refine hK.out _ _ (onto hHeld (Nat.le_refl _) gA) (fun hHeld => ?_)
      clear hK K
      try simp only [Act.put, List.setIfInBounds_toArray, List.set_cons_zero, List.set_cons_succ]
      clear gA
      generalize x1.alloc (.cells (cellsV VZ) 61) = x2 at *
      generalize x1.heap.size = LB at *
      refine wpAnyH_ready (rs := [1]) (by kernel_rfl) (by simp) ?_
      refine AllReadyH.cons (o := { dst := some 16, op := Op.makeSlice 53 (Operand.const (Value.int IntKind.i64 1024)) (Operand.const (Value.int IntKind.i64 1024)), type := 53, pos := "bus.go:63", after := #[], guard := none }) rfl (fun K hK => ?_) AllReadyH.nil
      have gM := grow x2 (.cells (madeCells #[.int .u8 0] 1024) 5)
      have RW := made_row x2 1024
      have hmk := make_row x2 1024 (by omega)
      rw [show ((1024 : Nat) : Int) = 1024 from rfl] at hmk
      replace VB := VB.on gM
      go_simp
      refine hK.out _ _ (onto hHeld (Nat.le_refl _) gM) (fun hHeld => ?_)
      clear hK K
      try simp only [Act.put, List.setIfInBounds_toArray, List.set_cons_zero, List.set_cons_succ]
      clear gM hmk
      generalize x2.alloc (.cells (madeCells #[.int .u8 0] 1024) 5) = x3 at *
      generalize x2.heap.size = LS at *
      refine wpAnyH_ready (rs := [2]) (by kernel_rfl) (by simp) ?_
      refine AllReadyH.cons (o := { dst := some 17, op := Op.convert 53 9 (Operand.tmp 16), type := 9, pos := "bus.go:63", after := #[{ on := 1, ground := Ground.data }], guard := none }) rfl (fun K hK => ?_) AllReadyH.nil
      have hcv := conv_back RW 1024
      rw [← hdk.out] at hcv
      go_simp
      refine hK.out _ _ (hHeld) (fun hHeld => ?_)
      clear hK K
      try simp only [Act.put, List.setIfInBounds_toArray, List.set_cons_zero, List.set_cons_succ]
      clear hcv RW
      refine wpAnyH_ready (rs := [3]) (by kernel_rfl) (by simp) ?_
      refine AllReadyH.cons (o := { dst := some 18, op := Op.build 61 #[(3, Operand.tmp 15), (4, Operand.tmp 17)], type := 61, pos := "bus.go:63", after := #[{ on := 0, ground := Ground.data }, { on := 2, ground := Ground.data }], guard := none }) rfl (fun K hK => ?_) AllReadyH.nil
      refine at_build2 rfl (.tmp 15) (.tmp 17) (by with_reducible rfl) G0 dk rfl rfl ?_
      refine hK.out _ _ (hHeld) (fun hHeld => ?_)
      clear hK K
      try simp only [Act.put, List.setIfInBounds_toArray, List.set_cons_zero, List.set_cons_succ]
      refine wpAnyH_ready (rs := [5]) (by kernel_rfl) (by simp) ?_
      refine AllReadyH.cons (o := { dst := none, op := Op.store 61 (Operand.tmp 6) (Operand.tmp 18), type := 0, pos := "bus.go:63", after := #[{ on := 4, ground := Ground.data }, { on := 3, ground := Ground.data }, { on := 0, ground := Ground.chain }, { on := 0, ground := Ground.phase }, { on := 1, ground := Ground.phase }, { on := 2, ground := Ground.phase }, { on := 3, ground := Ground.phase }, { on := 4, ground := Ground.phase }], guard := none }) rfl (fun K hK => ?_) AllReadyH.nil
      have hst := store_part x3 LB 0 (cellsV ⟨Tm.T0, Ua.U0, Dm.D0, G0, dk⟩) VB.1 (by rw [VB.2.1]; rfl) rfl
      rw [VB.2.1, hpl] at hst
      have RC := VB.set (cellsV ⟨Tm.T0, Ua.U0, Dm.D0, G0, dk⟩)
      go_simp
      refine hK.out _ _ (below_setRow hHeld hLB _) (fun hHeld => ?_)
      clear hK K
      try simp only [Act.put, List.setIfInBounds_toArray, List.set_cons_zero, List.set_cons_succ]
      clear hst VB
      generalize x3.setRow LB (cellsV ⟨Tm.T0, Ua.U0, Dm.D0, G0, dk⟩) = x6 at *
      refine wpAnyH_done (by kernel_rfl) ?_ _
      go_wp2_with fail
      go_meet
      case rel => exact ⟨LB, rfl, hide ⟨RC, hHeld⟩⟩
    refine AllReadyH.cons (o := { dst := some 16, op := Op.makeSlice 53 (Operand.const (Value.int IntKind.i64 1024)) (Operand.const (Value.int IntKind.i64 1024)), type := 53, pos := "bus.go:63", after := #[], guard := none }) rfl (fun K hK => ?_) ?_
    · have gM := grow xd (.cells (madeCells #[.int .u8 0] 1024) 5)
      have RW := made_row xd 1024
      have hmk := make_row xd 1024 (by omega)
      rw [show ((1024 : Nat) : Int) = 1024 from rfl] at hmk
      go_simp
      refine hK.out _ _ (onto hHeld (Nat.le_refl _) gM) (fun hHeld => ?_)
      clear hK K
      try simp only [Act.put, List.setIfInBounds_toArray, List.set_cons_zero, List.set_cons_succ]
      clear gM hmk
      generalize xd.alloc (.cells (madeCells #[.int .u8 0] 1024) 5) = x1 at *
      generalize xd.heap.size = LS at *
      refine wpAnyH_ready (rs := [0, 2, 4]) (by kernel_rfl) (by simp) ?_
      refine AllReadyH.cons (o := { dst := some 15, op := Op.call { callee := Callee.value (Operand.func 13), args := #[Operand.const (Value.int IntKind.u32 0)], argTypes := #[23] }, type := 51, pos := "bus.go:63", after := #[], guard := none }) rfl (fun K hK => ?_) ?_
      · go_simp
        refine (cs.out _).mono ?_
        rintro e x2 ⟨rfl, hn⟩
        replace RW := RW.keep (hn.block LS RW.lt)
        go_wp2_with fail
        refine hK.out _ _ (onto hHeld (Nat.le_refl _) hn) (fun hHeld => ?_)
        clear hK K
        try simp only [Act.put, List.setIfInBounds_toArray, List.set_cons_zero, List.set_cons_succ]
        clear hn
        refine wpAnyH_ready (rs := [2, 4]) (by kernel_rfl) (by simp) ?_
        refine AllReadyH.cons (o := { dst := some 17, op := Op.convert 53 9 (Operand.tmp 16), type := 9, pos := "bus.go:63", after := #[{ on := 1, ground := Ground.data }], guard := none }) rfl (fun K hK => ?_) ?_
        · have hcv := conv_back RW 1024
          rw [← hdk.out] at hcv
          go_simp
          refine hK.out _ _ (hHeld) (fun hHeld => ?_)
          clear hK K
          try simp only [Act.put, List.setIfInBounds_toArray, List.set_cons_zero, List.set_cons_succ]
          clear hcv RW
          refine wpAnyH_ready (rs := [3, 4]) (by kernel_rfl) (by simp) ?_
          refine AllReadyH.cons (o := { dst := some 18, op := Op.build 61 #[(3, Operand.tmp 15), (4, Operand.tmp 17)], type := 61, pos := "bus.go:63", after := #[{ on := 0, ground := Ground.data }, { on := 2, ground := Ground.data }], guard := none }) rfl (fun K hK => ?_) ?_
          · refine at_build2 rfl (.tmp 15) (.tmp 17) (by with_reducible rfl) G0 dk rfl rfl ?_
            refine hK.out _ _ (hHeld) (fun hHeld => ?_)
            clear hK K
            try simp only [Act.put, List.setIfInBounds_toArray, List.set_cons_zero, List.set_cons_succ]
            refine wpAnyH_ready (rs := [4]) (by kernel_rfl) (by simp) ?_
            refine AllReadyH.cons (o := { dst := some 6, op := Op.alloc 61, type := 0, pos := "bus.go:63", after := #[], guard := none }) rfl (fun K hK => ?_) AllReadyH.nil
            have gA := grow x2 (.cells (cellsV VZ) 61)
            have VB := Box.new x2 (cellsV VZ) 61
            have hLB : w1.heap.size ≤ x2.heap.size := hHeld.size
            go_simp
            refine hK.out _ _ (onto hHeld (Nat.le_refl _) gA) (fun hHeld => ?_)
            clear hK K
            try simp only [Act.put, List.setIfInBounds_toArray, List.set_cons_zero, List.set_cons_succ]
            clear gA
            generalize x2.alloc (.cells (cellsV VZ) 61) = x5 at *
            generalize x2.heap.size = LB at *
            refine wpAnyH_ready (rs := [5]) (by kernel_rfl) (by simp) ?_
            refine AllReadyH.cons (o := { dst := none, op := Op.store 61 (Operand.tmp 6) (Operand.tmp 18), type := 0, pos := "bus.go:63", after := #[{ on := 4, ground := Ground.data }, { on := 3, ground := Ground.data }, { on := 0, ground := Ground.chain }, { on := 0, ground := Ground.phase }, { on := 1, ground := Ground.phase }, { on := 2, ground := Ground.phase }, { on := 3, ground := Ground.phase }, { on := 4, ground := Ground.phase }], guard := none }) rfl (fun K hK => ?_) AllReadyH.nil
            have hst := store_part x5 LB 0 (cellsV ⟨Tm.T0, Ua.U0, Dm.D0, G0, dk⟩) VB.1 (by rw [VB.2.1]; rfl) rfl
            rw [VB.2.1, hpl] at hst
            have RC := VB.set (cellsV ⟨Tm.T0, Ua.U0, Dm.D0, G0, dk⟩)
            go_simp
            refine hK.out _ _ (below_setRow hHeld hLB _) (fun hHeld => ?_)
            clear hK K
            try simp only [Act.put, List.setIfInBounds_toArray, List.set_cons_zero, List.set_cons_succ]
            clear hst VB
            generalize x5.setRow LB (cellsV ⟨Tm.T0, Ua.U0, Dm.D0, G0, dk⟩) = x6 at *
            refine wpAnyH_done (by kernel_rfl) ?_ _
            go_wp2_with fail
            go_meet
            case rel => exact ⟨LB, rfl, hide ⟨RC, hHeld⟩⟩
          refine AllReadyH.cons (o := { dst := some 6, op := Op.alloc 61, type := 0, pos := "bus.go:63", after := #[], guard := none }) rfl (fun K hK => ?_) AllReadyH.nil
          have gA := grow x2 (.cells (cellsV VZ) 61)
          have VB := Box.new x2 (cellsV VZ) 61
          have hLB : w1.heap.size ≤ x2.heap.size := hHeld.size
          go_simp
          refine hK.out _ _ (onto hHeld (Nat.le_refl _) gA) (fun hHeld => ?_)
          clear hK K
          try simp only [Act.put, List.setIfInBounds_toArray, List.set_cons_zero, List.set_cons_succ]
          clear gA
          generalize x2.alloc (.cells (cellsV VZ) 61) = x4 at *
          generalize x2.heap.size = LB at *
          refine wpAnyH_ready (rs := [3]) (by kernel_rfl) (by simp) ?_
          refine AllReadyH.cons (o := { dst := some 18, op := Op.build 61 #[(3, Operand.tmp 15), (4, Operand.tmp 17)], type := 61, pos := "bus.go:63", after := #[{ on := 0, ground := Ground.data }, { on := 2, ground := Ground.data }], guard := none }) rfl (fun K hK => ?_) AllReadyH.nil
          refine at_build2 rfl (.tmp 15) (.tmp 17) (by with_reducible rfl) G0 dk rfl rfl ?_
          refine hK.out _ _ (hHeld) (fun hHeld => ?_)
          clear hK K
          try simp only [Act.put, List.setIfInBounds_toArray, List.set_cons_zero, List.set_cons_succ]
          refine wpAnyH_ready (rs := [5]) (by kernel_rfl) (by simp) ?_
          refine AllReadyH.cons (o := { dst := none, op := Op.store 61 (Operand.tmp 6) (Operand.tmp 18), type := 0, pos := "bus.go:63", after := #[{ on := 4, ground := Ground.data }, { on := 3, ground := Ground.data }, { on := 0, ground := Ground.chain }, { on := 0, ground := Ground.phase }, { on := 1, ground := Ground.phase }, { on := 2, ground := Ground.phase }, { on := 3, ground := Ground.phase }, { on := 4, ground := Ground.phase }], guard := none }) rfl (fun K hK => ?_) AllReadyH.nil
          have hst := store_part x4 LB 0 (cellsV ⟨Tm.T0, Ua.U0, Dm.D0, G0, dk⟩) VB.1 (by rw [VB.2.1]; rfl) rfl
          rw [VB.2.1, hpl] at hst
          have RC := VB.set (cellsV ⟨Tm.T0, Ua.U0, Dm.D0, G0, dk⟩)
          go_simp
          refine hK.out _ _ (below_setRow hHeld hLB _) (fun hHeld => ?_)
          clear hK K
          try simp only [Act.put, List.setIfInBounds_toArray, List.set_cons_zero, List.set_cons_succ]
          clear hst VB
          generalize x4.setRow LB (cellsV ⟨Tm.T0, Ua.U0, Dm.D0, G0, dk⟩) = x6 at *
          refine wpAnyH_done (by kernel_rfl) ?_ _
          go_wp2_with fail
          go_meet
          case rel => exact ⟨LB, rfl, hide ⟨RC, hHeld⟩⟩
        refine AllReadyH.cons (o := { dst := some 6, op := Op.alloc 61, type := 0, pos := "bus.go:63", after := #[], guard := none }) rfl (fun K hK => ?_) AllReadyH.nil
        have gA := grow x2 (.cells (cellsV VZ) 61)
        have VB := Box.new x2 (cellsV VZ) 61
        have hLB : w1.heap.size ≤ x2.heap.size := hHeld.size
        replace RW := RW.keep (gA.block LS RW.lt)
        go_simp
        refine hK.out _ _ (onto hHeld (Nat.le_refl _) gA) (fun hHeld => ?_)
        clear hK K
        try simp only [Act.put, List.setIfInBounds_toArray, List.set_cons_zero, List.set_cons_succ]
        clear gA
        generalize x2.alloc (.cells (cellsV VZ) 61) = x3 at *
        generalize x2.heap.size = LB at *
        refine wpAnyH_ready (rs := [2]) (by kernel_rfl) (by simp) ?_
        refine AllReadyH.cons (o := { dst := some 17, op := Op.convert 53 9 (Operand.tmp 16), type := 9, pos := "bus.go:63", after := #[{ on := 1, ground := Ground.data }], guard := none }) rfl (fun K hK => ?_) AllReadyH.nil
        have hcv := conv_back RW 1024
        rw [← hdk.out] at hcv
        go_simp
        refine hK.out _ _ (hHeld) (fun hHeld => ?_)
        clear hK K
        try simp only [Act.put, List.setIfInBounds_toArray, List.set_cons_zero, List.set_cons_succ]
        clear hcv RW
        refine wpAnyH_ready (rs := [3]) (by kernel_rfl) (by simp) ?_
        refine AllReadyH.cons (o := { dst := some 18, op := Op.build 61 #[(3, Operand.tmp 15), (4, Operand.tmp 17)], type := 61, pos := "bus.go:63", after := #[{ on := 0, ground := Ground.data }, { on := 2, ground := Ground.data }], guard := none }) rfl (fun K hK => ?_) AllReadyH.nil
        refine at_build2 rfl (.tmp 15) (.tmp 17) (by with_reducible rfl) G0 dk rfl rfl ?_
        refine hK.out _ _ (hHeld) (fun hHeld => ?_)
        clear hK K
        try simp only [Act.put, List.setIfInBounds_toArray, List.set_cons_zero, List.set_cons_succ]
        refine wpAnyH_ready (rs := [5]) (by kernel_rfl) (by simp) ?_
        refine AllReadyH.cons (o := { dst := none, op := Op.store 61 (Operand.tmp 6) (Operand.tmp 18), type := 0, pos := "bus.go:63", after := #[{ on := 4, ground := Ground.data }, { on := 3, ground := Ground.data }, { on := 0, ground := Ground.chain }, { on := 0, ground := Ground.phase }, { on := 1, ground := Ground.phase }, { on := 2, ground := Ground.phase }, { on := 3, ground := Ground.phase }, { on := 4, ground := Ground.phase }], guard := none }) rfl (fun K hK => ?_) AllReadyH.nil
        have hst := store_part x3 LB 0 (cellsV ⟨Tm.T0, Ua.U0, Dm.D0, G0, dk⟩) VB.1 (by rw [VB.2.1]; rfl) rfl
        rw [VB.2.1, hpl] at hst
        have RC := VB.set (cellsV ⟨Tm.T0, Ua.U0, Dm.D0, G0, dk⟩)
        go_simp
        refine hK.out _ _ (below_setRow hHeld hLB _) (fun hHeld => ?_)
        clear hK K
        try simp only [Act.put, List.setIfInBounds_toArray, List.set_cons_zero, List.set_cons_succ]
        clear hst VB
        generalize x3.setRow LB (cellsV ⟨Tm.T0, Ua.U0, Dm.D0, G0, dk⟩) = x6 at *
        refine wpAnyH_done (by kernel_rfl) ?_ _
        go_wp2_with fail
        go_meet
        case rel => exact ⟨LB, rfl, hide ⟨RC, hHeld⟩⟩
      refine AllReadyH.cons (o := { dst := some 17, op := Op.convert 53 9 (Operand.tmp 16), type := 9, pos := "bus.go:63", after := #[{ on := 1, ground := Ground.data }], guard := none }) rfl (fun K hK => ?_) ?_
      · have hcv := conv_back RW 1024
        rw [← hdk.out] at hcv
        go_simp
        refine hK.out _ _ (hHeld) (fun hHeld => ?_)
        clear hK K
        try simp only [Act.put, List.setIfInBounds_toArray, List.set_cons_zero, List.set_cons_succ]
        clear hcv RW
        refine wpAnyH_ready (rs := [0, 4]) (by kernel_rfl) (by simp) ?_
        refine AllReadyH.cons (o := { dst := some 15, op := Op.call { callee := Callee.value (Operand.func 13), args := #[Operand.const (Value.int IntKind.u32 0)], argTypes := #[23] }, type := 51, pos := "bus.go:63", after := #[], guard := none }) rfl (fun K hK => ?_) ?_
        · go_simp
          refine (cs.out _).mono ?_
          rintro e x3 ⟨rfl, hn⟩
          go_wp2_with fail
          refine hK.out _ _ (onto hHeld (Nat.le_refl _) hn) (fun hHeld => ?_)
          clear hK K
          try simp only [Act.put, List.setIfInBounds_toArray, List.set_cons_zero, List.set_cons_succ]
          clear hn
          refine wpAnyH_ready (rs := [3, 4]) (by kernel_rfl) (by simp) ?_
          refine AllReadyH.cons (o := { dst := some 18, op := Op.build 61 #[(3, Operand.tmp 15), (4, Operand.tmp 17)], type := 61, pos := "bus.go:63", after := #[{ on := 0, ground := Ground.data }, { on := 2, ground := Ground.data }], guard := none }) rfl (fun K hK => ?_) ?_
          · refine at_build2 rfl (.tmp 15) (.tmp 17) (by with_reducible rfl) G0 dk rfl rfl ?_
            refine hK.out _ _ (hHeld) (fun hHeld => ?_)
            clear hK K
            try simp only [Act.put, List.setIfInBounds_toArray, List.set_cons_zero, List.set_cons_succ]
            refine wpAnyH_ready (rs := [4]) (by kernel_rfl) (by simp) ?_
            refine AllReadyH.cons (o := { dst := some 6, op := Op.alloc 61, type := 0, pos := "bus.go:63", after := #[], guard := none }) rfl (fun K hK => ?_) AllReadyH.nil
            have gA := grow x3 (.cells (cellsV VZ) 61)
            have VB := Box.new x3 (cellsV VZ) 61
            have hLB : w1.heap.size ≤ x3.heap.size := hHeld.size
            go_simp
            refine hK.out _ _ (onto hHeld (Nat.le_refl _) gA) (fun hHeld => ?_)
            clear hK K
            try simp only [Act.put, List.setIfInBounds_toArray, List.set_cons_zero, List.set_cons_succ]
            clear gA
            generalize x3.alloc (.cells (cellsV VZ) 61) = x5 at *
            generalize x3.heap.size = LB at *
            refine wpAnyH_ready (rs := [5]) (by kernel_rfl) (by simp) ?_
            refine AllReadyH.cons (o := { dst := none, op := Op.store 61 (Operand.tmp 6) (Operand.tmp 18), type := 0, pos := "bus.go:63", after := #[{ on := 4, ground := Ground.data }, { on := 3, ground := Ground.data }, { on := 0, ground := Ground.chain }, { on := 0, ground := Ground.phase }, { on := 1, ground := Ground.phase }, { on := 2, ground := Ground.phase }, { on := 3, ground := Ground.phase }, { on := 4, ground := Ground.phase }], guard := none }) rfl (fun K hK => ?_) AllReadyH.nil
            have hst := store_part x5 LB 0 (cellsV ⟨Tm.T0, Ua.U0, Dm.D0, G0, dk⟩) VB.1 (by rw [VB.2.1]; rfl) rfl
            rw [VB.2.1, hpl] at hst
            have RC := VB.set (cellsV ⟨Tm.T0, Ua.U0, Dm.D0, G0, dk⟩)
            go_simp
            refine hK.out _ _ (below_setRow hHeld hLB _) (fun hHeld => ?_)
            clear hK K
            try simp only [Act.put, List.setIfInBounds_toArray, List.set_cons_zero, List.set_cons_succ]
            clear hst VB
            generalize x5.setRow LB (cellsV ⟨Tm.T0, Ua.U0, Dm.D0, G0, dk⟩) = x6 at *
            refine wpAnyH_done (by kernel_rfl) ?_ _
            go_wp2_with fail
            go_meet
            case rel => exact ⟨LB, rfl, hide ⟨RC, hHeld⟩⟩
          refine AllReadyH.cons (o := { dst := some 6, op := Op.alloc 61, type := 0, pos := "bus.go:63", after := #[], guard := none }) rfl (fun K hK => ?_) AllReadyH.nil
          have gA := grow x3 (.cells (cellsV VZ) 61)
          have VB := Box.new x3 (cellsV VZ) 61
          have hLB : w1.heap.size ≤ x3.heap.size := hHeld.size
          go_simp
          refine hK.out _ _ (onto hHeld (Nat.le_refl _) gA) (fun hHeld => ?_)
          clear hK K
          try simp only [Act.put, List.setIfInBounds_toArray, List.set_cons_zero, List.set_cons_succ]
          clear gA
          generalize x3.alloc (.cells (cellsV VZ) 61) = x4 at *
          generalize x3.heap.size = LB at *
          refine wpAnyH_ready (rs := [3]) (by kernel_rfl) (by simp) ?_
          refine AllReadyH.cons (o := { dst := some 18, op := Op.build 61 #[(3, Operand.tmp 15), (4, Operand.tmp 17)], type := 61, pos := "bus.go:63", after := #[{ on := 0, ground := Ground.data }, { on := 2, ground := Ground.data }], guard := none }) rfl (fun K hK => ?_) AllReadyH.nil
          refine at_build2 rfl (.tmp 15) (.tmp 17) (by with_reducible rfl) G0 dk rfl rfl ?_
          refine hK.out _ _ (hHeld) (fun hHeld => ?_)
          clear hK K
          try simp only [Act.put, List.setIfInBounds_toArray, List.set_cons_zero, List.set_cons_succ]
          refine wpAnyH_ready (rs := [5]) (by kernel_rfl) (by simp) ?_
          refine AllReadyH.cons (o := { dst := none, op := Op.store 61 (Operand.tmp 6) (Operand.tmp 18), type := 0, pos := "bus.go:63", after := #[{ on := 4, ground := Ground.data }, { on := 3, ground := Ground.data }, { on := 0, ground := Ground.chain }, { on := 0, ground := Ground.phase }, { on := 1, ground := Ground.phase }, { on := 2, ground := Ground.phase }, { on := 3, ground := Ground.phase }, { on := 4, ground := Ground.phase }], guard := none }) rfl (fun K hK => ?_) AllReadyH.nil
          have hst := store_part x4 LB 0 (cellsV ⟨Tm.T0, Ua.U0, Dm.D0, G0, dk⟩) VB.1 (by rw [VB.2.1]; rfl) rfl
          rw [VB.2.1, hpl] at hst
          have RC := VB.set (cellsV ⟨Tm.T0, Ua.U0, Dm.D0, G0, dk⟩)
          go_simp
          refine hK.out _ _ (below_setRow hHeld hLB _) (fun hHeld => ?_)
          clear hK K
          try simp only [Act.put, List.setIfInBounds_toArray, List.set_cons_zero, List.set_cons_succ]
          clear hst VB
          generalize x4.setRow LB (cellsV ⟨Tm.T0, Ua.U0, Dm.D0, G0, dk⟩) = x6 at *
          refine wpAnyH_done (by kernel_rfl) ?_ _
          go_wp2_with fail
          go_meet
          case rel => exact ⟨LB, rfl, hide ⟨RC, hHeld⟩⟩
        refine AllReadyH.cons (o := { dst := some 6, op := Op.alloc 61, type := 0, pos := "bus.go:63", after := #[], guard := none }) rfl (fun K hK => ?_) AllReadyH.nil
        have gA := grow x1 (.cells (cellsV VZ) 61)
        have VB := Box.new x1 (cellsV VZ) 61
        have hLB : w1.heap.size ≤ x1.heap.size := hHeld.size
        go_simp
        refine hK.out _ _ (onto hHeld (Nat.le_refl _) gA) (fun hHeld => ?_)
        clear hK K
        try simp only [Act.put, List.setIfInBounds_toArray, List.set_cons_zero, List.set_cons_succ]
        clear gA
        generalize x1.alloc (.cells (cellsV VZ) 61) = x3 at *
        generalize x1.heap.size = LB at *
        refine wpAnyH_ready (rs := [0]) (by kernel_rfl) (by simp) ?_
        refine AllReadyH.cons (o := { dst := some 15, op := Op.call { callee := Callee.value (Operand.func 13), args := #[Operand.const (Value.int IntKind.u32 0)], argTypes := #[23] }, type := 51, pos := "bus.go:63", after := #[], guard := none }) rfl (fun K hK => ?_) AllReadyH.nil
        go_simp
        refine (cs.out _).mono ?_
        rintro e x4 ⟨rfl, hn⟩
        replace VB := VB.on hn
        go_wp2_with fail
        refine hK.out _ _ (onto hHeld (Nat.le_refl _) hn) (fun hHeld => ?_)
        clear hK K
        try simp only [Act.put, List.setIfInBounds_toArray, List.set_cons_zero, List.set_cons_succ]
        clear hn
        refine wpAnyH_ready (rs := [3]) (by kernel_rfl) (by simp) ?_
        refine AllReadyH.cons (o := { dst := some 18, op := Op.build 61 #[(3, Operand.tmp 15), (4, Operand.tmp 17)], type := 61, pos := "bus.go:63", after := #[{ on := 0, ground := Ground.data }, { on := 2, ground := Ground.data }], guard := none }) rfl (fun K hK => ?_) AllReadyH.nil
        refine at_build2 rfl (.tmp 15) (.tmp 17) (by with_reducible rfl) G0 dk rfl rfl ?_
        refine hK.out _ _ (hHeld) (fun hHeld => ?_)
        clear hK K
        try simp only [Act.put, List.setIfInBounds_toArray, List.set_cons_zero, List.set_cons_succ]
        refine wpAnyH_ready (rs := [5]) (by kernel_rfl) (by simp) ?_
        refine AllReadyH.cons (o := { dst := none, op := Op.store 61 (Operand.tmp 6) (Operand.tmp 18), type := 0, pos := "bus.go:63", after := #[{ on := 4, ground := Ground.data }, { on := 3, ground := Ground.data }, { on := 0, ground := Ground.chain }, { on := 0, ground := Ground.phase }, { on := 1, ground := Ground.phase }, { on := 2, ground := Ground.phase }, { on := 3, ground := Ground.phase }, { on := 4, ground := Ground.phase }], guard := none }) rfl (fun K hK => ?_) AllReadyH.nil
        have hst := store_part x4 LB 0 (cellsV ⟨Tm.T0, Ua.U0, Dm.D0, G0, dk⟩) VB.1 (by rw [VB.2.1]; rfl) rfl
        rw [VB.2.1, hpl] at hst
        have RC := VB.set (cellsV ⟨Tm.T0, Ua.U0, Dm.D0, G0, dk⟩)
        go_simp
        refine hK.out _ _ (below_setRow hHeld hLB _) (fun hHeld => ?_)
        clear hK K
        try simp only [Act.put, List.setIfInBounds_toArray, List.set_cons_zero, List.set_cons_succ]
        clear hst VB
        generalize x4.setRow LB (cellsV ⟨Tm.T0, Ua.U0, Dm.D0, G0, dk⟩) = x6 at *
        refine wpAnyH_done (by kernel_rfl) ?_ _
        go_wp2_with fail
        go_meet
        case rel => exact ⟨LB, rfl, hide ⟨RC, hHeld⟩⟩
      refine AllReadyH.cons (o := { dst := some 6, op := Op.alloc 61, type := 0, pos := "bus.go:63", after := #[], guard := none }) rfl (fun K hK => ?_) AllReadyH.nil
      have gA := grow x1 (.cells (cellsV VZ) 61)
      have VB := Box.new x1 (cellsV VZ) 61
      have hLB : w1.heap.size ≤ x1.heap.size := hHeld.size
      replace RW := RW.keep (gA.block LS RW.lt)
      go_simp
      refine hK.out _ _ (onto hHeld (Nat.le_refl _) gA) (fun hHeld => ?_)
      clear hK K
      try simp only [Act.put, List.setIfInBounds_toArray, List.set_cons_zero, List.set_cons_succ]
      clear gA
      generalize x1.alloc (.cells (cellsV VZ) 61) = x2 at *
      generalize x1.heap.size = LB at *
      refine wpAnyH_ready (rs := [0, 2]) (by kernel_rfl) (by simp) ?_
      refine AllReadyH.cons (o := { dst := some 15, op := Op.call { callee := Callee.value (Operand.func 13), args := #[Operand.const (Value.int IntKind.u32 0)], argTypes := #[23] }, type := 51, pos := "bus.go:63", after := #[], guard := none }) rfl (fun K hK => ?_) ?_
      · go_simp
        refine (cs.out _).mono ?_
        rintro e x3 ⟨rfl, hn⟩
        replace VB := VB.on hn
        replace RW := RW.keep (hn.block LS RW.lt)
        go_wp2_with fail
        refine hK.out _ _ (onto hHeld (Nat.le_refl _) hn) (fun hHeld => ?_)
        clear hK K
        try simp only [Act.put, List.setIfInBounds_toArray, List.set_cons_zero, List.set_cons_succ]
        clear hn
        refine wpAnyH_ready (rs := [2]) (by kernel_rfl) (by simp) ?_
        refine AllReadyH.cons (o := { dst := some 17, op := Op.convert 53 9 (Operand.tmp 16), type := 9, pos := "bus.go:63", after := #[{ on := 1, ground := Ground.data }], guard := none }) rfl (fun K hK => ?_) AllReadyH.nil
        have hcv := conv_back RW 1024
        rw [← hdk.out] at hcv
        go_simp
        refine hK.out _ _ (hHeld) (fun hHeld => ?_)
        clear hK K
        try simp only [Act.put, List.setIfInBounds_toArray, List.set_cons_zero, List.set_cons_succ]
        clear hcv RW
        refine wpAnyH_ready (rs := [3]) (by kernel_rfl) (by simp) ?_
        refine AllReadyH.cons (o := { dst := some 18, op := Op.build 61 #[(3, Operand.tmp 15), (4, Operand.tmp 17)], type := 61, pos := "bus.go:63", after := #[{ on := 0, ground := Ground.data }, { on := 2, ground := Ground.data }], guard := none }) rfl (fun K hK => ?_) AllReadyH.nil
        refine at_build2 rfl (.tmp 15) (.tmp 17) (by with_reducible rfl) G0 dk rfl rfl ?_
        refine hK.out _ _ (hHeld) (fun hHeld => ?_)
        clear hK K
        try simp only [Act.put, List.setIfInBounds_toArray, List.set_cons_zero, List.set_cons_succ]
        refine wpAnyH_ready (rs := [5]) (by kernel_rfl) (by simp) ?_
        refine AllReadyH.cons (o := { dst := none, op := Op.store 61 (Operand.tmp 6) (Operand.tmp 18), type := 0, pos := "bus.go:63", after := #[{ on := 4, ground := Ground.data }, { on := 3, ground := Ground.data }, { on := 0, ground := Ground.chain }, { on := 0, ground := Ground.phase }, { on := 1, ground := Ground.phase }, { on := 2, ground := Ground.phase }, { on := 3, ground := Ground.phase }, { on := 4, ground := Ground.phase }], guard := none }) rfl (fun K hK => ?_) AllReadyH.nil
        have hst := store_part x3 LB 0 (cellsV ⟨Tm.T0, Ua.U0, Dm.D0, G0, dk⟩) VB.1 (by rw [VB.2.1]; rfl) rfl
        rw [VB.2.1, hpl] at hst
        have RC := VB.set (cellsV ⟨Tm.T0, Ua.U0, Dm.D0, G0, dk⟩)
        go_simp
        refine hK.out _ _ (below_setRow hHeld hLB _) (fun hHeld => ?_)
        clear hK K
        try simp only [Act.put, List.setIfInBounds_toArray, List.set_cons_zero, List.set_cons_succ]
        clear hst VB
        generalize x3.setRow LB (cellsV ⟨Tm.T0, Ua.U0, Dm.D0, G0, dk⟩) = x6 at *
        refine wpAnyH_done (by kernel_rfl) ?_ _
        go_wp2_with fail
        go_meet
        case rel => exact ⟨LB, rfl, hide ⟨RC, hHeld⟩⟩
      refine AllReadyH.cons (o := { dst := some 17, op := Op.convert 53 9 (Operand.tmp 16), type := 9, pos := "bus.go:63", after := #[{ on := 1, ground := Ground.data }], guard := none }) rfl (fun K hK => ?_) AllReadyH.nil
      have hcv := conv_back RW 1024
      rw [← hdk.out] at hcv
      go_simp
      refine hK.out _ _ (hHeld) (fun hHeld => ?_)
      clear hK K
      try simp only [Act.put, List.setIfInBounds_toArray, List.set_cons_zero, List.set_cons_succ]
      clear hcv RW
      refine wpAnyH_ready (rs := [0]) (by kernel_rfl) (by simp) ?_
      refine AllReadyH.cons (o := { dst := some 15, op := Op.call { callee := Callee.value (Operand.func 13), args := #[Operand.const (Value.int IntKind.u32 0)], argTypes := #[23] }, type := 51, pos := "bus.go:63", after := #[], guard := none }) rfl (fun K hK => ?_) AllReadyH.nil
      go_simp
      refine (cs.out _).mono ?_
      rintro e x4 ⟨rfl, hn⟩
      replace VB := VB.on hn
      go_wp2_with fail
      refine hK.out _ _ (onto hHeld (Nat.le_refl _) hn) (fun hHeld => ?_)
      clear hK K
      try simp only [Act.put, List.setIfInBounds_toArray, List.set_cons_zero, List.set_cons_succ]
      clear hn
      refine wpAnyH_ready (rs := [3]) (by kernel_rfl) (by simp) ?_
      refine AllReadyH.cons (o := { dst := some 18, op := Op.build 61 #[(3, Operand.tmp 15), (4, Operand.tmp 17)], type := 61, pos := "bus.go:63", after := #[{ on := 0, ground := Ground.data }, { on := 2, ground := Ground.data }], guard := none }) rfl (fun K hK => ?_) AllReadyH.nil
      refine at_build2 rfl (.tmp 15) (.tmp 17) (by with_reducible rfl) G0 dk rfl rfl ?_
      refine hK.out _ _ (hHeld) (fun hHeld => ?_)
      clear hK K
      try simp only [Act.put, List.setIfInBounds_toArray, List.set_cons_zero, List.set_cons_succ]
      refine wpAnyH_ready (rs := [5]) (by kernel_rfl) (by simp) ?_
      refine AllReadyH.cons (o := { dst := none, op := Op.store 61 (Operand.tmp 6) (Operand.tmp 18), type := 0, pos := "bus.go:63", after := #[{ on := 4, ground := Ground.data }, { on := 3, ground := Ground.data }, { on := 0, ground := Ground.chain }, { on := 0, ground := Ground.phase }, { on := 1, ground := Ground.phase }, { on := 2, ground := Ground.phase }, { on := 3, ground := Ground.phase }, { on := 4, ground := Ground.phase }], guard := none }) rfl (fun K hK => ?_) AllReadyH.nil
      have hst := store_part x4 LB 0 (cellsV ⟨Tm.T0, Ua.U0, Dm.D0, G0, dk⟩) VB.1 (by rw [VB.2.1]; rfl) rfl
      rw [VB.2.1, hpl] at hst
      have RC := VB.set (cellsV ⟨Tm.T0, Ua.U0, Dm.D0, G0, dk⟩)
      go_simp
      refine hK.out _ _ (below_setRow hHeld hLB _) (fun hHeld => ?_)
      clear hK K
      try simp only [Act.put, List.setIfInBounds_toArray, List.set_cons_zero, List.set_cons_succ]
      clear hst VB
      generalize x4.setRow LB (cellsV ⟨Tm.T0, Ua.U0, Dm.D0, G0, dk⟩) = x6 at *
      refine wpAnyH_done (by kernel_rfl) ?_ _
      go_wp2_with fail
      go_meet
      case rel => exact ⟨LB, rfl, hide ⟨RC, hHeld⟩⟩
    refine AllReadyH.cons (o := { dst := some 6, op := Op.alloc 61, type := 0, pos := "bus.go:63", after := #[], guard := none }) rfl (fun K hK => ?_) AllReadyH.nil
    have gA := grow xd (.cells (cellsV VZ) 61)
    have VB := Box.new xd (cellsV VZ) 61
    have hLB : w1.heap.size ≤ xd.heap.size := hHeld.size
    go_simp
    refine hK.out _ _ (onto hHeld (Nat.le_refl _) gA) (fun hHeld => ?_)
    clear hK K
    try simp only [Act.put, List.setIfInBounds_toArray, List.set_cons_zero, List.set_cons_succ]
    clear gA
    generalize xd.alloc (.cells (cellsV VZ) 61) = x1 at *
    generalize xd.heap.size = LB at *
    refine wpAnyH_ready (rs := [0, 1]) (by kernel_rfl) (by simp) ?_
    refine AllReadyH.cons (o := { dst := some 15, op := Op.call { callee := Callee.value (Operand.func 13), args := #[Operand.const (Value.int IntKind.u32 0)], argTypes := #[23] }, type := 51, pos := "bus.go:63", after := #[], guard := none }) rfl (fun K hK => ?_) ?_
    · go_simp
      refine (cs.out _).mono ?_
      rintro e x2 ⟨rfl, hn⟩
      replace VB := VB.on hn
      go_wp2_with fail
      refine hK.out _ _ (onto hHeld (Nat.le_refl _) hn) (fun hHeld => ?_)
      clear hK K
      try simp only [Act.put, List.setIfInBounds_toArray, List.set_cons_zero, List.set_cons_succ]
      clear hn
      refine wpAnyH_ready (rs := [1]) (by kernel_rfl) (by simp) ?_
      refine AllReadyH.cons (o := { dst := some 16, op := Op.makeSlice 53 (Operand.const (Value.int IntKind.i64 1024)) (Operand.const (Value.int IntKind.i64 1024)), type := 53, pos := "bus.go:63", after := #[], guard := none }) rfl (fun K hK => ?_) AllReadyH.nil
      have gM := grow x2 (.cells (madeCells #[.int .u8 0] 1024) 5)
      have RW := made_row x2 1024
      have hmk := make_row x2 1024 (by omega)
      rw [show ((1024 : Nat) : Int) = 1024 from rfl] at hmk
      replace VB := VB.on gM
      go_simp
      refine hK.out _ _ (onto hHeld (Nat.le_refl _) gM) (fun hHeld => ?_)
      clear hK K
      try simp only [Act.put, List.setIfInBounds_toArray, List.set_cons_zero, List.set_cons_succ]
      clear gM hmk
      generalize x2.alloc (.cells (madeCells #[.int .u8 0] 1024) 5) = x3 at *
      generalize x2.heap.size = LS at *
      refine wpAnyH_ready (rs := [2]) (by kernel_rfl) (by simp) ?_
      refine AllReadyH.cons (o := { dst := some 17, op := Op.convert 53 9 (Operand.tmp 16), type := 9, pos := "bus.go:63", after := #[{ on := 1, ground := Ground.data }], guard := none }) rfl (fun K hK => ?_) AllReadyH.nil
      have hcv := conv_back RW 1024
      rw [← hdk.out] at hcv
      go_simp
      refine hK.out _ _ (hHeld) (fun hHeld => ?_)
      clear hK K
      try simp only [Act.put, List.setIfInBounds_toArray, List.set_cons_zero, List.set_cons_succ]
      clear hcv RW
      refine wpAnyH_ready (rs := [3]) (by kernel_rfl) (by simp) ?_
      refine AllReadyH.cons (o := { dst := some 18, op := Op.build 61 #[(3, Operand.tmp 15), (4, Operand.tmp 17)], type := 61, pos := "bus.go:63", after := #[{ on := 0, ground := Ground.data }, { on := 2, ground := Ground.data }], guard := none }) rfl (fun K hK => ?_) AllReadyH.nil
      refine at_build2 rfl (.tmp 15) (.tmp 17) (by with_reducible rfl) G0 dk rfl rfl ?_
      refine hK.out _ _ (hHeld) (fun hHeld => ?_)
      clear hK K
      try simp only [Act.put, List.setIfInBounds_toArray, List.set_cons_zero, List.set_cons_succ]
      refine wpAnyH_ready (rs := [5]) (by kernel_rfl) (by simp) ?_
      refine AllReadyH.cons (o := { dst := none, op := Op.store 61 (Operand.tmp 6) (Operand.tmp 18), type := 0, pos := "bus.go:63", after := #[{ on := 4, ground := Ground.data }, { on := 3, ground := Ground.data }, { on := 0, ground := Ground.chain }, { on := 0, ground := Ground.phase }, { on := 1, ground := Ground.phase }, { on := 2, ground := Ground.phase }, { on := 3, ground := Ground.phase }, { on := 4, ground := Ground.phase }], guard := none }) rfl (fun K hK => ?_) AllReadyH.nil
      have hst := store_part x3 LB 0 (cellsV ⟨Tm.T0, Ua.U0, Dm.D0, G0, dk⟩) VB.1 (by rw [VB.2.1]; rfl) rfl
      rw [VB.2.1, hpl] at hst
      have RC := VB.set (cellsV ⟨Tm.T0, Ua.U0, Dm.D0, G0, dk⟩)
      go_simp
      refine hK.out _ _ (below_setRow hHeld hLB _) (fun hHeld => ?_)
      clear hK K
      try simp only [Act.put, List.setIfInBounds_toArray, List.set_cons_zero, List.set_cons_succ]
      clear hst VB
      generalize x3.setRow LB (cellsV ⟨Tm.T0, Ua.U0, Dm.D0, G0, dk⟩) = x6 at *
      refine wpAnyH_done (by kernel_rfl) ?_ _
      go_wp2_with fail
      go_meet
      case rel => exact ⟨LB, rfl, hide ⟨RC, hHeld⟩⟩
    refine AllReadyH.cons (o := { dst := some 16, op := Op.makeSlice 53 (Operand.const (Value.int IntKind.i64 1024)) (Operand.const (Value.int IntKind.i64 1024)), type := 53, pos := "bus.go:63", after := #[], guard := none }) rfl (fun K hK => ?_) AllReadyH.nil
    have gM := grow x1 (.cells (madeCells #[.int .u8 0] 1024) 5)
    have RW := made_row x1 1024
    have hmk := make_row x1 1024 (by omega)
    rw [show ((1024 : Nat) : Int) = 1024 from rfl] at hmk
    replace VB := VB.on gM
    go_simp
    refine hK.out _ _ (onto hHeld (Nat.le_refl _) gM) (fun hHeld => ?_)
    clear hK K
    try simp only [Act.put, List.setIfInBounds_toArray, List.set_cons_zero, List.set_cons_succ]
    clear gM hmk
    generalize x1.alloc (.cells (madeCells #[.int .u8 0] 1024) 5) = x2 at *
    generalize x1.heap.size = LS at *
    refine wpAnyH_ready (rs := [0, 2]) (by kernel_rfl) (by simp) ?_
    refine AllReadyH.cons (o := { dst := some 15, op := Op.call { callee := Callee.value (Operand.func 13), args := #[Operand.const (Value.int IntKind.u32 0)], argTypes := #[23] }, type := 51, pos := "bus.go:63", after := #[], guard := none }) rfl (fun K hK => ?_) ?_
    · go_simp
      refine (cs.out _).mono ?_
      rintro e x3 ⟨rfl, hn⟩
      replace VB := VB.on hn
      replace RW := RW.keep (hn.block LS RW.lt)
      go_wp2_with fail
      refine hK.out _ _ (onto hHeld (Nat.le_refl _) hn) (fun hHeld => ?_)
      clear hK K
      try simp only [Act.put, List.setIfInBounds_toArray, List.set_cons_zero, List.set_cons_succ]
      clear hn
      refine wpAnyH_ready (rs := [2]) (by kernel_rfl) (by simp) ?_
      refine AllReadyH.cons (o := { dst := some 17, op := Op.convert 53 9 (Operand.tmp 16), type := 9, pos := "bus.go:63", after := #[{ on := 1, ground := Ground.data }], guard := none }) rfl (fun K hK => ?_) AllReadyH.nil
      have hcv := conv_back RW 1024
      rw [← hdk.out] at hcv
      go_simp
      refine hK.out _ _ (hHeld) (fun hHeld => ?_)
      clear hK K
      try simp only [Act.put, List.setIfInBounds_toArray, List.set_cons_zero, List.set_cons_succ]
      clear hcv RW
      refine wpAnyH_ready (rs := [3]) (by kernel_rfl) (by simp) ?_
      refine AllReadyH.cons (o := { dst := some 18, op := Op.build 61 #[(3, Operand.tmp 15), (4, Operand.tmp 17)], type := 61, pos := "bus.go:63", after := #[{ on := 0, ground := Ground.data }, { on := 2, ground := Ground.data }], guard := none }) rfl (fun K hK => ?_) AllReadyH.nil
      refine at_build2 rfl (.tmp 15) (.tmp 17) (by with_reducible rfl) G0 dk rfl rfl ?_
      refine hK.out _ _ (hHeld) (fun hHeld => ?_)
      clear hK K
      try simp only [Act.put, List.setIfInBounds_toArray, List.set_cons_zero, List.set_cons_succ]
      refine wpAnyH_ready (rs := [5]) (by kernel_rfl) (by simp) ?_
      refine AllReadyH.cons (o := { dst := none, op := Op.store 61 (Operand.tmp 6) (Operand.tmp 18), type := 0, pos := "bus.go:63", after := #[{ on := 4, ground := Ground.data }, { on := 3, ground := Ground.data }, { on := 0, ground := Ground.chain }, { on := 0, ground := Ground.phase }, { on := 1, ground := Ground.phase }, { on := 2, ground := Ground.phase }, { on := 3, ground := Ground.phase }, { on := 4, ground := Ground.phase }], guard := none }) rfl (fun K hK => ?_) AllReadyH.nil
      have hst := store_part x3 LB 0 (cellsV ⟨Tm.T0, Ua.U0, Dm.D0, G0, dk⟩) VB.1 (by rw [VB.2.1]; rfl) rfl
      rw [VB.2.1, hpl] at hst
      have RC := VB.set (cellsV ⟨Tm.T0, Ua.U0, Dm.D0, G0, dk⟩)
      go_simp
      refine hK.out _ _ (below_setRow hHeld hLB _) (fun hHeld => ?_)
      clear hK K
      try simp only [Act.put, List.setIfInBounds_toArray, List.set_cons_zero, List.set_cons_succ]
      clear hst VB
      generalize x3.setRow LB (cellsV ⟨Tm.T0, Ua.U0, Dm.D0, G0, dk⟩) = x6 at *
      refine wpAnyH_done (by kernel_rfl) ?_ _
      go_wp2_with fail
      go_meet
      case rel => exact ⟨LB, rfl, hide ⟨RC, hHeld⟩⟩
    refine AllReadyH.cons (o := { dst := some 17, op := Op.convert 53 9 (Operand.tmp 16), type := 9, pos := "bus.go:63", after := #[{ on := 1, ground := Ground.data }], guard := none }) rfl (fun K hK => ?_) AllReadyH.nil
    have hcv := conv_back RW 1024
    rw [← hdk.out] at hcv
    go_simp
    refine hK.out _ _ (hHeld) (fun hHeld => ?_)
    clear hK K
    try simp only [Act.put, List.setIfInBounds_toArray, List.set_cons_zero, List.set_cons_succ]
    clear hcv RW
    refine wpAnyH_ready (rs := [0]) (by kernel_rfl) (by simp) ?_
    refine AllReadyH.cons (o := { dst := some 15, op := Op.call { callee := Callee.value (Operand.func 13), args := #[Operand.const (Value.int IntKind.u32 0)], argTypes := #[23] }, type := 51, pos := "bus.go:63", after := #[], guard := none }) rfl (fun K hK => ?_) AllReadyH.nil
    go_simp
    refine (cs.out _).mono ?_
    rintro e x4 ⟨rfl, hn⟩
    replace VB := VB.on hn
    go_wp2_with fail
    refine hK.out _ _ (onto hHeld (Nat.le_refl _) hn) (fun hHeld => ?_)
    clear hK K
    try simp only [Act.put, List.setIfInBounds_toArray, List.set_cons_zero, List.set_cons_succ]
    clear hn
    refine wpAnyH_ready (rs := [3]) (by kernel_rfl) (by simp) ?_
    refine AllReadyH.cons (o := { dst := some 18, op := Op.build 61 #[(3, Operand.tmp 15), (4, Operand.tmp 17)], type := 61, pos := "bus.go:63", after := #[{ on := 0, ground := Ground.data }, { on := 2, ground := Ground.data }], guard := none }) rfl (fun K hK => ?_) AllReadyH.nil
    refine at_build2 rfl (.tmp 15) (.tmp 17) (by with_reducible rfl) G0 dk rfl rfl ?_
    refine hK.out _ _ (hHeld) (fun hHeld => ?_)
    clear hK K
    try simp only [Act.put, List.setIfInBounds_toArray, List.set_cons_zero, List.set_cons_succ]
    refine wpAnyH_ready (rs := [5]) (by kernel_rfl) (by simp) ?_
    refine AllReadyH.cons (o := { dst := none, op := Op.store 61 (Operand.tmp 6) (Operand.tmp 18), type := 0, pos := "bus.go:63", after := #[{ on := 4, ground := Ground.data }, { on := 3, ground := Ground.data }, { on := 0, ground := Ground.chain }, { on := 0, ground := Ground.phase }, { on := 1, ground := Ground.phase }, { on := 2, ground := Ground.phase }, { on := 3, ground := Ground.phase }, { on := 4, ground := Ground.phase }], guard := none }) rfl (fun K hK => ?_) AllReadyH.nil
    have hst := store_part x4 LB 0 (cellsV ⟨Tm.T0, Ua.U0, Dm.D0, G0, dk⟩) VB.1 (by rw [VB.2.1]; rfl) rfl
    rw [VB.2.1, hpl] at hst
    have RC := VB.set (cellsV ⟨Tm.T0, Ua.U0, Dm.D0, G0, dk⟩)
    go_simp
    refine hK.out _ _ (below_setRow hHeld hLB _) (fun hHeld => ?_)
    clear hK K
    try simp only [Act.put, List.setIfInBounds_toArray, List.set_cons_zero, List.set_cons_succ]
    clear hst VB
    generalize x4.setRow LB (cellsV ⟨Tm.T0, Ua.U0, Dm.D0, G0, dk⟩) = x6 at *
    refine wpAnyH_done (by kernel_rfl) ?_ _
    go_wp2_with fail
    go_meet
    case rel => exact ⟨LB, rfl, hide ⟨RC, hHeld⟩⟩

  case rest =>
    obtain ⟨LB, rfl, HB⟩ := hcut
    obtain ⟨r1, r2⟩ := And.intro HB.out.1.1 HB.out.1.2.1
    have M2 := hide (M.out.on HB.out.2)
    have b2 := hide (onto b1.out (Nat.le_refl _) HB.out.2)
    have hz := b2.out.size
    clear HB M b1 hdk hV cs
    go_wp2_with (refine wpList_buildB rfl (.tmp 19) (.tmp 20) (by with_reducible rfl) ⟨Tm.T0, Ua.U0, Dm.D0, G0, dk⟩ p rfl rfl ?_)
    go_ret2
    exact ⟨_, p, g, rfl, Bus.made M2.out hW.out _, hz, hp, hg, onto b2.out (Nat.le_refl _) (grow _ _)⟩

end Go.Proofs.YtmegghgjllbamaaGreatDoor
