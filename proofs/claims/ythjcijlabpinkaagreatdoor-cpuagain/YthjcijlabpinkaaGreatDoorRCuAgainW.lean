/- THE STAGE'S THEOREM: no guest makes a step fail; one state, with one bus's state, has one next one: stepped again from the same they are the same; R[0] stays 0, and each step is counted. -/
import Derived.Test.YthjcijlabpinkaaGreatDoorRCuCounted
import Derived.Test.YthjcijlabpinkaaGreatDoorRBuClone
import Derived.Test.YthjcijlabpinkaaGreatDoorRBuDev
import Derived.Deep.RegionHeld3
import Derived.Deep.CutRange
namespace Go.Proofs.YthjcijlabpinkaaGreatDoor
open Go.RowKit
set_option linter.unusedVariables false
set_option maxRecDepth 100000
set_option linter.unusedSimpArgs false

theorem Mach.keep {x y : World} {cb bb p g n cp : Nat} {m : Mc} (h : Mach x cb bb p g n cp m) {l : List Nat} (k : Kept l x y) (h1 : cb ∉ l) (h2 : bb ∉ l) (h3 : p ∉ l) (h4 : g ∉ l) (h5 : ∀ i, i ∈ l → 2 ≤ i) : Mach y cb bb p g n cp m :=
  ⟨h.bx.kept k h1, h.bus.keep k h2 h3 h4, h.wc, Tabs.kept h.tb k h5, h.nb, h.np, h.ng, h.c2, h.b2, h.g2⟩

theorem MOwn.keep {w x y : World} {cb b p g : Nat} {m : Mc} (h : MOwn w x cb b p g m) {l : List Nat} (k : Kept l x y) (h1 : cb ∉ l) (h2 : b ∉ l) (h3 : p ∉ l) (h4 : g ∉ l) (h5 : ∀ i, i ∈ l → w.heap.size ≤ i) : MOwn w y cb b p g m :=
  ⟨h.ma.keep k h1 h2 h3 h4 (fun i hi => Nat.le_trans h.two (h5 i hi)), h.z, Kept.below h.be k (Nat.le_refl _) h5, h.zc, h.zb, h.zp, h.zg, h.two⟩

structure Ag (W0 x : World) (N Lc b p g : Nat) (m : Mc) (Lw Ld b2 p2 g2 c2 : Nat) : Prop where
  o : MOwn W0 x Lc b p g m
  bw : Box x Lw (cellsC m.c)
  bd : Box x Ld (cellsC m.c)
  bus : Bus x b2 p2 g2 8 c2 m.v m.B m.D
  lt : Lc < N ∧ b < N ∧ p < N ∧ g < N
  ge : N ≤ Lw ∧ N ≤ Ld ∧ N ≤ b2 ∧ N ≤ p2 ∧ N ≤ g2
  ne : Lw ≠ Ld ∧ Lw ≠ b2 ∧ Lw ≠ p2 ∧ Lw ≠ g2 ∧ Ld ≠ b2 ∧ Ld ≠ p2 ∧ Ld ≠ g2

set_option maxHeartbeats 4000000 in
set_option maxRecDepth 100000 in
theorem again_walk (w : World) (c : Cs) (sw : Value) (dev : ByteArray) (se : Value) (st : Int) (zs : List Int) (es : List Ev) (hc : Wc c) (hw : IsWords w sw zs) (hd : dev.size ≤ maxLen) (he : IsEvents w se es) (hst : (Lit.int .i64 st).wf = true) (tb : De.Tabs w) :
    Calls Tryz.prog 7 #[.agg (cellsWo c sw dev se st)] w fun e w' => e = .returned (.bool true) ∧ Below w.heap.size w w' := by
  obtain ⟨z1, z2, z3, z4, z5, z6, z7, z8, z9, z10, z11, z12, z13, z14, z15⟩ := cSizes
  obtain ⟨t1, t2, t3, t4, t5, t6, t7, t8, t9⟩ := rowRules
  obtain ⟨f1, f2, f3, f4, f5, f6, f7, f8, f9⟩ := cWhole
  obtain ⟨zw, zw0⟩ := woRules
  obtain ⟨q, f, hq, -, cs1, cs2⟩ := sets_same dev hd V0 V0_w
  have b0 := hide (grow w (.cells (cellsWo c sw dev se st) 41))
  have hw1 : IsWords (w.alloc (.cells (cellsWo c sw dev se st) 41)) sw zs := hw.on b0.out
  have cl := hide (laid_any _ c sw se dev st zs hw1 q f hq cs1 cs2)
  have cg := hide (fun x => began_any x c sw se dev st)
  have hdw := hide (zed_w hc)
  have hd0 := hide (zed_0 c)
  generalize zed c = d at *
  have X0 := hide (Box.new w (cellsWo c sw dev se st) 41)
  have tb0 := hide (tb.on b0.out)
  obtain ⟨-, -, -, g66, -, -⟩ := woParts c sw dev se st
  obtain ⟨y1, y2⟩ := woWhole c sw dev se st
  generalize cellsWo c sw dev se st = CW at *
  clear hw hw1 hd he hq cs1 cs2 tb hc
  go_enter Tryz.func7, Tryz.ntmps7
  go_wp2_with fail
  generalize w.alloc (.cells CW 41) = W0 at *
  refine cl.out.mono ?_
  rintro e w1 ⟨b, p, g, b', p', gb, gd, rfl, S⟩
  generalize fillW zs (min zs.length 512) = BB at *
  generalize markW (min zs.length 512) = DD at *
  have X1 := X0.out.on S.o1.be
  replace S := hide S
  clear cl
  obtain ⟨r1, r2, r3⟩ := X1
  go_wp2_with fail
  refine (cg.out _).mono ?_
  rintro e w2 ⟨rfl, b2⟩
  have U0 : Hid (MOwn W0 (w2.alloc (.cells (cellsC d) 31)) w2.heap.size b p g ⟨d, q, BB, DD⟩) := hide (MOwn.made S.out b2 tb0.out hdw.out hd0.out _)
  have X2 : Hid (Box W0 w.heap.size CW) := X0
  clear S b2 cg hdw hd0 r1 r2 r3 X0
  go_wp2_with fail
  generalize w2.heap.size = Lc at *
  generalize w2.alloc (.cells (cellsC d) 31) = w3 at *
  go_loopw [6] (fun i wr => ∃ (k : Nat) (m : Mc), k ≤ 200 ∧ i = .int .i64 k ∧ Hid (MOwn W0 wr Lc b p g m)) (fun i _ => 200 - (intOf i).toNat)
  case atStart => exact ⟨0, _, by omega, rfl, U0⟩
  case round =>
    clear U0
    obtain ⟨k, m, hk, rfl, O⟩ := hrel
    have l66 : wr.cell? ⟨w.heap.size, 66, none⟩ = some (.int .i64 st) := by rw [(X2.out.on O.out.be).cell]; exact g66
    by_cases hc : (k : Int) < st ∧ (k : Int) < 200
    · obtain ⟨h1, h2⟩ := hc
      have d1 : decide ((k : Int) < st) = true := by simpa using h1
      have d2 : decide ((k : Int) < 200) = true := by simpa using h2
      obtain ⟨r1, r2, r3⟩ := O.out.ma.bx
      go_wp2_with fail
      go_cut [7, 8, 9] from 30 to 34 (fun s7 s8 s9 x => ∃ Lw Ld b2 p2 g2 c2, s7 = .pointer (some ⟨Lw, 0, none⟩) ∧ s8 = .pointer (some ⟨Ld, 0, none⟩) ∧ s9 = .pointer (some ⟨b2, 0, none⟩) ∧ Hid (Ag W0 x wr.heap.size Lc b p g m Lw Ld b2 p2 g2 c2))
      case first =>
        clear r1 r2 r3 l66
        refine wp_region_held_drew (S := fun x => Box x Lc (cellsC m.c) ∧ Below wr.heap.size wr x) (by kernel_rfl) ⟨O.out.ma.bx.drew, (Below.refl _ wr).drew⟩ (fun hHeld => ?_)
        have q1 := O.out.ma.bx.2.2
        have q2 := O.out.ma.bus.lt
        have q3 := O.out.ma.bus.m.zp
        have q4 := O.out.ma.bus.m.zg
        have q5 := O.out.be.size
        replace O := hide (O.out.on (Below.refl _ wr).drew)
        have q6 : wr.heap.size ≤ wr.drew.heap.size := Nat.le_refl _
        generalize wr.drew = xd at *
        refine wpAnyH_take (i := 0) (oi := ⟨some 30, .load 31 (.tmp 5), 31, "law.go:137", #[], none⟩) (v := ?_) rfl (by kernel_rfl) (by kernel_rfl) (by kernel_rfl) (fun _ _ _ h => h) (Or.inl ⟨by rfl, ?_⟩) (by assumption) ?_
        rotate_left
        · intro y hSw
          have q0 := hSw.1.loads 0 N63 (f3 m.c) (f6 m.c)
          go_simp
          try with_reducible rfl
        try simp only [Act.put, List.setIfInBounds_toArray, List.set_cons_zero, List.set_cons_succ]
        refine wpAnyH_take (i := 1) (oi := ⟨some 31, .load 31 (.tmp 5), 31, "law.go:137", #[⟨6, .gcOnly Departure.lateStores⟩], none⟩) (v := ?_) rfl (by kernel_rfl) (by kernel_rfl) (by kernel_rfl) (fun _ _ _ h => h) (Or.inl ⟨by rfl, ?_⟩) (by assumption) ?_
        rotate_left
        · intro y hSw
          have q0 := hSw.1.loads 0 N63 (f3 m.c) (f6 m.c)
          go_simp
          try with_reducible rfl
        try simp only [Act.put, List.setIfInBounds_toArray, List.set_cons_zero, List.set_cons_succ]
        refine wpAnyH_take (i := 2) (oi := ⟨some 32, .move (.tmp 3), 42, "law.go:137", #[], none⟩) (v := ?_) rfl (by kernel_rfl) (by kernel_rfl) (by kernel_rfl) (fun _ _ _ h => h) (Or.inl ⟨by rfl, ?_⟩) (by assumption) ?_
        rotate_left
        · intro y hSw
          have q0 := hSw.1.loads 0 N63 (f3 m.c) (f6 m.c)
          go_simp
          try with_reducible rfl
        try simp only [Act.put, List.setIfInBounds_toArray, List.set_cons_zero, List.set_cons_succ]
        refine wpAnyH_ready (rs := [3, 4, 5]) (by kernel_rfl) (by simp) ?_
        refine AllReadyH.cons (o := ⟨some 33, .call { callee := .value (.func 33), args := #[.tmp 32], argTypes := #[42] }, 42, "law.go:137", #[⟨2, .data⟩], none⟩) rfl (fun K hK => ?_) ?_
        · go_simp
          refine (busClone_any O.out.ma.bus).mono ?_
          rintro e x1 ⟨b2, p2, g2, c2, rfl, hB2, zb2, zp2, zg2, hn⟩
          replace O := hide (O.out.on hn)
          have lb2 := hB2.lt
          have lp2 := hB2.m.zp
          have lg2 := hB2.m.zg
          have hsn := hn.size
          replace hB2 := hide hB2
          go_wp2_with fail
          refine hK.out _ _ (⟨hHeld.1.on hn, onto hHeld.2 (Nat.le_refl _) hn⟩) (fun hHeld => ?_)
          clear hK K
          try simp only [Act.put, List.setIfInBounds_toArray, List.set_cons_zero, List.set_cons_succ]
          clear hn
          refine wpAnyH_ready (rs := [4, 5]) (by kernel_rfl) (by simp) ?_
          refine AllReadyH.cons (o := ⟨some 7, .alloc 31, 0, "law.go:137", #[], none⟩) rfl (fun K hK => ?_) ?_
          · have gA := grow x1 (.cells (cellsC CZ) 31)
            replace O := hide (O.out.on gA)
            replace hB2 := hide (hB2.out.on gA)
            have Z7 := hide (Box.new x1 (cellsC CZ) 31)
            have sA7 : x1.heap.size < (x1.alloc (.cells (cellsC CZ) 31)).heap.size := by rw [World.size_alloc]; omega
            go_simp
            refine hK.out _ _ (⟨hHeld.1.on gA, onto hHeld.2 (Nat.le_refl _) gA⟩) (fun hHeld => ?_)
            clear hK K
            try simp only [Act.put, List.setIfInBounds_toArray, List.set_cons_zero, List.set_cons_succ]
            clear gA
            generalize x1.alloc (.cells (cellsC CZ) 31) = x2 at *
            generalize x1.heap.size = L7 at *
            refine wpAnyH_ready (rs := [5]) (by kernel_rfl) (by simp) ?_
            refine AllReadyH.cons (o := ⟨some 8, .alloc 31, 0, "law.go:137", #[], none⟩) rfl (fun K hK => ?_) AllReadyH.nil
            have gA := grow x2 (.cells (cellsC CZ) 31)
            replace O := hide (O.out.on gA)
            replace Z7 := hide (Z7.out.on gA)
            replace hB2 := hide (hB2.out.on gA)
            have Z8 := hide (Box.new x2 (cellsC CZ) 31)
            have sA8 : x2.heap.size < (x2.alloc (.cells (cellsC CZ) 31)).heap.size := by rw [World.size_alloc]; omega
            go_simp
            refine hK.out _ _ (⟨hHeld.1.on gA, onto hHeld.2 (Nat.le_refl _) gA⟩) (fun hHeld => ?_)
            clear hK K
            try simp only [Act.put, List.setIfInBounds_toArray, List.set_cons_zero, List.set_cons_succ]
            clear gA
            generalize x2.alloc (.cells (cellsC CZ) 31) = x3 at *
            generalize x2.heap.size = L8 at *
            refine wpAnyH_ready (rs := [6]) (by kernel_rfl) (by simp) ?_
            refine AllReadyH.cons (o := ⟨none, .store 31 (.tmp 7) (.tmp 30), 0, "law.go:137", #[⟨4, .data⟩, ⟨0, .data⟩, ⟨3, .chain⟩, ⟨0, .phase⟩, ⟨1, .textOnly Departure.lateStores⟩, ⟨2, .textOnly Departure.lateStores⟩, ⟨3, .phase⟩, ⟨4, .phase⟩, ⟨5, .phase⟩], none⟩) rfl (fun K hK => ?_) AllReadyH.nil
            have hst := store_part x3 L7 0 (cellsC m.c) Z7.out.1 (by rw [Z7.out.2.1]; rfl) rfl
            rw [Z7.out.2.1, f9] at hst
            have O2 := hide (O.out.far L7 (cellsC m.c) (by omega) (by omega) (by omega) (by omega) (by omega))
            have Y := hide (Z7.out.set (cellsC m.c))
            replace Z8 := hide (Z8.out.far L7 (cellsC m.c) (by omega))
            replace hB2 := hide (hB2.out.keep (Kept.set (l := [L7]) x3 L7 (cellsC m.c) (by simp)) (by simp; omega) (by simp; omega) (by simp; omega))
            have hH2 := hHeld.1.far L7 (cellsC m.c) (by omega)
            have hH3 := below_setRow (g := L7) hHeld.2 (by omega) (cellsC m.c)
            go_simp
            refine hK.out _ _ (⟨hH2, hH3⟩) (fun hHeld => ?_)
            clear hK K
            try simp only [Act.put, List.setIfInBounds_toArray, List.set_cons_zero, List.set_cons_succ]
            clear hst O Z7 hH2 hH3
            have O := O2
            have Z7 := Y
            clear O2 Y
            generalize x3.setRow L7 (cellsC m.c) = x4 at *
            refine wpAnyH_ready (rs := [7]) (by kernel_rfl) (by simp) ?_
            refine AllReadyH.cons (o := ⟨none, .store 31 (.tmp 8) (.tmp 31), 0, "law.go:137", #[⟨5, .data⟩, ⟨1, .data⟩, ⟨6, .chain⟩, ⟨0, .phase⟩, ⟨1, .phase⟩, ⟨2, .textOnly Departure.lateStores⟩, ⟨3, .phase⟩, ⟨4, .phase⟩, ⟨5, .phase⟩, ⟨6, .phase⟩], none⟩) rfl (fun K hK => ?_) AllReadyH.nil
            have hst := store_part x4 L8 0 (cellsC m.c) Z8.out.1 (by rw [Z8.out.2.1]; rfl) rfl
            rw [Z8.out.2.1, f9] at hst
            have O2 := hide (O.out.far L8 (cellsC m.c) (by omega) (by omega) (by omega) (by omega) (by omega))
            have Y := hide (Z8.out.set (cellsC m.c))
            replace Z7 := hide (Z7.out.far L8 (cellsC m.c) (by omega))
            replace hB2 := hide (hB2.out.keep (Kept.set (l := [L8]) x4 L8 (cellsC m.c) (by simp)) (by simp; omega) (by simp; omega) (by simp; omega))
            have hH2 := hHeld.1.far L8 (cellsC m.c) (by omega)
            have hH3 := below_setRow (g := L8) hHeld.2 (by omega) (cellsC m.c)
            go_simp
            refine hK.out _ _ (⟨hH2, hH3⟩) (fun hHeld => ?_)
            clear hK K
            try simp only [Act.put, List.setIfInBounds_toArray, List.set_cons_zero, List.set_cons_succ]
            clear hst O Z8 hH2 hH3
            have O := O2
            have Z8 := Y
            clear O2 Y
            generalize x4.setRow L8 (cellsC m.c) = x5 at *
            refine wpAnyH_take (i := 8) (oi := ⟨some 9, .assign (.tmp 33), 42, "law.go:137", #[⟨3, .data⟩, ⟨7, .chain⟩, ⟨0, .phase⟩, ⟨1, .phase⟩, ⟨2, .phase⟩, ⟨3, .phase⟩, ⟨4, .phase⟩, ⟨5, .phase⟩, ⟨6, .phase⟩, ⟨7, .phase⟩], none⟩) (v := ?_) rfl (by kernel_rfl) (by kernel_rfl) (by kernel_rfl) (fun _ _ _ h => h) (Or.inl ⟨by rfl, ?_⟩) (by assumption) ?_
            rotate_left
            · intro y hSw
              have q0 := hSw.1.loads 0 N63 (f3 m.c) (f6 m.c)
              go_simp
              try with_reducible rfl
            try simp only [Act.put, List.setIfInBounds_toArray, List.set_cons_zero, List.set_cons_succ]
            refine wpAnyH_done (by kernel_rfl) ?_ _
            go_wp2_with fail
            go_meet
            case rel => exact ⟨L7, L8, b2, p2, g2, c2, rfl, rfl, rfl, hide ⟨O.out, Z7.out, Z8.out, hB2.out, ⟨by omega, by omega, by omega, by omega⟩, ⟨by omega, by omega, by omega, by omega, by omega⟩, ⟨by omega, by omega, by omega, by omega, by omega, by omega, by omega⟩⟩⟩
          refine AllReadyH.cons (o := ⟨some 8, .alloc 31, 0, "law.go:137", #[], none⟩) rfl (fun K hK => ?_) AllReadyH.nil
          have gA := grow x1 (.cells (cellsC CZ) 31)
          replace O := hide (O.out.on gA)
          replace hB2 := hide (hB2.out.on gA)
          have Z8 := hide (Box.new x1 (cellsC CZ) 31)
          have sA8 : x1.heap.size < (x1.alloc (.cells (cellsC CZ) 31)).heap.size := by rw [World.size_alloc]; omega
          go_simp
          refine hK.out _ _ (⟨hHeld.1.on gA, onto hHeld.2 (Nat.le_refl _) gA⟩) (fun hHeld => ?_)
          clear hK K
          try simp only [Act.put, List.setIfInBounds_toArray, List.set_cons_zero, List.set_cons_succ]
          clear gA
          generalize x1.alloc (.cells (cellsC CZ) 31) = x2 at *
          generalize x1.heap.size = L8 at *
          refine wpAnyH_ready (rs := [4]) (by kernel_rfl) (by simp) ?_
          refine AllReadyH.cons (o := ⟨some 7, .alloc 31, 0, "law.go:137", #[], none⟩) rfl (fun K hK => ?_) AllReadyH.nil
          have gA := grow x2 (.cells (cellsC CZ) 31)
          replace O := hide (O.out.on gA)
          replace Z8 := hide (Z8.out.on gA)
          replace hB2 := hide (hB2.out.on gA)
          have Z7 := hide (Box.new x2 (cellsC CZ) 31)
          have sA7 : x2.heap.size < (x2.alloc (.cells (cellsC CZ) 31)).heap.size := by rw [World.size_alloc]; omega
          go_simp
          refine hK.out _ _ (⟨hHeld.1.on gA, onto hHeld.2 (Nat.le_refl _) gA⟩) (fun hHeld => ?_)
          clear hK K
          try simp only [Act.put, List.setIfInBounds_toArray, List.set_cons_zero, List.set_cons_succ]
          clear gA
          generalize x2.alloc (.cells (cellsC CZ) 31) = x3 at *
          generalize x2.heap.size = L7 at *
          refine wpAnyH_ready (rs := [6]) (by kernel_rfl) (by simp) ?_
          refine AllReadyH.cons (o := ⟨none, .store 31 (.tmp 7) (.tmp 30), 0, "law.go:137", #[⟨4, .data⟩, ⟨0, .data⟩, ⟨3, .chain⟩, ⟨0, .phase⟩, ⟨1, .textOnly Departure.lateStores⟩, ⟨2, .textOnly Departure.lateStores⟩, ⟨3, .phase⟩, ⟨4, .phase⟩, ⟨5, .phase⟩], none⟩) rfl (fun K hK => ?_) AllReadyH.nil
          have hst := store_part x3 L7 0 (cellsC m.c) Z7.out.1 (by rw [Z7.out.2.1]; rfl) rfl
          rw [Z7.out.2.1, f9] at hst
          have O2 := hide (O.out.far L7 (cellsC m.c) (by omega) (by omega) (by omega) (by omega) (by omega))
          have Y := hide (Z7.out.set (cellsC m.c))
          replace Z8 := hide (Z8.out.far L7 (cellsC m.c) (by omega))
          replace hB2 := hide (hB2.out.keep (Kept.set (l := [L7]) x3 L7 (cellsC m.c) (by simp)) (by simp; omega) (by simp; omega) (by simp; omega))
          have hH2 := hHeld.1.far L7 (cellsC m.c) (by omega)
          have hH3 := below_setRow (g := L7) hHeld.2 (by omega) (cellsC m.c)
          go_simp
          refine hK.out _ _ (⟨hH2, hH3⟩) (fun hHeld => ?_)
          clear hK K
          try simp only [Act.put, List.setIfInBounds_toArray, List.set_cons_zero, List.set_cons_succ]
          clear hst O Z7 hH2 hH3
          have O := O2
          have Z7 := Y
          clear O2 Y
          generalize x3.setRow L7 (cellsC m.c) = x4 at *
          refine wpAnyH_ready (rs := [7]) (by kernel_rfl) (by simp) ?_
          refine AllReadyH.cons (o := ⟨none, .store 31 (.tmp 8) (.tmp 31), 0, "law.go:137", #[⟨5, .data⟩, ⟨1, .data⟩, ⟨6, .chain⟩, ⟨0, .phase⟩, ⟨1, .phase⟩, ⟨2, .textOnly Departure.lateStores⟩, ⟨3, .phase⟩, ⟨4, .phase⟩, ⟨5, .phase⟩, ⟨6, .phase⟩], none⟩) rfl (fun K hK => ?_) AllReadyH.nil
          have hst := store_part x4 L8 0 (cellsC m.c) Z8.out.1 (by rw [Z8.out.2.1]; rfl) rfl
          rw [Z8.out.2.1, f9] at hst
          have O2 := hide (O.out.far L8 (cellsC m.c) (by omega) (by omega) (by omega) (by omega) (by omega))
          have Y := hide (Z8.out.set (cellsC m.c))
          replace Z7 := hide (Z7.out.far L8 (cellsC m.c) (by omega))
          replace hB2 := hide (hB2.out.keep (Kept.set (l := [L8]) x4 L8 (cellsC m.c) (by simp)) (by simp; omega) (by simp; omega) (by simp; omega))
          have hH2 := hHeld.1.far L8 (cellsC m.c) (by omega)
          have hH3 := below_setRow (g := L8) hHeld.2 (by omega) (cellsC m.c)
          go_simp
          refine hK.out _ _ (⟨hH2, hH3⟩) (fun hHeld => ?_)
          clear hK K
          try simp only [Act.put, List.setIfInBounds_toArray, List.set_cons_zero, List.set_cons_succ]
          clear hst O Z8 hH2 hH3
          have O := O2
          have Z8 := Y
          clear O2 Y
          generalize x4.setRow L8 (cellsC m.c) = x5 at *
          refine wpAnyH_take (i := 8) (oi := ⟨some 9, .assign (.tmp 33), 42, "law.go:137", #[⟨3, .data⟩, ⟨7, .chain⟩, ⟨0, .phase⟩, ⟨1, .phase⟩, ⟨2, .phase⟩, ⟨3, .phase⟩, ⟨4, .phase⟩, ⟨5, .phase⟩, ⟨6, .phase⟩, ⟨7, .phase⟩], none⟩) (v := ?_) rfl (by kernel_rfl) (by kernel_rfl) (by kernel_rfl) (fun _ _ _ h => h) (Or.inl ⟨by rfl, ?_⟩) (by assumption) ?_
          rotate_left
          · intro y hSw
            have q0 := hSw.1.loads 0 N63 (f3 m.c) (f6 m.c)
            go_simp
            try with_reducible rfl
          try simp only [Act.put, List.setIfInBounds_toArray, List.set_cons_zero, List.set_cons_succ]
          refine wpAnyH_done (by kernel_rfl) ?_ _
          go_wp2_with fail
          go_meet
          case rel => exact ⟨L7, L8, b2, p2, g2, c2, rfl, rfl, rfl, hide ⟨O.out, Z7.out, Z8.out, hB2.out, ⟨by omega, by omega, by omega, by omega⟩, ⟨by omega, by omega, by omega, by omega, by omega⟩, ⟨by omega, by omega, by omega, by omega, by omega, by omega, by omega⟩⟩⟩
        refine AllReadyH.cons (o := ⟨some 7, .alloc 31, 0, "law.go:137", #[], none⟩) rfl (fun K hK => ?_) ?_
        · have gA := grow xd (.cells (cellsC CZ) 31)
          replace O := hide (O.out.on gA)
          have Z7 := hide (Box.new xd (cellsC CZ) 31)
          have sA7 : xd.heap.size < (xd.alloc (.cells (cellsC CZ) 31)).heap.size := by rw [World.size_alloc]; omega
          go_simp
          refine hK.out _ _ (⟨hHeld.1.on gA, onto hHeld.2 (Nat.le_refl _) gA⟩) (fun hHeld => ?_)
          clear hK K
          try simp only [Act.put, List.setIfInBounds_toArray, List.set_cons_zero, List.set_cons_succ]
          clear gA
          generalize xd.alloc (.cells (cellsC CZ) 31) = x1 at *
          generalize xd.heap.size = L7 at *
          refine wpAnyH_ready (rs := [3, 5]) (by kernel_rfl) (by simp) ?_
          refine AllReadyH.cons (o := ⟨some 33, .call { callee := .value (.func 33), args := #[.tmp 32], argTypes := #[42] }, 42, "law.go:137", #[⟨2, .data⟩], none⟩) rfl (fun K hK => ?_) ?_
          · go_simp
            refine (busClone_any O.out.ma.bus).mono ?_
            rintro e x2 ⟨b2, p2, g2, c2, rfl, hB2, zb2, zp2, zg2, hn⟩
            replace O := hide (O.out.on hn)
            replace Z7 := hide (Z7.out.on hn)
            have lb2 := hB2.lt
            have lp2 := hB2.m.zp
            have lg2 := hB2.m.zg
            have hsn := hn.size
            replace hB2 := hide hB2
            go_wp2_with fail
            refine hK.out _ _ (⟨hHeld.1.on hn, onto hHeld.2 (Nat.le_refl _) hn⟩) (fun hHeld => ?_)
            clear hK K
            try simp only [Act.put, List.setIfInBounds_toArray, List.set_cons_zero, List.set_cons_succ]
            clear hn
            refine wpAnyH_ready (rs := [5]) (by kernel_rfl) (by simp) ?_
            refine AllReadyH.cons (o := ⟨some 8, .alloc 31, 0, "law.go:137", #[], none⟩) rfl (fun K hK => ?_) AllReadyH.nil
            have gA := grow x2 (.cells (cellsC CZ) 31)
            replace O := hide (O.out.on gA)
            replace Z7 := hide (Z7.out.on gA)
            replace hB2 := hide (hB2.out.on gA)
            have Z8 := hide (Box.new x2 (cellsC CZ) 31)
            have sA8 : x2.heap.size < (x2.alloc (.cells (cellsC CZ) 31)).heap.size := by rw [World.size_alloc]; omega
            go_simp
            refine hK.out _ _ (⟨hHeld.1.on gA, onto hHeld.2 (Nat.le_refl _) gA⟩) (fun hHeld => ?_)
            clear hK K
            try simp only [Act.put, List.setIfInBounds_toArray, List.set_cons_zero, List.set_cons_succ]
            clear gA
            generalize x2.alloc (.cells (cellsC CZ) 31) = x3 at *
            generalize x2.heap.size = L8 at *
            refine wpAnyH_ready (rs := [6]) (by kernel_rfl) (by simp) ?_
            refine AllReadyH.cons (o := ⟨none, .store 31 (.tmp 7) (.tmp 30), 0, "law.go:137", #[⟨4, .data⟩, ⟨0, .data⟩, ⟨3, .chain⟩, ⟨0, .phase⟩, ⟨1, .textOnly Departure.lateStores⟩, ⟨2, .textOnly Departure.lateStores⟩, ⟨3, .phase⟩, ⟨4, .phase⟩, ⟨5, .phase⟩], none⟩) rfl (fun K hK => ?_) AllReadyH.nil
            have hst := store_part x3 L7 0 (cellsC m.c) Z7.out.1 (by rw [Z7.out.2.1]; rfl) rfl
            rw [Z7.out.2.1, f9] at hst
            have O2 := hide (O.out.far L7 (cellsC m.c) (by omega) (by omega) (by omega) (by omega) (by omega))
            have Y := hide (Z7.out.set (cellsC m.c))
            replace Z8 := hide (Z8.out.far L7 (cellsC m.c) (by omega))
            replace hB2 := hide (hB2.out.keep (Kept.set (l := [L7]) x3 L7 (cellsC m.c) (by simp)) (by simp; omega) (by simp; omega) (by simp; omega))
            have hH2 := hHeld.1.far L7 (cellsC m.c) (by omega)
            have hH3 := below_setRow (g := L7) hHeld.2 (by omega) (cellsC m.c)
            go_simp
            refine hK.out _ _ (⟨hH2, hH3⟩) (fun hHeld => ?_)
            clear hK K
            try simp only [Act.put, List.setIfInBounds_toArray, List.set_cons_zero, List.set_cons_succ]
            clear hst O Z7 hH2 hH3
            have O := O2
            have Z7 := Y
            clear O2 Y
            generalize x3.setRow L7 (cellsC m.c) = x4 at *
            refine wpAnyH_ready (rs := [7]) (by kernel_rfl) (by simp) ?_
            refine AllReadyH.cons (o := ⟨none, .store 31 (.tmp 8) (.tmp 31), 0, "law.go:137", #[⟨5, .data⟩, ⟨1, .data⟩, ⟨6, .chain⟩, ⟨0, .phase⟩, ⟨1, .phase⟩, ⟨2, .textOnly Departure.lateStores⟩, ⟨3, .phase⟩, ⟨4, .phase⟩, ⟨5, .phase⟩, ⟨6, .phase⟩], none⟩) rfl (fun K hK => ?_) AllReadyH.nil
            have hst := store_part x4 L8 0 (cellsC m.c) Z8.out.1 (by rw [Z8.out.2.1]; rfl) rfl
            rw [Z8.out.2.1, f9] at hst
            have O2 := hide (O.out.far L8 (cellsC m.c) (by omega) (by omega) (by omega) (by omega) (by omega))
            have Y := hide (Z8.out.set (cellsC m.c))
            replace Z7 := hide (Z7.out.far L8 (cellsC m.c) (by omega))
            replace hB2 := hide (hB2.out.keep (Kept.set (l := [L8]) x4 L8 (cellsC m.c) (by simp)) (by simp; omega) (by simp; omega) (by simp; omega))
            have hH2 := hHeld.1.far L8 (cellsC m.c) (by omega)
            have hH3 := below_setRow (g := L8) hHeld.2 (by omega) (cellsC m.c)
            go_simp
            refine hK.out _ _ (⟨hH2, hH3⟩) (fun hHeld => ?_)
            clear hK K
            try simp only [Act.put, List.setIfInBounds_toArray, List.set_cons_zero, List.set_cons_succ]
            clear hst O Z8 hH2 hH3
            have O := O2
            have Z8 := Y
            clear O2 Y
            generalize x4.setRow L8 (cellsC m.c) = x5 at *
            refine wpAnyH_take (i := 8) (oi := ⟨some 9, .assign (.tmp 33), 42, "law.go:137", #[⟨3, .data⟩, ⟨7, .chain⟩, ⟨0, .phase⟩, ⟨1, .phase⟩, ⟨2, .phase⟩, ⟨3, .phase⟩, ⟨4, .phase⟩, ⟨5, .phase⟩, ⟨6, .phase⟩, ⟨7, .phase⟩], none⟩) (v := ?_) rfl (by kernel_rfl) (by kernel_rfl) (by kernel_rfl) (fun _ _ _ h => h) (Or.inl ⟨by rfl, ?_⟩) (by assumption) ?_
            rotate_left
            · intro y hSw
              have q0 := hSw.1.loads 0 N63 (f3 m.c) (f6 m.c)
              go_simp
              try with_reducible rfl
            try simp only [Act.put, List.setIfInBounds_toArray, List.set_cons_zero, List.set_cons_succ]
            refine wpAnyH_done (by kernel_rfl) ?_ _
            go_wp2_with fail
            go_meet
            case rel => exact ⟨L7, L8, b2, p2, g2, c2, rfl, rfl, rfl, hide ⟨O.out, Z7.out, Z8.out, hB2.out, ⟨by omega, by omega, by omega, by omega⟩, ⟨by omega, by omega, by omega, by omega, by omega⟩, ⟨by omega, by omega, by omega, by omega, by omega, by omega, by omega⟩⟩⟩
          refine AllReadyH.cons (o := ⟨some 8, .alloc 31, 0, "law.go:137", #[], none⟩) rfl (fun K hK => ?_) AllReadyH.nil
          have gA := grow x1 (.cells (cellsC CZ) 31)
          replace O := hide (O.out.on gA)
          replace Z7 := hide (Z7.out.on gA)
          have Z8 := hide (Box.new x1 (cellsC CZ) 31)
          have sA8 : x1.heap.size < (x1.alloc (.cells (cellsC CZ) 31)).heap.size := by rw [World.size_alloc]; omega
          go_simp
          refine hK.out _ _ (⟨hHeld.1.on gA, onto hHeld.2 (Nat.le_refl _) gA⟩) (fun hHeld => ?_)
          clear hK K
          try simp only [Act.put, List.setIfInBounds_toArray, List.set_cons_zero, List.set_cons_succ]
          clear gA
          generalize x1.alloc (.cells (cellsC CZ) 31) = x2 at *
          generalize x1.heap.size = L8 at *
          refine wpAnyH_ready (rs := [3]) (by kernel_rfl) (by simp) ?_
          refine AllReadyH.cons (o := ⟨some 33, .call { callee := .value (.func 33), args := #[.tmp 32], argTypes := #[42] }, 42, "law.go:137", #[⟨2, .data⟩], none⟩) rfl (fun K hK => ?_) AllReadyH.nil
          go_simp
          refine (busClone_any O.out.ma.bus).mono ?_
          rintro e x3 ⟨b2, p2, g2, c2, rfl, hB2, zb2, zp2, zg2, hn⟩
          replace O := hide (O.out.on hn)
          replace Z7 := hide (Z7.out.on hn)
          replace Z8 := hide (Z8.out.on hn)
          have lb2 := hB2.lt
          have lp2 := hB2.m.zp
          have lg2 := hB2.m.zg
          have hsn := hn.size
          replace hB2 := hide hB2
          go_wp2_with fail
          refine hK.out _ _ (⟨hHeld.1.on hn, onto hHeld.2 (Nat.le_refl _) hn⟩) (fun hHeld => ?_)
          clear hK K
          try simp only [Act.put, List.setIfInBounds_toArray, List.set_cons_zero, List.set_cons_succ]
          clear hn
          refine wpAnyH_ready (rs := [6]) (by kernel_rfl) (by simp) ?_
          refine AllReadyH.cons (o := ⟨none, .store 31 (.tmp 7) (.tmp 30), 0, "law.go:137", #[⟨4, .data⟩, ⟨0, .data⟩, ⟨3, .chain⟩, ⟨0, .phase⟩, ⟨1, .textOnly Departure.lateStores⟩, ⟨2, .textOnly Departure.lateStores⟩, ⟨3, .phase⟩, ⟨4, .phase⟩, ⟨5, .phase⟩], none⟩) rfl (fun K hK => ?_) AllReadyH.nil
          have hst := store_part x3 L7 0 (cellsC m.c) Z7.out.1 (by rw [Z7.out.2.1]; rfl) rfl
          rw [Z7.out.2.1, f9] at hst
          have O2 := hide (O.out.far L7 (cellsC m.c) (by omega) (by omega) (by omega) (by omega) (by omega))
          have Y := hide (Z7.out.set (cellsC m.c))
          replace Z8 := hide (Z8.out.far L7 (cellsC m.c) (by omega))
          replace hB2 := hide (hB2.out.keep (Kept.set (l := [L7]) x3 L7 (cellsC m.c) (by simp)) (by simp; omega) (by simp; omega) (by simp; omega))
          have hH2 := hHeld.1.far L7 (cellsC m.c) (by omega)
          have hH3 := below_setRow (g := L7) hHeld.2 (by omega) (cellsC m.c)
          go_simp
          refine hK.out _ _ (⟨hH2, hH3⟩) (fun hHeld => ?_)
          clear hK K
          try simp only [Act.put, List.setIfInBounds_toArray, List.set_cons_zero, List.set_cons_succ]
          clear hst O Z7 hH2 hH3
          have O := O2
          have Z7 := Y
          clear O2 Y
          generalize x3.setRow L7 (cellsC m.c) = x4 at *
          refine wpAnyH_ready (rs := [7]) (by kernel_rfl) (by simp) ?_
          refine AllReadyH.cons (o := ⟨none, .store 31 (.tmp 8) (.tmp 31), 0, "law.go:137", #[⟨5, .data⟩, ⟨1, .data⟩, ⟨6, .chain⟩, ⟨0, .phase⟩, ⟨1, .phase⟩, ⟨2, .textOnly Departure.lateStores⟩, ⟨3, .phase⟩, ⟨4, .phase⟩, ⟨5, .phase⟩, ⟨6, .phase⟩], none⟩) rfl (fun K hK => ?_) AllReadyH.nil
          have hst := store_part x4 L8 0 (cellsC m.c) Z8.out.1 (by rw [Z8.out.2.1]; rfl) rfl
          rw [Z8.out.2.1, f9] at hst
          have O2 := hide (O.out.far L8 (cellsC m.c) (by omega) (by omega) (by omega) (by omega) (by omega))
          have Y := hide (Z8.out.set (cellsC m.c))
          replace Z7 := hide (Z7.out.far L8 (cellsC m.c) (by omega))
          replace hB2 := hide (hB2.out.keep (Kept.set (l := [L8]) x4 L8 (cellsC m.c) (by simp)) (by simp; omega) (by simp; omega) (by simp; omega))
          have hH2 := hHeld.1.far L8 (cellsC m.c) (by omega)
          have hH3 := below_setRow (g := L8) hHeld.2 (by omega) (cellsC m.c)
          go_simp
          refine hK.out _ _ (⟨hH2, hH3⟩) (fun hHeld => ?_)
          clear hK K
          try simp only [Act.put, List.setIfInBounds_toArray, List.set_cons_zero, List.set_cons_succ]
          clear hst O Z8 hH2 hH3
          have O := O2
          have Z8 := Y
          clear O2 Y
          generalize x4.setRow L8 (cellsC m.c) = x5 at *
          refine wpAnyH_take (i := 8) (oi := ⟨some 9, .assign (.tmp 33), 42, "law.go:137", #[⟨3, .data⟩, ⟨7, .chain⟩, ⟨0, .phase⟩, ⟨1, .phase⟩, ⟨2, .phase⟩, ⟨3, .phase⟩, ⟨4, .phase⟩, ⟨5, .phase⟩, ⟨6, .phase⟩, ⟨7, .phase⟩], none⟩) (v := ?_) rfl (by kernel_rfl) (by kernel_rfl) (by kernel_rfl) (fun _ _ _ h => h) (Or.inl ⟨by rfl, ?_⟩) (by assumption) ?_
          rotate_left
          · intro y hSw
            have q0 := hSw.1.loads 0 N63 (f3 m.c) (f6 m.c)
            go_simp
            try with_reducible rfl
          try simp only [Act.put, List.setIfInBounds_toArray, List.set_cons_zero, List.set_cons_succ]
          refine wpAnyH_done (by kernel_rfl) ?_ _
          go_wp2_with fail
          go_meet
          case rel => exact ⟨L7, L8, b2, p2, g2, c2, rfl, rfl, rfl, hide ⟨O.out, Z7.out, Z8.out, hB2.out, ⟨by omega, by omega, by omega, by omega⟩, ⟨by omega, by omega, by omega, by omega, by omega⟩, ⟨by omega, by omega, by omega, by omega, by omega, by omega, by omega⟩⟩⟩
        refine AllReadyH.cons (o := ⟨some 8, .alloc 31, 0, "law.go:137", #[], none⟩) rfl (fun K hK => ?_) AllReadyH.nil
        have gA := grow xd (.cells (cellsC CZ) 31)
        replace O := hide (O.out.on gA)
        have Z8 := hide (Box.new xd (cellsC CZ) 31)
        have sA8 : xd.heap.size < (xd.alloc (.cells (cellsC CZ) 31)).heap.size := by rw [World.size_alloc]; omega
        go_simp
        refine hK.out _ _ (⟨hHeld.1.on gA, onto hHeld.2 (Nat.le_refl _) gA⟩) (fun hHeld => ?_)
        clear hK K
        try simp only [Act.put, List.setIfInBounds_toArray, List.set_cons_zero, List.set_cons_succ]
        clear gA
        generalize xd.alloc (.cells (cellsC CZ) 31) = x1 at *
        generalize xd.heap.size = L8 at *
        refine wpAnyH_ready (rs := [3, 4]) (by kernel_rfl) (by simp) ?_
        refine AllReadyH.cons (o := ⟨some 33, .call { callee := .value (.func 33), args := #[.tmp 32], argTypes := #[42] }, 42, "law.go:137", #[⟨2, .data⟩], none⟩) rfl (fun K hK => ?_) ?_
        · go_simp
          refine (busClone_any O.out.ma.bus).mono ?_
          rintro e x2 ⟨b2, p2, g2, c2, rfl, hB2, zb2, zp2, zg2, hn⟩
          replace O := hide (O.out.on hn)
          replace Z8 := hide (Z8.out.on hn)
          have lb2 := hB2.lt
          have lp2 := hB2.m.zp
          have lg2 := hB2.m.zg
          have hsn := hn.size
          replace hB2 := hide hB2
          go_wp2_with fail
          refine hK.out _ _ (⟨hHeld.1.on hn, onto hHeld.2 (Nat.le_refl _) hn⟩) (fun hHeld => ?_)
          clear hK K
          try simp only [Act.put, List.setIfInBounds_toArray, List.set_cons_zero, List.set_cons_succ]
          clear hn
          refine wpAnyH_ready (rs := [4]) (by kernel_rfl) (by simp) ?_
          refine AllReadyH.cons (o := ⟨some 7, .alloc 31, 0, "law.go:137", #[], none⟩) rfl (fun K hK => ?_) AllReadyH.nil
          have gA := grow x2 (.cells (cellsC CZ) 31)
          replace O := hide (O.out.on gA)
          replace Z8 := hide (Z8.out.on gA)
          replace hB2 := hide (hB2.out.on gA)
          have Z7 := hide (Box.new x2 (cellsC CZ) 31)
          have sA7 : x2.heap.size < (x2.alloc (.cells (cellsC CZ) 31)).heap.size := by rw [World.size_alloc]; omega
          go_simp
          refine hK.out _ _ (⟨hHeld.1.on gA, onto hHeld.2 (Nat.le_refl _) gA⟩) (fun hHeld => ?_)
          clear hK K
          try simp only [Act.put, List.setIfInBounds_toArray, List.set_cons_zero, List.set_cons_succ]
          clear gA
          generalize x2.alloc (.cells (cellsC CZ) 31) = x3 at *
          generalize x2.heap.size = L7 at *
          refine wpAnyH_ready (rs := [6]) (by kernel_rfl) (by simp) ?_
          refine AllReadyH.cons (o := ⟨none, .store 31 (.tmp 7) (.tmp 30), 0, "law.go:137", #[⟨4, .data⟩, ⟨0, .data⟩, ⟨3, .chain⟩, ⟨0, .phase⟩, ⟨1, .textOnly Departure.lateStores⟩, ⟨2, .textOnly Departure.lateStores⟩, ⟨3, .phase⟩, ⟨4, .phase⟩, ⟨5, .phase⟩], none⟩) rfl (fun K hK => ?_) AllReadyH.nil
          have hst := store_part x3 L7 0 (cellsC m.c) Z7.out.1 (by rw [Z7.out.2.1]; rfl) rfl
          rw [Z7.out.2.1, f9] at hst
          have O2 := hide (O.out.far L7 (cellsC m.c) (by omega) (by omega) (by omega) (by omega) (by omega))
          have Y := hide (Z7.out.set (cellsC m.c))
          replace Z8 := hide (Z8.out.far L7 (cellsC m.c) (by omega))
          replace hB2 := hide (hB2.out.keep (Kept.set (l := [L7]) x3 L7 (cellsC m.c) (by simp)) (by simp; omega) (by simp; omega) (by simp; omega))
          have hH2 := hHeld.1.far L7 (cellsC m.c) (by omega)
          have hH3 := below_setRow (g := L7) hHeld.2 (by omega) (cellsC m.c)
          go_simp
          refine hK.out _ _ (⟨hH2, hH3⟩) (fun hHeld => ?_)
          clear hK K
          try simp only [Act.put, List.setIfInBounds_toArray, List.set_cons_zero, List.set_cons_succ]
          clear hst O Z7 hH2 hH3
          have O := O2
          have Z7 := Y
          clear O2 Y
          generalize x3.setRow L7 (cellsC m.c) = x4 at *
          refine wpAnyH_ready (rs := [7]) (by kernel_rfl) (by simp) ?_
          refine AllReadyH.cons (o := ⟨none, .store 31 (.tmp 8) (.tmp 31), 0, "law.go:137", #[⟨5, .data⟩, ⟨1, .data⟩, ⟨6, .chain⟩, ⟨0, .phase⟩, ⟨1, .phase⟩, ⟨2, .textOnly Departure.lateStores⟩, ⟨3, .phase⟩, ⟨4, .phase⟩, ⟨5, .phase⟩, ⟨6, .phase⟩], none⟩) rfl (fun K hK => ?_) AllReadyH.nil
          have hst := store_part x4 L8 0 (cellsC m.c) Z8.out.1 (by rw [Z8.out.2.1]; rfl) rfl
          rw [Z8.out.2.1, f9] at hst
          have O2 := hide (O.out.far L8 (cellsC m.c) (by omega) (by omega) (by omega) (by omega) (by omega))
          have Y := hide (Z8.out.set (cellsC m.c))
          replace Z7 := hide (Z7.out.far L8 (cellsC m.c) (by omega))
          replace hB2 := hide (hB2.out.keep (Kept.set (l := [L8]) x4 L8 (cellsC m.c) (by simp)) (by simp; omega) (by simp; omega) (by simp; omega))
          have hH2 := hHeld.1.far L8 (cellsC m.c) (by omega)
          have hH3 := below_setRow (g := L8) hHeld.2 (by omega) (cellsC m.c)
          go_simp
          refine hK.out _ _ (⟨hH2, hH3⟩) (fun hHeld => ?_)
          clear hK K
          try simp only [Act.put, List.setIfInBounds_toArray, List.set_cons_zero, List.set_cons_succ]
          clear hst O Z8 hH2 hH3
          have O := O2
          have Z8 := Y
          clear O2 Y
          generalize x4.setRow L8 (cellsC m.c) = x5 at *
          refine wpAnyH_take (i := 8) (oi := ⟨some 9, .assign (.tmp 33), 42, "law.go:137", #[⟨3, .data⟩, ⟨7, .chain⟩, ⟨0, .phase⟩, ⟨1, .phase⟩, ⟨2, .phase⟩, ⟨3, .phase⟩, ⟨4, .phase⟩, ⟨5, .phase⟩, ⟨6, .phase⟩, ⟨7, .phase⟩], none⟩) (v := ?_) rfl (by kernel_rfl) (by kernel_rfl) (by kernel_rfl) (fun _ _ _ h => h) (Or.inl ⟨by rfl, ?_⟩) (by assumption) ?_
          rotate_left
          · intro y hSw
            have q0 := hSw.1.loads 0 N63 (f3 m.c) (f6 m.c)
            go_simp
            try with_reducible rfl
          try simp only [Act.put, List.setIfInBounds_toArray, List.set_cons_zero, List.set_cons_succ]
          refine wpAnyH_done (by kernel_rfl) ?_ _
          go_wp2_with fail
          go_meet
          case rel => exact ⟨L7, L8, b2, p2, g2, c2, rfl, rfl, rfl, hide ⟨O.out, Z7.out, Z8.out, hB2.out, ⟨by omega, by omega, by omega, by omega⟩, ⟨by omega, by omega, by omega, by omega, by omega⟩, ⟨by omega, by omega, by omega, by omega, by omega, by omega, by omega⟩⟩⟩
        refine AllReadyH.cons (o := ⟨some 7, .alloc 31, 0, "law.go:137", #[], none⟩) rfl (fun K hK => ?_) AllReadyH.nil
        have gA := grow x1 (.cells (cellsC CZ) 31)
        replace O := hide (O.out.on gA)
        replace Z8 := hide (Z8.out.on gA)
        have Z7 := hide (Box.new x1 (cellsC CZ) 31)
        have sA7 : x1.heap.size < (x1.alloc (.cells (cellsC CZ) 31)).heap.size := by rw [World.size_alloc]; omega
        go_simp
        refine hK.out _ _ (⟨hHeld.1.on gA, onto hHeld.2 (Nat.le_refl _) gA⟩) (fun hHeld => ?_)
        clear hK K
        try simp only [Act.put, List.setIfInBounds_toArray, List.set_cons_zero, List.set_cons_succ]
        clear gA
        generalize x1.alloc (.cells (cellsC CZ) 31) = x2 at *
        generalize x1.heap.size = L7 at *
        refine wpAnyH_ready (rs := [3]) (by kernel_rfl) (by simp) ?_
        refine AllReadyH.cons (o := ⟨some 33, .call { callee := .value (.func 33), args := #[.tmp 32], argTypes := #[42] }, 42, "law.go:137", #[⟨2, .data⟩], none⟩) rfl (fun K hK => ?_) AllReadyH.nil
        go_simp
        refine (busClone_any O.out.ma.bus).mono ?_
        rintro e x3 ⟨b2, p2, g2, c2, rfl, hB2, zb2, zp2, zg2, hn⟩
        replace O := hide (O.out.on hn)
        replace Z7 := hide (Z7.out.on hn)
        replace Z8 := hide (Z8.out.on hn)
        have lb2 := hB2.lt
        have lp2 := hB2.m.zp
        have lg2 := hB2.m.zg
        have hsn := hn.size
        replace hB2 := hide hB2
        go_wp2_with fail
        refine hK.out _ _ (⟨hHeld.1.on hn, onto hHeld.2 (Nat.le_refl _) hn⟩) (fun hHeld => ?_)
        clear hK K
        try simp only [Act.put, List.setIfInBounds_toArray, List.set_cons_zero, List.set_cons_succ]
        clear hn
        refine wpAnyH_ready (rs := [6]) (by kernel_rfl) (by simp) ?_
        refine AllReadyH.cons (o := ⟨none, .store 31 (.tmp 7) (.tmp 30), 0, "law.go:137", #[⟨4, .data⟩, ⟨0, .data⟩, ⟨3, .chain⟩, ⟨0, .phase⟩, ⟨1, .textOnly Departure.lateStores⟩, ⟨2, .textOnly Departure.lateStores⟩, ⟨3, .phase⟩, ⟨4, .phase⟩, ⟨5, .phase⟩], none⟩) rfl (fun K hK => ?_) AllReadyH.nil
        have hst := store_part x3 L7 0 (cellsC m.c) Z7.out.1 (by rw [Z7.out.2.1]; rfl) rfl
        rw [Z7.out.2.1, f9] at hst
        have O2 := hide (O.out.far L7 (cellsC m.c) (by omega) (by omega) (by omega) (by omega) (by omega))
        have Y := hide (Z7.out.set (cellsC m.c))
        replace Z8 := hide (Z8.out.far L7 (cellsC m.c) (by omega))
        replace hB2 := hide (hB2.out.keep (Kept.set (l := [L7]) x3 L7 (cellsC m.c) (by simp)) (by simp; omega) (by simp; omega) (by simp; omega))
        have hH2 := hHeld.1.far L7 (cellsC m.c) (by omega)
        have hH3 := below_setRow (g := L7) hHeld.2 (by omega) (cellsC m.c)
        go_simp
        refine hK.out _ _ (⟨hH2, hH3⟩) (fun hHeld => ?_)
        clear hK K
        try simp only [Act.put, List.setIfInBounds_toArray, List.set_cons_zero, List.set_cons_succ]
        clear hst O Z7 hH2 hH3
        have O := O2
        have Z7 := Y
        clear O2 Y
        generalize x3.setRow L7 (cellsC m.c) = x4 at *
        refine wpAnyH_ready (rs := [7]) (by kernel_rfl) (by simp) ?_
        refine AllReadyH.cons (o := ⟨none, .store 31 (.tmp 8) (.tmp 31), 0, "law.go:137", #[⟨5, .data⟩, ⟨1, .data⟩, ⟨6, .chain⟩, ⟨0, .phase⟩, ⟨1, .phase⟩, ⟨2, .textOnly Departure.lateStores⟩, ⟨3, .phase⟩, ⟨4, .phase⟩, ⟨5, .phase⟩, ⟨6, .phase⟩], none⟩) rfl (fun K hK => ?_) AllReadyH.nil
        have hst := store_part x4 L8 0 (cellsC m.c) Z8.out.1 (by rw [Z8.out.2.1]; rfl) rfl
        rw [Z8.out.2.1, f9] at hst
        have O2 := hide (O.out.far L8 (cellsC m.c) (by omega) (by omega) (by omega) (by omega) (by omega))
        have Y := hide (Z8.out.set (cellsC m.c))
        replace Z7 := hide (Z7.out.far L8 (cellsC m.c) (by omega))
        replace hB2 := hide (hB2.out.keep (Kept.set (l := [L8]) x4 L8 (cellsC m.c) (by simp)) (by simp; omega) (by simp; omega) (by simp; omega))
        have hH2 := hHeld.1.far L8 (cellsC m.c) (by omega)
        have hH3 := below_setRow (g := L8) hHeld.2 (by omega) (cellsC m.c)
        go_simp
        refine hK.out _ _ (⟨hH2, hH3⟩) (fun hHeld => ?_)
        clear hK K
        try simp only [Act.put, List.setIfInBounds_toArray, List.set_cons_zero, List.set_cons_succ]
        clear hst O Z8 hH2 hH3
        have O := O2
        have Z8 := Y
        clear O2 Y
        generalize x4.setRow L8 (cellsC m.c) = x5 at *
        refine wpAnyH_take (i := 8) (oi := ⟨some 9, .assign (.tmp 33), 42, "law.go:137", #[⟨3, .data⟩, ⟨7, .chain⟩, ⟨0, .phase⟩, ⟨1, .phase⟩, ⟨2, .phase⟩, ⟨3, .phase⟩, ⟨4, .phase⟩, ⟨5, .phase⟩, ⟨6, .phase⟩, ⟨7, .phase⟩], none⟩) (v := ?_) rfl (by kernel_rfl) (by kernel_rfl) (by kernel_rfl) (fun _ _ _ h => h) (Or.inl ⟨by rfl, ?_⟩) (by assumption) ?_
        rotate_left
        · intro y hSw
          have q0 := hSw.1.loads 0 N63 (f3 m.c) (f6 m.c)
          go_simp
          try with_reducible rfl
        try simp only [Act.put, List.setIfInBounds_toArray, List.set_cons_zero, List.set_cons_succ]
        refine wpAnyH_done (by kernel_rfl) ?_ _
        go_wp2_with fail
        go_meet
        case rel => exact ⟨L7, L8, b2, p2, g2, c2, rfl, rfl, rfl, hide ⟨O.out, Z7.out, Z8.out, hB2.out, ⟨by omega, by omega, by omega, by omega⟩, ⟨by omega, by omega, by omega, by omega, by omega⟩, ⟨by omega, by omega, by omega, by omega, by omega, by omega, by omega⟩⟩⟩
      case rest =>
        obtain ⟨Lw, Ld, b2, p2, g2, c2, rfl, rfl, rfl, A⟩ := hcut
        clear O r1 r2 r3 l66
        have A1 := A.out
        have hsz := A1.o.be.size
        have m2 : Hid (Mach wc Ld b2 p2 g2 8 c2 m) := hide ⟨A1.bd, A1.bus, A1.o.ma.wc, A1.o.ma.tb, by have := A1.ne; omega, by have := A1.ne; omega, by have := A1.ne; omega, by have := A1.ge; have := A1.o.two; have := A1.lt; have := A1.o.zc; omega, by have := A1.ge; have := A1.o.two; have := A1.lt; have := A1.o.zc; omega, by have := A1.ge; have := A1.o.two; have := A1.lt; have := A1.o.zc; omega⟩
        go_wp2_with fail
        refine (memory_any A.out.bus).mono ?_
        rintro e y0 ⟨rfl, rfl⟩
        have l41 : y0.cell? ⟨Lc, 41, none⟩ = some (.int .u32 m.c.C.n) := A.out.o.ma.bx.cell 41
        have cst := hide (step_any A.out.o.ma A.out.o.z)
        go_wp2_with fail
        refine cst.out.mono ?_
        rintro e y1 ⟨rfl, M1, K1⟩
        have O1 := hide (A.out.o.step M1 K1)
        have hlt := A.out.lt
        have hge := A.out.ge
        have hnn := A.out.ne
        have h2w := A.out.o.two
        have hzc := A.out.o.zc
        replace m2 := hide (m2.out.keep K1 (by simp; omega) (by simp; omega) (by simp; omega) (by simp; omega) (by have := A.out.o.ma.c2; have := A.out.o.ma.b2; have := A.out.o.ma.g2; simp; omega))
        have bw := hide (A.out.bw.kept K1 (by simp; omega))
        have hcn := hide (step_count 8 m)
        have hwm := hide A.out.o.ma.wc
        have hz1 := O1.out.z
        have A0 := A.out.o.z
        clear A K1 M1 cst l41
        obtain ⟨m', hm'⟩ : ∃ m', stepM 8 m = m' := ⟨_, rfl⟩
        have hm2 := hide hm'
        rw [hm'] at O1 hcn hz1
        clear hm'
        have l3 : y1.cell? ⟨Lc, 3, none⟩ = some (.int .u32 0) := by
          have : y1.cell? ⟨Lc, 3, none⟩ = some (.int .u32 (m'.c.R 0)) := O1.out.ma.bx.cell 3
          rwa [hz1] at this
        have hcut2 : Hid (∀ y, MOwn W0 y Lc b p g m' → Box y Lw (cellsC m.c) → (m'.c.C.n = (m.c.C.n + 1) % 4294967296) ∨ ((m'.c.C.n == (m.c.C.n + 1) % 4294967296) = false ∧ Calls Tryz.prog 34 #[.pointer (some ⟨b, 0, none⟩), .agg (cellsC m.c), .agg (cellsC m'.c)] y fun e w' => e = .returned (.bool true) ∧ Below y.heap.size y w')) := hide (by
          intro y hO hBw
          by_cases hn : m'.c.C.n = (m.c.C.n + 1) % 4294967296
          · exact Or.inl hn
          · refine Or.inr ⟨by simpa using hn, ?_⟩
            rcases hcn.out with h | ⟨h1, h2, h3, h4, h5, h6⟩
            · exact absurd h hn
            · have hBl : ∀ j, m'.B j < 256 := hO.ma.bus.m.lt
              obtain ⟨t, ht, hT⟩ := dec_t (memX_w hBl _ 4) h3
              have hwa : Cp.W32 (whereV m.c m.c.pc false).1 := whereV_w hwm.out hwm.out.pc false
              refine counted_any hO.ma.bus hO.ma.tb hwm.out (whereV m.c m.c.pc false).1 (whereV m.c m.c.pc false).2.2 _ ?_ hwa h2 rfl (memX_w hBl _ 4) h3 h4 h5 t ht hT ?_
              · rw [← h1]
              · rw [h6, hT]; rfl)
        clear hcn
        have e20 : (k : Int).tmod 20 = (k : Int) % 20 := Int.tmod_eq_emod_of_nonneg (by omega)
        by_cases h20 : (k : Int) % 20 = 19
        · have d20 : ((k : Int) % 20 == 19) = true := by simpa using h20
          have cst := hide (step_any m2.out A0)
          go_wp2_with fail
          refine cst.out.mono ?_
          rintro e y2 ⟨rfl, M2, K2⟩
          rw [hm2.out] at M2
          have O2 := hide (O1.out.keep K2 (by simp; omega) (by simp; omega) (by simp; omega) (by simp; omega) (by simp; omega))
          have bw2 := hide (bw.out.kept K2 (by simp; omega))
          replace M2 := hide M2
          clear K2 cst O1 bw l3 m2
          have q1 := O2.out.ma.bx.loads 0 N63 (f3 m'.c) (f6 m'.c)
          have q3 := M2.out.bx.loads 0 N63 (f3 m'.c) (f6 m'.c)
          have eN := fun w => neqC m'.c w
          go_wp2_with fail
          refine (devices_any O2.out.ma.bus).mono ?_
          rintro e y3 ⟨rfl, b3⟩
          replace O2 := hide (O2.out.on b3)
          replace M2 := hide (M2.out.on b3)
          replace bw2 := hide (bw2.out.on b3)
          clear b3 q1 q3
          generalize hDV : devV m'.v = DV
          go_wp2_with fail
          refine (devices_any M2.out.bus).mono ?_
          rintro e y4 ⟨rfl, b4⟩
          rw [hDV]
          replace O2 := hide (O2.out.on b4)
          replace M2 := hide (M2.out.on b4)
          replace bw2 := hide (bw2.out.on b4)
          clear b4
          go_wp2_with fail
          refine (memory_any O2.out.ma.bus).mono ?_
          rintro e y5 ⟨rfl, rfl⟩
          go_wp2_with fail
          refine (image_any O2.out.ma.bus.m).mono ?_
          rintro e y6 ⟨rfl, b6⟩
          replace O2 := hide (O2.out.on b6)
          replace M2 := hide (M2.out.on b6)
          replace bw2 := hide (bw2.out.on b6)
          clear b6
          generalize hIM : textOf (256 * 8) m'.B = IM
          go_wp2_with fail
          refine (memory_any M2.out.bus).mono ?_
          rintro e y7 ⟨rfl, rfl⟩
          go_wp2_with fail
          refine (image_any M2.out.bus.m).mono ?_
          rintro e y8 ⟨rfl, b8⟩
          rw [hIM]
          replace O2 := hide (O2.out.on b8)
          replace bw2 := hide (bw2.out.on b8)
          clear b8 M2 eN
          · have OO := O2
            have BW := bw2
            have l41 : y8.cell? ⟨Lc, 41, none⟩ = some (.int .u32 m'.c.C.n) := OO.out.ma.bx.cell 41
            have q1 := OO.out.ma.bx.loads 0 N63 (f3 m'.c) (f6 m'.c)
            have q2 := BW.out.loads 0 N63 (f3 m.c) (f6 m.c)
            rcases hcut2.out _ OO.out BW.out with hn | ⟨hn, cc⟩
            · rw [hn] at l41
              clear hcut2 q1 q2
              go_wp2_with fail
              exact ⟨⟨k + 1, m', by omega, by simp, OO⟩, by simp [intOf]; omega⟩
            · have hn2 : (m'.c.C.n != (m.c.C.n + 1) % 4294967296) = true := by rw [bne, hn]; rfl
              replace cc := hide cc
              clear hcut2
              go_wp2_with fail
              refine cc.out.mono ?_
              rintro e y9 ⟨rfl, b9⟩
              have O9 := hide (OO.out.on b9)
              clear b9 OO BW cc
              go_wp2_with fail
              exact ⟨⟨k + 1, m', by omega, by simp, O9⟩, by simp [intOf]; omega⟩
        · have d20 : ((k : Int) % 20 == 19) = false := by simpa using h20
          · have OO := O1
            have BW := bw
            have l41 : y1.cell? ⟨Lc, 41, none⟩ = some (.int .u32 m'.c.C.n) := OO.out.ma.bx.cell 41
            have q1 := OO.out.ma.bx.loads 0 N63 (f3 m'.c) (f6 m'.c)
            have q2 := BW.out.loads 0 N63 (f3 m.c) (f6 m.c)
            rcases hcut2.out _ OO.out BW.out with hn | ⟨hn, cc⟩
            · rw [hn] at l41
              clear hcut2 q1 q2
              go_wp2_with fail
              exact ⟨⟨k + 1, m', by omega, by simp, OO⟩, by simp [intOf]; omega⟩
            · have hn2 : (m'.c.C.n != (m.c.C.n + 1) % 4294967296) = true := by rw [bne, hn]; rfl
              replace cc := hide cc
              clear hcut2
              go_wp2_with fail
              refine cc.out.mono ?_
              rintro e y9 ⟨rfl, b9⟩
              have O9 := hide (OO.out.on b9)
              clear b9 OO BW cc
              go_wp2_with fail
              exact ⟨⟨k + 1, m', by omega, by simp, O9⟩, by simp [intOf]; omega⟩
    · have tw : (decide ((k : Int) < st) = true ∧ (k : Int) < st ∧ decide ((k : Int) < 200) = false ∧ ¬ (k : Int) < 200) ∨ (decide ((k : Int) < st) = false ∧ ¬ (k : Int) < st) := by
        by_cases h1 : (k : Int) < st
        · have h2 : ¬ (k : Int) < 200 := fun h => hc ⟨h1, h⟩
          exact Or.inl ⟨by simpa using h1, h1, by simpa using h2, h2⟩
        · exact Or.inr ⟨by simpa using h1, h1⟩
      clear hc
      have tb9 := hide O.out.ma.tb
      have fin := hide (fun y hb => onto (onto b0.out (Nat.le_refl _) O.out.be) (Nat.le_refl _) (y := y) hb)
      clear O
      rcases tw with ⟨d1, d2, d3, d4⟩ | ⟨d1, d2⟩
      all_goals
        go_wp2_with fail
        refine (fixed13 _ tb9.out).mono ?_
        rintro e y9 ⟨rfl, b9⟩
        replace b9 := hide b9
        go_wp2
        go_ret
        exact ⟨rfl, fin.out _ b9.out⟩

end Go.Proofs.YthjcijlabpinkaaGreatDoor
