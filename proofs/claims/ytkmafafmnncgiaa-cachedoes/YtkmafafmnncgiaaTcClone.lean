/- Layer 16: a block's clone. -/
import Derived.Test.YtkmafafmnncgiaaTcCache
import Derived.Deep.Cut
import Derived.Deep.CutBlock
import Derived.Deep.CutRange
namespace Go.Proofs.Ytkmafafmnncgiaa
open Go.RowKit
set_option linter.unusedVariables false
set_option linter.unusedSimpArgs false

/-- Behind the three clones. -/
def Cloned (w : World) (x : Blk) (y : World) : Prop := ∃ u1 u2 u3, Box y w.heap.size #[.int .u32 x.pc, u1, u2, u3] ∧
  Box y (w.heap.size + 1) #[.int .u32 0, .slice none 0 0, .slice none 0 0, .slice none 0 0] ∧ Row y (fun k => w.heap.size + 2 ≤ k) 32 1 u1 x.ws.length (ints x.ws) ∧
  Row y (fun k => w.heap.size + 2 ≤ k) 42 6 u2 x.os.length (flat x.os) ∧ Row y (fun k => w.heap.size + 2 ≤ k) 42 6 u3 x.ps.length (flat x.ps) ∧ Below w.heap.size w y

set_option maxHeartbeats 4000000 in
theorem clone_any {w : World} {F : Nat → Prop} {v : Value} {x : Blk} (h : BlkAt w F v x) :
    Calls Try.prog 22 #[v] w fun e w' => ∃ v', e = .returned v' ∧ BlkAt w' (fun k => w.heap.size ≤ k) v' x ∧ Below w.heap.size w w' := by
  obtain ⟨v1, v2, v3, rfl, h1, h2, h3, hpc, l1, l2, l3⟩ := h
  obtain ⟨wb, hwb⟩ : ∃ wb, wb = w.alloc (.cells #[.int .u32 x.pc, v1, v2, v3] 38) := ⟨_, rfl⟩
  obtain ⟨w2, hw2⟩ : ∃ w2, w2 = wb.alloc (.cells #[.int .u32 0, .slice none 0 0, .slice none 0 0, .slice none 0 0] 38) := ⟨_, rfl⟩
  have sb : wb.heap.size = w.heap.size + 1 := by rw [hwb]; simp
  have G1 : Below wb.heap.size wb w2 := by rw [hw2]; exact grow _ _
  have BX := hide ((show Box wb w.heap.size #[.int .u32 x.pc, v1, v2, v3] by rw [hwb]; exact Box.new _ _ _).on G1)
  have BZ : Hid (Box w2 (w.heap.size + 1) #[.int .u32 0, .slice none 0 0, .slice none 0 0, .slice none 0 0]) := hide (by rw [hw2, ← sb]; exact Box.new _ _ _)
  have G : Below w.heap.size w w2 := onto (by rw [hwb]; exact grow _ _) (Nat.le_refl _) G1
  replace h1 := hide h1
  replace h2 := hide h2
  replace h3 := hide h3
  replace hpc := hide hpc
  replace G := hide G
  clear G1 sb
  go_enter Try.func22, Try.ntmps22
  go_wp2_with fail
  rw [← hwb, ← hw2]
  clear hwb hw2
  go_cut [1] from 3 (fun s y => s = .pointer (some ⟨w.heap.size, 0, none⟩) ∧ Hid (Cloned w x y))
  case first =>
    refine wp_region_held_drew (S := fun y => Below w.heap.size w y) (by kernel_rfl) G.out.drew (fun hHeld => ?_)
    replace BX := hide (BX.out.drew)
    replace BZ := hide (BZ.out.drew)
    generalize w2.drew = w3 at *
    clear G
    refine wpAnyH_take (i := 0) (v := ?_) rfl (by kernel_rfl) (by kernel_rfl) (by kernel_rfl) (fun _ _ _ h => h) (Or.inl ⟨by rfl, ?_⟩) (by assumption) ?_
    rotate_left
    · intro y hSw
      skip
      go_simp
      try with_reducible rfl
    try simp only [Act.put, List.setIfInBounds_toArray, List.set_cons_zero, List.set_cons_succ]
    refine wpAnyH_take (i := 3) (v := ?_) rfl (by kernel_rfl) (by kernel_rfl) (by kernel_rfl) (fun _ _ _ h => h) (Or.inl ⟨by rfl, ?_⟩) (by assumption) ?_
    rotate_left
    · intro y hSw
      skip
      go_simp
      try with_reducible rfl
    try simp only [Act.put, List.setIfInBounds_toArray, List.set_cons_zero, List.set_cons_succ]
    refine wpAnyH_take (i := 6) (v := ?_) rfl (by kernel_rfl) (by kernel_rfl) (by kernel_rfl) (fun _ _ _ h => h) (Or.inl ⟨by rfl, ?_⟩) (by assumption) ?_
    rotate_left
    · intro y hSw
      skip
      go_simp
      try with_reducible rfl
    try simp only [Act.put, List.setIfInBounds_toArray, List.set_cons_zero, List.set_cons_succ]
    refine wpAnyH_ready (rs := [1, 4, 7]) (by kernel_rfl) (by simp) ?_
    refine AllReadyH.cons rfl (fun K hK => ?_) ?_
    · have c1 := BX.out.cell 1
      go_simp
      refine hK.out _ _ (hHeld) (fun hHeld => ?_)
      clear hK K
      try simp only [Act.put, List.setIfInBounds_toArray, List.set_cons_zero, List.set_cons_succ]
      clear c1
      refine wpAnyH_ready (rs := [2, 4, 7]) (by kernel_rfl) (by simp) ?_
      refine AllReadyH.cons rfl (fun K hK => ?_) ?_
      · go_simp
        refine (wclone_any (h1.out.on hHeld) (by omega)).mono ?_
        rintro e x2 ⟨u1, rfl, U1, hn⟩
        have hs := BZ.out.2.2
        obtain ⟨a1, m1, rfl, hm1⟩ := U1.shape
        replace BX := hide (BX.out.on hn)
        replace BZ := hide (BZ.out.on hn)
        replace U1 := hide (U1.mono (G := fun k => w.heap.size + 2 ≤ k) (fun k h1 h2 => Nat.le_trans hs h1))
        clear hs
        go_wp2_with fail
        refine hK.out _ _ (onto hHeld (Nat.le_refl _) hn) (fun hHeld => ?_)
        clear hK K
        try simp only [Act.put, List.setIfInBounds_toArray, List.set_cons_zero, List.set_cons_succ]
        clear hn
        refine wpAnyH_ready (rs := [4, 7]) (by kernel_rfl) (by simp) ?_
        refine AllReadyH.cons rfl (fun K hK => ?_) ?_
        · have c2 := BX.out.cell 2
          go_simp
          refine hK.out _ _ (hHeld) (fun hHeld => ?_)
          clear hK K
          try simp only [Act.put, List.setIfInBounds_toArray, List.set_cons_zero, List.set_cons_succ]
          clear c2
          refine wpAnyH_ready (rs := [5, 7]) (by kernel_rfl) (by simp) ?_
          refine AllReadyH.cons rfl (fun K hK => ?_) ?_
          · go_simp
            refine (mclone_any (h2.out.on hHeld) (by omega)).mono ?_
            rintro e x4 ⟨u2, rfl, U2, hn⟩
            have hs := BZ.out.2.2
            obtain ⟨a2, m2, rfl, hm2⟩ := U2.shape
            replace BX := hide (BX.out.on hn)
            replace BZ := hide (BZ.out.on hn)
            replace U2 := hide (U2.mono (G := fun k => w.heap.size + 2 ≤ k) (fun k h1 h2 => Nat.le_trans hs h1))
            clear hs
            replace U1 := hide (U1.out.on hn)
            go_wp2_with fail
            refine hK.out _ _ (onto hHeld (Nat.le_refl _) hn) (fun hHeld => ?_)
            clear hK K
            try simp only [Act.put, List.setIfInBounds_toArray, List.set_cons_zero, List.set_cons_succ]
            clear hn
            refine wpAnyH_ready (rs := [7]) (by kernel_rfl) (by simp) ?_
            refine AllReadyH.cons rfl (fun K hK => ?_) AllReadyH.nil
            have c3 := BX.out.cell 3
            go_simp
            refine hK.out _ _ (hHeld) (fun hHeld => ?_)
            clear hK K
            try simp only [Act.put, List.setIfInBounds_toArray, List.set_cons_zero, List.set_cons_succ]
            clear c3
            refine wpAnyH_take (i := 9) (v := ?_) rfl (by kernel_rfl) (by kernel_rfl) (by kernel_rfl) (fun _ _ _ h => h) (Or.inl ⟨by rfl, ?_⟩) (by assumption) ?_
            rotate_left
            · intro y hSw
              skip
              go_simp
              try with_reducible rfl
            try simp only [Act.put, List.setIfInBounds_toArray, List.set_cons_zero, List.set_cons_succ]
            refine wpAnyH_ready (rs := [8]) (by kernel_rfl) (by simp) ?_
            refine AllReadyH.cons rfl (fun K hK => ?_) AllReadyH.nil
            go_simp
            refine (mclone_any (h3.out.on hHeld) (by omega)).mono ?_
            rintro e x6 ⟨u3, rfl, U3, hn⟩
            have hs := BZ.out.2.2
            obtain ⟨a3, m3, rfl, hm3⟩ := U3.shape
            replace BX := hide (BX.out.on hn)
            replace BZ := hide (BZ.out.on hn)
            replace U3 := hide (U3.mono (G := fun k => w.heap.size + 2 ≤ k) (fun k h1 h2 => Nat.le_trans hs h1))
            clear hs
            replace U1 := hide (U1.out.on hn)
            replace U2 := hide (U2.out.on hn)
            go_wp2_with fail
            refine hK.out _ _ (onto hHeld (Nat.le_refl _) hn) (fun hHeld => ?_)
            clear hK K
            try simp only [Act.put, List.setIfInBounds_toArray, List.set_cons_zero, List.set_cons_succ]
            clear hn
            refine wpAnyH_ready (rs := [10]) (by kernel_rfl) (by simp) ?_
            refine AllReadyH.cons rfl (fun K hK => ?_) AllReadyH.nil
            have c1 := BX.out.cell 1
            have f1 := BX.out.free 1
            have BX2 : Hid (Box (x6.setCell ⟨w.heap.size, 1, none⟩ (.slice a1 x.ws.length m1)) w.heap.size #[.int .u32 x.pc, .slice a1 x.ws.length m1, v2, v3]) := hide (BX.out.set 1 (.slice a1 x.ws.length m1))
            have hfar : ∀ k, k ≠ w.heap.size → (x6.setCell ⟨w.heap.size, 1, none⟩ (.slice a1 x.ws.length m1)).heap[k]? = x6.heap[k]? := fun k hk => Below.heap_setCell x6 _ _ k hk
            have hset : Below w.heap.size x6 (x6.setCell ⟨w.heap.size, 1, none⟩ (.slice a1 x.ws.length m1)) := (Below.refl _ _).setCell (p := ⟨w.heap.size, 1, none⟩) (Nat.le_refl _) _
            go_simp
            refine hK.out _ _ (hHeld.trans hset) (fun hHeld => ?_)
            clear hK K
            try simp only [Act.put, List.setIfInBounds_toArray, List.set_cons_zero, List.set_cons_succ]
            clear c1 f1 BX
            replace BX := BX2
            clear BX2
            replace BZ := hide (BZ.out.of_heap (hfar _ (by omega)))
            replace U1 := hide (U1.out.keep (fun k h1 _ => hfar k (by omega)))
            replace U2 := hide (U2.out.keep (fun k h1 _ => hfar k (by omega)))
            replace U3 := hide (U3.out.keep (fun k h1 _ => hfar k (by omega)))
            clear hfar hset
            generalize x6.setCell ⟨w.heap.size, 1, none⟩ (.slice a1 x.ws.length m1) = x7 at *
            refine wpAnyH_take (i := 11) (v := ?_) rfl (by kernel_rfl) (by kernel_rfl) (by kernel_rfl) (fun _ _ _ h => h) (Or.inl ⟨by rfl, ?_⟩) (by assumption) ?_
            rotate_left
            · intro y hSw
              skip
              go_simp
              try with_reducible rfl
            try simp only [Act.put, List.setIfInBounds_toArray, List.set_cons_zero, List.set_cons_succ]
            refine wpAnyH_ready (rs := [12]) (by kernel_rfl) (by simp) ?_
            refine AllReadyH.cons rfl (fun K hK => ?_) AllReadyH.nil
            have c2 := BX.out.cell 2
            have f2 := BX.out.free 2
            have BX2 : Hid (Box (x7.setCell ⟨w.heap.size, 2, none⟩ (.slice a2 x.os.length m2)) w.heap.size #[.int .u32 x.pc, .slice a1 x.ws.length m1, .slice a2 x.os.length m2, v3]) := hide (BX.out.set 2 (.slice a2 x.os.length m2))
            have hfar : ∀ k, k ≠ w.heap.size → (x7.setCell ⟨w.heap.size, 2, none⟩ (.slice a2 x.os.length m2)).heap[k]? = x7.heap[k]? := fun k hk => Below.heap_setCell x7 _ _ k hk
            have hset : Below w.heap.size x7 (x7.setCell ⟨w.heap.size, 2, none⟩ (.slice a2 x.os.length m2)) := (Below.refl _ _).setCell (p := ⟨w.heap.size, 2, none⟩) (Nat.le_refl _) _
            go_simp
            refine hK.out _ _ (hHeld.trans hset) (fun hHeld => ?_)
            clear hK K
            try simp only [Act.put, List.setIfInBounds_toArray, List.set_cons_zero, List.set_cons_succ]
            clear c2 f2 BX
            replace BX := BX2
            clear BX2
            replace BZ := hide (BZ.out.of_heap (hfar _ (by omega)))
            replace U1 := hide (U1.out.keep (fun k h1 _ => hfar k (by omega)))
            replace U2 := hide (U2.out.keep (fun k h1 _ => hfar k (by omega)))
            replace U3 := hide (U3.out.keep (fun k h1 _ => hfar k (by omega)))
            clear hfar hset
            generalize x7.setCell ⟨w.heap.size, 2, none⟩ (.slice a2 x.os.length m2) = x8 at *
            refine wpAnyH_take (i := 13) (v := ?_) rfl (by kernel_rfl) (by kernel_rfl) (by kernel_rfl) (fun _ _ _ h => h) (Or.inl ⟨by rfl, ?_⟩) (by assumption) ?_
            rotate_left
            · intro y hSw
              skip
              go_simp
              try with_reducible rfl
            try simp only [Act.put, List.setIfInBounds_toArray, List.set_cons_zero, List.set_cons_succ]
            refine wpAnyH_ready (rs := [14]) (by kernel_rfl) (by simp) ?_
            refine AllReadyH.cons rfl (fun K hK => ?_) AllReadyH.nil
            have c3 := BX.out.cell 3
            have f3 := BX.out.free 3
            have BX2 : Hid (Box (x8.setCell ⟨w.heap.size, 3, none⟩ (.slice a3 x.ps.length m3)) w.heap.size #[.int .u32 x.pc, .slice a1 x.ws.length m1, .slice a2 x.os.length m2, .slice a3 x.ps.length m3]) := hide (BX.out.set 3 (.slice a3 x.ps.length m3))
            have hfar : ∀ k, k ≠ w.heap.size → (x8.setCell ⟨w.heap.size, 3, none⟩ (.slice a3 x.ps.length m3)).heap[k]? = x8.heap[k]? := fun k hk => Below.heap_setCell x8 _ _ k hk
            have hset : Below w.heap.size x8 (x8.setCell ⟨w.heap.size, 3, none⟩ (.slice a3 x.ps.length m3)) := (Below.refl _ _).setCell (p := ⟨w.heap.size, 3, none⟩) (Nat.le_refl _) _
            go_simp
            refine hK.out _ _ (hHeld.trans hset) (fun hHeld => ?_)
            clear hK K
            try simp only [Act.put, List.setIfInBounds_toArray, List.set_cons_zero, List.set_cons_succ]
            clear c3 f3 BX
            replace BX := BX2
            clear BX2
            replace BZ := hide (BZ.out.of_heap (hfar _ (by omega)))
            replace U1 := hide (U1.out.keep (fun k h1 _ => hfar k (by omega)))
            replace U2 := hide (U2.out.keep (fun k h1 _ => hfar k (by omega)))
            replace U3 := hide (U3.out.keep (fun k h1 _ => hfar k (by omega)))
            clear hfar hset
            generalize x8.setCell ⟨w.heap.size, 3, none⟩ (.slice a3 x.ps.length m3) = x9 at *
            refine wpAnyH_done (by kernel_rfl) ?_ _
            go_wp2_with fail
            go_meet
            case rel => exact ⟨rfl, hide ⟨_, _, _, BX.out, BZ.out, U1.out, U2.out, U3.out, hHeld⟩⟩
          refine AllReadyH.cons rfl (fun K hK => ?_) AllReadyH.nil
          have c3 := BX.out.cell 3
          go_simp
          refine hK.out _ _ (hHeld) (fun hHeld => ?_)
          clear hK K
          try simp only [Act.put, List.setIfInBounds_toArray, List.set_cons_zero, List.set_cons_succ]
          clear c3
          refine wpAnyH_take (i := 9) (v := ?_) rfl (by kernel_rfl) (by kernel_rfl) (by kernel_rfl) (fun _ _ _ h => h) (Or.inl ⟨by rfl, ?_⟩) (by assumption) ?_
          rotate_left
          · intro y hSw
            skip
            go_simp
            try with_reducible rfl
          try simp only [Act.put, List.setIfInBounds_toArray, List.set_cons_zero, List.set_cons_succ]
          refine wpAnyH_ready (rs := [5]) (by kernel_rfl) (by simp) ?_
          refine AllReadyH.cons rfl (fun K hK => ?_) AllReadyH.nil
          go_simp
          refine (mclone_any (h2.out.on hHeld) (by omega)).mono ?_
          rintro e x5 ⟨u2, rfl, U2, hn⟩
          have hs := BZ.out.2.2
          obtain ⟨a2, m2, rfl, hm2⟩ := U2.shape
          replace BX := hide (BX.out.on hn)
          replace BZ := hide (BZ.out.on hn)
          replace U2 := hide (U2.mono (G := fun k => w.heap.size + 2 ≤ k) (fun k h1 h2 => Nat.le_trans hs h1))
          clear hs
          replace U1 := hide (U1.out.on hn)
          go_wp2_with fail
          refine hK.out _ _ (onto hHeld (Nat.le_refl _) hn) (fun hHeld => ?_)
          clear hK K
          try simp only [Act.put, List.setIfInBounds_toArray, List.set_cons_zero, List.set_cons_succ]
          clear hn
          refine wpAnyH_ready (rs := [8]) (by kernel_rfl) (by simp) ?_
          refine AllReadyH.cons rfl (fun K hK => ?_) AllReadyH.nil
          go_simp
          refine (mclone_any (h3.out.on hHeld) (by omega)).mono ?_
          rintro e x6 ⟨u3, rfl, U3, hn⟩
          have hs := BZ.out.2.2
          obtain ⟨a3, m3, rfl, hm3⟩ := U3.shape
          replace BX := hide (BX.out.on hn)
          replace BZ := hide (BZ.out.on hn)
          replace U3 := hide (U3.mono (G := fun k => w.heap.size + 2 ≤ k) (fun k h1 h2 => Nat.le_trans hs h1))
          clear hs
          replace U1 := hide (U1.out.on hn)
          replace U2 := hide (U2.out.on hn)
          go_wp2_with fail
          refine hK.out _ _ (onto hHeld (Nat.le_refl _) hn) (fun hHeld => ?_)
          clear hK K
          try simp only [Act.put, List.setIfInBounds_toArray, List.set_cons_zero, List.set_cons_succ]
          clear hn
          refine wpAnyH_ready (rs := [10]) (by kernel_rfl) (by simp) ?_
          refine AllReadyH.cons rfl (fun K hK => ?_) AllReadyH.nil
          have c1 := BX.out.cell 1
          have f1 := BX.out.free 1
          have BX2 : Hid (Box (x6.setCell ⟨w.heap.size, 1, none⟩ (.slice a1 x.ws.length m1)) w.heap.size #[.int .u32 x.pc, .slice a1 x.ws.length m1, v2, v3]) := hide (BX.out.set 1 (.slice a1 x.ws.length m1))
          have hfar : ∀ k, k ≠ w.heap.size → (x6.setCell ⟨w.heap.size, 1, none⟩ (.slice a1 x.ws.length m1)).heap[k]? = x6.heap[k]? := fun k hk => Below.heap_setCell x6 _ _ k hk
          have hset : Below w.heap.size x6 (x6.setCell ⟨w.heap.size, 1, none⟩ (.slice a1 x.ws.length m1)) := (Below.refl _ _).setCell (p := ⟨w.heap.size, 1, none⟩) (Nat.le_refl _) _
          go_simp
          refine hK.out _ _ (hHeld.trans hset) (fun hHeld => ?_)
          clear hK K
          try simp only [Act.put, List.setIfInBounds_toArray, List.set_cons_zero, List.set_cons_succ]
          clear c1 f1 BX
          replace BX := BX2
          clear BX2
          replace BZ := hide (BZ.out.of_heap (hfar _ (by omega)))
          replace U1 := hide (U1.out.keep (fun k h1 _ => hfar k (by omega)))
          replace U2 := hide (U2.out.keep (fun k h1 _ => hfar k (by omega)))
          replace U3 := hide (U3.out.keep (fun k h1 _ => hfar k (by omega)))
          clear hfar hset
          generalize x6.setCell ⟨w.heap.size, 1, none⟩ (.slice a1 x.ws.length m1) = x7 at *
          refine wpAnyH_take (i := 11) (v := ?_) rfl (by kernel_rfl) (by kernel_rfl) (by kernel_rfl) (fun _ _ _ h => h) (Or.inl ⟨by rfl, ?_⟩) (by assumption) ?_
          rotate_left
          · intro y hSw
            skip
            go_simp
            try with_reducible rfl
          try simp only [Act.put, List.setIfInBounds_toArray, List.set_cons_zero, List.set_cons_succ]
          refine wpAnyH_ready (rs := [12]) (by kernel_rfl) (by simp) ?_
          refine AllReadyH.cons rfl (fun K hK => ?_) AllReadyH.nil
          have c2 := BX.out.cell 2
          have f2 := BX.out.free 2
          have BX2 : Hid (Box (x7.setCell ⟨w.heap.size, 2, none⟩ (.slice a2 x.os.length m2)) w.heap.size #[.int .u32 x.pc, .slice a1 x.ws.length m1, .slice a2 x.os.length m2, v3]) := hide (BX.out.set 2 (.slice a2 x.os.length m2))
          have hfar : ∀ k, k ≠ w.heap.size → (x7.setCell ⟨w.heap.size, 2, none⟩ (.slice a2 x.os.length m2)).heap[k]? = x7.heap[k]? := fun k hk => Below.heap_setCell x7 _ _ k hk
          have hset : Below w.heap.size x7 (x7.setCell ⟨w.heap.size, 2, none⟩ (.slice a2 x.os.length m2)) := (Below.refl _ _).setCell (p := ⟨w.heap.size, 2, none⟩) (Nat.le_refl _) _
          go_simp
          refine hK.out _ _ (hHeld.trans hset) (fun hHeld => ?_)
          clear hK K
          try simp only [Act.put, List.setIfInBounds_toArray, List.set_cons_zero, List.set_cons_succ]
          clear c2 f2 BX
          replace BX := BX2
          clear BX2
          replace BZ := hide (BZ.out.of_heap (hfar _ (by omega)))
          replace U1 := hide (U1.out.keep (fun k h1 _ => hfar k (by omega)))
          replace U2 := hide (U2.out.keep (fun k h1 _ => hfar k (by omega)))
          replace U3 := hide (U3.out.keep (fun k h1 _ => hfar k (by omega)))
          clear hfar hset
          generalize x7.setCell ⟨w.heap.size, 2, none⟩ (.slice a2 x.os.length m2) = x8 at *
          refine wpAnyH_take (i := 13) (v := ?_) rfl (by kernel_rfl) (by kernel_rfl) (by kernel_rfl) (fun _ _ _ h => h) (Or.inl ⟨by rfl, ?_⟩) (by assumption) ?_
          rotate_left
          · intro y hSw
            skip
            go_simp
            try with_reducible rfl
          try simp only [Act.put, List.setIfInBounds_toArray, List.set_cons_zero, List.set_cons_succ]
          refine wpAnyH_ready (rs := [14]) (by kernel_rfl) (by simp) ?_
          refine AllReadyH.cons rfl (fun K hK => ?_) AllReadyH.nil
          have c3 := BX.out.cell 3
          have f3 := BX.out.free 3
          have BX2 : Hid (Box (x8.setCell ⟨w.heap.size, 3, none⟩ (.slice a3 x.ps.length m3)) w.heap.size #[.int .u32 x.pc, .slice a1 x.ws.length m1, .slice a2 x.os.length m2, .slice a3 x.ps.length m3]) := hide (BX.out.set 3 (.slice a3 x.ps.length m3))
          have hfar : ∀ k, k ≠ w.heap.size → (x8.setCell ⟨w.heap.size, 3, none⟩ (.slice a3 x.ps.length m3)).heap[k]? = x8.heap[k]? := fun k hk => Below.heap_setCell x8 _ _ k hk
          have hset : Below w.heap.size x8 (x8.setCell ⟨w.heap.size, 3, none⟩ (.slice a3 x.ps.length m3)) := (Below.refl _ _).setCell (p := ⟨w.heap.size, 3, none⟩) (Nat.le_refl _) _
          go_simp
          refine hK.out _ _ (hHeld.trans hset) (fun hHeld => ?_)
          clear hK K
          try simp only [Act.put, List.setIfInBounds_toArray, List.set_cons_zero, List.set_cons_succ]
          clear c3 f3 BX
          replace BX := BX2
          clear BX2
          replace BZ := hide (BZ.out.of_heap (hfar _ (by omega)))
          replace U1 := hide (U1.out.keep (fun k h1 _ => hfar k (by omega)))
          replace U2 := hide (U2.out.keep (fun k h1 _ => hfar k (by omega)))
          replace U3 := hide (U3.out.keep (fun k h1 _ => hfar k (by omega)))
          clear hfar hset
          generalize x8.setCell ⟨w.heap.size, 3, none⟩ (.slice a3 x.ps.length m3) = x9 at *
          refine wpAnyH_done (by kernel_rfl) ?_ _
          go_wp2_with fail
          go_meet
          case rel => exact ⟨rfl, hide ⟨_, _, _, BX.out, BZ.out, U1.out, U2.out, U3.out, hHeld⟩⟩
        refine AllReadyH.cons rfl (fun K hK => ?_) AllReadyH.nil
        have c3 := BX.out.cell 3
        go_simp
        refine hK.out _ _ (hHeld) (fun hHeld => ?_)
        clear hK K
        try simp only [Act.put, List.setIfInBounds_toArray, List.set_cons_zero, List.set_cons_succ]
        clear c3
        refine wpAnyH_ready (rs := [4]) (by kernel_rfl) (by simp) ?_
        refine AllReadyH.cons rfl (fun K hK => ?_) AllReadyH.nil
        have c2 := BX.out.cell 2
        go_simp
        refine hK.out _ _ (hHeld) (fun hHeld => ?_)
        clear hK K
        try simp only [Act.put, List.setIfInBounds_toArray, List.set_cons_zero, List.set_cons_succ]
        clear c2
        refine wpAnyH_take (i := 9) (v := ?_) rfl (by kernel_rfl) (by kernel_rfl) (by kernel_rfl) (fun _ _ _ h => h) (Or.inl ⟨by rfl, ?_⟩) (by assumption) ?_
        rotate_left
        · intro y hSw
          skip
          go_simp
          try with_reducible rfl
        try simp only [Act.put, List.setIfInBounds_toArray, List.set_cons_zero, List.set_cons_succ]
        refine wpAnyH_ready (rs := [5]) (by kernel_rfl) (by simp) ?_
        refine AllReadyH.cons rfl (fun K hK => ?_) AllReadyH.nil
        go_simp
        refine (mclone_any (h2.out.on hHeld) (by omega)).mono ?_
        rintro e x5 ⟨u2, rfl, U2, hn⟩
        have hs := BZ.out.2.2
        obtain ⟨a2, m2, rfl, hm2⟩ := U2.shape
        replace BX := hide (BX.out.on hn)
        replace BZ := hide (BZ.out.on hn)
        replace U2 := hide (U2.mono (G := fun k => w.heap.size + 2 ≤ k) (fun k h1 h2 => Nat.le_trans hs h1))
        clear hs
        replace U1 := hide (U1.out.on hn)
        go_wp2_with fail
        refine hK.out _ _ (onto hHeld (Nat.le_refl _) hn) (fun hHeld => ?_)
        clear hK K
        try simp only [Act.put, List.setIfInBounds_toArray, List.set_cons_zero, List.set_cons_succ]
        clear hn
        refine wpAnyH_ready (rs := [8]) (by kernel_rfl) (by simp) ?_
        refine AllReadyH.cons rfl (fun K hK => ?_) AllReadyH.nil
        go_simp
        refine (mclone_any (h3.out.on hHeld) (by omega)).mono ?_
        rintro e x6 ⟨u3, rfl, U3, hn⟩
        have hs := BZ.out.2.2
        obtain ⟨a3, m3, rfl, hm3⟩ := U3.shape
        replace BX := hide (BX.out.on hn)
        replace BZ := hide (BZ.out.on hn)
        replace U3 := hide (U3.mono (G := fun k => w.heap.size + 2 ≤ k) (fun k h1 h2 => Nat.le_trans hs h1))
        clear hs
        replace U1 := hide (U1.out.on hn)
        replace U2 := hide (U2.out.on hn)
        go_wp2_with fail
        refine hK.out _ _ (onto hHeld (Nat.le_refl _) hn) (fun hHeld => ?_)
        clear hK K
        try simp only [Act.put, List.setIfInBounds_toArray, List.set_cons_zero, List.set_cons_succ]
        clear hn
        refine wpAnyH_ready (rs := [10]) (by kernel_rfl) (by simp) ?_
        refine AllReadyH.cons rfl (fun K hK => ?_) AllReadyH.nil
        have c1 := BX.out.cell 1
        have f1 := BX.out.free 1
        have BX2 : Hid (Box (x6.setCell ⟨w.heap.size, 1, none⟩ (.slice a1 x.ws.length m1)) w.heap.size #[.int .u32 x.pc, .slice a1 x.ws.length m1, v2, v3]) := hide (BX.out.set 1 (.slice a1 x.ws.length m1))
        have hfar : ∀ k, k ≠ w.heap.size → (x6.setCell ⟨w.heap.size, 1, none⟩ (.slice a1 x.ws.length m1)).heap[k]? = x6.heap[k]? := fun k hk => Below.heap_setCell x6 _ _ k hk
        have hset : Below w.heap.size x6 (x6.setCell ⟨w.heap.size, 1, none⟩ (.slice a1 x.ws.length m1)) := (Below.refl _ _).setCell (p := ⟨w.heap.size, 1, none⟩) (Nat.le_refl _) _
        go_simp
        refine hK.out _ _ (hHeld.trans hset) (fun hHeld => ?_)
        clear hK K
        try simp only [Act.put, List.setIfInBounds_toArray, List.set_cons_zero, List.set_cons_succ]
        clear c1 f1 BX
        replace BX := BX2
        clear BX2
        replace BZ := hide (BZ.out.of_heap (hfar _ (by omega)))
        replace U1 := hide (U1.out.keep (fun k h1 _ => hfar k (by omega)))
        replace U2 := hide (U2.out.keep (fun k h1 _ => hfar k (by omega)))
        replace U3 := hide (U3.out.keep (fun k h1 _ => hfar k (by omega)))
        clear hfar hset
        generalize x6.setCell ⟨w.heap.size, 1, none⟩ (.slice a1 x.ws.length m1) = x7 at *
        refine wpAnyH_take (i := 11) (v := ?_) rfl (by kernel_rfl) (by kernel_rfl) (by kernel_rfl) (fun _ _ _ h => h) (Or.inl ⟨by rfl, ?_⟩) (by assumption) ?_
        rotate_left
        · intro y hSw
          skip
          go_simp
          try with_reducible rfl
        try simp only [Act.put, List.setIfInBounds_toArray, List.set_cons_zero, List.set_cons_succ]
        refine wpAnyH_ready (rs := [12]) (by kernel_rfl) (by simp) ?_
        refine AllReadyH.cons rfl (fun K hK => ?_) AllReadyH.nil
        have c2 := BX.out.cell 2
        have f2 := BX.out.free 2
        have BX2 : Hid (Box (x7.setCell ⟨w.heap.size, 2, none⟩ (.slice a2 x.os.length m2)) w.heap.size #[.int .u32 x.pc, .slice a1 x.ws.length m1, .slice a2 x.os.length m2, v3]) := hide (BX.out.set 2 (.slice a2 x.os.length m2))
        have hfar : ∀ k, k ≠ w.heap.size → (x7.setCell ⟨w.heap.size, 2, none⟩ (.slice a2 x.os.length m2)).heap[k]? = x7.heap[k]? := fun k hk => Below.heap_setCell x7 _ _ k hk
        have hset : Below w.heap.size x7 (x7.setCell ⟨w.heap.size, 2, none⟩ (.slice a2 x.os.length m2)) := (Below.refl _ _).setCell (p := ⟨w.heap.size, 2, none⟩) (Nat.le_refl _) _
        go_simp
        refine hK.out _ _ (hHeld.trans hset) (fun hHeld => ?_)
        clear hK K
        try simp only [Act.put, List.setIfInBounds_toArray, List.set_cons_zero, List.set_cons_succ]
        clear c2 f2 BX
        replace BX := BX2
        clear BX2
        replace BZ := hide (BZ.out.of_heap (hfar _ (by omega)))
        replace U1 := hide (U1.out.keep (fun k h1 _ => hfar k (by omega)))
        replace U2 := hide (U2.out.keep (fun k h1 _ => hfar k (by omega)))
        replace U3 := hide (U3.out.keep (fun k h1 _ => hfar k (by omega)))
        clear hfar hset
        generalize x7.setCell ⟨w.heap.size, 2, none⟩ (.slice a2 x.os.length m2) = x8 at *
        refine wpAnyH_take (i := 13) (v := ?_) rfl (by kernel_rfl) (by kernel_rfl) (by kernel_rfl) (fun _ _ _ h => h) (Or.inl ⟨by rfl, ?_⟩) (by assumption) ?_
        rotate_left
        · intro y hSw
          skip
          go_simp
          try with_reducible rfl
        try simp only [Act.put, List.setIfInBounds_toArray, List.set_cons_zero, List.set_cons_succ]
        refine wpAnyH_ready (rs := [14]) (by kernel_rfl) (by simp) ?_
        refine AllReadyH.cons rfl (fun K hK => ?_) AllReadyH.nil
        have c3 := BX.out.cell 3
        have f3 := BX.out.free 3
        have BX2 : Hid (Box (x8.setCell ⟨w.heap.size, 3, none⟩ (.slice a3 x.ps.length m3)) w.heap.size #[.int .u32 x.pc, .slice a1 x.ws.length m1, .slice a2 x.os.length m2, .slice a3 x.ps.length m3]) := hide (BX.out.set 3 (.slice a3 x.ps.length m3))
        have hfar : ∀ k, k ≠ w.heap.size → (x8.setCell ⟨w.heap.size, 3, none⟩ (.slice a3 x.ps.length m3)).heap[k]? = x8.heap[k]? := fun k hk => Below.heap_setCell x8 _ _ k hk
        have hset : Below w.heap.size x8 (x8.setCell ⟨w.heap.size, 3, none⟩ (.slice a3 x.ps.length m3)) := (Below.refl _ _).setCell (p := ⟨w.heap.size, 3, none⟩) (Nat.le_refl _) _
        go_simp
        refine hK.out _ _ (hHeld.trans hset) (fun hHeld => ?_)
        clear hK K
        try simp only [Act.put, List.setIfInBounds_toArray, List.set_cons_zero, List.set_cons_succ]
        clear c3 f3 BX
        replace BX := BX2
        clear BX2
        replace BZ := hide (BZ.out.of_heap (hfar _ (by omega)))
        replace U1 := hide (U1.out.keep (fun k h1 _ => hfar k (by omega)))
        replace U2 := hide (U2.out.keep (fun k h1 _ => hfar k (by omega)))
        replace U3 := hide (U3.out.keep (fun k h1 _ => hfar k (by omega)))
        clear hfar hset
        generalize x8.setCell ⟨w.heap.size, 3, none⟩ (.slice a3 x.ps.length m3) = x9 at *
        refine wpAnyH_done (by kernel_rfl) ?_ _
        go_wp2_with fail
        go_meet
        case rel => exact ⟨rfl, hide ⟨_, _, _, BX.out, BZ.out, U1.out, U2.out, U3.out, hHeld⟩⟩
      refine AllReadyH.cons rfl (fun K hK => ?_) ?_
      · have c2 := BX.out.cell 2
        go_simp
        refine hK.out _ _ (hHeld) (fun hHeld => ?_)
        clear hK K
        try simp only [Act.put, List.setIfInBounds_toArray, List.set_cons_zero, List.set_cons_succ]
        clear c2
        refine wpAnyH_ready (rs := [2, 7]) (by kernel_rfl) (by simp) ?_
        refine AllReadyH.cons rfl (fun K hK => ?_) ?_
        · go_simp
          refine (wclone_any (h1.out.on hHeld) (by omega)).mono ?_
          rintro e x3 ⟨u1, rfl, U1, hn⟩
          have hs := BZ.out.2.2
          obtain ⟨a1, m1, rfl, hm1⟩ := U1.shape
          replace BX := hide (BX.out.on hn)
          replace BZ := hide (BZ.out.on hn)
          replace U1 := hide (U1.mono (G := fun k => w.heap.size + 2 ≤ k) (fun k h1 h2 => Nat.le_trans hs h1))
          clear hs
          go_wp2_with fail
          refine hK.out _ _ (onto hHeld (Nat.le_refl _) hn) (fun hHeld => ?_)
          clear hK K
          try simp only [Act.put, List.setIfInBounds_toArray, List.set_cons_zero, List.set_cons_succ]
          clear hn
          refine wpAnyH_ready (rs := [5, 7]) (by kernel_rfl) (by simp) ?_
          refine AllReadyH.cons rfl (fun K hK => ?_) ?_
          · go_simp
            refine (mclone_any (h2.out.on hHeld) (by omega)).mono ?_
            rintro e x4 ⟨u2, rfl, U2, hn⟩
            have hs := BZ.out.2.2
            obtain ⟨a2, m2, rfl, hm2⟩ := U2.shape
            replace BX := hide (BX.out.on hn)
            replace BZ := hide (BZ.out.on hn)
            replace U2 := hide (U2.mono (G := fun k => w.heap.size + 2 ≤ k) (fun k h1 h2 => Nat.le_trans hs h1))
            clear hs
            replace U1 := hide (U1.out.on hn)
            go_wp2_with fail
            refine hK.out _ _ (onto hHeld (Nat.le_refl _) hn) (fun hHeld => ?_)
            clear hK K
            try simp only [Act.put, List.setIfInBounds_toArray, List.set_cons_zero, List.set_cons_succ]
            clear hn
            refine wpAnyH_ready (rs := [7]) (by kernel_rfl) (by simp) ?_
            refine AllReadyH.cons rfl (fun K hK => ?_) AllReadyH.nil
            have c3 := BX.out.cell 3
            go_simp
            refine hK.out _ _ (hHeld) (fun hHeld => ?_)
            clear hK K
            try simp only [Act.put, List.setIfInBounds_toArray, List.set_cons_zero, List.set_cons_succ]
            clear c3
            refine wpAnyH_take (i := 9) (v := ?_) rfl (by kernel_rfl) (by kernel_rfl) (by kernel_rfl) (fun _ _ _ h => h) (Or.inl ⟨by rfl, ?_⟩) (by assumption) ?_
            rotate_left
            · intro y hSw
              skip
              go_simp
              try with_reducible rfl
            try simp only [Act.put, List.setIfInBounds_toArray, List.set_cons_zero, List.set_cons_succ]
            refine wpAnyH_ready (rs := [8]) (by kernel_rfl) (by simp) ?_
            refine AllReadyH.cons rfl (fun K hK => ?_) AllReadyH.nil
            go_simp
            refine (mclone_any (h3.out.on hHeld) (by omega)).mono ?_
            rintro e x6 ⟨u3, rfl, U3, hn⟩
            have hs := BZ.out.2.2
            obtain ⟨a3, m3, rfl, hm3⟩ := U3.shape
            replace BX := hide (BX.out.on hn)
            replace BZ := hide (BZ.out.on hn)
            replace U3 := hide (U3.mono (G := fun k => w.heap.size + 2 ≤ k) (fun k h1 h2 => Nat.le_trans hs h1))
            clear hs
            replace U1 := hide (U1.out.on hn)
            replace U2 := hide (U2.out.on hn)
            go_wp2_with fail
            refine hK.out _ _ (onto hHeld (Nat.le_refl _) hn) (fun hHeld => ?_)
            clear hK K
            try simp only [Act.put, List.setIfInBounds_toArray, List.set_cons_zero, List.set_cons_succ]
            clear hn
            refine wpAnyH_ready (rs := [10]) (by kernel_rfl) (by simp) ?_
            refine AllReadyH.cons rfl (fun K hK => ?_) AllReadyH.nil
            have c1 := BX.out.cell 1
            have f1 := BX.out.free 1
            have BX2 : Hid (Box (x6.setCell ⟨w.heap.size, 1, none⟩ (.slice a1 x.ws.length m1)) w.heap.size #[.int .u32 x.pc, .slice a1 x.ws.length m1, v2, v3]) := hide (BX.out.set 1 (.slice a1 x.ws.length m1))
            have hfar : ∀ k, k ≠ w.heap.size → (x6.setCell ⟨w.heap.size, 1, none⟩ (.slice a1 x.ws.length m1)).heap[k]? = x6.heap[k]? := fun k hk => Below.heap_setCell x6 _ _ k hk
            have hset : Below w.heap.size x6 (x6.setCell ⟨w.heap.size, 1, none⟩ (.slice a1 x.ws.length m1)) := (Below.refl _ _).setCell (p := ⟨w.heap.size, 1, none⟩) (Nat.le_refl _) _
            go_simp
            refine hK.out _ _ (hHeld.trans hset) (fun hHeld => ?_)
            clear hK K
            try simp only [Act.put, List.setIfInBounds_toArray, List.set_cons_zero, List.set_cons_succ]
            clear c1 f1 BX
            replace BX := BX2
            clear BX2
            replace BZ := hide (BZ.out.of_heap (hfar _ (by omega)))
            replace U1 := hide (U1.out.keep (fun k h1 _ => hfar k (by omega)))
            replace U2 := hide (U2.out.keep (fun k h1 _ => hfar k (by omega)))
            replace U3 := hide (U3.out.keep (fun k h1 _ => hfar k (by omega)))
            clear hfar hset
            generalize x6.setCell ⟨w.heap.size, 1, none⟩ (.slice a1 x.ws.length m1) = x7 at *
            refine wpAnyH_take (i := 11) (v := ?_) rfl (by kernel_rfl) (by kernel_rfl) (by kernel_rfl) (fun _ _ _ h => h) (Or.inl ⟨by rfl, ?_⟩) (by assumption) ?_
            rotate_left
            · intro y hSw
              skip
              go_simp
              try with_reducible rfl
            try simp only [Act.put, List.setIfInBounds_toArray, List.set_cons_zero, List.set_cons_succ]
            refine wpAnyH_ready (rs := [12]) (by kernel_rfl) (by simp) ?_
            refine AllReadyH.cons rfl (fun K hK => ?_) AllReadyH.nil
            have c2 := BX.out.cell 2
            have f2 := BX.out.free 2
            have BX2 : Hid (Box (x7.setCell ⟨w.heap.size, 2, none⟩ (.slice a2 x.os.length m2)) w.heap.size #[.int .u32 x.pc, .slice a1 x.ws.length m1, .slice a2 x.os.length m2, v3]) := hide (BX.out.set 2 (.slice a2 x.os.length m2))
            have hfar : ∀ k, k ≠ w.heap.size → (x7.setCell ⟨w.heap.size, 2, none⟩ (.slice a2 x.os.length m2)).heap[k]? = x7.heap[k]? := fun k hk => Below.heap_setCell x7 _ _ k hk
            have hset : Below w.heap.size x7 (x7.setCell ⟨w.heap.size, 2, none⟩ (.slice a2 x.os.length m2)) := (Below.refl _ _).setCell (p := ⟨w.heap.size, 2, none⟩) (Nat.le_refl _) _
            go_simp
            refine hK.out _ _ (hHeld.trans hset) (fun hHeld => ?_)
            clear hK K
            try simp only [Act.put, List.setIfInBounds_toArray, List.set_cons_zero, List.set_cons_succ]
            clear c2 f2 BX
            replace BX := BX2
            clear BX2
            replace BZ := hide (BZ.out.of_heap (hfar _ (by omega)))
            replace U1 := hide (U1.out.keep (fun k h1 _ => hfar k (by omega)))
            replace U2 := hide (U2.out.keep (fun k h1 _ => hfar k (by omega)))
            replace U3 := hide (U3.out.keep (fun k h1 _ => hfar k (by omega)))
            clear hfar hset
            generalize x7.setCell ⟨w.heap.size, 2, none⟩ (.slice a2 x.os.length m2) = x8 at *
            refine wpAnyH_take (i := 13) (v := ?_) rfl (by kernel_rfl) (by kernel_rfl) (by kernel_rfl) (fun _ _ _ h => h) (Or.inl ⟨by rfl, ?_⟩) (by assumption) ?_
            rotate_left
            · intro y hSw
              skip
              go_simp
              try with_reducible rfl
            try simp only [Act.put, List.setIfInBounds_toArray, List.set_cons_zero, List.set_cons_succ]
            refine wpAnyH_ready (rs := [14]) (by kernel_rfl) (by simp) ?_
            refine AllReadyH.cons rfl (fun K hK => ?_) AllReadyH.nil
            have c3 := BX.out.cell 3
            have f3 := BX.out.free 3
            have BX2 : Hid (Box (x8.setCell ⟨w.heap.size, 3, none⟩ (.slice a3 x.ps.length m3)) w.heap.size #[.int .u32 x.pc, .slice a1 x.ws.length m1, .slice a2 x.os.length m2, .slice a3 x.ps.length m3]) := hide (BX.out.set 3 (.slice a3 x.ps.length m3))
            have hfar : ∀ k, k ≠ w.heap.size → (x8.setCell ⟨w.heap.size, 3, none⟩ (.slice a3 x.ps.length m3)).heap[k]? = x8.heap[k]? := fun k hk => Below.heap_setCell x8 _ _ k hk
            have hset : Below w.heap.size x8 (x8.setCell ⟨w.heap.size, 3, none⟩ (.slice a3 x.ps.length m3)) := (Below.refl _ _).setCell (p := ⟨w.heap.size, 3, none⟩) (Nat.le_refl _) _
            go_simp
            refine hK.out _ _ (hHeld.trans hset) (fun hHeld => ?_)
            clear hK K
            try simp only [Act.put, List.setIfInBounds_toArray, List.set_cons_zero, List.set_cons_succ]
            clear c3 f3 BX
            replace BX := BX2
            clear BX2
            replace BZ := hide (BZ.out.of_heap (hfar _ (by omega)))
            replace U1 := hide (U1.out.keep (fun k h1 _ => hfar k (by omega)))
            replace U2 := hide (U2.out.keep (fun k h1 _ => hfar k (by omega)))
            replace U3 := hide (U3.out.keep (fun k h1 _ => hfar k (by omega)))
            clear hfar hset
            generalize x8.setCell ⟨w.heap.size, 3, none⟩ (.slice a3 x.ps.length m3) = x9 at *
            refine wpAnyH_done (by kernel_rfl) ?_ _
            go_wp2_with fail
            go_meet
            case rel => exact ⟨rfl, hide ⟨_, _, _, BX.out, BZ.out, U1.out, U2.out, U3.out, hHeld⟩⟩
          refine AllReadyH.cons rfl (fun K hK => ?_) AllReadyH.nil
          have c3 := BX.out.cell 3
          go_simp
          refine hK.out _ _ (hHeld) (fun hHeld => ?_)
          clear hK K
          try simp only [Act.put, List.setIfInBounds_toArray, List.set_cons_zero, List.set_cons_succ]
          clear c3
          refine wpAnyH_take (i := 9) (v := ?_) rfl (by kernel_rfl) (by kernel_rfl) (by kernel_rfl) (fun _ _ _ h => h) (Or.inl ⟨by rfl, ?_⟩) (by assumption) ?_
          rotate_left
          · intro y hSw
            skip
            go_simp
            try with_reducible rfl
          try simp only [Act.put, List.setIfInBounds_toArray, List.set_cons_zero, List.set_cons_succ]
          refine wpAnyH_ready (rs := [5]) (by kernel_rfl) (by simp) ?_
          refine AllReadyH.cons rfl (fun K hK => ?_) AllReadyH.nil
          go_simp
          refine (mclone_any (h2.out.on hHeld) (by omega)).mono ?_
          rintro e x5 ⟨u2, rfl, U2, hn⟩
          have hs := BZ.out.2.2
          obtain ⟨a2, m2, rfl, hm2⟩ := U2.shape
          replace BX := hide (BX.out.on hn)
          replace BZ := hide (BZ.out.on hn)
          replace U2 := hide (U2.mono (G := fun k => w.heap.size + 2 ≤ k) (fun k h1 h2 => Nat.le_trans hs h1))
          clear hs
          replace U1 := hide (U1.out.on hn)
          go_wp2_with fail
          refine hK.out _ _ (onto hHeld (Nat.le_refl _) hn) (fun hHeld => ?_)
          clear hK K
          try simp only [Act.put, List.setIfInBounds_toArray, List.set_cons_zero, List.set_cons_succ]
          clear hn
          refine wpAnyH_ready (rs := [8]) (by kernel_rfl) (by simp) ?_
          refine AllReadyH.cons rfl (fun K hK => ?_) AllReadyH.nil
          go_simp
          refine (mclone_any (h3.out.on hHeld) (by omega)).mono ?_
          rintro e x6 ⟨u3, rfl, U3, hn⟩
          have hs := BZ.out.2.2
          obtain ⟨a3, m3, rfl, hm3⟩ := U3.shape
          replace BX := hide (BX.out.on hn)
          replace BZ := hide (BZ.out.on hn)
          replace U3 := hide (U3.mono (G := fun k => w.heap.size + 2 ≤ k) (fun k h1 h2 => Nat.le_trans hs h1))
          clear hs
          replace U1 := hide (U1.out.on hn)
          replace U2 := hide (U2.out.on hn)
          go_wp2_with fail
          refine hK.out _ _ (onto hHeld (Nat.le_refl _) hn) (fun hHeld => ?_)
          clear hK K
          try simp only [Act.put, List.setIfInBounds_toArray, List.set_cons_zero, List.set_cons_succ]
          clear hn
          refine wpAnyH_ready (rs := [10]) (by kernel_rfl) (by simp) ?_
          refine AllReadyH.cons rfl (fun K hK => ?_) AllReadyH.nil
          have c1 := BX.out.cell 1
          have f1 := BX.out.free 1
          have BX2 : Hid (Box (x6.setCell ⟨w.heap.size, 1, none⟩ (.slice a1 x.ws.length m1)) w.heap.size #[.int .u32 x.pc, .slice a1 x.ws.length m1, v2, v3]) := hide (BX.out.set 1 (.slice a1 x.ws.length m1))
          have hfar : ∀ k, k ≠ w.heap.size → (x6.setCell ⟨w.heap.size, 1, none⟩ (.slice a1 x.ws.length m1)).heap[k]? = x6.heap[k]? := fun k hk => Below.heap_setCell x6 _ _ k hk
          have hset : Below w.heap.size x6 (x6.setCell ⟨w.heap.size, 1, none⟩ (.slice a1 x.ws.length m1)) := (Below.refl _ _).setCell (p := ⟨w.heap.size, 1, none⟩) (Nat.le_refl _) _
          go_simp
          refine hK.out _ _ (hHeld.trans hset) (fun hHeld => ?_)
          clear hK K
          try simp only [Act.put, List.setIfInBounds_toArray, List.set_cons_zero, List.set_cons_succ]
          clear c1 f1 BX
          replace BX := BX2
          clear BX2
          replace BZ := hide (BZ.out.of_heap (hfar _ (by omega)))
          replace U1 := hide (U1.out.keep (fun k h1 _ => hfar k (by omega)))
          replace U2 := hide (U2.out.keep (fun k h1 _ => hfar k (by omega)))
          replace U3 := hide (U3.out.keep (fun k h1 _ => hfar k (by omega)))
          clear hfar hset
          generalize x6.setCell ⟨w.heap.size, 1, none⟩ (.slice a1 x.ws.length m1) = x7 at *
          refine wpAnyH_take (i := 11) (v := ?_) rfl (by kernel_rfl) (by kernel_rfl) (by kernel_rfl) (fun _ _ _ h => h) (Or.inl ⟨by rfl, ?_⟩) (by assumption) ?_
          rotate_left
          · intro y hSw
            skip
            go_simp
            try with_reducible rfl
          try simp only [Act.put, List.setIfInBounds_toArray, List.set_cons_zero, List.set_cons_succ]
          refine wpAnyH_ready (rs := [12]) (by kernel_rfl) (by simp) ?_
          refine AllReadyH.cons rfl (fun K hK => ?_) AllReadyH.nil
          have c2 := BX.out.cell 2
          have f2 := BX.out.free 2
          have BX2 : Hid (Box (x7.setCell ⟨w.heap.size, 2, none⟩ (.slice a2 x.os.length m2)) w.heap.size #[.int .u32 x.pc, .slice a1 x.ws.length m1, .slice a2 x.os.length m2, v3]) := hide (BX.out.set 2 (.slice a2 x.os.length m2))
          have hfar : ∀ k, k ≠ w.heap.size → (x7.setCell ⟨w.heap.size, 2, none⟩ (.slice a2 x.os.length m2)).heap[k]? = x7.heap[k]? := fun k hk => Below.heap_setCell x7 _ _ k hk
          have hset : Below w.heap.size x7 (x7.setCell ⟨w.heap.size, 2, none⟩ (.slice a2 x.os.length m2)) := (Below.refl _ _).setCell (p := ⟨w.heap.size, 2, none⟩) (Nat.le_refl _) _
          go_simp
          refine hK.out _ _ (hHeld.trans hset) (fun hHeld => ?_)
          clear hK K
          try simp only [Act.put, List.setIfInBounds_toArray, List.set_cons_zero, List.set_cons_succ]
          clear c2 f2 BX
          replace BX := BX2
          clear BX2
          replace BZ := hide (BZ.out.of_heap (hfar _ (by omega)))
          replace U1 := hide (U1.out.keep (fun k h1 _ => hfar k (by omega)))
          replace U2 := hide (U2.out.keep (fun k h1 _ => hfar k (by omega)))
          replace U3 := hide (U3.out.keep (fun k h1 _ => hfar k (by omega)))
          clear hfar hset
          generalize x7.setCell ⟨w.heap.size, 2, none⟩ (.slice a2 x.os.length m2) = x8 at *
          refine wpAnyH_take (i := 13) (v := ?_) rfl (by kernel_rfl) (by kernel_rfl) (by kernel_rfl) (fun _ _ _ h => h) (Or.inl ⟨by rfl, ?_⟩) (by assumption) ?_
          rotate_left
          · intro y hSw
            skip
            go_simp
            try with_reducible rfl
          try simp only [Act.put, List.setIfInBounds_toArray, List.set_cons_zero, List.set_cons_succ]
          refine wpAnyH_ready (rs := [14]) (by kernel_rfl) (by simp) ?_
          refine AllReadyH.cons rfl (fun K hK => ?_) AllReadyH.nil
          have c3 := BX.out.cell 3
          have f3 := BX.out.free 3
          have BX2 : Hid (Box (x8.setCell ⟨w.heap.size, 3, none⟩ (.slice a3 x.ps.length m3)) w.heap.size #[.int .u32 x.pc, .slice a1 x.ws.length m1, .slice a2 x.os.length m2, .slice a3 x.ps.length m3]) := hide (BX.out.set 3 (.slice a3 x.ps.length m3))
          have hfar : ∀ k, k ≠ w.heap.size → (x8.setCell ⟨w.heap.size, 3, none⟩ (.slice a3 x.ps.length m3)).heap[k]? = x8.heap[k]? := fun k hk => Below.heap_setCell x8 _ _ k hk
          have hset : Below w.heap.size x8 (x8.setCell ⟨w.heap.size, 3, none⟩ (.slice a3 x.ps.length m3)) := (Below.refl _ _).setCell (p := ⟨w.heap.size, 3, none⟩) (Nat.le_refl _) _
          go_simp
          refine hK.out _ _ (hHeld.trans hset) (fun hHeld => ?_)
          clear hK K
          try simp only [Act.put, List.setIfInBounds_toArray, List.set_cons_zero, List.set_cons_succ]
          clear c3 f3 BX
          replace BX := BX2
          clear BX2
          replace BZ := hide (BZ.out.of_heap (hfar _ (by omega)))
          replace U1 := hide (U1.out.keep (fun k h1 _ => hfar k (by omega)))
          replace U2 := hide (U2.out.keep (fun k h1 _ => hfar k (by omega)))
          replace U3 := hide (U3.out.keep (fun k h1 _ => hfar k (by omega)))
          clear hfar hset
          generalize x8.setCell ⟨w.heap.size, 3, none⟩ (.slice a3 x.ps.length m3) = x9 at *
          refine wpAnyH_done (by kernel_rfl) ?_ _
          go_wp2_with fail
          go_meet
          case rel => exact ⟨rfl, hide ⟨_, _, _, BX.out, BZ.out, U1.out, U2.out, U3.out, hHeld⟩⟩
        refine AllReadyH.cons rfl (fun K hK => ?_) AllReadyH.nil
        have c3 := BX.out.cell 3
        go_simp
        refine hK.out _ _ (hHeld) (fun hHeld => ?_)
        clear hK K
        try simp only [Act.put, List.setIfInBounds_toArray, List.set_cons_zero, List.set_cons_succ]
        clear c3
        refine wpAnyH_ready (rs := [2]) (by kernel_rfl) (by simp) ?_
        refine AllReadyH.cons rfl (fun K hK => ?_) AllReadyH.nil
        go_simp
        refine (wclone_any (h1.out.on hHeld) (by omega)).mono ?_
        rintro e x4 ⟨u1, rfl, U1, hn⟩
        have hs := BZ.out.2.2
        obtain ⟨a1, m1, rfl, hm1⟩ := U1.shape
        replace BX := hide (BX.out.on hn)
        replace BZ := hide (BZ.out.on hn)
        replace U1 := hide (U1.mono (G := fun k => w.heap.size + 2 ≤ k) (fun k h1 h2 => Nat.le_trans hs h1))
        clear hs
        go_wp2_with fail
        refine hK.out _ _ (onto hHeld (Nat.le_refl _) hn) (fun hHeld => ?_)
        clear hK K
        try simp only [Act.put, List.setIfInBounds_toArray, List.set_cons_zero, List.set_cons_succ]
        clear hn
        refine wpAnyH_take (i := 9) (v := ?_) rfl (by kernel_rfl) (by kernel_rfl) (by kernel_rfl) (fun _ _ _ h => h) (Or.inl ⟨by rfl, ?_⟩) (by assumption) ?_
        rotate_left
        · intro y hSw
          skip
          go_simp
          try with_reducible rfl
        try simp only [Act.put, List.setIfInBounds_toArray, List.set_cons_zero, List.set_cons_succ]
        refine wpAnyH_ready (rs := [5]) (by kernel_rfl) (by simp) ?_
        refine AllReadyH.cons rfl (fun K hK => ?_) AllReadyH.nil
        go_simp
        refine (mclone_any (h2.out.on hHeld) (by omega)).mono ?_
        rintro e x5 ⟨u2, rfl, U2, hn⟩
        have hs := BZ.out.2.2
        obtain ⟨a2, m2, rfl, hm2⟩ := U2.shape
        replace BX := hide (BX.out.on hn)
        replace BZ := hide (BZ.out.on hn)
        replace U2 := hide (U2.mono (G := fun k => w.heap.size + 2 ≤ k) (fun k h1 h2 => Nat.le_trans hs h1))
        clear hs
        replace U1 := hide (U1.out.on hn)
        go_wp2_with fail
        refine hK.out _ _ (onto hHeld (Nat.le_refl _) hn) (fun hHeld => ?_)
        clear hK K
        try simp only [Act.put, List.setIfInBounds_toArray, List.set_cons_zero, List.set_cons_succ]
        clear hn
        refine wpAnyH_ready (rs := [8]) (by kernel_rfl) (by simp) ?_
        refine AllReadyH.cons rfl (fun K hK => ?_) AllReadyH.nil
        go_simp
        refine (mclone_any (h3.out.on hHeld) (by omega)).mono ?_
        rintro e x6 ⟨u3, rfl, U3, hn⟩
        have hs := BZ.out.2.2
        obtain ⟨a3, m3, rfl, hm3⟩ := U3.shape
        replace BX := hide (BX.out.on hn)
        replace BZ := hide (BZ.out.on hn)
        replace U3 := hide (U3.mono (G := fun k => w.heap.size + 2 ≤ k) (fun k h1 h2 => Nat.le_trans hs h1))
        clear hs
        replace U1 := hide (U1.out.on hn)
        replace U2 := hide (U2.out.on hn)
        go_wp2_with fail
        refine hK.out _ _ (onto hHeld (Nat.le_refl _) hn) (fun hHeld => ?_)
        clear hK K
        try simp only [Act.put, List.setIfInBounds_toArray, List.set_cons_zero, List.set_cons_succ]
        clear hn
        refine wpAnyH_ready (rs := [10]) (by kernel_rfl) (by simp) ?_
        refine AllReadyH.cons rfl (fun K hK => ?_) AllReadyH.nil
        have c1 := BX.out.cell 1
        have f1 := BX.out.free 1
        have BX2 : Hid (Box (x6.setCell ⟨w.heap.size, 1, none⟩ (.slice a1 x.ws.length m1)) w.heap.size #[.int .u32 x.pc, .slice a1 x.ws.length m1, v2, v3]) := hide (BX.out.set 1 (.slice a1 x.ws.length m1))
        have hfar : ∀ k, k ≠ w.heap.size → (x6.setCell ⟨w.heap.size, 1, none⟩ (.slice a1 x.ws.length m1)).heap[k]? = x6.heap[k]? := fun k hk => Below.heap_setCell x6 _ _ k hk
        have hset : Below w.heap.size x6 (x6.setCell ⟨w.heap.size, 1, none⟩ (.slice a1 x.ws.length m1)) := (Below.refl _ _).setCell (p := ⟨w.heap.size, 1, none⟩) (Nat.le_refl _) _
        go_simp
        refine hK.out _ _ (hHeld.trans hset) (fun hHeld => ?_)
        clear hK K
        try simp only [Act.put, List.setIfInBounds_toArray, List.set_cons_zero, List.set_cons_succ]
        clear c1 f1 BX
        replace BX := BX2
        clear BX2
        replace BZ := hide (BZ.out.of_heap (hfar _ (by omega)))
        replace U1 := hide (U1.out.keep (fun k h1 _ => hfar k (by omega)))
        replace U2 := hide (U2.out.keep (fun k h1 _ => hfar k (by omega)))
        replace U3 := hide (U3.out.keep (fun k h1 _ => hfar k (by omega)))
        clear hfar hset
        generalize x6.setCell ⟨w.heap.size, 1, none⟩ (.slice a1 x.ws.length m1) = x7 at *
        refine wpAnyH_take (i := 11) (v := ?_) rfl (by kernel_rfl) (by kernel_rfl) (by kernel_rfl) (fun _ _ _ h => h) (Or.inl ⟨by rfl, ?_⟩) (by assumption) ?_
        rotate_left
        · intro y hSw
          skip
          go_simp
          try with_reducible rfl
        try simp only [Act.put, List.setIfInBounds_toArray, List.set_cons_zero, List.set_cons_succ]
        refine wpAnyH_ready (rs := [12]) (by kernel_rfl) (by simp) ?_
        refine AllReadyH.cons rfl (fun K hK => ?_) AllReadyH.nil
        have c2 := BX.out.cell 2
        have f2 := BX.out.free 2
        have BX2 : Hid (Box (x7.setCell ⟨w.heap.size, 2, none⟩ (.slice a2 x.os.length m2)) w.heap.size #[.int .u32 x.pc, .slice a1 x.ws.length m1, .slice a2 x.os.length m2, v3]) := hide (BX.out.set 2 (.slice a2 x.os.length m2))
        have hfar : ∀ k, k ≠ w.heap.size → (x7.setCell ⟨w.heap.size, 2, none⟩ (.slice a2 x.os.length m2)).heap[k]? = x7.heap[k]? := fun k hk => Below.heap_setCell x7 _ _ k hk
        have hset : Below w.heap.size x7 (x7.setCell ⟨w.heap.size, 2, none⟩ (.slice a2 x.os.length m2)) := (Below.refl _ _).setCell (p := ⟨w.heap.size, 2, none⟩) (Nat.le_refl _) _
        go_simp
        refine hK.out _ _ (hHeld.trans hset) (fun hHeld => ?_)
        clear hK K
        try simp only [Act.put, List.setIfInBounds_toArray, List.set_cons_zero, List.set_cons_succ]
        clear c2 f2 BX
        replace BX := BX2
        clear BX2
        replace BZ := hide (BZ.out.of_heap (hfar _ (by omega)))
        replace U1 := hide (U1.out.keep (fun k h1 _ => hfar k (by omega)))
        replace U2 := hide (U2.out.keep (fun k h1 _ => hfar k (by omega)))
        replace U3 := hide (U3.out.keep (fun k h1 _ => hfar k (by omega)))
        clear hfar hset
        generalize x7.setCell ⟨w.heap.size, 2, none⟩ (.slice a2 x.os.length m2) = x8 at *
        refine wpAnyH_take (i := 13) (v := ?_) rfl (by kernel_rfl) (by kernel_rfl) (by kernel_rfl) (fun _ _ _ h => h) (Or.inl ⟨by rfl, ?_⟩) (by assumption) ?_
        rotate_left
        · intro y hSw
          skip
          go_simp
          try with_reducible rfl
        try simp only [Act.put, List.setIfInBounds_toArray, List.set_cons_zero, List.set_cons_succ]
        refine wpAnyH_ready (rs := [14]) (by kernel_rfl) (by simp) ?_
        refine AllReadyH.cons rfl (fun K hK => ?_) AllReadyH.nil
        have c3 := BX.out.cell 3
        have f3 := BX.out.free 3
        have BX2 : Hid (Box (x8.setCell ⟨w.heap.size, 3, none⟩ (.slice a3 x.ps.length m3)) w.heap.size #[.int .u32 x.pc, .slice a1 x.ws.length m1, .slice a2 x.os.length m2, .slice a3 x.ps.length m3]) := hide (BX.out.set 3 (.slice a3 x.ps.length m3))
        have hfar : ∀ k, k ≠ w.heap.size → (x8.setCell ⟨w.heap.size, 3, none⟩ (.slice a3 x.ps.length m3)).heap[k]? = x8.heap[k]? := fun k hk => Below.heap_setCell x8 _ _ k hk
        have hset : Below w.heap.size x8 (x8.setCell ⟨w.heap.size, 3, none⟩ (.slice a3 x.ps.length m3)) := (Below.refl _ _).setCell (p := ⟨w.heap.size, 3, none⟩) (Nat.le_refl _) _
        go_simp
        refine hK.out _ _ (hHeld.trans hset) (fun hHeld => ?_)
        clear hK K
        try simp only [Act.put, List.setIfInBounds_toArray, List.set_cons_zero, List.set_cons_succ]
        clear c3 f3 BX
        replace BX := BX2
        clear BX2
        replace BZ := hide (BZ.out.of_heap (hfar _ (by omega)))
        replace U1 := hide (U1.out.keep (fun k h1 _ => hfar k (by omega)))
        replace U2 := hide (U2.out.keep (fun k h1 _ => hfar k (by omega)))
        replace U3 := hide (U3.out.keep (fun k h1 _ => hfar k (by omega)))
        clear hfar hset
        generalize x8.setCell ⟨w.heap.size, 3, none⟩ (.slice a3 x.ps.length m3) = x9 at *
        refine wpAnyH_done (by kernel_rfl) ?_ _
        go_wp2_with fail
        go_meet
        case rel => exact ⟨rfl, hide ⟨_, _, _, BX.out, BZ.out, U1.out, U2.out, U3.out, hHeld⟩⟩
      refine AllReadyH.cons rfl (fun K hK => ?_) AllReadyH.nil
      have c3 := BX.out.cell 3
      go_simp
      refine hK.out _ _ (hHeld) (fun hHeld => ?_)
      clear hK K
      try simp only [Act.put, List.setIfInBounds_toArray, List.set_cons_zero, List.set_cons_succ]
      clear c3
      refine wpAnyH_ready (rs := [2, 4]) (by kernel_rfl) (by simp) ?_
      refine AllReadyH.cons rfl (fun K hK => ?_) ?_
      · go_simp
        refine (wclone_any (h1.out.on hHeld) (by omega)).mono ?_
        rintro e x3 ⟨u1, rfl, U1, hn⟩
        have hs := BZ.out.2.2
        obtain ⟨a1, m1, rfl, hm1⟩ := U1.shape
        replace BX := hide (BX.out.on hn)
        replace BZ := hide (BZ.out.on hn)
        replace U1 := hide (U1.mono (G := fun k => w.heap.size + 2 ≤ k) (fun k h1 h2 => Nat.le_trans hs h1))
        clear hs
        go_wp2_with fail
        refine hK.out _ _ (onto hHeld (Nat.le_refl _) hn) (fun hHeld => ?_)
        clear hK K
        try simp only [Act.put, List.setIfInBounds_toArray, List.set_cons_zero, List.set_cons_succ]
        clear hn
        refine wpAnyH_ready (rs := [4]) (by kernel_rfl) (by simp) ?_
        refine AllReadyH.cons rfl (fun K hK => ?_) AllReadyH.nil
        have c2 := BX.out.cell 2
        go_simp
        refine hK.out _ _ (hHeld) (fun hHeld => ?_)
        clear hK K
        try simp only [Act.put, List.setIfInBounds_toArray, List.set_cons_zero, List.set_cons_succ]
        clear c2
        refine wpAnyH_take (i := 9) (v := ?_) rfl (by kernel_rfl) (by kernel_rfl) (by kernel_rfl) (fun _ _ _ h => h) (Or.inl ⟨by rfl, ?_⟩) (by assumption) ?_
        rotate_left
        · intro y hSw
          skip
          go_simp
          try with_reducible rfl
        try simp only [Act.put, List.setIfInBounds_toArray, List.set_cons_zero, List.set_cons_succ]
        refine wpAnyH_ready (rs := [5]) (by kernel_rfl) (by simp) ?_
        refine AllReadyH.cons rfl (fun K hK => ?_) AllReadyH.nil
        go_simp
        refine (mclone_any (h2.out.on hHeld) (by omega)).mono ?_
        rintro e x5 ⟨u2, rfl, U2, hn⟩
        have hs := BZ.out.2.2
        obtain ⟨a2, m2, rfl, hm2⟩ := U2.shape
        replace BX := hide (BX.out.on hn)
        replace BZ := hide (BZ.out.on hn)
        replace U2 := hide (U2.mono (G := fun k => w.heap.size + 2 ≤ k) (fun k h1 h2 => Nat.le_trans hs h1))
        clear hs
        replace U1 := hide (U1.out.on hn)
        go_wp2_with fail
        refine hK.out _ _ (onto hHeld (Nat.le_refl _) hn) (fun hHeld => ?_)
        clear hK K
        try simp only [Act.put, List.setIfInBounds_toArray, List.set_cons_zero, List.set_cons_succ]
        clear hn
        refine wpAnyH_ready (rs := [8]) (by kernel_rfl) (by simp) ?_
        refine AllReadyH.cons rfl (fun K hK => ?_) AllReadyH.nil
        go_simp
        refine (mclone_any (h3.out.on hHeld) (by omega)).mono ?_
        rintro e x6 ⟨u3, rfl, U3, hn⟩
        have hs := BZ.out.2.2
        obtain ⟨a3, m3, rfl, hm3⟩ := U3.shape
        replace BX := hide (BX.out.on hn)
        replace BZ := hide (BZ.out.on hn)
        replace U3 := hide (U3.mono (G := fun k => w.heap.size + 2 ≤ k) (fun k h1 h2 => Nat.le_trans hs h1))
        clear hs
        replace U1 := hide (U1.out.on hn)
        replace U2 := hide (U2.out.on hn)
        go_wp2_with fail
        refine hK.out _ _ (onto hHeld (Nat.le_refl _) hn) (fun hHeld => ?_)
        clear hK K
        try simp only [Act.put, List.setIfInBounds_toArray, List.set_cons_zero, List.set_cons_succ]
        clear hn
        refine wpAnyH_ready (rs := [10]) (by kernel_rfl) (by simp) ?_
        refine AllReadyH.cons rfl (fun K hK => ?_) AllReadyH.nil
        have c1 := BX.out.cell 1
        have f1 := BX.out.free 1
        have BX2 : Hid (Box (x6.setCell ⟨w.heap.size, 1, none⟩ (.slice a1 x.ws.length m1)) w.heap.size #[.int .u32 x.pc, .slice a1 x.ws.length m1, v2, v3]) := hide (BX.out.set 1 (.slice a1 x.ws.length m1))
        have hfar : ∀ k, k ≠ w.heap.size → (x6.setCell ⟨w.heap.size, 1, none⟩ (.slice a1 x.ws.length m1)).heap[k]? = x6.heap[k]? := fun k hk => Below.heap_setCell x6 _ _ k hk
        have hset : Below w.heap.size x6 (x6.setCell ⟨w.heap.size, 1, none⟩ (.slice a1 x.ws.length m1)) := (Below.refl _ _).setCell (p := ⟨w.heap.size, 1, none⟩) (Nat.le_refl _) _
        go_simp
        refine hK.out _ _ (hHeld.trans hset) (fun hHeld => ?_)
        clear hK K
        try simp only [Act.put, List.setIfInBounds_toArray, List.set_cons_zero, List.set_cons_succ]
        clear c1 f1 BX
        replace BX := BX2
        clear BX2
        replace BZ := hide (BZ.out.of_heap (hfar _ (by omega)))
        replace U1 := hide (U1.out.keep (fun k h1 _ => hfar k (by omega)))
        replace U2 := hide (U2.out.keep (fun k h1 _ => hfar k (by omega)))
        replace U3 := hide (U3.out.keep (fun k h1 _ => hfar k (by omega)))
        clear hfar hset
        generalize x6.setCell ⟨w.heap.size, 1, none⟩ (.slice a1 x.ws.length m1) = x7 at *
        refine wpAnyH_take (i := 11) (v := ?_) rfl (by kernel_rfl) (by kernel_rfl) (by kernel_rfl) (fun _ _ _ h => h) (Or.inl ⟨by rfl, ?_⟩) (by assumption) ?_
        rotate_left
        · intro y hSw
          skip
          go_simp
          try with_reducible rfl
        try simp only [Act.put, List.setIfInBounds_toArray, List.set_cons_zero, List.set_cons_succ]
        refine wpAnyH_ready (rs := [12]) (by kernel_rfl) (by simp) ?_
        refine AllReadyH.cons rfl (fun K hK => ?_) AllReadyH.nil
        have c2 := BX.out.cell 2
        have f2 := BX.out.free 2
        have BX2 : Hid (Box (x7.setCell ⟨w.heap.size, 2, none⟩ (.slice a2 x.os.length m2)) w.heap.size #[.int .u32 x.pc, .slice a1 x.ws.length m1, .slice a2 x.os.length m2, v3]) := hide (BX.out.set 2 (.slice a2 x.os.length m2))
        have hfar : ∀ k, k ≠ w.heap.size → (x7.setCell ⟨w.heap.size, 2, none⟩ (.slice a2 x.os.length m2)).heap[k]? = x7.heap[k]? := fun k hk => Below.heap_setCell x7 _ _ k hk
        have hset : Below w.heap.size x7 (x7.setCell ⟨w.heap.size, 2, none⟩ (.slice a2 x.os.length m2)) := (Below.refl _ _).setCell (p := ⟨w.heap.size, 2, none⟩) (Nat.le_refl _) _
        go_simp
        refine hK.out _ _ (hHeld.trans hset) (fun hHeld => ?_)
        clear hK K
        try simp only [Act.put, List.setIfInBounds_toArray, List.set_cons_zero, List.set_cons_succ]
        clear c2 f2 BX
        replace BX := BX2
        clear BX2
        replace BZ := hide (BZ.out.of_heap (hfar _ (by omega)))
        replace U1 := hide (U1.out.keep (fun k h1 _ => hfar k (by omega)))
        replace U2 := hide (U2.out.keep (fun k h1 _ => hfar k (by omega)))
        replace U3 := hide (U3.out.keep (fun k h1 _ => hfar k (by omega)))
        clear hfar hset
        generalize x7.setCell ⟨w.heap.size, 2, none⟩ (.slice a2 x.os.length m2) = x8 at *
        refine wpAnyH_take (i := 13) (v := ?_) rfl (by kernel_rfl) (by kernel_rfl) (by kernel_rfl) (fun _ _ _ h => h) (Or.inl ⟨by rfl, ?_⟩) (by assumption) ?_
        rotate_left
        · intro y hSw
          skip
          go_simp
          try with_reducible rfl
        try simp only [Act.put, List.setIfInBounds_toArray, List.set_cons_zero, List.set_cons_succ]
        refine wpAnyH_ready (rs := [14]) (by kernel_rfl) (by simp) ?_
        refine AllReadyH.cons rfl (fun K hK => ?_) AllReadyH.nil
        have c3 := BX.out.cell 3
        have f3 := BX.out.free 3
        have BX2 : Hid (Box (x8.setCell ⟨w.heap.size, 3, none⟩ (.slice a3 x.ps.length m3)) w.heap.size #[.int .u32 x.pc, .slice a1 x.ws.length m1, .slice a2 x.os.length m2, .slice a3 x.ps.length m3]) := hide (BX.out.set 3 (.slice a3 x.ps.length m3))
        have hfar : ∀ k, k ≠ w.heap.size → (x8.setCell ⟨w.heap.size, 3, none⟩ (.slice a3 x.ps.length m3)).heap[k]? = x8.heap[k]? := fun k hk => Below.heap_setCell x8 _ _ k hk
        have hset : Below w.heap.size x8 (x8.setCell ⟨w.heap.size, 3, none⟩ (.slice a3 x.ps.length m3)) := (Below.refl _ _).setCell (p := ⟨w.heap.size, 3, none⟩) (Nat.le_refl _) _
        go_simp
        refine hK.out _ _ (hHeld.trans hset) (fun hHeld => ?_)
        clear hK K
        try simp only [Act.put, List.setIfInBounds_toArray, List.set_cons_zero, List.set_cons_succ]
        clear c3 f3 BX
        replace BX := BX2
        clear BX2
        replace BZ := hide (BZ.out.of_heap (hfar _ (by omega)))
        replace U1 := hide (U1.out.keep (fun k h1 _ => hfar k (by omega)))
        replace U2 := hide (U2.out.keep (fun k h1 _ => hfar k (by omega)))
        replace U3 := hide (U3.out.keep (fun k h1 _ => hfar k (by omega)))
        clear hfar hset
        generalize x8.setCell ⟨w.heap.size, 3, none⟩ (.slice a3 x.ps.length m3) = x9 at *
        refine wpAnyH_done (by kernel_rfl) ?_ _
        go_wp2_with fail
        go_meet
        case rel => exact ⟨rfl, hide ⟨_, _, _, BX.out, BZ.out, U1.out, U2.out, U3.out, hHeld⟩⟩
      refine AllReadyH.cons rfl (fun K hK => ?_) AllReadyH.nil
      have c2 := BX.out.cell 2
      go_simp
      refine hK.out _ _ (hHeld) (fun hHeld => ?_)
      clear hK K
      try simp only [Act.put, List.setIfInBounds_toArray, List.set_cons_zero, List.set_cons_succ]
      clear c2
      refine wpAnyH_ready (rs := [2]) (by kernel_rfl) (by simp) ?_
      refine AllReadyH.cons rfl (fun K hK => ?_) AllReadyH.nil
      go_simp
      refine (wclone_any (h1.out.on hHeld) (by omega)).mono ?_
      rintro e x4 ⟨u1, rfl, U1, hn⟩
      have hs := BZ.out.2.2
      obtain ⟨a1, m1, rfl, hm1⟩ := U1.shape
      replace BX := hide (BX.out.on hn)
      replace BZ := hide (BZ.out.on hn)
      replace U1 := hide (U1.mono (G := fun k => w.heap.size + 2 ≤ k) (fun k h1 h2 => Nat.le_trans hs h1))
      clear hs
      go_wp2_with fail
      refine hK.out _ _ (onto hHeld (Nat.le_refl _) hn) (fun hHeld => ?_)
      clear hK K
      try simp only [Act.put, List.setIfInBounds_toArray, List.set_cons_zero, List.set_cons_succ]
      clear hn
      refine wpAnyH_take (i := 9) (v := ?_) rfl (by kernel_rfl) (by kernel_rfl) (by kernel_rfl) (fun _ _ _ h => h) (Or.inl ⟨by rfl, ?_⟩) (by assumption) ?_
      rotate_left
      · intro y hSw
        skip
        go_simp
        try with_reducible rfl
      try simp only [Act.put, List.setIfInBounds_toArray, List.set_cons_zero, List.set_cons_succ]
      refine wpAnyH_ready (rs := [5]) (by kernel_rfl) (by simp) ?_
      refine AllReadyH.cons rfl (fun K hK => ?_) AllReadyH.nil
      go_simp
      refine (mclone_any (h2.out.on hHeld) (by omega)).mono ?_
      rintro e x5 ⟨u2, rfl, U2, hn⟩
      have hs := BZ.out.2.2
      obtain ⟨a2, m2, rfl, hm2⟩ := U2.shape
      replace BX := hide (BX.out.on hn)
      replace BZ := hide (BZ.out.on hn)
      replace U2 := hide (U2.mono (G := fun k => w.heap.size + 2 ≤ k) (fun k h1 h2 => Nat.le_trans hs h1))
      clear hs
      replace U1 := hide (U1.out.on hn)
      go_wp2_with fail
      refine hK.out _ _ (onto hHeld (Nat.le_refl _) hn) (fun hHeld => ?_)
      clear hK K
      try simp only [Act.put, List.setIfInBounds_toArray, List.set_cons_zero, List.set_cons_succ]
      clear hn
      refine wpAnyH_ready (rs := [8]) (by kernel_rfl) (by simp) ?_
      refine AllReadyH.cons rfl (fun K hK => ?_) AllReadyH.nil
      go_simp
      refine (mclone_any (h3.out.on hHeld) (by omega)).mono ?_
      rintro e x6 ⟨u3, rfl, U3, hn⟩
      have hs := BZ.out.2.2
      obtain ⟨a3, m3, rfl, hm3⟩ := U3.shape
      replace BX := hide (BX.out.on hn)
      replace BZ := hide (BZ.out.on hn)
      replace U3 := hide (U3.mono (G := fun k => w.heap.size + 2 ≤ k) (fun k h1 h2 => Nat.le_trans hs h1))
      clear hs
      replace U1 := hide (U1.out.on hn)
      replace U2 := hide (U2.out.on hn)
      go_wp2_with fail
      refine hK.out _ _ (onto hHeld (Nat.le_refl _) hn) (fun hHeld => ?_)
      clear hK K
      try simp only [Act.put, List.setIfInBounds_toArray, List.set_cons_zero, List.set_cons_succ]
      clear hn
      refine wpAnyH_ready (rs := [10]) (by kernel_rfl) (by simp) ?_
      refine AllReadyH.cons rfl (fun K hK => ?_) AllReadyH.nil
      have c1 := BX.out.cell 1
      have f1 := BX.out.free 1
      have BX2 : Hid (Box (x6.setCell ⟨w.heap.size, 1, none⟩ (.slice a1 x.ws.length m1)) w.heap.size #[.int .u32 x.pc, .slice a1 x.ws.length m1, v2, v3]) := hide (BX.out.set 1 (.slice a1 x.ws.length m1))
      have hfar : ∀ k, k ≠ w.heap.size → (x6.setCell ⟨w.heap.size, 1, none⟩ (.slice a1 x.ws.length m1)).heap[k]? = x6.heap[k]? := fun k hk => Below.heap_setCell x6 _ _ k hk
      have hset : Below w.heap.size x6 (x6.setCell ⟨w.heap.size, 1, none⟩ (.slice a1 x.ws.length m1)) := (Below.refl _ _).setCell (p := ⟨w.heap.size, 1, none⟩) (Nat.le_refl _) _
      go_simp
      refine hK.out _ _ (hHeld.trans hset) (fun hHeld => ?_)
      clear hK K
      try simp only [Act.put, List.setIfInBounds_toArray, List.set_cons_zero, List.set_cons_succ]
      clear c1 f1 BX
      replace BX := BX2
      clear BX2
      replace BZ := hide (BZ.out.of_heap (hfar _ (by omega)))
      replace U1 := hide (U1.out.keep (fun k h1 _ => hfar k (by omega)))
      replace U2 := hide (U2.out.keep (fun k h1 _ => hfar k (by omega)))
      replace U3 := hide (U3.out.keep (fun k h1 _ => hfar k (by omega)))
      clear hfar hset
      generalize x6.setCell ⟨w.heap.size, 1, none⟩ (.slice a1 x.ws.length m1) = x7 at *
      refine wpAnyH_take (i := 11) (v := ?_) rfl (by kernel_rfl) (by kernel_rfl) (by kernel_rfl) (fun _ _ _ h => h) (Or.inl ⟨by rfl, ?_⟩) (by assumption) ?_
      rotate_left
      · intro y hSw
        skip
        go_simp
        try with_reducible rfl
      try simp only [Act.put, List.setIfInBounds_toArray, List.set_cons_zero, List.set_cons_succ]
      refine wpAnyH_ready (rs := [12]) (by kernel_rfl) (by simp) ?_
      refine AllReadyH.cons rfl (fun K hK => ?_) AllReadyH.nil
      have c2 := BX.out.cell 2
      have f2 := BX.out.free 2
      have BX2 : Hid (Box (x7.setCell ⟨w.heap.size, 2, none⟩ (.slice a2 x.os.length m2)) w.heap.size #[.int .u32 x.pc, .slice a1 x.ws.length m1, .slice a2 x.os.length m2, v3]) := hide (BX.out.set 2 (.slice a2 x.os.length m2))
      have hfar : ∀ k, k ≠ w.heap.size → (x7.setCell ⟨w.heap.size, 2, none⟩ (.slice a2 x.os.length m2)).heap[k]? = x7.heap[k]? := fun k hk => Below.heap_setCell x7 _ _ k hk
      have hset : Below w.heap.size x7 (x7.setCell ⟨w.heap.size, 2, none⟩ (.slice a2 x.os.length m2)) := (Below.refl _ _).setCell (p := ⟨w.heap.size, 2, none⟩) (Nat.le_refl _) _
      go_simp
      refine hK.out _ _ (hHeld.trans hset) (fun hHeld => ?_)
      clear hK K
      try simp only [Act.put, List.setIfInBounds_toArray, List.set_cons_zero, List.set_cons_succ]
      clear c2 f2 BX
      replace BX := BX2
      clear BX2
      replace BZ := hide (BZ.out.of_heap (hfar _ (by omega)))
      replace U1 := hide (U1.out.keep (fun k h1 _ => hfar k (by omega)))
      replace U2 := hide (U2.out.keep (fun k h1 _ => hfar k (by omega)))
      replace U3 := hide (U3.out.keep (fun k h1 _ => hfar k (by omega)))
      clear hfar hset
      generalize x7.setCell ⟨w.heap.size, 2, none⟩ (.slice a2 x.os.length m2) = x8 at *
      refine wpAnyH_take (i := 13) (v := ?_) rfl (by kernel_rfl) (by kernel_rfl) (by kernel_rfl) (fun _ _ _ h => h) (Or.inl ⟨by rfl, ?_⟩) (by assumption) ?_
      rotate_left
      · intro y hSw
        skip
        go_simp
        try with_reducible rfl
      try simp only [Act.put, List.setIfInBounds_toArray, List.set_cons_zero, List.set_cons_succ]
      refine wpAnyH_ready (rs := [14]) (by kernel_rfl) (by simp) ?_
      refine AllReadyH.cons rfl (fun K hK => ?_) AllReadyH.nil
      have c3 := BX.out.cell 3
      have f3 := BX.out.free 3
      have BX2 : Hid (Box (x8.setCell ⟨w.heap.size, 3, none⟩ (.slice a3 x.ps.length m3)) w.heap.size #[.int .u32 x.pc, .slice a1 x.ws.length m1, .slice a2 x.os.length m2, .slice a3 x.ps.length m3]) := hide (BX.out.set 3 (.slice a3 x.ps.length m3))
      have hfar : ∀ k, k ≠ w.heap.size → (x8.setCell ⟨w.heap.size, 3, none⟩ (.slice a3 x.ps.length m3)).heap[k]? = x8.heap[k]? := fun k hk => Below.heap_setCell x8 _ _ k hk
      have hset : Below w.heap.size x8 (x8.setCell ⟨w.heap.size, 3, none⟩ (.slice a3 x.ps.length m3)) := (Below.refl _ _).setCell (p := ⟨w.heap.size, 3, none⟩) (Nat.le_refl _) _
      go_simp
      refine hK.out _ _ (hHeld.trans hset) (fun hHeld => ?_)
      clear hK K
      try simp only [Act.put, List.setIfInBounds_toArray, List.set_cons_zero, List.set_cons_succ]
      clear c3 f3 BX
      replace BX := BX2
      clear BX2
      replace BZ := hide (BZ.out.of_heap (hfar _ (by omega)))
      replace U1 := hide (U1.out.keep (fun k h1 _ => hfar k (by omega)))
      replace U2 := hide (U2.out.keep (fun k h1 _ => hfar k (by omega)))
      replace U3 := hide (U3.out.keep (fun k h1 _ => hfar k (by omega)))
      clear hfar hset
      generalize x8.setCell ⟨w.heap.size, 3, none⟩ (.slice a3 x.ps.length m3) = x9 at *
      refine wpAnyH_done (by kernel_rfl) ?_ _
      go_wp2_with fail
      go_meet
      case rel => exact ⟨rfl, hide ⟨_, _, _, BX.out, BZ.out, U1.out, U2.out, U3.out, hHeld⟩⟩
    refine AllReadyH.cons rfl (fun K hK => ?_) ?_
    · have c2 := BX.out.cell 2
      go_simp
      refine hK.out _ _ (hHeld) (fun hHeld => ?_)
      clear hK K
      try simp only [Act.put, List.setIfInBounds_toArray, List.set_cons_zero, List.set_cons_succ]
      clear c2
      refine wpAnyH_ready (rs := [1, 7]) (by kernel_rfl) (by simp) ?_
      refine AllReadyH.cons rfl (fun K hK => ?_) ?_
      · have c1 := BX.out.cell 1
        go_simp
        refine hK.out _ _ (hHeld) (fun hHeld => ?_)
        clear hK K
        try simp only [Act.put, List.setIfInBounds_toArray, List.set_cons_zero, List.set_cons_succ]
        clear c1
        refine wpAnyH_ready (rs := [2, 7]) (by kernel_rfl) (by simp) ?_
        refine AllReadyH.cons rfl (fun K hK => ?_) ?_
        · go_simp
          refine (wclone_any (h1.out.on hHeld) (by omega)).mono ?_
          rintro e x3 ⟨u1, rfl, U1, hn⟩
          have hs := BZ.out.2.2
          obtain ⟨a1, m1, rfl, hm1⟩ := U1.shape
          replace BX := hide (BX.out.on hn)
          replace BZ := hide (BZ.out.on hn)
          replace U1 := hide (U1.mono (G := fun k => w.heap.size + 2 ≤ k) (fun k h1 h2 => Nat.le_trans hs h1))
          clear hs
          go_wp2_with fail
          refine hK.out _ _ (onto hHeld (Nat.le_refl _) hn) (fun hHeld => ?_)
          clear hK K
          try simp only [Act.put, List.setIfInBounds_toArray, List.set_cons_zero, List.set_cons_succ]
          clear hn
          refine wpAnyH_ready (rs := [5, 7]) (by kernel_rfl) (by simp) ?_
          refine AllReadyH.cons rfl (fun K hK => ?_) ?_
          · go_simp
            refine (mclone_any (h2.out.on hHeld) (by omega)).mono ?_
            rintro e x4 ⟨u2, rfl, U2, hn⟩
            have hs := BZ.out.2.2
            obtain ⟨a2, m2, rfl, hm2⟩ := U2.shape
            replace BX := hide (BX.out.on hn)
            replace BZ := hide (BZ.out.on hn)
            replace U2 := hide (U2.mono (G := fun k => w.heap.size + 2 ≤ k) (fun k h1 h2 => Nat.le_trans hs h1))
            clear hs
            replace U1 := hide (U1.out.on hn)
            go_wp2_with fail
            refine hK.out _ _ (onto hHeld (Nat.le_refl _) hn) (fun hHeld => ?_)
            clear hK K
            try simp only [Act.put, List.setIfInBounds_toArray, List.set_cons_zero, List.set_cons_succ]
            clear hn
            refine wpAnyH_ready (rs := [7]) (by kernel_rfl) (by simp) ?_
            refine AllReadyH.cons rfl (fun K hK => ?_) AllReadyH.nil
            have c3 := BX.out.cell 3
            go_simp
            refine hK.out _ _ (hHeld) (fun hHeld => ?_)
            clear hK K
            try simp only [Act.put, List.setIfInBounds_toArray, List.set_cons_zero, List.set_cons_succ]
            clear c3
            refine wpAnyH_take (i := 9) (v := ?_) rfl (by kernel_rfl) (by kernel_rfl) (by kernel_rfl) (fun _ _ _ h => h) (Or.inl ⟨by rfl, ?_⟩) (by assumption) ?_
            rotate_left
            · intro y hSw
              skip
              go_simp
              try with_reducible rfl
            try simp only [Act.put, List.setIfInBounds_toArray, List.set_cons_zero, List.set_cons_succ]
            refine wpAnyH_ready (rs := [8]) (by kernel_rfl) (by simp) ?_
            refine AllReadyH.cons rfl (fun K hK => ?_) AllReadyH.nil
            go_simp
            refine (mclone_any (h3.out.on hHeld) (by omega)).mono ?_
            rintro e x6 ⟨u3, rfl, U3, hn⟩
            have hs := BZ.out.2.2
            obtain ⟨a3, m3, rfl, hm3⟩ := U3.shape
            replace BX := hide (BX.out.on hn)
            replace BZ := hide (BZ.out.on hn)
            replace U3 := hide (U3.mono (G := fun k => w.heap.size + 2 ≤ k) (fun k h1 h2 => Nat.le_trans hs h1))
            clear hs
            replace U1 := hide (U1.out.on hn)
            replace U2 := hide (U2.out.on hn)
            go_wp2_with fail
            refine hK.out _ _ (onto hHeld (Nat.le_refl _) hn) (fun hHeld => ?_)
            clear hK K
            try simp only [Act.put, List.setIfInBounds_toArray, List.set_cons_zero, List.set_cons_succ]
            clear hn
            refine wpAnyH_ready (rs := [10]) (by kernel_rfl) (by simp) ?_
            refine AllReadyH.cons rfl (fun K hK => ?_) AllReadyH.nil
            have c1 := BX.out.cell 1
            have f1 := BX.out.free 1
            have BX2 : Hid (Box (x6.setCell ⟨w.heap.size, 1, none⟩ (.slice a1 x.ws.length m1)) w.heap.size #[.int .u32 x.pc, .slice a1 x.ws.length m1, v2, v3]) := hide (BX.out.set 1 (.slice a1 x.ws.length m1))
            have hfar : ∀ k, k ≠ w.heap.size → (x6.setCell ⟨w.heap.size, 1, none⟩ (.slice a1 x.ws.length m1)).heap[k]? = x6.heap[k]? := fun k hk => Below.heap_setCell x6 _ _ k hk
            have hset : Below w.heap.size x6 (x6.setCell ⟨w.heap.size, 1, none⟩ (.slice a1 x.ws.length m1)) := (Below.refl _ _).setCell (p := ⟨w.heap.size, 1, none⟩) (Nat.le_refl _) _
            go_simp
            refine hK.out _ _ (hHeld.trans hset) (fun hHeld => ?_)
            clear hK K
            try simp only [Act.put, List.setIfInBounds_toArray, List.set_cons_zero, List.set_cons_succ]
            clear c1 f1 BX
            replace BX := BX2
            clear BX2
            replace BZ := hide (BZ.out.of_heap (hfar _ (by omega)))
            replace U1 := hide (U1.out.keep (fun k h1 _ => hfar k (by omega)))
            replace U2 := hide (U2.out.keep (fun k h1 _ => hfar k (by omega)))
            replace U3 := hide (U3.out.keep (fun k h1 _ => hfar k (by omega)))
            clear hfar hset
            generalize x6.setCell ⟨w.heap.size, 1, none⟩ (.slice a1 x.ws.length m1) = x7 at *
            refine wpAnyH_take (i := 11) (v := ?_) rfl (by kernel_rfl) (by kernel_rfl) (by kernel_rfl) (fun _ _ _ h => h) (Or.inl ⟨by rfl, ?_⟩) (by assumption) ?_
            rotate_left
            · intro y hSw
              skip
              go_simp
              try with_reducible rfl
            try simp only [Act.put, List.setIfInBounds_toArray, List.set_cons_zero, List.set_cons_succ]
            refine wpAnyH_ready (rs := [12]) (by kernel_rfl) (by simp) ?_
            refine AllReadyH.cons rfl (fun K hK => ?_) AllReadyH.nil
            have c2 := BX.out.cell 2
            have f2 := BX.out.free 2
            have BX2 : Hid (Box (x7.setCell ⟨w.heap.size, 2, none⟩ (.slice a2 x.os.length m2)) w.heap.size #[.int .u32 x.pc, .slice a1 x.ws.length m1, .slice a2 x.os.length m2, v3]) := hide (BX.out.set 2 (.slice a2 x.os.length m2))
            have hfar : ∀ k, k ≠ w.heap.size → (x7.setCell ⟨w.heap.size, 2, none⟩ (.slice a2 x.os.length m2)).heap[k]? = x7.heap[k]? := fun k hk => Below.heap_setCell x7 _ _ k hk
            have hset : Below w.heap.size x7 (x7.setCell ⟨w.heap.size, 2, none⟩ (.slice a2 x.os.length m2)) := (Below.refl _ _).setCell (p := ⟨w.heap.size, 2, none⟩) (Nat.le_refl _) _
            go_simp
            refine hK.out _ _ (hHeld.trans hset) (fun hHeld => ?_)
            clear hK K
            try simp only [Act.put, List.setIfInBounds_toArray, List.set_cons_zero, List.set_cons_succ]
            clear c2 f2 BX
            replace BX := BX2
            clear BX2
            replace BZ := hide (BZ.out.of_heap (hfar _ (by omega)))
            replace U1 := hide (U1.out.keep (fun k h1 _ => hfar k (by omega)))
            replace U2 := hide (U2.out.keep (fun k h1 _ => hfar k (by omega)))
            replace U3 := hide (U3.out.keep (fun k h1 _ => hfar k (by omega)))
            clear hfar hset
            generalize x7.setCell ⟨w.heap.size, 2, none⟩ (.slice a2 x.os.length m2) = x8 at *
            refine wpAnyH_take (i := 13) (v := ?_) rfl (by kernel_rfl) (by kernel_rfl) (by kernel_rfl) (fun _ _ _ h => h) (Or.inl ⟨by rfl, ?_⟩) (by assumption) ?_
            rotate_left
            · intro y hSw
              skip
              go_simp
              try with_reducible rfl
            try simp only [Act.put, List.setIfInBounds_toArray, List.set_cons_zero, List.set_cons_succ]
            refine wpAnyH_ready (rs := [14]) (by kernel_rfl) (by simp) ?_
            refine AllReadyH.cons rfl (fun K hK => ?_) AllReadyH.nil
            have c3 := BX.out.cell 3
            have f3 := BX.out.free 3
            have BX2 : Hid (Box (x8.setCell ⟨w.heap.size, 3, none⟩ (.slice a3 x.ps.length m3)) w.heap.size #[.int .u32 x.pc, .slice a1 x.ws.length m1, .slice a2 x.os.length m2, .slice a3 x.ps.length m3]) := hide (BX.out.set 3 (.slice a3 x.ps.length m3))
            have hfar : ∀ k, k ≠ w.heap.size → (x8.setCell ⟨w.heap.size, 3, none⟩ (.slice a3 x.ps.length m3)).heap[k]? = x8.heap[k]? := fun k hk => Below.heap_setCell x8 _ _ k hk
            have hset : Below w.heap.size x8 (x8.setCell ⟨w.heap.size, 3, none⟩ (.slice a3 x.ps.length m3)) := (Below.refl _ _).setCell (p := ⟨w.heap.size, 3, none⟩) (Nat.le_refl _) _
            go_simp
            refine hK.out _ _ (hHeld.trans hset) (fun hHeld => ?_)
            clear hK K
            try simp only [Act.put, List.setIfInBounds_toArray, List.set_cons_zero, List.set_cons_succ]
            clear c3 f3 BX
            replace BX := BX2
            clear BX2
            replace BZ := hide (BZ.out.of_heap (hfar _ (by omega)))
            replace U1 := hide (U1.out.keep (fun k h1 _ => hfar k (by omega)))
            replace U2 := hide (U2.out.keep (fun k h1 _ => hfar k (by omega)))
            replace U3 := hide (U3.out.keep (fun k h1 _ => hfar k (by omega)))
            clear hfar hset
            generalize x8.setCell ⟨w.heap.size, 3, none⟩ (.slice a3 x.ps.length m3) = x9 at *
            refine wpAnyH_done (by kernel_rfl) ?_ _
            go_wp2_with fail
            go_meet
            case rel => exact ⟨rfl, hide ⟨_, _, _, BX.out, BZ.out, U1.out, U2.out, U3.out, hHeld⟩⟩
          refine AllReadyH.cons rfl (fun K hK => ?_) AllReadyH.nil
          have c3 := BX.out.cell 3
          go_simp
          refine hK.out _ _ (hHeld) (fun hHeld => ?_)
          clear hK K
          try simp only [Act.put, List.setIfInBounds_toArray, List.set_cons_zero, List.set_cons_succ]
          clear c3
          refine wpAnyH_take (i := 9) (v := ?_) rfl (by kernel_rfl) (by kernel_rfl) (by kernel_rfl) (fun _ _ _ h => h) (Or.inl ⟨by rfl, ?_⟩) (by assumption) ?_
          rotate_left
          · intro y hSw
            skip
            go_simp
            try with_reducible rfl
          try simp only [Act.put, List.setIfInBounds_toArray, List.set_cons_zero, List.set_cons_succ]
          refine wpAnyH_ready (rs := [5]) (by kernel_rfl) (by simp) ?_
          refine AllReadyH.cons rfl (fun K hK => ?_) AllReadyH.nil
          go_simp
          refine (mclone_any (h2.out.on hHeld) (by omega)).mono ?_
          rintro e x5 ⟨u2, rfl, U2, hn⟩
          have hs := BZ.out.2.2
          obtain ⟨a2, m2, rfl, hm2⟩ := U2.shape
          replace BX := hide (BX.out.on hn)
          replace BZ := hide (BZ.out.on hn)
          replace U2 := hide (U2.mono (G := fun k => w.heap.size + 2 ≤ k) (fun k h1 h2 => Nat.le_trans hs h1))
          clear hs
          replace U1 := hide (U1.out.on hn)
          go_wp2_with fail
          refine hK.out _ _ (onto hHeld (Nat.le_refl _) hn) (fun hHeld => ?_)
          clear hK K
          try simp only [Act.put, List.setIfInBounds_toArray, List.set_cons_zero, List.set_cons_succ]
          clear hn
          refine wpAnyH_ready (rs := [8]) (by kernel_rfl) (by simp) ?_
          refine AllReadyH.cons rfl (fun K hK => ?_) AllReadyH.nil
          go_simp
          refine (mclone_any (h3.out.on hHeld) (by omega)).mono ?_
          rintro e x6 ⟨u3, rfl, U3, hn⟩
          have hs := BZ.out.2.2
          obtain ⟨a3, m3, rfl, hm3⟩ := U3.shape
          replace BX := hide (BX.out.on hn)
          replace BZ := hide (BZ.out.on hn)
          replace U3 := hide (U3.mono (G := fun k => w.heap.size + 2 ≤ k) (fun k h1 h2 => Nat.le_trans hs h1))
          clear hs
          replace U1 := hide (U1.out.on hn)
          replace U2 := hide (U2.out.on hn)
          go_wp2_with fail
          refine hK.out _ _ (onto hHeld (Nat.le_refl _) hn) (fun hHeld => ?_)
          clear hK K
          try simp only [Act.put, List.setIfInBounds_toArray, List.set_cons_zero, List.set_cons_succ]
          clear hn
          refine wpAnyH_ready (rs := [10]) (by kernel_rfl) (by simp) ?_
          refine AllReadyH.cons rfl (fun K hK => ?_) AllReadyH.nil
          have c1 := BX.out.cell 1
          have f1 := BX.out.free 1
          have BX2 : Hid (Box (x6.setCell ⟨w.heap.size, 1, none⟩ (.slice a1 x.ws.length m1)) w.heap.size #[.int .u32 x.pc, .slice a1 x.ws.length m1, v2, v3]) := hide (BX.out.set 1 (.slice a1 x.ws.length m1))
          have hfar : ∀ k, k ≠ w.heap.size → (x6.setCell ⟨w.heap.size, 1, none⟩ (.slice a1 x.ws.length m1)).heap[k]? = x6.heap[k]? := fun k hk => Below.heap_setCell x6 _ _ k hk
          have hset : Below w.heap.size x6 (x6.setCell ⟨w.heap.size, 1, none⟩ (.slice a1 x.ws.length m1)) := (Below.refl _ _).setCell (p := ⟨w.heap.size, 1, none⟩) (Nat.le_refl _) _
          go_simp
          refine hK.out _ _ (hHeld.trans hset) (fun hHeld => ?_)
          clear hK K
          try simp only [Act.put, List.setIfInBounds_toArray, List.set_cons_zero, List.set_cons_succ]
          clear c1 f1 BX
          replace BX := BX2
          clear BX2
          replace BZ := hide (BZ.out.of_heap (hfar _ (by omega)))
          replace U1 := hide (U1.out.keep (fun k h1 _ => hfar k (by omega)))
          replace U2 := hide (U2.out.keep (fun k h1 _ => hfar k (by omega)))
          replace U3 := hide (U3.out.keep (fun k h1 _ => hfar k (by omega)))
          clear hfar hset
          generalize x6.setCell ⟨w.heap.size, 1, none⟩ (.slice a1 x.ws.length m1) = x7 at *
          refine wpAnyH_take (i := 11) (v := ?_) rfl (by kernel_rfl) (by kernel_rfl) (by kernel_rfl) (fun _ _ _ h => h) (Or.inl ⟨by rfl, ?_⟩) (by assumption) ?_
          rotate_left
          · intro y hSw
            skip
            go_simp
            try with_reducible rfl
          try simp only [Act.put, List.setIfInBounds_toArray, List.set_cons_zero, List.set_cons_succ]
          refine wpAnyH_ready (rs := [12]) (by kernel_rfl) (by simp) ?_
          refine AllReadyH.cons rfl (fun K hK => ?_) AllReadyH.nil
          have c2 := BX.out.cell 2
          have f2 := BX.out.free 2
          have BX2 : Hid (Box (x7.setCell ⟨w.heap.size, 2, none⟩ (.slice a2 x.os.length m2)) w.heap.size #[.int .u32 x.pc, .slice a1 x.ws.length m1, .slice a2 x.os.length m2, v3]) := hide (BX.out.set 2 (.slice a2 x.os.length m2))
          have hfar : ∀ k, k ≠ w.heap.size → (x7.setCell ⟨w.heap.size, 2, none⟩ (.slice a2 x.os.length m2)).heap[k]? = x7.heap[k]? := fun k hk => Below.heap_setCell x7 _ _ k hk
          have hset : Below w.heap.size x7 (x7.setCell ⟨w.heap.size, 2, none⟩ (.slice a2 x.os.length m2)) := (Below.refl _ _).setCell (p := ⟨w.heap.size, 2, none⟩) (Nat.le_refl _) _
          go_simp
          refine hK.out _ _ (hHeld.trans hset) (fun hHeld => ?_)
          clear hK K
          try simp only [Act.put, List.setIfInBounds_toArray, List.set_cons_zero, List.set_cons_succ]
          clear c2 f2 BX
          replace BX := BX2
          clear BX2
          replace BZ := hide (BZ.out.of_heap (hfar _ (by omega)))
          replace U1 := hide (U1.out.keep (fun k h1 _ => hfar k (by omega)))
          replace U2 := hide (U2.out.keep (fun k h1 _ => hfar k (by omega)))
          replace U3 := hide (U3.out.keep (fun k h1 _ => hfar k (by omega)))
          clear hfar hset
          generalize x7.setCell ⟨w.heap.size, 2, none⟩ (.slice a2 x.os.length m2) = x8 at *
          refine wpAnyH_take (i := 13) (v := ?_) rfl (by kernel_rfl) (by kernel_rfl) (by kernel_rfl) (fun _ _ _ h => h) (Or.inl ⟨by rfl, ?_⟩) (by assumption) ?_
          rotate_left
          · intro y hSw
            skip
            go_simp
            try with_reducible rfl
          try simp only [Act.put, List.setIfInBounds_toArray, List.set_cons_zero, List.set_cons_succ]
          refine wpAnyH_ready (rs := [14]) (by kernel_rfl) (by simp) ?_
          refine AllReadyH.cons rfl (fun K hK => ?_) AllReadyH.nil
          have c3 := BX.out.cell 3
          have f3 := BX.out.free 3
          have BX2 : Hid (Box (x8.setCell ⟨w.heap.size, 3, none⟩ (.slice a3 x.ps.length m3)) w.heap.size #[.int .u32 x.pc, .slice a1 x.ws.length m1, .slice a2 x.os.length m2, .slice a3 x.ps.length m3]) := hide (BX.out.set 3 (.slice a3 x.ps.length m3))
          have hfar : ∀ k, k ≠ w.heap.size → (x8.setCell ⟨w.heap.size, 3, none⟩ (.slice a3 x.ps.length m3)).heap[k]? = x8.heap[k]? := fun k hk => Below.heap_setCell x8 _ _ k hk
          have hset : Below w.heap.size x8 (x8.setCell ⟨w.heap.size, 3, none⟩ (.slice a3 x.ps.length m3)) := (Below.refl _ _).setCell (p := ⟨w.heap.size, 3, none⟩) (Nat.le_refl _) _
          go_simp
          refine hK.out _ _ (hHeld.trans hset) (fun hHeld => ?_)
          clear hK K
          try simp only [Act.put, List.setIfInBounds_toArray, List.set_cons_zero, List.set_cons_succ]
          clear c3 f3 BX
          replace BX := BX2
          clear BX2
          replace BZ := hide (BZ.out.of_heap (hfar _ (by omega)))
          replace U1 := hide (U1.out.keep (fun k h1 _ => hfar k (by omega)))
          replace U2 := hide (U2.out.keep (fun k h1 _ => hfar k (by omega)))
          replace U3 := hide (U3.out.keep (fun k h1 _ => hfar k (by omega)))
          clear hfar hset
          generalize x8.setCell ⟨w.heap.size, 3, none⟩ (.slice a3 x.ps.length m3) = x9 at *
          refine wpAnyH_done (by kernel_rfl) ?_ _
          go_wp2_with fail
          go_meet
          case rel => exact ⟨rfl, hide ⟨_, _, _, BX.out, BZ.out, U1.out, U2.out, U3.out, hHeld⟩⟩
        refine AllReadyH.cons rfl (fun K hK => ?_) AllReadyH.nil
        have c3 := BX.out.cell 3
        go_simp
        refine hK.out _ _ (hHeld) (fun hHeld => ?_)
        clear hK K
        try simp only [Act.put, List.setIfInBounds_toArray, List.set_cons_zero, List.set_cons_succ]
        clear c3
        refine wpAnyH_ready (rs := [2]) (by kernel_rfl) (by simp) ?_
        refine AllReadyH.cons rfl (fun K hK => ?_) AllReadyH.nil
        go_simp
        refine (wclone_any (h1.out.on hHeld) (by omega)).mono ?_
        rintro e x4 ⟨u1, rfl, U1, hn⟩
        have hs := BZ.out.2.2
        obtain ⟨a1, m1, rfl, hm1⟩ := U1.shape
        replace BX := hide (BX.out.on hn)
        replace BZ := hide (BZ.out.on hn)
        replace U1 := hide (U1.mono (G := fun k => w.heap.size + 2 ≤ k) (fun k h1 h2 => Nat.le_trans hs h1))
        clear hs
        go_wp2_with fail
        refine hK.out _ _ (onto hHeld (Nat.le_refl _) hn) (fun hHeld => ?_)
        clear hK K
        try simp only [Act.put, List.setIfInBounds_toArray, List.set_cons_zero, List.set_cons_succ]
        clear hn
        refine wpAnyH_take (i := 9) (v := ?_) rfl (by kernel_rfl) (by kernel_rfl) (by kernel_rfl) (fun _ _ _ h => h) (Or.inl ⟨by rfl, ?_⟩) (by assumption) ?_
        rotate_left
        · intro y hSw
          skip
          go_simp
          try with_reducible rfl
        try simp only [Act.put, List.setIfInBounds_toArray, List.set_cons_zero, List.set_cons_succ]
        refine wpAnyH_ready (rs := [5]) (by kernel_rfl) (by simp) ?_
        refine AllReadyH.cons rfl (fun K hK => ?_) AllReadyH.nil
        go_simp
        refine (mclone_any (h2.out.on hHeld) (by omega)).mono ?_
        rintro e x5 ⟨u2, rfl, U2, hn⟩
        have hs := BZ.out.2.2
        obtain ⟨a2, m2, rfl, hm2⟩ := U2.shape
        replace BX := hide (BX.out.on hn)
        replace BZ := hide (BZ.out.on hn)
        replace U2 := hide (U2.mono (G := fun k => w.heap.size + 2 ≤ k) (fun k h1 h2 => Nat.le_trans hs h1))
        clear hs
        replace U1 := hide (U1.out.on hn)
        go_wp2_with fail
        refine hK.out _ _ (onto hHeld (Nat.le_refl _) hn) (fun hHeld => ?_)
        clear hK K
        try simp only [Act.put, List.setIfInBounds_toArray, List.set_cons_zero, List.set_cons_succ]
        clear hn
        refine wpAnyH_ready (rs := [8]) (by kernel_rfl) (by simp) ?_
        refine AllReadyH.cons rfl (fun K hK => ?_) AllReadyH.nil
        go_simp
        refine (mclone_any (h3.out.on hHeld) (by omega)).mono ?_
        rintro e x6 ⟨u3, rfl, U3, hn⟩
        have hs := BZ.out.2.2
        obtain ⟨a3, m3, rfl, hm3⟩ := U3.shape
        replace BX := hide (BX.out.on hn)
        replace BZ := hide (BZ.out.on hn)
        replace U3 := hide (U3.mono (G := fun k => w.heap.size + 2 ≤ k) (fun k h1 h2 => Nat.le_trans hs h1))
        clear hs
        replace U1 := hide (U1.out.on hn)
        replace U2 := hide (U2.out.on hn)
        go_wp2_with fail
        refine hK.out _ _ (onto hHeld (Nat.le_refl _) hn) (fun hHeld => ?_)
        clear hK K
        try simp only [Act.put, List.setIfInBounds_toArray, List.set_cons_zero, List.set_cons_succ]
        clear hn
        refine wpAnyH_ready (rs := [10]) (by kernel_rfl) (by simp) ?_
        refine AllReadyH.cons rfl (fun K hK => ?_) AllReadyH.nil
        have c1 := BX.out.cell 1
        have f1 := BX.out.free 1
        have BX2 : Hid (Box (x6.setCell ⟨w.heap.size, 1, none⟩ (.slice a1 x.ws.length m1)) w.heap.size #[.int .u32 x.pc, .slice a1 x.ws.length m1, v2, v3]) := hide (BX.out.set 1 (.slice a1 x.ws.length m1))
        have hfar : ∀ k, k ≠ w.heap.size → (x6.setCell ⟨w.heap.size, 1, none⟩ (.slice a1 x.ws.length m1)).heap[k]? = x6.heap[k]? := fun k hk => Below.heap_setCell x6 _ _ k hk
        have hset : Below w.heap.size x6 (x6.setCell ⟨w.heap.size, 1, none⟩ (.slice a1 x.ws.length m1)) := (Below.refl _ _).setCell (p := ⟨w.heap.size, 1, none⟩) (Nat.le_refl _) _
        go_simp
        refine hK.out _ _ (hHeld.trans hset) (fun hHeld => ?_)
        clear hK K
        try simp only [Act.put, List.setIfInBounds_toArray, List.set_cons_zero, List.set_cons_succ]
        clear c1 f1 BX
        replace BX := BX2
        clear BX2
        replace BZ := hide (BZ.out.of_heap (hfar _ (by omega)))
        replace U1 := hide (U1.out.keep (fun k h1 _ => hfar k (by omega)))
        replace U2 := hide (U2.out.keep (fun k h1 _ => hfar k (by omega)))
        replace U3 := hide (U3.out.keep (fun k h1 _ => hfar k (by omega)))
        clear hfar hset
        generalize x6.setCell ⟨w.heap.size, 1, none⟩ (.slice a1 x.ws.length m1) = x7 at *
        refine wpAnyH_take (i := 11) (v := ?_) rfl (by kernel_rfl) (by kernel_rfl) (by kernel_rfl) (fun _ _ _ h => h) (Or.inl ⟨by rfl, ?_⟩) (by assumption) ?_
        rotate_left
        · intro y hSw
          skip
          go_simp
          try with_reducible rfl
        try simp only [Act.put, List.setIfInBounds_toArray, List.set_cons_zero, List.set_cons_succ]
        refine wpAnyH_ready (rs := [12]) (by kernel_rfl) (by simp) ?_
        refine AllReadyH.cons rfl (fun K hK => ?_) AllReadyH.nil
        have c2 := BX.out.cell 2
        have f2 := BX.out.free 2
        have BX2 : Hid (Box (x7.setCell ⟨w.heap.size, 2, none⟩ (.slice a2 x.os.length m2)) w.heap.size #[.int .u32 x.pc, .slice a1 x.ws.length m1, .slice a2 x.os.length m2, v3]) := hide (BX.out.set 2 (.slice a2 x.os.length m2))
        have hfar : ∀ k, k ≠ w.heap.size → (x7.setCell ⟨w.heap.size, 2, none⟩ (.slice a2 x.os.length m2)).heap[k]? = x7.heap[k]? := fun k hk => Below.heap_setCell x7 _ _ k hk
        have hset : Below w.heap.size x7 (x7.setCell ⟨w.heap.size, 2, none⟩ (.slice a2 x.os.length m2)) := (Below.refl _ _).setCell (p := ⟨w.heap.size, 2, none⟩) (Nat.le_refl _) _
        go_simp
        refine hK.out _ _ (hHeld.trans hset) (fun hHeld => ?_)
        clear hK K
        try simp only [Act.put, List.setIfInBounds_toArray, List.set_cons_zero, List.set_cons_succ]
        clear c2 f2 BX
        replace BX := BX2
        clear BX2
        replace BZ := hide (BZ.out.of_heap (hfar _ (by omega)))
        replace U1 := hide (U1.out.keep (fun k h1 _ => hfar k (by omega)))
        replace U2 := hide (U2.out.keep (fun k h1 _ => hfar k (by omega)))
        replace U3 := hide (U3.out.keep (fun k h1 _ => hfar k (by omega)))
        clear hfar hset
        generalize x7.setCell ⟨w.heap.size, 2, none⟩ (.slice a2 x.os.length m2) = x8 at *
        refine wpAnyH_take (i := 13) (v := ?_) rfl (by kernel_rfl) (by kernel_rfl) (by kernel_rfl) (fun _ _ _ h => h) (Or.inl ⟨by rfl, ?_⟩) (by assumption) ?_
        rotate_left
        · intro y hSw
          skip
          go_simp
          try with_reducible rfl
        try simp only [Act.put, List.setIfInBounds_toArray, List.set_cons_zero, List.set_cons_succ]
        refine wpAnyH_ready (rs := [14]) (by kernel_rfl) (by simp) ?_
        refine AllReadyH.cons rfl (fun K hK => ?_) AllReadyH.nil
        have c3 := BX.out.cell 3
        have f3 := BX.out.free 3
        have BX2 : Hid (Box (x8.setCell ⟨w.heap.size, 3, none⟩ (.slice a3 x.ps.length m3)) w.heap.size #[.int .u32 x.pc, .slice a1 x.ws.length m1, .slice a2 x.os.length m2, .slice a3 x.ps.length m3]) := hide (BX.out.set 3 (.slice a3 x.ps.length m3))
        have hfar : ∀ k, k ≠ w.heap.size → (x8.setCell ⟨w.heap.size, 3, none⟩ (.slice a3 x.ps.length m3)).heap[k]? = x8.heap[k]? := fun k hk => Below.heap_setCell x8 _ _ k hk
        have hset : Below w.heap.size x8 (x8.setCell ⟨w.heap.size, 3, none⟩ (.slice a3 x.ps.length m3)) := (Below.refl _ _).setCell (p := ⟨w.heap.size, 3, none⟩) (Nat.le_refl _) _
        go_simp
        refine hK.out _ _ (hHeld.trans hset) (fun hHeld => ?_)
        clear hK K
        try simp only [Act.put, List.setIfInBounds_toArray, List.set_cons_zero, List.set_cons_succ]
        clear c3 f3 BX
        replace BX := BX2
        clear BX2
        replace BZ := hide (BZ.out.of_heap (hfar _ (by omega)))
        replace U1 := hide (U1.out.keep (fun k h1 _ => hfar k (by omega)))
        replace U2 := hide (U2.out.keep (fun k h1 _ => hfar k (by omega)))
        replace U3 := hide (U3.out.keep (fun k h1 _ => hfar k (by omega)))
        clear hfar hset
        generalize x8.setCell ⟨w.heap.size, 3, none⟩ (.slice a3 x.ps.length m3) = x9 at *
        refine wpAnyH_done (by kernel_rfl) ?_ _
        go_wp2_with fail
        go_meet
        case rel => exact ⟨rfl, hide ⟨_, _, _, BX.out, BZ.out, U1.out, U2.out, U3.out, hHeld⟩⟩
      refine AllReadyH.cons rfl (fun K hK => ?_) AllReadyH.nil
      have c3 := BX.out.cell 3
      go_simp
      refine hK.out _ _ (hHeld) (fun hHeld => ?_)
      clear hK K
      try simp only [Act.put, List.setIfInBounds_toArray, List.set_cons_zero, List.set_cons_succ]
      clear c3
      refine wpAnyH_ready (rs := [1]) (by kernel_rfl) (by simp) ?_
      refine AllReadyH.cons rfl (fun K hK => ?_) AllReadyH.nil
      have c1 := BX.out.cell 1
      go_simp
      refine hK.out _ _ (hHeld) (fun hHeld => ?_)
      clear hK K
      try simp only [Act.put, List.setIfInBounds_toArray, List.set_cons_zero, List.set_cons_succ]
      clear c1
      refine wpAnyH_ready (rs := [2]) (by kernel_rfl) (by simp) ?_
      refine AllReadyH.cons rfl (fun K hK => ?_) AllReadyH.nil
      go_simp
      refine (wclone_any (h1.out.on hHeld) (by omega)).mono ?_
      rintro e x4 ⟨u1, rfl, U1, hn⟩
      have hs := BZ.out.2.2
      obtain ⟨a1, m1, rfl, hm1⟩ := U1.shape
      replace BX := hide (BX.out.on hn)
      replace BZ := hide (BZ.out.on hn)
      replace U1 := hide (U1.mono (G := fun k => w.heap.size + 2 ≤ k) (fun k h1 h2 => Nat.le_trans hs h1))
      clear hs
      go_wp2_with fail
      refine hK.out _ _ (onto hHeld (Nat.le_refl _) hn) (fun hHeld => ?_)
      clear hK K
      try simp only [Act.put, List.setIfInBounds_toArray, List.set_cons_zero, List.set_cons_succ]
      clear hn
      refine wpAnyH_take (i := 9) (v := ?_) rfl (by kernel_rfl) (by kernel_rfl) (by kernel_rfl) (fun _ _ _ h => h) (Or.inl ⟨by rfl, ?_⟩) (by assumption) ?_
      rotate_left
      · intro y hSw
        skip
        go_simp
        try with_reducible rfl
      try simp only [Act.put, List.setIfInBounds_toArray, List.set_cons_zero, List.set_cons_succ]
      refine wpAnyH_ready (rs := [5]) (by kernel_rfl) (by simp) ?_
      refine AllReadyH.cons rfl (fun K hK => ?_) AllReadyH.nil
      go_simp
      refine (mclone_any (h2.out.on hHeld) (by omega)).mono ?_
      rintro e x5 ⟨u2, rfl, U2, hn⟩
      have hs := BZ.out.2.2
      obtain ⟨a2, m2, rfl, hm2⟩ := U2.shape
      replace BX := hide (BX.out.on hn)
      replace BZ := hide (BZ.out.on hn)
      replace U2 := hide (U2.mono (G := fun k => w.heap.size + 2 ≤ k) (fun k h1 h2 => Nat.le_trans hs h1))
      clear hs
      replace U1 := hide (U1.out.on hn)
      go_wp2_with fail
      refine hK.out _ _ (onto hHeld (Nat.le_refl _) hn) (fun hHeld => ?_)
      clear hK K
      try simp only [Act.put, List.setIfInBounds_toArray, List.set_cons_zero, List.set_cons_succ]
      clear hn
      refine wpAnyH_ready (rs := [8]) (by kernel_rfl) (by simp) ?_
      refine AllReadyH.cons rfl (fun K hK => ?_) AllReadyH.nil
      go_simp
      refine (mclone_any (h3.out.on hHeld) (by omega)).mono ?_
      rintro e x6 ⟨u3, rfl, U3, hn⟩
      have hs := BZ.out.2.2
      obtain ⟨a3, m3, rfl, hm3⟩ := U3.shape
      replace BX := hide (BX.out.on hn)
      replace BZ := hide (BZ.out.on hn)
      replace U3 := hide (U3.mono (G := fun k => w.heap.size + 2 ≤ k) (fun k h1 h2 => Nat.le_trans hs h1))
      clear hs
      replace U1 := hide (U1.out.on hn)
      replace U2 := hide (U2.out.on hn)
      go_wp2_with fail
      refine hK.out _ _ (onto hHeld (Nat.le_refl _) hn) (fun hHeld => ?_)
      clear hK K
      try simp only [Act.put, List.setIfInBounds_toArray, List.set_cons_zero, List.set_cons_succ]
      clear hn
      refine wpAnyH_ready (rs := [10]) (by kernel_rfl) (by simp) ?_
      refine AllReadyH.cons rfl (fun K hK => ?_) AllReadyH.nil
      have c1 := BX.out.cell 1
      have f1 := BX.out.free 1
      have BX2 : Hid (Box (x6.setCell ⟨w.heap.size, 1, none⟩ (.slice a1 x.ws.length m1)) w.heap.size #[.int .u32 x.pc, .slice a1 x.ws.length m1, v2, v3]) := hide (BX.out.set 1 (.slice a1 x.ws.length m1))
      have hfar : ∀ k, k ≠ w.heap.size → (x6.setCell ⟨w.heap.size, 1, none⟩ (.slice a1 x.ws.length m1)).heap[k]? = x6.heap[k]? := fun k hk => Below.heap_setCell x6 _ _ k hk
      have hset : Below w.heap.size x6 (x6.setCell ⟨w.heap.size, 1, none⟩ (.slice a1 x.ws.length m1)) := (Below.refl _ _).setCell (p := ⟨w.heap.size, 1, none⟩) (Nat.le_refl _) _
      go_simp
      refine hK.out _ _ (hHeld.trans hset) (fun hHeld => ?_)
      clear hK K
      try simp only [Act.put, List.setIfInBounds_toArray, List.set_cons_zero, List.set_cons_succ]
      clear c1 f1 BX
      replace BX := BX2
      clear BX2
      replace BZ := hide (BZ.out.of_heap (hfar _ (by omega)))
      replace U1 := hide (U1.out.keep (fun k h1 _ => hfar k (by omega)))
      replace U2 := hide (U2.out.keep (fun k h1 _ => hfar k (by omega)))
      replace U3 := hide (U3.out.keep (fun k h1 _ => hfar k (by omega)))
      clear hfar hset
      generalize x6.setCell ⟨w.heap.size, 1, none⟩ (.slice a1 x.ws.length m1) = x7 at *
      refine wpAnyH_take (i := 11) (v := ?_) rfl (by kernel_rfl) (by kernel_rfl) (by kernel_rfl) (fun _ _ _ h => h) (Or.inl ⟨by rfl, ?_⟩) (by assumption) ?_
      rotate_left
      · intro y hSw
        skip
        go_simp
        try with_reducible rfl
      try simp only [Act.put, List.setIfInBounds_toArray, List.set_cons_zero, List.set_cons_succ]
      refine wpAnyH_ready (rs := [12]) (by kernel_rfl) (by simp) ?_
      refine AllReadyH.cons rfl (fun K hK => ?_) AllReadyH.nil
      have c2 := BX.out.cell 2
      have f2 := BX.out.free 2
      have BX2 : Hid (Box (x7.setCell ⟨w.heap.size, 2, none⟩ (.slice a2 x.os.length m2)) w.heap.size #[.int .u32 x.pc, .slice a1 x.ws.length m1, .slice a2 x.os.length m2, v3]) := hide (BX.out.set 2 (.slice a2 x.os.length m2))
      have hfar : ∀ k, k ≠ w.heap.size → (x7.setCell ⟨w.heap.size, 2, none⟩ (.slice a2 x.os.length m2)).heap[k]? = x7.heap[k]? := fun k hk => Below.heap_setCell x7 _ _ k hk
      have hset : Below w.heap.size x7 (x7.setCell ⟨w.heap.size, 2, none⟩ (.slice a2 x.os.length m2)) := (Below.refl _ _).setCell (p := ⟨w.heap.size, 2, none⟩) (Nat.le_refl _) _
      go_simp
      refine hK.out _ _ (hHeld.trans hset) (fun hHeld => ?_)
      clear hK K
      try simp only [Act.put, List.setIfInBounds_toArray, List.set_cons_zero, List.set_cons_succ]
      clear c2 f2 BX
      replace BX := BX2
      clear BX2
      replace BZ := hide (BZ.out.of_heap (hfar _ (by omega)))
      replace U1 := hide (U1.out.keep (fun k h1 _ => hfar k (by omega)))
      replace U2 := hide (U2.out.keep (fun k h1 _ => hfar k (by omega)))
      replace U3 := hide (U3.out.keep (fun k h1 _ => hfar k (by omega)))
      clear hfar hset
      generalize x7.setCell ⟨w.heap.size, 2, none⟩ (.slice a2 x.os.length m2) = x8 at *
      refine wpAnyH_take (i := 13) (v := ?_) rfl (by kernel_rfl) (by kernel_rfl) (by kernel_rfl) (fun _ _ _ h => h) (Or.inl ⟨by rfl, ?_⟩) (by assumption) ?_
      rotate_left
      · intro y hSw
        skip
        go_simp
        try with_reducible rfl
      try simp only [Act.put, List.setIfInBounds_toArray, List.set_cons_zero, List.set_cons_succ]
      refine wpAnyH_ready (rs := [14]) (by kernel_rfl) (by simp) ?_
      refine AllReadyH.cons rfl (fun K hK => ?_) AllReadyH.nil
      have c3 := BX.out.cell 3
      have f3 := BX.out.free 3
      have BX2 : Hid (Box (x8.setCell ⟨w.heap.size, 3, none⟩ (.slice a3 x.ps.length m3)) w.heap.size #[.int .u32 x.pc, .slice a1 x.ws.length m1, .slice a2 x.os.length m2, .slice a3 x.ps.length m3]) := hide (BX.out.set 3 (.slice a3 x.ps.length m3))
      have hfar : ∀ k, k ≠ w.heap.size → (x8.setCell ⟨w.heap.size, 3, none⟩ (.slice a3 x.ps.length m3)).heap[k]? = x8.heap[k]? := fun k hk => Below.heap_setCell x8 _ _ k hk
      have hset : Below w.heap.size x8 (x8.setCell ⟨w.heap.size, 3, none⟩ (.slice a3 x.ps.length m3)) := (Below.refl _ _).setCell (p := ⟨w.heap.size, 3, none⟩) (Nat.le_refl _) _
      go_simp
      refine hK.out _ _ (hHeld.trans hset) (fun hHeld => ?_)
      clear hK K
      try simp only [Act.put, List.setIfInBounds_toArray, List.set_cons_zero, List.set_cons_succ]
      clear c3 f3 BX
      replace BX := BX2
      clear BX2
      replace BZ := hide (BZ.out.of_heap (hfar _ (by omega)))
      replace U1 := hide (U1.out.keep (fun k h1 _ => hfar k (by omega)))
      replace U2 := hide (U2.out.keep (fun k h1 _ => hfar k (by omega)))
      replace U3 := hide (U3.out.keep (fun k h1 _ => hfar k (by omega)))
      clear hfar hset
      generalize x8.setCell ⟨w.heap.size, 3, none⟩ (.slice a3 x.ps.length m3) = x9 at *
      refine wpAnyH_done (by kernel_rfl) ?_ _
      go_wp2_with fail
      go_meet
      case rel => exact ⟨rfl, hide ⟨_, _, _, BX.out, BZ.out, U1.out, U2.out, U3.out, hHeld⟩⟩
    refine AllReadyH.cons rfl (fun K hK => ?_) AllReadyH.nil
    have c3 := BX.out.cell 3
    go_simp
    refine hK.out _ _ (hHeld) (fun hHeld => ?_)
    clear hK K
    try simp only [Act.put, List.setIfInBounds_toArray, List.set_cons_zero, List.set_cons_succ]
    clear c3
    refine wpAnyH_ready (rs := [1, 4]) (by kernel_rfl) (by simp) ?_
    refine AllReadyH.cons rfl (fun K hK => ?_) ?_
    · have c1 := BX.out.cell 1
      go_simp
      refine hK.out _ _ (hHeld) (fun hHeld => ?_)
      clear hK K
      try simp only [Act.put, List.setIfInBounds_toArray, List.set_cons_zero, List.set_cons_succ]
      clear c1
      refine wpAnyH_ready (rs := [2, 4]) (by kernel_rfl) (by simp) ?_
      refine AllReadyH.cons rfl (fun K hK => ?_) ?_
      · go_simp
        refine (wclone_any (h1.out.on hHeld) (by omega)).mono ?_
        rintro e x3 ⟨u1, rfl, U1, hn⟩
        have hs := BZ.out.2.2
        obtain ⟨a1, m1, rfl, hm1⟩ := U1.shape
        replace BX := hide (BX.out.on hn)
        replace BZ := hide (BZ.out.on hn)
        replace U1 := hide (U1.mono (G := fun k => w.heap.size + 2 ≤ k) (fun k h1 h2 => Nat.le_trans hs h1))
        clear hs
        go_wp2_with fail
        refine hK.out _ _ (onto hHeld (Nat.le_refl _) hn) (fun hHeld => ?_)
        clear hK K
        try simp only [Act.put, List.setIfInBounds_toArray, List.set_cons_zero, List.set_cons_succ]
        clear hn
        refine wpAnyH_ready (rs := [4]) (by kernel_rfl) (by simp) ?_
        refine AllReadyH.cons rfl (fun K hK => ?_) AllReadyH.nil
        have c2 := BX.out.cell 2
        go_simp
        refine hK.out _ _ (hHeld) (fun hHeld => ?_)
        clear hK K
        try simp only [Act.put, List.setIfInBounds_toArray, List.set_cons_zero, List.set_cons_succ]
        clear c2
        refine wpAnyH_take (i := 9) (v := ?_) rfl (by kernel_rfl) (by kernel_rfl) (by kernel_rfl) (fun _ _ _ h => h) (Or.inl ⟨by rfl, ?_⟩) (by assumption) ?_
        rotate_left
        · intro y hSw
          skip
          go_simp
          try with_reducible rfl
        try simp only [Act.put, List.setIfInBounds_toArray, List.set_cons_zero, List.set_cons_succ]
        refine wpAnyH_ready (rs := [5]) (by kernel_rfl) (by simp) ?_
        refine AllReadyH.cons rfl (fun K hK => ?_) AllReadyH.nil
        go_simp
        refine (mclone_any (h2.out.on hHeld) (by omega)).mono ?_
        rintro e x5 ⟨u2, rfl, U2, hn⟩
        have hs := BZ.out.2.2
        obtain ⟨a2, m2, rfl, hm2⟩ := U2.shape
        replace BX := hide (BX.out.on hn)
        replace BZ := hide (BZ.out.on hn)
        replace U2 := hide (U2.mono (G := fun k => w.heap.size + 2 ≤ k) (fun k h1 h2 => Nat.le_trans hs h1))
        clear hs
        replace U1 := hide (U1.out.on hn)
        go_wp2_with fail
        refine hK.out _ _ (onto hHeld (Nat.le_refl _) hn) (fun hHeld => ?_)
        clear hK K
        try simp only [Act.put, List.setIfInBounds_toArray, List.set_cons_zero, List.set_cons_succ]
        clear hn
        refine wpAnyH_ready (rs := [8]) (by kernel_rfl) (by simp) ?_
        refine AllReadyH.cons rfl (fun K hK => ?_) AllReadyH.nil
        go_simp
        refine (mclone_any (h3.out.on hHeld) (by omega)).mono ?_
        rintro e x6 ⟨u3, rfl, U3, hn⟩
        have hs := BZ.out.2.2
        obtain ⟨a3, m3, rfl, hm3⟩ := U3.shape
        replace BX := hide (BX.out.on hn)
        replace BZ := hide (BZ.out.on hn)
        replace U3 := hide (U3.mono (G := fun k => w.heap.size + 2 ≤ k) (fun k h1 h2 => Nat.le_trans hs h1))
        clear hs
        replace U1 := hide (U1.out.on hn)
        replace U2 := hide (U2.out.on hn)
        go_wp2_with fail
        refine hK.out _ _ (onto hHeld (Nat.le_refl _) hn) (fun hHeld => ?_)
        clear hK K
        try simp only [Act.put, List.setIfInBounds_toArray, List.set_cons_zero, List.set_cons_succ]
        clear hn
        refine wpAnyH_ready (rs := [10]) (by kernel_rfl) (by simp) ?_
        refine AllReadyH.cons rfl (fun K hK => ?_) AllReadyH.nil
        have c1 := BX.out.cell 1
        have f1 := BX.out.free 1
        have BX2 : Hid (Box (x6.setCell ⟨w.heap.size, 1, none⟩ (.slice a1 x.ws.length m1)) w.heap.size #[.int .u32 x.pc, .slice a1 x.ws.length m1, v2, v3]) := hide (BX.out.set 1 (.slice a1 x.ws.length m1))
        have hfar : ∀ k, k ≠ w.heap.size → (x6.setCell ⟨w.heap.size, 1, none⟩ (.slice a1 x.ws.length m1)).heap[k]? = x6.heap[k]? := fun k hk => Below.heap_setCell x6 _ _ k hk
        have hset : Below w.heap.size x6 (x6.setCell ⟨w.heap.size, 1, none⟩ (.slice a1 x.ws.length m1)) := (Below.refl _ _).setCell (p := ⟨w.heap.size, 1, none⟩) (Nat.le_refl _) _
        go_simp
        refine hK.out _ _ (hHeld.trans hset) (fun hHeld => ?_)
        clear hK K
        try simp only [Act.put, List.setIfInBounds_toArray, List.set_cons_zero, List.set_cons_succ]
        clear c1 f1 BX
        replace BX := BX2
        clear BX2
        replace BZ := hide (BZ.out.of_heap (hfar _ (by omega)))
        replace U1 := hide (U1.out.keep (fun k h1 _ => hfar k (by omega)))
        replace U2 := hide (U2.out.keep (fun k h1 _ => hfar k (by omega)))
        replace U3 := hide (U3.out.keep (fun k h1 _ => hfar k (by omega)))
        clear hfar hset
        generalize x6.setCell ⟨w.heap.size, 1, none⟩ (.slice a1 x.ws.length m1) = x7 at *
        refine wpAnyH_take (i := 11) (v := ?_) rfl (by kernel_rfl) (by kernel_rfl) (by kernel_rfl) (fun _ _ _ h => h) (Or.inl ⟨by rfl, ?_⟩) (by assumption) ?_
        rotate_left
        · intro y hSw
          skip
          go_simp
          try with_reducible rfl
        try simp only [Act.put, List.setIfInBounds_toArray, List.set_cons_zero, List.set_cons_succ]
        refine wpAnyH_ready (rs := [12]) (by kernel_rfl) (by simp) ?_
        refine AllReadyH.cons rfl (fun K hK => ?_) AllReadyH.nil
        have c2 := BX.out.cell 2
        have f2 := BX.out.free 2
        have BX2 : Hid (Box (x7.setCell ⟨w.heap.size, 2, none⟩ (.slice a2 x.os.length m2)) w.heap.size #[.int .u32 x.pc, .slice a1 x.ws.length m1, .slice a2 x.os.length m2, v3]) := hide (BX.out.set 2 (.slice a2 x.os.length m2))
        have hfar : ∀ k, k ≠ w.heap.size → (x7.setCell ⟨w.heap.size, 2, none⟩ (.slice a2 x.os.length m2)).heap[k]? = x7.heap[k]? := fun k hk => Below.heap_setCell x7 _ _ k hk
        have hset : Below w.heap.size x7 (x7.setCell ⟨w.heap.size, 2, none⟩ (.slice a2 x.os.length m2)) := (Below.refl _ _).setCell (p := ⟨w.heap.size, 2, none⟩) (Nat.le_refl _) _
        go_simp
        refine hK.out _ _ (hHeld.trans hset) (fun hHeld => ?_)
        clear hK K
        try simp only [Act.put, List.setIfInBounds_toArray, List.set_cons_zero, List.set_cons_succ]
        clear c2 f2 BX
        replace BX := BX2
        clear BX2
        replace BZ := hide (BZ.out.of_heap (hfar _ (by omega)))
        replace U1 := hide (U1.out.keep (fun k h1 _ => hfar k (by omega)))
        replace U2 := hide (U2.out.keep (fun k h1 _ => hfar k (by omega)))
        replace U3 := hide (U3.out.keep (fun k h1 _ => hfar k (by omega)))
        clear hfar hset
        generalize x7.setCell ⟨w.heap.size, 2, none⟩ (.slice a2 x.os.length m2) = x8 at *
        refine wpAnyH_take (i := 13) (v := ?_) rfl (by kernel_rfl) (by kernel_rfl) (by kernel_rfl) (fun _ _ _ h => h) (Or.inl ⟨by rfl, ?_⟩) (by assumption) ?_
        rotate_left
        · intro y hSw
          skip
          go_simp
          try with_reducible rfl
        try simp only [Act.put, List.setIfInBounds_toArray, List.set_cons_zero, List.set_cons_succ]
        refine wpAnyH_ready (rs := [14]) (by kernel_rfl) (by simp) ?_
        refine AllReadyH.cons rfl (fun K hK => ?_) AllReadyH.nil
        have c3 := BX.out.cell 3
        have f3 := BX.out.free 3
        have BX2 : Hid (Box (x8.setCell ⟨w.heap.size, 3, none⟩ (.slice a3 x.ps.length m3)) w.heap.size #[.int .u32 x.pc, .slice a1 x.ws.length m1, .slice a2 x.os.length m2, .slice a3 x.ps.length m3]) := hide (BX.out.set 3 (.slice a3 x.ps.length m3))
        have hfar : ∀ k, k ≠ w.heap.size → (x8.setCell ⟨w.heap.size, 3, none⟩ (.slice a3 x.ps.length m3)).heap[k]? = x8.heap[k]? := fun k hk => Below.heap_setCell x8 _ _ k hk
        have hset : Below w.heap.size x8 (x8.setCell ⟨w.heap.size, 3, none⟩ (.slice a3 x.ps.length m3)) := (Below.refl _ _).setCell (p := ⟨w.heap.size, 3, none⟩) (Nat.le_refl _) _
        go_simp
        refine hK.out _ _ (hHeld.trans hset) (fun hHeld => ?_)
        clear hK K
        try simp only [Act.put, List.setIfInBounds_toArray, List.set_cons_zero, List.set_cons_succ]
        clear c3 f3 BX
        replace BX := BX2
        clear BX2
        replace BZ := hide (BZ.out.of_heap (hfar _ (by omega)))
        replace U1 := hide (U1.out.keep (fun k h1 _ => hfar k (by omega)))
        replace U2 := hide (U2.out.keep (fun k h1 _ => hfar k (by omega)))
        replace U3 := hide (U3.out.keep (fun k h1 _ => hfar k (by omega)))
        clear hfar hset
        generalize x8.setCell ⟨w.heap.size, 3, none⟩ (.slice a3 x.ps.length m3) = x9 at *
        refine wpAnyH_done (by kernel_rfl) ?_ _
        go_wp2_with fail
        go_meet
        case rel => exact ⟨rfl, hide ⟨_, _, _, BX.out, BZ.out, U1.out, U2.out, U3.out, hHeld⟩⟩
      refine AllReadyH.cons rfl (fun K hK => ?_) AllReadyH.nil
      have c2 := BX.out.cell 2
      go_simp
      refine hK.out _ _ (hHeld) (fun hHeld => ?_)
      clear hK K
      try simp only [Act.put, List.setIfInBounds_toArray, List.set_cons_zero, List.set_cons_succ]
      clear c2
      refine wpAnyH_ready (rs := [2]) (by kernel_rfl) (by simp) ?_
      refine AllReadyH.cons rfl (fun K hK => ?_) AllReadyH.nil
      go_simp
      refine (wclone_any (h1.out.on hHeld) (by omega)).mono ?_
      rintro e x4 ⟨u1, rfl, U1, hn⟩
      have hs := BZ.out.2.2
      obtain ⟨a1, m1, rfl, hm1⟩ := U1.shape
      replace BX := hide (BX.out.on hn)
      replace BZ := hide (BZ.out.on hn)
      replace U1 := hide (U1.mono (G := fun k => w.heap.size + 2 ≤ k) (fun k h1 h2 => Nat.le_trans hs h1))
      clear hs
      go_wp2_with fail
      refine hK.out _ _ (onto hHeld (Nat.le_refl _) hn) (fun hHeld => ?_)
      clear hK K
      try simp only [Act.put, List.setIfInBounds_toArray, List.set_cons_zero, List.set_cons_succ]
      clear hn
      refine wpAnyH_take (i := 9) (v := ?_) rfl (by kernel_rfl) (by kernel_rfl) (by kernel_rfl) (fun _ _ _ h => h) (Or.inl ⟨by rfl, ?_⟩) (by assumption) ?_
      rotate_left
      · intro y hSw
        skip
        go_simp
        try with_reducible rfl
      try simp only [Act.put, List.setIfInBounds_toArray, List.set_cons_zero, List.set_cons_succ]
      refine wpAnyH_ready (rs := [5]) (by kernel_rfl) (by simp) ?_
      refine AllReadyH.cons rfl (fun K hK => ?_) AllReadyH.nil
      go_simp
      refine (mclone_any (h2.out.on hHeld) (by omega)).mono ?_
      rintro e x5 ⟨u2, rfl, U2, hn⟩
      have hs := BZ.out.2.2
      obtain ⟨a2, m2, rfl, hm2⟩ := U2.shape
      replace BX := hide (BX.out.on hn)
      replace BZ := hide (BZ.out.on hn)
      replace U2 := hide (U2.mono (G := fun k => w.heap.size + 2 ≤ k) (fun k h1 h2 => Nat.le_trans hs h1))
      clear hs
      replace U1 := hide (U1.out.on hn)
      go_wp2_with fail
      refine hK.out _ _ (onto hHeld (Nat.le_refl _) hn) (fun hHeld => ?_)
      clear hK K
      try simp only [Act.put, List.setIfInBounds_toArray, List.set_cons_zero, List.set_cons_succ]
      clear hn
      refine wpAnyH_ready (rs := [8]) (by kernel_rfl) (by simp) ?_
      refine AllReadyH.cons rfl (fun K hK => ?_) AllReadyH.nil
      go_simp
      refine (mclone_any (h3.out.on hHeld) (by omega)).mono ?_
      rintro e x6 ⟨u3, rfl, U3, hn⟩
      have hs := BZ.out.2.2
      obtain ⟨a3, m3, rfl, hm3⟩ := U3.shape
      replace BX := hide (BX.out.on hn)
      replace BZ := hide (BZ.out.on hn)
      replace U3 := hide (U3.mono (G := fun k => w.heap.size + 2 ≤ k) (fun k h1 h2 => Nat.le_trans hs h1))
      clear hs
      replace U1 := hide (U1.out.on hn)
      replace U2 := hide (U2.out.on hn)
      go_wp2_with fail
      refine hK.out _ _ (onto hHeld (Nat.le_refl _) hn) (fun hHeld => ?_)
      clear hK K
      try simp only [Act.put, List.setIfInBounds_toArray, List.set_cons_zero, List.set_cons_succ]
      clear hn
      refine wpAnyH_ready (rs := [10]) (by kernel_rfl) (by simp) ?_
      refine AllReadyH.cons rfl (fun K hK => ?_) AllReadyH.nil
      have c1 := BX.out.cell 1
      have f1 := BX.out.free 1
      have BX2 : Hid (Box (x6.setCell ⟨w.heap.size, 1, none⟩ (.slice a1 x.ws.length m1)) w.heap.size #[.int .u32 x.pc, .slice a1 x.ws.length m1, v2, v3]) := hide (BX.out.set 1 (.slice a1 x.ws.length m1))
      have hfar : ∀ k, k ≠ w.heap.size → (x6.setCell ⟨w.heap.size, 1, none⟩ (.slice a1 x.ws.length m1)).heap[k]? = x6.heap[k]? := fun k hk => Below.heap_setCell x6 _ _ k hk
      have hset : Below w.heap.size x6 (x6.setCell ⟨w.heap.size, 1, none⟩ (.slice a1 x.ws.length m1)) := (Below.refl _ _).setCell (p := ⟨w.heap.size, 1, none⟩) (Nat.le_refl _) _
      go_simp
      refine hK.out _ _ (hHeld.trans hset) (fun hHeld => ?_)
      clear hK K
      try simp only [Act.put, List.setIfInBounds_toArray, List.set_cons_zero, List.set_cons_succ]
      clear c1 f1 BX
      replace BX := BX2
      clear BX2
      replace BZ := hide (BZ.out.of_heap (hfar _ (by omega)))
      replace U1 := hide (U1.out.keep (fun k h1 _ => hfar k (by omega)))
      replace U2 := hide (U2.out.keep (fun k h1 _ => hfar k (by omega)))
      replace U3 := hide (U3.out.keep (fun k h1 _ => hfar k (by omega)))
      clear hfar hset
      generalize x6.setCell ⟨w.heap.size, 1, none⟩ (.slice a1 x.ws.length m1) = x7 at *
      refine wpAnyH_take (i := 11) (v := ?_) rfl (by kernel_rfl) (by kernel_rfl) (by kernel_rfl) (fun _ _ _ h => h) (Or.inl ⟨by rfl, ?_⟩) (by assumption) ?_
      rotate_left
      · intro y hSw
        skip
        go_simp
        try with_reducible rfl
      try simp only [Act.put, List.setIfInBounds_toArray, List.set_cons_zero, List.set_cons_succ]
      refine wpAnyH_ready (rs := [12]) (by kernel_rfl) (by simp) ?_
      refine AllReadyH.cons rfl (fun K hK => ?_) AllReadyH.nil
      have c2 := BX.out.cell 2
      have f2 := BX.out.free 2
      have BX2 : Hid (Box (x7.setCell ⟨w.heap.size, 2, none⟩ (.slice a2 x.os.length m2)) w.heap.size #[.int .u32 x.pc, .slice a1 x.ws.length m1, .slice a2 x.os.length m2, v3]) := hide (BX.out.set 2 (.slice a2 x.os.length m2))
      have hfar : ∀ k, k ≠ w.heap.size → (x7.setCell ⟨w.heap.size, 2, none⟩ (.slice a2 x.os.length m2)).heap[k]? = x7.heap[k]? := fun k hk => Below.heap_setCell x7 _ _ k hk
      have hset : Below w.heap.size x7 (x7.setCell ⟨w.heap.size, 2, none⟩ (.slice a2 x.os.length m2)) := (Below.refl _ _).setCell (p := ⟨w.heap.size, 2, none⟩) (Nat.le_refl _) _
      go_simp
      refine hK.out _ _ (hHeld.trans hset) (fun hHeld => ?_)
      clear hK K
      try simp only [Act.put, List.setIfInBounds_toArray, List.set_cons_zero, List.set_cons_succ]
      clear c2 f2 BX
      replace BX := BX2
      clear BX2
      replace BZ := hide (BZ.out.of_heap (hfar _ (by omega)))
      replace U1 := hide (U1.out.keep (fun k h1 _ => hfar k (by omega)))
      replace U2 := hide (U2.out.keep (fun k h1 _ => hfar k (by omega)))
      replace U3 := hide (U3.out.keep (fun k h1 _ => hfar k (by omega)))
      clear hfar hset
      generalize x7.setCell ⟨w.heap.size, 2, none⟩ (.slice a2 x.os.length m2) = x8 at *
      refine wpAnyH_take (i := 13) (v := ?_) rfl (by kernel_rfl) (by kernel_rfl) (by kernel_rfl) (fun _ _ _ h => h) (Or.inl ⟨by rfl, ?_⟩) (by assumption) ?_
      rotate_left
      · intro y hSw
        skip
        go_simp
        try with_reducible rfl
      try simp only [Act.put, List.setIfInBounds_toArray, List.set_cons_zero, List.set_cons_succ]
      refine wpAnyH_ready (rs := [14]) (by kernel_rfl) (by simp) ?_
      refine AllReadyH.cons rfl (fun K hK => ?_) AllReadyH.nil
      have c3 := BX.out.cell 3
      have f3 := BX.out.free 3
      have BX2 : Hid (Box (x8.setCell ⟨w.heap.size, 3, none⟩ (.slice a3 x.ps.length m3)) w.heap.size #[.int .u32 x.pc, .slice a1 x.ws.length m1, .slice a2 x.os.length m2, .slice a3 x.ps.length m3]) := hide (BX.out.set 3 (.slice a3 x.ps.length m3))
      have hfar : ∀ k, k ≠ w.heap.size → (x8.setCell ⟨w.heap.size, 3, none⟩ (.slice a3 x.ps.length m3)).heap[k]? = x8.heap[k]? := fun k hk => Below.heap_setCell x8 _ _ k hk
      have hset : Below w.heap.size x8 (x8.setCell ⟨w.heap.size, 3, none⟩ (.slice a3 x.ps.length m3)) := (Below.refl _ _).setCell (p := ⟨w.heap.size, 3, none⟩) (Nat.le_refl _) _
      go_simp
      refine hK.out _ _ (hHeld.trans hset) (fun hHeld => ?_)
      clear hK K
      try simp only [Act.put, List.setIfInBounds_toArray, List.set_cons_zero, List.set_cons_succ]
      clear c3 f3 BX
      replace BX := BX2
      clear BX2
      replace BZ := hide (BZ.out.of_heap (hfar _ (by omega)))
      replace U1 := hide (U1.out.keep (fun k h1 _ => hfar k (by omega)))
      replace U2 := hide (U2.out.keep (fun k h1 _ => hfar k (by omega)))
      replace U3 := hide (U3.out.keep (fun k h1 _ => hfar k (by omega)))
      clear hfar hset
      generalize x8.setCell ⟨w.heap.size, 3, none⟩ (.slice a3 x.ps.length m3) = x9 at *
      refine wpAnyH_done (by kernel_rfl) ?_ _
      go_wp2_with fail
      go_meet
      case rel => exact ⟨rfl, hide ⟨_, _, _, BX.out, BZ.out, U1.out, U2.out, U3.out, hHeld⟩⟩
    refine AllReadyH.cons rfl (fun K hK => ?_) AllReadyH.nil
    have c2 := BX.out.cell 2
    go_simp
    refine hK.out _ _ (hHeld) (fun hHeld => ?_)
    clear hK K
    try simp only [Act.put, List.setIfInBounds_toArray, List.set_cons_zero, List.set_cons_succ]
    clear c2
    refine wpAnyH_ready (rs := [1]) (by kernel_rfl) (by simp) ?_
    refine AllReadyH.cons rfl (fun K hK => ?_) AllReadyH.nil
    have c1 := BX.out.cell 1
    go_simp
    refine hK.out _ _ (hHeld) (fun hHeld => ?_)
    clear hK K
    try simp only [Act.put, List.setIfInBounds_toArray, List.set_cons_zero, List.set_cons_succ]
    clear c1
    refine wpAnyH_ready (rs := [2]) (by kernel_rfl) (by simp) ?_
    refine AllReadyH.cons rfl (fun K hK => ?_) AllReadyH.nil
    go_simp
    refine (wclone_any (h1.out.on hHeld) (by omega)).mono ?_
    rintro e x4 ⟨u1, rfl, U1, hn⟩
    have hs := BZ.out.2.2
    obtain ⟨a1, m1, rfl, hm1⟩ := U1.shape
    replace BX := hide (BX.out.on hn)
    replace BZ := hide (BZ.out.on hn)
    replace U1 := hide (U1.mono (G := fun k => w.heap.size + 2 ≤ k) (fun k h1 h2 => Nat.le_trans hs h1))
    clear hs
    go_wp2_with fail
    refine hK.out _ _ (onto hHeld (Nat.le_refl _) hn) (fun hHeld => ?_)
    clear hK K
    try simp only [Act.put, List.setIfInBounds_toArray, List.set_cons_zero, List.set_cons_succ]
    clear hn
    refine wpAnyH_take (i := 9) (v := ?_) rfl (by kernel_rfl) (by kernel_rfl) (by kernel_rfl) (fun _ _ _ h => h) (Or.inl ⟨by rfl, ?_⟩) (by assumption) ?_
    rotate_left
    · intro y hSw
      skip
      go_simp
      try with_reducible rfl
    try simp only [Act.put, List.setIfInBounds_toArray, List.set_cons_zero, List.set_cons_succ]
    refine wpAnyH_ready (rs := [5]) (by kernel_rfl) (by simp) ?_
    refine AllReadyH.cons rfl (fun K hK => ?_) AllReadyH.nil
    go_simp
    refine (mclone_any (h2.out.on hHeld) (by omega)).mono ?_
    rintro e x5 ⟨u2, rfl, U2, hn⟩
    have hs := BZ.out.2.2
    obtain ⟨a2, m2, rfl, hm2⟩ := U2.shape
    replace BX := hide (BX.out.on hn)
    replace BZ := hide (BZ.out.on hn)
    replace U2 := hide (U2.mono (G := fun k => w.heap.size + 2 ≤ k) (fun k h1 h2 => Nat.le_trans hs h1))
    clear hs
    replace U1 := hide (U1.out.on hn)
    go_wp2_with fail
    refine hK.out _ _ (onto hHeld (Nat.le_refl _) hn) (fun hHeld => ?_)
    clear hK K
    try simp only [Act.put, List.setIfInBounds_toArray, List.set_cons_zero, List.set_cons_succ]
    clear hn
    refine wpAnyH_ready (rs := [8]) (by kernel_rfl) (by simp) ?_
    refine AllReadyH.cons rfl (fun K hK => ?_) AllReadyH.nil
    go_simp
    refine (mclone_any (h3.out.on hHeld) (by omega)).mono ?_
    rintro e x6 ⟨u3, rfl, U3, hn⟩
    have hs := BZ.out.2.2
    obtain ⟨a3, m3, rfl, hm3⟩ := U3.shape
    replace BX := hide (BX.out.on hn)
    replace BZ := hide (BZ.out.on hn)
    replace U3 := hide (U3.mono (G := fun k => w.heap.size + 2 ≤ k) (fun k h1 h2 => Nat.le_trans hs h1))
    clear hs
    replace U1 := hide (U1.out.on hn)
    replace U2 := hide (U2.out.on hn)
    go_wp2_with fail
    refine hK.out _ _ (onto hHeld (Nat.le_refl _) hn) (fun hHeld => ?_)
    clear hK K
    try simp only [Act.put, List.setIfInBounds_toArray, List.set_cons_zero, List.set_cons_succ]
    clear hn
    refine wpAnyH_ready (rs := [10]) (by kernel_rfl) (by simp) ?_
    refine AllReadyH.cons rfl (fun K hK => ?_) AllReadyH.nil
    have c1 := BX.out.cell 1
    have f1 := BX.out.free 1
    have BX2 : Hid (Box (x6.setCell ⟨w.heap.size, 1, none⟩ (.slice a1 x.ws.length m1)) w.heap.size #[.int .u32 x.pc, .slice a1 x.ws.length m1, v2, v3]) := hide (BX.out.set 1 (.slice a1 x.ws.length m1))
    have hfar : ∀ k, k ≠ w.heap.size → (x6.setCell ⟨w.heap.size, 1, none⟩ (.slice a1 x.ws.length m1)).heap[k]? = x6.heap[k]? := fun k hk => Below.heap_setCell x6 _ _ k hk
    have hset : Below w.heap.size x6 (x6.setCell ⟨w.heap.size, 1, none⟩ (.slice a1 x.ws.length m1)) := (Below.refl _ _).setCell (p := ⟨w.heap.size, 1, none⟩) (Nat.le_refl _) _
    go_simp
    refine hK.out _ _ (hHeld.trans hset) (fun hHeld => ?_)
    clear hK K
    try simp only [Act.put, List.setIfInBounds_toArray, List.set_cons_zero, List.set_cons_succ]
    clear c1 f1 BX
    replace BX := BX2
    clear BX2
    replace BZ := hide (BZ.out.of_heap (hfar _ (by omega)))
    replace U1 := hide (U1.out.keep (fun k h1 _ => hfar k (by omega)))
    replace U2 := hide (U2.out.keep (fun k h1 _ => hfar k (by omega)))
    replace U3 := hide (U3.out.keep (fun k h1 _ => hfar k (by omega)))
    clear hfar hset
    generalize x6.setCell ⟨w.heap.size, 1, none⟩ (.slice a1 x.ws.length m1) = x7 at *
    refine wpAnyH_take (i := 11) (v := ?_) rfl (by kernel_rfl) (by kernel_rfl) (by kernel_rfl) (fun _ _ _ h => h) (Or.inl ⟨by rfl, ?_⟩) (by assumption) ?_
    rotate_left
    · intro y hSw
      skip
      go_simp
      try with_reducible rfl
    try simp only [Act.put, List.setIfInBounds_toArray, List.set_cons_zero, List.set_cons_succ]
    refine wpAnyH_ready (rs := [12]) (by kernel_rfl) (by simp) ?_
    refine AllReadyH.cons rfl (fun K hK => ?_) AllReadyH.nil
    have c2 := BX.out.cell 2
    have f2 := BX.out.free 2
    have BX2 : Hid (Box (x7.setCell ⟨w.heap.size, 2, none⟩ (.slice a2 x.os.length m2)) w.heap.size #[.int .u32 x.pc, .slice a1 x.ws.length m1, .slice a2 x.os.length m2, v3]) := hide (BX.out.set 2 (.slice a2 x.os.length m2))
    have hfar : ∀ k, k ≠ w.heap.size → (x7.setCell ⟨w.heap.size, 2, none⟩ (.slice a2 x.os.length m2)).heap[k]? = x7.heap[k]? := fun k hk => Below.heap_setCell x7 _ _ k hk
    have hset : Below w.heap.size x7 (x7.setCell ⟨w.heap.size, 2, none⟩ (.slice a2 x.os.length m2)) := (Below.refl _ _).setCell (p := ⟨w.heap.size, 2, none⟩) (Nat.le_refl _) _
    go_simp
    refine hK.out _ _ (hHeld.trans hset) (fun hHeld => ?_)
    clear hK K
    try simp only [Act.put, List.setIfInBounds_toArray, List.set_cons_zero, List.set_cons_succ]
    clear c2 f2 BX
    replace BX := BX2
    clear BX2
    replace BZ := hide (BZ.out.of_heap (hfar _ (by omega)))
    replace U1 := hide (U1.out.keep (fun k h1 _ => hfar k (by omega)))
    replace U2 := hide (U2.out.keep (fun k h1 _ => hfar k (by omega)))
    replace U3 := hide (U3.out.keep (fun k h1 _ => hfar k (by omega)))
    clear hfar hset
    generalize x7.setCell ⟨w.heap.size, 2, none⟩ (.slice a2 x.os.length m2) = x8 at *
    refine wpAnyH_take (i := 13) (v := ?_) rfl (by kernel_rfl) (by kernel_rfl) (by kernel_rfl) (fun _ _ _ h => h) (Or.inl ⟨by rfl, ?_⟩) (by assumption) ?_
    rotate_left
    · intro y hSw
      skip
      go_simp
      try with_reducible rfl
    try simp only [Act.put, List.setIfInBounds_toArray, List.set_cons_zero, List.set_cons_succ]
    refine wpAnyH_ready (rs := [14]) (by kernel_rfl) (by simp) ?_
    refine AllReadyH.cons rfl (fun K hK => ?_) AllReadyH.nil
    have c3 := BX.out.cell 3
    have f3 := BX.out.free 3
    have BX2 : Hid (Box (x8.setCell ⟨w.heap.size, 3, none⟩ (.slice a3 x.ps.length m3)) w.heap.size #[.int .u32 x.pc, .slice a1 x.ws.length m1, .slice a2 x.os.length m2, .slice a3 x.ps.length m3]) := hide (BX.out.set 3 (.slice a3 x.ps.length m3))
    have hfar : ∀ k, k ≠ w.heap.size → (x8.setCell ⟨w.heap.size, 3, none⟩ (.slice a3 x.ps.length m3)).heap[k]? = x8.heap[k]? := fun k hk => Below.heap_setCell x8 _ _ k hk
    have hset : Below w.heap.size x8 (x8.setCell ⟨w.heap.size, 3, none⟩ (.slice a3 x.ps.length m3)) := (Below.refl _ _).setCell (p := ⟨w.heap.size, 3, none⟩) (Nat.le_refl _) _
    go_simp
    refine hK.out _ _ (hHeld.trans hset) (fun hHeld => ?_)
    clear hK K
    try simp only [Act.put, List.setIfInBounds_toArray, List.set_cons_zero, List.set_cons_succ]
    clear c3 f3 BX
    replace BX := BX2
    clear BX2
    replace BZ := hide (BZ.out.of_heap (hfar _ (by omega)))
    replace U1 := hide (U1.out.keep (fun k h1 _ => hfar k (by omega)))
    replace U2 := hide (U2.out.keep (fun k h1 _ => hfar k (by omega)))
    replace U3 := hide (U3.out.keep (fun k h1 _ => hfar k (by omega)))
    clear hfar hset
    generalize x8.setCell ⟨w.heap.size, 3, none⟩ (.slice a3 x.ps.length m3) = x9 at *
    refine wpAnyH_done (by kernel_rfl) ?_ _
    go_wp2_with fail
    go_meet
    case rel => exact ⟨rfl, hide ⟨_, _, _, BX.out, BZ.out, U1.out, U2.out, U3.out, hHeld⟩⟩
  case rest =>
    obtain ⟨rfl, hcut⟩ := hcut
    obtain ⟨u1, u2, u3, BX, BZ, U1, U2, U3, HB⟩ := hcut.out
    obtain ⟨a1, m1, rfl, hm1⟩ := U1.shape
    obtain ⟨a2, m2, rfl, hm2⟩ := U2.shape
    obtain ⟨a3, m3, rfl, hm3⟩ := U3.shape
    have c0 := BX.cell 0
    have c1 := BX.cell 1
    have c2 := BX.cell 2
    have c3 := BX.cell 3
    have z0 := BZ.cell 0
    have z1 := BZ.cell 1
    have z2 := BZ.cell 2
    have z3 := BZ.cell 3
    have f0 := BZ.free 0
    have f1 := BZ.free 1
    have f2 := BZ.free 2
    have f3 := BZ.free 3
    replace BX := hide BX
    replace BZ := hide BZ
    replace U1 := hide U1
    replace U2 := hide U2
    replace U3 := hide U3
    replace HB := hide HB
    clear hcut
    go_wp2
    have hfar : ∀ k, k ≠ w.heap.size + 1 → ∀ i1 i2 i3 i4 d1 d2 d3 d4, ((((wc.setCell ⟨w.heap.size + 1, i1, none⟩ d1).setCell ⟨w.heap.size + 1, i2, none⟩ d2).setCell ⟨w.heap.size + 1, i3, none⟩ d3).setCell ⟨w.heap.size + 1, i4, none⟩ d4).heap[k]? = wc.heap[k]? := fun k hk i1 i2 i3 i4 d1 d2 d3 d4 => by
      rw [Below.heap_setCell _ _ _ k hk, Below.heap_setCell _ _ _ k hk, Below.heap_setCell _ _ _ k hk, Below.heap_setCell _ _ _ k hk]
    have B4 := (((BZ.out.set 0 (.int .u32 x.pc)).set 1 (.slice a1 x.ws.length m1)).set 2 (.slice a2 x.os.length m2)).set 3 (.slice a3 x.ps.length m3)
    have q0 := B4.cell 0
    have q1 := B4.cell 1
    have q2 := B4.cell 2
    have q3 := B4.cell 3
    clear B4
    refine bodyPost_ret (v := .agg #[.int .u32 x.pc, .slice a1 x.ws.length m1, .slice a2 x.os.length m2, .slice a3 x.ps.length m3]) (by simp [results, Try.results22, go_sem, q0, q1, q2, q3]) rfl ?_
    clear q0 q1 q2 q3
    refine ⟨_, rfl, ⟨_, _, _, rfl, (U1.out.keep fun k h1 _ => hfar k (by omega) _ _ _ _ _ _ _ _).mono (fun k h1 _ => by omega), (U2.out.keep fun k h1 _ => hfar k (by omega) _ _ _ _ _ _ _ _).mono (fun k h1 _ => by omega), (U3.out.keep fun k h1 _ => hfar k (by omega) _ _ _ _ _ _ _ _).mono (fun k h1 _ => by omega), hpc.out, l1, l2, l3⟩, ?_⟩
    exact (((HB.out.setCell (Nat.le_succ _) _).setCell (Nat.le_succ _) _).setCell (Nat.le_succ _) _).setCell (Nat.le_succ _) _

end Go.Proofs.Ytkmafafmnncgiaa
