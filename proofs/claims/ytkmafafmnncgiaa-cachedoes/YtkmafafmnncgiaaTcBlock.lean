/- Layer 16: the statements' blocks. -/
import Derived.Test.YtkmafafmnncgiaaTcCache
import Derived.OwnWalk
import Derived.Maps.AppendAt
namespace Go.Proofs.Ytkmafafmnncgiaa
open Go.RowKit
set_option linter.unusedVariables false
set_option linter.unusedSimpArgs false

/-- A call of a script. -/
structure Oc where
  k : Int
  p : Int
  n : Int
  s : Int
  m : Int

def cellsO (o : Oc) : Array Value := #[.int .i64 o.k, .int .u32 o.p, .int .i64 o.n, .int .u32 o.s, .int .u32 o.m]

def Wo (o : Oc) : Prop := (-9223372036854775808 ≤ o.k ∧ o.k ≤ 9223372036854775807) ∧ W32 o.p ∧ (-9223372036854775808 ≤ o.n ∧ o.n ≤ 9223372036854775807) ∧ W32 o.s ∧ W32 o.m

/-- How many words, which. -/
def cntO (n : Int) : Nat := (n % 16).toNat
def wsO (m : Int) (k : Nat) : List Int := (List.range k).map fun (i : Nat) => (m + (i : Int)) % 4294967296
def osO (m : Int) (k : Nat) : List Mi := (List.range k).map fun (i : Nat) => ⟨1, 1, 0, 0, m, (i : Int)⟩

/-- The block of a call. -/
def blkO (o : Oc) : Blk := ⟨o.p, wsO o.m (cntO o.n), osO o.m (cntO o.n), osO o.m (cntO o.n)⟩

theorem wsO_succ (m : Int) (k : Nat) : wsO m (k + 1) = wsO m k ++ [(m + (k : Int)) % 4294967296] := by unfold wsO; rw [List.range_succ, List.map_append]; rfl
theorem osO_succ (m : Int) (k : Nat) : osO m (k + 1) = osO m k ++ [⟨1, 1, 0, 0, m, (k : Int)⟩] := by unfold osO; rw [List.range_succ, List.map_append]; rfl
theorem wsO_len (m : Int) (k : Nat) : (wsO m k).length = k := by simp [wsO]
theorem osO_len (m : Int) (k : Nat) : (osO m k).length = k := by simp [osO]
theorem cntO_lt (n : Int) : cntO n ≤ 15 := by unfold cntO; omega

theorem and15 (n : Int) (h0 : -9223372036854775808 ≤ n) (h1 : n ≤ 9223372036854775807) : bits .and .i64 n 15 = ((cntO n : Nat) : Int) := by
  have e : (BitVec.ofInt 64 n &&& BitVec.ofInt 64 15).toNat = (n % 18446744073709551616).toNat % 16 := by
    rw [BitVec.toNat_and, BitVec.toNat_ofInt, BitVec.toNat_ofInt]
    exact Nat.and_two_pow_sub_one_eq_mod _ 4
  show IntKind.i64.wrap ((BitVec.ofInt 64 n &&& BitVec.ofInt 64 15).toNat : Int) = _
  rw [e]
  unfold cntO
  simp [IntKind.wrap, IntKind.bits, IntKind.signed]
  omega

theorem own_ne {w : World} {B B' : Nat} {e e' : TypeId} {s s' n n' : Nat} {v v' : Value} {xs xs' : List Value} (h : w.ownsRow B e s v n xs) (h' : w.ownsRow B' e' s' v' n' xs') (he : e ≠ e') {g : Nat} (hg : v.ownBlock = some g) : v'.ownBlock ≠ some g := by
  intro hg'
  rcases h.2 with ⟨rfl, -⟩ | ⟨a, cap, cur, rfl, -, h1, -⟩
  · simp [Value.ownBlock] at hg
  · rcases h'.2 with ⟨rfl, -⟩ | ⟨b, cap', cur', rfl, -, h2, -⟩
    · simp [Value.ownBlock] at hg'
    · simp [Value.ownBlock] at hg hg'
      subst hg hg'
      rw [h1] at h2
      injection h2 with h2
      injection h2 with _ h2 _
      exact he h2

theorem own_far {w : World} {B B' : Nat} {e e' : TypeId} {s s' n n' : Nat} {v v' : Value} {xs xs' : List Value} (h : w.ownsRow B e s v n xs) (h' : w.ownsRow B' e' s' v' n' xs') (he : e ≠ e') : v'.ownBlock = none ∨ v'.ownBlock ≠ v.ownBlock := by
  cases hv : v'.ownBlock with
  | none => exact .inl rfl
  | some g =>
    right
    intro e
    exact own_ne h h' he e.symm hv

theorem cells_new (w : World) (c : Array Value) (t : TypeId) : ∀ j u, c.toList[j]? = some u → (w.alloc (.cells c t)).cell? ((⟨w.heap.size, 0, none⟩ : Addr).add j) = some u := by
  intro j u hj
  rw [Addr.add_lit, Nat.zero_add, (Box.new w c t).cell j]
  simpa using hj

/-- What Go's block(o) has behind k rounds. -/
def Made (w : World) (o : Oc) (k : Nat) (x : World) : Prop := ∃ v1 v2, Box x w.heap.size (cellsO o) ∧ Box x (w.heap.size + 1) #[.int .u32 0, .slice none 0 0, .slice none 0 0, .slice none 0 0] ∧
  Box x (w.heap.size + 1 + 1) #[.int .u32 o.p, v1, v2, .slice none 0 0] ∧ x.ownsRow (w.heap.size + 3) 32 1 v1 k (ints (wsO o.m k)) ∧ x.ownsRow (w.heap.size + 3) 42 6 v2 k (flat (osO o.m k)) ∧ Below w.heap.size w x

set_option maxHeartbeats 4000000 in
theorem block_any (o : Oc) (ho : Wo o) (w : World) :
    Calls Try.prog 9 #[.agg (cellsO o)] w fun e w' => ∃ v', e = .returned v' ∧ BlkAt w' (fun k => w.heap.size ≤ k) v' (blkO o) ∧ Below w.heap.size w w' := by
  obtain ⟨iw, hiw, hzw, hsw, hbw⟩ := infoW
  obtain ⟨im, him, hzm, hsm, hbm⟩ := infoM
  have hand := and15 o.n ho.2.2.1.1 ho.2.2.1.2
  obtain ⟨n, hn⟩ : ∃ n, n = cntO o.n := ⟨_, rfl⟩
  have hn15 : n ≤ 15 := by rw [hn]; exact cntO_lt _
  rw [← hn] at hand
  obtain ⟨⟨k0, k1⟩, ⟨p0, p1⟩, ⟨n0, n1⟩, ⟨s0, s1⟩, ⟨m0, m1⟩⟩ := ho
  replace hn := hide hn
  go_enter Try.func9, Try.ntmps9
  simp only [cellsO]
  go_wp2_with fail
  have hM0 : Made w o 0 (((w.alloc (.cells #[.int .i64 o.k, .int .u32 o.p, .int .i64 o.n, .int .u32 o.s, .int .u32 o.m] 34)).alloc (.cells #[.int .u32 0, .slice none 0 0, .slice none 0 0, .slice none 0 0] 38)).alloc (.cells #[.int .u32 o.p, .slice none 0 0, .slice none 0 0, .slice none 0 0] 38)) := by
    have G1 := grow w (.cells #[.int .i64 o.k, .int .u32 o.p, .int .i64 o.n, .int .u32 o.s, .int .u32 o.m] 34)
    have B1 := Box.new w #[.int .i64 o.k, .int .u32 o.p, .int .i64 o.n, .int .u32 o.s, .int .u32 o.m] 34
    have s1 : (w.alloc (.cells #[.int .i64 o.k, .int .u32 o.p, .int .i64 o.n, .int .u32 o.s, .int .u32 o.m] 34)).heap.size = w.heap.size + 1 := by simp
    generalize w.alloc (.cells #[.int .i64 o.k, .int .u32 o.p, .int .i64 o.n, .int .u32 o.s, .int .u32 o.m] 34) = y1 at *
    have G2 := grow y1 (.cells #[.int .u32 0, .slice none 0 0, .slice none 0 0, .slice none 0 0] 38)
    have B2 := Box.new y1 #[.int .u32 0, .slice none 0 0, .slice none 0 0, .slice none 0 0] 38
    have s2 : (y1.alloc (.cells #[.int .u32 0, .slice none 0 0, .slice none 0 0, .slice none 0 0] 38)).heap.size = w.heap.size + 1 + 1 := by simp [s1]
    rw [s1] at B2
    generalize y1.alloc (.cells #[.int .u32 0, .slice none 0 0, .slice none 0 0, .slice none 0 0] 38) = y2 at *
    have G3 := grow y2 (.cells #[.int .u32 o.p, .slice none 0 0, .slice none 0 0, .slice none 0 0] 38)
    have B3 := Box.new y2 #[.int .u32 o.p, .slice none 0 0, .slice none 0 0, .slice none 0 0] 38
    rw [s2] at B3
    exact ⟨_, _, (B1.on G2).on G3, B2.on G3, B3, World.ownsRow_nil _ _ _ 1, World.ownsRow_nil _ _ _ 6, onto (onto G1 (Nat.le_refl _) G2) (Nat.le_refl _) G3⟩
  replace hM0 := hide hM0
  go_loopw [5] (fun i wr => ∃ k : Nat, k ≤ n ∧ i = .int .i64 (k : Int) ∧ Hid (Made w o k wr)) (fun i _ => n - (intOf i).toNat)
  case atStart => exact ⟨0, Nat.zero_le _, rfl, hM0⟩
  case round =>
    clear hM0
    obtain ⟨k, hk, rfl, hM⟩ := hrel
    obtain ⟨v1, v2, BO, BZ, BB, O1, O2, HB⟩ := hM.out
    by_cases h : k < n
    · obtain ⟨a1, c1, rfl, hc1⟩ := (Row.of_own O1).shape
      obtain ⟨a2, c2, rfl, hc2⟩ := (Row.of_own O2).shape
      have m4 : wr.cell? ⟨w.heap.size, 4, none⟩ = some (.int .u32 o.m) := BO.cell 4
      have b1 : wr.cell? ⟨w.heap.size + 1 + 1, 1, none⟩ = some (.slice a1 k c1) := BB.cell 1
      have hs : w.heap.size + 3 ≤ wr.heap.size := BB.2.2
      replace BO := hide BO
      replace BZ := hide BZ
      replace BB := hide BB
      replace O1 := hide O1
      replace O2 := hide O2
      replace HB := hide HB
      clear hM
      go_wp2_with (at_builtin; refine wpList_append_own_at _ rfl _ _ 35 rfl (w.heap.size + 3) 32 iw _ 1 4 Try.underlying35 hiw hzw hsw hbw rfl (by decide) (.slice a1 k c1) k (ints (wsO o.m k)) rfl (O1.out.alloc _) ⟨wr.heap.size, 0, none⟩ 1 1 [.int .u32 ((o.m + (k : Int)) % 4294967296)] rfl rfl (cell_one_new _ _ _) (by simp [Value.oneCell']) (by unfold maxLen; omega) (by omega) (by simp; omega) ?_)
      intro v1' w4 P1 hgrow _ hat
      obtain ⟨d1, e1, rfl, he1⟩ := (Row.of_own P1).shape
      have G := grow wr (.cells #[.int .u32 ((o.m + (k : Int)) % 4294967296)] 32)
      have hb1 : ∀ g, (Value.slice a1 k c1).ownBlock = some g → w.heap.size + 3 ≤ g := fun g hg => (O1.out.lt g hg).1
      have kp : ∀ j, j < wr.heap.size → (∀ g, (Value.slice a1 k c1).ownBlock = some g → j ≠ g) → w4.heap[j]? = wr.heap[j]? := fun j hj hn => by
        rw [hgrow.block j (Nat.lt_of_lt_of_le hj G.size) (fun e => hn j e.symm rfl), G.block j hj]
      have BO4 := BO.out.of_heap (kp _ BO.out.2.2 (fun g hg => by have := hb1 g hg; omega))
      have BZ4 := BZ.out.of_heap (kp _ BZ.out.2.2 (fun g hg => by have := hb1 g hg; omega))
      have BB4 := BB.out.of_heap (kp _ BB.out.2.2 (fun g hg => by have := hb1 g hg; omega))
      have O24 := (O2.out.alloc (.cells #[.int .u32 ((o.m + (k : Int)) % 4294967296)] 32)).kept hgrow (own_far O1.out O2.out (by decide))
      have HB4 := (HB.out.alloc (by omega) (.cells #[.int .u32 ((o.m + (k : Int)) % 4294967296)] 32)).grown hgrow (by have := G.size; omega) (fun g hg => by have := hb1 g hg; omega)
      have hs4 : w.heap.size + 3 ≤ w4.heap.size := by have := hgrow.size; have := G.size; omega
      have m4' : w4.cell? ⟨w.heap.size, 4, none⟩ = some (.int .u32 o.m) := BO4.cell 4
      have b1' : w4.cell? ⟨w.heap.size + 1 + 1, 1, none⟩ = some (.slice a1 k c1) := BB4.cell 1
      have f1' : w4.frozen? ⟨w.heap.size + 1 + 1, 1, none⟩ = false := BB4.free 1
      have b2' : w4.cell? ⟨w.heap.size + 1 + 1, 2, none⟩ = some (.slice a2 k c2) := BB4.cell 2
      have hnew : ∀ j u, (cellsM ⟨1, 1, 0, 0, o.m, (k : Int)⟩).toList[j]? = some u → ((w4.setCell ⟨w.heap.size + 1 + 1, 1, none⟩ (.slice d1 (k + 1) e1)).alloc (.cells (cellsM ⟨1, 1, 0, 0, o.m, (k : Int)⟩) 42)).cell? ((⟨w4.heap.size, 0, none⟩ : Addr).add j) = some u := fun j u hj => by
        have := cells_new (w4.setCell ⟨w.heap.size + 1 + 1, 1, none⟩ (.slice d1 (k + 1) e1)) (cellsM ⟨1, 1, 0, 0, o.m, (k : Int)⟩) 42 j u hj
        rwa [show (w4.setCell ⟨w.heap.size + 1 + 1, 1, none⟩ (.slice d1 (k + 1) e1)).heap.size = w4.heap.size by simp [World.setCell]] at this
      replace hnew := hide hnew
      replace O24 := hide O24
      replace HB4 := hide HB4
      replace BO4 := hide BO4
      replace BZ4 := hide BZ4
      replace BB4 := hide BB4
      replace P1 := hide P1
      clear hgrow hat kp hb1 G b1 m4
      go_wp2_with (at_builtin; refine wpList_append_own_at _ rfl _ _ 36 rfl (w.heap.size + 3) 42 im _ 6 48 Try.underlying36 him hzm hsm hbm rfl (by decide) (.slice a2 k c2) k (flat (osO o.m k)) rfl ((ownsRow_setCell_below O24.out (by simp) _).alloc _) ⟨w4.heap.size, 0, none⟩ 1 1 (cellsM ⟨1, 1, 0, 0, o.m, (k : Int)⟩).toList rfl rfl hnew.out (cellsM_one _) (by unfold maxLen; omega) (by omega) (by simp [World.setCell]; omega) ?_)
      intro v2' w5 P2 hgrow _ hat
      obtain ⟨d2, e2, rfl, he2⟩ := (Row.of_own P2).shape
      obtain ⟨ys, hys⟩ : ∃ ys, ys = w4.setCell ⟨w.heap.size + 1 + 1, 1, none⟩ (.slice d1 (k + 1) e1) := ⟨_, rfl⟩
      obtain ⟨ya, hya⟩ : ∃ ya, ya = ys.alloc (.cells #[.int .i64 1, .int .i64 1, .int .i64 0, .int .i64 0, .int .u32 o.m, .int .i64 (k : Int)] 42) := ⟨_, rfl⟩
      have Gs : Below w.heap.size w ys := by rw [hys]; exact HB4.out.setCell (show w.heap.size ≤ w.heap.size + 1 + 1 by omega) _
      have Gk : ∀ j, j ≠ w.heap.size + 1 + 1 → ys.heap[j]? = w4.heap[j]? := fun j hj => by rw [hys]; exact Below.heap_setCell w4 _ _ j hj
      have BBs : Box ys (w.heap.size + 1 + 1) #[.int .u32 o.p, .slice d1 (k + 1) e1, .slice a2 k c2, .slice none 0 0] := by rw [hys]; exact BB4.out.set 1 _
      have hss : ys.heap.size = w4.heap.size := by rw [hys]; simp [World.setCell]
      have P1s : ys.ownsRow (w.heap.size + 3) 32 1 (.slice d1 (k + 1) e1) (k + 1) (ints (wsO o.m k) ++ [.int .u32 ((o.m + (k : Int)) % 4294967296)]) := by rw [hys]; exact ownsRow_setCell_below P1.out (by simp) _
      have O2s : ys.ownsRow (w.heap.size + 3) 42 6 (.slice a2 k c2) k (flat (osO o.m k)) := by rw [hys]; exact ownsRow_setCell_below O24.out (by simp) _
      rw [← hys] at hgrow
      have Ga := grow ys (.cells #[.int .i64 1, .int .i64 1, .int .i64 0, .int .i64 0, .int .u32 o.m, .int .i64 (k : Int)] 42)
      rw [← hya] at hgrow Ga
      have hb2 : ∀ g, (Value.slice a2 k c2).ownBlock = some g → w.heap.size + 3 ≤ g := fun g hg => (O24.out.lt g hg).1
      have kp : ∀ j, j < w.heap.size + 3 → w5.heap[j]? = ys.heap[j]? := fun j hj => by
        rw [hgrow.block j (by have := Ga.size; omega) (fun e => by have := hb2 j e.symm; omega), Ga.block j (by omega)]
      have BO5 := (BO4.out.of_heap (Gk _ (by omega))).of_heap (kp _ (by omega))
      have BZ5 := (BZ4.out.of_heap (Gk _ (by omega))).of_heap (kp _ (by omega))
      have BB5 := BBs.of_heap (kp _ (by omega))
      have P15 : w5.ownsRow (w.heap.size + 3) 32 1 (.slice d1 (k + 1) e1) (k + 1) (ints (wsO o.m k) ++ [.int .u32 ((o.m + (k : Int)) % 4294967296)]) := by
        have h1 := P1s.alloc (.cells #[.int .i64 1, .int .i64 1, .int .i64 0, .int .i64 0, .int .u32 o.m, .int .i64 (k : Int)] 42)
        rw [← hya] at h1
        exact h1.kept hgrow (own_far O2s P1s (by decide))
      have HB5 : Below w.heap.size w w5 := (onto Gs (by omega) Ga).grown hgrow (by have := Ga.size; omega) (fun g hg => by have := hb2 g hg; omega)
      have b2'' : w5.cell? ⟨w.heap.size + 1 + 1, 2, none⟩ = some (.slice a2 k c2) := BB5.cell 2
      have f2'' : w5.frozen? ⟨w.heap.size + 1 + 1, 2, none⟩ = false := BB5.free 2
      have hfin : Hid (Made w o (k + 1) (w5.setCell ⟨w.heap.size + 1 + 1, 2, none⟩ (.slice d2 (k + 1) e2))) := hide (by
        have hk5 : ∀ j, j ≠ w.heap.size + 1 + 1 → (w5.setCell ⟨w.heap.size + 1 + 1, 2, none⟩ (.slice d2 (k + 1) e2)).heap[j]? = w5.heap[j]? := fun j hj => Below.heap_setCell w5 _ _ j hj
        refine ⟨.slice d1 (k + 1) e1, .slice d2 (k + 1) e2, BO5.of_heap (hk5 _ (by omega)), BZ5.of_heap (hk5 _ (by omega)), BB5.set 2 _, ?_, ?_, HB5.setCell (show w.heap.size ≤ w.heap.size + 1 + 1 by omega) _⟩
        · rw [wsO_succ, ints_app]
          exact ownsRow_setCell_below P15 (by simp) _
        · rw [osO_succ, flat_app]
          exact ownsRow_setCell_below P2 (by simp) _)
      clear hgrow hat hya hys Gs Gk BBs hss P1s O2s Ga hb2 kp BO5 BZ5 BB5 P15 HB5 P2 m4' b1' f1' b2'
      go_wp2
      go_roundw
      case rel => exact ⟨k + 1, by omega, by go_num, hfin⟩
      case measure => simp [intOf]; omega
    · obtain rfl : k = n := by omega
      obtain ⟨a1, c1, rfl, hc1⟩ := (Row.of_own O1).shape
      obtain ⟨a2, c2, rfl, hc2⟩ := (Row.of_own O2).shape
      have hbs : w.heap.size + 1 + 1 < wr.heap.size := BB.2.2
      have b0 : wr.cell? ⟨w.heap.size + 1 + 1, 0, none⟩ = some (.int .u32 o.p) := BB.cell 0
      have b1 : wr.cell? ⟨w.heap.size + 1 + 1, 1, none⟩ = some (.slice a1 k c1) := BB.cell 1
      have b2 : wr.cell? ⟨w.heap.size + 1 + 1, 2, none⟩ = some (.slice a2 k c2) := BB.cell 2
      have b3 : wr.cell? ⟨w.heap.size + 1 + 1, 3, none⟩ = some (.slice none 0 0) := BB.cell 3
      have f3 : wr.frozen? ⟨w.heap.size + 1 + 1, 3, none⟩ = false := BB.free 3
      have z0 := BZ.cell 0
      have z1 := BZ.cell 1
      have z2 := BZ.cell 2
      have z3 := BZ.cell 3
      have g0 := BZ.free 0
      have g1 := BZ.free 1
      have g2 := BZ.free 2
      have g3 := BZ.free 3
      replace BB := hide BB
      replace BZ := hide BZ
      replace O1 := hide O1
      replace O2 := hide O2
      replace HB := hide HB
      clear hM BO
      go_wp2
      have hfar : ∀ j, j ≠ w.heap.size + 1 → j ≠ w.heap.size + 1 + 1 → ∀ i0 i1 i2 i3 i4 d0 d1 d2 d3 d4, (((((wr.setCell ⟨w.heap.size + 1 + 1, i0, none⟩ d0).setCell ⟨w.heap.size + 1, i1, none⟩ d1).setCell ⟨w.heap.size + 1, i2, none⟩ d2).setCell ⟨w.heap.size + 1, i3, none⟩ d3).setCell ⟨w.heap.size + 1, i4, none⟩ d4).heap[j]? = wr.heap[j]? := fun j hj hj2 i0 i1 i2 i3 i4 d0 d1 d2 d3 d4 => by
        rw [Below.heap_setCell _ _ _ j hj, Below.heap_setCell _ _ _ j hj, Below.heap_setCell _ _ _ j hj, Below.heap_setCell _ _ _ j hj, Below.heap_setCell _ _ _ j hj2]
      have BZs : Box (wr.setCell ⟨w.heap.size + 1 + 1, 3, none⟩ (.slice a2 k c2)) (w.heap.size + 1) _ := BZ.out.of_heap (Below.heap_setCell wr _ _ _ (by show w.heap.size + 1 ≠ w.heap.size + 1 + 1; omega))
      have B4 := (((BZs.set 0 (.int .u32 o.p)).set 1 (.slice a1 k c1)).set 2 (.slice a2 k c2)).set 3 (.slice a2 k c2)
      have q0 := B4.cell 0
      have q1 := B4.cell 1
      have q2 := B4.cell 2
      have q3 := B4.cell 3
      clear B4 BZs
      refine bodyPost_ret (v := .agg #[.int .u32 o.p, .slice a1 k c1, .slice a2 k c2, .slice a2 k c2]) (by simp [results, Try.results9, go_sem, q0, q1, q2, q3]) rfl ?_
      clear q0 q1 q2 q3
      have e1 : wsO o.m (cntO o.n) = wsO o.m k := by rw [hn.out]
      have e2 : osO o.m (cntO o.n) = osO o.m k := by rw [hn.out]
      have R1 := (Row.of_own O1.out).keep (fun j h1 _ => hfar j (by omega) (by omega) 3 0 1 2 3 (.slice a2 k c2) (.int .u32 o.p) (.slice a1 k c1) (.slice a2 k c2) (.slice a2 k c2)) |>.mono (G := fun j => w.heap.size ≤ j) (fun j h1 _ => by omega)
      have R2 := (Row.of_own O2.out).keep (fun j h1 _ => hfar j (by omega) (by omega) 3 0 1 2 3 (.slice a2 k c2) (.int .u32 o.p) (.slice a1 k c1) (.slice a2 k c2) (.slice a2 k c2)) |>.mono (G := fun j => w.heap.size ≤ j) (fun j h1 _ => by omega)
      refine ⟨_, rfl, ⟨_, _, _, rfl, ?_, ?_, ?_, ⟨p0, p1⟩, ?_, ?_, ?_⟩, ?_⟩
      · simp only [blkO, wsO_len]; rw [e1, ← hn.out]; exact R1
      · simp only [blkO, osO_len]; rw [e2, ← hn.out]; exact R2
      · simp only [blkO, osO_len]; rw [e2, ← hn.out]; exact R2
      · simp only [blkO, wsO_len]; exact cntO_lt _
      · simp only [blkO, osO_len]; exact cntO_lt _
      · simp only [blkO, osO_len]; exact cntO_lt _
      · exact ((((HB.out.setCell (show w.heap.size ≤ w.heap.size + 1 + 1 by omega) _).setCell (show w.heap.size ≤ w.heap.size + 1 by omega) _).setCell (show w.heap.size ≤ w.heap.size + 1 by omega) _).setCell (show w.heap.size ≤ w.heap.size + 1 by omega) _).setCell (show w.heap.size ≤ w.heap.size + 1 by omega) _

end Go.Proofs.Ytkmafafmnncgiaa
