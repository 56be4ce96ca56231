/- Layer 13: what the statements begin with: a bus of a world, and the document's. -/
import Derived.Test.YthjcijlabpinkaaGreatDoorRBuFin
import Derived.Test.YthjcijlabpinkaaGreatDoorRBuRef2
import Derived.Test.YthjcijlabpinkaaGreatDoorRBuOne
import Derived.Test.YthjcijlabpinkaaGreatDoorRCuOne
namespace Go.Proofs.YthjcijlabpinkaaGreatDoor
open Go.RowKit
set_option linter.unusedVariables false
set_option maxRecDepth 100000
set_option linter.unusedSimpArgs false

def fillW (zs : List Int) : Nat → Nat → Nat
  | 0 => fun _ => 0
  | k + 1 => putB (fillW zs k) (4 * k) 4 (zs.getD k 0).toNat

def markW : Nat → Nat → Bool
  | 0 => fun _ => false
  | k + 1 => putD (markW k) (4 * k / 256)

def cellsWo (c : Cs) (sw : Value) (dev : ByteArray) (se : Value) (st : Int) : Array Value := ((cellsC c).toList ++ [sw, .string dev, se, .int .i64 st]).toArray

theorem woParts (c : Cs) (sw : Value) (dev : ByteArray) (se : Value) (st : Int) : (cellsWo c sw dev se st)[63]? = some sw ∧ (cellsWo c sw dev se st)[64]? = some (.string dev) ∧ (cellsWo c sw dev se st)[65]? = some se ∧ (cellsWo c sw dev se st)[66]? = some (.int .i64 st) ∧
    fitsP (cellsWo c sw dev se st) 0 N63 = true ∧ part (cellsWo c sw dev se st) 0 N63 = cellsC c := ⟨rfl, rfl, rfl, rfl, rfl, rfl⟩

theorem store_word (v : Dv) (B : Nat → Nat) (D : Nat → Bool) (k : Nat) (z : Int) (h : k < 512) : stA 8 v B D (4 * (k : Int)) 4 z = ⟨0, v, putB B (4 * k) 4 z.toNat, putD D (4 * k / 256)⟩ := by
  unfold stA
  have e : (4 * (k : Int)).toNat = 4 * k := by omega
  rw [if_neg (by omega), if_pos ⟨Or.inr (Or.inr rfl), by omega, by omega⟩, e]
  rfl

theorem Side.less {w W x : World} {b p g c b' p' gb gd n : Nat} {v : Dv} {B : Nat → Nat} {D : Nat → Bool} (h : Side W x b p g c b' p' gb gd n v B D) (hb : Below w.heap.size w W) : Side w x b p g c b' p' gb gd n v B D := by
  have hs := hb.size
  have be : Below w.heap.size w x := hb.trans (h.o1.be.mono hs)
  exact ⟨⟨h.o1.bus, be, Nat.le_trans hs h.o1.zb, Nat.le_trans hs h.o1.zp, Nat.le_trans hs h.o1.zg⟩, ⟨h.o2.bus, be, Nat.le_trans hs h.o2.zb, Nat.le_trans hs h.o2.zp, Nat.le_trans hs h.o2.zgb, Nat.le_trans hs h.o2.zgd⟩, h.n1, h.n2⟩

theorem Side.below {w x y : World} {b p g c b' p' gb gd n : Nat} {v : Dv} {B : Nat → Nat} {D : Nat → Bool} (h : Side w x b p g c b' p' gb gd n v B D) (k : Kept [b, g] x y) : Below w.heap.size w y :=
  Kept.below h.o1.be k (Nat.le_refl _) (by intro i hi; simp at hi; rcases hi with rfl | rfl; exact h.o1.zb; exact h.o1.zg)

set_option maxHeartbeats 4000000 in
set_option maxRecDepth 100000 in
theorem laid_any (w : World) (c : Cs) (sw se : Value) (dev : ByteArray) (st : Int) (zs : List Int) (hw : IsWords w sw zs) (q : Dv) (f : Int) (hq : Wv q)
    (c1 : ∀ x b p g n c B D, Bus x b p g n c V0 B D → Calls Tryz.prog 44 #[.pointer (some ⟨b, 0, none⟩), .string dev] x fun e y => e = .returned (.int .i64 f) ∧ Bus y b p g n c q B D ∧ Kept [b] x y)
    (c2 : ∀ x b p gb gd n B D, RBus x b p gb gd n V0 B D → Calls Tryz.prog 45 #[.pointer (some ⟨b, 0, none⟩), .string dev] x fun e y => e = .returned (.int .i64 f) ∧ RBus y b p gb gd n q B D ∧ Kept [b] x y) :
    Calls Tryz.prog 14 #[.agg (cellsWo c sw dev se st)] w fun e w' => ∃ b p g b' p' gb gd, e = .returned (.tuple #[.pointer (some ⟨b, 0, none⟩), .pointer (some ⟨b', 0, none⟩)]) ∧
      Side w w' b p g 8 b' p' gb gd 8 q (fillW zs (min zs.length 512)) (markW (min zs.length 512)) := by
  obtain ⟨ad, N, cp, rfl, hN, hM, hX⟩ := hw.open'
  unfold maxLen at hM
  replace hN := hide hN
  replace hX := hide hX
  replace c1 := hide c1
  replace c2 := hide c2
  clear hw
  obtain ⟨G63, G64, -, -, -, -⟩ := woParts c (.slice ad N cp) dev se st
  generalize cellsWo c (.slice ad N cp) dev se st = cw at *
  have bx := hide (Box.new w cw 41)
  have gr := hide (grow w (.cells cw 41))
  go_enter Tryz.func14, Tryz.ntmps14
  go_wp2_with fail
  generalize w.alloc (.cells cw 41) = W0 at *
  refine (busNew_any 8 (by omega) (by omega) W0).mono ?_
  rintro e x1 ⟨b, p, g, rfl, hB, zb, zp, zg, b1⟩
  have O : Hid (Own W0 x1 b p g 8 8 V0 (fun _ => 0) (fun _ => false)) := hide ⟨hB, b1, zb, zp, zg⟩
  clear hB b1
  go_wp2_with fail
  refine (rbusNew_any 8 (by omega) (by omega) x1).mono ?_
  rintro e x2 ⟨b', p', gb, gd, rfl, hR, zb', zp', zgb, zgd, b2⟩
  have S0 := hide (Side.made O.out hR zb' zp' zgb zgd b2)
  clear O hR zb' zp' zgb zgd b2 zb zp zg
  go_wp2_with fail
  refine (memory_any S0.out.o1.bus).mono ?_
  rintro e x3 ⟨rfl, rfl⟩
  go_wp2_with fail
  go_loopw [8] (fun i wr => ∃ k : Nat, k ≤ 512 ∧ k ≤ N ∧ i = .int .i64 k ∧ Hid (Side W0 wr b p g 8 b' p' gb gd 8 V0 (fillW zs k) (markW k))) (fun i _ => 512 - (intOf i).toNat)
  case atStart => exact ⟨0, by omega, by omega, rfl, S0⟩
  case round =>
    clear S0
    obtain ⟨k, hk, hkN, rfl, S⟩ := hrel
    have bw := (bx.out.on S.out.o1.be)
    have v1 : wr.cell? ⟨w.heap.size, 63, none⟩ = some (.slice ad N cp) := by rw [bw.cell]; exact G63
    clear bw
    by_cases hc : k < N ∧ k < 512
    · have h1 := hc.1
      have h2 := hc.2
      have d1 : decide ((k : Int) < (N : Int)) = true := by simp; omega
      have d2 : decide ((k : Int) < 512) = true := by simp; omega
      have d3 : (k : Int) < (N : Int) := by omega
      clear hc
      obtain ⟨z, hz⟩ : ∃ z, zs[k]? = some z := ⟨_, List.getElem?_eq_getElem (by rw [← hN.out]; exact h1)⟩
      obtain ⟨hW, wb, off, rfl, hlt, hcell⟩ := hX.out k z hz
      have hwz : wb < W0.heap.size := Nat.lt_of_lt_of_le hlt gr.out.size
      have hc0 : W0.cell? ⟨wb, off + k, none⟩ = some (.int .u32 z) := by
        rw [gr.out.cell (p := ⟨wb, off + k, none⟩) hlt]; exact hcell
      have hc1 : wr.cell? ⟨wb, off + k, none⟩ = some (.int .u32 z) := by
        rw [S.out.o1.be.cell (p := ⟨wb, off + k, none⟩) hwz]; exact hc0
      replace hz := hide hz
      obtain ⟨z0, z1⟩ := hW
      clear hcell
      have cs := hide (store_is S.out.o1.bus (4 * (k : Int)) 4 z (by omega) (by omega) z0 z1)
      rw [store_word _ _ _ _ _ h2] at cs
      have u32k : IntKind.u32.wrap (4 * (k : Int)) = 4 * (k : Int) := by rw [IntKind.wrap_u32]; omega
      go_wp2_with fail
      refine cs.out.mono ?_
      rintro e x4 ⟨rfl, hB, K⟩
      have hM2 := hide (S.out.mid K)
      have be := S.out.below K
      have v2 : x4.cell? ⟨w.heap.size, 63, none⟩ = some (.slice (some ⟨wb, off, none⟩) N cp) := by rw [(bx.out.on be).cell]; exact G63
      have hc2 : x4.cell? ⟨wb, off + k, none⟩ = some (.int .u32 z) := by
        rw [be.cell (p := ⟨wb, off + k, none⟩) hwz]; exact hc0
      have cs2 := hide (rstore_is hM2.out (4 * (k : Int)) 4 z (by omega) (by omega) z0 z1)
      rw [store_word _ _ _ _ _ h2] at cs2
      replace hB := hide hB
      replace K := hide K
      clear cs be v1 hc1
      go_wp2_with fail
      refine cs2.out.mono ?_
      rintro e x5 ⟨rfl, hR, K2⟩
      have S2 : Hid (Side W0 x5 b p g 8 b' p' gb gd 8 V0 (fillW zs (k + 1)) (markW (k + 1))) := hide (by
        have := S.out.both hB.out K.out hR K2
        have e : zs.getD k 0 = z := by rw [List.getD_eq_getElem?_getD, hz.out]; rfl
        unfold fillW markW
        rw [e]
        exact this)
      clear S hM2 hB K hR K2 cs2 v2 hc2 hc0 hz
      go_wp2
      go_roundw
      case rel => exact ⟨k + 1, by omega, by omega, by go_num, S2⟩
      case measure => simp [intOf]; omega
    · have hm : min zs.length 512 = k := by rw [← hN.out]; omega
      rw [← hm] at S
      have tw := two_ways hc
      clear hc hm
      obtain ⟨W1, hW1⟩ : ∃ W1, W1 = wr := ⟨_, rfl⟩
      rw [← hW1] at S v1 ⊢
      clear hW1
      have dv : W1.cell? ⟨w.heap.size, 64, none⟩ = some (.string dev) := by rw [(bx.out.on S.out.o1.be).cell]; exact G64
      rcases tw with ⟨d1, d2, d3, d4⟩ | ⟨d1, d2⟩
      all_goals
        go_wp2_with fail
        refine (c1.out _ _ _ _ _ _ _ _ S.out.o1.bus).mono ?_
        rintro e x4 ⟨rfl, hB, K⟩
        have hM2 := hide (S.out.mid (kept1 K))
        have be := S.out.below (kept1 K)
        have dv2 : x4.cell? ⟨w.heap.size, 64, none⟩ = some (.string dev) := by rw [(bx.out.on be).cell]; exact G64
        replace hB := hide hB
        replace K := hide K
        clear be dv v1
        go_wp2_with fail
        refine (c2.out _ _ _ _ _ _ _ _ hM2.out).mono ?_
        rintro e x5 ⟨rfl, hR, K2⟩
        have S1 := hide ((S.out.both hB.out (kept1 K.out) hR (K2.mono (by simp))).less gr.out)
        clear S hM2 hB K hR K2 dv2
        go_wp2
        go_ret2
        exact ⟨b, p, g, b', p', gb, gd, rfl, S1.out⟩

end Go.Proofs.YthjcijlabpinkaaGreatDoor
