/- Layer 13: a world's state, as the statements begin with it; what they hold on to. -/
import Derived.Test.YthjcijlabpinkaaGreatDoorRCuFx
import Derived.Test.YthjcijlabpinkaaGreatDoorRCuOpens
import Derived.Test.YthjcijlabpinkaaGreatDoorRCuStM
namespace Go.Proofs.YthjcijlabpinkaaGreatDoor
open Go.RowKit
set_option linter.unusedVariables false
set_option maxRecDepth 100000
set_option linter.unusedSimpArgs false

def zed (c : Cs) : Cs := { c with R := putR c.R 0 0 }

theorem zed_0 (c : Cs) : (zed c).R 0 = 0 := rfl

theorem zed_w {c : Cs} (h : Wc c) : Wc (zed c) := by
  refine ⟨h.pc, h.nx, fun k => ?_, h.hi, h.lo, h.C, h.T⟩
  show Cp.W32 (if k = 0 then 0 else c.R k)
  split
  · exact ⟨by decide, by decide⟩
  · exact h.R k

set_option maxHeartbeats 1000000 in
theorem began_any (w : World) (c : Cs) (sw se : Value) (dev : ByteArray) (st : Int) :
    Calls Tryz.prog 15 #[.agg (cellsWo c sw dev se st)] w fun e w' => e = .returned (.agg (cellsC (zed c))) ∧ Below w.heap.size w w' := by
  obtain ⟨z1, z2, z3, z4, z5, z6, z7, z8, z9, z10, z11, z12, z13, z14, z15⟩ := cSizes
  obtain ⟨t1, t2, t3, t4, t5, t6, t7, t8, t9⟩ := rowRules
  obtain ⟨f1, f2, f3, f4, f5, f6, f7, f8, f9⟩ := cWhole
  obtain ⟨-, -, -, -, u5, u6⟩ := woParts (zed c) sw dev se st
  have hset : (cellsWo c sw dev se st).setIfInBounds 3 (.int .u32 0) = cellsWo (zed c) sw dev se st := rfl
  have h3 : ∃ v, (cellsWo c sw dev se st)[3]? = some (.int .u32 v) := ⟨_, rfl⟩
  obtain ⟨v3, h3⟩ := h3
  have g0 := hide (fun o => grow w (.cells o 41))
  generalize cellsWo c sw dev se st = CW at *
  generalize cellsWo (zed c) sw dev se st = CD at *
  generalize zed c = d at *
  obtain ⟨q1, q2, q3, q4, q5, q6⟩ := stRules w.heap.size
  go_enter Tryz.func15, Tryz.ntmps15
  go_wp2
  exact bodyPost_ret (v := .agg (cellsC d)) (by simp [results, Tryz.results15, go_sem, z1, z7, z13, t1, t3, t4, t5, t6, f3, f6, f9]) rfl ⟨rfl, (grow w _).alloc (by simp) _⟩

theorem IsWords.on {w y : World} {v : Value} {zs : List Int} (h : IsWords w v zs) (hb : Below w.heap.size w y) : IsWords y v zs := by
  rcases h with h | ⟨b, off, c, h1, h2, h3, h4⟩
  · exact Or.inl h
  · refine Or.inr ⟨b, off, c, h1, h2, Nat.lt_of_lt_of_le h3 hb.size, fun i z hi => ⟨(h4 i z hi).1, ?_⟩⟩
    rw [hb.cell (p := ⟨b, off + i, none⟩) h3]
    exact (h4 i z hi).2

def N67 : Nat := 67

theorem woRules : (∀ w : World, (sizeOf 41).run Tryz.prog w = .ok N67 w) ∧ ¬ N67 = 0 := ⟨fun w => Tryz.sizeOf41 w, by decide⟩

theorem woWhole (c : Cs) (sw : Value) (dev : ByteArray) (se : Value) (st : Int) : fitsP (cellsWo c sw dev se st) 0 N67 = true ∧ part (cellsWo c sw dev se st) 0 N67 = cellsWo c sw dev se st := ⟨rfl, rfl⟩

structure MOwn (w x : World) (cb b p g : Nat) (m : Mc) : Prop where
  ma : Mach x cb b p g 8 8 m
  z : m.c.R 0 = 0
  be : Below w.heap.size w x
  zc : w.heap.size ≤ cb
  zb : w.heap.size ≤ b
  zp : w.heap.size ≤ p
  zg : w.heap.size ≤ g
  two : 2 ≤ w.heap.size

theorem MOwn.on {w x y : World} {cb b p g : Nat} {m : Mc} (h : MOwn w x cb b p g m) (hb : Below x.heap.size x y) : MOwn w y cb b p g m :=
  ⟨h.ma.on hb, h.z, onto h.be (Nat.le_refl _) hb, h.zc, h.zb, h.zp, h.zg, h.two⟩

theorem MOwn.step {w x y : World} {cb b p g : Nat} {m : Mc} (h : MOwn w x cb b p g m) (hm : Mach y cb b p g 8 8 (stepM 8 m)) (k : Kept [cb, b, g] x y) : MOwn w y cb b p g (stepM 8 m) :=
  ⟨hm, step_0 8 m h.z, Kept.below h.be k (Nat.le_refl _) (by have := h.zc; have := h.zb; have := h.zg; simp; omega), h.zc, h.zb, h.zp, h.zg, h.two⟩

theorem MOwn.state {w x y : World} {cb b p g : Nat} {m : Mc} (h : MOwn w x cb b p g m) {c : Cs} (hx : Box y cb (cellsC c)) (k : Kept [cb] x y) (hc : Wc c) (hz : c.R 0 = 0) : MOwn w y cb b p g { m with c := c } :=
  ⟨h.ma.state hx k hc, hz, Kept.below h.be k (Nat.le_refl _) (by have := h.zc; simp; omega), h.zc, h.zb, h.zp, h.zg, h.two⟩

theorem MOwn.far {w x : World} {cb b p g : Nat} {m : Mc} (h : MOwn w x cb b p g m) (k : Nat) (c : Array Value) (h1 : cb ≠ k) (h2 : b ≠ k) (h3 : p ≠ k) (h4 : g ≠ k) (h5 : w.heap.size ≤ k) : MOwn w (x.setRow k c) cb b p g m :=
  ⟨h.ma.far k c h1 h2 h3 h4 (Nat.le_trans h.two h5), h.z, below_setRow (g := k) h.be h5 c, h.zc, h.zb, h.zp, h.zg, h.two⟩

theorem MOwn.made {w x y : World} {b p g b' p' gb gd : Nat} {v : Dv} {B : Nat → Nat} {D : Nat → Bool} (S : Side w x b p g 8 b' p' gb gd 8 v B D) (hb : Below x.heap.size x y) (tb : De.Tabs w) {c : Cs} (hc : Wc c) (hz : c.R 0 = 0) (t : TypeId) :
    MOwn w (y.alloc (.cells (cellsC c) t)) y.heap.size b p g ⟨c, v, B, D⟩ := by
  have hw := tb.n
  have h1 := S.o1.zb
  have h2 := S.o1.zp
  have h3 := S.o1.zg
  have h4 := S.o1.be.size
  have h5 := hb.size
  have h6 := S.o1.bus.lt
  have h7 := S.o1.bus.m.zp
  have h8 := S.o1.bus.m.zg
  have be := onto (onto S.o1.be (Nat.le_refl _) hb) (Nat.le_refl _) (grow y (.cells (cellsC c) t))
  exact ⟨⟨Box.new y _ t, (S.o1.bus.on hb).on (grow _ _), hc, tb.on be, by omega, by omega, by omega, by omega, by omega, by omega⟩, hz, be, by omega, h1, h2, h3, hw⟩

end Go.Proofs.YthjcijlabpinkaaGreatDoor
