/- Layer 8: what follows of the registers' rules: what is written twice is written once; exceptions within one another. -/
import Derived.Test.YtmegghgjllbamaaGreatDoorQCpAll
import Derived.Test.YtmegghgjllbamaaGreatDoorQCuTwo
import Derived.Test.YtmegghgjllbamaaGreatDoorQCuThr
import Derived.Test.YtmegghgjllbamaaGreatDoorQCuFou
import Derived.Test.YtmegghgjllbamaaGreatDoorQCuManA
namespace Go.Proofs.YtmegghgjllbamaaGreatDoor.Cp
open Go.RowKit
set_option linter.unusedVariables false
set_option maxRecDepth 100000

theorem mix_same {x B : Int} (hx : W32 x) (hB : W32 B) : mixV x x B = x :=
  bit_ext (mix_w hB) hx fun i hi => by rw [bit_mix hB i hi]; split <;> rfl

theorem k7 : W32 7 := w_of _ (by omega) (by omega)
theorem kL : W32 4294967047 := w_of _ (by omega) (by omega)
theorem kS : W32 65299 := w_of _ (by omega) (by omega)
theorem kC : W32 768 := w_of _ (by omega) (by omega)
theorem kT : W32 32768 := w_of _ (by omega) (by omega)
theorem k2 : W32 2 := w_of _ (by omega) (by omega)
theorem kM : W32 2147483648 := w_of _ (by omega) (by omega)
theorem k124 : W32 124 := w_of _ (by omega) (by omega)
theorem kN : W32 31744 := w_of _ (by omega) (by omega)

theorem write_w {r : Regs} (hr : Wr r) (g : Int) {v : Int} (hv : W32 v) : Wr (writeV r g v) := by
  obtain ⟨h0, h1, h2, h3, h4, h5, h6, h7, h8⟩ := hr
  rcases reg_is g with rfl | rfl | rfl | rfl | rfl | rfl | rfl | rfl | rfl | h
  · exact ⟨mix_w k7, h1, h2, h3, h4, h5, h6, h7, h8⟩
  · exact ⟨h0, mix_w kL, h2, h3, h4, h5, h6, h7, h8⟩
  · exact ⟨h0, h1, h2, h3, h4, h5, h6, h7, h8⟩
  · exact ⟨h0, h1, h2, hv, h4, h5, h6, h7, h8⟩
  · exact ⟨h0, h1, h2, h3, hv, h5, h6, h7, h8⟩
  · exact ⟨h0, h1, h2, h3, h4, hv, h6, mix_w kT, h8⟩
  · exact ⟨h0, h1, h2, h3, h4, h5, mix_w kS, h7, h8⟩
  · exact ⟨h0, h1, h2, h3, h4, h5, h6, mix_w kC, h8⟩
  · exact ⟨h0, h1, h2, h3, h4, h5, h6, h7, hv⟩
  · rw [h.write]
    exact ⟨h0, h1, h2, h3, h4, h5, h6, h7, h8⟩

theorem read_w {r : Regs} (hr : Wr r) (g : Int) : W32 (readV r g) := by
  obtain ⟨h0, h1, h2, h3, h4, h5, h6, h7, h8⟩ := hr
  rcases reg_is g with rfl | rfl | rfl | rfl | rfl | rfl | rfl | rfl | rfl | h
  · exact h0
  · exact h1
  · exact h2
  · exact h3
  · exact h4
  · exact h5
  · exact h6
  · exact h7
  · exact h8
  · rw [h.read]
    exact w0

/-- Written twice is written once. -/
theorem write_twice (r : Regs) (g v : Int) : writeV (writeV r g v) g v = writeV r g v := by
  rcases reg_is g with rfl | rfl | rfl | rfl | rfl | rfl | rfl | rfl | rfl | h
  · simp [writeV, mix_mix k7]
  · simp [writeV, mix_mix kL]
  · simp [writeV]
  · simp [writeV]
  · simp [writeV]
  · simp [writeV, mix_mix kT]
  · simp [writeV, mix_mix kS]
  · simp [writeV, mix_mix kC]
  · simp [writeV]
  · rw [h.write, h.write]

/-- What was written and is read is written without a change. -/
theorem write_read {r : Regs} (hr : Wr r) (g : Int) {v : Int} (hv : W32 v) : writeV (writeV r g v) g (readV (writeV r g v) g) = writeV r g v := by
  rcases reg_is g with rfl | rfl | rfl | rfl | rfl | rfl | rfl | rfl | rfl | h
  · simp [writeV, readV, mix_same (mix_w k7) k7]
  · simp [writeV, readV, mix_same (mix_w kL) kL]
  · simp [writeV]
  · simp [writeV, readV]
  · simp [writeV, readV]
  · simp [writeV, readV, mix_mix kT]
  · simp [writeV, readV, mix_same (mix_w kS) kS]
  · simp [writeV, readV, mix_same (mix_w kC) kC]
  · simp [writeV, readV]
  · rw [h.write, h.write]

/-- Where an exception was. -/
def wantV (pc : Int) (d : Bool) : Int := if d then (pc - 4) % 4294967296 else pc

theorem want_w {pc : Int} (hp : W32 pc) (d : Bool) : W32 (wantV pc d) := by
  unfold wantV
  cases d
  · exact hp
  · exact w_of _ (by simp; omega) (by simp; omega)

theorem raise_w {r : Regs} (hr : Wr r) (code : Int) (f : Bool) {pc : Int} (hp : W32 pc) (d : Bool) : Wr (raiseV r code f pc d) := by
  obtain ⟨h0, h1, h2, h3, h4, h5, h6, h7, h8⟩ := hr
  unfold raiseV
  split
  · exact ⟨h0, h1, h2, h3, h4, h5, mix_w k2, mix_w k124, h8⟩
  · exact ⟨h0, h1, h2, h3, h4, h5, mix_w k2, mix_w k124, want_w hp d⟩

theorem bit_2 : bit 2 1 = true := by decide +kernel

/-- Behind an exception the bit of exceptions stands. -/
theorem raised {r : Regs} (code : Int) (f : Bool) (pc : Int) (d : Bool) : (raiseV r code f pc d).s = mixV r.s 2 2 ∧ bit (raiseV r code f pc d).s 1 = true := by
  have e : (raiseV r code f pc d).s = mixV r.s 2 2 := by unfold raiseV; split <;> rfl
  refine ⟨e, ?_⟩
  rw [e, bit_mix k2 1 (by omega), bit_2]
  rfl

/-- Ahead of the first exception it does not. -/
theorem cleared (s : Int) : bit (mixV s 0 2) 1 = false := by
  rw [bit_mix k2 1 (by omega), bit_2, bit_zero]
  rfl

theorem raise_first {r : Regs} (h : bit r.s 1 = false) (code : Int) (f : Bool) (pc : Int) (d : Bool) :
    (raiseV r code f pc d).e = wantV pc d ∧ (raiseV r code f pc d).c = mixV (mixV r.c (if d then 2147483648 else 0) 2147483648) (code % 4294967296 * 4 % 4294967296) 124 ∧ toV r f = if f then 2147483648 else 2147484032 := by
  simp [raiseV, toV, h, wantV]

theorem raise_within {r : Regs} (h : bit r.s 1 = true) (code : Int) (f : Bool) (pc : Int) (d : Bool) :
    (raiseV r code f pc d).e = r.e ∧ toV r f = 2147484032 := by
  simp [raiseV, toV, h]

/-- The highest bit of a word. -/
theorem top_is {a : Int} (ha : W32 a) : a / 2147483648 = if bit a 31 then 1 else 0 := by
  have h := bit_is ha.1 31
  have e : ((2 : Int) ^ 31) = 2147483648 := by decide
  rw [e] at h
  obtain ⟨a0, a1⟩ := ha
  cases hb : bit a 31
  · rw [hb] at h; simp at h ⊢; omega
  · rw [hb] at h; simp at h ⊢; omega

theorem delay_top {c : Int} (Y : Int) (d : Bool) : mixV (mixV c (if d then 2147483648 else 0) 2147483648) Y 124 / 2147483648 = if d then 1 else 0 := by
  rw [top_is (mix_w k124), bit_mix k124 31 (by omega), bit_mix kM 31 (by omega), show bit 124 31 = false by decide +kernel, show bit 2147483648 31 = true by decide +kernel]
  cases d
  · simp [bit_zero]
  · simp [show bit 2147483648 31 = true by decide +kernel]

end Go.Proofs.YtmegghgjllbamaaGreatDoor.Cp

/- Layer 13: all words stay words. -/
namespace Go.Proofs.YtmegghgjllbamaaGreatDoor
open Go.RowKit
set_option linter.unusedVariables false
set_option maxRecDepth 100000
set_option linter.unusedSimpArgs false

theorem shiftV_w (k n : Int) {a : Int} (ha : Cp.W32 a) : Cp.W32 (Wo.shiftV k a n) := by
  obtain ⟨a0, a1⟩ := ha
  unfold Wo.shiftV
  have h1 : a / 2 ^ (n % 32).toNat ≤ a := Int.ediv_le_self _ a0
  have h2 : 0 ≤ a / 2 ^ (n % 32).toNat := Int.ediv_nonneg a0 (Int.pow_nonneg (by decide))
  split
  · exact mod_w _
  · split
    · constructor <;> omega
    · split
      · exact mod_w _
      · exact ⟨a0, a1⟩

theorem wrap_w (n : Nat) : Cp.W32 (IntKind.u32.wrap ((n : Nat) : Int)) := by
  rw [IntKind.wrap_u32]; exact mod_w _

theorem bits_w (op : BinOp) (x y : Int) (h : op = .and ∨ op = .or ∨ op = .xor) : Cp.W32 (bits op .u32 x y) := by
  rcases h with rfl | rfl | rfl <;> exact wrap_w _

theorem oneN_w (b : Bool) : Cp.W32 (oneN b) := by cases b <;> exact ⟨by decide, by decide⟩

theorem ite_w {p : Prop} [Decidable p] {a b : Int × Bool} (ha : Cp.W32 a.1) (hb : Cp.W32 b.1) : Cp.W32 (if p then a else b).1 := by
  split
  · exact ha
  · exact hb

theorem aluV_w {o x y : Int} (hx : Cp.W32 x) : Cp.W32 (aluV o x y).1 := by
  unfold aluV
  refine ite_w (mod_w _) (ite_w (mod_w _) (ite_w (mod_w _) (ite_w (mod_w _) (ite_w ?_ (ite_w ?_ (ite_w ?_ (ite_w ?_ (ite_w (oneN_w _) (ite_w (oneN_w _) (ite_w (shiftV_w 0 y hx) (ite_w (shiftV_w 1 y hx) (ite_w (shiftV_w 2 y hx) (ite_w (mod_w _) (ite_w (mod_w _) (mod_w _)))))))))))))))
  · exact bits_w .and x y (Or.inl rfl)
  · exact bits_w .or x y (Or.inr (Or.inl rfl))
  · exact bits_w .xor x y (Or.inr (Or.inr rfl))
  · exact bits_w .xor 4294967295 (bits .or .u32 x y) (Or.inr (Or.inr rfl))

theorem opX_w {c : Cs} (h : Wc c) (I : Ins) : Cp.W32 (opX c I) := by
  unfold opX
  split <;> exact h.R _

theorem mhV_w {c : Cs} (h : Wc c) (I : Ins) : Wc (mhV c I) := by
  unfold mhV
  repeat' split
  · exact putC_w h _ h.hi
  · exact putC_w h _ h.lo
  · exact ⟨h.pc, h.nx, h.R, h.R _, h.lo, h.C, h.T⟩
  · exact ⟨h.pc, h.nx, h.R, h.hi, h.R _, h.C, h.T⟩

theorem halfV_w {c : Cs} (h : Wc c) (o s t : Int) : Wc (halfV c o s t) := by
  unfold halfV
  repeat' split
  · exact ⟨h.pc, h.nx, h.R, mod_w _, mod_w _, h.C, h.T⟩
  · exact h
  · exact ⟨h.pc, h.nx, h.R, mod_w _, mod_w _, h.C, h.T⟩

theorem loV_w {l : Int} (h : Cp.W32 l) : Cp.W32 (Tl.loV l) := by
  obtain ⟨h0, h1⟩ := h
  unfold Tl.loV
  constructor <;> omega

theorem putT_w {T : Nat → Int} (h : Tl.Wd T) (s : Nat) {x y : Int} (hx : Cp.W32 x) (hy : Cp.W32 y) : Tl.Wd (Tl.putT T s x y) := fun k => by
  unfold Tl.putT
  split
  · exact hx
  · split
    · exact hy
    · exact h k

theorem ret_w {r : Cp.Regs} (h : Cp.Wr r) : Cp.Wr (Cp.retV r) := ⟨h.i, h.l, h.b, h.n, h.h, h.p, Cp.mix_w Cp.k2, h.c, h.e⟩

theorem mgV_w {c : Cs} (h : Wc c) (I : Ins) : Wc (mgV c I) := by
  unfold mgV
  repeat' split
  · exact putC_w h _ (Cp.read_w h.C _)
  · exact ⟨h.pc, h.nx, h.R, h.hi, h.lo, Cp.write_w h.C _ (h.R _), h.T⟩
  · exact ⟨h.pc, h.nx, h.R, h.hi, h.lo, ⟨h.C.i, h.T _, h.C.b, h.C.n, h.T _, h.C.p, h.C.s, h.C.c, h.C.e⟩, h.T⟩
  · exact ⟨h.pc, h.nx, h.R, h.hi, h.lo, h.C, putT_w h.T _ h.C.h (loV_w h.C.l)⟩
  · exact ⟨h.pc, h.nx, h.R, h.hi, h.lo, ⟨prV_w h, h.C.l, h.C.b, h.C.n, h.C.h, h.C.p, h.C.s, h.C.c, h.C.e⟩, h.T⟩
  · exact ⟨h.pc, h.C.e, h.R, h.hi, h.lo, ret_w h.C, h.T⟩

theorem brV_w {c : Cs} (h : Wc c) (I : Ins) : Wc (brV c I) := by
  have hl := linkV_w h I
  refine ⟨h.nx, ?_, hl.R, hl.hi, hl.lo, hl.C, hl.T⟩
  show Cp.W32 (if takenV c I then toI c I else (c.nx + 4) % 4294967296)
  split
  · unfold toI
    repeat' split
    · exact bits_w _ _ _ (by simp)
    · exact h.R _
    · exact mod_w _
  · exact mod_w _

theorem bad_w {r : Cp.Regs} (h : Cp.Wr r) {a : Int} (ha : Cp.W32 a) (p : Bool) : Cp.Wr (Cp.badV r a p) := by
  refine ⟨h.i, h.l, ha, h.n, ?_, h.p, h.s, h.c, h.e⟩
  show Cp.W32 (if p then _ else _)
  split
  · exact Cp.mix_w (by constructor <;> omega)
  · exact h.h

theorem to_w (r : Cp.Regs) (f : Bool) : Cp.W32 (Cp.toV r f) := by
  unfold Cp.toV
  repeat' split
  all_goals constructor <;> omega

theorem gone_w {c : Cs} (h : Wc c) {p : Int} (hp : Cp.W32 p) : Wc (gone c p) := ⟨hp, mod_w _, h.R, h.hi, h.lo, h.C, h.T⟩

theorem badC_w {c : Cs} (h : Wc c) {f : Ft} (hf : f.bd = true → Cp.W32 f.ad) : Wc (badC c f) := by
  unfold badC
  split
  next hb => exact ⟨h.pc, h.nx, h.R, h.hi, h.lo, bad_w h.C (hf hb) _, h.T⟩
  · exact h

theorem faultC_w {c : Cs} (h : Wc c) {f : Ft} (hf : f.bd = true → Cp.W32 f.ad) : Wc (faultC c f) := by
  have hb := badC_w h hf
  have h2 : Wc { badC c f with C := Cp.raiseV (badC c f).C f.code f.rf c.pc c.dl, nx := Cp.toV (badC c f).C f.rf } :=
    ⟨hb.pc, to_w (badC c f).C f.rf, hb.R, hb.hi, hb.lo, Cp.raise_w hb.C f.code f.rf h.pc c.dl, hb.T⟩
  exact gone_w h2 (to_w (badC c f).C f.rf)

theorem tick_w {r : Cp.Regs} (h : Cp.Wr r) (l : Int) : Cp.Wr (Cp.tickV r l) := by
  refine ⟨h.i, h.l, h.b, mod_w _, h.h, h.p, h.s, Cp.mix_w Cp.kN, h.e⟩

end Go.Proofs.YtmegghgjllbamaaGreatDoor

/- Layer 13: contract of the program's do. -/
namespace Go.Proofs.YtmegghgjllbamaaGreatDoor
open Go.RowKit
set_option linter.unusedVariables false
set_option maxRecDepth 100000
set_option linter.unusedSimpArgs false

theorem manage_any {w : World} {b : Nat} {c : Cs} (h : Box w b (cellsC c)) (hc : Wc c) (o : Int) (s t d a : Nat) (i e : Int) (hs : s < 32) (ht : t < 32) (hd : d < 32) (ho : o = 53 ∨ o = 54 ∨ o = 55 ∨ o = 56 ∨ o = 57 ∨ o = 58) :
    Calls Tryz.prog 60 #[.pointer (some ⟨b, 0, none⟩), .agg #[.int .i64 o, .int .i64 (s : Int), .int .i64 (t : Int), .int .i64 (d : Int), .int .i64 (a : Int), .int .i64 i]] w fun r w' =>
      r = .returned (.tuple #[]) ∧ Box w' b (cellsC (mgV c ⟨o, s, t, d, a, i, e⟩)) ∧ Kept [b] w w' := by
  rcases ho with rfl | rfl | rfl | rfl | rfl | rfl
  · exact man53 h hc s t d a i e hs ht hd
  · exact man54 h hc s t d a i e hs ht hd
  · exact man55 h hc s t d a i e hs ht hd
  · exact man56 h hc s t d a i e hs ht hd
  · exact man57 h hc s t d a i e hs ht hd
  · exact man58 h hc s t d a i e hs ht hd

set_option maxHeartbeats 1500000 in
set_option maxRecDepth 100000 in
theorem do_A {w : World} {cb bb p g n cp : Nat} {m : Mc} (h : Mach w cb bb p g n cp m) (o : Int) (s t d a : Nat) (i e : Int) (hs : s < 32) (ht : t < 32) (hd : d < 32) (ha : a < 32) (ho : o = 10 ∨ o = 11 ∨ o = 30 ∨ o = 31) :
    Calls Tryz.prog 27 #[.pointer (some ⟨cb, 0, none⟩), .pointer (some ⟨bb, 0, none⟩), .agg #[.int .i64 o, .int .i64 (s : Int), .int .i64 (t : Int), .int .i64 (d : Int), .int .i64 (a : Int), .int .i64 i]] w fun r w' =>
      r = .returned (.tuple #[.agg (cellsF (doM n m ⟨o, s, t, d, a, i, e⟩).f), .bool (doM n m ⟨o, s, t, d, a, i, e⟩).k]) ∧ Mach w' cb bb p g n cp (doM n m ⟨o, s, t, d, a, i, e⟩).m ∧ Kept [cb, bb, g] w w' := by
  obtain ⟨zf1, zf2, zf3, zf4, zf5, zf6, zf7, zf8, zf9, zf10⟩ := ftRules
  obtain ⟨zs1, zs2⟩ := ftMore
  obtain ⟨p0, p1, p2, p3, p4, p5, p6, p7, p8, p9⟩ := cParts
  have gA := grow w (.cells #[.int .i64 o, .int .i64 (s : Int), .int .i64 (t : Int), .int .i64 (d : Int), .int .i64 (a : Int), .int .i64 i] 73)
  have gB := grow (w.alloc (.cells #[.int .i64 o, .int .i64 (s : Int), .int .i64 (t : Int), .int .i64 (d : Int), .int .i64 (a : Int), .int .i64 i] 73)) (.cells (cellsF F0) 75)
  have M0 := hide ((h.on gA).on gB)
  have L0 := hide ((Box.new w #[.int .i64 o, .int .i64 (s : Int), .int .i64 (t : Int), .int .i64 (d : Int), .int .i64 (a : Int), .int .i64 i] 73).on gB)
  have R0 := hide (Box.new (w.alloc (.cells #[.int .i64 o, .int .i64 (s : Int), .int .i64 (t : Int), .int .i64 (d : Int), .int .i64 (a : Int), .int .i64 i] 73)) (cellsF F0) 75)
  have K0 := hide (Kept.of (l := [cb, bb, g]) (onto gA (Nat.le_refl _) gB))
  rw [show (w.alloc (.cells #[.int .i64 o, .int .i64 (s : Int), .int .i64 (t : Int), .int .i64 (d : Int), .int .i64 (a : Int), .int .i64 i] 73)).heap.size = w.heap.size + 1 by simp] at R0
  have hbb : bb < w.heap.size := h.bus.lt
  have hgg : g < w.heap.size := h.bus.m.zg
  have hcc : cb < w.heap.size := h.bx.2.2
  have hpp : p < w.heap.size := h.bus.m.zp
  have h2 : 2 ≤ w.heap.size := h.tb.n
  have si0 : (0 : Int) ≤ (s : Int) := by omega
  have si : (s : Int) < 32 := by omega
  have ti0 : (0 : Int) ≤ (t : Int) := by omega
  have ti : (t : Int) < 32 := by omega
  obtain ⟨r1, r2, r3, r4, r5⟩ := h.bx.cells
  clear gA gB h
  rcases ho with rfl | rfl | rfl | rfl
  · go_enter Tryz.func27, Tryz.ntmps27
    go_wp2_with fail
    go_region
    replace M0 := hide M0.out.drew
    replace L0 := hide L0.out.drew
    replace R0 := hide R0.out.drew
    replace K0 := hide K0.out.drew
    have hst := fun f => (R0.out.last0 f).1
    have hld := hide fun f => (R0.out.last0 f).2
    go_wp2
    exact bodyPost_ret (v := .tuple #[.agg (cellsF (ftC 8)), .bool false]) (by simp [results, Tryz.results27, go_sem, zf1, zf5, hld.out]; try rfl) rfl ⟨rfl, M0.out.far (w.heap.size + 1) _ (by omega) (by omega) (by omega) (by omega) (by omega), K0.out.late (w.heap.size + 1) _ (by omega)⟩
  · go_enter Tryz.func27, Tryz.ntmps27
    go_wp2_with fail
    go_region
    replace M0 := hide M0.out.drew
    replace L0 := hide L0.out.drew
    replace R0 := hide R0.out.drew
    replace K0 := hide K0.out.drew
    have hst := fun f => (R0.out.last0 f).1
    have hld := hide fun f => (R0.out.last0 f).2
    go_wp2
    exact bodyPost_ret (v := .tuple #[.agg (cellsF (ftC 9)), .bool false]) (by simp [results, Tryz.results27, go_sem, zf1, zf5, hld.out]; try rfl) rfl ⟨rfl, M0.out.far (w.heap.size + 1) _ (by omega) (by omega) (by omega) (by omega) (by omega), K0.out.late (w.heap.size + 1) _ (by omega)⟩
  · have eq1 : (m.c.R s != m.c.R t) = decide (¬ m.c.R s = m.c.R t) := by rw [Bool.eq_iff_iff]; simp
    go_enter Tryz.func27, Tryz.ntmps27
    go_wp2_with fail
    go_region
    replace M0 := hide M0.out.drew
    replace L0 := hide L0.out.drew
    replace R0 := hide R0.out.drew
    replace K0 := hide K0.out.drew
    have hst := fun f => (R0.out.last0 f).1
    have hld := hide fun f => (R0.out.last0 f).2
    go_wp2
    exact bodyPost_ret (v := .tuple #[.agg (cellsF (ftC 13)), .bool (decide (¬ m.c.R s = m.c.R t))]) (by simp [results, Tryz.results27, go_sem, zf1, zf5, hld.out]; try rfl) rfl ⟨rfl, M0.out.far (w.heap.size + 1) _ (by omega) (by omega) (by omega) (by omega) (by omega), K0.out.late (w.heap.size + 1) _ (by omega)⟩
  · have eq1 : (m.c.R s == m.c.R t) = decide (m.c.R s = m.c.R t) := by rw [Bool.eq_iff_iff]; simp
    go_enter Tryz.func27, Tryz.ntmps27
    go_wp2_with fail
    go_region
    replace M0 := hide M0.out.drew
    replace L0 := hide L0.out.drew
    replace R0 := hide R0.out.drew
    replace K0 := hide K0.out.drew
    have hst := fun f => (R0.out.last0 f).1
    have hld := hide fun f => (R0.out.last0 f).2
    go_wp2
    exact bodyPost_ret (v := .tuple #[.agg (cellsF (ftC 13)), .bool (decide (m.c.R s = m.c.R t))]) (by simp [results, Tryz.results27, go_sem, zf1, zf5, hld.out]; try rfl) rfl ⟨rfl, M0.out.far (w.heap.size + 1) _ (by omega) (by omega) (by omega) (by omega) (by omega), K0.out.late (w.heap.size + 1) _ (by omega)⟩

set_option maxHeartbeats 1500000 in
set_option maxRecDepth 100000 in
theorem do_B {w : World} {cb bb p g n cp : Nat} {m : Mc} (h : Mach w cb bb p g n cp m) (o : Int) (s t d a : Nat) (i e : Int) (hs : s < 32) (ht : t < 32) (hd : d < 32) (ha : a < 32) (ho : o = 8 ∨ o = 9) :
    Calls Tryz.prog 27 #[.pointer (some ⟨cb, 0, none⟩), .pointer (some ⟨bb, 0, none⟩), .agg #[.int .i64 o, .int .i64 (s : Int), .int .i64 (t : Int), .int .i64 (d : Int), .int .i64 (a : Int), .int .i64 i]] w fun r w' =>
      r = .returned (.tuple #[.agg (cellsF (doM n m ⟨o, s, t, d, a, i, e⟩).f), .bool (doM n m ⟨o, s, t, d, a, i, e⟩).k]) ∧ Mach w' cb bb p g n cp (doM n m ⟨o, s, t, d, a, i, e⟩).m ∧ Kept [cb, bb, g] w w' := by
  obtain ⟨zf1, zf2, zf3, zf4, zf5, zf6, zf7, zf8, zf9, zf10⟩ := ftRules
  obtain ⟨zs1, zs2⟩ := ftMore
  obtain ⟨p0, p1, p2, p3, p4, p5, p6, p7, p8, p9⟩ := cParts
  have gA := grow w (.cells #[.int .i64 o, .int .i64 (s : Int), .int .i64 (t : Int), .int .i64 (d : Int), .int .i64 (a : Int), .int .i64 i] 73)
  have gB := grow (w.alloc (.cells #[.int .i64 o, .int .i64 (s : Int), .int .i64 (t : Int), .int .i64 (d : Int), .int .i64 (a : Int), .int .i64 i] 73)) (.cells (cellsF F0) 75)
  have M0 := hide ((h.on gA).on gB)
  have L0 := hide ((Box.new w #[.int .i64 o, .int .i64 (s : Int), .int .i64 (t : Int), .int .i64 (d : Int), .int .i64 (a : Int), .int .i64 i] 73).on gB)
  have R0 := hide (Box.new (w.alloc (.cells #[.int .i64 o, .int .i64 (s : Int), .int .i64 (t : Int), .int .i64 (d : Int), .int .i64 (a : Int), .int .i64 i] 73)) (cellsF F0) 75)
  have K0 := hide (Kept.of (l := [cb, bb, g]) (onto gA (Nat.le_refl _) gB))
  rw [show (w.alloc (.cells #[.int .i64 o, .int .i64 (s : Int), .int .i64 (t : Int), .int .i64 (d : Int), .int .i64 (a : Int), .int .i64 i] 73)).heap.size = w.heap.size + 1 by simp] at R0
  have hbb : bb < w.heap.size := h.bus.lt
  have hgg : g < w.heap.size := h.bus.m.zg
  have hcc : cb < w.heap.size := h.bx.2.2
  have hpp : p < w.heap.size := h.bus.m.zp
  have h2 : 2 ≤ w.heap.size := h.tb.n
  have si0 : (0 : Int) ≤ (s : Int) := by omega
  have si : (s : Int) < 32 := by omega
  have ti0 : (0 : Int) ≤ (t : Int) := by omega
  have ti : (t : Int) < 32 := by omega
  obtain ⟨r1, r2, r3, r4, r5⟩ := h.bx.cells
  clear gA gB h
  rcases ho with rfl | rfl
  · by_cases hz : m.c.R t = 0
    · have hV : doM n m ⟨8, s, t, d, a, i, e⟩ = nop { m with c := putC m.c d (m.c.R s) } := by
        show nop { m with c := if m.c.R t = 0 then putC m.c d (m.c.R s) else m.c } = _
        rw [if_pos hz]
      rw [hV]
      clear hV
      have z1 : (m.c.R t == 0) = true := by simpa using hz
      go_enter Tryz.func27, Tryz.ntmps27
      go_wp2_with fail
      go_region
      replace M0 := hide M0.out.drew
      replace L0 := hide L0.out.drew
      replace R0 := hide R0.out.drew
      replace K0 := hide K0.out.drew
      obtain ⟨l1, l2, l3, l4, l5⟩ := L0.out.cells
      go_wp2_with fail
      refine (putReg_any M0.out.bx d hd (m.c.R s)).mono ?_
      rintro r x2 ⟨rfl, hw⟩
      have M4 : Hid (Mach x2 cb bb p g n cp { m with c := putC m.c d (m.c.R s) }) := (by rw [hw]; exact hide (M0.out.state (M0.out.bx.set _) (Kept.set _ cb _ (by simp)) (putC_w M0.out.wc d (M0.out.wc.R s))))
      have K4 : Hid (Kept [cb, bb, g] w x2) := (by rw [hw]; exact hide (K0.out.trans (Kept.set _ cb _ (by simp))))
      have R4 : Hid (Box x2 (w.heap.size + 1) (cellsF F0)) := (by rw [hw]; exact hide (R0.out.far cb _ (by omega)))
      clear hw l1 l2 l3 l4 l5 r1 r2 r3 r4 r5
      have hst := fun f => (R4.out.last0 f).1
      have hld := hide fun f => (R4.out.last0 f).2
      go_wp2
      exact bodyPost_ret (v := .tuple #[.agg (cellsF F0), .bool true]) (by simp [results, Tryz.results27, go_sem, zf1, zf5, hld.out]) rfl ⟨rfl, M4.out.far (w.heap.size + 1) _ (by omega) (by omega) (by omega) (by omega) (by omega), K4.out.late (w.heap.size + 1) _ (by omega)⟩
    · have hV : doM n m ⟨8, s, t, d, a, i, e⟩ = nop { m with c := m.c } := by
        show nop { m with c := if m.c.R t = 0 then putC m.c d (m.c.R s) else m.c } = _
        rw [if_neg hz]
      rw [hV]
      clear hV
      have z1 : (m.c.R t == 0) = false := by simpa using hz
      go_enter Tryz.func27, Tryz.ntmps27
      go_wp2_with fail
      go_region
      replace M0 := hide M0.out.drew
      replace L0 := hide L0.out.drew
      replace R0 := hide R0.out.drew
      replace K0 := hide K0.out.drew
      obtain ⟨l1, l2, l3, l4, l5⟩ := L0.out.cells
      have hst := fun f => (R0.out.last0 f).1
      have hld := hide fun f => (R0.out.last0 f).2
      go_wp2
      exact bodyPost_ret (v := .tuple #[.agg (cellsF F0), .bool true]) (by simp [results, Tryz.results27, go_sem, zf1, zf5, hld.out]) rfl ⟨rfl, M0.out.far (w.heap.size + 1) _ (by omega) (by omega) (by omega) (by omega) (by omega), K0.out.late (w.heap.size + 1) _ (by omega)⟩
  · by_cases hz : m.c.R t = 0
    · have hV : doM n m ⟨9, s, t, d, a, i, e⟩ = nop { m with c := m.c } := by
        show nop { m with c := if m.c.R t = 0 then m.c else putC m.c d (m.c.R s) } = _
        rw [if_pos hz]
      rw [hV]
      clear hV
      have z1 : (m.c.R t == 0) = true := by simpa using hz
      go_enter Tryz.func27, Tryz.ntmps27
      go_wp2_with fail
      go_region
      replace M0 := hide M0.out.drew
      replace L0 := hide L0.out.drew
      replace R0 := hide R0.out.drew
      replace K0 := hide K0.out.drew
      obtain ⟨l1, l2, l3, l4, l5⟩ := L0.out.cells
      have hst := fun f => (R0.out.last0 f).1
      have hld := hide fun f => (R0.out.last0 f).2
      go_wp2
      exact bodyPost_ret (v := .tuple #[.agg (cellsF F0), .bool true]) (by simp [results, Tryz.results27, go_sem, zf1, zf5, hld.out]) rfl ⟨rfl, M0.out.far (w.heap.size + 1) _ (by omega) (by omega) (by omega) (by omega) (by omega), K0.out.late (w.heap.size + 1) _ (by omega)⟩
    · have hV : doM n m ⟨9, s, t, d, a, i, e⟩ = nop { m with c := putC m.c d (m.c.R s) } := by
        show nop { m with c := if m.c.R t = 0 then m.c else putC m.c d (m.c.R s) } = _
        rw [if_neg hz]
      rw [hV]
      clear hV
      have z1 : (m.c.R t == 0) = false := by simpa using hz
      go_enter Tryz.func27, Tryz.ntmps27
      go_wp2_with fail
      go_region
      replace M0 := hide M0.out.drew
      replace L0 := hide L0.out.drew
      replace R0 := hide R0.out.drew
      replace K0 := hide K0.out.drew
      obtain ⟨l1, l2, l3, l4, l5⟩ := L0.out.cells
      go_wp2_with fail
      refine (putReg_any M0.out.bx d hd (m.c.R s)).mono ?_
      rintro r x2 ⟨rfl, hw⟩
      have M4 : Hid (Mach x2 cb bb p g n cp { m with c := putC m.c d (m.c.R s) }) := (by rw [hw]; exact hide (M0.out.state (M0.out.bx.set _) (Kept.set _ cb _ (by simp)) (putC_w M0.out.wc d (M0.out.wc.R s))))
      have K4 : Hid (Kept [cb, bb, g] w x2) := (by rw [hw]; exact hide (K0.out.trans (Kept.set _ cb _ (by simp))))
      have R4 : Hid (Box x2 (w.heap.size + 1) (cellsF F0)) := (by rw [hw]; exact hide (R0.out.far cb _ (by omega)))
      clear hw l1 l2 l3 l4 l5 r1 r2 r3 r4 r5
      have hst := fun f => (R4.out.last0 f).1
      have hld := hide fun f => (R4.out.last0 f).2
      go_wp2
      exact bodyPost_ret (v := .tuple #[.agg (cellsF F0), .bool true]) (by simp [results, Tryz.results27, go_sem, zf1, zf5, hld.out]) rfl ⟨rfl, M4.out.far (w.heap.size + 1) _ (by omega) (by omega) (by omega) (by omega) (by omega), K4.out.late (w.heap.size + 1) _ (by omega)⟩

end Go.Proofs.YtmegghgjllbamaaGreatDoor
