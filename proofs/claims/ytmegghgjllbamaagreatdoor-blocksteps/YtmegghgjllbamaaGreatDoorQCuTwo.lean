/- Layer 13: what a step makes of a state and a bus, as functions. -/
import Derived.Test.YtmegghgjllbamaaGreatDoorQCuOne
import Derived.Test.YtmegghgjllbamaaGreatDoorQBuOne
import Derived.Deep.RegionHeld3
namespace Go.Proofs.YtmegghgjllbamaaGreatDoor
open Go.RowKit
set_option linter.unusedVariables false
set_option maxRecDepth 100000
set_option linter.unusedSimpArgs false

/-- A register is another one, but not the first. -/
def putC (c : Cs) (k : Nat) (v : Int) : Cs := if k = 0 then c else { c with R := putR c.R k v }

/-- A processor and a bus. -/
structure Mc where
  c : Cs
  v : Dv
  B : Nat → Nat
  D : Nat → Bool

/-- What an instruction makes of them; why it can't be done; was it? -/
structure Out where
  m : Mc
  f : Ft
  k : Bool

def nop (m : Mc) : Out := ⟨m, F0, true⟩
def bad (m : Mc) (f : Ft) : Out := ⟨m, f, false⟩

/-- What a branch without a link asks. -/
def holdsV (o s t : Int) : Bool :=
  if o = 41 then s == t else if o = 42 then s != t else if o = 43 then decide (Wo.mean s < 0) || s == 0 else !decide (Wo.mean s < 0) && s != 0

def behV (c : Cs) : Int := (c.pc + 4) % 4294967296
def byV (I : Ins) : Int := 4 * (I.i % 4294967296) % 4294967296

/-- Where a branch leads. -/
def toI (c : Cs) (I : Ins) : Int :=
  if I.o = 39 ∨ I.o = 40 then bits .or .u32 (bits .and .u32 (behV c) 4026531840) (byV I) else if I.o = 6 ∨ I.o = 7 then c.R I.s.toNat else (c.pc + 4 + 4 * (I.i % 4294967296)) % 4294967296

/-- Is it taken? -/
def takenV (c : Cs) (I : Ins) : Bool :=
  if I.o = 35 ∨ I.o = 37 then decide (Wo.mean (c.R I.s.toNat) < 0) else if I.o = 36 ∨ I.o = 38 then !decide (Wo.mean (c.R I.s.toNat) < 0)
  else if I.o = 39 ∨ I.o = 40 ∨ I.o = 6 ∨ I.o = 7 then true else holdsV I.o (c.R I.s.toNat) (c.R I.t.toNat)

/-- The state behind its link. -/
def linkV (c : Cs) (I : Ins) : Cs :=
  if I.o = 37 ∨ I.o = 38 ∨ I.o = 40 then putC c 31 ((c.pc + 8) % 4294967296) else if I.o = 7 then putC c I.d.toNat ((c.pc + 8) % 4294967296) else c

/-- The state behind a branch. -/
def brV (c : Cs) (I : Ins) : Cs := { linkV c I with pc := c.nx, nx := if takenV c I then toI c I else (c.nx + 4) % 4294967296, dl := true }

/-- Hi and Lo are moved. -/
def mhV (c : Cs) (I : Ins) : Cs :=
  if I.o = 12 then putC c I.d.toNat c.hi else if I.o = 14 then putC c I.d.toNat c.lo else if I.o = 13 then { c with hi := c.R I.s.toNat } else { c with lo := c.R I.s.toNat }

/-- They are made. -/
def halfV (c : Cs) (o s t : Int) : Cs :=
  if o = 16 ∨ o = 17 then { c with hi := Wo.meanB (decide (o = 16)) s * Wo.meanB (decide (o = 16)) t / 4294967296 % 4294967296, lo := Wo.meanB (decide (o = 16)) s * Wo.meanB (decide (o = 16)) t % 4294967296 }
  else if t = 0 then c else { c with hi := (Wo.meanB (decide (o = 18)) s).tmod (Wo.meanB (decide (o = 18)) t) % 4294967296, lo := (Wo.meanB (decide (o = 18)) s).tdiv (Wo.meanB (decide (o = 18)) t) % 4294967296 }

/-- One number of two; does it leave the numbers? -/
def aluV (o x y : Int) : Int × Bool :=
  if o = 20 ∨ o = 45 then ((x + y) % 4294967296, Wo.outB (Wo.mean x + Wo.mean y))
  else if o = 22 then ((x - y) % 4294967296, Wo.outB (Wo.mean x - Wo.mean y))
  else if o = 21 ∨ o = 46 then ((x + y) % 4294967296, false)
  else if o = 23 then ((x - y) % 4294967296, false)
  else if o = 24 ∨ o = 49 then (bits .and .u32 x y, false)
  else if o = 25 ∨ o = 50 then (bits .or .u32 x y, false)
  else if o = 26 ∨ o = 51 then (bits .xor .u32 x y, false)
  else if o = 27 then (bits .xor .u32 4294967295 (bits .or .u32 x y), false)
  else if o = 28 ∨ o = 47 then (oneN (decide (Wo.mean x < Wo.mean y)), false)
  else if o = 29 ∨ o = 48 then (oneN (decide (x < y)), false)
  else if o = 0 ∨ o = 3 then (Wo.shiftV 0 x y, false)
  else if o = 1 ∨ o = 4 then (Wo.shiftV 1 x y, false)
  else if o = 2 ∨ o = 5 then (Wo.shiftV 2 x y, false)
  else if o = 52 then (y * 65536 % 4294967296, false)
  else if o = 32 then (Wo.meanB true x * Wo.meanB true y % 4294967296, false)
  else (Wo.leadV (decide (o = 34)) x % 4294967296, false)

/-- Forms of ops that make one number of two. -/
def isSH (o : Int) : Prop := o = 0 ∨ o = 1 ∨ o = 2
def isSV (o : Int) : Prop := o = 3 ∨ o = 4 ∨ o = 5
def isIm (o : Int) : Prop := 45 ≤ o ∧ o ≤ 52

instance (o : Int) : Decidable (isSH o) := by unfold isSH; infer_instance
instance (o : Int) : Decidable (isSV o) := by unfold isSV; infer_instance
instance (o : Int) : Decidable (isIm o) := by unfold isIm; infer_instance

def opX (c : Cs) (I : Ins) : Int := if isSH I.o ∨ isSV I.o then c.R I.t.toNat else c.R I.s.toNat
def opY (c : Cs) (I : Ins) : Int := if isSH I.o then I.a else if isSV I.o then c.R I.s.toNat else if isIm I.o then I.i % 4294967296 else c.R I.t.toNat
def opD (I : Ins) : Nat := if isIm I.o then I.t.toNat else I.d.toNat

/-- An instruction that makes one number of two. -/
def aluM (m : Mc) (I : Ins) : Out :=
  if (aluV I.o (opX m.c I) (opY m.c I)).2 then bad m (ftC 12) else nop { m with c := putC m.c (opD I) (aluV I.o (opX m.c I) (opY m.c I)).1 }

/-- Index behind a search. -/
noncomputable def prV (c : Cs) : Int := if findV c.T c.C.h (c.C.h % 256) < 0 then Cp.mixV c.C.i 2147483648 2147483648 else findV c.T c.C.h (c.C.h % 256)

def slotV (c : Cs) : Nat := (c.C.i % 8).toNat

/-- What is the system's alone. -/
noncomputable def mgV (c : Cs) (I : Ins) : Cs :=
  if I.o = 53 then putC c I.t.toNat (Cp.readV c.C I.d)
  else if I.o = 54 then { c with C := Cp.writeV c.C I.d (c.R I.t.toNat) }
  else if I.o = 55 then { c with C := { c.C with h := c.T (slotV c * 2), l := c.T (slotV c * 2 + 1) } }
  else if I.o = 56 then { c with T := Tl.putT c.T (slotV c) c.C.h (Tl.loV c.C.l) }
  else if I.o = 57 then { c with C := { c.C with i := prV c } }
  else { c with C := Cp.retV c.C, nx := c.C.e, lk := false }

def szV (o : Int) : Int := if o = 59 ∨ o = 62 ∨ o = 64 then 1 else if o = 60 ∨ o = 63 ∨ o = 65 then 2 else 4

def adrV (c : Cs) (I : Ins) : Int := (c.R I.s.toNat + I.i % 4294967296) % 4294967296

/-- A load. -/
noncomputable def loadM (n : Nat) (m : Mc) (I : Ins) : Out :=
  if (plV m.c (adrV m.c I) (szV I.o) false).2.2 = false then bad m (plV m.c (adrV m.c I) (szV I.o) false).2.1
  else if ¬ (ldA n m.v m.B (plV m.c (adrV m.c I) (szV I.o) false).1 (szV I.o)).E = 0 then bad m (ftC 7)
  else nop { m with
    c := { putC m.c I.t.toNat (Wo.extV (decide (I.o = 59 ∨ I.o = 60)) (ldA n m.v m.B (plV m.c (adrV m.c I) (szV I.o) false).1 (szV I.o)).X (8 * szV I.o)) with lk := m.c.lk || decide (I.o = 67) }
    v := (ldA n m.v m.B (plV m.c (adrV m.c I) (szV I.o) false).1 (szV I.o)).v }

/-- A store. -/
noncomputable def storeM (n : Nat) (m : Mc) (I : Ins) : Out :=
  if (plV m.c (adrV m.c I) (szV I.o) true).2.2 = false then bad m (plV m.c (adrV m.c I) (szV I.o) true).2.1
  else if I.o = 68 ∧ m.c.lk = false then nop { m with c := putC m.c I.t.toNat 0 }
  else if ¬ (stA n m.v m.B m.D (plV m.c (adrV m.c I) (szV I.o) true).1 (szV I.o) (m.c.R I.t.toNat)).E = 0 then bad m (ftC 7)
  else nop ⟨if I.o = 68 then { putC m.c I.t.toNat 1 with lk := false } else m.c,
    (stA n m.v m.B m.D (plV m.c (adrV m.c I) (szV I.o) true).1 (szV I.o) (m.c.R I.t.toNat)).v,
    (stA n m.v m.B m.D (plV m.c (adrV m.c I) (szV I.o) true).1 (szV I.o) (m.c.R I.t.toNat)).B,
    (stA n m.v m.B m.D (plV m.c (adrV m.c I) (szV I.o) true).1 (szV I.o) (m.c.R I.t.toNat)).D⟩

/-- An instruction that is neither branch nor jump. -/
noncomputable def doM (n : Nat) (m : Mc) (I : Ins) : Out :=
  if I.o = 10 then bad m (ftC 8)
  else if I.o = 11 then bad m (ftC 9)
  else if I.o = 30 then ⟨m, ftC 13, decide (¬ m.c.R I.s.toNat = m.c.R I.t.toNat)⟩
  else if I.o = 31 then ⟨m, ftC 13, decide (m.c.R I.s.toNat = m.c.R I.t.toNat)⟩
  else if I.o = 8 then nop { m with c := if m.c.R I.t.toNat = 0 then putC m.c I.d.toNat (m.c.R I.s.toNat) else m.c }
  else if I.o = 9 then nop { m with c := if m.c.R I.t.toNat = 0 then m.c else putC m.c I.d.toNat (m.c.R I.s.toNat) }
  else if 12 ≤ I.o ∧ I.o ≤ 15 then nop { m with c := mhV m.c I }
  else if 16 ≤ I.o ∧ I.o ≤ 19 then nop { m with c := halfV m.c I.o (m.c.R I.s.toNat) (m.c.R I.t.toNat) }
  else if 53 ≤ I.o ∧ I.o ≤ 58 then nop { m with c := mgV m.c I }
  else if 59 ≤ I.o ∧ I.o ≤ 63 ∨ I.o = 67 then loadM n m I
  else if 64 ≤ I.o ∧ I.o ≤ 66 ∨ I.o = 68 then storeM n m I
  else aluM m I

/-- An exception. -/
def badC (c : Cs) (f : Ft) : Cs := if f.bd then { c with C := Cp.badV c.C f.ad f.pg } else c
def faultC (c : Cs) (f : Ft) : Cs := gone { badC c f with C := Cp.raiseV (badC c f).C f.code f.rf c.pc c.dl, nx := Cp.toV (badC c f).C f.rf } (Cp.toV (badC c f).C f.rf)

/-- What is fetched: the instruction, why there is none, is there one? -/
noncomputable def ftV (n : Nat) (c : Cs) (B : Nat → Nat) : Ins × Ft × Bool :=
  if (plV c c.pc 4 false).2.2 = false then (I0, (plV c c.pc 4 false).2.1, false)
  else if ¬ mayI n (plV c c.pc 4 false).1 4 then (I0, ftC 6, false)
  else if ¬ (decV (memX n B (plV c c.pc 4 false).1 4)).e = 0 ∨ (sysOp (decV (memX n B (plV c c.pc 4 false).1 4)).o = true ∧ Cp.userV c.C = true) then (I0, ftC 10, false)
  else (decV (memX n B (plV c c.pc 4 false).1 4), F0, true)

def goesV (o : Int) : Bool := De.goes (De.Dec.fm (De.idx o))

/-- The state and the bus behind their ticks. -/
def tickM (n : Nat) (m : Mc) : Mc := ⟨{ m.c with C := Cp.tickV m.c.C (linesV (tkV n m.v m.B)) }, tkV n m.v m.B, tkB n m.v m.B, tkD n m.v m.D⟩

/-- What comes behind the ticks. -/
noncomputable def restM (n : Nat) (m : Mc) : Mc :=
  if Cp.pendV m.c.C = true then { m with c := faultC m.c (ftC 0) }
  else if (ftV n m.c m.B).2.2 = false then { m with c := faultC m.c (ftV n m.c m.B).2.1 }
  else if goesV (ftV n m.c m.B).1.o = true then { m with c := brV m.c (ftV n m.c m.B).1 }
  else if (doM n m (ftV n m.c m.B).1).k = true then { (doM n m (ftV n m.c m.B).1).m with c := gone (doM n m (ftV n m.c m.B).1).m.c (doM n m (ftV n m.c m.B).1).m.c.nx }
  else { m with c := faultC m.c (doM n m (ftV n m.c m.B).1).f }

/-- A step. -/
noncomputable def stepM (n : Nat) (m : Mc) : Mc := restM n (tickM n m)

/-- Where an instruction can't be done nothing is another one. -/
theorem doM_bad (n : Nat) (m : Mc) (I : Ins) (h : (doM n m I).k = false) : (doM n m I).m = m := by
  have ha : (aluM m I).k = false → (aluM m I).m = m := by unfold aluM; split <;> simp [bad, nop]
  have hl : (loadM n m I).k = false → (loadM n m I).m = m := by unfold loadM; repeat' split
                                                                all_goals simp [bad, nop]
  have hs : (storeM n m I).k = false → (storeM n m I).m = m := by unfold storeM; repeat' split
                                                                  all_goals simp [bad, nop]
  revert h
  unfold doM
  repeat' split
  all_goals first | exact ha | exact hl | exact hs | (intro _; rfl) | simp [bad, nop]

end Go.Proofs.YtmegghgjllbamaaGreatDoor

/- Layer 13: contracts of the program's branches. -/
namespace Go.Proofs.YtmegghgjllbamaaGreatDoor
open Go.RowKit
set_option linter.unusedVariables false
set_option maxRecDepth 100000
set_option linter.unusedSimpArgs false

theorem setRow_self {w : World} {b : Nat} {c : Array Value} (h : Box w b c) : w.setRow b c = w := by
  obtain ⟨t, e⟩ := isRow_some h.1
  rw [h.2.1] at e
  have hlt := h.2.2
  have hv : w.heap[b] = .cells c t (0, 0) := (Array.getElem?_eq_some_iff.1 e).2
  unfold World.setRow
  cases w with
  | mk heap tape drawn os output =>
    congr 1
    apply Array.ext
    · simp
    · intro k h1 h2
      simp only [Array.getElem_modify]
      split
      · rename_i hk; subst hk; simp at hv; simp [hv]
      · rfl

theorem putReg_any {w : World} {b : Nat} {c : Cs} (h : Box w b (cellsC c)) (k : Nat) (hk : k < 32) (v : Int) :
    Calls Tryz.prog 57 #[.pointer (some ⟨b, 0, none⟩), .int .i64 (k : Int), .int .u32 v] w fun e w' => e = .returned (.tuple #[]) ∧ w' = w.setRow b (cellsC (putC c k v)) := by
  obtain ⟨p0, p1, p2, p3, p4, p5, p6, p7, p8, p9⟩ := cParts
  obtain ⟨s0, s1, s2, s3, s4, s5, s6, s7, s8, s9⟩ := cSets
  obtain ⟨k1, k2, k3, k4, k5, k6⟩ := stRules b
  obtain ⟨r1, r2, r3, r4, r5⟩ := h.cells
  by_cases h0 : k = 0
  · subst h0
    have e0 : w.setRow b (cellsC (putC c 0 v)) = w := by unfold putC; rw [if_pos rfl]; exact setRow_self h
    rw [e0]
    clear e0
    go_enter Tryz.func57, Tryz.ntmps57
    go_wp2
    go_end0
    exact ⟨rfl, rfl⟩
  · have e0 : putC c k v = { c with R := putR c.R k v } := if_neg h0
    rw [e0]
    have e1 : ((k : Int) == 0) = false := by simpa using h0
    have e2 : ¬ (k : Int) = 0 := by omega
    go_enter Tryz.func57, Tryz.ntmps57
    go_wp2
    go_end0
    exact ⟨rfl, rfl⟩

theorem link_any {w : World} {b : Nat} {c : Cs} (h : Box w b (cellsC c)) (hp : Cp.W32 c.pc) (k : Nat) (hk : k < 32) :
    Calls Tryz.prog 88 #[.pointer (some ⟨b, 0, none⟩), .int .i64 (k : Int)] w fun e w' => e = .returned (.tuple #[]) ∧ w' = w.setRow b (cellsC (putC c k ((c.pc + 8) % 4294967296))) := by
  obtain ⟨p0, p1, p2, p3, p4, p5, p6, p7, p8, p9⟩ := cParts
  obtain ⟨r1, r2, r3, r4, r5⟩ := h.cells
  obtain ⟨h0, h1⟩ := hp
  have cp := hide (putReg_any h k hk ((c.pc + 8) % 4294967296))
  replace h := hide h
  go_enter Tryz.func88, Tryz.ntmps88
  go_wp2_with fail
  refine cp.out.mono ?_
  rintro e w1 ⟨rfl, rfl⟩
  go_wp2
  go_end0
  exact ⟨rfl, rfl⟩

theorem isBelow_any (a : Int) (ha : Cp.W32 a) (w : World) :
    Calls Tryz.prog 89 #[.int .u32 a] w fun e w' => e = .returned (.bool (decide (Wo.mean a < 0))) ∧ w' = w := by
  have cl := hide (Wo.less_any a 0 true w ha.1 ha.2 (by omega) (by omega))
  go_enter Tryz.func89, Tryz.ntmps89
  go_wp2_with fail
  refine cl.out.mono ?_
  rintro e w1 ⟨rfl, rfl⟩
  go_wp2
  go_ret
  exact ⟨rfl, rfl⟩

theorem holds_any (o s t : Int) (hs : Cp.W32 s) (w : World) :
    Calls Tryz.prog 90 #[.int .i64 o, .int .u32 s, .int .u32 t] w fun e w' => e = .returned (.bool (holdsV o s t)) ∧ w' = w := by
  have cb := hide (isBelow_any s hs)
  replace hs := hide hs
  unfold holdsV
  by_cases h1 : o = 41
  · subst h1
    go_enter Tryz.func90, Tryz.ntmps90
    go_wp2
    go_ret
    exact ⟨rfl, rfl⟩
  rw [if_neg h1]
  have q1 : (o == 41) = false := by simpa using h1
  by_cases h2 : o = 42
  · subst h2
    go_enter Tryz.func90, Tryz.ntmps90
    go_wp2
    go_ret
    exact ⟨rfl, rfl⟩
  rw [if_neg h2]
  have q2 : (o == 42) = false := by simpa using h2
  by_cases h3 : o = 43
  · subst h3
    rw [if_pos rfl]
    generalize decide (Wo.mean s < 0) = M at *
    cases M
    all_goals
      go_enter Tryz.func90, Tryz.ntmps90
      go_wp2_with fail
      refine (cb.out _).mono ?_
      rintro e w1 ⟨rfl, rfl⟩
      go_wp2
      go_ret
      exact ⟨rfl, rfl⟩
  · have q3 : (o == 43) = false := by simpa using h3
    rw [if_neg h3]
    generalize decide (Wo.mean s < 0) = M at *
    cases M
    all_goals
      go_enter Tryz.func90, Tryz.ntmps90
      go_wp2_with fail
      refine (cb.out _).mono ?_
      rintro e w1 ⟨rfl, rfl⟩
      go_wp2
      go_ret
      exact ⟨rfl, rfl⟩

/-- What is told of a state in a walk that also makes a box of its own. -/
theorem Box.grown {w : World} {b : Nat} {c : Array Value} (h : Box w b c) (o : Obj) : Box (w.alloc o) b c := h.on (grow w o)

theorem Kept.drew {l : List Nat} {w x : World} (h : Kept l w x) : Kept l w x.drew := h.trans (Kept.of (Below.refl _ _).drew)

theorem Kept.row {w x : World} {b : Nat} (h : Kept [b] w x) (c : Array Value) : Kept [b] w (x.setRow b c) := h.trans (Kept.set _ b c (by simp))

set_option maxHeartbeats 4000000 in
theorem target_any {w : World} {b : Nat} {c : Cs} (h : Box w b (cellsC c)) (hc : Wc c) (o : Int) (s t d a : Nat) (i e : Int) (hs : s < 32) (ht : t < 32) (hd : d < 32)
    (ho : (o = 37 ∨ o = 38 ∨ o = 40 ∨ o = 7) ∨ (o = 35 ∨ o = 36) ∨ (o = 39 ∨ o = 6) ∨ (o = 41 ∨ o = 42 ∨ o = 43 ∨ o = 44)) :
    Calls Tryz.prog 56 #[.pointer (some ⟨b, 0, none⟩), .agg #[.int .i64 o, .int .i64 (s : Int), .int .i64 (t : Int), .int .i64 (d : Int), .int .i64 (a : Int), .int .i64 i]] w fun r w' =>
      r = .returned (.tuple #[.int .u32 (toI c ⟨o, s, t, d, a, i, e⟩), .bool (takenV c ⟨o, s, t, d, a, i, e⟩)]) ∧ Box w' b (cellsC (linkV c ⟨o, s, t, d, a, i, e⟩)) ∧ Kept [b] w w' := by
  obtain ⟨p0, p1, p2, p3, p4, p5, p6, p7, p8, p9⟩ := cParts
  have hp := hc.pc
  have hS := hc.R s
  have hT := hc.R t
  have g := hide (h.grown (.cells #[.int .i64 o, .int .i64 (s : Int), .int .i64 (t : Int), .int .i64 (d : Int), .int .i64 (a : Int), .int .i64 i] 73))
  have kg := hide (Kept.of (l := [b]) (grow w (.cells #[.int .i64 o, .int .i64 (s : Int), .int .i64 (t : Int), .int .i64 (d : Int), .int .i64 (a : Int), .int .i64 i] 73)))
  have cb := hide (isBelow_any (c.R s) hS)
  have ch := hide (holds_any o (c.R s) (c.R t) hS)
  obtain ⟨r1, r2, r3, r4, r5⟩ := h.cells
  replace h := hide h
  replace hc := hide hc
  obtain ⟨h0, h1⟩ := hp
  have si0 : (0 : Int) ≤ (s : Int) := by omega
  have si : (s : Int) < 32 := by omega
  have ti0 : (0 : Int) ≤ (t : Int) := by omega
  have ti : (t : Int) < 32 := by omega
  rcases ho with ho | ho | ho | ho
  · rcases ho with rfl | rfl | rfl | rfl
    · go_enter Tryz.func56, Tryz.ntmps56
      go_wp2_with fail
      go_region
      go_wp2_with fail
      go_region
      go_wp2_with fail
      refine (link_any g.out.drew.drew hc.out.pc 31 (by omega)).mono ?_
      rintro r w1 ⟨rfl, hw⟩
      have B1 : Hid (Box w1 b (cellsC (putC c 31 ((c.pc + 8) % 4294967296)))) := by rw [hw]; exact hide (Box.set g.out.drew.drew _)
      have K1 : Hid (Kept [b] w w1) := by rw [hw]; exact hide (Kept.row (by first | exact kg.out | exact kg.out.drew | exact kg.out.drew.drew) _)
      clear hw
      go_wp2_with fail
      refine (cb.out _).mono ?_
      rintro r w2 ⟨rfl, rfl⟩
      go_wp2
      go_ret2
      exact ⟨rfl, B1.out, K1.out⟩
    · go_enter Tryz.func56, Tryz.ntmps56
      go_wp2_with fail
      go_region
      go_wp2_with fail
      go_region
      go_wp2_with fail
      refine (link_any g.out.drew.drew hc.out.pc 31 (by omega)).mono ?_
      rintro r w1 ⟨rfl, hw⟩
      have B1 : Hid (Box w1 b (cellsC (putC c 31 ((c.pc + 8) % 4294967296)))) := by rw [hw]; exact hide (Box.set g.out.drew.drew _)
      have K1 : Hid (Kept [b] w w1) := by rw [hw]; exact hide (Kept.row (by first | exact kg.out | exact kg.out.drew | exact kg.out.drew.drew) _)
      clear hw
      go_wp2_with fail
      refine (cb.out _).mono ?_
      rintro r w2 ⟨rfl, rfl⟩
      go_wp2
      go_ret2
      exact ⟨rfl, B1.out, K1.out⟩
    · go_enter Tryz.func56, Tryz.ntmps56
      go_wp2_with fail
      go_region
      go_wp2_with fail
      go_region
      go_wp2_with fail
      refine (link_any g.out.drew.drew hc.out.pc 31 (by omega)).mono ?_
      rintro r w1 ⟨rfl, hw⟩
      have B1 : Hid (Box w1 b (cellsC (putC c 31 ((c.pc + 8) % 4294967296)))) := by rw [hw]; exact hide (Box.set g.out.drew.drew _)
      have K1 : Hid (Kept [b] w w1) := by rw [hw]; exact hide (Kept.row (by first | exact kg.out | exact kg.out.drew | exact kg.out.drew.drew) _)
      clear hw
      go_wp2
      go_ret2
      exact ⟨rfl, B1.out, K1.out⟩
    · go_enter Tryz.func56, Tryz.ntmps56
      go_wp2_with fail
      go_region
      go_wp2_with fail
      go_region
      go_wp2_with fail
      refine (link_any g.out.drew.drew hc.out.pc d hd).mono ?_
      rintro r w1 ⟨rfl, hw⟩
      have B1 : Hid (Box w1 b (cellsC (putC c d ((c.pc + 8) % 4294967296)))) := by rw [hw]; exact hide (Box.set g.out.drew.drew _)
      have K1 : Hid (Kept [b] w w1) := by rw [hw]; exact hide (Kept.row (by first | exact kg.out | exact kg.out.drew | exact kg.out.drew.drew) _)
      clear hw
      go_wp2
      go_ret2
      exact ⟨rfl, B1.out, K1.out⟩
  · rcases ho with rfl | rfl
    · go_enter Tryz.func56, Tryz.ntmps56
      go_wp2_with fail
      go_region
      go_wp2_with fail
      go_region
      go_wp2_with fail
      refine (cb.out _).mono ?_
      rintro r w2 ⟨rfl, rfl⟩
      go_wp2
      go_ret2
      exact ⟨rfl, g.out, by first | exact kg.out | exact kg.out.drew | exact kg.out.drew.drew | exact kg.out.drew.drew.drew⟩
    · go_enter Tryz.func56, Tryz.ntmps56
      go_wp2_with fail
      go_region
      go_wp2_with fail
      go_region
      go_wp2_with fail
      refine (cb.out _).mono ?_
      rintro r w2 ⟨rfl, rfl⟩
      go_wp2
      go_ret2
      exact ⟨rfl, g.out, by first | exact kg.out | exact kg.out.drew | exact kg.out.drew.drew | exact kg.out.drew.drew.drew⟩
  · rcases ho with rfl | rfl
    · go_enter Tryz.func56, Tryz.ntmps56
      go_wp2_with fail
      go_region
      go_wp2_with fail
      go_region
      go_wp2
      go_ret2
      exact ⟨rfl, g.out, by first | exact kg.out | exact kg.out.drew | exact kg.out.drew.drew | exact kg.out.drew.drew.drew⟩
    · go_enter Tryz.func56, Tryz.ntmps56
      go_wp2_with fail
      go_region
      go_wp2_with fail
      go_region
      go_wp2
      go_ret2
      exact ⟨rfl, g.out, by first | exact kg.out | exact kg.out.drew | exact kg.out.drew.drew | exact kg.out.drew.drew.drew⟩
  · have hV : takenV c ⟨o, s, t, d, a, i, e⟩ = holdsV o (c.R s) (c.R t) ∧ toI c ⟨o, s, t, d, a, i, e⟩ = (c.pc + 4 + 4 * (i % 4294967296)) % 4294967296 ∧ linkV c ⟨o, s, t, d, a, i, e⟩ = c := by
      rcases ho with rfl | rfl | rfl | rfl <;> exact ⟨rfl, rfl, rfl⟩
    obtain ⟨v1, v2, v3⟩ := hV
    rw [v1, v2, v3]
    clear v1 v2 v3
    generalize holdsV o (c.R s) (c.R t) = H at *
    have hwr : IntKind.u32.wrap ((c.pc + 4) % 4294967296 + 4 * (i % 4294967296) % 4294967296) = (c.pc + 4 + 4 * (i % 4294967296)) % 4294967296 := by
      rw [IntKind.wrap_u32]; omega
    have q0 : Hid ((w.alloc (.cells #[.int .i64 o, .int .i64 (s : Int), .int .i64 (t : Int), .int .i64 (d : Int), .int .i64 (a : Int), .int .i64 i] 73)).cell? ⟨w.heap.size, 0, none⟩ = some (.int .i64 o)) := hide (by simp)
    have q2 : Hid ((w.alloc (.cells #[.int .i64 o, .int .i64 (s : Int), .int .i64 (t : Int), .int .i64 (d : Int), .int .i64 (a : Int), .int .i64 i] 73)).cell? ⟨w.heap.size, 2, none⟩ = some (.int .i64 (t : Int))) := hide (by simp)
    have q3 : Hid ((w.alloc (.cells #[.int .i64 o, .int .i64 (s : Int), .int .i64 (t : Int), .int .i64 (d : Int), .int .i64 (a : Int), .int .i64 i] 73)).cell? ⟨b, 3 + t, none⟩ = some (.int .u32 (c.R t))) := hide (by rw [g.out.cell]; exact get_R c t ht)
    rcases ho with rfl | rfl | rfl | rfl
    · go_enter Tryz.func56, Tryz.ntmps56
      go_wp2_with fail
      go_region
      go_wp2_with fail
      go_region
      go_wp2_with fail
      have S0 := And.intro q0.out (And.intro q2.out (And.intro q3.out (And.intro g.out kg.out.drew.drew.drew)))
      go_region_held3 (fun x => x.cell? ⟨w.heap.size, 0, none⟩ = some (.int .i64 41) ∧ x.cell? ⟨w.heap.size, 2, none⟩ = some (.int .i64 (t : Int)) ∧ x.cell? ⟨b, 3 + t, none⟩ = some (.int .u32 (c.R t)) ∧ (Box x b (cellsC c) ∧ Kept [b] w x))
        (first | exact S0 | assumption)
        (first | (go_at_call 90; refine (ch.out _).mono ?_; rintro r w1 ⟨rfl, rfl⟩; go_wp2_with fail))
      go_wp2
      go_ret2
      exact ⟨rfl, g.out, by first | exact kg.out.drew.drew.drew | exact kg.out.drew.drew.drew.drew⟩
    · go_enter Tryz.func56, Tryz.ntmps56
      go_wp2_with fail
      go_region
      go_wp2_with fail
      go_region
      go_wp2_with fail
      have S0 := And.intro q0.out (And.intro q2.out (And.intro q3.out (And.intro g.out kg.out.drew.drew.drew)))
      go_region_held3 (fun x => x.cell? ⟨w.heap.size, 0, none⟩ = some (.int .i64 42) ∧ x.cell? ⟨w.heap.size, 2, none⟩ = some (.int .i64 (t : Int)) ∧ x.cell? ⟨b, 3 + t, none⟩ = some (.int .u32 (c.R t)) ∧ (Box x b (cellsC c) ∧ Kept [b] w x))
        (first | exact S0 | assumption)
        (first | (go_at_call 90; refine (ch.out _).mono ?_; rintro r w1 ⟨rfl, rfl⟩; go_wp2_with fail))
      go_wp2
      go_ret2
      exact ⟨rfl, g.out, by first | exact kg.out.drew.drew.drew | exact kg.out.drew.drew.drew.drew⟩
    · go_enter Tryz.func56, Tryz.ntmps56
      go_wp2_with fail
      go_region
      go_wp2_with fail
      go_region
      go_wp2_with fail
      have S0 := And.intro q0.out (And.intro q2.out (And.intro q3.out (And.intro g.out kg.out.drew.drew.drew)))
      go_region_held3 (fun x => x.cell? ⟨w.heap.size, 0, none⟩ = some (.int .i64 43) ∧ x.cell? ⟨w.heap.size, 2, none⟩ = some (.int .i64 (t : Int)) ∧ x.cell? ⟨b, 3 + t, none⟩ = some (.int .u32 (c.R t)) ∧ (Box x b (cellsC c) ∧ Kept [b] w x))
        (first | exact S0 | assumption)
        (first | (go_at_call 90; refine (ch.out _).mono ?_; rintro r w1 ⟨rfl, rfl⟩; go_wp2_with fail))
      go_wp2
      go_ret2
      exact ⟨rfl, g.out, by first | exact kg.out.drew.drew.drew | exact kg.out.drew.drew.drew.drew⟩
    · go_enter Tryz.func56, Tryz.ntmps56
      go_wp2_with fail
      go_region
      go_wp2_with fail
      go_region
      go_wp2_with fail
      have S0 := And.intro q0.out (And.intro q2.out (And.intro q3.out (And.intro g.out kg.out.drew.drew.drew)))
      go_region_held3 (fun x => x.cell? ⟨w.heap.size, 0, none⟩ = some (.int .i64 44) ∧ x.cell? ⟨w.heap.size, 2, none⟩ = some (.int .i64 (t : Int)) ∧ x.cell? ⟨b, 3 + t, none⟩ = some (.int .u32 (c.R t)) ∧ (Box x b (cellsC c) ∧ Kept [b] w x))
        (first | exact S0 | assumption)
        (first | (go_at_call 90; refine (ch.out _).mono ?_; rintro r w1 ⟨rfl, rfl⟩; go_wp2_with fail))
      go_wp2
      go_ret2
      exact ⟨rfl, g.out, by first | exact kg.out.drew.drew.drew | exact kg.out.drew.drew.drew.drew⟩

end Go.Proofs.YtmegghgjllbamaaGreatDoor
