/- Layer 8: contracts of the document's Read, Write, Bad, Return and User. -/
import Derived.Test.YthjcijlabpinkaaGreatDoorPCpAll
import Derived.Deep.RegionHeld3
namespace Go.Proofs.YthjcijlabpinkaaGreatDoor.Cp
open Go.RowKit
set_option linter.unusedVariables false
set_option maxRecDepth 100000

theorem mix_range {w v B f t : Int} (hB : W32 B) (h : ∀ i : Nat, i < 32 → bit B i = decide (f ≤ (i : Int) ∧ (i : Int) ≤ t)) :
    ∀ i : Nat, i < 32 → bit (mixV w v B) i = if f ≤ (i : Int) ∧ (i : Int) ≤ t then bit v i else bit w i := fun i hi => by
  rw [bit_mix hB i hi, h i hi]
  simp only [decide_eq_true_eq]

theorem mix_more {w v A B f t : Int} (hA : W32 A) (hB : W32 B) (h : ∀ i : Nat, i < 32 → bit B i = (bit A i || decide (f ≤ (i : Int) ∧ (i : Int) ≤ t))) :
    ∀ i : Nat, i < 32 → bit (mixV w v B) i = if f ≤ (i : Int) ∧ (i : Int) ≤ t then bit v i else bit (mixV w v A) i := fun i hi => by
  rw [bit_mix hB i hi, h i hi, bit_mix hA i hi]
  by_cases c : f ≤ (i : Int) ∧ (i : Int) ≤ t
  · simp [c]
  · simp [c]

theorem mix_one {w x B : Int} {n : Nat} {b : Bool} (hB : W32 B) (h : ∀ i : Nat, i < 32 → bit B i = decide (i = n)) (hx : bit x n = b) :
    ∀ i : Nat, i < 32 → bit (mixV w x B) i = if i = n then b else bit w i := fun i hi => by
  rw [bit_mix hB i hi, h i hi]
  simp only [decide_eq_true_eq]
  by_cases c : i = n
  · subst c; simp [hx]
  · simp [c]

theorem rread_any (r : Regs) (g : Int) (w : World) :
    Calls Tryz.prog 104 #[.agg (cellsR r), .int .i64 g] w fun e w' => e = .returned (.int .u32 (readV r g)) ∧ Below w.heap.size w w' := by
  obtain ⟨t1, t2, t3, t4, t5, t6, t7, t8, t9⟩ := cpRules
  obtain ⟨p0, p1, p2, p3, p4, p5, p6, p7, p8⟩ := cpParts
  rcases reg_is g with rfl | rfl | rfl | rfl | rfl | rfl | rfl | rfl | rfl | h
  case inr.inr.inr.inr.inr.inr.inr.inr.inr =>
    rw [h.read]
    obtain ⟨h0, h1, h2, h3, h4, h5, h6, h7, h8⟩ := h.tests
    clear h
    go_enter Tryz.func104, Tryz.ntmps104
    go_wp2
    go_ret
    exact ⟨rfl, grow _ _⟩
  all_goals
    go_enter Tryz.func104, Tryz.ntmps104
    go_wp2
    go_ret
    exact ⟨rfl, grow _ _⟩

set_option maxHeartbeats 2000000 in
theorem rwrite_any {r : Regs} (hr : Wr r) (g : Int) {v : Int} (hv : W32 v) (w : World) :
    Calls Tryz.prog 159 #[.agg (cellsR r), .int .i64 g, .int .u32 v] w fun e w' => e = .returned (.agg (cellsR (writeV r g v))) ∧ Below w.heap.size w w' := by
  obtain ⟨t1, t2, t3, t4, t5, t6, t7, t8, t9⟩ := cpRules
  obtain ⟨p0, p1, p2, p3, p4, p5, p6, p7, p8⟩ := cpParts
  obtain ⟨s0, s1, s2, s3, s4, s5, s6, s7, s8⟩ := cpSets
  have a7 : W32 7 := w_of _ (by omega) (by omega)
  have a3 : W32 3 := w_of _ (by omega) (by omega)
  have a19 : W32 19 := w_of _ (by omega) (by omega)
  have aS : W32 65299 := w_of _ (by omega) (by omega)
  have aL : W32 4294967047 := w_of _ (by omega) (by omega)
  have aC : W32 768 := w_of _ (by omega) (by omega)
  have aT : W32 32768 := w_of _ (by omega) (by omega)
  have m0 := hide fun W => rmix_any hr.i hv (mix_w a7) (f := 0) (t := 2) (by omega) (by omega) (by omega) (mix_range a7 (by decide +kernel)) W
  have m1 := hide fun W => rmix_any hr.l hv (mix_w a7) (f := 0) (t := 2) (by omega) (by omega) (by omega) (mix_range a7 (by decide +kernel)) W
  have m2 := hide fun W => rmix_any (mix_w (w := r.l) (v := v) a7) hv (mix_w aL) (f := 8) (t := 31) (by omega) (by omega) (by omega) (mix_more a7 aL (by decide +kernel)) W
  have m3 := hide fun W => rmix_any hr.s hv (mix_w a3) (f := 0) (t := 1) (by omega) (by omega) (by omega) (mix_range a3 (by decide +kernel)) W
  have m4 := hide fun W => rmix_any (mix_w (w := r.s) (v := v) a3) hv (mix_w a19) (f := 4) (t := 4) (by omega) (by omega) (by omega) (mix_more a3 a19 (by decide +kernel)) W
  have m5 := hide fun W => rmix_any (mix_w (w := r.s) (v := v) a19) hv (mix_w aS) (f := 8) (t := 15) (by omega) (by omega) (by omega) (mix_more a19 aS (by decide +kernel)) W
  have m6 := hide fun W => rmix_any hr.c hv (mix_w aC) (f := 8) (t := 9) (by omega) (by omega) (by omega) (mix_range aC (by decide +kernel)) W
  have m7 := hide fun W => rwith_any hr.c (mix_w aT) (n := 15) (by omega) (by omega) false (mix_one (n := 15) aT (by decide +kernel) (bit_zero 15)) W
  clear a7 a3 a19 aS aL aC aT
  replace hr := hide hr
  replace hv := hide hv
  have fin : ∀ c d : Array Value, Below w.heap.size w ((w.alloc (.cells c 25)).alloc (.cells d 25)) := fun c d => (grow _ _).alloc (by simp) _
  replace fin := hide fin
  rcases reg_is g with rfl | rfl | rfl | rfl | rfl | rfl | rfl | rfl | rfl | h
  case inr.inr.inr.inr.inr.inr.inr.inr.inr =>
    rw [h.write]
    obtain ⟨h0, h1, h2, h3, h4, h5, h6, h7, h8⟩ := h.tests
    clear h
    go_enter Tryz.func159, Tryz.ntmps159
    go_wp2
    exact bodyPost_ret (v := .agg (cellsR r)) (by simp [results, Tryz.results159, go_sem, t1, t3, t5, t6, t7]) rfl ⟨rfl, fin.out _ _⟩
  · go_enter Tryz.func159, Tryz.ntmps159
    go_wp2_with fail
    refine (m0.out _).mono ?_
    rintro e w' ⟨rfl, rfl⟩
    go_wp2
    exact bodyPost_ret (v := .agg (cellsR (writeV r 0 v))) (by simp [results, Tryz.results159, go_sem, t1, t3, t5, t6, t7, writeV]) rfl ⟨rfl, fin.out _ _⟩
  · go_enter Tryz.func159, Tryz.ntmps159
    go_wp2_with fail
    refine (m1.out _).mono ?_
    rintro e w' ⟨rfl, rfl⟩
    go_wp2_with fail
    refine (m2.out _).mono ?_
    rintro e w' ⟨rfl, rfl⟩
    go_wp2
    exact bodyPost_ret (v := .agg (cellsR (writeV r 2 v))) (by simp [results, Tryz.results159, go_sem, t1, t3, t5, t6, t7, writeV]) rfl ⟨rfl, fin.out _ _⟩
  · go_enter Tryz.func159, Tryz.ntmps159
    go_wp2
    exact bodyPost_ret (v := .agg (cellsR (writeV r 8 v))) (by simp [results, Tryz.results159, go_sem, t1, t3, t5, t6, t7, writeV]) rfl ⟨rfl, fin.out _ _⟩
  · go_enter Tryz.func159, Tryz.ntmps159
    go_wp2
    exact bodyPost_ret (v := .agg (cellsR (writeV r 9 v))) (by simp [results, Tryz.results159, go_sem, t1, t3, t5, t6, t7, writeV]) rfl ⟨rfl, fin.out _ _⟩
  · go_enter Tryz.func159, Tryz.ntmps159
    go_wp2
    exact bodyPost_ret (v := .agg (cellsR (writeV r 10 v))) (by simp [results, Tryz.results159, go_sem, t1, t3, t5, t6, t7, writeV]) rfl ⟨rfl, fin.out _ _⟩
  · go_enter Tryz.func159, Tryz.ntmps159
    go_wp2_with fail
    refine (m7.out _).mono ?_
    rintro e w' ⟨rfl, rfl⟩
    go_wp2
    exact bodyPost_ret (v := .agg (cellsR (writeV r 11 v))) (by simp [results, Tryz.results159, go_sem, t1, t3, t5, t6, t7, writeV]) rfl ⟨rfl, fin.out _ _⟩
  · go_enter Tryz.func159, Tryz.ntmps159
    go_wp2_with fail
    refine (m3.out _).mono ?_
    rintro e w' ⟨rfl, rfl⟩
    go_wp2_with fail
    refine (m4.out _).mono ?_
    rintro e w' ⟨rfl, rfl⟩
    go_wp2_with fail
    refine (m5.out _).mono ?_
    rintro e w' ⟨rfl, rfl⟩
    go_wp2
    exact bodyPost_ret (v := .agg (cellsR (writeV r 12 v))) (by simp [results, Tryz.results159, go_sem, t1, t3, t5, t6, t7, writeV]) rfl ⟨rfl, fin.out _ _⟩
  · go_enter Tryz.func159, Tryz.ntmps159
    go_wp2_with fail
    refine (m6.out _).mono ?_
    rintro e w' ⟨rfl, rfl⟩
    go_wp2
    exact bodyPost_ret (v := .agg (cellsR (writeV r 13 v))) (by simp [results, Tryz.results159, go_sem, t1, t3, t5, t6, t7, writeV]) rfl ⟨rfl, fin.out _ _⟩
  · go_enter Tryz.func159, Tryz.ntmps159
    go_wp2
    exact bodyPost_ret (v := .agg (cellsR (writeV r 14 v))) (by simp [results, Tryz.results159, go_sem, t1, t3, t5, t6, t7, writeV]) rfl ⟨rfl, fin.out _ _⟩

theorem ruser_any {r : Regs} (hr : Wr r) (w : World) :
    Calls Tryz.prog 39 #[.agg (cellsR r)] w fun e w' => e = .returned (.bool (userV r)) ∧ Below w.heap.size w w' := by
  obtain ⟨t1, t2, t3, t4, t5, t6, t7, t8, t9⟩ := cpRules
  obtain ⟨p0, p1, p2, p3, p4, p5, p6, p7, p8⟩ := cpParts
  have m0 := fun W => rbit_any hr.s (n := 4) (by omega) (by omega) W
  have m1 := fun W => rbit_any hr.s (n := 1) (by omega) (by omega) W
  simp only [show (4 : Int).toNat = 4 from rfl, show (1 : Int).toNat = 1 from rfl] at m0 m1
  unfold userV
  clear hr
  generalize bit r.s 4 = x at *
  generalize bit r.s 1 = y at *
  replace m0 := hide m0
  replace m1 := hide m1
  go_enter Tryz.func39, Tryz.ntmps39
  go_wp2_with fail
  refine (m0.out _).mono ?_
  rintro e w' ⟨rfl, rfl⟩
  cases x
  · go_wp2
    go_ret
    exact ⟨rfl, grow _ _⟩
  · go_wp2_with fail
    refine (m1.out _).mono ?_
    rintro e w' ⟨rfl, rfl⟩
    go_wp2
    go_ret
    exact ⟨rfl, grow _ _⟩

end Go.Proofs.YthjcijlabpinkaaGreatDoor.Cp

/- Layer 8: contracts of the document's Tick and Pending. -/
namespace Go.Proofs.YthjcijlabpinkaaGreatDoor.Cp
open Go.RowKit
set_option linter.unusedVariables false
set_option maxRecDepth 100000

theorem Rat.drew {w : World} {b : Nat} {r : Regs} (h : Rat w b r) : Rat w.drew b r := h

theorem Rat.put {w : World} {b : Nat} {r : Regs} (h : Rat w b r) (x : Int) : Rat (w.setCell ⟨b, 7, none⟩ (.int .u32 x)) b { r with c := x } :=
  ⟨by rw [isRow_setCell]; exact h.1, by rw [rowAt_setCell, h.2.1]; rfl, by simpa using h.2.2⟩

theorem Rat.far {w : World} {b : Nat} {r : Regs} (h : Rat w b r) (g j : Nat) (v : Value) (hg : g < b) : Rat (w.setCell ⟨g, j, none⟩ v) b r :=
  ⟨by rw [isRow_setCell]; exact h.1, by rw [rowAt_setCell_gt _ _ _ _ _ hg]; exact h.2.1, by simpa using h.2.2⟩

def Way (w : World) (r : Regs) (x : World) : Prop := Rat x w.heap.size r ∧ Rat x (w.heap.size + 1) R0 ∧ Below w.heap.size w x

theorem Way.start (w : World) (r : Regs) : Way w r ((w.alloc (.cells (cellsR r) 25)).alloc (.cells (cellsR R0) 25)) :=
  ⟨(Rat.new w r _).on (grow _ _), by have := Rat.new (w.alloc (.cells (cellsR r) 25)) R0 25; simpa using this, (grow _ _).alloc (by simp) _⟩

theorem Way.put {w x : World} {r : Regs} (h : Way w r x) (v : Int) : Way w { r with c := v } (x.setCell ⟨w.heap.size, 7, none⟩ (.int .u32 v)).drew :=
  ⟨(h.1.put v).drew, (h.2.1.far _ _ _ (by omega)).drew, (h.2.2.setCell (Nat.le_refl _) _).drew⟩

end Go.Proofs.YthjcijlabpinkaaGreatDoor.Cp

/- Layer 8: contracts of the document's Pending and Raise. -/
namespace Go.Proofs.YthjcijlabpinkaaGreatDoor.Cp
open Go.RowKit
set_option linter.unusedVariables false
set_option maxRecDepth 100000

def AnyTill (s c : Int) (k : Nat) (b : Bool) : Prop := b = true ↔ ∃ j : Nat, 8 ≤ j ∧ j < k ∧ bit s j = true ∧ bit c j = true

theorem AnyTill.start (s c : Int) : AnyTill s c 8 false := by
  unfold AnyTill
  constructor
  · intro h; cases h
  · rintro ⟨j, h1, h2, _⟩; omega

theorem AnyTill.next {s c : Int} {k : Nat} {b x : Bool} (h : AnyTill s c k b) (hk : 8 ≤ k) (hx : x = (b || (bit s k && bit c k))) : AnyTill s c (k + 1) x := by
  unfold AnyTill at *
  subst hx
  constructor
  · intro e
    rw [Bool.or_eq_true, Bool.and_eq_true] at e
    rcases e with e | e
    · obtain ⟨j, a1, a2, a3⟩ := h.1 e
      exact ⟨j, a1, by omega, a3⟩
    · exact ⟨k, hk, by omega, e⟩
  · rintro ⟨j, a1, a2, a3, a4⟩
    rw [Bool.or_eq_true, Bool.and_eq_true]
    by_cases e : j = k
    · subst e; exact Or.inr ⟨a3, a4⟩
    · exact Or.inl (h.2 ⟨j, a1, by omega, a3, a4⟩)

end Go.Proofs.YthjcijlabpinkaaGreatDoor.Cp
