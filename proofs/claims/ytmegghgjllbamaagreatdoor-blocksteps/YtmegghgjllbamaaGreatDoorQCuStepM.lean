/- Layer 13: what a step leaves as it was. -/
import Derived.Test.YtmegghgjllbamaaGreatDoorQCuTwo
namespace Go.Proofs.YtmegghgjllbamaaGreatDoor
open Go.RowKit
set_option linter.unusedVariables false
set_option maxRecDepth 100000
set_option linter.unusedSimpArgs false

theorem putC_0 (c : Cs) (k : Nat) (v : Int) : (putC c k v).R 0 = c.R 0 := by
  unfold putC
  split
  · rfl
  · rename_i h
    show (if 0 = k then v else c.R 0) = c.R 0
    rw [if_neg (fun e => h e.symm)]

theorem putC_far (c : Cs) (k j : Nat) (v : Int) (h : ¬ j = k) : (putC c k v).R j = c.R j := by
  unfold putC
  split
  · rfl
  · show (if j = k then v else c.R j) = c.R j
    rw [if_neg h]

/-- All but the registers. -/
structure Kin (a b : Cs) : Prop where
  nx : a.nx = b.nx
  C : a.C = b.C
  T : a.T = b.T

theorem putC_kin (c : Cs) (k : Nat) (v : Int) : Kin (putC c k v) c := by
  unfold putC
  split
  · exact ⟨rfl, rfl, rfl⟩
  · exact ⟨rfl, rfl, rfl⟩

theorem Kin.rfl' (c : Cs) : Kin c c := ⟨rfl, rfl, rfl⟩

/-- One register at most is another one. -/
def One (a b : Cs) : Prop := ∃ k v, a.R = (putC b k v).R

theorem One.of (c : Cs) (k : Nat) (v : Int) : One (putC c k v) c := ⟨k, v, rfl⟩
theorem One.same {a b : Cs} (h : a.R = b.R) : One a b := ⟨0, 0, h⟩

theorem mh_one (c : Cs) (I : Ins) : One (mhV c I) c ∧ Kin (mhV c I) c := by
  unfold mhV
  repeat' split
  · exact ⟨One.of _ _ _, putC_kin _ _ _⟩
  · exact ⟨One.of _ _ _, putC_kin _ _ _⟩
  · exact ⟨One.same rfl, ⟨rfl, rfl, rfl⟩⟩
  · exact ⟨One.same rfl, ⟨rfl, rfl, rfl⟩⟩

theorem half_one (c : Cs) (o s t : Int) : One (halfV c o s t) c ∧ Kin (halfV c o s t) c := by
  unfold halfV
  repeat' split
  all_goals exact ⟨One.same rfl, ⟨rfl, rfl, rfl⟩⟩

theorem mg_one (c : Cs) (I : Ins) : One (mgV c I) c := by
  unfold mgV
  repeat' split
  · exact One.of _ _ _
  all_goals exact One.same rfl

theorem alu_one (m : Mc) (I : Ins) : One (aluM m I).m.c m.c ∧ Kin (aluM m I).m.c m.c := by
  unfold aluM
  split
  · exact ⟨One.same rfl, Kin.rfl' _⟩
  · exact ⟨One.of _ _ _, putC_kin _ _ _⟩

theorem load_one (n : Nat) (m : Mc) (I : Ins) : One (loadM n m I).m.c m.c ∧ Kin (loadM n m I).m.c m.c := by
  unfold loadM
  repeat' split
  · exact ⟨One.same rfl, Kin.rfl' _⟩
  · exact ⟨One.same rfl, Kin.rfl' _⟩
  · have k := putC_kin m.c I.t.toNat (Wo.extV (decide (I.o = 59 ∨ I.o = 60)) (ldA n m.v m.B (plV m.c (adrV m.c I) (szV I.o) false).1 (szV I.o)).X (8 * szV I.o))
    exact ⟨⟨_, _, rfl⟩, ⟨k.nx, k.C, k.T⟩⟩

theorem store_one (n : Nat) (m : Mc) (I : Ins) : One (storeM n m I).m.c m.c ∧ Kin (storeM n m I).m.c m.c := by
  unfold storeM
  split
  · exact ⟨One.same rfl, Kin.rfl' _⟩
  split
  · exact ⟨One.of _ _ _, putC_kin _ _ _⟩
  split
  · exact ⟨One.same rfl, Kin.rfl' _⟩
  · show One (if I.o = 68 then { putC m.c I.t.toNat 1 with lk := false } else m.c) m.c ∧ Kin (if I.o = 68 then { putC m.c I.t.toNat 1 with lk := false } else m.c) m.c
    split
    · have k := putC_kin m.c I.t.toNat 1
      exact ⟨⟨_, _, rfl⟩, ⟨k.nx, k.C, k.T⟩⟩
    · exact ⟨One.same rfl, Kin.rfl' _⟩

theorem do_one (n : Nat) (m : Mc) (I : Ins) : One (doM n m I).m.c m.c := by
  unfold doM
  split
  · exact One.same rfl
  split
  · exact One.same rfl
  split
  · exact One.same rfl
  split
  · exact One.same rfl
  split
  · show One (if m.c.R I.t.toNat = 0 then putC m.c I.d.toNat (m.c.R I.s.toNat) else m.c) m.c
    split
    · exact One.of _ _ _
    · exact One.same rfl
  split
  · show One (if m.c.R I.t.toNat = 0 then m.c else putC m.c I.d.toNat (m.c.R I.s.toNat)) m.c
    split
    · exact One.same rfl
    · exact One.of _ _ _
  split
  · exact (mh_one _ _).1
  split
  · exact (half_one _ _ _ _).1
  split
  · exact mg_one _ _
  split
  · exact (load_one _ _ _).1
  split
  · exact (store_one _ _ _).1
  · exact (alu_one _ _).1

/-- What is not the system's leaves the system's registers, the buffer and what is next as they were. -/
theorem do_kin (n : Nat) (m : Mc) (I : Ins) (h : ¬ (53 ≤ I.o ∧ I.o ≤ 58)) : Kin (doM n m I).m.c m.c := by
  unfold doM
  split
  · exact Kin.rfl' _
  split
  · exact Kin.rfl' _
  split
  · exact Kin.rfl' _
  split
  · exact Kin.rfl' _
  split
  · show Kin (if m.c.R I.t.toNat = 0 then putC m.c I.d.toNat (m.c.R I.s.toNat) else m.c) m.c
    split
    · exact putC_kin _ _ _
    · exact Kin.rfl' _
  split
  · show Kin (if m.c.R I.t.toNat = 0 then m.c else putC m.c I.d.toNat (m.c.R I.s.toNat)) m.c
    split
    · exact Kin.rfl' _
    · exact putC_kin _ _ _
  split
  · exact (mh_one _ _).2
  split
  · exact (half_one _ _ _ _).2
  split
  · exact (load_one _ _ _).2
  split
  · exact (store_one _ _ _).2
  · exact (alu_one _ _).2

theorem do_sys (n : Nat) (m : Mc) (I : Ins) (h : 53 ≤ I.o ∧ I.o ≤ 58) : doM n m I = nop { m with c := mgV m.c I } := by
  unfold doM
  rw [if_neg (by omega), if_neg (by omega), if_neg (by omega), if_neg (by omega), if_neg (by omega), if_neg (by omega), if_neg (by omega), if_neg (by omega), if_pos h]

theorem mg_nx (c : Cs) (I : Ins) : (mgV c I).nx = c.nx ∨ (mgV c I).nx = c.C.e := by
  unfold mgV
  repeat' split
  · exact Or.inl (putC_kin _ _ _).nx
  all_goals first | exact Or.inl rfl | exact Or.inr rfl

theorem do_nx (n : Nat) (m : Mc) (I : Ins) : (doM n m I).m.c.nx = m.c.nx ∨ (doM n m I).m.c.nx = m.c.C.e := by
  by_cases h : 53 ≤ I.o ∧ I.o ≤ 58
  · rw [do_sys n m I h]; exact mg_nx _ _
  · exact Or.inl (do_kin n m I h).nx

theorem write_n (r : Cp.Regs) (g v : Int) : (Cp.writeV r g v).n = r.n ∨ (g = 9 ∧ (Cp.writeV r g v).n = v) := by
  unfold Cp.writeV
  repeat' split
  all_goals first | exact Or.inl rfl | exact Or.inr ⟨by assumption, rfl⟩

theorem do_n (n : Nat) (m : Mc) (I : Ins) : (doM n m I).m.c.C.n = m.c.C.n ∨ (I.o = 54 ∧ I.d = 9 ∧ (doM n m I).m.c.C.n = m.c.R I.t.toNat ∧ (doM n m I).m.B = m.B) := by
  by_cases h : 53 ≤ I.o ∧ I.o ≤ 58
  · rw [do_sys n m I h]
    show (mgV m.c I).C.n = _ ∨ (_ ∧ _ ∧ (mgV m.c I).C.n = _ ∧ m.B = m.B)
    by_cases h4 : I.o = 54
    · have e : mgV m.c I = { m.c with C := Cp.writeV m.c.C I.d (m.c.R I.t.toNat) } := by unfold mgV; rw [if_neg (by omega), if_pos h4]
      rw [e]
      rcases write_n m.c.C I.d (m.c.R I.t.toNat) with k | ⟨k1, k2⟩
      · exact Or.inl k
      · exact Or.inr ⟨h4, k1, k2, rfl⟩
    · left
      unfold mgV
      repeat' split
      · rw [(putC_kin _ _ _).C]
      all_goals rfl
  · exact Or.inl (by rw [(do_kin n m I h).C])

theorem fault_is (c : Cs) (f : Ft) : (faultC c f).R = c.R ∧ (faultC c f).T = c.T ∧ (faultC c f).dl = false ∧ (faultC c f).nx = ((faultC c f).pc + 4) % 4294967296 ∧ ((faultC c f).pc = 2147484032 ∨ (faultC c f).pc = 2147483648) ∧ (faultC c f).C.n = c.C.n := by
  have hb : (badC c f).R = c.R ∧ (badC c f).T = c.T ∧ (badC c f).C.n = c.C.n := by unfold badC; split <;> exact ⟨rfl, rfl, rfl⟩
  refine ⟨hb.1, hb.2.1, rfl, rfl, ?_, ?_⟩
  · show Cp.toV (badC c f).C f.rf = _ ∨ Cp.toV (badC c f).C f.rf = _
    unfold Cp.toV
    repeat' split
    · exact Or.inl rfl
    · exact Or.inr rfl
    · exact Or.inl rfl
  · show (Cp.raiseV (badC c f).C f.code f.rf c.pc c.dl).n = _
    rw [← hb.2.2]
    unfold Cp.raiseV
    split <;> rfl

theorem link_kin (c : Cs) (I : Ins) : One (linkV c I) c ∧ Kin (linkV c I) c := by
  unfold linkV
  repeat' split
  · exact ⟨One.of _ _ _, putC_kin _ _ _⟩
  · exact ⟨One.of _ _ _, putC_kin _ _ _⟩
  · exact ⟨One.same rfl, Kin.rfl' _⟩

/-- The ways of a step. -/
theorem rest_ways (n : Nat) (m : Mc) : (∃ f, restM n m = { m with c := faultC m.c f } ) ∨
    ((ftV n m.c m.B).2.2 = true ∧ restM n m = { m with c := brV m.c (ftV n m.c m.B).1 }) ∨
    ((ftV n m.c m.B).2.2 = true ∧ restM n m = { (doM n m (ftV n m.c m.B).1).m with c := gone (doM n m (ftV n m.c m.B).1).m.c (doM n m (ftV n m.c m.B).1).m.c.nx }) := by
  unfold restM
  split
  · exact Or.inl ⟨_, rfl⟩
  split
  · exact Or.inl ⟨_, rfl⟩
  rename_i h
  have h : (ftV n m.c m.B).2.2 = true := by simpa using h
  split
  · exact Or.inr (Or.inl ⟨h, rfl⟩)
  split
  · exact Or.inr (Or.inr ⟨h, rfl⟩)
  · exact Or.inl ⟨_, rfl⟩

theorem step_one (n : Nat) (m : Mc) : One (stepM n m).c m.c := by
  have h : One (restM n (tickM n m)).c (tickM n m).c := by
    rcases rest_ways n (tickM n m) with ⟨f, e⟩ | ⟨-, e⟩ | ⟨-, e⟩
    · rw [e]; exact One.same (fault_is _ _).1
    · rw [e]; exact (link_kin _ _).1
    · rw [e]; exact do_one _ _ _
  obtain ⟨k, v, h⟩ := h
  refine ⟨k, v, ?_⟩
  show (restM n (tickM n m)).c.R = _
  rw [h]
  unfold putC
  split <;> rfl

theorem step_0 (n : Nat) (m : Mc) (h : m.c.R 0 = 0) : (stepM n m).c.R 0 = 0 := by
  obtain ⟨k, v, e⟩ := step_one n m
  rw [e, putC_0, h]

/-- Where it goes on. -/
theorem step_goes (n : Nat) (m : Mc) : ((stepM n m).c.pc = 2147484032 ∨ (stepM n m).c.pc = 2147483648 ∨ (stepM n m).c.pc = m.c.nx ∨ (stepM n m).c.pc = m.c.C.e) ∧
    ((stepM n m).c.dl = true ∧ (stepM n m).c.pc = m.c.nx ∨ (stepM n m).c.dl = false ∧ (stepM n m).c.nx = ((stepM n m).c.pc + 4) % 4294967296) := by
  have e0 : (tickM n m).c.nx = m.c.nx := rfl
  have e1 : (tickM n m).c.C.e = m.c.C.e := rfl
  unfold stepM
  rcases rest_ways n (tickM n m) with ⟨f, e⟩ | ⟨-, e⟩ | ⟨-, e⟩
  · rw [e]
    obtain ⟨-, -, h3, h4, h5, -⟩ := fault_is (tickM n m).c f
    exact ⟨by rcases h5 with h | h; exact Or.inl h; exact Or.inr (Or.inl h), Or.inr ⟨h3, h4⟩⟩
  · rw [e]
    exact ⟨Or.inr (Or.inr (Or.inl rfl)), Or.inl ⟨rfl, rfl⟩⟩
  · rw [e]
    refine ⟨Or.inr (Or.inr ?_), Or.inr ⟨rfl, rfl⟩⟩
    rcases do_nx n (tickM n m) (ftV n (tickM n m).c (tickM n m).B).1 with h | h
    · exact Or.inl h
    · exact Or.inr h

end Go.Proofs.YtmegghgjllbamaaGreatDoor
