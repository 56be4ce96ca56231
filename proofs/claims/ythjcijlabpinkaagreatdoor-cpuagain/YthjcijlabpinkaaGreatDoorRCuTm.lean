/- Layer 13: laws of a state's text. -/
import Derived.Test.YthjcijlabpinkaaGreatDoorRCuEig
import Derived.Test.YthjcijlabpinkaaGreatDoorRDmTextM
import Derived.Test.YthjcijlabpinkaaGreatDoorRCuOne
import Derived.ChangeKeysEq
namespace Go.Proofs.YthjcijlabpinkaaGreatDoor
open Go.RowKit
set_option linter.unusedVariables false
set_option maxRecDepth 100000
set_option linter.unusedSimpArgs false

end Go.Proofs.YthjcijlabpinkaaGreatDoor

namespace Go.Proofs.YthjcijlabpinkaaGreatDoor
open Go.RowKit
set_option linter.unusedVariables false
set_option maxRecDepth 100000
set_option linter.unusedSimpArgs false

theorem bytesW_get (l : List Int) (j : Nat) : (bytesW l)[4 * j]? = l[j]?.map (fun v => v / 16777216) ∧ (bytesW l)[4 * j + 1]? = l[j]?.map (fun v => v / 65536 % 256) ∧
    (bytesW l)[4 * j + 2]? = l[j]?.map (fun v => v / 256 % 256) ∧ (bytesW l)[4 * j + 3]? = l[j]?.map (fun v => v % 256) := by
  induction l generalizing j with
  | nil => simp [bytesW]
  | cons a l ih =>
    have e : bytesW (a :: l) = a / 16777216 :: a / 65536 % 256 :: a / 256 % 256 :: a % 256 :: bytesW l := by simp [bytesW]
    cases j with
    | zero => rw [e]; simp
    | succ j =>
      have := ih j
      rw [e, show 4 * (j + 1) = 4 * j + 1 + 1 + 1 + 1 by omega]
      simpa using this

theorem num_text (l : List Int) (j : Nat) (v : Int) (h : l[j]? = some v) (hv : Cp.W32 v) : numS (strOfNums (bytesW l)) (4 * j) = v := by
  obtain ⟨g0, g1, g2, g3⟩ := bytesW_get l j
  unfold numS
  rw [Dm.num4, Dm.byteAt_nums, Dm.byteAt_nums, Dm.byteAt_nums, Dm.byteAt_nums]
  simp only [List.getD_eq_getElem?_getD, List.getElem?_map, g0, g1, g2, g3, h, Option.map_some, Option.getD_some]
  exact Dm.be4_int hv

theorem word_w {c : Cs} (hc : Wc c) (j : Nat) (h : j < 63) : ∃ v, (wordsC c)[j]? = some v ∧ Cp.W32 v ∧ (cellsC c)[j]? = some (if j = 2 ∨ j = 37 then .bool (v == 1) else .int .u32 v) ∧ (j = 2 ∨ j = 37 → v ≤ 1) := by
  by_cases h2 : j = 2 ∨ j = 37
  · obtain ⟨y, e1, e2⟩ := cell_flag c j h2
    refine ⟨_, e2, ?_, ?_, ?_⟩
    · cases y <;> exact ⟨by decide, by decide⟩
    · rw [if_pos h2, e1]; cases y <;> rfl
    · intro _; cases y <;> decide
  · obtain ⟨v, e1, e2, e3⟩ := cell_word hc j h (fun e => h2 (Or.inl e)) (fun e => h2 (Or.inr e))
    exact ⟨v, e3, e2, by rw [if_neg h2]; exact e1, fun e => absurd e h2⟩

theorem textC_size (c : Cs) : (textC c).size = 252 := by
  unfold textC
  rw [strOfNums_size, bytesW_length, wordsC_length]

theorem csOf_textC {c : Cs} (hc : Wc c) : cellsC (csOf (textC c)) = cellsC c := by
  rw [← rowP_all]
  apply Array.ext'
  unfold rowP
  refine List.ext_getElem? fun j => ?_
  by_cases hj : j < 63
  · obtain ⟨v, e1, e2, e3, e4⟩ := word_w hc j hj
    have e5 : numS (textC c) (4 * j) = v := num_text _ j v e1 e2
    have e6 : (valsP (textC c))[j]? = some (parsedV (textC c) j) := by unfold valsP; simp [hj]
    rw [Array.getElem?_toList, Array.getElem?_toList, e3, List.getElem?_toArray, List.getElem?_append_left (by rw [List.length_take, valsP_length]; omega), List.getElem?_take_of_lt hj, e6]
    unfold parsedV
    rw [e5]
  · rw [List.getElem?_eq_none (by simp only [List.length_append, List.length_take, List.length_drop, valsP_length, zeros_length]; omega), List.getElem?_eq_none (by show (cellsC c).toList.length ≤ j; have : (cellsC c).toList.length = 63 := rfl; omega)]

theorem okP_is (s : ByteArray) : okP s 63 = (decide (numS s 8 ≤ 1) && decide (numS s 148 ≤ 1)) := by
  unfold okP
  simp

theorem okP_text {c : Cs} (hc : Wc c) : okP (textC c) 63 = true := by
  obtain ⟨v, e1, e2, e3, e4⟩ := word_w hc 2 (by omega)
  obtain ⟨u, f1, f2, f3, f4⟩ := word_w hc 37 (by omega)
  have a : numS (textC c) (4 * 2) = v := num_text _ 2 v e1 e2
  have b : numS (textC c) (4 * 37) = u := num_text _ 37 u f1 f2
  rw [okP_is, show (8 : Nat) = 4 * 2 from rfl, show (148 : Nat) = 4 * 37 from rfl, a, b]
  simp [e4, f4]

theorem num_R0 {c : Cs} (hc : Wc c) : numS (textC c) 12 = c.R 0 := num_text (wordsC c) 3 (c.R 0) rfl (hc.R 0)

end Go.Proofs.YthjcijlabpinkaaGreatDoor

namespace Go.Proofs.YthjcijlabpinkaaGreatDoor
open Go.RowKit
set_option linter.unusedVariables false
set_option maxRecDepth 100000
set_option linter.unusedSimpArgs false

theorem part_X (R : Nat → Int) (i : Nat) (hi : i < 32) (w : World) : (Go.part 22 (cellsX R) (i * 1)).run Tryz.prog w = .ok (.int .u32 (R i)) w :=
  match i, hi with
  | 0, _ => by kernel_rfl
  | 1, _ => by kernel_rfl
  | 2, _ => by kernel_rfl
  | 3, _ => by kernel_rfl
  | 4, _ => by kernel_rfl
  | 5, _ => by kernel_rfl
  | 6, _ => by kernel_rfl
  | 7, _ => by kernel_rfl
  | 8, _ => by kernel_rfl
  | 9, _ => by kernel_rfl
  | 10, _ => by kernel_rfl
  | 11, _ => by kernel_rfl
  | 12, _ => by kernel_rfl
  | 13, _ => by kernel_rfl
  | 14, _ => by kernel_rfl
  | 15, _ => by kernel_rfl
  | 16, _ => by kernel_rfl
  | 17, _ => by kernel_rfl
  | 18, _ => by kernel_rfl
  | 19, _ => by kernel_rfl
  | 20, _ => by kernel_rfl
  | 21, _ => by kernel_rfl
  | 22, _ => by kernel_rfl
  | 23, _ => by kernel_rfl
  | 24, _ => by kernel_rfl
  | 25, _ => by kernel_rfl
  | 26, _ => by kernel_rfl
  | 27, _ => by kernel_rfl
  | 28, _ => by kernel_rfl
  | 29, _ => by kernel_rfl
  | 30, _ => by kernel_rfl
  | 31, _ => by kernel_rfl
  | n + 32, h => absurd h (by omega)

theorem eqItems_X (d : Nat) (R : Nat → Int) (w : World) : ∀ is : List Nat, (∀ i ∈ is, i < 32) →
    (Op.eqItems (d + 1) 22 1 (cellsX R) (cellsX R) is).run Tryz.prog w = .ok true w
  | [], _ => by simp [Op.eqItems]
  | i :: is, h => by
    have hi : i < 32 := h i (by simp)
    have ih := eqItems_X d R w is (fun j hj => h j (by simp [hj]))
    simp only [Op.eqItems, Sem.run_bind, part_X R i hi, Result.andThen_ok, run_equalIn_int w d 22 .u32 .u32 _ _ Tryz.underlying22]
    simp [ih]

theorem eqX (d : Nat) (R : Nat → Int) (w : World) : (Op.equalIn (d + 1 + 1) 23 (.agg (cellsX R)) (.agg (cellsX R))).run Tryz.prog w = .ok true w := by
  obtain ⟨i, hi⟩ := info_of_underlying Tryz.underlying22
  rw [run_equalIn_array w (d + 1) (cellsX R) (cellsX R) Tryz.underlying23 hi]
  have : Tryz.prog.cellsOf 22 = 1 := by kernel_rfl
  rw [this]
  exact eqItems_X d R w (List.range 32) (fun i hi => by simpa using hi)

theorem eqFs (d : Nat) (xs : Array Value) (w : World) : ∀ l : List Field, (∀ f ∈ l, f.name ≠ "_" ∧ ∃ a, (Go.part f.type xs f.offset).run Tryz.prog w = .ok a w ∧ (Op.equalIn d f.type a a).run Tryz.prog w = .ok true w) → (Op.eqFields d xs xs l).run Tryz.prog w = .ok true w
  | [], _ => by simp [Op.eqFields]
  | f :: fs, h => by
    obtain ⟨hn, a, ha, he⟩ := h f (by simp)
    have ih := eqFs d xs w fs (fun g hg => h g (by simp [hg]))
    simp only [Op.eqFields, Sem.run_ite, if_pos hn, Sem.run_bind, ha, Result.andThen_ok, he]
    simpa using ih

theorem eqW (d : Nat) (a : Int) (w : World) : (Op.equalIn (d + 1) 22 (.int .u32 a) (.int .u32 a)).run Tryz.prog w = .ok true w := by
  rw [run_equalIn_int w d 22 .u32 .u32 _ _ Tryz.underlying22]
  simp

theorem eqB (d : Nat) (a : Bool) (w : World) : (Op.equalIn (d + 1) 4 (.bool a) (.bool a)).run Tryz.prog w = .ok true w := by
  rw [run_equalIn_bool' w d 4 _ _ Tryz.underlying4]
  simp

theorem eqRg (d : Nat) (r : Cp.Regs) (w : World) : (Op.equalIn (d + 1 + 1) 25 (.agg (Cp.cellsR r)) (.agg (Cp.cellsR r))).run Tryz.prog w = .ok true w := by
  have hu : Tryz.prog.underlying 25 = some (.struct (Tryz.prog.fieldsOf 25)) := by kernel_rfl
  have hp : Tryz.prog.stoodInHeld 25 = false := by kernel_rfl
  rw [run_equalIn_agg w (d + 1) 25 _ _ hu hp]
  have key : ((Tryz.prog.fieldsOf 25).toList.all fun f => decide (f.name ≠ "_") && decide (f.type = 22) && decide (f.offset < 9)) = true := by kernel_rfl
  refine eqFs _ _ w _ fun f hf => ?_
  have hk := List.all_eq_true.1 key f hf
  simp only [Bool.and_eq_true, decide_eq_true_eq] at hk
  obtain ⟨⟨hn, ht⟩, ho⟩ := hk
  refine ⟨hn, ?_⟩
  rw [ht]
  generalize f.offset = o at ho
  have hpt : ∃ a, (Go.part 22 (Cp.cellsR r) o).run Tryz.prog w = .ok (.int .u32 a) w :=
    match o, ho with
    | 0, _ => ⟨r.i, by kernel_rfl⟩
    | 1, _ => ⟨r.l, by kernel_rfl⟩
    | 2, _ => ⟨r.b, by kernel_rfl⟩
    | 3, _ => ⟨r.n, by kernel_rfl⟩
    | 4, _ => ⟨r.h, by kernel_rfl⟩
    | 5, _ => ⟨r.p, by kernel_rfl⟩
    | 6, _ => ⟨r.s, by kernel_rfl⟩
    | 7, _ => ⟨r.c, by kernel_rfl⟩
    | 8, _ => ⟨r.e, by kernel_rfl⟩
    | n + 9, h => absurd h (by omega)
  obtain ⟨a, ha⟩ := hpt
  exact ⟨_, ha, eqW d a w⟩

theorem eqTl (d : Nat) (T : Nat → Int) (w : World) : (Op.equalIn (d + 1 + 1 + 1) 29 (.agg (Tl.cellsT T)) (.agg (Tl.cellsT T))).run Tryz.prog w = .ok true w := by
  obtain ⟨i, hi⟩ := info_of_underlying Tryz.underlying27
  rw [run_equalIn_array w (d + 1 + 1) (Tl.cellsT T) (Tl.cellsT T) Tryz.underlying29 hi]
  have : Tryz.prog.cellsOf 27 = 2 := by kernel_rfl
  rw [this, Tl.eqItems_cellsT d T T w (List.range 8) (fun i hi => by simpa using hi)]
  congr 1
  exact Tl.sameT_refl T

theorem eqC (c : Cs) (w : World) : (Op.equalIn 10000 31 (.agg (cellsC c)) (.agg (cellsC c))).run Tryz.prog w = .ok true w := by
  have hu : Tryz.prog.underlying 31 = some (.struct (Tryz.prog.fieldsOf 31)) := by kernel_rfl
  have hp : Tryz.prog.stoodInHeld 31 = false := by kernel_rfl
  rw [run_equalIn_agg w 9999 31 _ _ hu hp]
  have h1 : (Go.part 23 (cellsC c) 3).run Tryz.prog w = .ok (.agg (cellsX c.R)) w := by kernel_rfl
  have h2 : (Go.part 25 (cellsC c) 38).run Tryz.prog w = .ok (.agg (Cp.cellsR c.C)) w := by kernel_rfl
  have h3 : (Go.part 29 (cellsC c) 47).run Tryz.prog w = .ok (.agg (Tl.cellsT c.T)) w := by kernel_rfl
  have key : ((Tryz.prog.fieldsOf 31).toList.all fun f => decide (f.name ≠ "_") && decide (f.type = 22 ∧ (f.offset = 0 ∨ f.offset = 1 ∨ f.offset = 35 ∨ f.offset = 36) ∨ f.type = 4 ∧ (f.offset = 2 ∨ f.offset = 37) ∨ f.type = 23 ∧ f.offset = 3 ∨ f.type = 25 ∧ f.offset = 38 ∨ f.type = 29 ∧ f.offset = 47)) = true := by kernel_rfl
  refine eqFs _ _ w _ fun f hf => ?_
  have hk := List.all_eq_true.1 key f hf
  simp only [Bool.and_eq_true, decide_eq_true_eq] at hk
  obtain ⟨hn, hk⟩ := hk
  refine ⟨hn, ?_⟩
  rcases hk with ⟨ht, ho⟩ | ⟨ht, ho⟩ | ⟨ht, ho⟩ | ⟨ht, ho⟩ | ⟨ht, ho⟩
  · rcases ho with ho | ho | ho | ho
    · rw [ht, ho]; exact ⟨.int .u32 c.pc, by kernel_rfl, eqW 9998 _ w⟩
    · rw [ht, ho]; exact ⟨.int .u32 c.nx, by kernel_rfl, eqW 9998 _ w⟩
    · rw [ht, ho]; exact ⟨.int .u32 c.hi, by kernel_rfl, eqW 9998 _ w⟩
    · rw [ht, ho]; exact ⟨.int .u32 c.lo, by kernel_rfl, eqW 9998 _ w⟩
  · rcases ho with ho | ho
    · rw [ht, ho]; exact ⟨.bool c.dl, by kernel_rfl, eqB 9998 _ w⟩
    · rw [ht, ho]; exact ⟨.bool c.lk, by kernel_rfl, eqB 9998 _ w⟩
  · rw [ht, ho]; exact ⟨_, h1, eqX 9997 _ w⟩
  · rw [ht, ho]; exact ⟨_, h2, eqRg 9997 _ w⟩
  · rw [ht, ho]; exact ⟨_, h3, eqTl 9996 _ w⟩

theorem eqlC (c : Cs) (w : World) : (binOp .eql 31 (.agg (cellsC c)) (.agg (cellsC c))).run Tryz.prog w = .ok (.bool true) w := by
  rw [run_eql_struct, eqC]; rfl

theorem neqC (c : Cs) (w : World) : (binOp .neq 31 (.agg (cellsC c)) (.agg (cellsC c))).run Tryz.prog w = .ok (.bool false) w := by
  rw [run_neq_struct, eqC]; rfl

end Go.Proofs.YthjcijlabpinkaaGreatDoor
