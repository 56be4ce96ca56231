/- A region that draws its order and whose last operation stores into what the region reads: what is read is told by a condition that need not hold behind that last one. -/
import Derived.Deep.RegionHeld
import Derived.WalkKit
namespace Go.Proofs.Ytnbflahggpehpab.Ir
set_option linter.unusedVariables false
set_option maxRecDepth 100000
set_option linter.unusedSimpArgs false

section
variable {P : Program} {ops : Array Oper} {Q : Exit → Act → World → Prop} {md : Region.Mode} {S : World → Prop} {k : Nat}

/-- Whatever order is picked from here on; S holds behind every operation but number k. -/
def AnyL (P : Program) (md : Region.Mode) (ops : Array Oper) (Q : Exit → Act → World → Prop) (S : World → Prop) (k : Nat) : Nat → Array Bool → Act → World → Prop
  | 0, l, a, w => Region.ready md ops l = [] ∧ Q .normal a w
  | n + 1, l, a, w => (Region.ready md ops l = [] → Q .normal a w) ∧ ∀ i ∈ Region.ready md ops l, wpOp P ops Q i (fun a' w' => (i = k ∨ S w') ∧ AnyL P md ops Q S k n (l.setIfInBounds i true) a' w') a w

theorem any_of_L : ∀ (n : Nat) (l : Array Bool) (a : Act) (w : World), AnyL P md ops Q S k n l a w → wpAny P md ops Q n l a w
  | 0, _, _, _, h => h
  | n + 1, _, _, _, h => ⟨h.1, fun i hi => wpOp_mono (fun a' w' h' => any_of_L n _ a' w' h'.2) (h.2 i hi)⟩

/-- What is listed had all for which it waits listed ahead of it. -/
def shutB (md : Region.Mode) (ops : Array Oper) (l : Array Bool) : Bool :=
  (List.range ops.size).all fun j => !(l.getD j false) || (ops[j]?.map fun o => o.after.all fun e => !(Region.binds md e) || l.getD e.on false).getD true

/-- Operation j waits for i, at once or by others. -/
def waitsB (md : Region.Mode) (ops : Array Oper) (i : Nat) : Nat → Nat → Bool
  | 0, _ => false
  | n + 1, j => (ops[j]?.map fun o => o.after.any fun e => Region.binds md e && (e.on == i || waitsB md ops i n e.on)).getD false

def ShutL (md : Region.Mode) (ops : Array Oper) (l : Array Bool) : Prop := ∀ j o, ops[j]? = some o → l.getD j false = true → ∀ e ∈ o.after, Region.binds md e = true → l.getD e.on false = true

theorem shut_of {l : Array Bool} (h : shutB md ops l = true) : ShutL md ops l := fun j o ho hl e he hb => by
  have h1 := List.all_eq_true.1 h j (by rw [List.mem_range]; exact (Array.getElem?_eq_some_iff.1 ho).1)
  rw [hl, ho] at h1
  simp only [Bool.not_true, Bool.false_or, Option.map_some, Option.getD_some] at h1
  have h2 := Array.all_eq_true_iff_forall_mem.1 h1 e he
  rw [hb] at h2
  simpa using h2

theorem ShutL.next {l : Array Bool} {i : Nat} (h : ShutL md ops l) (hi : i ∈ Region.ready md ops l) : ShutL md ops (l.setIfInBounds i true) := fun j o ho hl e he hb => by
  by_cases hj : i = j
  · subst hj
    obtain ⟨-, o', ho', hall⟩ := mem_ready.1 hi
    rw [ho] at ho'
    cases ho'
    exact getD_set_true (hall e he hb)
  · rw [getD_set_ne false hj] at hl
    exact getD_set_true (h j o ho hl e he hb)

theorem waits_listed {l : Array Bool} {i : Nat} (h : ShutL md ops l) : ∀ (n j : Nat), waitsB md ops i n j = true → (∀ o, ops[j]? = some o → ∀ e ∈ o.after, Region.binds md e = true → l.getD e.on false = true) → l.getD i false = true
  | 0, _, hw, _ => by cases hw
  | n + 1, j, hw, hl => by
    unfold waitsB at hw
    cases ho : ops[j]? with
    | none => rw [ho] at hw; cases hw
    | some o =>
      rw [ho] at hw
      simp only [Option.map_some, Option.getD_some] at hw
      obtain ⟨e, he, hb⟩ := Array.any_eq_true'.1 hw
      rw [Bool.and_eq_true, Bool.or_eq_true] at hb
      have h1 := hl o ho e he hb.1
      rcases hb.2 with h2 | h2
      · rw [show e.on = i by simpa using h2] at h1; exact h1
      · exact waits_listed h n e.on h2 (fun o' ho' => h e.on o' ho' h1)

theorem not_last {l : Array Bool} {i : Nat} {n : Nat} (h : ShutL md ops l) (hi : i ∈ Region.ready md ops l) (hw : waitsB md ops i n k = true) {j : Nat} (hj : j ∈ Region.ready md ops l) : j ≠ k := fun e => by
  subst e
  obtain ⟨-, o, ho, hall⟩ := mem_ready.1 hj
  have h1 := waits_listed h n j hw (fun o' ho' e he hb => by rw [ho] at ho'; cases ho'; exact hall e he hb)
  obtain ⟨h0, -⟩ := mem_ready.1 hi
  rcases Nat.lt_or_ge i l.size with h' | h'
  · simp [h'] at h0 h1; rw [h0] at h1; cases h1
  · simp [Array.getElem?_eq_none h'] at h1

/-- An operation for which the last one waits, and that yields its value wherever S holds, may be taken first. -/
theorem AnyL.first {i N : Nat} {oi : Oper} {v : Value} (hi : ops[i]? = some oi) (hsel : ∀ (j : Nat) (o : Oper) cs b, ops[j]? = some o → o.op ≠ .select cs b)
    (hQ : ∀ c a w, Q (.panic c) (a.put oi.dst v) w → Q (.panic c) a w) (hw : waitsB md ops i N k = true) (n : Nat) : ∀ (l : Array Bool) (a : Act) (w : World), ShutL md ops l →
      (∀ j oj, ops[j]? = some oj → j ≠ i → l.getD j true = false → (∀ e ∈ oj.after, Region.binds md e = true → e.on ≠ i) → oi.apart ops oj = true) →
      i ∈ Region.ready md ops l → YieldsIf P ops S oi v a → S w → AnyL P md ops Q S k n (l.setIfInBounds i true) (a.put oi.dst v) w → AnyL P md ops Q S k (n + 1) l a w := by
  induction n with
  | zero =>
    intro l a w _ _ hr hy hS H
    refine ⟨fun h => absurd hr (by rw [h]; exact List.not_mem_nil), fun j hj => ?_⟩
    by_cases hji : j = i
    · rw [hji]; exact hy.wpOp hi hS ⟨Or.inr hS, H⟩
    · exact absurd (ready_mono hj hji) (by rw [H.1]; exact List.not_mem_nil)
  | succ n ih =>
    intro l a w hc hfree hr hy hS H
    refine ⟨fun h => absurd hr (by rw [h]; exact List.not_mem_nil), fun j hj => ?_⟩
    by_cases hji : j = i
    · rw [hji]; exact hy.wpOp hi hS ⟨Or.inr hS, H⟩
    · obtain ⟨hjun, oj, hoj, hall⟩ := mem_ready.1 hj
      have hnot : ∀ e ∈ oj.after, Region.binds md e = true → e.on ≠ i := fun e he hb heq => by
        have h1 := hall e he hb
        obtain ⟨h0, -⟩ := mem_ready.1 hr
        rw [heq] at h1
        rcases Nat.lt_or_ge i l.size with h' | h'
        · simp [h'] at h0 h1; rw [h0] at h1; cases h1
        · simp [Array.getElem?_eq_none h'] at h1
      have hap := hfree j oj hoj hji hjun hnot
      have hstep := wpOp_putIf hoj hap (fun cs b => hsel i oi cs b hi) (fun cs b => hsel j oj cs b hoj) hQ hy (H.2 j (ready_mono hj hji))
      have hjk := not_last hc hr hw hj
      refine wpOp_mono (fun a' w' h3 => ?_) hstep
      have hS' : S w' := h3.2.1.resolve_left hjk
      refine ⟨Or.inr hS', ih _ a' w' (hc.next hj) (fun p op hp hpi hun hno => hfree p op hp hpi ?_ hno) (ready_mono hr (Ne.symm hji)) h3.1 hS' ?_⟩
      · by_cases hjp : j = p
        · rw [← hjp]; exact hjun
        · rwa [getD_set_ne true hjp] at hun
      · rw [Array.setIfInBounds_comm _ _ hji]
        exact h3.2.2

theorem AnyL.take {i : Nat} {oi : Oper} {v : Value} {n : Nat} {l : Array Bool} {a : Act} {w : World} (hi : ops[i]? = some oi)
    (hs : Region.noSelect ops = true) (hf : Region.free md ops l i = true) (hr : (Region.ready md ops l).contains i = true) (hc : (shutB md ops l && waitsB md ops i ops.size k) = true)
    (hQ : ∀ c a w, Q (.panic c) (a.put oi.dst v) w → Q (.panic c) a w) (hy : YieldsIf P ops S oi v a) (hS : S w)
    (h : AnyL P md ops Q S k n (l.setIfInBounds i true) (a.put oi.dst v) w) : AnyL P md ops Q S k (n + 1) l a w := by
  rw [Bool.and_eq_true] at hc
  exact AnyL.first hi (Region.noSelect_spec hs) hQ hc.2 n l a w (shut_of hc.1) (Region.free_spec hi hf) (by simpa using hr) hy hS h

/-- One operation alone may come up. -/
theorem AnyL.one {i : Nat} {o : Oper} {n : Nat} {l : Array Bool} {a : Act} {w : World} (hr : Region.ready md ops l = [i]) (ho : ops[i]? = some o)
    (h : ∀ K' : Act → World → Prop, Shut (∀ a w, (i = k ∨ S w) → AnyL P md ops Q S k n (l.setIfInBounds i true) a w → K' a w) → if Region.wanted o (yielded ops a.tmps) = true then Oper.wp P o a w K' Q else K' (a.put o.dst undef) w) : AnyL P md ops Q S k (n + 1) l a w := by
  refine ⟨fun h0 => (by rw [hr] at h0; cases h0), fun j hj => ?_⟩
  rw [hr, List.mem_singleton] at hj
  subst hj
  exact wpOp_step ho (fun K' hK => h K' (fun a w h1 h2 => hK a w ⟨h1, h2⟩))

theorem AnyL.done {l : Array Bool} {a : Act} {w : World} (hr : Region.ready md ops l = []) (h : Q .normal a w) : ∀ n, AnyL P md ops Q S k n l a w
  | 0 => ⟨hr, h⟩
  | _ + 1 => ⟨fun _ => h, fun i hi => absurd hi (by rw [hr]; exact List.not_mem_nil)⟩

theorem region_last {id : Nat} {a : Act} {w : World} (k : Nat) (S : World → Prop) (hm : P.follows .mixedOrders = true) (hS : S w.drew)
    (h : S w.drew → AnyL P .any ops Q S k ops.size (Array.replicate ops.size false) a w.drew) : (Code.region id ops true).wp P Q a w :=
  wp_region_any hm (any_of_L _ _ _ _ (h hS))
end

end Go.Proofs.Ytnbflahggpehpab.Ir
