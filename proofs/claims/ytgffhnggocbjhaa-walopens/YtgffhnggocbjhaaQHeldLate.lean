/- Regions that draw, and store at their end into what they load: a condition S on the world that is asked only till one of the late operations is done; what is taken first is what all late ones wait for. -/
import Derived.Test.YtgffhnggocbjhaaQWholeAt
namespace Go.Proofs.Ytgffhnggocbjhaa
open Go.RowKit
set_option linter.unusedVariables false
set_option maxRecDepth 100000
set_option linter.unusedSimpArgs false

section
variable {P : Program} {ops : Array Oper} {Q : Exit → Act → World → Prop} {md : Region.Mode} {S : World → Prop}

/-- Does operation j wait for operation i, by some steps? -/
def leads (md : Region.Mode) (ops : Array Oper) (i : Nat) : Nat → Nat → Bool
  | 0, _ => false
  | f + 1, j => match ops[j]? with
    | none => false
    | some o => o.after.any fun e => Region.binds md e && (e.on == i || leads md ops i f e.on)

/-- Is all done that those which are done wait for? -/
def shutB (md : Region.Mode) (ops : Array Oper) (listed : Array Bool) : Bool :=
  (List.range ops.size).all fun j => !listed.getD j false || match ops[j]? with
    | none => true
    | some o => o.after.all fun e => !Region.binds md e || listed.getD e.on false

def ShutL (md : Region.Mode) (ops : Array Oper) (listed : Array Bool) : Prop :=
  ∀ j o, ops[j]? = some o → listed.getD j false = true → ∀ e ∈ o.after, Region.binds md e = true → listed.getD e.on false = true

theorem shutB_spec {listed : Array Bool} (h : shutB md ops listed = true) : ShutL md ops listed := by
  intro j o ho hj e he hb
  have hlt : j < ops.size := (Array.getElem?_eq_some_iff.1 ho).1
  unfold shutB at h
  rw [List.all_eq_true] at h
  have h1 := h j (List.mem_range.2 hlt)
  rw [hj, ho] at h1
  have h2 : (o.after.all fun e => !Region.binds md e || listed.getD e.on false) = true := by simpa using h1
  have h3 := Array.all_eq_true_iff_forall_mem.1 h2 e he
  rw [hb] at h3
  simpa using h3

theorem ShutL.more {listed : Array Bool} (h : ShutL md ops listed) {j : Nat} (hj : j ∈ Region.ready md ops listed) : ShutL md ops (listed.setIfInBounds j true) := by
  obtain ⟨-, oj, hoj, hall⟩ := mem_ready.1 hj
  intro k o ho hk e he hb
  by_cases hkj : j = k
  · subst hkj
    rw [hoj] at ho
    injection ho with ho
    subst ho
    exact getD_set_true (hall e he hb)
  · rw [getD_set_ne false hkj] at hk
    exact getD_set_true (h k o ho hk e he hb)

theorem leads_done {listed : Array Bool} {i : Nat} (h : ShutL md ops listed) : ∀ f j, leads md ops i f j = true → listed.getD j false = true → listed.getD i false = true
  | 0, j, hl, _ => by cases hl
  | f + 1, j, hl, hj => by
    unfold leads at hl
    cases ho : ops[j]? with
    | none => rw [ho] at hl; cases hl
    | some o =>
      rw [ho] at hl
      have hl' : (o.after.any fun e => Region.binds md e && (e.on == i || leads md ops i f e.on)) = true := hl
      obtain ⟨k, hk, h2⟩ := Array.any_eq_true.1 hl'
      obtain ⟨e, he'⟩ : ∃ e, e = o.after[k] := ⟨_, rfl⟩
      have he : e ∈ o.after := by rw [he']; exact Array.getElem_mem hk
      rw [← he'] at h2
      rw [Bool.and_eq_true, Bool.or_eq_true] at h2
      have hd := h j o ho hj e he h2.1
      rcases h2.2 with h3 | h3
      · have : e.on = i := by simpa using h3
        rwa [this] at hd
      · exact leads_done h f e.on h3 hd

/-- Is no late operation done? -/
def early (late : List Nat) (listed : Array Bool) : Bool := late.all fun l => !listed.getD l false

def wpAnyI (P : Program) (md : Region.Mode) (ops : Array Oper) (Q : Exit → Act → World → Prop) (S : World → Prop) (late : List Nat) : Nat → Array Bool → Act → World → Prop
  | 0, listed, a, w => Region.ready md ops listed = [] ∧ Q .normal a w
  | fuel + 1, listed, a, w =>
    (Region.ready md ops listed = [] → Q .normal a w) ∧
    ∀ i ∈ Region.ready md ops listed, wpOp P ops Q i (fun a' w' => (early late (listed.setIfInBounds i true) = true → S w') ∧ wpAnyI P md ops Q S late fuel (listed.setIfInBounds i true) a' w') a w

theorem wpAny_of_I {late : List Nat} : ∀ (fuel : Nat) (listed : Array Bool) (a : Act) (w : World), wpAnyI P md ops Q S late fuel listed a w → wpAny P md ops Q fuel listed a w
  | 0, _, _, _, h => h
  | fuel + 1, _, _, _, h => ⟨h.1, fun i hi => wpOp_mono (fun a' w' h' => wpAny_of_I fuel _ a' w' h'.2) (h.2 i hi)⟩

theorem wpAnyI_first {late : List Nat} {i : Nat} {oi : Oper} {v : Value} (hi : ops[i]? = some oi) (hsel : ∀ (j : Nat) (o : Oper) cs b, ops[j]? = some o → o.op ≠ .select cs b)
    (hQ : ∀ c a w, Q (.panic c) (a.put oi.dst v) w → Q (.panic c) a w) (hil : i ∉ late) (hlead : ∀ l ∈ late, leads md ops i ops.size l = true) :
    ∀ (fuel : Nat) (listed : Array Bool) (a : Act) (w : World),
      (∀ j oj, ops[j]? = some oj → j ≠ i → listed.getD j true = false → (∀ e ∈ oj.after, Region.binds md e = true → e.on ≠ i) → oi.apart ops oj = true) →
      ShutL md ops listed → i ∈ Region.ready md ops listed → YieldsIf P ops S oi v a → S w →
      wpAnyI P md ops Q S late fuel (listed.setIfInBounds i true) (a.put oi.dst v) w → wpAnyI P md ops Q S late (fuel + 1) listed a w := by
  intro fuel
  induction fuel with
  | zero =>
    intro listed a w _ _ hr hy hS H
    refine ⟨fun h => (by rw [h] at hr; cases hr), fun j hj => ?_⟩
    by_cases hji : j = i
    · subst hji; exact hy.wpOp hi hS ⟨fun _ => hS, H⟩
    · have := ready_mono hj hji
      rw [H.1] at this
      cases this
  | succ fuel ih =>
    intro listed a w hfree hsh hr hy hS H
    refine ⟨fun h => (by rw [h] at hr; cases hr), fun j hj => ?_⟩
    by_cases hji : j = i
    · subst hji; exact hy.wpOp hi hS ⟨fun _ => hS, H⟩
    · have h1 := H.2 j (ready_mono hj hji)
      obtain ⟨hjun, oj, hoj, hall⟩ := mem_ready.1 hj
      have hnot : ∀ e ∈ oj.after, Region.binds md e = true → e.on ≠ i := fun e he hb heq => by
        have h1 := hall e he hb
        have h0 := (mem_ready.1 hr).1
        rw [heq] at h1
        rcases Nat.lt_or_ge i listed.size with h' | h'
        · simp [h'] at h0 h1; rw [h0] at h1; cases h1
        · simp [Array.getElem?_eq_none h'] at h1
      have h2 := wpOp_putIf hoj (hfree j oj hoj hji hjun hnot) (fun cs b => hsel i oi cs b hi) (fun cs b => hsel j oj cs b hoj) hQ hy h1
      have hfree' : ∀ k ok, ops[k]? = some ok → k ≠ i → (listed.setIfInBounds j true).getD k true = false →
          (∀ e ∈ ok.after, Region.binds md e = true → e.on ≠ i) → oi.apart ops ok = true := fun k ok hk hki hun hno => by
        refine hfree k ok hk hki ?_ hno
        by_cases hjk : j = k
        · subst hjk; exact hjun
        · rw [getD_set_ne true hjk] at hun; exact hun
      have hsh' := hsh.more hj
      have hi0 : (listed.setIfInBounds j true).getD i false = false := by
        have h0 := (mem_ready.1 hr).1
        rw [getD_set_ne false hji]
        rcases Nat.lt_or_ge i listed.size with h' | h'
        · simp [h'] at h0 ⊢; exact h0
        · simp [Array.getElem?_eq_none h']
      have hno : ∀ l ∈ late, (listed.setIfInBounds j true).getD l false = false := fun l hl => by
        cases hd : (listed.setIfInBounds j true).getD l false with
        | false => rfl
        | true => rw [leads_done hsh' _ _ (hlead l hl) hd] at hi0; cases hi0
      have hearly : early late ((listed.setIfInBounds i true).setIfInBounds j true) = true := by
        unfold early
        rw [List.all_eq_true]
        intro l hl
        have hli : i ≠ l := fun e => hil (e ▸ hl)
        rw [Array.setIfInBounds_comm _ _ (Ne.symm hji), getD_set_ne false hli, hno l hl]
        rfl
      refine wpOp_mono (fun a' w' h3 => ⟨fun _ => h3.2.1 hearly, ih (listed.setIfInBounds j true) a' w' hfree' hsh' (ready_mono hr (Ne.symm hji)) h3.1 (h3.2.1 hearly) ?_⟩) h2
      rw [Array.setIfInBounds_comm _ _ hji]
      exact h3.2.2

/-- Operation i is taken now. -/
theorem zit {late : List Nat} {oi : Oper} {fuel : Nat} {listed : Array Bool} {a : Act} {w : World} (i : Nat) (v : Value) (hi : ops.toList[i]? = some oi)
    (hb : ((Region.noSelect ops && (Region.free md ops listed i && (Region.ready md ops listed).contains i)) && (shutB md ops listed && (!late.contains i && late.all fun l => leads md ops i ops.size l))) = true)
    (hQ : ∀ c a w, Q (.panic c) (a.put oi.dst v) w → Q (.panic c) a w) (hw : Region.wanted oi (yielded ops a.tmps) = true) (hS : S w)
    (hv : ∀ y, S y → (execOp a.eval oi).run P y = .ok (.value v) y) (h : wpAnyI P md ops Q S late fuel (listed.setIfInBounds i true) (a.put oi.dst v) w) : wpAnyI P md ops Q S late (fuel + 1) listed a w := by
  simp only [Bool.and_eq_true] at hb
  obtain ⟨⟨h1, h2, h3⟩, h4, h5, h6⟩ := hb
  exact wpAnyI_first (by simpa using hi) (Region.noSelect_spec h1) hQ (by simpa using h5) (by simpa using h6) fuel listed a w (Region.free_spec (by simpa using hi) h2) (shutB_spec h4) (by simpa using h3) (Or.inl ⟨hw, hv⟩) hS h

theorem wpOp_one {o : Oper} {i : Nat} {a : Act} {w : World} {K : Act → World → Prop} (ho : ops[i]? = some o)
    (h : if Region.wanted o (yielded ops a.tmps) = true then Oper.wp P o a w K Q else K (a.put o.dst undef) w) : wpOp P ops Q i K a w := by
  unfold wpOp
  simp only [ho]
  split
  · rename_i hw; rw [if_pos hw] at h; exact .inl h
  · rename_i hw; rw [if_neg hw] at h; exact h

/-- Operation i is the one that may come up: it is done, and S is shown anew; or it is a late one. -/
theorem zib {late : List Nat} {o : Oper} {fuel : Nat} {listed : Array Bool} {a : Act} {w : World} (i : Nat) (ho : ops.toList[i]? = some o) (hr : Region.ready md ops listed = [i])
    (h : ∀ K' : Act → World → Prop, Shut (∀ a w, S w → (S w → wpAnyI P md ops Q S late fuel (listed.setIfInBounds i true) a w) → K' a w) → if Region.wanted o (yielded ops a.tmps) = true then Oper.wp P o a w K' Q else K' (a.put o.dst undef) w) : wpAnyI P md ops Q S late (fuel + 1) listed a w := by
  refine ⟨fun h0 => (by rw [hr] at h0; cases h0), fun j hj => ?_⟩
  rw [hr] at hj
  obtain rfl : j = i := by simpa using hj
  exact wpOp_one (by simpa using ho) (h _ (fun a w hS hW => ⟨fun _ => hS, hW hS⟩))
theorem zil {late : List Nat} {o : Oper} {fuel : Nat} {listed : Array Bool} {a : Act} {w : World} (i : Nat) (ho : ops.toList[i]? = some o) (hr : Region.ready md ops listed = [i]) (he : early late (listed.setIfInBounds i true) = false)
    (h : ∀ K' : Act → World → Prop, Shut (∀ a w, wpAnyI P md ops Q S late fuel (listed.setIfInBounds i true) a w → K' a w) → if Region.wanted o (yielded ops a.tmps) = true then Oper.wp P o a w K' Q else K' (a.put o.dst undef) w) : wpAnyI P md ops Q S late (fuel + 1) listed a w := by
  refine ⟨fun h0 => (by rw [hr] at h0; cases h0), fun j hj => ?_⟩
  rw [hr] at hj
  obtain rfl : j = i := by simpa using hj
  exact wpOp_one (by simpa using ho) (h _ (fun a w hW => ⟨fun h => (by rw [he] at h; cases h), hW⟩))

/-- Behind a late operation another condition is laid, with other late ones. -/
theorem early_more {late : List Nat} {listed : Array Bool} (i : Nat) (h : early late listed = false) : early late (listed.setIfInBounds i true) = false := by
  unfold early at *
  rw [List.all_eq_false] at *
  obtain ⟨l, hl, hd⟩ := h
  refine ⟨l, hl, ?_⟩
  have h1 : listed.getD l false = true := by simpa using hd
  rw [getD_set_true h1]
  decide
theorem zsw {S : World → Prop} {late : List Nat} (S' : World → Prop) (late' : List Nat) : ∀ {fuel : Nat} {listed : Array Bool} {a : Act} {w : World}, early late listed = false → S' w → (S' w → wpAnyI P md ops Q S' late' fuel listed a w) → wpAnyI P md ops Q S late fuel listed a w := by
  have key : ∀ (fuel : Nat) (listed : Array Bool) (a : Act) (w : World), early late listed = false → wpAnyI P md ops Q S' late' fuel listed a w → wpAnyI P md ops Q S late fuel listed a w := by
    intro fuel
    induction fuel with
    | zero => exact fun _ _ _ _ h => h
    | succ fuel ih =>
      intro listed a w he h
      exact ⟨h.1, fun i hi => wpOp_mono (fun a' w' h' => ⟨fun hx => (by rw [early_more i he] at hx; cases hx), ih _ a' w' (early_more i he) h'.2⟩) (h.2 i hi)⟩
  intro fuel listed a w he hS h
  exact key _ _ _ _ he (h hS)

/-- All is done; the beginning. -/
theorem zid {late : List Nat} {listed : Array Bool} {a : Act} {w : World} (hr : Region.ready md ops listed = []) (h : Q .normal a w) : ∀ fuel, wpAnyI P md ops Q S late fuel listed a w
  | 0 => ⟨hr, h⟩
  | _ + 1 => ⟨fun _ => h, by rw [hr]; simp⟩
theorem zir (late : List Nat) (S : World → Prop) {id : Nat} {a : Act} {w : World} (hm : P.follows .mixedOrders = true) (hS : S w.drew)
    (h : S w.drew → wpAnyI P .any ops Q S late ops.size (Array.replicate ops.size false) a w.drew) : (Code.region id ops true).wp P Q a w :=
  wp_region_any hm (wpAny_of_I _ _ _ _ (h hS))

end

/-- An append whose run is told, in a region that draws. -/
theorem step_append_told' {P : Program} {w w' : World} {ops : Array Oper} {o : Oper} {a : Act} {K : Act → World → Prop} {Q : Exit → Act → World → Prop} {E : Prop}
    (hg : o.guard = none) (s x : Operand) (t : TypeId) (hop : o.op = Op.call { callee := Callee.builtin Builtin.append, args := #[s, x], argTypes := #[t, t] })
    (u y v : Value) (hs : a.eval s = u) (hx : a.eval x = y) (hrun : (Builtin.append_ #[t, t] o.type #[u, y]).run P w = .ok v w')
    (hK : K (a.put o.dst v) w') : if Region.wanted o (yielded ops a.tmps) = true then Oper.wp P o a w K Q else E := by
  have hw : Region.wanted o (yielded ops a.tmps) = true := by simp [Region.wanted, hg]
  rw [if_pos hw]
  unfold Oper.wp
  simp [execOp, hop, resolve, invoke, builtin, hs, hx, hrun, Result.andThen]
  exact hK

end Go.Proofs.Ytgffhnggocbjhaa
