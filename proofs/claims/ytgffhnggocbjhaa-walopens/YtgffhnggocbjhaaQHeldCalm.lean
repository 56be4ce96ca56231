/- A region that draws its order, and whose operations make, but change nothing that is there: each operation's value is told by a predicate, whatever the order (my own law over the library's wpAny). -/
import Derived.Test.YtgffhnggocbjhaaQHeldLate
import Derived.Test.YtgffhnggocbjhaaQDkBas
namespace Go.Proofs.Ytgffhnggocbjhaa
open Go.RowKit
set_option linter.unusedVariables false
set_option maxRecDepth 100000
set_option linter.unusedSimpArgs false

section
variable {P : Program} {ops : Array Oper} {Q : Exit → Act → World → Prop} {md : Region.Mode}

def upd (V : Nat → Value) (i : Nat) (v : Value) : Nat → Value := fun j => if j = i then v else V j

/-- What an operation waits for. -/
def depsOf (md : Region.Mode) (o : Oper) : List Nat := (o.after.toList.filter (Region.binds md)).map (·.on)

theorem ready_iff {listed : Array Bool} {i : Nat} : i ∈ Region.ready md ops listed ↔ listed.getD i true = false ∧ ∃ o, ops[i]? = some o ∧ ∀ k ∈ depsOf md o, listed.getD k false = true := by
  unfold Region.ready depsOf
  simp only [List.mem_filter, List.mem_range, Bool.and_eq_true, Bool.not_eq_true', List.mem_map]
  constructor
  · rintro ⟨hi, h1, h2⟩
    refine ⟨h1, ops[i], Array.getElem?_eq_getElem hi, ?_⟩
    rw [Array.getElem?_eq_getElem hi] at h2
    simp only [Option.map_some, Option.getD_some, Array.all_eq_true'] at h2
    rintro k ⟨e, ⟨he, hb⟩, rfl⟩
    have := h2 e (by simpa using he)
    rw [hb] at this
    simpa using this
  · rintro ⟨h1, o, ho, h2⟩
    refine ⟨(Array.getElem?_eq_some_iff.1 ho).1, h1, ?_⟩
    rw [ho]
    simp only [Option.map_some, Option.getD_some, Array.all_eq_true']
    intro e he
    cases hb : Region.binds md e with
    | false => rfl
    | true => simpa using h2 e.on ⟨e, ⟨by simpa using he, hb⟩, rfl⟩

theorem wpAny_inv {Inv : Array Bool → Act → World → Prop}
    (hstep : ∀ listed a w i, listed.size = ops.size → Inv listed a w → i ∈ Region.ready md ops listed → wpOp P ops Q i (fun a' w' => Inv (listed.setIfInBounds i true) a' w') a w)
    (hdone : ∀ listed a w, listed.size = ops.size → Inv listed a w → Region.ready md ops listed = [] → Q .normal a w) :
    ∀ (fuel : Nat) (listed : Array Bool) (a : Act) (w : World), listed.size = ops.size → listed.toList.count false ≤ fuel → Inv listed a w → wpAny P md ops Q fuel listed a w
  | 0, listed, a, w, hz, hc, hI => by
    have hr : Region.ready md ops listed = [] := by
      rw [List.eq_nil_iff_forall_not_mem]
      intro i hi
      obtain ⟨h1, -⟩ := ready_iff.1 hi
      have hl : i < listed.size := by
        by_cases h : i < listed.size
        · exact h
        · simp [Array.getD, h] at h1
      have : false ∈ listed.toList := by
        rw [Array.mem_toList_iff, Array.mem_iff_getElem]
        refine ⟨i, hl, ?_⟩
        simpa [Array.getD, hl] using h1
      have := List.count_pos_iff.2 this
      omega
    exact ⟨hr, hdone _ _ _ hz hI hr⟩
  | fuel + 1, listed, a, w, hz, hc, hI => by
    refine ⟨fun hr => hdone _ _ _ hz hI hr, fun i hi => ?_⟩
    have hl : listed.toList.count false ≥ (listed.setIfInBounds i true).toList.count false + 1 := by
      obtain ⟨h1, -⟩ := ready_iff.1 hi
      have hl : i < listed.size := by
        by_cases h : i < listed.size
        · exact h
        · simp [Array.getD, h] at h1
      have h2 : listed.toList[i]'(by simpa using hl) = false := by simpa [Array.getD, hl] using h1
      have hp : 0 < listed.toList.count false := List.count_pos_iff.2 (by rw [← h2]; exact List.getElem_mem _)
      have hc2 := List.count_set (a := true) (b := false) (l := listed.toList) (i := i) (by simpa using hl)
      rw [Array.toList_setIfInBounds, hc2, h2]
      simp only [beq_self_eq_true, if_true, show (true == false) = false from rfl, Bool.false_eq_true, if_false]
      omega
    exact wpOp_mono (fun a' w' h' => wpAny_inv hstep hdone fuel _ a' w' (by simpa using hz) (by omega) h') (hstep listed a w i hz hI hi)

/-- A predicate of each of a row, with its place. -/
def AllO (f : Nat → Oper → Prop) : Nat → List Oper → Prop
  | _, [] => True
  | k, o :: l => f k o ∧ AllO f (k + 1) l

theorem AllO.at {f : Nat → Oper → Prop} : ∀ {l : List Oper} {k i : Nat} {o : Oper}, AllO f k l → l[i]? = some o → f (k + i) o
  | o' :: l, k, 0, o, h, e => by simp at e; subst e; exact h.1
  | o' :: l, k, i + 1, o, h, e => by
    have := AllO.at h.2 (i := i) (by simpa using e)
    rwa [show k + 1 + i = k + (i + 1) by omega] at this
  | [], k, i, o, h, e => by simp at e

/-- No guards, and whoever waits waits for those ahead of it. -/
def calmB (md : Region.Mode) : Nat → List Oper → Bool
  | _, [] => true
  | k, o :: l => o.guard.isNone && (depsOf md o).all (fun j => decide (j < k)) && calmB md (k + 1) l

theorem calmB_at : ∀ {l : List Oper} {k i : Nat} {o : Oper}, calmB md k l = true → l[i]? = some o → o.guard = none ∧ ∀ j ∈ depsOf md o, j < k + i
  | o' :: l, k, 0, o, h, e => by
    simp at e; subst e
    simp only [calmB, Bool.and_eq_true, List.all_eq_true, decide_eq_true_eq, Option.isNone_iff_eq_none] at h
    exact ⟨h.1.1, h.1.2⟩
  | o' :: l, k, i + 1, o, h, e => by
    simp only [calmB, Bool.and_eq_true] at h
    have := calmB_at (i := i) h.2 (by simpa using e)
    rwa [show k + 1 + i = k + (i + 1) by omega] at this
  | [], k, i, o, h, e => by simp at e

theorem wp_region_calm {id : Nat} {a : Act} {w : World} (S : World → Prop) (pj : Nat → Value → World → Prop) (actOf : (Nat → Value) → Act) (V0 : Nat → Value)
    (hm : P.follows .mixedOrders = true) (hc : calmB .any 0 ops.toList = true)
    (hS : ∀ x y, S x → Below x.heap.size x y → S y) (hP : ∀ j v x y, pj j v x → Below x.heap.size x y → pj j v y)
    (h0 : a = actOf V0) (hS0 : S w.drew)
    (hput : AllO (fun i o => ∀ V v, (actOf V).put o.dst v = actOf (upd V i v)) 0 ops.toList)
    (hstep : AllO (fun i o => ∀ V x, S x → (∀ k ∈ depsOf .any o, pj k (V k) x) → o.wp P (actOf V) x (fun a' y => ∃ v, a' = (actOf V).put o.dst v ∧ Below x.heap.size x y ∧ pj i v y) Q) 0 ops.toList)
    (hend : ∀ V x, S x → (∀ j, j < ops.size → pj j (V j) x) → Q .normal (actOf V) x) : (Code.region id ops true).wp P Q a w := by
  refine wp_region_any hm (wpAny_inv (Inv := fun listed a x => ∃ V, a = actOf V ∧ S x ∧ ∀ j, listed.getD j false = true → pj j (V j) x) ?_ ?_ ops.size _ a w.drew (by simp) (by simp) ⟨V0, h0, hS0, fun j hj => ?_⟩)
  · rintro listed a x i hz ⟨V, rfl, hSx, hV⟩ hi
    obtain ⟨h1, o, ho, hd⟩ := ready_iff.1 hi
    have hl : ops.toList[i]? = some o := by rw [Array.getElem?_toList]; exact ho
    obtain ⟨hg, -⟩ := calmB_at hc hl
    have hw : Region.wanted o (yielded ops (actOf V).tmps) = true := by simp [Region.wanted, hg]
    unfold wpOp
    rw [ho]
    simp only [hw, if_true]
    have hst := AllO.at hstep hl
    rw [Nat.zero_add] at hst
    refine .inl (Oper.wp_mono ?_ (hst V x hSx (fun k hk => hV k (hd k hk))))
    rintro a' y ⟨v, ha, hb, hp⟩
    have hpi := AllO.at hput hl
    rw [Nat.zero_add] at hpi
    refine ⟨upd V i v, ha.trans (hpi V v), hS _ _ hSx hb, fun j hj => ?_⟩
    unfold upd
    by_cases e : j = i
    · rw [if_pos e, e]; exact hp
    · rw [if_neg e]
      refine hP _ _ _ _ (hV j ?_) hb
      rw [Array.getD_eq_getD_getElem?, Array.getElem?_setIfInBounds_ne (Ne.symm e), ← Array.getD_eq_getD_getElem?] at hj
      exact hj
  · rintro listed a x hz ⟨V, rfl, hSx, hV⟩ hr
    refine hend V x hSx fun j hj => hV j ?_
    have all : ∀ n j, j < n → j < ops.size → listed.getD j false = true := by
      intro n
      induction n with
      | zero => intro j h; omega
      | succ n ih =>
        intro j hjn hjs
        by_cases hx : listed.getD j false = true
        · exact hx
        · exfalso
          have ho : ops[j]? = some ops[j] := Array.getElem?_eq_getElem hjs
          obtain ⟨-, hd⟩ := calmB_at hc (i := j) (by rw [Array.getElem?_toList]; exact ho)
          have : j ∈ Region.ready .any ops listed := ready_iff.2 ⟨by
            have hjl : j < listed.size := by omega
            simp [Array.getD, hjl] at hx ⊢
            exact hx, ops[j], ho, fun k hk => by
            have hkj := hd k hk
            exact ih k (by omega) (by omega)⟩
          rw [hr] at this
          cases this
    exact all (j + 1) j (by omega) hj
  · exfalso
    simp [Array.getD] at hj

/-- The row of values that operations have told, put into an activation. -/
def actV (a : Act) (V : Nat → Value) : Nat → List Oper → Act
  | _, [] => a
  | k, o :: l => actV (a.put o.dst (V k)) V (k + 1) l

theorem put_twice (a : Act) (d : Option Tmp) (u v : Value) : (a.put d u).put d v = a.put d v := by
  cases d with
  | none => rfl
  | some d =>
    simp only [Act.put]
    congr 1
    exact Array.setIfInBounds_setIfInBounds _

theorem put_swap (a : Act) (d e : Option Tmp) (u v : Value) (h : d = none ∨ d ≠ e) : (a.put d u).put e v = (a.put e v).put d u := by
  cases d with
  | none => rfl
  | some d =>
    cases e with
    | none => rfl
    | some e =>
      have hne : d ≠ e := fun x => by rcases h with h | h; cases h; exact h (by rw [x])
      simp only [Act.put]
      congr 1
      exact Array.setIfInBounds_comm _ _ hne

/-- No two operations tell one place. -/
def partB : List Oper → Bool
  | [] => true
  | o :: l => (o.dst.isNone || l.all fun p => p.dst != o.dst) && partB l

theorem actV_pull : ∀ (l : List Oper) (a : Act) (V : Nat → Value) (k : Nat) (d : Option Tmp) (v : Value), (d = none ∨ ∀ p ∈ l, p.dst ≠ d) → (actV a V k l).put d v = actV (a.put d v) V k l
  | [], a, V, k, d, v, _ => rfl
  | o :: l, a, V, k, d, v, h => by
    have ih := actV_pull l (a.put o.dst (V k)) V (k + 1) d v (h.imp id fun h p hp => h p (by simp [hp]))
    show (actV (a.put o.dst (V k)) V (k + 1) l).put d v = actV ((a.put d v).put o.dst (V k)) V (k + 1) l
    rw [ih]
    congr 1
    rcases h with rfl | h
    · rfl
    · exact put_swap _ _ _ _ _ (.inr (h o (by simp)))

theorem actV_far : ∀ (l : List Oper) (a : Act) (V : Nat → Value) (k j : Nat) (v : Value), j < k → actV a (upd V j v) k l = actV a V k l
  | [], a, V, k, j, v, _ => rfl
  | o :: l, a, V, k, j, v, h => by
    show actV (a.put o.dst (upd V j v k)) (upd V j v) (k + 1) l = _
    rw [show upd V j v k = V k from if_neg (by omega), actV_far l _ V (k + 1) j v (by omega)]
    rfl

theorem actV_put : ∀ (l : List Oper) (a : Act) (V : Nat → Value) (k i : Nat) (o : Oper) (v : Value), partB l = true → l[i]? = some o → (actV a V k l).put o.dst v = actV a (upd V (k + i) v) k l
  | o' :: l, a, V, k, 0, o, v, hp, e => by
    simp at e; subst e
    simp only [partB, Bool.and_eq_true, Bool.or_eq_true, Option.isNone_iff_eq_none, List.all_eq_true, bne_iff_ne] at hp
    show (actV (a.put o'.dst (V k)) V (k + 1) l).put o'.dst v = actV (a.put o'.dst (upd V k v k)) (upd V k v) (k + 1) l
    rw [actV_pull l _ V (k + 1) _ v (hp.1.imp id fun h p hq => h p hq), put_twice, show upd V k v k = v from if_pos rfl, actV_far l _ V (k + 1) k v (by omega)]
  | o' :: l, a, V, k, i + 1, o, v, hp, e => by
    simp only [partB, Bool.and_eq_true] at hp
    have ih := actV_put l (a.put o'.dst (V k)) V (k + 1) i o v hp.2 (by simpa using e)
    show (actV (a.put o'.dst (V k)) V (k + 1) l).put o.dst v = actV (a.put o'.dst (upd V (k + (i + 1)) v k)) (upd V (k + (i + 1)) v) (k + 1) l
    rw [ih, show upd V (k + (i + 1)) v k = V k from if_neg (by omega), show k + 1 + i = k + (i + 1) by omega]
  | [], a, V, k, i, o, v, hp, e => by simp at e

theorem put_same (a : Act) (d : Option Tmp) : a.put d ((d.map fun d => a.tmps.getD d undef).getD undef) = a := by
  cases d with
  | none => rfl
  | some d =>
    simp only [Act.put, Option.map_some, Option.getD_some]
    cases a with
    | mk tmps defers =>
      congr 1
      apply Array.ext (by simp)
      intro j h1 h2
      rw [Array.getElem_setIfInBounds]
      split
      · next e => subst e; simp [Array.getD, h2]
      · rfl

/-- What is there ahead of all operations. -/
def val0 (a : Act) (ops : Array Oper) (j : Nat) : Value := (((ops[j]?).bind (·.dst)).map fun d => a.tmps.getD d undef).getD undef

theorem actV_same (a : Act) (ops : Array Oper) : ∀ (l : List Oper) (k : Nat), (∀ (i : Nat) o, l[i]? = some o → ops[k + i]? = some o) → actV a (val0 a ops) k l = a
  | [], k, _ => rfl
  | o :: l, k, h => by
    have e : a.put o.dst (val0 a ops k) = a := by
      have := h 0 o rfl
      rw [Nat.add_zero] at this
      unfold val0
      rw [this]
      exact put_same a o.dst
    show actV (a.put o.dst (val0 a ops k)) (val0 a ops) (k + 1) l = a
    rw [e]
    exact actV_same a ops l (k + 1) (fun i o' ho => by have := h (i + 1) o' (by simpa using ho); rwa [show k + 1 + i = k + (i + 1) by omega])

/-- What an operation tells: a value; a slice of all cells of a new block; a pointer to one; nothing. -/
inductive Tell
  | is (u : Value)
  | row (n : Nat) (c : Array Value)
  | box (c : Array Value)
  | free
def Tell.holds (v : Value) (x : World) : Tell → Prop
  | .is u => v = u
  | .row n c => ∃ B, v = .slice (some ⟨B, 0, none⟩) n n ∧ Box x B c
  | .box c => ∃ B, v = .pointer (some ⟨B, 0, none⟩) ∧ Box x B c
  | .free => True

theorem Tell.on {v : Value} {x y : World} (hb : Below x.heap.size x y) : ∀ {t : Tell}, t.holds v x → t.holds v y
  | .is u, h => h
  | .row n c, ⟨B, h, hB⟩ => ⟨B, h, hB.on hb⟩
  | .box c, ⟨B, h, hB⟩ => ⟨B, h, hB.on hb⟩
  | .free, _ => trivial

theorem Tell.row_is {v : Value} {x : World} {t : Tell} {n : Nat} {c : Array Value} (h : t.holds v x) (e : t = .row n c) : ∃ B, v = .slice (some ⟨B, 0, none⟩) n n ∧ Box x B c := by subst e; exact h
theorem Tell.box_is {v : Value} {x : World} {t : Tell} {c : Array Value} (h : t.holds v x) (e : t = .box c) : ∃ B, v = .pointer (some ⟨B, 0, none⟩) ∧ Box x B c := by subst e; exact h

/-- A drawn region that changes nothing that was there: told operation by operation. -/
theorem zcalm {id : Nat} {a : Act} {w : World} {f : (Nat → Value) → Act} (hf : ∀ V, actV a V 0 ops.toList = f V) (S : World → Prop) (T : List Tell) (hm : P.follows .mixedOrders = true) (hc : (calmB .any 0 ops.toList && partB ops.toList) = true)
    (hS : ∀ x y, S x → Below x.heap.size x y → S y) (hS0 : S w.drew)
    (hstep : AllO (fun i o => ∀ V x, S x → (∀ k ∈ depsOf .any o, (T.getD k .free).holds (V k) x) → o.wp P (f V) x (fun a' y => ∃ v, a' = (f V).put o.dst v ∧ Below x.heap.size x y ∧ (T.getD i .free).holds v y) Q) 0 ops.toList)
    (hend : ∀ V x, S x → (∀ j, j < ops.size → (T.getD j .free).holds (V j) x) → Q .normal (f V) x) : (Code.region id ops true).wp P Q a w := by
  rw [Bool.and_eq_true] at hc
  have hfe : f = fun V => actV a V 0 ops.toList := funext fun V => (hf V).symm
  subst hfe
  refine wp_region_calm S (fun j v x => (T.getD j .free).holds v x) (fun V => actV a V 0 ops.toList) (val0 a ops) hm hc.1 hS (fun j v x y h hb => Tell.on hb h) (actV_same a ops _ 0 (fun i o h => by rw [Nat.zero_add, ← Array.getElem?_toList]; exact h)).symm hS0 ?_ hstep hend
  have all : ∀ (l : List Oper) (k : Nat), (∀ (i : Nat) o, l[i]? = some o → ops.toList[k + i]? = some o) → AllO (fun i o => ∀ V v, (actV a V 0 ops.toList).put o.dst v = actV a (upd V i v) 0 ops.toList) k l := by
    intro l
    induction l with
    | nil => intro k _; trivial
    | cons o l ih =>
      intro k h
      refine ⟨fun V v => ?_, ih (k + 1) fun i o' ho => by have := h (i + 1) o' (by simpa using ho); rwa [show k + 1 + i = k + (i + 1) by omega]⟩
      have := actV_put ops.toList a V 0 k o v hc.2 (by have := h 0 o rfl; rwa [Nat.add_zero] at this)
      rwa [Nat.zero_add] at this
  exact all _ 0 (fun i o h => by rwa [Nat.zero_add])

end

end Go.Proofs.Ytgffhnggocbjhaa
