/- What the program's Encode answers. -/
import Derived.Test.YtahbbhgoacbejaaGreatDoorDecWalks4
namespace Go.Proofs.YtahbbhgoacbejaaGreatDoor
open Go.RowKit
set_option linter.unusedVariables false

/-- Are two instructions the same? -/
def same6 (o s t d a i o' s' t' d' a' i' : Int) : Bool := o == o' && (s == s' && (t == t' && (d == d' && (a == a' && i == i'))))

theorem same6_iff {o s t d a i o' s' t' d' a' i' : Int} : same6 o s t d a i o' s' t' d' a' i' = true ↔ o = o' ∧ s = s' ∧ t = t' ∧ d = d' ∧ a = a' ∧ i = i' := by
  simp [same6]

theorem eq24 (o s t d a i o' s' t' d' a' i' : Int) (w : World) : (Op.equalIn 10000 23 (.agg #[.int .i64 o, .int .i64 s, .int .i64 t, .int .i64 d, .int .i64 a, .int .i64 i]) (.agg #[.int .i64 o', .int .i64 s', .int .i64 t', .int .i64 d', .int .i64 a', .int .i64 i'])).run Tryz.prog w = .ok (same6 o s t d a i o' s' t' d' a' i') w := by
  have hu : Tryz.prog.underlying 23 = some (.struct (Tryz.prog.fieldsOf 23)) := by kernel_rfl
  have hp : Tryz.prog.stoodInHeld 23 = false := by kernel_rfl
  rw [run_equalIn_agg w 9999 23 _ _ hu hp]
  simp [go_sem, same6]
  repeat' split
  all_goals simp_all

theorem eql24 (o s t d a i o' s' t' d' a' i' : Int) (w : World) : (binOp .eql 23 (.agg #[.int .i64 o, .int .i64 s, .int .i64 t, .int .i64 d, .int .i64 a, .int .i64 i]) (.agg #[.int .i64 o', .int .i64 s', .int .i64 t', .int .i64 d', .int .i64 a', .int .i64 i'])).run Tryz.prog w = .ok (.bool (same6 o s t d a i o' s' t' d' a' i')) w := by
  rw [run_eql_struct, eq24]; rfl

theorem neq24 (o s t d a i o' s' t' d' a' i' : Int) (w : World) : (binOp .neq 23 (.agg #[.int .i64 o, .int .i64 s, .int .i64 t, .int .i64 d, .int .i64 a, .int .i64 i]) (.agg #[.int .i64 o', .int .i64 s', .int .i64 t', .int .i64 d', .int .i64 a', .int .i64 i'])).run Tryz.prog w = .ok (.bool (!same6 o s t d a i o' s' t' d' a' i')) w := by
  rw [run_neq_struct, eq24]; rfl

theorem encode_raw_no {op s t d a i : Int} {nm : ByteArray} {j n : Int} 
    (hrow : ∀ w, Tabs w → Calls Tryz.prog 22 #[.int .i64 op] w fun e w' => e = .returned (.agg #[.string nm, .int .i64 0, .int .u32 j, .int .u32 n]) ∧ Below w.heap.size w w')
    (w : World) (tb : Tabs w) :
    Calls Tryz.prog 14 #[.agg #[.int .i64 op, .int .i64 s, .int .i64 t, .int .i64 d, .int .i64 a, .int .i64 i]] w fun e w' => e = .returned (.tuple #[.int .u32 0, .int .i64 40]) ∧ Below w.heap.size w w' := by
  have hform := row_form
  go_enter Tryz.func14, Tryz.ntmps14
  go_wp2_with fail
  have b0 := grow w (.cells #[.int .i64 op, .int .i64 s, .int .i64 t, .int .i64 d, .int .i64 a, .int .i64 i] 23)
  refine (hrow _ (tb.on b0)).mono ?_
  rintro e w1 ⟨rfl, h1⟩
  have b1 := onto b0 h1
  clear b0 h1 hrow tb
  go_wp2
  go_ret2
  exact ⟨rfl, b1⟩

set_option maxHeartbeats 2000000 in
theorem encode_raw {op s t d a i f L s' t' d' a' i' : Int} {nm : ByteArray} {j n : Int} {b : Bool} (hq : same6 op s' t' d' a' i' op s t d a i = b) (hf : (f == 0) = false)
    (hrow : ∀ w, Tabs w → Calls Tryz.prog 22 #[.int .i64 op] w fun e w' => e = .returned (.agg #[.string nm, .int .i64 f, .int .u32 j, .int .u32 n]) ∧ Below w.heap.size w w')
    (hlaid : ∀ w, Tabs w → Calls Tryz.prog 23 #[.agg #[.int .i64 op, .int .i64 s, .int .i64 t, .int .i64 d, .int .i64 a, .int .i64 i]] w fun e w' => e = .returned (.int .u32 L) ∧ Below w.heap.size w w')
    (hdrawn : ∀ w, Tabs w → Calls Tryz.prog 24 #[.int .i64 op, .int .u32 L] w fun e w' => e = .returned (.agg #[.int .i64 op, .int .i64 s', .int .i64 t', .int .i64 d', .int .i64 a', .int .i64 i']) ∧ Below w.heap.size w w')
    (w : World) (tb : Tabs w) :
    Calls Tryz.prog 14 #[.agg #[.int .i64 op, .int .i64 s, .int .i64 t, .int .i64 d, .int .i64 a, .int .i64 i]] w fun e w' =>
      e = .returned (if b then .tuple #[.int .u32 L, .int .i64 0] else .tuple #[.int .u32 0, .int .i64 40]) ∧ Below w.heap.size w w' := by
  have hform := row_form
  go_enter Tryz.func14, Tryz.ntmps14
  go_wp2_with fail
  have b0 := grow w (.cells #[.int .i64 op, .int .i64 s, .int .i64 t, .int .i64 d, .int .i64 a, .int .i64 i] 23)
  have i0 := cell6 w 23 (.int .i64 op) (.int .i64 s) (.int .i64 t) (.int .i64 d) (.int .i64 a) (.int .i64 i)
  refine (hrow _ (tb.on b0)).mono ?_
  rintro e w1 ⟨rfl, h1⟩
  have i1 := i0.on h1
  have b1 := onto b0 h1
  have t1 := (tb.on b0).on h1
  clear i0 b0 h1 hrow tb
  have p := id i1
  obtain ⟨p0, p1, p2, p3, p4, p5⟩ := p
  go_wp2_with fail
  refine (hlaid _ t1).mono ?_
  rintro e w2 ⟨rfl, h2⟩
  have i2 := i1.on h2
  have b2 := onto b1 h2
  have t2 := t1.on h2
  clear i1 b1 h2 t1 p0 p1 p2 p3 p4 p5 hlaid
  clear w1
  obtain ⟨p0, p1, p2, p3, p4, p5⟩ := i2
  have z := cell_in p0
  have hne := fun w => neq24 op s' t' d' a' i' op s t d a i w
  rw [hq] at hne
  go_wp2_with fail
  go_region_held3 (fun x => (∀ b o, b < w2.heap.size → x.cell? ⟨b, o, none⟩ = w2.cell? ⟨b, o, none⟩) ∧ Below w2.heap.size w2 x)
    (first | exact since_refl w2 | assumption)
    (first | (go_at_call 24; refine (hdrawn _ (t2.on (And.right (by assumption)))).mono ?_; rintro e w' ⟨rfl, hn⟩; have hT := since_on (by assumption) hn; clear hn))
  have b3 := onto b2 hT.2
  clear b2 hne hq
  cases b
  · go_wp2
    go_ret2
    exact ⟨rfl, b3⟩
  · go_wp2
    go_ret2
    exact ⟨rfl, b3⟩

/-- May an instruction be? Its fields are those that are drawn of the word that they are laid to. -/
def Good (op : Nat) (s t d a i : Int) : Prop :=
  ((Dec.ds op (Dec.laid op s t d a i) : Nat) : Int) = s ∧ ((Dec.dt op (Dec.laid op s t d a i) : Nat) : Int) = t ∧ ((Dec.dd op (Dec.laid op s t d a i) : Nat) : Int) = d ∧
    ((Dec.da op (Dec.laid op s t d a i) : Nat) : Int) = a ∧ Dec.di op (Dec.laid op s t d a i) = i

/-- An instruction's word and 0; or 0 and 40, where it may not be. -/
def Word (o s t d a i v e : Int) : Prop :=
  (∃ op, op < 69 ∧ o = ((op : Nat) : Int) ∧ Good op s t d a i ∧ v = (Dec.laid op s t d a i : Nat) ∧ e = 0) ∨
    ((∀ op, op < 69 → o = ((op : Nat) : Int) → ¬ Good op s t d a i) ∧ v = 0 ∧ e = 40)

theorem encode_any (o s t d a i : Int) : ∃ v e : Int, Word o s t d a i v e ∧ ∀ w, Tabs w →
    Calls Tryz.prog 14 #[.agg #[.int .i64 o, .int .i64 s, .int .i64 t, .int .i64 d, .int .i64 a, .int .i64 i]] w fun e' w' => e' = .returned (.tuple #[.int .u32 v, .int .i64 e]) ∧ Below w.heap.size w w' := by
  by_cases h : 0 ≤ o ∧ o < 69
  · obtain ⟨op, ho, rfl⟩ : ∃ op : Nat, op < 69 ∧ o = (op : Int) := ⟨o.toNat, by omega, by omega⟩
    have hf : (((Dec.fm op : Nat) : Int) == 0) = false := by
      have := (Dec.fm_lt op ho).1
      simp; omega
    have hc : ∀ b, same6 op (Dec.ds op (Dec.laid op s t d a i) : Nat) (Dec.dt op (Dec.laid op s t d a i) : Nat) (Dec.dd op (Dec.laid op s t d a i) : Nat) (Dec.da op (Dec.laid op s t d a i) : Nat) (Dec.di op (Dec.laid op s t d a i)) op s t d a i = b → _ :=
      fun b hb w tb => encode_raw (b := b) hb hf (fun w tb => rowOf_at op ho w tb) (fun w tb => laid_any op ho s t d a i w tb) (fun w tb => drawn_any op ho _ (Dec.laid_lt op ho s t d a i) w tb) w tb
    cases hb : same6 op (Dec.ds op (Dec.laid op s t d a i) : Nat) (Dec.dt op (Dec.laid op s t d a i) : Nat) (Dec.dd op (Dec.laid op s t d a i) : Nat) (Dec.da op (Dec.laid op s t d a i) : Nat) (Dec.di op (Dec.laid op s t d a i)) op s t d a i with
    | true => exact ⟨_, _, Or.inl ⟨op, ho, rfl, (same6_iff.mp hb).2, rfl, rfl⟩, hc true hb⟩
    | false =>
      refine ⟨_, _, Or.inr ⟨fun o2 h2 e2 hg => ?_, rfl, rfl⟩, hc false hb⟩
      obtain rfl : op = o2 := by omega
      rw [same6_iff.mpr ⟨rfl, hg⟩] at hb
      cases hb
  · refine ⟨_, _, Or.inr ⟨fun op ho e => absurd e (by omega), rfl, rfl⟩, fun w tb => encode_raw_no (fun w tb => rowOf_none o (by omega) w) w tb⟩

end Go.Proofs.YtahbbhgoacbejaaGreatDoor
