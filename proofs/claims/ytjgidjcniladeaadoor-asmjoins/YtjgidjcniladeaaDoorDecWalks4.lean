/- What the program's Decode and Encode answer. -/
import Derived.Test.YtjgidjcniladeaaDoorDecWalks3
namespace Go.Proofs.YtjgidjcniladeaaDoor
open Go.RowKit
set_option linter.unusedVariables false

/-- The instruction whose word a word is, field by field, and 0; or all 0 and 40, where there is none. -/
def Told (w : Nat) (o s t d a i e : Int) : Prop :=
  (∃ op, op < 69 ∧ Dec.is w op = true ∧ o = (op : Int) ∧ s = (Dec.ds op w : Nat) ∧ t = (Dec.dt op w : Nat) ∧ d = (Dec.dd op w : Nat) ∧ a = (Dec.da op w : Nat) ∧ i = Dec.di op w ∧ e = 0) ∨
    ((∀ op < 69, Dec.is w op = false) ∧ o = 0 ∧ s = 0 ∧ t = 0 ∧ d = 0 ∧ a = 0 ∧ i = 0 ∧ e = 40)

theorem sought_yes (wd op : Nat) (hw : wd < 4294967296) (ho : op < 69) (he : wd &&& Dec.shut (Dec.fm op) = Dec.fixed op) (w : World) (tb : Tabs w) :
    Calls Tryd.prog 15 #[.int .u32 (wd : Int)] w fun e w' => e = .returned (.tuple #[.int .i64 (op : Int), .bool true]) ∧ Below w.heap.size w w' := by
  refine (sought_any wd hw w tb).mono ?_
  rintro e w1 ⟨⟨o2, h2, e2, rfl⟩ | ⟨hno, rfl⟩, hb⟩
  · rw [Dec.one h2 ho e2 he]; exact ⟨rfl, hb⟩
  · exact absurd he (hno op ho)

theorem sought_no (wd : Nat) (hw : wd < 4294967296) (hn : ∀ op < 69, wd &&& Dec.shut (Dec.fm op) ≠ Dec.fixed op) (w : World) (tb : Tabs w) :
    Calls Tryd.prog 15 #[.int .u32 (wd : Int)] w fun e w' => e = .returned (.tuple #[.int .i64 0, .bool false]) ∧ Below w.heap.size w w' := by
  refine (sought_any wd hw w tb).mono ?_
  rintro e w1 ⟨⟨o2, h2, e2, rfl⟩ | ⟨hno, rfl⟩, hb⟩
  · exact absurd e2 (hn o2 h2)
  · exact ⟨rfl, hb⟩

theorem decode_raw_no {wd : Int} (hsought : ∀ w, Tabs w → Calls Tryd.prog 15 #[.int .u32 wd] w fun e w' => e = .returned (.tuple #[.int .i64 0, .bool false]) ∧ Below w.heap.size w w') (w : World) (tb : Tabs w) :
    Calls Tryd.prog 8 #[.int .u32 wd] w fun e w' => e = .returned (.tuple #[.agg #[.int .i64 0, .int .i64 0, .int .i64 0, .int .i64 0, .int .i64 0, .int .i64 0], .int .i64 40]) ∧ Below w.heap.size w w' := by
  go_enter Tryd.func8, Tryd.ntmps8
  go_wp2_with fail
  have b0 := grow w (.cells #[.int .i64 0, .int .i64 0, .int .i64 0, .int .i64 0, .int .i64 0, .int .i64 0] 23)
  have i0 := cell6 w 23 (.int .i64 0) (.int .i64 0) (.int .i64 0) (.int .i64 0) (.int .i64 0) (.int .i64 0)
  have f0 : ∀ o, (w.alloc (.cells #[.int .i64 0, .int .i64 0, .int .i64 0, .int .i64 0, .int .i64 0, .int .i64 0] 23)).frozen? ⟨w.heap.size, o, none⟩ = false := by intro o; simp [go_sem]
  refine (hsought _ (tb.on b0)).mono ?_
  rintro e w1 ⟨rfl, h1⟩
  have f1 : ∀ o, w1.frozen? ⟨w.heap.size, o, none⟩ = false := fun o => by rw [(bcell h1).2 _ _ (by simp), f0]
  obtain ⟨p0, p1, p2, p3, p4, p5⟩ := i0.on h1
  have b1 := onto b0 h1
  clear i0 b0 h1 f0 tb hsought
  go_wp2
  refine bodyPost_ret (v := .tuple #[.agg #[.int .i64 0, .int .i64 0, .int .i64 0, .int .i64 0, .int .i64 0, .int .i64 0], .int .i64 40]) (by simp [results, Tryd.results8, go_sem, p0, p1, p2, p3, p4, p5]) rfl ⟨rfl, set6 b1 (Nat.le_refl _)⟩

set_option maxHeartbeats 2000000 in
theorem decode_raw {wd op s t d a i L : Int} {b : Bool} (hq : (L != wd) = b)
    (hsought : ∀ w, Tabs w → Calls Tryd.prog 15 #[.int .u32 wd] w fun e w' => e = .returned (.tuple #[.int .i64 op, .bool true]) ∧ Below w.heap.size w w')
    (hdrawn : ∀ w, Tabs w → Calls Tryd.prog 16 #[.int .i64 op, .int .u32 wd] w fun e w' => e = .returned (.agg #[.int .i64 op, .int .i64 s, .int .i64 t, .int .i64 d, .int .i64 a, .int .i64 i]) ∧ Below w.heap.size w w')
    (hlaid : ∀ w, Tabs w → Calls Tryd.prog 17 #[.agg #[.int .i64 op, .int .i64 s, .int .i64 t, .int .i64 d, .int .i64 a, .int .i64 i]] w fun e w' => e = .returned (.int .u32 L) ∧ Below w.heap.size w w')
    (w : World) (tb : Tabs w) :
    Calls Tryd.prog 8 #[.int .u32 wd] w fun e w' => e = .returned (if b then .tuple #[.agg #[.int .i64 0, .int .i64 0, .int .i64 0, .int .i64 0, .int .i64 0, .int .i64 0], .int .i64 40] else .tuple #[.agg #[.int .i64 op, .int .i64 s, .int .i64 t, .int .i64 d, .int .i64 a, .int .i64 i], .int .i64 0]) ∧ Below w.heap.size w w' := by
  go_enter Tryd.func8, Tryd.ntmps8
  go_wp2_with fail
  have b0 := grow w (.cells #[.int .i64 0, .int .i64 0, .int .i64 0, .int .i64 0, .int .i64 0, .int .i64 0] 23)
  have i0 := cell6 w 23 (.int .i64 0) (.int .i64 0) (.int .i64 0) (.int .i64 0) (.int .i64 0) (.int .i64 0)
  have f0 : ∀ o, (w.alloc (.cells #[.int .i64 0, .int .i64 0, .int .i64 0, .int .i64 0, .int .i64 0, .int .i64 0] 23)).frozen? ⟨w.heap.size, o, none⟩ = false := by intro o; simp [go_sem]
  refine (hsought _ (tb.on b0)).mono ?_
  rintro e w1 ⟨rfl, h1⟩
  have f1 : ∀ o, w1.frozen? ⟨w.heap.size, o, none⟩ = false := fun o => by rw [(bcell h1).2 _ _ (by simp), f0]
  have i1 := i0.on h1
  have b1 := onto b0 h1
  have t1 := (tb.on b0).on h1
  clear i0 b0 h1 f0 tb hsought
  go_wp2_with fail
  refine (hdrawn _ t1).mono ?_
  rintro e w2 ⟨rfl, h2⟩
  have f2 : ∀ o, w2.frozen? ⟨w.heap.size, o, none⟩ = false := fun o => by rw [(bcell h2).2 _ _ (cell_in i1.c0), f1]
  have i2 := i1.on h2
  have b2 := onto b1 h2
  have t2 := t1.on h2
  clear i1 b1 h2 f1 t1 hdrawn
  clear w1
  have z2 := cell_in i2.c0
  go_wp2_with fail
  have g3 := grow w2 (.cells #[.int .i64 op, .int .i64 s, .int .i64 t, .int .i64 d, .int .i64 a, .int .i64 i] 23)
  have k3 := cell6 w2 23 (.int .i64 op) (.int .i64 s) (.int .i64 t) (.int .i64 d) (.int .i64 a) (.int .i64 i)
  refine (hlaid _ (t2.on g3)).mono ?_
  rintro e w3 ⟨rfl, h3⟩
  have i3 := (i2.on g3).on h3
  have k4 := k3.on h3
  have b3 := onto (onto b2 g3) h3
  have f3 : ∀ o, w3.frozen? ⟨w.heap.size, o, none⟩ = false := fun o => by rw [(bcell h3).2 _ _ (by simp; omega), (bcell g3).2 _ _ z2, f2]
  clear k3 g3 i2 b2 f2 h3 t2 hlaid
  have ne : w.heap.size ≠ w2.heap.size := by omega
  generalize w2.heap.size = K at *
  clear w2
  clear z2
  obtain ⟨p0, p1, p2, p3, p4, p5⟩ := i3
  obtain ⟨q0, q1, q2, q3, q4, q5⟩ := k4
  cases b
  · go_wp2
    refine bodyPost_ret (v := .tuple #[.agg #[.int .i64 op, .int .i64 s, .int .i64 t, .int .i64 d, .int .i64 a, .int .i64 i], .int .i64 0]) (by simp [results, Tryd.results8, go_sem, p0, p1, p2, p3, p4, p5]) rfl ⟨rfl, set6 b3 (Nat.le_refl _)⟩
  · go_wp2
    refine bodyPost_ret (v := .tuple #[.agg #[.int .i64 0, .int .i64 0, .int .i64 0, .int .i64 0, .int .i64 0, .int .i64 0], .int .i64 40]) (by simp [results, Tryd.results8, go_sem, p0, p1, p2, p3, p4, p5]) rfl ⟨rfl, set6 b3 (Nat.le_refl _)⟩

theorem decode_any (wd : Nat) (hw : wd < 4294967296) : ∃ o s t d a i e : Int, Told wd o s t d a i e ∧ ∀ w, Tabs w →
    Calls Tryd.prog 8 #[.int .u32 (wd : Int)] w fun e' w' => e' = .returned (.tuple #[.agg #[.int .i64 o, .int .i64 s, .int .i64 t, .int .i64 d, .int .i64 a, .int .i64 i], .int .i64 e]) ∧ Below w.heap.size w w' := by
  by_cases hx : ∃ op, op < 69 ∧ wd &&& Dec.shut (Dec.fm op) = Dec.fixed op
  · obtain ⟨op, ho, he⟩ := hx
    cases hi : Dec.is wd op with
    | true =>
      have hl := eq_of_beq hi
      exact ⟨_, _, _, _, _, _, _, Or.inl ⟨op, ho, hi, rfl, rfl, rfl, rfl, rfl, rfl, rfl⟩, fun w tb => decode_raw (b := false) (L := (Dec.laid op (Dec.ds op wd) (Dec.dt op wd) (Dec.dd op wd) (Dec.da op wd) (Dec.di op wd) : Nat)) (by rw [hl]; simp)
        (fun w tb => sought_yes wd op hw ho he w tb) (fun w tb => drawn_any op ho wd hw w tb) (fun w tb => laid_any op ho _ _ _ _ _ w tb) w tb⟩
    | false =>
      have hl : Dec.laid op (Dec.ds op wd) (Dec.dt op wd) (Dec.dd op wd) (Dec.da op wd) (Dec.di op wd) ≠ wd := ne_of_beq_false hi
      have hn : ∀ o2 < 69, Dec.is wd o2 = false := fun o2 h2 => by
        cases h3 : Dec.is wd o2 with
        | false => rfl
        | true => rw [Dec.one h2 ho (Dec.is_shut h2 h3) he] at h3; rw [h3] at hi; exact hi
      exact ⟨_, _, _, _, _, _, _, Or.inr ⟨hn, rfl, rfl, rfl, rfl, rfl, rfl, rfl⟩, fun w tb => decode_raw (b := true) (L := (Dec.laid op (Dec.ds op wd) (Dec.dt op wd) (Dec.dd op wd) (Dec.da op wd) (Dec.di op wd) : Nat)) (by simp only [bne_iff_ne, ne_eq, Int.natCast_inj]; exact hl)
        (fun w tb => sought_yes wd op hw ho he w tb) (fun w tb => drawn_any op ho wd hw w tb) (fun w tb => laid_any op ho _ _ _ _ _ w tb) w tb⟩
  · have hn : ∀ op < 69, wd &&& Dec.shut (Dec.fm op) ≠ Dec.fixed op := fun op ho he => hx ⟨op, ho, he⟩
    have hf : ∀ o2 < 69, Dec.is wd o2 = false := fun o2 h2 => by
      cases h3 : Dec.is wd o2 with
      | false => rfl
      | true => exact absurd (Dec.is_shut h2 h3) (hn o2 h2)
    exact ⟨_, _, _, _, _, _, _, Or.inr ⟨hf, rfl, rfl, rfl, rfl, rfl, rfl, rfl⟩, fun w tb => decode_raw_no (fun w tb => sought_no wd hw hn w tb) w tb⟩

end Go.Proofs.YtjgidjcniladeaaDoor
