/- The walk of the law: what is decoded has registers and numbers that may be, and no field that its form has not. -/
import Derived.Test.YtljljpgkhojokaaDoorDecNear
namespace Go.Proofs.YtljljpgkhojokaaDoor
open Go.RowKit
set_option linter.unusedVariables false

set_option maxHeartbeats 2000000 in
theorem fields_raw {n o s t d a i : Int} {F N : ByteArray} (n1 : ¬ N.toList = []) (n2 : N.toList.isEmpty = false)
    (hcls : (F.toList = [83, 72] ∧ i ≤ 65535 ∧ -32768 ≤ i) ∨
      ((a == 0) = true ∧ F.toList = [78] ∧ same6 o s t d a i o 0 0 0 0 0 = true ∧ i ≤ 65535 ∧ -32768 ≤ i) ∨
      ((a == 0) = true ∧ F.toList = [67, 79] ∧ same6 o s t d a i o 0 0 0 0 0 = true ∧ i ≤ 65535 ∧ -32768 ≤ i) ∨
      ((a == 0) = true ∧ F.toList = [74]) ∨
      ((a == 0) = true ∧ (¬ F.toList = [] ∧ F.toList.isEmpty = false ∧ ¬ F.toList = [83, 72] ∧ (F.toList == [83, 72]) = false ∧ ¬ F.toList = [78] ∧ (F.toList == [78]) = false ∧ ¬ F.toList = [67, 79] ∧ (F.toList == [67, 79]) = false ∧ ¬ F.toList = [74] ∧ (F.toList == [74]) = false) ∧ i ≤ 65535 ∧ -32768 ≤ i))
    (hD : ∀ w, Tabs w → Calls Tryd.prog 9 #[.int .u32 n] w fun r w' => r = .returned (.tuple #[.agg #[.int .i64 o, .int .i64 s, .int .i64 t, .int .i64 d, .int .i64 a, .int .i64 i], .int .i64 0]) ∧ Below w.heap.size w w')
    (hF : ∀ w, Tabs w → Calls Tryd.prog 16 #[.int .i64 o] w fun r w' => r = .returned (.string F) ∧ Below w.heap.size w w')
    (hN : ∀ w, Tabs w → Calls Tryd.prog 15 #[.int .i64 o] w fun r w' => r = .returned (.string N) ∧ Below w.heap.size w w')
    (hs0 : decide (s ≥ 0) = true) (hs1 : decide (s < 32) = true) (ht0 : decide (t ≥ 0) = true) (ht1 : decide (t < 32) = true) (hd0 : decide (d ≥ 0) = true) (hd1 : decide (d < 32) = true) (ha0 : decide (a ≥ 0) = true) (ha1 : decide (a < 32) = true)
    (w : World) (tb : Tabs w) :
    Calls Tryd.prog 8 #[.int .u32 n] w fun r w' => r = .returned (.bool true) ∧ Below w.heap.size w w' := by
  go_enter Tryd.func8, Tryd.ntmps8
  go_wp2_with fail
  refine (hD _ tb).mono ?_
  rintro r w1 ⟨rfl, h1⟩
  have g1 := grow w1 (.cells #[.int .i64 o, .int .i64 s, .int .i64 t, .int .i64 d, .int .i64 a, .int .i64 i] 24)
  have k1 := cell6 w1 24 (.int .i64 o) (.int .i64 s) (.int .i64 t) (.int .i64 d) (.int .i64 a) (.int .i64 i)
  have b1 := onto h1 g1
  have t1 := (tb.on h1).on g1
  clear g1 h1 tb hD
  go_wp2_with fail
  refine (hF _ t1).mono ?_
  rintro r w2 ⟨rfl, h2⟩
  have k2 := k1.on h2
  have b2 := onto b1 h2
  have t2 := t1.on h2
  clear h2 b1 t1 k1 hF
  generalize w1.heap.size = L at *
  clear w1
  have p2 := id k2
  obtain ⟨x0, x1, x2, x3, x4, x5⟩ := p2
  go_wp2_with fail
  refine (hN _ t2).mono ?_
  rintro r w3 ⟨rfl, h3⟩
  have k3 := k2.on h3
  have b3 := onto b2 h3
  have t3 := t2.on h3
  clear h3 b2 t2 k2 hN x0 x1 x2 x3 x4 x5
  clear w2
  obtain ⟨x0, x1, x2, x3, x4, x5⟩ := k3
  have hsame := fun w => eql24 o s t d a i o 0 0 0 0 0 w
  rcases hcls with ⟨f1, i1, i2⟩ | ⟨a1, f1, e1, i1, i2⟩ | ⟨a1, f1, e1, i1, i2⟩ | ⟨a1, f1⟩ | ⟨a1, ⟨f1, f2, f3, f4, f5, f6, f7, f8, f9, f10⟩, i1, i2⟩
  · go_wp2_with fail
    refine (facts_any _ t3).mono ?_
    rintro r w4 ⟨rfl, h4⟩
    have b4 := onto b3 h4
    clear h4 t3 b3 x0 x1 x2 x3 x4 x5
    go_wp2
    go_ret
    exact ⟨rfl, b4⟩
  · rw [e1] at hsame
    go_wp2_with fail
    refine (facts_any _ t3).mono ?_
    rintro r w4 ⟨rfl, h4⟩
    have b4 := onto b3 h4
    clear h4 t3 b3 x0 x1 x2 x3 x4 x5
    go_wp2
    go_ret
    exact ⟨rfl, b4⟩
  · rw [e1] at hsame
    go_wp2_with fail
    refine (facts_any _ t3).mono ?_
    rintro r w4 ⟨rfl, h4⟩
    have b4 := onto b3 h4
    clear h4 t3 b3 x0 x1 x2 x3 x4 x5
    go_wp2
    go_ret
    exact ⟨rfl, b4⟩
  · go_wp2_with fail
    refine (facts_any _ t3).mono ?_
    rintro r w4 ⟨rfl, h4⟩
    have b4 := onto b3 h4
    clear h4 t3 b3 x0 x1 x2 x3 x4 x5
    go_wp2
    go_ret
    exact ⟨rfl, b4⟩
  · go_wp2_with fail
    refine (facts_any _ t3).mono ?_
    rintro r w4 ⟨rfl, h4⟩
    have b4 := onto b3 h4
    clear h4 t3 b3 x0 x1 x2 x3 x4 x5
    go_wp2
    go_ret
    exact ⟨rfl, b4⟩

theorem fields_none {n : Int}
    (hD : ∀ w, Tabs w → Calls Tryd.prog 9 #[.int .u32 n] w fun r w' => r = .returned (.tuple #[.agg #[.int .i64 0, .int .i64 0, .int .i64 0, .int .i64 0, .int .i64 0, .int .i64 0], .int .i64 40]) ∧ Below w.heap.size w w') (w : World) (tb : Tabs w) :
    Calls Tryd.prog 8 #[.int .u32 n] w fun r w' => r = .returned (.bool true) ∧ Below w.heap.size w w' := by
  have hsame := fun w => eql24 0 0 0 0 0 0 0 0 0 0 0 0 w
  rw [show same6 0 0 0 0 0 0 0 0 0 0 0 0 = true by decide] at hsame
  go_enter Tryd.func8, Tryd.ntmps8
  go_wp2_with fail
  refine (hD _ tb).mono ?_
  rintro r w1 ⟨rfl, h1⟩
  have g1 := grow w1 (.cells #[.int .i64 0, .int .i64 0, .int .i64 0, .int .i64 0, .int .i64 0, .int .i64 0] 24)
  have b1 := onto h1 g1
  have t1 := (tb.on h1).on g1
  clear g1 h1 tb hD
  go_wp2_with fail
  refine (facts_any _ t1).mono ?_
  rintro r w4 ⟨rfl, h4⟩
  have b4 := onto b1 h4
  go_wp2
  go_ret
  exact ⟨rfl, b4⟩

theorem name_some : ∀ op < 69, ¬ (Dec.name op).data.toList = [] := by decide +kernel

theorem no_sa : ∀ f < 20, f ≠ 1 → Dec.lregs f / 64 % 32 = 0 := by decide +kernel

theorem imm_small : ∀ f < 20, f ≠ 12 → Dec.limm f ≤ 65535 := by decide +kernel

theorem other0 : ∀ f < 20, 1 ≤ f → (Dec.lname f).data.toList ≠ [] := by decide +kernel

theorem other1 : ∀ f < 20, f ≠ 1 → (Dec.lname f).data.toList ≠ [83, 72] := by decide +kernel

theorem other6 : ∀ f < 20, f ≠ 6 → (Dec.lname f).data.toList ≠ [78] := by decide +kernel

theorem other18 : ∀ f < 20, f ≠ 18 → (Dec.lname f).data.toList ≠ [67, 79] := by decide +kernel

theorem other12 : ∀ f < 20, f ≠ 12 → (Dec.lname f).data.toList ≠ [74] := by decide +kernel

theorem and_field (w m k : Nat) : (w &&& m) / 2 ^ k % 32 = (w / 2 ^ k % 32) &&& (m / 2 ^ k % 32) := by
  have h := Nat.shiftRight_and_distrib (a := w) (b := m) (i := k)
  simp only [Nat.shiftRight_eq_div_pow] at h
  rw [h, show (32 : Nat) = 2 ^ 5 from rfl, Nat.and_mod_two_pow]

theorem toList_data (s : ByteArray) : s.toList = s.data.toList := ByteArray.toList_eq s

theorem fields_walk (a0 : Int) (w : World) (w0 : (Lit.int .u32 a0).wf = true) (tb : Tabs w) :
    Calls Tryd.prog 8 #[.int .u32 a0] w fun r w' => r = .returned (.bool true) ∧ Below w.heap.size w w' := by
  obtain ⟨n, hn, rfl⟩ : ∃ n : Nat, n < 4294967296 ∧ a0 = (n : Int) := by
    have : 0 ≤ a0 ∧ a0 ≤ 4294967295 := by simpa [Lit.wf, IntKind.min, IntKind.max, IntKind.signed, IntKind.bits] using w0
    exact ⟨a0.toNat, by omega, by omega⟩
  obtain ⟨o, s, t, d, a, i, e, hT, hD⟩ := decode_any n hn
  rcases hT with ⟨op, ho, hi, rfl, rfl, rfl, rfl, rfl, rfl, rfl⟩ | ⟨-, rfl, rfl, rfl, rfl, rfl, rfl, rfl⟩
  · clear hi
    have ei : idx (op : Int) = op := by unfold idx; rw [if_pos (by omega)]; omega
    have hF := fun w tb => form_any (op : Int) w tb
    have hN := fun w tb => name_any (op : Int) w tb
    rw [ei] at hF hN
    have hf := Dec.fm_lt op ho
    have nn := name_some op ho
    have ha : Dec.fm op ≠ 1 → Dec.da op n = 0 := fun h => by
      unfold Dec.da
      have := and_field n (Dec.lregs (Dec.fm op)) 6
      rw [show (2 : Nat) ^ 6 = 64 from rfl, no_sa _ hf.2 h, Nat.and_zero] at this
      exact this
    have hb : Dec.fm op ≠ 12 → Dec.di op n ≤ 65535 ∧ -32768 ≤ Dec.di op n := fun h => by
      have h1 := imm_small _ hf.2 h
      have h2 : n &&& Dec.limm (Dec.fm op) ≤ Dec.limm (Dec.fm op) := Nat.and_le_right
      unfold Dec.di
      split
      · unfold Dec.sign; split <;> omega
      · omega
    have hz : Dec.fm op = 6 ∨ Dec.fm op = 18 → same6 (op : Int) (Dec.ds op n : Nat) (Dec.dt op n : Nat) (Dec.dd op n : Nat) (Dec.da op n : Nat) (Dec.di op n) (op : Int) 0 0 0 0 0 = true := fun h => by
      have e1 : Dec.lregs (Dec.fm op) = 0 := by rcases h with h | h <;> rw [h] <;> rfl
      have e2 : Dec.limm (Dec.fm op) = 0 := by rcases h with h | h <;> rw [h] <;> rfl
      have e3 : Dec.lsigned (Dec.fm op) = false := by rcases h with h | h <;> rw [h] <;> rfl
      simp [same6, Dec.ds, Dec.dt, Dec.dd, Dec.da, Dec.di, e1, e2, e3]
    refine fields_raw (F := Dec.lname (Dec.fm op)) (N := Dec.name op) (by rw [toList_data]; exact nn) (by rw [toList_data]; simpa using nn) ?_ hD hF hN
      (by simp) (decide_eq_true (by have : Dec.ds op n < 32 := Nat.mod_lt _ (by decide); omega)) (by simp) (decide_eq_true (by have : Dec.dt op n < 32 := Nat.mod_lt _ (by decide); omega)) (by simp) (decide_eq_true (by have : Dec.dd op n < 32 := Nat.mod_lt _ (by decide); omega)) (by simp) (decide_eq_true (by have : Dec.da op n < 32 := Nat.mod_lt _ (by decide); omega)) w tb
    by_cases h1 : Dec.fm op = 1
    · exact Or.inl ⟨by rw [toList_data, h1]; rfl, hb (by omega)⟩
    have ha0 : (((Dec.da op n : Nat) : Int) == 0) = true := by rw [ha h1]; rfl
    by_cases h6 : Dec.fm op = 6
    · exact Or.inr (Or.inl ⟨ha0, by rw [toList_data, h6]; rfl, hz (Or.inl h6), hb (by omega)⟩)
    by_cases h18 : Dec.fm op = 18
    · exact Or.inr (Or.inr (Or.inl ⟨ha0, by rw [toList_data, h18]; rfl, hz (Or.inr h18), hb (by omega)⟩))
    by_cases h12 : Dec.fm op = 12
    · exact Or.inr (Or.inr (Or.inr (Or.inl ⟨ha0, by rw [toList_data, h12]; rfl⟩)))
    · have l0 := other0 _ hf.2 hf.1
      have l1 := other1 _ hf.2 h1
      have l2 := other6 _ hf.2 h6
      have l3 := other18 _ hf.2 h18
      have l4 := other12 _ hf.2 h12
      rw [← toList_data] at l0 l1 l2 l3 l4
      exact Or.inr (Or.inr (Or.inr (Or.inr ⟨ha0, ⟨l0, by simpa using l0, l1, by simpa using l1, l2, by simpa using l2, l3, by simpa using l3, l4, by simpa using l4⟩, hb h12⟩)))
  · exact fields_none hD w tb

end Go.Proofs.YtljljpgkhojokaaDoor
