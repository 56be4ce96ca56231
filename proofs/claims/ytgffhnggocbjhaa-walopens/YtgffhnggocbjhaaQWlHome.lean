/- Layer 19: the document's log: cells to their sectors. -/
import Derived.Test.YtgffhnggocbjhaaQWlRise
namespace Go.Proofs.Ytgffhnggocbjhaa
open Go.RowKit
set_option linter.unusedVariables false
set_option maxRecDepth 100000
set_option linter.unusedSimpArgs false

theorem runL_next {l : List Do} {d e : Dk} {k : Nat} {x : Do} (h : l[k]? = some x) (hr : runL (l.take k) d = (e, true)) : runL (l.take (k + 1)) d = (x.on e, decide (x.err e = 0)) := by
  rw [List.take_add_one, h, Option.toList_some, runL_app, hr]
  simp only [if_true, runL]
  split <;> simp [*]
theorem runL_stop {l : List Do} {d e : Dk} {k : Nat} (hr : runL (l.take k) d = (e, false)) : runL l d = (e, false) := by
  have := runL_app (l.take k) (l.drop k) d
  rw [List.take_append_drop, hr] at this
  simpa using this
theorem runL_whole {l : List Do} {d : Dk} {k : Nat} (h : l.length ≤ k) : runL (l.take k) d = runL l d := by rw [List.take_of_length_le h]

/-- How far a disk's steps and its loose writes may have grown. -/
def Near (d e : Dk) (k : Nat) : Prop := e.m ≤ d.m + k ∧ e.L.length ≤ d.L.length + k ∧ e.S.length = d.S.length
theorem Dk.crashed_len {d : Dk} (g : d.Good) (c : Crs) : (d.crashed c).S.length = d.S.length := (crashK_good (c := c) g.s64 (fun p hp => (g.l64 p hp).2) d.L.length (Nat.le_refl _)).1
theorem near_stepped {d : Dk} (g : d.Good) : d.stepped.m ≤ d.m + 1 ∧ d.stepped.L.length ≤ d.L.length ∧ d.stepped.S.length = d.S.length := by
  have g' : Dk.Good { d with m := d.m + 1 } := ⟨g.s1, g.s2, g.s64, g.l64, g.a63⟩
  unfold Dk.stepped
  split
  · exact ⟨Nat.le_refl _, Nat.zero_le _, Dk.crashed_len g' _⟩
  · exact ⟨Nat.le_refl _, Nat.le_refl _, rfl⟩
theorem near_do {d : Dk} (g : d.Good) (x : Do) : Near d (x.on d) 1 := by
  cases x with
  | w n s =>
    show Near d (d.wrote n s) 1
    unfold Dk.wrote
    split
    · exact ⟨Nat.le_succ _, Nat.le_succ _, rfl⟩
    · next h =>
      have he : d.errAt (n : Int) = 0 := by
        cases Decidable.em (d.errAt (n : Int) = 0) with
        | inl h' => exact h'
        | inr h' => exact absurd (.inl h') h
      have hn : n < d.S.length := by
        unfold Dk.errAt at he
        split at he
        · cases he
        · split at he
          · cases he
          · omega
      have hs : s.size = 64 := by
        cases Decidable.em (s.size = 64) with
        | inl h' => exact h'
        | inr h' => exact absurd (.inr h') h
      have h1 := near_stepped (g.loose (n := n) hn hs)
      have e : (((n : Nat) : Int).toNat) = n := by omega
      rw [e]
      refine ⟨h1.1, ?_, h1.2.2⟩
      have := h1.2.1
      simpa using this
  | f =>
    show Near d d.flush 1
    unfold Dk.flush
    have h1 := near_stepped g
    split
    · exact ⟨Nat.le_succ _, Nat.le_succ _, rfl⟩
    · split
      · exact ⟨h1.1, Nat.le_succ_of_le h1.2.1, h1.2.2⟩
      · refine ⟨h1.1, Nat.zero_le _, ?_⟩
        rw [← h1.2.2]
        exact (flushK_good g.stepped.s64 (fun p hp => (g.stepped.l64 p hp).2) _ (Nat.le_refl _)).1
theorem Near.refl (d : Dk) : Near d d 0 := ⟨Nat.le_refl _, Nat.le_refl _, rfl⟩
theorem Near.next {d e f : Dk} {k : Nat} (h : Near d e k) (g : Near e f 1) : Near d f (k + 1) := by
  obtain ⟨a, b, c⟩ := h
  obtain ⟨a', b', c'⟩ := g
  exact ⟨by omega, by omega, c'.trans c⟩
theorem near_run : ∀ (l : List Do) {d : Dk}, d.Good → Near d (runL l d).1 l.length
  | [], d, g => Near.refl d
  | x :: l, d, g => by
    have h1 := near_do g x
    rw [runL]
    split
    · have h2 := near_run l (Do.good g x)
      obtain ⟨a, b, c⟩ := h1
      obtain ⟨a', b', c'⟩ := h2
      exact ⟨by simp; omega, by simp; omega, c'.trans c⟩
    · obtain ⟨a, b, c⟩ := h1
      exact ⟨by simp; omega, by simp; omega, c⟩

theorem homeD_len (c : Cl) : (homeD c).length = c.length + 1 := by simp [homeD]
theorem homeD_at {c : Cl} {k : Nat} {p : Int × ByteArray} (h : c[k]? = some p) : (homeD c)[k]? = some (.w (34 + p.1.toNat) p.2) := by
  have hk : k < c.length := by
    rcases Nat.lt_or_ge k c.length with h' | h'
    · exact h'
    · rw [List.getElem?_eq_none h'] at h; cases h
  unfold homeD
  rw [List.getElem?_append_left (by simpa using hk), List.getElem?_map, h]
  rfl
theorem homeD_end (c : Cl) : (homeD c)[c.length]? = some .f := by
  unfold homeD
  rw [List.getElem?_append_right (by simp)]
  simp

set_option maxHeartbeats 4000000 in
set_option maxRecDepth 100000 in
theorem rhome_any {w : World} {H : Nat → Prop} {lb rb N : Nat} {dead : Bool} {lv lw v : Value} {d : Dk} {c : Cl} (L : Box w lb (cellsG rb N dead)) (hl : lb ≠ rb) (R : RD w H rb lv lw d) (C : CW w (fun k => k = rb) v c)
    (hm : d.m + c.length + 1 < 1000000) (hL : d.L.length + c.length < 1000) (hk : ∀ p ∈ c, 0 ≤ p.1 ∧ p.1 < 65536) :
    Calls Try.prog 53 #[.pointer (some ⟨lb, 0, none⟩), v] w fun e w' => e = .returned (.bool (runL (homeD c) d).2) ∧
      ∃ lv' lw', RD w' (fun k => H k ∨ w.heap.size ≤ k) rb lv' lw' (runL (homeD c) d).1 ∧ Turn (fun k => k = rb) w w' := by
  obtain ⟨n, hnn⟩ : ∃ n, n = c.length := ⟨_, rfl⟩
  obtain ⟨a, cap, rfl, hc, hmx, hx⟩ := C
  have b0 : w.cell? ⟨lb, 0, none⟩ = some (.pointer (some ⟨rb, 0, none⟩)) := L.cell 0
  have hlb := L.2.2
  have hrb := R.box.2.2
  rw [← hnn] at hc hmx hm hL ⊢
  have R0 := hide (R.mono (G := fun k => H k ∨ w.heap.size ≤ k) (fun k h _ => .inl h))
  have hg := hide R.g
  replace hx := hide hx
  replace hnn := hide hnn
  replace hk := hide hk
  clear R L
  go_enter Try.func53, Try.ntmps53
  go_wp2
  go_loopw [5] (fun i y => ∃ (k : Nat) (lv' lw' : Value) (e : Dk), k ≤ n ∧ i = .int .i64 (k : Int) ∧ Hid (RD y (fun k => H k ∨ w.heap.size ≤ k) rb lv' lw' e) ∧ Hid (Turn (fun k => k = rb) w y) ∧ Hid (runL ((homeD c).take k) d = (e, true))) (fun i _ => n - (intOf i).toNat)
  case atStart => exact ⟨0, lv, lw, d, Nat.zero_le _, rfl, R0, hide (Turn.refl _ _), hide rfl⟩
  case round =>
    clear R0
    obtain ⟨k, lv', lw', e, hkn, rfl, R, T, hr⟩ := hrel
    have b0' : wr.cell? ⟨lb, 0, none⟩ = some (.pointer (some ⟨rb, 0, none⟩)) := (World.cell?_of_block (a := ⟨lb, 0, none⟩) (T.out.block lb hlb hl)).trans b0
    have hnear : Near d e k := by
      have h1 := near_run ((homeD c).take k) hg.out
      rw [hr.out, List.length_take, Nat.min_eq_left (by rw [homeD_len, ← hnn.out]; omega)] at h1
      exact h1
    by_cases h : k < n
    · obtain ⟨p, hp⟩ : ∃ p, c[k]? = some p := ⟨c[k]'(by have := hnn.out; omega), List.getElem?_eq_getElem _⟩
      obtain ⟨g, rfl, hgw, hgn, q0, q1⟩ := hx.out k p hp
      have r0 : wr.cell? ⟨g, k * 2, none⟩ = some (.int .i64 p.1) := (World.cell?_of_block (a := ⟨g, k * 2, none⟩) (T.out.block g hgw hgn)).trans q0
      have r1 : wr.cell? ⟨g, k * 2 + 1, none⟩ = some (.string p.2) := (World.cell?_of_block (a := ⟨g, k * 2 + 1, none⟩) (T.out.block g hgw hgn)).trans q1
      obtain ⟨p0, p1⟩ := hk.out p (List.mem_of_getElem? hp)
      have hnx := runL_next (homeD_at hp) hr.out
      have cw := rwrite_any (R.out.on (Below.refl wr.heap.size wr).drew) (by have := hnear.1; omega) (by have := hnear.2.1; omega) (34 + p.1) p.2
      obtain ⟨K, hK⟩ : ∃ K : Nat, p.1 = (K : Int) := ⟨p.1.toNat, by omega⟩
      obtain ⟨px, hpx⟩ : ∃ px, px = p.2 := ⟨_, rfl⟩
      rw [hK] at r0 p0 p1 hnx cw
      rw [← hpx] at r1 hnx cw
      have e34 : ((34 + K : Nat) : Int) = 34 + (K : Int) := by omega
      have eK : ((K : Int)).toNat = K := by omega
      rw [eK] at hnx
      simp only [Do.on, Do.err, e34] at hnx
      obtain ⟨E, hE⟩ : ∃ E, E = e.errW (34 + (K : Int)) px := ⟨_, rfl⟩
      obtain ⟨f, hf⟩ : ∃ f, f = e.wrote (34 + (K : Int)) px := ⟨_, rfl⟩
      rw [← hE, ← hf] at hnx cw
      have hwK : IntKind.i64.wrap (34 + (K : Int)) = 34 + (K : Int) := by simp [IntKind.wrap, IntKind.bits, IntKind.signed]; omega
      replace hnx := hide hnx
      have hS0 := hide (And.intro b0' (And.intro r0 r1))
      clear q0 q1 hp hK hpx e34 eK hE hf r0 r1 b0'
      go_wp2_with fail
      refine zir [15] (fun y => y.cell? ⟨lb, 0, none⟩ = some (.pointer (some ⟨rb, 0, none⟩)) ∧ y.cell? ⟨g, k * 2, none⟩ = some (.int .i64 (K : Int)) ∧ y.cell? ⟨g, k * 2 + 1, none⟩ = some (.string px)) (by kernel_rfl) hS0.out (fun hHeld => ?_)
      refine zit 0 ?_ rfl (by kernel_rfl) (fun _ _ _ h => h) (by rfl) (by assumption) ?_ ?_
      rotate_left
      · intro y hSw
        have e0 := hSw.1; have e1 := hSw.2.1; have e2 := hSw.2.2
        go_simp
        try with_reducible rfl
      try simp only [Act.put, zpa, zpb, zpc]
      refine zit 1 ?_ rfl (by kernel_rfl) (fun _ _ _ h => h) (by rfl) (by assumption) ?_ ?_
      rotate_left
      · intro y hSw
        have e0 := hSw.1; have e1 := hSw.2.1; have e2 := hSw.2.2
        go_simp
        try with_reducible rfl
      try simp only [Act.put, zpa, zpb, zpc]
      refine zit 2 ?_ rfl (by kernel_rfl) (fun _ _ _ h => h) (by rfl) (by assumption) ?_ ?_
      rotate_left
      · intro y hSw
        have e0 := hSw.1; have e1 := hSw.2.1; have e2 := hSw.2.2
        go_simp
        try with_reducible rfl
      try simp only [Act.put, zpa, zpb, zpc]
      refine zit 3 ?_ rfl (by kernel_rfl) (fun _ _ _ h => h) (by rfl) (by assumption) ?_ ?_
      rotate_left
      · intro y hSw
        have e0 := hSw.1; have e1 := hSw.2.1; have e2 := hSw.2.2
        go_simp
        try with_reducible rfl
      try simp only [Act.put, zpa, zpb, zpc]
      refine zit 4 ?_ rfl (by kernel_rfl) (fun _ _ _ h => h) (by rfl) (by assumption) ?_ ?_
      rotate_left
      · intro y hSw
        have e0 := hSw.1; have e1 := hSw.2.1; have e2 := hSw.2.2
        go_simp
        try with_reducible rfl
      try simp only [Act.put, zpa, zpb, zpc]
      refine zit 5 ?_ rfl (by kernel_rfl) (fun _ _ _ h => h) (by rfl) (by assumption) ?_ ?_
      rotate_left
      · intro y hSw
        have e0 := hSw.1; have e1 := hSw.2.1; have e2 := hSw.2.2
        go_simp
        try with_reducible rfl
      try simp only [Act.put, zpa, zpb, zpc]
      refine zit 6 ?_ rfl (by kernel_rfl) (fun _ _ _ h => h) (by rfl) (by assumption) ?_ ?_
      rotate_left
      · intro y hSw
        have e0 := hSw.1; have e1 := hSw.2.1; have e2 := hSw.2.2
        go_simp
        try with_reducible rfl
      try simp only [Act.put, zpa, zpb, zpc]
      refine zit 7 ?_ rfl (by kernel_rfl) (fun _ _ _ h => h) (by rfl) (by assumption) ?_ ?_
      rotate_left
      · intro y hSw
        have e0 := hSw.1; have e1 := hSw.2.1; have e2 := hSw.2.2
        go_simp
        try with_reducible rfl
      try simp only [Act.put, zpa, zpb, zpc]
      refine zit 8 ?_ rfl (by kernel_rfl) (fun _ _ _ h => h) (by rfl) (by assumption) ?_ ?_
      rotate_left
      · intro y hSw
        have e0 := hSw.1; have e1 := hSw.2.1; have e2 := hSw.2.2
        go_simp
        try with_reducible rfl
      try simp only [Act.put, zpa, zpb, zpc]
      refine zit 9 ?_ rfl (by kernel_rfl) (fun _ _ _ h => h) (by rfl) (by assumption) ?_ ?_
      rotate_left
      · intro y hSw
        have e0 := hSw.1; have e1 := hSw.2.1; have e2 := hSw.2.2
        go_simp
        try with_reducible rfl
      try simp only [Act.put, zpa, zpb, zpc]
      refine zit 10 ?_ rfl (by kernel_rfl) (fun _ _ _ h => h) (by rfl) (by assumption) ?_ ?_
      rotate_left
      · intro y hSw
        have e0 := hSw.1; have e1 := hSw.2.1; have e2 := hSw.2.2
        go_simp
        try with_reducible rfl
      try simp only [Act.put, zpa, zpb, zpc]
      refine zit 11 ?_ rfl (by kernel_rfl) (fun _ _ _ h => h) (by rfl) (by assumption) ?_ ?_
      rotate_left
      · intro y hSw
        have e0 := hSw.1; have e1 := hSw.2.1; have e2 := hSw.2.2
        go_simp
        try with_reducible rfl
      try simp only [Act.put, zpa, zpb, zpc]
      refine zit 12 ?_ rfl (by kernel_rfl) (fun _ _ _ h => h) (by rfl) (by assumption) ?_ ?_
      rotate_left
      · intro y hSw
        have e0 := hSw.1; have e1 := hSw.2.1; have e2 := hSw.2.2
        go_simp
        try with_reducible rfl
      try simp only [Act.put, zpa, zpb, zpc]
      refine zit 13 ?_ rfl (by kernel_rfl) (fun _ _ _ h => h) (by rfl) (by assumption) ?_ ?_
      rotate_left
      · intro y hSw
        have e0 := hSw.1; have e1 := hSw.2.1; have e2 := hSw.2.2
        go_simp
        try with_reducible rfl
      try simp only [Act.put, zpa, zpb, zpc]
      refine zit 14 ?_ rfl (by kernel_rfl) (fun _ _ _ h => h) (by rfl) (by assumption) ?_ ?_
      rotate_left
      · intro y hSw
        have e0 := hSw.1; have e1 := hSw.2.1; have e2 := hSw.2.2
        go_simp
        try with_reducible rfl
      try simp only [Act.put, zpa, zpb, zpc]
      refine zil 15 rfl (by kernel_rfl) (by kernel_rfl) (fun K hK => ?_)
      go_simp
      refine cw.mono ?_
      rintro e w2 ⟨rfl, lv3, lw3, R3, T3⟩
      have R4 := hide (R3.mono (G := fun j => H j ∨ w.heap.size ≤ j) (fun j h _ => by
        rcases h with h | h
        · exact h
        · have := T.out.size; have e : wr.drew.heap.size = wr.heap.size := rfl; right; omega))
      have T4 := hide (T.out.trans ((Turn.of (Below.refl wr.heap.size wr).drew).trans T3 (fun b h => .inl h)) (fun b h => .inl h))
      clear R3 T3 R T cw hS0 hHeld hr hnear p0 p1 hwK
      go_wp2_with fail
      refine hK.out _ _ ?_
      clear hK K
      try simp only [Act.put, zpa, zpb, zpc]
      by_cases hE : E = 0
      · subst hE
        refine zil 16 rfl (by kernel_rfl) (by kernel_rfl) (fun K hK => ?_)
        go_wp2_with fail
        refine hK.out _ _ ?_
        clear hK K
        try simp only [Act.put, zpa, zpb, zpc]
        refine zid (by kernel_rfl) ?_ _
        go_wp2
        go_roundw
        case rel => exact ⟨k + 1, lv3, lw3, _, by omega, by go_num, R4, T4, hnx⟩
        case measure => simp [intOf]; omega
      · have hEd : decide (E = 0) = false := by simpa using hE
        have hst : Hid (runL (homeD c) d = (f, false)) := hide (runL_stop (k := k + 1) (by rw [hnx.out, hEd]))
        refine zil 16 rfl (by kernel_rfl) (by kernel_rfl) (fun K hK => ?_)
        go_wp2_with fail
        refine hK.out _ _ ?_
        clear hK K
        try simp only [Act.put, zpa, zpb, zpc]
        refine zid (by kernel_rfl) ?_ _
        go_wp2
        go_ret
        rw [hst.out]
        exact ⟨rfl, lv3, lw3, R4.out, T4.out⟩
    · obtain rfl : k = n := by omega
      have hnx := runL_next (hnn.out ▸ homeD_end c) hr.out
      rw [runL_whole (by rw [homeD_len, ← hnn.out]; exact Nat.le_refl _)] at hnx
      simp only [Do.on, Do.err] at hnx
      have cf := rflush_any R.out (by have := hnear.1; omega)
      have R4 := T.out.size
      go_wp2_with fail
      refine cf.mono ?_
      rintro e2 w2 ⟨rfl, lv3, lw3, R3, T3⟩
      have R5 := hide (R3.mono (G := fun j => H j ∨ w.heap.size ≤ j) (fun j h _ => by
        rcases h with h | h
        · exact h
        · right; omega))
      have T5 := hide (T.out.trans T3 (fun b h => .inl h))
      obtain ⟨E, hE⟩ : ∃ E, E = e.errF := ⟨_, rfl⟩
      have hnx : Hid (runL (homeD c) d = (e.flush, decide (E = 0))) := hide (by rw [hE]; exact hnx)
      rw [← hE]
      clear R3 T3 R T cf hr hnear
      replace hE := hide hE
      by_cases h0 : E = 0
      · subst h0
        go_wp2
        go_ret
        rw [hnx.out]
        exact ⟨rfl, lv3, lw3, R5.out, T5.out⟩
      · have hEd : decide (E = 0) = false := by simpa using h0
        go_wp2
        go_ret
        rw [hnx.out]
        exact ⟨by rw [hEd]; show Ending.returned (.bool (E == 0)) = _; rw [show (E == 0) = false by simpa using h0], lv3, lw3, R5.out, T5.out⟩

end Go.Proofs.Ytgffhnggocbjhaa
