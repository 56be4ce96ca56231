/- Layer 18: the document's disk: a sector is another one; a crash; a step. -/
import Derived.Test.YtgffhnggocbjhaaDkRef2
import Derived.Lib.BitFns
namespace Go.Proofs.Ytgffhnggocbjhaa
open Go.RowKit
set_option linter.unusedVariables false
set_option maxRecDepth 100000
set_option linter.unusedSimpArgs false

/-- The document's disk in block rb, what it may change being blocks of G. -/
def RG (w : World) (G : Nat → Prop) (rb : Nat) (d : Dk) : Prop := ∃ lv lw, RD w G rb lv lw d

/-- A sector of it is another one: what stands behind a call. -/
theorem strs_set (S : List ByteArray) (n : Nat) (s : ByteArray) : strs (S.set n s) = (strs S).set n (.string s) := by simp [strs, List.map_set]

set_option maxHeartbeats 4000000 in
set_option maxRecDepth 100000 in
theorem rwith_any {w : World} {H : Nat → Prop} {rb : Nat} {lv lw : Value} {d : Dk} (R : RD w H rb lv lw d) (n : Nat) (s : ByteArray) (hn : n < d.S.length) (hs : s.size = 64) :
    Calls Try.prog 60 #[.pointer (some ⟨rb, 0, none⟩), .int .i64 (n : Int), .string s] w fun e w' => e = .returned (.tuple #[]) ∧
      ∃ lv', RD w' (fun k => H k ∨ w.heap.size ≤ k) rb lv' lw { d with S := d.S.set n s } ∧ Turn (fun k => k = rb) w w' := by
  obtain ⟨i, hi, hz, hsz, hb⟩ := infoS
  have hrow := R.s.1
  obtain ⟨a, c, rfl, hc⟩ := R.s.shape
  obtain ⟨m, hmm⟩ : ∃ m, m = d.S.length := ⟨_, rfl⟩
  have s2 := R.g.s2
  rw [← hmm] at hc s2 hn
  have hrb := R.box.2.2
  have hbx : Box w rb (cellsR (.slice a m c) lw d) := by rw [hmm]; exact R.box
  rw [← hmm] at hrow
  have hlr := R.l
  have hH := R.h
  have hg : Dk.Good { d with S := d.S.set n s } := ⟨by simpa using R.g.s1, by simpa using R.g.s2, set_64 R.g.s64 hs, fun p hp => by simpa using R.g.l64 p hp, R.g.a63⟩
  have l6 := R.l6
  have m6 := R.m6
  have O0 := World.ownsRow_made w (base := w.heap.size) (e := 9) (size := 1) #[] 0 (Nat.le_refl _) (Nat.zero_le _) rfl
  have g0 := grow w (.cells #[] 9)
  obtain ⟨w1, hw1⟩ : ∃ w1, w1 = w.alloc (.cells #[] 9) := ⟨_, rfl⟩
  rw [← hw1] at O0 g0
  have hrow1 : w1.ownsRow 0 9 1 (.slice a m c) m (strs d.S) := by rw [hw1]; exact hrow.alloc _
  obtain ⟨v2, w2, hap, O2, G2, -⟩ := run_append_row (P := Try.prog) (w := w1) w.heap.size 50 50 9 i _ 1 16 Try.underlying50 hi hz hsz hb rfl (by decide) _ 0 [] O0 _ m _ hrow1 (strs_one _) (by unfold maxLen; omega) (by omega) g0.size
  rw [Nat.zero_add, List.nil_append] at O2
  have hB2 := g0.grown G2 g0.size (fun j hj => (O0.lt j hj).1)
  have hm0 : 0 < m := by omega
  obtain ⟨g, cap, rfl⟩ : ∃ g cap, v2 = .slice (some ⟨g, 0, none⟩) m cap := by
    rcases O2.2 with ⟨-, h0⟩ | ⟨g, cap, cur, h, -⟩
    · omega
    · exact ⟨g, cap, h⟩
  have hgb := O2.lt g rfl
  have hf := O2.frozenAt n
  have hc0 := O2.cellAt n (by omega)
  obtain ⟨x, hx⟩ : ∃ x, d.S[n]? = some x := ⟨d.S[n]'(by omega), List.getElem?_eq_getElem _⟩
  rw [strs_at hx] at hc0
  clear hx
  obtain ⟨O3, G3⟩ := O2.stored n (.string s)
  rw [← strs_set] at O3
  have hB3 := hB2.grown G3 (by have := hB2.size; omega) (fun j hj => by injection hj with hj; omega)
  have BX3 := hbx.on hB3
  have b0 : (w2.setCell ⟨g, n, none⟩ (.string s)).cell? ⟨rb, 0, none⟩ = some (.slice a m c) := BX3.cell 0
  have f0 := BX3.free 0
  have BX4 := BX3.set 0 (.slice (some ⟨g, 0, none⟩) m cap)
  have O4 := ownsRow_setCell_below O3 (a := ⟨rb, 0, none⟩) hrb (.slice (some ⟨g, 0, none⟩) m cap)
  have hfar : ∀ j, j ≠ rb → ((w2.setCell ⟨g, n, none⟩ (.string s)).setCell ⟨rb, 0, none⟩ (.slice (some ⟨g, 0, none⟩) m cap)).heap[j]? = (w2.setCell ⟨g, n, none⟩ (.string s)).heap[j]? := fun j hj => Below.heap_setCell _ _ _ j hj
  have fin : Hid (∃ lv', RD ((w2.setCell ⟨g, n, none⟩ (.string s)).setCell ⟨rb, 0, none⟩ (.slice (some ⟨g, 0, none⟩) m cap)) (fun k => H k ∨ w.heap.size ≤ k) rb lv' lw { d with S := d.S.set n s } ∧ Turn (fun k => k = rb) w ((w2.setCell ⟨g, n, none⟩ (.string s)).setCell ⟨rb, 0, none⟩ (.slice (some ⟨g, 0, none⟩) m cap))) := hide (by
    refine ⟨.slice (some ⟨g, 0, none⟩) m cap, ⟨BX4, ?_, ?_, .inl hH, hg, l6, m6⟩, ⟨hB3.os, hB3.tape, hB3.output, Nat.le_trans hB3.size (by simp [World.setCell]), fun k hk hn => (hfar k hn).trans (hB3.block k hk)⟩⟩
    · rw [show ({ d with S := d.S.set n s } : Dk).S.length = m by simp [hmm]]
      exact (Row.of_own O4).mono fun k h _ => ⟨.inr h, by omega⟩
    · exact (hlr.keep fun k h hl => (hfar k h.2).trans (hB3.block k hl)).mono fun k h _ => ⟨.inl h.1, h.2⟩)
  have bw : Hid (Box w rb (cellsR (.slice a m c) lw d)) := hide hbx
  have b1 : w1.cell? ⟨rb, 0, none⟩ = some (.slice a m c) := (hbx.on g0).cell 0
  subst hw1
  clear R hrow hrow1 hlr O0 g0 G2 hB2 O2 G3 O3 hB3 BX3 BX4 O4 hfar hbx hg hmm hH hgb
  go_enter Try.func60, Try.ntmps60
  go_wp2_with (at_builtin; refine wpList_append_told rfl _ _ 50 50 rfl _ _ _ rfl rfl hap ?_)
  go_end0
  exact ⟨rfl, fin.out⟩

theorem bit_eq (b : UInt8) (m : Nat) : ((wrap64 ((b.toNat : Nat) : Int) / 2 ^ m).tmod 2 == 1) = decide (b.toNat / 2 ^ m % 2 = 1) := by
  have hb := b.toNat_lt
  have h1 : wrap64 ((b.toNat : Nat) : Int) = ((b.toNat : Nat) : Int) := by unfold wrap64; omega
  have h2 : ((b.toNat : Nat) : Int) / 2 ^ m = ((b.toNat / 2 ^ m : Nat) : Int) := by
    rw [Int.natCast_ediv]
    norm_cast
  rw [h1, h2]
  obtain ⟨q, hq⟩ : ∃ q, q = b.toNat / 2 ^ m := ⟨_, rfl⟩
  rw [← hq]
  have h3 : ((q : Nat) : Int).tmod 2 = ((q % 2 : Nat) : Int) := by rw [Int.tmod_eq_emod_of_nonneg (by omega)]; omega
  rw [h3]
  rcases Nat.mod_two_eq_zero_or_one q with e | e <;> rw [e] <;> rfl

theorem kept_any (s : ByteArray) (i : Nat) (hi : i ≤ 1000) (w : World) :
    Calls Try.prog 61 #[.string s, .int .i64 (i : Int)] w fun e w' => e = .returned (.bool (bitAt s i)) ∧ w' = w := by
  by_cases h : i / 8 < s.size
  · have hb : bitAt s i = ((wrap64 ((s[i / 8].toNat : Nat) : Int) / 2 ^ (i % 8)).tmod 2 == 1) := by
      rw [bit_eq, bitAt, byteAt_in s _ h]
      simp [h]
    rw [hb]
    clear hb
    go_enter Try.func61, Try.ntmps61
    go_wp2
    go_ret
    exact ⟨rfl, rfl⟩
  · have hb : bitAt s i = false := by simp [bitAt, h]
    rw [hb]
    clear hb
    go_enter Try.func61, Try.ntmps61
    go_wp2
    go_ret
    exact ⟨rfl, rfl⟩

end Go.Proofs.Ytgffhnggocbjhaa
