/- Layer 18: a disk whose power is there and where nothing is armed. -/
import Derived.Test.YtkihjlmhidhjcaaDkLaw
namespace Go.Proofs.Ytkihjlmhidhjcaa
open Go.RowKit
set_option linter.unusedVariables false
set_option maxRecDepth 100000
set_option linter.unusedSimpArgs false

structure Calm (d : Dk) (n : Nat) : Prop where
  dead : d.dead = false
  a : d.a = 0
  len : d.S.length = n
  g : d.Good

theorem newD_calm {n : Nat} (h1 : 1 ≤ n) (h2 : n ≤ 4096) : Calm (newD n) n := ⟨rfl, rfl, by simp [newD], newD_good h1 h2⟩

theorem Calm.at0 {d : Dk} {n : Nat} (h : Calm d n) {k : Nat} (hk : k < n) : d.errAt (k : Int) = 0 := by
  unfold Dk.errAt
  rw [h.dead, if_neg (by decide), if_neg (by rw [h.len]; omega)]
theorem Calm.told {d : Dk} {n : Nat} (h : Calm d n) {k : Nat} (hk : k < n) : d.told (k : Int) = (flushK d.L d.S d.L.length).getD k T0 := by
  unfold Dk.told
  rw [if_pos (h.at0 hk), Int.toNat_natCast, (read_flush (fun p hp => (h.g.l64 p hp).1) k d.L.length (Nat.le_refl _)).1]
theorem Calm.step {d : Dk} {n : Nat} (h : Calm d n) : d.stepped = { d with m := d.m + 1 } := by
  unfold Dk.stepped
  rw [if_neg (by rw [h.a]; decide), h.a]
theorem Calm.write {d : Dk} {n : Nat} (h : Calm d n) {k : Nat} (hk : k < n) {s : ByteArray} (hs : s.size = 64) :
    d.errW (k : Int) s = 0 ∧ d.wrote (k : Int) s = { d with L := d.L ++ [(k, s)], m := d.m + 1 } ∧ Calm (d.wrote (k : Int) s) n := by
  have h0 := h.at0 hk
  have e1 : d.errW (k : Int) s = 0 := by
    unfold Dk.errW
    rw [if_neg (by simp [h0]), if_neg (by simp [hs]), if_neg (by rw [h.a]; decide)]
  have e2 : d.wrote (k : Int) s = { d with L := d.L ++ [(k, s)], m := d.m + 1 } := by
    have hc : Calm { d with L := d.L ++ [(k, s)] } n := ⟨h.dead, h.a, h.len, h.g.loose (by rw [h.len]; exact hk) hs⟩
    unfold Dk.wrote
    rw [if_neg (by simp [h0, hs]), Int.toNat_natCast, hc.step]
  refine ⟨e1, e2, ?_⟩
  rw [e2]
  have g := h.g.loose (n := k) (s := s) (by rw [h.len]; exact hk) hs
  exact ⟨h.dead, h.a, h.len, g.s1, g.s2, g.s64, g.l64, g.a63⟩
theorem Calm.wrote_told {d : Dk} {n : Nat} (h : Calm d n) {k : Nat} (hk : k < n) {s : ByteArray} (hs : s.size = 64) : (d.wrote (k : Int) s).told (k : Int) = s := by
  obtain ⟨-, e2, hc⟩ := h.write hk hs
  rw [hc.told hk, e2]
  show (flushK (d.L ++ [(k, s)]) d.S (d.L ++ [(k, s)]).length).getD k T0 = s
  have e : (d.L ++ [(k, s)]).length = d.L.length + 1 := by simp
  have e3 : (d.L ++ [(k, s)]).getD d.L.length (0, T0) = (k, s) := getD_some (by simp)
  have hpre : ∀ j, j ≤ d.L.length → (flushK (d.L ++ [(k, s)]) d.S j).length = d.S.length := fun j hj => by
    have := (read_flush (L := d.L ++ [(k, s)]) (S := d.S) (fun p hp => by
      rcases List.mem_append.1 hp with h' | h'
      · exact (h.g.l64 p h').1
      · simp at h'; subst h'; rw [h.len]; exact hk) 0 j (by rw [e]; omega)).2
    exact this
  rw [e, flushK, e3, set_at k (by rw [hpre _ (Nat.le_refl _), h.len]; exact hk), if_pos rfl]
theorem Calm.flush {d : Dk} {n : Nat} (h : Calm d n) : d.errF = 0 ∧ d.flush = { d with S := flushK d.L d.S d.L.length, L := [], m := d.m + 1 } ∧ Calm d.flush n := by
  have e1 : d.errF = 0 := by unfold Dk.errF; rw [if_neg (by rw [h.dead, h.a]; decide)]
  have e2 : d.flush = { d with S := flushK d.L d.S d.L.length, L := [], m := d.m + 1 } := by
    unfold Dk.flush
    rw [if_neg (by rw [h.dead]; decide), if_neg (by rw [h.a]; decide), h.step]
    rfl
  refine ⟨e1, e2, ?_⟩
  have g := h.g.flush
  have hl := flushed_len h.g
  rw [e2] at g ⊢
  exact ⟨h.dead, h.a, hl.trans h.len, g⟩
theorem Calm.crash {d : Dk} {n : Nat} (h : Calm d n) (c : Crs) : d.errC = 0 ∧ d.crash c = d.crashed c ∧ (d.crashed c).S.length = n := by
  refine ⟨by unfold Dk.errC; rw [h.dead]; rfl, by unfold Dk.crash; rw [h.dead]; rfl, ?_⟩
  rw [crashed_len h.g, h.len]
/-- A crash behind a flush leaves what is sure. -/
theorem crash_empty {d : Dk} (h : d.L = []) (c : Crs) : (d.crashed c).S = d.S := by unfold Dk.crashed; rw [h]; rfl

theorem and16 (n : Int) : bits .and .i64 n 65535 = n % 65536 := by
  have e : (BitVec.ofInt 64 n &&& BitVec.ofInt 64 65535).toNat = (n % 18446744073709551616).toNat % 65536 := by
    rw [BitVec.toNat_and, BitVec.toNat_ofInt, BitVec.toNat_ofInt]
    have := Nat.and_two_pow_sub_one_eq_mod (n % 18446744073709551616).toNat 16
    exact this
  show IntKind.i64.wrap ((BitVec.ofInt 64 n &&& BitVec.ofInt 64 65535).toNat : Int) = n % 65536
  rw [e]
  simp [IntKind.wrap, IntKind.bits, IntKind.signed]
  omega

theorem and31 (n : Int) : bits .and .i64 n 31 = n % 32 := by
  have e : (BitVec.ofInt 64 n &&& BitVec.ofInt 64 31).toNat = (n % 18446744073709551616).toNat % 32 := by
    rw [BitVec.toNat_and, BitVec.toNat_ofInt, BitVec.toNat_ofInt]
    have := Nat.and_two_pow_sub_one_eq_mod (n % 18446744073709551616).toNat 5
    exact this
  show IntKind.i64.wrap ((BitVec.ofInt 64 n &&& BitVec.ofInt 64 31).toNat : Int) = n % 32
  rw [e]
  simp [IntKind.wrap, IntKind.bits, IntKind.signed]
  omega

theorem and3 (n : Int) : bits .and .i64 n 3 = n % 4 := by
  have e : (BitVec.ofInt 64 n &&& BitVec.ofInt 64 3).toNat = (n % 18446744073709551616).toNat % 4 := by
    rw [BitVec.toNat_and, BitVec.toNat_ofInt, BitVec.toNat_ofInt]
    have := Nat.and_two_pow_sub_one_eq_mod (n % 18446744073709551616).toNat 2
    exact this
  show IntKind.i64.wrap ((BitVec.ofInt 64 n &&& BitVec.ofInt 64 3).toNat : Int) = n % 4
  rw [e]
  simp [IntKind.wrap, IntKind.bits, IntKind.signed]
  omega

/-- Eight bytes of ones keep all of sixty-four writes. -/
theorem all255 (i : Nat) (h : i < 64) : bitAt (textOf 8 fun _ => 255) i = true := by
  have h1 : i / 8 < 8 := by omega
  unfold bitAt
  rw [textOf_size, byteAt_textOf 8 _ (fun _ => by decide) _ h1]
  have h2 : ∀ m, m < 8 → 255 / 2 ^ m % 2 = 1 := by decide
  simp [h1, h2 (i % 8) (by omega)]

theorem strCells_255 (k : Nat) : Go.Lib.strCells (textOf (k + 1) fun _ => 255) = Go.Lib.strCells (textOf k fun _ => 255) ++ [.int .u8 255] := by
  rw [← textOf_add k 1 (fun _ => 255), strCells_app]
  rfl

/-- A number of a script, as a sector's. -/
theorem mod_at (N : Int) (n : Nat) (h : 1 ≤ n) : ∃ j : Nat, j < n ∧ (bits .and .i64 N 65535).tmod (n : Int) = (j : Int) := by
  rw [and16]
  obtain ⟨x, hx⟩ : ∃ x : Nat, N % 65536 = (x : Int) := ⟨(N % 65536).toNat, by omega⟩
  refine ⟨x % n, Nat.mod_lt _ (by omega), ?_⟩
  rw [hx, Int.tmod_eq_emod_of_nonneg (by omega)]
  omega

end Go.Proofs.Ytkihjlmhidhjcaa
