/- Contracts of what the program reads off its tables of words as instructions. -/
import Derived.Test.YtahbbhgoacbejaaGreatDoorRows
import Derived.Test.YtahbbhgoacbejaaGreatDoorDecPlain
import Derived.WalkKit
import Derived.WalkSpells
import Derived.WalkLawsBesides
namespace Go.Proofs.YtahbbhgoacbejaaGreatDoor
open Go.RowKit
set_option linter.unusedVariables false

theorem hide {p : Prop} (h : p) : Hid p := h

theorem ret_int {k : IntKind} {a b : Int} (h : a = b) : Ending.returned (.int k a) = .returned (.int k b) := by rw [h]

theorem wrap64_id (n : Int) (h : -9223372036854775808 ≤ n) (h2 : n ≤ 9223372036854775807) : wrap64 n = n := by
  unfold wrap64; omega

theorem low_any (n : Int) (w : World) :
    Calls Tryz.prog 45 #[.int .i64 n] w fun e w' => e = .returned (.int .u32 (Dec.low n : Nat)) ∧ w' = w := by
  go_enter Tryz.func45, Tryz.ntmps45
  go_wp2
  go_ret
  refine ⟨ret_int ?_, rfl⟩
  rw [u32_and _ _ (by omega) (by omega) (by decide) (by decide)]
  show (((n % 4294967296).toNat &&& 31 : Nat) : Int) = _
  rw [nat_mask5]
  unfold Dec.low
  congr 1
  omega

theorem number_any (n : Nat) (b : Bool) (hn : n < 4294967296) (w : World) :
    Calls Tryz.prog 47 #[.int .u32 (n : Int), .bool b] w fun e w' => e = .returned (.int .i64 (if b then Dec.sign n else (n : Int))) ∧ w' = w := by
  cases b
  · go_enter Tryz.func47, Tryz.ntmps47
    go_wp2
    go_ret
    exact ⟨ret_int (by first | rfl | (rw [wrap64_id _ (by omega) (by omega)]; rfl)), rfl⟩
  · go_enter Tryz.func47, Tryz.ntmps47
    go_wp2
    go_ret
    refine ⟨ret_int ?_, rfl⟩
    have e0 : IntKind.i16.wrap (n : Int) = if 32768 ≤ (n : Int) % 65536 then (n : Int) % 65536 - 65536 else (n : Int) % 65536 := by simp [IntKind.wrap, IntKind.bits, IntKind.signed]
    have e : IntKind.i16.wrap (n : Int) = Dec.sign n := by
      rw [e0]
      unfold Dec.sign
      split <;> split <;> omega
    have h1 : -32768 ≤ Dec.sign n ∧ Dec.sign n ≤ 32767 := by unfold Dec.sign; split <;> omega
    rw [e, wrap64_id _ (by omega) (by omega)]
    first | done | rfl | simp

/-- What the program holds of a form, and of an op. -/
def layV (f : Nat) : Value := .agg #[.string (Dec.lname f), .int .u32 (Dec.lregs f : Nat), .int .u32 (Dec.limm f : Nat), .bool (Dec.lsigned f), .int .u32 (Dec.lagain f : Nat), .int .i64 (Dec.lat f : Nat), .int .u32 (Dec.lmark f : Nat)]

def rowV (op : Nat) : Value := .agg #[.string (Dec.name op), .int .i64 (Dec.fm op : Nat), .int .u32 (Dec.mj op : Nat), .int .u32 (Dec.mn op : Nat)]

theorem fixed_raw (s t : ByteArray) (f j n r i a m : Int) (g : Bool) (k : Int) (hk : 0 ≤ k) (w : World) :
    Calls Tryz.prog 46 #[.agg #[.string s, .int .i64 f, .int .u32 j, .int .u32 n], .agg #[.string t, .int .u32 r, .int .u32 i, .bool g, .int .u32 a, .int .i64 k, .int .u32 m]] w fun e w' =>
      e = .returned (.int .u32 (bits .or .u32 (bits .or .u32 (j * 67108864 % 4294967296) (n * 2 ^ min k.toNat 32 % 4294967296)) m)) ∧ Below w.heap.size w w' := by
  go_enter Tryz.func46, Tryz.ntmps46
  go_wp2_with fail
  go_region
  all_goals go_wp2
  all_goals go_ret
  exact ⟨rfl, (((Below.refl _ _).alloc (Nat.le_refl _) _).alloc (by simp) _).drew⟩

theorem fixed_is : ∀ op < 69, bits .or .u32 (bits .or .u32 ((Dec.mj op : Int) * 67108864 % 4294967296) ((Dec.mn op : Int) * 2 ^ min (Dec.lat (Dec.fm op) : Int).toNat 32 % 4294967296)) (Dec.lmark (Dec.fm op) : Int) = (Dec.fixed op : Int) := by
  decide +kernel

theorem opened_is : ∀ f < 20, bits .or .u32 (bits .or .u32 (Dec.lregs f : Int) (Dec.limm f : Int)) (Dec.lagain f : Int) = (Dec.opened f : Int) := by
  decide +kernel

theorem fixed_any (op : Nat) (ho : op < 69) (w : World) :
    Calls Tryz.prog 46 #[rowV op, layV (Dec.fm op)] w fun e w' => e = .returned (.int .u32 (Dec.fixed op : Nat)) ∧ Below w.heap.size w w' := by
  have h := fixed_raw (Dec.name op) (Dec.lname (Dec.fm op)) (Dec.fm op : Nat) (Dec.mj op : Nat) (Dec.mn op : Nat) (Dec.lregs (Dec.fm op) : Nat) (Dec.limm (Dec.fm op) : Nat) (Dec.lagain (Dec.fm op) : Nat) (Dec.lmark (Dec.fm op) : Nat) (Dec.lsigned (Dec.fm op)) (Dec.lat (Dec.fm op) : Nat) (Int.natCast_nonneg _) w
  rw [fixed_is op ho] at h
  exact h

/-- The place of an op in the tables: 69 of what is none. -/
def idx (op : Int) : Nat := if 0 ≤ op ∧ op < 69 then op.toNat else 69

/-- The program's two tables lie where they were laid. -/
structure Tabs (w : World) : Prop where
  z : ∀ i < 32, w.cell? ⟨0, i * 4, none⟩ = some (.string (Dec.name i)) ∧ w.cell? ⟨0, i * 4 + 1, none⟩ = some (.int .i64 (Dec.fm i : Nat)) ∧
    w.cell? ⟨0, i * 4 + 2, none⟩ = some (.int .u32 (Dec.mj i : Nat)) ∧ w.cell? ⟨0, i * 4 + 3, none⟩ = some (.int .u32 (Dec.mn i : Nat))
  o : ∀ i < 37, w.cell? ⟨1, i * 4, none⟩ = some (.string (Dec.name (32 + i))) ∧ w.cell? ⟨1, i * 4 + 1, none⟩ = some (.int .i64 (Dec.fm (32 + i) : Nat)) ∧
    w.cell? ⟨1, i * 4 + 2, none⟩ = some (.int .u32 (Dec.mj (32 + i) : Nat)) ∧ w.cell? ⟨1, i * 4 + 3, none⟩ = some (.int .u32 (Dec.mn (32 + i) : Nat))
  n : 2 ≤ w.heap.size

theorem bcell {W w1 : World} (hb : Below W.heap.size W w1) : (∀ b o, b < W.heap.size → w1.cell? ⟨b, o, none⟩ = W.cell? ⟨b, o, none⟩) ∧ (∀ b o, b < W.heap.size → w1.frozen? ⟨b, o, none⟩ = W.frozen? ⟨b, o, none⟩) :=
  ⟨fun b o h => hb.cell (p := ⟨b, o, none⟩) h, fun b o h => hb.frozen (p := ⟨b, o, none⟩) h⟩

theorem Tabs.on {x y : World} (t : Tabs x) (hb : Below x.heap.size x y) : Tabs y := by
  obtain ⟨hc, -⟩ := bcell hb
  have hz := hb.size
  have n := t.n
  refine ⟨fun i hi => ?_, fun i hi => ?_, by omega⟩
  · rw [hc _ _ (by omega), hc _ _ (by omega), hc _ _ (by omega), hc _ _ (by omega)]; exact t.z i hi
  · rw [hc _ _ (by omega), hc _ _ (by omega), hc _ _ (by omega), hc _ _ (by omega)]; exact t.o i hi

theorem Tabs.drew {x : World} (t : Tabs x) : Tabs x.drew := ⟨t.z, t.o, t.n⟩

theorem rowOf_low (op : Nat) (h : op < 32) (w : World) (t : Tabs w) :
    Calls Tryz.prog 22 #[.int .i64 (op : Int)] w fun e w' => e = .returned (rowV op) ∧ Below w.heap.size w w' := by
  have b1 : decide ((op : Int) < 0) = false := by simp
  have b2 : decide ((op : Int) ≥ 69) = false := by simp; omega
  have b3 : decide ((op : Int) < 32) = true := by simp; omega
  obtain ⟨c0, c1, c2, c3⟩ := t.z op h
  have hz : 0 < w.heap.size := by have := t.n; omega
  go_enter Tryz.func22, Tryz.ntmps22
  go_wp2
  refine bodyPost_ret (v := rowV op) (by simp [results, Tryz.results22, go_sem, rowV]) rfl ⟨rfl, (Below.refl _ _).alloc (Nat.le_refl _) _⟩

theorem rowOf_high (i : Nat) (h : i < 37) (w : World) (t : Tabs w) :
    Calls Tryz.prog 22 #[.int .i64 (32 + (i : Int))] w fun e w' => e = .returned (rowV (32 + i)) ∧ Below w.heap.size w w' := by
  have b1 : decide (32 + (i : Int) < 0) = false := by simp; omega
  have b2 : decide (32 + (i : Int) ≥ 69) = false := by simp; omega
  have b3 : decide (32 + (i : Int) < 32) = false := by simp; omega
  obtain ⟨c0, c1, c2, c3⟩ := t.o i h
  have hz : 1 < w.heap.size := by have := t.n; omega
  have e : wrap64 (32 + (i : Int) - 32) = (i : Int) := by unfold wrap64; omega
  go_enter Tryz.func22, Tryz.ntmps22
  go_wp2
  refine bodyPost_ret (v := rowV (32 + i)) (by simp [results, Tryz.results22, go_sem, rowV]) rfl ⟨rfl, (Below.refl _ _).alloc (Nat.le_refl _) _⟩

theorem rowOf_none (op : Int) (h : op < 0 ∨ 69 ≤ op) (w : World) :
    Calls Tryz.prog 22 #[.int .i64 op] w fun e w' => e = .returned (rowV 69) ∧ Below w.heap.size w w' := by
  rcases Int.lt_or_le op 0 with h0 | h0
  · have b1 : decide (op < 0) = true := by simp; omega
    go_enter Tryz.func22, Tryz.ntmps22
    go_wp2
    refine bodyPost_ret (v := rowV 69) ?_ rfl ⟨rfl, (Below.refl _ _).alloc (Nat.le_refl _) _⟩
    simp [results, Tryz.results22, go_sem]
    rfl
  · have b1 : decide (op < 0) = false := by simp; omega
    have b2 : decide (op ≥ 69) = true := by simp; omega
    go_enter Tryz.func22, Tryz.ntmps22
    go_wp2
    refine bodyPost_ret (v := rowV 69) ?_ rfl ⟨rfl, (Below.refl _ _).alloc (Nat.le_refl _) _⟩
    simp [results, Tryz.results22, go_sem]
    rfl

theorem rowOf_any (op : Int) (w : World) (t : Tabs w) :
    Calls Tryz.prog 22 #[.int .i64 op] w fun e w' => e = .returned (rowV (idx op)) ∧ Below w.heap.size w w' := by
  unfold idx
  split
  · rename_i h
    rcases Int.lt_or_le op 32 with h2 | h2
    · have e : op = ((op.toNat : Nat) : Int) := by omega
      have := rowOf_low op.toNat (by omega) w t
      rw [← e] at this
      exact this
    · have e : op = 32 + (((op.toNat - 32 : Nat)) : Int) := by omega
      have e2 : op.toNat = 32 + (op.toNat - 32) := by omega
      have := rowOf_high (op.toNat - 32) (by omega) w t
      rw [← e, ← e2] at this
      exact this
  · exact rowOf_none op (by omega) w

theorem idx_lt (op : Int) : Dec.fm (idx op) < 20 := by
  unfold idx
  split
  · exact (Dec.fm_lt _ (by omega)).2
  · decide

end Go.Proofs.YtahbbhgoacbejaaGreatDoor
