/- Layer 10: a uart and a row of numbers that go side by side. -/
import Derived.Test.YtgcdohkpoaklbaaUaHeld
import Derived.OwnWalk
import Derived.RangeFuncBox
namespace Go.Proofs.Ytgcdohkpoaklbaa
open Go.RowKit
set_option linter.unusedVariables false
set_option linter.unusedSimpArgs false

/-- A uart with these bytes In. -/
def UI (i : ByteArray) : Ua := ⟨i, ⟨#[]⟩, false⟩

/-- A text's bytes as a row of words. -/
def wv (i : ByteArray) : List Value := (lst i).map fun b => Value.int .u32 (b.toNat : Int)

theorem wv_length (i : ByteArray) : (wv i).length = i.size := by
  unfold wv
  rw [List.length_map, lst_length]

theorem wv_one (i : ByteArray) : ∀ u ∈ wv i, u.oneCell' = true := by
  intro u hu
  unfold wv at hu
  obtain ⟨b, -, rfl⟩ := List.mem_map.1 hu
  rfl

theorem wv_push (i : ByteArray) (c : Nat) (h : c < 256) : wv (i ++ byteT c) = wv i ++ [.int .u32 (c : Int)] := by
  unfold wv
  rw [lst_append, lst_byteT, List.map_append]
  simp
  omega

theorem wv_tail (i : ByteArray) : wv (i.extract 1 i.size) = (wv i).drop 1 := by
  unfold wv
  rw [lst_extract, List.take_of_length_le (by have := lst_length i; simp; omega), List.map_drop]

theorem wv_head (i : ByteArray) (h : 0 < i.size) : (wv i)[0]? = some (.int .u32 (byteN i 0 : Int)) := by
  unfold wv byteN
  have hl := lst_length i
  unfold lst at hl ⊢
  cases e : i.data.toList with
  | nil => rw [e] at hl; simp at hl; omega
  | cons a l => simp

/-- In block U a uart with the bytes I In; the row v, of the call's own, has the bytes J; nothing that was there has changed. -/
structure St (w : World) (I J : ByteArray) (v : Value) (x : World) : Prop where
  u : x.heap[w.heap.size + 1]? = some (.cells (cellsU (UI I)) 23 (0, 0))
  o : x.ownsRow w.heap.size 24 1 v J.size (wv J)
  b : Below w.heap.size w x

theorem St.lt {w x : World} {I J : ByteArray} {v : Value} (h : St w I J v x) : w.heap.size + 1 < x.heap.size := (Array.getElem?_eq_some_iff.1 h.u).1

theorem St.rat {w x : World} {I J : ByteArray} {v : Value} (h : St w I J v x) : Rat x (w.heap.size + 1) (UI I) :=
  ⟨by unfold isRow; rw [h.u]; simp, by unfold rowAt; rw [h.u], h.lt⟩

/-- The row does not lie where the uart lies. -/
theorem St.ne {w x : World} {I J : ByteArray} {v : Value} (h : St w I J v x) : v.ownBlock ≠ some (w.heap.size + 1) := by
  intro e
  rcases h.o.2 with ⟨rfl, -⟩ | ⟨g, cap, cur, rfl, -, hg, -⟩
  · simp [Value.ownBlock] at e
  · simp [Value.ownBlock] at e
    subst e
    rw [h.u] at hg
    injection hg with hg
    injection hg with h1 h2 h3
    exact absurd h2 (by decide)

theorem grown_of {w w' : World} (h : Below w.heap.size w w') : w.grownBy w' none := ⟨h.os, h.tape, h.output, h.size, fun k hk _ => h.block k hk⟩

theorem own_not_none {v : Value} : v.ownBlock = none ∨ v.ownBlock ≠ none := by
  cases v.ownBlock <;> simp

theorem St.on {w x y : World} {I J : ByteArray} {v : Value} (h : St w I J v x) (hb : Below x.heap.size x y) : St w I J v y :=
  ⟨by rw [hb.block _ h.lt]; exact h.u, h.o.kept (grown_of hb) own_not_none, onto h.b (Nat.le_refl _) hb⟩

/-- Behind a store into another block that came later. -/
theorem St.far {w x : World} {I J : ByteArray} {v : Value} (h : St w I J v x) (g : Nat) (c : Array Value) (hg : w.heap.size + 1 < g) (hv : v.ownBlock ≠ some g) : St w I J v (x.setRow g c) := by
  refine ⟨by rw [setRow_other _ _ _ _ (by omega)]; exact h.u, h.o.kept (row := some g) ⟨rfl, rfl, rfl, by rw [setRow_size]; exact Nat.le_refl _, fun k hk hne => setRow_other _ _ _ _ (fun e => hne (by rw [e]))⟩ (Or.inr hv), below_setRow h.b (by omega) c⟩

/-- Behind a store of another uart. -/
theorem St.put {w x : World} {I J : ByteArray} {v : Value} (h : St w I J v x) (I' : ByteArray) : St w I' J v (x.setRow (w.heap.size + 1) (cellsU (UI I'))) :=
  ⟨setRow_heap x _ _ _ _ _ h.u, h.o.kept (row := some (w.heap.size + 1)) ⟨rfl, rfl, rfl, by rw [setRow_size]; exact Nat.le_refl _, fun k hk hne => setRow_other _ _ _ _ (fun e => hne (by rw [e]))⟩ (Or.inr h.ne), below_setRow h.b (by omega) _⟩

/-- Behind an append to a row of the call's own. -/
theorem St.app {w x y : World} {I J J' : ByteArray} {v v1 v' : Value} (h : St w I J v x) (ho : y.ownsRow w.heap.size 24 1 v' J'.size (wv J')) (hg : x.grownBy y v1.ownBlock) (hne : v1.ownBlock ≠ some (w.heap.size + 1)) (hlt : ∀ k, v1.ownBlock = some k → w.heap.size ≤ k) : St w I J' v' y :=
  ⟨by rw [hg.block _ h.lt (fun e => hne e.symm)]; exact h.u, ho, h.b.grown hg h.b.size hlt⟩

theorem St.own {w x : World} {I J : ByteArray} {v : Value} (h : St w I J v x) : ∀ k, v.ownBlock = some k → w.heap.size ≤ k := fun k hk => (h.o.lt k hk).1

theorem own_len {w : World} {base n : Nat} {e : TypeId} {v : Value} {xs : List Value} (h : w.ownsRow base e 1 v n xs) : ∃ a c, v = .slice a n c ∧ n ≤ c := by
  rcases h with ⟨hl, ⟨rfl, rfl⟩ | ⟨g, cap, cur, rfl, -, -, hc, -⟩⟩
  · exact ⟨_, _, rfl, Nat.le_refl _⟩
  · exact ⟨_, _, rfl, hc⟩

theorem St.start (w : World) : St w ⟨#[]⟩ ⟨#[]⟩ (.slice (some ⟨w.heap.size, 0, none⟩) 0 0) ((w.alloc (.cells #[] 24)).alloc (.cells (cellsU U0) 23)) := by
  refine ⟨?_, ?_, (grow _ _).alloc (by simp) _⟩
  · have := heap_alloc_new (w.alloc (.cells #[] 24)) (.cells (cellsU U0) 23)
    rw [show (w.alloc (.cells #[] 24)).heap.size = w.heap.size + 1 by simp] at this
    exact this
  · exact (World.ownsRow_made w #[] 0 (Nat.le_refl _) (Nat.zero_le _) (by simp)).alloc _

theorem UI_fits {i : ByteArray} (h : i.size ≤ 16) : Fits (UI i) := ⟨h, by show (0 : Nat) ≤ 64; omega⟩

/-- What a byte that comes in makes of these. -/
def feedI (i : ByteArray) (c : Int) : ByteArray := if i.size < 16 then i ++ byteT c else i

theorem feed_in (i : ByteArray) (h : i.size ≤ 16) (c : Int) (h0 : 0 ≤ c) (h1 : c < 256) (w : World) :
    Calls Try.prog 13 #[.agg (cellsU (UI i)), .int .u8 c] w fun e w' => e = .returned (.tuple #[.agg (cellsU (UI (feedI i c))), .bool (decide (i.size < 16))]) ∧ Below w.heap.size w w' := by
  have hc := feed_any (UI i) c h0 h1 (by show i.size ≤ 1000; omega) w
  rwa [show feedV (UI i) c = UI (feedI i c) by
    unfold feedV feedI UI
    simp only
    split <;> rfl] at hc

theorem read_in (i : ByteArray) (h : i.size ≤ 16) (w : World) :
    Calls Try.prog 9 #[.agg (cellsU (UI i)), .int .u32 0] w fun e w' => e = .returned (.tuple #[.int .u32 (byteN i 0), .agg (cellsU (UI (i.extract 1 i.size))), .int .i64 0]) ∧ Below w.heap.size w w' :=
  read_any (UI i) (UI_fits h) 0 w

theorem count_in (i : ByteArray) (h : i.size ≤ 16) (w : World) :
    Calls Try.prog 9 #[.agg (cellsU (UI i)), .int .u32 4] w fun e w' => e = .returned (.tuple #[.int .u32 i.size, .agg (cellsU (UI i)), .int .i64 0]) ∧ Below w.heap.size w w' :=
  read_any (UI i) (UI_fits h) 4 w

theorem and255 (n : Int) : bits .and .i64 n 255 = n % 256 := by
  have e : (BitVec.ofInt 64 n &&& BitVec.ofInt 64 255).toNat = (n % 18446744073709551616).toNat % 256 := by
    rw [BitVec.toNat_and, BitVec.toNat_ofInt, BitVec.toNat_ofInt]
    have := Nat.and_two_pow_sub_one_eq_mod (n % 18446744073709551616).toNat 8
    exact this
  show IntKind.i64.wrap ((BitVec.ofInt 64 n &&& BitVec.ofInt 64 255).toNat : Int) = n % 256
  rw [e]
  simp [IntKind.wrap, IntKind.bits, IntKind.signed]
  omega

/-- What is known of a row of numbers, in one way for all of them. -/
theorem IsInts.open' {w : World} {v : Value} {zs : List Int} (h : IsInts w v zs) :
    ∃ ad n c, v = .slice ad n c ∧ n = zs.length ∧ n ≤ maxLen ∧ ∀ (i : Nat) (z : Int), zs[i]? = some z → (-9223372036854775808 ≤ z ∧ z ≤ 9223372036854775807) ∧ ∃ b off, ad = some ⟨b, off, none⟩ ∧ b < w.heap.size ∧ w.cell? ⟨b, off + i, none⟩ = some (.int .i64 z) := by
  rcases h with ⟨a, c, rfl, rfl⟩ | ⟨b, off, c, rfl, hl, hb, hx⟩
  · exact ⟨a, 0, c, rfl, rfl, Nat.zero_le _, fun i o h => by simp at h⟩
  · exact ⟨_, _, c, rfl, rfl, hl, fun i z h => ⟨(hx i z h).1, b, off, rfl, hb, (hx i z h).2⟩⟩

end Go.Proofs.Ytgcdohkpoaklbaa
