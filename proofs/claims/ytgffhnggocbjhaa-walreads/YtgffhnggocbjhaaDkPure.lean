/- Layer 18: what a disk is, as plain functions: sectors that are sure, loose writes in order, what is armed. -/
import Derived.Test.YtgffhnggocbjhaaDkBase
namespace Go.Proofs.Ytgffhnggocbjhaa
open Go.RowKit
set_option linter.unusedVariables false
set_option maxRecDepth 100000
set_option linter.unusedSimpArgs false

/-- A crash: what is kept, which write is torn, how many of its bytes are. -/
structure Crs where
  keep : ByteArray
  torn : Int
  bytes : Int

/-- A disk: its sectors that are sure, its loose writes, in which step the power goes (0: in none), how, is it gone, how many steps were made. -/
structure Dk where
  S : List ByteArray
  L : List (Nat × ByteArray)
  a : Nat
  c : Crs
  dead : Bool
  m : Nat

def bitAt (s : ByteArray) (i : Nat) : Bool := decide (i / 8 < s.size) && decide (byteAt s (i / 8) / 2 ^ (i % 8) % 2 = 1)
def cutN (b : Int) : Nat := (max 0 (min 64 b)).toNat
def tornT (k : Nat) (s o : ByteArray) : ByteArray := s.extract 0 k ++ o.extract k 64
def T0 : ByteArray := textOf 64 fun _ => 0

/-- The sectors behind the first k loose writes: of a crash, of a flush; what was written last to a sector. -/
def oneC (c : Crs) (k : Nat) (p : Nat × ByteArray) (S : List ByteArray) : List ByteArray :=
  if (k : Int) = c.torn then S.set p.1 (tornT (cutN c.bytes) p.2 (S.getD p.1 T0)) else if bitAt c.keep k then S.set p.1 p.2 else S
def crashK (c : Crs) (L : List (Nat × ByteArray)) (S : List ByteArray) : Nat → List ByteArray
  | 0 => S
  | k + 1 => oneC c k (L.getD k (0, T0)) (crashK c L S k)
def flushK (L : List (Nat × ByteArray)) (S : List ByteArray) : Nat → List ByteArray
  | 0 => S
  | k + 1 => (flushK L S k).set (L.getD k (0, T0)).1 (L.getD k (0, T0)).2
def readK (L : List (Nat × ByteArray)) (n : Nat) (s : ByteArray) : Nat → ByteArray
  | 0 => s
  | k + 1 => if (L.getD k (0, T0)).1 = n then (L.getD k (0, T0)).2 else readK L n s k

def Dk.crashed (c : Crs) (d : Dk) : Dk := ⟨crashK c d.L d.S d.L.length, [], 0, d.c, true, d.m⟩
def Dk.stepped (d : Dk) : Dk := if d.a = 1 then { d with m := d.m + 1 }.crashed d.c else { d with m := d.m + 1, a := d.a - 1 }
def Dk.flushed (d : Dk) : Dk := { d with S := flushK d.L d.S d.L.length, L := [] }

/-- The answers, and what a disk is behind a call. -/
def Dk.errAt (d : Dk) (n : Int) : Int := if d.dead then 2 else if n < 0 ∨ (d.S.length : Int) ≤ n then 181 else 0
def Dk.told (d : Dk) (n : Int) : ByteArray := if d.errAt n = 0 then readK d.L n.toNat (d.S.getD n.toNat T0) d.L.length else ByteArray.empty
def Dk.errW (d : Dk) (n : Int) (s : ByteArray) : Int := if d.errAt n ≠ 0 then d.errAt n else if s.size ≠ 64 then 1 else if d.a = 1 then 2 else 0
def Dk.wrote (d : Dk) (n : Int) (s : ByteArray) : Dk := if d.errAt n ≠ 0 ∨ s.size ≠ 64 then d else { d with L := d.L ++ [(n.toNat, s)] }.stepped
def Dk.errF (d : Dk) : Int := if d.dead ∨ d.a = 1 then 2 else 0
def Dk.flush (d : Dk) : Dk := if d.dead then d else if d.a = 1 then d.stepped else d.stepped.flushed
def Dk.errA (d : Dk) (n : Int) : Int := if d.dead then 2 else if n < 0 then 1 else 0
def Dk.armed (d : Dk) (n : Int) (c : Crs) : Dk := if d.dead ∨ n < 0 then d else { d with a := n.toNat, c := c }
def Dk.errC (d : Dk) : Int := if d.dead then 2 else 0
def Dk.crash (d : Dk) (c : Crs) : Dk := if d.dead then d else d.crashed c
def Dk.revived (d : Dk) : Dk := { d with dead := false, a := 0 }

/-- All sectors, one behind the other. -/
def catT : List ByteArray → ByteArray
  | [] => ByteArray.empty
  | s :: l => s ++ catT l

/-- A new one. -/
def newD (n : Nat) : Dk := ⟨List.replicate n T0, [], 0, ⟨ByteArray.empty, 0, 0⟩, false, 0⟩

/-- What a disk keeps to. -/
structure Dk.Good (d : Dk) : Prop where
  s1 : 1 ≤ d.S.length
  s2 : d.S.length ≤ 4096
  s64 : ∀ s ∈ d.S, s.size = 64
  l64 : ∀ p ∈ d.L, p.1 < d.S.length ∧ p.2.size = 64
  a63 : d.a < 9223372036854775808

theorem T0_size : T0.size = 64 := textOf_size _ _
theorem cutN_le (b : Int) : cutN b ≤ 64 := by unfold cutN; omega
theorem tornT_size {k : Nat} {s o : ByteArray} (hk : k ≤ 64) (hs : s.size = 64) (ho : o.size = 64) : (tornT k s o).size = 64 := by
  simp [tornT, ByteArray.size_append, ByteArray.size_extract, hs, ho]; omega

theorem getD_mem {α : Type} {l : List α} {k : Nat} {d : α} (h : k < l.length) : l.getD k d ∈ l := by
  rw [List.getD_eq_getElem?_getD, List.getElem?_eq_getElem h]; simp
theorem getD_some {α : Type} {l : List α} {k : Nat} {d x : α} (h : l[k]? = some x) : l.getD k d = x := by
  rw [List.getD_eq_getElem?_getD, h]; rfl

theorem set_64 {S : List ByteArray} {n : Nat} {s : ByteArray} (h : ∀ s ∈ S, s.size = 64) (hs : s.size = 64) : ∀ x ∈ S.set n s, x.size = 64 := fun x hx => by
  rcases List.mem_or_eq_of_mem_set hx with h' | rfl
  · exact h x h'
  · exact hs

theorem oneC_good {c : Crs} {k : Nat} {p : Nat × ByteArray} {S : List ByteArray} (h : ∀ s ∈ S, s.size = 64) (hp : p.2.size = 64) : (oneC c k p S).length = S.length ∧ ∀ s ∈ oneC c k p S, s.size = 64 := by
  unfold oneC
  split
  · refine ⟨by simp, set_64 h (tornT_size (cutN_le _) hp ?_)⟩
    rw [List.getD_eq_getElem?_getD]
    cases e : S[p.1]? with
    | none => exact T0_size
    | some x => exact h x (List.mem_of_getElem? e)
  · split
    · exact ⟨by simp, set_64 h hp⟩
    · exact ⟨rfl, h⟩

theorem crashK_good {c : Crs} {L : List (Nat × ByteArray)} {S : List ByteArray} (h : ∀ s ∈ S, s.size = 64) (hL : ∀ p ∈ L, p.2.size = 64) : ∀ k, k ≤ L.length → (crashK c L S k).length = S.length ∧ ∀ s ∈ crashK c L S k, s.size = 64
  | 0, _ => ⟨rfl, h⟩
  | k + 1, hk => by
    obtain ⟨e, g⟩ := crashK_good h hL k (by omega)
    obtain ⟨e', g'⟩ := oneC_good (c := c) (k := k) g (hL _ (getD_mem (d := (0, T0)) (show k < L.length by omega)))
    exact ⟨e'.trans e, g'⟩

theorem flushK_good {L : List (Nat × ByteArray)} {S : List ByteArray} (h : ∀ s ∈ S, s.size = 64) (hL : ∀ p ∈ L, p.2.size = 64) : ∀ k, k ≤ L.length → (flushK L S k).length = S.length ∧ ∀ s ∈ flushK L S k, s.size = 64
  | 0, _ => ⟨rfl, h⟩
  | k + 1, hk => by
    obtain ⟨e, g⟩ := flushK_good h hL k (by omega)
    exact ⟨by simp [flushK, e], set_64 g (hL _ (getD_mem (d := (0, T0)) (show k < L.length by omega)))⟩

theorem readK_size {L : List (Nat × ByteArray)} {n : Nat} {s : ByteArray} (h : s.size = 64) (hL : ∀ p ∈ L, p.2.size = 64) : ∀ k, k ≤ L.length → (readK L n s k).size = 64
  | 0, _ => h
  | k + 1, hk => by
    unfold readK
    split
    · exact hL _ (getD_mem (show k < L.length by omega))
    · exact readK_size h hL k (by omega)

theorem Dk.Good.crashed {d : Dk} (g : d.Good) (c : Crs) : (d.crashed c).Good := by
  obtain ⟨e, h⟩ := crashK_good (c := c) g.s64 (fun p hp => (g.l64 p hp).2) d.L.length (Nat.le_refl _)
  exact ⟨by simp [Dk.crashed, e, g.s1], by simp [Dk.crashed, e, g.s2], h, fun p hp => (by cases hp), by simp [Dk.crashed]⟩
theorem Dk.Good.stepped {d : Dk} (g : d.Good) : d.stepped.Good := by
  unfold Dk.stepped
  have g' : Dk.Good { d with m := d.m + 1 } := ⟨g.s1, g.s2, g.s64, g.l64, g.a63⟩
  split
  · exact g'.crashed _
  · exact ⟨g.s1, g.s2, g.s64, g.l64, Nat.lt_of_le_of_lt (Nat.sub_le _ _) g.a63⟩
theorem Dk.Good.flushed {d : Dk} (g : d.Good) : d.flushed.Good := by
  obtain ⟨e, h⟩ := flushK_good g.s64 (fun p hp => (g.l64 p hp).2) d.L.length (Nat.le_refl _)
  exact ⟨by simp [Dk.flushed, e, g.s1], by simp [Dk.flushed, e, g.s2], h, fun p hp => (by cases hp), g.a63⟩
theorem Dk.Good.flush {d : Dk} (g : d.Good) : d.flush.Good := by
  unfold Dk.flush
  split
  · exact g
  · split
    · exact g.stepped
    · exact g.stepped.flushed
theorem Dk.Good.loose {d : Dk} (g : d.Good) {n : Nat} {s : ByteArray} (hn : n < d.S.length) (hs : s.size = 64) : Dk.Good { d with L := d.L ++ [(n, s)] } :=
  ⟨g.s1, g.s2, g.s64, fun p hp => by
    rcases List.mem_append.1 hp with h | h
    · exact g.l64 p h
    · simp at h; subst h; exact ⟨hn, hs⟩, g.a63⟩
theorem Dk.Good.wrote {d : Dk} (g : d.Good) (n : Int) (s : ByteArray) : (d.wrote n s).Good := by
  unfold Dk.wrote
  split
  · exact g
  · next h =>
    have h1 : d.errAt n = 0 := by by_cases e : d.errAt n = 0; exact e; exact (h (.inl e)).elim
    have h2 : s.size = 64 := by by_cases e : s.size = 64; exact e; exact (h (.inr e)).elim
    refine (g.loose ?_ h2).stepped
    unfold Dk.errAt at h1
    split at h1
    · cases h1
    · split at h1
      · cases h1
      · omega
theorem Dk.Good.armed {d : Dk} (g : d.Good) {n : Int} (hn : n < 9223372036854775808) (c : Crs) : (d.armed n c).Good := by
  unfold Dk.armed
  split
  · exact g
  · exact ⟨g.s1, g.s2, g.s64, g.l64, by show n.toNat < _; omega⟩
theorem Dk.Good.crash {d : Dk} (g : d.Good) (c : Crs) : (d.crash c).Good := by
  unfold Dk.crash
  split
  · exact g
  · exact g.crashed c
theorem Dk.Good.revived {d : Dk} (g : d.Good) : d.revived.Good := ⟨g.s1, g.s2, g.s64, g.l64, by simp [Dk.revived]⟩
theorem newD_good {n : Nat} (h1 : 1 ≤ n) (h2 : n ≤ 4096) : (newD n).Good :=
  ⟨by simp [newD, h1], by simp [newD, h2], fun s hs => by simp [newD] at hs; rw [hs.2, T0_size], fun p hp => (by cases hp), by simp [newD]⟩

/-- How many sectors there are does not change. -/
theorem crashed_len {d : Dk} (g : d.Good) (c : Crs) : (d.crashed c).S.length = d.S.length := (crashK_good (c := c) g.s64 (fun p hp => (g.l64 p hp).2) d.L.length (Nat.le_refl _)).1
theorem flushed_len {d : Dk} (g : d.Good) : d.flushed.S.length = d.S.length := (flushK_good g.s64 (fun p hp => (g.l64 p hp).2) d.L.length (Nat.le_refl _)).1
theorem stepped_len {d : Dk} (g : d.Good) : d.stepped.S.length = d.S.length := by
  unfold Dk.stepped
  split
  · exact crashed_len (d := { d with m := d.m + 1 }) ⟨g.s1, g.s2, g.s64, g.l64, g.a63⟩ _
  · rfl

/-- The image. -/
theorem catT_size : ∀ {S : List ByteArray}, (∀ s ∈ S, s.size = 64) → (catT S).size = 64 * S.length
  | [], _ => rfl
  | s :: l, h => by
    rw [catT, ByteArray.size_append, h s (by simp), catT_size (fun x hx => h x (by simp [hx])), List.length_cons]; omega
theorem catT_app : ∀ (S R : List ByteArray), catT (S ++ R) = catT S ++ catT R
  | [], R => by simp [catT]
  | s :: l, R => by rw [List.cons_append, catT, catT, catT_app l R, ByteArray.append_assoc]
theorem extract_list (s : ByteArray) (a b : Nat) : (s.extract a b).data.toList = (s.data.toList.drop a).take (b - a) := by
  rw [ByteArray.data_extract, Array.toList_extract, List.extract_eq_take_drop]
theorem catT_at : ∀ {S : List ByteArray}, (∀ s ∈ S, s.size = 64) → ∀ (k : Nat) x, S[k]? = some x → (catT S).extract (64 * k) (64 * k + 64) = x
  | [], _, k, x, h => by simp at h
  | s :: l, hS, 0, x, h => by
    simp at h
    subst h
    apply text_ext
    have hs : s.data.toList.length = 64 := by rw [Array.length_toList]; exact hS s (by simp)
    rw [extract_list, catT, ByteArray.data_append, Array.toList_append]
    simp [hs, List.take_append_of_le_length, List.take_of_length_le]
  | s :: l, hS, k + 1, x, h => by
    have ih := catT_at (S := l) (fun y hy => hS y (by simp [hy])) k x (by simpa using h)
    rw [← ih]
    apply text_ext
    have hs : s.data.toList.length = 64 := by rw [Array.length_toList]; exact hS s (by simp)
    rw [extract_list, extract_list, catT, ByteArray.data_append, Array.toList_append, List.drop_append, hs, show 64 * (k + 1) - 64 = 64 * k by omega, List.drop_eq_nil_of_le (by rw [hs]; omega), List.nil_append]
    congr 1
    omega
theorem catT_inj : ∀ {S R : List ByteArray}, (∀ s ∈ S, s.size = 64) → (∀ s ∈ R, s.size = 64) → S.length = R.length → catT S = catT R → S = R := fun {S R} hS hR hl h => by
  apply List.ext_getElem?
  intro k
  by_cases hk : k < S.length
  · have h1 := catT_at hS k _ (List.getElem?_eq_getElem hk)
    have h2 := catT_at hR k _ (List.getElem?_eq_getElem (show k < R.length by omega))
    rw [List.getElem?_eq_getElem hk, List.getElem?_eq_getElem (show k < R.length by omega), ← h1, ← h2, h]
  · rw [List.getElem?_eq_none (by omega), List.getElem?_eq_none (by omega)]

end Go.Proofs.Ytgffhnggocbjhaa
