/- Layer 16: blocks and operations; rows in memory; what a call may change. -/
import Derived.Test.YtkmafafmnncgiaaWholeAt
import Derived.Maps.Own
import Derived.ChangeKeysEq
import Derived.Deep.RegionHeld3
import Derived.Shelf.SlicesE.Clone
namespace Go.Proofs.Ytkmafafmnncgiaa
open Go.RowKit
set_option linter.unusedVariables false
set_option linter.unusedSimpArgs false

/-- An operation. -/
structure Mi where
  k : Int
  d : Int
  a : Int
  b : Int
  m : Int
  c : Int
deriving DecidableEq

def cellsM (m : Mi) : Array Value := #[.int .i64 m.k, .int .i64 m.d, .int .i64 m.a, .int .i64 m.b, .int .u32 m.m, .int .i64 m.c]

/-- Six, so spelt that no walk opens a row of them. -/
def N6 : Nat := 6

/-- No operation. -/
def M0 : Mi := ⟨0, 0, 0, 0, 0, 0⟩

def W32 (x : Int) : Prop := 0 ≤ x ∧ x < 4294967296

/-- A block: its place, its words, its operations, those that no pass has turned. -/
structure Blk where
  pc : Int
  ws : List Int
  os : List Mi
  ps : List Mi
deriving DecidableEq

def ints (l : List Int) : List Value := l.map (Value.int .u32)
def flat (l : List Mi) : List Value := l.flatMap fun m => (cellsM m).toList

theorem ints_len (l : List Int) : (ints l).length = l.length := by simp [ints]
theorem flat_len (l : List Mi) : (flat l).length = l.length * 6 := by
  induction l with
  | nil => rfl
  | cons m r ih => simp only [flat, List.flatMap_cons, List.length_append, List.length_cons] at *; rw [ih]; simp [cellsM]; omega
theorem ints_one (l : List Int) : ∀ u ∈ ints l, u.oneCell' = true := by
  intro u hu
  obtain ⟨z, -, rfl⟩ := List.mem_map.1 hu
  rfl
theorem cellsM_one (m : Mi) : ∀ u ∈ (cellsM m).toList, u.oneCell' = true := by
  intro u hu
  simp [cellsM] at hu
  rcases hu with rfl | rfl | rfl | rfl | rfl | rfl <;> rfl
theorem flat_one (l : List Mi) : ∀ u ∈ flat l, u.oneCell' = true := by
  intro u hu
  obtain ⟨m, -, h⟩ := List.mem_flatMap.1 hu
  exact cellsM_one m u h
theorem flat_app (l r : List Mi) : flat (l ++ r) = flat l ++ flat r := List.flatMap_append
theorem ints_app (l r : List Int) : ints (l ++ r) = ints l ++ ints r := List.map_append
theorem flat_at (l : List Mi) (i : Nat) (m : Mi) (h : l[i]? = some m) (j : Nat) (hj : j < 6) : (flat l)[i * 6 + j]? = (cellsM m)[j]? := by
  induction l generalizing i with
  | nil => simp at h
  | cons x r ih =>
    have e : flat (x :: r) = (cellsM x).toList ++ flat r := rfl
    have s : (cellsM x).toList.length = 6 := rfl
    rw [e]
    cases i with
    | zero =>
      simp at h
      subst h
      rw [List.getElem?_append_left (by rw [s]; omega), Nat.zero_mul, Nat.zero_add, Array.getElem?_toList]
    | succ i =>
      rw [List.getElem?_append_right (by rw [s]; omega), s, show (i + 1) * 6 + j - 6 = i * 6 + j by omega]
      exact ih i (by simpa using h)

/-- A row that lies in blocks of F alone. -/
def Row (w : World) (F : Nat → Prop) (t : TypeId) (size : Nat) (v : Value) (n : Nat) (xs : List Value) : Prop :=
  w.ownsRow 0 t size v n xs ∧ ∀ k, v.ownBlock = some k → F k

theorem Row.keep {w y : World} {F : Nat → Prop} {t : TypeId} {size n : Nat} {v : Value} {xs : List Value} (h : Row w F t size v n xs)
    (hk : ∀ k, F k → k < w.heap.size → y.heap[k]? = w.heap[k]?) : Row y F t size v n xs := by
  refine ⟨⟨h.1.1, ?_⟩, h.2⟩
  rcases h.1.2 with hn | ⟨g, cap, cur, rfl, hb, hgg, rest⟩
  · exact .inl hn
  · exact .inr ⟨g, cap, cur, rfl, hb, (hk g (h.2 g rfl) (Array.getElem?_eq_some_iff.1 hgg).1).trans hgg, rest⟩

theorem Row.mono {w : World} {F G : Nat → Prop} {t : TypeId} {size n : Nat} {v : Value} {xs : List Value} (h : Row w F t size v n xs) (hG : ∀ k, F k → k < w.heap.size → G k) : Row w G t size v n xs :=
  ⟨h.1, fun k hk => hG k (h.2 k hk) (h.1.lt k hk).2⟩

theorem Row.on {w y : World} {F : Nat → Prop} {t : TypeId} {size n : Nat} {v : Value} {xs : List Value} (h : Row w F t size v n xs) (hb : Below w.heap.size w y) : Row y F t size v n xs :=
  h.keep fun k _ hk => hb.block k hk

theorem Row.of_own {w : World} {B : Nat} {t : TypeId} {size n : Nat} {v : Value} {xs : List Value} (h : w.ownsRow B t size v n xs) : Row w (fun k => B ≤ k) t size v n xs := by
  refine ⟨⟨h.1, ?_⟩, fun k hk => (h.lt k hk).1⟩
  rcases h.2 with hn | ⟨g, cap, cur, rfl, hb, rest⟩
  · exact .inl hn
  · exact .inr ⟨g, cap, cur, rfl, Nat.zero_le _, rest⟩

/-- Just blocks of F may have changed, and new ones may be there. -/
structure Turn (F : Nat → Prop) (w y : World) : Prop where
  os : y.os = w.os
  tape : y.tape = w.tape
  output : y.output = w.output
  size : w.heap.size ≤ y.heap.size
  block : ∀ k, k < w.heap.size → ¬ F k → y.heap[k]? = w.heap[k]?

theorem Turn.refl (F : Nat → Prop) (w : World) : Turn F w w := ⟨rfl, rfl, rfl, Nat.le_refl _, fun _ _ _ => rfl⟩
theorem Turn.of {F : Nat → Prop} {w y : World} (h : Below w.heap.size w y) : Turn F w y := ⟨h.os, h.tape, h.output, h.size, fun k hk _ => h.block k hk⟩
theorem Turn.trans {F G : Nat → Prop} {w x y : World} (h : Turn F w x) (k : Turn G x y) (hG : ∀ b, G b → F b ∨ w.heap.size ≤ b) : Turn F w y :=
  ⟨k.os.trans h.os, k.tape.trans h.tape, k.output.trans h.output, Nat.le_trans h.size k.size,
    fun b hb hF => (k.block b (Nat.lt_of_lt_of_le hb h.size) (fun g => (hG b g).elim hF (by omega))).trans (h.block b hb hF)⟩
theorem Turn.mono {F G : Nat → Prop} {w y : World} (h : Turn F w y) (hG : ∀ b, b < w.heap.size → F b → G b) : Turn G w y := ⟨h.os, h.tape, h.output, h.size, fun k hk hn => h.block k hk (fun f => hn (hG k hk f))⟩
theorem Turn.below {F : Nat → Prop} {w y : World} {B : Nat} (h : Turn F w y) (hB : B ≤ w.heap.size) (hF : ∀ b, F b → B ≤ b) : Below B w y :=
  ⟨h.os, h.tape, h.output, h.size, fun k hk => h.block k (Nat.lt_of_lt_of_le hk hB) (fun f => by have := hF k f; omega)⟩

/-- v is the block x, its rows in blocks of F. -/
def BlkAt (w : World) (F : Nat → Prop) (v : Value) (x : Blk) : Prop :=
  ∃ v1 v2 v3, v = .agg #[.int .u32 x.pc, v1, v2, v3] ∧ Row w F 32 1 v1 x.ws.length (ints x.ws) ∧ Row w F 42 6 v2 x.os.length (flat x.os) ∧
    Row w F 42 6 v3 x.ps.length (flat x.ps) ∧ W32 x.pc ∧ x.ws.length ≤ 15 ∧ x.os.length ≤ 15 ∧ x.ps.length ≤ 15

theorem BlkAt.keep {w y : World} {F : Nat → Prop} {v : Value} {x : Blk} (h : BlkAt w F v x) (hk : ∀ k, F k → k < w.heap.size → y.heap[k]? = w.heap[k]?) : BlkAt y F v x := by
  obtain ⟨v1, v2, v3, rfl, h1, h2, h3, h4⟩ := h
  exact ⟨v1, v2, v3, rfl, h1.keep hk, h2.keep hk, h3.keep hk, h4⟩
theorem BlkAt.on {w y : World} {F : Nat → Prop} {v : Value} {x : Blk} (h : BlkAt w F v x) (hb : Below w.heap.size w y) : BlkAt y F v x := h.keep fun k _ hk => hb.block k hk
theorem BlkAt.mono {w : World} {F G : Nat → Prop} {v : Value} {x : Blk} (h : BlkAt w F v x) (hG : ∀ k, F k → k < w.heap.size → G k) : BlkAt w G v x := by
  obtain ⟨v1, v2, v3, rfl, h1, h2, h3, h4⟩ := h
  exact ⟨v1, v2, v3, rfl, h1.mono hG, h2.mono hG, h3.mono hG, h4⟩

/-- No block. -/
def B0 : Blk := ⟨0, [], [], []⟩
theorem blk0 (w : World) (F : Nat → Prop) : BlkAt w F (.agg #[.int .u32 0, .slice none 0 0, .slice none 0 0, .slice none 0 0]) B0 := by
  have r : ∀ t s, Row w F t s (.slice none 0 0) 0 [] := fun t s => ⟨World.ownsRow_nil w 0 t s, fun k hk => by simp [Value.ownBlock] at hk⟩
  exact ⟨_, _, _, rfl, r _ _, r _ _, r _ _, ⟨by decide, by decide⟩, by decide, by decide, by decide⟩

theorem grow (w : World) (o : Obj) : Below w.heap.size w (w.alloc o) := (Below.refl _ w).alloc (Nat.le_refl _) o
theorem onto {n : Nat} {w x y : World} (h : Below n w x) (hn : n ≤ w.heap.size) (k : Below x.heap.size x y) : Below n w y := h.trans (k.mono (Nat.le_trans hn h.size))

/-- Where the shelf's numbers of functions and types lie in this translation: words, operations. -/
def renW : Go.Shelf.Ren := ⟨fun | 41 => 26 | n => n, fun | 22 => 35 | 23 => 32 | n => n, fun n => n⟩
def renM : Go.Shelf.Ren := ⟨fun | 41 => 29 | n => n, fun | 22 => 36 | 23 => 42 | n => n, fun n => n⟩

theorem lays41W : SlLaysE0.n41 Try.prog renW :=
  { mixed := by kernel_rfl, f41 := ⟨"slices.Clone[[]uint32,uint32]", by decide, by kernel_rfl⟩,
    t4 := by kernel_rfl, a4 := fun _ => by kernel_rfl, z4 := fun _ => by kernel_rfl, v4 := fun _ => by kernel_rfl,
    t22 := by kernel_rfl, a22 := fun _ => by kernel_rfl, z22 := fun _ => by kernel_rfl, v22 := fun _ => by kernel_rfl }

theorem lays41M : SlLaysE0.n41 Try.prog renM :=
  { mixed := by kernel_rfl, f41 := ⟨"slices.Clone[[]zoetrope/api.Micro,zoetrope/api.Micro]", by decide, by kernel_rfl⟩,
    t4 := by kernel_rfl, a4 := fun _ => by kernel_rfl, z4 := fun _ => by kernel_rfl, v4 := fun _ => by kernel_rfl,
    t22 := by kernel_rfl, a22 := fun _ => by kernel_rfl, z22 := fun _ => by kernel_rfl, v22 := fun _ => by kernel_rfl }

theorem infoW : ∃ i, Try.prog.info? 32 = some i ∧ i.zero = some (.int .u32 0) ∧ i.size = 1 ∧ i.bytes = 4 := by
  have h : (Try.prog.info? 32).map (fun i => (i.zero, i.size, i.bytes)) = some (some (.int .u32 0), 1, 4) := by kernel_rfl
  obtain ⟨i, hi, h1, h2, h3⟩ := info_parts h
  exact ⟨i, hi, h1, h2, h3⟩
theorem infoM : ∃ i, Try.prog.info? 42 = some i ∧ i.zero = some (.agg (cellsM M0)) ∧ i.size = 6 ∧ i.bytes = 48 := by
  have h : (Try.prog.info? 42).map (fun i => (i.zero, i.size, i.bytes)) = some (some (.agg (cellsM M0)), 6, 48) := by kernel_rfl
  obtain ⟨i, hi, h1, h2, h3⟩ := info_parts h
  exact ⟨i, hi, h1, h2, h3⟩

theorem wclone_any {w : World} {F : Nat → Prop} {v : Value} {n : Nat} {l : List Int} (h : Row w F 32 1 v n (ints l)) (hn : n ≤ 1000000) :
    Calls Try.prog 26 #[v] w fun e w' => ∃ v', e = .returned v' ∧ Row w' (fun k => w.heap.size ≤ k) 32 1 v' n (ints l) ∧ Below w.heap.size w w' := by
  obtain ⟨i, hi, hz, hs, hb⟩ := infoW
  rcases h.1.2 with ⟨rfl, rfl⟩ | ⟨g, cap, cur, rfl, -, hg, hc, hm, hsz, ht⟩
  · refine (AnyE.slices_Clone_nil lays41W 0 0 w).mono ?_
    rintro e w' ⟨rfl, rfl⟩
    exact ⟨_, rfl, ⟨⟨h.1.1, .inl ⟨rfl, rfl⟩⟩, fun k hk => by simp [Value.ownBlock] at hk⟩, Below.refl _ _⟩
  · refine (AnyE.slices_Clone lays41W i _ 1 4 hi hz hs hb rfl (by decide) (fun _ => by kernel_rfl) g 0 n cap (ints l) w h.1.1 (by unfold maxLen; omega) (by omega) (fun j u hj => ?_) (ints_one l)).mono ?_
    · have := h.1.cells (g := g) rfl j u hj
      rw [Addr.add_lit] at this
      exact this
    · rintro e w' ⟨v', rfl, hown, -, hbl⟩
      exact ⟨v', rfl, Row.of_own hown, hbl⟩

theorem mclone_any {w : World} {F : Nat → Prop} {v : Value} {n : Nat} {l : List Mi} (h : Row w F 42 6 v n (flat l)) (hn : n ≤ 1000000) :
    Calls Try.prog 29 #[v] w fun e w' => ∃ v', e = .returned v' ∧ Row w' (fun k => w.heap.size ≤ k) 42 6 v' n (flat l) ∧ Below w.heap.size w w' := by
  obtain ⟨i, hi, hz, hs, hb⟩ := infoM
  rcases h.1.2 with ⟨rfl, rfl⟩ | ⟨g, cap, cur, rfl, -, hg, hc, hm, hsz, ht⟩
  · refine (AnyE.slices_Clone_nil lays41M 0 0 w).mono ?_
    rintro e w' ⟨rfl, rfl⟩
    exact ⟨_, rfl, ⟨⟨h.1.1, .inl ⟨rfl, rfl⟩⟩, fun k hk => by simp [Value.ownBlock] at hk⟩, Below.refl _ _⟩
  · refine (AnyE.slices_Clone lays41M i _ 6 48 hi hz hs hb rfl (by decide) (fun _ => by kernel_rfl) g 0 n cap (flat l) w h.1.1 (by unfold maxLen; omega) (by omega) (fun j u hj => ?_) (flat_one l)).mono ?_
    · have := h.1.cells (g := g) rfl j u hj
      rw [Addr.add_lit] at this
      exact this
    · rintro e w' ⟨v', rfl, hown, -, hbl⟩
      exact ⟨v', rfl, Row.of_own hown, hbl⟩

end Go.Proofs.Ytkmafafmnncgiaa
