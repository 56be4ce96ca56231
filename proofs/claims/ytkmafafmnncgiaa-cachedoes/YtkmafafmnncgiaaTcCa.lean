/- Layer 16: a cache and the blocks that it keeps: the calls. -/
import Derived.Test.YtkmafafmnncgiaaTcDrop
namespace Go.Proofs.Ytkmafafmnncgiaa
open Go.RowKit
set_option linter.unusedVariables false
set_option linter.unusedSimpArgs false

/-- A cache with room r in block cb, all its memory in blocks of F, with the blocks L, the oldest first. -/
def Ca (base : Nat) (w : World) (F : Nat → Prop) (cb r : Nat) (L : List Blk) : Prop :=
  ∃ mb ov E, CacheAt w F cb mb ov r E ∧ blks E = L ∧ ∀ k, F k → base ≤ k ∧ k < w.heap.size

def putL (r : Nat) (L : List Blk) (x : Blk) : List Blk := trim r (L.filter fun y => !(y.pc == x.pc)) ++ [x]
def dropL (f s : Int) (L : List Blk) : List Blk := L.filter fun y => !(hitV y f s)
def hitsL (f s : Int) (L : List Blk) : Nat := L.countP fun y => hitV y f s
def pcL (L : List Blk) : List Int := L.map (·.pc)

theorem blks_wout (E : List (Blk × Value)) (pc : Int) : blks (wout E pc) = (blks E).filter fun y => !(y.pc == pc) := by
  unfold blks wout
  rw [List.filter_map]
  rfl
theorem blks_len (E : List (Blk × Value)) : (blks E).length = E.length := by simp [blks]
theorem blks_trim (r : Nat) (E : List (Blk × Value)) : blks (trim r E) = trim r (blks E) := by
  unfold trim
  rw [blks_len]
  split
  · simp [blks]
  · rfl
theorem blks_keep (f s : Int) (E : List (Blk × Value)) : blks (keepE f s E) = dropL f s (blks E) := by
  unfold blks keepE dropL
  rw [List.filter_map]
  rfl
theorem hits_blks (f s : Int) (E : List (Blk × Value)) : hitsE f s E = hitsL f s (blks E) := by
  unfold hitsE hitsL blks
  rw [List.countP_map]
  rfl
theorem pcs_blks (E : List (Blk × Value)) : pcs E = pcL (blks E) := by
  unfold pcs pcL blks
  rw [List.map_map]
  rfl

theorem Ca.nodup {base : Nat} {w : World} {F : Nat → Prop} {cb r : Nat} {L : List Blk} (h : Ca base w F cb r L) : (pcL L).Nodup := by
  obtain ⟨mb, ov, E, C, rfl, hF⟩ := h
  rw [← pcs_blks]
  exact C.nodup
theorem Ca.le {base : Nat} {w : World} {F : Nat → Prop} {cb r : Nat} {L : List Blk} (h : Ca base w F cb r L) : L.length ≤ r ∧ 1 ≤ r ∧ r ≤ 64 := by
  obtain ⟨mb, ov, E, C, rfl, hF⟩ := h
  rw [blks_len]
  exact ⟨C.le, C.r1, C.r64⟩
theorem Ca.in' {base : Nat} {w : World} {F : Nat → Prop} {cb r : Nat} {L : List Blk} (h : Ca base w F cb r L) : ∀ k, F k → base ≤ k ∧ k < w.heap.size := by
  obtain ⟨mb, ov, E, C, rfl, hF⟩ := h
  exact hF
theorem Ca.keep {base : Nat} {w y : World} {F : Nat → Prop} {cb r : Nat} {L : List Blk} (h : Ca base w F cb r L) (hs : w.heap.size ≤ y.heap.size) (hk : ∀ k, F k → y.heap[k]? = w.heap[k]?) : Ca base y F cb r L := by
  obtain ⟨mb, ov, E, C, rfl, hF⟩ := h
  exact ⟨mb, ov, E, C.keep fun k h _ => hk k h, rfl, fun k h => ⟨(hF k h).1, Nat.lt_of_lt_of_le (hF k h).2 hs⟩⟩
theorem Ca.on {base : Nat} {w y : World} {F : Nat → Prop} {cb r : Nat} {L : List Blk} (h : Ca base w F cb r L) (hb : Below w.heap.size w y) : Ca base y F cb r L := h.keep hb.size fun k hk => hb.block k (h.in' k hk).2
theorem Ca.below {base : Nat} {w y : World} {F : Nat → Prop} {cb r : Nat} {L : List Blk} (h : Ca base w F cb r L) (T : Turn F w y) (hb : base ≤ w.heap.size) : Below base w y := T.below hb fun b f => (h.in' b f).1

theorem ca_new (r : Nat) (h1 : 1 ≤ r) (h64 : r ≤ 64) (w : World) :
    Calls Try.prog 7 #[.int .i64 r] w fun e w' => ∃ cb F, e = .returned (.tuple #[.pointer (some ⟨cb, 0, none⟩), .int .i64 0]) ∧ Ca w.heap.size w' F cb r [] ∧ Below w.heap.size w w' := by
  refine (new_any r h1 h64 w).mono ?_
  rintro e w' ⟨cb, mb, rfl, C, hb⟩
  exact ⟨cb, fun k => w.heap.size ≤ k ∧ k < w'.heap.size, rfl, ⟨mb, _, [], C.mono fun k h h' => ⟨h, h'⟩, rfl, fun k h => h⟩, hb⟩

theorem ca_put {base : Nat} {w : World} {F F' : Nat → Prop} {cb r : Nat} {L : List Blk} (h : Ca base w F cb r L) (hbase : base ≤ w.heap.size) {v : Value} {x : Blk} (hB : BlkAt w F' v x) (hFF : ∀ k, F' k → ¬ F k) :
    Calls Try.prog 10 #[.pointer (some ⟨cb, 0, none⟩), v] w fun e w' => e = .returned (.tuple #[]) ∧ ∃ G, Ca base w' G cb r (putL r L x) ∧ Turn F w w' ∧ ∀ k, G k → F k ∨ w.heap.size ≤ k := by
  obtain ⟨mb, ov, E, C, rfl, hF⟩ := h
  refine (put_any C hB hFF).mono ?_
  rintro e w' ⟨rfl, G, ov', v', C', T, hG⟩
  refine ⟨rfl, G, ⟨mb, ov', _, C', ?_, fun k h => ⟨?_, (hG k h).2⟩⟩, T, fun k h => (hG k h).1⟩
  · have : blks (trim r (wout E x.pc) ++ [(x, v')]) = blks (trim r (wout E x.pc)) ++ [x] := by simp [blks]
    rw [this, blks_trim, blks_wout]
    rfl
  · rcases (hG k h).1 with h | h
    · exact (hF k h).1
    · exact Nat.le_trans hbase h

theorem ca_get {base : Nat} {w : World} {F : Nat → Prop} {cb r : Nat} {L : List Blk} (h : Ca base w F cb r L) (pc : Int) :
    Calls Try.prog 12 #[.pointer (some ⟨cb, 0, none⟩), .int .u32 pc] w fun e w' =>
      ∃ v', e = .returned (.tuple #[v', .bool (getL L pc).isSome]) ∧ BlkAt w' (fun k => w.heap.size ≤ k) v' ((getL L pc).getD B0) ∧ Below w.heap.size w w' := by
  obtain ⟨mb, ov, E, C, rfl, hF⟩ := h
  exact get_any C pc

theorem ca_places {base : Nat} {w : World} {F : Nat → Prop} {cb r : Nat} {L : List Blk} (h : Ca base w F cb r L) :
    Calls Try.prog 19 #[.pointer (some ⟨cb, 0, none⟩)] w fun e w' => ∃ v', e = .returned v' ∧ Row w' (fun k => w.heap.size ≤ k) 32 1 v' L.length (ints (pcL L)) ∧ Below w.heap.size w w' := by
  obtain ⟨mb, ov, E, C, rfl, hF⟩ := h
  have := places_any C
  rwa [pcs_blks, show (pcL (blks E)).length = (blks E).length by simp [pcL]] at this

theorem ca_drop {base : Nat} {w : World} {F : Nat → Prop} {cb r : Nat} {L : List Blk} (h : Ca base w F cb r L) (f s : Int) (hf : W32 f) (hs : W32 s) :
    Calls Try.prog 15 #[.pointer (some ⟨cb, 0, none⟩), .int .u32 f, .int .u32 s] w fun e w' => e = .returned (.int .i64 (hitsL f s L)) ∧ Ca base w' F cb r (dropL f s L) ∧ Turn F w w' := by
  obtain ⟨mb, ov, E, C, rfl, hF⟩ := h
  refine (drop_any C f s hf hs).mono ?_
  rintro e w' ⟨rfl, ov', C', T⟩
  rw [hits_blks]
  exact ⟨rfl, ⟨mb, ov', _, C', blks_keep f s E, fun k h => ⟨(hF k h).1, Nat.lt_of_lt_of_le (hF k h).2 T.size⟩⟩, T⟩

theorem ca_flush {base : Nat} {w : World} {F : Nat → Prop} {cb r : Nat} {L : List Blk} (h : Ca base w F cb r L) :
    Calls Try.prog 17 #[.pointer (some ⟨cb, 0, none⟩)] w fun e w' => e = .returned (.tuple #[]) ∧ Ca base w' F cb r [] ∧ Turn F w w' := by
  obtain ⟨mb, ov, E, C, rfl, hF⟩ := h
  refine (flush_any C).mono ?_
  rintro e w' ⟨rfl, ov', C', T⟩
  exact ⟨rfl, ⟨mb, ov', _, C', rfl, fun k h => ⟨(hF k h).1, Nat.lt_of_lt_of_le (hF k h).2 T.size⟩⟩, T⟩

end Go.Proofs.Ytkmafafmnncgiaa
