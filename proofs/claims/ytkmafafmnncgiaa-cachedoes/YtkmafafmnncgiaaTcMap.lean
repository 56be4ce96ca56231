/- Layer 16: a map's entries, in the order in which they were put. -/
import Derived.Test.YtkmafafmnncgiaaTcPlain
import Derived.Maps.OwnSet
namespace Go.Proofs.Ytkmafafmnncgiaa
open Go.RowKit Go.ChangeMaps
set_option linter.unusedVariables false
set_option linter.unusedSimpArgs false

/-- Block b is a map with the entries K, the oldest first. -/
def MapIs (w : World) (b : Nat) (K : List (Int × Value)) : Prop :=
  ∃ es clock, w.heap[b]? = some (.map es clock) ∧ es.toList.map (fun e => (e.key, e.val)) = K.map (fun p => (Value.int .u32 p.1, p.2))

theorem MapIs.keep {w y : World} {b : Nat} {K : List (Int × Value)} (h : MapIs w b K) (e : y.heap[b]? = w.heap[b]?) : MapIs y b K := by
  obtain ⟨es, clock, hb, hK⟩ := h
  exact ⟨es, clock, e.trans hb, hK⟩

theorem MapIs.lt {w : World} {b : Nat} {K : List (Int × Value)} (h : MapIs w b K) : b < w.heap.size := by
  obtain ⟨es, clock, hb, hK⟩ := h
  exact (Array.getElem?_eq_some_iff.1 hb).1

theorem find_no (k : Int) : ∀ (l : List MapEntry) (K : List (Int × Value)) (i : Nat), l.map (fun e => (e.key, e.val)) = K.map (fun p => (Value.int .u32 p.1, p.2)) → (∀ p ∈ K, p.1 ≠ k) →
    Instr.findNow (.int .u32) (.int .u32 k) l i = some none
  | [], _, _, _, _ => rfl
  | e :: es, [], _, h, _ => by simp at h
  | e :: es, p :: K, i, h, hk => by
    simp only [List.map_cons, List.cons.injEq, Prod.mk.injEq] at h
    obtain ⟨⟨h1, h2⟩, h3⟩ := h
    have hne : (k == p.1) = false := by simpa using fun e => hk p (by simp) e.symm
    simp only [Instr.findNow, h1, Instr.sameNow, hne]
    exact find_no k es K (i + 1) h3 (fun q hq => hk q (by simp [hq]))

theorem find_yes (k : Int) (v : Value) : ∀ (l : List MapEntry) (K1 K2 : List (Int × Value)) (i : Nat), l.map (fun e => (e.key, e.val)) = (K1 ++ (k, v) :: K2).map (fun p => (Value.int .u32 p.1, p.2)) → (∀ p ∈ K1, p.1 ≠ k) →
    Instr.findNow (.int .u32) (.int .u32 k) l i = some (some (i + K1.length, v))
  | [], K1, _, _, h, _ => by cases K1 <;> simp at h
  | e :: es, [], K2, i, h, _ => by
    simp only [List.nil_append, List.map_cons, List.cons.injEq, Prod.mk.injEq] at h
    obtain ⟨⟨h1, h2⟩, h3⟩ := h
    simp [Instr.findNow, h1, Instr.sameNow, h2]
  | e :: es, p :: K1, K2, i, h, hk => by
    simp only [List.cons_append, List.map_cons, List.cons.injEq, Prod.mk.injEq] at h
    obtain ⟨⟨h1, h2⟩, h3⟩ := h
    have hne : (k == p.1) = false := by simpa using fun e => hk p (by simp) e.symm
    simp only [Instr.findNow, h1, Instr.sameNow, hne]
    rw [find_yes k v es K1 K2 (i + 1) h3 (fun q hq => hk q (by simp [hq])), List.length_cons, show i + 1 + K1.length = i + (K1.length + 1) by omega]
    simp

/-- Noughts for a block. -/
def Z4 : Value := .agg #[.int .u32 0, .slice none 0 0, .slice none 0 0, .slice none 0 0]

theorem uMap : Try.prog.underlying 52 = some (.map 32 38) := Try.underlying52

theorem chkKey (em : Bool) (k : Int) (w : World) : (Instr.checkKey em 10000 32 (.int .u32 k)).run Try.prog w = .ok () w := by
  unfold Instr.checkKey
  simp [run_underlying (show Try.prog.underlying 32 = some (.int .u32) from Try.underlying32), Result.andThen]

theorem look_no {w : World} {b : Nat} {K : List (Int × Value)} (h : MapIs w b K) (k : Int) (hk : ∀ p ∈ K, p.1 ≠ k) (c : Bool) :
    (Instr.lookup 52 (.map (some b)) (.int .u32 k) c).run Try.prog w = .ok (if c then .tuple #[Z4, .bool false] else Z4) w := by
  obtain ⟨es, clock, hb, hK⟩ := h
  have hf := MapKept.run_findKey (P := Try.prog) (w := w) (kt := 32) Try.underlying32 (find_no k es.toList K 0 hK hk)
  have hz : (zeroValue 38).run Try.prog w = .ok Z4 w := Try.zeroValue38 w
  simp [Instr.lookup, run_underlying uMap, MapKept.run_getObj_map hb, chkKey, hf, hz, Result.andThen]

theorem look_yes {w : World} {b : Nat} {K1 K2 : List (Int × Value)} {k : Int} {v : Value} (h : MapIs w b (K1 ++ (k, v) :: K2)) (hk : ∀ p ∈ K1, p.1 ≠ k) (c : Bool) :
    (Instr.lookup 52 (.map (some b)) (.int .u32 k) c).run Try.prog w = .ok (if c then .tuple #[v, .bool true] else v) w := by
  obtain ⟨es, clock, hb, hK⟩ := h
  have hf := MapKept.run_findKey (P := Try.prog) (w := w) (kt := 32) Try.underlying32 (find_yes k v es.toList K1 K2 0 hK hk)
  simp [Instr.lookup, run_underlying uMap, MapKept.run_getObj_map hb, chkKey, hf, Result.andThen]

theorem turn_set {w : World} {b : Nat} {es es' : Array MapEntry} {clock clock' : Nat} (hb : w.heap[b]? = some (.map es clock)) : Turn (fun k => k = b) w (setBlock w b (.map es' clock')) :=
  ⟨rfl, rfl, rfl, by simp [setBlock], fun k hk hn => heap_setBlock_other hb _ hn⟩

theorem del_no {w : World} {b : Nat} {K : List (Int × Value)} (h : MapIs w b K) (k : Int) (hk : ∀ p ∈ K, p.1 ≠ k) :
    ∃ w', (∀ ty, (Builtin.delete_ #[52, 32] ty #[.map (some b), .int .u32 k]).run Try.prog w = .ok (.tuple #[]) w') ∧ MapIs w' b K ∧ Turn (fun k => k = b) w w' := by
  obtain ⟨es, clock, hb, hK⟩ := h
  have hf := MapKept.run_findKey (P := Try.prog) (w := w) (kt := 32) Try.underlying32 (find_no k es.toList K 0 hK hk)
  refine ⟨setBlock w b (.map es clock), fun ty => ?_, ⟨es, clock, heap_setBlock_same hb _, hK⟩, turn_set hb⟩
  simp [Builtin.delete_, run_underlying uMap, MapKept.run_getObj_map hb, chkKey, hf, MapKept.run_setObj_map _ hb, Result.andThen, setBlock]

theorem del_yes {w : World} {b : Nat} {K1 K2 : List (Int × Value)} {k : Int} {v : Value} (h : MapIs w b (K1 ++ (k, v) :: K2)) (hk : ∀ p ∈ K1, p.1 ≠ k) :
    ∃ w', (∀ ty, (Builtin.delete_ #[52, 32] ty #[.map (some b), .int .u32 k]).run Try.prog w = .ok (.tuple #[]) w') ∧ MapIs w' b (K1 ++ K2) ∧ Turn (fun k => k = b) w w' := by
  obtain ⟨es, clock, hb, hK⟩ := h
  have hf := MapKept.run_findKey (P := Try.prog) (w := w) (kt := 32) Try.underlying32 (find_yes k v es.toList K1 K2 0 hK hk)
  rw [Nat.zero_add] at hf
  have hl : es.toList.length = K1.length + 1 + K2.length := by
    have := congrArg List.length hK
    simp at this
    rw [Array.length_toList]
    omega
  have hsub : (es.eraseIdxIfInBounds K1.length).toList = es.toList.eraseIdx K1.length := by
    unfold Array.eraseIdxIfInBounds
    rw [dif_pos (by rw [← Array.length_toList]; omega)]
    simp
  refine ⟨setBlock w b (.map (es.eraseIdxIfInBounds K1.length) clock), fun ty => ?_, ⟨_, clock, heap_setBlock_same hb _, ?_⟩, turn_set hb⟩
  · simp [Builtin.delete_, run_underlying uMap, MapKept.run_getObj_map hb, chkKey, hf, MapKept.run_setObj_map _ hb, Result.andThen, setBlock]
  · rw [hsub, map_eraseIdx, hK, List.map_append, List.map_cons, List.eraseIdx_append_of_length_le (by simp)]
    simp

/-- The entries but those at one key. -/
def wo (K : List (Int × Value)) (k : Int) : List (Int × Value) := K.filter fun p => !(p.1 == k)

theorem wo_none {K : List (Int × Value)} {k : Int} (h : ∀ p ∈ K, p.1 ≠ k) : wo K k = K := by
  unfold wo
  rw [List.filter_eq_self]
  intro p hp
  simpa using h p hp

/-- A key is there, once, or it is not. -/
theorem key_ways (K : List (Int × Value)) (k : Int) (hd : (K.map (·.1)).Nodup) : (∀ p ∈ K, p.1 ≠ k) ∨ ∃ K1 v K2, K = K1 ++ (k, v) :: K2 ∧ (∀ p ∈ K1, p.1 ≠ k) ∧ (∀ p ∈ K2, p.1 ≠ k) := by
  induction K with
  | nil => exact .inl (fun p hp => by cases hp)
  | cons q K ih =>
    simp only [List.map_cons, List.nodup_cons] at hd
    by_cases e : q.1 = k
    · refine .inr ⟨[], q.2, K, by rw [← e]; rfl, (fun p hp => by cases hp), fun p hp hpk => hd.1 ?_⟩
      rw [e, ← hpk]
      exact List.mem_map_of_mem (f := (·.1)) hp
    · rcases ih hd.2 with h | ⟨K1, v, K2, rfl, h1, h2⟩
      · exact .inl fun p hp => by
          rcases List.mem_cons.1 hp with rfl | hp
          · exact e
          · exact h p hp
      · refine .inr ⟨q :: K1, v, K2, rfl, fun p hp => ?_, h2⟩
        rcases List.mem_cons.1 hp with rfl | hp
        · exact e
        · exact h1 p hp

theorem wo_split {K1 K2 : List (Int × Value)} {k : Int} {v : Value} (h1 : ∀ p ∈ K1, p.1 ≠ k) (h2 : ∀ p ∈ K2, p.1 ≠ k) : wo (K1 ++ (k, v) :: K2) k = K1 ++ K2 := by
  have e1 := wo_none h1
  have e2 := wo_none h2
  unfold wo at e1 e2 ⊢
  rw [List.filter_append, e1, List.filter_cons_of_neg (by simp), e2]

theorem del_any {w : World} {b : Nat} {K : List (Int × Value)} (h : MapIs w b K) (k : Int) (hd : (K.map (·.1)).Nodup) :
    ∃ w', (∀ ty, (Builtin.delete_ #[52, 32] ty #[.map (some b), .int .u32 k]).run Try.prog w = .ok (.tuple #[]) w') ∧ MapIs w' b (wo K k) ∧ Turn (fun k => k = b) w w' := by
  rcases key_ways K k hd with hk | ⟨K1, v, K2, rfl, h1, h2⟩
  · rw [wo_none hk]
    exact del_no h k hk
  · rw [wo_split h1 h2]
    exact del_yes h h1

/-- A new key comes behind all. -/
theorem put_new {w : World} {b : Nat} {K : List (Int × Value)} (h : MapIs w b K) (k : Int) (v : Value) (hk : ∀ p ∈ K, p.1 ≠ k) :
    ∃ w', (Instr.mapUpdate 52 (.map (some b)) (.int .u32 k) v).run Try.prog w = .ok () w' ∧ MapIs w' b (K ++ [(k, v)]) ∧ Turn (fun k => k = b) w w' := by
  obtain ⟨es, clock, hb, hK⟩ := h
  have hf := MapKept.run_findKey (P := Try.prog) (w := w) (kt := 32) Try.underlying32 (find_no k es.toList K 0 hK hk)
  refine ⟨setBlock w b (.map (es.push ⟨.int .u32 k, v, clock⟩) (clock + 1)), ?_, ⟨_, _, heap_setBlock_same hb _, ?_⟩, turn_set hb⟩
  · simp [Instr.mapUpdate, run_underlying uMap, MapKept.run_getObj_map hb, chkKey, hf, MapKept.run_setObj_map _ hb, Result.andThen, setBlock]
  · simp [hK]

theorem clear_map {w : World} {b : Nat} {K : List (Int × Value)} (h : MapIs w b K) :
    ∃ w', (∀ ty, (Builtin.clear_ #[52] ty #[.map (some b)]).run Try.prog w = .ok (.tuple #[]) w') ∧ MapIs w' b [] ∧ Turn (fun k => k = b) w w' := by
  obtain ⟨es, clock, hb, hK⟩ := h
  refine ⟨setBlock w b (.map #[] clock), fun ty => ?_, ⟨#[], clock, heap_setBlock_same hb _, rfl⟩, turn_set hb⟩
  simp [Builtin.clear_, run_underlying uMap, MapKept.run_getObj_map hb, MapKept.run_setObj_map _ hb, Result.andThen, setBlock]

end Go.Proofs.Ytkmafafmnncgiaa
