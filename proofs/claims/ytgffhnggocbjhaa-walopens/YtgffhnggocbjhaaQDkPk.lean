/- Layer 18: the program's disk: loose writes are gone over, the last first. -/
import Derived.Test.YtgffhnggocbjhaaQDkPhij
import Derived.RangeFuncNested
import Derived.RangeFuncBound
import Derived.RangeFuncCalls
import Derived.RangeFuncLeaves
import Derived.RangeFuncBox
import Derived.Shelf.Abstract
import Derived.Shelf.RegionOpen
import Derived.OwnWalkIn
import Derived.TacticsInMore
import Derived.LoopNIn
import Derived.LoopIn
import Derived.Lib.SmallJoins
set_option linter.unusedVariables false
set_option maxRecDepth 100000
set_option linter.unusedSimpArgs false
namespace Go.Proofs.Ytgffhnggocbjhaa
open Go.RowKit Go.Shelf Go.Joins
attribute [local go_sem] Oper.semAt_some

theorem grown_of {w w' : World} (h : Below w.heap.size w w') : w.grownBy w' none := ⟨h.os, h.tape, h.output, h.size, fun k hk _ => h.block k hk⟩
theorem abides {β : Type} {B : Nat} {J : β → World → Prop} (hJ : AbidesFrom B J) {s : β} {w w' : World} (h : J s w) (hb : Below w.heap.size w w') : J s w' :=
  hJ s w w' none h (grown_of hb) (fun r e => by cases e)

theorem heap_set {W : World} {b j : Nat} {cs : Array Value} {T : TypeId} (h : W.heap[b]? = some (.cells cs T (0, 0))) (v : Value) : (W.setCell ⟨b, j, none⟩ v).heap[b]? = some (.cells (cs.setIfInBounds j v) T (0, 0)) := by
  simp [World.setCell, Array.getElem?_modify, h]
theorem heap_set_other {W : World} {b b' j : Nat} {o : Obj} (h : W.heap[b]? = some o) (v : Value) (hne : b ≠ b') : (W.setCell ⟨b', j, none⟩ v).heap[b]? = some o :=
  (Below.heap_setCell _ _ _ _ (fun e => hne e)).trans h

theorem one_of {W : World} {b : Nat} {c0 : Value} {T : TypeId} (h : W.heap[b]? = some (.cells #[c0] T (0, 0))) : W.cell? ⟨b, 0, none⟩ = some c0 ∧ W.frozen? ⟨b, 0, none⟩ = false :=
  ⟨by simp [World.cell?, h], Lib.frozen_of_heap h 0⟩

theorem three_new (w : World) (o1 o2 o3 : Obj) : (((w.alloc o1).alloc o2).alloc o3).heap[w.heap.size]? = some o1 ∧ (((w.alloc o1).alloc o2).alloc o3).heap[w.heap.size + 1]? = some o2 ∧ (((w.alloc o1).alloc o2).alloc o3).heap[w.heap.size + 1 + 1]? = some o3 := by
  have e1 := World.alloc_heap_new w o1
  have e2 := World.alloc_heap_new (w.alloc o1) o2
  have e3 := World.alloc_heap_new ((w.alloc o1).alloc o2) o3
  simp only [World.size_alloc] at e2 e3
  exact ⟨(Below.heap_alloc _ _ _ (by simp only [World.size_alloc]; omega)).trans ((Below.heap_alloc _ _ _ (by simp only [World.size_alloc]; omega)).trans e1), (Below.heap_alloc _ _ _ (by simp only [World.size_alloc]; omega)).trans e2, e3⟩

theorem put2 {W : World} {B : Nat} {T T' : TypeId} {x y : Value} (h1 : W.heap[B + 1]? = some (.cells #[x] T (0, 0))) (h2 : W.heap[B + 1 + 1]? = some (.cells #[y] T' (0, 0))) (u v : Value) :
    ((W.setCell ⟨B + 1, 0, none⟩ u).setCell ⟨B + 1 + 1, 0, none⟩ v).heap[B + 1]? = some (.cells #[u] T (0, 0)) ∧ ((W.setCell ⟨B + 1, 0, none⟩ u).setCell ⟨B + 1 + 1, 0, none⟩ v).heap[B + 1 + 1]? = some (.cells #[v] T' (0, 0)) ∧
      KeepsOthers W ((W.setCell ⟨B + 1, 0, none⟩ u).setCell ⟨B + 1 + 1, 0, none⟩ v) ∧ Below B W ((W.setCell ⟨B + 1, 0, none⟩ u).setCell ⟨B + 1 + 1, 0, none⟩ v) :=
  ⟨heap_set_other (heap_set (j := 0) h1 u) v (by omega), heap_set (j := 0) (heap_set_other h2 u (by omega)) v, (KeepsOthers.setCell _ _ _).trans (KeepsOthers.setCell _ _ _),
    ((Below.refl B W).setCell (p := ⟨B + 1, 0, none⟩) (show B ≤ B + 1 by omega) u).setCell (p := ⟨B + 1 + 1, 0, none⟩) (show B ≤ B + 1 + 1 by omega) v⟩

theorem block_kept {b : Nat} {cs : Array Value} {T : TypeId} {fz : Nat × Nat} {W W' : World} {row : Option Nat} (h : W.heap[b]? = some (.cells cs T fz)) (hg : W.grownBy W' row) (hr : ∀ r, row = some r → ∃ o : Obj, W.heap[r]? = some o ∧ o.isCells = false) : W'.heap[b]? = some (.cells cs T fz) := by
  rw [hg.block b (Array.getElem?_eq_some_iff.1 h).1 ?_]
  · exact h
  · intro e
    obtain ⟨o, ho, hc⟩ := hr b e.symm
    rw [h] at ho
    cases ho
    cases hc

theorem keepsOthers_below {w w' : World} (hb : Below w.heap.size w w') : KeepsOthers w w' :=
  ⟨hb.size, fun k o h _ => (hb.block k (Array.getElem?_eq_some_iff.1 h).1).trans h⟩

theorem pair_of {W : World} {b : Nat} {c0 c1 : Value} {T : TypeId} (h : W.heap[b]? = some (.cells #[c0, c1] T (0, 0))) : W.cell? ⟨b, 0, none⟩ = some c0 ∧ W.cell? ⟨b, 1, none⟩ = some c1 :=
  ⟨by simp [World.cell?, h], by simp [World.cell?, h]⟩

/-- A sector's text. -/
def clip (s : ByteArray) : ByteArray := if s.size = 64 then s else T0
theorem clip_size (s : ByteArray) : (clip s).size = 64 := by
  unfold clip
  split
  · assumption
  · exact T0_size
theorem clip_of {s : ByteArray} (h : s.size = 64) : clip s = s := if_pos h

/-- What is handed out at a loose write. -/
def encL (x : Nat × (Nat × ByteArray)) : Array Value := #[.int .i64 (x.1 : Int), .agg #[.int .i64 (x.2.1 : Int), .string (clip x.2.2)]]

/-- The first k loose writes, the last first. -/
def backL (L : List (Nat × ByteArray)) : Nat → List (Nat × (Nat × ByteArray))
  | 0 => []
  | k + 1 => (k, L.getD k (0, T0)) :: backL L k

theorem backL_len (L : List (Nat × ByteArray)) : ∀ k, (backL L k).length = k
  | 0 => rfl
  | k + 1 => by rw [backL, List.length_cons, backL_len L k]

/-- The slice's box and its row are as they were. -/
def KeepB (Bs : Nat) (a : Option Addr) (W W' : World) : Prop := W'.heap[Bs]? = W.heap[Bs]? ∧ ∀ g o s, a = some ⟨g, o, s⟩ → W'.heap[g]? = W.heap[g]?

theorem KeepB.trans {Bs : Nat} {a : Option Addr} {A B C : World} (h : KeepB Bs a A B) (k : KeepB Bs a B C) : KeepB Bs a A C := ⟨k.1.trans h.1, fun g o s e => (k.2 g o s e).trans (h.2 g o s e)⟩
theorem KeepB.of {Bs : Nat} {a : Option Addr} {n : Nat} {A B : World} (h : Below n A B) (hB : Bs < n) (ha : ∀ g o s, a = some ⟨g, o, s⟩ → g < n) : KeepB Bs a A B := ⟨h.block Bs hB, fun g o s e => h.block g (ha g o s e)⟩

set_option maxHeartbeats 4000000 in
set_option maxRecDepth 100000 in
theorem back_stops (n : Nat) (hn : 1 ≤ n) (Bs : Nat) (a : Option Addr) (c l : Nat) (L : List (Nat × ByteArray)) (hl : l = L.length) (l6 : l ≤ 1000) (hc : l ≤ c) (w : World)
    (hx : w.cell? ⟨Bs, 0, none⟩ = some (.slice a l c)) (hB : Bs < w.heap.size) (ha : ∀ g o s, a = some ⟨g, o, s⟩ → g < w.heap.size)
    (hL : ∀ (j : Nat) u, (looses L)[j]? = some u → ∃ g, a = some ⟨g, 0, none⟩ ∧ w.cell? ⟨g, j, none⟩ = some u) (h64 : ∀ p ∈ L, p.2.size = 64) :
    SeqStopsK Fence.wide n Try.prog 96 #[.pointer (some ⟨Bs, 0, none⟩)] encL (KeepB Bs a) (fun ys => ys = backL L l) (fun pre => pre <+: backL L l) l w := fun lp J Jx W hW hJ hJx hY h0 => by
  have K0 : KeepB Bs a w W := KeepB.of hW hB ha
  have hxW : W.cell? ⟨Bs, 0, none⟩ = some (.slice a l c) := (World.cell?_of_block (a := ⟨Bs, 0, none⟩) K0.1).trans hx
  replace hL := hide hL
  replace h64 := hide h64
  replace hx := hide hx
  replace ha := hide ha
  replace hl := hide hl
  replace K0 := hide K0
  replace h0 := hide h0
  have hw1 : IntKind.i64.wrap ((l : Int) - 1) = (l : Int) - 1 := by simp [IntKind.wrap, IntKind.bits, IntKind.signed]; omega
  refine callsIn_of_wp Try.func96 rfl trivial ?_ rfl
  simp only [Try.ntmps96, List.size_toArray, List.length_cons, List.length_nil, Nat.reduceAdd, Nat.reduceSub, Array.replicate_succ, Array.replicate_zero, List.push_toArray, List.append_toArray, List.nil_append, List.cons_append]
  gi_wp2_with fail
  gi_loopw [3] (fun i wr => ∃ (k : Nat) (pre : List (Nat × (Nat × ByteArray))), k ≤ l ∧ i = .int .i64 ((k : Int) - 1) ∧ Hid (pre ++ backL L k = backL L l) ∧ Hid (KeepB Bs a w wr) ∧ Hid (J pre wr)) (fun i _ => (intOf i + 1).toNat)
  case atStart => exact ⟨l, [], Nat.le_refl _, rfl, hide rfl, K0, h0⟩
  case round =>
    clear K0 h0 hxW
    obtain ⟨k, pre, hk, rfl, hpre, hK, hJp⟩ := hrel
    have hxr : wr.cell? ⟨Bs, 0, none⟩ = some (.slice a l c) := (World.cell?_of_block (a := ⟨Bs, 0, none⟩) hK.out.1).trans hx.out
    have hlen : pre.length + k = l := by
      have := congrArg List.length hpre.out
      rwa [List.length_append, backL_len, backL_len] at this
    match k, hk, hpre, hlen with
    | 0, hk, hpre, hlen =>
      have hp : pre = backL L l := by have := hpre.out; rwa [backL, List.append_nil] at this
      gi_wp2_with fail
      go_end0
      exact ⟨⟨_, rfl⟩, .inl ⟨pre, hp, hJp.out⟩⟩
    | k + 1, hk, hpre, hlen =>
      obtain ⟨p, hp⟩ : ∃ p, L[k]? = some p := ⟨L[k]'(by have := hl.out; omega), List.getElem?_eq_getElem _⟩
      obtain ⟨p0, p1⟩ := looses_at hp
      obtain ⟨g, rfl, q0⟩ := hL.out _ _ p0
      obtain ⟨g3, e3, q1⟩ := hL.out _ _ p1
      injection e3 with e3
      injection e3 with e3
      subst e3
      have hKg := hK.out.2 g 0 none rfl
      have r0 : wr.cell? ⟨g, k * 2, none⟩ = some (.int .i64 (p.1 : Int)) := (World.cell?_of_block (a := ⟨g, k * 2, none⟩) hKg).trans q0
      have r1 : wr.cell? ⟨g, k * 2 + 1, none⟩ = some (.string p.2) := (World.cell?_of_block (a := ⟨g, k * 2 + 1, none⟩) hKg).trans q1
      have hbk : Hid (pre ++ [(k, p)] ++ backL L k = backL L l) := hide (by
        have := hpre.out
        rw [backL, getD_some hp] at this
        rw [List.append_assoc]
        exact this)
      have e1 : ((k + 1 : Nat) : Int) - 1 = (k : Int) := by omega
      rw [e1]
      obtain ⟨fn, tmps, assign, body, hy, hR⟩ := hY pre (k, p) wr hJp.out (by omega)
      dsimp only [encL] at hy
      rw [clip_of (h64.out p (List.mem_of_getElem? hp))] at hy
      have hw2 : IntKind.i64.wrap ((k : Int) - 1) = (k : Int) - 1 := by simp [IntKind.wrap, IntKind.bits, IntKind.signed]; omega
      clear p0 p1 q0 q1 hKg hpre hY e1
      gi_wp2_with fail
      refine hR.mono ?_
      rintro e W' (⟨rfl, hJ', hk'⟩ | ⟨rfl, hJx'⟩)
      · have hJ2 := hide hJ'
        have hK2 := hide (hK.out.trans hk')
        clear hk' hJ' hR hJp hK hxr r0 r1
        gi_wp2
        go_roundw
        case rel => exact ⟨k, _, by omega, rfl, hbk, hK2, hJ2⟩
        case measure => simp [intOf]
      · have hpr : Hid (pre ++ [(k, p)] <+: backL L l) := hide ⟨_, hbk.out⟩
        have hJ2 := hide hJx'
        clear hJx' hR hJp hK hxr r0 r1
        gi_wp2
        first | go_end0 | ((try simp only [Exit.inBlock, Exit.then]); refine bodyPost_ret (results_none rfl _ _ _) rfl ?_)
        exact ⟨⟨_, rfl⟩, .inr ⟨_, hpr.out, hJ2.out⟩⟩


/-- None of them is of this sector; the last of them is. -/
def NoHit (k : Nat) (pre : List (Nat × (Nat × ByteArray))) : Prop := ∀ e ∈ pre, e.2.1 ≠ k
def Hit (k : Nat) (pre : List (Nat × (Nat × ByteArray))) (s : ByteArray) : Prop := ∃ pre0 x, pre = pre0 ++ [x] ∧ NoHit k pre0 ∧ x.2.1 = k ∧ s = clip x.2.2

theorem backL_mem {L : List (Nat × ByteArray)} : ∀ l, l ≤ L.length → ∀ e ∈ backL L l, e.2 ∈ L
  | 0, _, e, he => by cases he
  | l + 1, hl, e, he => by
    simp only [backL, List.mem_cons] at he
    rcases he with rfl | he
    · exact getD_mem (show l < L.length by omega)
    · exact backL_mem l (by omega) e he

theorem readK_none {L : List (Nat × ByteArray)} {k : Nat} {s : ByteArray} : ∀ l, (∀ e ∈ backL L l, e.2.1 ≠ k) → readK L k s l = s
  | 0, _ => rfl
  | l + 1, h => by
    rw [readK, if_neg (h (l, L.getD l (0, T0)) (by simp [backL]))]
    exact readK_none l (fun e he => h e (by simp [backL, he]))

theorem readK_hit {L : List (Nat × ByteArray)} {k : Nat} {s : ByteArray} {x : Nat × (Nat × ByteArray)} {r : List (Nat × (Nat × ByteArray))} (hx : x.2.1 = k) : ∀ (l : Nat) (pre : List (Nat × (Nat × ByteArray))), pre ++ [x] ++ r = backL L l → (∀ e ∈ pre, e.2.1 ≠ k) → readK L k s l = x.2.2
  | 0, pre, h, _ => by simp [backL] at h
  | l + 1, [], h, _ => by
    simp only [backL, List.nil_append, List.cons_append, List.cons.injEq] at h
    obtain ⟨rfl, -⟩ := h
    rw [readK, if_pos hx]
  | l + 1, e :: pre, h, hn => by
    simp only [backL, List.cons_append, List.cons.injEq] at h
    obtain ⟨rfl, h⟩ := h
    rw [readK, if_neg (hn (l, L.getD l (0, T0)) (by simp))]
    exact readK_hit hx l pre h (fun e he => hn e (by simp [he]))

theorem backward_any (v : Value) (a : Option Addr) (l c : Nat) (hv : v = .slice a l c) (w : World) :
    Calls Try.prog 82 #[v] w fun e w' => e = .returned (.func (.func 96) #[] #[.pointer (some ⟨w.heap.size, 0, none⟩)]) ∧ w' = w.alloc (.cells #[v] 36) := by
  have hmf : ∀ (fn : Fn) (first cap : Array Value) (w : World), (Instr.makeFunc fn first cap).run Try.prog w = .ok (.func fn first cap) w := fun _ _ _ _ => rfl
  subst hv
  go_enter Try.func82, Try.ntmps82
  go_wp2
  go_ret
  exact ⟨rfl, rfl⟩

theorem byteAt_extract (s : ByteArray) (a b i : Nat) (h : i < b - a) : byteAt (s.extract a b) i = byteAt s (a + i) := by
  unfold byteAt
  rw [← Array.getElem?_toList, extract_list, List.getElem?_take_of_lt h, List.getElem?_drop, Array.getElem?_toList]

theorem strCells_at (s : ByteArray) (i : Nat) (h : i < s.size) : (Go.Lib.strCells s)[i]? = some (.int .u8 ((byteAt s i : Nat) : Int)) := by
  unfold Go.Lib.strCells
  rw [List.getElem?_map, Array.getElem?_toList, Array.getElem?_eq_getElem (show i < s.data.size from h), byteAt_in s i h]
  rfl

/-- A sector's piece of the row, as a text. -/
theorem conv_sector {W : World} {H : Nat → Prop} {db g cap : Nat} {lv gv : Value} {d : Dk} (P : PS W H db (.slice (some ⟨g, 0, none⟩) (64 * d.S.length) cap) lv gv d) {k : Nat} {x : ByteArray} (hx : d.S[k]? = some x) (c : Nat) :
    (convert 57 9 (.slice (some ⟨g, 64 * k, none⟩) 64 c)).run Try.prog W = .ok (.string x) W := by
  have hk : k < d.S.length := (List.getElem?_eq_some_iff.1 hx).1
  have h64 := P.g.s64 x (List.mem_of_getElem? hx)
  have e : x = textOf 64 (byteAt x) := by have := textOf_byteAt x; rwa [h64] at this
  have hcat := catT_at P.g.s64 k x hx
  have hsz := catT_size P.g.s64
  refine (run_convert_bytes_arg W 57 5 Try.underlying57 Try.underlying5 g (64 * k) 64 c ((List.range 64).map fun j => ((byteAt x j : Nat) : Int)) (by rw [List.length_map, List.length_range]) ?_ 9 Try.underlying9).trans ?_
  · intro i hi
    have hb : byteAt x i = byteAt (catT d.S) (64 * k + i) := by rw [← hcat, byteAt_extract _ _ _ _ (by omega)]
    have hc := P.s.1.cells (g := g) rfl (64 * k + i) _ (strCells_at (catT d.S) (64 * k + i) (by omega))
    rw [Addr.add_lit, Nat.zero_add, ← hb] at hc
    rw [hc, List.getD_eq_getElem?_getD, List.getElem?_map, List.getElem?_range hi]
    rfl
  · exact congrArg (fun s => Result.ok (Value.string s) W) e.symm

set_option maxHeartbeats 4000000 in
set_option maxRecDepth 100000 in
theorem pread_any {w : World} {H : Nat → Prop} {db : Nat} {sv lv gv : Value} {d : Dk} (P : PS w H db sv lv gv d) (n : Int) :
    Calls Try.prog 54 #[.pointer (some ⟨db, 0, none⟩), .int .i64 n] w fun e w' => e = .returned (.tuple #[.string (d.told n), .int .i64 (d.errAt n)]) ∧ Below w.heap.size w w' := by
  have cr := hide (fun (y : World) (Py : PS y H db sv lv gv d) => prefusal_any Py n)
  by_cases he : d.errAt n = 0
  · obtain ⟨hdd, hn0, hn1⟩ := errAt_ok he
    obtain ⟨k, rfl⟩ : ∃ k : Nat, n = (k : Int) := ⟨n.toNat, by omega⟩
    have hk : k < d.S.length := by omega
    obtain ⟨x, hx⟩ : ∃ x, d.S[k]? = some x := ⟨d.S[k]'(by omega), List.getElem?_eq_getElem _⟩
    obtain ⟨T, hT⟩ : ∃ T, T = d.told (k : Int) := ⟨_, rfl⟩
    have hTr : T = readK d.L k x d.L.length := by rw [hT, Dk.told, if_pos he, Int.toNat_natCast, getD_some hx]
    rw [← hT, he]
    rw [he] at cr
    obtain ⟨a, c, hlv, hc, hm, hl⟩ := P.l.open'
    have l6 := P.l6
    have hdb := P.box.2.2
    have ha : ∀ g o s, a = some ⟨g, o, s⟩ → g < w.heap.size := fun g o s e => (P.l.1.lt g (by rw [hlv, e]; rfl)).2
    obtain ⟨l, hll⟩ : ∃ l, l = d.L.length := ⟨_, rfl⟩
    rw [← hll] at hlv hc hTr l6
    have cbk := hide (fun y => backward_any lv a l c hlv y)
    replace hll := hide hll
    subst hlv
    replace hT := hide hT
    refine (callsIn_wide (n := 3)).1 ?_
    refine callsIn_of_wp_marks Try.func54 rfl trivial ?_ rfl
    simp only [Try.ntmps54, List.size_toArray, List.length_cons, List.length_nil, Nat.reduceAdd, Nat.reduceSub, Array.replicate_succ, Array.replicate_zero, List.push_toArray, List.append_toArray, List.nil_append, List.cons_append]
    gi_wp2_with fail
    obtain ⟨h0, h1, h2⟩ := three_new w (.cells #[.int .i64 (k : Int)] 3) (.cells #[.string ⟨#[]⟩] 9) (.cells #[.int .i64 0] 34)
    have g3 : Below w.heap.size w (((w.alloc (.cells #[.int .i64 (k : Int)] 3)).alloc (.cells #[.string ⟨#[]⟩] 9)).alloc (.cells #[.int .i64 0] 34)) := (((Below.refl _ w).alloc (Nat.le_refl _) _).alloc (by simp) _).alloc (by simp; omega) _
    generalize (((w.alloc (.cells #[.int .i64 (k : Int)] 3)).alloc (.cells #[.string ⟨#[]⟩] 9)).alloc (.cells #[.int .i64 0] 34)) = y0 at *
    refine ⟨trivial, ?_⟩
    refine (callsIn_wide.2 (cr.out y0 (P.on g3))).mono ?_
    rintro e y ⟨rfl, hy⟩
    subst hy
    have b1 : y.cell? ⟨db, 1, none⟩ = some (.slice a l c) := (P.on g3).cells.2.1
    replace P := hide P
    replace hl := hide hl
    replace hTr := hide hTr
    replace ha := hide ha
    clear cr he hdd hn0 hn1
    gi_wp2_with fail
    refine ⟨trivial, ?_⟩
    refine (callsIn_wide.2 (cbk.out _)).mono ?_
    rintro e y1 ⟨rfl, hy1⟩
    have hBs : y1.heap[y.heap.size]? = some (.cells #[.slice a l c] 36 (0, 0)) := by rw [hy1]; exact World.alloc_heap_new y _
    have gy : Below y.heap.size y y1 := by rw [hy1]; exact grow y _
    have h0' := (gy.block _ (Array.getElem?_eq_some_iff.1 h0).1).trans h0
    have h1' := (gy.block _ (Array.getElem?_eq_some_iff.1 h1).1).trans h1
    have h2' := (gy.block _ (Array.getElem?_eq_some_iff.1 h2).1).trans h2
    have hb0 : Below w.heap.size w y1 := onto g3 (Nat.le_refl _) gy
    have hlt := (Array.getElem?_eq_some_iff.1 h2).1
    generalize y.heap.size = Bs at *
    clear hy1 gy h0 h1 h2 g3 cbk b1 y
    gi_wp2_with fail
    have hBl := (Array.getElem?_eq_some_iff.1 hBs).1
    have hne : w.heap.size + 1 + 1 < Bs := hlt
    have hsz := hb0.size
    have ha1 : ∀ g o s, a = some ⟨g, o, s⟩ → g < y1.heap.size := fun g o s e => Nat.lt_of_lt_of_le (ha.out g o s e) hb0.size
    refine wpIn_rangeFunc_ownH rfl (by omega) (gf := 96) (lb := #[.pointer (some ⟨Bs, 0, none⟩)]) rfl trivial (enters_of Try.func96 (by kernel_rfl) rfl)
      (back_stops _ (by omega) Bs a c l d.L hll.out l6 hc y1 (one_of hBs).1 hBl ha1 (fun j u hj => by
        obtain ⟨g, e, hg, -, hcell⟩ := hl.out j u hj
        exact ⟨g, e, (hb0.cell (p := ⟨g, j, none⟩) hg).trans hcell⟩) (fun p hp => (P.out.g.l64 p hp).2))
      (fun h1 h2 => h1.trans h2) (fun W q o o' hq _ _ _ => ⟨World.putObj_heap_other (by omega), fun g o s e => World.putObj_heap_other (by have := ha1 g o s e; omega)⟩) (Below.refl _ _) (fun _ => rfl)
      (fun pre W => (NoHit k pre ∧ (W.heap[w.heap.size]? = some (.cells #[.int .i64 (k : Int)] 3 (0, 0)) ∧ W.heap[w.heap.size + 1]? = some (.cells #[.string ⟨#[]⟩] 9 (0, 0)) ∧
        W.heap[w.heap.size + 1 + 1]? = some (.cells #[.int .i64 0] 34 (0, 0)) ∧ W.heap[Bs]? = some (.cells #[.slice a l c] 36 (0, 0)))) ∧ Below w.heap.size w W)
      (fun co pre W => (co = .ret ∧ (∃ s, Hit k pre s ∧ W.heap[w.heap.size + 1]? = some (.cells #[.string s] 9 (0, 0))) ∧ W.heap[w.heap.size + 1 + 1]? = some (.cells #[.int .i64 0] 34 (0, 0))) ∧ Below w.heap.size w W)
      (OwnFrom.and (OwnFrom.and (ownFrom_pure _ _) (Own.from (fun s A B row hs hg hr => ⟨block_kept hs.1 hg hr, block_kept hs.2.1 hg hr, block_kept hs.2.2.1 hg hr, block_kept hs.2.2.2 hg hr⟩) _)) (ownFrom_below (Nat.le_refl _) (by omega)))
      (fun co => OwnFrom.and (Own.from (fun s A B row hs hg hr => ⟨hs.1, by obtain ⟨s, e1, e2⟩ := hs.2.1; exact ⟨s, e1, block_kept e2 hg hr⟩, block_kept hs.2.2 hg hr⟩) _) (ownFrom_below (Nat.le_refl _) (by omega)))
      ⟨⟨(fun e he => by cases he), h0', h1', h2', hBs⟩, hb0⟩
      (fun x a' W => ∃ B, W.heap[B]? = some (.cells #[.int .i64 (x.2.1 : Int), .string (clip x.2.2)] 80 (0, 0)) ∧ a' = { tmps := #[.pointer (some ⟨db, 0, none⟩), .int .i64 (k : Int), undef, .pointer (some ⟨w.heap.size, 0, none⟩), .pointer (some ⟨w.heap.size + 1, 0, none⟩), .pointer (some ⟨w.heap.size + 1 + 1, 0, none⟩), .int .i64 0, undef, .pointer (some ⟨B, 0, none⟩),
        .pointer (some ⟨db, 0, none⟩), .int .i64 (k : Int), .int .i64 0, .int .i64 0, .bool false, undef, .pointer (some ⟨db, 0, none⟩), .pointer (some ⟨db, 0, none⟩), .pointer (some ⟨db, 1, none⟩), .slice a l c, .func (.func 96) #[] #[.pointer (some ⟨Bs, 0, none⟩)],
        .int .i64 (x.1 : Int), .agg #[.int .i64 (x.2.1 : Int), .string (clip x.2.2)], undef, undef, undef, undef, undef, undef, undef, undef, undef, undef, undef], defers := [] })
      (fun x a' => Own.from (fun s A B row hs hg hr => by obtain ⟨b, h, e⟩ := hs; exact ⟨b, block_kept h hg hr, e⟩) _)
      ?assign ?body ?done ?stop
    case assign =>
      rintro lp pre ⟨j, p⟩ W K ⟨⟨hpu, i0, i1, i2, i3⟩, hB⟩ hK
      have gW := grow W (.cells #[.int .i64 (p.1 : Int), .string (clip p.2)] 80)
      have hz := hB.size
      have hlW : w.heap.size + 1 + 1 < W.heap.size := (Array.getElem?_eq_some_iff.1 i2).1
      have hfin := hide (hK _ _ ((KeepsOthers.alloc W (.cells #[.int .i64 (p.1 : Int), .string (clip p.2)] 80)).from _) (KeepB.of gW (Array.getElem?_eq_some_iff.1 i3).1 (fun g o s e => Nat.lt_of_lt_of_le (ha.out g o s e) hz))
        ⟨⟨hpu, (gW.block _ (Array.getElem?_eq_some_iff.1 i0).1).trans i0, (gW.block _ (Array.getElem?_eq_some_iff.1 i1).1).trans i1, (gW.block _ (Array.getElem?_eq_some_iff.1 i2).1).trans i2, (gW.block _ (Array.getElem?_eq_some_iff.1 i3).1).trans i3⟩, onto hB (Nat.le_refl _) gW⟩
        ⟨W.heap.size, World.alloc_heap_new W _, rfl⟩)
      clear gW hK
      unfold encL
      gi_wp2
      exact hfin.out
    case body =>
      rintro lp pre ⟨j, p⟩ a' W hlp hrec ⟨⟨hpu, i0, i1, i2, i3⟩, hB⟩ ⟨B, hBx, rfl⟩ hlen
      obtain ⟨r0, r1⟩ := pair_of hBx
      obtain ⟨n0, -⟩ := one_of i0
      dsimp only at r0 r1
      obtain ⟨ps, hps⟩ : ∃ ps, ps = clip p.2 := ⟨_, rfl⟩
      have hps64 : ps.size = 64 := by rw [hps]; exact clip_size _
      rw [← hps] at r1 ⊢
      replace hps := hide hps
      have hdisj := hB.size
      by_cases e : p.1 = k
      · have he : (p.1 : Int) = (k : Int) := by rw [e]
        have ccl := fun y => clone_any ps y (by omega)
        have hH : Hid (Hit k (pre ++ [(j, p)]) ps) := hide ⟨pre, (j, p), rfl, hpu, e, hps.out⟩
        gi_wp2_with fail
        refine ⟨trivial, ?_⟩
        refine (CallsIn.inRound lp (callsIn_wide.2 (ccl W))).mono ?_
        rintro q W2 ⟨rfl, hb2⟩
        have i1' := (hb2.block _ (Array.getElem?_eq_some_iff.1 i1).1).trans i1
        have i2' := (hb2.block _ (Array.getElem?_eq_some_iff.1 i2).1).trans i2
        obtain ⟨p1, p2, pk, pb⟩ := put2 i1' i2' (.string ps) (.int .i64 0)
        obtain ⟨z1, f1⟩ := one_of i1'
        obtain ⟨z2, f2⟩ := one_of i2'
        have hKF := hide (((keepsOthers_below hb2).trans pk).from y1.heap.size)
        have hB2 := hide ((onto hB (Nat.le_refl _) hb2).trans pb)
        clear ccl hb2 pk pb hB
        gi_wp2_with fail
        exact ⟨hKF.out, ⟨rfl, ⟨ps, hH.out, p1⟩, p2⟩, hB2.out⟩
      · have he : ¬ (p.1 : Int) = (k : Int) := by omega
        have hN : NoHit k (pre ++ [(j, p)]) := fun x hx => by
          rcases List.mem_append.1 hx with h | h
          · exact hpu x h
          · simp at h; subst h; exact e
        gi_wp2_with fail
        exact ⟨(KeepsOthers.refl _).from _, ⟨rfl, fun _ _ _ _ => rfl⟩, ⟨hN, i0, i1, i2, i3⟩, hB⟩
    case done =>
      rintro D ys W hD rfl ⟨⟨hno, i0, i1, i2, i3⟩, hB⟩ hKD
      have hTx : T = x := by rw [hTr.out]; exact readK_none l hno
      have PW := P.out.on hB
      obtain ⟨g, cap, hsv, -⟩ := PW.open
      have cs := fun (y : World) (Py : PS y H db sv (.slice a l c) gv d) => psector_any Py k hk hsv
      have cv := fun (y : World) (Py : PS y H db sv (.slice a l c) gv d) => conv_sector (hsv ▸ Py : PS y H db (.slice (some ⟨g, 0, none⟩) (64 * d.S.length) cap) (.slice a l c) gv d) hx (cap - 64 * k)
      have ccs := cs W PW
      have ccv := cv W PW
      obtain ⟨n0, -⟩ := one_of i0
      obtain ⟨z1, f1⟩ := one_of i1
      obtain ⟨z2, f2⟩ := one_of i2
      obtain ⟨p1, p2, pk, pb⟩ := put2 i1 i2 (.string x) (.int .i64 0)
      have hKD' := pk.same D _ hKD rfl
      replace PW := hide PW
      clear cs cv
      gi_wp2_with fail
      refine ⟨trivial, ?_⟩
      refine (callsIn_wide.2 ccs).mono ?_
      rintro q W2 ⟨rfl, hW2⟩
      subst hW2
      gi_wp2_with fail
      obtain ⟨q1, -⟩ := one_of (block_kept p1 (grownBy_putObj' _ D (.deferred none)) (fun r e => by cases e; exact ⟨_, hKD', rfl⟩))
      obtain ⟨q2, -⟩ := one_of (block_kept p2 (grownBy_putObj' _ D (.deferred none)) (fun r e => by cases e; exact ⟨_, hKD', rfl⟩))
      refine ⟨by simp, .inl ⟨_, _, rfl, run_takeDeferred hKD', ?_⟩⟩
      refine ⟨.tuple #[.string x, .int .i64 0], ?_, by rw [hTx], (hB.trans pb).trans (belowK_b (w := w) (Nat.le_refl _) _ D _ _ (by omega) hKD' rfl rfl)⟩
      simp [results, Try.f54, go_sem, q1, q2]
    case stop =>
      rintro D co pre W hD hpr ⟨⟨rfl, ⟨s, hhit, i1⟩, i2⟩, hB⟩ hKD
      obtain ⟨q1, -⟩ := one_of (block_kept i1 (grownBy_putObj' _ D (.deferred none)) (fun r e => by cases e; exact ⟨_, hKD, rfl⟩))
      obtain ⟨q2, -⟩ := one_of (block_kept i2 (grownBy_putObj' _ D (.deferred none)) (fun r e => by cases e; exact ⟨_, hKD, rfl⟩))
      have hTx : T = s := by
        obtain ⟨pre0, e, rfl, hn0, he1, rfl⟩ := hhit
        obtain ⟨r, hr⟩ := hpr
        have h1 := readK_hit (s := x) he1 l pre0 hr hn0
        have hmem : e ∈ backL d.L l := by rw [← hr]; simp
        rw [hTr.out, h1, clip_of]
        exact (P.out.g.l64 _ (backL_mem l (by rw [hll.out]; exact Nat.le_refl _) e hmem)).2
      gi_wp2
      refine ⟨by simp, .inl ⟨_, _, rfl, run_takeDeferred hKD, ?_⟩⟩
      refine ⟨.tuple #[.string s, .int .i64 0], ?_, by rw [hTx], hB.trans (belowK_b (w := w) (Nat.le_refl _) _ D _ _ (by omega) hKD rfl rfl)⟩
      simp [results, Try.f54, go_sem, q1, q2]
  · have h2 : d.told n = ByteArray.empty := by simp [Dk.told, he]
    rw [h2]
    obtain ⟨E, hE⟩ : ∃ E, E = d.errAt n := ⟨_, rfl⟩
    rw [← hE] at cr he ⊢
    replace hE := hide hE
    refine (callsIn_wide (n := 3)).1 ?_
    refine callsIn_of_wp_marks Try.func54 rfl trivial ?_ rfl
    simp only [Try.ntmps54, List.size_toArray, List.length_cons, List.length_nil, Nat.reduceAdd, Nat.reduceSub, Array.replicate_succ, Array.replicate_zero, List.push_toArray, List.append_toArray, List.nil_append, List.cons_append]
    gi_wp2_with fail
    obtain ⟨h0, h1, h2⟩ := three_new w (.cells #[.int .i64 n] 3) (.cells #[.string ⟨#[]⟩] 9) (.cells #[.int .i64 0] 34)
    have g3 : Below w.heap.size w (((w.alloc (.cells #[.int .i64 n] 3)).alloc (.cells #[.string ⟨#[]⟩] 9)).alloc (.cells #[.int .i64 0] 34)) := (((Below.refl _ w).alloc (Nat.le_refl _) _).alloc (by simp) _).alloc (by simp; omega) _
    have P3 := P.on g3
    generalize (((w.alloc (.cells #[.int .i64 n] 3)).alloc (.cells #[.string ⟨#[]⟩] 9)).alloc (.cells #[.int .i64 0] 34)) = y0 at *
    refine ⟨trivial, ?_⟩
    refine (callsIn_wide.2 (cr.out y0 P3)).mono ?_
    rintro e y ⟨rfl, hy⟩
    subst hy
    obtain ⟨z1, f1⟩ := one_of h1
    obtain ⟨z2, f2⟩ := one_of h2
    obtain ⟨p1, p2, -, pb⟩ := put2 h1 h2 (.string ⟨#[]⟩) (.int .i64 E)
    obtain ⟨q1, -⟩ := one_of p1
    obtain ⟨q2, -⟩ := one_of p2
    clear cr P3 P
    gi_wp2_with fail
    refine ⟨.tuple #[.string ByteArray.empty, .int .i64 E], ?_, rfl, g3.trans pb⟩
    simp [results, Try.f54, go_sem, q1, q2]
    rfl

end Go.Proofs.Ytgffhnggocbjhaa
