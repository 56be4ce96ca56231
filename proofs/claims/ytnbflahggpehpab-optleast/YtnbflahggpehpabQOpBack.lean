/- Layer 15: contract of slices.Backward for operations, and of its iterator. -/
import Derived.Test.YtnbflahggpehpabQOpDead1
import Derived.Test.YtnbflahggpehpabQOpRound
import Derived.RangeFuncBound
import Derived.RangeFuncLeaves
import Derived.Shelf.Abstract
import Derived.Shelf.RegionOpen
import Derived.TacticsInMore
import Derived.LoopNIn
import Derived.LoopIn
namespace Go.Proofs.Ytnbflahggpehpab.Ir
open Go.RowKit Go.Shelf
set_option linter.unusedVariables false
set_option maxRecDepth 100000
set_option linter.unusedSimpArgs false
attribute [local go_sem] Oper.semAt_some

theorem backward_any (ad : Option Addr) (n c : Nat) (w : World) : Calls Try.prog 24 #[.slice ad n c] w fun e w' =>
    e = .returned (.func (.func 36) #[] #[.pointer (some ⟨w.heap.size, 0, none⟩)]) ∧ w' = w.alloc (.cells #[.slice ad n c] 22) := by
  go_enter Try.func24, Try.ntmps24
  go_wp2
  go_ret
  exact ⟨rfl, rfl⟩

/-- What is handed out: a place below N and its operation. -/
abbrev RdB (N : Nat) := { x : Nat × Mi // x.1 < N }
def encB {N : Nat} (x : RdB N) : Array Value := #[.int .i64 (x.1.1 : Int), .agg (cellsM x.1.2)]

/-- The places and operations from the last one on, of the first k. -/
def revB (N : Nat) (ms : List Mi) : (k : Nat) → k ≤ N → List (RdB N)
  | 0, _ => []
  | k + 1, h => ⟨(k, ms.getD k M0), h⟩ :: revB N ms k (Nat.le_of_succ_le h)

def KeptB (w0 : World) (Bx : Nat) (W W' : World) : Prop := Below w0.heap.size W W' ∧ W'.cell? ⟨Bx, 0, none⟩ = W.cell? ⟨Bx, 0, none⟩

set_option maxHeartbeats 4000000 in
theorem back_stops (n : Nat) (hn : 1 ≤ n) (Bx : Nat) (w0 w : World) (ad : Option Addr) (N c : Nat) (ms : List Mi) (h : IsOps w0 (.slice ad N c) ms) (hN : N = ms.length) (h16 : N ≤ 16) (h0w : Below w0.heap.size w0 w) (hx : w.cell? ⟨Bx, 0, none⟩ = some (.slice ad N c)) (hBx : Bx < w.heap.size) :
    SeqStopsK Fence.wide n Try.prog 36 #[.pointer (some ⟨Bx, 0, none⟩)] (encB (N := N)) (KeptB w0 Bx) (fun ys => ys = revB N ms N (Nat.le_refl _)) (fun pre => True) 16 w := fun l J Jx W hW hJ hJx hY hJ0 => by
  obtain ⟨s1, s2, s3, s4, s5, s6, s7, s8, s9, s10⟩ := irSizes
  have hxW : W.cell? ⟨Bx, 0, none⟩ = some (.slice ad N c) := (hW.cell (p := ⟨Bx, 0, none⟩) hBx).trans hx
  have hbW := h0w.trans (hW.mono h0w.size)
  obtain ⟨ad', N', c', hv, hN', hmx, hm⟩ := h.open'
  cases hv
  have hN16 : N ≤ 16 := h16
  replace hm := hide hm
  replace hN := hide hN
  replace hbW := hide hbW
  clear h hx hBx hW h0w h16 hN'
  refine callsIn_of_wp Try.func36 rfl trivial ?_ rfl
  simp only [Try.ntmps36, List.size_toArray, List.length_cons, List.length_nil, Nat.reduceAdd, Nat.reduceSub, Array.replicate_succ, Array.replicate_zero, List.push_toArray, List.append_toArray, List.nil_append, List.cons_append]
  gi_wp2_with fail
  gi_loopw [3] (fun i wr => ∃ (k : Nat) (z : Int) (pre : List (RdB N)) (hkN : k ≤ N), i = .int .i64 z ∧ Hid (z = (k : Int) - 1) ∧ Hid (revB N ms N (Nat.le_refl _) = pre ++ revB N ms k hkN) ∧ Hid (pre.length + k = N) ∧ Hid (Below w0.heap.size w0 wr) ∧ wr.cell? ⟨Bx, 0, none⟩ = some (.slice ad N c) ∧ Hid (J pre wr)) (fun i _ => (intOf i + 1).toNat)
  case atStart => exact ⟨N, _, [], Nat.le_refl _, rfl, hide rfl, hide rfl, hide (by simp), hbW, hxW, hide hJ0⟩
  case round =>
    obtain ⟨k, z, pre, hk, rfl, hz, hR, hpre, hb, hc, hJk⟩ := hrel
    clear hxW hbW
    match k, hk, hz, hR, hpre with
    | 0, hk, hz, hR, hpre =>
      obtain rfl : z = -1 := by have := hz.out; omega
      have hxp : pre = revB N ms N (Nat.le_refl _) := by rw [hR.out]; simp [revB]
      replace hxp := hide hxp
      gi_wp2_with fail
      go_end0
      exact ⟨⟨_, rfl⟩, .inl ⟨pre, hxp.out, hJk.out⟩⟩
    | j + 1, hk, hz, hR, hpre =>
      obtain rfl : z = (j : Int) := by have := hz.out; omega
      have hjN : j < N := by omega
      obtain ⟨m, hm0⟩ : ∃ m, ms[j]? = some m := ⟨ms[j]'(by have := hN.out; omega), List.getElem?_eq_getElem _⟩
      obtain ⟨g1, o, rfl, hg, hM0⟩ := hm.out j m hm0
      have hld : (loadCellsFrom ⟨g1, o + j * N6, none⟩ 0 N6 #[]).run Try.prog wr = .ok (cellsM m) wr := (hM0.on hg hb.out).load
      have hR2 : Hid (revB N ms N (Nat.le_refl _) = (pre ++ [⟨(j, m), hjN⟩]) ++ revB N ms j (Nat.le_of_lt hjN)) := hide (by rw [hR.out]; simp only [revB, List.getD_eq_getElem?_getD, hm0, Option.getD_some, List.append_assoc, List.singleton_append])
      have hd : decide ((0 : Int) ≤ (j : Int)) = true := by simp
      obtain ⟨fn, tmps, assign, body, hy, hRR⟩ := hY pre ⟨(j, m), hjN⟩ wr hJk.out (by have := hpre.out; omega)
      dsimp only [encB] at hy
      have hpre2 : Hid ((pre ++ [(⟨(j, m), hjN⟩ : RdB N)]).length + j = N) := hide (by have := hpre.out; simp; omega)
      clear hm0 hM0 hR hpre hz
      gi_wp2_with fail
      refine hRR.mono ?_
      rintro e W' (⟨rfl, hJ', hk'⟩ | ⟨rfl, hJx'⟩)
      · have hb2 : Hid (Below w0.heap.size w0 W') := hide (hb.out.trans hk'.1)
        have hc2 := hk'.2.trans hc
        replace hJ' := hide hJ'
        clear hRR hy hb hc hld hk' hJk
        gi_wp2
        go_roundw
        case rel => exact ⟨j, _, _, Nat.le_of_lt hjN, rfl, hide rfl, hR2, hpre2, hb2, hc2, hJ'⟩
        case measure => simp [intOf]
      · gi_wp2
        refine bodyPost_ret (v := .tuple #[]) (by simp [results, Try.results36, go_sem]) rfl ?_
        exact ⟨⟨_, rfl⟩, .inr ⟨_, trivial, hJx'⟩⟩

end Go.Proofs.Ytnbflahggpehpab.Ir
