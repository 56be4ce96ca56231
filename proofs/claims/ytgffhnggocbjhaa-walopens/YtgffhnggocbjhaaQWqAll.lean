/- Layer 19: the laws' all: all own sectors of a log whose power is there. -/
import Derived.Test.YtgffhnggocbjhaaQWqCells
namespace Go.Proofs.Ytgffhnggocbjhaa
open Go.RowKit
set_option linter.unusedVariables false
set_option maxRecDepth 100000
set_option linter.unusedSimpArgs false

/-- A log on a calm disk. -/
def LQ (n : Nat) (S : List ByteArray) (m : Nat) (cr : Crs) : Lg := ⟨n, false, Q S m cr⟩
theorem LQ_read {n : Nat} {S : List ByteArray} {m : Nat} {cr : Crs} {k : Nat} (h : k + 34 < S.length) : (LQ n S m cr).tolP (k : Int) = S.getD (34 + k) T0 ∧ (LQ n S m cr).errP (k : Int) = 0 ∧ (LQ n S m cr).redP (k : Int) = LQ n S m cr := by
  have ho : ¬ ((k : Int) < 0 ∨ (LQ n S m cr).d.own ≤ (k : Int)) := by
    show ¬ ((k : Int) < 0 ∨ (S.length : Int) - 34 ≤ (k : Int))
    omega
  have e0 : (34 : Int) + (k : Int) = ((34 + k : Nat) : Int) := by omega
  have hE : (LQ n S m cr).d.errAt (34 + (k : Int)) = 0 := by rw [e0]; exact errAt_live rfl (by show 34 + k < S.length; omega)
  refine ⟨?_, ?_, ?_⟩
  · unfold Lg.tolP
    rw [if_neg ho, if_neg (show ¬ (LQ n S m cr).dead = true from Bool.false_ne_true), e0]
    exact told_Q (by omega)
  · unfold Lg.errP
    rw [if_neg ho, if_neg (show ¬ (LQ n S m cr).dead = true from Bool.false_ne_true), hE]
  · unfold Lg.redP
    rw [if_neg ho, if_neg (show ¬ (LQ n S m cr).dead = true from Bool.false_ne_true), hE]
    rfl

set_option maxHeartbeats 1000000 in
theorem all_any {w : World} {H : Nat → Prop} {lb db n : Nat} {S : List ByteArray} {m : Nat} {cr : Crs} (L : PL w H lb db (LQ n S m cr)) (h134 : S.length ≤ 134) :
    Calls Try.prog 32 #[.pointer (some ⟨lb, 0, none⟩)] w fun e w' => e = .returned (.tuple #[.string (catT (S.drop 34)), .bool true]) ∧ PL w' H lb db (LQ n S m cr) ∧ Turn (fun k => k = lb) w w' := by
  have h42 : 42 ≤ S.length := L.fit
  have s64 : ∀ s ∈ S, s.size = 64 := L.disk.good.1.s64
  obtain ⟨W, hW⟩ : ∃ W, Hid (W = S.drop 34) := ⟨_, hide rfl⟩
  rw [← hW.out]
  have hWl : W.length + 34 = S.length := by rw [hW.out, List.length_drop]; omega
  have hWs : Hid (∀ k, (catT (W.take k)).size ≤ 64 * k) := hide (fun k => catT_le _ k (fun s h => Nat.le_of_eq (s64 s (List.mem_of_mem_drop (by rw [← hW.out]; exact List.mem_of_mem_take h)))) (by rw [List.length_take]; omega))
  have hn2 : Hid (∀ k, k < W.length → catT (W.take (k + 1)) = catT (W.take k) ++ S.getD (34 + k) T0) := hide (fun k hk => by
    rw [List.take_add_one, catT_app]
    congr 1
    rw [hW.out, List.getElem?_drop]
    have : S[34 + k]? = some (S.getD (34 + k) T0) := by
      rw [List.getD_eq_getElem?_getD, List.getElem?_eq_getElem (by omega)]; rfl
    rw [this]
    simp [catT])
  have hs64 : Hid (∀ k, (S.getD k T0).size = 64) := hide (fun k => getD_64 s64 k)
  have cr2 := hide (fun (y : World) (Ly : PL y H lb db (LQ n S m cr)) (k : Nat) => lread_any Ly (k : Int))
  have cs := hide (fun (y : World) (Ly : PL y H lb db (LQ n S m cr)) => lsec_any Ly)
  have how : (LQ n S m cr).d.own = (W.length : Int) := by show (S.length : Int) - 34 = _; omega
  rw [how] at cs
  obtain ⟨N, hN⟩ : ∃ N, N = W.length := ⟨_, rfl⟩
  rw [← hN] at cs hWl hn2
  have hall : Hid (catT (W.take N) = catT W) := hide (by rw [hN, List.take_length])
  have hN100 : N ≤ 100 := by omega
  replace L := hide L
  obtain ⟨R, hR⟩ : ∃ R, Hid (R = catT W) := ⟨_, hide rfl⟩
  rw [← hR.out]
  clear how s64 hN
  go_enter Try.func32, Try.ntmps32
  go_wp2_with fail
  go_loopw [4, 5] (fun sv i y => ∃ k : Nat, k ≤ N ∧ i = .int .i64 (k : Int) ∧ Hid (sv = .string (catT (W.take k))) ∧ Hid (PL y H lb db (LQ n S m cr)) ∧ Hid (Turn (fun k => k = lb) w y)) (fun _ i _ => N - (intOf i).toNat)
  case atStart => exact ⟨0, Nat.zero_le _, rfl, hide rfl, L, hide (Turn.refl _ _)⟩
  case round =>
    obtain ⟨k, hk, rfl, hsv, Lr, T⟩ := hrel
    have hsz := hWs.out k
    have hsv' := hsv.out
    subst hsv'
    clear hsv L
    have c1 := cs.out wr Lr.out
    by_cases h : k < N
    · have c2 := cr2.out wr Lr.out k
      obtain ⟨e1, e2, e3⟩ := LQ_read (n := n) (S := S) (m := m) (cr := cr) (k := k) (by omega)
      rw [e1, e2, e3] at c2
      have hnx := hn2.out k h
      have h64 := hs64.out (34 + k)
      generalize S.getD (34 + k) T0 = x at *
      generalize catT (W.take k) = A at *
      have hz : ¬ 9223372036854775807 < A.size + x.size := by omega
      replace hnx := hide hnx
      clear e1 e2 e3
      go_wp2_with fail
      refine c1.mono ?_
      rintro e y1 ⟨rfl, h1⟩
      subst h1
      clear c1
      go_wp2_with fail
      refine c2.mono ?_
      rintro e y2 ⟨rfl, L2, T2⟩
      have T3 := hide (T.out.trans T2 (fun b h => .inl h))
      replace L2 := hide L2
      clear c2 T2 T Lr
      go_wp2
      go_roundw
      case rel => exact ⟨k + 1, by omega, by go_num, hide (by rw [hnx.out]), L2, T3⟩
      case measure => simp [intOf]; omega
    · obtain rfl : k = N := by omega
      rw [hall.out, ← hR.out]
      go_wp2_with fail
      refine c1.mono ?_
      rintro e y1 ⟨rfl, h1⟩
      subst h1
      clear c1
      go_wp2
      go_ret2
      exact ⟨rfl, Lr.out, T.out⟩

end Go.Proofs.Ytgffhnggocbjhaa
