/- Layer 18: the document's disk: what is read; its image; bytes are opened. -/
import Derived.Test.YtgffhnggocbjhaaDkRef
namespace Go.Proofs.Ytgffhnggocbjhaa
open Go.RowKit
set_option linter.unusedVariables false
set_option maxRecDepth 100000
set_option linter.unusedSimpArgs false

theorem readK_at {L : List (Nat × ByteArray)} {n : Nat} {s : ByteArray} {k : Nat} {p : Nat × ByteArray} (h : L[k]? = some p) : readK L n s (k + 1) = if p.1 = n then p.2 else readK L n s k := by
  rw [readK, getD_some h]

set_option maxHeartbeats 4000000 in
set_option maxRecDepth 100000 in
theorem rread_any {w : World} {H : Nat → Prop} {rb : Nat} {lv lw : Value} {d : Dk} (R : RD w H rb lv lw d) (n : Int) :
    Calls Try.prog 55 #[.pointer (some ⟨rb, 0, none⟩), .int .i64 n] w fun e w' => e = .returned (.tuple #[.string (d.told n), .int .i64 (d.errAt n)]) ∧ w' = w := by
  obtain ⟨a, c, rfl, hc, hm, hs⟩ := R.s.open'
  obtain ⟨a2, c2, rfl, hc2, hm2, hl⟩ := R.l.open'
  have b0 : w.cell? ⟨rb, 0, none⟩ = some (.slice a d.S.length c) := R.box.cell 0
  have b1 : w.cell? ⟨rb, 1, none⟩ = some (.slice a2 d.L.length c2) := R.box.cell 1
  have b4 : w.cell? ⟨rb, 6, none⟩ = some (.bool d.dead) := R.box.cell 6
  have l6 := R.l6
  obtain ⟨m, hmm⟩ : ∃ m, m = d.S.length := ⟨_, rfl⟩
  obtain ⟨l, hll⟩ : ∃ l, l = d.L.length := ⟨_, rfl⟩
  rw [← hmm] at b0 hc hm
  rw [← hll] at b1 hc2 hm2 l6
  replace hs := hide hs
  replace hl := hide hl
  replace R := hide R
  cases hd : d.dead with
  | true =>
    have h1 : d.errAt n = 2 := by simp [Dk.errAt, hd]
    have h2 : d.told n = ByteArray.empty := by simp [Dk.told, h1]
    rw [h1, h2]
    rw [hd] at b4
    clear h1 h2 hd
    go_enter Try.func55, Try.ntmps55
    go_wp2
    go_ret2
    exact ⟨rfl, rfl⟩
  | false =>
    rw [hd] at b4
    by_cases hn : n < 0 ∨ (m : Int) ≤ n
    · have h1 : d.errAt n = 181 := by unfold Dk.errAt; rw [hd, if_neg (by decide), if_pos (by rw [← hmm]; exact hn)]
      have h2 : d.told n = ByteArray.empty := by simp [Dk.told, h1]
      rw [h1, h2]
      clear h1 h2 hd
      rcases Int.lt_or_le n 0 with h | h
      · clear hn
        go_enter Try.func55, Try.ntmps55
        go_wp2
        go_ret2
        exact ⟨rfl, rfl⟩
      · have h' : (m : Int) ≤ n := by omega
        clear hn
        go_enter Try.func55, Try.ntmps55
        go_wp2
        go_ret2
        exact ⟨rfl, rfl⟩
    · have h1 : d.errAt n = 0 := by unfold Dk.errAt; rw [hd, if_neg (by decide), if_neg (by rw [← hmm]; exact hn)]
      have h2 : d.told n = readK d.L n.toNat (d.S.getD n.toNat T0) l := by rw [Dk.told, if_pos h1, hll]
      rw [h1, h2]
      clear h1 h2
      obtain ⟨k, rfl⟩ : ∃ k : Nat, n = (k : Int) := ⟨n.toNat, by omega⟩
      have hk : k < m := by omega
      rw [Int.toNat_natCast]
      obtain ⟨x, hx⟩ : ∃ x, d.S[k]? = some x := ⟨d.S[k]'(by omega), List.getElem?_eq_getElem _⟩
      rw [getD_some hx]
      obtain ⟨g, rfl, -, -, hg⟩ := hs.out k _ (strs_at hx)
      replace hll := hide hll
      replace hmm := hide hmm
      clear hd hn hx
      go_enter Try.func55, Try.ntmps55
      go_wp2
      go_loopw [6, 7] (fun s i wr => ∃ j : Nat, j ≤ l ∧ i = .int .i64 (j : Int) ∧ s = .string (readK d.L k x j) ∧ wr = w) (fun _ i _ => l - (intOf i).toNat)
      case atStart => exact ⟨0, Nat.zero_le _, rfl, rfl, rfl⟩
      case round =>
        obtain ⟨j, hj, rfl, rfl, hw⟩ := hrel
        subst hw
        by_cases h : j < l
        · obtain ⟨p, hp⟩ : ∃ p, d.L[j]? = some p := ⟨d.L[j]'(by have := hll.out; omega), List.getElem?_eq_getElem _⟩
          obtain ⟨p0, p1⟩ := looses_at hp
          obtain ⟨g2, rfl, -, -, hc0⟩ := hl.out _ _ p0
          obtain ⟨g3, e3, -, -, hc1⟩ := hl.out _ _ p1
          injection e3 with e3
          injection e3 with e3
          subst e3
          have hr := hide (readK_at (n := k) (s := x) hp)
          clear p0 p1
          by_cases e : p.1 = k
          · have hd : decide ((p.1 : Int) = (k : Int)) = true := by simp [e]
            have hd2 : ((p.1 : Int) = (k : Int)) := by simp [e]
            have hr2 := hide (hr.out.trans (if_pos e))
            clear e hr
            go_wp2
            go_roundw
            case rel => exact ⟨j + 1, by omega, by go_num, by rw [hr2.out], trivial⟩
            case measure => simp [intOf]; omega
          · have hd : decide ((p.1 : Int) = (k : Int)) = false := by simp; omega
            have hd2 : ¬ ((p.1 : Int) = (k : Int)) := by omega
            have hr2 := hide (hr.out.trans (if_neg e))
            clear e hr
            go_wp2
            go_roundw
            case rel => exact ⟨j + 1, by omega, by go_num, by rw [hr2.out], trivial⟩
            case measure => simp [intOf]; omega
        · obtain rfl : j = l := by omega
          go_wp2
          go_ret2
          exact ⟨rfl, rfl⟩

set_option maxHeartbeats 4000000 in
set_option maxRecDepth 100000 in
theorem rimage_any {w : World} {H : Nat → Prop} {rb : Nat} {lv lw : Value} {d : Dk} (R : RD w H rb lv lw d) :
    Calls Try.prog 25 #[.pointer (some ⟨rb, 0, none⟩)] w fun e w' => e = .returned (.string (catT d.S)) ∧ Below w.heap.size w w' := by
  obtain ⟨i, hi, hz, hsz, hb⟩ := infoB
  obtain ⟨a, c, rfl, hc, hm, hs⟩ := R.s.open'
  obtain ⟨m, hmm⟩ : ∃ m, m = d.S.length := ⟨_, rfl⟩
  have s2 := R.g.s2
  rw [← hmm] at hc hm s2
  have hbx : Hid (Box w rb (cellsR (.slice a m c) lw d)) := hide (by rw [hmm]; exact R.box)
  have hrb := R.box.2.2
  have hz64 : Hid (∀ k, k ≤ m → (catT (d.S.take k)).size = 64 * k) := hide (fun k hk => by
    rw [catT_size (fun s hs => R.g.s64 s (List.mem_of_mem_take hs)), List.length_take]; congr 1; omega)
  have hcat : ∀ k x, d.S[k]? = some x → catT (d.S.take (k + 1)) = catT (d.S.take k) ++ x := fun k x hx => by
    rw [List.take_add_one, hx, catT_app]
    simp [catT]
  have hx64 := hide R.g.s64
  have hT : Hid (d.S.take m = d.S) := hide (List.take_of_length_le (by omega))
  obtain ⟨T, hTe⟩ : ∃ T, Hid (T = catT d.S) := ⟨_, hide rfl⟩
  rw [← hTe.out]
  replace hs := hide hs
  replace hcat := hide hcat
  replace hmm := hide hmm
  have g0 := hide (grow w (.cells #[] 5))
  have O0 := hide (World.ownsRow_made w (base := w.heap.size) (e := 5) (size := 1) #[] 0 (Nat.le_refl _) (Nat.zero_le _) rfl)
  clear R
  go_enter Try.func25, Try.ntmps25
  go_wp2
  generalize w.alloc (.cells #[] 5) = w1 at *
  go_loopw [3, 4] (fun v0 i wr => ∃ (k : Nat) (v : Value), k ≤ m ∧ i = .int .i64 (k : Int) ∧ v0 = v ∧ Hid (wr.ownsRow w.heap.size 5 1 v (64 * k) (Go.Lib.strCells (catT (d.S.take k)))) ∧ Hid (Below w.heap.size w wr)) (fun _ i _ => m - (intOf i).toNat)
  case atStart => exact ⟨0, _, Nat.zero_le _, rfl, rfl, O0, g0⟩
  case round =>
    clear O0 g0
    obtain ⟨k, v, hk, rfl, hv, O, G⟩ := hrel
    replace hv := hv.symm
    subst hv
    have bx := hbx.out.on G.out
    have b0 : wr.cell? ⟨rb, 0, none⟩ = some (.slice a m c) := bx.cell 0
    by_cases h : k < m
    · obtain ⟨x, hx⟩ : ∃ x, d.S[k]? = some x := ⟨d.S[k]'(by have := hmm.out; omega), List.getElem?_eq_getElem _⟩
      obtain ⟨g, rfl, hgl, -, hg⟩ := hs.out k _ (strs_at hx)
      have hg' : wr.cell? ⟨g, k, none⟩ = some (.string x) := (G.out.cell (p := ⟨g, k, none⟩) hgl).trans hg
      have hxs : x.size = 64 := hx64.out x (List.mem_of_getElem? hx)
      obtain ⟨v', w4, hap, O4, G4, -⟩ := Go.Lib.run_append_own_string (P := Try.prog) wr w.heap.size 57 9 57 5 i Try.underlying57 Try.underlying9 hi hz hsz hb v (64 * k) _ O.out x (by unfold maxLen; omega) (by omega) G.out.size
      rw [← strCells_app, ← hcat.out k x hx, hxs, show 64 * k + 64 = 64 * (k + 1) by omega] at O4
      have G5 := hide (G.out.grown G4 G.out.size (fun j hj => (O.out.lt j hj).1))
      replace O4 := hide O4
      clear hx hg hxs bx
      go_wp2_with (at_builtin; refine wpList_append_told rfl _ _ 57 9 rfl v (.string x) v' rfl rfl hap ?_)
      go_roundw
      case rel => exact ⟨k + 1, _, by omega, by go_num, rfl, O4, G5⟩
      case measure => simp [intOf]; omega
    · obtain rfl : k = m := by omega
      have cv := conv_own O.out (hz64.out k (Nat.le_refl _))
      rw [hT.out, ← hTe.out] at cv
      go_wp2
      go_ret
      exact ⟨rfl, G.out⟩

end Go.Proofs.Ytgffhnggocbjhaa
