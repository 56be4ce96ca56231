/- Layer 16: the document's cache: all blocks but one. -/
import Derived.Test.YtkmafafmnncgiaaTcRef
namespace Go.Proofs.Ytkmafafmnncgiaa
open Go.RowKit
set_option linter.unusedVariables false
set_option linter.unusedSimpArgs false

theorem wout_take (E : List (Blk × Value)) (pc : Int) (k : Nat) (p : Blk × Value) (hp : E[k]? = some p) : wout (E.take (k + 1)) pc = wout (E.take k) pc ++ (if p.1.pc = pc then [] else [p]) := by
  unfold wout
  rw [List.take_add_one, hp, List.filter_append]
  congr 1
  by_cases h : p.1.pc = pc
  · simp [h]
  · simp [h]

set_option maxHeartbeats 4000000 in
theorem without_any {w : World} {H : Nat → Prop} {lv : Value} {E : List (Blk × Value)} (R : BRow w H lv E) (hl : E.length ≤ 1000) (pc : Int) :
    Calls Try.prog 23 #[lv, .int .u32 pc] w fun e w' => ∃ g c, e = .returned (.slice (some ⟨g, 0, none⟩) (wout E pc).length c) ∧
      w'.ownsRow w.heap.size 38 4 (.slice (some ⟨g, 0, none⟩) (wout E pc).length c) (wout E pc).length (fcells (wout E pc)) ∧ Below w.heap.size w w' := by
  obtain ⟨i, hi, hz, hs, hb⟩ := infoB
  obtain ⟨n, hn⟩ : ∃ n, n = E.length := ⟨_, rfl⟩
  have hsh := R.1.shape
  rw [← hn] at hsh hl
  obtain ⟨a, c, rfl, hc⟩ := hsh
  have g0 := grow w (.cells #[] 38)
  have O0 : Hid ((w.alloc (.cells #[] 38)).ownsRow w.heap.size 38 4 (.slice (some ⟨w.heap.size, 0, none⟩) 0 0) 0 (fcells (wout (E.take 0) pc))) := hide (World.ownsRow_made w #[] 0 (Nat.le_refl _) (Nat.zero_le _) rfl)
  replace R := hide R
  replace hn := hide hn
  replace g0 := hide g0
  go_enter Try.func23, Try.ntmps23
  go_wp2_with fail
  go_loopw [5, 6] (fun v i wr => ∃ k g2 c2 : Nat, k ≤ n ∧ i = .int .i64 (k : Int) ∧ v = .slice (some ⟨g2, 0, none⟩) (wout (E.take k) pc).length c2 ∧ Hid (wr.ownsRow w.heap.size 38 4 (.slice (some ⟨g2, 0, none⟩) (wout (E.take k) pc).length c2) (wout (E.take k) pc).length (fcells (wout (E.take k) pc))) ∧ Hid (Below w.heap.size w wr)) (fun _ i _ => n - (intOf i).toNat)
  case atStart => exact ⟨0, w.heap.size, 0, Nat.zero_le _, rfl, rfl, O0, g0⟩
  case round =>
    clear O0 g0
    obtain ⟨k, g2, c2, hk, rfl, rfl, O, hB⟩ := hrel
    by_cases h : k < n
    · obtain ⟨p, hp⟩ : ∃ p, E[k]? = some p := ⟨E[k]'(by have := hn.out; omega), List.getElem?_eq_getElem _⟩
      obtain ⟨g, c', u1, n1, u2, n2, u3, n3, he, -, hg, hv, q0, q1, q2, q3⟩ := R.out.at' hp
      have hone := (R.out.2 p (List.mem_of_getElem? hp)).four
      injection he with he1 he2 he3
      subst he1
      have q0' : wr.cell? ⟨g, k * 4, none⟩ = some (.int .u32 p.1.pc) := (hB.out.cell (p := ⟨g, k * 4, none⟩) hg).trans q0
      have q1' : wr.cell? ⟨g, k * 4 + 1, none⟩ = some (.slice u1 p.1.ws.length n1) := (hB.out.cell (p := ⟨g, k * 4 + 1, none⟩) hg).trans q1
      have q2' : wr.cell? ⟨g, k * 4 + 2, none⟩ = some (.slice u2 p.1.os.length n2) := (hB.out.cell (p := ⟨g, k * 4 + 2, none⟩) hg).trans q2
      have q3' : wr.cell? ⟨g, k * 4 + 3, none⟩ = some (.slice u3 p.1.ps.length n3) := (hB.out.cell (p := ⟨g, k * 4 + 3, none⟩) hg).trans q3
      have hw := wout_take E pc k p hp
      have hwl : (wout (E.take k) pc).length ≤ 1000 := Nat.le_trans (wout_len _ _) (by rw [List.length_take]; omega)
      obtain ⟨X, hX⟩ : ∃ X, X = wout (E.take k) pc := ⟨_, rfl⟩
      rw [← hX] at O hw hwl ⊢
      have hsz := hB.out.size
      clear he2 he3 q0 q1 q2 q3 hX hp
      by_cases e : p.1.pc = pc
      · have e' : (p.1.pc != pc) = false := by simpa using e
        rw [if_pos e, List.append_nil] at hw
        replace hw := hide hw
        clear e hv hone
        go_wp2
        go_roundw
        case rel => exact ⟨k + 1, g2, c2, by omega, by go_num, by rw [hw.out], by rw [hw.out]; exact O, hB⟩
        case measure => simp [intOf]; omega
      · have e' : (p.1.pc != pc) = true := by simpa using e
        rw [if_neg e] at hw
        have hf : fcells (X ++ [p]) = fcells X ++ [.int .u32 p.1.pc, .slice u1 p.1.ws.length n1, .slice u2 p.1.os.length n2, .slice u3 p.1.ps.length n3] := by
          rw [fcells_app]
          simp [fcells, hv, vcells]
        have h1 : ∀ u ∈ [Value.int .u32 p.1.pc, .slice u1 p.1.ws.length n1, .slice u2 p.1.os.length n2, .slice u3 p.1.ps.length n3], u.oneCell' = true := by
          intro u hu
          simp at hu
          rcases hu with rfl | rfl | rfl | rfl <;> rfl
        obtain ⟨Y, hY⟩ : ∃ Y, Y = fcells X := ⟨_, rfl⟩
        rw [← hY] at O hf
        obtain ⟨m, hm⟩ : ∃ m, m = X.length := ⟨_, rfl⟩
        rw [← hm] at O hwl ⊢
        replace hw := hide hw
        replace hf := hide hf
        replace hm := hide hm
        clear e hv hone hY
        go_wp2_with (at_builtin; refine wpList_append_own _ rfl _ _ 29 rfl w.heap.size 38 i _ 4 80 Try.underlying29 hi hz hs hb rfl (by decide) _ m Y rfl (O.out.alloc _) ⟨wr.heap.size, 0, none⟩ 1 1 [.int .u32 p.1.pc, .slice u1 p.1.ws.length n1, .slice u2 p.1.os.length n2, .slice u3 p.1.ps.length n3] rfl rfl (cells_new wr #[.int .u32 p.1.pc, .slice u1 p.1.ws.length n1, .slice u2 p.1.os.length n2, .slice u3 p.1.ps.length n3] 38) h1 (by unfold maxLen; omega) (by omega) (by simp; omega) ?_)
        intro v' w4 hown' hgrow hnil
        have hO4 : ∃ g3 c3, v' = .slice (some ⟨g3, 0, none⟩) (m + 1) c3 := by
          rcases hown'.2 with ⟨rfl, -⟩ | ⟨g3, cap, cur, rfl, -⟩
          · exact (hnil rfl).elim
          · exact ⟨g3, cap, rfl⟩
        obtain ⟨g3, c3, rfl⟩ := hO4
        have hml : Hid ((wout (E.take (k + 1)) pc).length = m + 1 ∧ fcells (wout (E.take (k + 1)) pc) = Y ++ [.int .u32 p.1.pc, .slice u1 p.1.ws.length n1, .slice u2 p.1.os.length n2, .slice u3 p.1.ps.length n3]) := hide (by rw [hw.out, hf.out, hm.out]; simp)
        have hB4 := hide ((hB.out.alloc hsz (.cells #[.int .u32 p.1.pc, .slice u1 p.1.ws.length n1, .slice u2 p.1.os.length n2, .slice u3 p.1.ps.length n3] 38)).grown hgrow (by simp; omega) (fun j hj => (O.out.lt j hj).1))
        replace hown' := hide hown'
        clear hgrow O hB hnil hw hf hm
        go_wp2
        go_roundw
        case rel => exact ⟨k + 1, g3, c3, by omega, by go_num, by rw [hml.out.1], by rw [hml.out.1, hml.out.2]; exact hown', hB4⟩
        case measure => simp [intOf]; omega
    · obtain rfl : k = n := by omega
      rw [show E.take k = E from List.take_of_length_le (by have := hn.out; omega)] at O ⊢
      go_wp2
      go_ret
      exact ⟨_, _, rfl, O.out, hB.out⟩

end Go.Proofs.Ytkmafafmnncgiaa
