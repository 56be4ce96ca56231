/- Layer 16: the document's cache: blocks with a byte in some bytes go, byte by byte. -/
import Derived.Test.YtkmafafmnncgiaaTcRef2
import Derived.Test.YtkmafafmnncgiaaTcLaw
import Derived.Deep.CutBlock
namespace Go.Proofs.Ytkmafafmnncgiaa
open Go.RowKit
set_option linter.unusedVariables false
set_option linter.unusedSimpArgs false

/-- Is one of the first k bytes from pc on among these? -/
def hitK (pc f s : Int) : Nat → Bool
  | 0 => false
  | k + 1 => hitK pc f s k || (decide (f ≤ pc + (k : Int)) && decide (pc + (k : Int) < f + s))

theorem hitK_iff (pc f s : Int) : ∀ k : Nat, hitK pc f s k = decide (max pc f < min (pc + (k : Int)) (f + s))
  | 0 => by simp [hitK]; omega
  | k + 1 => by
    rw [hitK, hitK_iff pc f s k]
    rw [Bool.eq_iff_iff]
    simp
    omega

theorem hitK_all (x : Blk) (f s : Int) : hitK x.pc f s (4 * x.ws.length) = hitV x f s := by
  rw [hitK_iff]
  unfold hitV
  rw [Int.natCast_mul]
  rfl

theorem keep_take (f s : Int) (E : List (Blk × Value)) (k : Nat) (p : Blk × Value) (hp : E[k]? = some p) : keepE f s (E.take (k + 1)) = keepE f s (E.take k) ++ (if hitV p.1 f s then [] else [p]) := by
  unfold keepE
  rw [List.take_add_one, hp, List.filter_append]
  congr 1
  cases h : hitV p.1 f s <;> simp [h]

set_option maxRecDepth 100000 in
set_option maxHeartbeats 8000000 in
theorem rdrop_any {w : World} {H : Nat → Prop} {rb r : Nat} {L : List Blk} (h : RC w H rb r L) (hl : L.length ≤ 1000) (f s : Int) (hf : W32 f) (hs : W32 s) :
    Calls Try.prog 16 #[.pointer (some ⟨rb, 0, none⟩), .int .u32 f, .int .u32 s] w fun e w' => e = .returned (.int .i64 (hitsL f s L)) ∧
      (∃ G, RC w' G rb r (dropL f s L) ∧ ∀ k, G k → H k ∨ w.heap.size ≤ k) ∧ Turn (fun k => k = rb) w w' := by
  obtain ⟨lv, E, B, R, rfl, hr⟩ := h
  have hcount := drop_count f s (blks E)
  rw [← blks_keep, blks_len, blks_len] at hcount
  rw [blks_len] at hl
  obtain ⟨i, hi, hz, hsz, hb⟩ := infoB
  obtain ⟨n, hn⟩ : ∃ n, n = E.length := ⟨_, rfl⟩
  have hsh := R.1.shape
  rw [← hn] at hsh hl hcount
  obtain ⟨a, c, rfl, hc⟩ := hsh
  obtain ⟨f0, f1⟩ := hf
  obtain ⟨s0, s1⟩ := hs
  have g0 := grow w (.cells #[] 38)
  have O0 : Hid ((w.alloc (.cells #[] 38)).ownsRow w.heap.size 38 4 (.slice (some ⟨w.heap.size, 0, none⟩) 0 0) 0 (fcells (keepE f s (E.take 0)))) := hide (World.ownsRow_made w #[] 0 (Nat.le_refl _) (Nat.zero_le _) rfl)
  have hrb : rb < w.heap.size := B.2.2
  replace B := hide B
  replace R := hide R
  replace hn := hide hn
  replace g0 := hide g0
  replace hr := hide hr
  replace hcount := hide hcount
  go_enter Try.func16, Try.ntmps16
  go_wp2_with fail
  go_loopw [7, 8] (fun v i wr => ∃ k g2 c2 : Nat, k ≤ n ∧ i = .int .i64 (k : Int) ∧ v = .slice (some ⟨g2, 0, none⟩) (keepE f s (E.take k)).length c2 ∧ Hid (wr.ownsRow w.heap.size 38 4 (.slice (some ⟨g2, 0, none⟩) (keepE f s (E.take k)).length c2) (keepE f s (E.take k)).length (fcells (keepE f s (E.take k)))) ∧ Hid (Below w.heap.size w wr)) (fun _ i _ => n - (intOf i).toNat)
  case atStart => exact ⟨0, w.heap.size, 0, Nat.zero_le _, rfl, rfl, O0, g0⟩
  case round =>
    clear O0 g0
    obtain ⟨k, g2, c2, hk, rfl, rfl, O, hB⟩ := hrel
    have bx := B.out.on hB.out
    have b1 : wr.cell? ⟨rb, 1, none⟩ = some (.slice a n c) := bx.cell 1
    by_cases h : k < n
    · obtain ⟨p, hp⟩ : ∃ p, E[k]? = some p := ⟨E[k]'(by have := hn.out; omega), List.getElem?_eq_getElem _⟩
      have hpm := R.out.2 p (List.mem_of_getElem? hp)
      obtain ⟨_, _, _, _, _, _, _, ⟨p0, p1⟩, l1, -⟩ := hpm
      obtain ⟨g, c', u1, n1, u2, n2, u3, n3, he, -, hg, hv, q0, q1, q2, q3⟩ := R.out.at' hp
      have hone := (R.out.2 p (List.mem_of_getElem? hp)).four
      injection he with he1 he2 he3
      subst he1
      have q0' : wr.cell? ⟨g, k * 4, none⟩ = some (.int .u32 p.1.pc) := (hB.out.cell (p := ⟨g, k * 4, none⟩) hg).trans q0
      have q1' : wr.cell? ⟨g, k * 4 + 1, none⟩ = some (.slice u1 p.1.ws.length n1) := (hB.out.cell (p := ⟨g, k * 4 + 1, none⟩) hg).trans q1
      have q2' : wr.cell? ⟨g, k * 4 + 2, none⟩ = some (.slice u2 p.1.os.length n2) := (hB.out.cell (p := ⟨g, k * 4 + 2, none⟩) hg).trans q2
      have q3' : wr.cell? ⟨g, k * 4 + 3, none⟩ = some (.slice u3 p.1.ps.length n3) := (hB.out.cell (p := ⟨g, k * 4 + 3, none⟩) hg).trans q3
      have hw := keep_take f s E k p hp
      have hwl : (keepE f s (E.take k)).length ≤ 1000 := Nat.le_trans (List.length_filter_le _ _) (by rw [List.length_take]; omega)
      have hall := hide (hitK_all p.1 f s)
      obtain ⟨X, hX⟩ : ∃ X, X = keepE f s (E.take k) := ⟨_, rfl⟩
      rw [← hX] at O hw hwl ⊢
      have hszw := hB.out.size
      have hfx : fcells (X ++ [p]) = fcells X ++ [.int .u32 p.1.pc, .slice u1 p.1.ws.length n1, .slice u2 p.1.os.length n2, .slice u3 p.1.ps.length n3] := by
        rw [fcells_app]
        simp [fcells, hv, vcells]
      obtain ⟨pc, hpc⟩ : ∃ pc, pc = p.1.pc := ⟨_, rfl⟩
      obtain ⟨ln, hln⟩ : ∃ ln, ln = p.1.ws.length := ⟨_, rfl⟩
      rw [← hpc] at q0' p0 p1 hall hfx
      rw [← hln] at q1' l1 hall hfx
      obtain ⟨Hv, hHv⟩ : ∃ Hv, Hv = hitV p.1 f s := ⟨_, rfl⟩
      rw [← hHv] at hw hall
      replace hw := hide hw
      replace hfx := hide hfx
      obtain ⟨W1, rfl⟩ : ∃ W1, W1 = wr := ⟨_, rfl⟩
      clear he2 he3 q0 q1 q2 q3 hX hp hv hone bx hpc hln hHv
      obtain ⟨M4, hM4⟩ : ∃ M4, M4 = 4 * ln := ⟨_, rfl⟩
      have m4 : IntKind.i64.wrap (4 * (ln : Int)) = (M4 : Int) := by rw [hM4]; simp [IntKind.wrap, IntKind.bits, IntKind.signed]; omega
      have hM60 : M4 ≤ 60 := by omega
      rw [← hM4] at hall
      replace hM4 := hide hM4
      go_upto_block 2 with fail
      go_cut [9] from 14 to 75 (fun v y => v = .bool Hv ∧ y = W1)
      case first =>
        go_wp2_with fail
        go_loopw [9, 10] (fun v i wr => ∃ k2 : Nat, k2 ≤ M4 ∧ i = .int .i64 (k2 : Int) ∧ v = .bool (hitK pc f s k2) ∧ wr = W1) (fun _ i _ => M4 - (intOf i).toNat)
        case atStart => exact ⟨0, Nat.zero_le _, rfl, rfl, rfl⟩
        case round =>
          obtain ⟨k2, hk2, rfl, rfl, rfl⟩ := hrel
          by_cases h2 : k2 < M4
          · obtain ⟨q, hq⟩ : ∃ q, q = hitK pc f s k2 := ⟨_, rfl⟩
            rw [← hq]
            have hstep : Hid (hitK pc f s (k2 + 1) = (q || (decide (f ≤ pc + (k2 : Int)) && decide (pc + (k2 : Int) < f + s)))) := hide (by rw [hq]; rfl)
            clear hq
            cases q with
            | true =>
              go_wp2
              go_roundw
              case rel => exact ⟨k2 + 1, by omega, by go_num, by rw [hstep.out]; rfl, by trivial⟩
              case measure => simp [intOf]; omega
            | false =>
              by_cases c1 : f ≤ pc + (k2 : Int)
              · have e1 : decide (f ≤ pc + (k2 : Int)) = true := by simpa using c1
                by_cases c2 : pc + (k2 : Int) < f + s
                · have e2 : decide (pc + (k2 : Int) < f + s) = true := by simpa using c2
                  go_wp2
                  go_roundw
                  case rel => exact ⟨k2 + 1, by omega, by go_num, by rw [hstep.out, e1, e2]; rfl, by trivial⟩
                  case measure => simp [intOf]; omega
                · have e2 : decide (pc + (k2 : Int) < f + s) = false := by simpa using c2
                  go_wp2
                  go_roundw
                  case rel => exact ⟨k2 + 1, by omega, by go_num, by rw [hstep.out, e1, e2]; rfl, by trivial⟩
                  case measure => simp [intOf]; omega
              · have e1 : decide (f ≤ pc + (k2 : Int)) = false := by simpa using c1
                go_wp2
                go_roundw
                case rel => exact ⟨k2 + 1, by omega, by go_num, by rw [hstep.out, e1]; rfl, by trivial⟩
                case measure => simp [intOf]; omega
          · obtain rfl : k2 = M4 := by omega
            rw [hall.out]
            go_wp2
            go_meet
            case rel => exact ⟨rfl, rfl⟩
      case rest =>
        obtain ⟨rfl, rfl⟩ := hcut
        clear hall m4
        cases Hv with
        | true =>
          have hw2 : Hid (keepE f s (E.take (k + 1)) = X) := hide (by rw [hw.out]; simp)
          clear hw hfx
          go_wp2
          go_roundw
          case rel => exact ⟨k + 1, g2, c2, by omega, by go_num, by rw [hw2.out], by rw [hw2.out]; exact O, hB⟩
          case measure => simp [intOf]; omega
        | false =>
          have h1 : ∀ u ∈ [Value.int .u32 pc, .slice u1 ln n1, .slice u2 p.1.os.length n2, .slice u3 p.1.ps.length n3], u.oneCell' = true := by
            intro u hu
            simp at hu
            rcases hu with rfl | rfl | rfl | rfl <;> rfl
          obtain ⟨Y, hY⟩ : ∃ Y, Y = fcells X := ⟨_, rfl⟩
          rw [← hY] at O hfx
          obtain ⟨m, hm⟩ : ∃ m, m = X.length := ⟨_, rfl⟩
          rw [← hm] at O hwl ⊢
          have hml : Hid ((keepE f s (E.take (k + 1))).length = m + 1 ∧ fcells (keepE f s (E.take (k + 1))) = Y ++ [.int .u32 pc, .slice u1 ln n1, .slice u2 p.1.os.length n2, .slice u3 p.1.ps.length n3]) := hide (by
            have := hw.out
            simp only [Bool.false_eq_true, if_false] at this
            rw [this, hfx.out]
            exact ⟨by simp [hm], rfl⟩)
          clear hw hfx hY hm
          go_wp2_with (at_builtin; refine wpList_append_own _ rfl _ _ 29 rfl w.heap.size 38 i _ 4 80 Try.underlying29 hi hz hsz hb rfl (by decide) _ m Y rfl (O.out.alloc _) ⟨wc.heap.size, 0, none⟩ 1 1 [.int .u32 pc, .slice u1 ln n1, .slice u2 p.1.os.length n2, .slice u3 p.1.ps.length n3] rfl rfl (cells_new wc #[.int .u32 pc, .slice u1 ln n1, .slice u2 p.1.os.length n2, .slice u3 p.1.ps.length n3] 38) h1 (by unfold maxLen; omega) (by omega) (by simp; omega) ?_)
          intro v' w4 hown' hgrow hnil
          have hO4 : ∃ g3 c3, v' = .slice (some ⟨g3, 0, none⟩) (m + 1) c3 := by
            rcases hown'.2 with ⟨rfl, -⟩ | ⟨g3, cap, cur, rfl, -⟩
            · exact (hnil rfl).elim
            · exact ⟨g3, cap, rfl⟩
          obtain ⟨g3, c3, rfl⟩ := hO4
          have hB4 := hide ((hB.out.alloc hszw (.cells #[.int .u32 pc, .slice u1 ln n1, .slice u2 p.1.os.length n2, .slice u3 p.1.ps.length n3] 38)).grown hgrow (by simp; omega) (fun j hj => (O.out.lt j hj).1))
          replace hown' := hide hown'
          clear hgrow O hB hnil
          go_wp2
          go_roundw
          case rel => exact ⟨k + 1, g3, c3, by omega, by go_num, by rw [hml.out.1], by rw [hml.out.1, hml.out.2]; exact hown', hB4⟩
          case measure => simp [intOf]; omega
    · obtain rfl : k = n := by omega
      have hbx := hide bx
      rw [show E.take k = E from List.take_of_length_le (by have := hn.out; omega)] at O ⊢
      obtain ⟨D, hD⟩ : ∃ D, D = hitsL f s (blks E) := ⟨_, rfl⟩
      obtain ⟨K, hK⟩ : ∃ K, K = (keepE f s E).length := ⟨_, rfl⟩
      have hc2 := hcount.out
      rw [← hD, ← hK] at hc2
      rw [← hK] at O ⊢
      have t6 : (k : Int) - (K : Int) = (D : Int) := by omega
      have t7 : IntKind.i64.wrap (D : Int) = (D : Int) := by simp [IntKind.wrap, IntKind.bits, IntKind.signed]; omega
      have fr : wr.frozen? ⟨rb, 1, none⟩ = false := bx.free 1
      have BY := hide (bx.set 1 (.slice (some ⟨g2, 0, none⟩) K c2))
      replace hK := hide hK
      replace hD := hide hD
      clear bx hcount
      go_wp2
      go_ret
      have hfar : ∀ j, j ≠ rb → (wr.setCell ⟨rb, 1, none⟩ (.slice (some ⟨g2, 0, none⟩) K c2)).heap[j]? = wr.heap[j]? := fun j hj => Below.heap_setCell wr _ _ j hj
      refine ⟨by rw [hD.out]; rfl, ⟨fun k => H k ∨ w.heap.size ≤ k, ⟨.slice (some ⟨g2, 0, none⟩) K c2, keepE f s E, BY.out, ⟨?_, fun q hq => ?_⟩, blks_keep f s E, .inl hr.out⟩, fun k h => h⟩, ⟨hB.out.os, hB.out.tape, hB.out.output, Nat.le_trans hB.out.size (by simp [World.setCell]), fun j hj hn => (hfar j hn).trans (hB.out.block j hj)⟩⟩
      · rw [← hK.out]
        exact (Row.of_own (ownsRow_setCell_below O.out (show rb < w.heap.size from hrb) _)).mono fun j h _ => ⟨.inr h, by omega⟩
      · exact ((R.out.2 q (List.mem_filter.1 hq).1).keep fun j h hl => (hfar j h.2).trans (hB.out.block j hl)).mono fun j h _ => ⟨.inl h.1, h.2⟩

end Go.Proofs.Ytkmafafmnncgiaa
