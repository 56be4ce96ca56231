/- Layer 15: the document's Copy. -/
import Derived.Test.YtnbflahggpehpaaQOpRSrc
import Derived.Test.YtnbflahggpehpaaQOpRDead2
import Derived.Test.YtnbflahggpehpaaQOpLast
import Derived.Deep.CutRange
namespace Go.Proofs.Ytnbflahggpehpaa.Ir
open Go.RowKit
set_option linter.unusedVariables false
set_option maxRecDepth 100000
set_option linter.unusedSimpArgs false

/-- What the document's Copy makes of an operation behind others. -/
def rcA (out : List Mi) (m : Mi) : Mi := { m with a := if 1 < m.k ∧ m.a < 32 then srcD m.a out else m.a }
def rcB (out : List Mi) (m q : Mi) : Mi := { q with b := if 2 < m.k ∧ m.b < 32 then srcD m.b out else m.b }
def rcO (out : List Mi) (m : Mi) : Mi := rcB out m (rcA out m)

def rcopyG : List Mi → List Mi → List Mi
  | out, [] => out
  | out, m :: r => rcopyG (out ++ [rcO out m]) r

theorem own_ltC {base n : Nat} {y : World} {v : Value} {xs : List Value} (h : y.ownsRow base 34 6 v n xs) : v.ownBlock = none ∨ v.ownBlock ≠ some y.heap.size := by
  rcases h.2 with ⟨rfl, -⟩ | ⟨g, cap, cur, rfl, hb, hg, -⟩
  · exact Or.inl rfl
  · refine Or.inr (fun e => ?_)
    have : g = y.heap.size := by simpa [Value.ownBlock] using e
    have := (Array.getElem?_eq_some_iff.1 hg).1
    omega

theorem own_farC {base n L : Nat} {y : World} {v : Value} {xs : List Value} (h : y.ownsRow base 34 6 v n xs) (hn : v.ownBlock = none ∨ v.ownBlock ≠ some L) (c : Array Value) : (y.setRow L c).ownsRow base 34 6 v n xs :=
  h.kept (grown_row ((grown_of (Below.refl _ y)).but (some L)) (Or.inl rfl) c) hn

set_option maxHeartbeats 8000000 in
theorem rcopy_raw {w : World} {v : Value} {l : List Mi} (h : IsOps w v l) (hl : l.length ≤ 16) : Calls Try.prog 13 #[v] w fun e w' =>
    ∃ v', e = .returned v' ∧ w'.ownsRow w.heap.size 34 6 v' (rcopyG [] l).length (flat (rcopyG [] l)) ∧ Below w.heap.size w w' := by
  obtain ⟨r1, r2, r3, r4, r5, r6, r7, r8, r9⟩ := rowRules
  obtain ⟨s1, s2, s3, s4, s5, s6, s7, s8, s9, s10⟩ := irSizes
  obtain ⟨q1, q2, q3, q4, q5, q6⟩ := irWhole
  obtain ⟨p1, p2, p3, p4, p5, p6, p7⟩ := irParts
  obtain ⟨k1, k2⟩ := rowSets
  obtain ⟨t1, t2, t3, t4, t5, t6, t7⟩ := irSets
  have e6 : ¬ cellsM M0 = #[] := by simp [cellsM]
  have e7 : ¬ N6 < 1 + 1 := by decide
  have e8 : ¬ N6 < 2 := by decide
  have e9 : ¬ N6 < 3 := by decide
  have e10 : ¬ N6 < 5 := by decide
  have e11 : ¬ N6 < 6 := by decide
  have hi0 : (Try.prog.info? 34).map (fun i => (i.zero, i.size, i.bytes)) = some (some (.agg (cellsM M0)), 6, 48) := by kernel_rfl
  obtain ⟨i0, hi, hz0, hz1, hz2⟩ := info_parts hi0
  obtain ⟨ad, n, c, rfl, hn, hmx, hm⟩ := h.open'
  have hn16 : n ≤ 16 := by omega
  replace hm := hide hm
  replace hn := hide hn
  have hBS := built1
  have hE : Hid ((w.alloc (.cells #[] 34)).ownsRow w.heap.size 34 6 (.slice (some ⟨w.heap.size, 0, none⟩) 0 0) 0 []) :=
    hide ⟨rfl, Or.inr ⟨w.heap.size, 0, #[], rfl, Nat.le_refl _, heap_alloc_new _ _, Nat.le_refl _, Nat.zero_le _, rfl, rfl⟩⟩
  have hg := hide (grow w (.cells #[] 34))
  clear h hl
  go_enter Try.func13, Try.ntmps13
  go_wp2_with fail
  go_loopw [3, 4] (fun v i wr => ∃ (k : Nat) (ms : List Mi), k ≤ n ∧ i = .int .i64 (k : Int) ∧ Hid (ms.length = k) ∧ Hid (rcopyG [] l = rcopyG ms (l.drop k)) ∧ Hid (wr.ownsRow w.heap.size 34 6 v ms.length (flat ms)) ∧ Hid (Below w.heap.size w wr)) (fun _ i _ => n - (intOf i).toNat)
  case atStart => exact ⟨0, [], Nat.zero_le _, rfl, hide rfl, hide rfl, hide (by first | exact hE.out | exact World.ownsRow_nil _ _ _ _), hg⟩
  case round =>
    obtain ⟨k, ms, hk, rfl, hms, hT, hO, hb⟩ := hrel
    clear hE hg
    by_cases hlt : k < n
    · have dk : decide ((k : Int) < (n : Int)) = true := by simp; omega
      obtain ⟨m, hm0⟩ : ∃ m, l[k]? = some m := ⟨l[k]'(by have := hn.out; omega), List.getElem?_eq_getElem _⟩
      obtain ⟨g, o, rfl, hg, hM0⟩ := hm.out k m hm0
      have hld : (loadCellsFrom ⟨g, o + k * N6, none⟩ 0 N6 #[]).run Try.prog wr = .ok (cellsM m) wr := (hM0.on hg hb.out).load
      have hT2 := hT.out
      rw [drop_at hm0, rcopyG] at hT2
      replace hT2 := hide hT2
      have hl16 : ms.length ≤ 16 := by rw [hms.out]; omega
      have xA : Hid (Box (wr.alloc (.cells (cellsM m) 34)) wr.heap.size (cellsM m)) := hide (Box.new _ _ _)
      have hO2 := hide (hO.out.alloc (.cells (cellsM m) 34))
      have hb2 := hide (onto hb.out (Nat.le_refl _) (grow wr (.cells (cellsM m) 34)))
      have hLO := hide (own_ltC hO.out)
      have hLw := hide hb.out.size
      have hMM := hide (fun (y : World) (hy : Below w.heap.size w y) => hM0.on hg hy)
      have lk0 := (xA.out.cell 0).trans (p1 m)
      have lk2 := (xA.out.cell 2).trans (p3 m)
      clear hT hM0 hm0 hO hb
      by_cases e0 : 1 < m.k
      · by_cases e2 : 2 < m.k
        · have d1 : decide (1 < m.k) = true := by simpa using e0
          have d2 : decide (2 < m.k) = true := by simpa using e2
          go_upto_if 24 with fail
          generalize hLM : wr.heap.size = LM at *
          generalize World.alloc wr _ = W1 at *
          go_cut [] from 7 to 51 (fun x => Hid (Box x LM (cellsM (rcA ms m)) ∧ x.ownsRow w.heap.size 34 6 u3 ms.length (flat ms) ∧ Below w.heap.size w x))
          case first =>
            by_cases a32 : m.a < 32
            · have da : decide (m.a < 32) = true := by simpa using a32
              have o1 := ops_of_own hO2.out
              have cS := hide (rsource_any o1 hl16 m.a)
              rw [hms.out] at cS
              have hq : Hid (rcA ms m = { m with a := srcD m.a ms }) := hide (by unfold rcA; rw [if_pos ⟨by omega, a32⟩])
              generalize srcD m.a ms = SA at *
              have lma : W1.cell? ⟨LM, 2, none⟩ = some (.int .i64 m.a) := (xA.out.cell 2).trans (p3 m)
              clear o1
              go_wp2_with fail
              refine cS.out.mono ?_
              rintro r y1 ⟨rfl, h1⟩
              have x1 := xA.out.on h1
              have hO3 := hO2.out.kept (grown_of h1) (by cases hv : Value.ownBlock u3 <;> simp)
              have b3 := onto hb2.out (Nat.le_refl _) h1
              have z2 : y1.cell? ⟨LM, 2, none⟩ = some (.int .i64 m.a) := (x1.cell 2).trans (p3 m)
              have z3 := x1.free 2
              have ew : y1.setCell ⟨LM, 2, none⟩ (.int .i64 SA) = y1.setRow LM (cellsM { m with a := SA }) := by rw [setCell_row _ _ _ _ x1.1, x1.2.1, t3]
              have xS : Hid (Box (y1.setCell ⟨LM, 2, none⟩ (.int .i64 SA)) LM (cellsM { m with a := SA })) := hide (by rw [ew]; exact x1.set _)
              have hOS : Hid ((y1.setCell ⟨LM, 2, none⟩ (.int .i64 SA)).ownsRow w.heap.size 34 6 u3 ms.length (flat ms)) := hide (by rw [ew]; exact own_farC hO3 hLO.out _)
              have hbS : Hid (Below w.heap.size w (y1.setCell ⟨LM, 2, none⟩ (.int .i64 SA))) := hide (by rw [ew]; exact below_setRow b3 hLw.out _)
              clear ew x1 hO3 b3 cS h1
              go_wp2_with fail
              go_meet
              case rel => exact hide ⟨by rw [hq.out]; exact xS.out, hOS.out, hbS.out⟩
            · have da : decide (m.a < 32) = false := by simpa using a32
              have hq : Hid (rcA ms m = m) := hide (by unfold rcA; rw [if_neg (fun h => a32 h.2)])
              go_wp2_with fail
              go_meet
              case rel => exact hide ⟨by rw [hq.out]; exact xA.out, hO2.out, hb2.out⟩
          case rest =>
            have xQ := hcut.out.1
            have hO4 := hide hcut.out.2.1
            have hb4 := hide hcut.out.2.2
            clear hcut xA hO2 hb2
            generalize hy4 : wc = y4 at *
            clear hy4
            obtain ⟨q, hqA⟩ : ∃ q, rcA ms m = q := ⟨_, rfl⟩
            have hqk : q.k = m.k := by rw [← hqA]; rfl
            have hqb : Hid (q.b = m.b) := hide (by rw [← hqA]; rfl)
            rw [hqA] at xQ
            replace hqA := hide hqA
            have z0 : y4.cell? ⟨LM, 0, none⟩ = some (.int .i64 m.k) := by rw [← hqk]; exact (xQ.cell 0).trans (p1 q)
            have zb : y4.cell? ⟨LM, 3, none⟩ = some (.int .i64 m.b) := by rw [← hqb.out]; exact (xQ.cell 3).trans (p4 q)
            replace xQ := hide xQ
            clear hqk
            go_upto_if 38 with fail
            go_cut [] from 7 to 51 (fun x => Hid (Box x LM (cellsM (rcO ms m)) ∧ x.ownsRow w.heap.size 34 6 u3 ms.length (flat ms) ∧ Below w.heap.size w x))
            case first =>
              by_cases b32 : m.b < 32
              · have db : decide (m.b < 32) = true := by simpa using b32
                have o1 := ops_of_own hO4.out
                have cS := hide (rsource_any o1 hl16 m.b)
                rw [hms.out] at cS
                have hq : Hid (rcO ms m = { q with b := srcD m.b ms }) := hide (by unfold rcO rcB; rw [if_pos ⟨by omega, b32⟩, hqA.out])
                generalize srcD m.b ms = SB at *
                have lb : y4.cell? ⟨g, o + k * N6 + 3, none⟩ = some (.int .i64 m.b) := (hMM.out y4 hb4.out) 3 (by decide)
                clear o1
                go_wp2_with fail
                refine cS.out.mono ?_
                rintro r y5 ⟨rfl, h5⟩
                have x1 := xQ.out.on h5
                have hO5 := hO4.out.kept (grown_of h5) (by cases hv : Value.ownBlock u3 <;> simp)
                have b5 := onto hb4.out (Nat.le_refl _) h5
                have z2 : y5.cell? ⟨LM, 3, none⟩ = some (.int .i64 q.b) := (x1.cell 3).trans (p4 q)
                have z3 := x1.free 3
                have ew : y5.setCell ⟨LM, 3, none⟩ (.int .i64 SB) = y5.setRow LM (cellsM { q with b := SB }) := by rw [setCell_row _ _ _ _ x1.1, x1.2.1, t4]
                have xS : Hid (Box (y5.setCell ⟨LM, 3, none⟩ (.int .i64 SB)) LM (cellsM { q with b := SB })) := hide (by rw [ew]; exact x1.set _)
                have hOS : Hid ((y5.setCell ⟨LM, 3, none⟩ (.int .i64 SB)).ownsRow w.heap.size 34 6 u3 ms.length (flat ms)) := hide (by rw [ew]; exact own_farC hO5 hLO.out _)
                have hbS : Hid (Below w.heap.size w (y5.setCell ⟨LM, 3, none⟩ (.int .i64 SB))) := hide (by rw [ew]; exact below_setRow b5 hLw.out _)
                clear ew x1 hO5 b5 cS h5
                go_wp2_with fail
                go_meet
                case rel => exact hide ⟨by rw [hq.out]; exact xS.out, hOS.out, hbS.out⟩
              · have db : decide (m.b < 32) = false := by simpa using b32
                have hq : Hid (rcO ms m = q) := hide (by unfold rcO rcB; rw [if_neg (fun h => b32 h.2)]; rw [hqA.out, ← hqb.out])
                go_wp2_with fail
                go_meet
                case rel => exact hide ⟨by rw [hq.out]; exact xQ.out, hO4.out, hb4.out⟩
            case rest =>
              clear xQ hO4 hb4 z0 zb hqA hqb
              have xZ := hide hcut.out.1
              have hO2 := hide hcut.out.2.1
              have hb2 := hide hcut.out.2.2
              clear hcut
              have hT3 : Hid (rcopyG [] l = rcopyG (ms ++ [rcO ms m]) (l.drop (k + 1))) := hide (by rw [hT2.out])
              generalize rcO ms m = Q at *
              have hN := hide (new_op1 wc Q)
              have hlm := xZ.out.loads 0 N6 (q1 _) (q2 _)
              clear hT2
              go_wp2_with (at_builtin; refine wpList_append_own _ rfl _ _ 22 rfl w.heap.size 34 i0 (.agg (cellsM M0)) 6 48 Try.underlying22 hi hz0 hz1 hz2 rfl (by decide) _ _ _ rfl (hO2.out.alloc _) ⟨wc.heap.size, 0, none⟩ 1 1 (cellsM Q).toList rfl rfl hN.out.1 hN.out.2 (by unfold maxLen; omega) (by omega) (by have h := hb2.out.size; first | (simp at h ⊢; omega) | (simp; omega)) ?_)
              intro v' w4 hown' hgrow _
              have b4 : Hid (Below w.heap.size w w4) := hide (by
                refine (hb2.out.alloc hb2.out.size _).grown hgrow (by have h := hb2.out.size; first | (simp at h ⊢; omega) | (simp; omega)) (fun k hk => ?_)
                rcases hO2.out.2 with ⟨rfl, -⟩ | ⟨g, cap, cur, rfl, hg, -⟩
                · cases hk
                · cases hk; exact hg)
              have hown4 : Hid (w4.ownsRow w.heap.size 34 6 v' (ms ++ [Q]).length (flat (ms ++ [Q]))) := hide (by
                rw [flat_snoc, List.length_append]
                exact hown')
              obtain ⟨g', cap', rfl⟩ := ownsRow_succ hown'
              have hl4 : Hid ((ms ++ [Q]).length = k + 1) := hide (by rw [List.length_append, hms.out]; rfl)
              clear hown' hgrow hO2 hb2 hN hlm
              go_wp2
              go_roundw
              case rel => exact ⟨k + 1, _, by omega, by go_num, hl4, hT3, hown4, b4⟩
              case measure => simp [intOf]; omega
        · have d1 : decide (1 < m.k) = true := by simpa using e0
          have d2 : decide (2 < m.k) = false := by simpa using e2
          go_upto_if 24 with fail
          generalize hLM : wr.heap.size = LM at *
          generalize World.alloc wr _ = W1 at *
          go_cut [] from 7 to 51 (fun x => Hid (Box x LM (cellsM (rcA ms m)) ∧ x.ownsRow w.heap.size 34 6 u3 ms.length (flat ms) ∧ Below w.heap.size w x))
          case first =>
            by_cases a32 : m.a < 32
            · have da : decide (m.a < 32) = true := by simpa using a32
              have o1 := ops_of_own hO2.out
              have cS := hide (rsource_any o1 hl16 m.a)
              rw [hms.out] at cS
              have hq : Hid (rcA ms m = { m with a := srcD m.a ms }) := hide (by unfold rcA; rw [if_pos ⟨by omega, a32⟩])
              generalize srcD m.a ms = SA at *
              have lma : W1.cell? ⟨LM, 2, none⟩ = some (.int .i64 m.a) := (xA.out.cell 2).trans (p3 m)
              clear o1
              go_wp2_with fail
              refine cS.out.mono ?_
              rintro r y1 ⟨rfl, h1⟩
              have x1 := xA.out.on h1
              have hO3 := hO2.out.kept (grown_of h1) (by cases hv : Value.ownBlock u3 <;> simp)
              have b3 := onto hb2.out (Nat.le_refl _) h1
              have z2 : y1.cell? ⟨LM, 2, none⟩ = some (.int .i64 m.a) := (x1.cell 2).trans (p3 m)
              have z3 := x1.free 2
              have ew : y1.setCell ⟨LM, 2, none⟩ (.int .i64 SA) = y1.setRow LM (cellsM { m with a := SA }) := by rw [setCell_row _ _ _ _ x1.1, x1.2.1, t3]
              have xS : Hid (Box (y1.setCell ⟨LM, 2, none⟩ (.int .i64 SA)) LM (cellsM { m with a := SA })) := hide (by rw [ew]; exact x1.set _)
              have hOS : Hid ((y1.setCell ⟨LM, 2, none⟩ (.int .i64 SA)).ownsRow w.heap.size 34 6 u3 ms.length (flat ms)) := hide (by rw [ew]; exact own_farC hO3 hLO.out _)
              have hbS : Hid (Below w.heap.size w (y1.setCell ⟨LM, 2, none⟩ (.int .i64 SA))) := hide (by rw [ew]; exact below_setRow b3 hLw.out _)
              clear ew x1 hO3 b3 cS h1
              go_wp2_with fail
              go_meet
              case rel => exact hide ⟨by rw [hq.out]; exact xS.out, hOS.out, hbS.out⟩
            · have da : decide (m.a < 32) = false := by simpa using a32
              have hq : Hid (rcA ms m = m) := hide (by unfold rcA; rw [if_neg (fun h => a32 h.2)])
              go_wp2_with fail
              go_meet
              case rel => exact hide ⟨by rw [hq.out]; exact xA.out, hO2.out, hb2.out⟩
          case rest =>
            have xQ := hcut.out.1
            have hO4 := hide hcut.out.2.1
            have hb4 := hide hcut.out.2.2
            clear hcut xA hO2 hb2
            generalize hy4 : wc = y4 at *
            clear hy4
            obtain ⟨q, hqA⟩ : ∃ q, rcA ms m = q := ⟨_, rfl⟩
            have hqk : q.k = m.k := by rw [← hqA]; rfl
            have hqb : Hid (q.b = m.b) := hide (by rw [← hqA]; rfl)
            rw [hqA] at xQ
            replace hqA := hide hqA
            have z0 : y4.cell? ⟨LM, 0, none⟩ = some (.int .i64 m.k) := by rw [← hqk]; exact (xQ.cell 0).trans (p1 q)
            have zb : y4.cell? ⟨LM, 3, none⟩ = some (.int .i64 m.b) := by rw [← hqb.out]; exact (xQ.cell 3).trans (p4 q)
            replace xQ := hide xQ
            clear hqk
            go_upto_if 38 with fail
            go_cut [] from 7 to 51 (fun x => Hid (Box x LM (cellsM (rcO ms m)) ∧ x.ownsRow w.heap.size 34 6 u3 ms.length (flat ms) ∧ Below w.heap.size w x))
            case first =>
              have hq : Hid (rcO ms m = q) := hide (by unfold rcO rcB; rw [if_neg (fun h => e2 h.1)]; rw [hqA.out, ← hqb.out])
              go_wp2_with fail
              go_meet
              case rel => exact hide ⟨by rw [hq.out]; exact xQ.out, hO4.out, hb4.out⟩
            case rest =>
              clear xQ hO4 hb4 z0 zb hqA hqb
              have xZ := hide hcut.out.1
              have hO2 := hide hcut.out.2.1
              have hb2 := hide hcut.out.2.2
              clear hcut
              have hT3 : Hid (rcopyG [] l = rcopyG (ms ++ [rcO ms m]) (l.drop (k + 1))) := hide (by rw [hT2.out])
              generalize rcO ms m = Q at *
              have hN := hide (new_op1 wc Q)
              have hlm := xZ.out.loads 0 N6 (q1 _) (q2 _)
              clear hT2
              go_wp2_with (at_builtin; refine wpList_append_own _ rfl _ _ 22 rfl w.heap.size 34 i0 (.agg (cellsM M0)) 6 48 Try.underlying22 hi hz0 hz1 hz2 rfl (by decide) _ _ _ rfl (hO2.out.alloc _) ⟨wc.heap.size, 0, none⟩ 1 1 (cellsM Q).toList rfl rfl hN.out.1 hN.out.2 (by unfold maxLen; omega) (by omega) (by have h := hb2.out.size; first | (simp at h ⊢; omega) | (simp; omega)) ?_)
              intro v' w4 hown' hgrow _
              have b4 : Hid (Below w.heap.size w w4) := hide (by
                refine (hb2.out.alloc hb2.out.size _).grown hgrow (by have h := hb2.out.size; first | (simp at h ⊢; omega) | (simp; omega)) (fun k hk => ?_)
                rcases hO2.out.2 with ⟨rfl, -⟩ | ⟨g, cap, cur, rfl, hg, -⟩
                · cases hk
                · cases hk; exact hg)
              have hown4 : Hid (w4.ownsRow w.heap.size 34 6 v' (ms ++ [Q]).length (flat (ms ++ [Q]))) := hide (by
                rw [flat_snoc, List.length_append]
                exact hown')
              obtain ⟨g', cap', rfl⟩ := ownsRow_succ hown'
              have hl4 : Hid ((ms ++ [Q]).length = k + 1) := hide (by rw [List.length_append, hms.out]; rfl)
              clear hown' hgrow hO2 hb2 hN hlm
              go_wp2
              go_roundw
              case rel => exact ⟨k + 1, _, by omega, by go_num, hl4, hT3, hown4, b4⟩
              case measure => simp [intOf]; omega
      · have d1 : decide (1 < m.k) = false := by simpa using e0
        have e2 : ¬ 2 < m.k := by omega
        have d2 : decide (2 < m.k) = false := by simpa using e2
        go_upto_if 24 with fail
        generalize hLM : wr.heap.size = LM at *
        generalize World.alloc wr _ = W1 at *
        go_cut [] from 7 to 51 (fun x => Hid (Box x LM (cellsM (rcA ms m)) ∧ x.ownsRow w.heap.size 34 6 u3 ms.length (flat ms) ∧ Below w.heap.size w x))
        case first =>
          have lmk : W1.cell? ⟨LM, 0, none⟩ = some (.int .i64 m.k) := (xA.out.cell 0).trans (p1 m)
          have hq : Hid (rcA ms m = m) := hide (by unfold rcA; rw [if_neg (fun h => e0 h.1)])
          go_wp2_with fail
          go_meet
          case rel => exact hide ⟨by rw [hq.out]; exact xA.out, hO2.out, hb2.out⟩
        case rest =>
          have xQ := hcut.out.1
          have hO4 := hide hcut.out.2.1
          have hb4 := hide hcut.out.2.2
          clear hcut xA hO2 hb2
          generalize hy4 : wc = y4 at *
          clear hy4
          obtain ⟨q, hqA⟩ : ∃ q, rcA ms m = q := ⟨_, rfl⟩
          have hqk : q.k = m.k := by rw [← hqA]; rfl
          have hqb : Hid (q.b = m.b) := hide (by rw [← hqA]; rfl)
          rw [hqA] at xQ
          replace hqA := hide hqA
          have z0 : y4.cell? ⟨LM, 0, none⟩ = some (.int .i64 m.k) := by rw [← hqk]; exact (xQ.cell 0).trans (p1 q)
          have zb : y4.cell? ⟨LM, 3, none⟩ = some (.int .i64 m.b) := by rw [← hqb.out]; exact (xQ.cell 3).trans (p4 q)
          replace xQ := hide xQ
          clear hqk
          go_upto_if 38 with fail
          go_cut [] from 7 to 51 (fun x => Hid (Box x LM (cellsM (rcO ms m)) ∧ x.ownsRow w.heap.size 34 6 u3 ms.length (flat ms) ∧ Below w.heap.size w x))
          case first =>
            have hq : Hid (rcO ms m = q) := hide (by unfold rcO rcB; rw [if_neg (fun h => e2 h.1)]; rw [hqA.out, ← hqb.out])
            go_wp2_with fail
            go_meet
            case rel => exact hide ⟨by rw [hq.out]; exact xQ.out, hO4.out, hb4.out⟩
          case rest =>
            clear xQ hO4 hb4 z0 zb hqA hqb
            have xZ := hide hcut.out.1
            have hO2 := hide hcut.out.2.1
            have hb2 := hide hcut.out.2.2
            clear hcut
            have hT3 : Hid (rcopyG [] l = rcopyG (ms ++ [rcO ms m]) (l.drop (k + 1))) := hide (by rw [hT2.out])
            generalize rcO ms m = Q at *
            have hN := hide (new_op1 wc Q)
            have hlm := xZ.out.loads 0 N6 (q1 _) (q2 _)
            clear hT2
            go_wp2_with (at_builtin; refine wpList_append_own _ rfl _ _ 22 rfl w.heap.size 34 i0 (.agg (cellsM M0)) 6 48 Try.underlying22 hi hz0 hz1 hz2 rfl (by decide) _ _ _ rfl (hO2.out.alloc _) ⟨wc.heap.size, 0, none⟩ 1 1 (cellsM Q).toList rfl rfl hN.out.1 hN.out.2 (by unfold maxLen; omega) (by omega) (by have h := hb2.out.size; first | (simp at h ⊢; omega) | (simp; omega)) ?_)
            intro v' w4 hown' hgrow _
            have b4 : Hid (Below w.heap.size w w4) := hide (by
              refine (hb2.out.alloc hb2.out.size _).grown hgrow (by have h := hb2.out.size; first | (simp at h ⊢; omega) | (simp; omega)) (fun k hk => ?_)
              rcases hO2.out.2 with ⟨rfl, -⟩ | ⟨g, cap, cur, rfl, hg, -⟩
              · cases hk
              · cases hk; exact hg)
            have hown4 : Hid (w4.ownsRow w.heap.size 34 6 v' (ms ++ [Q]).length (flat (ms ++ [Q]))) := hide (by
              rw [flat_snoc, List.length_append]
              exact hown')
            obtain ⟨g', cap', rfl⟩ := ownsRow_succ hown'
            have hl4 : Hid ((ms ++ [Q]).length = k + 1) := hide (by rw [List.length_append, hms.out]; rfl)
            clear hown' hgrow hO2 hb2 hN hlm
            go_wp2
            go_roundw
            case rel => exact ⟨k + 1, _, by omega, by go_num, hl4, hT3, hown4, b4⟩
            case measure => simp [intOf]; omega
    · have dk : decide ((k : Int) < (n : Int)) = false := by simp; omega
      have hF : Hid (rcopyG [] l = ms) := hide (by rw [hT.out, List.drop_eq_nil_of_le (by have := hn.out; omega)]; rfl)
      go_wp2
      go_ret
      refine ⟨_, rfl, ?_, hb.out⟩
      rw [hF.out]
      exact hO.out

end Go.Proofs.Ytnbflahggpehpaa.Ir
