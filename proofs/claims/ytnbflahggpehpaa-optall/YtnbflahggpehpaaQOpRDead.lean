/- Layer 15: the document's Dead. -/
import Derived.Test.YtnbflahggpehpaaQOpRead
import Derived.Test.YtnbflahggpehpaaQOpOpen
import Derived.OwnWalk
namespace Go.Proofs.Ytnbflahggpehpaa.Ir
open Go.RowKit
set_option linter.unusedVariables false
set_option maxRecDepth 100000
set_option linter.unusedSimpArgs false

/-- Is what a register gets here written over ahead of any read, as the document says? -/
def goneB (d : Int) : List Mi → Bool
  | [] => false
  | x :: r => if drA x d = true ∨ drB x d = true then false else if ¬ x.k = 0 ∧ x.d = d then true else goneB d r

def rdeadV : List Mi → List Mi
  | [] => []
  | m :: l => if m.k = 0 then rdeadV l else if goneB m.d l = true then rdeadV l else m :: rdeadV l

/-- A row of one operation that is made. -/
theorem new_op1 (y : World) (m : Mi) : (∀ j u, (cellsM m).toList[j]? = some u → (y.alloc (.cells (cellsM m) 34)).cell? ((⟨y.heap.size, 0, none⟩ : Addr).add j) = some u) ∧ ∀ u ∈ (cellsM m).toList, u.oneCell' = true := by
  refine ⟨fun j u h => ?_, fun u hu => ?_⟩
  · have b := Box.new y (cellsM m) 34
    rw [Addr.add_lit, Nat.zero_add, b.cell j]
    simpa using h
  · exact List.all_eq_true.1 (show ones (cellsM m) = true from rfl) u hu

theorem built1 (m : Mi) : Array.foldl (fun (cs : Array Value) (x : Value × Nat) => cs.setIfInBounds x.snd x.fst) (Array.map (fun x => (cellsM M0)[x % N6]!) (Array.range N6)) (cellsM m).zipIdx 0 N6 = cellsM m := by kernel_rfl

/-- A world in which an operation lies in a block, and a row that is the call's own; all that was there ahead of it is as it was. -/
structure HeldM (w : World) (L : Nat) (m : Mi) (vo : Value) (ms : List Mi) where
  x : World
  h : Box x L (cellsM m) ∧ x.ownsRow w.heap.size 34 6 vo ms.length (flat ms) ∧ Below w.heap.size w x

def HeldM.on {w z : World} {L : Nat} {m : Mi} {vo : Value} {ms : List Mi} (y : HeldM w L m vo ms) (hb : Below y.x.heap.size y.x z) : HeldM w L m vo ms :=
  ⟨z, y.h.1.on hb, y.h.2.1.kept (grown_of hb) (by cases hv : Value.ownBlock vo <;> simp), onto y.h.2.2 (Nat.le_refl _) hb⟩

theorem HeldM.reads {w : World} {L : Nat} {m : Mi} {vo : Value} {ms : List Mi} : (∀ y : HeldM w L m vo ms, (loadCellsFrom ⟨L, 0, none⟩ 0 N6 #[]).run Try.prog y.x = .ok (cellsM m) y.x) ∧ (∀ y : HeldM w L m vo ms, y.x.cell? ⟨L, 0, none⟩ = some (.int .i64 m.k)) ∧ (∀ y : HeldM w L m vo ms, y.x.cell? ⟨L, 1, none⟩ = some (.int .i64 m.d)) ∧
    (∀ y : HeldM w L m vo ms, y.x.cell? ⟨L, 2, none⟩ = some (.int .i64 m.a)) ∧ (∀ y : HeldM w L m vo ms, y.x.cell? ⟨L, 3, none⟩ = some (.int .i64 m.b)) :=
  ⟨fun y => y.h.1.loads 0 N6 (irWhole.1 _) (irWhole.2.1 _), fun y => y.h.1.cell 0, fun y => y.h.1.cell 1, fun y => y.h.1.cell 2, fun y => y.h.1.cell 3⟩

set_option maxHeartbeats 8000000 in
theorem rdead_raw {w : World} {v : Value} {l : List Mi} (h : IsOps w v l) (hl : l.length ≤ 16) : Calls Try.prog 17 #[v] w fun e w' =>
    ∃ v', e = .returned v' ∧ w'.ownsRow w.heap.size 34 6 v' (rdeadV l).length (flat (rdeadV l)) ∧ Below w.heap.size w w' := by
  obtain ⟨r1, r2, r3, r4, r5, r6, r7, r8, r9⟩ := rowRules
  obtain ⟨s1, s2, s3, s4, s5, s6, s7, s8, s9, s10⟩ := irSizes
  obtain ⟨q1, q2, q3, q4, q5, q6⟩ := irWhole
  obtain ⟨p1, p2, p3, p4, p5, p6, p7⟩ := irParts
  have hi0 : (Try.prog.info? 34).map (fun i => (i.zero, i.size, i.bytes)) = some (some (.agg (cellsM M0)), 6, 48) := by kernel_rfl
  obtain ⟨i0, hi, hz0, hz1, hz2⟩ := info_parts hi0
  obtain ⟨ad, n, c, rfl, hn, hmx, hm⟩ := h.open'
  have hn16 : n ≤ 16 := by omega
  replace hm := hide hm
  replace hn := hide hn
  have hBS := built1
  have hE : Hid ((w.alloc (.cells #[] 34)).ownsRow w.heap.size 34 6 (.slice (some ⟨w.heap.size, 0, none⟩) 0 0) 0 []) :=
    hide ⟨rfl, Or.inr ⟨w.heap.size, 0, #[], rfl, Nat.le_refl _, heap_alloc_new _ _, Nat.le_refl _, Nat.zero_le _, rfl, rfl⟩⟩
  have hg := hide (grow w (.cells #[] 34))
  clear h hl
  go_enter Try.func17, Try.ntmps17
  go_wp2_with fail
  go_loopw [3, 4] (fun v i wr => ∃ (k : Nat) (ms : List Mi), k ≤ n ∧ i = .int .i64 (k : Int) ∧ Hid (ms.length ≤ k) ∧ Hid (rdeadV l = ms ++ rdeadV (l.drop k)) ∧ Hid (wr.ownsRow w.heap.size 34 6 v ms.length (flat ms)) ∧ Hid (Below w.heap.size w wr)) (fun _ i _ => n - (intOf i).toNat)
  case atStart => exact ⟨0, [], Nat.zero_le _, rfl, hide (Nat.le_refl _), hide rfl, hide (by first | exact hE.out | exact World.ownsRow_nil _ _ _ _), hg⟩
  case round =>
    obtain ⟨k, ms, hk, rfl, hms, hT, hO, hb⟩ := hrel
    clear hE hg
    by_cases hlt : k < n
    · have dk : decide ((k : Int) < (n : Int)) = true := by simp; omega
      obtain ⟨m, hm0⟩ : ∃ m, l[k]? = some m := ⟨l[k]'(by have := hn.out; omega), List.getElem?_eq_getElem _⟩
      obtain ⟨g, o, rfl, hg, hM0⟩ := hm.out k m hm0
      have hld : (loadCellsFrom ⟨g, o + k * N6, none⟩ 0 N6 #[]).run Try.prog wr = .ok (cellsM m) wr := (hM0.on hg hb.out).load
      have hT2 := hT.out
      rw [drop_at hm0] at hT2
      rw [rdeadV] at hT2
      replace hT2 := hide hT2
      replace hg := hide hg
      have hA : Hid (∃ y : HeldM w wr.heap.size m u3 ms, wr.alloc (.cells (cellsM m) 34) = y.x) := hide ⟨⟨wr.alloc (.cells (cellsM m) 34), Box.new _ _ _, hO.out.alloc _, onto hb.out (Nat.le_refl _) (grow _ _)⟩, rfl⟩
      clear hT hM0 hm0
      by_cases e0 : m.k = 0
      · have d0 : (m.k == 0) = true := by simpa using e0
        have hT3 : Hid (rdeadV l = ms ++ rdeadV (l.drop (k + 1))) := hide (by rw [hT2.out, if_pos e0])
        have hO2 := hide (hO.out.alloc (.cells (cellsM m) 34))
        have hb2 := hide (onto hb.out (Nat.le_refl _) (grow wr (.cells (cellsM m) 34)))
        have hms2 : Hid (ms.length ≤ k + 1) := hide (by have := hms.out; omega)
        clear e0 hT2 hO hb hms hA
        go_wp2
        go_roundw
        case rel => exact ⟨k + 1, ms, by omega, by go_num, hms2, hT3, hO2, hb2⟩
        case measure => simp [intOf]; omega
      · have d0 : (m.k == 0) = false := by simpa using e0
        have e1 : Hid (¬ m.k = 0) := hide e0
        clear hO hb e0
        go_wp2_with fail
        generalize wr.heap.size = LM at *
        generalize World.alloc wr _ = W1 at *
        obtain ⟨G, hG⟩ : ∃ G, goneB m.d (l.drop (k + 1)) = G := ⟨_, rfl⟩
        replace hG := hide hG
        go_loopw [6, 7] (fun b i wr => ∃ j : Nat, k + 1 ≤ j ∧ j ≤ n ∧ b = .bool false ∧ i = .int .i64 (j : Int) ∧ Hid (goneB m.d (l.drop j) = G) ∧ Hid (∃ y : HeldM w LM m u3 ms, wr = y.x)) (fun _ i _ => n - (intOf i).toNat)
        case atStart => exact ⟨k + 1, Nat.le_refl _, by omega, rfl, by go_num, hG, hA⟩
        case round =>
          obtain ⟨j, hkj, hjn, rfl, rfl, hGj, hy⟩ := hrel
          obtain ⟨y, rfl⟩ := hy.out
          clear hA hld
          by_cases hjl : j < n
          · have dj : decide ((j : Int) < (n : Int)) = true := by simp; omega
            obtain ⟨x, hx0⟩ : ∃ x, l[j]? = some x := ⟨l[j]'(by have := hn.out; omega), List.getElem?_eq_getElem _⟩
            obtain ⟨g', o', e', hg', hM0⟩ := hm.out j x hx0
            cases e'
            have rl : ∀ z : HeldM w LM m u3 ms, (loadCellsFrom ⟨g, o + j * N6, none⟩ 0 N6 #[]).run Try.prog z.x = .ok (cellsM x) z.x := fun z => (hM0.on hg' z.h.2.2).load
            have rk : ∀ z : HeldM w LM m u3 ms, z.x.cell? ⟨g, o + j * N6, none⟩ = some (.int .i64 x.k) := fun z => (hM0.on hg' z.h.2.2) 0 (by decide)
            have rd : ∀ z : HeldM w LM m u3 ms, z.x.cell? ⟨g, o + j * N6 + 1, none⟩ = some (.int .i64 x.d) := fun z => (hM0.on hg' z.h.2.2) 1 (by decide)
            obtain ⟨-, -, md, -, -⟩ := HeldM.reads (w := w) (L := LM) (m := m) (vo := u3) (ms := ms)
            have hG2 := hGj.out
            rw [drop_at hx0] at hG2
            unfold goneB at hG2
            replace hG2 := hide hG2
            have cA := hide (fun z : HeldM w LM m u3 ms => rreadsA_any x m.d z.x)
            have cB := hide (fun z : HeldM w LM m u3 ms => rreadsB_any x m.d z.x)
            clear hGj hx0 hM0 hy
            replace rl := hide rl
            replace rk := hide rk
            replace rd := hide rd
            replace md := hide md
            generalize drA x m.d = A at *
            generalize drB x m.d = B at *
            cases A
            · cases B
              · go_wp2_with fail
                refine region_calm (fun x => ∃ y : HeldM w LM m u3 ms, x = y.x) (by kernel_rfl) (by kernel_rfl) ⟨⟨y.x.drew, y.h.1.drew, y.h.2.1.kept (grown_of (Below.refl _ y.x).drew) (by cases hv : Value.ownBlock u3 <;> simp), y.h.2.2.drew⟩, rfl⟩ ?_
                replace rl := rl.out
                replace md := md.out
                repeat (go_big_quiet_step (first
                  | with_reducible rfl
                  | (go_at_call 42; with_reducible refine (cA.out _).mono ?_; rintro e wf ⟨rfl, bf⟩; exact ⟨rfl, HeldM.on _ bf, rfl⟩)
                  | (go_at_call 43; with_reducible refine (cB.out _).mono ?_; rintro e wf ⟨rfl, bf⟩; exact ⟨rfl, HeldM.on _ bf, rfl⟩)))
                refine wpQuiet_nil ?_
                clear y
                rintro _ ⟨y, rfl⟩
                clear cA cB
                by_cases hk0 : x.k = 0
                · have dk0 : (x.k != 0) = false := by simpa using hk0
                  have dk1 : (x.k == 0) = true := by simpa using hk0
                  have hG3 : Hid (goneB m.d (l.drop (j + 1)) = G) := hide (by rw [← hG2.out, if_neg (by simp), if_neg (fun h => h.1 hk0)])
                  clear hG2 hk0
                  go_wp2_with fail
                  refine region_calm (fun x => ∃ y : HeldM w LM m u3 ms, x = y.x) (by kernel_rfl) (by kernel_rfl) ⟨⟨y.x.drew, y.h.1.drew, y.h.2.1.kept (grown_of (Below.refl _ y.x).drew) (by cases hv : Value.ownBlock u3 <;> simp), y.h.2.2.drew⟩, rfl⟩ ?_
                  replace rk := rk.out
                  replace rd := rd.out
                  repeat (go_big_quiet_step (first | with_reducible rfl))
                  refine wpQuiet_nil ?_
                  clear y
                  rintro _ ⟨y, rfl⟩
                  clear rk rd rl md
                  have hyy : Hid (∃ z : HeldM w LM m u3 ms, y.x = z.x) := hide ⟨y, rfl⟩
                  go_wp2
                  go_roundw
                  case rel => exact ⟨j + 1, by omega, by omega, rfl, by go_num, hG3, hyy⟩
                  case measure => simp [intOf]; omega
                · have dk0 : (x.k != 0) = true := by simpa using hk0
                  have dk1 : (x.k == 0) = false := by simpa using hk0
                  by_cases hd0 : x.d = m.d
                  · have dd0 : (x.d == m.d) = true := by simpa using hd0
                    obtain rfl : G = true := by rw [← hG2.out, if_neg (by simp), if_pos ⟨hk0, hd0⟩]
                    clear hG2 hd0
                    go_wp2_with fail
                    refine region_calm (fun x => ∃ y : HeldM w LM m u3 ms, x = y.x) (by kernel_rfl) (by kernel_rfl) ⟨⟨y.x.drew, y.h.1.drew, y.h.2.1.kept (grown_of (Below.refl _ y.x).drew) (by cases hv : Value.ownBlock u3 <;> simp), y.h.2.2.drew⟩, rfl⟩ ?_
                    replace rk := rk.out
                    replace rd := rd.out
                    repeat (go_big_quiet_step (first | with_reducible rfl))
                    refine wpQuiet_nil ?_
                    clear y
                    rintro _ ⟨y, rfl⟩
                    clear rk rd rl md
                    have hT3 : Hid (rdeadV l = ms ++ rdeadV (l.drop (k + 1))) := hide (by rw [hT2.out, if_neg e1.out, if_pos hG.out])
                    have hO2 := hide y.h.2.1
                    have hb2 := hide y.h.2.2
                    have hms2 : Hid (ms.length ≤ k + 1) := hide (by have := hms.out; omega)
                    clear hT2 hG hms
                    go_wp2
                    go_roundw
                    case rel => exact ⟨k + 1, ms, by omega, by go_num, hms2, hT3, hO2, hb2⟩
                    case measure => simp [intOf]; omega
                  · have dd0 : (x.d == m.d) = false := by simpa using hd0
                    have hG3 : Hid (goneB m.d (l.drop (j + 1)) = G) := hide (by rw [← hG2.out, if_neg (by simp), if_neg (fun h => hd0 h.2)])
                    clear hG2
                    go_wp2_with fail
                    refine region_calm (fun x => ∃ y : HeldM w LM m u3 ms, x = y.x) (by kernel_rfl) (by kernel_rfl) ⟨⟨y.x.drew, y.h.1.drew, y.h.2.1.kept (grown_of (Below.refl _ y.x).drew) (by cases hv : Value.ownBlock u3 <;> simp), y.h.2.2.drew⟩, rfl⟩ ?_
                    replace rk := rk.out
                    replace rd := rd.out
                    repeat (go_big_quiet_step (first | with_reducible rfl))
                    refine wpQuiet_nil ?_
                    clear y
                    rintro _ ⟨y, rfl⟩
                    clear rk rd rl md
                    have hyy : Hid (∃ z : HeldM w LM m u3 ms, y.x = z.x) := hide ⟨y, rfl⟩
                    go_wp2
                    go_roundw
                    case rel => exact ⟨j + 1, by omega, by omega, rfl, by go_num, hG3, hyy⟩
                    case measure => simp [intOf]; omega
              · obtain rfl : G = false := by rw [← hG2.out]; simp
                clear hG2
                go_wp2_with fail
                refine region_calm (fun x => ∃ y : HeldM w LM m u3 ms, x = y.x) (by kernel_rfl) (by kernel_rfl) ⟨⟨y.x.drew, y.h.1.drew, y.h.2.1.kept (grown_of (Below.refl _ y.x).drew) (by cases hv : Value.ownBlock u3 <;> simp), y.h.2.2.drew⟩, rfl⟩ ?_
                replace rl := rl.out
                replace md := md.out
                repeat (go_big_quiet_step (first
                  | with_reducible rfl
                  | (go_at_call 42; with_reducible refine (cA.out _).mono ?_; rintro e wf ⟨rfl, bf⟩; exact ⟨rfl, HeldM.on _ bf, rfl⟩)
                  | (go_at_call 43; with_reducible refine (cB.out _).mono ?_; rintro e wf ⟨rfl, bf⟩; exact ⟨rfl, HeldM.on _ bf, rfl⟩)))
                refine wpQuiet_nil ?_
                clear y
                rintro _ ⟨y, rfl⟩
                clear cA cB rk rd rl md
                have hT3 : Hid (rdeadV l = (ms ++ [m]) ++ rdeadV (l.drop (k + 1))) := hide (by rw [hT2.out, if_neg e1.out, if_neg (by rw [hG.out]; simp)]; simp)
                have hN := hide (new_op1 y.x m)
                have hO1 := hide y.h.2.1
                have hb1 := hide y.h.2.2
                have hlm := y.h.1.loads 0 N6 (q1 _) (q2 _)
                have hml := hms.out
                clear hT2 hG hms
                go_wp2_with (at_builtin; refine wpList_append_own _ rfl _ _ 22 rfl w.heap.size 34 i0 (.agg (cellsM M0)) 6 48 Try.underlying22 hi hz0 hz1 hz2 rfl (by decide) _ _ _ rfl (hO1.out.alloc _) ⟨y.x.heap.size, 0, none⟩ 1 1 (cellsM m).toList rfl rfl hN.out.1 hN.out.2 (by unfold maxLen; omega) (by omega) (by have := hb1.out.size; simp; omega) ?_)
                intro v' w4 hown' hgrow _
                have b4 : Hid (Below w.heap.size w w4) := hide (by
                  refine (hb1.out.alloc hb1.out.size _).grown hgrow (by have := hb1.out.size; simp; omega) (fun k hk => ?_)
                  rcases hO1.out.2 with ⟨rfl, -⟩ | ⟨g, cap, cur, rfl, hg, -⟩
                  · cases hk
                  · cases hk; exact hg)
                have hown4 : Hid (w4.ownsRow w.heap.size 34 6 v' (ms ++ [m]).length (flat (ms ++ [m]))) := hide (by
                  rw [flat_snoc, List.length_append]
                  exact hown')
                obtain ⟨g', cap', rfl⟩ := ownsRow_succ hown'
                have hl4 : Hid ((ms ++ [m]).length ≤ k + 1) := hide (by simp; omega)
                clear hown' hgrow hO1 hb1 hN hlm hml
                go_wp2
                go_roundw
                case rel => exact ⟨k + 1, _, by omega, by go_num, hl4, hT3, hown4, b4⟩
                case measure => simp [intOf]; omega
            · obtain rfl : G = false := by rw [← hG2.out]; simp
              clear hG2
              go_wp2_with fail
              refine region_calm (fun x => ∃ y : HeldM w LM m u3 ms, x = y.x) (by kernel_rfl) (by kernel_rfl) ⟨⟨y.x.drew, y.h.1.drew, y.h.2.1.kept (grown_of (Below.refl _ y.x).drew) (by cases hv : Value.ownBlock u3 <;> simp), y.h.2.2.drew⟩, rfl⟩ ?_
              replace rl := rl.out
              replace md := md.out
              repeat (go_big_quiet_step (first
                | with_reducible rfl
                | (go_at_call 42; with_reducible refine (cA.out _).mono ?_; rintro e wf ⟨rfl, bf⟩; exact ⟨rfl, HeldM.on _ bf, rfl⟩)
                | (go_at_call 43; with_reducible refine (cB.out _).mono ?_; rintro e wf ⟨rfl, bf⟩; exact ⟨rfl, HeldM.on _ bf, rfl⟩)))
              refine wpQuiet_nil ?_
              clear y
              rintro _ ⟨y, rfl⟩
              clear cA cB rk rd rl md
              have hT3 : Hid (rdeadV l = (ms ++ [m]) ++ rdeadV (l.drop (k + 1))) := hide (by rw [hT2.out, if_neg e1.out, if_neg (by rw [hG.out]; simp)]; simp)
              have hN := hide (new_op1 y.x m)
              have hO1 := hide y.h.2.1
              have hb1 := hide y.h.2.2
              have hlm := y.h.1.loads 0 N6 (q1 _) (q2 _)
              have hml := hms.out
              clear hT2 hG hms
              go_wp2_with (at_builtin; refine wpList_append_own _ rfl _ _ 22 rfl w.heap.size 34 i0 (.agg (cellsM M0)) 6 48 Try.underlying22 hi hz0 hz1 hz2 rfl (by decide) _ _ _ rfl (hO1.out.alloc _) ⟨y.x.heap.size, 0, none⟩ 1 1 (cellsM m).toList rfl rfl hN.out.1 hN.out.2 (by unfold maxLen; omega) (by omega) (by have := hb1.out.size; simp; omega) ?_)
              intro v' w4 hown' hgrow _
              have b4 : Hid (Below w.heap.size w w4) := hide (by
                refine (hb1.out.alloc hb1.out.size _).grown hgrow (by have := hb1.out.size; simp; omega) (fun k hk => ?_)
                rcases hO1.out.2 with ⟨rfl, -⟩ | ⟨g, cap, cur, rfl, hg, -⟩
                · cases hk
                · cases hk; exact hg)
              have hown4 : Hid (w4.ownsRow w.heap.size 34 6 v' (ms ++ [m]).length (flat (ms ++ [m]))) := hide (by
                rw [flat_snoc, List.length_append]
                exact hown')
              obtain ⟨g', cap', rfl⟩ := ownsRow_succ hown'
              have hl4 : Hid ((ms ++ [m]).length ≤ k + 1) := hide (by simp; omega)
              clear hown' hgrow hO1 hb1 hN hlm hml
              go_wp2
              go_roundw
              case rel => exact ⟨k + 1, _, by omega, by go_num, hl4, hT3, hown4, b4⟩
              case measure => simp [intOf]; omega
          · have dj : decide ((j : Int) < (n : Int)) = false := by simp; omega
            obtain rfl : G = false := by rw [← hGj.out, List.drop_eq_nil_of_le (by have := hn.out; omega)]; rfl
            clear hGj hy
            have hT3 : Hid (rdeadV l = (ms ++ [m]) ++ rdeadV (l.drop (k + 1))) := hide (by rw [hT2.out, if_neg e1.out, if_neg (by rw [hG.out] ; simp)]; simp)
            have hN := hide (new_op1 y.x m)
            have hO1 := hide y.h.2.1
            have hb1 := hide y.h.2.2
            have hlm := y.h.1.loads 0 N6 (q1 _) (q2 _)
            have hml := hms.out
            clear hT2 hG hms
            go_wp2_with (at_builtin; refine wpList_append_own _ rfl _ _ 22 rfl w.heap.size 34 i0 (.agg (cellsM M0)) 6 48 Try.underlying22 hi hz0 hz1 hz2 rfl (by decide) _ _ _ rfl (hO1.out.alloc _) ⟨y.x.heap.size, 0, none⟩ 1 1 (cellsM m).toList rfl rfl hN.out.1 hN.out.2 (by unfold maxLen; omega) (by omega) (by have := hb1.out.size; simp; omega) ?_)
            intro v' w4 hown' hgrow _
            have b4 : Hid (Below w.heap.size w w4) := hide (by
              refine (hb1.out.alloc hb1.out.size _).grown hgrow (by have := hb1.out.size; simp; omega) (fun k hk => ?_)
              rcases hO1.out.2 with ⟨rfl, -⟩ | ⟨g, cap, cur, rfl, hg, -⟩
              · cases hk
              · cases hk; exact hg)
            have hown4 : Hid (w4.ownsRow w.heap.size 34 6 v' (ms ++ [m]).length (flat (ms ++ [m]))) := hide (by
              rw [flat_snoc, List.length_append]
              exact hown')
            obtain ⟨g', cap', rfl⟩ := ownsRow_succ hown'
            have hl4 : Hid ((ms ++ [m]).length ≤ k + 1) := hide (by simp; omega)
            clear hown' hgrow hO1 hb1 hN hlm hml
            go_wp2
            go_roundw
            case rel => exact ⟨k + 1, _, by omega, by go_num, hl4, hT3, hown4, b4⟩
            case measure => simp [intOf]; omega
    · have dk : decide ((k : Int) < (n : Int)) = false := by simp; omega
      have hF : Hid (rdeadV l = ms) := hide (by rw [hT.out, List.drop_eq_nil_of_le (by have := hn.out; omega)]; simp [rdeadV])
      go_wp2
      go_ret
      refine ⟨_, rfl, ?_, hb.out⟩
      rw [hF.out]
      exact hO.out

end Go.Proofs.Ytnbflahggpehpaa.Ir
