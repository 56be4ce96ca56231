/- Without a flag nothing is another one; operations that are known numbers alone are all set behind the second pass. -/
import Derived.Test.YtnbflahggpehpabQOpMay
import Derived.Test.YtnbflahggpehpabQOpNoneM
import Derived.Test.YtnbflahggpehpabQOpSame
import Derived.OwnWalk
namespace Go.Proofs.Ytnbflahggpehpab.Ir
open Go.RowKit
set_option linter.unusedVariables false
set_option maxRecDepth 100000
set_option linter.unusedSimpArgs false

theorem built1N (m : Mi) : Array.foldl (fun (cs : Array Value) (x : Value × Nat) => cs.setIfInBounds x.snd x.fst) (Array.map (fun x => (cellsM M0)[x % N6]!) (Array.range N6)) (cellsM m).zipIdx 0 N6 = cellsM m := by kernel_rfl

theorem new_op1 (y : World) (m : Mi) : (∀ j u, (cellsM m).toList[j]? = some u → (y.alloc (.cells (cellsM m) 32)).cell? ((⟨y.heap.size, 0, none⟩ : Addr).add j) = some u) ∧ ∀ u ∈ (cellsM m).toList, u.oneCell' = true := by
  refine ⟨fun j u h => ?_, fun u hu => ?_⟩
  · have b := Box.new y (cellsM m) 32
    rw [Addr.add_lit, Nat.zero_add, b.cell j]
    simpa using h
  · exact List.all_eq_true.1 (show ones (cellsM m) = true from rfl) u hu

/-- A world in which the parts of two operations lie. -/
structure CellW (w : World) (g1 o1 g2 o2 : Nat) (d c : Int) where
  x : World
  h : x.cell? ⟨g2, o2, none⟩ = some (.int .i64 1) ∧ x.cell? ⟨g2, o2 + 1, none⟩ = some (.int .i64 d) ∧ x.cell? ⟨g2, o2 + 5, none⟩ = some (.int .i64 c) ∧ x.cell? ⟨g1, o1 + 1, none⟩ = some (.int .i64 d) ∧ x.cell? ⟨g1, o1 + 5, none⟩ = some (.int .i64 c)
  b : Below w.heap.size w x

theorem lenN {w : World} {ad : Option Addr} {n c : Nat} {l : List Mi} (h : IsOps w (.slice ad n c) l) : l.length = n := by
  obtain ⟨a2, n2, c2, e, hn2, -, -⟩ := h.open'
  cases e
  exact hn2.symm

set_option maxHeartbeats 8000000 in
theorem none_cut {w : World} {ad : Option Addr} {n c K : Nat} {l : List Mi} (hnc : n ≤ c) (hK : (n ≤ 16 ∧ K = n) ∨ (16 < n ∧ K = 16)) (h : IsOps w (.slice ad K c) l) (hw : WordsM l) (hl : l.length ≤ 16) (v2 : Value) (zs : List Int) (hz : IsWords w v2 zs) :
    Calls Try.prog 3 #[.slice ad n c, v2] w fun e w' => e = .returned (.bool true) ∧ Below w.heap.size w w' := by
  obtain ⟨r1, r2, r3, r4, r5, r6, r7, r8, r9⟩ := rowRules
  obtain ⟨s1, s2, s3, s4, s5, s6, s7, s8, s9, s10⟩ := irSizes
  obtain ⟨q1, q2, q3, q4, q5, q6⟩ := irWhole
  obtain ⟨p1, p2, p3, p4, p5, p6, p7⟩ := irParts
  obtain ⟨t1, t2, t3, t4, t5, t6, t7⟩ := irSets
  have hi0 : (Try.prog.info? 32).map (fun i => (i.zero, i.size, i.bytes)) = some (some (.agg (cellsM M0)), 6, 48) := by kernel_rfl
  obtain ⟨i0, hi, hz0, hz1, hz2⟩ := info_parts hi0
  have cm := hide (lmay_any hnc hK h)
  have h := hide h
  obtain ⟨ad2, N, c2, rfl, hN, hmx, hnc2, hc⟩ := hz.open'
  replace hc := hide hc
  replace hN := hide hN
  clear hK hz
  go_enter Try.func3, Try.ntmps3
  obtain ⟨mb, hmb⟩ : ∃ mb, mayB l = mb := ⟨_, rfl⟩
  rw [hmb] at cm
  clear hmb
  go_upto_region 2 with (refine cm.out.mono ?_; rintro e w1 ⟨rfl, h1⟩)
  go_cut [23] from 10 (fun s23 x => s23 = .bool false ∧ Hid (Below w.heap.size w x))
  case first =>
    cases mb
    · have hb1 := hide h1
      go_wp2
      go_meet
      case rel => exact ⟨rfl, hb1⟩
    · have o1 := h.out.on h1
      have ca := hide (all_any o1 hl hw false false false)
      replace o1 := hide o1
      replace h1 := hide h1
      go_wp2_with fail
      refine ca.out.mono ?_
      rintro e w2 ⟨va, rfl, hS⟩
      have cs := hide (rsame_any (la := l) hS.ops (o1.out.on hS.kept))
      rw [show decide (l = l) = true by simp] at cs
      have b2 := hide (onto h1.out (Nat.le_refl _) hS.kept)
      clear ca hS o1 h1
      go_wp2_with fail
      refine cs.out.mono ?_
      rintro e w3 ⟨rfl, h3⟩
      have b3 := hide (onto b2.out (Nat.le_refl _) h3)
      clear cs b2 h3
      go_wp2
      go_meet
      case rel => exact ⟨rfl, b3⟩
  case rest =>
    obtain ⟨rfl, hbc⟩ := hcut
    clear cm h h1
    have hE : Hid ((wc.alloc (.cells #[] 32)).ownsRow w.heap.size 32 6 (.slice (some ⟨wc.heap.size, 0, none⟩) 0 0) 0 []) :=
      hide ⟨rfl, Or.inr ⟨wc.heap.size, 0, #[], rfl, hbc.out.size, heap_alloc_new _ _, Nat.le_refl _, Nat.zero_le _, rfl, rfl⟩⟩
    have hgc := hide (onto hbc.out (Nat.le_refl _) (grow wc (.cells #[] 32)))
    have hBS := built1N
    have e6 : ¬ cellsM M0 = #[] := by simp [cellsM]
    have e7 : ¬ N6 < 1 + 1 := by decide
    have e8 : ¬ N6 < 2 := by decide
    have e9 : ¬ N6 < 3 := by decide
    have e9' : ¬ N6 < 4 := by decide
    have e10 : ¬ N6 < 5 := by decide
    have e11 : ¬ N6 < 6 := by decide
    obtain ⟨ys, hys⟩ : ∃ ys, zs.take 15 = ys := ⟨_, rfl⟩
    have hyl : Hid (ys.length = min 15 N) := hide (by rw [← hys, List.length_take, hN.out])
    have hyw : Hid (∀ z ∈ ys, Cp.W32 z) := hide (fun z hz => by
      rw [← hys] at hz
      obtain ⟨j, hj, rfl⟩ := List.getElem_of_mem (List.mem_of_mem_take hz)
      exact (hc.out j _ (List.getElem?_eq_getElem hj)).1)
    have hys := hide hys
    go_wp2_with fail
    go_loopw [6, 7] (fun v i wr => ∃ (k : Nat) (ms : List Mi), k ≤ N ∧ k ≤ 15 ∧ i = .int .i64 (k : Int) ∧ ms.length = k ∧ Hid (numsM 0 ys = ms ++ numsM k (ys.drop k)) ∧ Hid (wr.ownsRow w.heap.size 32 6 v ms.length (flat ms)) ∧ Hid (Below w.heap.size w wr)) (fun _ i _ => 15 - (intOf i).toNat)
    case atStart => exact ⟨0, [], Nat.zero_le _, by omega, rfl, rfl, hide rfl, hE, hgc⟩
    case round =>
      obtain ⟨k, ms, hkN, hk15, rfl, hms, hT, hO, hb⟩ := hrel
      clear hE hgc hbc
      by_cases hlt : k < N ∧ k < 15
      · have d1 : decide ((k : Int) < (N : Int)) = true := by simp; omega
        have d2 : decide ((k : Int) < 15) = true := by simp; omega
        obtain ⟨z, hz⟩ : ∃ z, zs[k]? = some z := ⟨zs[k]'(by have := hN.out; omega), List.getElem?_eq_getElem _⟩
        obtain ⟨hzw, b, off, rfl, hbl, hc0⟩ := hc.out k z hz
        have hcell : wr.cell? ⟨b, off + k, none⟩ = some (.int .u32 z) := by rw [← hc0]; exact hb.out.cell (p := ⟨b, off + k, none⟩) hbl
        have hyz : ys[k]? = some z := by rw [← hys.out, List.getElem?_take_of_lt (by omega)]; exact hz
        have hT2 := hT.out
        rw [drop_at hyz, numsM, show ms ++ numM k z :: numsM (k + 1) (ys.drop (k + 1)) = (ms ++ [numM k z]) ++ numsM (k + 1) (ys.drop (k + 1)) by simp] at hT2
        obtain ⟨hz1', hz2'⟩ := hzw
        clear hT hz hc0 hyz
        by_cases hev : k % 2 = 0
        · have dv : ((k : Int) % 2 == 0) = true := by simp; omega
          have dv2 : ((k : Int).tmod 2 == 0) = true := by rw [Int.tmod_eq_emod_of_nonneg (by omega)]; exact dv
          have hnm : numM k z = (⟨1, 1 + (k : Int), 0, 0, z, (k : Int) + 1⟩ : Mi) := by unfold numM; rw [if_pos hev]
          rw [hnm] at hT2
          clear hnm
          replace hT2 := hide hT2
          have hN1 := hide (new_op1 wr (⟨1, 1 + (k : Int), 0, 0, z, (k : Int) + 1⟩ : Mi))
          go_wp2_with (at_builtin; refine wpList_append_own _ rfl _ _ 22 rfl w.heap.size 32 i0 (.agg (cellsM M0)) 6 48 Try.underlying22 hi hz0 hz1 hz2 rfl (by decide) _ _ _ rfl (hO.out.alloc _) ⟨wr.heap.size, 0, none⟩ 1 1 (cellsM (⟨1, 1 + (k : Int), 0, 0, z, (k : Int) + 1⟩ : Mi)).toList rfl rfl hN1.out.1 hN1.out.2 (by unfold maxLen; omega) (by omega) (by have := hb.out.size; simp; omega) ?_)
          intro v' w4 hown' hgrow _
          have b4 : Hid (Below w.heap.size w w4) := hide (by
            refine (hb.out.alloc hb.out.size _).grown hgrow (by have := hb.out.size; simp; omega) (fun k hk => ?_)
            rcases hO.out.2 with ⟨rfl, -⟩ | ⟨g, cap, cur, rfl, hg, -⟩
            · cases hk
            · cases hk; exact hg)
          have hown4 : Hid (w4.ownsRow w.heap.size 32 6 v' (ms ++ [(⟨1, 1 + (k : Int), 0, 0, z, (k : Int) + 1⟩ : Mi)]).length (flat (ms ++ [(⟨1, 1 + (k : Int), 0, 0, z, (k : Int) + 1⟩ : Mi)]))) := hide (by
            rw [flat_snoc, List.length_append, hms]
            exact hown')
          obtain ⟨g', cap', rfl⟩ := ownsRow_succ hown'
          have hl4 : (ms ++ [(⟨1, 1 + (k : Int), 0, 0, z, (k : Int) + 1⟩ : Mi)]).length = k + 1 := by simp [hms]
          clear hown' hgrow hO hb hN1
          go_wp2
          go_roundw
          case rel => exact ⟨k + 1, _, by omega, by omega, by go_num, hl4, hT2, hown4, b4⟩
          case measure => simp [intOf]; omega
        · have dv : ((k : Int) % 2 == 0) = false := by simp; omega
          have dv2 : ((k : Int).tmod 2 == 0) = false := by rw [Int.tmod_eq_emod_of_nonneg (by omega)]; exact dv
          obtain ⟨B7, hB7⟩ : ∃ B7, bits .and .i64 z 7 = B7 := ⟨_, rfl⟩
          obtain ⟨c7, c8⟩ := and7 z ⟨hz1', hz2'⟩
          rw [hB7] at c7 c8
          have hnm : numM k z = (⟨3 + B7, 1 + (k : Int), (k : Int), 0, 0, (k : Int) + 1⟩ : Mi) := by unfold numM; rw [if_neg hev, hB7]
          rw [hnm] at hT2
          clear hnm
          replace hT2 := hide hT2
          have hN1 := hide (new_op1 wr (⟨3 + B7, 1 + (k : Int), (k : Int), 0, 0, (k : Int) + 1⟩ : Mi))
          go_wp2_with (at_builtin; refine wpList_append_own _ rfl _ _ 22 rfl w.heap.size 32 i0 (.agg (cellsM M0)) 6 48 Try.underlying22 hi hz0 hz1 hz2 rfl (by decide) _ _ _ rfl (hO.out.alloc _) ⟨wr.heap.size, 0, none⟩ 1 1 (cellsM (⟨3 + B7, 1 + (k : Int), (k : Int), 0, 0, (k : Int) + 1⟩ : Mi)).toList rfl rfl hN1.out.1 hN1.out.2 (by unfold maxLen; omega) (by omega) (by have := hb.out.size; simp; omega) ?_)
          intro v' w4 hown' hgrow _
          have b4 : Hid (Below w.heap.size w w4) := hide (by
            refine (hb.out.alloc hb.out.size _).grown hgrow (by have := hb.out.size; simp; omega) (fun k hk => ?_)
            rcases hO.out.2 with ⟨rfl, -⟩ | ⟨g, cap, cur, rfl, hg, -⟩
            · cases hk
            · cases hk; exact hg)
          have hown4 : Hid (w4.ownsRow w.heap.size 32 6 v' (ms ++ [(⟨3 + B7, 1 + (k : Int), (k : Int), 0, 0, (k : Int) + 1⟩ : Mi)]).length (flat (ms ++ [(⟨3 + B7, 1 + (k : Int), (k : Int), 0, 0, (k : Int) + 1⟩ : Mi)]))) := hide (by
            rw [flat_snoc, List.length_append, hms]
            exact hown')
          obtain ⟨g', cap', rfl⟩ := ownsRow_succ hown'
          have hl4 : (ms ++ [(⟨3 + B7, 1 + (k : Int), (k : Int), 0, 0, (k : Int) + 1⟩ : Mi)]).length = k + 1 := by simp [hms]
          clear hown' hgrow hO hb hN1
          go_wp2
          go_roundw
          case rel => exact ⟨k + 1, _, by omega, by omega, by go_num, hl4, hT2, hown4, b4⟩
          case measure => simp [intOf]; omega
      · have hF : Hid (numsM 0 ys = ms) := hide (by rw [hT.out, List.drop_eq_nil_of_le (by have := hyl.out; omega)]; simp [numsM])
        have hl16 : ms.length ≤ 16 := by omega
        have hmw : WordsM ms := (words_iff ms).2 (by rw [← hF.out]; exact nums_w ys 0 hyw.out)
        have cf := hide (fold_any (ops_of_own hO.out) hl16 hmw)
        have hset : Hid (∀ (p : Nat) (m : Mi), ms[p]? = some m → ∃ q, (foldV ms)[p]? = some q ∧ SetOf m q) := hide (fun p m hp => by
          have := fold_nums ys (by have := hyl.out; omega) hyw.out p m (by rw [hF.out]; exact hp)
          rwa [hF.out] at this)
        obtain ⟨a1, n1, c1, rfl, hn1, -, -⟩ := (ops_of_own hO.out).open'
        have om := hide (ops_of_own hO.out)
        have hn16 : n1 ≤ 16 := by rw [hn1]; exact hl16
        have fl := fold_len ms
        replace hn1 := hide hn1
        by_cases hkN' : k < N
        case' pos =>
          have d1 : decide ((k : Int) < (N : Int)) = true := by simp; omega
          have d2 : decide ((k : Int) < 15) = false := by simp; omega
        case' neg =>
          have d1 : decide ((k : Int) < (N : Int)) = false := by simp; omega
        all_goals
          clear hT hO hF
          go_wp2_with fail
          refine cf.out.mono ?_
          rintro e y0 ⟨vf, rfl, hof, h0⟩
          have of := ops_of_own (l := foldV ms) (by rw [fl]; exact hof)
          have om0 := om.out.on h0
          have b0 := onto hb.out (Nat.le_refl _) h0
          obtain ⟨a2, n2, c2, rfl, hn2, -, -⟩ := of.open'
          obtain rfl : n2 = n1 := by rw [hn2, hn1.out, fl]
          have hS0 : Hid (IsOps y0 (.slice a2 n2 c2) (foldV ms) ∧ IsOps y0 (.slice a1 n2 c1) ms ∧ Below w.heap.size w y0) := hide ⟨of, om0, b0⟩
          have dn : ((n2 : Int) != (n2 : Int)) = false := by simp
          clear cf hof h0 om of om0 b0 hn2 hb
          go_wp2_with fail
          go_loopw [9] (fun i wr => ∃ p : Nat, p ≤ n2 ∧ i = .int .i64 (p : Int) ∧ Hid (IsOps wr (.slice a2 n2 c2) (foldV ms) ∧ IsOps wr (.slice a1 n2 c1) ms ∧ Below w.heap.size w wr)) (fun i _ => n2 - (intOf i).toNat)
          case atStart => exact ⟨0, Nat.zero_le _, rfl, hS0⟩
          case round =>
            obtain ⟨p, hp, rfl, hS⟩ := hrel
            clear hS0
            by_cases hpl : p < n2
            · have dp : decide ((p : Int) < (n2 : Int)) = true := by simp; omega
              obtain ⟨m, hm0⟩ : ∃ m, ms[p]? = some m := ⟨ms[p]'(by have := hn1.out; omega), List.getElem?_eq_getElem _⟩
              obtain ⟨q, hq0, hq1, hq2, hq3⟩ := hset.out p m hm0
              obtain ⟨hSf, hSm, hSb⟩ := hS.out
              obtain ⟨g1, o1, rfl, M1⟩ : ∃ g o, a1 = some ⟨g, o, none⟩ ∧ Mat wr g (o + p * 6) m := by
                obtain ⟨ad', n', c', e, -, -, hx⟩ := hSm.open'
                cases e
                obtain ⟨g, o, e, -, hM⟩ := hx p m hm0
                exact ⟨g, o, e, hM⟩
              obtain ⟨g2, o2, rfl, M2⟩ : ∃ g o, a2 = some ⟨g, o, none⟩ ∧ Mat wr g (o + p * 6) q := by
                obtain ⟨ad', n', c', e, -, -, hx⟩ := hSf.open'
                cases e
                obtain ⟨g, o, e, -, hM⟩ := hx p q hq0
                exact ⟨g, o, e, hM⟩
              have x0 : wr.cell? ⟨g2, o2 + p * N6, none⟩ = some (.int .i64 1) := by rw [← hq1]; exact M2 0 (by decide)
              have x1 : wr.cell? ⟨g2, o2 + p * N6 + 1, none⟩ = some (.int .i64 m.d) := by rw [← hq2]; exact M2 1 (by decide)
              have x5 : wr.cell? ⟨g2, o2 + p * N6 + 5, none⟩ = some (.int .i64 m.c) := by rw [← hq3]; exact M2 5 (by decide)
              have z1 : wr.cell? ⟨g1, o1 + p * N6 + 1, none⟩ = some (.int .i64 m.d) := M1 1 (by decide)
              have z5 : wr.cell? ⟨g1, o1 + p * N6 + 5, none⟩ = some (.int .i64 m.c) := M1 5 (by decide)
              clear M1 M2 hq0 hq1 hq2 hq3 hm0 hSf hSm hSb
              have u0 := hide (fun y : CellW wr g1 (o1 + p * N6) g2 (o2 + p * N6) m.d m.c => y.h.1)
              have u1 := hide (fun y : CellW wr g1 (o1 + p * N6) g2 (o2 + p * N6) m.d m.c => y.h.2.1)
              have u5 := hide (fun y : CellW wr g1 (o1 + p * N6) g2 (o2 + p * N6) m.d m.c => y.h.2.2.1)
              have t1' := hide (fun y : CellW wr g1 (o1 + p * N6) g2 (o2 + p * N6) m.d m.c => y.h.2.2.2.1)
              have t5' := hide (fun y : CellW wr g1 (o1 + p * N6) g2 (o2 + p * N6) m.d m.c => y.h.2.2.2.2)
              have n1' : (m.d != m.d) = false := by simp
              have n2' : (m.c != m.c) = false := by simp
              have x0 := hide x0
              have x1 := hide x1
              have x5 := hide x5
              have z1 := hide z1
              have z5 := hide z5
              go_wp2_with fail
              refine region_calm (fun x => ∃ y : CellW wr g1 (o1 + p * N6) g2 (o2 + p * N6) m.d m.c, x = y.x) (by kernel_rfl) (by kernel_rfl) ⟨⟨wr.drew, ⟨x0.out, x1.out, x5.out, z1.out, z5.out⟩, (Below.refl _ wr).drew⟩, rfl⟩ ?_
              replace u0 := u0.out
              replace u1 := u1.out
              replace u5 := u5.out
              replace t1' := t1'.out
              replace t5' := t5'.out
              repeat (go_big_quiet_step (first | with_reducible rfl))
              refine wpQuiet_nil ?_
              rintro _ ⟨y, rfl⟩
              have hS2 : Hid (IsOps y.x (.slice (some ⟨g2, o2, none⟩) n2 c2) (foldV ms) ∧ IsOps y.x (.slice (some ⟨g1, o1, none⟩) n2 c1) ms ∧ Below w.heap.size w y.x) := hide ⟨hS.out.1.on y.b, hS.out.2.1.on y.b, onto hS.out.2.2 (Nat.le_refl _) y.b⟩
              clear u0 u1 u5 t1' t5' x0 x1 x5 z1 z5 hS
              go_wp2
              go_roundw
              case rel => exact ⟨p + 1, by omega, by go_num, hS2⟩
              case measure => simp [intOf]; omega
            · have dp : decide ((p : Int) < (n2 : Int)) = false := by simp; omega
              have cx := hide (fixed_any wr)
              go_wp2_with fail
              refine cx.out.mono ?_
              rintro e w9 ⟨rfl, h9⟩
              have b9 := hide (onto hS.out.2.2 (Nat.le_refl _) h9)
              clear cx h9
              go_wp2
              go_ret
              exact ⟨rfl, b9.out⟩

theorem none_walk (w : World) (v : Value) (l : List Mi) (hl : IsOps w v l) (hw : WordsM l) (hc : CapOk v) (v2 : Value) (zs : List Int) (hz : IsWords w v2 zs) (_ : CapOk v2) :
    Calls Try.prog 3 #[v, v2] w fun e w' => e = .returned (.bool true) ∧ Below w.heap.size w w' := by
  obtain ⟨ad, n, c, rfl, hnc, h⟩ := cut_ops hl hw hc 16
  rcases h with ⟨hn, h, hw'⟩ | ⟨hn, h, hw'⟩
  · exact none_cut hnc (Or.inl ⟨hn, rfl⟩) h hw' (by rw [lenN h]; exact hn) v2 zs hz
  · exact none_cut hnc (Or.inr ⟨hn, rfl⟩) h hw' (by rw [lenN h]; exact Nat.le_refl _) v2 zs hz

end Go.Proofs.Ytnbflahggpehpab.Ir
