/- Layer 15: the document's Fold. -/
import Derived.Test.YtnbflahggpehpaaQOpRKnown
import Derived.Test.YtnbflahggpehpaaQOpRDead2
import Derived.Test.YtnbflahggpehpaaQIrBits
import Derived.Test.YtnbflahggpehpaaQOpLast
import Derived.Deep.CutRange
namespace Go.Proofs.Ytnbflahggpehpaa.Ir
open Go.RowKit
set_option linter.unusedVariables false
set_option maxRecDepth 100000
set_option linter.unusedSimpArgs false

/-- What the document's Fold makes of an operation behind others. -/
def rfM (m : Mi) (a b : Int × Bool) : Mi :=
  if 1 < m.k then
    if a.2 = true ∧ (b.2 = true ∨ m.k = 2) then ⟨1, m.d, 0, 0, valV m.k a.1 b.1 m.m, m.c⟩
    else if dzA m.k = true ∧ a.2 = true ∧ a.1 = 0 then ⟨2, m.d, m.b, 0, 0, m.c⟩
    else if (dzA m.k = true ∨ m.k = 4) ∧ b.2 = true ∧ b.1 = 0 then ⟨2, m.d, m.a, 0, 0, m.c⟩ else m
  else m

def rfO (out : List Mi) (m : Mi) : Mi := rfM m (meanD m.a m.m out) (meanD m.b m.m out)

def rfoldG : List Mi → List Mi → List Mi
  | out, [] => out
  | out, m :: r => rfoldG (out ++ [rfO out m]) r

theorem know_w {l : List Mi} (h : ∀ m ∈ l, Cp.W32 m.m) (n : Int) : Cp.W32 (knowD n l).1 := by
  have key : ∀ r : List Mi, (∀ m ∈ r, Cp.W32 m.m) → Cp.W32 (knowR n r).1 := by
    intro r
    induction r with
    | nil => intro _; exact Cp.w0
    | cons x r ih =>
      intro hr
      rw [knowR]
      split
      · exact hr x (List.mem_cons_self ..)
      · exact ih (fun m hm => hr m (List.mem_cons_of_mem _ hm))
  unfold knowD
  split
  · exact Cp.w0
  · exact key _ (fun m hm => h m (by simpa using hm))

theorem mean_w {l : List Mi} (h : ∀ m ∈ l, Cp.W32 m.m) {n imm : Int} (hi : Cp.W32 imm) : Cp.W32 (meanD n imm l).1 := by
  unfold meanD
  split
  · exact hi
  · exact know_w h n

theorem rfM_w {m : Mi} {a b : Int × Bool} (hm : Cp.W32 m.m) (ha : Cp.W32 a.1) (hb : Cp.W32 b.1) : Cp.W32 (rfM m a b).m := by
  unfold rfM
  repeat' split
  all_goals first | exact valV_w _ _ _ _ ha hb hm | exact Cp.w0 | exact hm

/-- An operation in a block. -/
def HeldB (L : Nat) (m : Mi) (y : World) : Prop := Box y L (cellsM m)

theorem HeldB.told {L : Nat} {m : Mi} {y : World} (h : HeldB L m y) : y.cell? ⟨L, 0, none⟩ = some (.int .i64 m.k) ∧ y.cell? ⟨L, 1, none⟩ = some (.int .i64 m.d) ∧ y.cell? ⟨L, 4, none⟩ = some (.int .u32 m.m) ∧ y.cell? ⟨L, 5, none⟩ = some (.int .i64 m.c) :=
  ⟨Box.cell h 0, Box.cell h 1, Box.cell h 4, Box.cell h 5⟩

theorem own_lt {base n : Nat} {y : World} {v : Value} {xs : List Value} (h : y.ownsRow base 34 6 v n xs) : v.ownBlock = none ∨ v.ownBlock ≠ some y.heap.size := by
  rcases h.2 with ⟨rfl, -⟩ | ⟨g, cap, cur, rfl, hb, hg, -⟩
  · exact Or.inl rfl
  · refine Or.inr (fun e => ?_)
    have : g = y.heap.size := by simpa [Value.ownBlock] using e
    have := (Array.getElem?_eq_some_iff.1 hg).1
    omega

theorem own_far {base n L : Nat} {y : World} {v : Value} {xs : List Value} (h : y.ownsRow base 34 6 v n xs) (hn : v.ownBlock = none ∨ v.ownBlock ≠ some L) (c : Array Value) : (y.setRow L c).ownsRow base 34 6 v n xs :=
  h.kept (grown_row ((grown_of (Below.refl _ y)).but (some L)) (Or.inl rfl) c) hn

set_option maxHeartbeats 8000000 in
theorem rfold_raw {w : World} {v : Value} {l : List Mi} (h : IsOps w v l) (hl : l.length ≤ 16) (hs : SoundL l) (hw : WordsM l) : Calls Try.prog 15 #[v] w fun e w' =>
    ∃ v', e = .returned v' ∧ w'.ownsRow w.heap.size 34 6 v' (rfoldG [] l).length (flat (rfoldG [] l)) ∧ Below w.heap.size w w' := by
  obtain ⟨r1, r2, r3, r4, r5, r6, r7, r8, r9⟩ := rowRules
  obtain ⟨s1, s2, s3, s4, s5, s6, s7, s8, s9, s10⟩ := irSizes
  obtain ⟨q1, q2, q3, q4, q5, q6⟩ := irWhole
  obtain ⟨p1, p2, p3, p4, p5, p6, p7⟩ := irParts
  obtain ⟨k1, k2⟩ := rowSets
  obtain ⟨t1, t2, t3, t4, t5, t6, t7⟩ := irSets
  have e6 : ¬ cellsM M0 = #[] := by simp [cellsM]
  have e7 : ¬ N6 < 1 + 1 := by decide
  have e8 : ¬ N6 < 2 := by decide
  have e9 : ¬ N6 < 3 := by decide
  have e10 : ¬ N6 < 5 := by decide
  have e11 : ¬ N6 < 6 := by decide
  have hi0 : (Try.prog.info? 34).map (fun i => (i.zero, i.size, i.bytes)) = some (some (.agg (cellsM M0)), 6, 48) := by kernel_rfl
  obtain ⟨i0, hi, hz0, hz1, hz2⟩ := info_parts hi0
  obtain ⟨ad, n, c, rfl, hn, hmx, hm⟩ := h.open'
  have hn16 : n ≤ 16 := by omega
  replace hm := hide hm
  replace hn := hide hn
  replace hs := hide hs
  replace hw := hide hw
  have hBS := built1
  have hE : Hid ((w.alloc (.cells #[] 34)).ownsRow w.heap.size 34 6 (.slice (some ⟨w.heap.size, 0, none⟩) 0 0) 0 []) :=
    hide ⟨rfl, Or.inr ⟨w.heap.size, 0, #[], rfl, Nat.le_refl _, heap_alloc_new _ _, Nat.le_refl _, Nat.zero_le _, rfl, rfl⟩⟩
  have hg := hide (grow w (.cells #[] 34))
  clear h hl
  go_enter Try.func15, Try.ntmps15
  go_wp2_with fail
  go_loopw [3, 4] (fun v i wr => ∃ (k : Nat) (ms : List Mi), k ≤ n ∧ i = .int .i64 (k : Int) ∧ Hid (ms.length = k) ∧ Hid (∀ m ∈ ms, Cp.W32 m.m) ∧ Hid (rfoldG [] l = rfoldG ms (l.drop k)) ∧ Hid (wr.ownsRow w.heap.size 34 6 v ms.length (flat ms)) ∧ Hid (Below w.heap.size w wr)) (fun _ i _ => n - (intOf i).toNat)
  case atStart => exact ⟨0, [], Nat.zero_le _, rfl, hide rfl, hide (fun m hm => by cases hm), hide rfl, hide (by first | exact hE.out | exact World.ownsRow_nil _ _ _ _), hg⟩
  case round =>
    obtain ⟨k, ms, hk, rfl, hms, hmw, hT, hO, hb⟩ := hrel
    clear hE hg
    by_cases hlt : k < n
    · have dk : decide ((k : Int) < (n : Int)) = true := by simp; omega
      obtain ⟨m, hm0⟩ : ∃ m, l[k]? = some m := ⟨l[k]'(by have := hn.out; omega), List.getElem?_eq_getElem _⟩
      obtain ⟨g, o, rfl, hg, hM0⟩ := hm.out k m hm0
      have hld : (loadCellsFrom ⟨g, o + k * N6, none⟩ 0 N6 #[]).run Try.prog wr = .ok (cellsM m) wr := (hM0.on hg hb.out).load
      have hT2 := hT.out
      rw [drop_at hm0, rfoldG] at hT2
      replace hT2 := hide hT2
      have hsm := hide (hs.out m (List.mem_of_getElem? hm0))
      have hwm := hide (hw.out k m hm0)
      have hl16 : ms.length ≤ 16 := by rw [hms.out]; omega
      have xA : Hid (Box (wr.alloc (.cells (cellsM m) 34)) wr.heap.size (cellsM m)) := hide (Box.new _ _ _)
      have hO2 := hide (hO.out.alloc (.cells (cellsM m) 34))
      have hb2 := hide (onto hb.out (Nat.le_refl _) (grow wr (.cells (cellsM m) 34)))
      have hLO := hide (own_lt hO.out)
      have hLw := hide hb.out.size
      clear hT hM0 hm0 hO hb
      go_upto_if 26 with fail
      generalize hLM : wr.heap.size = LM at *
      generalize World.alloc wr _ = W1 at *
      go_cut [6, 7, 8, 9, 10, 11, 12] from 14 to 119 (fun _ _ _ _ _ _ _ x => Hid (Box x LM (cellsM (rfO ms m)) ∧ x.ownsRow w.heap.size 34 6 u3 ms.length (flat ms) ∧ Below w.heap.size w x))
      case first =>
        by_cases e0 : 1 < m.k
        · have d0 : decide (1 < m.k) = true := by simpa using e0
          have e0 := hide e0
          have hk13 : Hid (1 ≤ m.k ∧ m.k ≤ 13) := hide (by have := sound_k hsm.out; have := e0.out; omega)
          have o1 := hide (ops_of_own hO2.out)
          have cA := hide (rmeans_any o1.out hl16 m m.a)
          rw [hms.out] at cA
          have lm := xA.out.loads 0 N6 (q1 _) (q2 _)
          have lma : W1.cell? ⟨LM, 2, none⟩ = some (.int .i64 m.a) := (xA.out.cell 2).trans (p3 m)
          have ha := hide (mean_w hmw.out hwm.out (n := m.a))
          have hb' := hide (mean_w hmw.out hwm.out (n := m.b))
          generalize hAe : meanD m.a m.m ms = A at *
          generalize hBe : meanD m.b m.m ms = B at *
          replace hAe := hide hAe
          replace hBe := hide hBe
          go_wp2_with fail
          refine cA.out.mono ?_
          rintro r y1 ⟨rfl, h1⟩
          have x1 := xA.out.on h1
          have o2 := o1.out.on h1
          have b2 := hide (onto hb2.out (Nat.le_refl _) h1)
          have hO3 := hide (hO2.out.kept (grown_of h1) (by cases hv : Value.ownBlock u3 <;> simp))
          have cB := hide (rmeans_any o2 hl16 m m.b)
          rw [hms.out, hBe.out] at cB
          have lm1 := x1.loads 0 N6 (q1 _) (q2 _)
          have lmb : y1.cell? ⟨LM, 3, none⟩ = some (.int .i64 m.b) := (x1.cell 3).trans (p4 m)
          replace x1 := hide x1
          clear cA xA hO2 hb2 o1 o2 h1 lm lma
          go_wp2_with fail
          refine cB.out.mono ?_
          rintro r y2 ⟨rfl, h2⟩
          have xZ := x1.out.on h2
          have hO2 := hide (hO3.out.kept (grown_of h2) (by cases hv : Value.ownBlock u3 <;> simp))
          have hb2 := hide (onto b2.out (Nat.le_refl _) h2)
          clear cB x1 hO3 b2 h2 lm1 lmb
          have z0 : y2.cell? ⟨LM, 0, none⟩ = some (.int .i64 m.k) := (xZ.cell 0).trans (p1 m)
          have z1 : y2.cell? ⟨LM, 1, none⟩ = some (.int .i64 m.d) := (xZ.cell 1).trans (p2 m)
          have z2 : y2.cell? ⟨LM, 2, none⟩ = some (.int .i64 m.a) := (xZ.cell 2).trans (p3 m)
          have z3 : y2.cell? ⟨LM, 3, none⟩ = some (.int .i64 m.b) := (xZ.cell 3).trans (p4 m)
          have z4 : y2.cell? ⟨LM, 4, none⟩ = some (.int .u32 m.m) := (xZ.cell 4).trans (p5 m)
          have z5 : y2.cell? ⟨LM, 5, none⟩ = some (.int .i64 m.c) := (xZ.cell 5).trans (p6 m)
          replace xZ := hide xZ
          go_upto_region 9 with fail
          obtain ⟨a, xb⟩ := A
          obtain ⟨b, yb⟩ := B
          simp only at ha hb'
          obtain ⟨SS, hSS⟩ : ∃ SS, dzA m.k = SS := ⟨_, rfl⟩
          replace hSS := hide hSS
          have c3 := fun (W : World) => W
          clear c3
          cases xb
          all_goals cases yb
          all_goals
            go_upto_region 11 with fail
            go_cut [12] from 14 to 119 (fun s12 x => s12 = .bool SS ∧ x = y2)
            case first =>
              obtain ⟨b3, h3⟩ : ∃ t, (m.k == 3) = t := ⟨_, rfl⟩
              obtain ⟨b6, h6⟩ : ∃ t, (m.k == 6) = t := ⟨_, rfl⟩
              obtain ⟨b7, h7⟩ : ∃ t, (m.k == 7) = t := ⟨_, rfl⟩
              have hS3 : Hid ((b3 || b6 || b7) = SS) := hide (by rw [← hSS.out, dzA, h3, h6, h7])
              cases b3
              · cases b6
                · go_wp2
                  go_meet
                  case rel => exact ⟨by rw [← hS3.out]; simp [h7], rfl⟩
                · go_wp2
                  go_meet
                  case rel => exact ⟨by rw [← hS3.out]; simp, rfl⟩
              · go_wp2
                go_meet
                case rel => exact ⟨by rw [← hS3.out]; simp, rfl⟩
            case' rest =>
              obtain ⟨rfl, rfl⟩ := hcut
          · cases SS
            · by_cases k4 : m.k = 4
              · have dk4 : (m.k == 4) = true := by simpa using k4
                replace k4 := hide k4
                have hq : Hid (rfO ms m = m) := hide (by unfold rfO; rw [hAe.out, hBe.out]; unfold rfM; rw [if_pos e0.out, if_neg (by simp), if_neg (by simp), if_neg (by simp)])
                go_wp2
                go_meet
                case rel => exact hide ⟨by rw [hq.out]; exact xZ.out, hO2.out, hb2.out⟩
              · have dk4 : (m.k == 4) = false := by simpa using k4
                have hq : Hid (rfO ms m = m) := hide (by unfold rfO; rw [hAe.out, hBe.out]; unfold rfM; rw [if_pos e0.out, if_neg (by simp), if_neg (by simp), if_neg (by simp)])
                go_wp2
                go_meet
                case rel => exact hide ⟨by rw [hq.out]; exact xZ.out, hO2.out, hb2.out⟩
            · have hq : Hid (rfO ms m = m) := hide (by unfold rfO; rw [hAe.out, hBe.out]; unfold rfM; rw [if_pos e0.out, if_neg (by simp), if_neg (by simp), if_neg (by simp)])
              go_wp2
              go_meet
              case rel => exact hide ⟨by rw [hq.out]; exact xZ.out, hO2.out, hb2.out⟩
          · cases SS
            · by_cases k4 : m.k = 4
              · have dk4 : (m.k == 4) = true := by simpa using k4
                replace k4 := hide k4
                by_cases b0 : b = 0
                · have db0 : (b == 0) = true := by simpa using b0
                  replace b0 := hide b0
                  have hq : Hid (rfO ms m = ⟨2, m.d, m.a, 0, 0, m.c⟩) := hide (by unfold rfO; rw [hAe.out, hBe.out]; unfold rfM; rw [if_pos e0.out, if_neg (by simp), if_neg (by simp), if_pos ⟨Or.inr k4.out, rfl, b0.out⟩])
                  have xS : Hid (Box (wc.setRow LM (cellsM ⟨2, m.d, m.a, 0, 0, m.c⟩)) LM (cellsM ⟨2, m.d, m.a, 0, 0, m.c⟩)) := hide (xZ.out.set _)
                  have hOS := hide (own_far hO2.out hLO.out (cellsM ⟨2, m.d, m.a, 0, 0, m.c⟩))
                  have hbS := hide (below_setRow hb2.out hLw.out (cellsM ⟨2, m.d, m.a, 0, 0, m.c⟩))
                  obtain ⟨x1, x2, x3⟩ := xZ.out
                  go_wp2
                  go_meet
                  case rel => exact hide ⟨by rw [hq.out]; exact xS.out, hOS.out, hbS.out⟩
                · have db0 : (b == 0) = false := by simpa using b0
                  have hq : Hid (rfO ms m = m) := hide (by unfold rfO; rw [hAe.out, hBe.out]; unfold rfM; rw [if_pos e0.out, if_neg (by simp), if_neg (by simp), if_neg (by simp [b0])])
                  go_wp2
                  go_meet
                  case rel => exact hide ⟨by rw [hq.out]; exact xZ.out, hO2.out, hb2.out⟩
              · have dk4 : (m.k == 4) = false := by simpa using k4
                have hq : Hid (rfO ms m = m) := hide (by unfold rfO; rw [hAe.out, hBe.out]; unfold rfM; rw [if_pos e0.out, if_neg (by simp), if_neg (by simp), if_neg (by simp [hSS.out, k4])])
                go_wp2
                go_meet
                case rel => exact hide ⟨by rw [hq.out]; exact xZ.out, hO2.out, hb2.out⟩
            · by_cases b0 : b = 0
              · have db0 : (b == 0) = true := by simpa using b0
                replace b0 := hide b0
                have hq : Hid (rfO ms m = ⟨2, m.d, m.a, 0, 0, m.c⟩) := hide (by unfold rfO; rw [hAe.out, hBe.out]; unfold rfM; rw [if_pos e0.out, if_neg (by simp), if_neg (by simp), if_pos ⟨Or.inl hSS.out, rfl, b0.out⟩])
                have xS : Hid (Box (wc.setRow LM (cellsM ⟨2, m.d, m.a, 0, 0, m.c⟩)) LM (cellsM ⟨2, m.d, m.a, 0, 0, m.c⟩)) := hide (xZ.out.set _)
                have hOS := hide (own_far hO2.out hLO.out (cellsM ⟨2, m.d, m.a, 0, 0, m.c⟩))
                have hbS := hide (below_setRow hb2.out hLw.out (cellsM ⟨2, m.d, m.a, 0, 0, m.c⟩))
                obtain ⟨x1, x2, x3⟩ := xZ.out
                go_wp2
                go_meet
                case rel => exact hide ⟨by rw [hq.out]; exact xS.out, hOS.out, hbS.out⟩
              · have db0 : (b == 0) = false := by simpa using b0
                have hq : Hid (rfO ms m = m) := hide (by unfold rfO; rw [hAe.out, hBe.out]; unfold rfM; rw [if_pos e0.out, if_neg (by simp), if_neg (by simp), if_neg (by simp [b0])])
                go_wp2
                go_meet
                case rel => exact hide ⟨by rw [hq.out]; exact xZ.out, hO2.out, hb2.out⟩
          · by_cases k2 : m.k = 2
            · have dk2 : (m.k == 2) = true := by simpa using k2
              replace k2 := hide k2
              have hq : Hid (rfO ms m = ⟨1, m.d, 0, 0, valV m.k a b m.m, m.c⟩) := hide (by unfold rfO; rw [hAe.out, hBe.out]; unfold rfM; rw [if_pos e0.out, if_pos ⟨rfl, Or.inr k2.out⟩])
              have cv := hide (rvalue_any m.k a b m.m hk13.out ha.out hb'.out)
              generalize valV m.k a b m.m = V at *
              have xS : Hid (Box (wc.drew.setRow LM (cellsM ⟨1, m.d, 0, 0, V, m.c⟩)) LM (cellsM ⟨1, m.d, 0, 0, V, m.c⟩)) := hide (xZ.out.drew.set _)
              have hOS := hide (own_far (hO2.out.kept (grown_of (Below.refl _ wc).drew) (by cases hv : Value.ownBlock u3 <;> simp)) hLO.out (cellsM ⟨1, m.d, 0, 0, V, m.c⟩))
              have hbS := hide (below_setRow hb2.out.drew hLw.out (cellsM ⟨1, m.d, 0, 0, V, m.c⟩))
              go_wp2_with fail
              clear z0 z1 z2 z3 z4 z5
              refine region_last 12 (HeldB LM m) (by kernel_rfl) xZ.out.drew (fun hHeld => ?_)
              -- 0: fieldAddr
              refine AnyL.take (i := 0) (oi := { dst := some 77, op := Op.fieldAddr 34 (Operand.tmp 5) 1, type := 0, pos := "ref.go:83", after := #[], guard := none }) (v := ?_) rfl (by kernel_rfl) (by kernel_rfl) (by kernel_rfl) (by kernel_rfl) (fun _ _ _ h => h) (Or.inl ⟨by rfl, ?_⟩) (by assumption) ?_
              rotate_left
              · intro y hSw
                obtain ⟨u0, u1, u4, u5⟩ := hSw.told
                go_simp
                try with_reducible rfl
              try simp only [Act.put, List.setIfInBounds_toArray, List.set_cons_zero, List.set_cons_succ]
              -- 1: load
              refine AnyL.take (i := 1) (oi := { dst := some 78, op := Op.load 3 (Operand.tmp 77), type := 3, pos := "ref.go:83", after := #[{ on := 0, ground := Ground.data }], guard := none }) (v := ?_) rfl (by kernel_rfl) (by kernel_rfl) (by kernel_rfl) (by kernel_rfl) (fun _ _ _ h => h) (Or.inl ⟨by rfl, ?_⟩) (by assumption) ?_
              rotate_left
              · intro y hSw
                obtain ⟨u0, u1, u4, u5⟩ := hSw.told
                go_simp
                try with_reducible rfl
              try simp only [Act.put, List.setIfInBounds_toArray, List.set_cons_zero, List.set_cons_succ]
              -- 2: fieldAddr
              refine AnyL.take (i := 2) (oi := { dst := some 79, op := Op.fieldAddr 34 (Operand.tmp 5) 0, type := 0, pos := "ref.go:83", after := #[], guard := none }) (v := ?_) rfl (by kernel_rfl) (by kernel_rfl) (by kernel_rfl) (by kernel_rfl) (fun _ _ _ h => h) (Or.inl ⟨by rfl, ?_⟩) (by assumption) ?_
              rotate_left
              · intro y hSw
                obtain ⟨u0, u1, u4, u5⟩ := hSw.told
                go_simp
                try with_reducible rfl
              try simp only [Act.put, List.setIfInBounds_toArray, List.set_cons_zero, List.set_cons_succ]
              -- 3: load
              refine AnyL.take (i := 3) (oi := { dst := some 80, op := Op.load 3 (Operand.tmp 79), type := 3, pos := "ref.go:83", after := #[{ on := 2, ground := Ground.data }], guard := none }) (v := ?_) rfl (by kernel_rfl) (by kernel_rfl) (by kernel_rfl) (by kernel_rfl) (fun _ _ _ h => h) (Or.inl ⟨by rfl, ?_⟩) (by assumption) ?_
              rotate_left
              · intro y hSw
                obtain ⟨u0, u1, u4, u5⟩ := hSw.told
                go_simp
                try with_reducible rfl
              try simp only [Act.put, List.setIfInBounds_toArray, List.set_cons_zero, List.set_cons_succ]
              -- 4: move
              refine AnyL.take (i := 4) (oi := { dst := some 81, op := Op.move (Operand.tmp 6), type := 32, pos := "ref.go:83", after := #[], guard := none }) (v := ?_) rfl (by kernel_rfl) (by kernel_rfl) (by kernel_rfl) (by kernel_rfl) (fun _ _ _ h => h) (Or.inl ⟨by rfl, ?_⟩) (by assumption) ?_
              rotate_left
              · intro y hSw
                obtain ⟨u0, u1, u4, u5⟩ := hSw.told
                go_simp
                try with_reducible rfl
              try simp only [Act.put, List.setIfInBounds_toArray, List.set_cons_zero, List.set_cons_succ]
              -- 5: move
              refine AnyL.take (i := 5) (oi := { dst := some 82, op := Op.move (Operand.tmp 8), type := 32, pos := "ref.go:83", after := #[], guard := none }) (v := ?_) rfl (by kernel_rfl) (by kernel_rfl) (by kernel_rfl) (by kernel_rfl) (fun _ _ _ h => h) (Or.inl ⟨by rfl, ?_⟩) (by assumption) ?_
              rotate_left
              · intro y hSw
                obtain ⟨u0, u1, u4, u5⟩ := hSw.told
                go_simp
                try with_reducible rfl
              try simp only [Act.put, List.setIfInBounds_toArray, List.set_cons_zero, List.set_cons_succ]
              -- 6: fieldAddr
              refine AnyL.take (i := 6) (oi := { dst := some 83, op := Op.fieldAddr 34 (Operand.tmp 5) 4, type := 0, pos := "ref.go:83", after := #[], guard := none }) (v := ?_) rfl (by kernel_rfl) (by kernel_rfl) (by kernel_rfl) (by kernel_rfl) (fun _ _ _ h => h) (Or.inl ⟨by rfl, ?_⟩) (by assumption) ?_
              rotate_left
              · intro y hSw
                obtain ⟨u0, u1, u4, u5⟩ := hSw.told
                go_simp
                try with_reducible rfl
              try simp only [Act.put, List.setIfInBounds_toArray, List.set_cons_zero, List.set_cons_succ]
              -- 7: load
              refine AnyL.take (i := 7) (oi := { dst := some 84, op := Op.load 32 (Operand.tmp 83), type := 32, pos := "ref.go:83", after := #[{ on := 6, ground := Ground.data }], guard := none }) (v := ?_) rfl (by kernel_rfl) (by kernel_rfl) (by kernel_rfl) (by kernel_rfl) (fun _ _ _ h => h) (Or.inl ⟨by rfl, ?_⟩) (by assumption) ?_
              rotate_left
              · intro y hSw
                obtain ⟨u0, u1, u4, u5⟩ := hSw.told
                go_simp
                try with_reducible rfl
              try simp only [Act.put, List.setIfInBounds_toArray, List.set_cons_zero, List.set_cons_succ]
              -- 9: fieldAddr
              refine AnyL.take (i := 9) (oi := { dst := some 86, op := Op.fieldAddr 34 (Operand.tmp 5) 5, type := 0, pos := "ref.go:83", after := #[], guard := none }) (v := ?_) rfl (by kernel_rfl) (by kernel_rfl) (by kernel_rfl) (by kernel_rfl) (fun _ _ _ h => h) (Or.inl ⟨by rfl, ?_⟩) (by assumption) ?_
              rotate_left
              · intro y hSw
                obtain ⟨u0, u1, u4, u5⟩ := hSw.told
                go_simp
                try with_reducible rfl
              try simp only [Act.put, List.setIfInBounds_toArray, List.set_cons_zero, List.set_cons_succ]
              -- 10: load
              refine AnyL.take (i := 10) (oi := { dst := some 87, op := Op.load 3 (Operand.tmp 86), type := 3, pos := "ref.go:83", after := #[{ on := 9, ground := Ground.data }], guard := none }) (v := ?_) rfl (by kernel_rfl) (by kernel_rfl) (by kernel_rfl) (by kernel_rfl) (fun _ _ _ h => h) (Or.inl ⟨by rfl, ?_⟩) (by assumption) ?_
              rotate_left
              · intro y hSw
                obtain ⟨u0, u1, u4, u5⟩ := hSw.told
                go_simp
                try with_reducible rfl
              try simp only [Act.put, List.setIfInBounds_toArray, List.set_cons_zero, List.set_cons_succ]
              -- 8: call
              refine AnyL.one (i := 8) (o := { dst := some 85, op := Op.call { callee := Callee.value (Operand.func 36), args := #[Operand.tmp 80, Operand.tmp 81, Operand.tmp 82, Operand.tmp 84], argTypes := #[3, 32, 32, 32] }, type := 32, pos := "ref.go:83", after := #[{ on := 3, ground := Ground.data }, { on := 4, ground := Ground.data }, { on := 5, ground := Ground.data }, { on := 7, ground := Ground.data }], guard := none }) (by kernel_rfl) rfl (fun KK hKK => ?_)
              go_simp
              refine (cv.out _).mono ?_
              rintro rr wv ⟨rfl, rfl⟩
              go_wp2_with fail
              replace hHeld : (HeldB LM m) _ := hHeld
              refine hKK.out _ _ (Or.inr hHeld) ?_
              clear hKK KK
              try simp only [Act.put, List.setIfInBounds_toArray, List.set_cons_zero, List.set_cons_succ]
              -- 11: build
              refine AnyL.take (i := 11) (oi := { dst := some 88, op := Op.build 34 #[(0, Operand.const (Value.int IntKind.i64 1)), (1, Operand.tmp 78), (4, Operand.tmp 85), (5, Operand.tmp 87)], type := 34, pos := "ref.go:83", after := #[{ on := 1, ground := Ground.data }, { on := 8, ground := Ground.data }, { on := 10, ground := Ground.data }], guard := none }) (v := ?_) rfl (by kernel_rfl) (by kernel_rfl) (by kernel_rfl) (by kernel_rfl) (fun _ _ _ h => h) (Or.inl ⟨by rfl, ?_⟩) (by assumption) ?_
              rotate_left
              · intro y hSw
                obtain ⟨u0, u1, u4, u5⟩ := hSw.told
                go_simp
                try with_reducible rfl
              try simp only [Act.put, List.setIfInBounds_toArray, List.set_cons_zero, List.set_cons_succ]
              -- 12: store
              refine AnyL.one (i := 12) (o := { dst := none, op := Op.store 34 (Operand.tmp 5) (Operand.tmp 88), type := 0, pos := "ref.go:83", after := #[{ on := 11, ground := Ground.data }, { on := 8, ground := Ground.chain }, { on := 0, ground := Ground.phase }, { on := 1, ground := Ground.phase }, { on := 2, ground := Ground.phase }, { on := 3, ground := Ground.phase }, { on := 4, ground := Ground.phase }, { on := 5, ground := Ground.phase }, { on := 6, ground := Ground.phase }, { on := 7, ground := Ground.phase }, { on := 8, ground := Ground.phase }, { on := 9, ground := Ground.phase }, { on := 10, ground := Ground.phase }, { on := 11, ground := Ground.phase }], guard := none }) (by kernel_rfl) rfl (fun KK hKK => ?_)
              obtain ⟨x1, x2, x3⟩ := xZ.out
              go_simp
              refine hKK.out _ _ (Or.inl rfl) ?_
              clear hKK KK
              try simp only [Act.put, List.setIfInBounds_toArray, List.set_cons_zero, List.set_cons_succ]
              refine AnyL.done (by kernel_rfl) ?_ _

              go_wp2_with fail
              go_meet
              case rel => exact hide ⟨by rw [hq.out]; exact xS.out, hOS.out, hbS.out⟩
            · have dk2 : (m.k == 2) = false := by simpa using k2
              cases SS
              · by_cases k4 : m.k = 4
                · have dk4 : (m.k == 4) = true := by simpa using k4
                  replace k4 := hide k4
                  have hq : Hid (rfO ms m = m) := hide (by unfold rfO; rw [hAe.out, hBe.out]; unfold rfM; rw [if_pos e0.out, if_neg (by simp [k2]), if_neg (by simp [hSS.out]), if_neg (by simp)])
                  go_wp2
                  go_meet
                  case rel => exact hide ⟨by rw [hq.out]; exact xZ.out, hO2.out, hb2.out⟩
                · have dk4 : (m.k == 4) = false := by simpa using k4
                  have hq : Hid (rfO ms m = m) := hide (by unfold rfO; rw [hAe.out, hBe.out]; unfold rfM; rw [if_pos e0.out, if_neg (by simp [k2]), if_neg (by simp [hSS.out]), if_neg (by simp)])
                  go_wp2
                  go_meet
                  case rel => exact hide ⟨by rw [hq.out]; exact xZ.out, hO2.out, hb2.out⟩
              · by_cases a0 : a = 0
                · have da0 : (a == 0) = true := by simpa using a0
                  replace a0 := hide a0
                  have hq : Hid (rfO ms m = ⟨2, m.d, m.b, 0, 0, m.c⟩) := hide (by unfold rfO; rw [hAe.out, hBe.out]; unfold rfM; rw [if_pos e0.out, if_neg (by simp [k2]), if_pos ⟨hSS.out, rfl, a0.out⟩])
                  have xS : Hid (Box (wc.setRow LM (cellsM ⟨2, m.d, m.b, 0, 0, m.c⟩)) LM (cellsM ⟨2, m.d, m.b, 0, 0, m.c⟩)) := hide (xZ.out.set _)
                  have hOS := hide (own_far hO2.out hLO.out (cellsM ⟨2, m.d, m.b, 0, 0, m.c⟩))
                  have hbS := hide (below_setRow hb2.out hLw.out (cellsM ⟨2, m.d, m.b, 0, 0, m.c⟩))
                  obtain ⟨x1, x2, x3⟩ := xZ.out
                  go_wp2
                  go_meet
                  case rel => exact hide ⟨by rw [hq.out]; exact xS.out, hOS.out, hbS.out⟩
                · have da0 : (a == 0) = false := by simpa using a0
                  have hq : Hid (rfO ms m = m) := hide (by unfold rfO; rw [hAe.out, hBe.out]; unfold rfM; rw [if_pos e0.out, if_neg (by simp [k2]), if_neg (by simp [hSS.out, a0]), if_neg (by simp)])
                  go_wp2
                  go_meet
                  case rel => exact hide ⟨by rw [hq.out]; exact xZ.out, hO2.out, hb2.out⟩
          · have hq : Hid (rfO ms m = ⟨1, m.d, 0, 0, valV m.k a b m.m, m.c⟩) := hide (by unfold rfO; rw [hAe.out, hBe.out]; unfold rfM; rw [if_pos e0.out, if_pos ⟨rfl, Or.inl rfl⟩])
            have cv := hide (rvalue_any m.k a b m.m hk13.out ha.out hb'.out)
            generalize valV m.k a b m.m = V at *
            have xS : Hid (Box (wc.drew.setRow LM (cellsM ⟨1, m.d, 0, 0, V, m.c⟩)) LM (cellsM ⟨1, m.d, 0, 0, V, m.c⟩)) := hide (xZ.out.drew.set _)
            have hOS := hide (own_far (hO2.out.kept (grown_of (Below.refl _ wc).drew) (by cases hv : Value.ownBlock u3 <;> simp)) hLO.out (cellsM ⟨1, m.d, 0, 0, V, m.c⟩))
            have hbS := hide (below_setRow hb2.out.drew hLw.out (cellsM ⟨1, m.d, 0, 0, V, m.c⟩))
            go_wp2_with fail
            clear z0 z1 z2 z3 z4 z5
            refine region_last 12 (HeldB LM m) (by kernel_rfl) xZ.out.drew (fun hHeld => ?_)
            -- 0: fieldAddr
            refine AnyL.take (i := 0) (oi := { dst := some 77, op := Op.fieldAddr 34 (Operand.tmp 5) 1, type := 0, pos := "ref.go:83", after := #[], guard := none }) (v := ?_) rfl (by kernel_rfl) (by kernel_rfl) (by kernel_rfl) (by kernel_rfl) (fun _ _ _ h => h) (Or.inl ⟨by rfl, ?_⟩) (by assumption) ?_
            rotate_left
            · intro y hSw
              obtain ⟨u0, u1, u4, u5⟩ := hSw.told
              go_simp
              try with_reducible rfl
            try simp only [Act.put, List.setIfInBounds_toArray, List.set_cons_zero, List.set_cons_succ]
            -- 1: load
            refine AnyL.take (i := 1) (oi := { dst := some 78, op := Op.load 3 (Operand.tmp 77), type := 3, pos := "ref.go:83", after := #[{ on := 0, ground := Ground.data }], guard := none }) (v := ?_) rfl (by kernel_rfl) (by kernel_rfl) (by kernel_rfl) (by kernel_rfl) (fun _ _ _ h => h) (Or.inl ⟨by rfl, ?_⟩) (by assumption) ?_
            rotate_left
            · intro y hSw
              obtain ⟨u0, u1, u4, u5⟩ := hSw.told
              go_simp
              try with_reducible rfl
            try simp only [Act.put, List.setIfInBounds_toArray, List.set_cons_zero, List.set_cons_succ]
            -- 2: fieldAddr
            refine AnyL.take (i := 2) (oi := { dst := some 79, op := Op.fieldAddr 34 (Operand.tmp 5) 0, type := 0, pos := "ref.go:83", after := #[], guard := none }) (v := ?_) rfl (by kernel_rfl) (by kernel_rfl) (by kernel_rfl) (by kernel_rfl) (fun _ _ _ h => h) (Or.inl ⟨by rfl, ?_⟩) (by assumption) ?_
            rotate_left
            · intro y hSw
              obtain ⟨u0, u1, u4, u5⟩ := hSw.told
              go_simp
              try with_reducible rfl
            try simp only [Act.put, List.setIfInBounds_toArray, List.set_cons_zero, List.set_cons_succ]
            -- 3: load
            refine AnyL.take (i := 3) (oi := { dst := some 80, op := Op.load 3 (Operand.tmp 79), type := 3, pos := "ref.go:83", after := #[{ on := 2, ground := Ground.data }], guard := none }) (v := ?_) rfl (by kernel_rfl) (by kernel_rfl) (by kernel_rfl) (by kernel_rfl) (fun _ _ _ h => h) (Or.inl ⟨by rfl, ?_⟩) (by assumption) ?_
            rotate_left
            · intro y hSw
              obtain ⟨u0, u1, u4, u5⟩ := hSw.told
              go_simp
              try with_reducible rfl
            try simp only [Act.put, List.setIfInBounds_toArray, List.set_cons_zero, List.set_cons_succ]
            -- 4: move
            refine AnyL.take (i := 4) (oi := { dst := some 81, op := Op.move (Operand.tmp 6), type := 32, pos := "ref.go:83", after := #[], guard := none }) (v := ?_) rfl (by kernel_rfl) (by kernel_rfl) (by kernel_rfl) (by kernel_rfl) (fun _ _ _ h => h) (Or.inl ⟨by rfl, ?_⟩) (by assumption) ?_
            rotate_left
            · intro y hSw
              obtain ⟨u0, u1, u4, u5⟩ := hSw.told
              go_simp
              try with_reducible rfl
            try simp only [Act.put, List.setIfInBounds_toArray, List.set_cons_zero, List.set_cons_succ]
            -- 5: move
            refine AnyL.take (i := 5) (oi := { dst := some 82, op := Op.move (Operand.tmp 8), type := 32, pos := "ref.go:83", after := #[], guard := none }) (v := ?_) rfl (by kernel_rfl) (by kernel_rfl) (by kernel_rfl) (by kernel_rfl) (fun _ _ _ h => h) (Or.inl ⟨by rfl, ?_⟩) (by assumption) ?_
            rotate_left
            · intro y hSw
              obtain ⟨u0, u1, u4, u5⟩ := hSw.told
              go_simp
              try with_reducible rfl
            try simp only [Act.put, List.setIfInBounds_toArray, List.set_cons_zero, List.set_cons_succ]
            -- 6: fieldAddr
            refine AnyL.take (i := 6) (oi := { dst := some 83, op := Op.fieldAddr 34 (Operand.tmp 5) 4, type := 0, pos := "ref.go:83", after := #[], guard := none }) (v := ?_) rfl (by kernel_rfl) (by kernel_rfl) (by kernel_rfl) (by kernel_rfl) (fun _ _ _ h => h) (Or.inl ⟨by rfl, ?_⟩) (by assumption) ?_
            rotate_left
            · intro y hSw
              obtain ⟨u0, u1, u4, u5⟩ := hSw.told
              go_simp
              try with_reducible rfl
            try simp only [Act.put, List.setIfInBounds_toArray, List.set_cons_zero, List.set_cons_succ]
            -- 7: load
            refine AnyL.take (i := 7) (oi := { dst := some 84, op := Op.load 32 (Operand.tmp 83), type := 32, pos := "ref.go:83", after := #[{ on := 6, ground := Ground.data }], guard := none }) (v := ?_) rfl (by kernel_rfl) (by kernel_rfl) (by kernel_rfl) (by kernel_rfl) (fun _ _ _ h => h) (Or.inl ⟨by rfl, ?_⟩) (by assumption) ?_
            rotate_left
            · intro y hSw
              obtain ⟨u0, u1, u4, u5⟩ := hSw.told
              go_simp
              try with_reducible rfl
            try simp only [Act.put, List.setIfInBounds_toArray, List.set_cons_zero, List.set_cons_succ]
            -- 9: fieldAddr
            refine AnyL.take (i := 9) (oi := { dst := some 86, op := Op.fieldAddr 34 (Operand.tmp 5) 5, type := 0, pos := "ref.go:83", after := #[], guard := none }) (v := ?_) rfl (by kernel_rfl) (by kernel_rfl) (by kernel_rfl) (by kernel_rfl) (fun _ _ _ h => h) (Or.inl ⟨by rfl, ?_⟩) (by assumption) ?_
            rotate_left
            · intro y hSw
              obtain ⟨u0, u1, u4, u5⟩ := hSw.told
              go_simp
              try with_reducible rfl
            try simp only [Act.put, List.setIfInBounds_toArray, List.set_cons_zero, List.set_cons_succ]
            -- 10: load
            refine AnyL.take (i := 10) (oi := { dst := some 87, op := Op.load 3 (Operand.tmp 86), type := 3, pos := "ref.go:83", after := #[{ on := 9, ground := Ground.data }], guard := none }) (v := ?_) rfl (by kernel_rfl) (by kernel_rfl) (by kernel_rfl) (by kernel_rfl) (fun _ _ _ h => h) (Or.inl ⟨by rfl, ?_⟩) (by assumption) ?_
            rotate_left
            · intro y hSw
              obtain ⟨u0, u1, u4, u5⟩ := hSw.told
              go_simp
              try with_reducible rfl
            try simp only [Act.put, List.setIfInBounds_toArray, List.set_cons_zero, List.set_cons_succ]
            -- 8: call
            refine AnyL.one (i := 8) (o := { dst := some 85, op := Op.call { callee := Callee.value (Operand.func 36), args := #[Operand.tmp 80, Operand.tmp 81, Operand.tmp 82, Operand.tmp 84], argTypes := #[3, 32, 32, 32] }, type := 32, pos := "ref.go:83", after := #[{ on := 3, ground := Ground.data }, { on := 4, ground := Ground.data }, { on := 5, ground := Ground.data }, { on := 7, ground := Ground.data }], guard := none }) (by kernel_rfl) rfl (fun KK hKK => ?_)
            go_simp
            refine (cv.out _).mono ?_
            rintro rr wv ⟨rfl, rfl⟩
            go_wp2_with fail
            replace hHeld : (HeldB LM m) _ := hHeld
            refine hKK.out _ _ (Or.inr hHeld) ?_
            clear hKK KK
            try simp only [Act.put, List.setIfInBounds_toArray, List.set_cons_zero, List.set_cons_succ]
            -- 11: build
            refine AnyL.take (i := 11) (oi := { dst := some 88, op := Op.build 34 #[(0, Operand.const (Value.int IntKind.i64 1)), (1, Operand.tmp 78), (4, Operand.tmp 85), (5, Operand.tmp 87)], type := 34, pos := "ref.go:83", after := #[{ on := 1, ground := Ground.data }, { on := 8, ground := Ground.data }, { on := 10, ground := Ground.data }], guard := none }) (v := ?_) rfl (by kernel_rfl) (by kernel_rfl) (by kernel_rfl) (by kernel_rfl) (fun _ _ _ h => h) (Or.inl ⟨by rfl, ?_⟩) (by assumption) ?_
            rotate_left
            · intro y hSw
              obtain ⟨u0, u1, u4, u5⟩ := hSw.told
              go_simp
              try with_reducible rfl
            try simp only [Act.put, List.setIfInBounds_toArray, List.set_cons_zero, List.set_cons_succ]
            -- 12: store
            refine AnyL.one (i := 12) (o := { dst := none, op := Op.store 34 (Operand.tmp 5) (Operand.tmp 88), type := 0, pos := "ref.go:83", after := #[{ on := 11, ground := Ground.data }, { on := 8, ground := Ground.chain }, { on := 0, ground := Ground.phase }, { on := 1, ground := Ground.phase }, { on := 2, ground := Ground.phase }, { on := 3, ground := Ground.phase }, { on := 4, ground := Ground.phase }, { on := 5, ground := Ground.phase }, { on := 6, ground := Ground.phase }, { on := 7, ground := Ground.phase }, { on := 8, ground := Ground.phase }, { on := 9, ground := Ground.phase }, { on := 10, ground := Ground.phase }, { on := 11, ground := Ground.phase }], guard := none }) (by kernel_rfl) rfl (fun KK hKK => ?_)
            obtain ⟨x1, x2, x3⟩ := xZ.out
            go_simp
            refine hKK.out _ _ (Or.inl rfl) ?_
            clear hKK KK
            try simp only [Act.put, List.setIfInBounds_toArray, List.set_cons_zero, List.set_cons_succ]
            refine AnyL.done (by kernel_rfl) ?_ _

            go_wp2_with fail
            go_meet
            case rel => exact hide ⟨by rw [hq.out]; exact xS.out, hOS.out, hbS.out⟩
        · have d0 : decide (1 < m.k) = false := by simpa using e0
          have hq : Hid (rfO ms m = m) := hide (by unfold rfO rfM; rw [if_neg e0])
          have lmk : W1.cell? ⟨LM, 0, none⟩ = some (.int .i64 m.k) := (xA.out.cell 0).trans (p1 m)
          go_wp2_with fail
          go_meet
          case rel => exact hide ⟨by rw [hq.out]; exact xA.out, hO2.out, hb2.out⟩
      case rest =>
        have xZ := hide hcut.out.1
        have hO2 := hide hcut.out.2.1
        have hb2 := hide hcut.out.2.2
        clear hcut
        have hT3 : Hid (rfoldG [] l = rfoldG (ms ++ [rfO ms m]) (l.drop (k + 1))) := hide (by rw [hT2.out])
        have hwq : Hid (∀ x ∈ ms ++ [rfO ms m], Cp.W32 x.m) := hide (fun x hx => by
          rcases List.mem_append.1 hx with hx | hx
          · exact hmw.out x hx
          · rw [List.mem_singleton.1 hx]; exact rfM_w hwm.out (mean_w hmw.out hwm.out) (mean_w hmw.out hwm.out))
        have hN := new_op1 wc (rfO ms m)
        replace hN := hide hN
        have hlm := xZ.out.loads 0 N6 (q1 _) (q2 _)
        clear hT2
        go_wp2_with (at_builtin; refine wpList_append_own _ rfl _ _ 22 rfl w.heap.size 34 i0 (.agg (cellsM M0)) 6 48 Try.underlying22 hi hz0 hz1 hz2 rfl (by decide) _ _ _ rfl (hO2.out.alloc _) ⟨wc.heap.size, 0, none⟩ 1 1 (cellsM (rfO ms m)).toList rfl rfl hN.out.1 hN.out.2 (by unfold maxLen; omega) (by omega) (by have h := hb2.out.size; first | (simp at h ⊢; omega) | (simp; omega)) ?_)
        intro v' w4 hown' hgrow _
        have b4 : Hid (Below w.heap.size w w4) := hide (by
          refine (hb2.out.alloc hb2.out.size _).grown hgrow (by have h := hb2.out.size; first | (simp at h ⊢; omega) | (simp; omega)) (fun k hk => ?_)
          rcases hO2.out.2 with ⟨rfl, -⟩ | ⟨g, cap, cur, rfl, hg, -⟩
          · cases hk
          · cases hk; exact hg)
        have hown4 : Hid (w4.ownsRow w.heap.size 34 6 v' (ms ++ [rfO ms m]).length (flat (ms ++ [rfO ms m]))) := hide (by
          rw [flat_snoc, List.length_append]
          exact hown')
        obtain ⟨g', cap', rfl⟩ := ownsRow_succ hown'
        have hl4 : Hid ((ms ++ [rfO ms m]).length = k + 1) := hide (by rw [List.length_append, hms.out]; rfl)
        clear hown' hgrow hO2 hb2 hN hlm
        go_wp2
        go_roundw
        case rel => exact ⟨k + 1, _, by omega, by go_num, hl4, hwq, hT3, hown4, b4⟩
        case measure => simp [intOf]; omega
    · have dk : decide ((k : Int) < (n : Int)) = false := by simp; omega
      have hF : Hid (rfoldG [] l = ms) := hide (by rw [hT.out, List.drop_eq_nil_of_le (by have := hn.out; omega)]; rfl)
      go_wp2
      go_ret
      refine ⟨_, rfl, ?_, hb.out⟩
      rw [hF.out]
      exact hO.out

end Go.Proofs.Ytnbflahggpehpaa.Ir
