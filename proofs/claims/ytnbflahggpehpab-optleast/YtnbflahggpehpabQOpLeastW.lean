/- Behind the third pass no operation is done for nothing: what each writes is read, or left at the end. -/
import Derived.Test.YtnbflahggpehpabQOpMay
import Derived.Test.YtnbflahggpehpabQOpLeastM
namespace Go.Proofs.Ytnbflahggpehpab.Ir
open Go.RowKit
set_option linter.unusedVariables false
set_option maxRecDepth 100000
set_option linter.unusedSimpArgs false

theorem lenL {w : World} {ad : Option Addr} {n c : Nat} {l : List Mi} (h : IsOps w (.slice ad n c) l) : l.length = n := by
  obtain ⟨a2, n2, c2, e, hn2, -, -⟩ := h.open'
  cases e
  exact hn2.symm

theorem may_soundL {l : List Mi} (h : mayB l = true) : ∀ m ∈ l, soundB m = true := by
  have key : ∀ (l : List Mi) (p : Int), mayFrom p l = true → ∀ m ∈ l, soundB m = true := by
    intro l
    induction l with
    | nil => intro p _ m hm; cases hm
    | cons x l ih =>
      intro p h m hm
      simp only [mayFrom, Bool.and_eq_true, decide_eq_true_eq] at h
      rcases List.mem_cons.1 hm with rfl | hm
      · exact h.1.2.2
      · exact ih _ h.2 m hm
  exact key l 0 ((may_iff l).1 h).2

/-- What is held: what was handed in, and what Dead left of it. -/
def HeldZ (w : World) (vl vd : Value) (l : List Mi) (y : World) : Prop := IsOps y vl l ∧ IsOps y vd (deadV l) ∧ Below w.heap.size w y

theorem HeldZ.on {w : World} {vl vd : Value} {l : List Mi} {y z : World} (h : HeldZ w vl vd l y) (hb : Below y.heap.size y z) : HeldZ w vl vd l z := ⟨h.1.on hb, h.2.1.on hb, onto h.2.2 (Nat.le_refl _) hb⟩

/-- A row of 33 marks that is made. -/
theorem mkB (w : World) : (Instr.makeSlice 36 (.int .i64 33) (.int .i64 33)).run Try.prog w = .ok (.slice (some ⟨w.heap.size, 0, none⟩) 33 33) (w.alloc (.cells (cellsB fun _ => false) 4)) := by kernel_rfl

/-- A world behind another one that holds an operation and the marks. -/
structure HeldQ (W0 : World) (LM : Nat) (m : Mi) (L : Nat → Bool) where
  x : World
  h : Below W0.heap.size W0 x ∧ Box x LM (cellsM m) ∧ Box x W0.heap.size (cellsB L)

/-- An operation of a slice. -/
theorem op_at {w : World} {ad : Option Addr} {n c : Nat} {l : List Mi} (h : IsOps w (.slice ad n c) l) {i : Nat} (hi : i < n) : ∃ m g o, l[i]? = some m ∧ ad = some ⟨g, o, none⟩ ∧ Mat w g (o + i * 6) m := by
  have hl := lenL h
  obtain ⟨ad', n', c', e, -, -, hx⟩ := h.open'
  cases e
  have hm : l[i]? = some (l[i]'(by omega)) := List.getElem?_eq_getElem _
  obtain ⟨g, o, e, -, hM⟩ := hx i _ hm
  exact ⟨_, g, o, hm, e, hM⟩

set_option maxHeartbeats 8000000 in
theorem least_cut {w : World} {ad : Option Addr} {n c K : Nat} {l : List Mi} (hnc : n ≤ c) (hK : (n ≤ 16 ∧ K = n) ∨ (16 < n ∧ K = 16)) (h : IsOps w (.slice ad K c) l) (hw : WordsM l) (hl : l.length ≤ 16) :
    Calls Try.prog 4 #[.slice ad n c] w fun e w' => e = .returned (.bool true) ∧ Below w.heap.size w w' := by
  obtain ⟨r1, r2, r3, r4, r5, r6, r7, r8, r9⟩ := rowRules
  obtain ⟨s1, s2, s3, s4, s5, s6, s7, s8, s9, s10⟩ := irSizes
  obtain ⟨q1, q2, q3, q4, q5, q6⟩ := irWhole
  obtain ⟨p1, p2, p3, p4, p5, p6, p7⟩ := irParts
  have heq := eqlM
  have cm := hide (lmay_any hnc hK h)
  have hKl := lenL h
  have h := hide h
  clear hK
  go_enter Try.func4, Try.ntmps4
  go_wp2_with fail
  refine cm.out.mono ?_
  rintro e w1 ⟨rfl, h1⟩
  by_cases hm : mayB l = true
  · rw [hm]
    have o1 := h.out.on h1
    have cd := hide (dead_any o1 hl)
    have hs := hide (may_soundL hm)
    replace o1 := hide o1
    replace h1 := hide h1
    clear cm
    go_wp2_with fail
    refine cd.out.mono ?_
    rintro e w2 ⟨vd, rfl, hod, h2⟩
    have od := ops_of_own (l := deadV l) hod
    obtain ⟨a2, n2, c2, rfl, hn2, -, -⟩ := od.open'
    have hH : Hid (HeldZ w (.slice ad K c) (.slice a2 n2 c2) l w2) := hide ⟨o1.out.on h2, od, onto h1.out (Nat.le_refl _) h2⟩
    have hn16 : n2 ≤ 16 := by rw [hn2]; exact Nat.le_trans (dead_len l) hl
    have hK16 : K ≤ 16 := by omega
    replace hn2 := hide hn2
    replace hKl := hide hKl
    clear cd hod od o1 h1 h2 hm h
    go_wp2_with fail
    go_loopw [5] (fun i wr => ∃ k : Nat, k ≤ n2 ∧ i = .int .i64 (k : Int) ∧ Hid (HeldZ w (.slice ad K c) (.slice a2 n2 c2) l wr)) (fun i _ => n2 - (intOf i).toNat)
    case atStart => exact ⟨0, Nat.zero_le _, rfl, hH⟩
    case round =>
      obtain ⟨k, hk, rfl, hZ⟩ := hrel
      clear hH
      by_cases hlt : k < n2
      · have dk : decide ((k : Int) < (n2 : Int)) = true := by simp; omega
        obtain ⟨x, g, o, hx, rfl, hM⟩ := op_at hZ.out.2.1 hlt
        have x0 : wr.cell? ⟨g, o + k * N6, none⟩ = some (.int .i64 x.k) := hM 0 (by decide)
        have xk : (x.k == 0) = false := by simpa using dead_k (List.mem_of_getElem? hx)
        clear hM hx
        go_wp2
        go_roundw
        case rel => exact ⟨k + 1, by omega, by go_num, hZ⟩
        case measure => simp [intOf]; omega
      · have dk : decide ((k : Int) < (n2 : Int)) = false := by simp; omega
        have hsub : Hid (((deadV l).drop 0).Sublist (l.drop 0)) := hide (dead_sub l)
        go_wp2_with fail
        generalize hWA : wr = WA at *
        clear hWA
        go_loopw [6, 7] (fun b i wr => ∃ p q : Nat, p ≤ n2 ∧ q ≤ K ∧ b = .int .i64 (p : Int) ∧ i = .int .i64 (q : Int) ∧ Hid (((deadV l).drop p).Sublist (l.drop q)) ∧ Hid (HeldZ w (.slice ad K c) (.slice a2 n2 c2) l wr)) (fun _ i _ => K - (intOf i).toNat)
        case atStart => exact ⟨0, 0, Nat.zero_le _, Nat.zero_le _, rfl, rfl, hsub, hZ⟩
        case round =>
          obtain ⟨p, q, hp, hq, rfl, rfl, hS, hZ2⟩ := hrel
          clear hsub hZ
          by_cases hqK : q < K
          case' pos =>
            have dq : decide ((q : Int) < (K : Int)) = true := by simp; omega
            by_cases hpn : p < n2
            case pos =>
              have dp : decide ((p : Int) < (n2 : Int)) = true := by simp; omega
              obtain ⟨x, g, o, hx, rfl, hM⟩ := op_at hZ2.out.1 hqK
              obtain ⟨y, g2, o2, hy, rfl, hM2⟩ := op_at hZ2.out.2.1 hpn
              have l1 : (loadCellsFrom ⟨g, o + q * N6, none⟩ 0 N6 #[]).run Try.prog wr.drew = .ok (cellsM x) wr.drew := Mat.load (w := wr.drew) hM
              have l2 : (loadCellsFrom ⟨g2, o2 + p * N6, none⟩ 0 N6 #[]).run Try.prog wr.drew = .ok (cellsM y) wr.drew := Mat.load (w := wr.drew) hM2
              have hS2 := hS.out
              rw [drop_at hx, drop_at hy] at hS2
              have hS3 := sub_step hS2
              have hZ3 := hide (hZ2.out.on (Below.refl _ wr).drew)
              by_cases e : x = y
              · have e' : decide (x = y) = true := by simpa using e
                rw [if_pos e] at hS3
                replace hS3 := hide hS3
                clear hM hM2 hx hy hS2 e hS hZ2
                go_wp2_with fail
                go_region
                go_wp2
                go_roundw
                case rel => exact ⟨p + 1, q + 1, by omega, by omega, by go_num, by go_num, hS3, hZ3⟩
                case measure => simp [intOf]; omega
              · have e' : decide (x = y) = false := by simpa using e
                rw [if_neg e, ← drop_at hy] at hS3
                replace hS3 := hide hS3
                clear hM hM2 hx hy hS2 e hS hZ2
                go_wp2_with fail
                go_region
                go_wp2
                go_roundw
                case rel => exact ⟨p, q + 1, by omega, by omega, rfl, by go_num, hS3, hZ3⟩
                case measure => simp [intOf]; omega
            case' neg =>
              have dp : decide ((p : Int) < (n2 : Int)) = false := by simp; omega
              have hpe : p = n2 := by omega
          case' neg =>
            have dq : decide ((q : Int) < (K : Int)) = false := by simp; omega
            have hpe : p = n2 := by
              have h0 := hS.out
              rw [show l.drop q = [] from List.drop_eq_nil_of_le (by have := hKl.out; omega)] at h0
              have := List.sublist_nil.1 h0
              have := List.drop_eq_nil_iff.1 this
              have := hn2.out
              omega
          all_goals
            have dpe : ((p : Int) == (n2 : Int)) = true := by simp; omega
            replace hpe := hide hpe
            clear hS
            have hmk := mkB
            generalize hW0 : wr = W0 at *
            clear hW0
            have b0 := hide (Box.new W0 (cellsB fun _ => false) 4)
            have g0 := hide (grow W0 (.cells (cellsB fun _ => false) 4))
            have hM0 : Hid (Marks l K (fun _ => false)) := hide (by rw [← hKl.out]; exact marks_end l _)
            go_wp2_with fail
            generalize World.alloc W0 _ = WB at *
            go_loopw [9] (fun i wr => ∃ (k : Nat) (z : Int) (La : Nat → Bool), k ≤ K ∧ i = .int .i64 z ∧ Hid (z = (k : Int) - 1) ∧ Hid (Marks l k La) ∧ Hid (Box wr W0.heap.size (cellsB La)) ∧ Hid (Below W0.heap.size W0 wr)) (fun i _ => (intOf i + 1).toNat)
            case atStart => exact ⟨K, _, _, Nat.le_refl _, rfl, hide rfl, hM0, b0, g0⟩
            case round =>
              obtain ⟨k', z, La, hk', rfl, hz, hMk, hbx, hbW⟩ := hrel
              clear hM0 b0 g0
              match k', hk', hz, hMk with
              | 0, hk', hz, hMk =>
                obtain rfl : z = -1 := by have := hz.out; omega
                have cf := hide (fixed_any wr)
                go_wp2_with fail
                refine cf.out.mono ?_
                rintro e w9 ⟨rfl, h9⟩
                have b9 := hide (onto (hZ2.out.on hbW.out).2.2 (Nat.le_refl _) h9)
                clear cf h9
                go_wp2
                go_ret
                exact ⟨rfl, b9.out⟩
              | j + 1, hk', hz, hMk =>
                obtain rfl : z = (j : Int) := by have := hz.out; omega
                have dj : decide ((0 : Int) ≤ (j : Int)) = true := by simp
                have hjK : j < K := by omega
                obtain ⟨m, g, o, hm0, rfl, hM⟩ := op_at (hZ2.out.on hbW.out).1 hjK
                have hld : (loadCellsFrom ⟨g, o + j * N6, none⟩ 0 N6 #[]).run Try.prog wr = .ok (cellsM m) wr := Mat.load hM
                have hsm := hs.out m (List.mem_of_getElem? hm0)
                have gr := grow wr (.cells (cellsM m) 32)
                have bm := hide (Box.new wr (cellsM m) 32)
                have hb6 := hide (hbx.out.on gr)
                have hW6 := hide (onto hbW.out (Nat.le_refl _) gr)
                have hGL := hbx.out.2.2
                clear hM gr hz
                by_cases hk0 : m.k = 0
                · have dk0 : (m.k == 0) = true := by simpa using hk0
                  have hM2 := hide (marks_skip hMk.out hm0 (Or.inl hk0))
                  clear hMk hm0 hk0 hsm hbx bm
                  go_wp2
                  go_roundw
                  case rel => exact ⟨j, _, La, by omega, rfl, hide rfl, hM2, hb6, hW6⟩
                  case measure => simp [intOf]
                · have dk0 : (m.k == 0) = false := by simpa using hk0
                  have hwr := wrB_iff.1 (sound_wr hsm hk0)
                  obtain ⟨D, hD, hD32⟩ : ∃ D : Nat, m.d = (D : Int) ∧ D < 32 := ⟨m.d.toNat, by omega, by omega⟩
                  have hDn : m.d.toNat = D := by omega
                  have c1 : (wr.alloc (.cells (cellsM m) 32)).cell? ⟨wr.heap.size, 1, none⟩ = some (.int .i64 (D : Int)) := by rw [← hD]; exact (bm.out.cell 1).trans (p2 m)
                  by_cases hLD : La D = true
                  · have hM2 := hide (marks_skip hMk.out hm0 (Or.inr (by rw [hDn]; exact hLD)))
                    have c2' : (wr.alloc (.cells (cellsM m) 32)).cell? ⟨W0.heap.size, D, none⟩ = some (.bool true) := by rw [← hLD]; exact (hb6.out.cell D).trans (get_B La D (by omega))
                    clear hMk hm0 hsm hbx bm hD hDn hwr hLD
                    go_wp2
                    go_roundw
                    case rel => exact ⟨j, _, La, by omega, rfl, hide rfl, hM2, hb6, hW6⟩
                    case measure => simp [intOf]
                  · have hLD' : La D = false := by simpa using hLD
                    have hmem := hide (marks_last hMk.out hm0 hk0 (by rw [hDn]; exact hLD'))
                    have hM2 : Hid (Marks l j (putL La D true)) := hide (by have := marks_put hMk.out hm0; rwa [hDn] at this)
                    have c2' : (wr.alloc (.cells (cellsM m) 32)).cell? ⟨W0.heap.size, D, none⟩ = some (.bool false) := by rw [← hLD']; exact (hb6.out.cell D).trans (get_B La D (by omega))
                    have c3 := hb6.out.free D
                    have hne : ¬ wr.heap.size = W0.heap.size := by omega
                    have ew : wr.setCell ⟨W0.heap.size, D, none⟩ (.bool true) = wr.setRow W0.heap.size (cellsB (putL La D true)) := by rw [setCell_row _ _ _ _ hbx.out.1, hbx.out.2.1, set_B La D (by omega)]
                    have es : (wr.setCell ⟨W0.heap.size, D, none⟩ (.bool true)).heap.size = wr.heap.size := by simp
                    have kg := grow (wr.setCell ⟨W0.heap.size, D, none⟩ (.bool true)) (.cells (cellsM m) 32)
                    have k1 : Hid (Box ((wr.setCell ⟨W0.heap.size, D, none⟩ (.bool true)).alloc (.cells (cellsM m) 32)) W0.heap.size (cellsB (putL La D true))) := hide (Box.on (by rw [ew]; exact hbx.out.set _) kg)
                    have k2 : Hid (Box ((wr.setCell ⟨W0.heap.size, D, none⟩ (.bool true)).alloc (.cells (cellsM m) 32)) wr.heap.size (cellsM m)) := hide (by have := Box.new (wr.setCell ⟨W0.heap.size, D, none⟩ (.bool true)) (cellsM m) 32; rwa [es] at this)
                    have k3 : Hid (Below W0.heap.size W0 ((wr.setCell ⟨W0.heap.size, D, none⟩ (.bool true)).alloc (.cells (cellsM m) 32))) := hide (onto (by rw [ew]; exact below_setRow hbW.out (Nat.le_refl _) _) (Nat.le_refl _) kg)
                    clear kg es
                    clear hMk hm0 hsm hbx bm hD hDn hwr hLD hLD' hb6 hW6 ew hk0 hbW
                    go_wp2_with fail
                    generalize wr.heap.size = LM at *
                    generalize World.alloc (World.setCell wr _ _) _ = WS at *
                    generalize hL2 : putL La D true = L2 at *
                    have hf0 : Hid (false = true ↔ m ∈ (deadV l).take 0) := hide (by simp)
                    go_loopw [11, 12] (fun b i wr => ∃ (t : Nat) (fb : Bool), t ≤ n2 ∧ b = .bool fb ∧ i = .int .i64 (t : Int) ∧ Hid (fb = true ↔ m ∈ (deadV l).take t) ∧ Hid (Below W0.heap.size W0 wr) ∧ Hid (Box wr LM (cellsM m)) ∧ Hid (Box wr W0.heap.size (cellsB L2))) (fun _ i _ => n2 - (intOf i).toNat)
                    case atStart => exact ⟨0, false, Nat.zero_le _, rfl, rfl, hf0, k3, k2, k1⟩
                    case round =>
                      obtain ⟨t, fb, ht, rfl, rfl, hfb, hQb, hQm, hQl⟩ := hrel
                      clear hf0 k3 k2 k1 c1 c2' c3 hld
                      by_cases htl : t < n2
                      · have dt : decide ((t : Int) < (n2 : Int)) = true := by simp; omega
                        obtain ⟨x, g2, o2, hx0, rfl, -⟩ := op_at (hZ2.out.on hQb.out).2.1 htl
                        have rl := hide (fun y : HeldQ W0 LM m L2 => (show (loadCellsFrom ⟨g2, o2 + t * N6, none⟩ 0 N6 #[]).run Try.prog y.x = .ok (cellsM x) y.x from by
                          obtain ⟨x', g', o', hx', e', hM'⟩ := op_at (hZ2.out.on y.h.1).2.1 htl
                          cases e'
                          rw [hx0] at hx'
                          cases hx'
                          exact Mat.load hM'))
                        have rm := hide (fun y : HeldQ W0 LM m L2 => y.h.2.1.loads 0 N6 (q1 _) (q2 _))
                        have htk : (deadV l).take (t + 1) = (deadV l).take t ++ [x] := by rw [List.take_add_one, hx0]; rfl
                        cases fb
                        · have hfb2 : Hid ((decide (x = m)) = true ↔ m ∈ (deadV l).take (t + 1)) := hide (by
                            rw [htk, List.mem_append, List.mem_singleton, decide_eq_true_eq]
                            constructor
                            · intro h; exact Or.inr h.symm
                            · intro h
                              rcases h with h | h
                              · exact absurd (hfb.out.2 h) (by simp)
                              · exact h.symm)
                          obtain ⟨db, hdb⟩ : ∃ db, decide (x = m) = db := ⟨_, rfl⟩
                          rw [hdb] at hfb2
                          have he2 := hide (fun W => eqlM x m W)
                          rw [hdb] at he2
                          replace hdb := hide hdb
                          clear hfb hx0 htk heq
                          go_wp2_with fail
                          refine region_calm (fun x => ∃ y : HeldQ W0 LM m L2, x = y.x) (by kernel_rfl) (by kernel_rfl) ⟨⟨wr.drew, hQb.out.drew, hQm.out.drew, hQl.out.drew⟩, rfl⟩ ?_
                          replace rl := rl.out
                          replace rm := rm.out
                          replace he2 := he2.out
                          repeat (go_big_quiet_step (first | with_reducible rfl))
                          refine wpQuiet_nil ?_
                          rintro _ ⟨y, rfl⟩
                          have y1 := hide y.h.1
                          have y2 := hide y.h.2.1
                          have y3 := hide y.h.2.2
                          clear rl rm he2
                          go_wp2
                          go_roundw
                          case rel => exact ⟨t + 1, db, by omega, rfl, by go_num, hfb2, y1, y2, y3⟩
                          case measure => simp [intOf]; omega
                        · have hfb2 : Hid (m ∈ (deadV l).take (t + 1)) := hide (by
                            rw [htk, List.mem_append]
                            exact Or.inl (hfb.out.1 rfl))
                          clear hfb hx0 htk
                          go_wp2_with fail
                          refine region_calm (fun x => ∃ y : HeldQ W0 LM m L2, x = y.x) (by kernel_rfl) (by kernel_rfl) ⟨⟨wr.drew, hQb.out.drew, hQm.out.drew, hQl.out.drew⟩, rfl⟩ ?_
                          replace rl := rl.out
                          replace rm := rm.out
                          repeat (go_big_quiet_step (first | with_reducible rfl))
                          refine wpQuiet_nil ?_
                          rintro _ ⟨y, rfl⟩
                          have y1 := hide y.h.1
                          have y2 := hide y.h.2.1
                          have y3 := hide y.h.2.2
                          clear rl rm
                          go_wp2
                          go_roundw
                          case rel => exact ⟨t + 1, true, by omega, rfl, by go_num, hide ⟨fun _ => hfb2.out, fun _ => rfl⟩, y1, y2, y3⟩
                          case measure => simp [intOf]; omega
                      · have dt : decide ((t : Int) < (n2 : Int)) = false := by simp; omega
                        have hft : fb = true := hfb.out.2 (by rw [List.take_of_length_le (by have := hn2.out; omega)]; exact hmem.out)
                        subst hft
                        clear hfb
                        go_wp2
                        go_roundw
                        case rel => exact ⟨j, _, L2, by omega, rfl, hide rfl, hM2, hQl, hQb⟩
                        case measure => simp [intOf]
  · have hm' : mayB l = false := by simpa using hm
    have cf := hide (fixed_any w1)
    have h1 := hide h1
    rw [hm']
    go_wp2_with fail
    refine cf.out.mono ?_
    rintro e w3 ⟨rfl, h3⟩
    have b3 := hide (onto h1.out (Nat.le_refl _) h3)
    clear cf h3
    go_wp2
    go_ret
    exact ⟨rfl, b3.out⟩

theorem least_walk (w : World) (v : Value) (l : List Mi) (hl : IsOps w v l) (hw : WordsM l) (hc : CapOk v) :
    Calls Try.prog 4 #[v] w fun e w' => e = .returned (.bool true) ∧ Below w.heap.size w w' := by
  obtain ⟨ad, n, c, rfl, hnc, h⟩ := cut_ops hl hw hc 16
  rcases h with ⟨hn, h, hw'⟩ | ⟨hn, h, hw'⟩
  · exact least_cut hnc (Or.inl ⟨hn, rfl⟩) h hw' (by rw [lenL h]; exact hn)
  · exact least_cut hnc (Or.inr ⟨hn, rfl⟩) h hw' (by rw [lenL h]; exact Nat.le_refl _)

end Go.Proofs.Ytnbflahggpehpab.Ir
