/- Layer 16: the walk of CacheOrder. -/
import Derived.Test.YtkmafafmnncgiaaTcORow
import Derived.Deep.RegionHeld3
import Derived.Deep.CutRange
import Derived.Deep.CutBlock
import Derived.OwnWalk
namespace Go.Proofs.Ytkmafafmnncgiaa
open Go.RowKit
set_option linter.unusedVariables false
set_option linter.unusedSimpArgs false

/-- An append whose run is told. -/
theorem wpList_append_told {P : Program} {w w' : World} {ops : Array Oper} {rest : List Oper} {o : Oper} {a : Act} {Q : Exit → Act → World → Prop}
    (hg : o.guard = none) (s x : Operand) (t : TypeId) (hop : o.op = Op.call { callee := Callee.builtin Builtin.append, args := #[s, x], argTypes := #[t, t] })
    (u y v : Value) (hs : a.eval s = u) (hx : a.eval x = y) (hrun : (Builtin.append_ #[t, t] o.type #[u, y]).run P w = .ok v w')
    (hK : wpList P ops Q rest (a.put o.dst v) w') : wpList P ops Q (o :: rest) a w := by
  refine wpList_plain hg fun K hK' => ?_
  unfold Oper.wp
  simp [execOp, hop, resolve, invoke, builtin, hs, hx, hrun, Result.andThen]
  exact hK' _ _ hK

theorem pcL_put (r : Nat) (L : List Blk) (x : Blk) : pcL (putL r L x) = trim r ((pcL L).filter fun z => !(z == x.pc)) ++ [x.pc] := by
  unfold putL pcL
  rw [List.map_append]
  congr 1
  unfold trim
  rw [List.filter_map, List.length_map]
  simp only [Function.comp_def]
  split
  · rw [List.map_drop]
  · rfl

/-- A block that is a place alone. -/
theorem bare_at (w : World) (p : Int) (hp : W32 p) : BlkAt w (fun _ => False) (.agg #[.int .u32 p, .slice none 0 0, .slice none 0 0, .slice none 0 0]) ⟨p, [], [], []⟩ := by
  have r : ∀ t s, Row w (fun _ => False) t s (.slice none 0 0) 0 [] := fun t s => ⟨World.ownsRow_nil w 0 t s, fun k hk => by simp [Value.ownBlock] at hk⟩
  exact ⟨_, _, _, rfl, r _ _, r _ _, r _ _, hp, Nat.zero_le _, Nat.zero_le _, Nat.zero_le _⟩

set_option maxRecDepth 100000 in
set_option maxHeartbeats 8000000 in
theorem order_walk (w : World) (a : Int) (ha : (Lit.int .i64 a).wf = true) (v : Value) (ps : List Int) (hv : IsWords w v ps) :
    Calls Try.prog 6 #[.int .i64 a, v] w fun e w' => e = .returned (.bool true) ∧ Below w.heap.size w w' := by
  have hfix := fixed_any
  by_cases hr : 1 ≤ a ∧ a ≤ 64
  · obtain ⟨r, rfl⟩ := Int.eq_ofNat_of_zero_le (show 0 ≤ a by omega)
    have h1 : 1 ≤ r := by omega
    have h64 : r ≤ 64 := by omega
    have cn := ca_new r h1 h64 w
    obtain ⟨ad, n, c, rfl, hn, hmx, -, hx⟩ := hv.open'
    unfold maxLen at hmx
    obtain ⟨iw, hiw, hzw, hsw, hbw⟩ := infoW
    replace hx := hide hx
    replace hn := hide hn
    replace hfix := hide hfix
    clear hr ha hv
    go_enter Try.func6, Try.ntmps6
    go_wp2_with fail
    refine cn.mono ?_
    rintro e w1 ⟨cb, F, rfl, C, hb⟩
    have hF := C.in'
    have g1 := grow w1 (.cells #[] 32)
    have O1 : Hid (ORow (w1.alloc (.cells #[] 32)) w1.heap.size 0 0 []) := hide ⟨#[], heap_alloc_new w1 _, Nat.le_refl _, Nat.le_refl _, fun i z h => by simp at h⟩
    have C1 := hide (C.on g1)
    have hb1 := hide (onto hb (Nat.le_refl _) g1)
    have nF : Hid (¬ F w1.heap.size) := hide (fun h => Nat.lt_irrefl _ (hF _ h).2)
    have hw1 : Hid (w.heap.size ≤ w1.heap.size) := hide hb.size
    clear cn C hb hF g1
    go_upto_block 0 with fail
    go_cut [5, 7] from 28 (fun p q y => p = .pointer (some ⟨cb, 0, none⟩) ∧ ∃ (G : Nat → Prop) (L : List Blk) (g o c : Nat), q = .slice (some ⟨g, o, none⟩) (pcL L).length c ∧ Hid (Ca w.heap.size y G cb r L) ∧ Hid (Below w.heap.size w y) ∧ Hid (ORow y g o c (pcL L)))
    case first =>
      go_wp2_with fail
      go_loopw [7, 8] (fun q i wr => ∃ (k : Nat) (G : Nat → Prop) (L : List Blk) (g o c : Nat), k ≤ n ∧ i = .int .i64 (k : Int) ∧ q = .slice (some ⟨g, o, none⟩) (pcL L).length c ∧ c ≤ maxLen ∧ Hid (Ca w.heap.size wr G cb r L) ∧ Hid (Below w.heap.size w wr) ∧ Hid (ORow wr g o c (pcL L)) ∧ Hid (¬ G g ∧ w.heap.size ≤ g)) (fun _ i _ => n - (intOf i).toNat)
      case atStart => exact ⟨0, F, [], w1.heap.size, 0, 0, Nat.zero_le _, rfl, rfl, Nat.zero_le _, C1, hb1, O1, hide ⟨nF.out, hw1.out⟩⟩
      case round =>
        clear C1 hb1 O1 nF
        obtain ⟨k, G, L, g, o, c0, hk, rfl, rfl, hcm, C, hb, O, nG⟩ := hrel
        by_cases h : k < n ∧ k < 100
        · obtain ⟨hk1, hk2⟩ := h
          obtain ⟨p, hp⟩ : ∃ p, ps[k]? = some p := ⟨ps[k]'(by have := hn.out; omega), List.getElem?_eq_getElem _⟩
          obtain ⟨hpw, b, off, rfl, hbl, hcell⟩ := hx.out k p hp
          have hc : wr.cell? ⟨b, off + k, none⟩ = some (.int .u32 p) := (hb.out.cell (p := ⟨b, off + k, none⟩) hbl).trans hcell
          have cpt := ca_put C.out hb.out.size (bare_at wr p hpw) (fun j hj => by cases hj)
          replace hcell := hide hcell
          clear hp hpw
          go_wp2_with fail
          refine cpt.mono ?_
          rintro e w3 ⟨rfl, G3, C3, T3, hG3⟩
          have hb3 := hide (hb.out.trans (C.out.below T3 hb.out.size))
          have O3 := hide (O.out.keep (T3.block g O.out.lt nG.out.1))
          have nG3 : Hid (¬ G3 g) := hide (fun h => by rcases hG3 g h with h | h; exact nG.out.1 h; have := O.out.lt; omega)
          have hL := pcL_put r L ⟨p, [], [], []⟩
          have hlr := C.out.le.1
          obtain ⟨zs, hzs⟩ : ∃ zs, zs = pcL L := ⟨_, rfl⟩
          have hz64 : zs.length ≤ 64 := by rw [hzs]; simp [pcL]; omega
          have hzr : zs.length ≤ r := by rw [hzs]; simpa [pcL] using hlr
          rw [← hzs] at hL O3 ⊢
          obtain ⟨m, hm⟩ : ∃ m, m = zs.length := ⟨_, rfl⟩
          rw [← hm] at hz64 hzr ⊢
          have g3 := grow w3 (.cells #[] 32)
          have P0 : Hid (ORow (w3.alloc (.cells #[] 32)) w3.heap.size 0 0 []) := hide ⟨#[], heap_alloc_new w3 _, Nat.le_refl _, Nat.le_refl _, fun i z h => by simp at h⟩
          have hc3 : Hid (w3.cell? ⟨b, off + k, none⟩ = some (.int .u32 p) ∧ b < w3.heap.size) := hide ⟨(hb3.out.cell (p := ⟨b, off + k, none⟩) hbl).trans hcell.out, Nat.lt_of_lt_of_le hbl hb3.out.size⟩
          have C3' := hide C3
          replace hm := hide hm
          replace hL := hide hL
          replace g3 := hide g3
          obtain ⟨W0, rfl⟩ : ∃ W0, W0 = wr := ⟨_, rfl⟩
          clear cpt T3 hG3 C3 hc hlr O nG hcell hzs
          go_wp2_with fail
          go_loopw [9, 10] (fun v i wr => ∃ (k2 g2 o2 c2 : Nat), k2 ≤ m ∧ i = .int .i64 (k2 : Int) ∧ v = .slice (some ⟨g2, o2, none⟩) ((zs.take k2).filter fun z => !(z == p)).length c2 ∧ c2 ≤ maxLen ∧ Hid (ORow wr g2 o2 c2 ((zs.take k2).filter fun z => !(z == p))) ∧ Hid (w3.heap.size ≤ g2) ∧ Hid (Below w3.heap.size w3 wr)) (fun _ i _ => m - (intOf i).toNat)
          case atStart => exact ⟨0, w3.heap.size, 0, 0, Nat.zero_le _, rfl, rfl, Nat.zero_le _, P0, hide (Nat.le_refl _), g3⟩
          case round =>
            clear P0 g3
            obtain ⟨k2, g2, o2, c2, hk2', rfl, rfl, hc2, O2, hg2, hB⟩ := hrel
            by_cases hlt : k2 < m
            · obtain ⟨z, hz⟩ : ∃ z, zs[k2]? = some z := ⟨zs[k2]'(by have := hm.out; omega), List.getElem?_eq_getElem _⟩
              have q1 : wr.cell? ⟨g, o + k2, none⟩ = some (.int .u32 z) := (hB.out.cell (p := ⟨g, o + k2, none⟩) O3.out.lt).trans (O3.out.cell hz)
              have q2 : wr.cell? ⟨b, off + k, none⟩ = some (.int .u32 p) := (hB.out.cell (p := ⟨b, off + k, none⟩) hc3.out.2).trans hc3.out.1
              have htk : zs.take (k2 + 1) = zs.take k2 ++ [z] := by rw [List.take_add_one, hz]; rfl
              obtain ⟨fz, hfz⟩ : ∃ fz, fz = (zs.take k2).filter fun z => !(z == p) := ⟨_, rfl⟩
              rw [← hfz] at O2 ⊢
              have hfl : fz.length ≤ 64 := by
                rw [hfz]
                refine Nat.le_trans (List.length_filter_le _ _) ?_
                rw [List.length_take]; omega
              by_cases e : z = p
              · have e' : (z != p) = false := by simpa using e
                have hf2 : Hid (((zs.take (k2 + 1)).filter fun z => !(z == p)) = fz) := hide (by rw [htk, List.filter_append, ← hfz]; simp [e])
                have O2' : Hid (ORow wr.drew g2 o2 c2 fz) := hide (O2.out.keep rfl)
                have hB' := hide hB.out.drew
                clear e hz htk hfz O2 hB
                go_wp2_with fail
                go_region
                go_wp2
                go_roundw
                case rel => exact ⟨k2 + 1, g2, o2, c2, by omega, by go_num, by rw [hf2.out], hc2, by rw [hf2.out]; exact O2', hg2, hB'⟩
                case measure => simp [intOf]; omega
              · have e' : (z != p) = true := by simpa using e
                have hf2 : Hid (((zs.take (k2 + 1)).filter fun z => !(z == p)) = fz ++ [z]) := hide (by rw [htk, List.filter_append, ← hfz]; simp [e])
                have ga := grow wr.drew (.cells #[.int .u32 z] 32)
                have hdr : wr.drew.heap.size = wr.heap.size := rfl
                obtain ⟨g4, o4, c4, wy, hap, O4, hc4, G4, hg4⟩ := ((O2.out.keep (y := wr.drew) rfl).keep (ga.block g2 O2.out.lt)).put (w := wr.drew.alloc (.cells #[.int .u32 z] 32)) (by omega) hc2 z ⟨wr.heap.size, 0, none⟩ ((Box.new wr.drew #[.int .u32 z] 32).cell 0) 1
                have hB' : Hid (Below w3.heap.size w3 wy) := hide ((onto hB.out.drew (Nat.le_refl _) ga |> fun h => h).grown G4 (by have := hB.out.size; have := ga.size; show w3.heap.size ≤ _; omega) (fun j hj => by injection hj with hj; have := hg2.out; omega))
                have hg4' : Hid (w3.heap.size ≤ g4) := hide (by
                  rcases hg4 with rfl | rfl
                  · exact hg2.out
                  · have := hB.out.size; have := ga.size; show w3.heap.size ≤ _; omega)
                replace O4 := hide O4
                clear e hz htk hfz O2 hB ga G4 hg4 hg2
                go_wp2_with fail
                go_region
                go_wp2_with (at_builtin; refine wpList_append_told rfl _ _ 35 rfl _ _ _ rfl rfl hap ?_)
                clear hap
                go_wp2
                go_roundw
                case rel => exact ⟨k2 + 1, g4, o4, c4, by omega, by go_num, by rw [hf2.out]; simp, hc4, by rw [hf2.out]; exact O4, hg4', hB'⟩
                case measure => simp [intOf]; omega
            · obtain rfl : k2 = m := by omega
              rw [show zs.take k2 = zs from List.take_of_length_le (by rw [hm.out]; exact Nat.le_refl _)] at O2 ⊢
              obtain ⟨fz, hfz⟩ : ∃ fz, fz = zs.filter fun z => !(z == p) := ⟨_, rfl⟩
              have hfl : fz.length ≤ k2 := by rw [hfz, hm.out]; exact List.length_filter_le _ _
              rw [← hfz] at O2 ⊢
              have hL2 : Hid (pcL (putL r L ⟨p, [], [], []⟩) = trim r fz ++ [p]) := hide (by rw [hL.out, ← hfz])
              have q2 : wr.cell? ⟨b, off + k, none⟩ = some (.int .u32 p) := (hB.out.cell (p := ⟨b, off + k, none⟩) hc3.out.2).trans hc3.out.1
              obtain ⟨W1, rfl⟩ : ∃ W1, W1 = wr := ⟨_, rfl⟩
              obtain ⟨nf, hnf⟩ : ∃ nf, nf = fz.length := ⟨_, rfl⟩
              rw [← hnf] at hfl ⊢
              replace hfz := hide hfz
              replace hnf := hide hnf
              go_upto_if 71 with fail
              go_cut [9] from 28 to 81 (fun v y => ∃ (g3 o3 c3 : Nat), v = .slice (some ⟨g3, o3, none⟩) (trim r fz).length c3 ∧ c3 ≤ maxLen ∧ y = W1 ∧ Hid (ORow W1 g3 o3 c3 (trim r fz)) ∧ Hid (w3.heap.size ≤ g3))
              case first =>
                by_cases hrn : r ≤ nf
                · have d1 : decide ((r : Int) ≤ (nf : Int)) = true := by simp; omega
                  have d2 : decide (r ≤ nf) = true := by simpa using hrn
                  obtain ⟨z0, fr, hfr⟩ : ∃ z0 fr, fz = z0 :: fr := by
                    cases hq : fz with
                    | nil => exfalso; have := hnf.out; rw [hq] at this; simp at this; omega
                    | cons z0 fr => exact ⟨z0, fr, rfl⟩
                  have ht : Hid (trim r fz = fr) := hide (by
                    unfold trim
                    rw [if_pos (by have := hnf.out; omega), hfr]
                    rfl)
                  have hfl2 : Hid (nf = fr.length + 1) := hide (by have := hnf.out; rw [hfr] at this; simpa using this)
                  have hcc : nf ≤ c2 := by obtain ⟨cur, -, h, -⟩ := O2.out; have := hnf.out; omega
                  have Ot := O2.out
                  rw [hfr] at Ot
                  by_cases hc1 : c2 = 1
                  · subst hc1
                    have hn1 : nf = 1 := by omega
                    have hfr0 : fr = [] := List.length_eq_zero_iff.1 (by have := hfl2.out; omega)
                    subst hn1
                    have On : Hid (ORow W1 g2 o2 0 []) := hide (by obtain ⟨cur, hg, h2, h3, h4⟩ := Ot; exact ⟨cur, hg, Nat.le_refl _, by omega, fun i z h => by simp at h⟩)
                    clear Ot
                    go_wp2
                    go_meet
                    case rel => exact ⟨g2, o2, 0, by rw [ht.out, hfr0]; rfl, Nat.zero_le _, rfl, by rw [ht.out, hfr0]; exact On, hg2⟩
                  · have On := hide Ot.tail
                    have hle1 : 1 ≤ nf := by omega
                    have hcc1 : ¬ c2 = 1 := hc1
                    clear Ot
                    go_wp2
                    go_meet
                    case rel => exact ⟨g2, o2 + 1, c2 - 1, by rw [ht.out, show nf - 1 = fr.length by have := hfl2.out; omega], by omega, rfl, by rw [ht.out]; exact On, hg2⟩
                · have d1 : decide ((r : Int) ≤ (nf : Int)) = false := by simp; omega
                  have d2 : decide (r ≤ nf) = false := by simpa using hrn
                  have ht : Hid (trim r fz = fz) := hide (by
                    unfold trim
                    rw [if_neg (by have := hnf.out; omega)])
                  go_wp2
                  go_meet
                  case rel => exact ⟨g2, o2, c2, by rw [ht.out, ← hnf.out], hc2, rfl, by rw [ht.out]; exact O2, hg2⟩
              case rest =>
                obtain ⟨g5, o5, c5, rfl, hc5, rfl, O5, hg5⟩ := hcut
                obtain ⟨tz, htz⟩ : ∃ tz, tz = trim r fz := ⟨_, rfl⟩
                rw [← htz] at O5 hL2 ⊢
                have htl : tz.length ≤ 64 := by
                  rw [htz]
                  have : (trim r fz).length ≤ fz.length := by
                    unfold trim
                    split
                    · rw [List.length_drop]; omega
                    · exact Nat.le_refl _
                  have := hnf.out
                  omega
                have ga := grow wc (.cells #[.int .u32 p] 32)
                obtain ⟨g6, o6, c6, wy, hap, O6, hc6, G6, hg6⟩ := (O5.out.keep (ga.block g5 O5.out.lt)).put (w := wc.alloc (.cells #[.int .u32 p] 32)) (by omega) hc5 p ⟨wc.heap.size, 0, none⟩ ((Box.new wc #[.int .u32 p] 32).cell 0) 1
                have hB6 : Below w3.heap.size w3 wy := (onto hB.out (Nat.le_refl _) ga).grown G6 (by have := hB.out.size; have := ga.size; omega) (fun j hj => by injection hj with hj; have := hg5.out; omega)
                have hg6' : Hid (¬ G3 g6 ∧ w.heap.size ≤ g6) := hide (by
                  have h3 : w3.heap.size ≤ g6 := by
                    rcases hg6 with rfl | rfl
                    · exact hg5.out
                    · have := hB.out.size; have := ga.size; omega
                  exact ⟨fun h => by have := (C3'.out.in' _ h).2; omega, by have := hb3.out.size; omega⟩)
                have C6 := hide (C3'.out.on hB6)
                have hb6 := hide (onto hb3.out (Nat.le_refl _) hB6)
                have O6' : Hid (ORow wy g6 o6 c6 (pcL (putL r L ⟨p, [], [], []⟩))) := hide (by rw [hL2.out]; exact O6)
                have hlen : Hid (tz.length + 1 = (pcL (putL r L ⟨p, [], [], []⟩)).length) := hide (by rw [hL2.out]; simp)
                clear ga O6 G6 hg6 hB6 htz O5 hL2 O2
                go_wp2_with (at_builtin; refine wpList_append_told rfl _ _ 35 rfl _ _ _ rfl rfl hap ?_)
                clear hap
                go_wp2
                go_roundw
                case rel => exact ⟨k + 1, G3, putL r L ⟨p, [], [], []⟩, g6, o6, c6, by omega, by go_num, by rw [hlen.out], hc6, C6, hb6, O6', hg6'⟩
                case measure => simp [intOf]; omega
        · have fin : Hid (∃ (G : Nat → Prop) (L' : List Blk) (g' o' c' : Nat), Value.slice (some ⟨g, o, none⟩) (pcL L).length c0 = .slice (some ⟨g', o', none⟩) (pcL L').length c' ∧ Hid (Ca w.heap.size wr G cb r L') ∧ Hid (Below w.heap.size w wr) ∧ Hid (ORow wr g' o' c' (pcL L'))) := hide ⟨G, L, g, o, c0, rfl, C, hb, O⟩
          by_cases hk1 : k < n
          · have hk2 : ¬ k < 100 := fun h2 => h ⟨hk1, h2⟩
            clear h
            go_wp2
            go_meet
            case rel => exact ⟨rfl, G, L, g, o, c0, rfl, C, hb, O⟩
          · clear h
            go_wp2
            go_meet
            case rel => exact ⟨rfl, G, L, g, o, c0, rfl, C, hb, O⟩
    case rest =>
      obtain ⟨rfl, G, L, g, o, c0, rfl, C, hb, O⟩ := hcut
      have cpl := ca_places C.out
      have hle := C.out.le.1
      clear C1 hb1 O1 nF
      go_wp2_with fail
      refine cpl.mono ?_
      rintro e w3 ⟨vp, rfl, R3, h3⟩
      have hLl : (pcL L).length = L.length := by simp [pcL]
      have cs := dsame_any R3.wd ((O.out.wd (by rw [hLl]; unfold maxLen; omega)).on h3)
      rw [show decide (pcL L = pcL L) = true by simp] at cs
      have hb3 := hide (onto hb.out (Nat.le_refl _) h3)
      clear cpl R3 h3 C O hb hLl
      go_wp2_with fail
      refine cs.mono ?_
      rintro e w4 ⟨rfl, h4⟩
      have hb4 := hide (onto hb3.out (Nat.le_refl _) h4)
      have cf := hfix.out w4
      clear cs h4
      go_wp2_with fail
      refine cf.mono ?_
      rintro e w7 ⟨rfl, h7⟩
      go_wp2
      go_ret
      exact ⟨rfl, onto hb4.out (Nat.le_refl _) h7⟩
  · have cn := new_bad a (by omega) w
    have cf := hide (hfix w)
    clear hfix hv ha hr
    go_enter Try.func6, Try.ntmps6
    go_wp2_with fail
    refine cn.mono ?_
    rintro e w1 ⟨rfl, rfl⟩
    go_wp2_with fail
    refine cf.out.mono ?_
    rintro e w7 ⟨rfl, h7⟩
    go_wp2
    go_ret
    exact ⟨rfl, h7⟩

end Go.Proofs.Ytkmafafmnncgiaa
