/- Whatever is loaded, stored, put, cleaned and cloned, in any order: both memories answer the same. -/
import Derived.Test.YtbbofbilagaihaaMemDoesM
import Derived.Deep.CutBlock
namespace Go.Proofs.Ytbbofbilagaihaa
open Go.RowKit
set_option linter.unusedVariables false
set_option linter.unusedSimpArgs false

theorem min_max (a : Int) : ∃ n : Nat, 4 ≤ n ∧ n ≤ 64 ∧ max 4 (min a 64) = (n : Int) := ⟨(max 4 (min a 64)).toNat, by omega, by omega, by omega⟩

/-- A row of the call's own, whose cells may be written. -/
structure Writes (x : World) (al : Option Addr) (n : Nat) (b0 : Nat) : Prop where
  at' : ∀ j, j < n → ∃ gl u, al = some ⟨gl, 0, none⟩ ∧ b0 ≤ gl ∧ x.cell? ⟨gl, j, none⟩ = some u ∧ x.frozen? ⟨gl, j, none⟩ = false

theorem Writes.on {x y : World} {al : Option Addr} {n b0 : Nat} (h : Writes x al n b0) (hb : Below x.heap.size x y) : Writes y al n b0 :=
  ⟨fun j hj => by
    obtain ⟨gl, u, e, hg, hc, hf⟩ := h.at' j hj
    have hz := cell_in hc
    exact ⟨gl, u, e, hg, (hb.cell (p := ⟨gl, j, none⟩) hz).trans hc, (hb.frozen (p := ⟨gl, j, none⟩) hz).trans hf⟩⟩

theorem Writes.set {x : World} {gl n b0 : Nat} (h : Writes x (some ⟨gl, 0, none⟩) n b0) (j : Nat) (hj : j < n) (v : Value) : Writes (x.setCell ⟨gl, j, none⟩ v) (some ⟨gl, 0, none⟩) n b0 :=
  ⟨fun i hi => by
    obtain ⟨gl', u, e, hg, hc, hf⟩ := h.at' i hi
    cases e
    by_cases e : i = j
    · subst e
      exact ⟨gl, v, rfl, hg, World.cell?_setCell_same _ _ _ hc, by rw [World.frozen?_setCell]; exact hf⟩
    · exact ⟨gl, u, rfl, hg, by rw [World.cell?_setCell_other _ _ _ _ (by intro c; injection c with _ c2; omega)]; exact hc, by rw [World.frozen?_setCell]; exact hf⟩⟩

theorem writes_of {x : World} {base : Nat} {v : Value} {xs : List Nat} (O : x.ownsRow base 3 1 v xs.length (ints xs)) : ∃ al c, v = .slice al xs.length c ∧ Writes x al xs.length base := by
  have hc := O.2
  rcases hc with ⟨rfl, h0⟩ | ⟨g, cap, cur, rfl, hb, hg, -⟩
  · exact ⟨none, 0, by rw [h0], ⟨fun j hj => by omega⟩⟩
  · refine ⟨_, cap, rfl, ⟨fun j hj => ?_⟩⟩
    have := O.cells (g := g) rfl j (.int .i64 ((xs[j]'hj : Nat) : Int)) (by unfold ints; rw [List.getElem?_map, List.getElem?_eq_getElem hj]; rfl)
    rw [Addr.add_lit, Nat.zero_add] at this
    exact ⟨g, _, rfl, hb, this, by simp [World.frozen?, hg]⟩

set_option maxHeartbeats 16000000 in
set_option maxRecDepth 100000 in
theorem does_walk (w : World) (a0 : Int) (wf0 : (Lit.int .i64 a0).wf = true) (v1 : Value) (o1 : List Act6) (w1 : IsOps w v1 o1) :
    Calls Try.prog 4 #[.int .i64 a0, v1] w fun e w' => e = .returned (.bool true) ∧ Below w.heap.size w w' := by
  obtain ⟨ad1, n1, k1, rfl, hn1, hm1, hx1⟩ := w1.open'
  unfold maxLen at hm1
  replace hn1 := hide hn1
  replace hx1 := hide hx1
  clear w1 wf0
  obtain ⟨n, h4, h64, hmm⟩ := min_max a0
  go_enter Try.func4, Try.ntmps4
  go_wp2_with fail
  refine (new_any n h4 h64 w).mono ?_
  rintro e w2 ⟨p, g, rfl, M2, hp, hg, b2⟩
  clear hmm
  go_wp2_with fail
  refine (rnew_any n h4 h64 w2).mono ?_
  rintro e w3 ⟨pr, gb, gd, rfl, R3, hpr, hgb, hgd, b3⟩
  have D3 : Hid (Does w pr gb n p g n gd (fun _ => 0) (fun _ => false) w3) := hide (by
    have h1 := M2.zp
    have h2 := M2.zg
    have h3 := b2.size
    exact ⟨M2.on b3, R3, b2.trans (b3.mono b2.size), ⟨by omega, by omega, by omega, hg, by omega, by omega, by omega, by omega, by omega, by omega⟩⟩)
  clear M2 R3 b2 b3 hp hg hpr hgb hgd
  go_wp2_with fail
  go_loopw [6, 10] (fun s i wr => ∃ (k p : Nat), k ≤ 200 ∧ i = .int .i64 k ∧ s = .pointer (some ⟨p, 0, none⟩) ∧ Hid (∃ g c gd B D, Does w pr gb n p g c gd B D wr)) (fun _ i _ => 200 - (intOf i).toNat)
  case atStart => exact ⟨0, _, by omega, rfl, rfl, hide ⟨_, _, _, _, _, D3.out⟩⟩
  case round =>
    clear D3
    obtain ⟨k, p, hk, rfl, rfl, DD⟩ := hrel
    by_cases hc : k < n1 ∧ k < 200
    · have h1 := hc.1
      have h2 := hc.2
      have d1 : decide ((k : Int) < (n1 : Int)) = true := by simp; omega
      have d2 : decide ((k : Int) < 200) = true := by simp; omega
      have d3 : (k : Int) < (n1 : Int) := by omega
      obtain ⟨o, ho⟩ : ∃ o, o1[k]? = some o := ⟨_, List.getElem?_eq_getElem (by rw [← hn1.out]; exact h1)⟩
      obtain ⟨hF, b, off, rfl, hat⟩ := hx1.out k o ho
      obtain ⟨kd, A, z, V, nn, mo⟩ := o
      have fa : A < 4294967296 := hF.a
      have fv : V < 4294967296 := hF.v
      obtain ⟨g, c, gd, B, D, D1⟩ := DD.out
      obtain ⟨c0, c1, c2, c3, c4, c5⟩ := hat.on D1.be
      simp only [] at c0 c1 c2 c3 c4 c5
      clear hat ho hF DD
      replace D1 := hide D1
      go_upto_block 2 with fail
      go_cut [6, 12, 13, 14, 15, 16, 17] from 49 to 198 (fun s6 s12 s13 s14 s15 s16 s17 x => ∃ p2 g2 c2 gd2 B2 D2 err X T, s6 = .pointer (some ⟨p2, 0, none⟩) ∧ s12 = .int .i64 err ∧ s13 = .int .i64 err ∧ s14 = .int .u32 X ∧ s15 = .int .u32 X ∧ s16 = .string T ∧ s17 = .string T ∧ Hid (Does w pr gb n p2 g2 c2 gd2 B2 D2 x))
      case first =>
        have bx : Below wr.heap.size wr (wr.alloc (.cells #[.int .i64 kd, .int .u32 (A : Int), .int .i64 z, .int .u32 (V : Int), .int .i64 nn, .int .i64 mo] 42)) := (Below.refl _ _).alloc (Nat.le_refl _) _
        have D2' := D1.out.on bx
        have A2 : (Act6.mk kd A z V nn mo).At (wr.alloc (.cells #[.int .i64 kd, .int .u32 (A : Int), .int .i64 z, .int .u32 (V : Int), .int .i64 nn, .int .i64 mo] 42)) wr.heap.size 0 := ⟨by simp [go_sem], by simp [go_sem], by simp [go_sem], by simp [go_sem], by simp [go_sem], by simp [go_sem]⟩
        have l1 := D1.out.m.zp
        have l2 := D1.out.m.zg
        have l3 := D1.out.r.zp
        have l4 := D1.out.r.zb
        have l5 := D1.out.r.zd
        clear D1 bx
        by_cases is0 : kd = 0
        · subst is0
          obtain ⟨X, err, L1, L2⟩ := loads_same n B D A z fa
          have L1 := L1 _ _ _ _ D2'.m
          have L2 := L2 _ _ _ _ D2'.r
          go_wp2_with fail
          refine L1.mono ?_
          rintro e wl ⟨rfl, rfl⟩
          go_wp2_with fail
          refine L2.mono ?_
          rintro e wl ⟨rfl, rfl⟩
          have Dx := D2'
          go_wp2_with fail
          go_meet
          case rel => exact ⟨p, g, c, gd, B, D, err, X, ⟨#[]⟩, rfl, rfl, rfl, rfl, rfl, rfl, rfl, hide Dx⟩
        by_cases is1 : kd = 1
        · subst is1
          obtain ⟨err, B', D', L1, L2⟩ := stores_same n B D A V z fa fv
          have L1 := L1 _ _ _ _ D2'.m
          have q := D2'.pl
          go_wp2_with fail
          refine L1.mono ?_
          rintro e wl ⟨rfl, M3, G3⟩
          have R3 := D2'.r.far G3 (fun e => q.g1 e.symm) (fun e => q.g2 e.symm) (fun e => q.g3 e.symm)
          have E3 := grown_below D2'.be G3 D2'.be.size q.z4
          have A3 := A2.keep (G3.block wr.heap.size (by simp) (by simp; omega))
          obtain ⟨t0, t1, t2, t3, t4, t5⟩ := A3
          simp only [Nat.zero_add] at t0 t1 t2 t3 t4 t5
          have L2 := L2 _ _ _ _ R3
          clear D2' A2 L1 G3
          go_wp2_with fail
          refine L2.mono ?_
          rintro e wm ⟨rfl, R4, K4⟩
          have Dx : Does w pr gb n p g c gd B' D' wm := ⟨K4.mem M3 q.p1 q.p2 q.p3 q.g1 q.g2 q.g3, R4, RKept.below E3 K4 q.z1 q.z2 q.z3, q⟩
          clear M3 R3 E3 L2 R4 K4 t0 t1 t2 t3 t4 t5
          go_wp2_with fail
          go_meet
          case rel => exact ⟨p, g, c, gd, B', D', err, 0, ⟨#[]⟩, rfl, rfl, rfl, rfl, rfl, rfl, rfl, hide Dx⟩
        by_cases is2 : kd = 2
        · subst is2
          obtain ⟨X, err, L1, L2⟩ := pages_same n B D nn
          have L1 := L1 _ _ _ _ D2'.m
          have L2 := L2 _ _ _ _ D2'.r
          go_wp2_with fail
          refine L1.mono ?_
          rintro e wl ⟨rfl, rfl⟩
          go_wp2_with fail
          refine L2.mono ?_
          rintro e wl ⟨rfl, rfl⟩
          have Dx := D2'
          go_wp2_with fail
          go_meet
          case rel => exact ⟨p, g, c, gd, B, D, err, 0, X, rfl, rfl, rfl, rfl, rfl, rfl, rfl, hide Dx⟩
        by_cases is3 : kd = 3
        · subst is3
          obtain ⟨err, B', D', L1, L2⟩ := puts_same n B D nn (fillT V mo)
          have q := D2'.pl
          have D3 := D2'.on (Below.refl _ _).drew
          have S0 := (A2.on (Below.refl _ _).drew).told
          have hgl : g ≠ wr.heap.size := by omega
          clear A2 D2'
          go_wp2_with fail
          go_region_held3 (fun x => x.cell? ⟨wr.heap.size, 4, none⟩ = some (.int .i64 nn) ∧ x.cell? ⟨wr.heap.size, 3, none⟩ = some (.int .u32 (V : Int)) ∧ x.cell? ⟨wr.heap.size, 5, none⟩ = some (.int .i64 mo) ∧ (Act6.mk 3 A z V nn mo).At x wr.heap.size 0) (first | exact S0 | assumption | exact (Act6.At.on (And.right (And.right (And.right (by assumption)))) (by assumption)).told | exact (Act6.At.keep (And.right (And.right (And.right (by assumption)))) (World.grownBy.block (by assumption) _ (cell_in (And.left (by assumption))) (by simp; omega))).told) (first | (go_at_call 22; refine (filled_any V mo fv _).mono ?_; rintro e wf ⟨rfl, bf⟩) | (go_at_call 21; refine (L1 _ _ _ _ (D3.on bf).m).mono ?_; rintro e wl ⟨rfl, M3, G3⟩))
          have HS : wl.cell? ⟨wr.heap.size, 4, none⟩ = some (.int .i64 nn) ∧ wl.cell? ⟨wr.heap.size, 3, none⟩ = some (.int .u32 (V : Int)) ∧ wl.cell? ⟨wr.heap.size, 5, none⟩ = some (.int .i64 mo) ∧ (Act6.mk 3 A z V nn mo).At wl wr.heap.size 0 := by assumption
          have D4 := D3.on bf
          have R3 := (D4.r.far G3 (fun e => q.g1 e.symm) (fun e => q.g2 e.symm) (fun e => q.g3 e.symm)).drew
          have E3 := (grown_below D4.be G3 D4.be.size q.z4).drew
          have M4 := M3.drew
          have S1 := (HS.2.2.2.on (Below.refl _ _).drew).told
          clear HS S0 D3 D4 bf G3 M3 L1
          go_wp2_with fail
          go_region_held3 (fun x => x.cell? ⟨wr.heap.size, 4, none⟩ = some (.int .i64 nn) ∧ x.cell? ⟨wr.heap.size, 3, none⟩ = some (.int .u32 (V : Int)) ∧ x.cell? ⟨wr.heap.size, 5, none⟩ = some (.int .i64 mo) ∧ (Act6.mk 3 A z V nn mo).At x wr.heap.size 0) (first | exact S1 | assumption | exact (Act6.At.on (And.right (And.right (And.right (by assumption)))) (by assumption)).told | exact (Act6.At.keep (And.right (And.right (And.right (by assumption)))) (RKept.block (by assumption) _ (cell_in (And.left (by assumption))) (by omega) (by omega) (by omega))).told) (first | (go_at_call 22; refine (filled_any V mo fv _).mono ?_; rintro e wf2 ⟨rfl, bf2⟩) | (go_at_call 23; refine (L2 _ _ _ _ (R3.on bf2)).mono ?_; rintro e wm ⟨rfl, R4, K4⟩))
          have Dx : Does w pr gb n p g c gd B' D' wm := ⟨K4.mem (M4.on bf2) q.p1 q.p2 q.p3 q.g1 q.g2 q.g3, R4, RKept.below (E3.trans (bf2.mono E3.size)) K4 q.z1 q.z2 q.z3, q⟩
          clear S1 R3 E3 M4 bf2 R4 K4 L2
          go_wp2_with fail
          go_meet
          case rel => exact ⟨p, g, c, gd, B', D', err, 0, ⟨#[]⟩, rfl, rfl, rfl, rfl, rfl, rfl, rfl, hide Dx⟩
        by_cases is4 : kd = 4
        · subst is4
          have L1 := clean_any D2'.m
          have q := D2'.pl
          go_wp2_with fail
          refine L1.mono ?_
          rintro e wl ⟨rfl, M3, G3⟩
          have R3 := D2'.r.far G3 (fun e => q.g1 e.symm) (fun e => q.g2 e.symm) (fun e => q.g3 e.symm)
          have E3 := grown_below D2'.be G3 D2'.be.size q.z4
          have s3 := G3.size
          clear D2' L1 G3 A2
          go_wp2_with fail
          refine (rclean_any R3).mono ?_
          rintro e wm ⟨rfl, ⟨gd', hgd', R4⟩, G4⟩
          have Dx : Does w pr gb n p g c gd' B (fun _ => false) wm := by
            have h1 := M3.zp
            have h2 := M3.zg
            have h3 := E3.size
            exact ⟨M3.far G4 q.p1 q.g1, R4, grown_below E3 G4 E3.size q.z1, ⟨q.z1, q.z2, by omega, q.z4, q.p1, q.p2, by omega, q.g1, q.g2, by omega⟩⟩
          clear M3 R3 E3 R4 G4
          go_wp2_with fail
          go_meet
          case rel => exact ⟨p, g, c, gd', B, _, 0, 0, ⟨#[]⟩, rfl, rfl, rfl, rfl, rfl, rfl, rfl, hide Dx⟩
        by_cases is5 : kd = 5
        · subst is5
          have L1 := clone_any D2'.m
          have q := D2'.pl
          go_wp2_with fail
          refine L1.mono ?_
          rintro e wl ⟨p2, g2, c2', rfl, C3, hp2, hg2, b3⟩
          have D3 := D2'.on b3
          have s0 := D2'.be.size
          have m1 := D2'.m.zp
          have m2 := D2'.m.zg
          have m3 := D2'.r.zp
          have m4 := D2'.r.zb
          have m5 := D2'.r.zd
          have Dc : Does w pr gb n p2 g2 c2' gd B D wl := ⟨C3, D3.r, D3.be, ⟨q.z1, q.z2, q.z3, by omega, by omega, by omega, by omega, by omega, by omega, by omega⟩⟩
          have L2 := store_all D3.m 0 1818584692 4 (by omega) (by omega)
          have n4 := D3.m.n4
          clear D2' L1 C3 b3 A2
          go_wp2_with fail
          refine L2.mono ?_
          rintro e wm ⟨er, rfl, ⟨B', D', M4⟩, G4⟩
          have Dd := Dc.far G4 (Or.inr ⟨by omega, by omega, q.g1, q.g2, q.g3⟩) q.z4
          clear Dc D3 L2 G4
          go_wp2_with fail
          refine (clean_any M4).mono ?_
          rintro e wn ⟨rfl, -, G5⟩
          have Dx := Dd.far G5 (Or.inr ⟨by omega, by omega, q.g1, q.g2, q.g3⟩) q.z4
          clear Dd M4 G5
          go_wp2_with fail
          go_meet
          case rel => exact ⟨p2, g2, c2', gd, B, D, 0, 0, ⟨#[]⟩, rfl, rfl, rfl, rfl, rfl, rfl, rfl, hide Dx⟩
        · have no : kd ≠ 0 ∧ kd ≠ 1 ∧ kd ≠ 2 ∧ kd ≠ 3 ∧ kd ≠ 4 ∧ kd ≠ 5 := ⟨is0, is1, is2, is3, is4, is5⟩
          clear is0 is1 is2 is3 is4 is5
          have e0 : (kd == 0) = false := by simp; omega
          have e1 : (kd == 1) = false := by simp; omega
          have e2 : (kd == 2) = false := by simp; omega
          have e3 : (kd == 3) = false := by simp; omega
          have e4 : (kd == 4) = false := by simp; omega
          have e5 : (kd == 5) = false := by simp; omega
          clear no
          have Dx := D2'
          go_wp2_with fail
          go_meet
          case rel => exact ⟨p, g, c, gd, B, D, 0, 0, ⟨#[]⟩, rfl, rfl, rfl, rfl, rfl, rfl, rfl, hide Dx⟩
      case rest =>
        clear c0 c1 c2 c3 c4 c5 D1 hx1
        obtain ⟨p2, g2, c2', gd2, B2, D2, err, X, T0, rfl, rfl, rfl, rfl, rfl, rfl, rfl, DX⟩ := hcut
        have Dx := DX.out
        clear DX
        go_wp2_with fail
        obtain ⟨T, hT⟩ : ∃ T, Hid (T = textOf (256 * n) B2) := ⟨_, hide rfl⟩
        have S0 := (Dx.on (Below.refl _ _).drew).held hT.out
        have pl := Dx.pl
        clear Dx
        go_wp2_with fail
        go_region_held3 (fun x => Does w pr gb n p2 g2 c2' gd2 B2 D2 x ∧ x.cell? ⟨pr, 0, none⟩ = some (.slice (some ⟨gb, 0, none⟩) (256 * n) (256 * n)) ∧ (convert 32 9 (.slice (some ⟨gb, 0, none⟩) (256 * n) (256 * n))).run Try.prog x = .ok (.string T) x) (first | exact S0 | assumption | exact does_on hT.out (by assumption) (by assumption)) (first | (go_at_call 13; refine (image_any (Does.m (And.left (by assumption)))).mono ?_; rw [← hT.out]; rintro e wi ⟨rfl, bi⟩))
        have HS : Does w pr gb n p2 g2 c2' gd2 B2 D2 wi ∧ wi.cell? ⟨pr, 0, none⟩ = some (.slice (some ⟨gb, 0, none⟩) (256 * n) (256 * n)) ∧ (convert 32 9 (.slice (some ⟨gb, 0, none⟩) (256 * n) (256 * n))).run Try.prog wi = .ok (.string T) wi := by assumption
        have Dy := hide HS.1
        clear HS S0 bi hT
        go_wp2_with fail
        go_loopw [19] (fun i wr2 => ∃ t : Nat, t ≤ 2 ∧ i = .int .i64 t ∧ Hid (Does w pr gb n p2 g2 c2' gd2 B2 D2 wr2)) (fun i _ => 2 - (intOf i).toNat)
        case atStart => exact ⟨0, by omega, rfl, Dy⟩
        case round =>
          clear Dy
          obtain ⟨t, ht, rfl, Dt⟩ := hrel
          by_cases htn : t < 2
          · have htl : (t : Int) < 2 := by omega
            have hz1 := Dt.out.m.zp
            have hz2 := Dt.out.m.zg
            have hz3 := Dt.out.r.zp
            have hz4 := Dt.out.r.zb
            have hz5 := Dt.out.r.zd
            have hzw := Dt.out.be.size
            go_wp2_with fail
            refine (dirty_any Dt.out.m).mono ?_
            rintro e wa ⟨⟨va, rfl, Oa⟩, ba⟩
            obtain ⟨al, cl, rfl, Wa⟩ := writes_of Oa
            have Ra := RowAt.of Oa
            have Da := Dt.out.on ba
            clear Dt Oa ba
            go_wp2_with fail
            refine (rdirty_any Da.r).mono ?_
            rintro e wb ⟨⟨vb, rfl, Ob⟩, bb⟩
            have Rb := RowAt.of Ob
            have Rab := Ra.on bb
            have Wb := Wa.on bb
            have Db := Da.on bb
            clear Da Ob bb Ra Wa
            have hl1 : (dirts D2 n).length ≤ 64 := by have := dirts_len D2 n; omega
            go_wp2_with fail
            refine (same_any _ _ _ _ _ (by omega) (by omega) Rab Rb).mono ?_
            rw [decide_eq_true rfl]
            rintro e wc ⟨rfl, bc⟩
            have Dc := hide (Db.on bc)
            have Wc := hide (Wb.on bc)
            clear Db Wb Rab Rb bc
            obtain ⟨nl, hnl⟩ : ∃ nl, Hid (nl = (dirts D2 n).length) := ⟨_, hide rfl⟩
            rw [← hnl.out] at Wc hl1 ⊢
            go_wp2_with fail
            go_loopw [21] (fun i wr3 => ∃ j : Nat, j ≤ nl ∧ i = .int .i64 j ∧ Hid (Does w pr gb n p2 g2 c2' gd2 B2 D2 wr3) ∧ Hid (Writes wr3 al nl wr.heap.size)) (fun i _ => nl - (intOf i).toNat)
            case atStart => exact ⟨0, by omega, rfl, Dc, Wc⟩
            case round =>
              clear Dc Wc
              obtain ⟨j, hj, rfl, Dj, Wj⟩ := hrel
              by_cases hjl : j < nl
              · have hjl2 : (j : Int) < (nl : Int) := by omega
                obtain ⟨gl, u, rfl, hgl, hcj, hfj⟩ := Wj.out.at' j hjl
                have D9 := hide (Dj.out.far (grownBy_set wr gl j (.int .i64 (-1))) (Or.inr ⟨by omega, by omega, by omega, by omega, by omega⟩) (by omega))
                have W9 := hide (Wj.out.set j hjl (.int .i64 (-1)))
                clear Dj Wj
                go_wp2
                go_roundw
                case rel => exact ⟨j + 1, by omega, by go_num, D9, W9⟩
                case measure => simp [intOf]; omega
              · have hjn : j = nl := by omega
                subst hjn
                clear Wj
                go_wp2
                exact ⟨⟨t + 1, by omega, by go_num, Dj⟩, by simp [intOf]; omega⟩
          · have htn2 : t = 2 := by omega
            subst htn2
            go_wp2
            exact ⟨⟨k + 1, _, by omega, by go_num, rfl, hide ⟨_, _, _, _, _, Dt.out⟩⟩, by simp [intOf]; omega⟩
    · have tw := two_ways hc
      clear hc hx1 hn1
      obtain ⟨g, c, gd, B, D, D1⟩ := DD.out
      have G := D1.be
      clear D1 DD
      rcases tw with ⟨d1, d2, d3, d4⟩ | ⟨d1, d2⟩
      all_goals
        go_wp2_with fail
        refine (fixed_any _).mono ?_
        rintro e w8 ⟨rfl, b8⟩
        have G8 := G.trans (b8.mono G.size)
        clear G b8
        go_wp2
        go_ret
        exact ⟨rfl, G8⟩

end Go.Proofs.Ytbbofbilagaihaa
