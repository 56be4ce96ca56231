/- Pages that are not dirty are what they were at the last Clean. -/
import Derived.Test.YtbbofbilagaihaaMemDirtyM
namespace Go.Proofs.Ytbbofbilagaihaa
open Go.RowKit
set_option linter.unusedVariables false
set_option linter.unusedSimpArgs false

theorem min_max (a : Int) : ∃ n : Nat, 4 ≤ n ∧ n ≤ 64 ∧ max 4 (min a 64) = (n : Int) := ⟨(max 4 (min a 64)).toNat, by omega, by omega, by omega⟩

theorem Act6.At.far {o : Act6} {w w' : World} {b off g : Nat} (h : o.At w b off) (G : w.grownBy w' (some g)) (hn : g ≠ b) : o.At w' b off := by
  have hz := cell_in h.c0
  have e : ∀ k, w'.cell? ⟨b, k, none⟩ = w.cell? ⟨b, k, none⟩ := fun k => World.cell?_of_block (a := ⟨b, k, none⟩) (G.block b hz (by simp; omega))
  exact ⟨by rw [e, h.c0], by rw [e, h.c1], by rw [e, h.c2], by rw [e, h.c3], by rw [e, h.c4], by rw [e, h.c5]⟩

/-- A call's own copy, a memory whose pages that are not dirty have W's bytes, and nothing old has changed. -/
structure PutHeld (w : World) (o : Act6) (L p g n : Nat) (W : Nat → Nat) (x : World) : Prop where
  m : ∃ B D, Mem x p g n n B D ∧ Just n B D W
  a : o.At x L 0
  be : Below w.heap.size w x

theorem PutHeld.parts {w : World} {kd z nn mo : Int} {A V L p g n : Nat} {W : Nat → Nat} {x : World} (h : PutHeld w ⟨kd, A, z, V, nn, mo⟩ L p g n W x) :
    x.cell? ⟨L, 4, none⟩ = some (.int .i64 nn) ∧ x.cell? ⟨L, 3, none⟩ = some (.int .u32 (V : Int)) ∧ x.cell? ⟨L, 5, none⟩ = some (.int .i64 mo) ∧ PutHeld w ⟨kd, A, z, V, nn, mo⟩ L p g n W x := by
  have h3 := h.a.c3
  have h4 := h.a.c4
  have h5 := h.a.c5
  rw [Nat.zero_add] at h3 h4 h5
  exact ⟨h4, h3, h5, h⟩

theorem PutHeld.on {w : World} {o : Act6} {L p g n : Nat} {W : Nat → Nat} {x y : World} (h : PutHeld w o L p g n W x) (hb : Below x.heap.size x y) : PutHeld w o L p g n W y :=
  ⟨let ⟨B, D, M, J⟩ := h.m; ⟨B, D, M.on hb, J⟩, h.a.on hb, h.be.trans (hb.mono h.be.size)⟩

theorem put_on {w : World} {kd z nn mo : Int} {A V L p g n : Nat} {W : Nat → Nat} {x y : World}
    (h : x.cell? ⟨L, 4, none⟩ = some (.int .i64 nn) ∧ x.cell? ⟨L, 3, none⟩ = some (.int .u32 (V : Int)) ∧ x.cell? ⟨L, 5, none⟩ = some (.int .i64 mo) ∧ PutHeld w ⟨kd, A, z, V, nn, mo⟩ L p g n W x) (hb : Below x.heap.size x y) :
    y.cell? ⟨L, 4, none⟩ = some (.int .i64 nn) ∧ y.cell? ⟨L, 3, none⟩ = some (.int .u32 (V : Int)) ∧ y.cell? ⟨L, 5, none⟩ = some (.int .i64 mo) ∧ PutHeld w ⟨kd, A, z, V, nn, mo⟩ L p g n W y :=
  (h.2.2.2.on hb).parts

theorem put_held {w : World} {kd z nn mo : Int} {A V L p g n : Nat} {W : Nat → Nat} {x : World} (h : PutHeld w ⟨kd, A, z, V, nn, mo⟩ L p g n W x) (s : ByteArray) (hg : w.heap.size ≤ g) (hgl : g ≠ L) :
    Calls Try.prog 21 #[.pointer (some ⟨p, 0, none⟩), .int .i64 nn, .string s] x fun e y => ∃ err : Int, e = .returned (.int .i64 err) ∧ PutHeld w ⟨kd, A, z, V, nn, mo⟩ L p g n W y := by
  obtain ⟨B, D, M, J⟩ := h.m
  refine (put_keep M nn s).mono ?_
  rintro e y ⟨err, rfl, ⟨B', D', M', le⟩, G⟩
  exact ⟨err, rfl, ⟨B', D', M', J.less le⟩, h.a.far G hgl, grown_below h.be G h.be.size hg⟩

set_option maxHeartbeats 8000000 in
set_option maxRecDepth 100000 in
theorem dirty_walk (w : World) (a0 : Int) (wf0 : (Lit.int .i64 a0).wf = true) (v1 : Value) (o1 : List Act6) (w1 : IsOps w v1 o1) :
    Calls Try.prog 6 #[.int .i64 a0, v1] w fun e w' => e = .returned (.bool true) ∧ Below w.heap.size w w' := by
  obtain ⟨ad1, n1, k1, rfl, hn1, hm1, hx1⟩ := w1.open'
  unfold maxLen at hm1
  replace hn1 := hide hn1
  replace hx1 := hide hx1
  clear w1 wf0
  obtain ⟨n, h4, h64, hmm⟩ := min_max a0
  go_enter Try.func6, Try.ntmps6
  go_wp2_with fail
  refine (new_any n h4 h64 w).mono ?_
  rintro e w2 ⟨p, g, rfl, M2, hp, hg, b2⟩
  clear hmm
  go_wp2_with fail
  refine (image_any M2).mono ?_
  rintro e w3 ⟨rfl, b3⟩
  have M3 := hide (M2.on b3)
  have G3 := hide (b2.trans (b3.mono b2.size))
  clear M2 b2 b3
  go_wp2_with fail
  go_loopw [8, 9] (fun s i wr => ∃ (k : Nat) (W : Nat → Nat), k ≤ 100 ∧ i = .int .i64 k ∧ s = .string (textOf (256 * n) W) ∧ Hid (∃ B D, Mem wr p g n n B D ∧ Just n B D W) ∧ Hid (Below w.heap.size w wr)) (fun _ i _ => 100 - (intOf i).toNat)
  case atStart => exact ⟨0, _, by omega, rfl, rfl, hide ⟨_, _, M3.out, Just.all _ _ _⟩, G3⟩
  case round =>
    clear M3 G3
    obtain ⟨k, W, hk, rfl, rfl, M, G⟩ := hrel
    obtain ⟨S, hS⟩ : ∃ S, Hid (S = textOf (256 * n) W) := ⟨_, hide rfl⟩
    rw [← hS.out]
    have hsz : S.size = 256 * n := by rw [hS.out, textOf_size]
    by_cases hc : k < n1 ∧ k < 100
    · have h1 := hc.1
      have h2 := hc.2
      have d1 : decide ((k : Int) < (n1 : Int)) = true := by simp; omega
      have d2 : decide ((k : Int) < 100) = true := by simp; omega
      have d3 : (k : Int) < (n1 : Int) := by omega
      obtain ⟨o, ho⟩ : ∃ o, o1[k]? = some o := ⟨_, List.getElem?_eq_getElem (by rw [← hn1.out]; exact h1)⟩
      obtain ⟨hF, b, off, rfl, hat⟩ := hx1.out k o ho
      obtain ⟨kd, A, z, V, nn, mo⟩ := o
      have fa : A < 4294967296 := hF.a
      have fv : V < 4294967296 := hF.v
      obtain ⟨c0, c1, c2, c3, c4, c5⟩ := hat.on G.out
      simp only [] at c0 c1 c2 c3 c4 c5
      clear hat ho hF
      obtain ⟨B, D, M1, J1⟩ := M.out
      replace M1 := hide M1
      replace J1 := hide J1
      clear M
      by_cases is0 : kd = 0
      · subst is0
        have bx : Below wr.heap.size wr (wr.alloc (.cells #[.int .i64 0, .int .u32 (A : Int), .int .i64 z, .int .u32 (V : Int), .int .i64 nn, .int .i64 mo] 42)) := (Below.refl _ _).alloc (Nat.le_refl _) _
        have M2 := M1.out.on bx
        have G2 := G.out.trans (bx.mono G.out.size)
        have A2 : (Act6.mk 0 A z V nn mo).At (wr.alloc (.cells #[.int .i64 0, .int .u32 (A : Int), .int .i64 z, .int .u32 (V : Int), .int .i64 nn, .int .i64 mo] 42)) wr.heap.size 0 := ⟨by simp [go_sem], by simp [go_sem], by simp [go_sem], by simp [go_sem], by simp [go_sem], by simp [go_sem]⟩
        have hgl : g ≠ wr.heap.size := by have := M1.out.zg; omega
        clear M1 G bx
        obtain ⟨kd, hkd⟩ : ∃ kd : Int, kd = 0 := ⟨_, rfl⟩
        have L := load_keep M2 A z fa
        go_wp2_with fail
        refine L.mono ?_
        rintro e wl ⟨xl, el, rfl, rfl⟩
        go_wp2_with fail
        have Mx := M2
        have Gx := G2
        have Ax := A2
        have Jx := J1
        obtain ⟨B2, D2, rfl, rfl⟩ : ∃ B2 D2, B2 = B ∧ D2 = D := ⟨_, _, rfl, rfl⟩
        have hkc : Hid (kd = 4 → dirts D2 n = []) := hide (fun h => by omega)
        clear M2 G2 A2 J1 L
        refine (dirty_any Mx).mono ?_
        rintro e wy ⟨⟨v, rfl, O⟩, by1⟩
        obtain ⟨al, cl, rfl, hrow⟩ := (RowAt.of O).parts
        have My := Mx.on by1
        have Gy := Gx.trans (by1.mono Gx.size)
        have Ay := Ax.on by1
        obtain ⟨LL, hLL⟩ : ∃ LL, Hid (LL = dirts D2 n) := ⟨_, hide rfl⟩
        have hll : LL.length ≤ 64 := by rw [hLL.out]; have := dirts_len D2 n; omega
        have hk4 : Hid (kd = 4 → LL.length = 0) := hide (by intro h; rw [hLL.out, hkc.out h]; rfl)
        rw [← hLL.out] at hrow ⊢
        clear Mx Gx Ax O
        go_wp2_with fail
        refine (image_any My).mono ?_
        rintro e wz ⟨rfl, bz⟩
        have Mz := hide (My.on bz)
        have Gz := hide (Gy.trans (bz.mono Gy.size))
        have Az := hide (Ay.on bz)
        have hrow2 : Hid (∀ (j x : Nat), LL[j]? = some x → ∃ gl, al = some ⟨gl, 0, none⟩ ∧ wz.cell? ⟨gl, j, none⟩ = some (.int .i64 ((x : Nat) : Int))) := hide (by
          intro j x hj
          obtain ⟨gl, e1, e2⟩ := hrow j x hj
          exact ⟨gl, e1, (bz.cell (p := ⟨gl, j, none⟩) (cell_in e2)).trans e2⟩)
        clear My Gy Ay bz by1 hrow
        obtain ⟨T, hT⟩ : ∃ T, Hid (T = textOf (256 * n) B2) := ⟨_, hide rfl⟩
        rw [← hT.out]
        have htz : T.size = 256 * n := by rw [hT.out, textOf_size]
        have hw0 : IntKind.i64.wrap (256 * (n : Int)) = 256 * (n : Int) := by rw [IntKind.wrap_i64]; omega
        obtain ⟨nl, hnl⟩ : ∃ nl, Hid (nl = LL.length) := ⟨_, hide rfl⟩
        rw [← hnl.out] at hll hk4 ⊢
        go_wp2_with fail
        go_loopw [13] (fun i wr2 => ∃ q : Nat, q ≤ n ∧ i = .int .i64 q ∧ Hid (Below wz.heap.size wz wr2)) (fun i _ => n - (intOf i).toNat)
        case atStart => exact ⟨0, by omega, rfl, hide (Below.refl _ _)⟩
        case round =>
          obtain ⟨q, hq, rfl, Gq⟩ := hrel
          by_cases hqn : q < n
          · have hql : (q : Int) < (n : Int) := by omega
            go_wp2_with fail
            go_loop [14, 15] (fun d i => ∃ j : Nat, j ≤ nl ∧ i = .int .i64 j ∧ d = .bool (decide (q ∈ LL.take j))) (fun _ i => nl - (intOf i).toNat)
            case atStart => exact ⟨0, by omega, rfl, by simp⟩
            case round =>
              obtain ⟨j, hj, rfl, rfl⟩ := hrel
              by_cases hjl : j < nl
              · have hjl2 : (j : Int) < (nl : Int) := by omega
                obtain ⟨x, hx⟩ : ∃ x, LL[j]? = some x := ⟨_, List.getElem?_eq_getElem (by rw [← hnl.out]; exact hjl)⟩
                obtain ⟨gl, rfl, hc⟩ := hrow2.out j x hx
                have hc2 : wr.cell? ⟨gl, j, none⟩ = some (.int .i64 (x : Int)) := (Gq.out.cell (p := ⟨gl, j, none⟩) (cell_in hc)).trans hc
                have ht := take_mem LL j x q hx
                obtain ⟨bq, hbq⟩ : ∃ bq, bq = decide (q ∈ LL.take j) := ⟨_, rfl⟩
                rw [← hbq] at ht ⊢
                clear hbq hc hx
                replace ht := hide ht
                cases bq
                · go_wp2
                  go_round
                  case rel => exact ⟨j + 1, by omega, by go_num, by rw [ht.out]; rfl⟩
                  case measure => simp [intOf]; omega
                · go_wp2
                  go_round
                  case rel => exact ⟨j + 1, by omega, by go_num, by rw [ht.out]; rfl⟩
                  case measure => simp [intOf]; omega
              · have hjn : j = nl := by omega
                subst hjn
                have hdd : decide (q ∈ LL.take j) = D2 q := by
                  rw [hnl.out, List.take_length, hLL.out]
                  exact dirts_mem D2 n q hqn
                rw [hdd]
                clear hdd
                cases hD : D2 q
                · have hcc := just_cut Jx.out q hqn hD
                  rw [← hT.out, ← hS.out] at hcc
                  have x1 := cut_mid T (256 * (q : Int)) (256 * (q : Int) + 256) (256 * q) (256 * q + 256) (by omega) (by omega) (by omega) (by omega)
                  have x2 := cut_mid S (256 * (q : Int)) (256 * (q : Int) + 256) (256 * q) (256 * q + 256) (by omega) (by omega) (by omega) (by omega)
                  rw [← hcc] at x2
                  obtain ⟨X, hX⟩ : ∃ X, X = T.extract (256 * q) (256 * q + 256) := ⟨_, rfl⟩
                  rw [← hX] at x1 x2
                  have hw1 : IntKind.i64.wrap (256 * (q : Int)) = 256 * (q : Int) := by rw [IntKind.wrap_i64]; omega
                  have hw2 : IntKind.i64.wrap (256 * (q : Int) + 256) = 256 * (q : Int) + 256 := by rw [IntKind.wrap_i64]; omega
                  clear hX hcc hD
                  go_wp2_with fail
                  go_quiet (fail)
                  have Gq2 := hide (below_drewN Gq.out nq)
                  clear Gq x1 x2
                  go_wp2_with fail
                  exact ⟨⟨q + 1, by omega, by go_num, Gq2⟩, by simp [intOf]; omega⟩
                · clear hD
                  go_wp2_with fail
                  go_quiet (fail)
                  have Gq2 := hide (below_drewN Gq.out nq)
                  clear Gq
                  go_wp2_with fail
                  exact ⟨⟨q + 1, by omega, by go_num, Gq2⟩, by simp [intOf]; omega⟩
          · have hqn2 : q = n := by omega
            subst hqn2
            have Ar := Az.out.on Gq.out
            have Mr := hide (Mz.out.on Gq.out)
            have Gr := hide (Gz.out.trans (Gq.out.mono Gz.out.size))
            obtain ⟨r0, r1, r2, r3, r4, r5⟩ := Ar
            simp only [] at r0 r1 r2 r3 r4 r5
            clear Az Mz Gz Gq r1 r2 r3 r4 r5
            go_wp2
            exact ⟨⟨k + 1, _, by omega, by go_num, by rw [hS.out], hide ⟨_, _, Mr.out, Jx.out⟩, Gr⟩, by simp [intOf]; omega⟩
      by_cases is1 : kd = 1
      · subst is1
        have bx : Below wr.heap.size wr (wr.alloc (.cells #[.int .i64 1, .int .u32 (A : Int), .int .i64 z, .int .u32 (V : Int), .int .i64 nn, .int .i64 mo] 42)) := (Below.refl _ _).alloc (Nat.le_refl _) _
        have M2 := M1.out.on bx
        have G2 := G.out.trans (bx.mono G.out.size)
        have A2 : (Act6.mk 1 A z V nn mo).At (wr.alloc (.cells #[.int .i64 1, .int .u32 (A : Int), .int .i64 z, .int .u32 (V : Int), .int .i64 nn, .int .i64 mo] 42)) wr.heap.size 0 := ⟨by simp [go_sem], by simp [go_sem], by simp [go_sem], by simp [go_sem], by simp [go_sem], by simp [go_sem]⟩
        have hgl : g ≠ wr.heap.size := by have := M1.out.zg; omega
        clear M1 G bx
        obtain ⟨kd, hkd⟩ : ∃ kd : Int, kd = 1 := ⟨_, rfl⟩
        have L := store_keep M2 A V z fa fv
        go_wp2_with fail
        refine L.mono ?_
        rintro e wl ⟨el, rfl, ⟨B2, D2, Mx, le⟩, gl⟩
        have Jx := hide (J1.out.less le)
        have Gx := grown_below G2 gl G2.size hg
        have Ax := A2.far gl hgl
        clear M2 G2 A2 J1 L le gl
        go_wp2_with fail
        have hkc : Hid (kd = 4 → dirts D2 n = []) := hide (fun h => by omega)
        refine (dirty_any Mx).mono ?_
        rintro e wy ⟨⟨v, rfl, O⟩, by1⟩
        obtain ⟨al, cl, rfl, hrow⟩ := (RowAt.of O).parts
        have My := Mx.on by1
        have Gy := Gx.trans (by1.mono Gx.size)
        have Ay := Ax.on by1
        obtain ⟨LL, hLL⟩ : ∃ LL, Hid (LL = dirts D2 n) := ⟨_, hide rfl⟩
        have hll : LL.length ≤ 64 := by rw [hLL.out]; have := dirts_len D2 n; omega
        have hk4 : Hid (kd = 4 → LL.length = 0) := hide (by intro h; rw [hLL.out, hkc.out h]; rfl)
        rw [← hLL.out] at hrow ⊢
        clear Mx Gx Ax O
        go_wp2_with fail
        refine (image_any My).mono ?_
        rintro e wz ⟨rfl, bz⟩
        have Mz := hide (My.on bz)
        have Gz := hide (Gy.trans (bz.mono Gy.size))
        have Az := hide (Ay.on bz)
        have hrow2 : Hid (∀ (j x : Nat), LL[j]? = some x → ∃ gl, al = some ⟨gl, 0, none⟩ ∧ wz.cell? ⟨gl, j, none⟩ = some (.int .i64 ((x : Nat) : Int))) := hide (by
          intro j x hj
          obtain ⟨gl, e1, e2⟩ := hrow j x hj
          exact ⟨gl, e1, (bz.cell (p := ⟨gl, j, none⟩) (cell_in e2)).trans e2⟩)
        clear My Gy Ay bz by1 hrow
        obtain ⟨T, hT⟩ : ∃ T, Hid (T = textOf (256 * n) B2) := ⟨_, hide rfl⟩
        rw [← hT.out]
        have htz : T.size = 256 * n := by rw [hT.out, textOf_size]
        have hw0 : IntKind.i64.wrap (256 * (n : Int)) = 256 * (n : Int) := by rw [IntKind.wrap_i64]; omega
        obtain ⟨nl, hnl⟩ : ∃ nl, Hid (nl = LL.length) := ⟨_, hide rfl⟩
        rw [← hnl.out] at hll hk4 ⊢
        go_wp2_with fail
        go_loopw [13] (fun i wr2 => ∃ q : Nat, q ≤ n ∧ i = .int .i64 q ∧ Hid (Below wz.heap.size wz wr2)) (fun i _ => n - (intOf i).toNat)
        case atStart => exact ⟨0, by omega, rfl, hide (Below.refl _ _)⟩
        case round =>
          obtain ⟨q, hq, rfl, Gq⟩ := hrel
          by_cases hqn : q < n
          · have hql : (q : Int) < (n : Int) := by omega
            go_wp2_with fail
            go_loop [14, 15] (fun d i => ∃ j : Nat, j ≤ nl ∧ i = .int .i64 j ∧ d = .bool (decide (q ∈ LL.take j))) (fun _ i => nl - (intOf i).toNat)
            case atStart => exact ⟨0, by omega, rfl, by simp⟩
            case round =>
              obtain ⟨j, hj, rfl, rfl⟩ := hrel
              by_cases hjl : j < nl
              · have hjl2 : (j : Int) < (nl : Int) := by omega
                obtain ⟨x, hx⟩ : ∃ x, LL[j]? = some x := ⟨_, List.getElem?_eq_getElem (by rw [← hnl.out]; exact hjl)⟩
                obtain ⟨gl, rfl, hc⟩ := hrow2.out j x hx
                have hc2 : wr.cell? ⟨gl, j, none⟩ = some (.int .i64 (x : Int)) := (Gq.out.cell (p := ⟨gl, j, none⟩) (cell_in hc)).trans hc
                have ht := take_mem LL j x q hx
                obtain ⟨bq, hbq⟩ : ∃ bq, bq = decide (q ∈ LL.take j) := ⟨_, rfl⟩
                rw [← hbq] at ht ⊢
                clear hbq hc hx
                replace ht := hide ht
                cases bq
                · go_wp2
                  go_round
                  case rel => exact ⟨j + 1, by omega, by go_num, by rw [ht.out]; rfl⟩
                  case measure => simp [intOf]; omega
                · go_wp2
                  go_round
                  case rel => exact ⟨j + 1, by omega, by go_num, by rw [ht.out]; rfl⟩
                  case measure => simp [intOf]; omega
              · have hjn : j = nl := by omega
                subst hjn
                have hdd : decide (q ∈ LL.take j) = D2 q := by
                  rw [hnl.out, List.take_length, hLL.out]
                  exact dirts_mem D2 n q hqn
                rw [hdd]
                clear hdd
                cases hD : D2 q
                · have hcc := just_cut Jx.out q hqn hD
                  rw [← hT.out, ← hS.out] at hcc
                  have x1 := cut_mid T (256 * (q : Int)) (256 * (q : Int) + 256) (256 * q) (256 * q + 256) (by omega) (by omega) (by omega) (by omega)
                  have x2 := cut_mid S (256 * (q : Int)) (256 * (q : Int) + 256) (256 * q) (256 * q + 256) (by omega) (by omega) (by omega) (by omega)
                  rw [← hcc] at x2
                  obtain ⟨X, hX⟩ : ∃ X, X = T.extract (256 * q) (256 * q + 256) := ⟨_, rfl⟩
                  rw [← hX] at x1 x2
                  have hw1 : IntKind.i64.wrap (256 * (q : Int)) = 256 * (q : Int) := by rw [IntKind.wrap_i64]; omega
                  have hw2 : IntKind.i64.wrap (256 * (q : Int) + 256) = 256 * (q : Int) + 256 := by rw [IntKind.wrap_i64]; omega
                  clear hX hcc hD
                  go_wp2_with fail
                  go_quiet (fail)
                  have Gq2 := hide (below_drewN Gq.out nq)
                  clear Gq x1 x2
                  go_wp2_with fail
                  exact ⟨⟨q + 1, by omega, by go_num, Gq2⟩, by simp [intOf]; omega⟩
                · clear hD
                  go_wp2_with fail
                  go_quiet (fail)
                  have Gq2 := hide (below_drewN Gq.out nq)
                  clear Gq
                  go_wp2_with fail
                  exact ⟨⟨q + 1, by omega, by go_num, Gq2⟩, by simp [intOf]; omega⟩
          · have hqn2 : q = n := by omega
            subst hqn2
            have Ar := Az.out.on Gq.out
            have Mr := hide (Mz.out.on Gq.out)
            have Gr := hide (Gz.out.trans (Gq.out.mono Gz.out.size))
            obtain ⟨r0, r1, r2, r3, r4, r5⟩ := Ar
            simp only [] at r0 r1 r2 r3 r4 r5
            clear Az Mz Gz Gq r1 r2 r3 r4 r5
            go_wp2
            exact ⟨⟨k + 1, _, by omega, by go_num, by rw [hS.out], hide ⟨_, _, Mr.out, Jx.out⟩, Gr⟩, by simp [intOf]; omega⟩
      by_cases is3 : kd = 3
      · subst is3
        have bx : Below wr.heap.size wr (wr.alloc (.cells #[.int .i64 3, .int .u32 (A : Int), .int .i64 z, .int .u32 (V : Int), .int .i64 nn, .int .i64 mo] 42)) := (Below.refl _ _).alloc (Nat.le_refl _) _
        have M2 := M1.out.on bx
        have G2 := G.out.trans (bx.mono G.out.size)
        have A2 : (Act6.mk 3 A z V nn mo).At (wr.alloc (.cells #[.int .i64 3, .int .u32 (A : Int), .int .i64 z, .int .u32 (V : Int), .int .i64 nn, .int .i64 mo] 42)) wr.heap.size 0 := ⟨by simp [go_sem], by simp [go_sem], by simp [go_sem], by simp [go_sem], by simp [go_sem], by simp [go_sem]⟩
        have hgl : g ≠ wr.heap.size := by have := M1.out.zg; omega
        clear M1 G bx
        obtain ⟨kd, hkd⟩ : ∃ kd : Int, kd = 3 := ⟨_, rfl⟩
        have S0 := PutHeld.parts (w := w) (kd := 3) (A := A) (z := z) (V := V) (nn := nn) (mo := mo) (L := wr.heap.size) (p := p) (g := g) (n := n) (W := W) ⟨⟨_, _, M2.drew, J1.out⟩, A2.on (Below.refl _ _).drew, G2.drew⟩
        clear M2 G2 A2 J1
        go_wp2_with fail
        go_region_held3 (fun x => x.cell? ⟨wr.heap.size, 4, none⟩ = some (.int .i64 nn) ∧ x.cell? ⟨wr.heap.size, 3, none⟩ = some (.int .u32 (V : Int)) ∧ x.cell? ⟨wr.heap.size, 5, none⟩ = some (.int .i64 mo) ∧ PutHeld w ⟨3, A, z, V, nn, mo⟩ wr.heap.size p g n W x) (first | exact S0 | assumption | exact PutHeld.parts (by assumption) | exact put_on (by assumption) (by assumption)) (first | (go_at_call 22; refine (filled_any V mo fv _).mono ?_; rintro e wf ⟨rfl, bf⟩) | (go_at_call 21; refine (put_held (And.right (And.right (And.right (by assumption)))) _ hg hgl).mono ?_; rintro e w' ⟨err, rfl, hh⟩))
        obtain ⟨B2, D2, Mx, jx⟩ := hh.m
        have Jx := hide jx
        have Gx := hh.be
        have Ax := hh.a
        clear S0 hh jx
        go_wp2_with fail
        have hkc : Hid (kd = 4 → dirts D2 n = []) := hide (fun h => by omega)
        refine (dirty_any Mx).mono ?_
        rintro e wy ⟨⟨v, rfl, O⟩, by1⟩
        obtain ⟨al, cl, rfl, hrow⟩ := (RowAt.of O).parts
        have My := Mx.on by1
        have Gy := Gx.trans (by1.mono Gx.size)
        have Ay := Ax.on by1
        obtain ⟨LL, hLL⟩ : ∃ LL, Hid (LL = dirts D2 n) := ⟨_, hide rfl⟩
        have hll : LL.length ≤ 64 := by rw [hLL.out]; have := dirts_len D2 n; omega
        have hk4 : Hid (kd = 4 → LL.length = 0) := hide (by intro h; rw [hLL.out, hkc.out h]; rfl)
        rw [← hLL.out] at hrow ⊢
        clear Mx Gx Ax O
        go_wp2_with fail
        refine (image_any My).mono ?_
        rintro e wz ⟨rfl, bz⟩
        have Mz := hide (My.on bz)
        have Gz := hide (Gy.trans (bz.mono Gy.size))
        have Az := hide (Ay.on bz)
        have hrow2 : Hid (∀ (j x : Nat), LL[j]? = some x → ∃ gl, al = some ⟨gl, 0, none⟩ ∧ wz.cell? ⟨gl, j, none⟩ = some (.int .i64 ((x : Nat) : Int))) := hide (by
          intro j x hj
          obtain ⟨gl, e1, e2⟩ := hrow j x hj
          exact ⟨gl, e1, (bz.cell (p := ⟨gl, j, none⟩) (cell_in e2)).trans e2⟩)
        clear My Gy Ay bz by1 hrow
        obtain ⟨T, hT⟩ : ∃ T, Hid (T = textOf (256 * n) B2) := ⟨_, hide rfl⟩
        rw [← hT.out]
        have htz : T.size = 256 * n := by rw [hT.out, textOf_size]
        have hw0 : IntKind.i64.wrap (256 * (n : Int)) = 256 * (n : Int) := by rw [IntKind.wrap_i64]; omega
        obtain ⟨nl, hnl⟩ : ∃ nl, Hid (nl = LL.length) := ⟨_, hide rfl⟩
        rw [← hnl.out] at hll hk4 ⊢
        go_wp2_with fail
        go_loopw [13] (fun i wr2 => ∃ q : Nat, q ≤ n ∧ i = .int .i64 q ∧ Hid (Below wz.heap.size wz wr2)) (fun i _ => n - (intOf i).toNat)
        case atStart => exact ⟨0, by omega, rfl, hide (Below.refl _ _)⟩
        case round =>
          obtain ⟨q, hq, rfl, Gq⟩ := hrel
          by_cases hqn : q < n
          · have hql : (q : Int) < (n : Int) := by omega
            go_wp2_with fail
            go_loop [14, 15] (fun d i => ∃ j : Nat, j ≤ nl ∧ i = .int .i64 j ∧ d = .bool (decide (q ∈ LL.take j))) (fun _ i => nl - (intOf i).toNat)
            case atStart => exact ⟨0, by omega, rfl, by simp⟩
            case round =>
              obtain ⟨j, hj, rfl, rfl⟩ := hrel
              by_cases hjl : j < nl
              · have hjl2 : (j : Int) < (nl : Int) := by omega
                obtain ⟨x, hx⟩ : ∃ x, LL[j]? = some x := ⟨_, List.getElem?_eq_getElem (by rw [← hnl.out]; exact hjl)⟩
                obtain ⟨gl, rfl, hc⟩ := hrow2.out j x hx
                have hc2 : wr.cell? ⟨gl, j, none⟩ = some (.int .i64 (x : Int)) := (Gq.out.cell (p := ⟨gl, j, none⟩) (cell_in hc)).trans hc
                have ht := take_mem LL j x q hx
                obtain ⟨bq, hbq⟩ : ∃ bq, bq = decide (q ∈ LL.take j) := ⟨_, rfl⟩
                rw [← hbq] at ht ⊢
                clear hbq hc hx
                replace ht := hide ht
                cases bq
                · go_wp2
                  go_round
                  case rel => exact ⟨j + 1, by omega, by go_num, by rw [ht.out]; rfl⟩
                  case measure => simp [intOf]; omega
                · go_wp2
                  go_round
                  case rel => exact ⟨j + 1, by omega, by go_num, by rw [ht.out]; rfl⟩
                  case measure => simp [intOf]; omega
              · have hjn : j = nl := by omega
                subst hjn
                have hdd : decide (q ∈ LL.take j) = D2 q := by
                  rw [hnl.out, List.take_length, hLL.out]
                  exact dirts_mem D2 n q hqn
                rw [hdd]
                clear hdd
                cases hD : D2 q
                · have hcc := just_cut Jx.out q hqn hD
                  rw [← hT.out, ← hS.out] at hcc
                  have x1 := cut_mid T (256 * (q : Int)) (256 * (q : Int) + 256) (256 * q) (256 * q + 256) (by omega) (by omega) (by omega) (by omega)
                  have x2 := cut_mid S (256 * (q : Int)) (256 * (q : Int) + 256) (256 * q) (256 * q + 256) (by omega) (by omega) (by omega) (by omega)
                  rw [← hcc] at x2
                  obtain ⟨X, hX⟩ : ∃ X, X = T.extract (256 * q) (256 * q + 256) := ⟨_, rfl⟩
                  rw [← hX] at x1 x2
                  have hw1 : IntKind.i64.wrap (256 * (q : Int)) = 256 * (q : Int) := by rw [IntKind.wrap_i64]; omega
                  have hw2 : IntKind.i64.wrap (256 * (q : Int) + 256) = 256 * (q : Int) + 256 := by rw [IntKind.wrap_i64]; omega
                  clear hX hcc hD
                  go_wp2_with fail
                  go_quiet (fail)
                  have Gq2 := hide (below_drewN Gq.out nq)
                  clear Gq x1 x2
                  go_wp2_with fail
                  exact ⟨⟨q + 1, by omega, by go_num, Gq2⟩, by simp [intOf]; omega⟩
                · clear hD
                  go_wp2_with fail
                  go_quiet (fail)
                  have Gq2 := hide (below_drewN Gq.out nq)
                  clear Gq
                  go_wp2_with fail
                  exact ⟨⟨q + 1, by omega, by go_num, Gq2⟩, by simp [intOf]; omega⟩
          · have hqn2 : q = n := by omega
            subst hqn2
            have Ar := Az.out.on Gq.out
            have Mr := hide (Mz.out.on Gq.out)
            have Gr := hide (Gz.out.trans (Gq.out.mono Gz.out.size))
            obtain ⟨r0, r1, r2, r3, r4, r5⟩ := Ar
            simp only [] at r0 r1 r2 r3 r4 r5
            clear Az Mz Gz Gq r1 r2 r3 r4 r5
            go_wp2
            exact ⟨⟨k + 1, _, by omega, by go_num, by rw [hS.out], hide ⟨_, _, Mr.out, Jx.out⟩, Gr⟩, by simp [intOf]; omega⟩
      by_cases is4 : kd = 4
      · subst is4
        have bx : Below wr.heap.size wr (wr.alloc (.cells #[.int .i64 4, .int .u32 (A : Int), .int .i64 z, .int .u32 (V : Int), .int .i64 nn, .int .i64 mo] 42)) := (Below.refl _ _).alloc (Nat.le_refl _) _
        have M2 := M1.out.on bx
        have G2 := G.out.trans (bx.mono G.out.size)
        have A2 : (Act6.mk 4 A z V nn mo).At (wr.alloc (.cells #[.int .i64 4, .int .u32 (A : Int), .int .i64 z, .int .u32 (V : Int), .int .i64 nn, .int .i64 mo] 42)) wr.heap.size 0 := ⟨by simp [go_sem], by simp [go_sem], by simp [go_sem], by simp [go_sem], by simp [go_sem], by simp [go_sem]⟩
        have hgl : g ≠ wr.heap.size := by have := M1.out.zg; omega
        clear M1 G bx
        obtain ⟨kd, hkd⟩ : ∃ kd : Int, kd = 4 := ⟨_, rfl⟩
        have L := clean_any M2
        go_wp2_with fail
        refine L.mono ?_
        rintro e wl ⟨rfl, M3, gl⟩
        have G3 := grown_below G2 gl G2.size hg
        have A3 := A2.far gl hgl
        clear M2 G2 A2 J1 L gl hS hsz
        go_wp2_with fail
        refine (image_any M3).mono ?_
        rintro e wm ⟨rfl, bm⟩
        have Mx := M3.on bm
        have Gx := G3.trans (bm.mono G3.size)
        have Ax := A3.on bm
        clear M3 G3 A3 bm
        obtain ⟨W2, hW2⟩ : ∃ W2, Hid (W2 = B) := ⟨_, hide rfl⟩
        obtain ⟨S, hS0⟩ : ∃ S, Hid (S = textOf (256 * n) B) := ⟨_, hide rfl⟩
        rw [← hS0.out]
        have hS : Hid (S = textOf (256 * n) W2) := hide (by rw [hW2.out]; exact hS0.out)
        have hsz : S.size = 256 * n := by rw [hS.out, textOf_size]
        obtain ⟨D2, hD2⟩ : ∃ D2 : Nat → Bool, Hid (D2 = fun _ => false) := ⟨_, hide rfl⟩
        rw [← hD2.out] at Mx
        obtain ⟨B2, rfl⟩ : ∃ B2, B2 = B := ⟨_, rfl⟩
        have Jx : Hid (Just n B2 D2 W2) := hide (by rw [hW2.out]; exact Just.all n B2 D2)
        clear hW2 hS0
        have hkc : Hid (kd = 4 → dirts D2 n = []) := hide (fun h => by rw [hD2.out]; simp [dirts])
        go_wp2_with fail
        refine (dirty_any Mx).mono ?_
        rintro e wy ⟨⟨v, rfl, O⟩, by1⟩
        obtain ⟨al, cl, rfl, hrow⟩ := (RowAt.of O).parts
        have My := Mx.on by1
        have Gy := Gx.trans (by1.mono Gx.size)
        have Ay := Ax.on by1
        obtain ⟨LL, hLL⟩ : ∃ LL, Hid (LL = dirts D2 n) := ⟨_, hide rfl⟩
        have hll : LL.length ≤ 64 := by rw [hLL.out]; have := dirts_len D2 n; omega
        have hk4 : Hid (kd = 4 → LL.length = 0) := hide (by intro h; rw [hLL.out, hkc.out h]; rfl)
        rw [← hLL.out] at hrow ⊢
        clear Mx Gx Ax O
        go_wp2_with fail
        refine (image_any My).mono ?_
        rintro e wz ⟨rfl, bz⟩
        have Mz := hide (My.on bz)
        have Gz := hide (Gy.trans (bz.mono Gy.size))
        have Az := hide (Ay.on bz)
        have hrow2 : Hid (∀ (j x : Nat), LL[j]? = some x → ∃ gl, al = some ⟨gl, 0, none⟩ ∧ wz.cell? ⟨gl, j, none⟩ = some (.int .i64 ((x : Nat) : Int))) := hide (by
          intro j x hj
          obtain ⟨gl, e1, e2⟩ := hrow j x hj
          exact ⟨gl, e1, (bz.cell (p := ⟨gl, j, none⟩) (cell_in e2)).trans e2⟩)
        clear My Gy Ay bz by1 hrow
        obtain ⟨T, hT⟩ : ∃ T, Hid (T = textOf (256 * n) B2) := ⟨_, hide rfl⟩
        rw [← hT.out]
        have htz : T.size = 256 * n := by rw [hT.out, textOf_size]
        have hw0 : IntKind.i64.wrap (256 * (n : Int)) = 256 * (n : Int) := by rw [IntKind.wrap_i64]; omega
        obtain ⟨nl, hnl⟩ : ∃ nl, Hid (nl = LL.length) := ⟨_, hide rfl⟩
        rw [← hnl.out] at hll hk4 ⊢
        go_wp2_with fail
        go_loopw [13] (fun i wr2 => ∃ q : Nat, q ≤ n ∧ i = .int .i64 q ∧ Hid (Below wz.heap.size wz wr2)) (fun i _ => n - (intOf i).toNat)
        case atStart => exact ⟨0, by omega, rfl, hide (Below.refl _ _)⟩
        case round =>
          obtain ⟨q, hq, rfl, Gq⟩ := hrel
          by_cases hqn : q < n
          · have hql : (q : Int) < (n : Int) := by omega
            go_wp2_with fail
            go_loop [14, 15] (fun d i => ∃ j : Nat, j ≤ nl ∧ i = .int .i64 j ∧ d = .bool (decide (q ∈ LL.take j))) (fun _ i => nl - (intOf i).toNat)
            case atStart => exact ⟨0, by omega, rfl, by simp⟩
            case round =>
              obtain ⟨j, hj, rfl, rfl⟩ := hrel
              by_cases hjl : j < nl
              · have hjl2 : (j : Int) < (nl : Int) := by omega
                obtain ⟨x, hx⟩ : ∃ x, LL[j]? = some x := ⟨_, List.getElem?_eq_getElem (by rw [← hnl.out]; exact hjl)⟩
                obtain ⟨gl, rfl, hc⟩ := hrow2.out j x hx
                have hc2 : wr.cell? ⟨gl, j, none⟩ = some (.int .i64 (x : Int)) := (Gq.out.cell (p := ⟨gl, j, none⟩) (cell_in hc)).trans hc
                have ht := take_mem LL j x q hx
                obtain ⟨bq, hbq⟩ : ∃ bq, bq = decide (q ∈ LL.take j) := ⟨_, rfl⟩
                rw [← hbq] at ht ⊢
                clear hbq hc hx
                replace ht := hide ht
                cases bq
                · go_wp2
                  go_round
                  case rel => exact ⟨j + 1, by omega, by go_num, by rw [ht.out]; rfl⟩
                  case measure => simp [intOf]; omega
                · go_wp2
                  go_round
                  case rel => exact ⟨j + 1, by omega, by go_num, by rw [ht.out]; rfl⟩
                  case measure => simp [intOf]; omega
              · have hjn : j = nl := by omega
                subst hjn
                have hdd : decide (q ∈ LL.take j) = D2 q := by
                  rw [hnl.out, List.take_length, hLL.out]
                  exact dirts_mem D2 n q hqn
                rw [hdd]
                clear hdd
                cases hD : D2 q
                · have hcc := just_cut Jx.out q hqn hD
                  rw [← hT.out, ← hS.out] at hcc
                  have x1 := cut_mid T (256 * (q : Int)) (256 * (q : Int) + 256) (256 * q) (256 * q + 256) (by omega) (by omega) (by omega) (by omega)
                  have x2 := cut_mid S (256 * (q : Int)) (256 * (q : Int) + 256) (256 * q) (256 * q + 256) (by omega) (by omega) (by omega) (by omega)
                  rw [← hcc] at x2
                  obtain ⟨X, hX⟩ : ∃ X, X = T.extract (256 * q) (256 * q + 256) := ⟨_, rfl⟩
                  rw [← hX] at x1 x2
                  have hw1 : IntKind.i64.wrap (256 * (q : Int)) = 256 * (q : Int) := by rw [IntKind.wrap_i64]; omega
                  have hw2 : IntKind.i64.wrap (256 * (q : Int) + 256) = 256 * (q : Int) + 256 := by rw [IntKind.wrap_i64]; omega
                  clear hX hcc hD
                  go_wp2_with fail
                  go_quiet (fail)
                  have Gq2 := hide (below_drewN Gq.out nq)
                  clear Gq x1 x2
                  go_wp2_with fail
                  exact ⟨⟨q + 1, by omega, by go_num, Gq2⟩, by simp [intOf]; omega⟩
                · clear hD
                  go_wp2_with fail
                  go_quiet (fail)
                  have Gq2 := hide (below_drewN Gq.out nq)
                  clear Gq
                  go_wp2_with fail
                  exact ⟨⟨q + 1, by omega, by go_num, Gq2⟩, by simp [intOf]; omega⟩
          · have hqn2 : q = n := by omega
            subst hqn2
            have Ar := Az.out.on Gq.out
            have Mr := hide (Mz.out.on Gq.out)
            have Gr := hide (Gz.out.trans (Gq.out.mono Gz.out.size))
            obtain ⟨r0, r1, r2, r3, r4, r5⟩ := Ar
            simp only [] at r0 r1 r2 r3 r4 r5
            clear Az Mz Gz Gq r1 r2 r3 r4 r5
            have hz : nl = 0 := hk4.out hkd
            subst hz
            go_wp2
            exact ⟨⟨k + 1, _, by omega, by go_num, by rw [hS.out], hide ⟨_, _, Mr.out, Jx.out⟩, Gr⟩, by simp [intOf]; omega⟩
      · have no : kd ≠ 0 ∧ kd ≠ 1 ∧ kd ≠ 3 ∧ kd ≠ 4 := ⟨is0, is1, is3, is4⟩
        clear is0 is1 is3 is4
        have e0 : (kd == 0) = false := by simp; omega
        have e1 : (kd == 1) = false := by simp; omega
        have e3 : (kd == 3) = false := by simp; omega
        have e4 : (kd == 4) = false := by simp; omega
        have f4 : ¬ kd = 4 := by omega
        clear no
        have bx : Below wr.heap.size wr (wr.alloc (.cells #[.int .i64 kd, .int .u32 (A : Int), .int .i64 z, .int .u32 (V : Int), .int .i64 nn, .int .i64 mo] 42)) := (Below.refl _ _).alloc (Nat.le_refl _) _
        have M2 := M1.out.on bx
        have G2 := G.out.trans (bx.mono G.out.size)
        have A2 : (Act6.mk kd A z V nn mo).At (wr.alloc (.cells #[.int .i64 kd, .int .u32 (A : Int), .int .i64 z, .int .u32 (V : Int), .int .i64 nn, .int .i64 mo] 42)) wr.heap.size 0 := ⟨by simp [go_sem], by simp [go_sem], by simp [go_sem], by simp [go_sem], by simp [go_sem], by simp [go_sem]⟩
        have hgl : g ≠ wr.heap.size := by have := M1.out.zg; omega
        clear M1 G bx
        go_wp2_with fail
        have Mx := M2
        have Gx := G2
        have Ax := A2
        have Jx := J1
        obtain ⟨B2, D2, rfl, rfl⟩ : ∃ B2 D2, B2 = B ∧ D2 = D := ⟨_, _, rfl, rfl⟩
        have hkc : Hid (kd = 4 → dirts D2 n = []) := hide (fun h => absurd h f4)
        clear M2 G2 A2 J1
        refine (dirty_any Mx).mono ?_
        rintro e wy ⟨⟨v, rfl, O⟩, by1⟩
        obtain ⟨al, cl, rfl, hrow⟩ := (RowAt.of O).parts
        have My := Mx.on by1
        have Gy := Gx.trans (by1.mono Gx.size)
        have Ay := Ax.on by1
        obtain ⟨LL, hLL⟩ : ∃ LL, Hid (LL = dirts D2 n) := ⟨_, hide rfl⟩
        have hll : LL.length ≤ 64 := by rw [hLL.out]; have := dirts_len D2 n; omega
        have hk4 : Hid (kd = 4 → LL.length = 0) := hide (by intro h; rw [hLL.out, hkc.out h]; rfl)
        rw [← hLL.out] at hrow ⊢
        clear Mx Gx Ax O
        go_wp2_with fail
        refine (image_any My).mono ?_
        rintro e wz ⟨rfl, bz⟩
        have Mz := hide (My.on bz)
        have Gz := hide (Gy.trans (bz.mono Gy.size))
        have Az := hide (Ay.on bz)
        have hrow2 : Hid (∀ (j x : Nat), LL[j]? = some x → ∃ gl, al = some ⟨gl, 0, none⟩ ∧ wz.cell? ⟨gl, j, none⟩ = some (.int .i64 ((x : Nat) : Int))) := hide (by
          intro j x hj
          obtain ⟨gl, e1, e2⟩ := hrow j x hj
          exact ⟨gl, e1, (bz.cell (p := ⟨gl, j, none⟩) (cell_in e2)).trans e2⟩)
        clear My Gy Ay bz by1 hrow
        obtain ⟨T, hT⟩ : ∃ T, Hid (T = textOf (256 * n) B2) := ⟨_, hide rfl⟩
        rw [← hT.out]
        have htz : T.size = 256 * n := by rw [hT.out, textOf_size]
        have hw0 : IntKind.i64.wrap (256 * (n : Int)) = 256 * (n : Int) := by rw [IntKind.wrap_i64]; omega
        obtain ⟨nl, hnl⟩ : ∃ nl, Hid (nl = LL.length) := ⟨_, hide rfl⟩
        rw [← hnl.out] at hll hk4 ⊢
        go_wp2_with fail
        go_loopw [13] (fun i wr2 => ∃ q : Nat, q ≤ n ∧ i = .int .i64 q ∧ Hid (Below wz.heap.size wz wr2)) (fun i _ => n - (intOf i).toNat)
        case atStart => exact ⟨0, by omega, rfl, hide (Below.refl _ _)⟩
        case round =>
          obtain ⟨q, hq, rfl, Gq⟩ := hrel
          by_cases hqn : q < n
          · have hql : (q : Int) < (n : Int) := by omega
            go_wp2_with fail
            go_loop [14, 15] (fun d i => ∃ j : Nat, j ≤ nl ∧ i = .int .i64 j ∧ d = .bool (decide (q ∈ LL.take j))) (fun _ i => nl - (intOf i).toNat)
            case atStart => exact ⟨0, by omega, rfl, by simp⟩
            case round =>
              obtain ⟨j, hj, rfl, rfl⟩ := hrel
              by_cases hjl : j < nl
              · have hjl2 : (j : Int) < (nl : Int) := by omega
                obtain ⟨x, hx⟩ : ∃ x, LL[j]? = some x := ⟨_, List.getElem?_eq_getElem (by rw [← hnl.out]; exact hjl)⟩
                obtain ⟨gl, rfl, hc⟩ := hrow2.out j x hx
                have hc2 : wr.cell? ⟨gl, j, none⟩ = some (.int .i64 (x : Int)) := (Gq.out.cell (p := ⟨gl, j, none⟩) (cell_in hc)).trans hc
                have ht := take_mem LL j x q hx
                obtain ⟨bq, hbq⟩ : ∃ bq, bq = decide (q ∈ LL.take j) := ⟨_, rfl⟩
                rw [← hbq] at ht ⊢
                clear hbq hc hx
                replace ht := hide ht
                cases bq
                · go_wp2
                  go_round
                  case rel => exact ⟨j + 1, by omega, by go_num, by rw [ht.out]; rfl⟩
                  case measure => simp [intOf]; omega
                · go_wp2
                  go_round
                  case rel => exact ⟨j + 1, by omega, by go_num, by rw [ht.out]; rfl⟩
                  case measure => simp [intOf]; omega
              · have hjn : j = nl := by omega
                subst hjn
                have hdd : decide (q ∈ LL.take j) = D2 q := by
                  rw [hnl.out, List.take_length, hLL.out]
                  exact dirts_mem D2 n q hqn
                rw [hdd]
                clear hdd
                cases hD : D2 q
                · have hcc := just_cut Jx.out q hqn hD
                  rw [← hT.out, ← hS.out] at hcc
                  have x1 := cut_mid T (256 * (q : Int)) (256 * (q : Int) + 256) (256 * q) (256 * q + 256) (by omega) (by omega) (by omega) (by omega)
                  have x2 := cut_mid S (256 * (q : Int)) (256 * (q : Int) + 256) (256 * q) (256 * q + 256) (by omega) (by omega) (by omega) (by omega)
                  rw [← hcc] at x2
                  obtain ⟨X, hX⟩ : ∃ X, X = T.extract (256 * q) (256 * q + 256) := ⟨_, rfl⟩
                  rw [← hX] at x1 x2
                  have hw1 : IntKind.i64.wrap (256 * (q : Int)) = 256 * (q : Int) := by rw [IntKind.wrap_i64]; omega
                  have hw2 : IntKind.i64.wrap (256 * (q : Int) + 256) = 256 * (q : Int) + 256 := by rw [IntKind.wrap_i64]; omega
                  clear hX hcc hD
                  go_wp2_with fail
                  go_quiet (fail)
                  have Gq2 := hide (below_drewN Gq.out nq)
                  clear Gq x1 x2
                  go_wp2_with fail
                  exact ⟨⟨q + 1, by omega, by go_num, Gq2⟩, by simp [intOf]; omega⟩
                · clear hD
                  go_wp2_with fail
                  go_quiet (fail)
                  have Gq2 := hide (below_drewN Gq.out nq)
                  clear Gq
                  go_wp2_with fail
                  exact ⟨⟨q + 1, by omega, by go_num, Gq2⟩, by simp [intOf]; omega⟩
          · have hqn2 : q = n := by omega
            subst hqn2
            have Ar := Az.out.on Gq.out
            have Mr := hide (Mz.out.on Gq.out)
            have Gr := hide (Gz.out.trans (Gq.out.mono Gz.out.size))
            obtain ⟨r0, r1, r2, r3, r4, r5⟩ := Ar
            simp only [] at r0 r1 r2 r3 r4 r5
            clear Az Mz Gz Gq r1 r2 r3 r4 r5
            go_wp2
            exact ⟨⟨k + 1, _, by omega, by go_num, by rw [hS.out], hide ⟨_, _, Mr.out, Jx.out⟩, Gr⟩, by simp [intOf]; omega⟩
    · have tw := two_ways hc
      clear hc hx1 hn1 M
      rcases tw with ⟨d1, d2, d3, d4⟩ | ⟨d1, d2⟩
      all_goals
        go_wp2_with fail
        refine (fixed_any _).mono ?_
        rintro e w8 ⟨rfl, b8⟩
        have G8 := G.out.trans (b8.mono G.out.size)
        clear G b8
        go_wp2
        go_ret
        exact ⟨rfl, G8⟩

end Go.Proofs.Ytbbofbilagaihaa
