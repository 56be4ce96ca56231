/- Layer 18: the walk of DiskArms. -/
import Derived.Test.YtkihjlmhidhjcaaDkDoes
import Derived.Test.YtkihjlmhidhjcaaDkArm
import Derived.Deep.CutBlock
namespace Go.Proofs.Ytkihjlmhidhjcaa
open Go.RowKit
set_option linter.unusedVariables false
set_option maxRecDepth 100000
set_option linter.unusedSimpArgs false

/-- Two disks of the program, each in blocks of its own. -/
structure Pair (B : Nat) (y : World) (db kb : Nat) (d e : Dk) : Prop where
  ex : ∃ F G, POwn B F y db d ∧ POwn B G y kb e ∧ ∀ k, F k → ¬ G k

theorem Pair.on {B : Nat} {y x : World} {db kb : Nat} {d e : Dk} (h : Pair B y db kb d e) (hb : Below y.heap.size y x) : Pair B x db kb d e := by
  obtain ⟨F, G, h1, h2, h3⟩ := h.ex
  exact ⟨F, G, h1.on hb, h2.on hb, h3⟩
theorem Pair.turn {B : Nat} {y : World} {db kb : Nat} {d e : Dk} (h : Pair B y db kb d e) : Pair B y kb db e d := by
  obtain ⟨F, G, h1, h2, h3⟩ := h.ex
  exact ⟨G, F, h2, h1, fun k hk hf => h3 k hf hk⟩
theorem pair_p {B : Nat} {y : World} {db kb f : Nat} {args : Array Value} {r : Value} {d e t : Dk} (h : Pair B y db kb d e) (hB : B ≤ y.heap.size)
    (hc : ∀ F, PD y F db d → Calls Try.prog f args y fun q x => q = .returned r ∧ PD x (fun k => F k ∨ y.heap.size ≤ k) db t ∧ Turn F y x) :
    Calls Try.prog f args y fun q x => q = .returned r ∧ Pair B x db kb t e ∧ Below B y x := by
  obtain ⟨F, G, h1, h2, h3⟩ := h.ex
  refine (one_p h1 hB (hc F)).mono ?_
  rintro q x ⟨rfl, D, T, hb⟩
  exact ⟨rfl, ⟨more F y x, G, D, h2.far T fun k hk hf => h3 k hf hk, more_apart (B := B) h3 fun k hk => (h2.2 k hk).2⟩, hb⟩
theorem pair_l {B : Nat} {y : World} {db kb f : Nat} {args : Array Value} {r : Value} {d e : Dk} (h : Pair B y db kb d e) (hB : B ≤ y.heap.size)
    (hc : ∀ F, PD y F db d → Calls Try.prog f args y fun q x => q = .returned r ∧ Below y.heap.size y x) :
    Calls Try.prog f args y fun q x => q = .returned r ∧ Pair B x db kb d e ∧ Below B y x := by
  obtain ⟨F, G, h1, h2, h3⟩ := h.ex
  refine (hc F h1.1).mono ?_
  rintro q x ⟨rfl, hb⟩
  exact ⟨rfl, ⟨F, G, h1.on hb, h2.on hb, h3⟩, hb.mono hB⟩

set_option maxHeartbeats 4000000 in
set_option maxRecDepth 100000 in
theorem new1_any {y : World} {F : Nat → Prop} {db : Nat} {d : Dk} (D : PD y F db d) : Calls Try.prog 28 #[.pointer (some ⟨db, 0, none⟩)] y fun q x => q = .returned (.bool true) ∧ Below y.heap.size y x := by
  obtain ⟨g, -, -⟩ := D.good
  have hz : (catT d.S).size = 64 * d.S.length := catT_size g.s64
  have h2 := g.s2
  have ci := dimage_any D
  obtain ⟨T, hT⟩ : ∃ T, T = catT d.S := ⟨_, rfl⟩
  obtain ⟨m, hm⟩ : ∃ m, m = d.S.length := ⟨_, rfl⟩
  rw [← hT] at ci hz
  rw [← hm] at hz h2
  have hzi : (T.size : Int) = 64 * (m : Int) := by omega
  replace hm := hide hm
  replace D := hide D
  clear hT g
  go_enter Try.func28, Try.ntmps28
  go_wp2_with fail
  refine ci.mono ?_
  rintro q x ⟨rfl, hb⟩
  have cs := dsectors_any (D.out.on hb)
  rw [← hm.out] at cs
  clear ci
  go_wp2_with fail
  refine cs.mono ?_
  rintro q z ⟨rfl, hz2⟩
  subst hz2
  go_wp2
  go_ret
  exact ⟨rfl, hb⟩

/-- How the armed one comes out of a step. -/
def Out (A : Nat) (cc : Crs) (sk' sd' : Dk) (r : Int) : Prop := (A = 1 ∧ r = 2 ∧ sd'.dead = true) ∨ (A ≠ 1 ∧ r = 0 ∧ sd' = armD sk' (A - 1) cc)

set_option maxHeartbeats 8000000 in
set_option maxRecDepth 100000 in
theorem arms_walk (w : World) (a : Int) (wa : (Lit.int .i64 a).wf = true) (v : Value) (ops : List Dc) (hv : IsDcs w v ops) (c0 : Crs) (hc0 : c0.Ok) :
    Calls Try.prog 8 #[.int .i64 a, v, .agg c0.list.toArray] w fun e w' => e = .returned (.bool true) ∧ Below w.heap.size w w' := by
  obtain ⟨ck, ct, cb'⟩ := c0
  have hck : Hid (Crs.Fits ⟨ck, ct, cb'⟩) := hide hc0.k
  simp only [Crs.list]
  have hfix := fixed_any
  obtain ⟨ad, n, c, rfl, hn, hmx, hx⟩ := hv.open'
  have g0 := grow w (.cells #[.string ck, .int .i64 ct, .int .i64 cb'] 38)
  have BX := Box.new w #[.string ck, .int .i64 ct, .int .i64 cb'] 38
  have cl := fun w => laid_any 5 w
  have hcalm : Calm (newD 5) 5 := newD_calm (by decide) (by decide)
  obtain ⟨s0, hs0⟩ : ∃ s0, s0 = newD 5 := ⟨_, rfl⟩
  have hz : s0.m = 0 ∧ s0.L.length = 0 := by rw [hs0]; exact ⟨rfl, rfl⟩
  simp only [show (max 1 (min (5 : Int) 40)).toNat = 5 from rfl, ← hs0] at cl
  rw [← hs0] at hcalm
  obtain ⟨N, hN⟩ : ∃ N : Nat, bits .and .i64 a 31 = (N : Int) := ⟨(a % 32).toNat, by rw [and31]; omega⟩
  have hN32 : N < 32 := by have := and31 a; omega
  replace hx := hide hx
  replace hn := hide hn
  replace hfix := hide hfix
  replace hz := hide hz
  replace hcalm := hide hcalm
  replace g0 := hide g0
  replace BX := hide BX
  unfold maxLen at hmx
  clear hv hs0 hc0
  go_enter Try.func8, Try.ntmps8
  go_wp2_with fail
  generalize w.alloc (.cells #[.string ck, .int .i64 ct, .int .i64 cb'] 38) = w0 at *
  refine (cl _).mono ?_
  rintro e w1 ⟨db, rb, rfl, T0, hb0⟩
  obtain ⟨F, G0, D, -⟩ := T0.ex
  replace D := hide D
  replace hb0 := hide hb0
  clear T0
  go_wp2_with fail
  refine (cl _).mono ?_
  rintro e w2 ⟨kb, rb2, rfl, T1, h2⟩
  obtain ⟨G, G1, K, -⟩ := T1.ex
  have P0 : Pair w0.heap.size w2 db kb s0 s0 := ⟨F, G, D.out.on h2, ⟨K.1, fun k hk => ⟨Nat.le_trans hb0.out.size (K.2 k hk).1, (K.2 k hk).2⟩⟩, fun k hf hg => by
    have := (D.out.2 k hf).2; have := (K.2 k hg).1; omega⟩
  have hb2 := hide (onto hb0.out (Nat.le_refl _) h2)
  have bx := BX.out.on hb2.out
  have b0 : w2.cell? ⟨w.heap.size, 0, none⟩ = some (.string ck) := bx.cell 0
  have b1 : w2.cell? ⟨w.heap.size, 1, none⟩ = some (.int .i64 ct) := bx.cell 1
  have b2 : w2.cell? ⟨w.heap.size, 2, none⟩ = some (.int .i64 cb') := bx.cell 2
  obtain ⟨ea, eb⟩ := arm_is hcalm.out N ⟨ck, ct, cb'⟩
  have ca := pair_p P0 hb2.out.size (fun F D => darm_any D (N : Int) (by omega) ⟨ck, ct, cb'⟩ hck.out)
  obtain ⟨cc, hcc⟩ : ∃ cc : Crs, Hid (cc = ⟨ck, ct, cb'⟩) := ⟨_, hide rfl⟩
  have eb' : s0.armed (N : Int) ⟨ck, ct, cb'⟩ = armD s0 N cc := by rw [hcc.out]; exact eb
  rw [ea, eb'] at ca
  clear cl hb0 D K T1 h2 P0 bx ea eb eb'
  go_wp2_with fail
  refine ca.mono ?_
  rintro e w3 ⟨rfl, P0, h3⟩
  replace hb2 := hide (hb2.out.trans h3)
  replace P0 := hide P0
  clear ca h3 b0 b1 b2
  go_wp2_with fail
  go_loopw [12] (fun i y => ∃ (k A : Nat) (sk : Dk), k ≤ n ∧ k ≤ 60 ∧ i = .int .i64 (k : Int) ∧ Hid (Pair w0.heap.size y db kb (armD sk A cc) sk) ∧ Hid (Below w0.heap.size w0 y) ∧ Hid (Calm sk 5) ∧ sk.m ≤ k ∧ sk.L.length ≤ k ∧ (N = 0 ∧ A = 0 ∨ A + k = N ∧ 1 ≤ A)) (fun i _ => n - (intOf i).toNat)
  case atStart => exact ⟨0, N, s0, Nat.zero_le _, Nat.zero_le _, rfl, P0, hb2, hcalm, by rw [hz.out.1]; omega, by rw [hz.out.2]; omega, by omega⟩
  case round =>
    clear P0 hb2 hcalm
    obtain ⟨k, A, sk, hk, hk1, rfl, P, hb, hc, hm, hL, hA⟩ := hrel
    by_cases h : k < n ∧ k < 60
    · obtain ⟨hk2, hk3⟩ := h
      obtain ⟨o, ho⟩ : ∃ o, ops[k]? = some o := ⟨ops[k]'(by have := hn.out; omega), List.getElem?_eq_getElem _⟩
      obtain ⟨hw, b, off, rfl, hbl, hat⟩ := hx.out k o ho
      have hblw : b < w0.heap.size := Nat.lt_of_lt_of_le hbl g0.out.size
      have hcell : Hid (∀ y : World, Below w0.heap.size w0 y → y.cell? ⟨b, off + k * 7, none⟩ = some (.int .i64 o.k) ∧ y.cell? ⟨b, off + k * 7 + 1, none⟩ = some (.int .i64 o.n) ∧ y.cell? ⟨b, off + k * 7 + 2, none⟩ = some (.int .u8 o.f)) := hide (fun y hy => by
        obtain ⟨q0, q1, q2, -, -, -, -⟩ := (hat.keep ((hy.block b hblw).trans (g0.out.block b hbl))).seven
        exact ⟨q0, q1, q2⟩)
      obtain ⟨q0, -, -⟩ := hcell.out _ hb.out
      clear hat ho
      obtain ⟨K, M, Fl, Mo, ⟨dk, dt, db'⟩⟩ := o
      obtain ⟨-, -, ⟨f0, f1⟩, -, -⟩ := hw
      simp only at q0 f0 f1 hcell
      obtain ⟨v, rfl⟩ : ∃ v : Nat, Fl = (v : Int) := ⟨Fl.toNat, by omega⟩
      have d60 : decide ((k : Int) < 60) = true := by simp; omega
      go_upto_if 51 with fail
      go_cut [13, 14] from 51 to 113 (fun ra rb' y => ∃ (sk' sd' : Dk) (r : Int), ra = .int .i64 r ∧ rb' = .int .i64 0 ∧ Hid (Pair w0.heap.size y db kb sd' sk') ∧ Hid (Below w0.heap.size w0 y) ∧ Hid (Calm sk' 5) ∧ sk'.m ≤ k + 1 ∧ sk'.L.length ≤ k + 1 ∧ Out A cc sk' sd' r)
      case first =>
        by_cases e2 : K = 2
        · subst e2
          obtain ⟨r, sd', e1, e3, hout⟩ : ∃ r sd', (armD sk A cc).errF = r ∧ (armD sk A cc).flush = sd' ∧ Out A cc sk.flush sd' r := by
            by_cases e : A = 1
            · exact ⟨_, _, ((arm_flush hc.out A cc).1 e).1, rfl, .inl ⟨e, rfl, ((arm_flush hc.out A cc).1 e).2⟩⟩
            · exact ⟨_, _, ((arm_flush hc.out A cc).2 e).1, rfl, .inr ⟨e, rfl, ((arm_flush hc.out A cc).2 e).2⟩⟩
          obtain ⟨ek, -, hc2⟩ := hc.out.flush
          obtain ⟨hm2, hL2⟩ := flush_small sk
          have c1 := pair_p P.out hb.out.size (fun F D => dflush_any D (by show sk.m < _; omega))
          rw [e1, e3] at c1
          obtain ⟨t, ht⟩ : ∃ t, t = sk.flush := ⟨_, rfl⟩
          rw [← ht] at hout hc2 hm2 hL2
          replace hout := hide hout
          replace hc2 := hide hc2
          replace hA := hide hA
          clear e1 e3 P hcell
          go_wp2_with fail
          refine c1.mono ?_
          rintro q y1 ⟨rfl, P1, h1⟩
          replace hb := hide (hb.out.trans h1)
          have c2 := pair_p P1.turn hb.out.size (fun F D => dflush_any D (by omega))
          rw [ek, ← ht] at c2
          clear c1 P1 h1 ht ek hc
          go_wp2_with fail
          refine c2.mono ?_
          rintro q y2 ⟨rfl, P2, h2⟩
          replace hb := hide (hb.out.trans h2)
          have P3 := hide P2.turn
          clear c2 P2 h2
          go_wp2
          go_meet
          case rel => exact ⟨t, sd', r, rfl, rfl, P3, hb, hc2, by omega, by omega, hout.out⟩
        · have hj := and3 M
          obtain ⟨j, hjm⟩ : ∃ j : Nat, bits .and .i64 M 3 = (j : Int) := ⟨(M % 4).toNat, by rw [hj]; omega⟩
          have hj5 : j < 5 := by omega
          have csec := fun w => sector_any v 0 (by omega) w
          have h64 := secT_64 v
          obtain ⟨sx, hsx⟩ : ∃ sx, sx = secT v 0 := ⟨_, rfl⟩
          rw [← hsx] at csec h64
          obtain ⟨r, sd', e1, e3, hout⟩ : ∃ r sd', (armD sk A cc).errW (j : Int) sx = r ∧ (armD sk A cc).wrote (j : Int) sx = sd' ∧ Out A cc (sk.wrote (j : Int) sx) sd' r := by
            by_cases e : A = 1
            · exact ⟨_, _, ((arm_write hc.out A cc hj5 h64).1 e).1, rfl, .inl ⟨e, rfl, ((arm_write hc.out A cc hj5 h64).1 e).2⟩⟩
            · exact ⟨_, _, ((arm_write hc.out A cc hj5 h64).2 e).1, rfl, .inr ⟨e, rfl, ((arm_write hc.out A cc hj5 h64).2 e).2⟩⟩
          obtain ⟨ek, -, hc2⟩ := hc.out.write hj5 h64
          obtain ⟨hm2, hL2⟩ := wrote_small sk (j : Int) sx
          have c1 : ∀ y : World, Pair w0.heap.size y db kb (armD sk A cc) sk → w0.heap.size ≤ y.heap.size → _ := fun y P hB => pair_p P hB (fun F D => dwrite_any D (by show sk.m < _; omega) (by show sk.L.length < _; omega) (j : Int) sx)
          have c2 : ∀ y : World, Pair w0.heap.size y kb db sk sd' → w0.heap.size ≤ y.heap.size → _ := fun y P hB => pair_p P hB (fun F D => dwrite_any D (by omega) (by omega) (j : Int) sx)
          obtain ⟨t, ht⟩ : ∃ t, t = sk.wrote (j : Int) sx := ⟨_, rfl⟩
          simp only [e1, e3] at c1
          simp only [ek, ← ht] at c2
          rw [← ht] at hout hc2 hm2 hL2
          replace hout := hide hout
          replace hc2 := hide hc2
          replace hA := hide hA
          clear hj e1 e3 ek ht hsx hc
          go_wp2_with fail
          refine zir [] (fun y => y.cell? ⟨b, off + k * 7 + 1, none⟩ = some (.int .i64 M) ∧ y.cell? ⟨b, off + k * 7 + 2, none⟩ = some (.int .u8 (v : Int))) (by kernel_rfl) (hcell.out _ hb.out.drew).2 (fun hHeld => ?_)
          replace P := hide (P.out.on (Below.refl wr.heap.size wr).drew)
          replace hb := hide hb.out.drew
          generalize wr.drew = x1 at *
          refine zit 0 ?_ rfl (by kernel_rfl) (fun _ _ _ h => h) (by rfl) (by assumption) ?_ ?_
          rotate_left
          · intro y hSw
            obtain ⟨z1, z2⟩ := hSw
            go_simp
            try with_reducible rfl
          try simp only [Act.put, zpa, zpb, zpc]
          refine zit 1 ?_ rfl (by kernel_rfl) (fun _ _ _ h => h) (by rfl) (by assumption) ?_ ?_
          rotate_left
          · intro y hSw
            obtain ⟨z1, z2⟩ := hSw
            go_simp
            try with_reducible rfl
          try simp only [Act.put, zpa, zpb, zpc]
          refine zit 2 ?_ rfl (by kernel_rfl) (fun _ _ _ h => h) (by rfl) (by assumption) ?_ ?_
          rotate_left
          · intro y hSw
            obtain ⟨z1, z2⟩ := hSw
            go_simp
            try with_reducible rfl
          try simp only [Act.put, zpa, zpb, zpc]
          refine zit 3 ?_ rfl (by kernel_rfl) (fun _ _ _ h => h) (by rfl) (by assumption) ?_ ?_
          rotate_left
          · intro y hSw
            obtain ⟨z1, z2⟩ := hSw
            go_simp
            try with_reducible rfl
          try simp only [Act.put, zpa, zpb, zpc]
          refine zit 4 ?_ rfl (by kernel_rfl) (fun _ _ _ h => h) (by rfl) (by assumption) ?_ ?_
          rotate_left
          · intro y hSw
            obtain ⟨z1, z2⟩ := hSw
            go_simp
            try with_reducible rfl
          try simp only [Act.put, zpa, zpb, zpc]
          refine zit 5 ?_ rfl (by kernel_rfl) (fun _ _ _ h => h) (by rfl) (by assumption) ?_ ?_
          rotate_left
          · intro y hSw
            obtain ⟨z1, z2⟩ := hSw
            go_simp
            try with_reducible rfl
          try simp only [Act.put, zpa, zpb, zpc]
          refine zit 6 ?_ rfl (by kernel_rfl) (fun _ _ _ h => h) (by rfl) (by assumption) ?_ ?_
          rotate_left
          · intro y hSw
            obtain ⟨z1, z2⟩ := hSw
            go_simp
            try with_reducible rfl
          try simp only [Act.put, zpa, zpb, zpc]
          refine zit 7 ?_ rfl (by kernel_rfl) (fun _ _ _ h => h) (by rfl) (by assumption) ?_ ?_
          rotate_left
          · intro y hSw
            obtain ⟨z1, z2⟩ := hSw
            go_simp
            try with_reducible rfl
          try simp only [Act.put, zpa, zpb, zpc]
          refine zit 8 ?_ rfl (by kernel_rfl) (fun _ _ _ h => h) (by rfl) (by assumption) ?_ ?_
          rotate_left
          · intro y hSw
            obtain ⟨z1, z2⟩ := hSw
            go_simp
            try with_reducible rfl
          try simp only [Act.put, zpa, zpb, zpc]
          refine zit 9 ?_ rfl (by kernel_rfl) (fun _ _ _ h => h) (by rfl) (by assumption) ?_ ?_
          rotate_left
          · intro y hSw
            obtain ⟨z1, z2⟩ := hSw
            go_simp
            try with_reducible rfl
          try simp only [Act.put, zpa, zpb, zpc]
          refine zit 10 ?_ rfl (by kernel_rfl) (fun _ _ _ h => h) (by rfl) (by assumption) ?_ ?_
          rotate_left
          · intro y hSw
            obtain ⟨z1, z2⟩ := hSw
            go_simp
            try with_reducible rfl
          try simp only [Act.put, zpa, zpb, zpc]
          refine zit 11 ?_ rfl (by kernel_rfl) (fun _ _ _ h => h) (by rfl) (by assumption) ?_ ?_
          rotate_left
          · intro y hSw
            obtain ⟨z1, z2⟩ := hSw
            go_simp
            try with_reducible rfl
          try simp only [Act.put, zpa, zpb, zpc]
          refine zib 12 rfl (by kernel_rfl) (fun K hK => ?_)
          go_simp
          refine (csec _).mono ?_
          rintro q y1 ⟨rfl, h2⟩
          replace P := hide (P.out.on h2)
          replace hb := hide (onto hb.out (Nat.le_refl _) h2)
          have hH := (hcell.out _ hb.out).2
          clear h2
          go_wp2_with fail
          refine hK.out _ _ (hH) (fun hHeld => ?_)
          clear hK K
          try simp only [Act.put, zpa, zpb, zpc]
          clear hH
          refine zib 13 rfl (by kernel_rfl) (fun K hK => ?_)
          have cc' := c1 _ P.out hb.out.size
          go_simp
          refine cc'.mono ?_
          rintro q z1 ⟨rfl, P', h2⟩
          replace P := hide P'
          replace hb := hide (hb.out.trans h2)
          have hH := (hcell.out _ hb.out).2
          clear h2 cc' P'
          go_wp2_with fail
          refine hK.out _ _ (hH) (fun hHeld => ?_)
          clear hK K
          try simp only [Act.put, zpa, zpb, zpc]
          clear hH
          refine zit 14 ?_ rfl (by kernel_rfl) (fun _ _ _ h => h) (by rfl) (by assumption) ?_ ?_
          rotate_left
          · intro y hSw
            skip
            go_simp
            try with_reducible rfl
          try simp only [Act.put, zpa, zpb, zpc]
          refine zid (by kernel_rfl) ?_ _
          clear hHeld
          go_wp2_with fail
          replace P := hide P.out.turn
          refine zir [] (fun y => y.cell? ⟨b, off + k * 7 + 1, none⟩ = some (.int .i64 M) ∧ y.cell? ⟨b, off + k * 7 + 2, none⟩ = some (.int .u8 (v : Int))) (by kernel_rfl) (hcell.out _ hb.out.drew).2 (fun hHeld => ?_)
          replace P := hide (P.out.on (Below.refl z1.heap.size z1).drew)
          replace hb := hide hb.out.drew
          generalize z1.drew = x2 at *
          refine zit 0 ?_ rfl (by kernel_rfl) (fun _ _ _ h => h) (by rfl) (by assumption) ?_ ?_
          rotate_left
          · intro y hSw
            obtain ⟨z1, z2⟩ := hSw
            go_simp
            try with_reducible rfl
          try simp only [Act.put, zpa, zpb, zpc]
          refine zit 1 ?_ rfl (by kernel_rfl) (fun _ _ _ h => h) (by rfl) (by assumption) ?_ ?_
          rotate_left
          · intro y hSw
            obtain ⟨z1, z2⟩ := hSw
            go_simp
            try with_reducible rfl
          try simp only [Act.put, zpa, zpb, zpc]
          refine zit 2 ?_ rfl (by kernel_rfl) (fun _ _ _ h => h) (by rfl) (by assumption) ?_ ?_
          rotate_left
          · intro y hSw
            obtain ⟨z1, z2⟩ := hSw
            go_simp
            try with_reducible rfl
          try simp only [Act.put, zpa, zpb, zpc]
          refine zit 3 ?_ rfl (by kernel_rfl) (fun _ _ _ h => h) (by rfl) (by assumption) ?_ ?_
          rotate_left
          · intro y hSw
            obtain ⟨z1, z2⟩ := hSw
            go_simp
            try with_reducible rfl
          try simp only [Act.put, zpa, zpb, zpc]
          refine zit 4 ?_ rfl (by kernel_rfl) (fun _ _ _ h => h) (by rfl) (by assumption) ?_ ?_
          rotate_left
          · intro y hSw
            obtain ⟨z1, z2⟩ := hSw
            go_simp
            try with_reducible rfl
          try simp only [Act.put, zpa, zpb, zpc]
          refine zit 5 ?_ rfl (by kernel_rfl) (fun _ _ _ h => h) (by rfl) (by assumption) ?_ ?_
          rotate_left
          · intro y hSw
            obtain ⟨z1, z2⟩ := hSw
            go_simp
            try with_reducible rfl
          try simp only [Act.put, zpa, zpb, zpc]
          refine zit 6 ?_ rfl (by kernel_rfl) (fun _ _ _ h => h) (by rfl) (by assumption) ?_ ?_
          rotate_left
          · intro y hSw
            obtain ⟨z1, z2⟩ := hSw
            go_simp
            try with_reducible rfl
          try simp only [Act.put, zpa, zpb, zpc]
          refine zit 7 ?_ rfl (by kernel_rfl) (fun _ _ _ h => h) (by rfl) (by assumption) ?_ ?_
          rotate_left
          · intro y hSw
            obtain ⟨z1, z2⟩ := hSw
            go_simp
            try with_reducible rfl
          try simp only [Act.put, zpa, zpb, zpc]
          refine zit 8 ?_ rfl (by kernel_rfl) (fun _ _ _ h => h) (by rfl) (by assumption) ?_ ?_
          rotate_left
          · intro y hSw
            obtain ⟨z1, z2⟩ := hSw
            go_simp
            try with_reducible rfl
          try simp only [Act.put, zpa, zpb, zpc]
          refine zit 9 ?_ rfl (by kernel_rfl) (fun _ _ _ h => h) (by rfl) (by assumption) ?_ ?_
          rotate_left
          · intro y hSw
            obtain ⟨z1, z2⟩ := hSw
            go_simp
            try with_reducible rfl
          try simp only [Act.put, zpa, zpb, zpc]
          refine zit 10 ?_ rfl (by kernel_rfl) (fun _ _ _ h => h) (by rfl) (by assumption) ?_ ?_
          rotate_left
          · intro y hSw
            obtain ⟨z1, z2⟩ := hSw
            go_simp
            try with_reducible rfl
          try simp only [Act.put, zpa, zpb, zpc]
          refine zit 11 ?_ rfl (by kernel_rfl) (fun _ _ _ h => h) (by rfl) (by assumption) ?_ ?_
          rotate_left
          · intro y hSw
            obtain ⟨z1, z2⟩ := hSw
            go_simp
            try with_reducible rfl
          try simp only [Act.put, zpa, zpb, zpc]
          refine zib 12 rfl (by kernel_rfl) (fun K hK => ?_)
          go_simp
          refine (csec _).mono ?_
          rintro q y2 ⟨rfl, h2⟩
          replace P := hide (P.out.on h2)
          replace hb := hide (onto hb.out (Nat.le_refl _) h2)
          have hH := (hcell.out _ hb.out).2
          clear h2
          go_wp2_with fail
          refine hK.out _ _ (hH) (fun hHeld => ?_)
          clear hK K
          try simp only [Act.put, zpa, zpb, zpc]
          clear hH
          refine zib 13 rfl (by kernel_rfl) (fun K hK => ?_)
          have cc' := c2 _ P.out hb.out.size
          go_simp
          refine cc'.mono ?_
          rintro q z2 ⟨rfl, P', h2⟩
          replace P := hide P'
          replace hb := hide (hb.out.trans h2)
          have hH := (hcell.out _ hb.out).2
          clear h2 cc' P'
          go_wp2_with fail
          refine hK.out _ _ (hH) (fun hHeld => ?_)
          clear hK K
          try simp only [Act.put, zpa, zpb, zpc]
          clear hH
          refine zit 14 ?_ rfl (by kernel_rfl) (fun _ _ _ h => h) (by rfl) (by assumption) ?_ ?_
          rotate_left
          · intro y hSw
            skip
            go_simp
            try with_reducible rfl
          try simp only [Act.put, zpa, zpb, zpc]
          refine zid (by kernel_rfl) ?_ _
          clear hHeld
          replace P := hide P.out.turn
          go_wp2
          go_meet
          case rel => exact ⟨t, sd', r, rfl, rfl, P, hb, hc2, by omega, by omega, hout.out⟩
      case rest =>
        obtain ⟨sk', sd', r, rfl, rfl, P2, hb2, hc2, hm2, hL2, hout⟩ := hcut
        clear P hb hc q0 hcell
        rcases hout with ⟨hA1, rfl, hdead⟩ | ⟨hA1, rfl, rfl⟩
        · have hkN : (k : Int) + 1 = (N : Int) := by omega
          have cd := pair_l P2.out hb2.out.size (fun F D => (ddead_any D).mono fun q x h => ⟨h.1, h.2 ▸ Below.refl _ _⟩)
          rw [hdead] at cd
          clear hA hA1 hdead
          go_wp2_with fail
          refine cd.mono ?_
          rintro q y1 ⟨rfl, -, h1⟩
          replace hb2 := hide (hb2.out.trans h1)
          clear cd h1 P2
          go_wp2_with fail
          refine (hfix.out _).mono ?_
          rintro q y2 ⟨rfl, h2⟩
          have fin := hide (onto g0.out (Nat.le_refl _) (hb2.out.mono (Nat.le_refl _)))
          have fin2 := hide (onto fin.out (Nat.le_refl _) h2)
          go_wp2
          go_ret
          exact ⟨rfl, fin2.out⟩
        · have hkN : ¬ (k : Int) + 1 = (N : Int) := by omega
          have hA2 : Hid (N = 0 ∧ A - 1 = 0 ∨ A - 1 + (k + 1) = N ∧ 1 ≤ A - 1) := hide (by omega)
          have c1 := pair_l P2.out hb2.out.size (fun F D => dimage_any D)
          obtain ⟨V, hV⟩ : ∃ V, V = catT sk'.S := ⟨_, rfl⟩
          have hV1 : catT (armD sk' (A - 1) cc).S = V := hV.symm
          rw [hV1] at c1
          replace hV := hide hV
          clear hA hA1 hV1
          go_wp2_with fail
          refine c1.mono ?_
          rintro q y1 ⟨rfl, P3, h1⟩
          replace hb2 := hide (hb2.out.trans h1)
          have c2 := pair_l P3.turn hb2.out.size (fun F D => dimage_any D)
          rw [← hV.out] at c2
          clear c1 P2 P3 h1
          go_wp2_with fail
          refine c2.mono ?_
          rintro q y2 ⟨rfl, P4, h2⟩
          replace hb2 := hide (hb2.out.trans h2)
          have P5 := hide P4.turn
          clear c2 P4 h2 hV
          go_wp2
          go_roundw
          case rel => exact ⟨k + 1, A - 1, sk', by omega, by omega, by go_num, P5, hb2, hc2, by omega, by omega, hA2.out⟩
          case measure => simp [intOf]; omega
    · have cd := pair_l P.out hb.out.size (fun F D => (ddead_any D).mono fun q x h => ⟨h.1, h.2 ▸ Below.refl _ _⟩)
      rw [show (armD sk A cc).dead = false from rfl] at cd
      clear hA
      by_cases hk2 : k < n
      · have hk3 : ¬ k < 60 := fun h3 => h ⟨hk2, h3⟩
        have d60 : decide ((k : Int) < 60) = false := by simp; omega
        clear h
        go_wp2_with fail
        refine cd.mono ?_
        rintro q y1 ⟨rfl, P3, h1⟩
        replace hb := hide (hb.out.trans h1)
        obtain ⟨F, G, D3, -⟩ := P3.ex
        have cn := new1_any D3.1
        clear cd h1 P P3 D3
        go_wp2_with fail
        refine cn.mono ?_
        rintro q y2 ⟨rfl, h2⟩
        go_wp2_with fail
        refine (hfix.out _).mono ?_
        rintro q y3 ⟨rfl, h3⟩
        have fin := hide (onto (onto (onto g0.out (Nat.le_refl _) (hb.out.mono (Nat.le_refl _))) (Nat.le_refl _) h2) (Nat.le_refl _) h3)
        clear h2 h3 cn
        go_wp2
        go_ret
        exact ⟨rfl, fin.out⟩
      · clear h
        go_wp2_with fail
        refine cd.mono ?_
        rintro q y1 ⟨rfl, P3, h1⟩
        replace hb := hide (hb.out.trans h1)
        obtain ⟨F, G, D3, -⟩ := P3.ex
        have cn := new1_any D3.1
        clear cd h1 P P3 D3
        go_wp2_with fail
        refine cn.mono ?_
        rintro q y2 ⟨rfl, h2⟩
        go_wp2_with fail
        refine (hfix.out _).mono ?_
        rintro q y3 ⟨rfl, h3⟩
        have fin := hide (onto (onto (onto g0.out (Nat.le_refl _) (hb.out.mono (Nat.le_refl _))) (Nat.le_refl _) h2) (Nat.le_refl _) h3)
        clear h2 h3 cn
        go_wp2
        go_ret
        exact ⟨rfl, fin.out⟩

end Go.Proofs.Ytkihjlmhidhjcaa
