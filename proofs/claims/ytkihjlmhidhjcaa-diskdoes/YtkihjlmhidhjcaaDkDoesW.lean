/- Layer 18: the walk of DiskDoes. -/
import Derived.Test.YtkihjlmhidhjcaaDkDoes
import Derived.Deep.CutBlock
namespace Go.Proofs.Ytkihjlmhidhjcaa
open Go.RowKit
set_option linter.unusedVariables false
set_option maxRecDepth 100000
set_option linter.unusedSimpArgs false

theorem Two.rcells {B : Nat} {X : Nat → Prop} {y : World} {db rb : Nat} {d e : Dk} (h : Two B X y db rb d e) : y.cell? ⟨rb, 6, none⟩ = some (.bool e.dead) ∧ y.cell? ⟨rb, 7, none⟩ = some (.int .i64 (e.m : Int)) := by
  obtain ⟨F, G, h1, ⟨⟨lv, lw, R⟩, h2⟩, -⟩ := h.ex
  exact ⟨R.box.cell 6, R.box.cell 7⟩

set_option maxHeartbeats 8000000 in
set_option maxRecDepth 100000 in
theorem does_walk (w : World) (a : Int) (wa : (Lit.int .i64 a).wf = true) (v : Value) (ops : List Dc) (hv : IsDcs w v ops) :
    Calls Try.prog 4 #[.int .i64 a, v] w fun e w' => e = .returned (.bool true) ∧ Below w.heap.size w w' := by
  have cl := laid_any a w
  have hfix := fixed_any
  obtain ⟨ad, n, c, rfl, hn, hmx, hx⟩ := hv.open'
  have hgd : ∀ m : Nat, (newD m).m = 0 ∧ (newD m).L.length = 0 := fun m => ⟨rfl, rfl⟩
  obtain ⟨s0, hs0⟩ : ∃ s0, s0 = newD (max 1 (min a 40)).toNat := ⟨_, rfl⟩
  have hz : s0.m = 0 ∧ s0.L.length = 0 := by rw [hs0]; exact hgd _
  rw [← hs0] at cl
  have csec := fun w => sector_any 255 0 (by decide) w
  obtain ⟨sec, hsec⟩ : ∃ sec, sec = secT 255 0 := ⟨_, rfl⟩
  rw [← hsec, show ((255 : Nat) : Int) = 255 from rfl] at csec
  replace hx := hide hx
  replace hn := hide hn
  replace hfix := hide hfix
  replace hz := hide hz
  unfold maxLen at hmx
  clear hv hgd hs0 hsec
  go_enter Try.func4, Try.ntmps4
  go_wp2_with fail
  refine cl.mono ?_
  rintro e w1 ⟨d0, rb, rfl, T0, hb0⟩
  replace T0 := hide T0
  replace hb0 := hide hb0
  clear cl
  go_wp2_with fail
  go_loopw [5, 7, 8] (fun dv i wv wr => ∃ (k db : Nat) (s : Dk) (wb : Value), k ≤ n ∧ k ≤ 150 ∧ i = .int .i64 (k : Int) ∧ dv = .pointer (some ⟨db, 0, none⟩) ∧ wv = wb ∧ Hid (Two w.heap.size (fun _ => False) wr db rb s s) ∧ Hid (Below w.heap.size w wr) ∧ s.m ≤ 3 * k ∧ s.L.length ≤ 3 * k) (fun _ i _ _ => n - (intOf i).toNat)
  case atStart => exact ⟨0, d0, s0, _, Nat.zero_le _, Nat.zero_le _, rfl, rfl, rfl, T0, hb0, by rw [hz.out.1]; omega, by rw [hz.out.2]; omega⟩
  case round =>
    clear T0 hb0
    obtain ⟨k, db, s, wb, hk, hk1, rfl, rfl, hwv, T, hb, hm, hL⟩ := hrel
    replace hwv := hwv.symm
    subst hwv
    by_cases h : k < n ∧ k < 150
    · obtain ⟨hk2, hk3⟩ := h
      obtain ⟨o, ho⟩ : ∃ o, ops[k]? = some o := ⟨ops[k]'(by have := hn.out; omega), List.getElem?_eq_getElem _⟩
      obtain ⟨hw, b, off, rfl, hbl, hat⟩ := hx.out k o ho
      have hat1 := hide (hat.keep (hb.out.block b hbl))
      obtain ⟨q0, q1, q2, q3, q4, q5, q6⟩ := hat1.out.seven
      clear hat ho
      obtain ⟨K, N, F, M, ⟨ck, ct, cb'⟩⟩ := o
      simp only at q0 q1 q2 q3 q4 q5 q6
      have d150 : decide ((k : Int) < 150) = true := by simp; omega
      go_upto_if 31 with fail
      go_cut [5, 8] from 31 to 77 (fun dv wv y => ∃ (cb : Nat) (wc : Value), dv = .pointer (some ⟨cb, 0, none⟩) ∧ wv = wc ∧ Hid (Two w.heap.size (fun _ => False) y cb rb s s) ∧ Hid (Below w.heap.size w y) ∧ Hid (Below w.heap.size wr y))
      case first =>
        by_cases e6 : K = 6
        · subst e6
          have cc := two_clone T.out hb.out.size
          go_wp2_with fail
          refine cc.mono ?_
          rintro q y1 ⟨cb, F, rfl, T1, D1, B1⟩
          replace T1 := hide T1
          replace D1 := hide D1
          have hB1 : w.heap.size ≤ y1.heap.size := Nat.le_trans hb.out.size B1.size
          replace B1 := hide B1
          clear cc
          go_wp2_with fail
          refine (csec _).mono ?_
          rintro q y2 ⟨rfl, h2⟩
          replace T1 := hide (T1.out.on h2)
          replace D1 := hide (D1.out.on h2)
          replace hB1 : w.heap.size ≤ y2.heap.size := Nat.le_trans hB1 h2.size
          replace B1 := hide (onto B1.out hb.out.size h2)
          have c1 := two_aside T1.out D1.out hB1 (dwrite_any D1.out.1 (by omega) (by omega) 0 sec)
          obtain ⟨hm2, hL2⟩ := wrote_small s 0 sec
          obtain ⟨s2, hs2⟩ : ∃ s2, s2 = s.wrote 0 sec := ⟨_, rfl⟩
          rw [← hs2] at c1 hm2 hL2
          obtain ⟨E1, hE1⟩ : ∃ E1, E1 = s.errW 0 sec := ⟨_, rfl⟩
          rw [← hE1] at c1
          clear T1 D1 h2 hs2 hE1
          go_wp2_with fail
          refine c1.mono ?_
          rintro q y3 ⟨rfl, T1, D1, h3⟩
          replace T1 := hide T1
          replace D1 := hide D1
          replace hB1 : w.heap.size ≤ y3.heap.size := Nat.le_trans hB1 h3.size
          replace B1 := hide (B1.out.trans h3)
          have c2 := two_aside T1.out D1.out hB1 (dflush_any D1.out.1 (by omega))
          obtain ⟨s3, hs3⟩ : ∃ s3, s3 = s2.flush := ⟨_, rfl⟩
          rw [← hs3] at c2
          obtain ⟨E2, hE2⟩ : ∃ E2, E2 = s2.errF := ⟨_, rfl⟩
          rw [← hE2] at c2
          clear c1 T1 D1 h3 hs3 hE2
          go_wp2_with fail
          refine c2.mono ?_
          rintro q y4 ⟨rfl, T1, D1, h4⟩
          replace T1 := hide T1
          replace D1 := hide D1
          replace hB1 : w.heap.size ≤ y4.heap.size := Nat.le_trans hB1 h4.size
          replace B1 := hide (B1.out.trans h4)
          have c3 := two_aside T1.out D1.out hB1 (dcrash_any D1.out.1 ⟨⟨#[]⟩, 0, 0⟩ (Nat.zero_le _))
          obtain ⟨E3, hE3⟩ : ∃ E3, E3 = s3.errC := ⟨_, rfl⟩
          rw [← hE3] at c3
          clear c2 T1 D1 h4 hE3
          go_wp2_with fail
          refine c3.mono ?_
          rintro q y5 ⟨rfl, T1, -, h5⟩
          have fin := hide (And.intro (T1.less (Y := fun _ => False) (fun _ h => h.elim)) (B1.out.trans h5))
          clear c3 T1 B1 h5
          go_wp2
          go_meet
          case rel => exact ⟨cb, _, rfl, rfl, hide fin.out.1, hide (hb.out.trans fin.out.2), hide fin.out.2⟩
        · go_wp2
          go_meet
          case rel => exact ⟨db, _, rfl, rfl, T, hb, hide (Below.refl _ _)⟩
      case rest =>
        obtain ⟨cb, wc', rfl, hwc, T1, hb1, hr1⟩ := hcut
        replace hwc := hwc.symm
        subst hwc
        have hat2 := hide (hat1.out.keep (hr1.out.block b hbl))
        obtain ⟨p0, p1, p2, p3, p4, p5, p6⟩ := hat2.out.seven
        simp only at p0 p1 p2 p3 p4 p5 p6
        clear T hb hat1 q0 q1 q2 q3 q4 q5 q6
        obtain ⟨o, ho⟩ : ∃ o : Dc, o = ⟨K, N, F, M, ⟨ck, ct, cb'⟩⟩ := ⟨_, rfl⟩
        have cd := does_any (T1.out.on (Below.refl wc.heap.size wc).drew) hb1.out.size (by omega) (by omega) _ hw
        simp only [listD] at cd
        obtain ⟨hm2, hL2⟩ := step_small ⟨K, N, F, M, ⟨ck, ct, cb'⟩⟩ s
        obtain ⟨t, ht⟩ : ∃ t, t = Dc.step ⟨K, N, F, M, ⟨ck, ct, cb'⟩⟩ s := ⟨_, rfl⟩
        rw [← ht] at cd hm2 hL2
        have hS0 := hide (And.intro p0 (And.intro p1 (And.intro p2 (And.intro p3 (And.intro p4 (And.intro p5 p6))))))
        clear ht ho o hat2 p0 p1 p2 p3 p4 p5 p6
        go_wp2_with fail
        refine zir [6] (fun y => y.cell? ⟨b, off + k * 7, none⟩ = some (.int .i64 K) ∧ y.cell? ⟨b, off + k * 7 + 1, none⟩ = some (.int .i64 N) ∧ y.cell? ⟨b, off + k * 7 + 2, none⟩ = some (.int .u8 F) ∧ y.cell? ⟨b, off + k * 7 + 3, none⟩ = some (.int .i64 M) ∧ y.cell? ⟨b, off + k * 7 + 4, none⟩ = some (.string ck) ∧ y.cell? ⟨b, off + k * 7 + 5, none⟩ = some (.int .i64 ct) ∧ y.cell? ⟨b, off + k * 7 + 6, none⟩ = some (.int .i64 cb')) (by kernel_rfl) hS0.out (fun hHeld => ?_)
        refine zit 0 ?_ rfl (by kernel_rfl) (fun _ _ _ h => h) (by rfl) (by assumption) ?_ ?_
        rotate_left
        · intro y hSw
          obtain ⟨z0, z1, z2, z3, z4, z5, z6⟩ := hSw
          go_simp
          try with_reducible rfl
        try simp only [Act.put, zpa, zpb, zpc]
        refine zit 1 ?_ rfl (by kernel_rfl) (fun _ _ _ h => h) (by rfl) (by assumption) ?_ ?_
        rotate_left
        · intro y hSw
          obtain ⟨z0, z1, z2, z3, z4, z5, z6⟩ := hSw
          go_simp
          try with_reducible rfl
        try simp only [Act.put, zpa, zpb, zpc]
        refine zit 2 ?_ rfl (by kernel_rfl) (fun _ _ _ h => h) (by rfl) (by assumption) ?_ ?_
        rotate_left
        · intro y hSw
          obtain ⟨z0, z1, z2, z3, z4, z5, z6⟩ := hSw
          go_simp
          try with_reducible rfl
        try simp only [Act.put, zpa, zpb, zpc]
        refine zit 3 ?_ rfl (by kernel_rfl) (fun _ _ _ h => h) (by rfl) (by assumption) ?_ ?_
        rotate_left
        · intro y hSw
          obtain ⟨z0, z1, z2, z3, z4, z5, z6⟩ := hSw
          go_simp
          try with_reducible rfl
        try simp only [Act.put, zpa, zpb, zpc]
        refine zit 4 ?_ rfl (by kernel_rfl) (fun _ _ _ h => h) (by rfl) (by assumption) ?_ ?_
        rotate_left
        · intro y hSw
          obtain ⟨z0, z1, z2, z3, z4, z5, z6⟩ := hSw
          go_simp
          try with_reducible rfl
        try simp only [Act.put, zpa, zpb, zpc]
        refine zit 5 ?_ rfl (by kernel_rfl) (fun _ _ _ h => h) (by rfl) (by assumption) ?_ ?_
        rotate_left
        · intro y hSw
          obtain ⟨z0, z1, z2, z3, z4, z5, z6⟩ := hSw
          go_simp
          try with_reducible rfl
        try simp only [Act.put, zpa, zpb, zpc]
        refine zil 6 rfl (by kernel_rfl) (by kernel_rfl) (fun K hK => ?_)
        go_simp
        refine cd.mono ?_
        rintro q y2 ⟨rfl, T2, h2⟩
        replace T2 := hide T2
        have hb2 := hide ((hb1.out.trans ((Below.refl w.heap.size wc).drew)).trans h2)
        have hR2 := T2.out.rcells
        obtain ⟨td, htd⟩ : ∃ td, td = t.dead := ⟨_, rfl⟩
        obtain ⟨tm, htm⟩ : ∃ tm, tm = (t.m : Int) := ⟨_, rfl⟩
        obtain ⟨tc, htc⟩ : ∃ tc, tc = catT t.S := ⟨_, rfl⟩
        rw [← htd, ← htm] at hR2
        have hg2 := T2.out.goodP
        clear cd T1 hb1 hr1 hS0 hHeld h2
        go_wp2_with fail
        refine hK.out _ _ ?_
        clear hK K
        try simp only [Act.put, zpa, zpb, zpc]
        refine zsw (fun y => y.cell? ⟨rb, 6, none⟩ = some (.bool td) ∧ y.cell? ⟨rb, 7, none⟩ = some (.int .i64 tm)) [] (by kernel_rfl) hR2 (fun hHeld => ?_)
        clear hR2
        refine zit 7 ?_ rfl (by kernel_rfl) (fun _ _ _ h => h) (by rfl) (by assumption) ?_ ?_
        rotate_left
        · intro y hSw
          obtain ⟨z0, z1⟩ := hSw
          go_simp
          try with_reducible rfl
        try simp only [Act.put, zpa, zpb, zpc]
        refine zit 8 ?_ rfl (by kernel_rfl) (fun _ _ _ h => h) (by rfl) (by assumption) ?_ ?_
        rotate_left
        · intro y hSw
          obtain ⟨z0, z1⟩ := hSw
          go_simp
          try with_reducible rfl
        try simp only [Act.put, zpa, zpb, zpc]
        refine zit 9 ?_ rfl (by kernel_rfl) (fun _ _ _ h => h) (by rfl) (by assumption) ?_ ?_
        rotate_left
        · intro y hSw
          obtain ⟨z0, z1⟩ := hSw
          go_simp
          try with_reducible rfl
        try simp only [Act.put, zpa, zpb, zpc]
        refine zit 11 ?_ rfl (by kernel_rfl) (fun _ _ _ h => h) (by rfl) (by assumption) ?_ ?_
        rotate_left
        · intro y hSw
          obtain ⟨z0, z1⟩ := hSw
          go_simp
          try with_reducible rfl
        try simp only [Act.put, zpa, zpb, zpc]
        refine zib 10 rfl (by kernel_rfl) (fun K hK => ?_)
        have cc := (htc ▸ two_lp T2.out hb2.out.size (fun F D => dimage_any D) : Calls Try.prog 14 #[.pointer (some ⟨cb, 0, none⟩)] _ fun q x => q = .returned (.string tc) ∧ Two w.heap.size (fun _ => False) x cb rb t t ∧ Keep w.heap.size (fun _ => False) _ x)
        go_simp
        refine cc.mono ?_
        rintro q y3 ⟨rfl, T3, K3⟩
        replace T2 := hide T3
        replace hb2 := hide (hb2.out.trans K3.b)
        have hR3 := T3.rcells
        rw [← htd, ← htm] at hR3
        clear K3 cc T3
        go_wp2_with fail
        refine hK.out _ _ (hR3) (fun hHeld => ?_)
        clear hK K
        try simp only [Act.put, zpa, zpb, zpc]
        refine zib 12 rfl (by kernel_rfl) (fun K hK => ?_)
        have cc := (htc ▸ two_lr T2.out hb2.out.size (fun G lv lw R => rimage_any R) : Calls Try.prog 24 #[.pointer (some ⟨rb, 0, none⟩)] _ fun q x => q = .returned (.string tc) ∧ Two w.heap.size (fun _ => False) x cb rb t t ∧ Keep w.heap.size (fun _ => False) _ x)
        go_simp
        refine cc.mono ?_
        rintro q y4 ⟨rfl, T3, K3⟩
        replace T2 := hide T3
        replace hb2 := hide (hb2.out.trans K3.b)
        have hR3 := T3.rcells
        rw [← htd, ← htm] at hR3
        clear K3 cc T3
        go_wp2_with fail
        refine hK.out _ _ (hR3) (fun hHeld => ?_)
        clear hK K
        try simp only [Act.put, zpa, zpb, zpc]
        refine zit 13 ?_ rfl (by kernel_rfl) (fun _ _ _ h => h) (by rfl) (by assumption) ?_ ?_
        rotate_left
        · intro y hSw
          obtain ⟨z0, z1⟩ := hSw
          go_simp
          try with_reducible rfl
        try simp only [Act.put, zpa, zpb, zpc]
        refine zit 14 ?_ rfl (by kernel_rfl) (fun _ _ _ h => h) (by rfl) (by assumption) ?_ ?_
        rotate_left
        · intro y hSw
          obtain ⟨z0, z1⟩ := hSw
          go_simp
          try with_reducible rfl
        try simp only [Act.put, zpa, zpb, zpc]
        refine zit 15 ?_ rfl (by kernel_rfl) (fun _ _ _ h => h) (by rfl) (by assumption) ?_ ?_
        rotate_left
        · intro y hSw
          obtain ⟨z0, z1⟩ := hSw
          go_simp
          try with_reducible rfl
        try simp only [Act.put, zpa, zpb, zpc]
        refine zit 16 ?_ rfl (by kernel_rfl) (fun _ _ _ h => h) (by rfl) (by assumption) ?_ ?_
        rotate_left
        · intro y hSw
          obtain ⟨z0, z1⟩ := hSw
          go_simp
          try with_reducible rfl
        try simp only [Act.put, zpa, zpb, zpc]
        refine zit 18 ?_ rfl (by kernel_rfl) (fun _ _ _ h => h) (by rfl) (by assumption) ?_ ?_
        rotate_left
        · intro y hSw
          obtain ⟨z0, z1⟩ := hSw
          go_simp
          try with_reducible rfl
        try simp only [Act.put, zpa, zpb, zpc]
        refine zit 19 ?_ rfl (by kernel_rfl) (fun _ _ _ h => h) (by rfl) (by assumption) ?_ ?_
        rotate_left
        · intro y hSw
          obtain ⟨z0, z1⟩ := hSw
          go_simp
          try with_reducible rfl
        try simp only [Act.put, zpa, zpb, zpc]
        refine zit 20 ?_ rfl (by kernel_rfl) (fun _ _ _ h => h) (by rfl) (by assumption) ?_ ?_
        rotate_left
        · intro y hSw
          obtain ⟨z0, z1⟩ := hSw
          go_simp
          try with_reducible rfl
        try simp only [Act.put, zpa, zpb, zpc]
        refine zit 21 ?_ rfl (by kernel_rfl) (fun _ _ _ h => h) (by rfl) (by assumption) ?_ ?_
        rotate_left
        · intro y hSw
          obtain ⟨z0, z1⟩ := hSw
          go_simp
          try with_reducible rfl
        try simp only [Act.put, zpa, zpb, zpc]
        refine zib 17 rfl (by kernel_rfl) (fun K hK => ?_)
        have cc := (htd ▸ two_lp T2.out hb2.out.size (fun F D => (ddead_any D).mono fun q x h => ⟨h.1, h.2 ▸ Below.refl _ _⟩) : Calls Try.prog 16 #[.pointer (some ⟨cb, 0, none⟩)] _ fun q x => q = .returned (.bool td) ∧ Two w.heap.size (fun _ => False) x cb rb t t ∧ Keep w.heap.size (fun _ => False) _ x)
        go_simp
        refine cc.mono ?_
        rintro q y5 ⟨rfl, T3, K3⟩
        replace T2 := hide T3
        replace hb2 := hide (hb2.out.trans K3.b)
        have hR3 := T3.rcells
        rw [← htd, ← htm] at hR3
        clear K3 cc T3
        go_wp2_with fail
        refine hK.out _ _ (hR3) (fun hHeld => ?_)
        clear hK K
        try simp only [Act.put, zpa, zpb, zpc]
        refine zit 22 ?_ rfl (by kernel_rfl) (fun _ _ _ h => h) (by rfl) (by assumption) ?_ ?_
        rotate_left
        · intro y hSw
          obtain ⟨z0, z1⟩ := hSw
          go_simp
          try with_reducible rfl
        try simp only [Act.put, zpa, zpb, zpc]
        refine zit 23 ?_ rfl (by kernel_rfl) (fun _ _ _ h => h) (by rfl) (by assumption) ?_ ?_
        rotate_left
        · intro y hSw
          obtain ⟨z0, z1⟩ := hSw
          go_simp
          try with_reducible rfl
        try simp only [Act.put, zpa, zpb, zpc]
        refine zit 24 ?_ rfl (by kernel_rfl) (fun _ _ _ h => h) (by rfl) (by assumption) ?_ ?_
        rotate_left
        · intro y hSw
          obtain ⟨z0, z1⟩ := hSw
          go_simp
          try with_reducible rfl
        try simp only [Act.put, zpa, zpb, zpc]
        refine zit 25 ?_ rfl (by kernel_rfl) (fun _ _ _ h => h) (by rfl) (by assumption) ?_ ?_
        rotate_left
        · intro y hSw
          obtain ⟨z0, z1⟩ := hSw
          go_simp
          try with_reducible rfl
        try simp only [Act.put, zpa, zpb, zpc]
        refine zit 27 ?_ rfl (by kernel_rfl) (fun _ _ _ h => h) (by rfl) (by assumption) ?_ ?_
        rotate_left
        · intro y hSw
          obtain ⟨z0, z1⟩ := hSw
          go_simp
          try with_reducible rfl
        try simp only [Act.put, zpa, zpb, zpc]
        refine zit 28 ?_ rfl (by kernel_rfl) (fun _ _ _ h => h) (by rfl) (by assumption) ?_ ?_
        rotate_left
        · intro y hSw
          obtain ⟨z0, z1⟩ := hSw
          go_simp
          try with_reducible rfl
        try simp only [Act.put, zpa, zpb, zpc]
        refine zit 29 ?_ rfl (by kernel_rfl) (fun _ _ _ h => h) (by rfl) (by assumption) ?_ ?_
        rotate_left
        · intro y hSw
          obtain ⟨z0, z1⟩ := hSw
          go_simp
          try with_reducible rfl
        try simp only [Act.put, zpa, zpb, zpc]
        refine zit 30 ?_ rfl (by kernel_rfl) (fun _ _ _ h => h) (by rfl) (by assumption) ?_ ?_
        rotate_left
        · intro y hSw
          obtain ⟨z0, z1⟩ := hSw
          go_simp
          try with_reducible rfl
        try simp only [Act.put, zpa, zpb, zpc]
        refine zib 26 rfl (by kernel_rfl) (fun K hK => ?_)
        have cc := (htm ▸ two_lp T2.out hb2.out.size (fun F D => (dsteps_any D).mono fun q x h => ⟨h.1, h.2 ▸ Below.refl _ _⟩) : Calls Try.prog 15 #[.pointer (some ⟨cb, 0, none⟩)] _ fun q x => q = .returned (.int .i64 tm) ∧ Two w.heap.size (fun _ => False) x cb rb t t ∧ Keep w.heap.size (fun _ => False) _ x)
        go_simp
        refine cc.mono ?_
        rintro q y6 ⟨rfl, T3, K3⟩
        replace T2 := hide T3
        replace hb2 := hide (hb2.out.trans K3.b)
        have hR3 := T3.rcells
        rw [← htd, ← htm] at hR3
        clear K3 cc T3
        go_wp2_with fail
        refine hK.out _ _ (hR3) (fun hHeld => ?_)
        clear hK K
        try simp only [Act.put, zpa, zpb, zpc]
        refine zit 31 ?_ rfl (by kernel_rfl) (fun _ _ _ h => h) (by rfl) (by assumption) ?_ ?_
        rotate_left
        · intro y hSw
          obtain ⟨z0, z1⟩ := hSw
          go_simp
          try with_reducible rfl
        try simp only [Act.put, zpa, zpb, zpc]
        refine zit 32 ?_ rfl (by kernel_rfl) (fun _ _ _ h => h) (by rfl) (by assumption) ?_ ?_
        rotate_left
        · intro y hSw
          obtain ⟨z0, z1⟩ := hSw
          go_simp
          try with_reducible rfl
        try simp only [Act.put, zpa, zpb, zpc]
        refine zid (by kernel_rfl) ?_ _
        clear hHeld
        go_wp2
        go_roundw
        case rel => exact ⟨k + 1, cb, t, _, by omega, by omega, by go_num, rfl, rfl, T2, hb2, by omega, by omega⟩
        case measure => simp [intOf]; omega
    · by_cases hk2 : k < n
      · have hk3 : ¬ k < 150 := fun h3 => h ⟨hk2, h3⟩
        have d150 : decide ((k : Int) < 150) = false := by simp; omega
        clear h
        go_wp2_with fail
        refine (hfix.out _).mono ?_
        rintro q y2 ⟨rfl, h2⟩
        go_wp2
        go_ret
        exact ⟨rfl, onto hb.out (Nat.le_refl _) h2⟩
      · clear h
        go_wp2_with fail
        refine (hfix.out _).mono ?_
        rintro q y2 ⟨rfl, h2⟩
        go_wp2
        go_ret
        exact ⟨rfl, onto hb.out (Nat.le_refl _) h2⟩

end Go.Proofs.Ytkihjlmhidhjcaa
