/- Layer 18: the walk of DiskAll. -/
import Derived.Test.YtkihjlmhidhjcaaDkDoes
import Derived.Test.YtkihjlmhidhjcaaDkCalm
import Derived.Deep.CutBlock
namespace Go.Proofs.Ytkihjlmhidhjcaa
open Go.RowKit
set_option linter.unusedVariables false
set_option maxRecDepth 100000
set_option linter.unusedSimpArgs false

set_option maxHeartbeats 8000000 in
set_option maxRecDepth 100000 in
theorem all_walk (w : World) (a : Int) (wa : (Lit.int .i64 a).wf = true) (v : Value) (ops : List Dc) (hv : IsDcs w v ops) :
    Calls Try.prog 7 #[.int .i64 a, v] w fun e w' => e = .returned (.bool true) ∧ Below w.heap.size w w' := by
  have hfix := fixed_any
  obtain ⟨ad, n, c, rfl, hn, hmx, hx⟩ := hv.open'
  obtain ⟨ns, hns⟩ : ∃ ns, ns = (max 1 (min a 40)).toNat := ⟨_, rfl⟩
  have hns1 : 1 ≤ ns := by omega
  have hns2 : ns ≤ 40 := by omega
  have cl := laid_any a w
  rw [← hns] at cl
  have hcalm := newD_calm hns1 (by omega : ns ≤ 4096)
  obtain ⟨s0, hs0⟩ : ∃ s0, s0 = newD ns := ⟨_, rfl⟩
  have hz : s0.m = 0 ∧ s0.L.length = 0 := by rw [hs0]; exact ⟨rfl, rfl⟩
  rw [← hs0] at cl hcalm
  replace hx := hide hx
  replace hn := hide hn
  replace hfix := hide hfix
  replace hz := hide hz
  replace hcalm := hide hcalm
  unfold maxLen at hmx
  clear hv hs0 hns
  go_enter Try.func7, Try.ntmps7
  go_wp2_with fail
  refine cl.mono ?_
  rintro e w1 ⟨db, rb, rfl, T0, hb0⟩
  have hlen := hcalm.out.len
  have cs : ∀ {y : World} {d : Dk}, Two w.heap.size (fun _ => False) y db rb d s0 → d.S.length = ns → Calls Try.prog 13 #[.pointer (some ⟨db, 0, none⟩)] y fun q x => q = .returned (.int .i64 (ns : Int)) ∧ x = y := fun {y d} T hl => by
    obtain ⟨F, G, h1, -⟩ := T.ex
    rw [← hl]
    exact dsectors_any h1.1
  have c1 := cs T0 hlen
  replace T0 := hide T0
  replace hb0 := hide hb0
  clear cl cs hlen
  go_wp2_with fail
  refine c1.mono ?_
  rintro e wx ⟨rfl, hwx⟩
  subst hwx
  go_wp2_with fail
  refine c1.mono ?_
  rintro e wx2 ⟨rfl, hwx⟩
  subst hwx
  clear c1
  go_upto_block 0 with fail
  go_cut [8] from 9 (fun i y => ∃ (d : Dk) (iv : Value), i = iv ∧ Hid (Two w.heap.size (fun _ => False) y db rb d s0) ∧ Hid (Below w.heap.size w y) ∧ Hid (Calm d ns) ∧ d.m ≤ 60 ∧ d.L.length ≤ 60)
  case first =>
    go_wp2_with fail
    go_loopw [8] (fun i wr => ∃ (k : Nat) (d : Dk), k ≤ n ∧ k ≤ 60 ∧ i = .int .i64 (k : Int) ∧ Hid (Two w.heap.size (fun _ => False) wr db rb d s0) ∧ Hid (Below w.heap.size w wr) ∧ Hid (Calm d ns) ∧ d.m ≤ k ∧ d.L.length ≤ k) (fun i _ => n - (intOf i).toNat)
    case atStart => exact ⟨0, s0, Nat.zero_le _, Nat.zero_le _, rfl, T0, hb0, hcalm, by rw [hz.out.1]; omega, by rw [hz.out.2]; omega⟩
    case round =>
      clear T0 hb0 hcalm
      obtain ⟨k, d, hk, hk1, rfl, T, hb, hc, hm, hL⟩ := hrel
      by_cases h : k < n ∧ k < 60
      · obtain ⟨hk2, hk3⟩ := h
        obtain ⟨o, ho⟩ : ∃ o, ops[k]? = some o := ⟨ops[k]'(by have := hn.out; omega), List.getElem?_eq_getElem _⟩
        obtain ⟨hw, b, off, rfl, hbl, hat⟩ := hx.out k o ho
        obtain ⟨q0, q1, q2, -, -, -, -⟩ := (hat.keep (hb.out.block b hbl)).seven
        clear hat ho
        obtain ⟨K, N, F, M, ⟨dk, dt, db'⟩⟩ := o
        obtain ⟨-, ⟨n0, n1⟩, ⟨f0, f1⟩, -, -⟩ := hw
        simp only at q0 q1 q2 n0 n1 f0 f1
        obtain ⟨v, rfl⟩ : ∃ v : Nat, F = (v : Int) := ⟨F.toNat, by omega⟩
        have d60 : decide ((k : Int) < 60) = true := by simp; omega
        by_cases e2 : K = 2
        · subst e2
          obtain ⟨e1, -, hc2⟩ := hc.out.flush
          obtain ⟨hm2, hL2⟩ := flush_small d
          have cf := two_p T.out hb.out.size (fun F D => dflush_any D (by omega))
          rw [e1] at cf
          obtain ⟨t, ht⟩ : ∃ t, t = d.flush := ⟨_, rfl⟩
          rw [← ht] at cf hc2 hm2 hL2
          replace hc2 := hide hc2
          clear ht e1 T
          go_wp2_with fail
          refine cf.mono ?_
          rintro q w3 ⟨rfl, T2, K2⟩
          replace T2 := hide T2
          replace hb := hide (hb.out.trans K2.b)
          clear cf K2 hc
          go_wp2
          go_roundw
          case rel => exact ⟨k + 1, t, by omega, by omega, by go_num, T2, hb, hc2, by omega, by omega⟩
          case measure => simp [intOf]; omega
        · obtain ⟨j, hj, hjm⟩ := mod_at N ns hns1
          have csec := fun w => sector_any v 0 (by omega) w
          have h64 := secT_64 v
          obtain ⟨sx, hsx⟩ : ∃ sx, sx = secT v 0 := ⟨_, rfl⟩
          rw [← hsx] at csec h64
          obtain ⟨e1, -, hc2⟩ := hc.out.write hj h64
          obtain ⟨hm2, hL2⟩ := wrote_small d (j : Int) sx
          have cw : ∀ y : World, Two w.heap.size (fun _ => False) y db rb d s0 → w.heap.size ≤ y.heap.size → _ := fun y T hB => two_p T hB (fun F D => dwrite_any D (by omega) (by omega) (j : Int) sx)
          obtain ⟨t, ht⟩ : ∃ t, t = d.wrote (j : Int) sx := ⟨_, rfl⟩
          simp only [e1, ← ht] at cw
          rw [← ht] at hc2 hm2 hL2
          replace hc2 := hide hc2
          have hns0 : (ns : Int) ≠ 0 := by omega
          have hns00 : ¬ ns = 0 := by omega
          have hS0 := hide (And.intro q1 q2)
          clear ht e1 hsx
          go_wp2_with fail
          refine zir [] (fun y => y.cell? ⟨b, off + k * 7 + 1, none⟩ = some (.int .i64 N) ∧ y.cell? ⟨b, off + k * 7 + 2, none⟩ = some (.int .u8 (v : Int))) (by kernel_rfl) hS0.out (fun hHeld => ?_)
          replace T := hide (T.out.on (Below.refl wr.heap.size wr).drew)
          replace hb := hide hb.out.drew
          clear hS0 q0 q1 q2
          generalize wr.drew = x1 at *
          refine zit 0 ?_ rfl (by kernel_rfl) (fun _ _ _ h => h) (by rfl) (by assumption) ?_ ?_
          rotate_left
          · intro y hSw
            obtain ⟨z1, z2⟩ := hSw
            go_simp
            try with_reducible rfl
          try simp only [Act.put, zpa, zpb, zpc]
          refine zit 1 ?_ rfl (by kernel_rfl) (fun _ _ _ h => h) (by rfl) (by assumption) ?_ ?_
          rotate_left
          · intro y hSw
            obtain ⟨z1, z2⟩ := hSw
            go_simp
            try with_reducible rfl
          try simp only [Act.put, zpa, zpb, zpc]
          refine zit 2 ?_ rfl (by kernel_rfl) (fun _ _ _ h => h) (by rfl) (by assumption) ?_ ?_
          rotate_left
          · intro y hSw
            obtain ⟨z1, z2⟩ := hSw
            go_simp
            try with_reducible rfl
          try simp only [Act.put, zpa, zpb, zpc]
          refine zit 3 ?_ rfl (by kernel_rfl) (fun _ _ _ h => h) (by rfl) (by assumption) ?_ ?_
          rotate_left
          · intro y hSw
            obtain ⟨z1, z2⟩ := hSw
            go_simp
            try with_reducible rfl
          try simp only [Act.put, zpa, zpb, zpc]
          refine zit 4 ?_ rfl (by kernel_rfl) (fun _ _ _ h => h) (by rfl) (by assumption) ?_ ?_
          rotate_left
          · intro y hSw
            obtain ⟨z1, z2⟩ := hSw
            go_simp
            try with_reducible rfl
          try simp only [Act.put, zpa, zpb, zpc]
          refine zit 5 ?_ rfl (by kernel_rfl) (fun _ _ _ h => h) (by rfl) (by assumption) ?_ ?_
          rotate_left
          · intro y hSw
            obtain ⟨z1, z2⟩ := hSw
            go_simp
            try with_reducible rfl
          try simp only [Act.put, zpa, zpb, zpc]
          refine zit 6 ?_ rfl (by kernel_rfl) (fun _ _ _ h => h) (by rfl) (by assumption) ?_ ?_
          rotate_left
          · intro y hSw
            obtain ⟨z1, z2⟩ := hSw
            go_simp
            try with_reducible rfl
          try simp only [Act.put, zpa, zpb, zpc]
          refine zit 7 ?_ rfl (by kernel_rfl) (fun _ _ _ h => h) (by rfl) (by assumption) ?_ ?_
          rotate_left
          · intro y hSw
            obtain ⟨z1, z2⟩ := hSw
            go_simp
            try with_reducible rfl
          try simp only [Act.put, zpa, zpb, zpc]
          refine zit 8 ?_ rfl (by kernel_rfl) (fun _ _ _ h => h) (by rfl) (by assumption) ?_ ?_
          rotate_left
          · intro y hSw
            obtain ⟨z1, z2⟩ := hSw
            go_simp
            try with_reducible rfl
          try simp only [Act.put, zpa, zpb, zpc]
          refine zit 9 ?_ rfl (by kernel_rfl) (fun _ _ _ h => h) (by rfl) (by assumption) ?_ ?_
          rotate_left
          · intro y hSw
            obtain ⟨z1, z2⟩ := hSw
            go_simp
            try with_reducible rfl
          try simp only [Act.put, zpa, zpb, zpc]
          refine zit 10 ?_ rfl (by kernel_rfl) (fun _ _ _ h => h) (by rfl) (by assumption) ?_ ?_
          rotate_left
          · intro y hSw
            obtain ⟨z1, z2⟩ := hSw
            go_simp
            try with_reducible rfl
          try simp only [Act.put, zpa, zpb, zpc]
          refine zit 11 ?_ rfl (by kernel_rfl) (fun _ _ _ h => h) (by rfl) (by assumption) ?_ ?_
          rotate_left
          · intro y hSw
            obtain ⟨z1, z2⟩ := hSw
            go_simp
            try with_reducible rfl
          try simp only [Act.put, zpa, zpb, zpc]
          refine zit 12 ?_ rfl (by kernel_rfl) (fun _ _ _ h => h) (by rfl) (by assumption) ?_ ?_
          rotate_left
          · intro y hSw
            obtain ⟨z1, z2⟩ := hSw
            go_simp
            try with_reducible rfl
          try simp only [Act.put, zpa, zpb, zpc]
          refine zit 13 ?_ rfl (by kernel_rfl) (fun _ _ _ h => h) (by rfl) (by assumption) ?_ ?_
          rotate_left
          · intro y hSw
            obtain ⟨z1, z2⟩ := hSw
            go_simp
            try with_reducible rfl
          try simp only [Act.put, zpa, zpb, zpc]
          refine zib 14 rfl (by kernel_rfl) (fun K hK => ?_)
          go_simp
          refine (csec _).mono ?_
          rintro q x2 ⟨rfl, h2⟩
          replace T := hide (T.out.on h2)
          have hH : x2.cell? ⟨b, off + k * 7 + 1, none⟩ = some (.int .i64 N) ∧ x2.cell? ⟨b, off + k * 7 + 2, none⟩ = some (.int .u8 (v : Int)) :=
            ⟨(World.cell?_of_block (a := ⟨b, off + k * 7 + 1, none⟩) (h2.block b (Nat.lt_of_lt_of_le hbl hb.out.size))).trans hHeld.1, (World.cell?_of_block (a := ⟨b, off + k * 7 + 2, none⟩) (h2.block b (Nat.lt_of_lt_of_le hbl hb.out.size))).trans hHeld.2⟩
          replace hb := hide (onto hb.out (Nat.le_refl _) h2)
          clear h2
          go_wp2_with fail
          refine hK.out _ _ (hH) (fun hHeld => ?_)
          clear hK K
          try simp only [Act.put, zpa, zpb, zpc]
          clear hH
          refine zib 15 rfl (by kernel_rfl) (fun K hK => ?_)
          have cc := cw _ T.out hb.out.size
          go_simp
          refine cc.mono ?_
          rintro q x3 ⟨rfl, T2, K2⟩
          have hH : x3.cell? ⟨b, off + k * 7 + 1, none⟩ = some (.int .i64 N) ∧ x3.cell? ⟨b, off + k * 7 + 2, none⟩ = some (.int .u8 (v : Int)) :=
            ⟨(World.cell?_of_block (a := ⟨b, off + k * 7 + 1, none⟩) (K2.b.block b hbl)).trans hHeld.1, (World.cell?_of_block (a := ⟨b, off + k * 7 + 2, none⟩) (K2.b.block b hbl)).trans hHeld.2⟩
          replace T2 := hide T2
          replace hb := hide (hb.out.trans K2.b)
          clear cc K2 T cw hc
          go_wp2_with fail
          refine hK.out _ _ (hH) (fun hHeld => ?_)
          clear hK K
          try simp only [Act.put, zpa, zpb, zpc]
          clear hH
          refine zit 16 ?_ rfl (by kernel_rfl) (fun _ _ _ h => h) (by rfl) (by assumption) ?_ ?_
          rotate_left
          · intro y hSw
            skip
            go_simp
            try with_reducible rfl
          try simp only [Act.put, zpa, zpb, zpc]
          refine zid (by kernel_rfl) ?_ _
          clear hHeld
          go_wp2
          go_roundw
          case rel => exact ⟨k + 1, t, by omega, by omega, by go_num, T2, hb, hc2, by omega, by omega⟩
          case measure => simp [intOf]; omega
      · have fin : Hid (∃ d' : Dk, Hid (Two w.heap.size (fun _ => False) wr db rb d' s0) ∧ Hid (Below w.heap.size w wr) ∧ Hid (Calm d' ns) ∧ d'.m ≤ 60 ∧ d'.L.length ≤ 60) := hide ⟨d, T, hb, hc, by omega, by omega⟩
        by_cases hk2 : k < n
        · have hk3 : ¬ k < 60 := fun h3 => h ⟨hk2, h3⟩
          have d60 : decide ((k : Int) < 60) = false := by simp; omega
          clear h T hb hc
          go_wp2
          go_meet
          case rel => obtain ⟨d', h1, h2, h3, h4, h5⟩ := fin.out; exact ⟨d', _, rfl, h1, h2, h3, h4, h5⟩
        · clear h T hb hc
          go_wp2
          go_meet
          case rel => obtain ⟨d', h1, h2, h3, h4, h5⟩ := fin.out; exact ⟨d', _, rfl, h1, h2, h3, h4, h5⟩
  case rest =>
    obtain ⟨d, iv, hiv, T, hb, hc, hm, hL⟩ := hcut
    replace hiv := hiv.symm
    subst hiv
    clear T0 hb0 hcalm
    obtain ⟨e1, e2, hc2⟩ := hc.out.flush
    obtain ⟨ea1, ea2, -⟩ := hc.out.crash ⟨textOf 8 fun _ => 255, -1, 0⟩
    obtain ⟨eb1, eb2, -⟩ := hc.out.crash ⟨⟨#[]⟩, -1, 0⟩
    have sa : (d.crashed ⟨textOf 8 fun _ => 255, -1, 0⟩).S = d.flush.S := by
      rw [e2]
      exact crash_all (c := ⟨textOf 8 fun _ => 255, -1, 0⟩) (by decide) d.L.length (fun i hi => all255 i (by omega))
    have sb : (d.crashed ⟨⟨#[]⟩, -1, 0⟩).S = d.S := crash_none (c := ⟨⟨#[]⟩, -1, 0⟩) (by decide) rfl d.L.length
    have ci := two_lp T.out hb.out.size (fun F D => dimage_any D)
    obtain ⟨W, hW⟩ : ∃ W, W = catT d.S := ⟨_, rfl⟩
    obtain ⟨V, hV⟩ : ∃ V, V = catT d.flush.S := ⟨_, rfl⟩
    rw [← hW] at ci
    obtain ⟨KT, hKT⟩ : ∃ KT, Hid (KT = textOf 8 fun _ => 255) := ⟨_, hide rfl⟩
    have hfa : Hid (catT (d.crashed ⟨KT, -1, 0⟩).S = V) := hide (by rw [hKT.out, sa, hV])
    have hfb : Hid (catT (d.crashed ⟨⟨#[]⟩, -1, 0⟩).S = W) := hide (by rw [sb, hW])
    have hfd : Hid (catT d.flush.S = V) := hide hV.symm
    rw [← hKT.out] at ea2
    replace hc2 := hide hc2
    clear sa sb e2 hW hV
    go_wp2_with fail
    refine ci.mono ?_
    rintro q y1 ⟨rfl, T1, K1⟩
    replace hb := hide (hb.out.trans K1.b)
    obtain ⟨Fd, G, D, -⟩ := T1.ex
    clear ci T T1 K1
    have hFd := D.2
    have c1 := one_clone D hb.out.size
    replace D := hide D
    go_wp2_with fail
    refine c1.mono ?_
    rintro q y2 ⟨da, rfl, A, h2⟩
    replace D := hide (D.out.on h2)
    have hb2 := hide (onto hb.out (Nat.le_refl _) h2)
    have c2 := one_clone D.out hb2.out.size
    replace A := hide A
    have z12 := h2.size
    clear c1 h2
    go_wp2_with fail
    refine c2.mono ?_
    rintro q y3 ⟨dc, rfl, C, h3⟩
    replace D := hide (D.out.on h3)
    replace A := hide (A.out.on h3)
    have hb3 := hide (onto hb2.out (Nat.le_refl _) h3)
    have z23 := h3.size
    have hda : Hid (∀ k, Fd k → ¬ (y1.heap.size ≤ k ∧ k < y2.heap.size)) := hide (fun k hk h => by have := (hFd k hk).2; omega)
    have hdc : Hid (∀ k, Fd k → ¬ (y2.heap.size ≤ k ∧ k < y3.heap.size)) := hide (fun k hk h => by have := (hFd k hk).2; omega)
    have hac : Hid (∀ k, (y1.heap.size ≤ k ∧ k < y2.heap.size) → ¬ (y2.heap.size ≤ k ∧ k < y3.heap.size)) := hide (fun k hk h => by omega)
    obtain ⟨Fa, hFa⟩ : ∃ Fa, Fa = fun k => y1.heap.size ≤ k ∧ k < y2.heap.size := ⟨_, rfl⟩
    obtain ⟨Fc, hFc⟩ : ∃ Fc, Fc = fun k => y2.heap.size ≤ k ∧ k < y3.heap.size := ⟨_, rfl⟩
    have A' : Hid (POwn w.heap.size Fa y3 da d) := hide (by rw [hFa]; exact A.out)
    have C' : Hid (POwn w.heap.size Fc y3 dc d) := hide (by rw [hFc]; exact C)
    have hda' : Hid (∀ k, Fd k → ¬ Fa k) := hide (by rw [hFa]; exact hda.out)
    have hdc' : Hid (∀ k, Fd k → ¬ Fc k) := hide (by rw [hFc]; exact hdc.out)
    have hac' : Hid (∀ k, Fa k → ¬ Fc k) := hide (by rw [hFa, hFc]; exact hac.out)
    clear c2 h3 A C hda hdc hac hFa hFc hFd z12 z23 hb hb2
    obtain ⟨i, hi, hz0, hsz, hbb⟩ := infoB
    have g0 := grow y3 (.cells #[] 5)
    have O0 := hide (World.ownsRow_made y3 (base := y3.heap.size) (e := 5) (size := 1) #[] 0 (Nat.le_refl _) (Nat.zero_le _) rfl)
    replace g0 := hide g0
    go_wp2_with fail
    generalize y3.alloc (.cells #[] 5) = y4 at *
    go_loopw [12, 13] (fun v0 i wr => ∃ (k : Nat) (v : Value), k ≤ 8 ∧ i = .int .i64 (k : Int) ∧ v0 = v ∧ Hid (wr.ownsRow y3.heap.size 5 1 v k (Go.Lib.strCells (textOf k fun _ => 255))) ∧ Hid (Below y3.heap.size y3 wr)) (fun _ i _ => 8 - (intOf i).toNat)
    case atStart => exact ⟨0, _, Nat.zero_le _, rfl, rfl, O0, g0⟩
    case round =>
      clear O0 g0
      obtain ⟨k, v, hk, rfl, hv, O, G⟩ := hrel
      replace hv := hv.symm
      subst hv
      by_cases h : k < 8
      · have g1 := grow wr (.cells #[.int .u8 255] 5)
        have G1 := onto G.out (Nat.le_refl _) g1
        obtain ⟨v', x4, hap, O4, G4, -, -⟩ := run_append_own_at (P := Try.prog) (wr.alloc (.cells #[.int .u8 255] 5)) y3.heap.size 58 58 5 i _ 1 1 Try.underlying58 hi hz0 hsz hbb rfl (by decide) v k _ (O.out.alloc _) ⟨wr.heap.size, 0, none⟩ 1 1 [.int .u8 255] rfl (cell_one_new _ _ _) (by simp [Value.oneCell']) (by unfold maxLen; omega) (by omega) G1.size
        rw [← strCells_255] at O4
        have G5 := hide (G1.grown G4 G1.size (fun j hj => (O.out.lt j hj).1))
        replace O4 := hide O4
        clear G O g1 G1 G4
        go_wp2_with (at_builtin; refine wpList_append_told rfl _ _ 58 58 rfl _ _ v' rfl rfl hap ?_)
        go_roundw
        case rel => exact ⟨k + 1, _, by omega, by go_num, rfl, O4, G5⟩
        case measure => simp [intOf]; omega
      · obtain rfl : k = 8 := by omega
        have cv := conv_own O.out (textOf_size _ _)
        rw [← hKT.out] at cv
        replace D := hide (D.out.on G.out)
        replace A' := hide (A'.out.on G.out)
        replace C' := hide (C'.out.on G.out)
        have hb4 := hide (onto hb3.out (Nat.le_refl _) G.out)
        have c3 := one_p A'.out hb4.out.size (fun P => dcrash_any P ⟨KT, -1, 0⟩ (by unfold Crs.Fits; rw [hKT.out]; show (textOf 8 _).size ≤ _; rw [textOf_size]; decide))
        rw [ea1, ea2] at c3
        clear h O G hb3
        go_wp2_with fail
        refine c3.mono ?_
        rintro q y5 ⟨rfl, A2, T5, h5⟩
        have hac2 := hide (more_apart (B := w.heap.size) (y := wr) (x := y5) hac'.out (fun k hk => (C'.out.2 k hk).2))
        have had2 := hide (more_apart (B := w.heap.size) (y := wr) (x := y5) (fun k hk hf => hda'.out k hf hk) (fun k hk => (D.out.2 k hk).2))
        replace D := hide (D.out.far T5 hda'.out)
        replace C' := hide (C'.out.far T5 (fun k hk hf => hac'.out k hf hk))
        obtain ⟨FA, hFA⟩ : ∃ FA, FA = more Fa wr y5 := ⟨_, rfl⟩
        rw [← hFA] at A2 hac2 had2
        have hb5 := hide (hb4.out.trans h5)
        have c4 := one_p C'.out hb5.out.size (fun P => dcrash_any P ⟨⟨#[]⟩, -1, 0⟩ (Nat.zero_le _))
        rw [eb1, eb2] at c4
        replace A2 := hide A2
        clear c3 T5 h5 A' hFA hb4 cv
        go_wp2_with fail
        refine c4.mono ?_
        rintro q y6 ⟨rfl, C2, T6, h6⟩
        have hcd2 := hide (more_apart (B := w.heap.size) (y := y5) (x := y6) (fun k hk hf => hdc'.out k hf hk) (fun k hk => (D.out.2 k hk).2))
        replace D := hide (D.out.far T6 hdc'.out)
        replace A2 := hide (A2.out.far T6 hac2.out)
        obtain ⟨FC, hFC⟩ : ∃ FC, FC = more Fc y5 y6 := ⟨_, rfl⟩
        rw [← hFC] at C2 hcd2
        have hb6 := hide (hb5.out.trans h6)
        have c5 := one_p D.out hb6.out.size (fun P => dflush_any P (by omega))
        rw [e1] at c5
        replace C2 := hide C2
        clear c4 T6 h6 C' hFC hb5
        go_wp2_with fail
        refine c5.mono ?_
        rintro q y7 ⟨rfl, D2, T7, h7⟩
        replace A2 := hide (A2.out.far T7 had2.out)
        replace C2 := hide (C2.out.far T7 hcd2.out)
        have hb7 := hide (hb6.out.trans h7)
        have c6 := dimage_any A2.out.1
        rw [hfa.out] at c6
        replace D2 := hide D2
        clear c5 T7 h7 hb6 D
        go_wp2_with fail
        refine c6.mono ?_
        rintro q y8 ⟨rfl, h8⟩
        replace C2 := hide (C2.out.on h8)
        replace D2 := hide (D2.out.on h8)
        have hb8 := hide (onto hb7.out (Nat.le_refl _) h8)
        have c7 := dimage_any D2.out.1
        rw [hfd.out] at c7
        clear c6 h8 hb7
        go_wp2_with fail
        refine c7.mono ?_
        rintro q y9 ⟨rfl, h9⟩
        replace C2 := hide (C2.out.on h9)
        have hb9 := hide (onto hb8.out (Nat.le_refl _) h9)
        have c8 := dimage_any C2.out.1
        rw [hfb.out] at c8
        clear c7 h9 hb8
        go_wp2_with fail
        refine c8.mono ?_
        rintro q yA ⟨rfl, hA⟩
        have hbA := hide (onto hb9.out (Nat.le_refl _) hA)
        clear c8 hA hb9
        go_wp2_with fail
        refine (hfix.out _).mono ?_
        rintro q yB ⟨rfl, hB⟩
        have fin := hide (onto hbA.out (Nat.le_refl _) hB)
        go_wp2
        go_ret
        exact ⟨rfl, fin.out⟩

end Go.Proofs.Ytkihjlmhidhjcaa
