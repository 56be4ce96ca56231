/- Layer 18: the walk of DiskFlushes. -/
import Derived.Test.YtkihjlmhidhjcaaDkDoes
import Derived.Test.YtkihjlmhidhjcaaDkCalm
import Derived.Deep.CutBlock
namespace Go.Proofs.Ytkihjlmhidhjcaa
open Go.RowKit
set_option linter.unusedVariables false
set_option maxRecDepth 100000
set_option linter.unusedSimpArgs false

set_option maxHeartbeats 8000000 in
set_option maxRecDepth 100000 in
theorem flushes_walk (w : World) (a : Int) (wa : (Lit.int .i64 a).wf = true) (v : Value) (ops : List Dc) (hv : IsDcs w v ops) (c0 : Crs) (hc0 : c0.Ok) :
    Calls Try.prog 6 #[.int .i64 a, v, .agg c0.list.toArray] w fun e w' => e = .returned (.bool true) ∧ Below w.heap.size w w' := by
  obtain ⟨ck, ct, cb'⟩ := c0
  have hck : Hid (Crs.Fits ⟨ck, ct, cb'⟩) := hide hc0.k
  simp only [Crs.list]
  have hfix := fixed_any
  obtain ⟨ad, n, c, rfl, hn, hmx, hx⟩ := hv.open'
  obtain ⟨ns, hns⟩ : ∃ ns, ns = (max 1 (min a 40)).toNat := ⟨_, rfl⟩
  have hns1 : 1 ≤ ns := by omega
  have hns2 : ns ≤ 40 := by omega
  have cl := laid_any a (w.alloc (.cells #[.string ck, .int .i64 ct, .int .i64 cb'] 38))
  rw [← hns] at cl
  have hcalm := newD_calm hns1 (by omega : ns ≤ 4096)
  obtain ⟨s0, hs0⟩ : ∃ s0, s0 = newD ns := ⟨_, rfl⟩
  have hz : s0.m = 0 ∧ s0.L.length = 0 := by rw [hs0]; exact ⟨rfl, rfl⟩
  rw [← hs0] at cl hcalm
  have g0 := grow w (.cells #[.string ck, .int .i64 ct, .int .i64 cb'] 38)
  have BX := Box.new w #[.string ck, .int .i64 ct, .int .i64 cb'] 38
  replace hx := hide hx
  replace hn := hide hn
  replace hfix := hide hfix
  replace hz := hide hz
  replace hcalm := hide hcalm
  replace g0 := hide g0
  replace BX := hide BX
  unfold maxLen at hmx
  clear hv hs0 hns hc0
  go_enter Try.func6, Try.ntmps6
  go_wp2_with fail
  generalize w.alloc (.cells #[.string ck, .int .i64 ct, .int .i64 cb'] 38) = w0 at *
  refine cl.mono ?_
  rintro e w1 ⟨db, rb, rfl, T0, hb0⟩
  have hlen := hcalm.out.len
  have cs : ∀ {y : World} {d : Dk}, Two w0.heap.size (fun _ => False) y db rb d s0 → d.S.length = ns → Calls Try.prog 13 #[.pointer (some ⟨db, 0, none⟩)] y fun q x => q = .returned (.int .i64 (ns : Int)) ∧ x = y := fun {y d} T hl => by
    obtain ⟨F, G, h1, -⟩ := T.ex
    rw [← hl]
    exact dsectors_any h1.1
  have c1 := cs T0 hlen
  replace T0 := hide T0
  replace hb0 := hide hb0
  clear cl cs hlen
  go_wp2_with fail
  refine c1.mono ?_
  rintro e wx ⟨rfl, hwx⟩
  subst hwx
  go_wp2_with fail
  refine c1.mono ?_
  rintro e wx2 ⟨rfl, hwx⟩
  subst hwx
  clear c1
  go_upto_block 0 with fail
  go_cut [10] from 11 (fun i y => ∃ (d : Dk) (iv : Value), i = iv ∧ Hid (Two w0.heap.size (fun _ => False) y db rb d s0) ∧ Hid (Below w0.heap.size w0 y) ∧ Hid (Calm d ns) ∧ d.m ≤ 100 ∧ d.L.length ≤ 100)
  case first =>
    go_wp2_with fail
    go_loopw [10] (fun i wr => ∃ (k : Nat) (d : Dk), k ≤ n ∧ k ≤ 100 ∧ i = .int .i64 (k : Int) ∧ Hid (Two w0.heap.size (fun _ => False) wr db rb d s0) ∧ Hid (Below w0.heap.size w0 wr) ∧ Hid (Calm d ns) ∧ d.m ≤ k ∧ d.L.length ≤ k) (fun i _ => n - (intOf i).toNat)
    case atStart => exact ⟨0, s0, Nat.zero_le _, Nat.zero_le _, rfl, T0, hb0, hcalm, by rw [hz.out.1]; omega, by rw [hz.out.2]; omega⟩
    case round =>
      clear T0 hb0 hcalm
      obtain ⟨k, d, hk, hk1, rfl, T, hb, hc, hm, hL⟩ := hrel
      by_cases h : k < n ∧ k < 100
      · obtain ⟨hk2, hk3⟩ := h
        obtain ⟨o, ho⟩ : ∃ o, ops[k]? = some o := ⟨ops[k]'(by have := hn.out; omega), List.getElem?_eq_getElem _⟩
        obtain ⟨hw, b, off, rfl, hbl, hat⟩ := hx.out k o ho
        obtain ⟨q0, q1, q2, q3, q4, q5, q6⟩ := (hat.keep ((hb.out.block b (Nat.lt_of_lt_of_le hbl g0.out.size)).trans (g0.out.block b hbl))).seven
        clear hat ho
        obtain ⟨K, N, F, M, ⟨dk, dt, db'⟩⟩ := o
        obtain ⟨-, ⟨n0, n1⟩, ⟨f0, f1⟩, -, -⟩ := hw
        simp only at q0 q1 q2 q3 q4 q5 q6 n0 n1 f0 f1
        obtain ⟨v, rfl⟩ : ∃ v : Nat, F = (v : Int) := ⟨F.toNat, by omega⟩
        have d100 : decide ((k : Int) < 100) = true := by simp; omega
        have gO := grow wr (.cells #[.int .i64 K, .int .i64 N, .int .u8 (v : Int), .int .i64 M, .string dk, .int .i64 dt, .int .i64 db'] 40)
        have BO := Box.new wr #[.int .i64 K, .int .i64 N, .int .u8 (v : Int), .int .i64 M, .string dk, .int .i64 dt, .int .i64 db'] 40
        have T1 := hide (T.out.made (.cells #[.int .i64 K, .int .i64 N, .int .u8 (v : Int), .int .i64 M, .string dk, .int .i64 dt, .int .i64 db'] 40))
        have hb1 := hide (onto hb.out (Nat.le_refl _) gO)
        replace BO := hide BO
        clear gO T
        by_cases e2 : K = 2
        · subst e2
          obtain ⟨e1, -, hc2⟩ := hc.out.flush
          obtain ⟨hm2, hL2⟩ := flush_small d
          have cf := two_p T1.out hb1.out.size (fun F D => dflush_any D (by omega))
          rw [e1] at cf
          obtain ⟨t, ht⟩ : ∃ t, t = d.flush := ⟨_, rfl⟩
          rw [← ht] at cf hc2 hm2 hL2
          replace hc2 := hide hc2
          clear ht e1 T1
          go_wp2_with fail
          generalize wr.alloc (.cells #[.int .i64 2, .int .i64 N, .int .u8 (v : Int), .int .i64 M, .string dk, .int .i64 dt, .int .i64 db'] 40) = w2 at *
          refine cf.mono ?_
          rintro q w3 ⟨rfl, T2, K2⟩
          replace T2 := hide (T2.less (Y := fun _ => False) (fun _ h => h.elim))
          replace hb1 := hide (hb1.out.trans K2.b)
          clear cf K2 BO hb hc
          go_wp2
          go_roundw
          case rel => exact ⟨k + 1, t, by omega, by omega, by go_num, T2, hb1, hc2, by omega, by omega⟩
          case measure => simp [intOf]; omega
        · obtain ⟨j, hj, hjm⟩ := mod_at N ns hns1
          have csec := fun w => sector_any v 0 (by omega) w
          have h64 := secT_64 v
          obtain ⟨sx, hsx⟩ : ∃ sx, sx = secT v 0 := ⟨_, rfl⟩
          rw [← hsx] at csec h64
          obtain ⟨e1, -, hc2⟩ := hc.out.write hj h64
          have e3 := hc.out.wrote_told hj h64
          have e4 := hc2.at0 hj
          obtain ⟨hm2, hL2⟩ := wrote_small d (j : Int) sx
          have cw : ∀ {y : World}, Two w0.heap.size (fun k => k = wr.heap.size) y db rb d s0 → w0.heap.size ≤ y.heap.size → _ := fun {y} T hB => two_p T hB (fun F D => dwrite_any D (by omega) (by omega) (j : Int) sx)
          obtain ⟨t, ht⟩ : ∃ t, t = d.wrote (j : Int) sx := ⟨_, rfl⟩
          simp only [e1, ← ht] at cw
          rw [← ht] at hc2 hm2 hL2 e3 e4
          replace hc2 := hide hc2
          clear ht e1 hsx
          have hns0 : (ns : Int) ≠ 0 := by omega
          go_wp2_with fail
          generalize wr.alloc (.cells #[.int .i64 K, .int .i64 N, .int .u8 (v : Int), .int .i64 M, .string dk, .int .i64 dt, .int .i64 db'] 40) = w2 at *
          refine (csec _).mono ?_
          rintro q w3 ⟨rfl, h3⟩
          replace T1 := hide (T1.out.on h3)
          replace hb1 := hide (onto hb1.out (Nat.le_refl _) h3)
          replace BO := hide (BO.out.on h3)
          have cc := cw T1.out hb1.out.size
          clear T1 h3 cw
          go_wp2_with fail
          refine cc.mono ?_
          rintro q w4 ⟨rfl, T1, K1⟩
          replace BO := hide (BO.out.of_heap (K1.x _ rfl BO.out.2.2))
          replace hb1 := hide (hb1.out.trans K1.b)
          have cr := two_lp T1 hb1.out.size (fun F D => dread_any D (j : Int))
          rw [e3, e4] at cr
          clear T1 K1 cc
          go_wp2_with fail
          refine cr.mono ?_
          rintro q w5 ⟨rfl, T1, K1⟩
          replace BO := hide (BO.out.of_heap (K1.x _ rfl BO.out.2.2))
          replace hb1 := hide (hb1.out.trans K1.b)
          have b2 : w5.cell? ⟨wr.heap.size, 2, none⟩ = some (.int .u8 (v : Int)) := BO.out.cell 2
          replace T1 := hide T1
          clear K1 cr
          go_wp2_with fail
          refine (csec _).mono ?_
          rintro q w6 ⟨rfl, h6⟩
          have T2 := hide ((T1.out.on h6).less (Y := fun _ => False) (fun _ h => h.elim))
          replace hb1 := hide (onto hb1.out (Nat.le_refl _) h6)
          clear T1 BO h6 hb hc
          go_wp2
          go_roundw
          case rel => exact ⟨k + 1, t, by omega, by omega, by go_num, T2, hb1, hc2, by omega, by omega⟩
          case measure => simp [intOf]; omega
      · have fin : Hid (∃ d' : Dk, Hid (Two w0.heap.size (fun _ => False) wr db rb d' s0) ∧ Hid (Below w0.heap.size w0 wr) ∧ Hid (Calm d' ns) ∧ d'.m ≤ 100 ∧ d'.L.length ≤ 100) := hide ⟨d, T, hb, hc, by omega, by omega⟩
        by_cases hk2 : k < n
        · have hk3 : ¬ k < 100 := fun h3 => h ⟨hk2, h3⟩
          have d100 : decide ((k : Int) < 100) = false := by simp; omega
          clear h T hb hc
          go_wp2
          go_meet
          case rel => obtain ⟨d', h1, h2, h3, h4, h5⟩ := fin.out; exact ⟨d', _, rfl, h1, h2, h3, h4, h5⟩
        · clear h T hb hc
          go_wp2
          go_meet
          case rel => obtain ⟨d', h1, h2, h3, h4, h5⟩ := fin.out; exact ⟨d', _, rfl, h1, h2, h3, h4, h5⟩
  case rest =>
    obtain ⟨d, iv, hiv, T, hb, hc, hm, hL⟩ := hcut
    replace hiv := hiv.symm
    subst hiv
    clear T0 hb0 hcalm
    obtain ⟨e1, e2, hc2⟩ := hc.out.flush
    obtain ⟨R, hR⟩ : ∃ R, R = flushK d.L d.S d.L.length := ⟨_, rfl⟩
    have hRl : Hid (R.length = ns) := hide (by
      have := hc2.len
      rw [e2] at this
      rw [hR]
      exact this)
    have htold : Hid (∀ k, k < ns → d.told (k : Int) = R.getD k T0) := hide (fun k hk => by rw [hc.out.told hk, hR])
    have hcat : Hid (∀ k x, R[k]? = some x → catT (R.take (k + 1)) = catT (R.take k) ++ x) := hide (fun k x hx => by
      rw [List.take_add_one, hx, catT_app]
      simp [catT])
    have hRt : Hid (R.take ns = R) := hide (List.take_of_length_le (by rw [hRl.out]; omega))
    obtain ⟨t, ht⟩ : ∃ t, t = d.flush := ⟨_, rfl⟩
    have htS : Hid (t.S = R ∧ t.L = []) := hide (by rw [ht, e2, hR]; exact ⟨rfl, rfl⟩)
    have hR64 : Hid (∀ s ∈ R, s.size = 64) := hide (by rw [← htS.out.1, ht]; exact hc2.g.s64)
    have cf : ∀ (y : World), Two w0.heap.size (fun _ => False) y db rb d s0 → w0.heap.size ≤ y.heap.size → _ := fun y T hB => two_p T hB (fun F D => dflush_any D (by omega))
    simp only [e1, ← ht] at cf
    rw [← ht] at hc2
    replace hc2 := hide hc2
    replace cf := hide cf
    clear ht e1 e2 hR
    go_wp2_with fail
    go_loopw [15, 16] (fun s i y => ∃ k : Nat, k ≤ ns ∧ i = .int .i64 (k : Int) ∧ s = .string (catT (R.take k)) ∧ Hid (Two w0.heap.size (fun _ => False) y db rb d s0) ∧ Hid (Below w0.heap.size w0 y)) (fun _ i _ => ns - (intOf i).toNat)
    case atStart => exact ⟨0, Nat.zero_le _, rfl, rfl, T, hb⟩
    case round =>
      clear T hb
      obtain ⟨k, hk, rfl, rfl, T, hb⟩ := hrel
      by_cases h : k < ns
      · obtain ⟨x, hx⟩ : ∃ x, R[k]? = some x := ⟨R[k]'(by have := hRl.out; omega), List.getElem?_eq_getElem _⟩
        have cr := two_lp T.out hb.out.size (fun F D => dread_any D (k : Int))
        rw [htold.out k h, getD_some hx, hc.out.at0 h] at cr
        have hn := hide (hcat.out k x hx)
        obtain ⟨A, hA⟩ : ∃ A, A = catT (R.take k) := ⟨_, rfl⟩
        have hsum : ¬ 9223372036854775807 < A.size + x.size := by
          rw [hA, catT_size (fun s hs => hR64.out s (List.mem_of_mem_take hs)), hR64.out x (List.mem_of_getElem? hx), List.length_take]
          omega
        rw [← hA] at hn ⊢
        clear hx hA
        go_wp2_with fail
        refine cr.mono ?_
        rintro q y2 ⟨rfl, T1, K1⟩
        replace T1 := hide T1
        replace hb := hide (hb.out.trans K1.b)
        clear cr T K1
        go_wp2
        go_roundw
        case rel => exact ⟨k + 1, by omega, by go_num, by rw [hn.out], T1, hb⟩
        case measure => simp [intOf]; omega
      · obtain rfl : k = ns := by omega
        rw [hRt.out]
        have cc := cf.out _ T.out hb.out.size
        clear h
        go_wp2_with fail
        refine cc.mono ?_
        rintro q y2 ⟨rfl, T1, K1⟩
        replace hb := hide (hb.out.trans K1.b)
        have ci := two_lp T1 hb.out.size (fun F D => dimage_any D)
        rw [htS.out.1] at ci
        clear cc T K1
        obtain ⟨A, hA⟩ : ∃ A, A = catT R := ⟨_, rfl⟩
        rw [← hA] at ci ⊢
        go_wp2_with fail
        refine ci.mono ?_
        rintro q y3 ⟨rfl, T2, K2⟩
        replace hb := hide (hb.out.trans K2.b)
        have bx := BX.out.on hb.out
        have b0 : y3.cell? ⟨w.heap.size, 0, none⟩ = some (.string ck) := bx.cell 0
        have b1 : y3.cell? ⟨w.heap.size, 1, none⟩ = some (.int .i64 ct) := bx.cell 1
        have b2 : y3.cell? ⟨w.heap.size, 2, none⟩ = some (.int .i64 cb') := bx.cell 2
        have cc := two_p T2 hb.out.size (fun F D => dcrash_any D ⟨ck, ct, cb'⟩ hck.out)
        obtain ⟨e1, e2, -⟩ := hc2.out.crash ⟨ck, ct, cb'⟩
        rw [e1, e2] at cc
        have hS3 := crash_empty htS.out.2 ⟨ck, ct, cb'⟩
        obtain ⟨u, hu⟩ : ∃ u, u = t.crashed ⟨ck, ct, cb'⟩ := ⟨_, rfl⟩
        rw [← hu] at cc hS3
        have hS4 : Hid (u.revived.S = R ∧ u.revived.dead = false) := hide ⟨hS3.trans htS.out.1, rfl⟩
        clear ci T1 K2 T2 bx e1 e2 hu hS3
        go_wp2_with fail
        refine cc.mono ?_
        rintro q y4 ⟨rfl, T3, K3⟩
        replace hb := hide (hb.out.trans K3.b)
        have cv := two_p T3 hb.out.size (fun F D => drevive_any D)
        clear cc T3 K3 b0 b1 b2
        go_wp2_with fail
        refine cv.mono ?_
        rintro q y5 ⟨rfl, T4, K4⟩
        replace hb := hide (hb.out.trans K4.b)
        have ci := two_lp T4 hb.out.size (fun F D => dimage_any D)
        rw [hS4.out.1, ← hA] at ci
        clear cv T4 K4
        go_wp2_with fail
        refine ci.mono ?_
        rintro q y6 ⟨rfl, T5, K5⟩
        replace hb := hide (hb.out.trans K5.b)
        have cd := two_lp T5 hb.out.size (fun F D => (ddead_any D).mono fun q x h => ⟨h.1, h.2 ▸ Below.refl _ _⟩)
        rw [hS4.out.2] at cd
        clear ci T5 K5
        go_wp2_with fail
        refine cd.mono ?_
        rintro q y7 ⟨rfl, T6, K6⟩
        replace hb := hide (hb.out.trans K6.b)
        clear cd T6 K6
        go_wp2_with fail
        refine (hfix.out _).mono ?_
        rintro q y8 ⟨rfl, h8⟩
        have fin := hide (onto g0.out (Nat.le_refl _) ((hb.out.mono (Nat.le_refl _))))
        have fin2 := hide (onto fin.out (Nat.le_refl _) h8)
        go_wp2
        go_ret
        exact ⟨rfl, fin2.out⟩

end Go.Proofs.Ytkihjlmhidhjcaa
