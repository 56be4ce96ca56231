/- Layer 18: the walk of DiskCrashes. -/
import Derived.Test.YtkihjlmhidhjcaaDkDoes
import Derived.Test.YtkihjlmhidhjcaaDkTear
import Derived.Deep.CutBlock
namespace Go.Proofs.Ytkihjlmhidhjcaa
open Go.RowKit
set_option linter.unusedVariables false
set_option maxRecDepth 100000
set_option linter.unusedSimpArgs false

set_option maxHeartbeats 8000000 in
set_option maxRecDepth 100000 in
theorem crashes_walk (w : World) (a : Int) (sv lv : Value) (so lo : List Dc) (c0 : Crs) (ia : I64 a) (hsv : IsDcs w sv so) (hlv : IsDcs w lv lo) (hc0 : c0.Ok) :
    Calls Try.prog 5 #[.agg (listT a sv lv c0).toArray] w fun e w' => e = .returned (.bool true) ∧ Below w.heap.size w w' := by
  obtain ⟨ck, ct, cb'⟩ := c0
  have hck : Hid (Crs.Fits ⟨ck, ct, cb'⟩) := hide hc0.k
  simp only [listT]
  have hfix := fixed_any
  obtain ⟨ads, n1, p1, rfl, hn1, hmx1, hx1⟩ := hsv.open'
  obtain ⟨adl, n2, p2, rfl, hn2, hmx2, hx2⟩ := hlv.open'
  obtain ⟨ns, hns⟩ : ∃ ns, ns = (max 1 (min a 40)).toNat := ⟨_, rfl⟩
  have hns1 : 1 ≤ ns := by omega
  have hns2 : ns ≤ 40 := by omega
  have cl := fun w => laid_any a w
  simp only [← hns] at cl
  have hcalm := newD_calm hns1 (by omega : ns ≤ 4096)
  obtain ⟨s0, hs0⟩ : ∃ s0, s0 = newD ns := ⟨_, rfl⟩
  have hz : s0.m = 0 ∧ s0.L.length = 0 := by rw [hs0]; exact ⟨rfl, rfl⟩
  simp only [← hs0] at cl
  rw [← hs0] at hcalm
  have g0 := grow w (.cells #[.int .i64 a, .slice ads n1 p1, .slice adl n2 p2, .string ck, .int .i64 ct, .int .i64 cb'] 53)
  have BO := Box.new w #[.int .i64 a, .slice ads n1 p1, .slice adl n2 p2, .string ck, .int .i64 ct, .int .i64 cb'] 53
  obtain ⟨ct0, ct1⟩ := hc0.t
  replace hx1 := hide hx1
  replace hx2 := hide hx2
  replace hn1 := hide hn1
  replace hn2 := hide hn2
  replace hfix := hide hfix
  replace hz := hide hz
  replace hcalm := hide hcalm
  replace g0 := hide g0
  replace BO := hide BO
  unfold maxLen at hmx1 hmx2
  clear hsv hlv hs0 hns hc0 ia
  go_enter Try.func5, Try.ntmps5
  go_wp2_with fail
  generalize w.alloc (.cells #[.int .i64 a, .slice ads n1 p1, .slice adl n2 p2, .string ck, .int .i64 ct, .int .i64 cb'] 53) = w0 at *
  refine zir [] (fun y => Box y w.heap.size #[.int .i64 a, .slice ads n1 p1, .slice adl n2 p2, .string ck, .int .i64 ct, .int .i64 cb']) (by kernel_rfl) BO.out.drew (fun hHeld => ?_)
  replace g0 := hide g0.out.drew
  have hwx : w.heap.size < w0.drew.heap.size := BO.out.2.2
  clear BO
  generalize w0.drew = x0 at *
  refine zit 0 ?_ rfl (by kernel_rfl) (fun _ _ _ h => h) (by rfl) (by assumption) ?_ ?_
  rotate_left
  · intro y hSw
    have q0 := hSw.cell 0; have q1 := hSw.cell 1; have q2 := hSw.cell 2; have q3 := hSw.cell 3; have q4 := hSw.cell 4; have q5 := hSw.cell 5
    go_simp
    try with_reducible rfl
  try simp only [Act.put, zpa, zpb, zpc]
  refine zit 1 ?_ rfl (by kernel_rfl) (fun _ _ _ h => h) (by rfl) (by assumption) ?_ ?_
  rotate_left
  · intro y hSw
    have q0 := hSw.cell 0; have q1 := hSw.cell 1; have q2 := hSw.cell 2; have q3 := hSw.cell 3; have q4 := hSw.cell 4; have q5 := hSw.cell 5
    go_simp
    try with_reducible rfl
  try simp only [Act.put, zpa, zpb, zpc]
  refine zit 2 ?_ rfl (by kernel_rfl) (fun _ _ _ h => h) (by rfl) (by assumption) ?_ ?_
  rotate_left
  · intro y hSw
    have q0 := hSw.cell 0; have q1 := hSw.cell 1; have q2 := hSw.cell 2; have q3 := hSw.cell 3; have q4 := hSw.cell 4; have q5 := hSw.cell 5
    go_simp
    try with_reducible rfl
  try simp only [Act.put, zpa, zpb, zpc]
  refine zit 3 ?_ rfl (by kernel_rfl) (fun _ _ _ h => h) (by rfl) (by assumption) ?_ ?_
  rotate_left
  · intro y hSw
    have q0 := hSw.cell 0; have q1 := hSw.cell 1; have q2 := hSw.cell 2; have q3 := hSw.cell 3; have q4 := hSw.cell 4; have q5 := hSw.cell 5
    go_simp
    try with_reducible rfl
  try simp only [Act.put, zpa, zpb, zpc]
  refine zit 4 ?_ rfl (by kernel_rfl) (fun _ _ _ h => h) (by rfl) (by assumption) ?_ ?_
  rotate_left
  · intro y hSw
    have q0 := hSw.cell 0; have q1 := hSw.cell 1; have q2 := hSw.cell 2; have q3 := hSw.cell 3; have q4 := hSw.cell 4; have q5 := hSw.cell 5
    go_simp
    try with_reducible rfl
  try simp only [Act.put, zpa, zpb, zpc]
  refine zit 5 ?_ rfl (by kernel_rfl) (fun _ _ _ h => h) (by rfl) (by assumption) ?_ ?_
  rotate_left
  · intro y hSw
    have q0 := hSw.cell 0; have q1 := hSw.cell 1; have q2 := hSw.cell 2; have q3 := hSw.cell 3; have q4 := hSw.cell 4; have q5 := hSw.cell 5
    go_simp
    try with_reducible rfl
  try simp only [Act.put, zpa, zpb, zpc]
  refine zib 6 rfl (by kernel_rfl) (fun K hK => ?_)
  have gA := grow x0 (.cells #[.string { data := #[] }, .int .i64 0, .int .i64 0] 38)
  have BC := Box.new x0 #[.string { data := #[] }, .int .i64 0, .int .i64 0] 38
  go_simp
  refine hK.out _ _ (hHeld.on gA) (fun hHeld => ?_)
  clear hK K
  try simp only [Act.put, zpa, zpb, zpc]
  replace g0 := hide (onto g0.out (Nat.le_refl _) gA)
  generalize x0.alloc (.cells #[.string { data := #[] }, .int .i64 0, .int .i64 0] 38) = x1 at *
  refine zit 7 ?_ rfl (by kernel_rfl) (fun _ _ _ h => h) (by rfl) (by assumption) ?_ ?_
  rotate_left
  · intro y hSw
    skip
    go_simp
    try with_reducible rfl
  try simp only [Act.put, zpa, zpb, zpc]
  refine zit 8 ?_ rfl (by kernel_rfl) (fun _ _ _ h => h) (by rfl) (by assumption) ?_ ?_
  rotate_left
  · intro y hSw
    skip
    go_simp
    try with_reducible rfl
  try simp only [Act.put, zpa, zpb, zpc]
  refine zib 9 rfl (by kernel_rfl) (fun K hK => ?_)
  have k0 := BC.cell 0
  have k1 := BC.cell 1
  have k2 := BC.cell 2
  have f0 := BC.free 0
  have f1 := BC.free 1
  have f2 := BC.free 2
  have BD := hide (((BC.set 0 (.string ck)).set 1 (.int .i64 ct)).set 2 (.int .i64 cb'))
  have hfar : ∀ j, j ≠ x0.heap.size → (((x1.setCell ⟨x0.heap.size, 0, none⟩ (.string ck)).setCell ⟨x0.heap.size, 1, none⟩ (.int .i64 ct)).setCell ⟨x0.heap.size, 2, none⟩ (.int .i64 cb')).heap[j]? = x1.heap[j]? := fun j hj => by
    rw [Below.heap_setCell _ _ _ j hj, Below.heap_setCell _ _ _ j hj, Below.heap_setCell _ _ _ j hj]
  have hH := hHeld.of_heap (hfar w.heap.size (by omega))
  replace g0 := hide (((g0.out.setCell (p := ⟨x0.heap.size, 0, none⟩) (Nat.le_of_lt hwx) (.string ck)).setCell (p := ⟨x0.heap.size, 1, none⟩) (Nat.le_of_lt hwx) (.int .i64 ct)).setCell (p := ⟨x0.heap.size, 2, none⟩) (Nat.le_of_lt hwx) (.int .i64 cb'))
  go_simp
  refine hK.out _ _ (hH) (fun hHeld => ?_)
  clear hK K
  try simp only [Act.put, zpa, zpb, zpc]
  refine zid (by kernel_rfl) ?_ _
  clear k0 k1 k2 f0 f1 f2 BC hfar hH gA
  generalize ((x1.setCell ⟨x0.heap.size, 0, none⟩ (.string ck)).setCell ⟨x0.heap.size, 1, none⟩ (.int .i64 ct)).setCell ⟨x0.heap.size, 2, none⟩ (.int .i64 cb') = x2 at *
  generalize x0.heap.size = bc at *
  have hbc := hide BD.out.2.2
  have q0 : x2.cell? ⟨w.heap.size, 0, none⟩ = some (.int .i64 a) := hHeld.cell 0
  clear hHeld
  go_wp2_with fail
  refine (cl _).mono ?_
  rintro e y1 ⟨db, rb, rfl, T0, hb0⟩
  have hlen := hcalm.out.len
  have cs : ∀ {y : World} {d : Dk}, Two x2.heap.size (fun _ => False) y db rb d s0 → d.S.length = ns → Calls Try.prog 13 #[.pointer (some ⟨db, 0, none⟩)] y fun q x => q = .returned (.int .i64 (ns : Int)) ∧ x = y := fun {y d} T hl => by
    obtain ⟨F, G, h1, -⟩ := T.ex
    rw [← hl]
    exact dsectors_any h1.1
  have c1 := cs T0 hlen
  replace T0 := hide T0
  replace hb0 := hide hb0
  clear cl cs hlen q0
  go_wp2_with fail
  refine c1.mono ?_
  rintro e wx ⟨rfl, hwx2⟩
  subst hwx2
  clear c1
  have hscr : ∀ (ad : Option Addr) (ops : List Dc), (∀ (i : Nat) o, ops[i]? = some o → o.Ok ∧ ∃ b off, ad = some ⟨b, off, none⟩ ∧ b < w.heap.size ∧ o.At w b (off + i * 7)) →
      ∀ (k : Nat) o, ops[k]? = some o → (0 ≤ o.f ∧ o.f < 256) ∧ ∃ b off, ad = some ⟨b, off, none⟩ ∧ ∀ y : World, Below x2.heap.size x2 y → y.cell? ⟨b, off + k * 7 + 1, none⟩ = some (.int .i64 o.n) ∧ y.cell? ⟨b, off + k * 7 + 2, none⟩ = some (.int .u8 o.f) := fun ad ops hx k o ho => by
    obtain ⟨ok, b, off, e, hb, hat⟩ := hx k o ho
    refine ⟨ok.f, b, off, e, fun y hy => ?_⟩
    obtain ⟨-, q1, q2, -⟩ := (hat.keep ((hy.block b (Nat.lt_of_lt_of_le hb g0.out.size)).trans (g0.out.block b hb))).seven
    exact ⟨q1, q2⟩
  have hso := hide (hscr _ _ hx1.out)
  have hlo := hide (hscr _ _ hx2.out)
  clear hscr hx1 hx2
  go_upto_block 0 with fail
  go_cut [9] from 19 to 62 (fun i y => ∃ (d : Dk) (iv : Value), i = iv ∧ Hid (Two x2.heap.size (fun _ => False) y db rb d s0) ∧ Hid (Below x2.heap.size x2 y) ∧ Hid (Calm d ns) ∧ d.m ≤ 60 ∧ d.L.length ≤ 60)
  case first =>
    go_wp2_with fail
    go_loopw [9] (fun i wr => ∃ (k : Nat) (d : Dk), k ≤ n1 ∧ k ≤ 60 ∧ i = .int .i64 (k : Int) ∧ Hid (Two x2.heap.size (fun _ => False) wr db rb d s0) ∧ Hid (Below x2.heap.size x2 wr) ∧ Hid (Calm d ns) ∧ d.m ≤ k ∧ d.L.length ≤ k) (fun i _ => n1 - (intOf i).toNat)
    case atStart => exact ⟨0, s0, Nat.zero_le _, Nat.zero_le _, rfl, T0, hb0, hcalm, by rw [hz.out.1]; omega, by rw [hz.out.2]; omega⟩
    case round =>
      clear T0 hb0 hcalm
      obtain ⟨k, d, hk, hk1, rfl, T, hb, hc, hm, hL⟩ := hrel
      by_cases h : k < n1 ∧ k < 60
      · obtain ⟨hk2, hk3⟩ := h
        obtain ⟨o, ho⟩ : ∃ o, so[k]? = some o := ⟨so[k]'(by have := hn1.out; omega), List.getElem?_eq_getElem _⟩
        obtain ⟨⟨f0, f1⟩, b, off, rfl, hcell⟩ := hso.out k o ho
        replace hcell := hide hcell
        obtain ⟨K, N, F, M, dc⟩ := o
        simp only at f0 f1 hcell
        obtain ⟨v, rfl⟩ : ∃ v : Nat, F = (v : Int) := ⟨F.toNat, by omega⟩
        have d60 : decide ((k : Int) < 60) = true := by simp; omega
        obtain ⟨j, hj, hjm⟩ := mod_at N ns hns1
        have csec := fun w => sector_any v 0 (by omega) w
        have h64 := secT_64 v
        obtain ⟨sx, hsx⟩ : ∃ sx, sx = secT v 0 := ⟨_, rfl⟩
        rw [← hsx] at csec h64
        obtain ⟨e1, -, hc2⟩ := hc.out.write hj h64
        obtain ⟨hm2, hL2⟩ := wrote_small d (j : Int) sx
        have cw : ∀ y : World, Two x2.heap.size (fun _ => False) y db rb d s0 → x2.heap.size ≤ y.heap.size → _ := fun y T hB => two_p T hB (fun F D => dwrite_any D (by omega) (by omega) (j : Int) sx)
        obtain ⟨t, ht⟩ : ∃ t, t = d.wrote (j : Int) sx := ⟨_, rfl⟩
        simp only [e1, ← ht] at cw
        rw [← ht] at hc2 hm2 hL2
        replace hc2 := hide hc2
        have hns0 : (ns : Int) ≠ 0 := by omega
        have hns00 : ¬ ns = 0 := by omega
        clear ht e1 hsx ho
        go_wp2_with fail
        refine zir [] (fun y => y.cell? ⟨b, off + k * 7 + 1, none⟩ = some (.int .i64 N) ∧ y.cell? ⟨b, off + k * 7 + 2, none⟩ = some (.int .u8 (v : Int))) (by kernel_rfl) (hcell.out _ hb.out.drew) (fun hHeld => ?_)
        replace T := hide (T.out.on (Below.refl wr.heap.size wr).drew)
        replace hb := hide hb.out.drew
        generalize wr.drew = z1 at *
        refine zit 0 ?_ rfl (by kernel_rfl) (fun _ _ _ h => h) (by rfl) (by assumption) ?_ ?_
        rotate_left
        · intro y hSw
          obtain ⟨t1, t2⟩ := hSw
          go_simp
          try with_reducible rfl
        try simp only [Act.put, zpa, zpb, zpc]
        refine zit 1 ?_ rfl (by kernel_rfl) (fun _ _ _ h => h) (by rfl) (by assumption) ?_ ?_
        rotate_left
        · intro y hSw
          obtain ⟨t1, t2⟩ := hSw
          go_simp
          try with_reducible rfl
        try simp only [Act.put, zpa, zpb, zpc]
        refine zit 2 ?_ rfl (by kernel_rfl) (fun _ _ _ h => h) (by rfl) (by assumption) ?_ ?_
        rotate_left
        · intro y hSw
          obtain ⟨t1, t2⟩ := hSw
          go_simp
          try with_reducible rfl
        try simp only [Act.put, zpa, zpb, zpc]
        refine zit 3 ?_ rfl (by kernel_rfl) (fun _ _ _ h => h) (by rfl) (by assumption) ?_ ?_
        rotate_left
        · intro y hSw
          obtain ⟨t1, t2⟩ := hSw
          go_simp
          try with_reducible rfl
        try simp only [Act.put, zpa, zpb, zpc]
        refine zit 4 ?_ rfl (by kernel_rfl) (fun _ _ _ h => h) (by rfl) (by assumption) ?_ ?_
        rotate_left
        · intro y hSw
          obtain ⟨t1, t2⟩ := hSw
          go_simp
          try with_reducible rfl
        try simp only [Act.put, zpa, zpb, zpc]
        refine zit 5 ?_ rfl (by kernel_rfl) (fun _ _ _ h => h) (by rfl) (by assumption) ?_ ?_
        rotate_left
        · intro y hSw
          obtain ⟨t1, t2⟩ := hSw
          go_simp
          try with_reducible rfl
        try simp only [Act.put, zpa, zpb, zpc]
        refine zit 6 ?_ rfl (by kernel_rfl) (fun _ _ _ h => h) (by rfl) (by assumption) ?_ ?_
        rotate_left
        · intro y hSw
          obtain ⟨t1, t2⟩ := hSw
          go_simp
          try with_reducible rfl
        try simp only [Act.put, zpa, zpb, zpc]
        refine zit 7 ?_ rfl (by kernel_rfl) (fun _ _ _ h => h) (by rfl) (by assumption) ?_ ?_
        rotate_left
        · intro y hSw
          obtain ⟨t1, t2⟩ := hSw
          go_simp
          try with_reducible rfl
        try simp only [Act.put, zpa, zpb, zpc]
        refine zit 8 ?_ rfl (by kernel_rfl) (fun _ _ _ h => h) (by rfl) (by assumption) ?_ ?_
        rotate_left
        · intro y hSw
          obtain ⟨t1, t2⟩ := hSw
          go_simp
          try with_reducible rfl
        try simp only [Act.put, zpa, zpb, zpc]
        refine zit 9 ?_ rfl (by kernel_rfl) (fun _ _ _ h => h) (by rfl) (by assumption) ?_ ?_
        rotate_left
        · intro y hSw
          obtain ⟨t1, t2⟩ := hSw
          go_simp
          try with_reducible rfl
        try simp only [Act.put, zpa, zpb, zpc]
        refine zit 10 ?_ rfl (by kernel_rfl) (fun _ _ _ h => h) (by rfl) (by assumption) ?_ ?_
        rotate_left
        · intro y hSw
          obtain ⟨t1, t2⟩ := hSw
          go_simp
          try with_reducible rfl
        try simp only [Act.put, zpa, zpb, zpc]
        refine zit 11 ?_ rfl (by kernel_rfl) (fun _ _ _ h => h) (by rfl) (by assumption) ?_ ?_
        rotate_left
        · intro y hSw
          obtain ⟨t1, t2⟩ := hSw
          go_simp
          try with_reducible rfl
        try simp only [Act.put, zpa, zpb, zpc]
        refine zit 12 ?_ rfl (by kernel_rfl) (fun _ _ _ h => h) (by rfl) (by assumption) ?_ ?_
        rotate_left
        · intro y hSw
          obtain ⟨t1, t2⟩ := hSw
          go_simp
          try with_reducible rfl
        try simp only [Act.put, zpa, zpb, zpc]
        refine zit 13 ?_ rfl (by kernel_rfl) (fun _ _ _ h => h) (by rfl) (by assumption) ?_ ?_
        rotate_left
        · intro y hSw
          obtain ⟨t1, t2⟩ := hSw
          go_simp
          try with_reducible rfl
        try simp only [Act.put, zpa, zpb, zpc]
        refine zib 14 rfl (by kernel_rfl) (fun K hK => ?_)
        go_simp
        refine (csec _).mono ?_
        rintro q z2 ⟨rfl, h2⟩
        replace T := hide (T.out.on h2)
        replace hb := hide (onto hb.out (Nat.le_refl _) h2)
        have hH := hcell.out _ hb.out
        clear h2
        go_wp2_with fail
        refine hK.out _ _ (hH) (fun hHeld => ?_)
        clear hK K
        try simp only [Act.put, zpa, zpb, zpc]
        clear hH
        refine zib 15 rfl (by kernel_rfl) (fun K hK => ?_)
        have cc := cw _ T.out hb.out.size
        go_simp
        refine cc.mono ?_
        rintro q z3 ⟨rfl, T2, K2⟩
        replace T2 := hide T2
        replace hb := hide (hb.out.trans K2.b)
        have hH := hcell.out _ hb.out
        clear cc K2 T cw hc
        go_wp2_with fail
        refine hK.out _ _ (hH) (fun hHeld => ?_)
        clear hK K
        try simp only [Act.put, zpa, zpb, zpc]
        clear hH
        refine zid (by kernel_rfl) ?_ _
        clear hHeld
        go_wp2
        go_roundw
        case rel => exact ⟨k + 1, t, by omega, by omega, by go_num, T2, hb, hc2, by omega, by omega⟩
        case measure => simp [intOf]; omega
      · have fin : Hid (∃ d' : Dk, Hid (Two x2.heap.size (fun _ => False) wr db rb d' s0) ∧ Hid (Below x2.heap.size x2 wr) ∧ Hid (Calm d' ns) ∧ d'.m ≤ 60 ∧ d'.L.length ≤ 60) := hide ⟨d, T, hb, hc, by omega, by omega⟩
        by_cases hk2 : k < n1
        · have hk3 : ¬ k < 60 := fun h3 => h ⟨hk2, h3⟩
          have d60 : decide ((k : Int) < 60) = false := by simp; omega
          clear h T hb hc
          go_wp2
          go_meet
          case rel => obtain ⟨d', h1, h2, h3, h4, h5⟩ := fin.out; exact ⟨d', _, rfl, h1, h2, h3, h4, h5⟩
        · clear h T hb hc
          go_wp2
          go_meet
          case rel => obtain ⟨d', h1, h2, h3, h4, h5⟩ := fin.out; exact ⟨d', _, rfl, h1, h2, h3, h4, h5⟩
  case rest =>
    obtain ⟨d, iv, hiv, T, hb, hc, hm, hL⟩ := hcut
    replace hiv := hiv.symm
    subst hiv
    clear T0 hb0 hcalm hso
    obtain ⟨e1, e2, hc2⟩ := hc.out.flush
    have cf := two_p T.out hb.out.size (fun F D => dflush_any D (by omega))
    obtain ⟨hm2, -⟩ := flush_small d
    have ht0 : d.flush.L = [] := by rw [e2]
    obtain ⟨t, ht⟩ : ∃ t, t = d.flush := ⟨_, rfl⟩
    rw [e1, ← ht] at cf
    rw [← ht] at hc2 hm2 ht0
    replace hc2 := hide hc2
    clear ht e1 e2 T hc
    go_wp2_with fail
    refine cf.mono ?_
    rintro q y2 ⟨rfl, T2, K2⟩
    replace hb := hide (hb.out.trans K2.b)
    have ci := two_lp T2 hb.out.size (fun F D => dimage_any D)
    have hWz : (catT t.S).size = 64 * ns := by rw [catT_size hc2.out.g.s64, hc2.out.len]
    obtain ⟨W, hW⟩ : ∃ W, W = catT t.S := ⟨_, rfl⟩
    rw [← hW] at ci hWz
    have hWi : (W.size : Int) = 64 * (ns : Int) := by omega
    replace hW := hide hW
    clear cf T2 K2
    go_wp2_with fail
    refine ci.mono ?_
    rintro q y3 ⟨rfl, T3, K3⟩
    replace hb := hide (hb.out.trans K3.b)
    replace T3 := hide T3
    clear ci K3
    go_upto_block 2 with fail
    go_cut [11] from 73 to 99 (fun i y => ∃ (d : Dk) (iv : Value), i = iv ∧ Hid (Two x2.heap.size (fun _ => False) y db rb d s0) ∧ Hid (Below x2.heap.size x2 y) ∧ Hid (Calm d ns) ∧ d.m ≤ 122 ∧ Hid (d.S = t.S ∧ d.L = (lo.take 60).map (lw ns)))
    case first =>
      go_wp2_with fail
      go_loopw [11] (fun i wr => ∃ (k : Nat) (d : Dk), k ≤ n2 ∧ k ≤ 60 ∧ i = .int .i64 (k : Int) ∧ Hid (Two x2.heap.size (fun _ => False) wr db rb d s0) ∧ Hid (Below x2.heap.size x2 wr) ∧ Hid (Calm d ns) ∧ d.m ≤ k + 61 ∧ d.L.length ≤ k ∧ Hid (d.S = t.S ∧ d.L = (lo.take k).map (lw ns))) (fun i _ => n2 - (intOf i).toNat)
      case atStart => exact ⟨0, t, Nat.zero_le _, Nat.zero_le _, rfl, T3, hb, hc2, by omega, by rw [ht0]; exact Nat.zero_le _, hide ⟨rfl, by rw [ht0]; rfl⟩⟩
      case round =>
        clear T3 hb hc2
        obtain ⟨k, d, hk, hk1, rfl, T, hb, hc, hm, hL, hSL⟩ := hrel
        by_cases h : k < n2 ∧ k < 60
        · obtain ⟨hk2, hk3⟩ := h
          obtain ⟨o, ho⟩ : ∃ o, lo[k]? = some o := ⟨lo[k]'(by have := hn2.out; omega), List.getElem?_eq_getElem _⟩
          obtain ⟨⟨f0, f1⟩, b, off, rfl, hcell⟩ := hlo.out k o ho
          replace hcell := hide hcell
          obtain ⟨hj, hjm⟩ := lwN_is ns hns1 o
          have hnext : Hid (∀ sx, sx = secT o.f.toNat 0 → (lo.take k).map (lw ns) ++ [(lwN ns o, sx)] = (lo.take (k + 1)).map (lw ns)) := hide (fun sx hsx => by
            rw [List.take_add_one, ho, List.map_append, hsx]
            rfl)
          obtain ⟨j, hje⟩ : ∃ j, j = lwN ns o := ⟨_, rfl⟩
          rw [← hje] at hj hjm hnext
          replace hje := hide hje
          obtain ⟨K, N, F, M, dc⟩ := o
          simp only at f0 f1 hcell hjm hnext
          obtain ⟨v, rfl⟩ : ∃ v : Nat, F = (v : Int) := ⟨F.toNat, by omega⟩
          have d60 : decide ((k : Int) < 60) = true := by simp; omega
          have csec := fun w => sector_any v 0 (by omega) w
          have h64 := secT_64 v
          obtain ⟨sx, hsx⟩ : ∃ sx, sx = secT v 0 := ⟨_, rfl⟩
          replace hnext := hide (hnext.out sx hsx)
          rw [← hsx] at csec h64
          obtain ⟨e1, e5, hc2⟩ := hc.out.write hj h64
          obtain ⟨hm2, hL2⟩ := wrote_small d (j : Int) sx
          have cw : ∀ y : World, Two x2.heap.size (fun _ => False) y db rb d s0 → x2.heap.size ≤ y.heap.size → _ := fun y T hB => two_p T hB (fun F D => dwrite_any D (by omega) (by omega) (j : Int) sx)
          have hSL2 : Hid ((d.wrote (j : Int) sx).S = t.S ∧ (d.wrote (j : Int) sx).L = (lo.take (k + 1)).map (lw ns)) := hide (by rw [e5, ← hnext.out, ← hSL.out.2]; exact ⟨hSL.out.1, rfl⟩)
          obtain ⟨u, ht⟩ : ∃ u, u = d.wrote (j : Int) sx := ⟨_, rfl⟩
          simp only [e1, ← ht] at cw
          rw [← ht] at hc2 hm2 hL2 hSL2
          replace hc2 := hide hc2
          have hns0 : (ns : Int) ≠ 0 := by omega
          have hns00 : ¬ ns = 0 := by omega
          clear ht e1 e5 hsx ho hSL
          go_wp2_with fail
          refine zir [] (fun y => y.cell? ⟨b, off + k * 7 + 1, none⟩ = some (.int .i64 N) ∧ y.cell? ⟨b, off + k * 7 + 2, none⟩ = some (.int .u8 (v : Int))) (by kernel_rfl) (hcell.out _ hb.out.drew) (fun hHeld => ?_)
          replace T := hide (T.out.on (Below.refl wr.heap.size wr).drew)
          replace hb := hide hb.out.drew
          generalize wr.drew = u1 at *
          refine zit 0 ?_ rfl (by kernel_rfl) (fun _ _ _ h => h) (by rfl) (by assumption) ?_ ?_
          rotate_left
          · intro y hSw
            obtain ⟨t1, t2⟩ := hSw
            go_simp
            try with_reducible rfl
          try simp only [Act.put, zpa, zpb, zpc]
          refine zit 1 ?_ rfl (by kernel_rfl) (fun _ _ _ h => h) (by rfl) (by assumption) ?_ ?_
          rotate_left
          · intro y hSw
            obtain ⟨t1, t2⟩ := hSw
            go_simp
            try with_reducible rfl
          try simp only [Act.put, zpa, zpb, zpc]
          refine zit 2 ?_ rfl (by kernel_rfl) (fun _ _ _ h => h) (by rfl) (by assumption) ?_ ?_
          rotate_left
          · intro y hSw
            obtain ⟨t1, t2⟩ := hSw
            go_simp
            try with_reducible rfl
          try simp only [Act.put, zpa, zpb, zpc]
          refine zit 3 ?_ rfl (by kernel_rfl) (fun _ _ _ h => h) (by rfl) (by assumption) ?_ ?_
          rotate_left
          · intro y hSw
            obtain ⟨t1, t2⟩ := hSw
            go_simp
            try with_reducible rfl
          try simp only [Act.put, zpa, zpb, zpc]
          refine zit 4 ?_ rfl (by kernel_rfl) (fun _ _ _ h => h) (by rfl) (by assumption) ?_ ?_
          rotate_left
          · intro y hSw
            obtain ⟨t1, t2⟩ := hSw
            go_simp
            try with_reducible rfl
          try simp only [Act.put, zpa, zpb, zpc]
          refine zit 5 ?_ rfl (by kernel_rfl) (fun _ _ _ h => h) (by rfl) (by assumption) ?_ ?_
          rotate_left
          · intro y hSw
            obtain ⟨t1, t2⟩ := hSw
            go_simp
            try with_reducible rfl
          try simp only [Act.put, zpa, zpb, zpc]
          refine zit 6 ?_ rfl (by kernel_rfl) (fun _ _ _ h => h) (by rfl) (by assumption) ?_ ?_
          rotate_left
          · intro y hSw
            obtain ⟨t1, t2⟩ := hSw
            go_simp
            try with_reducible rfl
          try simp only [Act.put, zpa, zpb, zpc]
          refine zit 7 ?_ rfl (by kernel_rfl) (fun _ _ _ h => h) (by rfl) (by assumption) ?_ ?_
          rotate_left
          · intro y hSw
            obtain ⟨t1, t2⟩ := hSw
            go_simp
            try with_reducible rfl
          try simp only [Act.put, zpa, zpb, zpc]
          refine zit 8 ?_ rfl (by kernel_rfl) (fun _ _ _ h => h) (by rfl) (by assumption) ?_ ?_
          rotate_left
          · intro y hSw
            obtain ⟨t1, t2⟩ := hSw
            go_simp
            try with_reducible rfl
          try simp only [Act.put, zpa, zpb, zpc]
          refine zit 9 ?_ rfl (by kernel_rfl) (fun _ _ _ h => h) (by rfl) (by assumption) ?_ ?_
          rotate_left
          · intro y hSw
            obtain ⟨t1, t2⟩ := hSw
            go_simp
            try with_reducible rfl
          try simp only [Act.put, zpa, zpb, zpc]
          refine zit 10 ?_ rfl (by kernel_rfl) (fun _ _ _ h => h) (by rfl) (by assumption) ?_ ?_
          rotate_left
          · intro y hSw
            obtain ⟨t1, t2⟩ := hSw
            go_simp
            try with_reducible rfl
          try simp only [Act.put, zpa, zpb, zpc]
          refine zit 11 ?_ rfl (by kernel_rfl) (fun _ _ _ h => h) (by rfl) (by assumption) ?_ ?_
          rotate_left
          · intro y hSw
            obtain ⟨t1, t2⟩ := hSw
            go_simp
            try with_reducible rfl
          try simp only [Act.put, zpa, zpb, zpc]
          refine zit 12 ?_ rfl (by kernel_rfl) (fun _ _ _ h => h) (by rfl) (by assumption) ?_ ?_
          rotate_left
          · intro y hSw
            obtain ⟨t1, t2⟩ := hSw
            go_simp
            try with_reducible rfl
          try simp only [Act.put, zpa, zpb, zpc]
          refine zit 13 ?_ rfl (by kernel_rfl) (fun _ _ _ h => h) (by rfl) (by assumption) ?_ ?_
          rotate_left
          · intro y hSw
            obtain ⟨t1, t2⟩ := hSw
            go_simp
            try with_reducible rfl
          try simp only [Act.put, zpa, zpb, zpc]
          refine zib 14 rfl (by kernel_rfl) (fun K hK => ?_)
          go_simp
          refine (csec _).mono ?_
          rintro q u2 ⟨rfl, h2⟩
          replace T := hide (T.out.on h2)
          replace hb := hide (onto hb.out (Nat.le_refl _) h2)
          have hH := hcell.out _ hb.out
          clear h2
          go_wp2_with fail
          refine hK.out _ _ (hH) (fun hHeld => ?_)
          clear hK K
          try simp only [Act.put, zpa, zpb, zpc]
          clear hH
          refine zib 15 rfl (by kernel_rfl) (fun K hK => ?_)
          have cc := cw _ T.out hb.out.size
          go_simp
          refine cc.mono ?_
          rintro q u3 ⟨rfl, T2, K2⟩
          replace T2 := hide T2
          replace hb := hide (hb.out.trans K2.b)
          have hH := hcell.out _ hb.out
          clear cc K2 T cw hc
          go_wp2_with fail
          refine hK.out _ _ (hH) (fun hHeld => ?_)
          clear hK K
          try simp only [Act.put, zpa, zpb, zpc]
          clear hH
          refine zit 16 ?_ rfl (by kernel_rfl) (fun _ _ _ h => h) (by rfl) (by assumption) ?_ ?_
          rotate_left
          · intro y hSw
            skip
            go_simp
            try with_reducible rfl
          try simp only [Act.put, zpa, zpb, zpc]
          refine zid (by kernel_rfl) ?_ _
          clear hHeld
          go_wp2
          go_roundw
          case rel => exact ⟨k + 1, u, by omega, by omega, by go_num, T2, hb, hc2, by omega, by omega, hSL2⟩
          case measure => simp [intOf]; omega
        · have fin : Hid (∃ d' : Dk, Hid (Two x2.heap.size (fun _ => False) wr db rb d' s0) ∧ Hid (Below x2.heap.size x2 wr) ∧ Hid (Calm d' ns) ∧ d'.m ≤ 122 ∧ Hid (d'.S = t.S ∧ d'.L = (lo.take 60).map (lw ns))) := hide ⟨d, T, hb, hc, by omega, hide ⟨hSL.out.1, by
            rw [hSL.out.2]
            by_cases e : k = 60
            · rw [e]
            · have : k = n2 := by omega
              rw [List.take_of_length_le (by have := hn2.out; omega), List.take_of_length_le (by have := hn2.out; omega)]⟩⟩
          by_cases hk2 : k < n2
          · have hk3 : ¬ k < 60 := fun h3 => h ⟨hk2, h3⟩
            have d60 : decide ((k : Int) < 60) = false := by simp; omega
            clear h T hb hc
            go_wp2
            go_meet
            case rel => obtain ⟨d', h1, h2, h3, h4, h5⟩ := fin.out; exact ⟨d', _, rfl, h1, h2, h3, h4, h5⟩
          · clear h T hb hc
            go_wp2
            go_meet
            case rel => obtain ⟨d', h1, h2, h3, h4, h5⟩ := fin.out; exact ⟨d', _, rfl, h1, h2, h3, h4, h5⟩
    case rest =>
      obtain ⟨d, iv, hiv, T, hb3, hc, hm, hSL⟩ := hcut
      replace hiv := hiv.symm
      subst hiv
      clear T3 hb hc2
      obtain ⟨L, hL⟩ : ∃ L, L = (lo.take 60).map (lw ns) := ⟨_, rfl⟩
      obtain ⟨R, hR⟩ : ∃ R, R = t.S := ⟨_, rfl⟩
      rw [← hL, ← hR] at hSL
      obtain ⟨e1, e2, hl3⟩ := hc.out.crash ⟨ck, ct, cb'⟩
      have hSc : (d.crashed ⟨ck, ct, cb'⟩).S = crashK ⟨ck, ct, cb'⟩ L R L.length := by unfold Dk.crashed; rw [hSL.out.1, hSL.out.2]
      have hgc := hc.out.g.crashed ⟨ck, ct, cb'⟩
      have hRs : Hid (∀ s ∈ R, s.size = 64) := hide (by rw [← hSL.out.1]; exact hc.out.g.s64)
      have hRl : Hid (R.length = ns) := hide (by rw [← hSL.out.1]; exact hc.out.len)
      have hLg : Hid (∀ p ∈ L, p.1 < R.length ∧ p.2.size = 64) := hide (by rw [← hSL.out.1, ← hSL.out.2]; exact hc.out.g.l64)
      have cc := two_p T.out hb3.out.size (fun F D => dcrash_any D ⟨ck, ct, cb'⟩ hck.out)
      rw [e1, e2] at cc
      obtain ⟨u, hu⟩ : ∃ u, u = d.crashed ⟨ck, ct, cb'⟩ := ⟨_, rfl⟩
      rw [← hu] at cc hSc hgc hl3
      have bx := BD.out.on hb3.out
      have b0 := bx.cell 0
      have b1 := bx.cell 1
      have b2 := bx.cell 2
      replace hgc := hide hgc
      replace hSc := hide hSc
      replace hL := hide hL
      replace hR := hide hR
      replace hl3 := hide hl3
      clear e1 e2 hu T hc bx hSL
      go_wp2_with fail
      refine cc.mono ?_
      rintro q y4 ⟨rfl, T4, K4⟩
      replace hb3 := hide (hb3.out.trans K4.b)
      have ci := two_lp T4 hb3.out.size (fun F D => dimage_any D)
      have hVz : (catT u.S).size = 64 * ns := by rw [catT_size hgc.out.s64, hl3.out]
      obtain ⟨V, hV⟩ : ∃ V, V = catT u.S := ⟨_, rfl⟩
      rw [← hV] at ci hVz
      have hVi : (V.size : Int) = 64 * (ns : Int) := by omega
      have hln : Hid (L.length = min n2 60) := hide (by rw [hL.out, List.length_map, List.length_take, hn2.out, Nat.min_comm])
      have hVat : Hid (∀ s, s < ns → V.extract (64 * s) (64 * s + 64) = u.S.getD s T0 ∧ (u.S.getD s T0).size = 64) := hide (fun s hs => by
        have hs' : s < u.S.length := by rw [hl3.out]; exact hs
        rw [hV]
        exact ⟨(catT_at hgc.out.s64 s _ (List.getElem?_eq_getElem hs')).trans (getD_some (List.getElem?_eq_getElem hs')).symm, hgc.out.s64 _ (getD_mem hs')⟩)
      have hWat : Hid (∀ s, s < ns → W.extract (64 * s) (64 * s + 64) = R.getD s T0) := hide (fun s hs => by
        have hs' : s < R.length := by rw [hRl.out]; exact hs
        rw [hW.out, ← hR.out]
        exact (catT_at hRs.out s _ (List.getElem?_eq_getElem hs')).trans (getD_some (List.getElem?_eq_getElem hs')).symm)
      replace hV := hide hV
      clear cc T4 K4 b0 b1 b2
      go_wp2_with fail
      refine ci.mono ?_
      rintro q y5 ⟨rfl, -, K5⟩
      replace hb3 := hide (hb3.out.trans K5.b)
      clear ci K5
      go_wp2_with fail
      go_loopw [13, 14] (fun tv iv y => ∃ (s tc : Nat), s ≤ ns ∧ iv = .int .i64 (s : Int) ∧ tv = .int .i64 (tc : Int) ∧ Hid (Below x2.heap.size x2 y) ∧ Hid (tc = 0 ∨ tc = 1 ∧ ∃ tt : Nat, ct = (tt : Int) ∧ tt < L.length ∧ (L.getD tt (0, T0)).1 < s)) (fun _ i _ => ns - (intOf i).toNat)
      case atStart => exact ⟨0, 0, Nat.zero_le _, rfl, rfl, hb3, hide (.inl rfl)⟩
      case round =>
        clear hb3
        obtain ⟨s, tc, hs, rfl, rfl, hb, htc⟩ := hrel
        by_cases h : s < ns
        · obtain ⟨hXe, hX64⟩ := hVat.out s h
          have hWe := hWat.out s h
          obtain ⟨X, hX⟩ : ∃ X, X = u.S.getD s T0 := ⟨_, rfl⟩
          obtain ⟨Y, hY⟩ : ∃ Y, Y = R.getD s T0 := ⟨_, rfl⟩
          rw [← hX] at hXe hX64
          rw [← hY] at hWe
          replace hX := hide hX
          replace hY := hide hY
          have i1 : (64 * (s : Int)).toNat = 64 * s := by omega
          have i2 : (64 * (s : Int) + 64).toNat = 64 * s + 64 := by omega
          have i3 : 64 * (s : Int) + 64 ≤ 64 * (ns : Int) := by omega
          have i4 : 64 * (s : Int) ≤ 64 * (s : Int) + 64 := by omega
          have i5 : 0 ≤ 64 * (s : Int) := by omega
          have i6 : 0 ≤ 64 * (s : Int) + 64 := by omega
          have i7 : IntKind.i64.wrap (64 * (s : Int)) = 64 * (s : Int) := by simp [IntKind.wrap, IntKind.bits, IntKind.signed]; omega
          have i8 : IntKind.i64.wrap (64 * (s : Int) + 64) = 64 * (s : Int) + 64 := by simp [IntKind.wrap, IntKind.bits, IntKind.signed]; omega
          go_upto_block 6 with fail
          go_cut [16, 17] from 131 to 163 (fun wv iv y => ∃ iv' : Value, iv = iv' ∧ wv = .bool (whK X Y L s L.length) ∧ Hid (Below x2.heap.size x2 y))
          case first =>
            have hwh : Hid (∀ i, whK X Y L s (i + 1) = (whK X Y L s i || (decide ((L.getD i (0, T0)).1 = s) && (X.toList == (L.getD i (0, T0)).2.toList)))) := hide (fun i => rfl)
            go_wp2_with fail
            go_loopw [16, 17] (fun wv iv y => ∃ i : Nat, i ≤ L.length ∧ iv = .int .i64 (i : Int) ∧ wv = .bool (whK X Y L s i) ∧ Hid (Below x2.heap.size x2 y)) (fun _ i _ => L.length - (intOf i).toNat)
            case atStart => exact ⟨0, Nat.zero_le _, rfl, rfl, hb⟩
            case round =>
              clear hb
              obtain ⟨i, hi, rfl, rfl, hb⟩ := hrel
              have hw1 := hide (hwh.out i)
              by_cases h2 : i < L.length
              · have hi2 : i < n2 := by have := hln.out; omega
                have hi60 : i < 60 := by have := hln.out; omega
                have d60 : decide ((i : Int) < 60) = true := by simp; omega
                obtain ⟨b0, hb0⟩ : ∃ b0, b0 = whK X Y L s i := ⟨_, rfl⟩
                rw [← hb0] at hw1 ⊢
                cases b0 with
                | true =>
                  have hw2 : Hid (whK X Y L s (i + 1) = true) := hide (by rw [hw1.out]; rfl)
                  clear hw1 hb0
                  go_wp2
                  go_roundw
                  case rel => exact ⟨i + 1, by omega, by go_num, by rw [hw2.out], hb⟩
                  case measure => simp [intOf]; omega
                | false =>
                  obtain ⟨o, ho⟩ : ∃ o, lo[i]? = some o := ⟨lo[i]'(by have := hn2.out; omega), List.getElem?_eq_getElem _⟩
                  obtain ⟨⟨f0, f1⟩, b, off, rfl, hcell⟩ := hlo.out i o ho
                  have hLi : L.getD i (0, T0) = lw ns o := by rw [hL.out]; exact lw_at ho hi60
                  obtain ⟨hj, hjm⟩ := lwN_is ns hns1 o
                  rw [hLi] at hw1
                  obtain ⟨j, hje⟩ : ∃ j, j = lwN ns o := ⟨_, rfl⟩
                  rw [show (lw ns o).1 = j from hje.symm] at hw1
                  rw [← hje] at hj hjm
                  obtain ⟨sx, hsx⟩ : ∃ sx, sx = secT o.f.toNat 0 := ⟨_, rfl⟩
                  rw [show (lw ns o).2 = sx from hsx.symm] at hw1
                  obtain ⟨q1, q2⟩ := hcell _ hb.out
                  have csec := fun w => sector_any o.f.toNat 0 (by omega) w
                  have hof : ((o.f.toNat : Nat) : Int) = o.f := by omega
                  rw [← hsx] at csec
                  obtain ⟨N, hN⟩ : ∃ N, N = o.n := ⟨_, rfl⟩
                  obtain ⟨v, hv⟩ : ∃ v, v = o.f.toNat := ⟨_, rfl⟩
                  rw [← hv] at hof csec
                  rw [← hof] at q2
                  rw [← hN] at q1 hjm
                  have hns0 : (ns : Int) ≠ 0 := by omega
                  have hns00 : ¬ ns = 0 := by omega
                  clear hcell hLi hje hsx hof hN hv f0 f1 ho hb0
                  by_cases ej : j = s
                  · have dj : decide ((j : Int) = (s : Int)) = true := by simp; omega
                    have hw2 : Hid (whK X Y L s (i + 1) = (X.toList == sx.toList)) := hide (by rw [hw1.out]; simp [ej])
                    subst ej
                    clear hw1
                    go_wp2_with fail
                    refine (csec _).mono ?_
                    rintro q y6 ⟨rfl, h6⟩
                    replace hb := hide (onto hb.out (Nat.le_refl _) h6)
                    clear h6 csec
                    go_wp2
                    go_roundw
                    case rel => exact ⟨i + 1, by omega, by go_num, by rw [hw2.out], hb⟩
                    case measure => simp [intOf]; omega
                  · have dj : decide ((j : Int) = (s : Int)) = false := by simp; omega
                    have ejs : ¬ (j : Int) = (s : Int) := by omega
                    have hw2 : Hid (whK X Y L s (i + 1) = false) := hide (by rw [hw1.out]; simp [ej])
                    clear hw1 csec
                    go_wp2
                    go_roundw
                    case rel => exact ⟨i + 1, by omega, by go_num, by rw [hw2.out], hb⟩
                    case measure => simp [intOf]; omega
              · have hie : i = L.length := by omega
                subst hie
                obtain ⟨l, hl⟩ : ∃ l, l = L.length := ⟨_, rfl⟩
                rw [← hl] at hln ⊢
                replace hl := hide hl
                by_cases h3 : l < n2
                · have h60 : ¬ l < 60 := by have := hln.out; omega
                  have d60 : decide ((l : Int) < 60) = false := by simp; omega
                  clear hw1 h2 hi
                  go_wp2
                  go_meet
                  case rel => exact ⟨_, rfl, by rw [hl.out], hb⟩
                · clear hw1 h2 hi
                  go_wp2
                  go_meet
                  case rel => exact ⟨_, rfl, by rw [hl.out], hb⟩
          case rest =>
            obtain ⟨iv', hiv', rfl, hb2⟩ := hcut
            replace hiv' := hiv'.symm
            subst hiv'
            clear hb
            cases hwb : whK X Y L s L.length with
            | true =>
              clear hwb
              have htc2 : Hid (tc = 0 ∨ tc = 1 ∧ ∃ tt : Nat, ct = (tt : Int) ∧ tt < L.length ∧ (L.getD tt (0, T0)).1 < s + 1) := hide (by
                rcases htc.out with h' | ⟨h', tt, h1, h2, h3⟩
                · exact .inl h'
                · exact .inr ⟨h', tt, h1, h2, by omega⟩)
              go_wp2
              go_roundw
              case rel => exact ⟨s + 1, tc, by omega, by go_num, rfl, hb2, htc2⟩
              case measure => simp [intOf]; omega
            | false =>
              obtain ⟨tt, ht2, ht1, ht3, ht4⟩ := torn_one (c := ⟨ck, ct, cb'⟩) (L := L) (S := R) (s := s) hRs.out hLg.out (by rw [← hSc.out, ← hX.out, ← hY.out]; exact hwb)
              replace ht1 : ct = (tt : Int) := ht1
              replace ht4 : ((crashK ⟨ck, ct, cb'⟩ L R L.length).getD s T0).extract 0 (cutN cb') = (L.getD tt (0, T0)).2.extract 0 (cutN cb') := ht4
              rw [← hSc.out, ← hX.out] at ht4
              have htc0 : tc = 0 := by
                rcases htc.out with h' | ⟨-, t2, h1, -, h3⟩
                · exact h'
                · have : t2 = tt := by omega
                  subst this
                  omega
              subst htc0
              have htt2 : tt < n2 := by have := hln.out; omega
              have htt60 : tt < 60 := by have := hln.out; omega
              obtain ⟨o, ho⟩ : ∃ o, lo[tt]? = some o := ⟨lo[tt]'(by have := hn2.out; omega), List.getElem?_eq_getElem _⟩
              obtain ⟨⟨f0, f1⟩, b, off, rfl, hcell⟩ := hlo.out tt o ho
              have hLi : L.getD tt (0, T0) = lw ns o := by rw [hL.out]; exact lw_at ho htt60
              obtain ⟨hj, hjm⟩ := lwN_is ns hns1 o
              rw [hLi] at ht3 ht4
              have ht3' : lwN ns o = s := ht3
              rw [ht3'] at hjm
              obtain ⟨sx, hsx⟩ : ∃ sx, sx = secT o.f.toNat 0 := ⟨_, rfl⟩
              have hs64 : sx.size = 64 := by rw [hsx]; exact secT_64 _
              rw [show (lw ns o).2 = sx from hsx.symm] at ht4
              have csec := fun w => sector_any o.f.toNat 0 (by omega) w
              have hof : ((o.f.toNat : Nat) : Int) = o.f := by omega
              rw [← hsx] at csec
              obtain ⟨N, hN⟩ : ∃ N, N = o.n := ⟨_, rfl⟩
              obtain ⟨v, hv⟩ : ∃ v, v = o.f.toNat := ⟨_, rfl⟩
              rw [← hv] at hof csec
              rw [← hof, ← hN] at hcell
              rw [← hN] at hjm
              have htc2 : Hid (1 = 0 ∨ 1 = 1 ∧ ∃ tt : Nat, ct = (tt : Int) ∧ tt < L.length ∧ (L.getD tt (0, T0)).1 < s + 1) := hide (.inr ⟨rfl, tt, ht1, ht2, by rw [hLi]; show lwN ns o < s + 1; omega⟩)
              have hcl := cutN_le cb'
              have hcut : max 0 (min 64 cb') = ((cutN cb' : Nat) : Int) := by unfold cutN; omega
              obtain ⟨K, hK⟩ : ∃ K, K = cutN cb' := ⟨_, rfl⟩
              rw [← hK] at hcl hcut ht4
              have hcli : (K : Int) ≤ 64 := by omega
              obtain ⟨P, hP⟩ : ∃ P, P = X.extract 0 K := ⟨_, rfl⟩
              have p1 : X.extract 0 K = P := hP.symm
              have p2 : sx.extract 0 K = P := by rw [hP, ht4]
              replace hcell := hide hcell
              have hbt : Hid (∀ y, Below x2.heap.size x2 y → y.cell? ⟨bc, 0, none⟩ = some (.string ck) ∧ y.cell? ⟨bc, 1, none⟩ = some (.int .i64 (tt : Int)) ∧ y.cell? ⟨bc, 2, none⟩ = some (.int .i64 cb')) := hide (fun y hy => by
                have bx := BD.out.on hy
                exact ⟨bx.cell 0, by rw [← ht1]; exact bx.cell 1, bx.cell 2⟩)
              obtain ⟨b0, b1, b2⟩ := hbt.out _ hb2.out
              obtain ⟨q1, q2⟩ := hcell.out _ hb2.out
              have d0 : decide ((tt : Int) < 0) = false := by simp
              have d60 : decide (60 ≤ (tt : Int)) = false := by simp; omega
              have dn2 : decide ((n2 : Int) ≤ (tt : Int)) = false := by simp; omega
              have hns0 : (ns : Int) ≠ 0 := by omega
              have hns00 : ¬ ns = 0 := by omega
              have hcbt : Hid (ct = (tt : Int)) := hide ht1
              clear hwb ht1 ht2 ht3 ht4 htc hLi hsx hof hN hv f0 f1 ho ht3' hP hj hK
              go_wp2_with fail
              refine zir [] (fun y => y.cell? ⟨bc, 1, none⟩ = some (.int .i64 (tt : Int)) ∧ y.cell? ⟨b, off + tt * 7 + 2, none⟩ = some (.int .u8 (v : Int))) (by kernel_rfl) ⟨(hbt.out _ hb2.out.drew).2.1, (hcell.out _ hb2.out.drew).2⟩ (fun hHeld => ?_)
              replace hb2 := hide hb2.out.drew
              clear b0 b1 b2 q1 q2
              generalize wr.drew = u1 at *
              refine zit 0 ?_ rfl (by kernel_rfl) (fun _ _ _ h => h) (by rfl) (by assumption) ?_ ?_
              rotate_left
              · intro y hSw
                obtain ⟨t1, t2⟩ := hSw
                go_simp
                try with_reducible rfl
              try simp only [Act.put, zpa, zpb, zpc]
              refine zit 1 ?_ rfl (by kernel_rfl) (fun _ _ _ h => h) (by rfl) (by assumption) ?_ ?_
              rotate_left
              · intro y hSw
                obtain ⟨t1, t2⟩ := hSw
                go_simp
                try with_reducible rfl
              try simp only [Act.put, zpa, zpb, zpc]
              refine zit 2 ?_ rfl (by kernel_rfl) (fun _ _ _ h => h) (by rfl) (by assumption) ?_ ?_
              rotate_left
              · intro y hSw
                obtain ⟨t1, t2⟩ := hSw
                go_simp
                try with_reducible rfl
              try simp only [Act.put, zpa, zpb, zpc]
              refine zit 3 ?_ rfl (by kernel_rfl) (fun _ _ _ h => h) (by rfl) (by assumption) ?_ ?_
              rotate_left
              · intro y hSw
                obtain ⟨t1, t2⟩ := hSw
                go_simp
                try with_reducible rfl
              try simp only [Act.put, zpa, zpb, zpc]
              refine zit 4 ?_ rfl (by kernel_rfl) (fun _ _ _ h => h) (by rfl) (by assumption) ?_ ?_
              rotate_left
              · intro y hSw
                obtain ⟨t1, t2⟩ := hSw
                go_simp
                try with_reducible rfl
              try simp only [Act.put, zpa, zpb, zpc]
              refine zit 5 ?_ rfl (by kernel_rfl) (fun _ _ _ h => h) (by rfl) (by assumption) ?_ ?_
              rotate_left
              · intro y hSw
                obtain ⟨t1, t2⟩ := hSw
                go_simp
                try with_reducible rfl
              try simp only [Act.put, zpa, zpb, zpc]
              refine zit 6 ?_ rfl (by kernel_rfl) (fun _ _ _ h => h) (by rfl) (by assumption) ?_ ?_
              rotate_left
              · intro y hSw
                obtain ⟨t1, t2⟩ := hSw
                go_simp
                try with_reducible rfl
              try simp only [Act.put, zpa, zpb, zpc]
              refine zit 7 ?_ rfl (by kernel_rfl) (fun _ _ _ h => h) (by rfl) (by assumption) ?_ ?_
              rotate_left
              · intro y hSw
                obtain ⟨t1, t2⟩ := hSw
                go_simp
                try with_reducible rfl
              try simp only [Act.put, zpa, zpb, zpc]
              refine zit 8 ?_ rfl (by kernel_rfl) (fun _ _ _ h => h) (by rfl) (by assumption) ?_ ?_
              rotate_left
              · intro y hSw
                obtain ⟨t1, t2⟩ := hSw
                go_simp
                try with_reducible rfl
              try simp only [Act.put, zpa, zpb, zpc]
              refine zit 10 ?_ rfl (by kernel_rfl) (fun _ _ _ h => h) (by rfl) (by assumption) ?_ ?_
              rotate_left
              · intro y hSw
                obtain ⟨t1, t2⟩ := hSw
                go_simp
                try with_reducible rfl
              try simp only [Act.put, zpa, zpb, zpc]
              refine zib 9 rfl (by kernel_rfl) (fun K hK => ?_)
              go_simp
              refine (csec _).mono ?_
              rintro q u2 ⟨rfl, h2⟩
              replace hb2 := hide (onto hb2.out (Nat.le_refl _) h2)
              have hH := And.intro (hbt.out _ hb2.out).2.1 (hcell.out _ hb2.out).2
              clear h2 csec
              go_wp2_with fail
              refine hK.out _ _ (hH) (fun hHeld => ?_)
              clear hK K
              try simp only [Act.put, zpa, zpb, zpc]
              clear hH
              refine zit 11 ?_ rfl (by kernel_rfl) (fun _ _ _ h => h) (by rfl) (by assumption) ?_ ?_
              rotate_left
              · intro y hSw
                skip
                go_simp
                try with_reducible rfl
              try simp only [Act.put, zpa, zpb, zpc]
              refine zit 12 ?_ rfl (by kernel_rfl) (fun _ _ _ h => h) (by rfl) (by assumption) ?_ ?_
              rotate_left
              · intro y hSw
                skip
                go_simp
                try with_reducible rfl
              try simp only [Act.put, zpa, zpb, zpc]
              refine zid (by kernel_rfl) ?_ _
              clear hHeld
              go_wp2
              go_roundw
              case rel => exact ⟨s + 1, 1, by omega, by go_num, rfl, hb2, hide (by have := htc2.out; simpa using this)⟩
              case measure => simp [intOf]; omega
        · obtain rfl : s = ns := by omega
          have htc1 : tc ≤ 1 := by
            rcases htc.out with h' | ⟨h', -⟩ <;> omega
          have dtc : decide ((tc : Int) ≤ 1) = true := by simp; omega
          have htc1i : (tc : Int) ≤ 1 := by omega
          have hbf := hide (g0.out.trans (hb.out.mono g0.out.size))
          clear htc h hb
          go_wp2_with fail
          refine (hfix.out _).mono ?_
          rintro q y6 ⟨rfl, h6⟩
          replace hbf := hide (onto hbf.out (Nat.le_refl _) h6)
          clear h6
          go_wp2
          go_ret
          exact ⟨rfl, hbf.out⟩

end Go.Proofs.Ytkihjlmhidhjcaa
