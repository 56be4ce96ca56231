/- Layer 18: a call of a script, on both disks. -/
import Derived.Test.YtkihjlmhidhjcaaDkTwo
namespace Go.Proofs.Ytkihjlmhidhjcaa
open Go.RowKit
set_option linter.unusedVariables false
set_option maxRecDepth 100000
set_option linter.unusedSimpArgs false

set_option maxHeartbeats 8000000 in
set_option maxRecDepth 100000 in
theorem does_any {B : Nat} {y : World} {db rb : Nat} {d : Dk} (T : Two B (fun _ => False) y db rb d d) (hB : B ≤ y.heap.size) (hm : d.m < 1000000) (hL : d.L.length < 1000) (o : Dc) (ho : o.Ok) :
    Calls Try.prog 23 #[.pointer (some ⟨db, 0, none⟩), .pointer (some ⟨rb, 0, none⟩), .agg (listD o).toArray] y fun q x => q = .returned (.bool true) ∧ Two B (fun _ => False) x db rb (o.step d) (o.step d) ∧ Below B y x := by
  obtain ⟨k, n, f, m, ⟨ck, ct, cb⟩⟩ := o
  obtain ⟨⟨k0, k1⟩, ⟨n0, n1⟩, ⟨f0, f1⟩, ⟨m0, m1⟩, cok⟩ := ho
  obtain ⟨v, rfl⟩ : ∃ v : Nat, f = (v : Int) := ⟨f.toNat, by simp at f0; omega⟩
  have hv : v < 256 := by simp at f1; omega
  have T1 := T.made (.cells #[.int .i64 k, .int .i64 n, .int .u8 (v : Int), .int .i64 m, .string ck, .int .i64 ct, .int .i64 cb] 40)
  have BX := Box.new y #[.int .i64 k, .int .i64 n, .int .u8 (v : Int), .int .i64 m, .string ck, .int .i64 ct, .int .i64 cb] 40
  have K1 := Keep.of (X := fun k => k = y.heap.size) hB (grow y (.cells #[.int .i64 k, .int .i64 n, .int .u8 (v : Int), .int .i64 m, .string ck, .int .i64 ct, .int .i64 cb] 40))
  simp only at k0 k1 n0 n1 m0 m1
  have hck : Hid (Crs.Fits ⟨ck, ct, cb⟩) := hide cok.k
  clear T f0 f1 cok
  replace T1 := hide T1
  replace BX := hide BX
  replace K1 := hide K1
  simp only [listD]
  by_cases e0 : k = 0
  · subst e0
    go_enter Try.func23, Try.ntmps23
    go_wp2_with fail
    generalize y.alloc (.cells #[.int .i64 0, .int .i64 n, .int .u8 (v : Int), .int .i64 m, .string ck, .int .i64 ct, .int .i64 cb] 40) = y1 at *
    have hB1 : B ≤ y1.heap.size := Nat.le_trans hB K1.out.b.size
    have hst : Hid ((⟨0, n, (v : Int), m, ⟨ck, ct, cb⟩⟩ : Dc).step d = d) := hide (by simp [Dc.step])
    have cc := two_lp T1.out hB1 (fun F D => dread_any D n)
    obtain ⟨S, hS⟩ : ∃ S, S = d.told n := ⟨_, rfl⟩
    obtain ⟨E, hE⟩ : ∃ E, E = d.errAt n := ⟨_, rfl⟩
    rw [← hS, ← hE] at cc
    refine cc.mono ?_
    rintro q y2 ⟨rfl, T2, K2'⟩
    have BX2 := hide (BX.out.of_heap (K2'.x _ rfl BX.out.2.2))
    have hB2 : B ≤ y2.heap.size := Nat.le_trans hB1 K2'.b.size
    have K2 := hide (K1.out.trans K2')
    have cd := two_lr T2 hB2 (fun G lv lw R => (rread_any R n).mono (fun q x h => ⟨h.1, by rw [h.2]; exact Below.refl _ _⟩))
    rw [← hS, ← hE] at cd
    have b1 : y2.cell? ⟨y.heap.size, 1, none⟩ = some (.int .i64 n) := BX2.out.cell 1
    clear cc T1 BX K1 K2' T2 hS hE
    go_wp2_with fail
    refine cd.mono ?_
    rintro q y3 ⟨rfl, T3, K3⟩
    have fin := hide (And.intro (T3.less (Y := fun _ => False) (fun _ h => h.elim)) (K2.out.trans K3).b)
    clear cd T3 K3 BX2 K2
    go_wp2
    go_ret
    exact ⟨rfl, by rw [hst.out]; exact fin.out.1, fin.out.2⟩
  · by_cases e1 : k = 1
    · subst e1
      go_enter Try.func23, Try.ntmps23
      go_wp2_with fail
      generalize y.alloc (.cells #[.int .i64 1, .int .i64 n, .int .u8 (v : Int), .int .i64 m, .string ck, .int .i64 ct, .int .i64 cb] 40) = y1 at *
      have hB1 : B ≤ y1.heap.size := Nat.le_trans hB K1.out.b.size
      have hst : Hid ((⟨1, n, (v : Int), m, ⟨ck, ct, cb⟩⟩ : Dc).step d = d.wrote n (secT v m)) := hide (by simp [Dc.step])
      have cs := fun w => sector_any v m hv w
      obtain ⟨s, hs⟩ : ∃ s, s = secT v m := ⟨_, rfl⟩
      rw [← hs] at cs hst
      obtain ⟨E, hE⟩ : ∃ E, E = d.errW n s := ⟨_, rfl⟩
      clear hs
      refine zir [] (fun y' => Box y' y.heap.size #[.int .i64 1, .int .i64 n, .int .u8 (v : Int), .int .i64 m, .string ck, .int .i64 ct, .int .i64 cb]) (by kernel_rfl) BX.out.drew (fun hHeld => ?_)
      replace T1 := hide (T1.out.on (Below.refl y1.heap.size y1).drew)
      replace K1 := hide (K1.out.trans (Keep.of hB1 (Below.refl y1.heap.size y1).drew))
      replace hB1 : B ≤ y1.drew.heap.size := hB1
      clear BX
      generalize y1.drew = x1 at *
      refine zit 0 ?_ rfl (by kernel_rfl) (fun _ _ _ h => h) (by rfl) (by assumption) ?_ ?_
      rotate_left
      · intro y hSw
        have q1 := hSw.cell 1; have q2 := hSw.cell 2; have q3 := hSw.cell 3
        go_simp
        try with_reducible rfl
      try simp only [Act.put, zpa, zpb, zpc]
      refine zit 1 ?_ rfl (by kernel_rfl) (fun _ _ _ h => h) (by rfl) (by assumption) ?_ ?_
      rotate_left
      · intro y hSw
        have q1 := hSw.cell 1; have q2 := hSw.cell 2; have q3 := hSw.cell 3
        go_simp
        try with_reducible rfl
      try simp only [Act.put, zpa, zpb, zpc]
      refine zit 2 ?_ rfl (by kernel_rfl) (fun _ _ _ h => h) (by rfl) (by assumption) ?_ ?_
      rotate_left
      · intro y hSw
        have q1 := hSw.cell 1; have q2 := hSw.cell 2; have q3 := hSw.cell 3
        go_simp
        try with_reducible rfl
      try simp only [Act.put, zpa, zpb, zpc]
      refine zit 3 ?_ rfl (by kernel_rfl) (fun _ _ _ h => h) (by rfl) (by assumption) ?_ ?_
      rotate_left
      · intro y hSw
        have q1 := hSw.cell 1; have q2 := hSw.cell 2; have q3 := hSw.cell 3
        go_simp
        try with_reducible rfl
      try simp only [Act.put, zpa, zpb, zpc]
      refine zit 4 ?_ rfl (by kernel_rfl) (fun _ _ _ h => h) (by rfl) (by assumption) ?_ ?_
      rotate_left
      · intro y hSw
        have q1 := hSw.cell 1; have q2 := hSw.cell 2; have q3 := hSw.cell 3
        go_simp
        try with_reducible rfl
      try simp only [Act.put, zpa, zpb, zpc]
      refine zit 5 ?_ rfl (by kernel_rfl) (fun _ _ _ h => h) (by rfl) (by assumption) ?_ ?_
      rotate_left
      · intro y hSw
        have q1 := hSw.cell 1; have q2 := hSw.cell 2; have q3 := hSw.cell 3
        go_simp
        try with_reducible rfl
      try simp only [Act.put, zpa, zpb, zpc]
      refine zit 6 ?_ rfl (by kernel_rfl) (fun _ _ _ h => h) (by rfl) (by assumption) ?_ ?_
      rotate_left
      · intro y hSw
        have q1 := hSw.cell 1; have q2 := hSw.cell 2; have q3 := hSw.cell 3
        go_simp
        try with_reducible rfl
      try simp only [Act.put, zpa, zpb, zpc]
      refine zib 7 rfl (by kernel_rfl) (fun K hK => ?_)
      go_simp
      refine (cs _).mono ?_
      rintro q x2 ⟨rfl, h2⟩
      replace T1 := hide (T1.out.on h2)
      replace K1 := hide (K1.out.trans (Keep.of hB1 h2))
      replace hB1 := Nat.le_trans hB1 h2.size
      have hH2 := hHeld.on h2
      clear h2
      go_wp2_with fail
      refine hK.out _ _ (hH2) (fun hHeld => ?_)
      clear hK K
      try simp only [Act.put, zpa, zpb, zpc]
      refine zib 8 rfl (by kernel_rfl) (fun K hK => ?_)
      have cc := two_p T1.out hB1 (fun F D => dwrite_any D hm hL n s)
      rw [← hE] at cc
      go_simp
      refine cc.mono ?_
      rintro q y2 ⟨rfl, T2, K2'⟩
      have BX2 := hide (hHeld.of_heap (K2'.x _ rfl hHeld.2.2))
      have hB2 : B ≤ y2.heap.size := Nat.le_trans hB1 K2'.b.size
      have K2 := hide (K1.out.trans K2')
      replace T2 := hide T2
      clear cc T1 K1 K2' hH2
      go_wp2_with fail
      refine hK.out _ _ (BX2.out) (fun hHeld => ?_)
      clear hK K
      try simp only [Act.put, zpa, zpb, zpc]
      refine zit 9 ?_ rfl (by kernel_rfl) (fun _ _ _ h => h) (by rfl) (by assumption) ?_ ?_
      rotate_left
      · intro y hSw
        skip
        go_simp
        try with_reducible rfl
      try simp only [Act.put, zpa, zpb, zpc]
      refine zid (by kernel_rfl) ?_ _
      go_wp2_with fail
      refine zir [] (fun y' => Box y' y.heap.size #[.int .i64 1, .int .i64 n, .int .u8 (v : Int), .int .i64 m, .string ck, .int .i64 ct, .int .i64 cb]) (by kernel_rfl) BX2.out.drew (fun hHeld => ?_)
      replace T2 := hide (T2.out.on (Below.refl y2.heap.size y2).drew)
      replace K2 := hide (K2.out.trans (Keep.of hB2 (Below.refl y2.heap.size y2).drew))
      replace hB2 : B ≤ y2.drew.heap.size := hB2
      clear BX2
      generalize y2.drew = x3 at *
      refine zit 0 ?_ rfl (by kernel_rfl) (fun _ _ _ h => h) (by rfl) (by assumption) ?_ ?_
      rotate_left
      · intro y hSw
        have q1 := hSw.cell 1; have q2 := hSw.cell 2; have q3 := hSw.cell 3
        go_simp
        try with_reducible rfl
      try simp only [Act.put, zpa, zpb, zpc]
      refine zit 1 ?_ rfl (by kernel_rfl) (fun _ _ _ h => h) (by rfl) (by assumption) ?_ ?_
      rotate_left
      · intro y hSw
        have q1 := hSw.cell 1; have q2 := hSw.cell 2; have q3 := hSw.cell 3
        go_simp
        try with_reducible rfl
      try simp only [Act.put, zpa, zpb, zpc]
      refine zit 2 ?_ rfl (by kernel_rfl) (fun _ _ _ h => h) (by rfl) (by assumption) ?_ ?_
      rotate_left
      · intro y hSw
        have q1 := hSw.cell 1; have q2 := hSw.cell 2; have q3 := hSw.cell 3
        go_simp
        try with_reducible rfl
      try simp only [Act.put, zpa, zpb, zpc]
      refine zit 3 ?_ rfl (by kernel_rfl) (fun _ _ _ h => h) (by rfl) (by assumption) ?_ ?_
      rotate_left
      · intro y hSw
        have q1 := hSw.cell 1; have q2 := hSw.cell 2; have q3 := hSw.cell 3
        go_simp
        try with_reducible rfl
      try simp only [Act.put, zpa, zpb, zpc]
      refine zit 4 ?_ rfl (by kernel_rfl) (fun _ _ _ h => h) (by rfl) (by assumption) ?_ ?_
      rotate_left
      · intro y hSw
        have q1 := hSw.cell 1; have q2 := hSw.cell 2; have q3 := hSw.cell 3
        go_simp
        try with_reducible rfl
      try simp only [Act.put, zpa, zpb, zpc]
      refine zit 5 ?_ rfl (by kernel_rfl) (fun _ _ _ h => h) (by rfl) (by assumption) ?_ ?_
      rotate_left
      · intro y hSw
        have q1 := hSw.cell 1; have q2 := hSw.cell 2; have q3 := hSw.cell 3
        go_simp
        try with_reducible rfl
      try simp only [Act.put, zpa, zpb, zpc]
      refine zit 6 ?_ rfl (by kernel_rfl) (fun _ _ _ h => h) (by rfl) (by assumption) ?_ ?_
      rotate_left
      · intro y hSw
        have q1 := hSw.cell 1; have q2 := hSw.cell 2; have q3 := hSw.cell 3
        go_simp
        try with_reducible rfl
      try simp only [Act.put, zpa, zpb, zpc]
      refine zit 7 ?_ rfl (by kernel_rfl) (fun _ _ _ h => h) (by rfl) (by assumption) ?_ ?_
      rotate_left
      · intro y hSw
        have q1 := hSw.cell 1; have q2 := hSw.cell 2; have q3 := hSw.cell 3
        go_simp
        try with_reducible rfl
      try simp only [Act.put, zpa, zpb, zpc]
      refine zib 8 rfl (by kernel_rfl) (fun K hK => ?_)
      go_simp
      refine (cs _).mono ?_
      rintro q x4 ⟨rfl, h2⟩
      replace T2 := hide (T2.out.on h2)
      replace K2 := hide (K2.out.trans (Keep.of hB2 h2))
      replace hB2 := Nat.le_trans hB2 h2.size
      have hH2 := hHeld.on h2
      clear h2
      go_wp2_with fail
      refine hK.out _ _ (hH2) (fun hHeld => ?_)
      clear hK K
      try simp only [Act.put, zpa, zpb, zpc]
      refine zib 9 rfl (by kernel_rfl) (fun K hK => ?_)
      have cd := two_r (t := d.wrote n s) T2.out hB2 (fun G lv lw R => (rwrite_any R hm hL n s).mono (fun q x h => ⟨h.1, by obtain ⟨-, lv', lw', R', -⟩ := h; exact ⟨lv', lw', R'⟩, by obtain ⟨-, lv', lw', -, T'⟩ := h; exact T'⟩))
      rw [← hE] at cd
      go_simp
      refine cd.mono ?_
      rintro q y3 ⟨rfl, T3, K3⟩
      have BX3 := hHeld.of_heap (K3.x _ rfl hHeld.2.2)
      have fin := hide (And.intro (T3.less (Y := fun _ => False) (fun _ h => h.elim)) (K2.out.trans K3).b)
      clear cd T3 K3 K2 T2 hH2
      go_wp2_with fail
      refine hK.out _ _ (BX3) (fun hHeld => ?_)
      clear hK K
      try simp only [Act.put, zpa, zpb, zpc]
      refine zit 10 ?_ rfl (by kernel_rfl) (fun _ _ _ h => h) (by rfl) (by assumption) ?_ ?_
      rotate_left
      · intro y hSw
        skip
        go_simp
        try with_reducible rfl
      try simp only [Act.put, zpa, zpb, zpc]
      refine zit 11 ?_ rfl (by kernel_rfl) (fun _ _ _ h => h) (by rfl) (by assumption) ?_ ?_
      rotate_left
      · intro y hSw
        skip
        go_simp
        try with_reducible rfl
      try simp only [Act.put, zpa, zpb, zpc]
      refine zid (by kernel_rfl) ?_ _
      go_wp2
      go_ret
      exact ⟨rfl, by rw [hst.out]; exact fin.out.1, fin.out.2⟩
    · by_cases e2 : k = 2
      · subst e2
        go_enter Try.func23, Try.ntmps23
        go_wp2_with fail
        generalize y.alloc (.cells #[.int .i64 2, .int .i64 n, .int .u8 (v : Int), .int .i64 m, .string ck, .int .i64 ct, .int .i64 cb] 40) = y1 at *
        have hB1 : B ≤ y1.heap.size := Nat.le_trans hB K1.out.b.size
        have hst : Hid ((⟨2, n, (v : Int), m, ⟨ck, ct, cb⟩⟩ : Dc).step d = d.flush) := hide (by simp [Dc.step])
        have cc := two_p T1.out hB1 (fun F D => dflush_any D hm)
        obtain ⟨E, hE⟩ : ∃ E, E = d.errF := ⟨_, rfl⟩
        rw [← hE] at cc
        refine cc.mono ?_
        rintro q y2 ⟨rfl, T2, K2'⟩
        have BX2 := hide (BX.out.of_heap (K2'.x _ rfl BX.out.2.2))
        have hB2 : B ≤ y2.heap.size := Nat.le_trans hB1 K2'.b.size
        have K2 := hide (K1.out.trans K2')
        have cd := two_r (t := d.flush) T2 hB2 (fun G lv lw R => (rflush_any R hm).mono (fun q x h => ⟨h.1, by obtain ⟨-, lv', lw', R', -⟩ := h; exact ⟨lv', lw', R'⟩, by obtain ⟨-, lv', lw', -, T'⟩ := h; exact T'⟩))
        rw [← hE] at cd
        clear cc T1 BX K1 K2' T2 hE
        go_wp2_with fail
        refine cd.mono ?_
        rintro q y3 ⟨rfl, T3, K3⟩
        have fin := hide (And.intro (T3.less (Y := fun _ => False) (fun _ h => h.elim)) (K2.out.trans K3).b)
        clear cd T3 K3 BX2 K2
        go_wp2
        go_ret
        exact ⟨rfl, by rw [hst.out]; exact fin.out.1, fin.out.2⟩
      · by_cases e3 : k = 3
        · subst e3
          go_enter Try.func23, Try.ntmps23
          go_wp2_with fail
          generalize y.alloc (.cells #[.int .i64 3, .int .i64 n, .int .u8 (v : Int), .int .i64 m, .string ck, .int .i64 ct, .int .i64 cb] 40) = y1 at *
          have hB1 : B ≤ y1.heap.size := Nat.le_trans hB K1.out.b.size
          have hst : Hid ((⟨3, n, (v : Int), m, ⟨ck, ct, cb⟩⟩ : Dc).step d = d.armed n ⟨ck, ct, cb⟩) := hide (by simp [Dc.step])
          have cc := two_p T1.out hB1 (fun F D => darm_any D n n1 ⟨ck, ct, cb⟩ hck.out)
          obtain ⟨E, hE⟩ : ∃ E, E = d.errA n := ⟨_, rfl⟩
          rw [← hE] at cc
          refine cc.mono ?_
          rintro q y2 ⟨rfl, T2, K2'⟩
          have BX2 := hide (BX.out.of_heap (K2'.x _ rfl BX.out.2.2))
          have hB2 : B ≤ y2.heap.size := Nat.le_trans hB1 K2'.b.size
          have K2 := hide (K1.out.trans K2')
          have cd := two_r (t := d.armed n ⟨ck, ct, cb⟩) T2 hB2 (fun G lv lw R => (rarm_any R n n1 ⟨ck, ct, cb⟩).mono (fun q x h => ⟨h.1, ⟨_, _, h.2.1.mono (fun k h _ => .inl h)⟩, h.2.2⟩))
          rw [← hE] at cd
          have b1 : y2.cell? ⟨y.heap.size, 1, none⟩ = some (.int .i64 n) := BX2.out.cell 1
          have b4 : y2.cell? ⟨y.heap.size, 4, none⟩ = some (.string ck) := BX2.out.cell 4
          have b5 : y2.cell? ⟨y.heap.size, 5, none⟩ = some (.int .i64 ct) := BX2.out.cell 5
          have b6 : y2.cell? ⟨y.heap.size, 6, none⟩ = some (.int .i64 cb) := BX2.out.cell 6
          clear cc T1 BX K1 K2' T2 hE
          go_wp2_with fail
          refine cd.mono ?_
          rintro q y3 ⟨rfl, T3, K3⟩
          have fin := hide (And.intro (T3.less (Y := fun _ => False) (fun _ h => h.elim)) (K2.out.trans K3).b)
          clear cd T3 K3 BX2 K2
          go_wp2
          go_ret
          exact ⟨rfl, by rw [hst.out]; exact fin.out.1, fin.out.2⟩
        · by_cases e4 : k = 4
          · subst e4
            go_enter Try.func23, Try.ntmps23
            go_wp2_with fail
            generalize y.alloc (.cells #[.int .i64 4, .int .i64 n, .int .u8 (v : Int), .int .i64 m, .string ck, .int .i64 ct, .int .i64 cb] 40) = y1 at *
            have hB1 : B ≤ y1.heap.size := Nat.le_trans hB K1.out.b.size
            have hst : Hid ((⟨4, n, (v : Int), m, ⟨ck, ct, cb⟩⟩ : Dc).step d = d.crash ⟨ck, ct, cb⟩) := hide (by simp [Dc.step])
            have cc := two_p T1.out hB1 (fun F D => dcrash_any D ⟨ck, ct, cb⟩ hck.out)
            obtain ⟨E, hE⟩ : ∃ E, E = d.errC := ⟨_, rfl⟩
            rw [← hE] at cc
            refine cc.mono ?_
            rintro q y2 ⟨rfl, T2, K2'⟩
            have BX2 := hide (BX.out.of_heap (K2'.x _ rfl BX.out.2.2))
            have hB2 : B ≤ y2.heap.size := Nat.le_trans hB1 K2'.b.size
            have K2 := hide (K1.out.trans K2')
            have cd := two_r (t := d.crash ⟨ck, ct, cb⟩) T2 hB2 (fun G lv lw R => (rcrash_any R ⟨ck, ct, cb⟩).mono (fun q x h => ⟨h.1, by obtain ⟨-, lv', lw', R', -⟩ := h; exact ⟨lv', lw', R'⟩, by obtain ⟨-, lv', lw', -, T'⟩ := h; exact T'⟩))
            rw [← hE] at cd
            have b4 : y2.cell? ⟨y.heap.size, 4, none⟩ = some (.string ck) := BX2.out.cell 4
            have b5 : y2.cell? ⟨y.heap.size, 5, none⟩ = some (.int .i64 ct) := BX2.out.cell 5
            have b6 : y2.cell? ⟨y.heap.size, 6, none⟩ = some (.int .i64 cb) := BX2.out.cell 6
            clear cc T1 BX K1 K2' T2 hE
            go_wp2_with fail
            refine cd.mono ?_
            rintro q y3 ⟨rfl, T3, K3⟩
            have fin := hide (And.intro (T3.less (Y := fun _ => False) (fun _ h => h.elim)) (K2.out.trans K3).b)
            clear cd T3 K3 BX2 K2
            go_wp2
            go_ret
            exact ⟨rfl, by rw [hst.out]; exact fin.out.1, fin.out.2⟩
          · by_cases e5 : k = 5
            · subst e5
              go_enter Try.func23, Try.ntmps23
              go_wp2_with fail
              generalize y.alloc (.cells #[.int .i64 5, .int .i64 n, .int .u8 (v : Int), .int .i64 m, .string ck, .int .i64 ct, .int .i64 cb] 40) = y1 at *
              have hB1 : B ≤ y1.heap.size := Nat.le_trans hB K1.out.b.size
              have hst : Hid ((⟨5, n, (v : Int), m, ⟨ck, ct, cb⟩⟩ : Dc).step d = d.revived) := hide (by simp [Dc.step])
              have cc := two_p T1.out hB1 (fun F D => drevive_any D)
              refine cc.mono ?_
              rintro q y2 ⟨rfl, T2, K2'⟩
              have BX2 := hide (BX.out.of_heap (K2'.x _ rfl BX.out.2.2))
              have hB2 : B ≤ y2.heap.size := Nat.le_trans hB1 K2'.b.size
              have K2 := hide (K1.out.trans K2')
              have cd := two_r (t := d.revived) T2 hB2 (fun G lv lw R => (rrevive_any R).mono (fun q x h => ⟨h.1, ⟨_, _, h.2.1.mono (fun k h _ => .inl h)⟩, h.2.2⟩))
              clear cc T1 BX K1 K2' T2
              go_wp2_with fail
              refine cd.mono ?_
              rintro q y3 ⟨rfl, T3, K3⟩
              have fin := hide (And.intro (T3.less (Y := fun _ => False) (fun _ h => h.elim)) (K2.out.trans K3).b)
              clear cd T3 K3 BX2 K2
              go_wp2
              go_ret
              exact ⟨rfl, by rw [hst.out]; exact fin.out.1, fin.out.2⟩
            · have hst : Hid ((⟨k, n, (v : Int), m, ⟨ck, ct, cb⟩⟩ : Dc).step d = d) := hide (by simp [Dc.step, e1, e2, e3, e4, e5])
              go_enter Try.func23, Try.ntmps23
              go_wp2
              go_ret
              exact ⟨rfl, by rw [hst.out]; exact T1.out.less (fun _ h => h.elim), K1.out.b⟩

/-- A call on a third disk, whose blocks are of neither. -/
theorem two_aside {B : Nat} {F : Nat → Prop} {y : World} {db cb rb f : Nat} {args : Array Value} {r : Value} {d e t t' : Dk} (h : Two B F y cb rb d e) (D : POwn B F y db t) (hB : B ≤ y.heap.size)
    (hc : Calls Try.prog f args y fun q x => q = .returned r ∧ PD x (fun k => F k ∨ y.heap.size ≤ k) db t' ∧ Turn F y x) :
    Calls Try.prog f args y fun q x => q = .returned r ∧ Two B (more F y x) x cb rb d e ∧ POwn B (more F y x) x db t' ∧ Below B y x := by
  obtain ⟨A, G, h1, h2, h3, h4⟩ := h.ex
  refine hc.mono ?_
  rintro q x ⟨rfl, D', T⟩
  refine ⟨rfl, ⟨A, G, h1.far T fun k ha hf => (h4 k hf).2.1 ha, h2.far T fun k hg hf => (h4 k hf).2.2 hg, h3, fun k hk => ⟨hk.2, fun ha => ?_, fun hg => ?_⟩⟩, D.turn hB D', T.below hB fun k hk => (D.2 k hk).1⟩
  · rcases hk.1 with h' | h'
    · exact (h4 k h').2.1 ha
    · have := (h1.2 k ha).2; omega
  · rcases hk.1 with h' | h'
    · exact (h4 k h').2.2 hg
    · have := (h2.2 k hg).2; omega

/-- A clone of the program's disk, beside the document's; the one that was is a third. -/
theorem two_clone {B : Nat} {y : World} {db rb : Nat} {d e : Dk} (h : Two B (fun _ => False) y db rb d e) (hB : B ≤ y.heap.size) :
    Calls Try.prog 18 #[.pointer (some ⟨db, 0, none⟩)] y fun q x => ∃ cb F, q = .returned (.pointer (some ⟨cb, 0, none⟩)) ∧ Two B F x cb rb d e ∧ POwn B F x db d ∧ Below B y x := by
  obtain ⟨A, G, h1, h2, h3, h4⟩ := h.ex
  refine (dclone_any h1.1).mono ?_
  rintro q x ⟨cb, rfl, D, hb⟩
  refine ⟨cb, A, rfl, ⟨fun k => y.heap.size ≤ k ∧ k < x.heap.size, G, ⟨D.mono fun k h hl => ⟨h, hl⟩, fun k hk => ⟨by omega, hk.2⟩⟩, h2.on hb, fun k hk hg => ?_, fun k hk => ⟨Nat.lt_of_lt_of_le (h1.2 k hk).2 hb.size, fun hf => ?_, h3 k hk⟩⟩, h1.on hb, hb.mono hB⟩
  · have := (h2.2 k hg).2; omega
  · have := (h1.2 k hk).2; omega

/-- A call on one disk of several. -/
theorem one_p {B : Nat} {F : Nat → Prop} {y : World} {db f : Nat} {args : Array Value} {r : Value} {d t : Dk} (h : POwn B F y db d) (hB : B ≤ y.heap.size)
    (hc : PD y F db d → Calls Try.prog f args y fun q x => q = .returned r ∧ PD x (fun k => F k ∨ y.heap.size ≤ k) db t ∧ Turn F y x) :
    Calls Try.prog f args y fun q x => q = .returned r ∧ POwn B (more F y x) x db t ∧ Turn F y x ∧ Below B y x := by
  refine (hc h.1).mono ?_
  rintro q x ⟨rfl, D, T⟩
  exact ⟨rfl, h.turn hB D, T, T.below hB fun k hk => (h.2 k hk).1⟩
theorem one_clone {B : Nat} {F : Nat → Prop} {y : World} {db : Nat} {d : Dk} (h : POwn B F y db d) (hB : B ≤ y.heap.size) :
    Calls Try.prog 18 #[.pointer (some ⟨db, 0, none⟩)] y fun q x => ∃ cb, q = .returned (.pointer (some ⟨cb, 0, none⟩)) ∧ POwn B (fun k => y.heap.size ≤ k ∧ k < x.heap.size) x cb d ∧ Below y.heap.size y x := by
  refine (dclone_any h.1).mono ?_
  rintro q x ⟨cb, rfl, D, hb⟩
  exact ⟨cb, rfl, ⟨D.mono fun k h hl => ⟨h, hl⟩, fun k hk => ⟨by omega, hk.2⟩⟩, hb⟩

/-- How much a call may make of it. -/
theorem wrote_small (d : Dk) (n : Int) (s : ByteArray) : (d.wrote n s).m ≤ d.m + 1 ∧ (d.wrote n s).L.length ≤ d.L.length + 1 := by
  unfold Dk.wrote
  split
  · exact ⟨Nat.le_succ _, Nat.le_succ _⟩
  · unfold Dk.stepped
    split
    · simp [Dk.crashed]
    · simp
theorem flush_small (d : Dk) : d.flush.m ≤ d.m + 1 ∧ d.flush.L.length ≤ d.L.length := by
  unfold Dk.flush
  split
  · exact ⟨Nat.le_succ _, Nat.le_refl _⟩
  · unfold Dk.stepped
    split
    · simp [Dk.crashed]
    · simp [Dk.flushed]
theorem step_small (o : Dc) (d : Dk) : (o.step d).m ≤ d.m + 1 ∧ (o.step d).L.length ≤ d.L.length + 1 := by
  unfold Dc.step
  split
  · exact wrote_small _ _ _
  · split
    · exact ⟨(flush_small d).1, Nat.le_succ_of_le (flush_small d).2⟩
    · split
      · unfold Dk.armed; split <;> simp
      · split
        · unfold Dk.crash; split <;> simp [Dk.crashed]
        · split
          · simp [Dk.revived]
          · simp

end Go.Proofs.Ytkihjlmhidhjcaa
