/- Layer 18: the program's disk: bytes are opened; loose writes are settled; the power goes; a step. -/
import Derived.Test.YtgffhnggocbjhaaDkPd
namespace Go.Proofs.Ytgffhnggocbjhaa
open Go.RowKit
set_option linter.unusedVariables false
set_option maxRecDepth 100000
set_option linter.unusedSimpArgs false

theorem popen_bad (s : ByteArray) (h : ¬ (s.size % 64 = 0 ∧ 64 ≤ s.size ∧ s.size ≤ 262144)) (hz : s.size ≤ maxLen) (w : World) : Calls Try.prog 30 #[.string s] w fun e w' => e = .returned (.tuple #[.pointer none, .int .i64 180]) ∧ Below w.heap.size w w' := by
  unfold maxLen at hz
  by_cases h1 : s.size % 64 = 0
  · have t1 : (s.size : Int).tmod 64 = 0 := by rw [Int.tmod_eq_emod_of_nonneg (by omega)]; omega
    have t2 : (s.size : Int) % 64 = 0 := by omega
    have cn := fun w => pnew_bad ((s.size : Int) / 64) (by omega) w
    go_enter Try.func30, Try.ntmps30
    go_wp2_with fail
    refine (cn _).mono ?_
    rintro e w' ⟨rfl, rfl⟩
    go_wp2
    go_ret2
    exact ⟨rfl, Below.refl _ _⟩
  · have t1 : ¬ (s.size : Int).tmod 64 = 0 := by rw [Int.tmod_eq_emod_of_nonneg (by omega)]; omega
    have t2 : ¬ (s.size : Int) % 64 = 0 := by omega
    go_enter Try.func30, Try.ntmps30
    go_wp2
    go_ret2
    exact ⟨rfl, Below.refl _ _⟩

set_option maxHeartbeats 1000000 in
theorem popen_any (s : ByteArray) (h : s.size % 64 = 0) (h1 : 64 ≤ s.size) (h2 : s.size ≤ 262144) (w : World) :
    Calls Try.prog 30 #[.string s] w fun e w' => ∃ db sv lv gv, e = .returned (.tuple #[.pointer (some ⟨db, 0, none⟩), .int .i64 0]) ∧ PS w' (fun k => w.heap.size ≤ k) db sv lv gv (openD s) ∧ Below w.heap.size w w' := by
  have t1 : (s.size : Int).tmod 64 = 0 := by rw [Int.tmod_eq_emod_of_nonneg (by omega)]; omega
  have t2 : (s.size : Int) % 64 = 0 := by omega
  obtain ⟨n, hn⟩ : ∃ n, s.size = 64 * n := ⟨s.size / 64, by omega⟩
  have t3 : (s.size : Int) / 64 = (n : Int) := by omega
  have cn := fun w => pnew_any n (by omega) (by omega) w
  obtain ⟨og, oc⟩ := openD_good h h1 h2
  replace og := hide og
  replace oc := hide oc
  replace hn := hide hn
  replace cn := hide cn
  go_enter Try.func30, Try.ntmps30
  go_wp2_with fail
  refine (cn.out _).mono ?_
  replace hn := hn.out
  replace og := og.out
  replace oc := oc.out
  rintro e w1 ⟨db, cap, rfl, P, B1⟩
  have b0 := P.cells.1
  obtain ⟨g', cap', hsv, hgH, hgdb, hgl, hgc, -, -⟩ := P.open
  injection hsv with e1 e2 e3
  clear e2
  injection e1 with e1
  injection e1 with e1
  subst e1 e3
  have hnn : (newD n).S.length = n := by simp [newD]
  have hrow := P.s.1
  rw [hnn] at hrow
  obtain ⟨y, R, O, G, hsz⟩ := own_copy hrow 0 (64 * n) cap s (by omega) (by omega)
  have hx : (Go.Lib.strCells (catT (newD n).S)).length = 64 * n := by rw [strCells_len, catT_size (newD_good (n := n) (by omega) (by omega)).s64, hnn]
  rw [List.take_zero, List.nil_append, List.drop_eq_nil_of_le (by omega), List.append_nil] at O
  have hol : (openD s).S.length = n := by simp [openD, cutT_len]; omega
  have PY : PS y (fun k => w.heap.size ≤ k) db (.slice (some ⟨w.heap.size, 0, none⟩) (64 * n) cap) (.slice none 0 0) .nilFunc (openD s) := by
    refine ⟨P.box.of_heap (G.block db P.box.2.2 (by simp; omega)), ⟨?_, fun k hk => P.s.2 k hk⟩, ⟨World.ownsRow_nil _ _ _ _, fun k hk => by simp [Value.ownBlock] at hk⟩, P.h, og, by simp [openD], by simp [openD], .inl ⟨rfl, rfl⟩⟩
    rw [oc, hol]
    exact O
  have hB : Below w.heap.size w y := B1.grown G B1.size (fun k hk => by cases hk; exact Nat.le_refl _)
  rw [hn] at R
  replace PY := hide PY
  replace hB := hide hB
  replace hnn := hide hnn
  clear P O G hrow cn og oc B1
  go_wp2
  go_ret2
  exact ⟨db, _, _, _, rfl, PY.out, hB.out⟩

/-- The disk's cells are others, its rows are not. -/
theorem PS.turn {w y : World} {H : Nat → Prop} {db : Nat} {sv lv gv gv' : Value} {d d' : Dk} (P : PS w H db sv lv gv d) (B : Box y db (cellsP sv lv gv' d')) (hS : d'.S = d.S) (hL : d'.L = d.L)
    (hfar : ∀ j, j ≠ db → j < w.heap.size → y.heap[j]? = w.heap[j]?) (g : d'.Good) (hm : d'.m ≤ 1000000) (hv : GV gv' d') : PS y H db sv lv gv' d' :=
  ⟨B, by rw [hS]; exact P.s.keep fun k h hl => hfar k h.2 hl, by rw [hL]; exact P.l.keep fun k h hl => hfar k h.2 hl, P.h, g, by rw [hL]; exact P.l6, hm, hv⟩

/-- The call of such a function value. -/
theorem IsStay.call {v : Value} {f : Nat → Nat} (h : IsStay v f) :
    (v = .func (.func 94) #[] #[] → ∀ (k : Nat) (y : World), k ≤ 1000 → Calls Try.prog 94 #[.int .i64 (k : Int)] y fun e y' => e = .returned (.int .i64 ((f k : Nat) : Int)) ∧ Below y.heap.size y y') ∧
    (∀ c, v = .func (.func 58) #[crashV c] #[] → ∀ (k : Nat) (y : World), k ≤ 1000 → Calls Try.prog 58 #[crashV c, .int .i64 (k : Int)] y fun e y' => e = .returned (.int .i64 ((f k : Nat) : Int)) ∧ Below y.heap.size y y') := by
  cases h with
  | whole => exact ⟨fun _ k y _ => (whole_any _ y).mono fun e y' h => ⟨h.1, h.2 ▸ Below.refl _ _⟩, fun c h => by simp at h⟩
  | of c => exact ⟨fun h => by simp at h, fun c' h k y hk => by
      simp [crashV] at h
      obtain ⟨h1, h2, h3⟩ := h
      rw [show c' = c by cases c; cases c'; simp_all]
      exact stays_any c k hk y⟩

set_option maxHeartbeats 4000000 in
set_option maxRecDepth 100000 in
theorem psettle_any {w : World} {H : Nat → Prop} {db : Nat} {sv lv gv : Value} {d : Dk} (P : PS w H db sv lv gv d) {v : Value} {f : Nat → Nat} (hv : IsStay v f) :
    Calls Try.prog 86 #[.pointer (some ⟨db, 0, none⟩), v] w fun e w' => e = .returned (.tuple #[]) ∧ PS w' H db sv (.slice none 0 0) gv { d with S := settleK f d.L d.S d.L.length, L := [] } ∧ Turn H w w' := by
  have b1 := P.cells.2.1
  obtain ⟨a, c, hlv, hc, hm, hl⟩ := P.l.open'
  obtain ⟨l, hll⟩ : ∃ l, l = d.L.length := ⟨_, rfl⟩
  have l6 := P.l6
  rw [hlv] at b1
  rw [← hll] at b1 hc hm l6
  have hgood := hide P.g
  have hHdb := P.h
  obtain ⟨g, cap, hsv, hgH, -⟩ := P.open
  replace hgH := hide hgH
  replace hsv := hide hsv
  replace hll := hide hll
  replace hl := hide hl
  obtain ⟨F, hF⟩ : ∃ F, F = f := ⟨_, rfl⟩
  have P0 : Hid (PS w H db sv lv gv (d.midS F 0)) := hide P
  have hcall := hv.call
  have hle := hv.le
  rw [← hF] at hcall ⊢
  simp only [← hF] at hle
  replace hcall := hide hcall
  replace hle := hide hle
  replace hF := hide hF
  clear P
  cases hv
  all_goals
    go_enter Try.func86, Try.ntmps86
    go_wp2_with fail
    go_loopw [11] (fun i wr => ∃ (k : Nat), k ≤ l ∧ i = .int .i64 (k : Int) ∧ Hid (PS wr H db sv lv gv (d.midS F k)) ∧ Hid (Turn H w wr)) (fun i _ => l - (intOf i).toNat)
    case atStart => exact ⟨0, Nat.zero_le _, rfl, P0, hide (Turn.refl _ _)⟩
    case round =>
      clear P0
      obtain ⟨k, hk, rfl, P, T⟩ := hrel
      obtain ⟨a2, c2, e2, -, -, hl⟩ := P.out.l.open'
      rw [hlv] at e2
      injection e2 with e3 _ e4
      subst e3 e4
      rw [show (d.midS F k).L = d.L from rfl] at hl
      by_cases h : k < l
      · obtain ⟨p, hp⟩ : ∃ p, d.L[k]? = some p := ⟨d.L[k]'(by have := hll.out; omega), List.getElem?_eq_getElem _⟩
        obtain ⟨p0, p1⟩ := looses_at hp
        obtain ⟨g2, rfl, hg2, -, hc0⟩ := hl _ _ p0
        obtain ⟨g3, e3, -, -, hc1⟩ := hl _ _ p1
        injection e3 with e3
        injection e3 with e3
        subst e3
        obtain ⟨pn, hpn⟩ : ∃ pn, Hid (pn = p.1) := ⟨_, hide rfl⟩
        obtain ⟨px, hpx⟩ : ∃ px, Hid (px = p.2) := ⟨_, hide rfl⟩
        rw [← hpn.out] at hc0
        rw [← hpx.out] at hc1
        replace hp := hide hp
        clear p0 p1 hl
        obtain ⟨hp1, hp2⟩ := hgood.out.l64 p (List.mem_of_getElem? hp.out)
        rw [← hpn.out] at hp1
        rw [← hpx.out] at hp2
        have hfk := hle.out k
        have hlen : (d.midS F k).S.length = d.S.length := (settleK_good (f := F) hle.out hgood.out.s64 (fun p hp => (hgood.out.l64 p hp).2) k (by have := hll.out; omega)).1
        have hsv' : sv = .slice (some ⟨g, 0, none⟩) (64 * (d.midS F k).S.length) cap := by rw [hlen]; exact hsv.out
        have cs := fun (y : World) (Py : PS y H db sv lv gv (d.midS F k)) => psector_any Py pn (by omega) hsv'
        have hmid : Hid ({ d.midS F k with S := (d.midS F k).S.set pn (tornT (F k) px ((d.midS F k).S.getD pn T0)) } = d.midS F (k + 1)) := hide (by unfold Dk.midS; rw [settleK_at hp.out, hpn.out, hpx.out])
        have cput := fun (y : World) (Py : PS y H db sv lv gv (d.midS F k)) => (hsv' ▸ Py : PS y H db (.slice (some ⟨g, 0, none⟩) (64 * (d.midS F k).S.length) cap) lv gv (d.midS F k)).put pn (F k) px (by omega) hfk hp2 (cap - 64 * pn)
        have g0 := grow wr (.cells #[.int .i64 (pn : Int), .string px] 80)
        have BC := Box.new wr #[.int .i64 (pn : Int), .string px] 80
        have hfi : (F k : Int) ≤ 64 := by omega
        have hfx : (F k : Int) ≤ (px.size : Int) := by omega
        have hf0 : 0 ≤ (F k : Int) := by omega
        replace cs := hide cs
        replace cput := hide cput
        replace hlen := hide hlen
        replace hsv' := hide hsv'
        replace hp1 := hide hp1
        replace hp2 := hide hp2
        go_wp2_with fail
        obtain ⟨x1, hx1⟩ : ∃ x1, x1 = wr.alloc (.cells #[.int .i64 (pn : Int), .string px] 80) := ⟨_, rfl⟩
        rw [← hx1] at g0 BC ⊢
        obtain ⟨CB, hCB⟩ : ∃ CB, CB = wr.heap.size := ⟨_, rfl⟩
        rw [← hCB] at BC ⊢
        replace hCB := hide hCB
        refine zir [10] (fun y => Box y CB #[.int .i64 (pn : Int), .string px]) (by kernel_rfl) BC.drew (fun hHeld => ?_)
        have P1 := hide ((P.out.on g0).on (Below.refl _ x1).drew)
        have T1 := hide (T.out.trans ((Turn.of g0).trans (Turn.of (Below.refl x1.heap.size x1).drew) (fun b h => .inl h)) (fun b h => .inl h))
        clear BC g0 hx1
        generalize x1.drew = y1 at *
        refine zit 0 ?_ rfl (by kernel_rfl) (fun _ _ _ h => h) (by rfl) (by assumption) ?_ ?_
        rotate_left
        · intro y hSw
          have e0 := hSw.cell 0; have e1 := hSw.cell 1
          go_simp
          try with_reducible rfl
        try simp only [Act.put, zpa, zpb, zpc]
        refine zit 1 ?_ rfl (by kernel_rfl) (fun _ _ _ h => h) (by rfl) (by assumption) ?_ ?_
        rotate_left
        · intro y hSw
          have e0 := hSw.cell 0; have e1 := hSw.cell 1
          go_simp
          try with_reducible rfl
        try simp only [Act.put, zpa, zpb, zpc]
        refine zit 2 ?_ rfl (by kernel_rfl) (fun _ _ _ h => h) (by rfl) (by assumption) ?_ ?_
        rotate_left
        · intro y hSw
          have e0 := hSw.cell 0; have e1 := hSw.cell 1
          go_simp
          try with_reducible rfl
        try simp only [Act.put, zpa, zpb, zpc]
        refine zit 4 ?_ rfl (by kernel_rfl) (fun _ _ _ h => h) (by rfl) (by assumption) ?_ ?_
        rotate_left
        · intro y hSw
          have e0 := hSw.cell 0; have e1 := hSw.cell 1
          go_simp
          try with_reducible rfl
        try simp only [Act.put, zpa, zpb, zpc]
        refine zit 5 ?_ rfl (by kernel_rfl) (fun _ _ _ h => h) (by rfl) (by assumption) ?_ ?_
        rotate_left
        · intro y hSw
          have e0 := hSw.cell 0; have e1 := hSw.cell 1
          go_simp
          try with_reducible rfl
        try simp only [Act.put, zpa, zpb, zpc]
        refine zit 6 ?_ rfl (by kernel_rfl) (fun _ _ _ h => h) (by rfl) (by assumption) ?_ ?_
        rotate_left
        · intro y hSw
          have e0 := hSw.cell 0; have e1 := hSw.cell 1
          go_simp
          try with_reducible rfl
        try simp only [Act.put, zpa, zpb, zpc]
        refine zit 7 ?_ rfl (by kernel_rfl) (fun _ _ _ h => h) (by rfl) (by assumption) ?_ ?_
        rotate_left
        · intro y hSw
          have e0 := hSw.cell 0; have e1 := hSw.cell 1
          go_simp
          try with_reducible rfl
        try simp only [Act.put, zpa, zpb, zpc]
        refine zib 3 rfl (by kernel_rfl) (fun K hK => ?_)
        have c1 := cs.out y1 P1.out
        go_simp
        refine c1.mono ?_
        rintro q y ⟨rfl, hy⟩
        subst hy
        clear c1
        go_wp2_with fail
        refine hK.out _ _ (hHeld) (fun hHeld => ?_)
        clear hK K
        try simp only [Act.put, zpa, zpb, zpc]
        refine zib 8 rfl (by kernel_rfl) (fun K hK => ?_)
        go_simp
        first | refine (hcall.out.1 (by first | trivial | rfl) k _ (by omega)).mono ?_ | refine (hcall.out.2 _ rfl k _ (by omega)).mono ?_
        rintro q y2 ⟨rfl, hB⟩
        have P2 := hide (P1.out.on hB)
        have T2 := hide (T1.out.trans (Turn.of hB) (fun b h => .inl h))
        have hH2 := hide (hHeld.on hB)
        clear P1 T1 hB hHeld
        go_wp2_with fail
        refine hK.out _ _ (hH2.out) (fun hHeld => ?_)
        clear hK K
        try simp only [Act.put, zpa, zpb, zpc]
        refine zit 9 ?_ rfl (by kernel_rfl) (fun _ _ _ h => h) (by rfl) (by assumption) ?_ ?_
        rotate_left
        · intro y hSw
          skip
          go_simp
          try with_reducible rfl
        try simp only [Act.put, zpa, zpb, zpc]
        refine zil 10 rfl (by kernel_rfl) (by kernel_rfl) (fun K hK => ?_)
        obtain ⟨y3, R, P3, T3⟩ := cput.out y2 P2.out
        rw [hmid.out] at P3
        have P4 : Hid (PS y3 H db sv lv gv (d.midS F (k + 1))) := hide (by rw [hsv'.out]; exact P3)
        have T4 := hide (T2.out.trans T3 (fun b h => .inl h))
        clear P3 T3 P2 T2 hHeld
        go_simp
        refine hK.out _ _ ?_
        clear hK K
        try simp only [Act.put, zpa, zpb, zpc]
        refine zid (by kernel_rfl) ?_ _
        go_wp2
        go_roundw
        case rel => exact ⟨k + 1, by omega, by go_num, P4, T4⟩
        case measure => simp [intOf]; omega
      · obtain rfl : k = l := by omega
        have f1 : wr.frozen? ⟨db, 1, none⟩ = false := P.out.box.free 1
        have b1' : wr.cell? ⟨db, 1, none⟩ = some lv := P.out.box.cell 1
        have BX := hide (P.out.box.set 1 (.slice none 0 0))
        have hfar : Hid (∀ j, j ≠ db → (wr.setCell ⟨db, 1, none⟩ (.slice none 0 0)).heap[j]? = wr.heap[j]?) := hide (fun j hj => Below.heap_setCell _ _ _ j hj)
        have hmid : Hid ((d.midS F k).S = settleK F d.L d.S d.L.length) := hide (by unfold Dk.midS; rw [hll.out])
        clear hl
        go_wp2
        go_end0
        refine ⟨rfl, ⟨BX.out, ?_, ⟨World.ownsRow_nil _ _ _ _, fun k hk => by simp [Value.ownBlock] at hk⟩, P.out.h, ?_, by simp, P.out.m6, P.out.v⟩, T.out.trans (G := H) ⟨rfl, rfl, rfl, by simp [World.setCell], fun j hj hn => hfar.out j (fun e => hn (by rw [e]; exact hHdb))⟩ (fun b h => .inl h)⟩
        · rw [← hmid.out]
          exact P.out.s.keep fun j h hl => hfar.out j h.2
        · have hg := P.out.g
          rw [← hmid.out]
          exact ⟨hg.s1, hg.s2, hg.s64, fun p hp => (by cases hp), hg.a63⟩

end Go.Proofs.Ytgffhnggocbjhaa
