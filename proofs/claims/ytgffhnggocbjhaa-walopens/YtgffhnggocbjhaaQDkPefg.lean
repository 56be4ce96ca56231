/- Layer 18: the program's disk: bytes are opened; loose writes are settled; the power goes; a step. -/
import Derived.Test.YtgffhnggocbjhaaQDkPabc
import Derived.Laws.EntriesVeiled
namespace Go.Proofs.Ytgffhnggocbjhaa
open Go.RowKit
set_option linter.unusedVariables false
set_option maxRecDepth 100000
set_option linter.unusedSimpArgs false

theorem popen_bad (s : ByteArray) (h : ¬ (s.size % 64 = 0 ∧ 64 ≤ s.size ∧ s.size ≤ 262144)) (hz : s.size ≤ maxLen) (w : World) : Calls Try.prog 30 #[.string s] w fun e w' => e = .returned (.tuple #[.pointer none, .int .i64 180]) ∧ Below w.heap.size w w' := by
  unfold maxLen at hz
  by_cases h1 : s.size % 64 = 0
  · have t1 : (s.size : Int).tmod 64 = 0 := by rw [Int.tmod_eq_emod_of_nonneg (by omega)]; omega
    have t2 : (s.size : Int) % 64 = 0 := by omega
    have cn := fun w => pnew_bad ((s.size : Int) / 64) (by omega) w
    go_enter Try.func30, Try.ntmps30
    go_wp2_with fail
    refine (cn _).mono ?_
    rintro e w' ⟨rfl, rfl⟩
    go_wp2
    go_ret2
    exact ⟨rfl, Below.refl _ _⟩
  · have t1 : ¬ (s.size : Int).tmod 64 = 0 := by rw [Int.tmod_eq_emod_of_nonneg (by omega)]; omega
    have t2 : ¬ (s.size : Int) % 64 = 0 := by omega
    go_enter Try.func30, Try.ntmps30
    go_wp2
    go_ret2
    exact ⟨rfl, Below.refl _ _⟩

set_option maxHeartbeats 1000000 in
theorem popen_any (s : ByteArray) (h : s.size % 64 = 0) (h1 : 64 ≤ s.size) (h2 : s.size ≤ 262144) (w : World) :
    Calls Try.prog 30 #[.string s] w fun e w' => ∃ db sv lv gv, e = .returned (.tuple #[.pointer (some ⟨db, 0, none⟩), .int .i64 0]) ∧ PS w' (fun k => w.heap.size ≤ k) db sv lv gv (openD s) ∧ Below w.heap.size w w' := by
  have t1 : (s.size : Int).tmod 64 = 0 := by rw [Int.tmod_eq_emod_of_nonneg (by omega)]; omega
  have t2 : (s.size : Int) % 64 = 0 := by omega
  obtain ⟨n, hn⟩ : ∃ n, s.size = 64 * n := ⟨s.size / 64, by omega⟩
  have t3 : (s.size : Int) / 64 = (n : Int) := by omega
  have cn := fun w => pnew_any n (by omega) (by omega) w
  obtain ⟨og, oc⟩ := openD_good h h1 h2
  replace og := hide og
  replace oc := hide oc
  replace hn := hide hn
  replace cn := hide cn
  go_enter Try.func30, Try.ntmps30
  go_wp2_with fail
  refine (cn.out _).mono ?_
  replace hn := hn.out
  replace og := og.out
  replace oc := oc.out
  rintro e w1 ⟨db, cap, rfl, P, B1⟩
  have b0 := P.cells.1
  obtain ⟨g', cap', hsv, hgH, hgdb, hgl, hgc, -, -⟩ := P.open
  injection hsv with e1 e2 e3
  clear e2
  injection e1 with e1
  injection e1 with e1
  subst e1 e3
  have hnn : (newD n).S.length = n := by simp [newD]
  have hrow := P.s.1
  rw [hnn] at hrow
  obtain ⟨y, R, O, G, hsz⟩ := own_copy hrow 0 (64 * n) cap s (by omega) (by omega)
  have hx : (Go.Lib.strCells (catT (newD n).S)).length = 64 * n := by rw [strCells_len, catT_size (newD_good (n := n) (by omega) (by omega)).s64, hnn]
  rw [List.take_zero, List.nil_append, List.drop_eq_nil_of_le (by omega), List.append_nil] at O
  have hol : (openD s).S.length = n := by simp [openD, cutT_len]; omega
  have PY : PS y (fun k => w.heap.size ≤ k) db (.slice (some ⟨w.heap.size, 0, none⟩) (64 * n) cap) (.slice none 0 0) .nilFunc (openD s) := by
    refine ⟨P.box.of_heap (G.block db P.box.2.2 (by simp; omega)), ⟨?_, fun k hk => P.s.2 k hk⟩, ⟨World.ownsRow_nil _ _ _ _, fun k hk => by simp [Value.ownBlock] at hk⟩, P.h, og, by simp [openD], by simp [openD], .inl ⟨rfl, rfl⟩⟩
    rw [oc, hol]
    exact O
  have hB : Below w.heap.size w y := B1.grown G B1.size (fun k hk => by cases hk; exact Nat.le_refl _)
  rw [hn] at R
  replace PY := hide PY
  replace hB := hide hB
  replace hnn := hide hnn
  clear P O G hrow cn og oc B1
  go_wp2
  go_ret2
  exact ⟨db, _, _, _, rfl, PY.out, hB.out⟩

/-- The disk's cells are others, its rows are not. -/
theorem PS.turn {w y : World} {H : Nat → Prop} {db : Nat} {sv lv gv gv' : Value} {d d' : Dk} (P : PS w H db sv lv gv d) (B : Box y db (cellsP sv lv gv' d')) (hS : d'.S = d.S) (hL : d'.L = d.L)
    (hfar : ∀ j, j ≠ db → j < w.heap.size → y.heap[j]? = w.heap[j]?) (g : d'.Good) (hm : d'.m ≤ 1000000) (hv : GV gv' d') : PS y H db sv lv gv' d' :=
  ⟨B, by rw [hS]; exact P.s.keep fun k h hl => hfar k h.2 hl, by rw [hL]; exact P.l.keep fun k h hl => hfar k h.2 hl, P.h, g, by rw [hL]; exact P.l6, hm, hv⟩

/-- The call of such a function value. -/
theorem IsStay.call {v : Value} {f : Nat → Nat} (h : IsStay v f) :
    (v = .func (.func 94) #[] #[] → ∀ (k : Nat) (y : World), k ≤ 1000 → Calls Try.prog 94 #[.int .i64 (k : Int)] y fun e y' => e = .returned (.int .i64 ((f k : Nat) : Int)) ∧ Below y.heap.size y y') ∧
    (∀ c, v = .func (.func 58) #[crashV c] #[] → ∀ (k : Nat) (y : World), k ≤ 1000 → Calls Try.prog 58 #[crashV c, .int .i64 (k : Int)] y fun e y' => e = .returned (.int .i64 ((f k : Nat) : Int)) ∧ Below y.heap.size y y') := by
  cases h with
  | whole => exact ⟨fun _ k y _ => (whole_any _ y).mono fun e y' h => ⟨h.1, h.2 ▸ Below.refl _ _⟩, fun c h => by simp at h⟩
  | of c => exact ⟨fun h => by simp at h, fun c' h k y hk => by
      simp [crashV] at h
      obtain ⟨h1, h2, h3⟩ := h
      rw [show c' = c by cases c; cases c'; simp_all]
      exact stays_any c k hk y⟩

set_option maxHeartbeats 4000000 in
set_option maxRecDepth 100000 in
theorem psettle_any {w : World} {H : Nat → Prop} {db : Nat} {sv lv gv : Value} {d : Dk} (P : PS w H db sv lv gv d) {v : Value} {f : Nat → Nat} (hv : IsStay v f) :
    Calls Try.prog 86 #[.pointer (some ⟨db, 0, none⟩), v] w fun e w' => e = .returned (.tuple #[]) ∧ PS w' H db sv (.slice none 0 0) gv { d with S := settleK f d.L d.S d.L.length, L := [] } ∧ Turn H w w' := by
  have b1 := P.cells.2.1
  obtain ⟨a, c, hlv, hc, hm, hl⟩ := P.l.open'
  obtain ⟨l, hll⟩ : ∃ l, l = d.L.length := ⟨_, rfl⟩
  have l6 := P.l6
  rw [hlv] at b1
  rw [← hll] at b1 hc hm l6
  have hgood := hide P.g
  have hHdb := P.h
  obtain ⟨g, cap, hsv, hgH, -⟩ := P.open
  replace hgH := hide hgH
  replace hsv := hide hsv
  replace hll := hide hll
  replace hl := hide hl
  obtain ⟨F, hF⟩ : ∃ F, F = f := ⟨_, rfl⟩
  have P0 : Hid (PS w H db sv lv gv (d.midS F 0)) := hide P
  have hcall := hv.call
  have hle := hv.le
  rw [← hF] at hcall ⊢
  simp only [← hF] at hle
  replace hcall := hide hcall
  replace hle := hide hle
  replace hF := hide hF
  clear P
  cases hv
  all_goals
    go_enter Try.func86, Try.ntmps86
    go_wp2_with fail
    go_loopw [11] (fun i wr => ∃ (k : Nat), k ≤ l ∧ i = .int .i64 (k : Int) ∧ Hid (PS wr H db sv lv gv (d.midS F k)) ∧ Hid (Turn H w wr)) (fun i _ => l - (intOf i).toNat)
    case atStart => exact ⟨0, Nat.zero_le _, rfl, P0, hide (Turn.refl _ _)⟩
    case round =>
      clear P0
      obtain ⟨k, hk, rfl, P, T⟩ := hrel
      obtain ⟨a2, c2, e2, -, -, hl⟩ := P.out.l.open'
      rw [hlv] at e2
      injection e2 with e3 _ e4
      subst e3 e4
      rw [show (d.midS F k).L = d.L from rfl] at hl
      by_cases h : k < l
      · obtain ⟨p, hp⟩ : ∃ p, d.L[k]? = some p := ⟨d.L[k]'(by have := hll.out; omega), List.getElem?_eq_getElem _⟩
        obtain ⟨p0, p1⟩ := looses_at hp
        obtain ⟨g2, rfl, hg2, -, hc0⟩ := hl _ _ p0
        obtain ⟨g3, e3, -, -, hc1⟩ := hl _ _ p1
        injection e3 with e3
        injection e3 with e3
        subst e3
        obtain ⟨pn, hpn⟩ : ∃ pn, Hid (pn = p.1) := ⟨_, hide rfl⟩
        obtain ⟨px, hpx⟩ : ∃ px, Hid (px = p.2) := ⟨_, hide rfl⟩
        rw [← hpn.out] at hc0
        rw [← hpx.out] at hc1
        replace hp := hide hp
        clear p0 p1 hl
        obtain ⟨hp1, hp2⟩ := hgood.out.l64 p (List.mem_of_getElem? hp.out)
        rw [← hpn.out] at hp1
        rw [← hpx.out] at hp2
        have hfk := hle.out k
        have hlen : (d.midS F k).S.length = d.S.length := (settleK_good (f := F) hle.out hgood.out.s64 (fun p hp => (hgood.out.l64 p hp).2) k (by have := hll.out; omega)).1
        have hsv' : sv = .slice (some ⟨g, 0, none⟩) (64 * (d.midS F k).S.length) cap := by rw [hlen]; exact hsv.out
        have cs := fun (y : World) (Py : PS y H db sv lv gv (d.midS F k)) => psector_any Py pn (by omega) hsv'
        have hmid : Hid ({ d.midS F k with S := (d.midS F k).S.set pn (tornT (F k) px ((d.midS F k).S.getD pn T0)) } = d.midS F (k + 1)) := hide (by unfold Dk.midS; rw [settleK_at hp.out, hpn.out, hpx.out])
        have cput := fun (y : World) (Py : PS y H db sv lv gv (d.midS F k)) => (hsv' ▸ Py : PS y H db (.slice (some ⟨g, 0, none⟩) (64 * (d.midS F k).S.length) cap) lv gv (d.midS F k)).put pn (F k) px (by omega) hfk hp2 (cap - 64 * pn)
        have g0 := grow wr (.cells #[.int .i64 (pn : Int), .string px] 80)
        have BC := Box.new wr #[.int .i64 (pn : Int), .string px] 80
        have hfi : (F k : Int) ≤ 64 := by omega
        have hfx : (F k : Int) ≤ (px.size : Int) := by omega
        have hf0 : 0 ≤ (F k : Int) := by omega
        replace cs := hide cs
        replace cput := hide cput
        replace hlen := hide hlen
        replace hsv' := hide hsv'
        replace hp1 := hide hp1
        replace hp2 := hide hp2
        go_wp2_with fail
        obtain ⟨x1, hx1⟩ : ∃ x1, x1 = wr.alloc (.cells #[.int .i64 (pn : Int), .string px] 80) := ⟨_, rfl⟩
        rw [← hx1] at g0 BC ⊢
        obtain ⟨CB, hCB⟩ : ∃ CB, CB = wr.heap.size := ⟨_, rfl⟩
        rw [← hCB] at BC ⊢
        replace hCB := hide hCB
        refine zir [10] (fun y => Box y CB #[.int .i64 (pn : Int), .string px]) (by kernel_rfl) BC.drew (fun hHeld => ?_)
        have P1 := hide ((P.out.on g0).on (Below.refl _ x1).drew)
        have T1 := hide (T.out.trans ((Turn.of g0).trans (Turn.of (Below.refl x1.heap.size x1).drew) (fun b h => .inl h)) (fun b h => .inl h))
        clear BC g0 hx1
        generalize x1.drew = y1 at *
        refine zit 0 ?_ rfl (by kernel_rfl) (fun _ _ _ h => h) (by rfl) (by assumption) ?_ ?_
        rotate_left
        · intro y hSw
          have e0 := hSw.cell 0; have e1 := hSw.cell 1
          go_simp
          try with_reducible rfl
        try simp only [Act.put, zpa, zpb, zpc]
        refine zit 1 ?_ rfl (by kernel_rfl) (fun _ _ _ h => h) (by rfl) (by assumption) ?_ ?_
        rotate_left
        · intro y hSw
          have e0 := hSw.cell 0; have e1 := hSw.cell 1
          go_simp
          try with_reducible rfl
        try simp only [Act.put, zpa, zpb, zpc]
        refine zit 2 ?_ rfl (by kernel_rfl) (fun _ _ _ h => h) (by rfl) (by assumption) ?_ ?_
        rotate_left
        · intro y hSw
          have e0 := hSw.cell 0; have e1 := hSw.cell 1
          go_simp
          try with_reducible rfl
        try simp only [Act.put, zpa, zpb, zpc]
        refine zit 4 ?_ rfl (by kernel_rfl) (fun _ _ _ h => h) (by rfl) (by assumption) ?_ ?_
        rotate_left
        · intro y hSw
          have e0 := hSw.cell 0; have e1 := hSw.cell 1
          go_simp
          try with_reducible rfl
        try simp only [Act.put, zpa, zpb, zpc]
        refine zit 5 ?_ rfl (by kernel_rfl) (fun _ _ _ h => h) (by rfl) (by assumption) ?_ ?_
        rotate_left
        · intro y hSw
          have e0 := hSw.cell 0; have e1 := hSw.cell 1
          go_simp
          try with_reducible rfl
        try simp only [Act.put, zpa, zpb, zpc]
        refine zit 6 ?_ rfl (by kernel_rfl) (fun _ _ _ h => h) (by rfl) (by assumption) ?_ ?_
        rotate_left
        · intro y hSw
          have e0 := hSw.cell 0; have e1 := hSw.cell 1
          go_simp
          try with_reducible rfl
        try simp only [Act.put, zpa, zpb, zpc]
        refine zit 7 ?_ rfl (by kernel_rfl) (fun _ _ _ h => h) (by rfl) (by assumption) ?_ ?_
        rotate_left
        · intro y hSw
          have e0 := hSw.cell 0; have e1 := hSw.cell 1
          go_simp
          try with_reducible rfl
        try simp only [Act.put, zpa, zpb, zpc]
        refine zib 3 rfl (by kernel_rfl) (fun K hK => ?_)
        have c1 := cs.out y1 P1.out
        go_simp
        refine c1.mono ?_
        rintro q y ⟨rfl, hy⟩
        subst hy
        clear c1
        go_wp2_with fail
        refine hK.out _ _ (hHeld) (fun hHeld => ?_)
        clear hK K
        try simp only [Act.put, zpa, zpb, zpc]
        refine zib 8 rfl (by kernel_rfl) (fun K hK => ?_)
        go_simp
        first | refine (hcall.out.1 (by first | trivial | rfl) k _ (by omega)).mono ?_ | refine (hcall.out.2 _ rfl k _ (by omega)).mono ?_
        rintro q y2 ⟨rfl, hB⟩
        have P2 := hide (P1.out.on hB)
        have T2 := hide (T1.out.trans (Turn.of hB) (fun b h => .inl h))
        have hH2 := hide (hHeld.on hB)
        clear P1 T1 hB hHeld
        go_wp2_with fail
        refine hK.out _ _ (hH2.out) (fun hHeld => ?_)
        clear hK K
        try simp only [Act.put, zpa, zpb, zpc]
        refine zit 9 ?_ rfl (by kernel_rfl) (fun _ _ _ h => h) (by rfl) (by assumption) ?_ ?_
        rotate_left
        · intro y hSw
          skip
          go_simp
          try with_reducible rfl
        try simp only [Act.put, zpa, zpb, zpc]
        refine zil 10 rfl (by kernel_rfl) (by kernel_rfl) (fun K hK => ?_)
        obtain ⟨y3, R, P3, T3⟩ := cput.out y2 P2.out
        rw [hmid.out] at P3
        have P4 : Hid (PS y3 H db sv lv gv (d.midS F (k + 1))) := hide (by rw [hsv'.out]; exact P3)
        have T4 := hide (T2.out.trans T3 (fun b h => .inl h))
        clear P3 T3 P2 T2 hHeld
        go_simp
        refine hK.out _ _ ?_
        clear hK K
        try simp only [Act.put, zpa, zpb, zpc]
        refine zid (by kernel_rfl) ?_ _
        go_wp2
        go_roundw
        case rel => exact ⟨k + 1, by omega, by go_num, P4, T4⟩
        case measure => simp [intOf]; omega
      · obtain rfl : k = l := by omega
        have f1 : wr.frozen? ⟨db, 1, none⟩ = false := P.out.box.free 1
        have b1' : wr.cell? ⟨db, 1, none⟩ = some lv := P.out.box.cell 1
        have BX := hide (P.out.box.set 1 (.slice none 0 0))
        have hfar : Hid (∀ j, j ≠ db → (wr.setCell ⟨db, 1, none⟩ (.slice none 0 0)).heap[j]? = wr.heap[j]?) := hide (fun j hj => Below.heap_setCell _ _ _ j hj)
        have hmid : Hid ((d.midS F k).S = settleK F d.L d.S d.L.length) := hide (by unfold Dk.midS; rw [hll.out])
        clear hl
        go_wp2
        go_end0
        refine ⟨rfl, ⟨BX.out, ?_, ⟨World.ownsRow_nil _ _ _ _, fun k hk => by simp [Value.ownBlock] at hk⟩, P.out.h, ?_, by simp, P.out.m6, P.out.v⟩, T.out.trans (G := H) ⟨rfl, rfl, rfl, by simp [World.setCell], fun j hj hn => hfar.out j (fun e => hn (by rw [e]; exact hHdb))⟩ (fun b h => .inl h)⟩
        · rw [← hmid.out]
          exact P.out.s.keep fun j h hl => hfar.out j h.2
        · have hg := P.out.g
          rw [← hmid.out]
          exact ⟨hg.s1, hg.s2, hg.s64, fun p hp => (by cases hp), hg.a63⟩

end Go.Proofs.Ytgffhnggocbjhaa

/- Layer 18: the program's disk: the power goes; a step; what is armed; the power is there again. -/
namespace Go.Proofs.Ytgffhnggocbjhaa
open Go.RowKit
set_option linter.unusedVariables false
set_option maxRecDepth 100000
set_option linter.unusedSimpArgs false

theorem PS.goes {w : World} {H : Nat → Prop} {db : Nat} {sv lv gv : Value} {d : Dk} (P : PS w H db sv lv gv d) (j : Nat) (v : Value) : Turn H w (w.setCell ⟨db, j, none⟩ v) :=
  ⟨rfl, rfl, rfl, by simp [World.setCell], fun k hk hn => Below.heap_setCell w _ _ k (fun e => hn (by rw [e]; exact P.h))⟩

theorem pdisarm_any {w : World} {H : Nat → Prop} {db : Nat} {sv lv gv : Value} {d : Dk} (P : PS w H db sv lv gv d) :
    Calls Try.prog 56 #[.pointer (some ⟨db, 0, none⟩)] w fun e w' => e = .returned (.tuple #[]) ∧ PS w' H db sv lv .nilFunc { d with a := 0 } ∧ Turn H w w' := by
  have B2 := (P.box.set 4 (.int .i64 0)).set 5 .nilFunc
  have hfar : ∀ j, j ≠ db → ((w.setCell ⟨db, 4, none⟩ (.int .i64 0)).setCell ⟨db, 5, none⟩ .nilFunc).heap[j]? = w.heap[j]? := fun j hj => by rw [Below.heap_setCell _ _ _ j hj, Below.heap_setCell _ _ _ j hj]
  have P2 := hide (P.turn (d' := { d with a := 0 }) (gv' := .nilFunc) (by
    have e : ((cellsP sv lv gv d).setIfInBounds 4 (.int .i64 0)).setIfInBounds 5 .nilFunc = cellsP sv lv .nilFunc { d with a := 0 } := by simp [cellsP]
    rw [← e]; exact B2) rfl rfl (fun j hj _ => hfar j hj) ⟨P.g.s1, P.g.s2, P.g.s64, P.g.l64, by simp⟩ P.m6 (.inl ⟨rfl, rfl⟩))
  have T2 : Hid (Turn H w ((w.setCell ⟨db, 4, none⟩ (.int .i64 0)).setCell ⟨db, 5, none⟩ .nilFunc)) := hide ⟨rfl, rfl, rfl, by simp [World.setCell], fun j hj hn => hfar j (fun e => hn (by rw [e]; exact P.h))⟩
  have f4 : w.frozen? ⟨db, 4, none⟩ = false := P.box.free 4
  have f5 : w.frozen? ⟨db, 5, none⟩ = false := P.box.free 5
  have c4 := P.cells.2.2.2.2.1
  have c5 := P.cells.2.2.2.2.2
  clear P B2 hfar
  go_enter Try.func56, Try.ntmps56
  go_wp2
  go_end0
  exact ⟨rfl, P2.out, T2.out⟩

set_option maxHeartbeats 1000000 in
theorem pfail_any {w : World} {H : Nat → Prop} {db : Nat} {sv lv gv : Value} {d : Dk} (P : PS w H db sv lv gv d) (c : Crs) :
    Calls Try.prog 59 #[.pointer (some ⟨db, 0, none⟩), goesV c] w fun e w' => e = .returned (.tuple #[]) ∧ PS w' H db sv (.slice none 0 0) .nilFunc (d.crashed c) ∧ Turn H w w' := by
  have cs := hide (psettle_any P (IsStay.of c))
  have hS := settle_crash (c := c) P.g.s64 P.g.l64 d.L.length (Nat.le_refl _)
  rw [hS] at cs
  have hmono := hide P.h
  clear P hS
  unfold goesV
  go_enter Try.func59, Try.ntmps59
  go_wp2_with fail
  refine cs.out.mono ?_
  rintro e w1 ⟨rfl, P1, T1⟩
  have cd := hide (pdisarm_any P1)
  replace T1 := hide T1
  clear cs P1
  go_wp2_with fail
  refine cd.out.mono ?_
  rintro e w2 ⟨rfl, P2, T2⟩
  have B3 := P2.box.set 2 (.bool true)
  have P3 := hide (P2.turn (d' := d.crashed c) (y := w2.setCell ⟨db, 2, none⟩ (.bool true)) (gv' := .nilFunc) (by
    have e : (cellsP sv (.slice none 0 0) .nilFunc { S := crashK c d.L d.S d.L.length, L := [], a := 0, c := d.c, dead := d.dead, m := d.m }).setIfInBounds 2 (.bool true) = cellsP sv (.slice none 0 0) .nilFunc (d.crashed c) := by simp [cellsP, Dk.crashed]
    rw [← e]; exact B3) rfl rfl (fun j hj _ => Below.heap_setCell _ _ _ j hj) ⟨P2.g.s1, P2.g.s2, P2.g.s64, P2.g.l64, P2.g.a63⟩ P2.m6 (.inl ⟨rfl, rfl⟩))
  have T3 := hide ((T1.out.trans T2 (fun b h => .inl h)).trans (P2.goes 2 (.bool true)) (fun b h => .inl h))
  have f2 : w2.frozen? ⟨db, 2, none⟩ = false := P2.box.free 2
  have c2 := P2.cells.2.2.1
  clear P2 T2 T1 cd B3
  go_wp2
  go_end0
  exact ⟨rfl, P3.out, T3.out⟩

set_option maxHeartbeats 4000000 in
set_option maxRecDepth 100000 in
theorem pstep_any {w : World} {H : Nat → Prop} {db : Nat} {sv lv gv : Value} {d : Dk} (P : PS w H db sv lv gv d) (hm : d.m < 1000000) :
    Calls Try.prog 93 #[.pointer (some ⟨db, 0, none⟩)] w fun e w' => e = .returned (.int .i64 (if d.a = 1 then 2 else 0)) ∧ (∃ lv' gv', PS w' H db sv lv' gv' d.stepped) ∧ Turn H w w' := by
  have b3 := P.cells.2.2.2.1
  have f3 : w.frozen? ⟨db, 3, none⟩ = false := P.box.free 3
  have B1 := P.box.set 3 (.int .i64 ((d.m : Int) + 1))
  have P1 : PS (w.setCell ⟨db, 3, none⟩ (.int .i64 ((d.m : Int) + 1))) H db sv lv gv { d with m := d.m + 1 } := P.turn (by
    have e : (cellsP sv lv gv d).setIfInBounds 3 (.int .i64 ((d.m : Int) + 1)) = cellsP sv lv gv { d with m := d.m + 1 } := by simp [cellsP]
    rw [← e]; exact B1) rfl rfl (fun j hj _ => Below.heap_setCell w _ _ j hj) ⟨P.g.s1, P.g.s2, P.g.s64, P.g.l64, P.g.a63⟩ (by show d.m + 1 ≤ _; omega) P.v
  have T1 := P.goes 3 (.int .i64 ((d.m : Int) + 1))
  have hw1 : ∀ m : Int, m = d.m → IntKind.i64.wrap (m + 1) = m + 1 := fun m hm' => by simp [IntKind.wrap, IntKind.bits, IntKind.signed]; omega
  have hw2 := hw1 d.m rfl
  obtain ⟨w1, hww⟩ : ∃ w1, w1 = w.setCell ⟨db, 3, none⟩ (.int .i64 ((d.m : Int) + 1)) := ⟨_, rfl⟩
  rw [← hww] at P1 T1
  have a63 := P.g.a63
  obtain ⟨A, hA⟩ : ∃ A, A = d.a := ⟨_, rfl⟩
  have q4 : w1.cell? ⟨db, 4, none⟩ = some (.int .i64 (A : Int)) := by rw [hA]; exact P1.cells.2.2.2.2.1
  have f4 : w1.frozen? ⟨db, 4, none⟩ = false := P1.box.free 4
  rw [← hA] at a63 ⊢
  by_cases e0 : A = 0
  · have hst : d.stepped = { d with m := d.m + 1 } := by
      unfold Dk.stepped
      rw [if_neg (by omega)]
      have : d.a - 1 = d.a := by omega
      rw [this]
    rw [if_neg (by omega), hst]
    replace P1 := hide P1
    replace T1 := hide T1
    obtain ⟨M, hM⟩ : ∃ M, M = (d.m : Int) := ⟨_, rfl⟩
    rw [← hM] at hww b3 hw2
    clear hw1 B1 P hst hM hA
    subst e0
    go_enter Try.func93, Try.ntmps93
    subst hww
    go_wp2
    go_ret
    exact ⟨rfl, ⟨_, _, P1.out⟩, T1.out⟩
  · obtain ⟨X, hX⟩ : ∃ X : Int, X = (A : Int) - 1 := ⟨_, rfl⟩
    have B2 := P1.box.set 4 (.int .i64 X)
    have hwa : IntKind.i64.wrap ((A : Int) - 1) = X := by rw [hX]; simp [IntKind.wrap, IntKind.bits, IntKind.signed]; omega
    have P2 : PS (w1.setCell ⟨db, 4, none⟩ (.int .i64 X)) H db sv lv gv { d with m := d.m + 1, a := d.a - 1 } := P1.turn (by
      have e : (cellsP sv lv gv { d with m := d.m + 1 }).setIfInBounds 4 (.int .i64 X) = cellsP sv lv gv { d with m := d.m + 1, a := d.a - 1 } := by
        simp [cellsP]; omega
      rw [← e]; exact B2) rfl rfl (fun j hj _ => Below.heap_setCell w1 _ _ j hj) ⟨P1.g.s1, P1.g.s2, P1.g.s64, P1.g.l64, by show d.a - 1 < _; omega⟩ P1.m6 (.inr ⟨d.c, P1.v.is (by show d.a ≠ 0; omega), fun _ => rfl⟩)
    have T2 := T1.trans (P1.goes 4 (.int .i64 X)) (fun b h => .inl h)
    obtain ⟨w2, hw2'⟩ : ∃ w2, w2 = w1.setCell ⟨db, 4, none⟩ (.int .i64 X) := ⟨_, rfl⟩
    rw [← hw2'] at P2 T2
    by_cases e1 : A = 1
    · have hst : Hid (d.stepped = Dk.crashed d.c { d with m := d.m + 1, a := d.a - 1 }) := hide (by
        unfold Dk.stepped
        rw [← hA, if_pos e1]
        rfl)
      have hgv := P.v.is (by omega)
      have q5 : w2.cell? ⟨db, 5, none⟩ = some (goesV d.c) := by rw [← hgv]; exact P2.cells.2.2.2.2.2
      have cf := hide (pfail_any P2 d.c)
      rw [if_pos e1]
      replace T2 := hide T2
      obtain ⟨M, hM⟩ : ∃ M, M = (d.m : Int) := ⟨_, rfl⟩
      rw [← hM] at hww b3 hw2
      obtain ⟨gf, hgf⟩ : ∃ gf, gf = goesV d.c := ⟨_, rfl⟩
      rw [← hgf] at q5 cf
      clear hw1 B1 P P1 P2 B2 T1 hM hA hgv hgf e0
      subst e1
      obtain rfl : X = 0 := by omega
      clear hX
      rw [show ((1 : Nat) : Int) = 1 from rfl] at q4 hwa
      go_enter Try.func93, Try.ntmps93
      subst hww
      subst hw2'
      go_wp2_with fail
      refine cf.out.mono ?_
      rintro e w3 ⟨rfl, P3, T3⟩
      go_wp2
      go_ret
      exact ⟨rfl, ⟨.slice none 0 0, .nilFunc, by rw [hst.out]; exact P3⟩, T2.out.trans T3 (fun b h => .inl h)⟩
    · have hst : d.stepped = { d with m := d.m + 1, a := d.a - 1 } := by unfold Dk.stepped; rw [if_neg (by omega)]
      rw [if_neg (by omega), hst]
      replace P2 := hide P2
      replace T2 := hide T2
      obtain ⟨M, hM⟩ : ∃ M, M = (d.m : Int) := ⟨_, rfl⟩
      rw [← hM] at hww b3 hw2
      clear hw1 B1 P P1 B2 T1 hM hA hst
      subst hX
      go_enter Try.func93, Try.ntmps93
      subst hww
      subst hw2'
      go_wp2
      go_ret
      exact ⟨rfl, ⟨_, _, P2.out⟩, T2.out⟩

end Go.Proofs.Ytgffhnggocbjhaa

/- Layer 18: the program's disk: a write. -/
namespace Go.Proofs.Ytgffhnggocbjhaa
open Go.RowKit
set_option linter.unusedVariables false
set_option maxRecDepth 100000
set_option linter.unusedSimpArgs false

theorem errAt_ok {d : Dk} {n : Int} (he : d.errAt n = 0) : d.dead = false ∧ 0 ≤ n ∧ n < (d.S.length : Int) := by
  unfold Dk.errAt at he
  split at he
  · cases he
  · next h =>
    split at he
    · cases he
    · next h' => exact ⟨by simpa using h, by omega, by omega⟩

/-- A loose write more. -/
theorem PS.more {w : World} {H : Nat → Prop} {db : Nat} {sv lv gv : Value} {d : Dk} (P : PS w H db sv lv gv d) (k : Nat) (s : ByteArray) {LB : Nat} (BL : Box w LB #[.int .i64 (k : Int), .string s]) (hk : k < d.S.length) (hs : s.size = 64) (hL : d.L.length < 1000) :
    ∃ a c y, (Builtin.append_ #[36, 36] 36 #[lv, .slice (some ⟨LB, 0, none⟩) 1 1]).run Try.prog w = .ok (.slice a (d.L.length + 1) c) y ∧ Box y db (cellsP sv lv gv d) ∧
      PS (y.setCell ⟨db, 1, none⟩ (.slice a (d.L.length + 1) c)) (fun k => H k ∨ w.heap.size ≤ k) db sv (.slice a (d.L.length + 1) c) gv { d with L := d.L ++ [(k, s)] } ∧ Turn H w (y.setCell ⟨db, 1, none⟩ (.slice a (d.L.length + 1) c)) := by
  obtain ⟨i, hi, hz, hsz, hb⟩ := infoL
  have l6 := P.l6
  obtain ⟨v', y, hap, O, G, -, h5⟩ := run_append_own_at (P := Try.prog) w 0 36 36 80 i _ 2 24 Try.underlying36 hi hz hsz hb rfl (by decide) lv d.L.length _ P.l.1 ⟨LB, 0, none⟩ 1 1 [.int .i64 (k : Int), .string s] rfl (fun j u hj => by rw [Addr.add_lit, Nat.zero_add, BL.cell]; simpa using hj) (by simp [Value.oneCell']) (by unfold maxLen; omega) (by omega) (Nat.zero_le _)
  have eL : looses d.L ++ [.int .i64 (k : Int), .string s] = looses (d.L ++ [(k, s)]) := by rw [looses_app]; rfl
  rw [eL] at O
  have hlF : ∀ j, lv.ownBlock = some j → H j ∧ j ≠ db := P.l.2
  have hvF : ∀ j, v'.ownBlock = some j → (H j ∨ w.heap.size ≤ j) ∧ j ≠ db := fun j hj => by
    rcases h5 with h | h
    · rw [h] at hj
      exact ⟨.inl (hlF j hj).1, (hlF j hj).2⟩
    · rw [h] at hj
      injection hj with hj
      have := P.box.2.2
      exact ⟨.inr (by omega), by omega⟩
  have RN : Row y (fun j => (H j ∨ w.heap.size ≤ j) ∧ j ≠ db) 80 2 v' (d.L.length + 1) (looses (d.L ++ [(k, s)])) := ⟨O, hvF⟩
  obtain ⟨a, c, rfl, -⟩ := RN.shape
  have By : Box y db (cellsP sv lv gv d) := P.box.of_heap (G.block db P.box.2.2 (fun e => (hlF db e.symm).2 rfl))
  have hfar : ∀ j, j ≠ db → (y.setCell ⟨db, 1, none⟩ (.slice a (d.L.length + 1) c)).heap[j]? = y.heap[j]? := fun j hj => Below.heap_setCell _ _ _ j hj
  obtain ⟨g, cap, hsv, hgH, hgdb, hgl, -, -, hap'⟩ := P.open
  have hsrow : Row y (fun j => H j ∧ j ≠ db) 5 1 sv (64 * d.S.length) (Go.Lib.strCells (catT d.S)) := by
    refine ⟨?_, P.s.2⟩
    rcases P.s.1.2 with h0 | ⟨g2, cap2, cur2, hv, hb, hg2, rest⟩
    · exact ⟨P.s.1.1, .inl h0⟩
    · refine ⟨P.s.1.1, .inr ⟨g2, cap2, cur2, hv, hb, ?_, rest⟩⟩
      rw [hsv] at hv
      injection hv with e1 _ _
      injection e1 with e1
      injection e1 with e1
      subst e1
      rw [G.block g hgl (fun e => hap' e.symm)]
      exact hg2
  refine ⟨a, c, y, hap, By, ⟨By.set 1 _, ?_, ?_, .inl P.h, P.g.loose hk hs, by simp; omega, P.m6, P.v⟩, ⟨G.os, G.tape, G.output, Nat.le_trans G.size (by simp [World.setCell]), fun j hj hn => ?_⟩⟩
  · exact (hsrow.keep fun j h _ => hfar j h.2).mono fun j h _ => ⟨.inl h.1, h.2⟩
  · rw [show ({ d with L := d.L ++ [(k, s)] } : Dk).L.length = d.L.length + 1 by simp]
    exact RN.keep fun j h _ => hfar j h.2
  · exact (hfar j (fun e => hn (by rw [e]; exact P.h))).trans (G.block j hj (fun e => hn (hlF j e.symm).1))

set_option maxHeartbeats 8000000 in
set_option maxRecDepth 100000 in
theorem pwrite_any {w : World} {H : Nat → Prop} {db : Nat} {sv lv gv : Value} {d : Dk} (P : PS w H db sv lv gv d) (hm : d.m < 1000000) (hL : d.L.length < 1000) (n : Int) (s : ByteArray) :
    Calls Try.prog 74 #[.pointer (some ⟨db, 0, none⟩), .int .i64 n, .string s] w fun e w' => e = .returned (.int .i64 (d.errW n s)) ∧
      (∃ sv' lv' gv', PS w' (fun k => H k ∨ w.heap.size ≤ k) db sv' lv' gv' (d.wrote n s)) ∧ Turn H w w' := by
  have cr := hide (prefusal_any P n)
  by_cases he : d.errAt n = 0
  · by_cases hs : s.size = 64
    · obtain ⟨i, hi, hz, hsz, hb⟩ := infoL
      obtain ⟨hdd, hn0, hn1⟩ := errAt_ok he
      obtain ⟨k, rfl⟩ : ∃ k : Nat, n = (k : Int) := ⟨n.toNat, by omega⟩
      have hw : d.wrote (k : Int) s = Dk.stepped { d with L := d.L ++ [(k, s)] } := by
        unfold Dk.wrote
        rw [if_neg (by simp [he, hs]), Int.toNat_natCast]
      have hW : d.errW (k : Int) s = if d.a = 1 then 2 else 0 := by
        unfold Dk.errW
        rw [if_neg (by simp [he]), if_neg (by simp [hs])]
      rw [hw, hW]
      rw [he] at cr
      obtain ⟨E, hE⟩ : ∃ E : Int, E = if d.a = 1 then 2 else 0 := ⟨_, rfl⟩
      rw [← hE]
      replace hE := hide hE
      have hs' : (s.size : Int) = 64 := by omega
      have ccl := hide (fun y => clone_any s y (by omega))
      have b1 := P.cells.2.1
      go_enter Try.func74, Try.ntmps74
      go_wp2_with fail
      refine cr.out.mono ?_
      rintro e wx ⟨rfl, hwx⟩
      subst hwx
      have hcells := hide P.box
      obtain ⟨l, hl⟩ : ∃ l, l = d.L.length := ⟨_, rfl⟩
      have hnn : k < d.S.length := by omega
      replace P := hide P
      clear cr he hw hW hi hz hsz hb hdd hn0 hn1 b1
      go_wp2_with fail
      refine zir [13] (fun y => Box y db (cellsP sv lv gv d)) (by kernel_rfl) hcells.out.drew (fun hHeld => ?_)
      have P1 := hide (P.out.on (Below.refl _ wx).drew)
      have T1 := hide (Turn.of (F := H) (Below.refl wx.heap.size wx).drew)
      clear P hcells
      generalize wx.drew = y1 at *
      refine zit 0 ?_ rfl (by kernel_rfl) (fun _ _ _ h => h) (by rfl) (by assumption) ?_ ?_
      rotate_left
      · intro y hSw
        have e1 : y.cell? ⟨db, 1, none⟩ = some lv := hSw.cell 1
        go_simp
        try with_reducible rfl
      try simp only [Act.put, zpa, zpb, zpc]
      refine zit 1 ?_ rfl (by kernel_rfl) (fun _ _ _ h => h) (by rfl) (by assumption) ?_ ?_
      rotate_left
      · intro y hSw
        have e1 : y.cell? ⟨db, 1, none⟩ = some lv := hSw.cell 1
        go_simp
        try with_reducible rfl
      try simp only [Act.put, zpa, zpb, zpc]
      refine zit 2 ?_ rfl (by kernel_rfl) (fun _ _ _ h => h) (by rfl) (by assumption) ?_ ?_
      rotate_left
      · intro y hSw
        have e1 : y.cell? ⟨db, 1, none⟩ = some lv := hSw.cell 1
        go_simp
        try with_reducible rfl
      try simp only [Act.put, zpa, zpb, zpc]
      refine zit 3 ?_ rfl (by kernel_rfl) (fun _ _ _ h => h) (by rfl) (by assumption) ?_ ?_
      rotate_left
      · intro y hSw
        have e1 : y.cell? ⟨db, 1, none⟩ = some lv := hSw.cell 1
        go_simp
        try with_reducible rfl
      try simp only [Act.put, zpa, zpb, zpc]
      refine zit 4 ?_ rfl (by kernel_rfl) (fun _ _ _ h => h) (by rfl) (by assumption) ?_ ?_
      rotate_left
      · intro y hSw
        have e1 : y.cell? ⟨db, 1, none⟩ = some lv := hSw.cell 1
        go_simp
        try with_reducible rfl
      try simp only [Act.put, zpa, zpb, zpc]
      refine zit 5 ?_ rfl (by kernel_rfl) (fun _ _ _ h => h) (by rfl) (by assumption) ?_ ?_
      rotate_left
      · intro y hSw
        have e1 : y.cell? ⟨db, 1, none⟩ = some lv := hSw.cell 1
        go_simp
        try with_reducible rfl
      try simp only [Act.put, zpa, zpb, zpc]
      refine zit 6 ?_ rfl (by kernel_rfl) (fun _ _ _ h => h) (by rfl) (by assumption) ?_ ?_
      rotate_left
      · intro y hSw
        have e1 : y.cell? ⟨db, 1, none⟩ = some lv := hSw.cell 1
        go_simp
        try with_reducible rfl
      try simp only [Act.put, zpa, zpb, zpc]
      refine zib 7 rfl (by kernel_rfl) (fun K hK => ?_)
      go_simp
      refine (ccl.out _).mono ?_
      rintro q y2 ⟨rfl, hB⟩
      have P2 := hide (P1.out.on hB)
      have T2 := hide (T1.out.trans (Turn.of hB) (fun b h => .inl h))
      have hH2 := hide (hHeld.on hB)
      clear P1 T1 hB hHeld
      go_wp2_with fail
      refine hK.out _ _ (hH2.out) (fun hHeld => ?_)
      clear hK K
      try simp only [Act.put, zpa, zpb, zpc]
      refine zit 8 ?_ rfl (by kernel_rfl) (fun _ _ _ h => h) (by rfl) (by assumption) ?_ ?_
      rotate_left
      · intro y hSw
        skip
        go_simp
        try with_reducible rfl
      try simp only [Act.put, zpa, zpb, zpc]
      refine zib 9 rfl (by kernel_rfl) (fun K hK => ?_)
      have A3 := grow y2 (.cells #[.int .i64 (k : Int), .string s] 80)
      have BL := Box.new y2 #[.int .i64 (k : Int), .string s] 80
      go_simp
      refine hK.out _ _ (hHeld.on A3) (fun hHeld => ?_)
      clear hK K
      try simp only [Act.put, zpa, zpb, zpc]
      have P3 := hide (P2.out.on A3)
      have T3 := hide (T2.out.trans (Turn.of A3) (fun b h => .inl h))
      clear A3 P2 T2 hH2
      generalize y2.alloc (.cells #[.int .i64 (k : Int), .string s] 80) = y3 at *
      generalize y2.heap.size = LB at *
      refine zib 10 rfl (by kernel_rfl) (fun K hK => ?_)
      obtain ⟨a4, c4, y4, hap, By, P4, T4⟩ := P3.out.more k s BL hnn hs hL
      refine step_append_told' rfl (.tmp 21) (.tmp 26) 36 rfl lv (.slice (some ⟨LB, 0, none⟩) 1 1) _ rfl rfl hap ?_
      refine hK.out _ _ (By) (fun hHeld => ?_)
      clear hK K
      try simp only [Act.put, zpa, zpb, zpc]
      clear hap By BL
      refine zit 11 ?_ rfl (by kernel_rfl) (fun _ _ _ h => h) (by rfl) (by assumption) ?_ ?_
      rotate_left
      · intro y hSw
        have e1 : y.cell? ⟨db, 1, none⟩ = some lv := hSw.cell 1
        go_simp
        try with_reducible rfl
      try simp only [Act.put, zpa, zpb, zpc]
      refine zit 12 ?_ rfl (by kernel_rfl) (fun _ _ _ h => h) (by rfl) (by assumption) ?_ ?_
      rotate_left
      · intro y hSw
        have e1 : y.cell? ⟨db, 1, none⟩ = some lv := hSw.cell 1
        go_simp
        try with_reducible rfl
      try simp only [Act.put, zpa, zpb, zpc]
      refine zil 13 rfl (by kernel_rfl) (by kernel_rfl) (fun K hK => ?_)
      have c1 : y4.cell? ⟨db, 1, none⟩ = some lv := hHeld.cell 1
      have f1 := hHeld.free 1
      go_simp
      refine hK.out _ _ ?_
      clear hK K
      try simp only [Act.put, zpa, zpb, zpc]
      refine zid (by kernel_rfl) ?_ _
      have cs := pstep_any P4 hm
      rw [show (if ({ d with L := d.L ++ [(k, s)] } : Dk).a = 1 then (2 : Int) else 0) = E from hE.out.symm] at cs
      replace cs := hide cs
      have hsz3 := T3.out.size
      replace T4 := hide T4
      clear hHeld c1 f1 P3 P4
      go_wp2_with fail
      refine cs.out.mono ?_
      rintro q y5 ⟨rfl, ⟨lv5, gv5, P5⟩, T5⟩
      have fin := hide (And.intro (P5.mono (G := fun k => H k ∨ wx.heap.size ≤ k) (fun j h _ => by
        rcases h with h | h
        · exact .inl h
        · right; omega)) ((T3.out.trans T4.out (fun b h => .inl h)).trans T5 (fun b h => by
          rcases h with h | h
          · exact .inl h
          · right; omega)))
      clear P5 T5 T4 T3 cs
      go_wp2
      go_ret
      exact ⟨rfl, ⟨_, _, _, fin.out.1⟩, fin.out.2⟩
    · have h1 : d.errW n s = 1 := by unfold Dk.errW; rw [if_neg (by simp [he]), if_pos hs]
      have h2 : d.wrote n s = d := by unfold Dk.wrote; rw [if_pos (.inr hs)]
      rw [h1, h2]
      rw [he] at cr
      replace P := hide (P.mono (G := fun k => H k ∨ w.heap.size ≤ k) (fun k h _ => .inl h))
      have hs' : ¬ (s.size : Int) = 64 := by omega
      clear h1 h2 he
      go_enter Try.func74, Try.ntmps74
      go_wp2_with fail
      refine cr.out.mono ?_
      rintro e w2 ⟨rfl, rfl⟩
      go_wp2
      go_ret
      exact ⟨rfl, ⟨_, _, _, P.out⟩, Turn.refl _ _⟩
  · have h1 : d.errW n s = d.errAt n := by unfold Dk.errW; rw [if_pos he]
    have h2 : d.wrote n s = d := by unfold Dk.wrote; rw [if_pos (.inl he)]
    rw [h1, h2]
    obtain ⟨E, hE⟩ : ∃ E, E = d.errAt n := ⟨_, rfl⟩
    rw [← hE] at cr he ⊢
    replace P := hide (P.mono (G := fun k => H k ∨ w.heap.size ≤ k) (fun k h _ => .inl h))
    clear h1 h2 hE
    go_enter Try.func74, Try.ntmps74
    go_wp2_with fail
    refine cr.out.mono ?_
    rintro e w2 ⟨rfl, rfl⟩
    go_wp2
    go_ret
    exact ⟨rfl, ⟨_, _, _, P.out⟩, Turn.refl _ _⟩

end Go.Proofs.Ytgffhnggocbjhaa
