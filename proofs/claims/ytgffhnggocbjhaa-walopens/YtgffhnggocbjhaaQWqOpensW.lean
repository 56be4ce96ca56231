/- Layer 19: the walk of WalOpens. -/
import Derived.Test.YtgffhnggocbjhaaQWqFixed
import Derived.Test.YtgffhnggocbjhaaQWqROpen
import Derived.Test.YtgffhnggocbjhaaQWlOpen
import Derived.Laws.IdiomCopy
namespace Go.Proofs.Ytgffhnggocbjhaa
open Go.RowKit
set_option linter.unusedVariables false
set_option maxRecDepth 100000
set_option linter.unusedSimpArgs false

theorem grownBy_trans {a b c : World} {r : Option Nat} (h : a.grownBy b r) (k : b.grownBy c r) : a.grownBy c r :=
  ⟨k.os.trans h.os, k.tape.trans h.tape, k.output.trans h.output, Nat.le_trans h.size k.size, fun i hi hr => (k.block i (Nat.lt_of_lt_of_le hi h.size) hr).trans (h.block i hi hr)⟩
theorem grownBy_refl (w : World) (r : Option Nat) : w.grownBy w r := ⟨rfl, rfl, rfl, Nat.le_refl _, fun _ _ _ => rfl⟩
theorem grownBy_set (w : World) (g o : Nat) (v : Value) : w.grownBy (w.setCell ⟨g, o, none⟩ v) (some g) :=
  ⟨rfl, rfl, rfl, by simp, fun k hk hr => Below.heap_setCell w ⟨g, o, none⟩ v k (by simpa using hr)⟩
theorem grownBy_sets (g : Nat) : ∀ (vs : List Value) (o : Nat) (w : World), w.grownBy (w.setCells g o vs) (some g)
  | [], _, w => grownBy_refl w _
  | v :: r, o, w => grownBy_trans (grownBy_set w g o v) (grownBy_sets g r (o + 1) _)

theorem copy_head {w : World} {g n : Nat} {f : Nat → Nat} (s : ByteArray) (R : RowIs w g n f) :
    ∃ y, (Builtin.copy_ #[57, 9] 3 #[.slice (some ⟨g, 0, none⟩) n n, .string s]).run Try.prog w = .ok (goInt (min s.size n : Nat)) y ∧ RowIs y g n (fun j => if j < min s.size n then byteAt s j else f j) ∧ w.grownBy y (some g) := by
  obtain ⟨m, hm⟩ : ∃ m, m = min s.size n := ⟨_, rfl⟩
  have hms : m ≤ s.size := by omega
  have hmn : m ≤ n := by omega
  obtain ⟨l, hl⟩ : ∃ l, l = List.take m (List.map (fun b : UInt8 => Value.int .u8 (b.toNat : Int)) s.data.toList) := ⟨_, rfl⟩
  have hlen : l.length = m := by
    rw [hl, List.length_take, List.length_map, Array.length_toList]
    exact Nat.min_eq_left hms
  have hat : ∀ j, j < m → l[j]? = some (.int .u8 ((byteAt s j : Nat) : Int)) := fun j hj => by
    have hlt : j < s.data.size := Nat.lt_of_lt_of_le hj hms
    rw [hl, List.getElem?_take_of_lt hj, List.getElem?_map, Array.getElem?_toList, Array.getElem?_eq_getElem hlt]
    unfold byteAt
    rw [Array.getElem?_eq_getElem hlt]
    rfl
  have h1 : ∀ u ∈ l, u.oneCell' = true := fun u hu => by
    rw [hl] at hu
    obtain ⟨b, -, rfl⟩ := List.mem_map.1 (List.mem_of_mem_take hu)
    rfl
  have hst := run_storeCells_cells (P := Try.prog) g 0 l 0 w (by rw [hlen]; intro j hj; simp only [Nat.zero_add]; rw [R.cell j (by omega)]; rfl) (by rw [hlen]; intro j hj; simp only [Nat.zero_add]; exact R.free j (by omega)) h1
  have hone : (Try.prog.info? 5).map (·.size) = some 1 := by kernel_rfl
  refine ⟨w.setCells g 0 l, ?_, ⟨?_, fun j hj => ?_, fun j hj => ?_⟩, grownBy_sets g _ _ _⟩
  · rw [← hm]
    cases hq : Try.prog.info? 5 with
    | none => rw [hq] at hone; cases hone
    | some i =>
      have hi : i.size = 1 := by rw [hq] at hone; simpa using hone
      simp [Builtin.copy_, run_underlying Try.underlying57, Builtin.lenOf, Builtin.firstCells, sizeOf, typeInfo, hq]
      rw [show s.size.min n = m from hm.symm, ← hl, hst]
      simp
  · exact Nat.lt_of_lt_of_le R.lt (grownBy_sets g _ _ _).size
  · rw [← hm]
    by_cases hi : j < m
    · have := World.cell?_setCells_in g l 0 w (fun i hi => by
        rw [Nat.zero_add, R.cell i (by omega)]; rfl) j (by rw [hlen]; exact hi)
      rw [Nat.zero_add] at this
      rw [this, ← List.getElem?_eq_getElem, hat j hi, if_pos hi]
    · rw [World.cell?_setCells_out g _ _ _ _ (fun _ _ => by rw [hlen]; show j < _ ∨ _ ≤ j; omega), if_neg hi]
      exact R.cell j hj
  · rw [World.frozen?_setCells]
    exact R.free j hj

set_option maxHeartbeats 1000000 in
theorem opens_walk (w : World) (t : ByteArray) (wt : t.size ≤ maxLen) :
    Calls Try.prog 4 #[.string t] w fun e w' => e = .returned (.bool true) ∧ Below w.heap.size w w' := by
  have hfix := hide (fun y => fixed_any y)
  go_enter Try.func4, Try.ntmps4
  go_wp2_with fail
  generalize wrap64 ((wrap64 ((t.size : Int) + 63)).tdiv 64) = X
  obtain ⟨N, hN⟩ : ∃ N : Nat, (N : Int) = max 42 (min X 60) := ⟨(max 42 (min X 60)).toNat, by omega⟩
  have hN1 : 42 ≤ N := by omega
  have hN2 : N ≤ 60 := by omega
  have hNI : ((64 * N : Nat) : Int) = 64 * max 42 (min X 60) := by omega
  have mk := fun (y : World) => make_row y (64 * N) (by omega)
  have M0 := made_row w (64 * N)
  have g0 := grow w (.cells (madeCells #[.int .u8 0] (64 * N)) 5)
  rw [hNI] at mk
  replace hN := hide hN
  replace hNI := hide hNI
  rw [mk]
  clear mk
  generalize w.alloc (.cells (madeCells #[.int .u8 0] (64 * N)) 5) = x0 at *
  generalize hRB : w.heap.size = RB at *
  obtain ⟨x1, hcp, M1, G1⟩ := copy_head t M0
  generalize (fun j => if j < min t.size (64 * N) then byteAt t j else 0) = fB at *
  have hcv := conv_back M1 (64 * N)
  obtain ⟨s, hs⟩ : ∃ s, s = textOf (64 * N) fB := ⟨_, rfl⟩
  have hsz : s.size = 64 * N := by rw [hs]; exact textOf_size _ _
  rw [← hs] at hcv
  have T1 : Below RB w x1 := g0.grown G1 (by rw [← hRB]; exact g0.size) (fun j hj => by injection hj with hj; omega)
  replace hs := hide hs
  clear M0 g0
  have o64 : s.size % 64 = 0 := by omega
  obtain ⟨go1, go2⟩ := openD_good (s := s) o64 (by omega) (by omega)
  have co := dopen_any s o64 (by omega) (by omega) x1
  have cq := hide (fun (y : World) => ropend_any s o64 (by omega) (by omega) y)
  have cl := hide (fun (y : World) (H : Nat → Prop) (db : Nat) (D : PD y H db (openD s)) => wopen_any D (by show 0 + 300 < 1000000; decide) (by show 0 + 300 < 1000; decide))
  have ck := hide (fun (y : World) (H : Nat → Prop) (rb : Nat) (lv lw : Value) (R : RD y H rb lv lw (openD s)) => ropenl_any R (by show 0 + 300 < 1000000; decide) (by show 0 + 300 < 1000; decide))
  generalize openD s = d0 at *
  obtain ⟨E, hE⟩ : ∃ E, E = openE d0 := ⟨_, rfl⟩
  obtain ⟨d2, hd2⟩ : ∃ d2, d2 = openN d0 := ⟨_, rfl⟩
  obtain ⟨bn, hbn⟩ : ∃ bn, bn = bestN d0 := ⟨_, rfl⟩
  rw [← hE, ← hd2, ← hbn] at cl ck
  have hM1 := hide (fun (y : World) (b : Below x1.heap.size x1 y) => conv_back (M1.onto b) (64 * N))
  rw [← hs.out] at hM1
  clear hE hd2 hbn go1 go2 o64 G1 M1
  go_wp2_with fail
  refine co.mono ?_
  rintro e x2 ⟨db, rfl, D2, B2⟩
  have hcv2 := hM1.out x2 B2
  have T2 := hide (onto T1 (by omega) B2)
  have D2 := hide (D2.mono (G := fun k => x1.heap.size ≤ k ∧ k < x2.heap.size) (fun k h hl => ⟨h, hl⟩))
  have hx12 := B2.size
  clear hM1 hcv B2 co hcp
  go_wp2_with fail
  refine (cq.out x2).mono ?_
  rintro e x3 ⟨rb, lv, lw, rfl, R3, B3⟩
  have D3 := D2.out.on B3
  have T3 := hide (onto T2.out (Nat.le_of_eq hRB.symm) B3)
  have hx23 := B3.size
  have hrb := R3.h
  have hrb2 := R3.box.2.2
  replace R3 := hide R3
  clear cq D2 T2 B3 hcv2
  go_wp2_with fail
  refine (cl.out _ _ _ D3).mono ?_
  rintro e x4 ⟨lvv, rfl, NL⟩
  have R4 := R3.out.keep (y := x4) (fun k hk hl => NL.far.block k hl (fun h => by omega))
  have T4 := hide (T3.out.trans (NL.far.below (by have := T3.out.size; omega) (fun k h => by have := T1.size; omega)))
  have hx34 := NL.far.size
  clear cl D3 T3 R3
  go_wp2_with fail
  refine (ck.out _ _ _ _ _ R4).mono ?_
  rintro e x5 ⟨kv, rfl, LI⟩
  have T5 := hide (T4.out.trans (LI.turn.below (by have := T4.out.size; omega) (fun k h => by have := T1.size; omega)))
  obtain ⟨lv5, lw5, R5⟩ := LI.disk
  have ci := hide (fun (y : World) (b : Below x5.heap.size x5 y) => rimage_any (R5.on b))
  clear ck T4 R4
  by_cases hE0 : E = 0
  · obtain ⟨lb, rfl, hlb, PL4⟩ := NL.ok hE0
    obtain ⟨kb, rfl, hkb, BK⟩ := LI.log hE0
    have PL5 := PL4.turn LI.turn (fun k hk hl h => by
      rcases hk.1 with h' | h'
      · omega
      · omega) (fun h => by omega)
    have cd := hide (fun (y : World) (b : Below x5.heap.size x5 y) => dimage_any (PL5.disk.on b))
    have hst := same_text (catT d2.S) (catT d2.S)
    rw [decide_eq_true rfl] at hst
    generalize catT d2.S = IM at *
    have cn := hide (fun (y : World) (b : Below x5.heap.size x5 y) => lnum_any (PL5.on b))
    have kn := hide (fun (y : World) (b : Below x5.heap.size x5 y) => show y.cell? ⟨kb, 1, none⟩ = some (.int .i64 (bn : Int)) from (BK.on b).cell 1)
    subst hE0
    clear NL LI R5 PL4 PL5 BK
    go_wp2_with fail
    refine zir [] (fun y => Below x5.heap.size x5 y) (by kernel_rfl) (Below.refl _ _).drew (fun hHeld => ?_)
    generalize x5.drew = y1 at *
    refine zit 0 ?_ rfl (by kernel_rfl) (fun _ _ _ h => h) (by rfl) (by assumption) ?_ ?_
    rotate_left
    · intro y hSw
      skip
      go_simp
      try with_reducible rfl
    try simp only [Act.put, zpa, zpb, zpc]
    refine zit 1 ?_ rfl (by kernel_rfl) (fun _ _ _ h => h) (by rfl) (by assumption) ?_ ?_
    rotate_left
    · intro y hSw
      skip
      go_simp
      try with_reducible rfl
    try simp only [Act.put, zpa, zpb, zpc]
    refine zit 2 ?_ rfl (by kernel_rfl) (fun _ _ _ h => h) (by rfl) (by assumption) ?_ ?_
    rotate_left
    · intro y hSw
      skip
      go_simp
      try with_reducible rfl
    try simp only [Act.put, zpa, zpb, zpc]
    refine zit 3 ?_ rfl (by kernel_rfl) (fun _ _ _ h => h) (by rfl) (by assumption) ?_ ?_
    rotate_left
    · intro y hSw
      skip
      go_simp
      try with_reducible rfl
    try simp only [Act.put, zpa, zpb, zpc]
    refine zit 4 ?_ rfl (by kernel_rfl) (fun _ _ _ h => h) (by rfl) (by assumption) ?_ ?_
    rotate_left
    · intro y hSw
      skip
      go_simp
      try with_reducible rfl
    try simp only [Act.put, zpa, zpb, zpc]
    refine zit 5 ?_ rfl (by kernel_rfl) (fun _ _ _ h => h) (by rfl) (by assumption) ?_ ?_
    rotate_left
    · intro y hSw
      skip
      go_simp
      try with_reducible rfl
    try simp only [Act.put, zpa, zpb, zpc]
    refine zit 6 ?_ rfl (by kernel_rfl) (fun _ _ _ h => h) (by rfl) (by assumption) ?_ ?_
    rotate_left
    · intro y hSw
      skip
      go_simp
      try with_reducible rfl
    try simp only [Act.put, zpa, zpb, zpc]
    refine zit 7 ?_ rfl (by kernel_rfl) (fun _ _ _ h => h) (by rfl) (by assumption) ?_ ?_
    rotate_left
    · intro y hSw
      skip
      go_simp
      try with_reducible rfl
    try simp only [Act.put, zpa, zpb, zpc]
    refine zit 8 ?_ rfl (by kernel_rfl) (fun _ _ _ h => h) (by rfl) (by assumption) ?_ ?_
    rotate_left
    · intro y hSw
      skip
      go_simp
      try with_reducible rfl
    try simp only [Act.put, zpa, zpb, zpc]
    refine zit 9 ?_ rfl (by kernel_rfl) (fun _ _ _ h => h) (by rfl) (by assumption) ?_ ?_
    rotate_left
    · intro y hSw
      skip
      go_simp
      try with_reducible rfl
    try simp only [Act.put, zpa, zpb, zpc]
    refine zit 10 ?_ rfl (by kernel_rfl) (fun _ _ _ h => h) (by rfl) (by assumption) ?_ ?_
    rotate_left
    · intro y hSw
      skip
      go_simp
      try with_reducible rfl
    try simp only [Act.put, zpa, zpb, zpc]
    refine zit 11 ?_ rfl (by kernel_rfl) (fun _ _ _ h => h) (by rfl) (by assumption) ?_ ?_
    rotate_left
    · intro y hSw
      skip
      go_simp
      try with_reducible rfl
    try simp only [Act.put, zpa, zpb, zpc]
    refine zit 13 ?_ rfl (by kernel_rfl) (fun _ _ _ h => h) (by rfl) (by assumption) ?_ ?_
    rotate_left
    · intro y hSw
      skip
      go_simp
      try with_reducible rfl
    try simp only [Act.put, zpa, zpb, zpc]
    refine zib 12 rfl (by kernel_rfl) (fun K hK => ?_)
    go_simp
    refine (cd.out y1 hHeld).mono ?_
    rintro q y2 ⟨rfl, b2⟩
    have H2 := onto hHeld (Nat.le_refl _) b2
    clear cd hHeld b2
    go_wp2_with fail
    refine hK.out _ _ (H2) (fun hHeld => ?_)
    clear hK K
    try simp only [Act.put, zpa, zpb, zpc]
    refine zib 14 rfl (by kernel_rfl) (fun K hK => ?_)
    go_simp
    refine (ci.out y2 hHeld).mono ?_
    rintro q y3 ⟨rfl, b3⟩
    have H3 := onto hHeld (Nat.le_refl _) b3
    clear ci hHeld b3 H2
    go_wp2_with fail
    refine hK.out _ _ (H3) (fun hHeld => ?_)
    clear hK K
    try simp only [Act.put, zpa, zpb, zpc]
    refine zit 15 ?_ rfl (by kernel_rfl) (fun _ _ _ h => h) (by rfl) (by assumption) ?_ ?_
    rotate_left
    · intro y hSw
      skip
      go_simp
      try with_reducible rfl
    try simp only [Act.put, zpa, zpb, zpc]
    refine zit 16 ?_ rfl (by kernel_rfl) (fun _ _ _ h => h) (by rfl) (by assumption) ?_ ?_
    rotate_left
    · intro y hSw
      skip
      go_simp
      try with_reducible rfl
    try simp only [Act.put, zpa, zpb, zpc]
    refine zit 17 ?_ rfl (by kernel_rfl) (fun _ _ _ h => h) (by rfl) (by assumption) ?_ ?_
    rotate_left
    · intro y hSw
      skip
      go_simp
      try with_reducible rfl
    try simp only [Act.put, zpa, zpb, zpc]
    refine zit 18 ?_ rfl (by kernel_rfl) (fun _ _ _ h => h) (by rfl) (by assumption) ?_ ?_
    rotate_left
    · intro y hSw
      skip
      go_simp
      try with_reducible rfl
    try simp only [Act.put, zpa, zpb, zpc]
    refine zit 19 ?_ rfl (by kernel_rfl) (fun _ _ _ h => h) (by rfl) (by assumption) ?_ ?_
    rotate_left
    · intro y hSw
      skip
      go_simp
      try with_reducible rfl
    try simp only [Act.put, zpa, zpb, zpc]
    refine zit 20 ?_ rfl (by kernel_rfl) (fun _ _ _ h => h) (by rfl) (by assumption) ?_ ?_
    rotate_left
    · intro y hSw
      skip
      go_simp
      try with_reducible rfl
    try simp only [Act.put, zpa, zpb, zpc]
    refine zit 21 ?_ rfl (by kernel_rfl) (fun _ _ _ h => h) (by rfl) (by assumption) ?_ ?_
    rotate_left
    · intro y hSw
      have e1 := kn.out y hSw
      go_simp
      try with_reducible rfl
    try simp only [Act.put, zpa, zpb, zpc]
    refine zit 23 ?_ rfl (by kernel_rfl) (fun _ _ _ h => h) (by rfl) (by assumption) ?_ ?_
    rotate_left
    · intro y hSw
      have e1 := kn.out y hSw
      go_simp
      try with_reducible rfl
    try simp only [Act.put, zpa, zpb, zpc]
    refine zit 24 ?_ rfl (by kernel_rfl) (fun _ _ _ h => h) (by rfl) (by assumption) ?_ ?_
    rotate_left
    · intro y hSw
      have e1 := kn.out y hSw
      go_simp
      try with_reducible rfl
    try simp only [Act.put, zpa, zpb, zpc]
    refine zit 25 ?_ rfl (by kernel_rfl) (fun _ _ _ h => h) (by rfl) (by assumption) ?_ ?_
    rotate_left
    · intro y hSw
      have e1 := kn.out y hSw
      go_simp
      try with_reducible rfl
    try simp only [Act.put, zpa, zpb, zpc]
    refine zit 26 ?_ rfl (by kernel_rfl) (fun _ _ _ h => h) (by rfl) (by assumption) ?_ ?_
    rotate_left
    · intro y hSw
      have e1 := kn.out y hSw
      go_simp
      try with_reducible rfl
    try simp only [Act.put, zpa, zpb, zpc]
    refine zib 22 rfl (by kernel_rfl) (fun K hK => ?_)
    go_simp
    refine (cn.out y3 hHeld).mono ?_
    rintro q y4 ⟨rfl, h4⟩
    subst h4
    go_wp2_with fail
    refine hK.out _ _ (hHeld) (fun hHeld => ?_)
    clear hK K
    try simp only [Act.put, zpa, zpb, zpc]
    refine zit 27 ?_ rfl (by kernel_rfl) (fun _ _ _ h => h) (by rfl) (by assumption) ?_ ?_
    rotate_left
    · intro y hSw
      skip
      go_simp
      try with_reducible rfl
    try simp only [Act.put, zpa, zpb, zpc]
    refine zit 28 ?_ rfl (by kernel_rfl) (fun _ _ _ h => h) (by rfl) (by assumption) ?_ ?_
    rotate_left
    · intro y hSw
      skip
      go_simp
      try with_reducible rfl
    try simp only [Act.put, zpa, zpb, zpc]
    refine zit 29 ?_ rfl (by kernel_rfl) (fun _ _ _ h => h) (by rfl) (by assumption) ?_ ?_
    rotate_left
    · intro y hSw
      skip
      go_simp
      try with_reducible rfl
    try simp only [Act.put, zpa, zpb, zpc]
    refine zit 30 ?_ rfl (by kernel_rfl) (fun _ _ _ h => h) (by rfl) (by assumption) ?_ ?_
    rotate_left
    · intro y hSw
      skip
      go_simp
      try with_reducible rfl
    try simp only [Act.put, zpa, zpb, zpc]
    refine zib 31 rfl (by kernel_rfl) (fun K hK => ?_)
    go_simp
    refine (hfix.out y4).mono ?_
    rintro q y5 ⟨rfl, h5⟩
    have H5 := onto hHeld (Nat.le_refl _) h5
    clear hHeld h5
    go_wp2_with fail
    refine hK.out _ _ (H5) (fun hHeld => ?_)
    clear hK K
    try simp only [Act.put, zpa, zpb, zpc]
    refine zit 32 ?_ rfl (by kernel_rfl) (fun _ _ _ h => h) (by rfl) (by assumption) ?_ ?_
    rotate_left
    · intro y hSw
      skip
      go_simp
      try with_reducible rfl
    try simp only [Act.put, zpa, zpb, zpc]
    refine zit 33 ?_ rfl (by kernel_rfl) (fun _ _ _ h => h) (by rfl) (by assumption) ?_ ?_
    rotate_left
    · intro y hSw
      skip
      go_simp
      try with_reducible rfl
    try simp only [Act.put, zpa, zpb, zpc]
    refine zid (by kernel_rfl) ?_ _
    go_wp2
    go_ret
    exact ⟨rfl, by rw [hRB]; exact onto T5.out (by have := T5.out.size; omega) hHeld⟩
  · obtain ⟨rfl, PD4⟩ := NL.no hE0
    obtain rfl := LI.none hE0
    have PD5 := PD4.keep (y := x5) (fun k hk hl => LI.turn.block k hl (fun h => by
      subst h
      rcases hk with h' | h' <;> omega))
    have cd := hide (fun (y : World) (b : Below x5.heap.size x5 y) => dimage_any (PD5.on b))
    have hst := same_text (catT d2.S) (catT d2.S)
    rw [decide_eq_true rfl] at hst
    generalize catT d2.S = IM at *
    replace hE0 := hide hE0
    clear NL LI R5 PD4 PD5
    go_wp2_with fail
    refine zir [] (fun y => Below x5.heap.size x5 y) (by kernel_rfl) (Below.refl _ _).drew (fun hHeld => ?_)
    generalize x5.drew = y1 at *
    refine zit 0 ?_ rfl (by kernel_rfl) (fun _ _ _ h => h) (by rfl) (by assumption) ?_ ?_
    rotate_left
    · intro y hSw
      skip
      go_simp
      try with_reducible rfl
    try simp only [Act.put, zpa, zpb, zpc]
    refine zit 1 ?_ rfl (by kernel_rfl) (fun _ _ _ h => h) (by rfl) (by assumption) ?_ ?_
    rotate_left
    · intro y hSw
      skip
      go_simp
      try with_reducible rfl
    try simp only [Act.put, zpa, zpb, zpc]
    refine zit 2 ?_ rfl (by kernel_rfl) (fun _ _ _ h => h) (by rfl) (by assumption) ?_ ?_
    rotate_left
    · intro y hSw
      skip
      go_simp
      try with_reducible rfl
    try simp only [Act.put, zpa, zpb, zpc]
    refine zit 3 ?_ rfl (by kernel_rfl) (fun _ _ _ h => h) (by rfl) (by assumption) ?_ ?_
    rotate_left
    · intro y hSw
      skip
      go_simp
      try with_reducible rfl
    try simp only [Act.put, zpa, zpb, zpc]
    refine zit 4 ?_ rfl (by kernel_rfl) (fun _ _ _ h => h) (by rfl) (by assumption) ?_ ?_
    rotate_left
    · intro y hSw
      skip
      go_simp
      try with_reducible rfl
    try simp only [Act.put, zpa, zpb, zpc]
    refine zit 5 ?_ rfl (by kernel_rfl) (fun _ _ _ h => h) (by rfl) (by assumption) ?_ ?_
    rotate_left
    · intro y hSw
      skip
      go_simp
      try with_reducible rfl
    try simp only [Act.put, zpa, zpb, zpc]
    refine zit 6 ?_ rfl (by kernel_rfl) (fun _ _ _ h => h) (by rfl) (by assumption) ?_ ?_
    rotate_left
    · intro y hSw
      skip
      go_simp
      try with_reducible rfl
    try simp only [Act.put, zpa, zpb, zpc]
    refine zit 7 ?_ rfl (by kernel_rfl) (fun _ _ _ h => h) (by rfl) (by assumption) ?_ ?_
    rotate_left
    · intro y hSw
      skip
      go_simp
      try with_reducible rfl
    try simp only [Act.put, zpa, zpb, zpc]
    refine zit 8 ?_ rfl (by kernel_rfl) (fun _ _ _ h => h) (by rfl) (by assumption) ?_ ?_
    rotate_left
    · intro y hSw
      skip
      go_simp
      try with_reducible rfl
    try simp only [Act.put, zpa, zpb, zpc]
    refine zit 9 ?_ rfl (by kernel_rfl) (fun _ _ _ h => h) (by rfl) (by assumption) ?_ ?_
    rotate_left
    · intro y hSw
      skip
      go_simp
      try with_reducible rfl
    try simp only [Act.put, zpa, zpb, zpc]
    refine zit 10 ?_ rfl (by kernel_rfl) (fun _ _ _ h => h) (by rfl) (by assumption) ?_ ?_
    rotate_left
    · intro y hSw
      skip
      go_simp
      try with_reducible rfl
    try simp only [Act.put, zpa, zpb, zpc]
    refine zit 11 ?_ rfl (by kernel_rfl) (fun _ _ _ h => h) (by rfl) (by assumption) ?_ ?_
    rotate_left
    · intro y hSw
      skip
      go_simp
      try with_reducible rfl
    try simp only [Act.put, zpa, zpb, zpc]
    refine zit 13 ?_ rfl (by kernel_rfl) (fun _ _ _ h => h) (by rfl) (by assumption) ?_ ?_
    rotate_left
    · intro y hSw
      skip
      go_simp
      try with_reducible rfl
    try simp only [Act.put, zpa, zpb, zpc]
    refine zib 12 rfl (by kernel_rfl) (fun K hK => ?_)
    go_simp
    refine (cd.out y1 hHeld).mono ?_
    rintro q y2 ⟨rfl, b2⟩
    have H2 := onto hHeld (Nat.le_refl _) b2
    clear cd hHeld b2
    go_wp2_with fail
    refine hK.out _ _ (H2) (fun hHeld => ?_)
    clear hK K
    try simp only [Act.put, zpa, zpb, zpc]
    refine zib 14 rfl (by kernel_rfl) (fun K hK => ?_)
    go_simp
    refine (ci.out y2 hHeld).mono ?_
    rintro q y3 ⟨rfl, b3⟩
    have H3 := onto hHeld (Nat.le_refl _) b3
    clear ci hHeld b3 H2
    go_wp2_with fail
    refine hK.out _ _ (H3) (fun hHeld => ?_)
    clear hK K
    try simp only [Act.put, zpa, zpb, zpc]
    refine zit 15 ?_ rfl (by kernel_rfl) (fun _ _ _ h => h) (by rfl) (by assumption) ?_ ?_
    rotate_left
    · intro y hSw
      skip
      go_simp
      try with_reducible rfl
    try simp only [Act.put, zpa, zpb, zpc]
    refine zit 16 ?_ rfl (by kernel_rfl) (fun _ _ _ h => h) (by rfl) (by assumption) ?_ ?_
    rotate_left
    · intro y hSw
      skip
      go_simp
      try with_reducible rfl
    try simp only [Act.put, zpa, zpb, zpc]
    refine zit 17 ?_ rfl (by kernel_rfl) (fun _ _ _ h => h) (by rfl) (by assumption) ?_ ?_
    rotate_left
    · intro y hSw
      skip
      go_simp
      try with_reducible rfl
    try simp only [Act.put, zpa, zpb, zpc]
    refine zit 18 ?_ rfl (by kernel_rfl) (fun _ _ _ h => h) (by rfl) (by assumption) ?_ ?_
    rotate_left
    · intro y hSw
      skip
      go_simp
      try with_reducible rfl
    try simp only [Act.put, zpa, zpb, zpc]
    refine zit 19 ?_ rfl (by kernel_rfl) (fun _ _ _ h => h) (by rfl) (by assumption) ?_ ?_
    rotate_left
    · intro y hSw
      skip
      go_simp
      try with_reducible rfl
    try simp only [Act.put, zpa, zpb, zpc]
    refine zit 20 ?_ rfl (by kernel_rfl) (fun _ _ _ h => h) (by rfl) (by assumption) ?_ ?_
    rotate_left
    · intro y hSw
      skip
      go_simp
      try with_reducible rfl
    try simp only [Act.put, zpa, zpb, zpc]
    refine zio 21 rfl (by kernel_rfl) (fun _ _ _ h => h) (by rfl) (by assumption) ?_
    try simp only [Act.put, zpa, zpb, zpc]
    refine zio 22 rfl (by kernel_rfl) (fun _ _ _ h => h) (by rfl) (by assumption) ?_
    try simp only [Act.put, zpa, zpb, zpc]
    refine zio 23 rfl (by kernel_rfl) (fun _ _ _ h => h) (by rfl) (by assumption) ?_
    try simp only [Act.put, zpa, zpb, zpc]
    refine zio 24 rfl (by kernel_rfl) (fun _ _ _ h => h) (by rfl) (by assumption) ?_
    try simp only [Act.put, zpa, zpb, zpc]
    refine zio 25 rfl (by kernel_rfl) (fun _ _ _ h => h) (by rfl) (by assumption) ?_
    try simp only [Act.put, zpa, zpb, zpc]
    refine zio 26 rfl (by kernel_rfl) (fun _ _ _ h => h) (by rfl) (by assumption) ?_
    try simp only [Act.put, zpa, zpb, zpc]
    refine zio 27 rfl (by kernel_rfl) (fun _ _ _ h => h) (by rfl) (by assumption) ?_
    try simp only [Act.put, zpa, zpb, zpc]
    refine zit 28 ?_ rfl (by kernel_rfl) (fun _ _ _ h => h) (by rfl) (by assumption) ?_ ?_
    rotate_left
    · intro y hSw
      skip
      go_simp
      try with_reducible rfl
    try simp only [Act.put, zpa, zpb, zpc]
    refine zit 29 ?_ rfl (by kernel_rfl) (fun _ _ _ h => h) (by rfl) (by assumption) ?_ ?_
    rotate_left
    · intro y hSw
      skip
      go_simp
      try with_reducible rfl
    try simp only [Act.put, zpa, zpb, zpc]
    refine zit 30 ?_ rfl (by kernel_rfl) (fun _ _ _ h => h) (by rfl) (by assumption) ?_ ?_
    rotate_left
    · intro y hSw
      skip
      go_simp
      try with_reducible rfl
    try simp only [Act.put, zpa, zpb, zpc]
    refine zib 31 rfl (by kernel_rfl) (fun K hK => ?_)
    go_simp
    refine (hfix.out y3).mono ?_
    rintro q y5 ⟨rfl, h5⟩
    have H5 := onto hHeld (Nat.le_refl _) h5
    clear hHeld h5
    go_wp2_with fail
    refine hK.out _ _ (H5) (fun hHeld => ?_)
    clear hK K
    try simp only [Act.put, zpa, zpb, zpc]
    refine zit 32 ?_ rfl (by kernel_rfl) (fun _ _ _ h => h) (by rfl) (by assumption) ?_ ?_
    rotate_left
    · intro y hSw
      skip
      go_simp
      try with_reducible rfl
    try simp only [Act.put, zpa, zpb, zpc]
    refine zit 33 ?_ rfl (by kernel_rfl) (fun _ _ _ h => h) (by rfl) (by assumption) ?_ ?_
    rotate_left
    · intro y hSw
      skip
      go_simp
      try with_reducible rfl
    try simp only [Act.put, zpa, zpb, zpc]
    refine zid (by kernel_rfl) ?_ _
    go_wp2
    go_ret
    exact ⟨rfl, by rw [hRB]; exact onto T5.out (by have := T5.out.size; omega) hHeld⟩

end Go.Proofs.Ytgffhnggocbjhaa
