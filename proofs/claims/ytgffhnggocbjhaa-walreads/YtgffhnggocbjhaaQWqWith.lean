/- Layer 19: sectors with cells. -/
import Derived.Test.YtgffhnggocbjhaaQWqPur
import Derived.Test.YtgffhnggocbjhaaQWqCells
import Derived.Test.YtgffhnggocbjhaaQDkPabc
import Derived.Lib.ConvBytes
namespace Go.Proofs.Ytgffhnggocbjhaa
open Go.RowKit
set_option linter.unusedVariables false
set_option maxRecDepth 100000
set_option linter.unusedSimpArgs false

theorem byteAt_app (a b : ByteArray) (j : Nat) : byteAt (a ++ b) j = if j < a.size then byteAt a j else byteAt b (j - a.size) := by
  unfold byteAt
  have e : (a ++ b).data = a.data ++ b.data := ByteArray.data_append
  rw [e, Array.getElem?_append]
  split
  · next h => rw [if_pos (show j < a.size from h)]
  · next h => rw [if_neg (show ¬ j < a.size from h)]; rfl
theorem byteAt_cat : ∀ (S : List ByteArray), (∀ s ∈ S, s.size = 64) → ∀ j, j < 64 * S.length → byteAt (catT S) j = byteAt (S.getD (j / 64) T0) (j % 64)
  | [], _, j, h => by simp at h
  | s :: l, hS, j, h => by
    rw [catT, byteAt_app, hS s (by simp)]
    by_cases hj : j < 64
    · rw [if_pos hj, show j / 64 = 0 by omega, show j % 64 = j by omega]
      rfl
    · rw [if_neg hj, byteAt_cat l (fun x hx => hS x (by simp [hx])) (j - 64) (by rw [List.length_cons] at h; omega), show j / 64 = (j - 64) / 64 + 1 by omega, show j % 64 = (j - 64) % 64 by omega]
      rfl
theorem byteAt_set {S : List ByteArray} (hS : ∀ s ∈ S, s.size = 64) {p : Nat} (hp : p < S.length) {x : ByteArray} (hx : x.size = 64) (j : Nat) (hj : j < 64 * S.length) :
    (if 64 * p ≤ j ∧ j < 64 * p + 64 then byteAt x (j - 64 * p) else byteAt (catT S) j) = byteAt (catT (S.set p x)) j := by
  have h2 : ∀ s ∈ S.set p x, s.size = 64 := fun s hs => by
    rcases List.mem_or_eq_of_mem_set hs with h | h
    · exact hS s h
    · rw [h]; exact hx
  rw [byteAt_cat _ h2 j (by rw [List.length_set]; exact hj), byteAt_cat _ hS j hj, getD_set S p x _ hp]
  by_cases h : j / 64 = p
  · rw [if_pos (by omega), if_pos h, show j - 64 * p = j % 64 by omega]
  · rw [if_neg (by omega), if_neg h]

theorem grown_trans {a b c : World} {r : Option Nat} (h : a.grownBy b r) (k : b.grownBy c r) : a.grownBy c r :=
  ⟨k.os.trans h.os, k.tape.trans h.tape, k.output.trans h.output, Nat.le_trans h.size k.size, fun i hi hr => (k.block i (Nat.lt_of_lt_of_le hi h.size) hr).trans (h.block i hi hr)⟩
theorem grown_set (w : World) (g o : Nat) (v : Value) : w.grownBy (w.setCell ⟨g, o, none⟩ v) (some g) :=
  ⟨rfl, rfl, rfl, by simp, fun k hk hr => Below.heap_setCell w ⟨g, o, none⟩ v k (by simpa using hr)⟩
theorem grown_sets (g : Nat) : ∀ (vs : List Value) (o : Nat) (w : World), w.grownBy (w.setCells g o vs) (some g)
  | [], _, w => ⟨rfl, rfl, rfl, Nat.le_refl _, fun _ _ _ => rfl⟩
  | v :: r, o, w => grown_trans (grown_set w g o v) (grown_sets g r (o + 1) _)

theorem copy_at {w : World} {g n : Nat} {f : Nat → Nat} (s : ByteArray) (hs : s.size = 64) (o cap : Nat) (ho : o + 64 ≤ n) (R : RowIs w g n f) :
    ∃ y, (Builtin.copy_ #[57, 9] 3 #[.slice (some ⟨g, o, none⟩) 64 cap, .string s]).run Try.prog w = .ok (goInt (64 : Nat)) y ∧ RowIs y g n (fun j => if o ≤ j ∧ j < o + 64 then byteAt s (j - o) else f j) ∧ w.grownBy y (some g) := by
  obtain ⟨l, hl⟩ : ∃ l, l = List.take 64 (List.map (fun b : UInt8 => Value.int .u8 (b.toNat : Int)) s.data.toList) := ⟨_, rfl⟩
  have hlen : l.length = 64 := by
    rw [hl, List.length_take, List.length_map, Array.length_toList]
    exact Nat.min_eq_left (Nat.le_of_eq hs.symm)
  have hat : ∀ j, j < 64 → l[j]? = some (.int .u8 ((byteAt s j : Nat) : Int)) := fun j hj => by
    have hlt : j < s.data.size := Nat.lt_of_lt_of_le hj (Nat.le_of_eq hs.symm)
    rw [hl, List.getElem?_take_of_lt hj, List.getElem?_map, Array.getElem?_toList, Array.getElem?_eq_getElem hlt]
    unfold byteAt
    rw [Array.getElem?_eq_getElem hlt]
    rfl
  have h1 : ∀ u ∈ l, u.oneCell' = true := fun u hu => by
    rw [hl] at hu
    obtain ⟨b, -, rfl⟩ := List.mem_map.1 (List.mem_of_mem_take hu)
    rfl
  have hst := run_storeCells_cells (P := Try.prog) g o l 0 w (by rw [hlen]; intro j hj; simp only [Nat.add_zero]; rw [R.cell (o + j) (by omega)]; rfl) (by rw [hlen]; intro j hj; simp only [Nat.add_zero]; exact R.free (o + j) (by omega)) h1
  have hone : (Try.prog.info? 5).map (·.size) = some 1 := by kernel_rfl
  refine ⟨w.setCells g o l, ?_, ⟨?_, fun j hj => ?_, fun j hj => ?_⟩, grown_sets g _ _ _⟩
  · cases hq : Try.prog.info? 5 with
    | none => rw [hq] at hone; cases hone
    | some i =>
      have hi : i.size = 1 := by rw [hq] at hone; simpa using hone
      simp [Builtin.copy_, run_underlying Try.underlying57, Builtin.lenOf, Builtin.firstCells, sizeOf, typeInfo, hq]
      rw [show s.size.min 64 = 64 by rw [hs]; rfl, ← hl]
      rw [Nat.add_zero] at hst
      rw [hst]
      simp
  · exact Nat.lt_of_lt_of_le R.lt (grown_sets g _ _ _).size
  · by_cases hi : o ≤ j ∧ j < o + 64
    · have := World.cell?_setCells_in g l o w (fun i hi => by
        rw [R.cell (o + i) (by omega)]; rfl) (j - o) (by rw [hlen]; omega)
      rw [show o + (j - o) = j by omega] at this
      rw [this, ← List.getElem?_eq_getElem, hat (j - o) (by omega), if_pos hi]
    · rw [World.cell?_setCells_out g _ _ _ _ (fun _ _ => by rw [hlen]; show j < _ ∨ _ ≤ j; omega), if_neg hi]
      exact R.cell j hj
  · rw [World.frozen?_setCells]
    exact R.free j hj

theorem bytes_row (w : World) (s : ByteArray) : RowIs (Go.Lib.bytesWorld w 5 s) w.heap.size s.size (byteAt s) ∧ Below w.heap.size w (Go.Lib.bytesWorld w 5 s) := by
  have hz := Go.Lib.bytesWorld_size w 5 s
  have hat := Go.Lib.bytesWorld_at_new w 5 s
  refine ⟨⟨by omega, fun j hj => ?_, fun j hj => ?_⟩, ?_⟩
  · rw [Go.Lib.bytesWorld_cell w 5 s j hj, byteAt_in s j hj]
    have : s.data.toList.getD j 0 = s[j] := by
      rw [List.getD_eq_getElem?_getD, Array.getElem?_toList, Array.getElem?_eq_getElem (show j < s.data.size from hj)]
      rfl
    rw [this]
  · unfold World.frozen?
    rw [hat]
    have hC : s.size ≤ (Go.Lib.bytesCells w 5 s).size := by
      unfold Go.Lib.bytesCells
      simp
    simp
    omega
  · exact ⟨rfl, rfl, rfl, by omega, fun k hk => Go.Lib.bytesWorld_at_old w 5 s k hk⟩

theorem with_any {w : World} {G : Nat → Prop} {v : Value} {c : Cl} {W : List ByteArray} (C : CW w G v c) (hW : ∀ s ∈ W, s.size = 64) (hl : W.length ≤ 1000) (hc : ∀ p ∈ c, 0 ≤ p.1 ∧ p.1 < (W.length : Int) ∧ p.2.size = 64) :
    Calls Try.prog 33 #[.string (catT W), v] w fun e z => e = .returned (.string (catT (setsR c W))) ∧ Below w.heap.size w z := by
  obtain ⟨a, cc, rfl, hcc, hcm, hx⟩ := C
  obtain ⟨m, hm⟩ : ∃ m, m = c.length := ⟨_, rfl⟩
  rw [← hm] at hcc hcm ⊢
  obtain ⟨L, hL⟩ : ∃ L, L = W.length := ⟨_, rfl⟩
  rw [← hL] at hl
  have hq : ((64 * L : Nat) : Int).tdiv 64 = (L : Int) := by rw [Int.tdiv_eq_ediv_of_nonneg (by omega)]; omega
  replace hx := hide hx
  replace hc := hide hc
  replace hm := hide hm
  go_enter Try.func33, Try.ntmps33
  go_wp2_with fail
  rw [Go.Lib.run_convert_string_bytes _ 9 57 5 _ Try.underlying9 Try.underlying57 Try.underlying5]
  obtain ⟨M0, B0⟩ := bytes_row w (catT W)
  rw [catT_size hW, ← hL] at M0 ⊢
  have hcap := grownCap_ge w (64 * L) 0 5
  generalize grownCap w (64 * L) 0 5 = cap at *
  generalize Go.Lib.bytesWorld w 5 (catT W) = x0 at *
  obtain ⟨B, hB⟩ : ∃ B, B = w.heap.size := ⟨_, rfl⟩
  rw [← hB] at M0 ⊢
  replace hB := hide hB
  replace M0 := hide M0
  replace B0 := hide B0
  replace hL := hide hL
  replace hW := hide hW
  go_wp2_with fail
  go_loopw [6] (fun i wr => ∃ (k : Nat), k ≤ m ∧ i = .int .i64 (k : Int) ∧ Hid (RowIs wr B (64 * L) (byteAt (catT (setsR (c.take k) W)))) ∧ Hid (Below w.heap.size w wr)) (fun i _ => m - (intOf i).toNat)
  case atStart => exact ⟨0, Nat.zero_le _, rfl, M0, B0⟩
  case round =>
    clear M0 B0
    obtain ⟨k, hk, rfl, R, T⟩ := hrel
    by_cases h : k < m
    · obtain ⟨p, hp⟩ : ∃ p, c[k]? = some p := ⟨c[k]'(by have := hm.out; omega), List.getElem?_eq_getElem _⟩
      obtain ⟨g, rfl, hg, -, q0, q1⟩ := hx.out k p hp
      have r0 : wr.cell? ⟨g, k * 2, none⟩ = some (.int .i64 p.1) := (T.out.cell (p := ⟨g, k * 2, none⟩) hg).trans q0
      have r1 : wr.cell? ⟨g, k * 2 + 1, none⟩ = some (.string p.2) := (T.out.cell (p := ⟨g, k * 2 + 1, none⟩) hg).trans q1
      obtain ⟨p0, p1, p2⟩ := hc.out p (List.mem_of_getElem? hp)
      rw [← hL.out] at p1
      have h64 : ∀ s ∈ setsR (c.take k) W, s.size = 64 := setsR_64 _ _ hW.out (fun q hq => (hc.out q (List.mem_of_mem_take hq)).2.2)
      have hlk : (setsR (c.take k) W).length = L := by rw [setsR_len]; exact hL.out.symm
      have hnx : setsR (c.take (k + 1)) W = (setsR (c.take k) W).set p.1.toNat p.2 := by
        rw [List.take_add_one, hp]
        unfold setsR
        rw [List.foldl_append]
        rfl
      obtain ⟨pn, hpn⟩ : ∃ pn : Nat, p.1 = (pn : Int) := ⟨p.1.toNat, by omega⟩
      obtain ⟨px, hpx⟩ : ∃ px, px = p.2 := ⟨_, rfl⟩
      rw [hpn] at r0 p0 p1 hnx q0
      rw [← hpx] at r1 p2 hnx q1
      have hpL : pn < L := by omega
      rw [Int.toNat_natCast] at hnx
      have hwp : IntKind.i64.wrap (64 * (pn : Int) + 64) = 64 * (pn : Int) + 64 := by simp [IntKind.wrap, IntKind.bits, IntKind.signed]; omega
      have hw0 : IntKind.i64.wrap (64 * (pn : Int)) = 64 * (pn : Int) := by simp [IntKind.wrap, IntKind.bits, IntKind.signed]; omega
      have hp0 : 0 ≤ 64 * (pn : Int) := by omega
      have hp1 : 0 ≤ 64 * (pn : Int) + 64 := by omega
      have hp2 : 64 * (pn : Int) ≤ 64 * (pn : Int) + 64 := by omega
      have hp3 : 64 * (pn : Int) + 64 ≤ (cap : Int) := by omega
      have e1 : (64 * (pn : Int)).toNat = 64 * pn := by omega
      have e2 : (64 * (pn : Int) + 64).toNat = 64 * pn + 64 := by omega
      have e3 : ¬ cap = 64 * pn := by omega
      have e4 : ¬ cap - 64 * pn = 0 := by omega
      have hsa := hide (fun (x1 : World) (R1 : RowIs x1 B (64 * L) (byteAt (catT (setsR (c.take k) W)))) => copy_at px p2 (64 * pn) (cap - 64 * pn) (by omega) R1)
      have hsb := hide (fun (y : World) (R2 : RowIs y B (64 * L) (fun j => if 64 * pn ≤ j ∧ j < 64 * pn + 64 then byteAt px (j - 64 * pn) else byteAt (catT (setsR (c.take k) W)) j)) => show RowIs y B (64 * L) (byteAt (catT (setsR (c.take (k + 1)) W))) from R2.congr (fun j hj => by rw [hnx]; exact byteAt_set h64 (by rw [hlk]; exact hpL) p2 j (by rw [hlk]; exact hj)))
      have hS0 := hide (And.intro r0 r1)
      have hq01 := hide (And.intro q0 q1)
      clear q0 q1 hnx h64 hlk hp hpn hpx
      go_wp2_with fail
      refine zir [] (fun y => y.cell? ⟨g, k * 2, none⟩ = some (.int .i64 (pn : Int)) ∧ y.cell? ⟨g, k * 2 + 1, none⟩ = some (.string px)) (by kernel_rfl) hS0.out (fun hHeld => ?_)
      have R1 := R.out.onto (Below.refl wr.heap.size wr).drew
      have T1 := hide (onto T.out (Nat.le_refl _) (Below.refl wr.heap.size wr).drew)
      obtain ⟨y, hcp, R2, G2⟩ := hsa.out _ R1
      have R3 := hide (hsb.out y R2)
      have T2 := hide (T1.out.grown G2 (by have := T1.out.size; exact this) (fun j hj => by injection hj with hj; have := hB.out; omega))
      clear R T R1 T1 R2 G2 hS0 r0 r1
      generalize wr.drew = x1 at *
      refine zit 0 ?_ rfl (by kernel_rfl) (fun _ _ _ h => h) (by rfl) (by assumption) ?_ ?_
      rotate_left
      · intro y hSw
        obtain ⟨z1, z2⟩ := hSw
        go_simp
        try with_reducible rfl
      try simp only [Act.put, zpa, zpb, zpc]
      refine zit 1 ?_ rfl (by kernel_rfl) (fun _ _ _ h => h) (by rfl) (by assumption) ?_ ?_
      rotate_left
      · intro y hSw
        obtain ⟨z1, z2⟩ := hSw
        go_simp
        try with_reducible rfl
      try simp only [Act.put, zpa, zpb, zpc]
      refine zit 2 ?_ rfl (by kernel_rfl) (fun _ _ _ h => h) (by rfl) (by assumption) ?_ ?_
      rotate_left
      · intro y hSw
        obtain ⟨z1, z2⟩ := hSw
        go_simp
        try with_reducible rfl
      try simp only [Act.put, zpa, zpb, zpc]
      refine zit 3 ?_ rfl (by kernel_rfl) (fun _ _ _ h => h) (by rfl) (by assumption) ?_ ?_
      rotate_left
      · intro y hSw
        obtain ⟨z1, z2⟩ := hSw
        go_simp
        try with_reducible rfl
      try simp only [Act.put, zpa, zpb, zpc]
      refine zit 4 ?_ rfl (by kernel_rfl) (fun _ _ _ h => h) (by rfl) (by assumption) ?_ ?_
      rotate_left
      · intro y hSw
        obtain ⟨z1, z2⟩ := hSw
        go_simp
        try with_reducible rfl
      try simp only [Act.put, zpa, zpb, zpc]
      refine zit 5 ?_ rfl (by kernel_rfl) (fun _ _ _ h => h) (by rfl) (by assumption) ?_ ?_
      rotate_left
      · intro y hSw
        obtain ⟨z1, z2⟩ := hSw
        go_simp
        try with_reducible rfl
      try simp only [Act.put, zpa, zpb, zpc]
      refine zit 6 ?_ rfl (by kernel_rfl) (fun _ _ _ h => h) (by rfl) (by assumption) ?_ ?_
      rotate_left
      · intro y hSw
        obtain ⟨z1, z2⟩ := hSw
        go_simp
        try with_reducible rfl
      try simp only [Act.put, zpa, zpb, zpc]
      refine zit 7 ?_ rfl (by kernel_rfl) (fun _ _ _ h => h) (by rfl) (by assumption) ?_ ?_
      rotate_left
      · intro y hSw
        obtain ⟨z1, z2⟩ := hSw
        go_simp
        try with_reducible rfl
      try simp only [Act.put, zpa, zpb, zpc]
      refine zit 8 ?_ rfl (by kernel_rfl) (fun _ _ _ h => h) (by rfl) (by assumption) ?_ ?_
      rotate_left
      · intro y hSw
        obtain ⟨z1, z2⟩ := hSw
        go_simp
        try with_reducible rfl
      try simp only [Act.put, zpa, zpb, zpc]
      refine zit 9 ?_ rfl (by kernel_rfl) (fun _ _ _ h => h) (by rfl) (by assumption) ?_ ?_
      rotate_left
      · intro y hSw
        obtain ⟨z1, z2⟩ := hSw
        go_simp
        try with_reducible rfl
      try simp only [Act.put, zpa, zpb, zpc]
      refine zit 10 ?_ rfl (by kernel_rfl) (fun _ _ _ h => h) (by rfl) (by assumption) ?_ ?_
      rotate_left
      · intro y hSw
        obtain ⟨z1, z2⟩ := hSw
        go_simp
        try with_reducible rfl
      try simp only [Act.put, zpa, zpb, zpc]
      refine zit 11 ?_ rfl (by kernel_rfl) (fun _ _ _ h => h) (by rfl) (by assumption) ?_ ?_
      rotate_left
      · intro y hSw
        obtain ⟨z1, z2⟩ := hSw
        go_simp
        try with_reducible rfl
      try simp only [Act.put, zpa, zpb, zpc]
      refine zit 12 ?_ rfl (by kernel_rfl) (fun _ _ _ h => h) (by rfl) (by assumption) ?_ ?_
      rotate_left
      · intro y hSw
        obtain ⟨z1, z2⟩ := hSw
        go_simp
        try with_reducible rfl
      try simp only [Act.put, zpa, zpb, zpc]
      refine zit 13 ?_ rfl (by kernel_rfl) (fun _ _ _ h => h) (by rfl) (by assumption) ?_ ?_
      rotate_left
      · intro y hSw
        obtain ⟨z1, z2⟩ := hSw
        go_simp
        try with_reducible rfl
      try simp only [Act.put, zpa, zpb, zpc]
      refine zit 14 ?_ rfl (by kernel_rfl) (fun _ _ _ h => h) (by rfl) (by assumption) ?_ ?_
      rotate_left
      · intro y hSw
        obtain ⟨z1, z2⟩ := hSw
        go_simp
        try with_reducible rfl
      try simp only [Act.put, zpa, zpb, zpc]
      refine zit 15 ?_ rfl (by kernel_rfl) (fun _ _ _ h => h) (by rfl) (by assumption) ?_ ?_
      rotate_left
      · intro y hSw
        obtain ⟨z1, z2⟩ := hSw
        go_simp
        try with_reducible rfl
      try simp only [Act.put, zpa, zpb, zpc]
      refine zit 16 ?_ rfl (by kernel_rfl) (fun _ _ _ h => h) (by rfl) (by assumption) ?_ ?_
      rotate_left
      · intro y hSw
        obtain ⟨z1, z2⟩ := hSw
        go_simp
        try with_reducible rfl
      try simp only [Act.put, zpa, zpb, zpc]
      refine zit 17 ?_ rfl (by kernel_rfl) (fun _ _ _ h => h) (by rfl) (by assumption) ?_ ?_
      rotate_left
      · intro y hSw
        obtain ⟨z1, z2⟩ := hSw
        go_simp
        try with_reducible rfl
      try simp only [Act.put, zpa, zpb, zpc]
      refine zit 18 ?_ rfl (by kernel_rfl) (fun _ _ _ h => h) (by rfl) (by assumption) ?_ ?_
      rotate_left
      · intro y hSw
        obtain ⟨z1, z2⟩ := hSw
        go_simp
        try with_reducible rfl
      try simp only [Act.put, zpa, zpb, zpc]
      refine zit 19 ?_ rfl (by kernel_rfl) (fun _ _ _ h => h) (by rfl) (by assumption) ?_ ?_
      rotate_left
      · intro y hSw
        obtain ⟨z1, z2⟩ := hSw
        go_simp
        try with_reducible rfl
      try simp only [Act.put, zpa, zpb, zpc]
      refine zib 20 rfl (by kernel_rfl) (fun K hK => ?_)
      go_simp
      have hS2 : y.cell? ⟨g, k * 2, none⟩ = some (.int .i64 (pn : Int)) ∧ y.cell? ⟨g, k * 2 + 1, none⟩ = some (.string px) :=
        ⟨(T2.out.cell (p := ⟨g, k * 2, none⟩) hg).trans hq01.out.1, (T2.out.cell (p := ⟨g, k * 2 + 1, none⟩) hg).trans hq01.out.2⟩
      refine hK.out _ _ (hS2) (fun hHeld => ?_)
      clear hK K
      try simp only [Act.put, zpa, zpb, zpc]
      refine zid (by kernel_rfl) ?_ _
      clear hHeld hS2 hq01 hcp
      go_wp2
      go_roundw
      case rel => exact ⟨k + 1, by omega, by go_num, R3, T2⟩
      case measure => simp [intOf]; omega
    · obtain rfl : k = m := by omega
      have hW2 : (catT (setsR c W)).size = 64 * L := by
        rw [catT_size (setsR_64 _ _ hW.out (fun q hq => (hc.out q hq).2.2)), setsR_len, ← hL.out]
      have hcv := conv_back R.out cap
      rw [List.take_of_length_le (by rw [hm.out]; exact Nat.le_refl _), ← hW2, ← textOf_byteAt] at hcv
      rw [hW2] at hcv
      clear hW2 R
      go_wp2_with fail
      go_ret
      exact ⟨rfl, T.out⟩

end Go.Proofs.Ytgffhnggocbjhaa
