/- Layer 18: the program's disk: a clone. -/
import Derived.Test.YtgffhnggocbjhaaDkPi
import Derived.Shelf.SlicesE.Clone
namespace Go.Proofs.Ytgffhnggocbjhaa
open Go.RowKit
set_option linter.unusedVariables false
set_option maxRecDepth 100000
set_option linter.unusedSimpArgs false

def renB : Go.Shelf.Ren := ⟨fun | 41 => 67 | n => n, fun | 22 => 57 | 23 => 5 | n => n, fun n => n⟩
def renL : Go.Shelf.Ren := ⟨fun | 41 => 68 | n => n, fun | 22 => 36 | 23 => 80 | n => n, fun n => n⟩

theorem lays41B : SlLaysE0.n41 Try.prog renB :=
  { mixed := by kernel_rfl, f41 := ⟨"slices.Clone[[]byte,byte]", by decide, by kernel_rfl⟩,
    t4 := by kernel_rfl, a4 := fun _ => by kernel_rfl, z4 := fun _ => by kernel_rfl, v4 := fun _ => by kernel_rfl,
    t22 := by kernel_rfl, a22 := fun _ => by kernel_rfl, z22 := fun _ => by kernel_rfl, v22 := fun _ => by kernel_rfl }

theorem lays41L : SlLaysE0.n41 Try.prog renL :=
  { mixed := by kernel_rfl, f41 := ⟨"slices.Clone[[]zoetrope/api.Cell,zoetrope/api.Cell]", by decide, by kernel_rfl⟩,
    t4 := by kernel_rfl, a4 := fun _ => by kernel_rfl, z4 := fun _ => by kernel_rfl, v4 := fun _ => by kernel_rfl,
    t22 := by kernel_rfl, a22 := fun _ => by kernel_rfl, z22 := fun _ => by kernel_rfl, v22 := fun _ => by kernel_rfl }

theorem strCells_one (s : ByteArray) : ∀ u ∈ Go.Lib.strCells s, u.oneCell' = true := by
  intro u hu
  obtain ⟨z, -, rfl⟩ := List.mem_map.1 hu
  rfl

theorem bclone_any {w : World} {F : Nat → Prop} {v : Value} {n : Nat} {s : ByteArray} (h : Row w F 5 1 v n (Go.Lib.strCells s)) (hn : n ≤ 1000000) :
    Calls Try.prog 67 #[v] w fun e w' => ∃ v', e = .returned v' ∧ Row w' (fun k => w.heap.size ≤ k) 5 1 v' n (Go.Lib.strCells s) ∧ Below w.heap.size w w' := by
  obtain ⟨i, hi, hz, hs, hb⟩ := infoB
  rcases h.1.2 with ⟨rfl, rfl⟩ | ⟨g, cap, cur, rfl, -, hg, hc, hm, hsz, ht⟩
  · refine (AnyE.slices_Clone_nil lays41B 0 0 w).mono ?_
    rintro e w' ⟨rfl, rfl⟩
    exact ⟨_, rfl, ⟨⟨h.1.1, .inl ⟨rfl, rfl⟩⟩, fun k hk => by simp [Value.ownBlock] at hk⟩, Below.refl _ _⟩
  · refine (AnyE.slices_Clone lays41B i _ 1 1 hi hz hs hb rfl (by decide) (fun _ => by kernel_rfl) g 0 n cap (Go.Lib.strCells s) w h.1.1 (by unfold maxLen; omega) (by omega) (fun j u hj => ?_) (strCells_one s)).mono ?_
    · have := h.1.cells (g := g) rfl j u hj
      rw [Addr.add_lit] at this
      exact this
    · rintro e w' ⟨v', rfl, hown, -, hbl⟩
      exact ⟨v', rfl, Row.of_own hown, hbl⟩

theorem lclone_any {w : World} {F : Nat → Prop} {v : Value} {n : Nat} {l : List (Nat × ByteArray)} (h : Row w F 80 2 v n (looses l)) (hn : n ≤ 1000000) :
    Calls Try.prog 68 #[v] w fun e w' => ∃ v', e = .returned v' ∧ Row w' (fun k => w.heap.size ≤ k) 80 2 v' n (looses l) ∧ Below w.heap.size w w' := by
  obtain ⟨i, hi, hz, hs, hb⟩ := infoL
  rcases h.1.2 with ⟨rfl, rfl⟩ | ⟨g, cap, cur, rfl, -, hg, hc, hm, hsz, ht⟩
  · refine (AnyE.slices_Clone_nil lays41L 0 0 w).mono ?_
    rintro e w' ⟨rfl, rfl⟩
    exact ⟨_, rfl, ⟨⟨h.1.1, .inl ⟨rfl, rfl⟩⟩, fun k hk => by simp [Value.ownBlock] at hk⟩, Below.refl _ _⟩
  · refine (AnyE.slices_Clone lays41L i _ 2 24 hi hz hs hb rfl (by decide) (fun _ => by kernel_rfl) g 0 n cap (looses l) w h.1.1 (by unfold maxLen; omega) (by omega) (fun j u hj => ?_) (looses_one l)).mono ?_
    · have := h.1.cells (g := g) rfl j u hj
      rw [Addr.add_lit] at this
      exact this
    · rintro e w' ⟨v', rfl, hown, -, hbl⟩
      exact ⟨v', rfl, Row.of_own hown, hbl⟩

set_option maxHeartbeats 4000000 in
set_option maxRecDepth 100000 in
theorem pclone_any {w : World} {H : Nat → Prop} {db : Nat} {sv lv gv : Value} {d : Dk} (P : PS w H db sv lv gv d) :
    Calls Try.prog 22 #[.pointer (some ⟨db, 0, none⟩)] w fun e w' => ∃ cb sv' lv', e = .returned (.pointer (some ⟨cb, 0, none⟩)) ∧ PS w' (fun k => w.heap.size ≤ k) cb sv' lv' gv d ∧ Below w.heap.size w w' := by
  obtain ⟨b0, b1, b2, b3, b4, b5⟩ := P.cells
  have hdb := P.box.2.2
  obtain ⟨g, cap, hsv, -⟩ := P.open
  obtain ⟨a, c, hlv, -⟩ := P.l.shape
  have hcl := fun (y : World) (Py : PS y H db sv lv gv d) => bclone_any Py.s (by have := Py.g.s2; omega)
  have hcm := fun (y : World) (Py : PS y H db sv lv gv d) => lclone_any Py.l (by have := Py.l6; omega)
  have hgv := P.v
  have hpg := hide (And.intro P.g (And.intro P.l6 P.m6))
  replace P := hide P
  replace hcl := hide hcl
  replace hcm := hide hcm
  obtain ⟨M, hM⟩ : ∃ M, M = (d.m : Int) := ⟨_, rfl⟩
  obtain ⟨A, hA⟩ : ∃ A, A = (d.a : Int) := ⟨_, rfl⟩
  obtain ⟨m, hm⟩ : ∃ m, m = 64 * d.S.length := ⟨_, rfl⟩
  obtain ⟨l, hl⟩ : ∃ l, l = d.L.length := ⟨_, rfl⟩
  rw [← hM] at b3
  rw [← hA] at b4
  rw [← hm] at hsv
  rw [← hl] at hlv
  replace hM := hide hM
  replace hA := hide hA
  replace hm := hide hm
  replace hl := hide hl
  subst hsv
  subst hlv
  have hone : ∀ (y : World) (p : Addr), (store p gv).run Try.prog y = stored Try.prog y p gv .plain := fun y p => run_store Try.prog y p gv _ (by rcases hgv with ⟨rfl, -⟩ | ⟨gc, rfl, -⟩ <;> rfl)
  replace hgv := hide hgv
  go_enter Try.func22, Try.ntmps22
  go_wp2_with fail
  obtain ⟨O0, hO0⟩ : ∃ O0 : Obj, O0 = .cells #[.slice (some ⟨g, 0, none⟩) m cap, .slice a l c, .bool d.dead, .int .i64 M, .int .i64 A, gv] 92 := ⟨_, rfl⟩
  have BO : Box (w.alloc O0) w.heap.size #[.slice (some ⟨g, 0, none⟩) m cap, .slice a l c, .bool d.dead, .int .i64 M, .int .i64 A, gv] := by rw [hO0]; exact Box.new w _ _
  have A0 := grow w O0
  have hy0 : w.heap.size + 1 ≤ (w.alloc O0).heap.size := by simp
  rw [← hO0]
  have P0 := P.out.on A0
  have q0 : (w.alloc O0).cell? ⟨db, 0, none⟩ = some (.slice (some ⟨g, 0, none⟩) m cap) := P0.cells.1
  have q1 : (w.alloc O0).cell? ⟨db, 1, none⟩ = some (.slice a l c) := P0.cells.2.1
  obtain ⟨OB, hOB⟩ : ∃ OB, OB = w.heap.size := ⟨_, rfl⟩
  rw [← hOB] at BO hy0 ⊢
  obtain ⟨y0, hy⟩ : ∃ y0, y0 = w.alloc O0 := ⟨_, rfl⟩
  rw [← hy] at BO A0 P0 q0 q1 hy0 ⊢
  replace hOB := hide hOB
  clear hy hO0 b0 b1 b2 b3 b4 b5 P hone
  refine zir [13] (fun y => y.cell? ⟨db, 0, none⟩ = some (.slice (some ⟨g, 0, none⟩) m cap) ∧ y.cell? ⟨db, 1, none⟩ = some (.slice a l c)) (by kernel_rfl) ⟨q0, q1⟩ (fun hHeld => ?_)
  replace P0 := hide (P0.on (Below.refl _ y0).drew)
  replace A0 := hide (onto A0 (Nat.le_refl _) (Below.refl _ y0).drew)
  replace BO := BO.drew
  replace hy0 : OB + 1 ≤ y0.drew.heap.size := hy0
  clear q0 q1
  generalize y0.drew = y1 at *
  refine zit 0 ?_ rfl (by kernel_rfl) (fun _ _ _ h => h) (by rfl) (by assumption) ?_ ?_
  rotate_left
  · intro y hSw
    obtain ⟨e0, e1⟩ := hSw
    go_simp
    try with_reducible rfl
  try simp only [Act.put, zpa, zpb, zpc]
  refine zit 1 ?_ rfl (by kernel_rfl) (fun _ _ _ h => h) (by rfl) (by assumption) ?_ ?_
  rotate_left
  · intro y hSw
    obtain ⟨e0, e1⟩ := hSw
    go_simp
    try with_reducible rfl
  try simp only [Act.put, zpa, zpb, zpc]
  refine zit 2 ?_ rfl (by kernel_rfl) (fun _ _ _ h => h) (by rfl) (by assumption) ?_ ?_
  rotate_left
  · intro y hSw
    obtain ⟨e0, e1⟩ := hSw
    go_simp
    try with_reducible rfl
  try simp only [Act.put, zpa, zpb, zpc]
  refine zit 3 ?_ rfl (by kernel_rfl) (fun _ _ _ h => h) (by rfl) (by assumption) ?_ ?_
  rotate_left
  · intro y hSw
    obtain ⟨e0, e1⟩ := hSw
    go_simp
    try with_reducible rfl
  try simp only [Act.put, zpa, zpb, zpc]
  refine zit 5 ?_ rfl (by kernel_rfl) (fun _ _ _ h => h) (by rfl) (by assumption) ?_ ?_
  rotate_left
  · intro y hSw
    obtain ⟨e0, e1⟩ := hSw
    go_simp
    try with_reducible rfl
  try simp only [Act.put, zpa, zpb, zpc]
  refine zit 6 ?_ rfl (by kernel_rfl) (fun _ _ _ h => h) (by rfl) (by assumption) ?_ ?_
  rotate_left
  · intro y hSw
    obtain ⟨e0, e1⟩ := hSw
    go_simp
    try with_reducible rfl
  try simp only [Act.put, zpa, zpb, zpc]
  refine zit 7 ?_ rfl (by kernel_rfl) (fun _ _ _ h => h) (by rfl) (by assumption) ?_ ?_
  rotate_left
  · intro y hSw
    obtain ⟨e0, e1⟩ := hSw
    go_simp
    try with_reducible rfl
  try simp only [Act.put, zpa, zpb, zpc]
  refine zit 8 ?_ rfl (by kernel_rfl) (fun _ _ _ h => h) (by rfl) (by assumption) ?_ ?_
  rotate_left
  · intro y hSw
    obtain ⟨e0, e1⟩ := hSw
    go_simp
    try with_reducible rfl
  try simp only [Act.put, zpa, zpb, zpc]
  refine zib 4 rfl (by kernel_rfl) (fun K hK => ?_)
  go_simp
  refine (hcl.out _ P0.out).mono ?_
  rintro q y2 ⟨v2, rfl, R2, hB⟩
  have P2 := P0.out.on hB
  have A2 := hide (onto A0.out (Nat.le_refl _) hB)
  have BO2 := BO.on hB
  have hy2 : OB + 1 ≤ y2.heap.size := Nat.le_trans hy0 hB.size
  replace R2 := R2.mono (G := fun k => OB < k) (fun k h _ => by omega)
  have hS2 := hide (And.intro P2.cells.1 P2.cells.2.1)
  replace P2 := hide P2
  replace R2 := hide R2
  replace BO2 := hide BO2
  clear P0 A0 BO hB hy0 hHeld
  go_wp2_with fail
  refine hK.out _ _ (hS2.out) (fun hHeld => ?_)
  clear hK K
  try simp only [Act.put, zpa, zpb, zpc]
  refine zib 9 rfl (by kernel_rfl) (fun K hK => ?_)
  go_simp
  refine (hcm.out _ P2.out).mono ?_
  rintro q y3 ⟨v3, rfl, R3, hB⟩
  have P3 := P2.out.on hB
  have A3 := onto A2.out (Nat.le_refl _) hB
  have BO3 := BO2.out.on hB
  replace R3 := R3.mono (G := fun k => OB < k) (fun k h _ => by omega)
  have R4 := R2.out.on hB
  obtain ⟨a3, c3, rfl, -⟩ := R3.shape
  obtain ⟨a4, c4, rfl, -⟩ := R4.shape
  have hS3 := hide (And.intro P3.cells.1 P3.cells.2.1)
  replace P3 := hide P3
  replace R3 := hide R3
  replace R4 := hide R4
  replace A3 := hide A3
  replace hdb : Hid (db ≠ OB) := hide (by rw [hOB.out]; omega)
  have hy3 : OB + 1 ≤ y3.heap.size := Nat.le_trans hy2 hB.size
  clear P2 A2 BO2 R2 hB hS2 hcl hcm
  go_wp2_with fail
  refine hK.out _ _ (hS3.out) (fun hHeld => ?_)
  clear hK K
  try simp only [Act.put, zpa, zpb, zpc]
  refine zit 10 ?_ rfl (by kernel_rfl) (fun _ _ _ h => h) (by rfl) (by assumption) ?_ ?_
  rotate_left
  · intro y hSw
    skip
    go_simp
    try with_reducible rfl
  try simp only [Act.put, zpa, zpb, zpc]
  refine zib 11 rfl (by kernel_rfl) (fun K hK => ?_)
  have f0 := BO3.free 0
  have g0 : y3.cell? ⟨OB, 0, none⟩ = some (.slice (some ⟨g, 0, none⟩) m cap) := BO3.cell 0
  have BO4 := BO3.set 0 (.slice a4 (64 * d.S.length) c4)
  have hfar : ∀ j, j ≠ OB → (y3.setCell ⟨OB, 0, none⟩ (.slice a4 (64 * d.S.length) c4)).heap[j]? = y3.heap[j]? := fun j hj => Below.heap_setCell _ _ _ j hj
  have hS4 : (y3.setCell ⟨OB, 0, none⟩ (.slice a4 (64 * d.S.length) c4)).cell? ⟨db, 0, none⟩ = some (.slice (some ⟨g, 0, none⟩) m cap) ∧ (y3.setCell ⟨OB, 0, none⟩ (.slice a4 (64 * d.S.length) c4)).cell? ⟨db, 1, none⟩ = some (.slice a l c) := by
    refine ⟨?_, ?_⟩
    · rw [World.cell?_of_block (a := ⟨db, 0, none⟩) (hfar db hdb.out)]; exact hS3.out.1
    · rw [World.cell?_of_block (a := ⟨db, 1, none⟩) (hfar db hdb.out)]; exact hS3.out.2
  have R3' := hide (R3.out.keep (y := y3.setCell ⟨OB, 0, none⟩ (.slice a4 (64 * d.S.length) c4)) fun j h _ => hfar j (by omega))
  have R4' := hide (R4.out.keep (y := y3.setCell ⟨OB, 0, none⟩ (.slice a4 (64 * d.S.length) c4)) fun j h _ => hfar j (by omega))
  have A4 := hide (A3.out.setCell (p := ⟨OB, 0, none⟩) (by show w.heap.size ≤ OB; rw [hOB.out]; exact Nat.le_refl _) (.slice a4 (64 * d.S.length) c4))
  replace hfar := hide hfar
  go_simp
  refine hK.out _ _ (hS4) (fun hHeld => ?_)
  clear hK K
  try simp only [Act.put, zpa, zpb, zpc]
  clear f0 g0 R3 R4 A3 hfar hS4 hS3 P3
  generalize y3.setCell ⟨OB, 0, none⟩ (.slice a4 (64 * d.S.length) c4) = y4 at *
  refine zit 12 ?_ rfl (by kernel_rfl) (fun _ _ _ h => h) (by rfl) (by assumption) ?_ ?_
  rotate_left
  · intro y hSw
    skip
    go_simp
    try with_reducible rfl
  try simp only [Act.put, zpa, zpb, zpc]
  refine zil 13 rfl (by kernel_rfl) (by kernel_rfl) (fun K hK => ?_)
  have f1 := BO4.free 1
  have g1 : y4.cell? ⟨OB, 1, none⟩ = some (.slice a l c) := BO4.cell 1
  have BO5 := hide (BO4.set 1 (.slice a3 d.L.length c3))
  have hfar : ∀ j, j ≠ OB → (y4.setCell ⟨OB, 1, none⟩ (.slice a3 d.L.length c3)).heap[j]? = y4.heap[j]? := fun j hj => Below.heap_setCell _ _ _ j hj
  have R5 := hide (R3'.out.keep (y := y4.setCell ⟨OB, 1, none⟩ (.slice a3 d.L.length c3)) fun j h _ => hfar j (by omega))
  have R6 := hide (R4'.out.keep (y := y4.setCell ⟨OB, 1, none⟩ (.slice a3 d.L.length c3)) fun j h _ => hfar j (by omega))
  have A5 := hide (A4.out.setCell (p := ⟨OB, 1, none⟩) (by show w.heap.size ≤ OB; rw [hOB.out]; exact Nat.le_refl _) (.slice a3 d.L.length c3))
  clear R3' R4' A4 hfar BO3 BO4
  go_simp
  refine hK.out _ _ ?_
  clear hK K
  try simp only [Act.put, zpa, zpb, zpc]
  refine zid (by kernel_rfl) ?_ _
  clear f1 g1 hHeld
  go_wp2
  go_ret
  refine ⟨OB, .slice a4 (64 * d.S.length) c4, .slice a3 d.L.length c3, rfl, ⟨?_, ?_, ?_, ?_, hpg.out.1, hpg.out.2.1, hpg.out.2.2, hgv.out⟩, A5.out⟩
  · have := BO5.out
    rw [hM.out, hA.out] at this
    exact this
  · exact R6.out.mono fun k h _ => ⟨by rw [hOB.out] at h; omega, by omega⟩
  · exact R5.out.mono fun k h _ => ⟨by rw [hOB.out] at h; omega, by omega⟩
  · show w.heap.size ≤ OB
    rw [hOB.out]
    exact Nat.le_refl _

end Go.Proofs.Ytgffhnggocbjhaa
