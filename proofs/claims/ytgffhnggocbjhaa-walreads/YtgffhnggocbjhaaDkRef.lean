/- Layer 18: the document's disk: where it lies; a new one; its image; what is read. -/
import Derived.Test.YtgffhnggocbjhaaDkSector
import Derived.Test.YtgffhnggocbjhaaHeldLate
import Derived.Lib.AppendStr
import Derived.Maps.AppendAt
import Derived.Deep.CutRange
import Derived.Deep.CutBlock
namespace Go.Proofs.Ytgffhnggocbjhaa
open Go.RowKit
set_option linter.unusedVariables false
set_option maxRecDepth 100000
set_option linter.unusedSimpArgs false

def strs (l : List ByteArray) : List Value := l.map Value.string
def looses (l : List (Nat × ByteArray)) : List Value := l.flatMap fun p => [.int .i64 (p.1 : Int), .string p.2]

theorem strs_len (l : List ByteArray) : (strs l).length = l.length := by simp [strs]
theorem strs_app (a b : List ByteArray) : strs (a ++ b) = strs a ++ strs b := List.map_append
theorem strs_one (l : List ByteArray) : ∀ u ∈ strs l, u.oneCell' = true := by
  intro u hu
  obtain ⟨z, -, rfl⟩ := List.mem_map.1 hu
  rfl
theorem strs_at {l : List ByteArray} {k : Nat} {x : ByteArray} (h : l[k]? = some x) : (strs l)[k]? = some (.string x) := by simp [strs, h]
theorem looses_len (l : List (Nat × ByteArray)) : (looses l).length = l.length * 2 := by
  induction l with
  | nil => rfl
  | cons m r ih => simp only [looses, List.flatMap_cons, List.length_append, List.length_cons] at *; rw [ih]; simp; omega
theorem looses_app (a b : List (Nat × ByteArray)) : looses (a ++ b) = looses a ++ looses b := List.flatMap_append
theorem looses_one (l : List (Nat × ByteArray)) : ∀ u ∈ looses l, u.oneCell' = true := by
  intro u hu
  obtain ⟨m, -, h⟩ := List.mem_flatMap.1 hu
  simp at h
  rcases h with rfl | rfl <;> rfl
theorem looses_at : ∀ {l : List (Nat × ByteArray)} {k : Nat} {p : Nat × ByteArray}, l[k]? = some p → (looses l)[k * 2]? = some (.int .i64 (p.1 : Int)) ∧ (looses l)[k * 2 + 1]? = some (.string p.2)
  | [], k, p, h => by simp at h
  | q :: l, 0, p, h => by simp at h; subst h; simp [looses]
  | q :: l, k + 1, p, h => by
    have ih := looses_at (l := l) (k := k) (p := p) (by simpa using h)
    have e : looses (q :: l) = .int .i64 (q.1 : Int) :: .string q.2 :: looses l := rfl
    rw [e, show (k + 1) * 2 = k * 2 + 1 + 1 by omega, show k * 2 + 1 + 1 + 1 = (k * 2 + 1) + 1 + 1 by omega]
    simpa using ih

/-- Slots of a row. -/
theorem Row.shape {w : World} {F : Nat → Prop} {t : TypeId} {size n : Nat} {v : Value} {xs : List Value} (h : Row w F t size v n xs) : ∃ a c, v = .slice a n c ∧ (n ≤ c) := by
  rcases h.1.2 with ⟨rfl, rfl⟩ | ⟨g, cap, cur, rfl, -, -, hc, -⟩
  · exact ⟨none, 0, rfl, Nat.le_refl _⟩
  · exact ⟨_, cap, rfl, hc⟩
theorem Row.open' {w : World} {F : Nat → Prop} {t : TypeId} {size n : Nat} {v : Value} {xs : List Value} (h : Row w F t size v n xs) :
    ∃ ad c, v = .slice ad n c ∧ n ≤ c ∧ n ≤ maxLen ∧ ∀ (j : Nat) u, xs[j]? = some u → ∃ g, ad = some ⟨g, 0, none⟩ ∧ g < w.heap.size ∧ F g ∧ w.cell? ⟨g, j, none⟩ = some u := by
  have hl := h.1.1
  rcases h.1.2 with ⟨rfl, rfl⟩ | ⟨g, cap, cur, rfl, -, hg, hc, hm, -⟩
  · refine ⟨none, 0, rfl, Nat.le_refl _, Nat.zero_le _, fun j u hj => ?_⟩
    have := (List.getElem?_eq_some_iff.1 hj).1
    omega
  · refine ⟨_, cap, rfl, hc, by omega, fun j u hj => ⟨g, rfl, (Array.getElem?_eq_some_iff.1 hg).1, h.2 g rfl, ?_⟩⟩
    have := h.1.cells (g := g) rfl j u hj
    rwa [Addr.add_lit, Nat.zero_add] at this

theorem infoS : ∃ i, Try.prog.info? 9 = some i ∧ i.zero = some (.string ⟨#[]⟩) ∧ i.size = 1 ∧ i.bytes = 16 := by
  have h : (Try.prog.info? 9).map (fun i => (i.zero, i.size, i.bytes)) = some (some (.string ⟨#[]⟩), 1, 16) := by kernel_rfl
  obtain ⟨i, hi, h1, h2, h3⟩ := info_parts h
  exact ⟨i, hi, h1, h2, h3⟩
theorem infoL : ∃ i, Try.prog.info? 80 = some i ∧ i.zero = some (.agg #[.int .i64 0, .string ⟨#[]⟩]) ∧ i.size = 2 ∧ i.bytes = 24 := by
  have h : (Try.prog.info? 80).map (fun i => (i.zero, i.size, i.bytes)) = some (some (.agg #[.int .i64 0, .string ⟨#[]⟩]), 2, 24) := by kernel_rfl
  obtain ⟨i, hi, h1, h2, h3⟩ := info_parts h
  exact ⟨i, hi, h1, h2, h3⟩
theorem infoB : ∃ i, Try.prog.info? 5 = some i ∧ i.zero = some (.int .u8 0) ∧ i.size = 1 ∧ i.bytes = 1 := by
  have h : (Try.prog.info? 5).map (fun i => (i.zero, i.size, i.bytes)) = some (some (.int .u8 0), 1, 1) := by kernel_rfl
  obtain ⟨i, hi, h1, h2, h3⟩ := info_parts h
  exact ⟨i, hi, h1, h2, h3⟩

/-- The cells of the document's disk. -/
def cellsR (lv lw : Value) (d : Dk) : Array Value := #[lv, lw, .int .i64 (d.a : Int), .string d.c.keep, .int .i64 d.c.torn, .int .i64 d.c.bytes, .bool d.dead, .int .i64 (d.m : Int)]

/-- The document's disk in block rb, its rows in blocks of H. -/
structure RD (w : World) (H : Nat → Prop) (rb : Nat) (lv lw : Value) (d : Dk) : Prop where
  box : Box w rb (cellsR lv lw d)
  s : Row w (fun k => H k ∧ k ≠ rb) 9 1 lv d.S.length (strs d.S)
  l : Row w (fun k => H k ∧ k ≠ rb) 80 2 lw d.L.length (looses d.L)
  h : H rb
  g : d.Good
  l6 : d.L.length ≤ 1000
  m6 : d.m ≤ 1000000

theorem RD.keep {w y : World} {H : Nat → Prop} {rb : Nat} {lv lw : Value} {d : Dk} (h : RD w H rb lv lw d) (hk : ∀ k, H k → k < w.heap.size → y.heap[k]? = w.heap[k]?) : RD y H rb lv lw d :=
  ⟨h.box.of_heap (hk rb h.h h.box.2.2), h.s.keep (fun k h => hk k h.1), h.l.keep (fun k h => hk k h.1), h.h, h.g, h.l6, h.m6⟩
theorem RD.on {w y : World} {H : Nat → Prop} {rb : Nat} {lv lw : Value} {d : Dk} (h : RD w H rb lv lw d) (hb : Below w.heap.size w y) : RD y H rb lv lw d := h.keep fun k _ hk => hb.block k hk
theorem RD.mono {w : World} {H G : Nat → Prop} {rb : Nat} {lv lw : Value} {d : Dk} (h : RD w H rb lv lw d) (hG : ∀ k, H k → k < w.heap.size → G k) : RD w G rb lv lw d :=
  ⟨h.box, h.s.mono (fun k h hl => ⟨hG k h.1 hl, h.2⟩), h.l.mono (fun k h hl => ⟨hG k h.1 hl, h.2⟩), hG rb h.h h.box.2.2, h.g, h.l6, h.m6⟩

theorem rnew_bad (n : Int) (h : n < 1 ∨ 4096 < n) (w : World) : Calls Try.prog 36 #[.int .i64 n] w fun e w' => e = .returned (.tuple #[.pointer none, .int .i64 180]) ∧ w' = w := by
  rcases h with h | h
  all_goals
    go_enter Try.func36, Try.ntmps36
    go_wp2
    go_ret2
    exact ⟨rfl, rfl⟩

theorem T0_conv (w : World) : (convert 57 9 (.slice (some ⟨w.heap.size, 0, none⟩) 64 64)).run Try.prog (w.alloc (.cells (madeCells #[.int .u8 0] 64) 5)) = .ok (.string T0) (w.alloc (.cells (madeCells #[.int .u8 0] 64) 5)) :=
  conv_back (made_row w 64) 64

set_option maxHeartbeats 4000000 in
set_option maxRecDepth 100000 in
theorem rnew_any (n : Nat) (h1 : 1 ≤ n) (h2 : n ≤ 4096) (w : World) :
    Calls Try.prog 36 #[.int .i64 (n : Int)] w fun e w' => ∃ rb lv lw, e = .returned (.tuple #[.pointer (some ⟨rb, 0, none⟩), .int .i64 0]) ∧ RD w' (fun k => w.heap.size ≤ k) rb lv lw (newD n) ∧ Below w.heap.size w w' := by
  obtain ⟨i, hi, hz, hs, hb⟩ := infoS
  have mk : ∀ w : World, (Instr.makeSlice 57 (.int .i64 64) (.int .i64 64)).run Try.prog w = .ok (.slice (some ⟨w.heap.size, 0, none⟩) 64 64) (w.alloc (.cells (madeCells #[.int .u8 0] 64) 5)) := fun w => make_row w 64 (by decide)
  have cv := T0_conv
  go_enter Try.func36, Try.ntmps36
  go_wp2_with fail
  have T : ∀ k, strs (List.replicate (k + 1) T0) = strs (List.replicate k T0) ++ [.string T0] := fun k => by rw [List.replicate_succ', strs_app]; rfl
  have g0 := hide (grow w (.cells #[.slice none 0 0, .slice none 0 0, .int .i64 0, .string { data := #[] }, .int .i64 0, .int .i64 0, .bool false, .int .i64 0] 52))
  have B0 := hide (Box.new w #[.slice none 0 0, .slice none 0 0, .int .i64 0, .string { data := #[] }, .int .i64 0, .int .i64 0, .bool false, .int .i64 0] 52)
  generalize w.alloc (.cells #[.slice none 0 0, .slice none 0 0, .int .i64 0, .string { data := #[] }, .int .i64 0, .int .i64 0, .bool false, .int .i64 0] 52) = w1 at *
  have hsz : w.heap.size + 1 ≤ w1.heap.size := B0.out.2.2
  go_loopw [5] (fun i wr => ∃ (k : Nat) (v : Value), k ≤ n ∧ i = .int .i64 (k : Int) ∧ Hid (Box wr w.heap.size #[v, .slice none 0 0, .int .i64 0, .string { data := #[] }, .int .i64 0, .int .i64 0, .bool false, .int .i64 0]) ∧ Hid (wr.ownsRow (w.heap.size + 1) 9 1 v k (strs (List.replicate k T0))) ∧ Hid (Below w.heap.size w wr) ∧ w.heap.size + 1 ≤ wr.heap.size) (fun i _ => n - (intOf i).toNat)
  case atStart => exact ⟨0, .slice none 0 0, Nat.zero_le _, rfl, B0, hide (World.ownsRow_nil _ _ _ _), g0, hsz⟩
  case round =>
    clear B0 g0 hsz
    obtain ⟨k, v, hk, rfl, B, O, G, hsz⟩ := hrel
    by_cases h : k < n
    · go_wp2_with fail
      refine zir [11] (fun y => Box y w.heap.size #[v, .slice none 0 0, .int .i64 0, .string { data := #[] }, .int .i64 0, .int .i64 0, .bool false, .int .i64 0]) (by kernel_rfl) B.out.drew (fun hHeld => ?_)
      replace O := hide O.out.drew
      replace G := hide G.out.drew
      replace hsz : w.heap.size + 1 ≤ wr.drew.heap.size := hsz
      clear B
      generalize wr.drew = x1 at *
      refine zit 0 ?_ rfl (by kernel_rfl) (fun _ _ _ h => h) (by rfl) (by assumption) ?_ ?_
      rotate_left
      · intro y hSw
        have e0 := hSw.cell 0
        go_simp
        try with_reducible rfl
      try simp only [Act.put, zpa, zpb, zpc]
      refine zit 1 ?_ rfl (by kernel_rfl) (fun _ _ _ h => h) (by rfl) (by assumption) ?_ ?_
      rotate_left
      · intro y hSw
        have e0 := hSw.cell 0
        go_simp
        try with_reducible rfl
      try simp only [Act.put, zpa, zpb, zpc]
      refine zit 2 ?_ rfl (by kernel_rfl) (fun _ _ _ h => h) (by rfl) (by assumption) ?_ ?_
      rotate_left
      · intro y hSw
        have e0 := hSw.cell 0
        go_simp
        try with_reducible rfl
      try simp only [Act.put, zpa, zpb, zpc]
      refine zit 3 ?_ rfl (by kernel_rfl) (fun _ _ _ h => h) (by rfl) (by assumption) ?_ ?_
      rotate_left
      · intro y hSw
        have e0 := hSw.cell 0
        go_simp
        try with_reducible rfl
      try simp only [Act.put, zpa, zpb, zpc]
      refine zit 4 ?_ rfl (by kernel_rfl) (fun _ _ _ h => h) (by rfl) (by assumption) ?_ ?_
      rotate_left
      · intro y hSw
        have e0 := hSw.cell 0
        go_simp
        try with_reducible rfl
      try simp only [Act.put, zpa, zpb, zpc]
      refine zib 5 rfl (by kernel_rfl) (fun K hK => ?_)
      have M1 := mk x1
      have C1 := cv x1
      have A1 := grow x1 (.cells (madeCells #[.int .u8 0] 64) 5)
      go_simp
      refine hK.out _ _ (hHeld.on A1) (fun hHeld => ?_)
      clear hK K
      try simp only [Act.put, zpa, zpb, zpc]
      replace O := hide (O.out.alloc (.cells (madeCells #[.int .u8 0] 64) 5))
      replace G := hide (onto G.out (Nat.le_refl _) A1)
      replace hsz := Nat.le_trans hsz A1.size
      clear M1 A1
      refine zib 6 rfl (by kernel_rfl) (fun K hK => ?_)
      go_simp
      refine hK.out _ _ (hHeld) (fun hHeld => ?_)
      clear hK K
      try simp only [Act.put, zpa, zpb, zpc]
      clear C1
      generalize x1.alloc (.cells (madeCells #[.int .u8 0] 64) 5) = x2 at *
      refine zib 7 rfl (by kernel_rfl) (fun K hK => ?_)
      have A2 := grow x2 (.cells #[.string T0] 9)
      have BL := Box.new x2 #[.string T0] 9
      go_simp
      refine hK.out _ _ (hHeld.on A2) (fun hHeld => ?_)
      clear hK K
      try simp only [Act.put, zpa, zpb, zpc]
      replace O := hide (O.out.alloc (.cells #[.string T0] 9))
      replace G := hide (onto G.out (Nat.le_refl _) A2)
      replace hsz := Nat.le_trans hsz A2.size
      clear A2
      generalize x2.alloc (.cells #[.string T0] 9) = x3 at *
      generalize x2.heap.size = LB at *
      refine zib 8 rfl (by kernel_rfl) (fun K hK => ?_)
      obtain ⟨v', x4, hap, O4, G4, -, -⟩ := run_append_own_at (P := Try.prog) x3 (w.heap.size + 1) 50 50 9 i _ 1 16 Try.underlying50 hi hz hs hb rfl (by decide) v k _ O.out ⟨LB, 0, none⟩ 1 1 [.string T0] rfl (fun j u hj => by rw [Addr.add_lit, Nat.zero_add, BL.cell]; simpa using hj) (by simp [Value.oneCell']) (by unfold maxLen; omega) (by omega) hsz
      rw [← T] at O4
      obtain ⟨a4, c4', rfl, -⟩ := (Row.of_own O4).shape
      have hlt : ∀ j, v.ownBlock = some j → w.heap.size + 1 ≤ j := fun j hj => (O.out.lt j hj).1
      have F4 := G4.block w.heap.size (by omega) (fun e => by have := hlt _ e.symm; omega)
      replace G := hide (G.out.grown G4 (by omega) (fun j hj => by have := hlt _ hj; omega))
      replace hsz := Nat.le_trans hsz G4.size
      refine step_append_told' rfl (.tmp 23) (.tmp 26) 50 rfl v (.slice (some ⟨LB, 0, none⟩) 1 1) _ rfl rfl hap ?_
      refine hK.out _ _ (hHeld.of_heap F4) (fun hHeld => ?_)
      clear hK K
      try simp only [Act.put, zpa, zpb, zpc]
      replace O := hide O4
      clear hap G4 O4 F4 hlt BL
      refine zit 9 ?_ rfl (by kernel_rfl) (fun _ _ _ h => h) (by rfl) (by assumption) ?_ ?_
      rotate_left
      · intro y hSw
        have e0 := hSw.cell 0
        go_simp
        try with_reducible rfl
      try simp only [Act.put, zpa, zpb, zpc]
      refine zit 10 ?_ rfl (by kernel_rfl) (fun _ _ _ h => h) (by rfl) (by assumption) ?_ ?_
      rotate_left
      · intro y hSw
        have e0 := hSw.cell 0
        go_simp
        try with_reducible rfl
      try simp only [Act.put, zpa, zpb, zpc]
      refine zil 11 rfl (by kernel_rfl) (by kernel_rfl) (fun K hK => ?_)
      have c0 := hHeld.cell 0
      have f0 := hHeld.free 0
      have B5 := hHeld.set 0 (.slice a4 (k + 1) c4')
      replace O := hide (ownsRow_setCell_below O.out (a := ⟨w.heap.size, 0, none⟩) (by show w.heap.size < w.heap.size + 1; omega) (.slice a4 (k + 1) c4'))
      replace G := hide (G.out.setCell (p := ⟨w.heap.size, 0, none⟩) (Nat.le_refl _) (.slice a4 (k + 1) c4'))
      replace hsz : w.heap.size + 1 ≤ (x4.setCell ⟨w.heap.size, 0, none⟩ (.slice a4 (k + 1) c4')).heap.size := by simpa [World.setCell] using hsz
      go_simp
      refine hK.out _ _ ?_
      clear hK K
      try simp only [Act.put, zpa, zpb, zpc]
      refine zid (by kernel_rfl) ?_ _
      clear hHeld c0 f0
      replace B5 := hide B5
      go_wp2
      go_roundw
      case rel => exact ⟨k + 1, _, by omega, by go_num, B5, O, G, hsz⟩
      case measure => simp [intOf]; omega
    · obtain rfl : k = n := by omega
      go_wp2
      go_ret2
      refine ⟨w.heap.size, v, .slice none 0 0, rfl, ⟨B.out, ?_, ⟨World.ownsRow_nil _ _ _ _, fun k hk => by simp [Value.ownBlock] at hk⟩, Nat.le_refl _, newD_good h1 h2, by simp [newD], by simp [newD]⟩, G.out⟩
      rw [show (newD k).S = List.replicate k T0 from rfl, List.length_replicate]
      exact (Row.of_own O.out).mono fun j h _ => ⟨by omega, by omega⟩

end Go.Proofs.Ytgffhnggocbjhaa
