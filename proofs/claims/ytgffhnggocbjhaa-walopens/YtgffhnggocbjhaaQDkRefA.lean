/- Layer 18: the document's disk: where it lies; a new one; its image; what is read. -/
import Derived.Test.YtgffhnggocbjhaaQDkSector
import Derived.Test.YtgffhnggocbjhaaQHeldLate
import Derived.Lib.AppendStr
import Derived.Maps.AppendAt
import Derived.Deep.CutRange
import Derived.Deep.CutBlock
import Derived.Lib.BitFns
namespace Go.Proofs.Ytgffhnggocbjhaa
open Go.RowKit
set_option linter.unusedVariables false
set_option maxRecDepth 100000
set_option linter.unusedSimpArgs false

def strs (l : List ByteArray) : List Value := l.map Value.string
def looses (l : List (Nat × ByteArray)) : List Value := l.flatMap fun p => [.int .i64 (p.1 : Int), .string p.2]

theorem strs_len (l : List ByteArray) : (strs l).length = l.length := by simp [strs]
theorem strs_app (a b : List ByteArray) : strs (a ++ b) = strs a ++ strs b := List.map_append
theorem strs_one (l : List ByteArray) : ∀ u ∈ strs l, u.oneCell' = true := by
  intro u hu
  obtain ⟨z, -, rfl⟩ := List.mem_map.1 hu
  rfl
theorem strs_at {l : List ByteArray} {k : Nat} {x : ByteArray} (h : l[k]? = some x) : (strs l)[k]? = some (.string x) := by simp [strs, h]
theorem looses_len (l : List (Nat × ByteArray)) : (looses l).length = l.length * 2 := by
  induction l with
  | nil => rfl
  | cons m r ih => simp only [looses, List.flatMap_cons, List.length_append, List.length_cons] at *; rw [ih]; simp; omega
theorem looses_app (a b : List (Nat × ByteArray)) : looses (a ++ b) = looses a ++ looses b := List.flatMap_append
theorem looses_one (l : List (Nat × ByteArray)) : ∀ u ∈ looses l, u.oneCell' = true := by
  intro u hu
  obtain ⟨m, -, h⟩ := List.mem_flatMap.1 hu
  simp at h
  rcases h with rfl | rfl <;> rfl
theorem looses_at : ∀ {l : List (Nat × ByteArray)} {k : Nat} {p : Nat × ByteArray}, l[k]? = some p → (looses l)[k * 2]? = some (.int .i64 (p.1 : Int)) ∧ (looses l)[k * 2 + 1]? = some (.string p.2)
  | [], k, p, h => by simp at h
  | q :: l, 0, p, h => by simp at h; subst h; simp [looses]
  | q :: l, k + 1, p, h => by
    have ih := looses_at (l := l) (k := k) (p := p) (by simpa using h)
    have e : looses (q :: l) = .int .i64 (q.1 : Int) :: .string q.2 :: looses l := rfl
    rw [e, show (k + 1) * 2 = k * 2 + 1 + 1 by omega, show k * 2 + 1 + 1 + 1 = (k * 2 + 1) + 1 + 1 by omega]
    simpa using ih

/-- Slots of a row. -/
theorem Row.shape {w : World} {F : Nat → Prop} {t : TypeId} {size n : Nat} {v : Value} {xs : List Value} (h : Row w F t size v n xs) : ∃ a c, v = .slice a n c ∧ (n ≤ c) := by
  rcases h.1.2 with ⟨rfl, rfl⟩ | ⟨g, cap, cur, rfl, -, -, hc, -⟩
  · exact ⟨none, 0, rfl, Nat.le_refl _⟩
  · exact ⟨_, cap, rfl, hc⟩
theorem Row.open' {w : World} {F : Nat → Prop} {t : TypeId} {size n : Nat} {v : Value} {xs : List Value} (h : Row w F t size v n xs) :
    ∃ ad c, v = .slice ad n c ∧ n ≤ c ∧ n ≤ maxLen ∧ ∀ (j : Nat) u, xs[j]? = some u → ∃ g, ad = some ⟨g, 0, none⟩ ∧ g < w.heap.size ∧ F g ∧ w.cell? ⟨g, j, none⟩ = some u := by
  have hl := h.1.1
  rcases h.1.2 with ⟨rfl, rfl⟩ | ⟨g, cap, cur, rfl, -, hg, hc, hm, -⟩
  · refine ⟨none, 0, rfl, Nat.le_refl _, Nat.zero_le _, fun j u hj => ?_⟩
    have := (List.getElem?_eq_some_iff.1 hj).1
    omega
  · refine ⟨_, cap, rfl, hc, by omega, fun j u hj => ⟨g, rfl, (Array.getElem?_eq_some_iff.1 hg).1, h.2 g rfl, ?_⟩⟩
    have := h.1.cells (g := g) rfl j u hj
    rwa [Addr.add_lit, Nat.zero_add] at this

theorem infoS : ∃ i, Try.prog.info? 9 = some i ∧ i.zero = some (.string ⟨#[]⟩) ∧ i.size = 1 ∧ i.bytes = 16 := by
  have h : (Try.prog.info? 9).map (fun i => (i.zero, i.size, i.bytes)) = some (some (.string ⟨#[]⟩), 1, 16) := by kernel_rfl
  obtain ⟨i, hi, h1, h2, h3⟩ := info_parts h
  exact ⟨i, hi, h1, h2, h3⟩
theorem infoL : ∃ i, Try.prog.info? 80 = some i ∧ i.zero = some (.agg #[.int .i64 0, .string ⟨#[]⟩]) ∧ i.size = 2 ∧ i.bytes = 24 := by
  have h : (Try.prog.info? 80).map (fun i => (i.zero, i.size, i.bytes)) = some (some (.agg #[.int .i64 0, .string ⟨#[]⟩]), 2, 24) := by kernel_rfl
  obtain ⟨i, hi, h1, h2, h3⟩ := info_parts h
  exact ⟨i, hi, h1, h2, h3⟩
theorem infoB : ∃ i, Try.prog.info? 5 = some i ∧ i.zero = some (.int .u8 0) ∧ i.size = 1 ∧ i.bytes = 1 := by
  have h : (Try.prog.info? 5).map (fun i => (i.zero, i.size, i.bytes)) = some (some (.int .u8 0), 1, 1) := by kernel_rfl
  obtain ⟨i, hi, h1, h2, h3⟩ := info_parts h
  exact ⟨i, hi, h1, h2, h3⟩

/-- The cells of the document's disk. -/
def cellsR (lv lw : Value) (d : Dk) : Array Value := #[lv, lw, .int .i64 (d.a : Int), .string d.c.keep, .int .i64 d.c.torn, .int .i64 d.c.bytes, .bool d.dead, .int .i64 (d.m : Int)]

/-- The document's disk in block rb, its rows in blocks of H. -/
structure RD (w : World) (H : Nat → Prop) (rb : Nat) (lv lw : Value) (d : Dk) : Prop where
  box : Box w rb (cellsR lv lw d)
  s : Row w (fun k => H k ∧ k ≠ rb) 9 1 lv d.S.length (strs d.S)
  l : Row w (fun k => H k ∧ k ≠ rb) 80 2 lw d.L.length (looses d.L)
  h : H rb
  g : d.Good
  l6 : d.L.length ≤ 1000
  m6 : d.m ≤ 1000000

theorem RD.keep {w y : World} {H : Nat → Prop} {rb : Nat} {lv lw : Value} {d : Dk} (h : RD w H rb lv lw d) (hk : ∀ k, H k → k < w.heap.size → y.heap[k]? = w.heap[k]?) : RD y H rb lv lw d :=
  ⟨h.box.of_heap (hk rb h.h h.box.2.2), h.s.keep (fun k h => hk k h.1), h.l.keep (fun k h => hk k h.1), h.h, h.g, h.l6, h.m6⟩
theorem RD.on {w y : World} {H : Nat → Prop} {rb : Nat} {lv lw : Value} {d : Dk} (h : RD w H rb lv lw d) (hb : Below w.heap.size w y) : RD y H rb lv lw d := h.keep fun k _ hk => hb.block k hk
theorem RD.mono {w : World} {H G : Nat → Prop} {rb : Nat} {lv lw : Value} {d : Dk} (h : RD w H rb lv lw d) (hG : ∀ k, H k → k < w.heap.size → G k) : RD w G rb lv lw d :=
  ⟨h.box, h.s.mono (fun k h hl => ⟨hG k h.1 hl, h.2⟩), h.l.mono (fun k h hl => ⟨hG k h.1 hl, h.2⟩), hG rb h.h h.box.2.2, h.g, h.l6, h.m6⟩

theorem rnew_bad (n : Int) (h : n < 1 ∨ 4096 < n) (w : World) : Calls Try.prog 36 #[.int .i64 n] w fun e w' => e = .returned (.tuple #[.pointer none, .int .i64 180]) ∧ w' = w := by
  rcases h with h | h
  all_goals
    go_enter Try.func36, Try.ntmps36
    go_wp2
    go_ret2
    exact ⟨rfl, rfl⟩

theorem T0_conv (w : World) : (convert 57 9 (.slice (some ⟨w.heap.size, 0, none⟩) 64 64)).run Try.prog (w.alloc (.cells (madeCells #[.int .u8 0] 64) 5)) = .ok (.string T0) (w.alloc (.cells (madeCells #[.int .u8 0] 64) 5)) :=
  conv_back (made_row w 64) 64

set_option maxHeartbeats 4000000 in
set_option maxRecDepth 100000 in
theorem rnew_any (n : Nat) (h1 : 1 ≤ n) (h2 : n ≤ 4096) (w : World) :
    Calls Try.prog 36 #[.int .i64 (n : Int)] w fun e w' => ∃ rb lv lw, e = .returned (.tuple #[.pointer (some ⟨rb, 0, none⟩), .int .i64 0]) ∧ RD w' (fun k => w.heap.size ≤ k) rb lv lw (newD n) ∧ Below w.heap.size w w' := by
  obtain ⟨i, hi, hz, hs, hb⟩ := infoS
  have mk : ∀ w : World, (Instr.makeSlice 57 (.int .i64 64) (.int .i64 64)).run Try.prog w = .ok (.slice (some ⟨w.heap.size, 0, none⟩) 64 64) (w.alloc (.cells (madeCells #[.int .u8 0] 64) 5)) := fun w => make_row w 64 (by decide)
  have cv := T0_conv
  go_enter Try.func36, Try.ntmps36
  go_wp2_with fail
  have T : ∀ k, strs (List.replicate (k + 1) T0) = strs (List.replicate k T0) ++ [.string T0] := fun k => by rw [List.replicate_succ', strs_app]; rfl
  have g0 := hide (grow w (.cells #[.slice none 0 0, .slice none 0 0, .int .i64 0, .string { data := #[] }, .int .i64 0, .int .i64 0, .bool false, .int .i64 0] 52))
  have B0 := hide (Box.new w #[.slice none 0 0, .slice none 0 0, .int .i64 0, .string { data := #[] }, .int .i64 0, .int .i64 0, .bool false, .int .i64 0] 52)
  generalize w.alloc (.cells #[.slice none 0 0, .slice none 0 0, .int .i64 0, .string { data := #[] }, .int .i64 0, .int .i64 0, .bool false, .int .i64 0] 52) = w1 at *
  have hsz : w.heap.size + 1 ≤ w1.heap.size := B0.out.2.2
  go_loopw [5] (fun i wr => ∃ (k : Nat) (v : Value), k ≤ n ∧ i = .int .i64 (k : Int) ∧ Hid (Box wr w.heap.size #[v, .slice none 0 0, .int .i64 0, .string { data := #[] }, .int .i64 0, .int .i64 0, .bool false, .int .i64 0]) ∧ Hid (wr.ownsRow (w.heap.size + 1) 9 1 v k (strs (List.replicate k T0))) ∧ Hid (Below w.heap.size w wr) ∧ w.heap.size + 1 ≤ wr.heap.size) (fun i _ => n - (intOf i).toNat)
  case atStart => exact ⟨0, .slice none 0 0, Nat.zero_le _, rfl, B0, hide (World.ownsRow_nil _ _ _ _), g0, hsz⟩
  case round =>
    clear B0 g0 hsz
    obtain ⟨k, v, hk, rfl, B, O, G, hsz⟩ := hrel
    by_cases h : k < n
    · go_wp2_with fail
      refine zir [11] (fun y => Box y w.heap.size #[v, .slice none 0 0, .int .i64 0, .string { data := #[] }, .int .i64 0, .int .i64 0, .bool false, .int .i64 0]) (by kernel_rfl) B.out.drew (fun hHeld => ?_)
      replace O := hide O.out.drew
      replace G := hide G.out.drew
      replace hsz : w.heap.size + 1 ≤ wr.drew.heap.size := hsz
      clear B
      generalize wr.drew = x1 at *
      refine zit 0 ?_ rfl (by kernel_rfl) (fun _ _ _ h => h) (by rfl) (by assumption) ?_ ?_
      rotate_left
      · intro y hSw
        have e0 := hSw.cell 0
        go_simp
        try with_reducible rfl
      try simp only [Act.put, zpa, zpb, zpc]
      refine zit 1 ?_ rfl (by kernel_rfl) (fun _ _ _ h => h) (by rfl) (by assumption) ?_ ?_
      rotate_left
      · intro y hSw
        have e0 := hSw.cell 0
        go_simp
        try with_reducible rfl
      try simp only [Act.put, zpa, zpb, zpc]
      refine zit 2 ?_ rfl (by kernel_rfl) (fun _ _ _ h => h) (by rfl) (by assumption) ?_ ?_
      rotate_left
      · intro y hSw
        have e0 := hSw.cell 0
        go_simp
        try with_reducible rfl
      try simp only [Act.put, zpa, zpb, zpc]
      refine zit 3 ?_ rfl (by kernel_rfl) (fun _ _ _ h => h) (by rfl) (by assumption) ?_ ?_
      rotate_left
      · intro y hSw
        have e0 := hSw.cell 0
        go_simp
        try with_reducible rfl
      try simp only [Act.put, zpa, zpb, zpc]
      refine zit 4 ?_ rfl (by kernel_rfl) (fun _ _ _ h => h) (by rfl) (by assumption) ?_ ?_
      rotate_left
      · intro y hSw
        have e0 := hSw.cell 0
        go_simp
        try with_reducible rfl
      try simp only [Act.put, zpa, zpb, zpc]
      refine zib 5 rfl (by kernel_rfl) (fun K hK => ?_)
      have M1 := mk x1
      have C1 := cv x1
      have A1 := grow x1 (.cells (madeCells #[.int .u8 0] 64) 5)
      go_simp
      refine hK.out _ _ (hHeld.on A1) (fun hHeld => ?_)
      clear hK K
      try simp only [Act.put, zpa, zpb, zpc]
      replace O := hide (O.out.alloc (.cells (madeCells #[.int .u8 0] 64) 5))
      replace G := hide (onto G.out (Nat.le_refl _) A1)
      replace hsz := Nat.le_trans hsz A1.size
      clear M1 A1
      refine zib 6 rfl (by kernel_rfl) (fun K hK => ?_)
      go_simp
      refine hK.out _ _ (hHeld) (fun hHeld => ?_)
      clear hK K
      try simp only [Act.put, zpa, zpb, zpc]
      clear C1
      generalize x1.alloc (.cells (madeCells #[.int .u8 0] 64) 5) = x2 at *
      refine zib 7 rfl (by kernel_rfl) (fun K hK => ?_)
      have A2 := grow x2 (.cells #[.string T0] 9)
      have BL := Box.new x2 #[.string T0] 9
      go_simp
      refine hK.out _ _ (hHeld.on A2) (fun hHeld => ?_)
      clear hK K
      try simp only [Act.put, zpa, zpb, zpc]
      replace O := hide (O.out.alloc (.cells #[.string T0] 9))
      replace G := hide (onto G.out (Nat.le_refl _) A2)
      replace hsz := Nat.le_trans hsz A2.size
      clear A2
      generalize x2.alloc (.cells #[.string T0] 9) = x3 at *
      generalize x2.heap.size = LB at *
      refine zib 8 rfl (by kernel_rfl) (fun K hK => ?_)
      obtain ⟨v', x4, hap, O4, G4, -, -⟩ := run_append_own_at (P := Try.prog) x3 (w.heap.size + 1) 50 50 9 i _ 1 16 Try.underlying50 hi hz hs hb rfl (by decide) v k _ O.out ⟨LB, 0, none⟩ 1 1 [.string T0] rfl (fun j u hj => by rw [Addr.add_lit, Nat.zero_add, BL.cell]; simpa using hj) (by simp [Value.oneCell']) (by unfold maxLen; omega) (by omega) hsz
      rw [← T] at O4
      obtain ⟨a4, c4', rfl, -⟩ := (Row.of_own O4).shape
      have hlt : ∀ j, v.ownBlock = some j → w.heap.size + 1 ≤ j := fun j hj => (O.out.lt j hj).1
      have F4 := G4.block w.heap.size (by omega) (fun e => by have := hlt _ e.symm; omega)
      replace G := hide (G.out.grown G4 (by omega) (fun j hj => by have := hlt _ hj; omega))
      replace hsz := Nat.le_trans hsz G4.size
      refine step_append_told' rfl (.tmp 23) (.tmp 26) 50 rfl v (.slice (some ⟨LB, 0, none⟩) 1 1) _ rfl rfl hap ?_
      refine hK.out _ _ (hHeld.of_heap F4) (fun hHeld => ?_)
      clear hK K
      try simp only [Act.put, zpa, zpb, zpc]
      replace O := hide O4
      clear hap G4 O4 F4 hlt BL
      refine zit 9 ?_ rfl (by kernel_rfl) (fun _ _ _ h => h) (by rfl) (by assumption) ?_ ?_
      rotate_left
      · intro y hSw
        have e0 := hSw.cell 0
        go_simp
        try with_reducible rfl
      try simp only [Act.put, zpa, zpb, zpc]
      refine zit 10 ?_ rfl (by kernel_rfl) (fun _ _ _ h => h) (by rfl) (by assumption) ?_ ?_
      rotate_left
      · intro y hSw
        have e0 := hSw.cell 0
        go_simp
        try with_reducible rfl
      try simp only [Act.put, zpa, zpb, zpc]
      refine zil 11 rfl (by kernel_rfl) (by kernel_rfl) (fun K hK => ?_)
      have c0 := hHeld.cell 0
      have f0 := hHeld.free 0
      have B5 := hHeld.set 0 (.slice a4 (k + 1) c4')
      replace O := hide (ownsRow_setCell_below O.out (a := ⟨w.heap.size, 0, none⟩) (by show w.heap.size < w.heap.size + 1; omega) (.slice a4 (k + 1) c4'))
      replace G := hide (G.out.setCell (p := ⟨w.heap.size, 0, none⟩) (Nat.le_refl _) (.slice a4 (k + 1) c4'))
      replace hsz : w.heap.size + 1 ≤ (x4.setCell ⟨w.heap.size, 0, none⟩ (.slice a4 (k + 1) c4')).heap.size := by simpa [World.setCell] using hsz
      go_simp
      refine hK.out _ _ ?_
      clear hK K
      try simp only [Act.put, zpa, zpb, zpc]
      refine zid (by kernel_rfl) ?_ _
      clear hHeld c0 f0
      replace B5 := hide B5
      go_wp2
      go_roundw
      case rel => exact ⟨k + 1, _, by omega, by go_num, B5, O, G, hsz⟩
      case measure => simp [intOf]; omega
    · obtain rfl : k = n := by omega
      go_wp2
      go_ret2
      refine ⟨w.heap.size, v, .slice none 0 0, rfl, ⟨B.out, ?_, ⟨World.ownsRow_nil _ _ _ _, fun k hk => by simp [Value.ownBlock] at hk⟩, Nat.le_refl _, newD_good h1 h2, by simp [newD], by simp [newD]⟩, G.out⟩
      rw [show (newD k).S = List.replicate k T0 from rfl, List.length_replicate]
      exact (Row.of_own O.out).mono fun j h _ => ⟨by omega, by omega⟩

end Go.Proofs.Ytgffhnggocbjhaa

/- Layer 18: the document's disk: what is read; its image; bytes are opened. -/
namespace Go.Proofs.Ytgffhnggocbjhaa
open Go.RowKit
set_option linter.unusedVariables false
set_option maxRecDepth 100000
set_option linter.unusedSimpArgs false

theorem readK_at {L : List (Nat × ByteArray)} {n : Nat} {s : ByteArray} {k : Nat} {p : Nat × ByteArray} (h : L[k]? = some p) : readK L n s (k + 1) = if p.1 = n then p.2 else readK L n s k := by
  rw [readK, getD_some h]

set_option maxHeartbeats 4000000 in
set_option maxRecDepth 100000 in
theorem rread_any {w : World} {H : Nat → Prop} {rb : Nat} {lv lw : Value} {d : Dk} (R : RD w H rb lv lw d) (n : Int) :
    Calls Try.prog 55 #[.pointer (some ⟨rb, 0, none⟩), .int .i64 n] w fun e w' => e = .returned (.tuple #[.string (d.told n), .int .i64 (d.errAt n)]) ∧ w' = w := by
  obtain ⟨a, c, rfl, hc, hm, hs⟩ := R.s.open'
  obtain ⟨a2, c2, rfl, hc2, hm2, hl⟩ := R.l.open'
  have b0 : w.cell? ⟨rb, 0, none⟩ = some (.slice a d.S.length c) := R.box.cell 0
  have b1 : w.cell? ⟨rb, 1, none⟩ = some (.slice a2 d.L.length c2) := R.box.cell 1
  have b4 : w.cell? ⟨rb, 6, none⟩ = some (.bool d.dead) := R.box.cell 6
  have l6 := R.l6
  obtain ⟨m, hmm⟩ : ∃ m, m = d.S.length := ⟨_, rfl⟩
  obtain ⟨l, hll⟩ : ∃ l, l = d.L.length := ⟨_, rfl⟩
  rw [← hmm] at b0 hc hm
  rw [← hll] at b1 hc2 hm2 l6
  replace hs := hide hs
  replace hl := hide hl
  replace R := hide R
  cases hd : d.dead with
  | true =>
    have h1 : d.errAt n = 2 := by simp [Dk.errAt, hd]
    have h2 : d.told n = ByteArray.empty := by simp [Dk.told, h1]
    rw [h1, h2]
    rw [hd] at b4
    clear h1 h2 hd
    go_enter Try.func55, Try.ntmps55
    go_wp2
    go_ret2
    exact ⟨rfl, rfl⟩
  | false =>
    rw [hd] at b4
    by_cases hn : n < 0 ∨ (m : Int) ≤ n
    · have h1 : d.errAt n = 181 := by unfold Dk.errAt; rw [hd, if_neg (by decide), if_pos (by rw [← hmm]; exact hn)]
      have h2 : d.told n = ByteArray.empty := by simp [Dk.told, h1]
      rw [h1, h2]
      clear h1 h2 hd
      rcases Int.lt_or_le n 0 with h | h
      · clear hn
        go_enter Try.func55, Try.ntmps55
        go_wp2
        go_ret2
        exact ⟨rfl, rfl⟩
      · have h' : (m : Int) ≤ n := by omega
        clear hn
        go_enter Try.func55, Try.ntmps55
        go_wp2
        go_ret2
        exact ⟨rfl, rfl⟩
    · have h1 : d.errAt n = 0 := by unfold Dk.errAt; rw [hd, if_neg (by decide), if_neg (by rw [← hmm]; exact hn)]
      have h2 : d.told n = readK d.L n.toNat (d.S.getD n.toNat T0) l := by rw [Dk.told, if_pos h1, hll]
      rw [h1, h2]
      clear h1 h2
      obtain ⟨k, rfl⟩ : ∃ k : Nat, n = (k : Int) := ⟨n.toNat, by omega⟩
      have hk : k < m := by omega
      rw [Int.toNat_natCast]
      obtain ⟨x, hx⟩ : ∃ x, d.S[k]? = some x := ⟨d.S[k]'(by omega), List.getElem?_eq_getElem _⟩
      rw [getD_some hx]
      obtain ⟨g, rfl, -, -, hg⟩ := hs.out k _ (strs_at hx)
      replace hll := hide hll
      replace hmm := hide hmm
      clear hd hn hx
      go_enter Try.func55, Try.ntmps55
      go_wp2
      go_loopw [6, 7] (fun s i wr => ∃ j : Nat, j ≤ l ∧ i = .int .i64 (j : Int) ∧ s = .string (readK d.L k x j) ∧ wr = w) (fun _ i _ => l - (intOf i).toNat)
      case atStart => exact ⟨0, Nat.zero_le _, rfl, rfl, rfl⟩
      case round =>
        obtain ⟨j, hj, rfl, rfl, hw⟩ := hrel
        subst hw
        by_cases h : j < l
        · obtain ⟨p, hp⟩ : ∃ p, d.L[j]? = some p := ⟨d.L[j]'(by have := hll.out; omega), List.getElem?_eq_getElem _⟩
          obtain ⟨p0, p1⟩ := looses_at hp
          obtain ⟨g2, rfl, -, -, hc0⟩ := hl.out _ _ p0
          obtain ⟨g3, e3, -, -, hc1⟩ := hl.out _ _ p1
          injection e3 with e3
          injection e3 with e3
          subst e3
          have hr := hide (readK_at (n := k) (s := x) hp)
          clear p0 p1
          by_cases e : p.1 = k
          · have hd : decide ((p.1 : Int) = (k : Int)) = true := by simp [e]
            have hd2 : ((p.1 : Int) = (k : Int)) := by simp [e]
            have hr2 := hide (hr.out.trans (if_pos e))
            clear e hr
            go_wp2
            go_roundw
            case rel => exact ⟨j + 1, by omega, by go_num, by rw [hr2.out], trivial⟩
            case measure => simp [intOf]; omega
          · have hd : decide ((p.1 : Int) = (k : Int)) = false := by simp; omega
            have hd2 : ¬ ((p.1 : Int) = (k : Int)) := by omega
            have hr2 := hide (hr.out.trans (if_neg e))
            clear e hr
            go_wp2
            go_roundw
            case rel => exact ⟨j + 1, by omega, by go_num, by rw [hr2.out], trivial⟩
            case measure => simp [intOf]; omega
        · obtain rfl : j = l := by omega
          go_wp2
          go_ret2
          exact ⟨rfl, rfl⟩

set_option maxHeartbeats 4000000 in
set_option maxRecDepth 100000 in
theorem rimage_any {w : World} {H : Nat → Prop} {rb : Nat} {lv lw : Value} {d : Dk} (R : RD w H rb lv lw d) :
    Calls Try.prog 25 #[.pointer (some ⟨rb, 0, none⟩)] w fun e w' => e = .returned (.string (catT d.S)) ∧ Below w.heap.size w w' := by
  obtain ⟨i, hi, hz, hsz, hb⟩ := infoB
  obtain ⟨a, c, rfl, hc, hm, hs⟩ := R.s.open'
  obtain ⟨m, hmm⟩ : ∃ m, m = d.S.length := ⟨_, rfl⟩
  have s2 := R.g.s2
  rw [← hmm] at hc hm s2
  have hbx : Hid (Box w rb (cellsR (.slice a m c) lw d)) := hide (by rw [hmm]; exact R.box)
  have hrb := R.box.2.2
  have hz64 : Hid (∀ k, k ≤ m → (catT (d.S.take k)).size = 64 * k) := hide (fun k hk => by
    rw [catT_size (fun s hs => R.g.s64 s (List.mem_of_mem_take hs)), List.length_take]; congr 1; omega)
  have hcat : ∀ k x, d.S[k]? = some x → catT (d.S.take (k + 1)) = catT (d.S.take k) ++ x := fun k x hx => by
    rw [List.take_add_one, hx, catT_app]
    simp [catT]
  have hx64 := hide R.g.s64
  have hT : Hid (d.S.take m = d.S) := hide (List.take_of_length_le (by omega))
  obtain ⟨T, hTe⟩ : ∃ T, Hid (T = catT d.S) := ⟨_, hide rfl⟩
  rw [← hTe.out]
  replace hs := hide hs
  replace hcat := hide hcat
  replace hmm := hide hmm
  have g0 := hide (grow w (.cells #[] 5))
  have O0 := hide (World.ownsRow_made w (base := w.heap.size) (e := 5) (size := 1) #[] 0 (Nat.le_refl _) (Nat.zero_le _) rfl)
  clear R
  go_enter Try.func25, Try.ntmps25
  go_wp2
  generalize w.alloc (.cells #[] 5) = w1 at *
  go_loopw [3, 4] (fun v0 i wr => ∃ (k : Nat) (v : Value), k ≤ m ∧ i = .int .i64 (k : Int) ∧ v0 = v ∧ Hid (wr.ownsRow w.heap.size 5 1 v (64 * k) (Go.Lib.strCells (catT (d.S.take k)))) ∧ Hid (Below w.heap.size w wr)) (fun _ i _ => m - (intOf i).toNat)
  case atStart => exact ⟨0, _, Nat.zero_le _, rfl, rfl, O0, g0⟩
  case round =>
    clear O0 g0
    obtain ⟨k, v, hk, rfl, hv, O, G⟩ := hrel
    replace hv := hv.symm
    subst hv
    have bx := hbx.out.on G.out
    have b0 : wr.cell? ⟨rb, 0, none⟩ = some (.slice a m c) := bx.cell 0
    by_cases h : k < m
    · obtain ⟨x, hx⟩ : ∃ x, d.S[k]? = some x := ⟨d.S[k]'(by have := hmm.out; omega), List.getElem?_eq_getElem _⟩
      obtain ⟨g, rfl, hgl, -, hg⟩ := hs.out k _ (strs_at hx)
      have hg' : wr.cell? ⟨g, k, none⟩ = some (.string x) := (G.out.cell (p := ⟨g, k, none⟩) hgl).trans hg
      have hxs : x.size = 64 := hx64.out x (List.mem_of_getElem? hx)
      obtain ⟨v', w4, hap, O4, G4, -⟩ := Go.Lib.run_append_own_string (P := Try.prog) wr w.heap.size 57 9 57 5 i Try.underlying57 Try.underlying9 hi hz hsz hb v (64 * k) _ O.out x (by unfold maxLen; omega) (by omega) G.out.size
      rw [← strCells_app, ← hcat.out k x hx, hxs, show 64 * k + 64 = 64 * (k + 1) by omega] at O4
      have G5 := hide (G.out.grown G4 G.out.size (fun j hj => (O.out.lt j hj).1))
      replace O4 := hide O4
      clear hx hg hxs bx
      go_wp2_with (at_builtin; refine wpList_append_told rfl _ _ 57 9 rfl v (.string x) v' rfl rfl hap ?_)
      go_roundw
      case rel => exact ⟨k + 1, _, by omega, by go_num, rfl, O4, G5⟩
      case measure => simp [intOf]; omega
    · obtain rfl : k = m := by omega
      have cv := conv_own O.out (hz64.out k (Nat.le_refl _))
      rw [hT.out, ← hTe.out] at cv
      go_wp2
      go_ret
      exact ⟨rfl, G.out⟩

end Go.Proofs.Ytgffhnggocbjhaa

/- Layer 18: the document's disk: a sector is another one; a crash; a step. -/
namespace Go.Proofs.Ytgffhnggocbjhaa
open Go.RowKit
set_option linter.unusedVariables false
set_option maxRecDepth 100000
set_option linter.unusedSimpArgs false

/-- The document's disk in block rb, what it may change being blocks of G. -/
def RG (w : World) (G : Nat → Prop) (rb : Nat) (d : Dk) : Prop := ∃ lv lw, RD w G rb lv lw d

/-- A sector of it is another one: what stands behind a call. -/
theorem strs_set (S : List ByteArray) (n : Nat) (s : ByteArray) : strs (S.set n s) = (strs S).set n (.string s) := by simp [strs, List.map_set]

set_option maxHeartbeats 4000000 in
set_option maxRecDepth 100000 in
theorem rwith_any {w : World} {H : Nat → Prop} {rb : Nat} {lv lw : Value} {d : Dk} (R : RD w H rb lv lw d) (n : Nat) (s : ByteArray) (hn : n < d.S.length) (hs : s.size = 64) :
    Calls Try.prog 60 #[.pointer (some ⟨rb, 0, none⟩), .int .i64 (n : Int), .string s] w fun e w' => e = .returned (.tuple #[]) ∧
      ∃ lv', RD w' (fun k => H k ∨ w.heap.size ≤ k) rb lv' lw { d with S := d.S.set n s } ∧ Turn (fun k => k = rb) w w' := by
  obtain ⟨i, hi, hz, hsz, hb⟩ := infoS
  have hrow := R.s.1
  obtain ⟨a, c, rfl, hc⟩ := R.s.shape
  obtain ⟨m, hmm⟩ : ∃ m, m = d.S.length := ⟨_, rfl⟩
  have s2 := R.g.s2
  rw [← hmm] at hc s2 hn
  have hrb := R.box.2.2
  have hbx : Box w rb (cellsR (.slice a m c) lw d) := by rw [hmm]; exact R.box
  rw [← hmm] at hrow
  have hlr := R.l
  have hH := R.h
  have hg : Dk.Good { d with S := d.S.set n s } := ⟨by simpa using R.g.s1, by simpa using R.g.s2, set_64 R.g.s64 hs, fun p hp => by simpa using R.g.l64 p hp, R.g.a63⟩
  have l6 := R.l6
  have m6 := R.m6
  have O0 := World.ownsRow_made w (base := w.heap.size) (e := 9) (size := 1) #[] 0 (Nat.le_refl _) (Nat.zero_le _) rfl
  have g0 := grow w (.cells #[] 9)
  obtain ⟨w1, hw1⟩ : ∃ w1, w1 = w.alloc (.cells #[] 9) := ⟨_, rfl⟩
  rw [← hw1] at O0 g0
  have hrow1 : w1.ownsRow 0 9 1 (.slice a m c) m (strs d.S) := by rw [hw1]; exact hrow.alloc _
  obtain ⟨v2, w2, hap, O2, G2, -⟩ := run_append_row (P := Try.prog) (w := w1) w.heap.size 50 50 9 i _ 1 16 Try.underlying50 hi hz hsz hb rfl (by decide) _ 0 [] O0 _ m _ hrow1 (strs_one _) (by unfold maxLen; omega) (by omega) g0.size
  rw [Nat.zero_add, List.nil_append] at O2
  have hB2 := g0.grown G2 g0.size (fun j hj => (O0.lt j hj).1)
  have hm0 : 0 < m := by omega
  obtain ⟨g, cap, rfl⟩ : ∃ g cap, v2 = .slice (some ⟨g, 0, none⟩) m cap := by
    rcases O2.2 with ⟨-, h0⟩ | ⟨g, cap, cur, h, -⟩
    · omega
    · exact ⟨g, cap, h⟩
  have hgb := O2.lt g rfl
  have hf := O2.frozenAt n
  have hc0 := O2.cellAt n (by omega)
  obtain ⟨x, hx⟩ : ∃ x, d.S[n]? = some x := ⟨d.S[n]'(by omega), List.getElem?_eq_getElem _⟩
  rw [strs_at hx] at hc0
  clear hx
  obtain ⟨O3, G3⟩ := O2.stored n (.string s)
  rw [← strs_set] at O3
  have hB3 := hB2.grown G3 (by have := hB2.size; omega) (fun j hj => by injection hj with hj; omega)
  have BX3 := hbx.on hB3
  have b0 : (w2.setCell ⟨g, n, none⟩ (.string s)).cell? ⟨rb, 0, none⟩ = some (.slice a m c) := BX3.cell 0
  have f0 := BX3.free 0
  have BX4 := BX3.set 0 (.slice (some ⟨g, 0, none⟩) m cap)
  have O4 := ownsRow_setCell_below O3 (a := ⟨rb, 0, none⟩) hrb (.slice (some ⟨g, 0, none⟩) m cap)
  have hfar : ∀ j, j ≠ rb → ((w2.setCell ⟨g, n, none⟩ (.string s)).setCell ⟨rb, 0, none⟩ (.slice (some ⟨g, 0, none⟩) m cap)).heap[j]? = (w2.setCell ⟨g, n, none⟩ (.string s)).heap[j]? := fun j hj => Below.heap_setCell _ _ _ j hj
  have fin : Hid (∃ lv', RD ((w2.setCell ⟨g, n, none⟩ (.string s)).setCell ⟨rb, 0, none⟩ (.slice (some ⟨g, 0, none⟩) m cap)) (fun k => H k ∨ w.heap.size ≤ k) rb lv' lw { d with S := d.S.set n s } ∧ Turn (fun k => k = rb) w ((w2.setCell ⟨g, n, none⟩ (.string s)).setCell ⟨rb, 0, none⟩ (.slice (some ⟨g, 0, none⟩) m cap))) := hide (by
    refine ⟨.slice (some ⟨g, 0, none⟩) m cap, ⟨BX4, ?_, ?_, .inl hH, hg, l6, m6⟩, ⟨hB3.os, hB3.tape, hB3.output, Nat.le_trans hB3.size (by simp [World.setCell]), fun k hk hn => (hfar k hn).trans (hB3.block k hk)⟩⟩
    · rw [show ({ d with S := d.S.set n s } : Dk).S.length = m by simp [hmm]]
      exact (Row.of_own O4).mono fun k h _ => ⟨.inr h, by omega⟩
    · exact (hlr.keep fun k h hl => (hfar k h.2).trans (hB3.block k hl)).mono fun k h _ => ⟨.inl h.1, h.2⟩)
  have bw : Hid (Box w rb (cellsR (.slice a m c) lw d)) := hide hbx
  have b1 : w1.cell? ⟨rb, 0, none⟩ = some (.slice a m c) := (hbx.on g0).cell 0
  subst hw1
  clear R hrow hrow1 hlr O0 g0 G2 hB2 O2 G3 O3 hB3 BX3 BX4 O4 hfar hbx hg hmm hH hgb
  go_enter Try.func60, Try.ntmps60
  go_wp2_with (at_builtin; refine wpList_append_told rfl _ _ 50 50 rfl _ _ _ rfl rfl hap ?_)
  go_end0
  exact ⟨rfl, fin.out⟩

theorem bit_eq (b : UInt8) (m : Nat) : ((wrap64 ((b.toNat : Nat) : Int) / 2 ^ m).tmod 2 == 1) = decide (b.toNat / 2 ^ m % 2 = 1) := by
  have hb := b.toNat_lt
  have h1 : wrap64 ((b.toNat : Nat) : Int) = ((b.toNat : Nat) : Int) := by unfold wrap64; omega
  have h2 : ((b.toNat : Nat) : Int) / 2 ^ m = ((b.toNat / 2 ^ m : Nat) : Int) := by
    rw [Int.natCast_ediv]
    norm_cast
  rw [h1, h2]
  obtain ⟨q, hq⟩ : ∃ q, q = b.toNat / 2 ^ m := ⟨_, rfl⟩
  rw [← hq]
  have h3 : ((q : Nat) : Int).tmod 2 = ((q % 2 : Nat) : Int) := by rw [Int.tmod_eq_emod_of_nonneg (by omega)]; omega
  rw [h3]
  rcases Nat.mod_two_eq_zero_or_one q with e | e <;> rw [e] <;> rfl

theorem kept_any (s : ByteArray) (i : Nat) (hi : i ≤ 1000) (w : World) :
    Calls Try.prog 61 #[.string s, .int .i64 (i : Int)] w fun e w' => e = .returned (.bool (bitAt s i)) ∧ w' = w := by
  by_cases h : i / 8 < s.size
  · have hb : bitAt s i = ((wrap64 ((s[i / 8].toNat : Nat) : Int) / 2 ^ (i % 8)).tmod 2 == 1) := by
      rw [bit_eq, bitAt, byteAt_in s _ h]
      simp [h]
    rw [hb]
    clear hb
    go_enter Try.func61, Try.ntmps61
    go_wp2
    go_ret
    exact ⟨rfl, rfl⟩
  · have hb : bitAt s i = false := by simp [bitAt, h]
    rw [hb]
    clear hb
    go_enter Try.func61, Try.ntmps61
    go_wp2
    go_ret
    exact ⟨rfl, rfl⟩

end Go.Proofs.Ytgffhnggocbjhaa
