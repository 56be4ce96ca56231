/- Layer 18: the program's disk: where it lies; how much of a loose write stays; its small functions. -/
import Derived.Test.YtgffhnggocbjhaaQDkRef5
import Derived.Test.YtgffhnggocbjhaaQDkBas
import Derived.Shelf.Pu.Clone
import Derived.Lib.BufferWrite
import Derived.Laws.CopyRow
import Derived.Laws.BitsAllLaws
namespace Go.Proofs.Ytgffhnggocbjhaa
open Go.RowKit
set_option linter.unusedVariables false
set_option maxRecDepth 100000
set_option linter.unusedSimpArgs false

/-- Where the shelf's numbers of functions and types lie in this translation. -/
def ren : Go.Shelf.Ren := ⟨fun | 25 => 97 | n => n, fun | 37 => 57 | 47 => 130 | n => n, fun n => n⟩

theorem lays25 : LaysPu.n25 Try.prog ren :=
  { mixed := by kernel_rfl, f25 := by kernel_rfl,
    t0 := by kernel_rfl, a0 := fun _ => by kernel_rfl, z0 := fun _ => by kernel_rfl, v0 := fun _ => by kernel_rfl, i0 := by kernel_rfl,
    t3 := by kernel_rfl, a3 := fun _ => by kernel_rfl, z3 := fun _ => by kernel_rfl, v3 := fun _ => by kernel_rfl, i3 := by kernel_rfl,
    t4 := by kernel_rfl, a4 := fun _ => by kernel_rfl, z4 := fun _ => by kernel_rfl, v4 := fun _ => by kernel_rfl, i4 := by kernel_rfl,
    t5 := by kernel_rfl, a5 := fun _ => by kernel_rfl, z5 := fun _ => by kernel_rfl, v5 := fun _ => by kernel_rfl, i5 := by kernel_rfl,
    t9 := by kernel_rfl, a9 := fun _ => by kernel_rfl, z9 := fun _ => by kernel_rfl, v9 := fun _ => by kernel_rfl, i9 := by kernel_rfl,
    t37 := by kernel_rfl, a37 := fun _ => by kernel_rfl, z37 := fun _ => by kernel_rfl, v37 := fun _ => by kernel_rfl, i37 := by kernel_rfl,
    t47 := by kernel_rfl, a47 := fun _ => by kernel_rfl, z47 := fun _ => by kernel_rfl, v47 := fun _ => by kernel_rfl, i47 := by kernel_rfl }

theorem slClone_any (s : ByteArray) (w : World) (hlim : s.size ≤ 281474976710656) :
    Calls Try.prog 97 #[.string s] w fun e w' => e = .returned (.string s) ∧ Below w.heap.size w w' :=
  AnyPu.stringslite_Clone lays25 s w hlim

theorem clone_any (s : ByteArray) (w : World) (hlim : s.size ≤ 281474976710656) :
    Calls Try.prog 83 #[.string s] w fun e w' => e = .returned (.string s) ∧ Below w.heap.size w w' := by
  go_enter Try.func83, Try.ntmps83
  go_wp2_with fail
  refine (slClone_any s w hlim).mono ?_
  rintro e w' ⟨rfl, hb⟩
  go_wp2
  go_ret
  exact ⟨rfl, hb⟩

def crashV (c : Crs) : Value := .agg #[.string c.keep, .int .i64 c.torn, .int .i64 c.bytes]

/-- How the power goes, as the disk keeps it. -/
def goesV (c : Crs) : Value := .func (.func 58) #[crashV c] #[]

def cellsP (sv lv gv : Value) (d : Dk) : Array Value := #[sv, lv, .bool d.dead, .int .i64 (d.m : Int), .int .i64 (d.a : Int), gv]

/-- What the disk keeps of how the power goes. -/
def GV (gv : Value) (d : Dk) : Prop := (gv = .nilFunc ∧ d.a = 0) ∨ ∃ c, gv = goesV c ∧ (d.a ≠ 0 → c = d.c)

theorem GV.is {gv : Value} {d : Dk} (h : GV gv d) (ha : d.a ≠ 0) : gv = goesV d.c := by
  rcases h with ⟨-, h⟩ | ⟨c, h, hc⟩
  · exact (ha h).elim
  · rw [h, hc ha]

/-- The program's disk in block db, its rows in blocks of H. -/
structure PS (w : World) (H : Nat → Prop) (db : Nat) (sv lv gv : Value) (d : Dk) : Prop where
  box : Box w db (cellsP sv lv gv d)
  s : Row w (fun k => H k ∧ k ≠ db) 5 1 sv (64 * d.S.length) (Go.Lib.strCells (catT d.S))
  l : Row w (fun k => H k ∧ k ≠ db) 80 2 lv d.L.length (looses d.L)
  h : H db
  g : d.Good
  l6 : d.L.length ≤ 1000
  m6 : d.m ≤ 1000000
  v : GV gv d

theorem PS.keep {w y : World} {H : Nat → Prop} {db : Nat} {sv lv gv : Value} {d : Dk} (h : PS w H db sv lv gv d) (hk : ∀ k, H k → k < w.heap.size → y.heap[k]? = w.heap[k]?) : PS y H db sv lv gv d :=
  ⟨h.box.of_heap (hk db h.h h.box.2.2), h.s.keep (fun k h => hk k h.1), h.l.keep (fun k h => hk k h.1), h.h, h.g, h.l6, h.m6, h.v⟩
theorem PS.on {w y : World} {H : Nat → Prop} {db : Nat} {sv lv gv : Value} {d : Dk} (h : PS w H db sv lv gv d) (hb : Below w.heap.size w y) : PS y H db sv lv gv d := h.keep fun k _ hk => hb.block k hk
theorem PS.mono {w : World} {H G : Nat → Prop} {db : Nat} {sv lv gv : Value} {d : Dk} (h : PS w H db sv lv gv d) (hG : ∀ k, H k → k < w.heap.size → G k) : PS w G db sv lv gv d :=
  ⟨h.box, h.s.mono (fun k h hl => ⟨hG k h.1 hl, h.2⟩), h.l.mono (fun k h hl => ⟨hG k h.1 hl, h.2⟩), hG db h.h h.box.2.2, h.g, h.l6, h.m6, h.v⟩

/-- The program's disk in block db, what it may change being blocks of H. -/
def PD (w : World) (H : Nat → Prop) (db : Nat) (d : Dk) : Prop := ∃ sv lv gv, PS w H db sv lv gv d

theorem PD.keep {w y : World} {H : Nat → Prop} {db : Nat} {d : Dk} (h : PD w H db d) (hk : ∀ k, H k → k < w.heap.size → y.heap[k]? = w.heap[k]?) : PD y H db d := by
  obtain ⟨sv, lv, gv, P⟩ := h
  exact ⟨sv, lv, gv, P.keep hk⟩
theorem PD.mono {w : World} {H G : Nat → Prop} {db : Nat} {d : Dk} (h : PD w H db d) (hG : ∀ k, H k → k < w.heap.size → G k) : PD w G db d := by
  obtain ⟨sv, lv, gv, P⟩ := h
  exact ⟨sv, lv, gv, P.mono hG⟩
theorem PD.on {w y : World} {H : Nat → Prop} {db : Nat} {d : Dk} (h : PD w H db d) (hb : Below w.heap.size w y) : PD y H db d := h.keep fun k _ hk => hb.block k hk
theorem PD.good {w : World} {H : Nat → Prop} {db : Nat} {d : Dk} (h : PD w H db d) : d.Good ∧ d.L.length ≤ 1000 ∧ d.m ≤ 1000000 := by
  obtain ⟨sv, lv, gv, P⟩ := h
  exact ⟨P.g, P.l6, P.m6⟩

/-- The row of bytes is there, and in a block of its own. -/
theorem PS.open {w : World} {H : Nat → Prop} {db : Nat} {sv lv gv : Value} {d : Dk} (h : PS w H db sv lv gv d) :
    ∃ g cap, sv = .slice (some ⟨g, 0, none⟩) (64 * d.S.length) cap ∧ H g ∧ g ≠ db ∧ g < w.heap.size ∧ 64 * d.S.length ≤ cap ∧ cap ≤ maxLen ∧ lv.ownBlock ≠ some g := by
  rcases h.s.1.2 with ⟨-, h0⟩ | ⟨g, cap, cur, rfl, -, hg, hc, hm, -⟩
  · have := h.g.s1; omega
  · refine ⟨g, cap, rfl, (h.s.2 g rfl).1, (h.s.2 g rfl).2, (Array.getElem?_eq_some_iff.1 hg).1, hc, hm, fun e => ?_⟩
    rcases h.l.1.2 with ⟨rfl, -⟩ | ⟨g', cap', cur', rfl, -, hg', -⟩
    · cases e
    · simp [Value.ownBlock] at e
      subst e
      rw [hg] at hg'
      simp at hg'

/-- How much of the i-th loose write stays. -/
def stayN (c : Crs) (i : Nat) : Nat := if (i : Int) = c.torn then cutN c.bytes else if bitAt c.keep i then 64 else 0

end Go.Proofs.Ytgffhnggocbjhaa

/- Layer 18: the program's disk: how much of a loose write stays; sectors; why a call is refused. -/
namespace Go.Proofs.Ytgffhnggocbjhaa
open Go.RowKit
set_option linter.unusedVariables false
set_option maxRecDepth 100000
set_option linter.unusedSimpArgs false

theorem whole_any (i : Int) (w : World) : Calls Try.prog 94 #[.int .i64 i] w fun e w' => e = .returned (.int .i64 64) ∧ w' = w := by
  go_enter Try.func94, Try.ntmps94
  go_wp2
  go_ret
  exact ⟨rfl, rfl⟩

theorem bit_u8 (b : UInt8) (m : Nat) : (bits .and .u8 ((b.toNat : Int) / 2 ^ m) 1 == 1) = decide (b.toNat / 2 ^ m % 2 = 1) := by
  have hb := b.toNat_lt
  have h2 : ((b.toNat : Nat) : Int) / 2 ^ m = ((b.toNat / 2 ^ m : Nat) : Int) := by
    rw [Int.natCast_ediv]
    norm_cast
  have h3 : b.toNat / 2 ^ m < 256 := Nat.lt_of_le_of_lt (Nat.div_le_self _ _) hb
  rw [h2]
  have := u8_and_nat (b.toNat / 2 ^ m) 1 h3 (by decide)
  rw [show ((1 : Nat) : Int) = 1 from rfl] at this
  rw [this, Nat.and_one_is_mod]
  rcases Nat.mod_two_eq_zero_or_one (b.toNat / 2 ^ m) with e | e <;> rw [e] <;> rfl

set_option maxHeartbeats 1000000 in
theorem kept2_any (c : Crs) (i : Nat) (hi : i ≤ 1000) (w : World) :
    Calls Try.prog 85 #[crashV c, .int .i64 (i : Int)] w fun e w' => e = .returned (.bool (bitAt c.keep i)) ∧ Below w.heap.size w w' := by
  unfold crashV
  obtain ⟨s, hs⟩ : ∃ s, s = c.keep := ⟨_, rfl⟩
  rw [← hs]
  clear hs
  by_cases h : i / 8 < s.size
  · have hb : bitAt s i = (bits .and .u8 ((s[i / 8].toNat : Int) / 2 ^ (i % 8)) 1 == 1) := by
      rw [bit_u8, bitAt, byteAt_in s _ h]
      simp [h]
    rw [hb]
    clear hb
    go_enter Try.func85, Try.ntmps85
    go_wp2
    go_ret
    exact ⟨rfl, grow _ _⟩
  · have hb : bitAt s i = false := by simp [bitAt, h]
    rw [hb]
    clear hb
    go_enter Try.func85, Try.ntmps85
    go_wp2
    go_ret
    exact ⟨rfl, grow _ _⟩

theorem min_max (b : Int) : min (max b 0) 64 = ((cutN b : Nat) : Int) := by unfold cutN; omega

set_option maxHeartbeats 1000000 in
theorem stays_any (c : Crs) (i : Nat) (hi : i ≤ 1000) (w : World) :
    Calls Try.prog 58 #[crashV c, .int .i64 (i : Int)] w fun e w' => e = .returned (.int .i64 ((stayN c i : Nat) : Int)) ∧ Below w.heap.size w w' := by
  have hk := hide (kept2_any c i hi)
  have hm := min_max c.bytes
  obtain ⟨K, hK⟩ : ∃ K, K = ((cutN c.bytes : Nat) : Int) := ⟨_, rfl⟩
  rw [← hK] at hm
  by_cases e : (i : Int) = c.torn
  · have hs : ((stayN c i : Nat) : Int) = K := by unfold stayN; rw [if_pos e, hK]
    rw [hs, ← hm]
    unfold crashV
    clear hs hK hm hk
    go_enter Try.func58, Try.ntmps58
    go_wp2
    go_ret
    exact ⟨rfl, grow _ _⟩
  · have hs : stayN c i = if bitAt c.keep i then 64 else 0 := by unfold stayN; rw [if_neg e]
    rw [hs]
    clear hs hK hm
    unfold crashV at *
    cases hb : bitAt c.keep i with
    | true =>
      rw [hb] at hk
      go_enter Try.func58, Try.ntmps58
      go_wp2_with fail
      refine (hk.out _).mono ?_
      rintro e w' ⟨rfl, hB⟩
      replace hB := hide hB
      go_wp2
      go_ret
      exact ⟨rfl, onto (grow _ _) (Nat.le_refl _) hB.out⟩
    | false =>
      rw [hb] at hk
      go_enter Try.func58, Try.ntmps58
      go_wp2_with fail
      refine (hk.out _).mono ?_
      rintro e w' ⟨rfl, hB⟩
      replace hB := hide hB
      go_wp2
      go_ret
      exact ⟨rfl, onto (grow _ _) (Nat.le_refl _) hB.out⟩

theorem stayN_le (c : Crs) (i : Nat) : stayN c i ≤ 64 := by
  unfold stayN
  split
  · exact cutN_le _
  · split <;> omega

/-- A disk's row of bytes: where it lies. -/
theorem PS.cells {w : World} {H : Nat → Prop} {db : Nat} {sv lv gv : Value} {d : Dk} (P : PS w H db sv lv gv d) :
    w.cell? ⟨db, 0, none⟩ = some sv ∧ w.cell? ⟨db, 1, none⟩ = some lv ∧ w.cell? ⟨db, 2, none⟩ = some (.bool d.dead) ∧ w.cell? ⟨db, 3, none⟩ = some (.int .i64 (d.m : Int)) ∧ w.cell? ⟨db, 4, none⟩ = some (.int .i64 (d.a : Int)) ∧ w.cell? ⟨db, 5, none⟩ = some gv :=
  ⟨P.box.cell 0, P.box.cell 1, P.box.cell 2, P.box.cell 3, P.box.cell 4, P.box.cell 5⟩

theorem tdiv64 (n : Nat) : ((64 * n : Nat) : Int).tdiv 64 = (n : Int) := by
  rw [Int.tdiv_eq_ediv_of_nonneg (by omega)]; omega

theorem psectors_any {w : World} {H : Nat → Prop} {db : Nat} {sv lv gv : Value} {d : Dk} (P : PS w H db sv lv gv d) :
    Calls Try.prog 87 #[.pointer (some ⟨db, 0, none⟩)] w fun e w' => e = .returned (.int .i64 (d.S.length : Int)) ∧ w' = w := by
  obtain ⟨g, cap, hsv, -⟩ := P.open
  have b0 := P.cells.1
  obtain ⟨n, hn⟩ : ∃ n, n = d.S.length := ⟨_, rfl⟩
  have s2 := P.g.s2
  rw [hsv, ← hn] at b0
  rw [← hn] at s2 ⊢
  clear P hsv hn
  go_enter Try.func87, Try.ntmps87
  go_wp2
  go_ret
  exact ⟨by congr 2, rfl⟩

end Go.Proofs.Ytgffhnggocbjhaa

/- Layer 18: the program's disk: a sector's piece of the row; why a call is refused; its image; a new one; bytes are opened. -/
namespace Go.Proofs.Ytgffhnggocbjhaa
open Go.RowKit
set_option linter.unusedVariables false
set_option maxRecDepth 100000
set_option linter.unusedSimpArgs false

theorem psector_any {w : World} {H : Nat → Prop} {db : Nat} {sv lv gv : Value} {d : Dk} (P : PS w H db sv lv gv d) (n : Nat) (hn : n < d.S.length) {g cap : Nat} (hsv : sv = .slice (some ⟨g, 0, none⟩) (64 * d.S.length) cap) :
    Calls Try.prog 84 #[.pointer (some ⟨db, 0, none⟩), .int .i64 (n : Int)] w fun e w' => e = .returned (.slice (some ⟨g, 64 * n, none⟩) 64 (cap - 64 * n)) ∧ w' = w := by
  have b0 := P.cells.1
  have s2 := P.g.s2
  obtain ⟨g', cap', hsv', -, -, -, hc, hm, -⟩ := P.open
  rw [hsv] at hsv'
  injection hsv' with e1 e2 e3
  subst e3
  obtain ⟨m, hmm⟩ : ∃ m, m = d.S.length := ⟨_, rfl⟩
  rw [hsv, ← hmm] at b0
  rw [← hmm] at s2 hn hc
  clear P hsv e1 e2 hmm
  rw [show 64 * n = n * 64 by omega]
  go_enter Try.func84, Try.ntmps84
  go_wp2
  go_ret
  exact ⟨rfl, rfl⟩

theorem prefusal_any {w : World} {H : Nat → Prop} {db : Nat} {sv lv gv : Value} {d : Dk} (P : PS w H db sv lv gv d) (n : Int) :
    Calls Try.prog 81 #[.pointer (some ⟨db, 0, none⟩), .int .i64 n] w fun e w' => e = .returned (.int .i64 (d.errAt n)) ∧ w' = w := by
  have b2 := P.cells.2.2.1
  have cs := hide (psectors_any P)
  obtain ⟨m, hmm⟩ : ∃ m, m = d.S.length := ⟨_, rfl⟩
  unfold Dk.errAt
  rw [← hmm] at cs ⊢
  clear P hmm
  cases hd : d.dead with
  | true =>
    rw [hd] at b2
    rw [if_pos rfl]
    clear cs hd
    go_enter Try.func81, Try.ntmps81
    go_wp2
    go_ret
    exact ⟨rfl, rfl⟩
  | false =>
    rw [hd] at b2
    rw [if_neg (by decide)]
    clear hd
    by_cases h0 : n < 0
    · rw [if_pos (.inl h0)]
      clear cs
      go_enter Try.func81, Try.ntmps81
      go_wp2
      go_ret
      exact ⟨rfl, rfl⟩
    · by_cases h1 : (m : Int) ≤ n
      · rw [if_pos (.inr h1)]
        go_enter Try.func81, Try.ntmps81
        go_wp2_with (go_at_call 87; refine cs.out.mono ?_; rintro e w' ⟨rfl, rfl⟩)
        go_ret
        exact ⟨rfl, rfl⟩
      · rw [if_neg (by omega)]
        go_enter Try.func81, Try.ntmps81
        go_wp2_with (go_at_call 87; refine cs.out.mono ?_; rintro e w' ⟨rfl, rfl⟩)
        go_ret
        exact ⟨rfl, rfl⟩

theorem pimage_any {w : World} {H : Nat → Prop} {db : Nat} {sv lv gv : Value} {d : Dk} (P : PS w H db sv lv gv d) :
    Calls Try.prog 24 #[.pointer (some ⟨db, 0, none⟩)] w fun e w' => e = .returned (.string (catT d.S)) ∧ w' = w := by
  have cv := conv_own P.s.1 (catT_size P.g.s64)
  have b0 := P.cells.1
  obtain ⟨g, cap, hsv, -⟩ := P.open
  obtain ⟨T, hT⟩ : ∃ T, T = catT d.S := ⟨_, rfl⟩
  rw [← hT] at cv ⊢
  subst hsv
  clear P hT
  go_enter Try.func24, Try.ntmps24
  go_wp2
  go_ret
  exact ⟨rfl, rfl⟩

theorem psteps_any {w : World} {H : Nat → Prop} {db : Nat} {sv lv gv : Value} {d : Dk} (P : PS w H db sv lv gv d) :
    Calls Try.prog 26 #[.pointer (some ⟨db, 0, none⟩)] w fun e w' => e = .returned (.int .i64 (d.m : Int)) ∧ w' = w := by
  have b3 := P.cells.2.2.2.1
  clear P
  go_enter Try.func26, Try.ntmps26
  go_wp2
  go_ret
  exact ⟨rfl, rfl⟩

theorem pnew_bad (n : Int) (h : n < 1 ∨ 4096 < n) (w : World) : Calls Try.prog 35 #[.int .i64 n] w fun e w' => e = .returned (.tuple #[.pointer none, .int .i64 180]) ∧ w' = w := by
  rcases h with h | h
  all_goals
    go_enter Try.func35, Try.ntmps35
    go_wp2
    go_ret2
    exact ⟨rfl, rfl⟩

theorem catT_T0 : ∀ n, catT (List.replicate n T0) = textOf (64 * n) (fun _ => 0)
  | 0 => rfl
  | n + 1 => by
    rw [List.replicate_succ, catT, catT_T0 n, T0, textOf_add, show 64 + 64 * n = 64 * (n + 1) by omega]

theorem made_text (n : Nat) : (madeCells #[Value.int .u8 0] n).toList = Go.Lib.strCells (textOf n fun _ => 0) := by
  apply List.ext_getElem?
  intro j
  unfold Go.Lib.strCells
  rw [List.getElem?_map, textOf_data, List.getElem?_map, Array.getElem?_toList]
  by_cases h : j < n
  · rw [made_flat h, List.getElem?_range h]
    rfl
  · rw [Array.getElem?_eq_none (by simp [madeCells]; omega), List.getElem?_eq_none (by simp; omega)]
    rfl

set_option maxHeartbeats 1000000 in
theorem pnew_any (n : Nat) (h1 : 1 ≤ n) (h2 : n ≤ 4096) (w : World) :
    Calls Try.prog 35 #[.int .i64 (n : Int)] w fun e w' => ∃ db cap, e = .returned (.tuple #[.pointer (some ⟨db, 0, none⟩), .int .i64 0]) ∧ PS w' (fun k => w.heap.size ≤ k) db (.slice (some ⟨w.heap.size, 0, none⟩) (64 * n) cap) (.slice none 0 0) .nilFunc (newD n) ∧ Below w.heap.size w w' := by
  have mk : ∀ w : World, (Instr.makeSlice 57 (.int .i64 ((n : Int) * 64)) (.int .i64 ((n : Int) * 64))).run Try.prog w = .ok (.slice (some ⟨w.heap.size, 0, none⟩) (64 * n) (64 * n)) (w.alloc (.cells (madeCells #[.int .u8 0] (64 * n)) 5)) := fun w => by
    have := make_row w (64 * n) (by omega)
    rwa [show ((64 * n : Nat) : Int) = (n : Int) * 64 by omega] at this
  have fin : ∀ w : World, PS ((w.alloc (.cells (madeCells #[.int .u8 0] (64 * n)) 5)).alloc (.cells #[.slice (some ⟨w.heap.size, 0, none⟩) (64 * n) (64 * n), .slice none 0 0, .bool false, .int .i64 0, .int .i64 0, .nilFunc] 92)) (fun k => w.heap.size ≤ k) (w.heap.size + 1) (.slice (some ⟨w.heap.size, 0, none⟩) (64 * n) (64 * n)) (.slice none 0 0) .nilFunc (newD n) := fun w => by
    have BX := Box.new (w.alloc (.cells (madeCells #[.int .u8 0] (64 * n)) 5)) #[.slice (some ⟨w.heap.size, 0, none⟩) (64 * n) (64 * n), .slice none 0 0, .bool false, .int .i64 0, .int .i64 0, .nilFunc] 92
    rw [World.size_alloc] at BX
    refine ⟨BX, ?_, ⟨World.ownsRow_nil _ _ _ _, fun k hk => by simp [Value.ownBlock] at hk⟩, by show w.heap.size ≤ w.heap.size + 1; omega, newD_good h1 h2, by simp [newD], by simp [newD], .inl ⟨rfl, rfl⟩⟩
    have e : catT (newD n).S = textOf (64 * n) (fun _ => 0) := catT_T0 n
    rw [e, show (newD n).S.length = n by simp [newD], ← made_text]
    have hsz : (madeCells #[Value.int .u8 0] (64 * n)).size = 64 * n := by simp [madeCells]
    have hg : ((w.alloc (.cells (madeCells #[.int .u8 0] (64 * n)) 5)).alloc (.cells #[.slice (some ⟨w.heap.size, 0, none⟩) (64 * n) (64 * n), .slice none 0 0, .bool false, .int .i64 0, .int .i64 0, .nilFunc] 92)).heap[w.heap.size]? = some (.cells (madeCells #[.int .u8 0] (64 * n)) 5 (0, 0)) :=
      heap_alloc2_old w _ _
    refine ⟨⟨by rw [Array.length_toList, hsz, Nat.mul_one], .inr ⟨w.heap.size, 64 * n, _, rfl, Nat.zero_le _, hg, Nat.le_refl _, by unfold maxLen; omega, by rw [hsz, Nat.mul_one], by rw [Nat.mul_one]; exact List.take_of_length_le (by rw [Array.length_toList, hsz]; omega)⟩⟩, fun k hk => ?_⟩
    simp [Value.ownBlock] at hk
    subst hk
    exact ⟨Nat.le_refl _, by omega⟩
  go_enter Try.func35, Try.ntmps35
  go_wp2
  go_ret2
  exact ⟨_, _, rfl, fin w, (grow _ _).alloc (by simp) _⟩

end Go.Proofs.Ytgffhnggocbjhaa

/- Layer 18: the program's disk: a copy into its row; what stays of the loose writes. -/
namespace Go.Proofs.Ytgffhnggocbjhaa
open Go.RowKit
set_option linter.unusedVariables false
set_option maxRecDepth 100000
set_option linter.unusedSimpArgs false

theorem strCells_len (s : ByteArray) : (Go.Lib.strCells s).length = s.size := by
  unfold Go.Lib.strCells
  rw [List.length_map, Array.length_toList]
  rfl

theorem strCells_cut (s : ByteArray) (a b : Nat) : Go.Lib.strCells (s.extract a b) = ((Go.Lib.strCells s).drop a).take (b - a) := by
  unfold Go.Lib.strCells
  rw [extract_list, List.map_take, List.map_drop]

/-- A text is copied into a row of bytes. -/
theorem own_copy {w : World} {B n g cap : Nat} {xs : List Value} (O : w.ownsRow B 5 1 (.slice (some ⟨g, 0, none⟩) n cap) n xs) (o dLen dCap : Nat) (s : ByteArray) (hle : s.size ≤ dLen) (hfit : o + s.size ≤ n) :
    ∃ y, (Builtin.copy_ #[57, 9] 3 #[.slice (some ⟨g, o, none⟩) dLen dCap, .string s]).run Try.prog w = .ok (goInt s.size) y ∧
      y.ownsRow B 5 1 (.slice (some ⟨g, 0, none⟩) n cap) n (xs.take o ++ Go.Lib.strCells s ++ xs.drop (o + s.size)) ∧ w.grownBy y (some g) ∧ y.heap.size = w.heap.size := by
  rcases O.2 with ⟨h, -⟩ | ⟨g', cap', cur, h, hB, hg, hnc, hcm, hcs, htk⟩
  · simp at h
  · simp only [Value.slice.injEq, Option.some.injEq, Addr.mk.injEq, and_true, true_and] at h
    obtain ⟨rfl, rfl⟩ := h
    rw [Nat.mul_one] at hcs htk
    have hz : cur.toList.length = cap := by rw [Array.length_toList, hcs]
    have hs1 : (Try.prog.info? 5).map (·.size) = some 1 := by kernel_rfl
    have R := Go.Lib.run_copy_row_string (P := Try.prog) w 57 9 3 5 g o dLen dCap s cur 5 Try.underlying57 hs1 hg hle (by omega)
    have hb : Go.Lib.byteCells s.data.toList = Go.Lib.strCells s := rfl
    rw [hb] at R
    have hsl := strCells_len s
    generalize Go.Lib.strCells s = b at *
    refine ⟨_, R, ⟨?_, .inr ⟨g, cap, _, rfl, hB, setRow_heap w g cur _ 5 (0, 0) hg, hnc, hcm, ?_, ?_⟩⟩, ⟨by simp, by simp, by simp, by simp, fun k hk hn => setRow_other w g k _ (by intro e; exact hn (by rw [e]))⟩, by simp⟩
    · rw [← htk]
      simp [hsl]
      omega
    · simp [hsl, hcs]
      omega
    · rw [← htk, Nat.mul_one]
      show List.take n (List.take o cur.toList ++ b ++ List.drop (o + s.size) cur.toList) = _
      apply List.ext_getElem?
      intro j
      simp only [List.getElem?_take, List.getElem?_append, List.length_append, List.length_take, List.getElem?_drop, hsl, hz]
      repeat' split
      all_goals first | rfl | omega | (congr 1; omega) | skip

/-- A piece of a sector is another one. -/
theorem cat_put : ∀ {S : List ByteArray} (hS : ∀ s ∈ S, s.size = 64) (p k : Nat) (x : ByteArray) (hp : p < S.length) (hk : k ≤ 64) (hx : x.size = 64),
    (Go.Lib.strCells (catT S)).take (64 * p) ++ Go.Lib.strCells (x.extract 0 k) ++ (Go.Lib.strCells (catT S)).drop (64 * p + k) = Go.Lib.strCells (catT (S.set p (tornT k x (S.getD p T0))))
  | [], _, p, k, x, hp, _, _ => by simp at hp
  | s :: l, hS, 0, k, x, _, hk, hx => by
    have hs : (Go.Lib.strCells s).length = 64 := by rw [strCells_len]; exact hS s (by simp)
    rw [List.set_cons_zero, catT, catT, strCells_app, strCells_app, Nat.mul_zero, List.take_zero, Nat.zero_add, List.nil_append, List.drop_append_of_le_length (by omega), ← List.append_assoc]
    congr 1
    show _ = Go.Lib.strCells (tornT k x s)
    rw [tornT, strCells_app, strCells_cut s k 64, List.take_of_length_le (by rw [List.length_drop]; omega)]
  | s :: l, hS, p + 1, k, x, hp, hk, hx => by
    have hs : (Go.Lib.strCells s).length = 64 := by rw [strCells_len]; exact hS s (by simp)
    have ih := cat_put (S := l) (fun y hy => hS y (by simp [hy])) p k x (by simpa using hp) hk hx
    rw [List.set_cons_succ, catT, catT, strCells_app, strCells_app, show 64 * (p + 1) = 64 + 64 * p by omega, List.take_append, hs, List.take_of_length_le (by omega), show 64 + 64 * p - 64 = 64 * p by omega,
      List.drop_append, hs, List.drop_eq_nil_of_le (by omega), show 64 + 64 * p + k - 64 = 64 * p + k by omega, List.nil_append, List.append_assoc, List.append_assoc, ← List.append_assoc (List.take _ _), ih]
    rfl

/-- What is sure behind the first k loose writes, of each of which so many bytes stay. -/
def settleK (f : Nat → Nat) (L : List (Nat × ByteArray)) (S : List ByteArray) : Nat → List ByteArray
  | 0 => S
  | k + 1 => (settleK f L S k).set (L.getD k (0, T0)).1 (tornT (f k) (L.getD k (0, T0)).2 ((settleK f L S k).getD (L.getD k (0, T0)).1 T0))

theorem settleK_at {f : Nat → Nat} {L : List (Nat × ByteArray)} {S : List ByteArray} {k : Nat} {p : Nat × ByteArray} (h : L[k]? = some p) :
    settleK f L S (k + 1) = (settleK f L S k).set p.1 (tornT (f k) p.2 ((settleK f L S k).getD p.1 T0)) := by
  rw [settleK, getD_some h]

theorem getD_64 {S : List ByteArray} (h : ∀ s ∈ S, s.size = 64) (n : Nat) : (S.getD n T0).size = 64 := by
  rw [List.getD_eq_getElem?_getD]
  cases e : S[n]? with
  | none => exact T0_size
  | some x => exact h x (List.mem_of_getElem? e)

theorem settleK_good {f : Nat → Nat} (hf : ∀ k, f k ≤ 64) {L : List (Nat × ByteArray)} {S : List ByteArray} (h : ∀ s ∈ S, s.size = 64) (hL : ∀ p ∈ L, p.2.size = 64) : ∀ k, k ≤ L.length → (settleK f L S k).length = S.length ∧ ∀ s ∈ settleK f L S k, s.size = 64
  | 0, _ => ⟨rfl, h⟩
  | k + 1, hk => by
    obtain ⟨e, g⟩ := settleK_good hf h hL k (by omega)
    exact ⟨by simp [settleK, e], set_64 g (tornT_size (hf k) (hL _ (getD_mem (d := (0, T0)) (show k < L.length by omega))) (getD_64 g _))⟩

theorem set_getD {α : Type} {l : List α} {n : Nat} {d : α} (h : n < l.length) : l.set n (l.getD n d) = l := by
  rw [List.getD_eq_getElem?_getD, List.getElem?_eq_getElem h]
  simp

theorem tornT_all {x o : ByteArray} (hx : x.size = 64) (ho : o.size = 64) : tornT 64 x o = x := by
  apply text_ext
  have h1 : x.data.toList.length = 64 := by rw [Array.length_toList]; exact hx
  have h2 : o.data.toList.length = 64 := by rw [Array.length_toList]; exact ho
  rw [tornT, ByteArray.data_append, Array.toList_append, extract_list, extract_list]
  simp [h1, h2, List.take_of_length_le]
theorem tornT_none {x o : ByteArray} (hx : x.size = 64) (ho : o.size = 64) : tornT 0 x o = o := by
  apply text_ext
  have h2 : o.data.toList.length = 64 := by rw [Array.length_toList]; exact ho
  rw [tornT, ByteArray.data_append, Array.toList_append, extract_list, extract_list]
  simp [h2, List.take_of_length_le]

theorem settle_flush {L : List (Nat × ByteArray)} {S : List ByteArray} (h : ∀ s ∈ S, s.size = 64) (hL : ∀ p ∈ L, p.2.size = 64) : ∀ k, k ≤ L.length → settleK (fun _ => 64) L S k = flushK L S k
  | 0, _ => rfl
  | k + 1, hk => by
    obtain ⟨e, g⟩ := settleK_good (f := fun _ => 64) (fun _ => Nat.le_refl _) h hL k (by omega)
    have hp := hL _ (getD_mem (d := (0, T0)) (show k < L.length by omega))
    rw [settleK, flushK, tornT_all hp (getD_64 g _), settle_flush h hL k (by omega)]

theorem settle_crash {c : Crs} {L : List (Nat × ByteArray)} {S : List ByteArray} (h : ∀ s ∈ S, s.size = 64) (hL : ∀ p ∈ L, p.1 < S.length ∧ p.2.size = 64) : ∀ k, k ≤ L.length → settleK (stayN c) L S k = crashK c L S k
  | 0, _ => rfl
  | k + 1, hk => by
    obtain ⟨e, g⟩ := settleK_good (f := stayN c) (stayN_le c) h (fun p hp => (hL p hp).2) k (by omega)
    obtain ⟨h1, hp⟩ := hL _ (getD_mem (d := (0, T0)) (show k < L.length by omega))
    rw [settleK, crashK, oneC, stayN, ← settle_crash h hL k (by omega)]
    split
    · rfl
    · split
      · rw [tornT_all hp (getD_64 g _)]
      · rw [tornT_none hp (getD_64 g _), set_getD (by omega)]

/-- The loop's state: the first k loose writes are done. -/
def Dk.midS (d : Dk) (f : Nat → Nat) (k : Nat) : Dk := { d with S := settleK f d.L d.S k }

/-- What a function value of the disk tells. -/
inductive IsStay : Value → (Nat → Nat) → Prop
  | whole : IsStay (.func (.func 94) #[] #[]) (fun _ => 64)
  | of (c : Crs) : IsStay (.func (.func 58) #[crashV c] #[]) (stayN c)

theorem IsStay.le {v : Value} {f : Nat → Nat} (h : IsStay v f) (k : Nat) : f k ≤ 64 := by
  cases h with
  | whole => exact Nat.le_refl _
  | of c => exact stayN_le c k

/-- A piece of a sector is another one, in the disk's row. -/
theorem PS.put {w : World} {H : Nat → Prop} {db g cap : Nat} {lv gv : Value} {d : Dk} (P : PS w H db (.slice (some ⟨g, 0, none⟩) (64 * d.S.length) cap) lv gv d) (p k : Nat) (x : ByteArray) (hp : p < d.S.length) (hk : k ≤ 64) (hx : x.size = 64) (c : Nat) :
    ∃ y, (Builtin.copy_ #[57, 9] 3 #[.slice (some ⟨g, 64 * p, none⟩) 64 c, .string (x.extract 0 k)]).run Try.prog w = .ok (goInt k) y ∧
      PS y H db (.slice (some ⟨g, 0, none⟩) (64 * d.S.length) cap) lv gv { d with S := d.S.set p (tornT k x (d.S.getD p T0)) } ∧ Turn H w y := by
  obtain ⟨g', cap', hsv, hgH, hgdb, hgl, -, -, hap⟩ := P.open
  injection hsv with e1 _ e3
  injection e1 with e1
  injection e1 with e1
  subst e1 e3
  have hxs : (x.extract 0 k).size = k := by rw [ByteArray.size_extract]; omega
  obtain ⟨y, R, O, G, hsz⟩ := own_copy P.s.1 (64 * p) 64 c (x.extract 0 k) (by omega) (by omega)
  rw [hxs] at R O
  rw [cat_put P.g.s64 p k x hp hk hx] at O
  have hg : Dk.Good { d with S := d.S.set p (tornT k x (d.S.getD p T0)) } := ⟨by simpa using P.g.s1, by simpa using P.g.s2, set_64 P.g.s64 (tornT_size hk hx (getD_64 P.g.s64 _)), fun q hq => by simpa using P.g.l64 q hq, P.g.a63⟩
  refine ⟨y, R, ⟨P.box.of_heap (G.block db P.box.2.2 (by simp; omega)), ⟨?_, P.s.2⟩, ?_, P.h, hg, P.l6, P.m6, P.v⟩, ⟨G.os, G.tape, G.output, G.size, fun j hj hn => G.block j hj (by intro e; injection e with e; subst e; exact hn hgH)⟩⟩
  · rw [show ({ d with S := d.S.set p (tornT k x (d.S.getD p T0)) } : Dk).S.length = d.S.length by simp]
    exact O
  · have hl2 := P.l.2
    refine ⟨?_, hl2⟩
    rcases P.l.1.2 with ⟨hn, h0⟩ | ⟨g2, cap2, cur2, hv, hb, hg2, rest⟩
    · exact ⟨P.l.1.1, .inl ⟨hn, h0⟩⟩
    · refine ⟨P.l.1.1, .inr ⟨g2, cap2, cur2, hv, hb, ?_, rest⟩⟩
      rw [G.block g2 (Array.getElem?_eq_some_iff.1 hg2).1 (by intro e; injection e with e; apply hap; rw [hv, e]; rfl)]
      exact hg2

end Go.Proofs.Ytgffhnggocbjhaa
