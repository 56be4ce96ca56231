/- Layer 18: the program's disk: where it lies; how much of a loose write stays; its small functions. -/
import Derived.Test.YtgffhnggocbjhaaDkRef5
import Derived.Test.YtgffhnggocbjhaaDkLaw
import Derived.Shelf.Pu.Clone
import Derived.Lib.BufferWrite
import Derived.Laws.CopyRow
namespace Go.Proofs.Ytgffhnggocbjhaa
open Go.RowKit
set_option linter.unusedVariables false
set_option maxRecDepth 100000
set_option linter.unusedSimpArgs false

/-- Where the shelf's numbers of functions and types lie in this translation. -/
def ren : Go.Shelf.Ren := ⟨fun | 25 => 97 | n => n, fun | 37 => 57 | 47 => 130 | n => n, fun n => n⟩

theorem lays25 : LaysPu.n25 Try.prog ren :=
  { mixed := by kernel_rfl, f25 := by kernel_rfl,
    t0 := by kernel_rfl, a0 := fun _ => by kernel_rfl, z0 := fun _ => by kernel_rfl, v0 := fun _ => by kernel_rfl, i0 := by kernel_rfl,
    t3 := by kernel_rfl, a3 := fun _ => by kernel_rfl, z3 := fun _ => by kernel_rfl, v3 := fun _ => by kernel_rfl, i3 := by kernel_rfl,
    t4 := by kernel_rfl, a4 := fun _ => by kernel_rfl, z4 := fun _ => by kernel_rfl, v4 := fun _ => by kernel_rfl, i4 := by kernel_rfl,
    t5 := by kernel_rfl, a5 := fun _ => by kernel_rfl, z5 := fun _ => by kernel_rfl, v5 := fun _ => by kernel_rfl, i5 := by kernel_rfl,
    t9 := by kernel_rfl, a9 := fun _ => by kernel_rfl, z9 := fun _ => by kernel_rfl, v9 := fun _ => by kernel_rfl, i9 := by kernel_rfl,
    t37 := by kernel_rfl, a37 := fun _ => by kernel_rfl, z37 := fun _ => by kernel_rfl, v37 := fun _ => by kernel_rfl, i37 := by kernel_rfl,
    t47 := by kernel_rfl, a47 := fun _ => by kernel_rfl, z47 := fun _ => by kernel_rfl, v47 := fun _ => by kernel_rfl, i47 := by kernel_rfl }

theorem slClone_any (s : ByteArray) (w : World) (hlim : s.size ≤ 281474976710656) :
    Calls Try.prog 97 #[.string s] w fun e w' => e = .returned (.string s) ∧ Below w.heap.size w w' :=
  AnyPu.stringslite_Clone lays25 s w hlim

theorem clone_any (s : ByteArray) (w : World) (hlim : s.size ≤ 281474976710656) :
    Calls Try.prog 83 #[.string s] w fun e w' => e = .returned (.string s) ∧ Below w.heap.size w w' := by
  go_enter Try.func83, Try.ntmps83
  go_wp2_with fail
  refine (slClone_any s w hlim).mono ?_
  rintro e w' ⟨rfl, hb⟩
  go_wp2
  go_ret
  exact ⟨rfl, hb⟩

def crashV (c : Crs) : Value := .agg #[.string c.keep, .int .i64 c.torn, .int .i64 c.bytes]

/-- How the power goes, as the disk keeps it. -/
def goesV (c : Crs) : Value := .func (.func 58) #[crashV c] #[]

def cellsP (sv lv gv : Value) (d : Dk) : Array Value := #[sv, lv, .bool d.dead, .int .i64 (d.m : Int), .int .i64 (d.a : Int), gv]

/-- What the disk keeps of how the power goes. -/
def GV (gv : Value) (d : Dk) : Prop := (gv = .nilFunc ∧ d.a = 0) ∨ ∃ c, gv = goesV c ∧ (d.a ≠ 0 → c = d.c)

theorem GV.is {gv : Value} {d : Dk} (h : GV gv d) (ha : d.a ≠ 0) : gv = goesV d.c := by
  rcases h with ⟨-, h⟩ | ⟨c, h, hc⟩
  · exact (ha h).elim
  · rw [h, hc ha]

/-- The program's disk in block db, its rows in blocks of H. -/
structure PS (w : World) (H : Nat → Prop) (db : Nat) (sv lv gv : Value) (d : Dk) : Prop where
  box : Box w db (cellsP sv lv gv d)
  s : Row w (fun k => H k ∧ k ≠ db) 5 1 sv (64 * d.S.length) (Go.Lib.strCells (catT d.S))
  l : Row w (fun k => H k ∧ k ≠ db) 80 2 lv d.L.length (looses d.L)
  h : H db
  g : d.Good
  l6 : d.L.length ≤ 1000
  m6 : d.m ≤ 1000000
  v : GV gv d

theorem PS.keep {w y : World} {H : Nat → Prop} {db : Nat} {sv lv gv : Value} {d : Dk} (h : PS w H db sv lv gv d) (hk : ∀ k, H k → k < w.heap.size → y.heap[k]? = w.heap[k]?) : PS y H db sv lv gv d :=
  ⟨h.box.of_heap (hk db h.h h.box.2.2), h.s.keep (fun k h => hk k h.1), h.l.keep (fun k h => hk k h.1), h.h, h.g, h.l6, h.m6, h.v⟩
theorem PS.on {w y : World} {H : Nat → Prop} {db : Nat} {sv lv gv : Value} {d : Dk} (h : PS w H db sv lv gv d) (hb : Below w.heap.size w y) : PS y H db sv lv gv d := h.keep fun k _ hk => hb.block k hk
theorem PS.mono {w : World} {H G : Nat → Prop} {db : Nat} {sv lv gv : Value} {d : Dk} (h : PS w H db sv lv gv d) (hG : ∀ k, H k → k < w.heap.size → G k) : PS w G db sv lv gv d :=
  ⟨h.box, h.s.mono (fun k h hl => ⟨hG k h.1 hl, h.2⟩), h.l.mono (fun k h hl => ⟨hG k h.1 hl, h.2⟩), hG db h.h h.box.2.2, h.g, h.l6, h.m6, h.v⟩

/-- The program's disk in block db, what it may change being blocks of H. -/
def PD (w : World) (H : Nat → Prop) (db : Nat) (d : Dk) : Prop := ∃ sv lv gv, PS w H db sv lv gv d

theorem PD.keep {w y : World} {H : Nat → Prop} {db : Nat} {d : Dk} (h : PD w H db d) (hk : ∀ k, H k → k < w.heap.size → y.heap[k]? = w.heap[k]?) : PD y H db d := by
  obtain ⟨sv, lv, gv, P⟩ := h
  exact ⟨sv, lv, gv, P.keep hk⟩
theorem PD.mono {w : World} {H G : Nat → Prop} {db : Nat} {d : Dk} (h : PD w H db d) (hG : ∀ k, H k → k < w.heap.size → G k) : PD w G db d := by
  obtain ⟨sv, lv, gv, P⟩ := h
  exact ⟨sv, lv, gv, P.mono hG⟩
theorem PD.on {w y : World} {H : Nat → Prop} {db : Nat} {d : Dk} (h : PD w H db d) (hb : Below w.heap.size w y) : PD y H db d := h.keep fun k _ hk => hb.block k hk
theorem PD.good {w : World} {H : Nat → Prop} {db : Nat} {d : Dk} (h : PD w H db d) : d.Good ∧ d.L.length ≤ 1000 ∧ d.m ≤ 1000000 := by
  obtain ⟨sv, lv, gv, P⟩ := h
  exact ⟨P.g, P.l6, P.m6⟩

/-- The row of bytes is there, and in a block of its own. -/
theorem PS.open {w : World} {H : Nat → Prop} {db : Nat} {sv lv gv : Value} {d : Dk} (h : PS w H db sv lv gv d) :
    ∃ g cap, sv = .slice (some ⟨g, 0, none⟩) (64 * d.S.length) cap ∧ H g ∧ g ≠ db ∧ g < w.heap.size ∧ 64 * d.S.length ≤ cap ∧ cap ≤ maxLen ∧ lv.ownBlock ≠ some g := by
  rcases h.s.1.2 with ⟨-, h0⟩ | ⟨g, cap, cur, rfl, -, hg, hc, hm, -⟩
  · have := h.g.s1; omega
  · refine ⟨g, cap, rfl, (h.s.2 g rfl).1, (h.s.2 g rfl).2, (Array.getElem?_eq_some_iff.1 hg).1, hc, hm, fun e => ?_⟩
    rcases h.l.1.2 with ⟨rfl, -⟩ | ⟨g', cap', cur', rfl, -, hg', -⟩
    · cases e
    · simp [Value.ownBlock] at e
      subst e
      rw [hg] at hg'
      simp at hg'

/-- How much of the i-th loose write stays. -/
def stayN (c : Crs) (i : Nat) : Nat := if (i : Int) = c.torn then cutN c.bytes else if bitAt c.keep i then 64 else 0

end Go.Proofs.Ytgffhnggocbjhaa
