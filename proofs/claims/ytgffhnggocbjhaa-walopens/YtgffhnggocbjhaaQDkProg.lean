/- Layer 18: the program's disk: its contracts. -/
import Derived.Test.YtgffhnggocbjhaaQDkPk
import Derived.Test.YtgffhnggocbjhaaQDkRef6
namespace Go.Proofs.Ytgffhnggocbjhaa
open Go.RowKit
set_option linter.unusedVariables false
set_option maxRecDepth 100000
set_option linter.unusedSimpArgs false

/-- What its Keep is, strings.Clone can make. -/
def Crs.Fits (c : Crs) : Prop := c.keep.size ≤ 281474976710656

theorem dnew_bad (n : Int) (h : n < 1 ∨ 4096 < n) (w : World) : Calls Try.prog 35 #[.int .i64 n] w fun e w' => e = .returned (.tuple #[.pointer none, .int .i64 180]) ∧ w' = w := pnew_bad n h w

theorem dnew_any (n : Nat) (h1 : 1 ≤ n) (h2 : n ≤ 4096) (w : World) :
    Calls Try.prog 35 #[.int .i64 (n : Int)] w fun e w' => ∃ db, e = .returned (.tuple #[.pointer (some ⟨db, 0, none⟩), .int .i64 0]) ∧ PD w' (fun k => w.heap.size ≤ k) db (newD n) ∧ Below w.heap.size w w' :=
  (pnew_any n h1 h2 w).mono fun e w' ⟨db, cap, he, P, B⟩ => ⟨db, he, ⟨_, _, _, P⟩, B⟩

theorem dopen_bad (s : ByteArray) (h : ¬ (s.size % 64 = 0 ∧ 64 ≤ s.size ∧ s.size ≤ 262144)) (hz : s.size ≤ maxLen) (w : World) : Calls Try.prog 30 #[.string s] w fun e w' => e = .returned (.tuple #[.pointer none, .int .i64 180]) ∧ Below w.heap.size w w' :=
  popen_bad s h hz w

theorem dopen_any (s : ByteArray) (h : s.size % 64 = 0) (h1 : 64 ≤ s.size) (h2 : s.size ≤ 262144) (w : World) :
    Calls Try.prog 30 #[.string s] w fun e w' => ∃ db, e = .returned (.tuple #[.pointer (some ⟨db, 0, none⟩), .int .i64 0]) ∧ PD w' (fun k => w.heap.size ≤ k) db (openD s) ∧ Below w.heap.size w w' :=
  (popen_any s h h1 h2 w).mono fun e w' ⟨db, sv, lv, gv, he, P, B⟩ => ⟨db, he, ⟨_, _, _, P⟩, B⟩

theorem dimage_any {w : World} {H : Nat → Prop} {db : Nat} {d : Dk} (D : PD w H db d) :
    Calls Try.prog 24 #[.pointer (some ⟨db, 0, none⟩)] w fun e w' => e = .returned (.string (catT d.S)) ∧ Below w.heap.size w w' := by
  obtain ⟨sv, lv, gv, P⟩ := D
  exact (pimage_any P).mono fun e w' h => ⟨h.1, h.2 ▸ Below.refl _ _⟩

theorem dsectors_any {w : World} {H : Nat → Prop} {db : Nat} {d : Dk} (D : PD w H db d) :
    Calls Try.prog 87 #[.pointer (some ⟨db, 0, none⟩)] w fun e w' => e = .returned (.int .i64 (d.S.length : Int)) ∧ w' = w := by
  obtain ⟨sv, lv, gv, P⟩ := D
  exact psectors_any P

theorem dsteps_any {w : World} {H : Nat → Prop} {db : Nat} {d : Dk} (D : PD w H db d) :
    Calls Try.prog 26 #[.pointer (some ⟨db, 0, none⟩)] w fun e w' => e = .returned (.int .i64 (d.m : Int)) ∧ w' = w := by
  obtain ⟨sv, lv, gv, P⟩ := D
  exact psteps_any P

theorem dread_any {w : World} {H : Nat → Prop} {db : Nat} {d : Dk} (D : PD w H db d) (n : Int) :
    Calls Try.prog 54 #[.pointer (some ⟨db, 0, none⟩), .int .i64 n] w fun e w' => e = .returned (.tuple #[.string (d.told n), .int .i64 (d.errAt n)]) ∧ Below w.heap.size w w' := by
  obtain ⟨sv, lv, gv, P⟩ := D
  exact pread_any P n

theorem dwrite_any {w : World} {H : Nat → Prop} {db : Nat} {d : Dk} (D : PD w H db d) (hm : d.m < 1000000) (hL : d.L.length < 1000) (n : Int) (s : ByteArray) :
    Calls Try.prog 74 #[.pointer (some ⟨db, 0, none⟩), .int .i64 n, .string s] w fun e w' => e = .returned (.int .i64 (d.errW n s)) ∧ PD w' (fun k => H k ∨ w.heap.size ≤ k) db (d.wrote n s) ∧ Turn H w w' := by
  obtain ⟨sv, lv, gv, P⟩ := D
  exact pwrite_any P hm hL n s

theorem dflush_any {w : World} {H : Nat → Prop} {db : Nat} {d : Dk} (D : PD w H db d) (hm : d.m < 1000000) :
    Calls Try.prog 75 #[.pointer (some ⟨db, 0, none⟩)] w fun e w' => e = .returned (.int .i64 d.errF) ∧ PD w' (fun k => H k ∨ w.heap.size ≤ k) db d.flush ∧ Turn H w w' := by
  obtain ⟨sv, lv, gv, P⟩ := D
  exact (pflush_any P hm).mono fun e w' ⟨he, ⟨lv', gv', P'⟩, T⟩ => ⟨he, ⟨_, _, _, P'.mono fun k h _ => .inl h⟩, T⟩

theorem darm_any {w : World} {H : Nat → Prop} {db : Nat} {d : Dk} (D : PD w H db d) (n : Int) (hn : n ≤ 9223372036854775807) (c : Crs) (hk : c.Fits) :
    Calls Try.prog 14 #[.pointer (some ⟨db, 0, none⟩), .int .i64 n, .agg #[.string c.keep, .int .i64 c.torn, .int .i64 c.bytes]] w fun e w' => e = .returned (.int .i64 (d.errA n)) ∧ PD w' (fun k => H k ∨ w.heap.size ≤ k) db (d.armed n c) ∧ Turn H w w' := by
  obtain ⟨sv, lv, gv, P⟩ := D
  exact (parm_any P n hn c hk).mono fun e w' ⟨he, ⟨gv', P'⟩, T⟩ => ⟨he, ⟨_, _, _, P'.mono fun k h _ => .inl h⟩, T⟩

theorem dcrash_any {w : World} {H : Nat → Prop} {db : Nat} {d : Dk} (D : PD w H db d) (c : Crs) (hk : c.Fits) :
    Calls Try.prog 16 #[.pointer (some ⟨db, 0, none⟩), .agg #[.string c.keep, .int .i64 c.torn, .int .i64 c.bytes]] w fun e w' => e = .returned (.int .i64 d.errC) ∧ PD w' (fun k => H k ∨ w.heap.size ≤ k) db (d.crash c) ∧ Turn H w w' := by
  obtain ⟨sv, lv, gv, P⟩ := D
  exact (pcrash_any P c hk).mono fun e w' ⟨he, ⟨lv', gv', P'⟩, T⟩ => ⟨he, ⟨_, _, _, P'.mono fun k h _ => .inl h⟩, T⟩

theorem drevive_any {w : World} {H : Nat → Prop} {db : Nat} {d : Dk} (D : PD w H db d) :
    Calls Try.prog 18 #[.pointer (some ⟨db, 0, none⟩)] w fun e w' => e = .returned (.tuple #[]) ∧ PD w' (fun k => H k ∨ w.heap.size ≤ k) db d.revived ∧ Turn H w w' := by
  obtain ⟨sv, lv, gv, P⟩ := D
  exact (previve_any P).mono fun e w' ⟨he, P', T⟩ => ⟨he, ⟨_, _, _, P'.mono fun k h _ => .inl h⟩, T⟩

theorem dclone_any {w : World} {H : Nat → Prop} {db : Nat} {d : Dk} (D : PD w H db d) :
    Calls Try.prog 22 #[.pointer (some ⟨db, 0, none⟩)] w fun e w' => ∃ cb, e = .returned (.pointer (some ⟨cb, 0, none⟩)) ∧ PD w' (fun k => w.heap.size ≤ k) cb d ∧ Below w.heap.size w w' := by
  obtain ⟨sv, lv, gv, P⟩ := D
  exact (pclone_any P).mono fun e w' ⟨cb, sv', lv', he, P', B⟩ => ⟨cb, he, ⟨_, _, _, P'⟩, B⟩

end Go.Proofs.Ytgffhnggocbjhaa
