/- Layer 19: a log with what it may change: its calls on a disk whose power is there. -/
import Derived.Test.YtgffhnggocbjhaaQWqLaid
namespace Go.Proofs.Ytgffhnggocbjhaa
open Go.RowKit
set_option linter.unusedVariables false
set_option maxRecDepth 100000
set_option linter.unusedSimpArgs false

theorem commit_ok {S : List ByteArray} {n : Nat} {c0 c : Cl} (h : San S n c0) (hn : n < 4294967295) (h16 : c.length ≤ 16) (h64 : ∀ p ∈ c, p.2.size = 64) (hr : riseK ((S.length : Int) - 34) (c.map (·.1)) c.length = true) (m : Nat) (cr : Crs) :
    (LQ n S m cr).errC c = 0 ∧ (LQ n S m cr).commit c = LQ (n + 1) (nextS S (n + 1) c) (m + 2 * c.length + 4) cr ∧ San (nextS S (n + 1) c) (n + 1) c ∧
      ∀ j, j + 34 < S.length → (nextS S (n + 1) c).getD (34 + j) T0 = (setsR c (S.drop 34)).getD j T0 := by
  obtain ⟨e1, e2, e3⟩ := h.next hn h16 h64 hr m cr
  have hall : c.all (fun p => decide (p.2.size = 64)) = true := by
    rw [List.all_eq_true]
    intro p hp
    exact decide_eq_true (h64 p hp)
  have hR : (LQ n S m cr).refuse c = 0 := by
    unfold Lg.refuse
    rw [if_neg (show ¬ (16 < c.length ∨ 4294967295 ≤ (LQ n S m cr).n) by show ¬ (_ ∨ 4294967295 ≤ n); omega), if_neg (by rw [hall]; decide), if_neg (by rw [show (LQ n S m cr).d.own = (S.length : Int) - 34 from rfl, hr]; decide), if_neg (show ¬ ((LQ n S m cr).dead = true) from Bool.false_ne_true)]
  have e4 : runL (changeD ((LQ n S m cr).n + 1) c) (LQ n S m cr).d = (Q (nextS S (n + 1) c) (m + 2 * c.length + 4) cr, true) := e1
  refine ⟨?_, ?_, e2, e3⟩
  · unfold Lg.errC
    rw [if_neg (by rw [hR]; decide), e4]
    rfl
  · unfold Lg.commit
    rw [if_neg (by rw [hR]; decide), e4]
    rfl
theorem commit_no {l : Lg} {c : Cl} (h : l.refuse c ≠ 0) : l.errC c = l.refuse c ∧ l.commit c = l := by
  unfold Lg.errC Lg.commit
  rw [if_pos h, if_pos h]
  exact ⟨rfl, rfl⟩
theorem PL.bound {w : World} {H : Nat → Prop} {lb db : Nat} {l : Lg} (h : PL w H lb db l) : PL w (fun k => H k ∧ k < w.heap.size) lb db l := h.mono (fun k hk hl => ⟨hk, hl⟩) (fun hh => h.out hh.1)

/-- A log whose disk lies in blocks from b on, below N, none of them in P. -/
structure Fs (b N : Nat) (P : Nat → Prop) (y : World) (lb db : Nat) (l : Lg) : Prop where
  ex : ∃ H, PL y H lb db l ∧ ∀ k, H k → b ≤ k ∧ ¬ P k ∧ k < N
  lo : b ≤ lb
  hi : lb < N
  top : N ≤ y.heap.size
  no : ¬ P lb
  old : ∀ k, P k → k < y.heap.size

theorem Fs.on {b N : Nat} {P : Nat → Prop} {y z : World} {lb db : Nat} {l : Lg} (h : Fs b N P y lb db l) (T : Below y.heap.size y z) : Fs b N P z lb db l := by
  obtain ⟨H, L, hH⟩ := h.ex
  exact ⟨⟨H, L.on T, hH⟩, h.lo, h.hi, Nat.le_trans h.top T.size, h.no, fun k hk => Nat.lt_of_lt_of_le (h.old k hk) T.size⟩
theorem Fs.more {b N : Nat} {P P2 : Nat → Prop} {y : World} {lb db : Nat} {l : Lg} (h : Fs b N P y lb db l) (hP : ∀ k, P2 k → P k ∨ (N ≤ k ∧ k < y.heap.size)) : Fs b N P2 y lb db l := by
  obtain ⟨H, L, hH⟩ := h.ex
  refine ⟨⟨H, L, fun k hk => ⟨(hH k hk).1, fun hp => ?_, (hH k hk).2.2⟩⟩, h.lo, h.hi, h.top, fun hp => ?_, fun k hk => ?_⟩
  · rcases hP k hp with h1 | h1
    · exact (hH k hk).2.1 h1
    · have := (hH k hk).2.2; omega
  · rcases hP lb hp with h1 | h1
    · exact h.no h1
    · have := h.hi; omega
  · rcases hP k hk with h1 | h1
    · exact h.old k h1
    · exact h1.2

theorem Fs.commit {b N : Nat} {P G : Nat → Prop} {y : World} {lb db : Nat} {l : Lg} {v : Value} {c : Cl} (h : Fs b N P y lb db l) (C : CW y G v c) (hG : ∀ k, k < N → ¬ P k → G k) (hn : l.n < 4294967296) (hm : l.d.m + 100 < 1000000) (hL : l.d.L.length + 100 < 1000) :
    Calls Try.prog 9 #[.pointer (some ⟨lb, 0, none⟩), v] y fun e z => e = .returned (.int .i64 (l.errC c)) ∧ Fs b z.heap.size P z lb db (l.commit c) ∧ Below b y z ∧ ∀ k, P k → z.heap[k]? = y.heap[k]? := by
  obtain ⟨H, L, hH⟩ := h.ex
  refine (lcommit_any L C (fun k _ hk => hG k (by rcases hk with hk | hk; exact (hH k hk).2.2; rw [hk]; exact h.hi) (by rcases hk with hk | hk; exact (hH k hk).2.1; rw [hk]; exact h.no)) hn hm hL).mono ?_
  rintro e z ⟨rfl, CM⟩
  have hsz := CM.far.size
  refine ⟨rfl, ⟨⟨fun k => (H k ∨ y.heap.size ≤ k) ∧ k < z.heap.size, CM.log.bound, fun k hk => ?_⟩, h.lo, Nat.lt_of_lt_of_le h.hi (Nat.le_trans h.top hsz), Nat.le_refl _, h.no, fun k hk => Nat.lt_of_lt_of_le (h.old k hk) hsz⟩, CM.far.below ?_ ?_, fun k hk => CM.far.block k (h.old k hk) (fun hh => ?_)⟩
  · rcases hk.1 with h1 | h1
    · exact ⟨(hH k h1).1, (hH k h1).2.1, hk.2⟩
    · refine ⟨by have := h.lo; have := h.hi; have := h.top; omega, fun hp => by have := h.old k hp; omega, hk.2⟩
  · have := h.lo; have := h.hi; have := h.top; omega
  · intro k hk
    rcases hk with hk | hk
    · exact (hH k hk).1
    · rw [hk]; exact h.lo
  · rcases hh with hh | hh
    · exact (hH k hh).2.1 hk
    · exact h.no (hh ▸ hk)

theorem Fs.read {b N : Nat} {P : Nat → Prop} {y : World} {lb db : Nat} {l : Lg} (h : Fs b N P y lb db l) (n : Int) :
    Calls Try.prog 12 #[.pointer (some ⟨lb, 0, none⟩), .int .i64 n] y fun e z => e = .returned (.tuple #[.string (l.tolP n), .int .i64 (l.errP n)]) ∧ Fs b N P z lb db (l.redP n) ∧ Below b y z ∧ ∀ k, k < y.heap.size → k ≠ lb → z.heap[k]? = y.heap[k]? := by
  obtain ⟨H, L, hH⟩ := h.ex
  refine (lread_any L n).mono ?_
  rintro e z ⟨rfl, L2, T⟩
  exact ⟨rfl, ⟨⟨H, L2, hH⟩, h.lo, h.hi, Nat.le_trans h.top T.size, h.no, fun k hk => Nat.lt_of_lt_of_le (h.old k hk) T.size⟩, T.below (by have := h.lo; have := h.hi; have := h.top; omega) (fun k hk => by rw [hk]; exact h.lo), fun k hk hn => T.block k hk hn⟩
theorem Fs.num {b N : Nat} {P : Nat → Prop} {y : World} {lb db : Nat} {l : Lg} (h : Fs b N P y lb db l) : Calls Try.prog 27 #[.pointer (some ⟨lb, 0, none⟩)] y fun e z => e = .returned (.int .i64 (l.n : Int)) ∧ z = y := by
  obtain ⟨H, L, hH⟩ := h.ex
  exact lnum_any L
theorem Fs.sec {b N : Nat} {P : Nat → Prop} {y : World} {lb db : Nat} {l : Lg} (h : Fs b N P y lb db l) : Calls Try.prog 34 #[.pointer (some ⟨lb, 0, none⟩)] y fun e z => e = .returned (.int .i64 l.d.own) ∧ z = y := by
  obtain ⟨H, L, hH⟩ := h.ex
  exact lsec_any L
theorem Fs.isDead {b N : Nat} {P : Nat → Prop} {y : World} {lb db : Nat} {l : Lg} (h : Fs b N P y lb db l) : Calls Try.prog 28 #[.pointer (some ⟨lb, 0, none⟩)] y fun e z => e = .returned (.bool l.dead) ∧ z = y := by
  obtain ⟨H, L, hH⟩ := h.ex
  exact ldead_any L

/-- Opened anew, beside the log that is there. -/
theorem Fs.opens {b N : Nat} {P : Nat → Prop} {y : World} {lb db : Nat} {l : Lg} (h : Fs b N P y lb db l) (hm : l.d.m + 300 < 1000000) (hL : l.d.L.length + 300 < 1000) (hE : openE l.d = 0) :
    Calls Try.prog 20 #[.pointer (some ⟨db, 0, none⟩)] y fun e z => ∃ tb, e = .returned (.tuple #[.pointer (some ⟨tb, 0, none⟩), .int .i64 0]) ∧ y.heap.size ≤ tb ∧
      Fs b z.heap.size (fun k => P k ∨ k = tb) z lb db { l with d := openN l.d } ∧ Fs b z.heap.size (fun k => P k ∨ k = lb) z tb db ⟨bestN l.d, false, openN l.d⟩ ∧ Below b y z ∧ ∀ k, P k → z.heap[k]? = y.heap[k]? := by
  obtain ⟨H, L, hH⟩ := h.ex
  have hb : b ≤ y.heap.size := by have := h.lo; have := h.hi; have := h.top; omega
  refine (wopen_any L.disk hm hL).mono ?_
  rintro e z ⟨v, rfl, NL⟩
  obtain ⟨tb, rfl, htb, PT⟩ := NL.ok hE
  have hsz := NL.far.size
  have htz := PT.log.2.2
  have hlb : lb < y.heap.size := Nat.lt_of_lt_of_le h.hi h.top
  have hH2 : ∀ k, ((H k ∨ y.heap.size ≤ k) ∧ k ≠ tb) ∧ k < z.heap.size → b ≤ k ∧ ¬ P k ∧ k ≠ tb ∧ k ≠ lb ∧ k < z.heap.size := fun k hk => by
    rcases hk.1.1 with h1 | h1
    · exact ⟨(hH k h1).1, (hH k h1).2.1, hk.1.2, fun e => L.out (e ▸ h1), hk.2⟩
    · exact ⟨by omega, fun hp => by have := h.old k hp; omega, hk.1.2, by omega, hk.2⟩
  have hlog : Box z lb (cellsG db l.n l.dead) := L.log.of_heap (NL.far.block lb hlb L.out)
  refine ⟨tb, by rw [hE], htb, ⟨⟨fun k => ((H k ∨ y.heap.size ≤ k) ∧ k ≠ tb) ∧ k < z.heap.size, ⟨hlog, fun hh => (hH2 lb hh).2.2.2.1 rfl, PT.disk.mono (fun k hk hl => ⟨hk, hl⟩), PT.fit⟩, fun k hk => ⟨(hH2 k hk).1, fun hp => by
      rcases hp with hp | hp
      · exact (hH2 k hk).2.1 hp
      · exact (hH2 k hk).2.2.1 hp, hk.2⟩⟩, h.lo, by omega, Nat.le_refl _, fun hp => by
      rcases hp with hp | hp
      · exact h.no hp
      · omega, fun k hk => by
      rcases hk with hk | hk
      · exact Nat.lt_of_lt_of_le (h.old k hk) hsz
      · rw [hk]; exact htz⟩, ⟨⟨fun k => ((H k ∨ y.heap.size ≤ k) ∧ k ≠ tb) ∧ k < z.heap.size, PT.bound, fun k hk => ⟨(hH2 k hk).1, fun hp => by
      rcases hp with hp | hp
      · exact (hH2 k hk).2.1 hp
      · exact (hH2 k hk).2.2.2.1 hp, hk.2⟩⟩, by omega, htz, Nat.le_refl _, fun hp => by
      rcases hp with hp | hp
      · have := h.old tb hp; omega
      · omega, fun k hk => by
      rcases hk with hk | hk
      · exact Nat.lt_of_lt_of_le (h.old k hk) hsz
      · rw [hk]; omega⟩, NL.far.below hb (fun k hk => (hH k hk).1), fun k hk => NL.far.block k (h.old k hk) (fun hh => (hH k hh).2.1 hk)⟩

end Go.Proofs.Ytgffhnggocbjhaa
