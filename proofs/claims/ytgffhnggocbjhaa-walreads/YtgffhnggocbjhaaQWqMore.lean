/- Layer 19: all of a log's sectors; its disk's power goes and comes. -/
import Derived.Test.YtgffhnggocbjhaaQWqStep
namespace Go.Proofs.Ytgffhnggocbjhaa
open Go.RowKit
set_option linter.unusedVariables false
set_option maxRecDepth 100000
set_option linter.unusedSimpArgs false

theorem Fs.all {b N : Nat} {P : Nat → Prop} {y : World} {lb db n : Nat} {S : List ByteArray} {m : Nat} {cr : Crs} (h : Fs b N P y lb db (LQ n S m cr)) (hl : S.length ≤ 134) :
    Calls Try.prog 32 #[.pointer (some ⟨lb, 0, none⟩)] y fun e z => e = .returned (.tuple #[.string (catT (S.drop 34)), .bool true]) ∧ Fs b N P z lb db (LQ n S m cr) ∧ Below b y z ∧ ∀ k, k < y.heap.size → k ≠ lb → z.heap[k]? = y.heap[k]? := by
  obtain ⟨H, L, hH⟩ := h.ex
  refine (all_any L hl).mono ?_
  rintro e z ⟨rfl, L2, T⟩
  exact ⟨rfl, ⟨⟨H, L2, hH⟩, h.lo, h.hi, Nat.le_trans h.top T.size, h.no, fun k hk => Nat.lt_of_lt_of_le (h.old k hk) T.size⟩, T.below (by have := h.lo; have := h.hi; have := h.top; omega) (fun k hk => by rw [hk]; exact h.lo), fun k hk hn => T.block k hk hn⟩

theorem Fs.opd {b N : Nat} {P : Nat → Prop} {y : World} {lb db : Nat} {l : Lg} {d' : Dk} {f : Nat} {args : Array Value} {v : Value} (h : Fs b N P y lb db l) (hs : d'.S.length = l.d.S.length)
    (hc : ∀ H : Nat → Prop, PD y H db l.d → Calls Try.prog f args y fun e z => e = .returned v ∧ PD z (fun k => H k ∨ y.heap.size ≤ k) db d' ∧ Turn H y z) :
    Calls Try.prog f args y fun e z => e = .returned v ∧ Fs b z.heap.size P z lb db { l with d := d' } ∧ Below b y z ∧ ∀ k, P k → z.heap[k]? = y.heap[k]? := by
  obtain ⟨H, L, hH⟩ := h.ex
  refine (hc H L.disk).mono ?_
  rintro e z ⟨rfl, D, T⟩
  have hsz := T.size
  have hlb : lb < y.heap.size := Nat.lt_of_lt_of_le h.hi h.top
  have hbb : b ≤ y.heap.size := by have := h.lo; omega
  have L2 : PL z (fun k => H k ∨ y.heap.size ≤ k) lb db { l with d := d' } :=
    ⟨L.log.of_heap (T.block lb hlb L.out), fun hh => hh.elim L.out (fun h1 => by omega), D, by show 42 ≤ d'.S.length; rw [hs]; exact L.fit⟩
  refine ⟨rfl, ⟨⟨_, L2.bound, fun k hk => ?_⟩, h.lo, by omega, Nat.le_refl _, h.no, fun k hk => Nat.lt_of_lt_of_le (h.old k hk) hsz⟩, T.below hbb (fun k hk => (hH k hk).1), fun k hk => T.block k (h.old k hk) (fun hh => (hH k hh).2.1 hk)⟩
  rcases hk.1 with h1 | h1
  · exact ⟨(hH k h1).1, (hH k h1).2.1, hk.2⟩
  · exact ⟨by omega, fun hp => by have := h.old k hp; omega, hk.2⟩

theorem Fs.crash {b N : Nat} {P : Nat → Prop} {y : World} {lb db n : Nat} {S : List ByteArray} {m : Nat} {cr : Crs} (h : Fs b N P y lb db (LQ n S m cr)) (c : Crs) (hk : c.Fits) :
    Calls Try.prog 16 #[.pointer (some ⟨db, 0, none⟩), .agg #[.string c.keep, .int .i64 c.torn, .int .i64 c.bytes]] y fun e z => e = .returned (.int .i64 0) ∧ Fs b z.heap.size P z lb db ⟨n, false, ⟨S, [], 0, cr, true, m⟩⟩ ∧ Below b y z ∧ ∀ k, P k → z.heap[k]? = y.heap[k]? :=
  h.opd (d' := ⟨S, [], 0, cr, true, m⟩) rfl (fun H D => dcrash_any D c hk)

theorem Fs.revive {b N : Nat} {P : Nat → Prop} {y : World} {lb db n : Nat} {S : List ByteArray} {m : Nat} {cr : Crs} {e : Bool} (h : Fs b N P y lb db ⟨n, e, ⟨S, [], 0, cr, true, m⟩⟩) :
    Calls Try.prog 18 #[.pointer (some ⟨db, 0, none⟩)] y fun q z => q = .returned (.tuple #[]) ∧ Fs b z.heap.size P z lb db ⟨n, e, Q S m cr⟩ ∧ Below b y z ∧ ∀ k, P k → z.heap[k]? = y.heap[k]? :=
  h.opd (d' := Q S m cr) rfl (fun H D => drevive_any D)

theorem Fs.readDead {b N : Nat} {P : Nat → Prop} {y : World} {lb db n : Nat} {S : List ByteArray} {m : Nat} {cr : Crs} (hl : 42 ≤ S.length) (h : Fs b N P y lb db ⟨n, false, ⟨S, [], 0, cr, true, m⟩⟩) :
    Calls Try.prog 12 #[.pointer (some ⟨lb, 0, none⟩), .int .i64 0] y fun e z => e = .returned (.tuple #[.string ByteArray.empty, .int .i64 2]) ∧ Fs b N P z lb db ⟨n, true, ⟨S, [], 0, cr, true, m⟩⟩ ∧ Below b y z ∧ ∀ k, k < y.heap.size → k ≠ lb → z.heap[k]? = y.heap[k]? := by
  have h0 : ¬ ((0 : Int) < 0 ∨ (⟨n, false, ⟨S, [], 0, cr, true, m⟩⟩ : Lg).d.own ≤ 0) := by
    show ¬ (_ ∨ (S.length : Int) - 34 ≤ 0)
    omega
  have e1 : (⟨n, false, ⟨S, [], 0, cr, true, m⟩⟩ : Lg).tolP 0 = ByteArray.empty := by unfold Lg.tolP; rw [if_neg h0]; rfl
  have e2 : (⟨n, false, ⟨S, [], 0, cr, true, m⟩⟩ : Lg).errP 0 = 2 := by unfold Lg.errP; rw [if_neg h0]; rfl
  have e3 : (⟨n, false, ⟨S, [], 0, cr, true, m⟩⟩ : Lg).redP 0 = ⟨n, true, ⟨S, [], 0, cr, true, m⟩⟩ := by unfold Lg.redP; rw [if_neg h0]; rfl
  have hr := h.read 0
  rw [e1, e2, e3] at hr
  exact hr

theorem Fs.commitDead {b N : Nat} {P : Nat → Prop} {y : World} {lb db n : Nat} {S : List ByteArray} {m : Nat} {cr : Crs} (h : Fs b N P y lb db ⟨n, true, Q S m cr⟩) (hn : n < 4294967295) (hm : m + 100 < 1000000) :
    Calls Try.prog 9 #[.pointer (some ⟨lb, 0, none⟩), .slice none 0 0] y fun e z => e = .returned (.int .i64 2) ∧ Fs b z.heap.size P z lb db ⟨n, true, Q S m cr⟩ ∧ Below b y z ∧ ∀ k, P k → z.heap[k]? = y.heap[k]? := by
  have hr : (⟨n, true, Q S m cr⟩ : Lg).refuse [] = 2 := by
    unfold Lg.refuse
    rw [if_neg (by show ¬ (16 < 0 ∨ 4294967295 ≤ n); omega)]
    rfl
  obtain ⟨e1, e2⟩ := commit_no (l := ⟨n, true, Q S m cr⟩) (c := []) (by rw [hr]; decide)
  have hc := h.commit (v := .slice none 0 0) (c := []) (G := fun _ => True) (CW.nil _ _) (fun _ _ _ => trivial) (by show n < _; omega) hm (by show 0 + 100 < 1000; decide)
  rw [e1, e2, hr] at hc
  exact hc

end Go.Proofs.Ytgffhnggocbjhaa
