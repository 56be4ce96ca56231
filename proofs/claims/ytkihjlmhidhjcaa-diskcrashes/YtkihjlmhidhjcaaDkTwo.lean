/- Layer 18: the program's disk and the document's, side by side. -/
import Derived.Test.YtkihjlmhidhjcaaDkFixed
import Derived.Test.YtkihjlmhidhjcaaDkOpen
namespace Go.Proofs.Ytkihjlmhidhjcaa
open Go.RowKit
set_option linter.unusedVariables false
set_option maxRecDepth 100000
set_option linter.unusedSimpArgs false

/-- A disk of the program in blocks of its own (none below B, all there are). -/
def POwn (B : Nat) (F : Nat → Prop) (y : World) (db : Nat) (d : Dk) : Prop := PD y F db d ∧ ∀ k, F k → B ≤ k ∧ k < y.heap.size
/-- The document's. -/
def ROwn (B : Nat) (G : Nat → Prop) (y : World) (rb : Nat) (d : Dk) : Prop := (∃ lv lw, RD y G rb lv lw d) ∧ ∀ k, G k → B ≤ k ∧ k < y.heap.size

theorem POwn.on {B : Nat} {F : Nat → Prop} {y x : World} {db : Nat} {d : Dk} (h : POwn B F y db d) (hb : Below y.heap.size y x) : POwn B F x db d := ⟨h.1.on hb, fun k hk => ⟨(h.2 k hk).1, Nat.lt_of_lt_of_le (h.2 k hk).2 hb.size⟩⟩
theorem ROwn.on {B : Nat} {F : Nat → Prop} {y x : World} {db : Nat} {d : Dk} (h : ROwn B F y db d) (hb : Below y.heap.size y x) : ROwn B F x db d := by
  obtain ⟨⟨lv, lw, R⟩, h2⟩ := h
  exact ⟨⟨lv, lw, R.on hb⟩, fun k hk => ⟨(h2 k hk).1, Nat.lt_of_lt_of_le (h2 k hk).2 hb.size⟩⟩
theorem POwn.far {B : Nat} {F G : Nat → Prop} {y x : World} {db : Nat} {d : Dk} (h : POwn B F y db d) (T : Turn G y x) (hF : ∀ k, F k → ¬ G k) : POwn B F x db d :=
  ⟨h.1.keep fun k hk hl => T.block k hl (hF k hk), fun k hk => ⟨(h.2 k hk).1, Nat.lt_of_lt_of_le (h.2 k hk).2 T.size⟩⟩
theorem ROwn.far {B : Nat} {F G : Nat → Prop} {y x : World} {db : Nat} {d : Dk} (h : ROwn B F y db d) (T : Turn G y x) (hF : ∀ k, F k → ¬ G k) : ROwn B F x db d := by
  obtain ⟨⟨lv, lw, R⟩, h2⟩ := h
  exact ⟨⟨lv, lw, R.keep fun k hk hl => T.block k hl (hF k hk)⟩, fun k hk => ⟨(h2 k hk).1, Nat.lt_of_lt_of_le (h2 k hk).2 T.size⟩⟩
/-- Behind a call on it: its blocks, and new ones. -/
def more (F : Nat → Prop) (y x : World) : Nat → Prop := fun k => (F k ∨ y.heap.size ≤ k) ∧ k < x.heap.size
theorem POwn.turn {B : Nat} {F : Nat → Prop} {y x : World} {db : Nat} {d t : Dk} (h : POwn B F y db d) (hB : B ≤ y.heap.size) (D : PD x (fun k => F k ∨ y.heap.size ≤ k) db t) : POwn B (more F y x) x db t :=
  ⟨D.mono fun k hk hl => ⟨hk, hl⟩, fun k hk => ⟨by
    rcases hk.1 with h' | h'
    · exact (h.2 k h').1
    · omega, hk.2⟩⟩
theorem ROwn.turn {B : Nat} {F : Nat → Prop} {y x : World} {db : Nat} {d t : Dk} (h : ROwn B F y db d) (hB : B ≤ y.heap.size) {lv lw : Value} (D : RD x (fun k => F k ∨ y.heap.size ≤ k) db lv lw t) : ROwn B (more F y x) x db t :=
  ⟨⟨lv, lw, D.mono fun k hk hl => ⟨hk, hl⟩⟩, fun k hk => ⟨by
    rcases hk.1 with h' | h'
    · exact (h.2 k h').1
    · omega, hk.2⟩⟩
theorem more_apart {B : Nat} {F G : Nat → Prop} {y x : World} (h : ∀ k, F k → ¬ G k) (hG : ∀ k, G k → k < y.heap.size) : ∀ k, more F y x k → ¬ G k := fun k hk hg => by
  rcases hk.1 with h' | h'
  · exact h k h' hg
  · have := hG k hg; omega

/-- The program's disk in the state d and the document's in the state e; blocks X are of neither. -/
structure Two (B : Nat) (X : Nat → Prop) (y : World) (db rb : Nat) (d e : Dk) : Prop where
  ex : ∃ F G, POwn B F y db d ∧ ROwn B G y rb e ∧ (∀ k, F k → ¬ G k) ∧ ∀ k, X k → k < y.heap.size ∧ ¬ F k ∧ ¬ G k

/-- What a call leaves as it was. -/
structure Keep (B : Nat) (X : Nat → Prop) (y x : World) : Prop where
  b : Below B y x
  x : ∀ k, X k → k < y.heap.size → x.heap[k]? = y.heap[k]?

theorem Keep.refl (B : Nat) (X : Nat → Prop) (y : World) : Keep B X y y := ⟨Below.refl _ _, fun _ _ _ => rfl⟩
theorem Keep.trans {B : Nat} {X : Nat → Prop} {a b c : World} (h : Keep B X a b) (k : Keep B X b c) : Keep B X a c :=
  ⟨h.b.trans k.b, fun j hj hl => (k.x j hj (Nat.lt_of_lt_of_le hl h.b.size)).trans (h.x j hj hl)⟩
theorem Keep.of {B : Nat} {X : Nat → Prop} {y x : World} (hB : B ≤ y.heap.size) (h : Below y.heap.size y x) : Keep B X y x := ⟨h.mono hB, fun k _ hl => h.block k hl⟩

theorem Two.on {B : Nat} {X : Nat → Prop} {y x : World} {db rb : Nat} {d e : Dk} (h : Two B X y db rb d e) (hb : Below y.heap.size y x) : Two B X x db rb d e := by
  obtain ⟨F, G, h1, h2, h3, h4⟩ := h.ex
  exact ⟨F, G, h1.on hb, h2.on hb, h3, fun k hk => ⟨Nat.lt_of_lt_of_le (h4 k hk).1 hb.size, (h4 k hk).2⟩⟩
theorem Two.goodP {B : Nat} {X : Nat → Prop} {y : World} {db rb : Nat} {d e : Dk} (h : Two B X y db rb d e) : d.Good ∧ d.L.length ≤ 1000 ∧ d.m ≤ 1000000 := by
  obtain ⟨F, G, h1, h2, h3⟩ := h.ex
  exact h1.1.good
theorem Two.less {B : Nat} {X Y : Nat → Prop} {y : World} {db rb : Nat} {d e : Dk} (h : Two B X y db rb d e) (hY : ∀ k, Y k → X k) : Two B Y y db rb d e := by
  obtain ⟨F, G, h1, h2, h3, h4⟩ := h.ex
  exact ⟨F, G, h1, h2, h3, fun k hk => h4 k (hY k hk)⟩
/-- A block that is made is of neither. -/
theorem Two.made {B : Nat} {y : World} {db rb : Nat} {d e : Dk} (h : Two B (fun _ => False) y db rb d e) (o : Obj) : Two B (fun k => k = y.heap.size) (y.alloc o) db rb d e := by
  obtain ⟨F, G, h1, h2, h3, h4⟩ := h.ex
  refine ⟨F, G, h1.on (grow _ _), h2.on (grow _ _), h3, fun k hk => ⟨by simp; omega, fun hf => ?_, fun hg => ?_⟩⟩
  · have := (h1.2 k hf).2; omega
  · have := (h2.2 k hg).2; omega

/-- A call on the program's disk; on the document's; calls that only look. -/
theorem two_p {B : Nat} {X : Nat → Prop} {y : World} {db rb f : Nat} {args : Array Value} {r : Value} {d e t : Dk} (h : Two B X y db rb d e) (hB : B ≤ y.heap.size)
    (hc : ∀ F, PD y F db d → Calls Try.prog f args y fun q x => q = .returned r ∧ PD x (fun k => F k ∨ y.heap.size ≤ k) db t ∧ Turn F y x) :
    Calls Try.prog f args y fun q x => q = .returned r ∧ Two B X x db rb t e ∧ Keep B X y x := by
  obtain ⟨F, G, h1, h2, h3, h4⟩ := h.ex
  refine (hc F h1.1).mono ?_
  rintro q x ⟨rfl, D, T⟩
  refine ⟨rfl, ⟨more F y x, G, h1.turn hB D, h2.far T fun k hk hf => h3 k hf hk, more_apart (B := B) h3 fun k hk => (h2.2 k hk).2, fun k hk => ⟨Nat.lt_of_lt_of_le (h4 k hk).1 T.size, fun hf => ?_, (h4 k hk).2.2⟩⟩,
    T.below hB fun k hk => (h1.2 k hk).1, fun k hk hl => T.block k hl (h4 k hk).2.1⟩
  rcases hf.1 with h' | h'
  · exact (h4 k hk).2.1 h'
  · have := (h4 k hk).1; omega
theorem two_r {B : Nat} {X : Nat → Prop} {y : World} {db rb f : Nat} {args : Array Value} {r : Value} {d e t : Dk} (h : Two B X y db rb d e) (hB : B ≤ y.heap.size)
    (hc : ∀ G lv lw, RD y G rb lv lw e → Calls Try.prog f args y fun q x => q = .returned r ∧ (∃ lv' lw', RD x (fun k => G k ∨ y.heap.size ≤ k) rb lv' lw' t) ∧ Turn (fun k => k = rb) y x) :
    Calls Try.prog f args y fun q x => q = .returned r ∧ Two B X x db rb d t ∧ Keep B X y x := by
  obtain ⟨F, G, h1, ⟨⟨lv, lw, R⟩, h2⟩, h3, h4⟩ := h.ex
  refine (hc G lv lw R).mono ?_
  rintro q x ⟨rfl, ⟨lv', lw', R'⟩, T0⟩
  have T : Turn G y x := T0.mono fun b _ e => e ▸ R.h
  refine ⟨rfl, ⟨F, more G y x, h1.far T h3, ROwn.turn ⟨⟨lv, lw, R⟩, h2⟩ hB R', fun k hf hg => more_apart (B := B) (x := x) (fun k hk hf => h3 k hf hk) (fun k hk => (h1.2 k hk).2) k hg hf, fun k hk => ⟨Nat.lt_of_lt_of_le (h4 k hk).1 T.size, (h4 k hk).2.1, fun hg => ?_⟩⟩,
    T.below hB fun k hk => (h2 k hk).1, fun k hk hl => T.block k hl (h4 k hk).2.2⟩
  rcases hg.1 with h' | h'
  · exact (h4 k hk).2.2 h'
  · have := (h4 k hk).1; omega
theorem two_lp {B : Nat} {X : Nat → Prop} {y : World} {db rb f : Nat} {args : Array Value} {r : Value} {d e : Dk} (h : Two B X y db rb d e) (hB : B ≤ y.heap.size)
    (hc : ∀ F, PD y F db d → Calls Try.prog f args y fun q x => q = .returned r ∧ Below y.heap.size y x) :
    Calls Try.prog f args y fun q x => q = .returned r ∧ Two B X x db rb d e ∧ Keep B X y x := by
  obtain ⟨F, G, h1, -⟩ := h.ex
  refine (hc F h1.1).mono ?_
  rintro q x ⟨rfl, hb⟩
  exact ⟨rfl, h.on hb, Keep.of hB hb⟩
theorem two_lr {B : Nat} {X : Nat → Prop} {y : World} {db rb f : Nat} {args : Array Value} {r : Value} {d e : Dk} (h : Two B X y db rb d e) (hB : B ≤ y.heap.size)
    (hc : ∀ G lv lw, RD y G rb lv lw e → Calls Try.prog f args y fun q x => q = .returned r ∧ Below y.heap.size y x) :
    Calls Try.prog f args y fun q x => q = .returned r ∧ Two B X x db rb d e ∧ Keep B X y x := by
  obtain ⟨F, G, h1, ⟨⟨lv, lw, R⟩, h2⟩, -⟩ := h.ex
  refine (hc G lv lw R).mono ?_
  rintro q x ⟨rfl, hb⟩
  exact ⟨rfl, h.on hb, Keep.of hB hb⟩

set_option maxHeartbeats 4000000 in
theorem laid_any (n : Int) (w : World) :
    Calls Try.prog 17 #[.int .i64 n] w fun e y => ∃ db rb, e = .returned (.tuple #[.pointer (some ⟨db, 0, none⟩), .pointer (some ⟨rb, 0, none⟩)]) ∧ Two w.heap.size (fun _ => False) y db rb (newD (max 1 (min n 40)).toNat) (newD (max 1 (min n 40)).toNat) ∧ Below w.heap.size w y := by
  obtain ⟨m, hm⟩ : ∃ m, m = (max 1 (min n 40)).toNat := ⟨_, rfl⟩
  have h1 : 1 ≤ m := by omega
  have h2 : m ≤ 40 := by omega
  have hmi : max 1 (min n 40) = (m : Int) := by omega
  rw [← hm]
  have c1 := dnew_any m h1 (by omega) w
  have c2 := rnew_any m h1 (by omega)
  replace hm := hide hm
  go_enter Try.func17, Try.ntmps17
  go_wp2_with fail
  refine c1.mono ?_
  rintro e y ⟨db, rfl, D, hb⟩
  replace D := hide D
  replace hb := hide hb
  clear c1
  go_wp2_with fail
  refine (c2 _).mono ?_
  rintro e x ⟨rb, lv, lw, rfl, R, hx⟩
  have hsz := hb.out.size
  have fin : Hid (Two w.heap.size (fun _ => False) x db rb (newD m) (newD m)) := hide ⟨fun k => w.heap.size ≤ k ∧ k < y.heap.size, fun k => y.heap.size ≤ k ∧ k < x.heap.size,
    ⟨(D.out.mono fun k h hl => ⟨h, hl⟩).on hx, fun k hk => ⟨hk.1, Nat.lt_of_lt_of_le hk.2 hx.size⟩⟩, ⟨⟨lv, lw, R.mono fun k h hl => ⟨h, hl⟩⟩, fun k hk => ⟨by omega, hk.2⟩⟩, fun k h1 h2 => by omega, fun k hk => hk.elim⟩
  replace hb := hide (onto hb.out (Nat.le_refl _) hx)
  clear R hx D c2 hsz
  go_wp2
  go_ret2
  exact ⟨_, _, rfl, fin.out, hb.out⟩

/-- What a call of a script makes of a disk. -/
def Dc.step (o : Dc) (d : Dk) : Dk :=
  if o.k = 1 then d.wrote o.n (secT o.f.toNat o.m) else if o.k = 2 then d.flush else if o.k = 3 then d.armed o.n o.c else if o.k = 4 then d.crash o.c else if o.k = 5 then d.revived else d

end Go.Proofs.Ytkihjlmhidhjcaa
