/- Layer 19: the program's log: a head is read. -/
import Derived.Test.YtgffhnggocbjhaaQWpG
import Derived.Test.YtgffhnggocbjhaaQHeldOff
namespace Go.Proofs.Ytgffhnggocbjhaa
open Go.RowKit
set_option linter.unusedVariables false
set_option maxRecDepth 100000
set_option linter.unusedSimpArgs false

def none3 : Array Value := #[.int .i64 0, .slice none 0 0, .int .u16 0]

/-- The call's blocks ahead of the head: the bytes, the answer, the place. -/
structure Way0 (w x : World) (s : ByteArray) (k : Nat) : Prop where
  took : Took x w.heap.size (w.heap.size + 1 + 1) s k
  out : Box x (w.heap.size + 1) none3
  below : Below w.heap.size w x

theorem Way0.start (w : World) (s : ByteArray) (t : TypeId) : Way0 w (((w.alloc (.cells #[.string s] 9)).alloc (.cells none3 t)).alloc (.cells #[.int .i64 2] 3)) s 2 := by
  have B0 := Box.new w #[.string s] 9
  have g0 := grow w (.cells #[.string s] 9)
  have h0 : (w.alloc (.cells #[.string s] 9)).heap.size = w.heap.size + 1 := by simp
  generalize w.alloc (.cells #[.string s] 9) = x0 at *
  have B1 := Box.new x0 none3 t
  have g1 := grow x0 (.cells none3 t)
  have h1 : (x0.alloc (.cells none3 t)).heap.size = w.heap.size + 1 + 1 := by simp [h0]
  generalize x0.alloc (.cells none3 t) = x1 at *
  have B2 := Box.new x1 #[.int .i64 2] 3
  have g2 := grow x1 (.cells #[.int .i64 2] 3)
  rw [h0] at B1
  rw [h1] at B2
  exact ⟨⟨(B0.on g1).on g2, B2, by omega⟩, B1.on g2, onto (onto g0 (Nat.le_refl _) g1) (Nat.le_refl _) g2⟩

theorem Way0.take {w x : World} {s : ByteArray} {k : Nat} (h : Way0 w x s k) (n : Nat) (hn : n ≤ 4) (hk : k + n ≤ s.size) (hs : s.size ≤ 1000) :
    Calls Try.prog 98 #[.int .i64 (n : Int), .pointer (some ⟨w.heap.size, 0, none⟩), .pointer (some ⟨w.heap.size + 1 + 1, 0, none⟩)] x fun e w' => e = .returned (.int .i64 (nb s k n : Int)) ∧ Way0 w w' s (k + n) := by
  refine (wtake_any h.took n hn hk hs).mono ?_
  rintro e w' ⟨rfl, T, U⟩
  exact ⟨rfl, T, h.out.of_heap (U.block _ h.out.2.2 (by omega)), h.below.trans (U.below (by have := h.took.at_.2.2; omega) (fun b hb => by omega))⟩

/-- The call's blocks: the bytes, the answer, the place, the head on the way with its places. -/
structure Way (w x : World) (hb : Nat) (s : ByteArray) (k num t : Nat) (pv : Value) (ks : List Int) : Prop where
  way : Way0 w x s k
  hd : Box x hb #[.int .i64 (num : Int), pv, .int .u16 (t : Int)]
  row : x.ownsRow (hb + 1) 3 1 pv ks.length (ks.map (Value.int .i64))
  gt : w.heap.size + 1 + 1 < hb

theorem Way.on {w x y : World} {hb : Nat} {s : ByteArray} {k num t : Nat} {pv : Value} {ks : List Int} (h : Way w x hb s k num t pv ks) (b : Below x.heap.size x y) : Way w y hb s k num t pv ks :=
  ⟨⟨⟨h.way.took.box.on b, h.way.took.at_.on b, h.way.took.ne⟩, h.way.out.on b, onto h.way.below (Nat.le_refl _) b⟩, h.hd.on b, own_keep h.row (fun g _ hg => b.block g hg), h.gt⟩

theorem Way.take {w x : World} {hb : Nat} {s : ByteArray} {k num t : Nat} {pv : Value} {ks : List Int} (h : Way w x hb s k num t pv ks) (n : Nat) (hn : n ≤ 4) (hk : k + n ≤ s.size) (hs : s.size ≤ 1000) :
    Calls Try.prog 98 #[.int .i64 (n : Int), .pointer (some ⟨w.heap.size, 0, none⟩), .pointer (some ⟨w.heap.size + 1 + 1, 0, none⟩)] x fun e w' => e = .returned (.int .i64 (nb s k n : Int)) ∧ Way w w' hb s (k + n) num t pv ks := by
  refine (wtake_any h.way.took n hn hk hs).mono ?_
  rintro e w' ⟨rfl, T, U⟩
  have hg := h.gt
  refine ⟨rfl, ⟨T, h.way.out.of_heap (U.block _ h.way.out.2.2 (by omega)), h.way.below.trans (U.below (by have := h.way.took.at_.2.2; omega) (fun b hb => by omega))⟩, h.hd.of_heap (U.block _ h.hd.2.2 (by omega)), own_keep h.row (fun g hg2 hl => U.block g hl (by have := (h.row.lt g hg2).1; omega)), hg⟩

/-- A field of the head, the place. -/
theorem Way.far {w x : World} {hb : Nat} {s : ByteArray} {k num t : Nat} {pv : Value} {ks : List Int} (h : Way w x hb s k num t pv ks) (j : Nat) (v : Value) (num' t' : Nat) (e : (#[.int .i64 (num : Int), pv, .int .u16 (t : Int)] : Array Value).setIfInBounds j v = #[.int .i64 (num' : Int), pv, .int .u16 (t' : Int)]) :
    Way w (x.setCell ⟨hb, j, none⟩ v) hb s k num' t' pv ks := by
  have hg := h.gt
  have ho : ∀ g, g ≠ hb → (x.setCell ⟨hb, j, none⟩ v).heap[g]? = x.heap[g]? := fun g hg => Below.heap_setCell _ _ _ g hg
  refine ⟨⟨⟨h.way.took.box.of_heap (ho _ (by omega)), h.way.took.at_.of_heap (ho _ (by omega)), h.way.took.ne⟩, h.way.out.of_heap (ho _ (by omega)), h.way.below.setCell (p := ⟨hb, j, none⟩) (by show w.heap.size ≤ hb; omega) _⟩, ?_, own_keep h.row (fun g hg2 hl => ho g (by have := (h.row.lt g hg2).1; omega)), hg⟩
  rw [← e]
  exact h.hd.set j v
theorem Way.skip {w x : World} {hb : Nat} {s : ByteArray} {k num t : Nat} {pv : Value} {ks : List Int} (h : Way w x hb s k num t pv ks) (k' : Nat) (ki : Int) (e : ki = (k' : Int)) : Way w (x.setCell ⟨w.heap.size + 1 + 1, 0, none⟩ (.int .i64 ki)) hb s k' num t pv ks := by
  subst e
  have hg := h.gt
  have ho : ∀ g, g ≠ w.heap.size + 1 + 1 → (x.setCell ⟨w.heap.size + 1 + 1, 0, none⟩ (.int .i64 (k' : Int))).heap[g]? = x.heap[g]? := fun g hg => Below.heap_setCell _ _ _ g hg
  exact ⟨⟨h.way.took.next k', h.way.out.of_heap (ho _ (by omega)), h.way.below.setCell (p := ⟨w.heap.size + 1 + 1, 0, none⟩) (by show w.heap.size ≤ w.heap.size + 1 + 1; omega) _⟩, h.hd.of_heap (ho _ (by omega)), own_keep h.row (fun g hg2 hl => ho g (by have := (h.row.lt g hg2).1; omega)), hg⟩

/-- One place more. -/
theorem Way.app {w x : World} {hb : Nat} {s : ByteArray} {k num t : Nat} {pv : Value} {ks : List Int} (h : Way w x hb s k num t pv ks) (hk : ks.length ≤ 1000) (v : Int) :
    ∃ a n c z, (Builtin.append_ #[29, 29] 29 #[pv, .slice (some ⟨x.heap.size, 0, none⟩) 1 1]).run Try.prog (x.alloc (.cells #[.int .i64 v] 3)) = .ok (.slice a n c) z ∧ Box z hb #[.int .i64 (num : Int), pv, .int .u16 (t : Int)] ∧
      Hid (Way w (z.setCell ⟨hb, 1, none⟩ (.slice a n c)) hb s k num t (.slice a n c) (ks ++ [v])) := by
  obtain ⟨i, hi, hz, hsz, hby⟩ := info_parts (show (Try.prog.info? 3).map (fun i => (i.zero, i.size, i.bytes)) = some (some (.int .i64 0), 1, 8) by kernel_rfl)
  have hg := h.gt
  have hl := h.hd.2.2
  have BL := Box.new x #[.int .i64 v] 3
  have g1 := grow x (.cells #[.int .i64 v] 3)
  have H1 := h.on g1
  have hB1 : hb + 1 ≤ (x.alloc (.cells #[.int .i64 v] 3)).heap.size := by rw [World.size_alloc]; omega
  obtain ⟨v', z, h1, h2, h3, -, h5⟩ := run_append_own_at (P := Try.prog) _ (hb + 1) 29 29 3 i _ 1 8 Try.underlying29 hi hz hsz hby rfl (by decide) pv ks.length _ H1.row ⟨x.heap.size, 0, none⟩ 1 1 [.int .i64 v] rfl (fun j u hj => by rw [Addr.add_lit, Nat.zero_add, BL.cell]; simpa using hj) (by simp [Value.oneCell']) (by unfold maxLen; omega) (by omega) hB1
  have hsh : ∃ a n c, v' = .slice a n c := by
    rcases h2.2 with ⟨e, -⟩ | ⟨g, cap, cur, e, -⟩
    · exact ⟨_, _, _, e⟩
    · exact ⟨_, _, _, e⟩
  obtain ⟨a, n, c, rfl⟩ := hsh
  have hob : ∀ g, (Value.slice a n c).ownBlock = some g → hb < g := fun g e => by have := (h2.lt g e).1; omega
  have hpv : ∀ g, pv.ownBlock = some g → hb < g := fun g e => by have := (h.row.lt g e).1; omega
  have o1 : ∀ g, g < x.heap.size → g ≤ hb → z.heap[g]? = (x.alloc (.cells #[.int .i64 v] 3)).heap[g]? := fun g hg2 hle => h3.block g (Nat.lt_of_lt_of_le hg2 g1.size) (fun e => by have := hpv g e.symm; omega)
  have ho : ∀ g, g ≠ hb → (z.setCell ⟨hb, 1, none⟩ (.slice a n c)).heap[g]? = z.heap[g]? := fun g hg => Below.heap_setCell _ _ _ g hg
  have Bz : Box z hb #[.int .i64 (num : Int), pv, .int .u16 (t : Int)] := H1.hd.of_heap (o1 hb hl (Nat.le_refl _))
  have a1 := h.way.took.box.2.2
  have a2 := h.way.took.at_.2.2
  have a3 := h.way.out.2.2
  have T1 := H1.way.took.box.of_heap (o1 _ a1 (by omega))
  have T2 := H1.way.took.at_.of_heap (o1 _ a2 (by omega))
  have T3 := H1.way.out.of_heap (o1 _ a3 (by omega))
  have gz : Below w.heap.size w z := H1.way.below.grown h3 (by omega) (fun j hj => by have := hpv j hj; omega)
  refine ⟨a, n, c, z, h1, Bz, hide ⟨⟨⟨T1.of_heap (ho _ (by omega)), T2.of_heap (ho _ (by omega)), h.way.took.ne⟩, T3.of_heap (ho _ (by omega)), gz.setCell (p := ⟨hb, 1, none⟩) (by show w.heap.size ≤ hb; omega) _⟩, ?_, ?_, hg⟩⟩
  · have := Bz.set 1 (.slice a n c)
    exact this
  · rw [List.length_append, List.map_append]
    exact own_keep h2 (fun g hg2 hl => ho g (by have := hob g hg2; omega))

/-- What the program's head says of bytes. -/
def parB (own : Int) (s : ByteArray) (place : Nat) : Bool := decide (numH s % 2 = place) && (decide (cntH s ≤ 16) && (riseK own (ksH s) (cntH s) && decide (headT (numH s) (ksH s) (tH s) = s)))

theorem Way.start {w x1 : World} {s : ByteArray} {k : Nat} (h : Way0 w x1 s k) (num : Nat) (t : TypeId) : Way w (x1.alloc (.cells #[.int .i64 (num : Int), .slice none 0 0, .int .u16 0] t)) x1.heap.size s k num 0 (.slice none 0 0) [] := by
  have g := grow x1 (.cells #[.int .i64 (num : Int), .slice none 0 0, .int .u16 0] t)
  exact ⟨⟨⟨h.took.box.on g, h.took.at_.on g, h.took.ne⟩, h.out.on g, onto h.below (Nat.le_refl _) g⟩, Box.new _ _ _, World.ownsRow_nil _ _ _ _, h.took.at_.2.2⟩
theorem IW.of_own {w : World} {B : Nat} {v : Value} {ks : List Int} (O : w.ownsRow B 3 1 v ks.length (ks.map (Value.int .i64))) (hm : ks.length ≤ 1000000) (H : Nat → Prop) (hH : ∀ g, H g → g < B) : IW w H v ks := by
  rcases O.2 with ⟨rfl, h0⟩ | ⟨g, cap, cur, rfl, hb, hg, hcap, -⟩
  · exact ⟨none, 0, by rw [h0], by omega, hm, fun k p hp => (by rw [List.getElem?_eq_none (by omega)] at hp; cases hp)⟩
  · refine ⟨some ⟨g, 0, none⟩, cap, rfl, hcap, hm, fun k p hp => ⟨g, rfl, (Array.getElem?_eq_some_iff.1 hg).1, fun h => by have := hH g h; omega, ?_⟩⟩
    have := O.cells (g := g) rfl k _ (by rw [List.getElem?_map, hp]; rfl)
    rwa [Addr.add_lit, Nat.zero_add] at this

theorem parB_side {own : Int} {s : ByteArray} {place : Nat} (h : ¬ numH s % 2 = place) : parB own s place = false := by unfold parB; rw [decide_eq_false h]; rfl
theorem parB_many {own : Int} {s : ByteArray} {place : Nat} (h : ¬ cntH s ≤ 16) : parB own s place = false := by unfold parB; rw [decide_eq_false h]; simp
theorem parB_rest {own : Int} {s : ByteArray} {place : Nat} (h : numH s % 2 = place) (h2 : cntH s ≤ 16) : parB own s place = (riseK own (ksH s) (cntH s) && decide (headT (numH s) (ksH s) (tH s) = s)) := by
  unfold parB; rw [decide_eq_true h, decide_eq_true h2]; rfl

/-- How the program's parse ends. -/
structure Par (w w' : World) (s : ByteArray) (P : Bool) (num t : Nat) (v : Value) (ks : List Int) : Prop where
  row : IW w' (fun k => k < w.heap.size) v ks
  far : Below w.heap.size w w'
  is : P = true → num = numH s ∧ t = tH s ∧ ks = ksH s

theorem Way0.bad {w x : World} {s : ByteArray} {k : Nat} (h : Way0 w x s k) : ∃ y, y = ((x.setCell ⟨w.heap.size + 1, 0, none⟩ (.int .i64 0)).setCell ⟨w.heap.size + 1, 1, none⟩ (.slice none 0 0)).setCell ⟨w.heap.size + 1, 2, none⟩ (.int .u16 0) ∧ Box y (w.heap.size + 1) none3 ∧ Below w.heap.size w y := by
  refine ⟨_, rfl, ?_, ?_⟩
  · exact ((h.out.set 0 (.int .i64 0)).set 1 (.slice none 0 0)).set 2 (.int .u16 0)
  · exact ((h.below.setCell (p := ⟨w.heap.size + 1, 0, none⟩) (Nat.le_succ _) _).setCell (p := ⟨w.heap.size + 1, 1, none⟩) (Nat.le_succ _) _).setCell (p := ⟨w.heap.size + 1, 2, none⟩) (Nat.le_succ _) _

theorem Way.good {w x : World} {hb : Nat} {s : ByteArray} {k num t : Nat} {pv : Value} {ks : List Int} (h : Way w x hb s k num t pv ks) (hm : ks.length ≤ 1000000) :
    ∃ y, y = ((x.setCell ⟨w.heap.size + 1, 0, none⟩ (.int .i64 (num : Int))).setCell ⟨w.heap.size + 1, 1, none⟩ pv).setCell ⟨w.heap.size + 1, 2, none⟩ (.int .u16 (t : Int)) ∧ Box y (w.heap.size + 1) #[.int .i64 (num : Int), pv, .int .u16 (t : Int)] ∧ Below w.heap.size w y ∧ IW y (fun k => k < w.heap.size) pv ks := by
  have hg := h.gt
  refine ⟨_, rfl, ?_, ?_, ?_⟩
  · exact ((h.way.out.set 0 _).set 1 _).set 2 _
  · exact ((h.way.below.setCell (p := ⟨w.heap.size + 1, 0, none⟩) (Nat.le_succ _) _).setCell (p := ⟨w.heap.size + 1, 1, none⟩) (Nat.le_succ _) _).setCell (p := ⟨w.heap.size + 1, 2, none⟩) (Nat.le_succ _) _
  · refine IW.of_own (B := hb + 1) (own_keep h.row (fun g hg2 hl => ?_)) hm _ (fun g h => by omega)
    have hne : g ≠ w.heap.size + 1 := by have := (h.row.lt g hg2).1; omega
    exact (Below.heap_setCell _ ⟨w.heap.size + 1, 2, none⟩ _ g hne).trans ((Below.heap_setCell _ ⟨w.heap.size + 1, 1, none⟩ _ g hne).trans (Below.heap_setCell _ ⟨w.heap.size + 1, 0, none⟩ _ g hne))

theorem Way0.outs {w x : World} {s : ByteArray} {k : Nat} (h : Way0 w x s k) :
    x.cell? ⟨w.heap.size + 1, 0, none⟩ = some (.int .i64 0) ∧ x.cell? ⟨w.heap.size + 1, 1, none⟩ = some (.slice none 0 0) ∧ x.cell? ⟨w.heap.size + 1, 2, none⟩ = some (.int .u16 0) ∧
    x.frozen? ⟨w.heap.size + 1, 0, none⟩ = false ∧ x.frozen? ⟨w.heap.size + 1, 1, none⟩ = false ∧ x.frozen? ⟨w.heap.size + 1, 2, none⟩ = false :=
  ⟨h.out.cell 0, h.out.cell 1, h.out.cell 2, h.out.free 0, h.out.free 1, h.out.free 2⟩
theorem IW.none (w : World) (H : Nat → Prop) : IW w H (.slice none 0 0) [] := ⟨_, 0, rfl, Nat.le_refl _, by decide, fun k x hx => by simp at hx⟩
theorem ksH_len (s : ByteArray) : (ksH s).length = cntH s := by simp [ksH]
theorem ksH_take {s : ByteArray} {k : Nat} (h : k < cntH s) : (ksH s).take (k + 1) = (ksH s).take k ++ [((nb s (7 + 2 * k) 2 : Nat) : Int)] := take_map_range _ h

set_option maxHeartbeats 1000000 in
theorem wparse_any (s : ByteArray) (hs : s.size = 64) (place : Nat) (hp : place < 2) (own : Int) (w : World) :
    Calls Try.prog 88 #[.string s, .int .i64 (place : Int), .int .i64 own] w fun e w' => ∃ num t v ks, e = .returned (.tuple #[headV num v t, .bool (parB own s place)]) ∧ Par w w' s (parB own s place) num t v ks := by
  have W0 := Way0.start w s 77
  unfold none3 at W0
  obtain ⟨P, hP⟩ : ∃ P, Hid (P = parB own s place) := ⟨_, hide rfl⟩
  rw [← hP.out]
  go_enter Try.func88, Try.ntmps88
  go_wp2_with fail
  generalize ((w.alloc (.cells #[.string s] 9)).alloc (.cells #[.int .i64 0, .slice none 0 0, .int .u16 0] 77)).alloc (.cells #[.int .i64 2] 3) = x0 at *
  refine (W0.take 4 (by decide) (by omega) (by omega)).mono ?_
  rintro e x1 ⟨rfl, W1⟩
  clear W0
  obtain ⟨num, hnum⟩ : ∃ num, num = nb s 2 4 := ⟨_, rfl⟩
  have hnum4 : num < 4294967296 := by rw [hnum]; exact nb_lt s 2 4
  rw [← hnum]
  replace hnum : Hid (num = numH s) := hide hnum
  have W2 := Way.start W1 num 77
  clear W1
  go_wp2_with fail
  generalize x1.alloc (.cells #[.int .i64 (num : Int), .slice none 0 0, .int .u16 0] 77) = x2 at *
  generalize x1.heap.size = hb at *
  refine (W2.take 1 (by decide) (by omega) (by omega)).mono ?_
  rintro e x3 ⟨rfl, W3⟩
  clear W2
  obtain ⟨cnt, hcnt⟩ : ∃ c, c = nb s (2 + 4) 1 := ⟨_, rfl⟩
  have hcnt2 : cnt < 256 := by rw [hcnt]; exact nb_lt s _ 1
  rw [← hcnt]
  replace hcnt : Hid (cnt = cntH s) := hide (by rw [hcnt]; simp [nb, cntH])
  have c0 := W3.hd.cell 0
  have c1 := W3.hd.cell 1
  have c2 := W3.hd.cell 2
  have cs := wside_any num (.slice none 0 0) 0 x3
  unfold headV at cs
  go_wp2_with fail
  refine cs.mono ?_
  rintro e x4 ⟨rfl, hb4⟩
  have W4 := hide (W3.on hb4)
  clear cs hb4 W3 c0 c1 c2
  by_cases hside : num % 2 = place
  · have hsi : ((num % 2 : Nat) : Int) = (place : Int) := by rw [hside]
    by_cases hmany : cnt ≤ 16
    · have hPr := parB_rest (own := own) (hnum.out ▸ hside) (hcnt.out ▸ hmany)
      go_wp2_with fail
      go_loopw [28] (fun i y => ∃ (k : Nat) (a : Option Addr) (l c : Nat), k ≤ cnt ∧ i = .int .i64 (k : Int) ∧ Hid (Way w y hb s (7 + 2 * k) num 0 (.slice a l c) ((ksH s).take k))) (fun i _ => cnt - (intOf i).toNat)
      case atStart => exact ⟨0, _, _, _, Nat.zero_le _, rfl, W4⟩
      case round =>
        clear W4
        obtain ⟨k, a, l, c, hkc, rfl, W⟩ := hrel
        by_cases h : k < cnt
        · have hkl : ((ksH s).take k).length ≤ 1000 := by rw [List.length_take]; omega
          have htk := hide (ksH_take (s := s) (k := k) (by rw [← hcnt.out]; exact h))
          have W0 := W.out.on (Below.refl wr.heap.size wr).drew
          have ct := fun (y : World) (Wy : Way w y hb s (7 + 2 * k) num 0 (.slice a l c) ((ksH s).take k)) => Wy.take 2 (by decide) (by omega) (by omega)
          have ca := fun (y : World) (Wy : Way w y hb s (7 + 2 * k + 2) num 0 (.slice a l c) ((ksH s).take k)) => Wy.app hkl ((nb s (7 + 2 * k) 2 : Nat) : Int)
          rw [← htk.out] at ca
          obtain ⟨x, hx⟩ : ∃ x, x = nb s (7 + 2 * k) 2 := ⟨_, rfl⟩
          rw [← hx] at ct ca
          generalize (ksH s).take k = K0 at *
          obtain ⟨K1, hK1⟩ : ∃ K1, K1 = (ksH s).take (k + 1) := ⟨_, rfl⟩
          rw [← hK1] at ca
          replace hK1 := hide hK1
          replace ct := hide ct
          replace ca := hide ca
          clear W hx hkl htk hPr
          go_wp2_with fail
          refine zir [7] (fun y => Box y hb #[.int .i64 (num : Int), .slice a l c, .int .u16 ((0 : Nat) : Int)]) (by kernel_rfl) W0.hd (fun hHeld => ?_)
          generalize wr.drew = y1 at *
          refine zit 0 ?_ rfl (by kernel_rfl) (fun _ _ _ h => h) (by rfl) (by assumption) ?_ ?_
          rotate_left
          · intro y hSw
            have e1 := hSw.cell 1
            go_simp
            try with_reducible rfl
          try simp only [Act.put, zpa, zpb, zpc]
          refine zit 1 ?_ rfl (by kernel_rfl) (fun _ _ _ h => h) (by rfl) (by assumption) ?_ ?_
          rotate_left
          · intro y hSw
            have e1 := hSw.cell 1
            go_simp
            try with_reducible rfl
          try simp only [Act.put, zpa, zpb, zpc]
          refine zit 2 ?_ rfl (by kernel_rfl) (fun _ _ _ h => h) (by rfl) (by assumption) ?_ ?_
          rotate_left
          · intro y hSw
            have e1 := hSw.cell 1
            go_simp
            try with_reducible rfl
          try simp only [Act.put, zpa, zpb, zpc]
          refine zib 3 rfl (by kernel_rfl) (fun K hK => ?_)
          go_simp
          refine (ct.out _ W0).mono ?_
          rintro q y2 ⟨rfl, W2⟩
          clear ct W0 hHeld
          go_wp2_with fail
          refine hK.out _ _ (W2.hd) (fun hHeld => ?_)
          clear hK K
          try simp only [Act.put, zpa, zpb, zpc]
          refine zib 4 rfl (by kernel_rfl) (fun K hK => ?_)
          obtain ⟨a2, l2, c2, z, hap, Bz, Wz⟩ := ca.out y2 W2
          have A3 := grow y2 (.cells #[.int .i64 (x : Int)] 3)
          go_simp
          refine hK.out _ _ (hHeld.on A3) (fun hHeld => ?_)
          clear hK K
          try simp only [Act.put, zpa, zpb, zpc]
          refine zib 5 rfl (by kernel_rfl) (fun K hK => ?_)
          refine step_append_told' rfl (.tmp 31) (.tmp 34) 29 rfl (.slice a l c) (.slice (some ⟨y2.heap.size, 0, none⟩) 1 1) _ rfl rfl hap ?_
          refine hK.out _ _ (Bz) (fun hHeld => ?_)
          clear hK K
          try simp only [Act.put, zpa, zpb, zpc]
          refine zit 6 ?_ rfl (by kernel_rfl) (fun _ _ _ h => h) (by rfl) (by assumption) ?_ ?_
          rotate_left
          · intro y hSw
            skip
            go_simp
            try with_reducible rfl
          try simp only [Act.put, zpa, zpb, zpc]
          refine zil 7 rfl (by kernel_rfl) (by kernel_rfl) (fun K hK => ?_)
          have m1 : z.cell? ⟨hb, 1, none⟩ = some (.slice a l c) := hHeld.cell 1
          have f1 := hHeld.free 1
          go_simp
          refine hK.out _ _ ?_
          clear hK K
          try simp only [Act.put, zpa, zpb, zpc]
          refine zid (by kernel_rfl) ?_ _
          clear hHeld m1 f1 hap A3 Bz ca W2
          go_wp2
          go_roundw
          case rel => exact ⟨k + 1, a2, l2, c2, by omega, by go_num, hide (by have := Wz.out; rw [hK1.out] at this; exact this)⟩
          case measure => simp [intOf]; omega
        · obtain rfl : k = cnt := by omega
          obtain ⟨ks, hks⟩ : ∃ ks, Hid (ks = ksH s) := ⟨_, hide rfl⟩
          have hkl : Hid (ks.length = k) := hide (by rw [hks.out, ksH_len, hcnt.out])
          have W5 := W.out
          rw [List.take_of_length_le (by rw [← hks.out, hkl.out]; exact Nat.le_refl _), ← hks.out] at W5
          have p0 := W5.way.took.at_.cell 0
          have pf := W5.way.took.at_.free 0
          have W6 := W5.skip 39 ((7 + 2 * k : Nat) + 2 * (16 - (k : Int))) (by omega)
          have e7 : ((7 + 2 * k : Nat) : Int) = 7 + 2 * (k : Int) := by omega
          rw [e7] at W6 p0
          clear W W5
          go_wp2_with fail
          generalize wr.setCell ⟨w.heap.size + 1 + 1, 0, none⟩ (.int .i64 (7 + 2 * (k : Int) + 2 * (16 - (k : Int)))) = x5 at *
          refine (W6.take 2 (by decide) (by omega) (by omega)).mono ?_
          rintro e x6 ⟨rfl, W7⟩
          obtain ⟨t, ht⟩ : ∃ t, t = nb s 39 2 := ⟨_, rfl⟩
          have ht6 : t < 65536 := by rw [ht]; exact tH_lt s
          rw [← ht]
          replace ht : Hid (t = tH s) := hide ht
          clear W6 p0 pf
          have m2 := W7.hd.cell 2
          have f2 := W7.hd.free 2
          have W8 := W7.far 2 (.int .u16 (t : Int)) num t rfl
          have hwt : IntKind.u16.wrap (t : Int) = (t : Int) := by simp [IntKind.wrap, IntKind.bits, IntKind.signed]; omega
          clear W7
          go_wp2_with fail
          generalize x6.setCell ⟨hb, 2, none⟩ (.int .u16 (t : Int)) = x7 at *
          have W9 := W8.on (Below.refl x7.heap.size x7).drew
          clear m2 f2
          have hll : ks.length = l := by
            rcases W9.row.2 with ⟨e, h0⟩ | ⟨g, cap, cur, e, -⟩
            · injection e with _ e2 _; omega
            · injection e with _ e2 _; omega
          have ci := hide (fun (y : World) (Wy : Way w y hb s (39 + 2) num t (.slice a l c) ks) => IW.of_own (H := fun k => k < w.heap.size) Wy.row (by have := hkl.out; omega) (fun g h => by have := Wy.gt; omega))
          have cr := hide (fun (y : World) (Wy : Way w y hb s (39 + 2) num t (.slice a l c) ks) => wrise_any (ci.out y Wy) own)
          have ct := hide (fun (y : World) (Wy : Way w y hb s (39 + 2) num t (.slice a l c) ks) => wtext_any num hnum4 (ci.out y Wy) (by rw [hkl.out]; exact hmany) (fun k hk => by
            rw [hks.out] at hk
            obtain ⟨i, -, rfl⟩ := List.mem_map.1 hk
            have := nb_lt s (7 + 2 * i) 2
            omega) t ht6)
          unfold headV at ct
          obtain ⟨R, hR⟩ : ∃ R, R = riseK own ks ks.length := ⟨_, rfl⟩
          obtain ⟨T, hT⟩ : ∃ T, T = headT num ks t := ⟨_, rfl⟩
          have hPR : Hid (P = (R && decide (T = s))) := hide (by rw [hP.out, hPr, hR, hT, hnum.out, ht.out, hks.out, ksH_len])
          rw [← hR] at cr
          rw [← hT] at ct
          clear hPr hR hT W8
          go_wp2_with fail
          refine zir [] (fun y => Box y hb #[.int .i64 (num : Int), .slice a l c, .int .u16 (t : Int)] ∧ Box y w.heap.size #[.string s]) (by kernel_rfl) ⟨W9.hd, W9.way.took.box⟩ (fun hHeld => ?_)
          generalize x7.drew = y1 at *
          refine zit 0 ?_ rfl (by kernel_rfl) (fun _ _ _ h => h) (by rfl) (by assumption) ?_ ?_
          rotate_left
          · intro y hSw
            have e1 := hSw.1.cell 1
            go_simp
            try with_reducible rfl
          try simp only [Act.put, zpa, zpb, zpc]
          refine zit 1 ?_ rfl (by kernel_rfl) (fun _ _ _ h => h) (by rfl) (by assumption) ?_ ?_
          rotate_left
          · intro y hSw
            have e1 := hSw.1.cell 1
            go_simp
            try with_reducible rfl
          try simp only [Act.put, zpa, zpb, zpc]
          refine zit 2 ?_ rfl (by kernel_rfl) (fun _ _ _ h => h) (by rfl) (by assumption) ?_ ?_
          rotate_left
          · intro y hSw
            have e1 := hSw.1.cell 1
            go_simp
            try with_reducible rfl
          try simp only [Act.put, zpa, zpb, zpc]
          refine zib 3 rfl (by kernel_rfl) (fun K hK => ?_)
          go_simp
          refine (cr.out y1 W9).mono ?_
          rintro q y2 ⟨rfl, hb2⟩
          have W10 := W9.on hb2
          clear W9 hHeld hb2 cr
          go_wp2_with fail
          refine hK.out _ _ (⟨W10.hd, W10.way.took.box⟩) (fun hHeld => ?_)
          clear hK K
          try simp only [Act.put, zpa, zpb, zpc]
          refine zit 4 ?_ rfl (by kernel_rfl) (fun _ _ _ h => h) (by rfl) (by assumption) ?_ ?_
          rotate_left
          · intro y hSw
            skip
            go_simp
            try with_reducible rfl
          try simp only [Act.put, zpa, zpb, zpc]
          refine zit 5 ?_ rfl (by kernel_rfl) (fun _ _ _ h => h) (by rfl) (by assumption) ?_ ?_
          rotate_left
          · intro y hSw
            skip
            go_simp
            try with_reducible rfl
          try simp only [Act.put, zpa, zpb, zpc]
          cases R with
          | false =>
            have hPf : P = false := by rw [hPR.out]; rfl
            refine zio 6 rfl (by kernel_rfl) (fun _ _ _ h => h) (by rfl) (by assumption) ?_
            try simp only [Act.put, zpa, zpb, zpc]
            refine zio 7 rfl (by kernel_rfl) (fun _ _ _ h => h) (by rfl) (by assumption) ?_
            try simp only [Act.put, zpa, zpb, zpc]
            refine zio 8 rfl (by kernel_rfl) (fun _ _ _ h => h) (by rfl) (by assumption) ?_
            try simp only [Act.put, zpa, zpb, zpc]
            refine zio 9 rfl (by kernel_rfl) (fun _ _ _ h => h) (by rfl) (by assumption) ?_
            try simp only [Act.put, zpa, zpb, zpc]
            refine zit 10 ?_ rfl (by kernel_rfl) (fun _ _ _ h => h) (by rfl) (by assumption) ?_ ?_
            rotate_left
            · intro y hSw
              skip
              go_simp
              try with_reducible rfl
            try simp only [Act.put, zpa, zpb, zpc]
            clear ct hHeld
            refine zid (by kernel_rfl) ?_ _
            obtain ⟨_, rfl, BY, TY⟩ := W10.way.bad
            obtain ⟨o0, o1, o2, f0, f1, f2⟩ := W10.way.outs
            unfold none3 at BY
            have q0 := hide (BY.cell 0)
            have q1 := hide (BY.cell 1)
            have q2 := hide (BY.cell 2)
            replace TY := hide TY
            clear W10 BY
            subst hPf
            go_wp2
            replace q0 := q0.out
            replace q1 := q1.out
            replace q2 := q2.out
            simp at q0 q1 q2
            exact bodyPost_ret (v := .tuple #[.agg #[.int .i64 0, .slice none 0 0, .int .u16 0], .bool false]) (by simp [results, Try.f88, go_sem, q0, q1, q2]) rfl ⟨0, 0, .slice none 0 0, [], rfl, IW.none _ _, TY.out, fun h => by cases h⟩
          | true =>
            refine zit 6 ?_ rfl (by kernel_rfl) (fun _ _ _ h => h) (by rfl) (by assumption) ?_ ?_
            rotate_left
            · intro y hSw
              have e0 := hSw.1.cell 0; have e1 := hSw.1.cell 1; have e2 := hSw.1.cell 2; have e3 := hSw.2.cell 0
              go_simp
              try with_reducible rfl
            try simp only [Act.put, zpa, zpb, zpc]
            refine zit 8 ?_ rfl (by kernel_rfl) (fun _ _ _ h => h) (by rfl) (by assumption) ?_ ?_
            rotate_left
            · intro y hSw
              have e0 := hSw.1.cell 0; have e1 := hSw.1.cell 1; have e2 := hSw.1.cell 2; have e3 := hSw.2.cell 0
              go_simp
              try with_reducible rfl
            try simp only [Act.put, zpa, zpb, zpc]
            refine zib 7 rfl (by kernel_rfl) (fun K hK => ?_)
            go_simp
            refine (ct.out y2 W10).mono ?_
            rintro q y3 ⟨rfl, hb3⟩
            have W11 := W10.on hb3
            clear W10 hHeld hb3 ct
            go_wp2_with fail
            refine hK.out _ _ (⟨W11.hd, W11.way.took.box⟩) (fun hHeld => ?_)
            clear hK K
            try simp only [Act.put, zpa, zpb, zpc]
            refine zit 9 ?_ rfl (by kernel_rfl) (fun _ _ _ h => h) (by rfl) (by assumption) ?_ ?_
            rotate_left
            · intro y hSw
              skip
              go_simp
              try with_reducible rfl
            try simp only [Act.put, zpa, zpb, zpc]
            refine zit 10 ?_ rfl (by kernel_rfl) (fun _ _ _ h => h) (by rfl) (by assumption) ?_ ?_
            rotate_left
            · intro y hSw
              skip
              go_simp
              try with_reducible rfl
            try simp only [Act.put, zpa, zpb, zpc]
            clear hHeld
            refine zid (by kernel_rfl) ?_ _
            have hst := same_text T s
            by_cases hTs : T = s
            · have hPt : P = true := by rw [hPR.out, decide_eq_true hTs]; rfl
              rw [decide_eq_true hTs] at hst
              rw [hst]
              clear hst
              obtain ⟨_, rfl, BY, TY, IY⟩ := W11.good (by have := hkl.out; omega)
              obtain ⟨o0, o1, o2, f0, f1, f2⟩ := W11.way.outs
              have m0 := W11.hd.cell 0
              have m1 := W11.hd.cell 1
              have m2 := W11.hd.cell 2
              have q0 := hide (BY.cell 0)
              have q1 := hide (BY.cell 1)
              have q2 := hide (BY.cell 2)
              replace TY := hide TY
              replace IY := hide IY
              clear W11 BY
              subst hPt
              go_wp2
              replace q0 := q0.out
              replace q1 := q1.out
              replace q2 := q2.out
              simp at q0 q1 q2
              exact bodyPost_ret (v := .tuple #[.agg #[.int .i64 (num : Int), .slice a l c, .int .u16 (t : Int)], .bool true]) (by simp [results, Try.f88, go_sem, q0, q1, q2]) rfl ⟨num, t, .slice a l c, ks, rfl, IY.out, TY.out, fun _ => ⟨hnum.out, ht.out, hks.out⟩⟩
            · have hPf : P = false := by rw [hPR.out, decide_eq_false hTs]; rfl
              rw [decide_eq_false hTs] at hst
              rw [hst]
              clear hst
              obtain ⟨_, rfl, BY, TY⟩ := W11.way.bad
              obtain ⟨o0, o1, o2, f0, f1, f2⟩ := W11.way.outs
              unfold none3 at BY
              have q0 := hide (BY.cell 0)
              have q1 := hide (BY.cell 1)
              have q2 := hide (BY.cell 2)
              replace TY := hide TY
              clear W11 BY
              subst hPf
              go_wp2
              replace q0 := q0.out
              replace q1 := q1.out
              replace q2 := q2.out
              simp at q0 q1 q2
              exact bodyPost_ret (v := .tuple #[.agg #[.int .i64 0, .slice none 0 0, .int .u16 0], .bool false]) (by simp [results, Try.f88, go_sem, q0, q1, q2]) rfl ⟨0, 0, .slice none 0 0, [], rfl, IW.none _ _, TY.out, fun h => by cases h⟩
    · have hPf : P = false := by rw [hP.out]; exact parB_many (hcnt.out ▸ hmany)
      have hmi : ¬ (cnt : Int) ≤ 16 := by omega
      obtain ⟨_, rfl, BY, TY⟩ := W4.out.way.bad
      obtain ⟨o0, o1, o2, f0, f1, f2⟩ := W4.out.way.outs
      unfold none3 at BY
      have q0 := hide (BY.cell 0)
      have q1 := hide (BY.cell 1)
      have q2 := hide (BY.cell 2)
      replace TY := hide TY
      clear W4 BY
      subst hPf
      go_wp2
      replace q0 := q0.out
      replace q1 := q1.out
      replace q2 := q2.out
      simp at q0 q1 q2
      exact bodyPost_ret (v := .tuple #[.agg #[.int .i64 0, .slice none 0 0, .int .u16 0], .bool false]) (by simp [results, Try.f88, go_sem, q0, q1, q2]) rfl ⟨0, 0, .slice none 0 0, [], rfl, IW.none _ _, TY.out, fun h => by cases h⟩
  · have hPf : P = false := by rw [hP.out]; exact parB_side (hnum.out ▸ hside)
    have hsi : ¬ ((num % 2 : Nat) : Int) = (place : Int) := by omega
    obtain ⟨_, rfl, BY, TY⟩ := W4.out.way.bad
    obtain ⟨o0, o1, o2, f0, f1, f2⟩ := W4.out.way.outs
    unfold none3 at BY
    have q0 := hide (BY.cell 0)
    have q1 := hide (BY.cell 1)
    have q2 := hide (BY.cell 2)
    replace TY := hide TY
    clear W4 BY
    subst hPf
    go_wp2
    replace q0 := q0.out
    replace q1 := q1.out
    replace q2 := q2.out
    simp at q0 q1 q2
    exact bodyPost_ret (v := .tuple #[.agg #[.int .i64 0, .slice none 0 0, .int .u16 0], .bool false]) (by simp [results, Try.f88, go_sem, q0, q1, q2]) rfl ⟨0, 0, .slice none 0 0, [], rfl, IW.none _ _, TY.out, fun h => by cases h⟩

end Go.Proofs.Ytgffhnggocbjhaa
