/- Layer 19: calls whose answers the document fixes. -/
import Derived.Test.YtgffhnggocbjhaaQWqFs
namespace Go.Proofs.Ytgffhnggocbjhaa
open Go.RowKit
set_option linter.unusedVariables false
set_option maxRecDepth 100000
set_option linter.unusedSimpArgs false

theorem ints_box {y : World} {g : Nat} {l : List Int} (h : Box y g (l.map (Value.int .i64)).toArray) (hm : l.length ≤ maxLen) : IsInts y (.slice (some ⟨g, 0, none⟩) l.length l.length) l :=
  ⟨_, _, _, rfl, rfl, hm, fun i z hz => ⟨g, 0, rfl, h.2.2, by rw [Nat.zero_add, h.cell]; simp [hz]⟩⟩
theorem cells_lit {y : World} {g : Nat} (l : List Int) (h : Box y g (l.map (Value.int .i64)).toArray) (hm : l.length ≤ maxLen) (f : Int) (hf : 0 ≤ f ∧ f < 256) (n : Nat) (hn : n = l.length) :
    Calls Try.prog 10 #[.agg #[.int .i64 0, .slice (some ⟨g, 0, none⟩) n n, .int .u8 f, .int .i64 0, .int .i64 0, .string ⟨#[]⟩, .int .i64 0, .int .i64 0]] y fun e w' => ∃ v c, e = .returned v ∧ CellsAre y w' l 0 v c := by
  subst hn
  exact cells_any ⟨0, .slice (some ⟨g, 0, none⟩) l.length l.length, f, 0, 0, ⟨⟨#[]⟩, 0, 0⟩⟩ ⟨hf, by show I64 0; exact ⟨by decide, by decide⟩⟩ (ints_box h hm)
theorem cells_two {w w' : World} {a b : Int} {v : Value} {c : Cl} (h : CellsAre w w' [a, b] 0 v c) : ∃ x y, c = [(a, x), (b, y)] ∧ x.size = 64 ∧ y.size = 64 := by
  have hl : c.length = 2 := h.len
  match c, hl with
  | [(a', x), (b', y)], _ =>
    have e1 := h.num 0 (a', x) rfl
    have e2 := h.num 1 (b', y) rfl
    simp at e1 e2
    subst e1 e2
    exact ⟨x, y, rfl, h.size (a, x) (by simp), h.size (b, y) (by simp)⟩
theorem cells_uno {w w' : World} {a : Int} {v : Value} {c : Cl} (h : CellsAre w w' [a] 0 v c) : ∃ x, c = [(a, x)] ∧ x.size = 64 := by
  have hl : c.length = 1 := h.len
  match c, hl with
  | [(a', x)], _ =>
    have e1 := h.num 0 (a', x) rfl
    simp at e1
    subst e1
    exact ⟨x, rfl, h.size (a, x) (by simp)⟩

theorem refuse_one {n : Nat} {S : List ByteArray} {m : Nat} {cr : Crs} {c : Cl} (hn : n < 4294967295) (h16 : c.length ≤ 16) (hr : riseK ((S.length : Int) - 34) (c.map (·.1)) c.length = false) : (LQ n S m cr).refuse c = 1 := by
  unfold Lg.refuse
  rw [if_neg (show ¬ (16 < c.length ∨ 4294967295 ≤ (LQ n S m cr).n) by show ¬ (_ ∨ 4294967295 ≤ n); omega)]
  split
  · rfl
  · rw [if_pos (show riseK (LQ n S m cr).d.own (c.map (·.1)) c.length = false from hr)]
theorem refuse_many {n : Nat} {S : List ByteArray} {m : Nat} {cr : Crs} {c : Cl} (h16 : 16 < c.length) : (LQ n S m cr).refuse c = 191 := by
  unfold Lg.refuse
  rw [if_pos (.inl h16)]
theorem seventeen (y : World) : CW (y.alloc (.cells (madeCells #[.int .i64 0, .string ⟨#[]⟩] (17 * 2)) 80)) (fun k => k < y.heap.size) (.slice (some ⟨y.heap.size, 0, none⟩) 17 17) (List.replicate 17 ((0 : Int), (⟨#[]⟩ : ByteArray))) := by
  have M := (made_cells y 17).congr (g := fun j => (List.replicate 17 ((0 : Int), (⟨#[]⟩ : ByteArray))).getD j (0, T0)) (fun j hj => by
    rw [List.getD_eq_getElem?_getD, List.getElem?_replicate, if_pos hj]
    rfl)
  exact CellsIs.row (c := List.replicate 17 ((0 : Int), (⟨#[]⟩ : ByteArray))) M (by rw [List.length_replicate]; decide) _ (by omega) 17 (by rw [List.length_replicate]; exact Nat.le_refl _)

set_option maxHeartbeats 1000000 in
theorem fixed_any (w : World) : Calls Try.prog 29 #[] w fun e w' => e = .returned (.bool true) ∧ Below w.heap.size w w' := by
  have c1 := laid_any 42 ⟨by decide, by decide⟩ (by decide) w
  have c2 := hide (fun y => laid_41 y)
  go_enter Try.func29, Try.ntmps29
  go_wp2_with fail
  refine c1.mono ?_
  rintro e x1 ⟨db, lb, mv, kv, rfl, L1, hlb, T1⟩
  have F1 : Fs w.heap.size x1.heap.size (fun _ => False) x1 lb db (LQ 1 (S1 42) 3 C00) := ⟨⟨_, L1.bound, fun k hk => ⟨hk.1.1, fun h => h, hk.2⟩⟩, hlb, L1.log.2.2, Nat.le_refl _, fun h => h, fun k h => h.elim⟩
  obtain ⟨-, -, hS⟩ := form_new (n := 42) (by decide) (by decide)
  have hSl : (S1 42).length = 42 := S1_len 42
  generalize S1 42 = S at *
  replace F1 := hide F1
  replace T1 := hide T1
  clear c1 L1
  go_wp2_with fail
  refine (c2.out _).mono ?_
  rintro e x2 ⟨dv, mv2, rfl, T2⟩
  have F2 := hide (F1.out.on T2)
  have T3 := hide (onto T1.out (Nat.le_refl _) T2)
  have hx12 := T2.size
  clear c2 F1 T1 T2
  go_wp2_with fail
  have B3 := Box.new x2 #[.int .i64 0, .int .i64 3] 3
  have g3 := grow x2 (.cells #[.int .i64 0, .int .i64 3] 3)
  have F3 := hide (F2.out.on g3)
  have T4 := hide (onto T3.out (Nat.le_refl _) g3)
  have hx23 := g3.size
  generalize x2.alloc (.cells #[.int .i64 0, .int .i64 3] 3) = x3 at *
  generalize hG1 : x2.heap.size = G1 at *
  have cc := cells_lit [0, 3] B3 (by decide) 7 (by decide) 2 rfl
  clear F2 T3 g3 B3
  refine cc.mono ?_
  rintro e x4 ⟨v1, c1, rfl, CA⟩
  obtain ⟨ta, tb, rfl, hta, htb⟩ := cells_two CA
  have CW1 := CA.row
  obtain ⟨ca, cp, hv, hcp, -, hcx⟩ := CA.row
  subst hv
  obtain ⟨gc, rfl, hgc4, hgc3, q0, q1⟩ := hcx 1 (3, tb) rfl
  have F4 := hide ((F3.out.on CA.far).more (P2 := fun k => k = gc) (fun k hk => .inr ⟨by omega, by omega⟩))
  have T5 := hide (onto T4.out (Nat.le_refl _) CA.far)
  have hx34 := CA.far.size
  have hN1 := F4.out.top
  obtain ⟨k1, k2, hS2, -⟩ := commit_ok (c := [(0, ta), (3, tb)]) hS (by decide) (by simp) (fun p hp => by
    simp only [List.mem_cons, List.not_mem_nil, or_false] at hp
    rcases hp with rfl | rfl
    · exact hta
    · exact htb) (by rw [hSl]; rfl) 3 C00
  have cm := F4.out.commit CW1 (fun k hk _ => by omega) (by show 1 < _; decide) (by show 3 + 100 < _; decide) (by show 0 + 100 < _; decide)
  rw [k1, k2] at cm
  have hS2l : (nextS S (1 + 1) [(0, ta), (3, tb)]).length = 42 := (nextS_len _ _ _).trans hSl
  have hrd : (nextS S (1 + 1) [(0, ta), (3, tb)]).getD (34 + 3) T0 = tb := hS2.home (3, tb) (by simp)
  have hS2c : San (nextS S (1 + 1) [(0, ta), (3, tb)]) 2 [(0, ta), (3, tb)] := hS2
  generalize nextS S (1 + 1) [(0, ta), (3, tb)] = S2 at *
  replace cm : Calls Try.prog _ _ x4 (fun e z => e = .returned (.int .i64 0) ∧ Fs w.heap.size z.heap.size (fun k => k = gc) z lb db (LQ 2 S2 11 C00) ∧ Below w.heap.size x4 z ∧ ∀ k, k = gc → z.heap[k]? = x4.heap[k]?) := cm
  have hgcx : x4.cell? ⟨gc, 3, none⟩ = some (.string tb) := q1
  clear cc F3 T4 CA F4 hcx q0 q1 CW1 k1 k2 hS hS2 hcp
  replace cm := hide cm
  go_wp2_with fail
  refine cm.out.mono ?_
  rintro e x5 ⟨rfl, F5, T6, hk5⟩
  have hg5 := hide ((World.cell?_of_block (a := ⟨gc, 3, none⟩) (hk5 gc rfl)).trans hgcx)
  have T7 := hide (T5.out.trans T6)
  replace F5 := hide F5
  have hgl5 : gc < x5.heap.size := F5.old gc rfl
  clear cm T5 T6 hgcx hk5
  replace F5 := hide F5
  go_wp2_with fail
  have B6 := Box.new x5 #[.int .i64 3, .int .i64 0] 3
  have g6 := grow x5 (.cells #[.int .i64 3, .int .i64 0] 3)
  have F6 := hide (F5.out.on g6)
  have T8 := hide (onto T7.out (Nat.le_refl _) g6)
  have hx56 := g6.size
  have hg6 := hide ((g6.cell (p := ⟨gc, 3, none⟩) hgl5).trans hg5.out)
  generalize x5.alloc (.cells #[.int .i64 3, .int .i64 0] 3) = x6 at *
  generalize hG2 : x5.heap.size = G2 at *
  have cc := cells_lit [3, 0] B6 (by decide) 0 (by decide) 2 rfl
  clear F5 T7 g6 B6 hg5
  refine cc.mono ?_
  rintro e x7 ⟨v2, c2, rfl, CA⟩
  obtain ⟨ua, ub, rfl, hua, hub⟩ := cells_two CA
  have CW1 := CA.row
  obtain ⟨ca2, cp2, hv, -⟩ := CA.row
  subst hv
  have F7 := hide (F6.out.on CA.far)
  have T9 := hide (onto T8.out (Nat.le_refl _) CA.far)
  have hg7 := (CA.far.cell (p := ⟨gc, 3, none⟩) (by show gc < x6.heap.size; omega)).trans hg6.out
  have hR := refuse_one (n := 2) (S := S2) (m := 11) (cr := C00) (c := [(3, ua), (0, ub)]) (by decide) (by simp) (by rw [hS2l]; rfl)
  obtain ⟨k1, k2⟩ := commit_no (l := LQ 2 S2 11 C00) (c := [(3, ua), (0, ub)]) (by rw [hR]; decide)
  have cm := F7.out.commit CW1 (fun k hk _ => by omega) (by show 2 < _; decide) (by show 11 + 100 < _; decide) (by show 0 + 100 < _; decide)
  rw [k1, k2, hR] at cm
  clear cc F6 T8 CA F7 CW1 k1 k2 hR hg6
  replace cm := hide cm
  go_wp2_with fail
  refine cm.out.mono ?_
  rintro e x8 ⟨rfl, F8, T10, hk8⟩
  have hg8 := hide ((World.cell?_of_block (a := ⟨gc, 3, none⟩) (hk8 gc rfl)).trans hg7)
  have T11 := hide (T9.out.trans T10)
  have hgl8 : gc < x8.heap.size := F8.old gc rfl
  replace F8 := hide F8
  clear cm T9 T10 hg7 hk8
  go_wp2_with fail
  have B9 := Box.new x8 #[.int .i64 8] 3
  have g9 := grow x8 (.cells #[.int .i64 8] 3)
  have F9 := hide (F8.out.on g9)
  have T12 := hide (onto T11.out (Nat.le_refl _) g9)
  have hx89 := g9.size
  have hg9 := hide ((g9.cell (p := ⟨gc, 3, none⟩) hgl8).trans hg8.out)
  generalize x8.alloc (.cells #[.int .i64 8] 3) = x9 at *
  generalize hG3 : x8.heap.size = G3 at *
  have cc := cells_lit [8] B9 (by decide) 0 (by decide) 1 rfl
  clear F8 T11 g9 B9 hg8
  refine cc.mono ?_
  rintro e x10 ⟨v3, c3, rfl, CA⟩
  obtain ⟨wa, rfl, hwa⟩ := cells_uno CA
  have CW1 := CA.row
  obtain ⟨ca3, cp3, hv, -⟩ := CA.row
  subst hv
  have F10 := hide (F9.out.on CA.far)
  have T13 := hide (onto T12.out (Nat.le_refl _) CA.far)
  have hg10 := (CA.far.cell (p := ⟨gc, 3, none⟩) (by show gc < x9.heap.size; omega)).trans hg9.out
  have hR := refuse_one (n := 2) (S := S2) (m := 11) (cr := C00) (c := [(8, wa)]) (by decide) (by simp) (by rw [hS2l]; rfl)
  obtain ⟨k1, k2⟩ := commit_no (l := LQ 2 S2 11 C00) (c := [(8, wa)]) (by rw [hR]; decide)
  have cm := F10.out.commit CW1 (fun k hk _ => by omega) (by show 2 < _; decide) (by show 11 + 100 < _; decide) (by show 0 + 100 < _; decide)
  rw [k1, k2, hR] at cm
  clear cc F9 T12 CA F10 CW1 k1 k2 hR hg9
  replace cm := hide cm
  go_wp2_with fail
  refine cm.out.mono ?_
  rintro e x11 ⟨rfl, F11, T14, hk11⟩
  have hg11 := hide ((World.cell?_of_block (a := ⟨gc, 3, none⟩) (hk11 gc rfl)).trans hg10)
  have T15 := hide (T13.out.trans T14)
  have hgl11 : gc < x11.heap.size := F11.old gc rfl
  replace F11 := hide F11
  clear cm T13 T14 hg10 hk11
  have mk := make_cells x11 17 (by decide)
  have CW1 := seventeen x11
  have g12 := grow x11 (.cells (madeCells #[.int .i64 0, .string ⟨#[]⟩] (17 * 2)) 80)
  rw [show ((17 : Nat) : Int) = 17 from rfl] at mk
  go_wp2_with fail
  clear mk
  rw [show 17 * 2 = 34 from rfl] at CW1 g12
  have F12 := hide (F11.out.on g12)
  have T16 := hide (onto T15.out (Nat.le_refl _) g12)
  have hx1112 := g12.size
  have hg12 := (g12.cell (p := ⟨gc, 3, none⟩) hgl11).trans hg11.out
  generalize x11.alloc (.cells (madeCells #[.int .i64 0, .string ⟨#[]⟩] 34) 80) = x12 at *
  generalize hG4 : x11.heap.size = G4 at *
  have hR := refuse_many (n := 2) (S := S2) (m := 11) (cr := C00) (c := List.replicate 17 ((0 : Int), (⟨#[]⟩ : ByteArray))) (by rw [List.length_replicate]; decide)
  obtain ⟨k1, k2⟩ := commit_no (l := LQ 2 S2 11 C00) (c := List.replicate 17 ((0 : Int), (⟨#[]⟩ : ByteArray))) (by rw [hR]; decide)
  have cm := F12.out.commit CW1 (fun k hk _ => by omega) (by show 2 < _; decide) (by show 11 + 100 < _; decide) (by show 0 + 100 < _; decide)
  rw [k1, k2, hR] at cm
  clear F11 T15 F12 CW1 k1 k2 hR hg11 g12
  refine cm.mono ?_
  rintro e x13 ⟨rfl, F13, T17, hk13⟩
  have hg13 := hide ((World.cell?_of_block (a := ⟨gc, 3, none⟩) (hk13 gc rfl)).trans hg12)
  have T18 := hide (T16.out.trans T17)
  have hgl13 : gc < x13.heap.size := F13.old gc rfl
  clear cm T16 T17 hg12 hk13
  obtain ⟨r1, r2, r3⟩ := LQ_read (n := 2) (S := S2) (m := 11) (cr := C00) (k := 3) (by rw [hS2l]; decide)
  have c3 := F13.read 3
  rw [show (3 : Int) = ((3 : Nat) : Int) from rfl, r1, r2, r3, hrd] at c3
  rw [show ((3 : Nat) : Int) = (3 : Int) from rfl] at c3
  replace F13 := hide F13
  clear r1 r2 r3
  go_wp2_with fail
  refine c3.mono ?_
  rintro e x14 ⟨rfl, F14, T19, hk14⟩
  have hgne : gc ≠ lb := fun h => F13.out.no (h ▸ rfl)
  have hg14 := hide ((World.cell?_of_block (a := ⟨gc, 3, none⟩) (hk14 gc hgl13 hgne)).trans hg13.out)
  have T20 := hide (T18.out.trans T19)
  have hgl14 : gc < x14.heap.size := F14.old gc rfl
  have hown : (LQ 2 S2 11 C00).d.own = 8 := by show (S2.length : Int) - 34 = 8; rw [hS2l]; rfl
  have e8 : (LQ 2 S2 11 C00).errP 8 = 1 := by unfold Lg.errP; rw [if_pos (.inr (by rw [hown]; decide))]
  have e8r : (LQ 2 S2 11 C00).redP 8 = LQ 2 S2 11 C00 := by unfold Lg.redP; rw [if_pos (.inr (by rw [hown]; decide))]
  have c8 := F14.read 8
  rw [e8, e8r] at c8
  generalize (LQ 2 S2 11 C00).tolP 8 = t8 at *
  clear c3 F13 T18 T19 hk14 hg13 e8 e8r
  go_wp2_with fail
  refine c8.mono ?_
  rintro e x15 ⟨rfl, F15, T21, hk15⟩
  have hg15 := hide ((World.cell?_of_block (a := ⟨gc, 3, none⟩) (hk15 gc hgl14 hgne)).trans hg14.out)
  have T22 := hide (T20.out.trans T21)
  have hgl15 : gc < x15.heap.size := F15.old gc rfl
  obtain ⟨o1, o2⟩ := hS2c.opens 11 C00
  obtain ⟨-, bN, -, -⟩ := hS2c.best 11 C00
  have co := F15.opens (by show 11 + 300 < _; decide) (by show 0 + 300 < _; decide) o1
  rw [show (LQ 2 S2 11 C00).d = Q S2 11 C00 from rfl, o2, bN] at co
  replace co := hide co
  clear c8 F14 F15 T20 T21 hk15 hg14 o1 o2 bN
  go_wp2_with fail
  refine co.out.mono ?_
  rintro e x16 ⟨tb2, rfl, htb2, FL, FT, T23, hk16⟩
  have hg16 : x16.cell? ⟨gc, 3, none⟩ = some (.string tb) := (World.cell?_of_block (a := ⟨gc, 3, none⟩) (hk16 gc rfl)).trans hg15.out
  have T24 := hide (T22.out.trans T23)
  have n1 := FT.num
  have n2 := FL.num
  have n3 := FL.sec
  have n4 := FL.isDead
  replace n1 : Calls Try.prog _ _ x16 (fun e z => e = .returned (.int .i64 2) ∧ z = x16) := n1
  replace n2 : Calls Try.prog _ _ x16 (fun e z => e = .returned (.int .i64 2) ∧ z = x16) := n2
  replace n4 : Calls Try.prog _ _ x16 (fun e z => e = .returned (.bool false) ∧ z = x16) := n4
  have hown2 : (Q S2 (11 + [((0 : Int), ta), (3, tb)].length + 1) C00).own = 8 := by show (S2.length : Int) - 34 = 8; rw [hS2l]; rfl
  rw [hown2] at n3
  clear co T22 T23 hk16 hg15 FL FT hown hown2
  go_wp2_with fail
  refine n1.mono ?_
  rintro e y ⟨rfl, hy⟩
  subst hy
  go_wp2_with fail
  refine n2.mono ?_
  rintro e y2 ⟨rfl, hy⟩
  subst hy
  go_wp2_with fail
  refine n3.mono ?_
  rintro e y3 ⟨rfl, hy⟩
  subst hy
  go_wp2_with fail
  refine n4.mono ?_
  rintro e y4 ⟨rfl, hy⟩
  subst hy
  clear n1 n2 n3 n4
  go_wp2
  go_ret
  exact ⟨rfl, T24.out⟩

end Go.Proofs.Ytgffhnggocbjhaa
