/- Layer 12: the contract of Set, the program's. -/
import Derived.Test.YtdapjpbdplhgbaaGreatQBuSetM
import Derived.Deep.CutBlock
namespace Go.Proofs.YtdapjpbdplhgbaaGreat
open Go.RowKit
set_option linter.unusedVariables false
set_option maxRecDepth 100000

theorem take_any {w : World} {a : Nat} {x A y : ByteArray} {n : Nat} (hc : Box w a #[.string x]) (hn : n ≤ x.size) (hm : x.size ≤ maxLen) (hA : x.extract 0 n = A) (hy : x.extract n x.size = y) :
    Calls Tryz.prog 106 #[.int .i64 (n : Int), .pointer (some ⟨a, 0, none⟩)] w fun e w' => e = .returned (.string A) ∧ w' = w.setCell ⟨a, 0, none⟩ (.string y) := by
  have c0 : w.cell? ⟨a, 0, none⟩ = some (.string x) := hc.cell 0
  have f0 := hc.free 0
  have hn' : (n : Int) ≤ (x.size : Int) := by omega
  unfold maxLen at hm
  have hm' : (x.size : Int) ≤ 9223372036854775807 := by omega
  clear hc
  go_enter Tryz.func106, Tryz.ntmps106
  go_wp2
  go_ret
  exact ⟨rfl, rfl⟩

/-- The text in block L, other boxes; the rest is as it was. -/
structure Hold (w x : World) (L : Nat) (s : ByteArray) (l : List (Nat × Array Value)) : Prop where
  box : Box x L #[.string s]
  all : ∀ q, q ∈ l → Box x q.1 q.2 ∧ q.1 ≠ L
  be : Below w.heap.size w x
  le : w.heap.size ≤ L

theorem Hold.on {w x y : World} {L : Nat} {s : ByteArray} {l : List (Nat × Array Value)} (h : Hold w x L s l) (hb : Below x.heap.size x y) : Hold w y L s l :=
  ⟨h.box.on hb, fun q hq => ⟨(h.all q hq).1.on hb, (h.all q hq).2⟩, onto h.be (Nat.le_refl _) hb, h.le⟩

theorem Hold.take {w x : World} {L : Nat} {s : ByteArray} {l : List (Nat × Array Value)} (h : Hold w x L s l) (t : ByteArray) : Hold w (x.setCell ⟨L, 0, none⟩ (.string t)) L t l :=
  ⟨⟨by rw [isRow_setCell]; exact h.box.1, by rw [rowAt_setCell, h.box.2.1]; rfl, by rw [World.size_setCell]; exact h.box.2.2⟩,
    fun q hq => ⟨(h.all q hq).1.of_heap (Below.heap_setCell _ _ _ _ (by show q.1 ≠ L; exact (h.all q hq).2)), (h.all q hq).2⟩, h.be.setCell h.le _, h.le⟩

theorem Hold.new {w x : World} {L : Nat} {s : ByteArray} {l : List (Nat × Array Value)} (h : Hold w x L s l) (c : Array Value) (i : TypeId) : Hold w (x.alloc (.cells c i)) L s ((x.heap.size, c) :: l) := by
  refine ⟨h.box.on (grow _ _), fun q hq => ?_, onto h.be (Nat.le_refl _) (grow _ _), h.le⟩
  rcases List.mem_cons.1 hq with rfl | hq
  · exact ⟨Box.new x c i, by have := h.box.2.2; show x.heap.size ≠ L; omega⟩
  · exact ⟨(h.all q hq).1.on (grow _ _), (h.all q hq).2⟩

theorem Hold.start (w : World) (s : ByteArray) (c : Array Value) (i j : TypeId) : Hold w ((w.alloc (.cells #[.string s] i)).alloc (.cells c j)) w.heap.size s [(w.heap.size + 1, c)] := by
  refine ⟨(Box.new w _ i).on (grow _ _), fun q hq => ?_, (grow w _).alloc (by simp) _, Nat.le_refl _⟩
  rcases List.mem_singleton.1 hq with rfl
  have := Box.new (w.alloc (.cells #[.string s] i)) c j
  exact ⟨by simpa using this, by show w.heap.size + 1 ≠ w.heap.size; omega⟩

/-- The devices' state that bytes tell: the parts, and whether each may be. -/
structure Parts (s : ByteArray) (T : Tm.Tm) (E1 : Int) (D : Dm.Dm) (E2 : Int) (G : Rg) (ok : Bool) (U : Ua.Ua) (E4 : Int) : Prop where
  ct : ∀ w, Calls Tryz.prog 107 #[.string (s.extract 0 9)] w fun e w' => e = .returned (.tuple #[.agg (Tm.cellsT T), .int .i64 E1]) ∧ Below w.heap.size w w'
  rt : ∀ w, Calls Tryz.prog 86 #[.string (s.extract 0 9)] w fun e w' => e = .returned (.tuple #[.agg (Tm.cellsT T), .int .i64 E1]) ∧ Below w.heap.size w w'
  cd : ∀ w, Calls Tryz.prog 108 #[.string (s.extract 9 26)] w fun e w' => e = .returned (.tuple #[.agg (Dm.cellsD D), .int .i64 E2]) ∧ Below w.heap.size w w'
  rd : ∀ w, Calls Tryz.prog 87 #[.string (s.extract 9 26)] w fun e w' => e = .returned (.tuple #[.agg (Dm.cellsD D), .int .i64 E2]) ∧ Below w.heap.size w w'
  cg : ∀ w, Calls Tryz.prog 109 #[.string (s.extract 26 42)] w fun e w' => e = .returned (.tuple #[.agg (cellsG G), .bool ok]) ∧ Below w.heap.size w w'
  cu : ∀ w, Calls Tryz.prog 111 #[.string (s.extract 1066 s.size)] w fun e w' => e = .returned (.tuple #[.agg (Ua.cellsU U), .int .i64 E4]) ∧ Below w.heap.size w w'
  ru : ∀ w, Calls Tryz.prog 88 #[.string (s.extract 1066 s.size)] w fun e w' => e = .returned (.tuple #[.agg (Ua.cellsU U), .int .i64 E4]) ∧ Below w.heap.size w w'
  mg : ok = true ∧ G = rawG (s.extract 26 42) ∧ Wg G ∨ ok = false ∧ ∃ j, j < 4 ∧ 65520 < partsG (s.extract 26 42) j
  yes : E1 = 0 → E2 = 0 → ok = true → E4 = 0 → IsDev s ⟨T, U, D, G, s.extract 42 1066⟩
  no : ¬ (E1 = 0 ∧ E2 = 0 ∧ ok = true ∧ E4 = 0) → ∀ v, ¬ IsDev s v

theorem parts_of (s : ByteArray) (h : 1066 ≤ s.size) (hm : s.size ≤ maxLen) : ∃ T E1 D E2 G ok U E4, Parts s T E1 D E2 G ok U E4 := by
  obtain ⟨T, E1, ct, rt, mt⟩ := tm_both (s.extract 0 9) (cut_size s 0 9 (by omega) (by omega))
  obtain ⟨D, E2, cd, rd, md⟩ := dm_both (s.extract 9 26) (cut_size s 9 26 (by omega) (by omega))
  obtain ⟨G, ok, cg, mg⟩ := rg_both (s.extract 26 42) (cut_size s 26 42 (by omega) (by omega))
  obtain ⟨U, E4, cu, ru, mu⟩ := ua_both (s.extract 1066 s.size) (by rw [cut_size s 1066 s.size h (Nat.le_refl _)]; omega)
  refine ⟨T, E1, D, E2, G, ok, U, E4, ct, rt, cd, rd, cg, cu, ru, ?_, fun e1 e2 e3 e4 => ?_, fun hn v hv => ?_⟩
  · rcases mg with ⟨h1, h2, h3, -⟩ | ⟨h1, h2, -⟩
    · exact Or.inl ⟨h1, h2, h3⟩
    · exact Or.inr ⟨h1, h2⟩
  · rcases mt with ⟨-, wt, xt⟩ | ⟨k, -⟩
    · rcases md with ⟨-, wd, xd⟩ | ⟨k, -⟩
      · rcases mg with ⟨-, -, wg, xg⟩ | ⟨k, -⟩
        · rcases mu with ⟨-, wu, xu⟩ | ⟨k, -⟩
          · refine ⟨⟨wt, wu, wd, wg, cut_size s 42 1066 (by omega) h⟩, ?_⟩
            unfold devV
            simp only
            rw [xt, xd, xg, xu]
            exact cut_dev s h
          · exact absurd e4 k
        · rw [e3] at k; cases k
      · exact absurd e2 k
    · exact absurd e1 k
  · obtain ⟨-, h1, h2, h3, h4, h5⟩ := dev_cut hv
    apply hn
    refine ⟨?_, ?_, ?_, ?_⟩
    · rcases mt with ⟨k, -, -⟩ | ⟨-, k⟩
      · exact k
      · exact absurd h1.symm (k _ hv.1.t)
    · rcases md with ⟨k, -, -⟩ | ⟨-, k⟩
      · exact k
      · exact absurd h2.symm (k _ hv.1.d)
    · rcases mg with ⟨k, -, -, -⟩ | ⟨-, -, k⟩
      · exact k
      · exact absurd h3.symm (k _ hv.1.g)
    · rcases mu with ⟨k, -, -⟩ | ⟨-, k⟩
      · exact k
      · exact absurd h5.symm (k _ hv.1.u)

theorem builtV (T : Tm.Tm) (U : Ua.Ua) (D : Dm.Dm) (G : Rg) (A : ByteArray) :
    Tryz.prog.built 65 [(0, .agg (Tm.cellsT T)), (1, .agg (Ua.cellsU U)), (2, .agg (Dm.cellsD D)), (3, .agg (cellsG G)), (4, .string A)] = some (cellsV ⟨T, U, D, G, A⟩) := by kernel_rfl

theorem wpList_buildV {ops : Array Oper} {rest : List Oper} {o : Oper} {a : Act} {w : World} {Q : Exit → Act → World → Prop} (hg : o.guard = none) (p0 p1 p2 p3 p4 : Operand)
    (ho : o.op = .build 65 #[(0, p0), (1, p1), (2, p2), (3, p3), (4, p4)]) (T : Tm.Tm) (U : Ua.Ua) (D : Dm.Dm) (G : Rg) (A : ByteArray)
    (h0 : a.eval p0 = .agg (Tm.cellsT T)) (h1 : a.eval p1 = .agg (Ua.cellsU U)) (h2 : a.eval p2 = .agg (Dm.cellsD D)) (h3 : a.eval p3 = .agg (cellsG G)) (h4 : a.eval p4 = .string A)
    (h : wpList Tryz.prog ops Q rest (a.put o.dst (.agg (cellsV ⟨T, U, D, G, A⟩))) w) : wpList Tryz.prog ops Q (o :: rest) a w := by
  have e : ((#[(0, p0), (1, p1), (2, p2), (3, p3), (4, p4)] : Array (Nat × Operand)).map fun (i, x) => (i, a.eval x)).toList = [(0, a.eval p0), (1, a.eval p1), (2, a.eval p2), (3, a.eval p3), (4, a.eval p4)] := by simp
  refine wpList_build hg 65 _ ho ?_ ?_
  · rw [e, h0, h1, h2, h3, h4, builtV]; rfl
  · rw [e, h0, h1, h2, h3, h4, builtV]; exact h

theorem parse_short {s : ByteArray} (h : s.size < 1066) (w : World) :
    Calls Tryz.prog 85 #[.string s] w fun e w' => e = .returned (.tuple #[.agg (cellsV VZ), .bool false]) ∧ Below w.heap.size w w' := by
  obtain ⟨t1, t2, t3, t4, t5, t6, t7, t8, t9⟩ := rowRules
  obtain ⟨-, -, -, -, z5, -, -, -, -, z10⟩ := sizeRules
  obtain ⟨-, -, -, -, c5, -, -, -, -, o5, -, -, -, -, n5⟩ := cellSizes
  obtain ⟨-, -, -, -, -, -, -, -, -, -, -, -, x1, x2, x3⟩ := boxRules
  have h' : (s.size : Int) < 1066 := by omega
  have H := Hold.start w s (cellsV VZ) 9 65
  have ld := (H.all _ (List.mem_singleton.2 rfl)).1.loadV
  have be := hide H.be
  clear H
  go_enter Tryz.func85, Tryz.ntmps85
  go_wp2
  exact bodyPost_ret (v := .tuple #[.agg (cellsV VZ), .bool false]) (by simp [results, Tryz.results85, go_sem, z5, ld]) rfl ⟨rfl, be.out⟩

set_option maxHeartbeats 4000000 in
set_option maxRecDepth 100000 in
theorem parse_any {s : ByteArray} (h : 1066 ≤ s.size) (hm : s.size ≤ maxLen) {T : Tm.Tm} {E1 : Int} {D : Dm.Dm} {E2 : Int} {G : Rg} {ok : Bool} {U : Ua.Ua} {E4 : Int} (P : Parts s T E1 D E2 G ok U E4) (q : Dv) (good : Bool)
    (hq : E1 = 0 ∧ E2 = 0 ∧ ok = true ∧ E4 = 0 ∧ q = ⟨T, U, D, G, s.extract 42 1066⟩ ∧ good = true ∨ ¬ (E1 = 0 ∧ E2 = 0 ∧ ok = true ∧ E4 = 0) ∧ q = VZ ∧ good = false) (w : World) :
    Calls Tryz.prog 85 #[.string s] w fun e w' => e = .returned (.tuple #[.agg (cellsV q), .bool good]) ∧ Below w.heap.size w w' := by
  obtain ⟨t1, t2, t3, t4, t5, t6, t7, t8, t9⟩ := rowRules
  obtain ⟨z1, z2, z3, z4, z5, z6, z7, z8, z9, z10⟩ := sizeRules
  obtain ⟨c1, c2, c3, c4, c5, o1, o2, o3, o4, o5, n1, n2, n3, n4, n5⟩ := cellSizes
  obtain ⟨a1, a2, a3, a4, a5, a6, a7, a8, a9, a10, a11, a12, x1, x2, x3⟩ := boxRules
  have hlen : ¬ ((s.size : Int) < 1066) := by omega
  have k1 := cut_size s 9 s.size (by omega) (Nat.le_refl _)
  have k2 := cut_size s 26 s.size (by omega) (Nat.le_refl _)
  have k3 := cut_size s 42 s.size (by omega) (Nat.le_refl _)
  have T1 := hide fun (x : World) (hb : Box x w.heap.size #[.string s]) => take_any (n := 9) hb (by omega) hm rfl rfl
  have T2 := hide fun (x : World) (hb : Box x w.heap.size #[.string (s.extract 9 s.size)]) => take_any (n := 17) hb (by omega) (by omega) (cut_cut s 9 17 (by omega)) (cut_rest s 9 17 (by omega))
  have T3 := hide fun (x : World) (hb : Box x w.heap.size #[.string (s.extract 26 s.size)]) => take_any (n := 16) hb (by omega) (by omega) (cut_cut s 26 16 (by omega)) (cut_rest s 26 16 (by omega))
  have T4 := hide fun (x : World) (hb : Box x w.heap.size #[.string (s.extract 42 s.size)]) => take_any (n := 1024) hb (by omega) (by omega) (cut_cut s 42 1024 (by omega)) (cut_rest s 42 1024 (by omega))
  have TC := hide fun (x : World) => Ua.clone_any (s.extract 42 1066) x (by rw [cut_size s 42 1066 (by omega) h]; decide)
  obtain ⟨ct, -, cd, -, cg, cu, -, -, -, -⟩ := P
  replace ct := hide ct
  replace cd := hide cd
  replace cg := hide cg
  replace cu := hide cu
  simp only [Nat.reduceAdd] at T2 T3 T4
  generalize s.extract 0 9 = A1 at *
  generalize s.extract 9 26 = A2 at *
  generalize s.extract 26 42 = A3 at *
  generalize s.extract 42 1066 = A4 at *
  generalize s.extract 1066 s.size = A5 at *
  generalize s.extract 9 s.size = s1 at *
  generalize s.extract 26 s.size = s2 at *
  generalize s.extract 42 s.size = s3 at *
  clear k1 k2 k3 h hm
  replace hq := hide hq
  have H := hide (Hold.start w s (cellsV VZ) 9 65)
  go_enter Tryz.func85, Tryz.ntmps85
  go_wp2_with fail
  generalize (w.alloc (.cells #[.string s] 9)).alloc (.cells (cellsV VZ) 65) = y0 at *
  refine (T1.out _ H.out.box).mono ?_
  rintro e y1 ⟨rfl, rfl⟩
  replace H := hide (H.out.take s1)
  go_wp2_with fail
  generalize y0.setCell ⟨w.heap.size, 0, none⟩ (.string s1) = y1 at *
  refine (ct.out _).mono ?_
  rintro e y2 ⟨rfl, b2⟩
  replace H := hide ((H.out.on b2).new (Tm.cellsT T) 46)
  clear b2 T1 ct
  go_wp2_with fail
  generalize hLt : y2.heap.size = Lt at *
  generalize y2.alloc (.cells (Tm.cellsT T) 46) = y3 at *
  clear hLt
  refine (T2.out _ H.out.box).mono ?_
  rintro e y4 ⟨rfl, rfl⟩
  replace H := hide (H.out.take s2)
  go_wp2_with fail
  generalize y3.setCell ⟨w.heap.size, 0, none⟩ (.string s2) = y5 at *
  refine (cd.out _).mono ?_
  rintro e y6 ⟨rfl, b2⟩
  replace H := hide ((H.out.on b2).new (Dm.cellsD D) 42)
  clear b2 T2 cd
  go_wp2_with fail
  generalize hLt : y6.heap.size = Ld at *
  generalize y6.alloc (.cells (Dm.cellsD D) 42) = y7 at *
  clear hLt
  refine (T3.out _ H.out.box).mono ?_
  rintro e y8 ⟨rfl, rfl⟩
  replace H := hide (H.out.take s3)
  go_wp2_with fail
  generalize y7.setCell ⟨w.heap.size, 0, none⟩ (.string s3) = y9 at *
  refine (cg.out _).mono ?_
  rintro e y10 ⟨rfl, b2⟩
  replace H := hide ((H.out.on b2).new (cellsG G) 50)
  clear b2 T3 cg
  go_wp2_with fail
  generalize hLt : y10.heap.size = Lg at *
  generalize y10.alloc (.cells (cellsG G) 50) = y11 at *
  clear hLt
  refine (T4.out _ H.out.box).mono ?_
  rintro e y12 ⟨rfl, rfl⟩
  replace H := hide (H.out.take A5)
  go_wp2_with fail
  generalize y11.setCell ⟨w.heap.size, 0, none⟩ (.string A5) = y13 at *
  refine (TC.out _).mono ?_
  rintro e y14 ⟨rfl, b2⟩
  replace H := hide (H.out.on b2)
  have h0 : y14.cell? ⟨w.heap.size, 0, none⟩ = some (.string A5) := H.out.box.cell 0
  clear b2 T4 TC
  go_wp2_with fail
  refine (cu.out _).mono ?_
  rintro e y15 ⟨rfl, b2⟩
  replace H := hide ((H.out.on b2).new (Ua.cellsU U) 48)
  clear b2 cu h0
  go_upto_region 9 with fail
  generalize hLu : y15.heap.size = Lu at *
  generalize y15.alloc (.cells (Ua.cellsU U) 48) = y16 at *
  clear hLu
  have V1 := hide (H.out.all (w.heap.size + 1, cellsV VZ) (by simp)).1
  have V2 := hide (H.out.all (Lt, Tm.cellsT T) (by simp)).1
  have V3 := hide (H.out.all (Ld, Dm.cellsD D) (by simp)).1
  have V4 := hide (H.out.all (Lg, cellsG G) (by simp)).1
  have V5 := hide (H.out.all (Lu, Ua.cellsU U) (by simp)).1
  have be := hide H.out.be
  clear H
  obtain ⟨u1, u2⟩ := And.intro V1.out.1 V1.out.2.1
  obtain ⟨u3, u4⟩ := And.intro V2.out.1 V2.out.2.1
  obtain ⟨u5, u6⟩ := And.intro V3.out.1 V3.out.2.1
  obtain ⟨u7, u8⟩ := And.intro V4.out.1 V4.out.2.1
  obtain ⟨u9, u10⟩ := And.intro V5.out.1 V5.out.2.1
  by_cases good' : E1 = 0 ∧ E2 = 0 ∧ ok = true ∧ E4 = 0
  · have hv : q = ⟨T, U, D, G, A4⟩ ∧ good = true := by
      rcases hq.out with ⟨-, -, -, -, h1, h2⟩ | ⟨h1, -, -⟩
      · exact ⟨h1, h2⟩
      · exact absurd good' h1
    obtain ⟨rfl, rfl⟩ := hv
    obtain ⟨rfl, rfl, rfl, rfl⟩ := good'
    clear hq
    go_wp2_with (refine wpList_buildV rfl (.tmp 60) (.tmp 61) (.tmp 62) (.tmp 63) (.tmp 64) (by with_reducible rfl) T U D G A4 rfl rfl rfl rfl rfl ?_)
    have ld := (V1.out.set (cellsV ⟨T, U, D, G, A4⟩)).loadV
    exact bodyPost_ret (v := .tuple #[.agg (cellsV ⟨T, U, D, G, A4⟩), .bool true]) (by simp [results, Tryz.results85, go_sem, z5, ld]) rfl ⟨rfl, below_setRow be.out (by omega) _⟩
  · have hv : q = VZ ∧ good = false := by
      rcases hq.out with ⟨h1, h2, h3, h4, -, -⟩ | ⟨-, h1, h2⟩
      · exact absurd ⟨h1, h2, h3, h4⟩ good'
      · exact ⟨h1, h2⟩
    obtain ⟨rfl, rfl⟩ := hv
    clear hq
    have fin : ∀ y : World, y = y16.setRow (w.heap.size + 1) (cellsV VZ) → (loadCellsFrom ⟨w.heap.size + 1, 0, none⟩ 0 N16 #[]).run Tryz.prog y = .ok (cellsV VZ) y ∧ Below w.heap.size w y := by
      rintro y rfl
      exact ⟨(V1.out.set (cellsV VZ)).loadV, below_setRow be.out (by omega) _⟩
    obtain ⟨ld, lb⟩ := fin _ rfl
    replace lb := hide lb
    clear fin
    by_cases h1 : E1 = 0
    · subst h1
      by_cases h2 : E2 = 0
      · subst h2
        cases ok
        · clear good'
          go_wp2
          exact bodyPost_ret (v := .tuple #[.agg (cellsV VZ), .bool false]) (by simp [results, Tryz.results85, go_sem, z5, ld]) rfl ⟨rfl, lb.out⟩
        · have h4 : (E4 == 0) = false := by simpa using good'
          clear good'
          go_wp2
          exact bodyPost_ret (v := .tuple #[.agg (cellsV VZ), .bool false]) (by simp [results, Tryz.results85, go_sem, z5, ld]) rfl ⟨rfl, lb.out⟩
      · have h4 : (E2 == 0) = false := by simpa using h2
        clear good' h2
        go_wp2
        all_goals exact bodyPost_ret (v := .tuple #[.agg (cellsV VZ), .bool false]) (by simp [results, Tryz.results85, go_sem, z5, ld]) rfl ⟨rfl, lb.out⟩
    · have h4 : (E1 == 0) = false := by simpa using h1
      clear good' h1
      go_wp2
      all_goals exact bodyPost_ret (v := .tuple #[.agg (cellsV VZ), .bool false]) (by simp [results, Tryz.results85, go_sem, z5, ld]) rfl ⟨rfl, lb.out⟩

end Go.Proofs.YtdapjpbdplhgbaaGreat
