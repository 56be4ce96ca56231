/- Layer 10: contracts of the uart of bytes, the program's. -/
import Derived.Test.YtdapjpbdplhgbaaUaParseM
import Derived.WalkMore
import Derived.ScopeJumps
namespace Go.Proofs.Ytdapjpbdplhgbaa.Ua
open Go.RowKit
set_option linter.unusedVariables false
set_option maxRecDepth 100000
set_option linter.unusedSimpArgs false

theorem tail_size (s : ByteArray) : (tailT s).size ≤ s.size := by
  unfold tailT
  rw [ByteArray.size_extract, ByteArray.size_extract]
  omega

theorem Rat.farCell {w : World} {b : Nat} {r : Ua} (h : Rat w b r) (g i : Nat) (v : Value) (hg : ¬ b = g) : Rat (w.setCell ⟨g, i, none⟩ v) b r :=
  ⟨by rw [isRow_setCell]; exact h.1, by rw [rowAt_of (Below.heap_setCell w _ v b (by show b ≠ g; exact hg))]; exact h.2.1, by rw [World.size_setCell]; exact h.2.2⟩

theorem Rat.putI {w : World} {b : Nat} {r : Ua} (h : Rat w b r) (x : ByteArray) : Rat (w.setCell ⟨b, 0, none⟩ (.string x)) b { r with i := x } :=
  ⟨by rw [isRow_setCell]; exact h.1, by rw [rowAt_setCell, h.2.1]; rfl, by rw [World.size_setCell]; exact h.2.2⟩

theorem Rat.putO {w : World} {b : Nat} {r : Ua} (h : Rat w b r) (x : ByteArray) : Rat (w.setCell ⟨b, 1, none⟩ (.string x)) b { r with o := x } :=
  ⟨by rw [isRow_setCell]; exact h.1, by rw [rowAt_setCell, h.2.1]; rfl, by rw [World.size_setCell]; exact h.2.2⟩

/-- What a store into a part asks. -/
theorem Rat.open_ {w : World} {b : Nat} {r : Ua} (h : Rat w b r) : w.cell? ⟨b, 0, none⟩ = some (.string r.i) ∧ w.cell? ⟨b, 1, none⟩ = some (.string r.o) ∧ w.frozen? ⟨b, 0, none⟩ = false ∧ w.frozen? ⟨b, 1, none⟩ = false :=
  ⟨h.cell 0, h.cell 1, frozen_rowAt w b 0 h.1, frozen_rowAt w b 1 h.1⟩

theorem jump_ret {l : Nat} {J : Act → World → Prop} {Q : Exit → Act → World → Prop} {a : Act} {w : World} : Exit.jump l J Q .ret a w = Q .ret a w := rfl

/-- A uart and the place of the result, behind a call. -/
theorem pair_on {w x y : World} {r : Ua} (h : Rat x w.heap.size U0 ∧ Rat x (w.heap.size + 1) r ∧ Below w.heap.size w x) (hb : Below x.heap.size x y) :
    Rat y w.heap.size U0 ∧ Rat y (w.heap.size + 1) r ∧ Below w.heap.size w y := ⟨h.1.on hb, h.2.1.on hb, onto h.2.2 (Nat.le_refl _) hb⟩

theorem pair_i {w x : World} {r : Ua} (h : Rat x w.heap.size U0 ∧ Rat x (w.heap.size + 1) r ∧ Below w.heap.size w x) (s : ByteArray) :
    Rat (x.setCell ⟨w.heap.size + 1, 0, none⟩ (.string s)) w.heap.size U0 ∧ Rat (x.setCell ⟨w.heap.size + 1, 0, none⟩ (.string s)) (w.heap.size + 1) { r with i := s } ∧ Below w.heap.size w (x.setCell ⟨w.heap.size + 1, 0, none⟩ (.string s)) :=
  ⟨h.1.farCell _ _ _ (by omega), h.2.1.putI s, h.2.2.setCell (by show w.heap.size ≤ w.heap.size + 1; omega) _⟩

theorem pair_o {w x : World} {r : Ua} (h : Rat x w.heap.size U0 ∧ Rat x (w.heap.size + 1) r ∧ Below w.heap.size w x) (s : ByteArray) :
    Rat (x.setCell ⟨w.heap.size + 1, 1, none⟩ (.string s)) w.heap.size U0 ∧ Rat (x.setCell ⟨w.heap.size + 1, 1, none⟩ (.string s)) (w.heap.size + 1) { r with o := s } ∧ Below w.heap.size w (x.setCell ⟨w.heap.size + 1, 1, none⟩ (.string s)) :=
  ⟨h.1.farCell _ _ _ (by omega), h.2.1.putO s, h.2.2.setCell (by show w.heap.size ≤ w.heap.size + 1; omega) _⟩

theorem pair_new (w : World) (r : Ua) : Rat ((w.alloc (.cells (cellsU U0) 64)).alloc (.cells (cellsU r) 64)) w.heap.size U0 ∧
    Rat ((w.alloc (.cells (cellsU U0) 64)).alloc (.cells (cellsU r) 64)) (w.heap.size + 1) r ∧
    Below w.heap.size w ((w.alloc (.cells (cellsU U0) 64)).alloc (.cells (cellsU r) 64)) := by
  refine ⟨(Rat.new w U0 _).on (grow _ _), ?_, (grow _ _).alloc (by simp) _⟩
  have h := Rat.new (w.alloc (.cells (cellsU U0) 64)) r 64
  rw [show (w.alloc (.cells (cellsU U0) 64)).heap.size = w.heap.size + 1 by simp] at h
  exact h

set_option maxRecDepth 100000 in
set_option maxHeartbeats 2000000 in
theorem parse_no {s : ByteArray} (hl : s.size ≤ maxLen) (hg : ¬ Good s) (w : World) :
    Calls Try.prog 57 #[.string s] w fun e w' => e = .returned (.tuple #[.agg (cellsU U0), .int .i64 100]) ∧ Below w.heap.size w w' := by
  obtain ⟨t1, t2, t3, t4, t5, t6, t7, t8, t9⟩ := uaRules
  obtain ⟨p0, p1, p2⟩ := uaParts
  obtain ⟨s0, s1, s2⟩ := uaSets
  obtain ⟨d1, d2, d3⟩ := uaDrew
  have he := empty_iff s
  replace he := hide he
  replace hg := hide hg
  replace hl := hide hl
  go_enter Try.func57, Try.ntmps57
  go_wp2
  refine wp_scope_jumps 0 (fun a' w' => (∃ u0 u1 u3 u4 u5 u6 u7 u8 u9 u10 u11 u12 u13 u14 u15 u16 u17 u18 u19 u20 u21 u22 u23 u24 u25 u26 u27 u28 u29 u30 u31 u32 u33 u34 u35 u36 u37 u38 u39 u40 u41 : Value, a' = { tmps := #[u0, u1, .pointer (some ⟨w.heap.size, 0, none⟩), u3, u4, u5, u6, u7, u8, u9, u10, u11, u12, u13, u14, u15, u16, u17, u18, u19, u20, u21, u22, u23, u24, u25, u26, u27, u28, u29, u30, u31, u32, u33, u34, u35, u36, u37, u38, u39, u40, u41], defers := [] }) ∧ Rat w' w.heap.size U0 ∧ Below w.heap.size w w') (fun _ _ => 0) rfl ?_ ?_
  case refine_2 =>
    rintro a' w' ⟨⟨u0, u1, u3, u4, u5, u6, u7, u8, u9, u10, u11, u12, u13, u14, u15, u16, u17, u18, u19, u20, u21, u22, u23, u24, u25, u26, u27, u28, u29, u30, u31, u32, u33, u34, u35, u36, u37, u38, u39, u40, u41, rfl⟩, R, B⟩
    have x1 := R.1
    have x2 := R.2.1
    clear hg hl he
    replace R := hide R
    replace B := hide B
    go_wp2
    rw [jump_ret]
    exact bodyPost_ret (v := .tuple #[.agg (cellsU U0), .int .i64 100]) (by simp [results, Try.results57, go_sem, t1, t9, x1]) rfl ⟨rfl, below_setRow B.out (Nat.le_refl _) _⟩
  case refine_1 =>
    have P0 := hide fun r => pair_new w r
    by_cases hz : s.size = 0
    · have hd : s.toList.isEmpty = true := by rw [he.out]; simpa using hz
      clear he hg hl
      go_wp2
      go_step3
      exact ⟨rfl, ⟨_, _, _, _, _, _, _, _, _, _, _, _, _, _, _, _, _, _, _, _, _, _, _, _, _, _, _, _, _, _, _, _, _, _, _, _, _, _, _, _, _, rfl⟩, (P0.out _).1, (P0.out _).2.2⟩
    · have hd : s.toList.isEmpty = false := by rw [he.out]; simpa using hz
      have hb : byteN s 0 = (s[0]'(by omega)).toNat := byteN_in s 0 (by omega)
      have hlt : (s[0]'(by omega)).toNat < 256 := (s[0]'(by omega)).toNat_lt
      clear he
      by_cases h1 : 1 < (s[0]'(by omega)).toNat
      · clear hg
        replace hl := hl.out
        unfold maxLen at hl
        go_wp2
        go_step3
        exact ⟨rfl, ⟨_, _, _, _, _, _, _, _, _, _, _, _, _, _, _, _, _, _, _, _, _, _, _, _, _, _, _, _, _, _, _, _, _, _, _, _, _, _, _, _, _, rfl⟩, (P0.out _).1, (P0.out _).2.2⟩
      · have hr : (s.extract 1 s.size).size ≤ maxLen := by rw [ByteArray.size_extract]; have := hl.out; omega
        by_cases m1 : May (s.extract 1 s.size) 16
        · have c1 := hide fun W => taken_yes hr (by decide) m1 W
          have hr2 : (tailT (s.extract 1 s.size)).size ≤ maxLen := Nat.le_trans (tail_size _) hr
          by_cases m2 : May (tailT (s.extract 1 s.size)) 64
          · have c2 := hide fun W => taken_yes hr2 (by decide) m2 W
            have hne : ¬ (tailT (tailT (s.extract 1 s.size))).size = 0 := fun h => hg.out ⟨by omega, by omega, m1, m2, h⟩
            have hd2 : (tailT (tailT (s.extract 1 s.size))).toList.isEmpty = false := by rw [empty_iff]; simpa using hne
            clear hg m1 m2 hr hr2 hb hne
            replace hl := hl.out
            unfold maxLen at hl
            generalize headT (tailT (s.extract 1 s.size)) = o at *
            generalize tailT (tailT (s.extract 1 s.size)) = z at *
            generalize headT (s.extract 1 s.size) = i at *
            generalize tailT (s.extract 1 s.size) = t at *
            go_wp2_with fail
            refine (c1.out _).mono ?_
            rintro e w1 ⟨rfl, b1⟩
            have P1 := pair_on (P0.out _) b1
            obtain ⟨x1, x2, x3, x4⟩ := P1.2.1.open_
            replace P1 := hide P1
            clear b1
            go_wp2_with fail
            have P2 := pair_i P1.out i
            clear x1 x2 x3 x4
            obtain ⟨x1, x2, x3, x4⟩ := P2.2.1.open_
            generalize w1.setCell ⟨w.heap.size + 1, 0, none⟩ (.string i) = v1 at *
            clear P1
            refine (c2.out _).mono ?_
            rintro e w2 ⟨rfl, b2⟩
            have P3 := pair_on P2 b2
            clear x1 x2 x3 x4 P2 b2
            obtain ⟨x1, x2, x3, x4⟩ := P3.2.1.open_
            replace P3 := hide P3
            go_wp2
            have P4 := pair_o P3.out o
            go_step3
            exact ⟨rfl, ⟨_, _, _, _, _, _, _, _, _, _, _, _, _, _, _, _, _, _, _, _, _, _, _, _, _, _, _, _, _, _, _, _, _, _, _, _, _, _, _, _, _, rfl⟩, P4.1, P4.2.2⟩
          · have c2 := hide fun W => taken_no hr2 (m := 64) (by decide) m2 W
            clear hg m1 m2 hr hr2 hb
            replace hl := hl.out
            unfold maxLen at hl
            generalize headT (s.extract 1 s.size) = i at *
            generalize tailT (s.extract 1 s.size) = t at *
            go_wp2_with fail
            refine (c1.out _).mono ?_
            rintro e w1 ⟨rfl, b1⟩
            have P1 := pair_on (P0.out _) b1
            obtain ⟨x1, x2, x3, x4⟩ := P1.2.1.open_
            replace P1 := hide P1
            clear b1
            go_wp2_with fail
            have P2 := pair_i P1.out i
            clear x1 x2 x3 x4
            generalize w1.setCell ⟨w.heap.size + 1, 0, none⟩ (.string i) = v1 at *
            clear P1
            refine (c2.out _).mono ?_
            rintro e w2 ⟨rfl, b2⟩
            have P3 := pair_on P2 b2
            clear P2 b2
            obtain ⟨x1, x2, x3, x4⟩ := P3.2.1.open_
            replace P3 := hide P3
            go_wp2
            have P4 := pair_o P3.out ⟨#[]⟩
            go_step3
            exact ⟨rfl, ⟨_, _, _, _, _, _, _, _, _, _, _, _, _, _, _, _, _, _, _, _, _, _, _, _, _, _, _, _, _, _, _, _, _, _, _, _, _, _, _, _, _, rfl⟩, P4.1, P4.2.2⟩
        · have c1 := hide fun W => taken_no hr (m := 16) (by decide) m1 W
          clear hg m1
          replace hl := hl.out
          unfold maxLen at hl
          clear hr
          go_wp2_with fail
          refine (c1.out _).mono ?_
          rintro e w1 ⟨rfl, b1⟩
          have P1 := pair_on (P0.out _) b1
          obtain ⟨x1, x2, x3, x4⟩ := P1.2.1.open_
          replace P1 := hide P1
          clear b1
          go_wp2
          have P2 := pair_i P1.out ⟨#[]⟩
          go_step3
          exact ⟨rfl, ⟨_, _, _, _, _, _, _, _, _, _, _, _, _, _, _, _, _, _, _, _, _, _, _, _, _, _, _, _, _, _, _, _, _, _, _, _, _, _, _, _, _, rfl⟩, P2.1, P2.2.2⟩

end Go.Proofs.Ytdapjpbdplhgbaa.Ua
