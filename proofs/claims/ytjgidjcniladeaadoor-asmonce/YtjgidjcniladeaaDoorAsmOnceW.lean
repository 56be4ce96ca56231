/- Two instructions have one text just if they are one. -/
import Derived.Test.YtjgidjcniladeaaDoorAsmFixed
set_option linter.unusedVariables false
set_option linter.unusedSimpArgs false
namespace Go.Proofs.YtjgidjcniladeaaDoor
open Go.RowKit Go.Shelf Go.Joins

set_option maxHeartbeats 2000000 in
theorem once_raw {o s t d a i o' s' t' d' a' i' e f : Int} {X Y : ByteArray} {b : Bool}
    (hq : e = 50 ∨ (e = 0 ∧ f = 50) ∨ (e = 0 ∧ f = 0 ∧ (X.toList == Y.toList) = b ∧ same6 o s t d a i o' s' t' d' a' i' = b))
    (hp : ∀ w, Lay5 w → Calls Tryd.prog 6 #[.agg #[.int .i64 o, .int .i64 s, .int .i64 t, .int .i64 d, .int .i64 a, .int .i64 i]] w fun e' w' => e' = .returned (.tuple #[.string X, .int .i64 e]) ∧ Below w.heap.size w w')
    (hp' : ∀ w, Lay5 w → Calls Tryd.prog 6 #[.agg #[.int .i64 o', .int .i64 s', .int .i64 t', .int .i64 d', .int .i64 a', .int .i64 i']] w fun e' w' => e' = .returned (.tuple #[.string Y, .int .i64 f]) ∧ Below w.heap.size w w')
    (w : World) (L : Lay5 w) :
    Calls Tryd.prog 5 #[.agg #[.int .i64 o, .int .i64 s, .int .i64 t, .int .i64 d, .int .i64 a, .int .i64 i], .agg #[.int .i64 o', .int .i64 s', .int .i64 t', .int .i64 d', .int .i64 a', .int .i64 i']] w fun e w' => e = .returned (.bool true) ∧ Below w.heap.size w w' := by
  have hE := fun w => eql24 o s t d a i o' s' t' d' a' i' w
  go_enter Tryd.func5, Tryd.ntmps5
  go_wp2_with fail
  have g0 := grow w (.cells #[.int .i64 o, .int .i64 s, .int .i64 t, .int .i64 d, .int .i64 a, .int .i64 i] 23)
  have i0 := cell6 w 23 (.int .i64 o) (.int .i64 s) (.int .i64 t) (.int .i64 d) (.int .i64 a) (.int .i64 i)
  have g1 := grow (w.alloc (.cells #[.int .i64 o, .int .i64 s, .int .i64 t, .int .i64 d, .int .i64 a, .int .i64 i] 23)) (.cells #[.int .i64 o', .int .i64 s', .int .i64 t', .int .i64 d', .int .i64 a', .int .i64 i'] 23)
  have j1 := cell6 (w.alloc (.cells #[.int .i64 o, .int .i64 s, .int .i64 t, .int .i64 d, .int .i64 a, .int .i64 i] 23)) 23 (.int .i64 o') (.int .i64 s') (.int .i64 t') (.int .i64 d') (.int .i64 a') (.int .i64 i')
  rw [World.size_alloc] at j1
  have i1 := i0.on g1
  have b1 := onto g0 g1
  have L1 := L.on b1
  clear g0 i0 g1
  generalize (w.alloc (.cells #[.int .i64 o, .int .i64 s, .int .i64 t, .int .i64 d, .int .i64 a, .int .i64 i] 23)).alloc (.cells #[.int .i64 o', .int .i64 s', .int .i64 t', .int .i64 d', .int .i64 a', .int .i64 i'] 23) = W at *
  refine (hp _ L1).mono ?_
  rintro e1 w2 ⟨rfl, h2⟩
  have i2 := i1.on h2
  have j2 := j1.on h2
  have b2 := onto b1 h2
  have L2 := L1.on h2
  clear i1 j1 b1 L1 h2 hp
  clear W
  obtain ⟨y0, y1, y2, y3, y4, y5⟩ := j2
  go_wp2_with fail
  refine (hp' _ L2).mono ?_
  rintro e1 w3 ⟨rfl, h3⟩
  have i3 := i2.on h3
  have j3 := Cell6.on ⟨y0, y1, y2, y3, y4, y5⟩ h3
  have b3 := onto b2 h3
  have L3 := L2.on h3
  clear i2 y0 y1 y2 y3 y4 y5 b2 L2 h3 hp'
  clear w2
  rcases hq with rfl | ⟨rfl, rfl⟩ | ⟨rfl, rfl, hs, h6⟩
  · go_wp2_with fail
    refine (facts5 _ L3).mono ?_
    rintro e w4 ⟨rfl, h4⟩
    go_wp2_with fail
    go_ret
    exact ⟨rfl, onto b3 h4⟩
  · go_wp2_with fail
    refine (facts5 _ L3).mono ?_
    rintro e w4 ⟨rfl, h4⟩
    go_wp2_with fail
    go_ret
    exact ⟨rfl, onto b3 h4⟩
  · rw [h6] at hE
    clear h6
    go_wp2_with fail
    refine (facts5 _ L3).mono ?_
    rintro e w4 ⟨rfl, h4⟩
    obtain ⟨x0, x1, x2, x3, x4, x5⟩ := i3.on h4
    obtain ⟨y0, y1, y2, y3, y4, y5⟩ := j3.on h4
    have b4 := onto b3 h4
    clear i3 j3 b3 L3 h4
    clear w3
    cases b
    · go_wp2_with fail
      go_ret
      exact ⟨rfl, b4⟩
    · go_wp2_with fail
      go_ret
      exact ⟨rfl, b4⟩

theorem once_walk (o s t d a i o' s' t' d' a' i' : Int) (w : World) (L : Lay5 w) :
    Calls Tryd.prog 5 #[.agg #[.int .i64 o, .int .i64 s, .int .i64 t, .int .i64 d, .int .i64 a, .int .i64 i], .agg #[.int .i64 o', .int .i64 s', .int .i64 t', .int .i64 d', .int .i64 a', .int .i64 i']] w fun e w' => e = .returned (.bool true) ∧ Below w.heap.size w w' := by
  obtain ⟨x, e, hx, hp⟩ := print_any o s t d a i
  obtain ⟨y, f, hy, hp'⟩ := print_any o' s' t' d' a' i'
  refine once_raw (b := same6 o s t d a i o' s' t' d' a' i') ?_ hp hp' w L
  rcases hx with ⟨op, ho, rfl, hg, rfl, rfl⟩ | ⟨-, -, rfl⟩
  · rcases hy with ⟨op', ho', rfl, hg', rfl, rfl⟩ | ⟨-, -, rfl⟩
    · refine Or.inr (Or.inr ⟨rfl, rfl, ?_, rfl⟩)
      rw [ByteArray.toList_eq, ByteArray.toList_eq, Bool.eq_iff_iff, same6_iff, beq_iff_eq]
      constructor
      · intro e
        obtain ⟨rfl, rfl, rfl, rfl, rfl, rfl⟩ := Asm.text_once ho ho' hg hg' (by simpa using e)
        exact ⟨rfl, rfl, rfl, rfl, rfl, rfl⟩
      · rintro ⟨e, rfl, rfl, rfl, rfl, rfl⟩
        obtain rfl : op = op' := by omega
        rfl
    · exact Or.inr (Or.inl ⟨rfl, rfl⟩)
  · exact Or.inl rfl

end Go.Proofs.YtjgidjcniladeaaDoor
