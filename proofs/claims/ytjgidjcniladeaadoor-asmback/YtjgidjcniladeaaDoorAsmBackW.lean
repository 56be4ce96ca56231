/- The walk of the law: what is printed is parsed as it was, and the other way round. -/
import Derived.Test.YtjgidjcniladeaaDoorAsmBackM
set_option linter.unusedVariables false
set_option linter.unusedSimpArgs false
namespace Go.Proofs.YtjgidjcniladeaaDoor
open Go.RowKit Go.Shelf Go.Joins

set_option maxHeartbeats 4000000 in
theorem back_raw {io is it id ia ii jo js jt jd ja ji ko ks kt kd ka ki e f g : Int} {X S U : ByteArray} {n : Nat}
    (he : e = 0 ∨ e = 50) (hf : f = 0 ∨ f = 50) (hg : g = 0 ∨ g = 40)
    (hpI : ∀ w, Lay5 w → Calls Tryd.prog 6 #[.agg #[.int .i64 io, .int .i64 is, .int .i64 it, .int .i64 id, .int .i64 ia, .int .i64 ii]] w fun e' w' => e' = .returned (.tuple #[.string X, .int .i64 e]) ∧ Below w.heap.size w w')
    (hqX : e = 0 → ∀ w, Lay5 w → Calls Tryd.prog 7 #[.string X] w fun e' w' => e' = .returned (.tuple #[.agg #[.int .i64 io, .int .i64 is, .int .i64 it, .int .i64 id, .int .i64 ia, .int .i64 ii], .int .i64 0]) ∧ Below w.heap.size w w')
    (hqS : ∀ w, Lay5 w → Calls Tryd.prog 7 #[.string S] w fun e' w' => e' = .returned (.tuple #[.agg #[.int .i64 jo, .int .i64 js, .int .i64 jt, .int .i64 jd, .int .i64 ja, .int .i64 ji], .int .i64 f]) ∧ Below w.heap.size w w')
    (hpJ : f = 0 → ∀ w, Lay5 w → Calls Tryd.prog 6 #[.agg #[.int .i64 jo, .int .i64 js, .int .i64 jt, .int .i64 jd, .int .i64 ja, .int .i64 ji]] w fun e' w' => e' = .returned (.tuple #[.string S, .int .i64 0]) ∧ Below w.heap.size w w')
    (hD : ∀ w, Tabs w → Calls Tryd.prog 8 #[.int .u32 (n : Int)] w fun e' w' => e' = .returned (.tuple #[.agg #[.int .i64 ko, .int .i64 ks, .int .i64 kt, .int .i64 kd, .int .i64 ka, .int .i64 ki], .int .i64 g]) ∧ Below w.heap.size w w')
    (hpK : g = 0 → ∀ w, Lay5 w → Calls Tryd.prog 6 #[.agg #[.int .i64 ko, .int .i64 ks, .int .i64 kt, .int .i64 kd, .int .i64 ka, .int .i64 ki]] w fun e' w' => e' = .returned (.tuple #[.string U, .int .i64 0]) ∧ Below w.heap.size w w')
    (hL : g = 0 → ∀ w, Lay5 w → Calls Tryd.prog 10 #[.string (U ++ (⟨#[10]⟩ : ByteArray) ++ U)] w fun e' w' => (∃ v, e' = .returned (.tuple #[v, .int .i64 0]) ∧ RowAt w' v [(n : Int), (n : Int)]) ∧ Below w.heap.size w w')
    (hU : g = 0 → U.size ≤ 1000)
    (w : World) (L : Lay5 w) :
    Calls Tryd.prog 3 #[.agg #[.int .i64 io, .int .i64 is, .int .i64 it, .int .i64 id, .int .i64 ia, .int .i64 ii], .string S, .int .u32 (n : Int)] w fun e w' => e = .returned (.bool true) ∧ Below w.heap.size w w' := by
  have hN := fun w => neq24 io is it id ia ii io is it id ia ii w
  rw [show same6 io is it id ia ii io is it id ia ii = true from same6_iff.mpr ⟨rfl, rfl, rfl, rfl, rfl, rfl⟩] at hN
  have hSS : (S.toList == S.toList) = true := by simp
  go_enter Tryd.func3, Tryd.ntmps3
  go_wp2_with fail
  have b0 := grow w (.cells #[.int .i64 io, .int .i64 is, .int .i64 it, .int .i64 id, .int .i64 ia, .int .i64 ii] 23)
  have i0 := cell6 w 23 (.int .i64 io) (.int .i64 is) (.int .i64 it) (.int .i64 id) (.int .i64 ia) (.int .i64 ii)
  generalize w.alloc (.cells #[.int .i64 io, .int .i64 is, .int .i64 it, .int .i64 id, .int .i64 ia, .int .i64 ii] 23) = W0 at *
  have L0 := L.on b0
  refine (hpI _ L0).mono ?_
  rintro e1 w1 ⟨rfl, h1⟩
  have i1 := i0.on h1
  have b1 := onto b0 h1
  have L1 := L0.on h1
  clear b0 i0 L0 h1 hpI L
  clear W0
  rcases he with rfl | rfl
  · have hqX' := hqX rfl
    go_wp2_with fail
    refine (hqX' _ L1).mono ?_
    rintro e1 w2 ⟨rfl, h2⟩
    have g2 := grow w2 (.cells #[.int .i64 io, .int .i64 is, .int .i64 it, .int .i64 id, .int .i64 ia, .int .i64 ii] 23)
    have j2 := cell6 w2 23 (.int .i64 io) (.int .i64 is) (.int .i64 it) (.int .i64 id) (.int .i64 ia) (.int .i64 ii)
    have i2 := (i1.on h2).on g2
    have bX := onto (onto b1 h2) g2
    have LX := (L1.on h2).on g2
    clear h2 g2 i1 b1 L1 hqX hqX'
    obtain ⟨p0, p1, p2, p3, p4, p5⟩ := i2
    obtain ⟨q0, q1, q2, q3, q4, q5⟩ := j2
    go_wp2_with fail
    clear p0 p1 p2 p3 p4 p5 q0 q1 q2 q3 q4 q5
    refine (hqS _ LX).mono ?_
    rintro e1 w3 ⟨rfl, h3⟩
    have g3 := grow w3 (.cells #[.int .i64 jo, .int .i64 js, .int .i64 jt, .int .i64 jd, .int .i64 ja, .int .i64 ji] 23)
    have j3 := cell6 w3 23 (.int .i64 jo) (.int .i64 js) (.int .i64 jt) (.int .i64 jd) (.int .i64 ja) (.int .i64 ji)
    have b3 := onto (onto bX h3) g3
    have L3 := (LX.on h3).on g3
    clear h3 g3 bX LX hqS
    rcases hf with rfl | rfl
    · have hpJ' := hpJ rfl
      obtain ⟨q0, q1, q2, q3, q4, q5⟩ := j3
      go_wp2_with fail
      generalize w3.alloc (.cells #[.int .i64 jo, .int .i64 js, .int .i64 jt, .int .i64 jd, .int .i64 ja, .int .i64 ji] 23) = W3 at *
      refine (hpJ' _ L3).mono ?_
      rintro e1 w4 ⟨rfl, h4⟩
      have bY := onto b3 h4
      have LY := L3.on h4
      clear q0 q1 q2 q3 q4 q5 b3 L3 h4 hpJ hpJ'
      go_wp2_with fail
      refine (hD _ LY.tabs).mono ?_
      rintro e1 w5 ⟨rfl, h5⟩
      have g5 := grow w5 (.cells #[.int .i64 ko, .int .i64 ks, .int .i64 kt, .int .i64 kd, .int .i64 ka, .int .i64 ki] 23)
      have k5 := cell6 w5 23 (.int .i64 ko) (.int .i64 ks) (.int .i64 kt) (.int .i64 kd) (.int .i64 ka) (.int .i64 ki)
      have b5 := onto (onto bY h5) g5
      have L5 := (LY.on h5).on g5
      clear h5 g5 bY LY hD
      rcases hg with rfl | rfl
      · have hpK' := hpK rfl
        have hL' := hL rfl
        have hU' := hU rfl
        obtain ⟨q0, q1, q2, q3, q4, q5⟩ := k5
        go_wp2_with fail
        generalize w5.alloc (.cells #[.int .i64 ko, .int .i64 ks, .int .i64 kt, .int .i64 kd, .int .i64 ka, .int .i64 ki] 23) = W5 at *
        refine (hpK' _ L5).mono ?_
        rintro e1 w6 ⟨rfl, h6⟩
        have b6 := onto b5 h6
        have L6 := L5.on h6
        clear q0 q1 q2 q3 q4 q5 b5 L5 h6 hpK hpK' hL hU
        go_wp2_with fail
        refine (hL' _ L6).mono ?_
        rintro e1 w7 ⟨⟨v7, rfl, r7⟩, h7⟩
        have b7 := onto b6 h7
        have L7 := L6.on h7
        clear b6 L6 h7 hL'
        have g7 := grow w7 (.cells #[.int .u32 (n : Int), .int .u32 (n : Int)] 24)
        have rn := row_two w7 (n : Int) (n : Int)
        have hS2 := same_any (w7.alloc (.cells #[.int .u32 (n : Int), .int .u32 (n : Int)] 24)) v7 _ [(n : Int), (n : Int)] [(n : Int), (n : Int)] (by simp) (by simp) (r7.on g7) rn
        rw [decide_eq_true rfl] at hS2
        clear rn r7
        go_wp2_with fail
        refine hS2.mono ?_
        rintro e w8 ⟨rfl, h8⟩
        have b8 := onto (onto b7 g7) h8
        have L8 := (L7.on g7).on h8
        clear hS2 b7 g7 h8 L7
        go_wp2_with fail
        refine (facts5 _ L8).mono ?_
        rintro e w9 ⟨rfl, h9⟩
        go_wp2_with fail
        go_ret
        exact ⟨rfl, onto b8 h9⟩
      · clear hpK hL hU k5
        go_wp2_with fail
        generalize w5.alloc (.cells #[.int .i64 ko, .int .i64 ks, .int .i64 kt, .int .i64 kd, .int .i64 ka, .int .i64 ki] 23) = W5 at *
        refine (facts5 _ L5).mono ?_
        rintro e w6 ⟨rfl, h6⟩
        go_wp2_with fail
        go_ret
        exact ⟨rfl, onto b5 h6⟩
    · have bY := b3
      have LY := L3
      clear j3 b3 L3 hpJ
      go_wp2_with fail
      refine (hD _ LY.tabs).mono ?_
      rintro e1 w5 ⟨rfl, h5⟩
      have g5 := grow w5 (.cells #[.int .i64 ko, .int .i64 ks, .int .i64 kt, .int .i64 kd, .int .i64 ka, .int .i64 ki] 23)
      have k5 := cell6 w5 23 (.int .i64 ko) (.int .i64 ks) (.int .i64 kt) (.int .i64 kd) (.int .i64 ka) (.int .i64 ki)
      have b5 := onto (onto bY h5) g5
      have L5 := (LY.on h5).on g5
      clear h5 g5 bY LY hD
      rcases hg with rfl | rfl
      · have hpK' := hpK rfl
        have hL' := hL rfl
        have hU' := hU rfl
        obtain ⟨q0, q1, q2, q3, q4, q5⟩ := k5
        go_wp2_with fail
        generalize w5.alloc (.cells #[.int .i64 ko, .int .i64 ks, .int .i64 kt, .int .i64 kd, .int .i64 ka, .int .i64 ki] 23) = W5 at *
        refine (hpK' _ L5).mono ?_
        rintro e1 w6 ⟨rfl, h6⟩
        have b6 := onto b5 h6
        have L6 := L5.on h6
        clear q0 q1 q2 q3 q4 q5 b5 L5 h6 hpK hpK' hL hU
        go_wp2_with fail
        refine (hL' _ L6).mono ?_
        rintro e1 w7 ⟨⟨v7, rfl, r7⟩, h7⟩
        have b7 := onto b6 h7
        have L7 := L6.on h7
        clear b6 L6 h7 hL'
        have g7 := grow w7 (.cells #[.int .u32 (n : Int), .int .u32 (n : Int)] 24)
        have rn := row_two w7 (n : Int) (n : Int)
        have hS2 := same_any (w7.alloc (.cells #[.int .u32 (n : Int), .int .u32 (n : Int)] 24)) v7 _ [(n : Int), (n : Int)] [(n : Int), (n : Int)] (by simp) (by simp) (r7.on g7) rn
        rw [decide_eq_true rfl] at hS2
        clear rn r7
        go_wp2_with fail
        refine hS2.mono ?_
        rintro e w8 ⟨rfl, h8⟩
        have b8 := onto (onto b7 g7) h8
        have L8 := (L7.on g7).on h8
        clear hS2 b7 g7 h8 L7
        go_wp2_with fail
        refine (facts5 _ L8).mono ?_
        rintro e w9 ⟨rfl, h9⟩
        go_wp2_with fail
        go_ret
        exact ⟨rfl, onto b8 h9⟩
      · clear hpK hL hU k5
        go_wp2_with fail
        generalize w5.alloc (.cells #[.int .i64 ko, .int .i64 ks, .int .i64 kt, .int .i64 kd, .int .i64 ka, .int .i64 ki] 23) = W5 at *
        refine (facts5 _ L5).mono ?_
        rintro e w6 ⟨rfl, h6⟩
        go_wp2_with fail
        go_ret
        exact ⟨rfl, onto b5 h6⟩
  · have bX := b1
    have LX := L1
    clear i1 b1 L1 hqX
    go_wp2_with fail
    refine (hqS _ LX).mono ?_
    rintro e1 w3 ⟨rfl, h3⟩
    have g3 := grow w3 (.cells #[.int .i64 jo, .int .i64 js, .int .i64 jt, .int .i64 jd, .int .i64 ja, .int .i64 ji] 23)
    have j3 := cell6 w3 23 (.int .i64 jo) (.int .i64 js) (.int .i64 jt) (.int .i64 jd) (.int .i64 ja) (.int .i64 ji)
    have b3 := onto (onto bX h3) g3
    have L3 := (LX.on h3).on g3
    clear h3 g3 bX LX hqS
    rcases hf with rfl | rfl
    · have hpJ' := hpJ rfl
      obtain ⟨q0, q1, q2, q3, q4, q5⟩ := j3
      go_wp2_with fail
      generalize w3.alloc (.cells #[.int .i64 jo, .int .i64 js, .int .i64 jt, .int .i64 jd, .int .i64 ja, .int .i64 ji] 23) = W3 at *
      refine (hpJ' _ L3).mono ?_
      rintro e1 w4 ⟨rfl, h4⟩
      have bY := onto b3 h4
      have LY := L3.on h4
      clear q0 q1 q2 q3 q4 q5 b3 L3 h4 hpJ hpJ'
      go_wp2_with fail
      refine (hD _ LY.tabs).mono ?_
      rintro e1 w5 ⟨rfl, h5⟩
      have g5 := grow w5 (.cells #[.int .i64 ko, .int .i64 ks, .int .i64 kt, .int .i64 kd, .int .i64 ka, .int .i64 ki] 23)
      have k5 := cell6 w5 23 (.int .i64 ko) (.int .i64 ks) (.int .i64 kt) (.int .i64 kd) (.int .i64 ka) (.int .i64 ki)
      have b5 := onto (onto bY h5) g5
      have L5 := (LY.on h5).on g5
      clear h5 g5 bY LY hD
      rcases hg with rfl | rfl
      · have hpK' := hpK rfl
        have hL' := hL rfl
        have hU' := hU rfl
        obtain ⟨q0, q1, q2, q3, q4, q5⟩ := k5
        go_wp2_with fail
        generalize w5.alloc (.cells #[.int .i64 ko, .int .i64 ks, .int .i64 kt, .int .i64 kd, .int .i64 ka, .int .i64 ki] 23) = W5 at *
        refine (hpK' _ L5).mono ?_
        rintro e1 w6 ⟨rfl, h6⟩
        have b6 := onto b5 h6
        have L6 := L5.on h6
        clear q0 q1 q2 q3 q4 q5 b5 L5 h6 hpK hpK' hL hU
        go_wp2_with fail
        refine (hL' _ L6).mono ?_
        rintro e1 w7 ⟨⟨v7, rfl, r7⟩, h7⟩
        have b7 := onto b6 h7
        have L7 := L6.on h7
        clear b6 L6 h7 hL'
        have g7 := grow w7 (.cells #[.int .u32 (n : Int), .int .u32 (n : Int)] 24)
        have rn := row_two w7 (n : Int) (n : Int)
        have hS2 := same_any (w7.alloc (.cells #[.int .u32 (n : Int), .int .u32 (n : Int)] 24)) v7 _ [(n : Int), (n : Int)] [(n : Int), (n : Int)] (by simp) (by simp) (r7.on g7) rn
        rw [decide_eq_true rfl] at hS2
        clear rn r7
        go_wp2_with fail
        refine hS2.mono ?_
        rintro e w8 ⟨rfl, h8⟩
        have b8 := onto (onto b7 g7) h8
        have L8 := (L7.on g7).on h8
        clear hS2 b7 g7 h8 L7
        go_wp2_with fail
        refine (facts5 _ L8).mono ?_
        rintro e w9 ⟨rfl, h9⟩
        go_wp2_with fail
        go_ret
        exact ⟨rfl, onto b8 h9⟩
      · clear hpK hL hU k5
        go_wp2_with fail
        generalize w5.alloc (.cells #[.int .i64 ko, .int .i64 ks, .int .i64 kt, .int .i64 kd, .int .i64 ka, .int .i64 ki] 23) = W5 at *
        refine (facts5 _ L5).mono ?_
        rintro e w6 ⟨rfl, h6⟩
        go_wp2_with fail
        go_ret
        exact ⟨rfl, onto b5 h6⟩
    · have bY := b3
      have LY := L3
      clear j3 b3 L3 hpJ
      go_wp2_with fail
      refine (hD _ LY.tabs).mono ?_
      rintro e1 w5 ⟨rfl, h5⟩
      have g5 := grow w5 (.cells #[.int .i64 ko, .int .i64 ks, .int .i64 kt, .int .i64 kd, .int .i64 ka, .int .i64 ki] 23)
      have k5 := cell6 w5 23 (.int .i64 ko) (.int .i64 ks) (.int .i64 kt) (.int .i64 kd) (.int .i64 ka) (.int .i64 ki)
      have b5 := onto (onto bY h5) g5
      have L5 := (LY.on h5).on g5
      clear h5 g5 bY LY hD
      rcases hg with rfl | rfl
      · have hpK' := hpK rfl
        have hL' := hL rfl
        have hU' := hU rfl
        obtain ⟨q0, q1, q2, q3, q4, q5⟩ := k5
        go_wp2_with fail
        generalize w5.alloc (.cells #[.int .i64 ko, .int .i64 ks, .int .i64 kt, .int .i64 kd, .int .i64 ka, .int .i64 ki] 23) = W5 at *
        refine (hpK' _ L5).mono ?_
        rintro e1 w6 ⟨rfl, h6⟩
        have b6 := onto b5 h6
        have L6 := L5.on h6
        clear q0 q1 q2 q3 q4 q5 b5 L5 h6 hpK hpK' hL hU
        go_wp2_with fail
        refine (hL' _ L6).mono ?_
        rintro e1 w7 ⟨⟨v7, rfl, r7⟩, h7⟩
        have b7 := onto b6 h7
        have L7 := L6.on h7
        clear b6 L6 h7 hL'
        have g7 := grow w7 (.cells #[.int .u32 (n : Int), .int .u32 (n : Int)] 24)
        have rn := row_two w7 (n : Int) (n : Int)
        have hS2 := same_any (w7.alloc (.cells #[.int .u32 (n : Int), .int .u32 (n : Int)] 24)) v7 _ [(n : Int), (n : Int)] [(n : Int), (n : Int)] (by simp) (by simp) (r7.on g7) rn
        rw [decide_eq_true rfl] at hS2
        clear rn r7
        go_wp2_with fail
        refine hS2.mono ?_
        rintro e w8 ⟨rfl, h8⟩
        have b8 := onto (onto b7 g7) h8
        have L8 := (L7.on g7).on h8
        clear hS2 b7 g7 h8 L7
        go_wp2_with fail
        refine (facts5 _ L8).mono ?_
        rintro e w9 ⟨rfl, h9⟩
        go_wp2_with fail
        go_ret
        exact ⟨rfl, onto b8 h9⟩
      · clear hpK hL hU k5
        go_wp2_with fail
        generalize w5.alloc (.cells #[.int .i64 ko, .int .i64 ks, .int .i64 kt, .int .i64 kd, .int .i64 ka, .int .i64 ki] 23) = W5 at *
        refine (facts5 _ L5).mono ?_
        rintro e w6 ⟨rfl, h6⟩
        go_wp2_with fail
        go_ret
        exact ⟨rfl, onto b5 h6⟩

theorem back_walk5 (io is it id ia ii : Int) (S : ByteArray) (hs : S.size ≤ 140737488351232) (n : Int) (hn : (Lit.int .u32 n).wf = true) (w : World) (L : Lay5 w) :
    Calls Tryd.prog 3 #[.agg #[.int .i64 io, .int .i64 is, .int .i64 it, .int .i64 id, .int .i64 ia, .int .i64 ii], .string S, .int .u32 n] w fun e w' => e = .returned (.bool true) ∧ Below w.heap.size w w' := by
  obtain ⟨m, rfl, hm⟩ : ∃ m : Nat, n = (m : Int) ∧ m < 4294967296 := by
    have : 0 ≤ n ∧ n ≤ 4294967295 := by simpa [Lit.wf, IntKind.min, IntKind.max, IntKind.signed, IntKind.bits] using hn
    exact ⟨n.toNat, by omega, by omega⟩
  obtain ⟨x, e, hx, hpI⟩ := print_any io is it id ia ii
  obtain ⟨jo, js, jt, jd, ja, ji, f, hj, hqS⟩ := parse_any S (by omega)
  obtain ⟨ko, ks, kt, kd, ka, ki, g, hk, hD⟩ := decode_any m hm
  obtain ⟨u, h, hu, hpK⟩ := print_any ko ks kt kd ka ki
  have he : e = 0 ∨ e = 50 := by
    rcases hx with ⟨_, _, _, _, _, rfl⟩ | ⟨_, _, rfl⟩
    · exact Or.inl rfl
    · exact Or.inr rfl
  have hf : f = 0 ∨ f = 50 := by
    rcases hj with ⟨_, _, _, _, _, rfl⟩ | ⟨_, _, _, _, _, _, _, rfl⟩
    · exact Or.inl rfl
    · exact Or.inr rfl
  have hg : g = 0 ∨ g = 40 := by
    rcases hk with ⟨_, _, _, _, _, _, _, _, _, rfl⟩ | ⟨_, _, _, _, _, _, _, rfl⟩
    · exact Or.inl rfl
    · exact Or.inr rfl
  have hkey : g = 0 → ∃ op, op < 69 ∧ ko = ((op : Nat) : Int) ∧ Good op ks kt kd ka ki ∧ Dec.laid op ks kt kd ka ki = m ∧ u = Asm.text op [ks, kt, kd, ka, ki] ∧ h = 0 := by
    rintro rfl
    obtain ⟨op, ho, rfl, hgd, hl⟩ := told_good hk
    rcases hu with ⟨op', ho', eo, hg', rfl, rfl⟩ | ⟨hno, -, -⟩
    · obtain rfl : op = op' := by omega
      exact ⟨op, ho, rfl, hgd, hl, rfl, rfl⟩
    · exact absurd hgd (hno op ho rfl)
  refine back_raw (U := ⟨u.toArray⟩) he hf hg hpI ?_ hqS ?_ hD ?_ ?_ ?_ w L
  · rintro rfl w L
    rcases hx with ⟨op, ho, rfl, hgd, rfl, -⟩ | ⟨-, -, h0⟩
    · obtain ⟨o, a0, a1, a2, a3, a4, e', hgot, hc⟩ := parse_any ⟨(Asm.text op [is, it, id, ia, ii]).toArray⟩ (by
        have := Asm.text_short op ho [is, it, id, ia, ii] (Asm.full_good ho hgd).2
        show (Asm.text op [is, it, id, ia, ii]).length ≤ _
        omega)
      obtain ⟨rfl, rfl, rfl, rfl, rfl, rfl, rfl⟩ := Asm.Got.one hgot (Or.inl ⟨op, ho, rfl, hgd, rfl, rfl⟩)
      exact hc w L
    · cases h0
  · rintro rfl w L
    rcases hj with ⟨op, ho, rfl, hgd, hS, -⟩ | ⟨-, -, -, -, -, -, -, h0⟩
    · obtain ⟨y, e', hy, hc⟩ := print_any (op : Int) js jt jd ja ji
      rcases hy with ⟨op', ho', eo, hg', rfl, rfl⟩ | ⟨hno, -, -⟩
      · obtain rfl : op = op' := by omega
        have := hc w L
        rw [← hS] at this
        exact this
      · exact absurd hgd (hno op ho rfl)
    · cases h0
  · intro hg0 w L
    obtain ⟨op, ho, rfl, hgd, hl, rfl, rfl⟩ := hkey hg0
    exact hpK w L
  · intro hg0 w L
    obtain ⟨op, ho, rfl, hgd, hl, rfl, rfl⟩ := hkey hg0
    exact lines_back op ho ks kt kd ka ki hgd m hl w L
  · intro hg0
    obtain ⟨op, ho, rfl, hgd, hl, rfl, rfl⟩ := hkey hg0
    have := Asm.text_short op ho [ks, kt, kd, ka, ki] (Asm.full_good ho hgd).2
    show (Asm.text op [ks, kt, kd, ka, ki]).length ≤ _
    omega

end Go.Proofs.YtjgidjcniladeaaDoor
