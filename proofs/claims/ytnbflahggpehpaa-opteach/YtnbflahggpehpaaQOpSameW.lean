/- With any passes operations do to any registers what they did without; they may be; they are no more. -/
import Derived.Test.YtnbflahggpehpaaQOpMay
namespace Go.Proofs.Ytnbflahggpehpaa.Ir
open Go.RowKit
set_option linter.unusedVariables false
set_option maxRecDepth 100000
set_option linter.unusedSimpArgs false

theorem put0 (R : Nat → Int) : putR R 0 0 0 = 0 := rfl

set_option maxHeartbeats 4000000 in
theorem same_cut {w : World} {ad : Option Addr} {n c K : Nat} {l : List Mi} (hnc : n ≤ c) (hK : (n ≤ 16 ∧ K = n) ∨ (16 < n ∧ K = 16)) (h : IsOps w (.slice ad K c) l) (hw : WordsM l) (hl : l.length ≤ 16) (C F D : Bool) (R : Nat → Int) (hR : ∀ k, Cp.W32 (R k)) :
    Calls Try.prog 7 #[.slice ad n c, .agg #[.bool C, .bool F, .bool D], .agg (cellsX R)] w fun e w' => e = .returned (.bool true) ∧ Below w.heap.size w w' := by
  obtain ⟨r1, r2, r3, r4, r5, r6, r7, r8, r9⟩ := rowRules
  obtain ⟨s1, s2, s3, s4, s5, s6, s7, s8, s9, s10⟩ := irSizes
  obtain ⟨q1, q2, q3, q4, q5, q6⟩ := irWhole
  have x0 := Box.new w #[.bool C, .bool F, .bool D] 30
  have g0 := grow w (.cells #[.bool C, .bool F, .bool D] 30)
  have x1 := Box.new (w.alloc (.cells #[.bool C, .bool F, .bool D] 30)) (cellsX R) 36
  have g1 := grow (w.alloc (.cells #[.bool C, .bool F, .bool D] 30)) (.cells (cellsX R) 36)
  rw [World.size_alloc] at x1
  replace x0 := x0.on g1
  have b1 := onto g0 (Nat.le_refl _) g1
  have o1 := h.on b1
  have cm := hide (lmay_any hnc hK o1)
  replace x0 := hide x0
  replace x1 := hide x1
  replace b1 := hide b1
  replace o1 := hide o1
  clear g0 g1 h hK
  go_enter Try.func7, Try.ntmps7
  go_wp2_with fail
  generalize World.alloc (World.alloc w _) _ = W1 at *
  refine cm.out.mono ?_
  rintro e w1 ⟨rfl, h1⟩
  have x2 := x0.out.on h1
  have x3 := hide (x1.out.on h1)
  have b2 := hide (onto b1.out (Nat.le_refl _) h1)
  have o2 := o1.out.on h1
  have ca := hide (all_any o2 hl hw C F D)
  have y0 := x2.cell 0
  have y1 := x2.cell 1
  have y2 := x2.cell 2
  replace o2 := hide o2
  clear cm x0 x1 b1 o1 h1 x2
  go_wp2_with fail
  refine ca.out.mono ?_
  rintro e w2 ⟨v, rfl, hS⟩
  have x4 := hide (x3.out.on hS.kept)
  have b3 := hide (onto b2.out (Nat.le_refl _) hS.kept)
  have o3 := hide (o2.out.on hS.kept)
  have o4 := hide hS.ops
  have w4 := hide hS.words
  have hg := hide (good_all C F D l hw)
  generalize allV C F D l = q at *
  clear ca x3 b2 o2 hS y0 y1 y2
  have cf := hide (fixed_any w2)
  by_cases hm : mayB l = true
  · rw [hm]
    obtain ⟨a1, n1, c1, rfl, hn1, -, -⟩ := o4.out.open'
    have hKl : K = l.length := by obtain ⟨a2, n2, c2, e, hn2, -, -⟩ := o3.out.open'; cases e; exact hn2
    have dl : Hid (n1 ≤ K) := hide (by have := hg.out.len; omega)
    have hu := hg.out.until hm (putR R 0 0) (put0 R) (putR_w hR Cp.w0 0)
    have hmq := hg.out.may hm
    obtain ⟨hr, hhr⟩ : ∃ hr, hr = [(w.heap.size + 1, R)] := ⟨_, rfl⟩
    obtain ⟨ho, hho⟩ : ∃ ho, ho = [(Value.slice a1 n1 c1, q), (Value.slice ad K c, l)] := ⟨_, rfl⟩
    have hS : (∀ p ∈ hr, Box w2.drew p.1 (cellsX p.2)) ∧ (∀ p ∈ ho, IsOps w2.drew p.1 p.2) ∧ Below w.heap.size w w2.drew := by
      refine ⟨fun p hp => ?_, fun p hp => ?_, b3.out.drew⟩
      · rw [hhr] at hp; simp at hp; subst hp; exact x4.out
      · rw [hho] at hp; simp at hp; rcases hp with rfl | rfl
        · exact o4.out.on (Below.refl _ w2).drew
        · exact o3.out.on (Below.refl _ w2).drew
    obtain ⟨rd, rc⟩ := Held.reads (w := w) (l := hr) (o := ho) (b := w.heap.size + 1) (R := R) (by rw [hhr]; simp)
    have u1 := Held.ops (w := w) (l := hr) (o := ho) (v := .slice a1 n1 c1) (ms := q) (by rw [hho]; simp)
    have u2 := Held.ops (w := w) (l := hr) (o := ho) (v := .slice ad K c) (ms := l) (by rw [hho]; simp)
    have c1' := hide (fun y : Held w hr ho => run_any (u1 y) w4.out R hR)
    have c2' := hide (fun y : Held w hr ho => run_any (u2 y) hw R hR)
    have c3' := hide (fun y : Held w hr ho => may_any (u1 y))
    have c4' := hide (fun y : Held w hr ho => fixed_any y.x)
    rw [hu] at c1'
    rw [hmq] at c3'
    generalize untilV 9223372036854775807 l (putR R 0 0) = G at *
    have eG := eqlX G
    replace hS := hide hS
    replace rd := hide rd
    replace hm := hide hm
    replace hg := hide hg
    clear x4 b3 o3 o4 w4 hu hmq cf rc u1 u2 hw hR hl hhr hho hn1 hKl hnc
    go_wp2_with fail
    refine region_calm (fun x => ∃ y : Held w hr ho, x = y.x) (by kernel_rfl) (by kernel_rfl) ⟨⟨_, hS.out⟩, rfl⟩ ?_
    replace rd := rd.out
    repeat (go_big_quiet_step (first
      | with_reducible rfl
      | (go_at_call 11; with_reducible refine (c4'.out _).mono ?_; rintro e wf ⟨rfl, bf⟩; exact ⟨rfl, Held.on _ bf, rfl⟩)
      | (go_at_call 20; with_reducible refine (c1'.out _).mono ?_; rintro e wf ⟨rfl, bf⟩; exact ⟨rfl, Held.on _ bf, rfl⟩)
      | (go_at_call 20; with_reducible refine (c2'.out _).mono ?_; rintro e wf ⟨rfl, bf⟩; exact ⟨rfl, Held.on _ bf, rfl⟩)
      | (go_at_call 21; with_reducible refine (c3'.out _).mono ?_; rintro e wf ⟨rfl, bf⟩; exact ⟨rfl, Held.on _ bf, rfl⟩)))
    refine wpQuiet_nil ?_
    rintro _ ⟨y, rfl⟩
    have hB := hide y.h.2.2
    clear c1' c2' c3' c4' rd
    go_wp2
    go_ret
    exact ⟨by simp [dl.out], hB.out⟩
  · have hm' : mayB l = false := by simpa using hm
    rw [hm']
    go_wp2_with fail
    refine cf.out.mono ?_
    rintro e w3 ⟨rfl, h3⟩
    have b4 := hide (onto b3.out (Nat.le_refl _) h3)
    clear cf h3 b3
    go_wp2
    go_ret
    exact ⟨rfl, b4.out⟩

theorem cut_len {w : World} {ad : Option Addr} {n c : Nat} {l : List Mi} (h : IsOps w (.slice ad n c) l) : l.length = n := by
  obtain ⟨a2, n2, c2, e, hn2, -, -⟩ := h.open'
  cases e
  exact hn2.symm

theorem same_walk (w : World) (v : Value) (l : List Mi) (hl : IsOps w v l) (hw : WordsM l) (hc : CapOk v) (C F D : Bool) (R : Nat → Int) (hR : ∀ k, Cp.W32 (R k)) :
    Calls Try.prog 7 #[v, .agg #[.bool C, .bool F, .bool D], .agg (cellsX R)] w fun e w' => e = .returned (.bool true) ∧ Below w.heap.size w w' := by
  obtain ⟨ad, n, c, rfl, hnc, h⟩ := cut_ops hl hw hc 16
  rcases h with ⟨hn, h, hw'⟩ | ⟨hn, h, hw'⟩
  · exact same_cut hnc (Or.inl ⟨hn, rfl⟩) h hw' (by rw [cut_len h]; exact hn) C F D R hR
  · exact same_cut hnc (Or.inr ⟨hn, rfl⟩) h hw' (by rw [cut_len h]; exact Nat.le_refl _) C F D R hR

end Go.Proofs.Ytnbflahggpehpaa.Ir
