/- A clone and its original go their own ways. -/
import Derived.Test.YtbbofbilagaihaaMemText
namespace Go.Proofs.Ytbbofbilagaihaa
open Go.RowKit
set_option linter.unusedVariables false
set_option linter.unusedSimpArgs false

/-- Whatever is stored: there is a memory behind it, and nothing but its pages has changed. -/
theorem store_all {w : World} {p g n c : Nat} {B : Nat → Nat} {D : Nat → Bool} (M : Mem w p g n c B D) (a v : Nat) (z : Int) (ha : a < 4294967296) (hv : v < 4294967296) :
    Calls Try.prog 17 #[.pointer (some ⟨p, 0, none⟩), .int .u32 (a : Int), .int .i64 z, .int .u32 (v : Int)] w fun e w' =>
      ∃ err : Int, e = .returned (.int .i64 err) ∧ (∃ B' D', Mem w' p g n c B' D') ∧ w.grownBy w' (some g) := by
  by_cases hm : (z = 1 ∨ z = 2 ∨ z = 4) ∧ (a : Int) % z = 0 ∧ (a : Int) + z ≤ 256 * n
  · obtain ⟨s, rfl⟩ : ∃ s : Nat, z = (s : Int) := ⟨z.toNat, by omega⟩
    have hm2 : may n a s := by unfold may; omega
    refine (store_any M a s v ha hv hm2).mono ?_
    rintro e w' ⟨rfl, M', g'⟩
    exact ⟨0, rfl, ⟨_, _, M'⟩, g'⟩
  · refine (store_bad M (a : Int) z (v : Int) (by omega) (by omega) hm).mono ?_
    rintro e w' ⟨rfl, rfl⟩
    exact ⟨61, rfl, ⟨_, _, M⟩, grownBy_refl _ _⟩

/-- What is known of a row of calls, in one way for all of them. -/
theorem IsOps.open' {w : World} {v : Value} {ops : List Act6} (h : IsOps w v ops) :
    ∃ ad n c, v = .slice ad n c ∧ n = ops.length ∧ n ≤ maxLen ∧ ∀ (i : Nat) (o : Act6), ops[i]? = some o → o.Fits ∧ ∃ b off, ad = some ⟨b, off, none⟩ ∧ o.At w b (off + i * 6) := by
  rcases h with ⟨a, c, rfl, rfl⟩ | ⟨b, off, c, rfl, hc, hl, hx⟩
  · exact ⟨a, 0, c, rfl, rfl, Nat.zero_le _, fun i o h => by simp at h⟩
  · exact ⟨_, _, c, rfl, rfl, hl, fun i o h => ⟨(hx i o h).1, b, off, rfl, (hx i o h).2⟩⟩

/-- Three fields of a call, a memory that stands somehow, another one that stands so, and nothing old has changed. -/
structure Held (w : World) (b o : Nat) (a z v : Value) (p g c : Nat) (Q : World → Prop) (x : World) : Prop where
  c1 : x.cell? ⟨b, o + 1, none⟩ = some a
  c2 : x.cell? ⟨b, o + 2, none⟩ = some z
  c3 : x.cell? ⟨b, o + 3, none⟩ = some v
  m : ∃ B D, Mem x p g 4 c B D
  q : Q x
  be : Below w.heap.size w x

theorem Held.parts {w : World} {b o : Nat} {a z v : Value} {p g c : Nat} {Q : World → Prop} {x : World} (h : Held w b o a z v p g c Q x) :
    x.cell? ⟨b, o + 1, none⟩ = some a ∧ x.cell? ⟨b, o + 2, none⟩ = some z ∧ x.cell? ⟨b, o + 3, none⟩ = some v ∧ Held w b o a z v p g c Q x := ⟨h.c1, h.c2, h.c3, h⟩

theorem Held.store {w : World} {b o : Nat} {A V : Nat} {z : Int} {p g c : Nat} {Q : World → Prop} {x : World} (h : Held w b o (.int .u32 (A : Int)) (.int .i64 z) (.int .u32 (V : Int)) p g c Q x)
    (ha : A < 4294967296) (hv : V < 4294967296) (hb : b < w.heap.size) (hg : w.heap.size ≤ g) (hQ : ∀ x y, Q x → x.grownBy y (some g) → Q y) :
    Calls Try.prog 17 #[.pointer (some ⟨p, 0, none⟩), .int .u32 (A : Int), .int .i64 z, .int .u32 (V : Int)] x fun e y => ∃ err : Int, e = .returned (.int .i64 err) ∧ Held w b o (.int .u32 (A : Int)) (.int .i64 z) (.int .u32 (V : Int)) p g c Q y := by
  obtain ⟨B, D, M⟩ := h.m
  refine (store_all M A V z ha hv).mono ?_
  rintro e y ⟨err, rfl, M', G⟩
  have hb2 : b < x.heap.size := Nat.lt_of_lt_of_le hb h.be.size
  have e1 : y.heap[b]? = x.heap[b]? := G.block b hb2 (by simp; omega)
  have c : ∀ k, y.cell? ⟨b, k, none⟩ = x.cell? ⟨b, k, none⟩ := fun k => World.cell?_of_block (a := ⟨b, k, none⟩) e1
  exact ⟨err, rfl, by rw [c, h.c1], by rw [c, h.c2], by rw [c, h.c3], M', hQ _ _ h.q G, grown_below h.be G h.be.size hg⟩

theorem held_drew {w : World} {b o : Nat} {a z v : Value} {p g c : Nat} {Q : World → Prop} {x : World} (h : Held w b o a z v p g c Q x) (hQ : Q x → Q x.drew) : Held w b o a z v p g c Q x.drew :=
  ⟨h.c1, h.c2, h.c3, let ⟨B, D, M⟩ := h.m; ⟨B, D, M.drew⟩, hQ h.q, h.be.drew⟩

theorem own_len {w : World} {base n : Nat} {v : Value} {xs : List Value} (h : w.ownsRow base 3 1 v n xs) : ∃ a c, v = .slice a n c := by
  rcases h with ⟨hl, ⟨rfl, rfl⟩ | ⟨g, cap, cur, rfl, -⟩⟩
  · exact ⟨_, _, rfl⟩
  · exact ⟨_, _, rfl⟩

theorem two_ways {k n m : Nat} (h : ¬ (k < n ∧ k < m)) : (decide ((k : Int) < (n : Int)) = true ∧ (k : Int) < (n : Int) ∧ decide ((k : Int) < (m : Int)) = false ∧ ¬ (k : Int) < (m : Int)) ∨ (decide ((k : Int) < (n : Int)) = false ∧ ¬ (k : Int) < (n : Int)) := by
  by_cases h1 : k < n
  · exact Or.inl ⟨by simp; omega, by omega, by simp; omega, by omega⟩
  · exact Or.inr ⟨by simp; omega, by omega⟩

set_option maxHeartbeats 4000000 in
set_option maxRecDepth 100000 in
theorem apart_walk (w : World) (v0 : Value) (o0 : List Act6) (w0 : IsOps w v0 o0) (v1 : Value) (o1 : List Act6) (w1 : IsOps w v1 o1) :
    Calls Try.prog 8 #[v0, v1] w fun e w' => e = .returned (.bool true) ∧ Below w.heap.size w w' := by
  obtain ⟨ad0, n0, k0, rfl, hn0, hm0, hx0⟩ := w0.open'
  obtain ⟨ad1, n1, k1, rfl, hn1, hm1, hx1⟩ := w1.open'
  unfold maxLen at hm0 hm1
  replace hn0 := hide hn0
  replace hn1 := hide hn1
  replace hx0 := hide hx0
  replace hx1 := hide hx1
  clear w0 w1
  go_enter Try.func8, Try.ntmps8
  go_wp2_with fail
  refine (new_any 4 (by decide) (by decide) w).mono ?_
  rintro e w2 ⟨p, g, rfl, M2, hp, hg, b2⟩
  replace M2 := hide M2
  replace b2 := hide b2
  go_wp2_with fail
  go_loopw [7] (fun i wr => ∃ k : Nat, k ≤ 60 ∧ i = .int .i64 k ∧ Hid (∃ B D, Mem wr p g 4 4 B D) ∧ Hid (Below w.heap.size w wr)) (fun i _ => 60 - (intOf i).toNat)
  case atStart => exact ⟨0, by omega, rfl, hide ⟨_, _, M2.out⟩, b2⟩
  case round =>
    clear M2 b2
    obtain ⟨k, hk, rfl, M, G⟩ := hrel
    by_cases hc : k < n0 ∧ k < 60
    · · have h1 := hc.1
        have h2 := hc.2
        have d1 : decide ((k : Int) < (n0 : Int)) = true := by simp; omega
        have d2 : decide ((k : Int) < 60) = true := by simp; omega
        have d3 : (k : Int) < (n0 : Int) := by omega
        obtain ⟨o, ho⟩ : ∃ o, o0[k]? = some o := ⟨_, List.getElem?_eq_getElem (by rw [← hn0.out]; exact h1)⟩
        obtain ⟨hF, b, off, rfl, hat⟩ := hx0.out k o ho
        have hbw : b < w.heap.size := cell_in hat.c0
        obtain ⟨kd, A, z, V, nn, mo⟩ := o
        have fa : A < 4294967296 := hF.a
        have fv : V < 4294967296 := hF.v
        have hat2 := hat.on G.out
        have S0 : wr.drew.cell? ⟨b, off + k * 6 + 1, none⟩ = some (.int .u32 (A : Int)) ∧ wr.drew.cell? ⟨b, off + k * 6 + 2, none⟩ = some (.int .i64 z) ∧ wr.drew.cell? ⟨b, off + k * 6 + 3, none⟩ = some (.int .u32 (V : Int)) ∧ Held w b (off + k * 6) (.int .u32 (A : Int)) (.int .i64 z) (.int .u32 (V : Int)) p g 4 (fun _ => True) wr.drew :=
          Held.parts (held_drew ⟨hat2.c1, hat2.c2, hat2.c3, M.out, trivial, G.out⟩ (fun _ => trivial))
        clear hat hat2 M G ho hF
        go_wp2_with fail
        go_region_held3 (fun x => x.cell? ⟨b, off + k * 6 + 1, none⟩ = some (.int .u32 (A : Int)) ∧ x.cell? ⟨b, off + k * 6 + 2, none⟩ = some (.int .i64 z) ∧ x.cell? ⟨b, off + k * 6 + 3, none⟩ = some (.int .u32 (V : Int)) ∧ Held w b (off + k * 6) (.int .u32 (A : Int)) (.int .i64 z) (.int .u32 (V : Int)) p g 4 (fun _ => True) x) (first | exact S0 | assumption | exact Held.parts (by assumption)) (first | (go_at_call 17; refine (Held.store (And.right (And.right (And.right (by assumption)))) fa fv hbw hg (fun _ _ _ _ => trivial)).mono ?_; rintro e w' ⟨err, rfl, hh⟩))
        have H := hide hh
        clear S0 hh
        go_wp2
        go_roundw
        case rel => exact ⟨k + 1, by omega, by go_num, hide H.out.m, hide H.out.be⟩
        case measure => simp [intOf]; omega
    · have tw := two_ways hc
      clear hc hx0 hn0
      rcases tw with ⟨d1, d2, d3, d4⟩ | ⟨d1, d2⟩
      all_goals
        obtain ⟨B, D, Mk⟩ := M.out
        clear M
        go_wp2_with fail
        refine (image_any Mk).mono ?_
        rintro e w3 ⟨rfl, b3⟩
        have M3 := Mk.on b3
        have G3 := G.out.trans (b3.mono G.out.size)
        clear Mk G b3
        obtain ⟨T, hT⟩ : ∃ T, Hid (T = textOf (256 * 4) B) := ⟨_, hide rfl⟩
        rw [← hT.out]
        go_wp2_with fail
        refine (dirty_any M3).mono ?_
        rintro e w4 ⟨⟨v, rfl, O⟩, b4⟩
        obtain ⟨av, cv, rfl⟩ := own_len O
        have hL1 := dirts_len D 4
        obtain ⟨L, hL⟩ : ∃ L, Hid (L = (dirts D 4).length) := ⟨_, hide rfl⟩
        rw [← hL.out] at hL1 ⊢
        have M4 := M3.on b4
        have G4 := G3.trans (b4.mono G3.size)
        clear M3 G3 b4 O
        go_wp2_with fail
        refine (clone_any M4).mono ?_
        rintro e w5 ⟨p', g', c', rfl, C5, hp', hg', b5⟩
        have M5 := M4.on b5
        have G5 := G4.trans (b5.mono G4.size)
        have q1 : p ≠ g' := by have := M4.zp; omega
        have q2 : g ≠ g' := by have := M4.zg; omega
        have hfar : ∀ x y, Mem x p g 4 4 B D → x.grownBy y (some g') → Mem y p g 4 4 B D := fun x y h k => h.far k q1 q2
        have hgw : w.heap.size ≤ g' := by have := G4.size; omega
        clear M4 G4 b5 hp' hg' d1 d2
        replace C5 := hide C5
        replace M5 := hide M5
        replace G5 := hide G5
        go_wp2_with fail
        go_loopw [11] (fun i wr => ∃ k : Nat, k ≤ 60 ∧ i = .int .i64 k ∧ Hid (∃ B' D', Mem wr p' g' 4 c' B' D') ∧ Hid (Mem wr p g 4 4 B D) ∧ Hid (Below w.heap.size w wr)) (fun i _ => 60 - (intOf i).toNat)
        case atStart => exact ⟨0, by omega, rfl, hide ⟨_, _, C5.out⟩, M5, G5⟩
        case round =>
          clear C5 M5 G5
          obtain ⟨k, hk, rfl, C, M, G⟩ := hrel
          by_cases hc : k < n1 ∧ k < 60
          · have h1 := hc.1
            have h2 := hc.2
            have d1 : decide ((k : Int) < (n1 : Int)) = true := by simp; omega
            have d2 : decide ((k : Int) < 60) = true := by simp; omega
            have d3 : (k : Int) < (n1 : Int) := by omega
            obtain ⟨o, ho⟩ : ∃ o, o1[k]? = some o := ⟨_, List.getElem?_eq_getElem (by rw [← hn1.out]; exact h1)⟩
            obtain ⟨hF, b, off, rfl, hat⟩ := hx1.out k o ho
            have hbw : b < w.heap.size := cell_in hat.c0
            obtain ⟨kd, A, z, V, nn, mo⟩ := o
            have fa : A < 4294967296 := hF.a
            have fv : V < 4294967296 := hF.v
            have hat2 := hat.on G.out
            have S0 : wr.drew.cell? ⟨b, off + k * 6 + 1, none⟩ = some (.int .u32 (A : Int)) ∧ wr.drew.cell? ⟨b, off + k * 6 + 2, none⟩ = some (.int .i64 z) ∧ wr.drew.cell? ⟨b, off + k * 6 + 3, none⟩ = some (.int .u32 (V : Int)) ∧ Held w b (off + k * 6) (.int .u32 (A : Int)) (.int .i64 z) (.int .u32 (V : Int)) p' g' c' (fun x => Mem x p g 4 4 B D) wr.drew :=
              Held.parts (held_drew ⟨hat2.c1, hat2.c2, hat2.c3, C.out, M.out, G.out⟩ (fun h => h.drew))
            clear hat hat2 C M G ho hF
            go_wp2_with fail
            go_region_held3 (fun x => x.cell? ⟨b, off + k * 6 + 1, none⟩ = some (.int .u32 (A : Int)) ∧ x.cell? ⟨b, off + k * 6 + 2, none⟩ = some (.int .i64 z) ∧ x.cell? ⟨b, off + k * 6 + 3, none⟩ = some (.int .u32 (V : Int)) ∧ Held w b (off + k * 6) (.int .u32 (A : Int)) (.int .i64 z) (.int .u32 (V : Int)) p' g' c' (fun x => Mem x p g 4 4 B D) x) (first | exact S0 | assumption | exact Held.parts (by assumption)) (first | (go_at_call 17; refine (Held.store (And.right (And.right (And.right (by assumption)))) fa fv hbw hgw hfar).mono ?_; rintro e w' ⟨err, rfl, hh⟩))
            obtain ⟨B', D', C'⟩ := hh.m
            have M' := hh.q
            have G' := hh.be
            clear S0 hh
            go_wp2_with fail
            refine (clean_any C').mono ?_
            rintro e w6 ⟨rfl, C6, g6⟩
            have M6 := hide (M'.far g6 q1 q2)
            have G6 := hide (grown_below G' g6 G'.size hgw)
            replace C6 := hide C6
            clear C' M' G' g6
            go_wp2
            go_roundw
            case rel => exact ⟨k + 1, by omega, by go_num, hide ⟨_, _, C6.out⟩, M6, G6⟩
            case measure => simp [intOf]; omega
          · have tw := two_ways hc
            clear hc hx1 hn1 C
            rcases tw with ⟨d1, d2, d3, d4⟩ | ⟨d1, d2⟩
            all_goals
              go_wp2_with fail
              refine (image_any M.out).mono ?_
              rw [← hT.out]
              rintro e w6 ⟨rfl, b6⟩
              have M6 := M.out.on b6
              have G6 := G.out.trans (b6.mono G.out.size)
              clear M G b6
              go_wp2_with fail
              refine (dirty_any M6).mono ?_
              rintro e w7 ⟨⟨v, rfl, O⟩, b7⟩
              obtain ⟨aw, cw, rfl⟩ := own_len O
              rw [← hL.out]
              have G7 := G6.trans (b7.mono G6.size)
              clear M6 G6 b7 O
              go_wp2_with fail
              refine (fixed_any _).mono ?_
              rintro e w8 ⟨rfl, b8⟩
              have G8 := G7.trans (b8.mono G7.size)
              clear G7 b8
              go_wp2
              go_ret
              exact ⟨rfl, G8⟩

end Go.Proofs.Ytbbofbilagaihaa
