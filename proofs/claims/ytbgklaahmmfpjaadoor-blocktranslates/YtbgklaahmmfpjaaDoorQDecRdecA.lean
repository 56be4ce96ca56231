/- The walk of the document's Decode, where the number is below 0 when it has a sign. -/
import Derived.Test.YtbgklaahmmfpjaaDoorQDecRdec
namespace Go.Proofs.YtbgklaahmmfpjaaDoor.De
open Go.RowKit
set_option linter.unusedVariables false
set_option maxRecDepth 100000
set_option linter.unusedSimpArgs false

set_option maxRecDepth 20000 in
set_option maxHeartbeats 16000000 in
theorem rdec_neg (n : Int) (h0 : 0 ≤ n) (hn : n < 4294967296) (hsg : decide (32768 ≤ n % 65536) = true) (is : Nat → Bool) (fs ft fd fa fi : Nat → Int)
    (hR : ∀ k : Nat, k < 69 → ∃ v e : Int, Hid ((e = 0 ∧ v = n) ↔ is k = true) ∧ Enc (k : Int) (fs k) (ft k) (fd k) (fa k) (fi k) (.tuple #[.int .u32 v, .int .i64 e]))
    (hfs : ∀ k : Nat, k < 69 → fs k = if HasS (Dec.fm k) then n / 2097152 % 32 else 0) (hft : ∀ k : Nat, k < 69 → ft k = if HasT (Dec.fm k) then n / 65536 % 32 else 0)
    (hfd : ∀ k : Nat, k < 69 → fd k = if HasD (Dec.fm k) then n / 2048 % 32 else 0) (hfa : ∀ k : Nat, k < 69 → fa k = if HasA (Dec.fm k) then n / 64 % 32 else 0)
    (hfi : ∀ k : Nat, k < 69 → fi k = if Dec.fm k = 11 ∨ Dec.fm k = 13 ∨ Dec.fm k = 14 ∨ Dec.fm k = 19 then (n % 65536 - 65536) else if Dec.fm k = 15 ∨ Dec.fm k = 16 then n % 65536 else if Dec.fm k = 12 then n % 67108864 else 0)
    (hmj : ∀ k : Nat, k < 69 → is k = true → ((Dec.mj k : Nat) : Int) = n / 67108864) (w : World) :
    Calls Tryd.prog 8 #[.int .u32 n] w (rsends n is fs ft fd fa fi w) := by
  go_enter Tryd.func8, Tryd.ntmps8
  go_wp2
  have b0 := grow w (.cells #[.int .i64 0, .int .i64 0, .int .i64 0, .int .i64 0, .int .i64 0, .int .i64 0] 32)
  have c0 := cell6 w 32 (.int .i64 0) (.int .i64 0) (.int .i64 0) (.int .i64 0) (.int .i64 0) (.int .i64 0)
  have f0 : ∀ o, (w.alloc (.cells #[.int .i64 0, .int .i64 0, .int .i64 0, .int .i64 0, .int .i64 0, .int .i64 0] 32)).frozen? ⟨w.heap.size, o, none⟩ = false := by intro o; simp [go_sem]
  generalize w.alloc (.cells #[.int .i64 0, .int .i64 0, .int .i64 0, .int .i64 0, .int .i64 0, .int .i64 0] 32) = W0 at *
  generalize eS : n / 2097152 % 32 = S at *
  generalize eT : n / 65536 % 32 = T at *
  generalize eD : n / 2048 % 32 = D at *
  generalize eA : n / 64 % 32 = A at *
  clear eS eT eD eA hsg
  go_loopw [11] (fun i x => ∃ k : Nat, k ≤ 69 ∧ i = .int .i64 k ∧ Hid (∀ j < k, is j = false) ∧ Hid (Below w.heap.size w x) ∧ Cell6 x w.heap.size (.int .i64 0) (.int .i64 0) (.int .i64 0) (.int .i64 0) (.int .i64 0) (.int .i64 0) ∧ Hid (∀ o, x.frozen? ⟨w.heap.size, o, none⟩ = false)) (fun i _ => 69 - (intOf i).toNat)
  case atStart => exact ⟨0, Nat.zero_le _, rfl, hide (by intro j h; omega), hide b0, c0, hide f0⟩
  case round =>
    clear b0 c0 f0
    obtain ⟨k, hk, rfl, hno, hb, hc, hfz⟩ := hrel
    by_cases hlt : k < 69
    · have h1 : (k : Int) < 69 := by omega
      have ek : idx (k : Int) = k := by unfold idx; rw [if_pos (by omega)]; omega
      have hA := fun w => at_any (k : Int) w
      rw [ek] at hA
      clear ek
      go_wp2_with fail
      refine (hA _).mono ?_
      rintro e w1 ⟨rfl, k1⟩
      have b1 := hide (onto hb.out k1)
      have c1 := hc.on k1
      have z1 := cell_in c1.c0
      have f1 : Hid (∀ o, w1.frozen? ⟨w.heap.size, o, none⟩ = false) := hide fun o => ((bcell k1).2 _ _ (cell_in hc.c0)).trans (hfz.out o)
      clear hb hc hfz k1 hA
      by_cases hm : ((Dec.mj k : Nat) : Int) = n / 67108864
      · have hq : (((Dec.mj k : Nat) : Int) != n / 67108864) = false := by rw [hm]; simp
        clear hm
        obtain ⟨v, e, hi, hE⟩ := hR k hlt
        have r1 := hfs k hlt
        have r2 := hft k hlt
        have r3 := hfd k hlt
        have r4 := hfa k hlt
        have r5 := hfi k hlt
        have hr := Dec.fm_lt k hlt
        have qs := hide (rfl : fs k = fs k)
        have hcases : Dec.fm k = 1 ∨ Dec.fm k = 2 ∨ Dec.fm k = 3 ∨ Dec.fm k = 4 ∨ Dec.fm k = 5 ∨ Dec.fm k = 6 ∨ Dec.fm k = 7 ∨ Dec.fm k = 8 ∨ Dec.fm k = 9 ∨ Dec.fm k = 10 ∨ Dec.fm k = 11 ∨ Dec.fm k = 12 ∨ Dec.fm k = 13 ∨ Dec.fm k = 14 ∨ Dec.fm k = 15 ∨ Dec.fm k = 16 ∨ Dec.fm k = 17 ∨ Dec.fm k = 18 ∨ Dec.fm k = 19 := by omega
        rcases hcases with hf | hf | hf | hf | hf | hf | hf | hf | hf | hf | hf | hf | hf | hf | hf | hf | hf | hf | hf
        · rw [hf] at r1 r2 r3 r4 r5
          simp only [HasS, HasT, HasD, HasA] at r1 r2 r3 r4 r5
          simp at r1 r2 r3 r4 r5
          have hF : (Dec.lname (Dec.fm k)).toList = [83, 72] := by rw [ByteArray.toList_eq, hf]; rfl
          have rr := hide (And.intro r1 (And.intro r2 (And.intro r3 (And.intro r4 r5))))
          rw [r1, r2, r3, r4, r5] at hE
          clear r1 r2 r3 r4 r5 hr hf
          generalize Dec.lname (Dec.fm k) = F at *
          go_wp2_with fail
          refine (hE _).mono ?_
          rintro e' w2 ⟨rfl, k2⟩
          have g1 := grow w1 (.cells #[.string (Dec.name k), .string F, .int .i64 (Dec.mj k : Nat), .int .i64 (Dec.mn k : Nat)] 37)
          have g2 := grow (w1.alloc (.cells #[.string (Dec.name k), .string F, .int .i64 (Dec.mj k : Nat), .int .i64 (Dec.mn k : Nat)] 37)) (.cells #[.int .i64 (k : Int), .int .i64 0, .int .i64 T, .int .i64 D, .int .i64 A, .int .i64 0] 32)
          have b2 := hide (onto (onto (onto b1.out g1) g2) k2)
          have c2 := ((c1.on g1).on g2).on k2
          have d2 := (cell6 (w1.alloc (.cells #[.string (Dec.name k), .string F, .int .i64 (Dec.mj k : Nat), .int .i64 (Dec.mn k : Nat)] 37)) 32 (.int .i64 (k : Int)) (.int .i64 0) (.int .i64 T) (.int .i64 D) (.int .i64 A) (.int .i64 0)).on k2
          have f2 := fun o => ((bcell k2).2 w.heap.size o (cell_in ((c1.on g1).on g2).c0)).trans (((bcell g2).2 w.heap.size o (cell_in (c1.on g1).c0)).trans (((bcell g1).2 w.heap.size o z1).trans (f1.out o)))
          rw [show (w1.alloc (.cells #[.string (Dec.name k), .string F, .int .i64 (Dec.mj k : Nat), .int .i64 (Dec.mn k : Nat)] 37)).heap.size = w1.heap.size + 1 by simp] at d2
          have nz : w.heap.size ≠ w1.heap.size + 1 := by omega
          clear g1 g2 b1 c1 f1 k2 z1 hE hF hq
          generalize w1.heap.size + 1 = B at *
          generalize w1.heap.size = B0 at *
          clear w1
          have hhR := hide hR
          have hh1 := hide hfs
          have hh2 := hide hft
          have hh3 := hide hfd
          have hh4 := hide hfa
          have hh5 := hide hfi
          have hh6 := hide hmj
          clear hR hfs hft hfd hfa hfi hmj
          cases hik : is k with
          | true =>
            obtain ⟨rfl, hv⟩ := hi.out.mpr hik
            have hv := hv.symm
            subst hv
            obtain ⟨x0, x1, x2, x3, x4, x5⟩ := c2
            obtain ⟨y0, y1, y2, y3, y4, y5⟩ := d2
            have hik := hide hik
            clear hi
            go_wp2
            refine bodyPost_ret (v := .tuple #[.agg #[.int .i64 (k : Int), .int .i64 0, .int .i64 T, .int .i64 D, .int .i64 A, .int .i64 0], .int .i64 0]) (by simp [results, Tryd.results8, go_sem, x0, x1, x2, x3, x4, x5]) rfl ⟨Or.inl ⟨k, hlt, hik.out, ?_⟩, set6 b2.out (Nat.le_refl _)⟩
            obtain ⟨q1, q2, q3, q4, q5⟩ := rr.out
            rw [q1, q2, q3, q4, q5]
          | false =>
            have hn2 := hide (rmore hno.out hik)
            have hne : ¬ (e = 0 ∧ v = n) := fun h => by rw [hi.out.mp h] at hik; cases hik
            clear hno hik hi
            have fz := hide f2
            clear f2
            by_cases he : e = 0
            · have hv : (v == n) = false := by simp; exact fun h => hne ⟨he, h⟩
              have he2 : (e == 0) = true := by rw [he]; rfl
              clear hne he
              go_wp2
              go_roundw
              case rel => exact ⟨k + 1, by omega, by go_num, hn2, b2, c2, fz⟩
              case measure => simp [intOf]; omega
            · have he2 : (e == 0) = false := by simp; exact he
              clear hne he
              go_wp2
              go_roundw
              case rel => exact ⟨k + 1, by omega, by go_num, hn2, b2, c2, fz⟩
              case measure => simp [intOf]; omega
        · rw [hf] at r1 r2 r3 r4 r5
          simp only [HasS, HasT, HasD, HasA] at r1 r2 r3 r4 r5
          simp at r1 r2 r3 r4 r5
          have hF : (Dec.lname (Dec.fm k)).toList = [83, 86] := by rw [ByteArray.toList_eq, hf]; rfl
          have rr := hide (And.intro r1 (And.intro r2 (And.intro r3 (And.intro r4 r5))))
          rw [r1, r2, r3, r4, r5] at hE
          clear r1 r2 r3 r4 r5 hr hf
          generalize Dec.lname (Dec.fm k) = F at *
          go_wp2_with fail
          refine (hE _).mono ?_
          rintro e' w2 ⟨rfl, k2⟩
          have g1 := grow w1 (.cells #[.string (Dec.name k), .string F, .int .i64 (Dec.mj k : Nat), .int .i64 (Dec.mn k : Nat)] 37)
          have g2 := grow (w1.alloc (.cells #[.string (Dec.name k), .string F, .int .i64 (Dec.mj k : Nat), .int .i64 (Dec.mn k : Nat)] 37)) (.cells #[.int .i64 (k : Int), .int .i64 S, .int .i64 T, .int .i64 D, .int .i64 0, .int .i64 0] 32)
          have b2 := hide (onto (onto (onto b1.out g1) g2) k2)
          have c2 := ((c1.on g1).on g2).on k2
          have d2 := (cell6 (w1.alloc (.cells #[.string (Dec.name k), .string F, .int .i64 (Dec.mj k : Nat), .int .i64 (Dec.mn k : Nat)] 37)) 32 (.int .i64 (k : Int)) (.int .i64 S) (.int .i64 T) (.int .i64 D) (.int .i64 0) (.int .i64 0)).on k2
          have f2 := fun o => ((bcell k2).2 w.heap.size o (cell_in ((c1.on g1).on g2).c0)).trans (((bcell g2).2 w.heap.size o (cell_in (c1.on g1).c0)).trans (((bcell g1).2 w.heap.size o z1).trans (f1.out o)))
          rw [show (w1.alloc (.cells #[.string (Dec.name k), .string F, .int .i64 (Dec.mj k : Nat), .int .i64 (Dec.mn k : Nat)] 37)).heap.size = w1.heap.size + 1 by simp] at d2
          have nz : w.heap.size ≠ w1.heap.size + 1 := by omega
          clear g1 g2 b1 c1 f1 k2 z1 hE hF hq
          generalize w1.heap.size + 1 = B at *
          generalize w1.heap.size = B0 at *
          clear w1
          have hhR := hide hR
          have hh1 := hide hfs
          have hh2 := hide hft
          have hh3 := hide hfd
          have hh4 := hide hfa
          have hh5 := hide hfi
          have hh6 := hide hmj
          clear hR hfs hft hfd hfa hfi hmj
          cases hik : is k with
          | true =>
            obtain ⟨rfl, hv⟩ := hi.out.mpr hik
            have hv := hv.symm
            subst hv
            obtain ⟨x0, x1, x2, x3, x4, x5⟩ := c2
            obtain ⟨y0, y1, y2, y3, y4, y5⟩ := d2
            have hik := hide hik
            clear hi
            go_wp2
            refine bodyPost_ret (v := .tuple #[.agg #[.int .i64 (k : Int), .int .i64 S, .int .i64 T, .int .i64 D, .int .i64 0, .int .i64 0], .int .i64 0]) (by simp [results, Tryd.results8, go_sem, x0, x1, x2, x3, x4, x5]) rfl ⟨Or.inl ⟨k, hlt, hik.out, ?_⟩, set6 b2.out (Nat.le_refl _)⟩
            obtain ⟨q1, q2, q3, q4, q5⟩ := rr.out
            rw [q1, q2, q3, q4, q5]
          | false =>
            have hn2 := hide (rmore hno.out hik)
            have hne : ¬ (e = 0 ∧ v = n) := fun h => by rw [hi.out.mp h] at hik; cases hik
            clear hno hik hi
            have fz := hide f2
            clear f2
            by_cases he : e = 0
            · have hv : (v == n) = false := by simp; exact fun h => hne ⟨he, h⟩
              have he2 : (e == 0) = true := by rw [he]; rfl
              clear hne he
              go_wp2
              go_roundw
              case rel => exact ⟨k + 1, by omega, by go_num, hn2, b2, c2, fz⟩
              case measure => simp [intOf]; omega
            · have he2 : (e == 0) = false := by simp; exact he
              clear hne he
              go_wp2
              go_roundw
              case rel => exact ⟨k + 1, by omega, by go_num, hn2, b2, c2, fz⟩
              case measure => simp [intOf]; omega
        · rw [hf] at r1 r2 r3 r4 r5
          simp only [HasS, HasT, HasD, HasA] at r1 r2 r3 r4 r5
          simp at r1 r2 r3 r4 r5
          have hF : (Dec.lname (Dec.fm k)).toList = [74, 82] := by rw [ByteArray.toList_eq, hf]; rfl
          have rr := hide (And.intro r1 (And.intro r2 (And.intro r3 (And.intro r4 r5))))
          rw [r1, r2, r3, r4, r5] at hE
          clear r1 r2 r3 r4 r5 hr hf
          generalize Dec.lname (Dec.fm k) = F at *
          go_wp2_with fail
          refine (hE _).mono ?_
          rintro e' w2 ⟨rfl, k2⟩
          have g1 := grow w1 (.cells #[.string (Dec.name k), .string F, .int .i64 (Dec.mj k : Nat), .int .i64 (Dec.mn k : Nat)] 37)
          have g2 := grow (w1.alloc (.cells #[.string (Dec.name k), .string F, .int .i64 (Dec.mj k : Nat), .int .i64 (Dec.mn k : Nat)] 37)) (.cells #[.int .i64 (k : Int), .int .i64 S, .int .i64 0, .int .i64 0, .int .i64 0, .int .i64 0] 32)
          have b2 := hide (onto (onto (onto b1.out g1) g2) k2)
          have c2 := ((c1.on g1).on g2).on k2
          have d2 := (cell6 (w1.alloc (.cells #[.string (Dec.name k), .string F, .int .i64 (Dec.mj k : Nat), .int .i64 (Dec.mn k : Nat)] 37)) 32 (.int .i64 (k : Int)) (.int .i64 S) (.int .i64 0) (.int .i64 0) (.int .i64 0) (.int .i64 0)).on k2
          have f2 := fun o => ((bcell k2).2 w.heap.size o (cell_in ((c1.on g1).on g2).c0)).trans (((bcell g2).2 w.heap.size o (cell_in (c1.on g1).c0)).trans (((bcell g1).2 w.heap.size o z1).trans (f1.out o)))
          rw [show (w1.alloc (.cells #[.string (Dec.name k), .string F, .int .i64 (Dec.mj k : Nat), .int .i64 (Dec.mn k : Nat)] 37)).heap.size = w1.heap.size + 1 by simp] at d2
          have nz : w.heap.size ≠ w1.heap.size + 1 := by omega
          clear g1 g2 b1 c1 f1 k2 z1 hE hF hq
          generalize w1.heap.size + 1 = B at *
          generalize w1.heap.size = B0 at *
          clear w1
          have hhR := hide hR
          have hh1 := hide hfs
          have hh2 := hide hft
          have hh3 := hide hfd
          have hh4 := hide hfa
          have hh5 := hide hfi
          have hh6 := hide hmj
          clear hR hfs hft hfd hfa hfi hmj
          cases hik : is k with
          | true =>
            obtain ⟨rfl, hv⟩ := hi.out.mpr hik
            have hv := hv.symm
            subst hv
            obtain ⟨x0, x1, x2, x3, x4, x5⟩ := c2
            obtain ⟨y0, y1, y2, y3, y4, y5⟩ := d2
            have hik := hide hik
            clear hi
            go_wp2
            refine bodyPost_ret (v := .tuple #[.agg #[.int .i64 (k : Int), .int .i64 S, .int .i64 0, .int .i64 0, .int .i64 0, .int .i64 0], .int .i64 0]) (by simp [results, Tryd.results8, go_sem, x0, x1, x2, x3, x4, x5]) rfl ⟨Or.inl ⟨k, hlt, hik.out, ?_⟩, set6 b2.out (Nat.le_refl _)⟩
            obtain ⟨q1, q2, q3, q4, q5⟩ := rr.out
            rw [q1, q2, q3, q4, q5]
          | false =>
            have hn2 := hide (rmore hno.out hik)
            have hne : ¬ (e = 0 ∧ v = n) := fun h => by rw [hi.out.mp h] at hik; cases hik
            clear hno hik hi
            have fz := hide f2
            clear f2
            by_cases he : e = 0
            · have hv : (v == n) = false := by simp; exact fun h => hne ⟨he, h⟩
              have he2 : (e == 0) = true := by rw [he]; rfl
              clear hne he
              go_wp2
              go_roundw
              case rel => exact ⟨k + 1, by omega, by go_num, hn2, b2, c2, fz⟩
              case measure => simp [intOf]; omega
            · have he2 : (e == 0) = false := by simp; exact he
              clear hne he
              go_wp2
              go_roundw
              case rel => exact ⟨k + 1, by omega, by go_num, hn2, b2, c2, fz⟩
              case measure => simp [intOf]; omega
        · rw [hf] at r1 r2 r3 r4 r5
          simp only [HasS, HasT, HasD, HasA] at r1 r2 r3 r4 r5
          simp at r1 r2 r3 r4 r5
          have hF : (Dec.lname (Dec.fm k)).toList = [74, 65, 76, 82] := by rw [ByteArray.toList_eq, hf]; rfl
          have rr := hide (And.intro r1 (And.intro r2 (And.intro r3 (And.intro r4 r5))))
          rw [r1, r2, r3, r4, r5] at hE
          clear r1 r2 r3 r4 r5 hr hf
          generalize Dec.lname (Dec.fm k) = F at *
          go_wp2_with fail
          refine (hE _).mono ?_
          rintro e' w2 ⟨rfl, k2⟩
          have g1 := grow w1 (.cells #[.string (Dec.name k), .string F, .int .i64 (Dec.mj k : Nat), .int .i64 (Dec.mn k : Nat)] 37)
          have g2 := grow (w1.alloc (.cells #[.string (Dec.name k), .string F, .int .i64 (Dec.mj k : Nat), .int .i64 (Dec.mn k : Nat)] 37)) (.cells #[.int .i64 (k : Int), .int .i64 S, .int .i64 0, .int .i64 D, .int .i64 0, .int .i64 0] 32)
          have b2 := hide (onto (onto (onto b1.out g1) g2) k2)
          have c2 := ((c1.on g1).on g2).on k2
          have d2 := (cell6 (w1.alloc (.cells #[.string (Dec.name k), .string F, .int .i64 (Dec.mj k : Nat), .int .i64 (Dec.mn k : Nat)] 37)) 32 (.int .i64 (k : Int)) (.int .i64 S) (.int .i64 0) (.int .i64 D) (.int .i64 0) (.int .i64 0)).on k2
          have f2 := fun o => ((bcell k2).2 w.heap.size o (cell_in ((c1.on g1).on g2).c0)).trans (((bcell g2).2 w.heap.size o (cell_in (c1.on g1).c0)).trans (((bcell g1).2 w.heap.size o z1).trans (f1.out o)))
          rw [show (w1.alloc (.cells #[.string (Dec.name k), .string F, .int .i64 (Dec.mj k : Nat), .int .i64 (Dec.mn k : Nat)] 37)).heap.size = w1.heap.size + 1 by simp] at d2
          have nz : w.heap.size ≠ w1.heap.size + 1 := by omega
          clear g1 g2 b1 c1 f1 k2 z1 hE hF hq
          generalize w1.heap.size + 1 = B at *
          generalize w1.heap.size = B0 at *
          clear w1
          have hhR := hide hR
          have hh1 := hide hfs
          have hh2 := hide hft
          have hh3 := hide hfd
          have hh4 := hide hfa
          have hh5 := hide hfi
          have hh6 := hide hmj
          clear hR hfs hft hfd hfa hfi hmj
          cases hik : is k with
          | true =>
            obtain ⟨rfl, hv⟩ := hi.out.mpr hik
            have hv := hv.symm
            subst hv
            obtain ⟨x0, x1, x2, x3, x4, x5⟩ := c2
            obtain ⟨y0, y1, y2, y3, y4, y5⟩ := d2
            have hik := hide hik
            clear hi
            go_wp2
            refine bodyPost_ret (v := .tuple #[.agg #[.int .i64 (k : Int), .int .i64 S, .int .i64 0, .int .i64 D, .int .i64 0, .int .i64 0], .int .i64 0]) (by simp [results, Tryd.results8, go_sem, x0, x1, x2, x3, x4, x5]) rfl ⟨Or.inl ⟨k, hlt, hik.out, ?_⟩, set6 b2.out (Nat.le_refl _)⟩
            obtain ⟨q1, q2, q3, q4, q5⟩ := rr.out
            rw [q1, q2, q3, q4, q5]
          | false =>
            have hn2 := hide (rmore hno.out hik)
            have hne : ¬ (e = 0 ∧ v = n) := fun h => by rw [hi.out.mp h] at hik; cases hik
            clear hno hik hi
            have fz := hide f2
            clear f2
            by_cases he : e = 0
            · have hv : (v == n) = false := by simp; exact fun h => hne ⟨he, h⟩
              have he2 : (e == 0) = true := by rw [he]; rfl
              clear hne he
              go_wp2
              go_roundw
              case rel => exact ⟨k + 1, by omega, by go_num, hn2, b2, c2, fz⟩
              case measure => simp [intOf]; omega
            · have he2 : (e == 0) = false := by simp; exact he
              clear hne he
              go_wp2
              go_roundw
              case rel => exact ⟨k + 1, by omega, by go_num, hn2, b2, c2, fz⟩
              case measure => simp [intOf]; omega
        · rw [hf] at r1 r2 r3 r4 r5
          simp only [HasS, HasT, HasD, HasA] at r1 r2 r3 r4 r5
          simp at r1 r2 r3 r4 r5
          have hF : (Dec.lname (Dec.fm k)).toList = [82] := by rw [ByteArray.toList_eq, hf]; rfl
          have rr := hide (And.intro r1 (And.intro r2 (And.intro r3 (And.intro r4 r5))))
          rw [r1, r2, r3, r4, r5] at hE
          clear r1 r2 r3 r4 r5 hr hf
          generalize Dec.lname (Dec.fm k) = F at *
          go_wp2_with fail
          refine (hE _).mono ?_
          rintro e' w2 ⟨rfl, k2⟩
          have g1 := grow w1 (.cells #[.string (Dec.name k), .string F, .int .i64 (Dec.mj k : Nat), .int .i64 (Dec.mn k : Nat)] 37)
          have g2 := grow (w1.alloc (.cells #[.string (Dec.name k), .string F, .int .i64 (Dec.mj k : Nat), .int .i64 (Dec.mn k : Nat)] 37)) (.cells #[.int .i64 (k : Int), .int .i64 S, .int .i64 T, .int .i64 D, .int .i64 0, .int .i64 0] 32)
          have b2 := hide (onto (onto (onto b1.out g1) g2) k2)
          have c2 := ((c1.on g1).on g2).on k2
          have d2 := (cell6 (w1.alloc (.cells #[.string (Dec.name k), .string F, .int .i64 (Dec.mj k : Nat), .int .i64 (Dec.mn k : Nat)] 37)) 32 (.int .i64 (k : Int)) (.int .i64 S) (.int .i64 T) (.int .i64 D) (.int .i64 0) (.int .i64 0)).on k2
          have f2 := fun o => ((bcell k2).2 w.heap.size o (cell_in ((c1.on g1).on g2).c0)).trans (((bcell g2).2 w.heap.size o (cell_in (c1.on g1).c0)).trans (((bcell g1).2 w.heap.size o z1).trans (f1.out o)))
          rw [show (w1.alloc (.cells #[.string (Dec.name k), .string F, .int .i64 (Dec.mj k : Nat), .int .i64 (Dec.mn k : Nat)] 37)).heap.size = w1.heap.size + 1 by simp] at d2
          have nz : w.heap.size ≠ w1.heap.size + 1 := by omega
          clear g1 g2 b1 c1 f1 k2 z1 hE hF hq
          generalize w1.heap.size + 1 = B at *
          generalize w1.heap.size = B0 at *
          clear w1
          have hhR := hide hR
          have hh1 := hide hfs
          have hh2 := hide hft
          have hh3 := hide hfd
          have hh4 := hide hfa
          have hh5 := hide hfi
          have hh6 := hide hmj
          clear hR hfs hft hfd hfa hfi hmj
          cases hik : is k with
          | true =>
            obtain ⟨rfl, hv⟩ := hi.out.mpr hik
            have hv := hv.symm
            subst hv
            obtain ⟨x0, x1, x2, x3, x4, x5⟩ := c2
            obtain ⟨y0, y1, y2, y3, y4, y5⟩ := d2
            have hik := hide hik
            clear hi
            go_wp2
            refine bodyPost_ret (v := .tuple #[.agg #[.int .i64 (k : Int), .int .i64 S, .int .i64 T, .int .i64 D, .int .i64 0, .int .i64 0], .int .i64 0]) (by simp [results, Tryd.results8, go_sem, x0, x1, x2, x3, x4, x5]) rfl ⟨Or.inl ⟨k, hlt, hik.out, ?_⟩, set6 b2.out (Nat.le_refl _)⟩
            obtain ⟨q1, q2, q3, q4, q5⟩ := rr.out
            rw [q1, q2, q3, q4, q5]
          | false =>
            have hn2 := hide (rmore hno.out hik)
            have hne : ¬ (e = 0 ∧ v = n) := fun h => by rw [hi.out.mp h] at hik; cases hik
            clear hno hik hi
            have fz := hide f2
            clear f2
            by_cases he : e = 0
            · have hv : (v == n) = false := by simp; exact fun h => hne ⟨he, h⟩
              have he2 : (e == 0) = true := by rw [he]; rfl
              clear hne he
              go_wp2
              go_roundw
              case rel => exact ⟨k + 1, by omega, by go_num, hn2, b2, c2, fz⟩
              case measure => simp [intOf]; omega
            · have he2 : (e == 0) = false := by simp; exact he
              clear hne he
              go_wp2
              go_roundw
              case rel => exact ⟨k + 1, by omega, by go_num, hn2, b2, c2, fz⟩
              case measure => simp [intOf]; omega
        · rw [hf] at r1 r2 r3 r4 r5
          simp only [HasS, HasT, HasD, HasA] at r1 r2 r3 r4 r5
          simp at r1 r2 r3 r4 r5
          have hF : (Dec.lname (Dec.fm k)).toList = [78] := by rw [ByteArray.toList_eq, hf]; rfl
          have rr := hide (And.intro r1 (And.intro r2 (And.intro r3 (And.intro r4 r5))))
          rw [r1, r2, r3, r4, r5] at hE
          clear r1 r2 r3 r4 r5 hr hf
          generalize Dec.lname (Dec.fm k) = F at *
          go_wp2_with fail
          refine (hE _).mono ?_
          rintro e' w2 ⟨rfl, k2⟩
          have g1 := grow w1 (.cells #[.string (Dec.name k), .string F, .int .i64 (Dec.mj k : Nat), .int .i64 (Dec.mn k : Nat)] 37)
          have g2 := grow (w1.alloc (.cells #[.string (Dec.name k), .string F, .int .i64 (Dec.mj k : Nat), .int .i64 (Dec.mn k : Nat)] 37)) (.cells #[.int .i64 (k : Int), .int .i64 0, .int .i64 0, .int .i64 0, .int .i64 0, .int .i64 0] 32)
          have b2 := hide (onto (onto (onto b1.out g1) g2) k2)
          have c2 := ((c1.on g1).on g2).on k2
          have d2 := (cell6 (w1.alloc (.cells #[.string (Dec.name k), .string F, .int .i64 (Dec.mj k : Nat), .int .i64 (Dec.mn k : Nat)] 37)) 32 (.int .i64 (k : Int)) (.int .i64 0) (.int .i64 0) (.int .i64 0) (.int .i64 0) (.int .i64 0)).on k2
          have f2 := fun o => ((bcell k2).2 w.heap.size o (cell_in ((c1.on g1).on g2).c0)).trans (((bcell g2).2 w.heap.size o (cell_in (c1.on g1).c0)).trans (((bcell g1).2 w.heap.size o z1).trans (f1.out o)))
          rw [show (w1.alloc (.cells #[.string (Dec.name k), .string F, .int .i64 (Dec.mj k : Nat), .int .i64 (Dec.mn k : Nat)] 37)).heap.size = w1.heap.size + 1 by simp] at d2
          have nz : w.heap.size ≠ w1.heap.size + 1 := by omega
          clear g1 g2 b1 c1 f1 k2 z1 hE hF hq
          generalize w1.heap.size + 1 = B at *
          generalize w1.heap.size = B0 at *
          clear w1
          have hhR := hide hR
          have hh1 := hide hfs
          have hh2 := hide hft
          have hh3 := hide hfd
          have hh4 := hide hfa
          have hh5 := hide hfi
          have hh6 := hide hmj
          clear hR hfs hft hfd hfa hfi hmj
          cases hik : is k with
          | true =>
            obtain ⟨rfl, hv⟩ := hi.out.mpr hik
            have hv := hv.symm
            subst hv
            obtain ⟨x0, x1, x2, x3, x4, x5⟩ := c2
            obtain ⟨y0, y1, y2, y3, y4, y5⟩ := d2
            have hik := hide hik
            clear hi
            go_wp2
            refine bodyPost_ret (v := .tuple #[.agg #[.int .i64 (k : Int), .int .i64 0, .int .i64 0, .int .i64 0, .int .i64 0, .int .i64 0], .int .i64 0]) (by simp [results, Tryd.results8, go_sem, x0, x1, x2, x3, x4, x5]) rfl ⟨Or.inl ⟨k, hlt, hik.out, ?_⟩, set6 b2.out (Nat.le_refl _)⟩
            obtain ⟨q1, q2, q3, q4, q5⟩ := rr.out
            rw [q1, q2, q3, q4, q5]
          | false =>
            have hn2 := hide (rmore hno.out hik)
            have hne : ¬ (e = 0 ∧ v = n) := fun h => by rw [hi.out.mp h] at hik; cases hik
            clear hno hik hi
            have fz := hide f2
            clear f2
            by_cases he : e = 0
            · have hv : (v == n) = false := by simp; exact fun h => hne ⟨he, h⟩
              have he2 : (e == 0) = true := by rw [he]; rfl
              clear hne he
              go_wp2
              go_roundw
              case rel => exact ⟨k + 1, by omega, by go_num, hn2, b2, c2, fz⟩
              case measure => simp [intOf]; omega
            · have he2 : (e == 0) = false := by simp; exact he
              clear hne he
              go_wp2
              go_roundw
              case rel => exact ⟨k + 1, by omega, by go_num, hn2, b2, c2, fz⟩
              case measure => simp [intOf]; omega
        · rw [hf] at r1 r2 r3 r4 r5
          simp only [HasS, HasT, HasD, HasA] at r1 r2 r3 r4 r5
          simp at r1 r2 r3 r4 r5
          have hF : (Dec.lname (Dec.fm k)).toList = [77, 70] := by rw [ByteArray.toList_eq, hf]; rfl
          have rr := hide (And.intro r1 (And.intro r2 (And.intro r3 (And.intro r4 r5))))
          rw [r1, r2, r3, r4, r5] at hE
          clear r1 r2 r3 r4 r5 hr hf
          generalize Dec.lname (Dec.fm k) = F at *
          go_wp2_with fail
          refine (hE _).mono ?_
          rintro e' w2 ⟨rfl, k2⟩
          have g1 := grow w1 (.cells #[.string (Dec.name k), .string F, .int .i64 (Dec.mj k : Nat), .int .i64 (Dec.mn k : Nat)] 37)
          have g2 := grow (w1.alloc (.cells #[.string (Dec.name k), .string F, .int .i64 (Dec.mj k : Nat), .int .i64 (Dec.mn k : Nat)] 37)) (.cells #[.int .i64 (k : Int), .int .i64 0, .int .i64 0, .int .i64 D, .int .i64 0, .int .i64 0] 32)
          have b2 := hide (onto (onto (onto b1.out g1) g2) k2)
          have c2 := ((c1.on g1).on g2).on k2
          have d2 := (cell6 (w1.alloc (.cells #[.string (Dec.name k), .string F, .int .i64 (Dec.mj k : Nat), .int .i64 (Dec.mn k : Nat)] 37)) 32 (.int .i64 (k : Int)) (.int .i64 0) (.int .i64 0) (.int .i64 D) (.int .i64 0) (.int .i64 0)).on k2
          have f2 := fun o => ((bcell k2).2 w.heap.size o (cell_in ((c1.on g1).on g2).c0)).trans (((bcell g2).2 w.heap.size o (cell_in (c1.on g1).c0)).trans (((bcell g1).2 w.heap.size o z1).trans (f1.out o)))
          rw [show (w1.alloc (.cells #[.string (Dec.name k), .string F, .int .i64 (Dec.mj k : Nat), .int .i64 (Dec.mn k : Nat)] 37)).heap.size = w1.heap.size + 1 by simp] at d2
          have nz : w.heap.size ≠ w1.heap.size + 1 := by omega
          clear g1 g2 b1 c1 f1 k2 z1 hE hF hq
          generalize w1.heap.size + 1 = B at *
          generalize w1.heap.size = B0 at *
          clear w1
          have hhR := hide hR
          have hh1 := hide hfs
          have hh2 := hide hft
          have hh3 := hide hfd
          have hh4 := hide hfa
          have hh5 := hide hfi
          have hh6 := hide hmj
          clear hR hfs hft hfd hfa hfi hmj
          cases hik : is k with
          | true =>
            obtain ⟨rfl, hv⟩ := hi.out.mpr hik
            have hv := hv.symm
            subst hv
            obtain ⟨x0, x1, x2, x3, x4, x5⟩ := c2
            obtain ⟨y0, y1, y2, y3, y4, y5⟩ := d2
            have hik := hide hik
            clear hi
            go_wp2
            refine bodyPost_ret (v := .tuple #[.agg #[.int .i64 (k : Int), .int .i64 0, .int .i64 0, .int .i64 D, .int .i64 0, .int .i64 0], .int .i64 0]) (by simp [results, Tryd.results8, go_sem, x0, x1, x2, x3, x4, x5]) rfl ⟨Or.inl ⟨k, hlt, hik.out, ?_⟩, set6 b2.out (Nat.le_refl _)⟩
            obtain ⟨q1, q2, q3, q4, q5⟩ := rr.out
            rw [q1, q2, q3, q4, q5]
          | false =>
            have hn2 := hide (rmore hno.out hik)
            have hne : ¬ (e = 0 ∧ v = n) := fun h => by rw [hi.out.mp h] at hik; cases hik
            clear hno hik hi
            have fz := hide f2
            clear f2
            by_cases he : e = 0
            · have hv : (v == n) = false := by simp; exact fun h => hne ⟨he, h⟩
              have he2 : (e == 0) = true := by rw [he]; rfl
              clear hne he
              go_wp2
              go_roundw
              case rel => exact ⟨k + 1, by omega, by go_num, hn2, b2, c2, fz⟩
              case measure => simp [intOf]; omega
            · have he2 : (e == 0) = false := by simp; exact he
              clear hne he
              go_wp2
              go_roundw
              case rel => exact ⟨k + 1, by omega, by go_num, hn2, b2, c2, fz⟩
              case measure => simp [intOf]; omega
        · rw [hf] at r1 r2 r3 r4 r5
          simp only [HasS, HasT, HasD, HasA] at r1 r2 r3 r4 r5
          simp at r1 r2 r3 r4 r5
          have hF : (Dec.lname (Dec.fm k)).toList = [77, 84] := by rw [ByteArray.toList_eq, hf]; rfl
          have rr := hide (And.intro r1 (And.intro r2 (And.intro r3 (And.intro r4 r5))))
          rw [r1, r2, r3, r4, r5] at hE
          clear r1 r2 r3 r4 r5 hr hf
          generalize Dec.lname (Dec.fm k) = F at *
          go_wp2_with fail
          refine (hE _).mono ?_
          rintro e' w2 ⟨rfl, k2⟩
          have g1 := grow w1 (.cells #[.string (Dec.name k), .string F, .int .i64 (Dec.mj k : Nat), .int .i64 (Dec.mn k : Nat)] 37)
          have g2 := grow (w1.alloc (.cells #[.string (Dec.name k), .string F, .int .i64 (Dec.mj k : Nat), .int .i64 (Dec.mn k : Nat)] 37)) (.cells #[.int .i64 (k : Int), .int .i64 S, .int .i64 0, .int .i64 0, .int .i64 0, .int .i64 0] 32)
          have b2 := hide (onto (onto (onto b1.out g1) g2) k2)
          have c2 := ((c1.on g1).on g2).on k2
          have d2 := (cell6 (w1.alloc (.cells #[.string (Dec.name k), .string F, .int .i64 (Dec.mj k : Nat), .int .i64 (Dec.mn k : Nat)] 37)) 32 (.int .i64 (k : Int)) (.int .i64 S) (.int .i64 0) (.int .i64 0) (.int .i64 0) (.int .i64 0)).on k2
          have f2 := fun o => ((bcell k2).2 w.heap.size o (cell_in ((c1.on g1).on g2).c0)).trans (((bcell g2).2 w.heap.size o (cell_in (c1.on g1).c0)).trans (((bcell g1).2 w.heap.size o z1).trans (f1.out o)))
          rw [show (w1.alloc (.cells #[.string (Dec.name k), .string F, .int .i64 (Dec.mj k : Nat), .int .i64 (Dec.mn k : Nat)] 37)).heap.size = w1.heap.size + 1 by simp] at d2
          have nz : w.heap.size ≠ w1.heap.size + 1 := by omega
          clear g1 g2 b1 c1 f1 k2 z1 hE hF hq
          generalize w1.heap.size + 1 = B at *
          generalize w1.heap.size = B0 at *
          clear w1
          have hhR := hide hR
          have hh1 := hide hfs
          have hh2 := hide hft
          have hh3 := hide hfd
          have hh4 := hide hfa
          have hh5 := hide hfi
          have hh6 := hide hmj
          clear hR hfs hft hfd hfa hfi hmj
          cases hik : is k with
          | true =>
            obtain ⟨rfl, hv⟩ := hi.out.mpr hik
            have hv := hv.symm
            subst hv
            obtain ⟨x0, x1, x2, x3, x4, x5⟩ := c2
            obtain ⟨y0, y1, y2, y3, y4, y5⟩ := d2
            have hik := hide hik
            clear hi
            go_wp2
            refine bodyPost_ret (v := .tuple #[.agg #[.int .i64 (k : Int), .int .i64 S, .int .i64 0, .int .i64 0, .int .i64 0, .int .i64 0], .int .i64 0]) (by simp [results, Tryd.results8, go_sem, x0, x1, x2, x3, x4, x5]) rfl ⟨Or.inl ⟨k, hlt, hik.out, ?_⟩, set6 b2.out (Nat.le_refl _)⟩
            obtain ⟨q1, q2, q3, q4, q5⟩ := rr.out
            rw [q1, q2, q3, q4, q5]
          | false =>
            have hn2 := hide (rmore hno.out hik)
            have hne : ¬ (e = 0 ∧ v = n) := fun h => by rw [hi.out.mp h] at hik; cases hik
            clear hno hik hi
            have fz := hide f2
            clear f2
            by_cases he : e = 0
            · have hv : (v == n) = false := by simp; exact fun h => hne ⟨he, h⟩
              have he2 : (e == 0) = true := by rw [he]; rfl
              clear hne he
              go_wp2
              go_roundw
              case rel => exact ⟨k + 1, by omega, by go_num, hn2, b2, c2, fz⟩
              case measure => simp [intOf]; omega
            · have he2 : (e == 0) = false := by simp; exact he
              clear hne he
              go_wp2
              go_roundw
              case rel => exact ⟨k + 1, by omega, by go_num, hn2, b2, c2, fz⟩
              case measure => simp [intOf]; omega
        · rw [hf] at r1 r2 r3 r4 r5
          simp only [HasS, HasT, HasD, HasA] at r1 r2 r3 r4 r5
          simp at r1 r2 r3 r4 r5
          have hF : (Dec.lname (Dec.fm k)).toList = [77, 68] := by rw [ByteArray.toList_eq, hf]; rfl
          have rr := hide (And.intro r1 (And.intro r2 (And.intro r3 (And.intro r4 r5))))
          rw [r1, r2, r3, r4, r5] at hE
          clear r1 r2 r3 r4 r5 hr hf
          generalize Dec.lname (Dec.fm k) = F at *
          go_wp2_with fail
          refine (hE _).mono ?_
          rintro e' w2 ⟨rfl, k2⟩
          have g1 := grow w1 (.cells #[.string (Dec.name k), .string F, .int .i64 (Dec.mj k : Nat), .int .i64 (Dec.mn k : Nat)] 37)
          have g2 := grow (w1.alloc (.cells #[.string (Dec.name k), .string F, .int .i64 (Dec.mj k : Nat), .int .i64 (Dec.mn k : Nat)] 37)) (.cells #[.int .i64 (k : Int), .int .i64 S, .int .i64 T, .int .i64 0, .int .i64 0, .int .i64 0] 32)
          have b2 := hide (onto (onto (onto b1.out g1) g2) k2)
          have c2 := ((c1.on g1).on g2).on k2
          have d2 := (cell6 (w1.alloc (.cells #[.string (Dec.name k), .string F, .int .i64 (Dec.mj k : Nat), .int .i64 (Dec.mn k : Nat)] 37)) 32 (.int .i64 (k : Int)) (.int .i64 S) (.int .i64 T) (.int .i64 0) (.int .i64 0) (.int .i64 0)).on k2
          have f2 := fun o => ((bcell k2).2 w.heap.size o (cell_in ((c1.on g1).on g2).c0)).trans (((bcell g2).2 w.heap.size o (cell_in (c1.on g1).c0)).trans (((bcell g1).2 w.heap.size o z1).trans (f1.out o)))
          rw [show (w1.alloc (.cells #[.string (Dec.name k), .string F, .int .i64 (Dec.mj k : Nat), .int .i64 (Dec.mn k : Nat)] 37)).heap.size = w1.heap.size + 1 by simp] at d2
          have nz : w.heap.size ≠ w1.heap.size + 1 := by omega
          clear g1 g2 b1 c1 f1 k2 z1 hE hF hq
          generalize w1.heap.size + 1 = B at *
          generalize w1.heap.size = B0 at *
          clear w1
          have hhR := hide hR
          have hh1 := hide hfs
          have hh2 := hide hft
          have hh3 := hide hfd
          have hh4 := hide hfa
          have hh5 := hide hfi
          have hh6 := hide hmj
          clear hR hfs hft hfd hfa hfi hmj
          cases hik : is k with
          | true =>
            obtain ⟨rfl, hv⟩ := hi.out.mpr hik
            have hv := hv.symm
            subst hv
            obtain ⟨x0, x1, x2, x3, x4, x5⟩ := c2
            obtain ⟨y0, y1, y2, y3, y4, y5⟩ := d2
            have hik := hide hik
            clear hi
            go_wp2
            refine bodyPost_ret (v := .tuple #[.agg #[.int .i64 (k : Int), .int .i64 S, .int .i64 T, .int .i64 0, .int .i64 0, .int .i64 0], .int .i64 0]) (by simp [results, Tryd.results8, go_sem, x0, x1, x2, x3, x4, x5]) rfl ⟨Or.inl ⟨k, hlt, hik.out, ?_⟩, set6 b2.out (Nat.le_refl _)⟩
            obtain ⟨q1, q2, q3, q4, q5⟩ := rr.out
            rw [q1, q2, q3, q4, q5]
          | false =>
            have hn2 := hide (rmore hno.out hik)
            have hne : ¬ (e = 0 ∧ v = n) := fun h => by rw [hi.out.mp h] at hik; cases hik
            clear hno hik hi
            have fz := hide f2
            clear f2
            by_cases he : e = 0
            · have hv : (v == n) = false := by simp; exact fun h => hne ⟨he, h⟩
              have he2 : (e == 0) = true := by rw [he]; rfl
              clear hne he
              go_wp2
              go_roundw
              case rel => exact ⟨k + 1, by omega, by go_num, hn2, b2, c2, fz⟩
              case measure => simp [intOf]; omega
            · have he2 : (e == 0) = false := by simp; exact he
              clear hne he
              go_wp2
              go_roundw
              case rel => exact ⟨k + 1, by omega, by go_num, hn2, b2, c2, fz⟩
              case measure => simp [intOf]; omega
        · rw [hf] at r1 r2 r3 r4 r5
          simp only [HasS, HasT, HasD, HasA] at r1 r2 r3 r4 r5
          simp at r1 r2 r3 r4 r5
          have hF : (Dec.lname (Dec.fm k)).toList = [67, 76] := by rw [ByteArray.toList_eq, hf]; rfl
          have rr := hide (And.intro r1 (And.intro r2 (And.intro r3 (And.intro r4 r5))))
          rw [r1, r2, r3, r4, r5] at hE
          clear r1 r2 r3 r4 r5 hr hf
          generalize Dec.lname (Dec.fm k) = F at *
          go_wp2_with fail
          refine (hE _).mono ?_
          rintro e' w2 ⟨rfl, k2⟩
          have g1 := grow w1 (.cells #[.string (Dec.name k), .string F, .int .i64 (Dec.mj k : Nat), .int .i64 (Dec.mn k : Nat)] 37)
          have g2 := grow (w1.alloc (.cells #[.string (Dec.name k), .string F, .int .i64 (Dec.mj k : Nat), .int .i64 (Dec.mn k : Nat)] 37)) (.cells #[.int .i64 (k : Int), .int .i64 S, .int .i64 0, .int .i64 D, .int .i64 0, .int .i64 0] 32)
          have b2 := hide (onto (onto (onto b1.out g1) g2) k2)
          have c2 := ((c1.on g1).on g2).on k2
          have d2 := (cell6 (w1.alloc (.cells #[.string (Dec.name k), .string F, .int .i64 (Dec.mj k : Nat), .int .i64 (Dec.mn k : Nat)] 37)) 32 (.int .i64 (k : Int)) (.int .i64 S) (.int .i64 0) (.int .i64 D) (.int .i64 0) (.int .i64 0)).on k2
          have f2 := fun o => ((bcell k2).2 w.heap.size o (cell_in ((c1.on g1).on g2).c0)).trans (((bcell g2).2 w.heap.size o (cell_in (c1.on g1).c0)).trans (((bcell g1).2 w.heap.size o z1).trans (f1.out o)))
          rw [show (w1.alloc (.cells #[.string (Dec.name k), .string F, .int .i64 (Dec.mj k : Nat), .int .i64 (Dec.mn k : Nat)] 37)).heap.size = w1.heap.size + 1 by simp] at d2
          have nz : w.heap.size ≠ w1.heap.size + 1 := by omega
          clear g1 g2 b1 c1 f1 k2 z1 hE hF hq
          generalize w1.heap.size + 1 = B at *
          generalize w1.heap.size = B0 at *
          clear w1
          have hhR := hide hR
          have hh1 := hide hfs
          have hh2 := hide hft
          have hh3 := hide hfd
          have hh4 := hide hfa
          have hh5 := hide hfi
          have hh6 := hide hmj
          clear hR hfs hft hfd hfa hfi hmj
          cases hik : is k with
          | true =>
            obtain ⟨rfl, hv⟩ := hi.out.mpr hik
            have hv := hv.symm
            subst hv
            obtain ⟨x0, x1, x2, x3, x4, x5⟩ := c2
            obtain ⟨y0, y1, y2, y3, y4, y5⟩ := d2
            have hik := hide hik
            clear hi
            go_wp2
            refine bodyPost_ret (v := .tuple #[.agg #[.int .i64 (k : Int), .int .i64 S, .int .i64 0, .int .i64 D, .int .i64 0, .int .i64 0], .int .i64 0]) (by simp [results, Tryd.results8, go_sem, x0, x1, x2, x3, x4, x5]) rfl ⟨Or.inl ⟨k, hlt, hik.out, ?_⟩, set6 b2.out (Nat.le_refl _)⟩
            obtain ⟨q1, q2, q3, q4, q5⟩ := rr.out
            rw [q1, q2, q3, q4, q5]
          | false =>
            have hn2 := hide (rmore hno.out hik)
            have hne : ¬ (e = 0 ∧ v = n) := fun h => by rw [hi.out.mp h] at hik; cases hik
            clear hno hik hi
            have fz := hide f2
            clear f2
            by_cases he : e = 0
            · have hv : (v == n) = false := by simp; exact fun h => hne ⟨he, h⟩
              have he2 : (e == 0) = true := by rw [he]; rfl
              clear hne he
              go_wp2
              go_roundw
              case rel => exact ⟨k + 1, by omega, by go_num, hn2, b2, c2, fz⟩
              case measure => simp [intOf]; omega
            · have he2 : (e == 0) = false := by simp; exact he
              clear hne he
              go_wp2
              go_roundw
              case rel => exact ⟨k + 1, by omega, by go_num, hn2, b2, c2, fz⟩
              case measure => simp [intOf]; omega
        · rw [hf] at r1 r2 r3 r4 r5
          simp only [HasS, HasT, HasD, HasA] at r1 r2 r3 r4 r5
          simp at r1 r2 r3 r4 r5
          have hF : (Dec.lname (Dec.fm k)).toList = [66, 90] := by rw [ByteArray.toList_eq, hf]; rfl
          have rr := hide (And.intro r1 (And.intro r2 (And.intro r3 (And.intro r4 r5))))
          rw [r1, r2, r3, r4, r5] at hE
          clear r1 r2 r3 r4 r5 hr hf
          generalize Dec.lname (Dec.fm k) = F at *
          go_wp2_with fail
          refine (hE _).mono ?_
          rintro e' w2 ⟨rfl, k2⟩
          have g1 := grow w1 (.cells #[.string (Dec.name k), .string F, .int .i64 (Dec.mj k : Nat), .int .i64 (Dec.mn k : Nat)] 37)
          have g2 := grow (w1.alloc (.cells #[.string (Dec.name k), .string F, .int .i64 (Dec.mj k : Nat), .int .i64 (Dec.mn k : Nat)] 37)) (.cells #[.int .i64 (k : Int), .int .i64 S, .int .i64 0, .int .i64 0, .int .i64 0, .int .i64 (n % 65536 - 65536)] 32)
          have b2 := hide (onto (onto (onto b1.out g1) g2) k2)
          have c2 := ((c1.on g1).on g2).on k2
          have d2 := (cell6 (w1.alloc (.cells #[.string (Dec.name k), .string F, .int .i64 (Dec.mj k : Nat), .int .i64 (Dec.mn k : Nat)] 37)) 32 (.int .i64 (k : Int)) (.int .i64 S) (.int .i64 0) (.int .i64 0) (.int .i64 0) (.int .i64 (n % 65536 - 65536))).on k2
          have f2 := fun o => ((bcell k2).2 w.heap.size o (cell_in ((c1.on g1).on g2).c0)).trans (((bcell g2).2 w.heap.size o (cell_in (c1.on g1).c0)).trans (((bcell g1).2 w.heap.size o z1).trans (f1.out o)))
          rw [show (w1.alloc (.cells #[.string (Dec.name k), .string F, .int .i64 (Dec.mj k : Nat), .int .i64 (Dec.mn k : Nat)] 37)).heap.size = w1.heap.size + 1 by simp] at d2
          have nz : w.heap.size ≠ w1.heap.size + 1 := by omega
          clear g1 g2 b1 c1 f1 k2 z1 hE hF hq
          generalize w1.heap.size + 1 = B at *
          generalize w1.heap.size = B0 at *
          clear w1
          have hhR := hide hR
          have hh1 := hide hfs
          have hh2 := hide hft
          have hh3 := hide hfd
          have hh4 := hide hfa
          have hh5 := hide hfi
          have hh6 := hide hmj
          clear hR hfs hft hfd hfa hfi hmj
          cases hik : is k with
          | true =>
            obtain ⟨rfl, hv⟩ := hi.out.mpr hik
            have hv := hv.symm
            subst hv
            obtain ⟨x0, x1, x2, x3, x4, x5⟩ := c2
            obtain ⟨y0, y1, y2, y3, y4, y5⟩ := d2
            have hik := hide hik
            clear hi
            go_wp2
            refine bodyPost_ret (v := .tuple #[.agg #[.int .i64 (k : Int), .int .i64 S, .int .i64 0, .int .i64 0, .int .i64 0, .int .i64 (n % 65536 - 65536)], .int .i64 0]) (by simp [results, Tryd.results8, go_sem, x0, x1, x2, x3, x4, x5]) rfl ⟨Or.inl ⟨k, hlt, hik.out, ?_⟩, set6 b2.out (Nat.le_refl _)⟩
            obtain ⟨q1, q2, q3, q4, q5⟩ := rr.out
            rw [q1, q2, q3, q4, q5]
          | false =>
            have hn2 := hide (rmore hno.out hik)
            have hne : ¬ (e = 0 ∧ v = n) := fun h => by rw [hi.out.mp h] at hik; cases hik
            clear hno hik hi
            have fz := hide f2
            clear f2
            by_cases he : e = 0
            · have hv : (v == n) = false := by simp; exact fun h => hne ⟨he, h⟩
              have he2 : (e == 0) = true := by rw [he]; rfl
              clear hne he
              go_wp2
              go_roundw
              case rel => exact ⟨k + 1, by omega, by go_num, hn2, b2, c2, fz⟩
              case measure => simp [intOf]; omega
            · have he2 : (e == 0) = false := by simp; exact he
              clear hne he
              go_wp2
              go_roundw
              case rel => exact ⟨k + 1, by omega, by go_num, hn2, b2, c2, fz⟩
              case measure => simp [intOf]; omega
        · rw [hf] at r1 r2 r3 r4 r5
          simp only [HasS, HasT, HasD, HasA] at r1 r2 r3 r4 r5
          simp at r1 r2 r3 r4 r5
          have hF : (Dec.lname (Dec.fm k)).toList = [74] := by rw [ByteArray.toList_eq, hf]; rfl
          have rr := hide (And.intro r1 (And.intro r2 (And.intro r3 (And.intro r4 r5))))
          rw [r1, r2, r3, r4, r5] at hE
          clear r1 r2 r3 r4 r5 hr hf
          generalize Dec.lname (Dec.fm k) = F at *
          go_wp2_with fail
          refine (hE _).mono ?_
          rintro e' w2 ⟨rfl, k2⟩
          have g1 := grow w1 (.cells #[.string (Dec.name k), .string F, .int .i64 (Dec.mj k : Nat), .int .i64 (Dec.mn k : Nat)] 37)
          have g2 := grow (w1.alloc (.cells #[.string (Dec.name k), .string F, .int .i64 (Dec.mj k : Nat), .int .i64 (Dec.mn k : Nat)] 37)) (.cells #[.int .i64 (k : Int), .int .i64 0, .int .i64 0, .int .i64 0, .int .i64 0, .int .i64 (n % 67108864)] 32)
          have b2 := hide (onto (onto (onto b1.out g1) g2) k2)
          have c2 := ((c1.on g1).on g2).on k2
          have d2 := (cell6 (w1.alloc (.cells #[.string (Dec.name k), .string F, .int .i64 (Dec.mj k : Nat), .int .i64 (Dec.mn k : Nat)] 37)) 32 (.int .i64 (k : Int)) (.int .i64 0) (.int .i64 0) (.int .i64 0) (.int .i64 0) (.int .i64 (n % 67108864))).on k2
          have f2 := fun o => ((bcell k2).2 w.heap.size o (cell_in ((c1.on g1).on g2).c0)).trans (((bcell g2).2 w.heap.size o (cell_in (c1.on g1).c0)).trans (((bcell g1).2 w.heap.size o z1).trans (f1.out o)))
          rw [show (w1.alloc (.cells #[.string (Dec.name k), .string F, .int .i64 (Dec.mj k : Nat), .int .i64 (Dec.mn k : Nat)] 37)).heap.size = w1.heap.size + 1 by simp] at d2
          have nz : w.heap.size ≠ w1.heap.size + 1 := by omega
          clear g1 g2 b1 c1 f1 k2 z1 hE hF hq
          generalize w1.heap.size + 1 = B at *
          generalize w1.heap.size = B0 at *
          clear w1
          have hhR := hide hR
          have hh1 := hide hfs
          have hh2 := hide hft
          have hh3 := hide hfd
          have hh4 := hide hfa
          have hh5 := hide hfi
          have hh6 := hide hmj
          clear hR hfs hft hfd hfa hfi hmj
          cases hik : is k with
          | true =>
            obtain ⟨rfl, hv⟩ := hi.out.mpr hik
            have hv := hv.symm
            subst hv
            obtain ⟨x0, x1, x2, x3, x4, x5⟩ := c2
            obtain ⟨y0, y1, y2, y3, y4, y5⟩ := d2
            have hik := hide hik
            clear hi
            go_wp2
            refine bodyPost_ret (v := .tuple #[.agg #[.int .i64 (k : Int), .int .i64 0, .int .i64 0, .int .i64 0, .int .i64 0, .int .i64 (n % 67108864)], .int .i64 0]) (by simp [results, Tryd.results8, go_sem, x0, x1, x2, x3, x4, x5]) rfl ⟨Or.inl ⟨k, hlt, hik.out, ?_⟩, set6 b2.out (Nat.le_refl _)⟩
            obtain ⟨q1, q2, q3, q4, q5⟩ := rr.out
            rw [q1, q2, q3, q4, q5]
          | false =>
            have hn2 := hide (rmore hno.out hik)
            have hne : ¬ (e = 0 ∧ v = n) := fun h => by rw [hi.out.mp h] at hik; cases hik
            clear hno hik hi
            have fz := hide f2
            clear f2
            by_cases he : e = 0
            · have hv : (v == n) = false := by simp; exact fun h => hne ⟨he, h⟩
              have he2 : (e == 0) = true := by rw [he]; rfl
              clear hne he
              go_wp2
              go_roundw
              case rel => exact ⟨k + 1, by omega, by go_num, hn2, b2, c2, fz⟩
              case measure => simp [intOf]; omega
            · have he2 : (e == 0) = false := by simp; exact he
              clear hne he
              go_wp2
              go_roundw
              case rel => exact ⟨k + 1, by omega, by go_num, hn2, b2, c2, fz⟩
              case measure => simp [intOf]; omega
        · rw [hf] at r1 r2 r3 r4 r5
          simp only [HasS, HasT, HasD, HasA] at r1 r2 r3 r4 r5
          simp at r1 r2 r3 r4 r5
          have hF : (Dec.lname (Dec.fm k)).toList = [66, 50] := by rw [ByteArray.toList_eq, hf]; rfl
          have rr := hide (And.intro r1 (And.intro r2 (And.intro r3 (And.intro r4 r5))))
          rw [r1, r2, r3, r4, r5] at hE
          clear r1 r2 r3 r4 r5 hr hf
          generalize Dec.lname (Dec.fm k) = F at *
          go_wp2_with fail
          refine (hE _).mono ?_
          rintro e' w2 ⟨rfl, k2⟩
          have g1 := grow w1 (.cells #[.string (Dec.name k), .string F, .int .i64 (Dec.mj k : Nat), .int .i64 (Dec.mn k : Nat)] 37)
          have g2 := grow (w1.alloc (.cells #[.string (Dec.name k), .string F, .int .i64 (Dec.mj k : Nat), .int .i64 (Dec.mn k : Nat)] 37)) (.cells #[.int .i64 (k : Int), .int .i64 S, .int .i64 T, .int .i64 0, .int .i64 0, .int .i64 (n % 65536 - 65536)] 32)
          have b2 := hide (onto (onto (onto b1.out g1) g2) k2)
          have c2 := ((c1.on g1).on g2).on k2
          have d2 := (cell6 (w1.alloc (.cells #[.string (Dec.name k), .string F, .int .i64 (Dec.mj k : Nat), .int .i64 (Dec.mn k : Nat)] 37)) 32 (.int .i64 (k : Int)) (.int .i64 S) (.int .i64 T) (.int .i64 0) (.int .i64 0) (.int .i64 (n % 65536 - 65536))).on k2
          have f2 := fun o => ((bcell k2).2 w.heap.size o (cell_in ((c1.on g1).on g2).c0)).trans (((bcell g2).2 w.heap.size o (cell_in (c1.on g1).c0)).trans (((bcell g1).2 w.heap.size o z1).trans (f1.out o)))
          rw [show (w1.alloc (.cells #[.string (Dec.name k), .string F, .int .i64 (Dec.mj k : Nat), .int .i64 (Dec.mn k : Nat)] 37)).heap.size = w1.heap.size + 1 by simp] at d2
          have nz : w.heap.size ≠ w1.heap.size + 1 := by omega
          clear g1 g2 b1 c1 f1 k2 z1 hE hF hq
          generalize w1.heap.size + 1 = B at *
          generalize w1.heap.size = B0 at *
          clear w1
          have hhR := hide hR
          have hh1 := hide hfs
          have hh2 := hide hft
          have hh3 := hide hfd
          have hh4 := hide hfa
          have hh5 := hide hfi
          have hh6 := hide hmj
          clear hR hfs hft hfd hfa hfi hmj
          cases hik : is k with
          | true =>
            obtain ⟨rfl, hv⟩ := hi.out.mpr hik
            have hv := hv.symm
            subst hv
            obtain ⟨x0, x1, x2, x3, x4, x5⟩ := c2
            obtain ⟨y0, y1, y2, y3, y4, y5⟩ := d2
            have hik := hide hik
            clear hi
            go_wp2
            refine bodyPost_ret (v := .tuple #[.agg #[.int .i64 (k : Int), .int .i64 S, .int .i64 T, .int .i64 0, .int .i64 0, .int .i64 (n % 65536 - 65536)], .int .i64 0]) (by simp [results, Tryd.results8, go_sem, x0, x1, x2, x3, x4, x5]) rfl ⟨Or.inl ⟨k, hlt, hik.out, ?_⟩, set6 b2.out (Nat.le_refl _)⟩
            obtain ⟨q1, q2, q3, q4, q5⟩ := rr.out
            rw [q1, q2, q3, q4, q5]
          | false =>
            have hn2 := hide (rmore hno.out hik)
            have hne : ¬ (e = 0 ∧ v = n) := fun h => by rw [hi.out.mp h] at hik; cases hik
            clear hno hik hi
            have fz := hide f2
            clear f2
            by_cases he : e = 0
            · have hv : (v == n) = false := by simp; exact fun h => hne ⟨he, h⟩
              have he2 : (e == 0) = true := by rw [he]; rfl
              clear hne he
              go_wp2
              go_roundw
              case rel => exact ⟨k + 1, by omega, by go_num, hn2, b2, c2, fz⟩
              case measure => simp [intOf]; omega
            · have he2 : (e == 0) = false := by simp; exact he
              clear hne he
              go_wp2
              go_roundw
              case rel => exact ⟨k + 1, by omega, by go_num, hn2, b2, c2, fz⟩
              case measure => simp [intOf]; omega
        · rw [hf] at r1 r2 r3 r4 r5
          simp only [HasS, HasT, HasD, HasA] at r1 r2 r3 r4 r5
          simp at r1 r2 r3 r4 r5
          have hF : (Dec.lname (Dec.fm k)).toList = [73] := by rw [ByteArray.toList_eq, hf]; rfl
          have rr := hide (And.intro r1 (And.intro r2 (And.intro r3 (And.intro r4 r5))))
          rw [r1, r2, r3, r4, r5] at hE
          clear r1 r2 r3 r4 r5 hr hf
          generalize Dec.lname (Dec.fm k) = F at *
          go_wp2_with fail
          refine (hE _).mono ?_
          rintro e' w2 ⟨rfl, k2⟩
          have g1 := grow w1 (.cells #[.string (Dec.name k), .string F, .int .i64 (Dec.mj k : Nat), .int .i64 (Dec.mn k : Nat)] 37)
          have g2 := grow (w1.alloc (.cells #[.string (Dec.name k), .string F, .int .i64 (Dec.mj k : Nat), .int .i64 (Dec.mn k : Nat)] 37)) (.cells #[.int .i64 (k : Int), .int .i64 S, .int .i64 T, .int .i64 0, .int .i64 0, .int .i64 (n % 65536 - 65536)] 32)
          have b2 := hide (onto (onto (onto b1.out g1) g2) k2)
          have c2 := ((c1.on g1).on g2).on k2
          have d2 := (cell6 (w1.alloc (.cells #[.string (Dec.name k), .string F, .int .i64 (Dec.mj k : Nat), .int .i64 (Dec.mn k : Nat)] 37)) 32 (.int .i64 (k : Int)) (.int .i64 S) (.int .i64 T) (.int .i64 0) (.int .i64 0) (.int .i64 (n % 65536 - 65536))).on k2
          have f2 := fun o => ((bcell k2).2 w.heap.size o (cell_in ((c1.on g1).on g2).c0)).trans (((bcell g2).2 w.heap.size o (cell_in (c1.on g1).c0)).trans (((bcell g1).2 w.heap.size o z1).trans (f1.out o)))
          rw [show (w1.alloc (.cells #[.string (Dec.name k), .string F, .int .i64 (Dec.mj k : Nat), .int .i64 (Dec.mn k : Nat)] 37)).heap.size = w1.heap.size + 1 by simp] at d2
          have nz : w.heap.size ≠ w1.heap.size + 1 := by omega
          clear g1 g2 b1 c1 f1 k2 z1 hE hF hq
          generalize w1.heap.size + 1 = B at *
          generalize w1.heap.size = B0 at *
          clear w1
          have hhR := hide hR
          have hh1 := hide hfs
          have hh2 := hide hft
          have hh3 := hide hfd
          have hh4 := hide hfa
          have hh5 := hide hfi
          have hh6 := hide hmj
          clear hR hfs hft hfd hfa hfi hmj
          cases hik : is k with
          | true =>
            obtain ⟨rfl, hv⟩ := hi.out.mpr hik
            have hv := hv.symm
            subst hv
            obtain ⟨x0, x1, x2, x3, x4, x5⟩ := c2
            obtain ⟨y0, y1, y2, y3, y4, y5⟩ := d2
            have hik := hide hik
            clear hi
            go_wp2
            refine bodyPost_ret (v := .tuple #[.agg #[.int .i64 (k : Int), .int .i64 S, .int .i64 T, .int .i64 0, .int .i64 0, .int .i64 (n % 65536 - 65536)], .int .i64 0]) (by simp [results, Tryd.results8, go_sem, x0, x1, x2, x3, x4, x5]) rfl ⟨Or.inl ⟨k, hlt, hik.out, ?_⟩, set6 b2.out (Nat.le_refl _)⟩
            obtain ⟨q1, q2, q3, q4, q5⟩ := rr.out
            rw [q1, q2, q3, q4, q5]
          | false =>
            have hn2 := hide (rmore hno.out hik)
            have hne : ¬ (e = 0 ∧ v = n) := fun h => by rw [hi.out.mp h] at hik; cases hik
            clear hno hik hi
            have fz := hide f2
            clear f2
            by_cases he : e = 0
            · have hv : (v == n) = false := by simp; exact fun h => hne ⟨he, h⟩
              have he2 : (e == 0) = true := by rw [he]; rfl
              clear hne he
              go_wp2
              go_roundw
              case rel => exact ⟨k + 1, by omega, by go_num, hn2, b2, c2, fz⟩
              case measure => simp [intOf]; omega
            · have he2 : (e == 0) = false := by simp; exact he
              clear hne he
              go_wp2
              go_roundw
              case rel => exact ⟨k + 1, by omega, by go_num, hn2, b2, c2, fz⟩
              case measure => simp [intOf]; omega
        · rw [hf] at r1 r2 r3 r4 r5
          simp only [HasS, HasT, HasD, HasA] at r1 r2 r3 r4 r5
          simp at r1 r2 r3 r4 r5
          have hF : (Dec.lname (Dec.fm k)).toList = [73, 85] := by rw [ByteArray.toList_eq, hf]; rfl
          have rr := hide (And.intro r1 (And.intro r2 (And.intro r3 (And.intro r4 r5))))
          rw [r1, r2, r3, r4, r5] at hE
          clear r1 r2 r3 r4 r5 hr hf
          generalize Dec.lname (Dec.fm k) = F at *
          go_wp2_with fail
          refine (hE _).mono ?_
          rintro e' w2 ⟨rfl, k2⟩
          have g1 := grow w1 (.cells #[.string (Dec.name k), .string F, .int .i64 (Dec.mj k : Nat), .int .i64 (Dec.mn k : Nat)] 37)
          have g2 := grow (w1.alloc (.cells #[.string (Dec.name k), .string F, .int .i64 (Dec.mj k : Nat), .int .i64 (Dec.mn k : Nat)] 37)) (.cells #[.int .i64 (k : Int), .int .i64 S, .int .i64 T, .int .i64 0, .int .i64 0, .int .i64 (n % 65536)] 32)
          have b2 := hide (onto (onto (onto b1.out g1) g2) k2)
          have c2 := ((c1.on g1).on g2).on k2
          have d2 := (cell6 (w1.alloc (.cells #[.string (Dec.name k), .string F, .int .i64 (Dec.mj k : Nat), .int .i64 (Dec.mn k : Nat)] 37)) 32 (.int .i64 (k : Int)) (.int .i64 S) (.int .i64 T) (.int .i64 0) (.int .i64 0) (.int .i64 (n % 65536))).on k2
          have f2 := fun o => ((bcell k2).2 w.heap.size o (cell_in ((c1.on g1).on g2).c0)).trans (((bcell g2).2 w.heap.size o (cell_in (c1.on g1).c0)).trans (((bcell g1).2 w.heap.size o z1).trans (f1.out o)))
          rw [show (w1.alloc (.cells #[.string (Dec.name k), .string F, .int .i64 (Dec.mj k : Nat), .int .i64 (Dec.mn k : Nat)] 37)).heap.size = w1.heap.size + 1 by simp] at d2
          have nz : w.heap.size ≠ w1.heap.size + 1 := by omega
          clear g1 g2 b1 c1 f1 k2 z1 hE hF hq
          generalize w1.heap.size + 1 = B at *
          generalize w1.heap.size = B0 at *
          clear w1
          have hhR := hide hR
          have hh1 := hide hfs
          have hh2 := hide hft
          have hh3 := hide hfd
          have hh4 := hide hfa
          have hh5 := hide hfi
          have hh6 := hide hmj
          clear hR hfs hft hfd hfa hfi hmj
          cases hik : is k with
          | true =>
            obtain ⟨rfl, hv⟩ := hi.out.mpr hik
            have hv := hv.symm
            subst hv
            obtain ⟨x0, x1, x2, x3, x4, x5⟩ := c2
            obtain ⟨y0, y1, y2, y3, y4, y5⟩ := d2
            have hik := hide hik
            clear hi
            go_wp2
            refine bodyPost_ret (v := .tuple #[.agg #[.int .i64 (k : Int), .int .i64 S, .int .i64 T, .int .i64 0, .int .i64 0, .int .i64 (n % 65536)], .int .i64 0]) (by simp [results, Tryd.results8, go_sem, x0, x1, x2, x3, x4, x5]) rfl ⟨Or.inl ⟨k, hlt, hik.out, ?_⟩, set6 b2.out (Nat.le_refl _)⟩
            obtain ⟨q1, q2, q3, q4, q5⟩ := rr.out
            rw [q1, q2, q3, q4, q5]
          | false =>
            have hn2 := hide (rmore hno.out hik)
            have hne : ¬ (e = 0 ∧ v = n) := fun h => by rw [hi.out.mp h] at hik; cases hik
            clear hno hik hi
            have fz := hide f2
            clear f2
            by_cases he : e = 0
            · have hv : (v == n) = false := by simp; exact fun h => hne ⟨he, h⟩
              have he2 : (e == 0) = true := by rw [he]; rfl
              clear hne he
              go_wp2
              go_roundw
              case rel => exact ⟨k + 1, by omega, by go_num, hn2, b2, c2, fz⟩
              case measure => simp [intOf]; omega
            · have he2 : (e == 0) = false := by simp; exact he
              clear hne he
              go_wp2
              go_roundw
              case rel => exact ⟨k + 1, by omega, by go_num, hn2, b2, c2, fz⟩
              case measure => simp [intOf]; omega
        · rw [hf] at r1 r2 r3 r4 r5
          simp only [HasS, HasT, HasD, HasA] at r1 r2 r3 r4 r5
          simp at r1 r2 r3 r4 r5
          have hF : (Dec.lname (Dec.fm k)).toList = [76, 85, 73] := by rw [ByteArray.toList_eq, hf]; rfl
          have rr := hide (And.intro r1 (And.intro r2 (And.intro r3 (And.intro r4 r5))))
          rw [r1, r2, r3, r4, r5] at hE
          clear r1 r2 r3 r4 r5 hr hf
          generalize Dec.lname (Dec.fm k) = F at *
          go_wp2_with fail
          refine (hE _).mono ?_
          rintro e' w2 ⟨rfl, k2⟩
          have g1 := grow w1 (.cells #[.string (Dec.name k), .string F, .int .i64 (Dec.mj k : Nat), .int .i64 (Dec.mn k : Nat)] 37)
          have g2 := grow (w1.alloc (.cells #[.string (Dec.name k), .string F, .int .i64 (Dec.mj k : Nat), .int .i64 (Dec.mn k : Nat)] 37)) (.cells #[.int .i64 (k : Int), .int .i64 0, .int .i64 T, .int .i64 0, .int .i64 0, .int .i64 (n % 65536)] 32)
          have b2 := hide (onto (onto (onto b1.out g1) g2) k2)
          have c2 := ((c1.on g1).on g2).on k2
          have d2 := (cell6 (w1.alloc (.cells #[.string (Dec.name k), .string F, .int .i64 (Dec.mj k : Nat), .int .i64 (Dec.mn k : Nat)] 37)) 32 (.int .i64 (k : Int)) (.int .i64 0) (.int .i64 T) (.int .i64 0) (.int .i64 0) (.int .i64 (n % 65536))).on k2
          have f2 := fun o => ((bcell k2).2 w.heap.size o (cell_in ((c1.on g1).on g2).c0)).trans (((bcell g2).2 w.heap.size o (cell_in (c1.on g1).c0)).trans (((bcell g1).2 w.heap.size o z1).trans (f1.out o)))
          rw [show (w1.alloc (.cells #[.string (Dec.name k), .string F, .int .i64 (Dec.mj k : Nat), .int .i64 (Dec.mn k : Nat)] 37)).heap.size = w1.heap.size + 1 by simp] at d2
          have nz : w.heap.size ≠ w1.heap.size + 1 := by omega
          clear g1 g2 b1 c1 f1 k2 z1 hE hF hq
          generalize w1.heap.size + 1 = B at *
          generalize w1.heap.size = B0 at *
          clear w1
          have hhR := hide hR
          have hh1 := hide hfs
          have hh2 := hide hft
          have hh3 := hide hfd
          have hh4 := hide hfa
          have hh5 := hide hfi
          have hh6 := hide hmj
          clear hR hfs hft hfd hfa hfi hmj
          cases hik : is k with
          | true =>
            obtain ⟨rfl, hv⟩ := hi.out.mpr hik
            have hv := hv.symm
            subst hv
            obtain ⟨x0, x1, x2, x3, x4, x5⟩ := c2
            obtain ⟨y0, y1, y2, y3, y4, y5⟩ := d2
            have hik := hide hik
            clear hi
            go_wp2
            refine bodyPost_ret (v := .tuple #[.agg #[.int .i64 (k : Int), .int .i64 0, .int .i64 T, .int .i64 0, .int .i64 0, .int .i64 (n % 65536)], .int .i64 0]) (by simp [results, Tryd.results8, go_sem, x0, x1, x2, x3, x4, x5]) rfl ⟨Or.inl ⟨k, hlt, hik.out, ?_⟩, set6 b2.out (Nat.le_refl _)⟩
            obtain ⟨q1, q2, q3, q4, q5⟩ := rr.out
            rw [q1, q2, q3, q4, q5]
          | false =>
            have hn2 := hide (rmore hno.out hik)
            have hne : ¬ (e = 0 ∧ v = n) := fun h => by rw [hi.out.mp h] at hik; cases hik
            clear hno hik hi
            have fz := hide f2
            clear f2
            by_cases he : e = 0
            · have hv : (v == n) = false := by simp; exact fun h => hne ⟨he, h⟩
              have he2 : (e == 0) = true := by rw [he]; rfl
              clear hne he
              go_wp2
              go_roundw
              case rel => exact ⟨k + 1, by omega, by go_num, hn2, b2, c2, fz⟩
              case measure => simp [intOf]; omega
            · have he2 : (e == 0) = false := by simp; exact he
              clear hne he
              go_wp2
              go_roundw
              case rel => exact ⟨k + 1, by omega, by go_num, hn2, b2, c2, fz⟩
              case measure => simp [intOf]; omega
        · rw [hf] at r1 r2 r3 r4 r5
          simp only [HasS, HasT, HasD, HasA] at r1 r2 r3 r4 r5
          simp at r1 r2 r3 r4 r5
          have hF : (Dec.lname (Dec.fm k)).toList = [67, 48] := by rw [ByteArray.toList_eq, hf]; rfl
          have rr := hide (And.intro r1 (And.intro r2 (And.intro r3 (And.intro r4 r5))))
          rw [r1, r2, r3, r4, r5] at hE
          clear r1 r2 r3 r4 r5 hr hf
          generalize Dec.lname (Dec.fm k) = F at *
          go_wp2_with fail
          refine (hE _).mono ?_
          rintro e' w2 ⟨rfl, k2⟩
          have g1 := grow w1 (.cells #[.string (Dec.name k), .string F, .int .i64 (Dec.mj k : Nat), .int .i64 (Dec.mn k : Nat)] 37)
          have g2 := grow (w1.alloc (.cells #[.string (Dec.name k), .string F, .int .i64 (Dec.mj k : Nat), .int .i64 (Dec.mn k : Nat)] 37)) (.cells #[.int .i64 (k : Int), .int .i64 0, .int .i64 T, .int .i64 D, .int .i64 0, .int .i64 0] 32)
          have b2 := hide (onto (onto (onto b1.out g1) g2) k2)
          have c2 := ((c1.on g1).on g2).on k2
          have d2 := (cell6 (w1.alloc (.cells #[.string (Dec.name k), .string F, .int .i64 (Dec.mj k : Nat), .int .i64 (Dec.mn k : Nat)] 37)) 32 (.int .i64 (k : Int)) (.int .i64 0) (.int .i64 T) (.int .i64 D) (.int .i64 0) (.int .i64 0)).on k2
          have f2 := fun o => ((bcell k2).2 w.heap.size o (cell_in ((c1.on g1).on g2).c0)).trans (((bcell g2).2 w.heap.size o (cell_in (c1.on g1).c0)).trans (((bcell g1).2 w.heap.size o z1).trans (f1.out o)))
          rw [show (w1.alloc (.cells #[.string (Dec.name k), .string F, .int .i64 (Dec.mj k : Nat), .int .i64 (Dec.mn k : Nat)] 37)).heap.size = w1.heap.size + 1 by simp] at d2
          have nz : w.heap.size ≠ w1.heap.size + 1 := by omega
          clear g1 g2 b1 c1 f1 k2 z1 hE hF hq
          generalize w1.heap.size + 1 = B at *
          generalize w1.heap.size = B0 at *
          clear w1
          have hhR := hide hR
          have hh1 := hide hfs
          have hh2 := hide hft
          have hh3 := hide hfd
          have hh4 := hide hfa
          have hh5 := hide hfi
          have hh6 := hide hmj
          clear hR hfs hft hfd hfa hfi hmj
          cases hik : is k with
          | true =>
            obtain ⟨rfl, hv⟩ := hi.out.mpr hik
            have hv := hv.symm
            subst hv
            obtain ⟨x0, x1, x2, x3, x4, x5⟩ := c2
            obtain ⟨y0, y1, y2, y3, y4, y5⟩ := d2
            have hik := hide hik
            clear hi
            go_wp2
            refine bodyPost_ret (v := .tuple #[.agg #[.int .i64 (k : Int), .int .i64 0, .int .i64 T, .int .i64 D, .int .i64 0, .int .i64 0], .int .i64 0]) (by simp [results, Tryd.results8, go_sem, x0, x1, x2, x3, x4, x5]) rfl ⟨Or.inl ⟨k, hlt, hik.out, ?_⟩, set6 b2.out (Nat.le_refl _)⟩
            obtain ⟨q1, q2, q3, q4, q5⟩ := rr.out
            rw [q1, q2, q3, q4, q5]
          | false =>
            have hn2 := hide (rmore hno.out hik)
            have hne : ¬ (e = 0 ∧ v = n) := fun h => by rw [hi.out.mp h] at hik; cases hik
            clear hno hik hi
            have fz := hide f2
            clear f2
            by_cases he : e = 0
            · have hv : (v == n) = false := by simp; exact fun h => hne ⟨he, h⟩
              have he2 : (e == 0) = true := by rw [he]; rfl
              clear hne he
              go_wp2
              go_roundw
              case rel => exact ⟨k + 1, by omega, by go_num, hn2, b2, c2, fz⟩
              case measure => simp [intOf]; omega
            · have he2 : (e == 0) = false := by simp; exact he
              clear hne he
              go_wp2
              go_roundw
              case rel => exact ⟨k + 1, by omega, by go_num, hn2, b2, c2, fz⟩
              case measure => simp [intOf]; omega
        · rw [hf] at r1 r2 r3 r4 r5
          simp only [HasS, HasT, HasD, HasA] at r1 r2 r3 r4 r5
          simp at r1 r2 r3 r4 r5
          have hF : (Dec.lname (Dec.fm k)).toList = [67, 79] := by rw [ByteArray.toList_eq, hf]; rfl
          have rr := hide (And.intro r1 (And.intro r2 (And.intro r3 (And.intro r4 r5))))
          rw [r1, r2, r3, r4, r5] at hE
          clear r1 r2 r3 r4 r5 hr hf
          generalize Dec.lname (Dec.fm k) = F at *
          go_wp2_with fail
          refine (hE _).mono ?_
          rintro e' w2 ⟨rfl, k2⟩
          have g1 := grow w1 (.cells #[.string (Dec.name k), .string F, .int .i64 (Dec.mj k : Nat), .int .i64 (Dec.mn k : Nat)] 37)
          have g2 := grow (w1.alloc (.cells #[.string (Dec.name k), .string F, .int .i64 (Dec.mj k : Nat), .int .i64 (Dec.mn k : Nat)] 37)) (.cells #[.int .i64 (k : Int), .int .i64 0, .int .i64 0, .int .i64 0, .int .i64 0, .int .i64 0] 32)
          have b2 := hide (onto (onto (onto b1.out g1) g2) k2)
          have c2 := ((c1.on g1).on g2).on k2
          have d2 := (cell6 (w1.alloc (.cells #[.string (Dec.name k), .string F, .int .i64 (Dec.mj k : Nat), .int .i64 (Dec.mn k : Nat)] 37)) 32 (.int .i64 (k : Int)) (.int .i64 0) (.int .i64 0) (.int .i64 0) (.int .i64 0) (.int .i64 0)).on k2
          have f2 := fun o => ((bcell k2).2 w.heap.size o (cell_in ((c1.on g1).on g2).c0)).trans (((bcell g2).2 w.heap.size o (cell_in (c1.on g1).c0)).trans (((bcell g1).2 w.heap.size o z1).trans (f1.out o)))
          rw [show (w1.alloc (.cells #[.string (Dec.name k), .string F, .int .i64 (Dec.mj k : Nat), .int .i64 (Dec.mn k : Nat)] 37)).heap.size = w1.heap.size + 1 by simp] at d2
          have nz : w.heap.size ≠ w1.heap.size + 1 := by omega
          clear g1 g2 b1 c1 f1 k2 z1 hE hF hq
          generalize w1.heap.size + 1 = B at *
          generalize w1.heap.size = B0 at *
          clear w1
          have hhR := hide hR
          have hh1 := hide hfs
          have hh2 := hide hft
          have hh3 := hide hfd
          have hh4 := hide hfa
          have hh5 := hide hfi
          have hh6 := hide hmj
          clear hR hfs hft hfd hfa hfi hmj
          cases hik : is k with
          | true =>
            obtain ⟨rfl, hv⟩ := hi.out.mpr hik
            have hv := hv.symm
            subst hv
            obtain ⟨x0, x1, x2, x3, x4, x5⟩ := c2
            obtain ⟨y0, y1, y2, y3, y4, y5⟩ := d2
            have hik := hide hik
            clear hi
            go_wp2
            refine bodyPost_ret (v := .tuple #[.agg #[.int .i64 (k : Int), .int .i64 0, .int .i64 0, .int .i64 0, .int .i64 0, .int .i64 0], .int .i64 0]) (by simp [results, Tryd.results8, go_sem, x0, x1, x2, x3, x4, x5]) rfl ⟨Or.inl ⟨k, hlt, hik.out, ?_⟩, set6 b2.out (Nat.le_refl _)⟩
            obtain ⟨q1, q2, q3, q4, q5⟩ := rr.out
            rw [q1, q2, q3, q4, q5]
          | false =>
            have hn2 := hide (rmore hno.out hik)
            have hne : ¬ (e = 0 ∧ v = n) := fun h => by rw [hi.out.mp h] at hik; cases hik
            clear hno hik hi
            have fz := hide f2
            clear f2
            by_cases he : e = 0
            · have hv : (v == n) = false := by simp; exact fun h => hne ⟨he, h⟩
              have he2 : (e == 0) = true := by rw [he]; rfl
              clear hne he
              go_wp2
              go_roundw
              case rel => exact ⟨k + 1, by omega, by go_num, hn2, b2, c2, fz⟩
              case measure => simp [intOf]; omega
            · have he2 : (e == 0) = false := by simp; exact he
              clear hne he
              go_wp2
              go_roundw
              case rel => exact ⟨k + 1, by omega, by go_num, hn2, b2, c2, fz⟩
              case measure => simp [intOf]; omega
        · rw [hf] at r1 r2 r3 r4 r5
          simp only [HasS, HasT, HasD, HasA] at r1 r2 r3 r4 r5
          simp at r1 r2 r3 r4 r5
          have hF : (Dec.lname (Dec.fm k)).toList = [77] := by rw [ByteArray.toList_eq, hf]; rfl
          have rr := hide (And.intro r1 (And.intro r2 (And.intro r3 (And.intro r4 r5))))
          rw [r1, r2, r3, r4, r5] at hE
          clear r1 r2 r3 r4 r5 hr hf
          generalize Dec.lname (Dec.fm k) = F at *
          go_wp2_with fail
          refine (hE _).mono ?_
          rintro e' w2 ⟨rfl, k2⟩
          have g1 := grow w1 (.cells #[.string (Dec.name k), .string F, .int .i64 (Dec.mj k : Nat), .int .i64 (Dec.mn k : Nat)] 37)
          have g2 := grow (w1.alloc (.cells #[.string (Dec.name k), .string F, .int .i64 (Dec.mj k : Nat), .int .i64 (Dec.mn k : Nat)] 37)) (.cells #[.int .i64 (k : Int), .int .i64 S, .int .i64 T, .int .i64 0, .int .i64 0, .int .i64 (n % 65536 - 65536)] 32)
          have b2 := hide (onto (onto (onto b1.out g1) g2) k2)
          have c2 := ((c1.on g1).on g2).on k2
          have d2 := (cell6 (w1.alloc (.cells #[.string (Dec.name k), .string F, .int .i64 (Dec.mj k : Nat), .int .i64 (Dec.mn k : Nat)] 37)) 32 (.int .i64 (k : Int)) (.int .i64 S) (.int .i64 T) (.int .i64 0) (.int .i64 0) (.int .i64 (n % 65536 - 65536))).on k2
          have f2 := fun o => ((bcell k2).2 w.heap.size o (cell_in ((c1.on g1).on g2).c0)).trans (((bcell g2).2 w.heap.size o (cell_in (c1.on g1).c0)).trans (((bcell g1).2 w.heap.size o z1).trans (f1.out o)))
          rw [show (w1.alloc (.cells #[.string (Dec.name k), .string F, .int .i64 (Dec.mj k : Nat), .int .i64 (Dec.mn k : Nat)] 37)).heap.size = w1.heap.size + 1 by simp] at d2
          have nz : w.heap.size ≠ w1.heap.size + 1 := by omega
          clear g1 g2 b1 c1 f1 k2 z1 hE hF hq
          generalize w1.heap.size + 1 = B at *
          generalize w1.heap.size = B0 at *
          clear w1
          have hhR := hide hR
          have hh1 := hide hfs
          have hh2 := hide hft
          have hh3 := hide hfd
          have hh4 := hide hfa
          have hh5 := hide hfi
          have hh6 := hide hmj
          clear hR hfs hft hfd hfa hfi hmj
          cases hik : is k with
          | true =>
            obtain ⟨rfl, hv⟩ := hi.out.mpr hik
            have hv := hv.symm
            subst hv
            obtain ⟨x0, x1, x2, x3, x4, x5⟩ := c2
            obtain ⟨y0, y1, y2, y3, y4, y5⟩ := d2
            have hik := hide hik
            clear hi
            go_wp2
            refine bodyPost_ret (v := .tuple #[.agg #[.int .i64 (k : Int), .int .i64 S, .int .i64 T, .int .i64 0, .int .i64 0, .int .i64 (n % 65536 - 65536)], .int .i64 0]) (by simp [results, Tryd.results8, go_sem, x0, x1, x2, x3, x4, x5]) rfl ⟨Or.inl ⟨k, hlt, hik.out, ?_⟩, set6 b2.out (Nat.le_refl _)⟩
            obtain ⟨q1, q2, q3, q4, q5⟩ := rr.out
            rw [q1, q2, q3, q4, q5]
          | false =>
            have hn2 := hide (rmore hno.out hik)
            have hne : ¬ (e = 0 ∧ v = n) := fun h => by rw [hi.out.mp h] at hik; cases hik
            clear hno hik hi
            have fz := hide f2
            clear f2
            by_cases he : e = 0
            · have hv : (v == n) = false := by simp; exact fun h => hne ⟨he, h⟩
              have he2 : (e == 0) = true := by rw [he]; rfl
              clear hne he
              go_wp2
              go_roundw
              case rel => exact ⟨k + 1, by omega, by go_num, hn2, b2, c2, fz⟩
              case measure => simp [intOf]; omega
            · have he2 : (e == 0) = false := by simp; exact he
              clear hne he
              go_wp2
              go_roundw
              case rel => exact ⟨k + 1, by omega, by go_num, hn2, b2, c2, fz⟩
              case measure => simp [intOf]; omega
      · have hq : (((Dec.mj k : Nat) : Int) != n / 67108864) = true := by simp; exact hm
        have hx : is k = false := by cases hi : is k with | false => rfl | true => exact absurd (hmj k hlt hi) hm
        have hn2 := hide (rmore hno.out hx)
        clear hm hno
        have g1 := grow w1 (.cells #[.string (Dec.name k), .string (Dec.lname (Dec.fm k)), .int .i64 (Dec.mj k : Nat), .int .i64 (Dec.mn k : Nat)] 37)
        have b2 := hide (onto b1.out g1)
        have c2 := c1.on g1
        have f2 := hide fun o => ((bcell g1).2 w.heap.size o z1).trans (f1.out o)
        clear g1
        go_wp2
        go_roundw
        case rel => exact ⟨k + 1, by omega, by go_num, hn2, b2, c2, f2⟩
        case measure => simp [intOf]; omega
    · have hx : k = 69 := by omega
      subst hx
      obtain ⟨x0, x1, x2, x3, x4, x5⟩ := hc
      have hfz := hfz.out
      go_wp2
      exact bodyPost_ret (v := .tuple #[.agg #[.int .i64 0, .int .i64 0, .int .i64 0, .int .i64 0, .int .i64 0, .int .i64 0], .int .i64 40]) (by simp [results, Tryd.results8, go_sem, x0, x1, x2, x3, x4, x5]) rfl ⟨Or.inr ⟨hno.out, rfl⟩, set6 hb.out (Nat.le_refl _)⟩

end Go.Proofs.YtbgklaahmmfpjaaDoor.De
