/- Layer 10: contract of a uart's bytes, the document's. -/
import Derived.Test.YthjcijlabpinkaaGreatDoorRUaText
import Derived.Deep.RegionHeld3
namespace Go.Proofs.YthjcijlabpinkaaGreatDoor.Ua
open Go.RowKit
set_option linter.unusedVariables false
set_option maxRecDepth 100000
set_option linter.unusedSimpArgs false

theorem text_parts (u : Ua) : byteT (one u.n) ++ byteT u.i.size ++ u.i ++ byteT u.o.size ++ u.o = textV u := by
  unfold textV countV
  simp only [ByteArray.append_assoc]

theorem one_below (n : Int) (h0 : 0 ≤ n) (h1 : n < 256) (w : World) :
    Calls Tryz.prog 126 #[.int .i64 n] w fun e w' => e = .returned (.string (byteT n)) ∧ Below w.heap.size w w' := by
  refine (one_any n h0 w).mono ?_
  rintro e w' ⟨rfl, rfl⟩
  rw [show n % 256 = n by omega]
  exact ⟨rfl, grow _ _⟩

theorem two_on {w x y : World} {A : Nat} {u : Ua} (h : Rat x A u ∧ Below w.heap.size w x) (hb : Below x.heap.size x y) :
    y.cell? ⟨A, 0, none⟩ = some (.string u.i) ∧ y.cell? ⟨A, 1, none⟩ = some (.string u.o) ∧ (Rat y A u ∧ Below w.heap.size w y) :=
  ⟨(h.1.on hb).cell 0, (h.1.on hb).cell 1, h.1.on hb, onto h.2 (Nat.le_refl _) hb⟩

set_option maxRecDepth 100000 in
set_option maxHeartbeats 4000000 in
theorem rtext_any (u : Ua) (hu : Fits u) (w : World) :
    Calls Tryz.prog 81 #[.agg (cellsU u)] w fun e w' => e = .returned (.string (textV u)) ∧ Below w.heap.size w w' := by
  obtain ⟨t1, t2, t3, t4, t5, t6, t7, t8, t9⟩ := uaRules
  obtain ⟨p0, p1, p2⟩ := uaParts
  obtain ⟨d1, d2, d3⟩ := uaDrew
  obtain ⟨hi, ho⟩ := hu
  have c1 := hide fun W => one_below u.i.size (by omega) (by omega) W
  have c2 := hide fun W => one_below u.o.size (by omega) (by omega) W
  rw [← text_parts]
  have z1 : (byteT u.i.size).size = 1 := byteT_size _
  have z2 : (byteT u.o.size).size = 1 := byteT_size _
  generalize byteT u.i.size = a1 at *
  generalize byteT u.o.size = a2 at *
  obtain ⟨b, hb⟩ : ∃ b, byteT (one u.n) = b := ⟨_, rfl⟩
  have hz : b.size = 1 := by rw [← hb]; exact byteT_size _
  have hon : u.n = true ∧ b = ⟨#[1]⟩ ∨ u.n = false ∧ b = ⟨#[0]⟩ := by
    rw [← hb]
    cases u.n
    · exact Or.inr ⟨rfl, rfl⟩
    · exact Or.inl ⟨rfl, rfl⟩
  rw [hb]
  clear hb
  have hs : (Rat (w.alloc (.cells (cellsU u) 64)).drew w.heap.size u ∧ Below w.heap.size w (w.alloc (.cells (cellsU u) 64)).drew) := ⟨Rat.new w u 64, (grow _ _).drew⟩
  have hS := two_on hs (Below.refl _ _)
  clear hs
  obtain ⟨s1, e1⟩ : ∃ s, b ++ a1 = s := ⟨_, rfl⟩
  have y1 : s1.size = 2 := by rw [← e1, ByteArray.size_append]; omega
  rw [e1]
  obtain ⟨s2, e2⟩ : ∃ s, s1 ++ u.i = s := ⟨_, rfl⟩
  have y2 : s2.size ≤ 100 := by rw [← e2, ByteArray.size_append]; omega
  rw [e2]
  obtain ⟨s3, e3⟩ : ∃ s, s2 ++ a2 = s := ⟨_, rfl⟩
  have y3 : s3.size ≤ 200 := by rw [← e3, ByteArray.size_append]; omega
  rw [e3]
  obtain ⟨s4, e4⟩ : ∃ s, s3 ++ u.o = s := ⟨_, rfl⟩
  rw [e4]
  have k1 : ¬ 9223372036854775807 < 1 + 1 := by omega
  have k2 : ¬ 9223372036854775807 < 2 + u.i.size := by omega
  have k3 : ¬ 9223372036854775807 < s2.size + 1 := by omega
  have k4 : ¬ 9223372036854775807 < s3.size + u.o.size := by omega
  clear y2 y3 hi ho
  rcases hon with ⟨hn, rfl⟩ | ⟨hn, rfl⟩
  all_goals
    go_enter Tryz.func81, Tryz.ntmps81
    go_wp2_with fail
    go_region_held3 (fun x => x.cell? ⟨w.heap.size, 0, none⟩ = some (.string u.i) ∧ x.cell? ⟨w.heap.size, 1, none⟩ = some (.string u.o) ∧ Rat x w.heap.size u ∧ Below w.heap.size w x)
      (first | exact hS | assumption)
      (first
        | (refine at_func 126 (.tmp 9) 3 (by with_reducible rfl) ?_; go_simp; refine (c1.out _).mono ?_; rintro e w' ⟨rfl, hn⟩; have hR := two_on (And.right (And.right (by assumption))) hn; clear hn; go_wp2_with fail)
        | (refine at_func 126 (.tmp 17) 3 (by with_reducible rfl) ?_; go_simp; refine (c2.out _).mono ?_; rintro e w' ⟨rfl, hn⟩; have hR := two_on (And.right (And.right (by assumption))) hn; clear hn; go_wp2_with fail))
    all_goals
      go_wp2
      go_ret
      exact ⟨rfl, hR.2.2.2⟩

end Go.Proofs.YthjcijlabpinkaaGreatDoor.Ua
