/- Layer 10: contracts of a uart's bytes, the program's and the document's. -/
import Derived.Test.YthjcijlabpinkaaGreatDoorRUaAll
namespace Go.Proofs.YthjcijlabpinkaaGreatDoor.Ua
open Go.RowKit
set_option linter.unusedVariables false
set_option maxRecDepth 100000
set_option linter.unusedSimpArgs false

def one (b : Bool) : Int := if b then 1 else 0

def countV (s : ByteArray) : ByteArray := byteT s.size ++ s

def textV (u : Ua) : ByteArray := byteT (one u.n) ++ countV u.i ++ countV u.o

theorem conv_at (c : Int) (x : World) (g : Nat) (h : x.cell? ⟨g, 0, none⟩ = some (.int .u8 c)) : (convert 56 9 (.slice (some ⟨g, 0, none⟩) 1 1)).run Tryz.prog x = .ok (.string (byteT c)) x := by
  refine run_convert_bytes_arg x 56 5 Tryz.underlying56 Tryz.underlying5 g 0 1 1 [c] rfl ?_ 9 Tryz.underlying9
  intro i hi
  rw [show i = 0 by omega]
  exact h

theorem counted_any (s : ByteArray) (hs : s.size ≤ 64) (w : World) :
    Calls Tryz.prog 168 #[.string s] w fun e w' => e = .returned (.string (countV s)) ∧ w' = w.alloc (.cells #[.int .u8 s.size] 5) := by
  have hc := fun x => conv_one s.size x
  have hz := byteT_size s.size
  unfold countV
  generalize byteT s.size = t at *
  obtain ⟨r, hr⟩ : ∃ r, t ++ s = r := ⟨_, rfl⟩
  rw [hr]
  go_enter Tryz.func168, Tryz.ntmps168
  go_wp2
  go_ret
  exact ⟨rfl, rfl⟩

theorem one_w (b : Bool) : 0 ≤ one b ∧ one b < 2 := by cases b <;> decide

set_option maxRecDepth 100000 in
set_option maxHeartbeats 4000000 in
theorem text_any (u : Ua) (hu : Fits u) (w : World) :
    Calls Tryz.prog 77 #[.agg (cellsU u)] w fun e w' => e = .returned (.string (textV u)) ∧ Below w.heap.size w w' := by
  obtain ⟨t1, t2, t3, t4, t5, t6, t7, t8, t9⟩ := uaRules
  obtain ⟨p0, p1, p2⟩ := uaParts
  obtain ⟨d1, d2, d3⟩ := uaDrew
  obtain ⟨hi, ho⟩ := hu
  have c1 := hide fun W => counted_any u.i (by omega) W
  have c2 := hide fun W => counted_any u.o (by omega) W
  have hc := fun x g => conv_at (one u.n) x g
  have z0 : (byteT (one u.n)).size = 1 := byteT_size _
  have z1 : (countV u.i).size ≤ 100 := by unfold countV; rw [ByteArray.size_append, byteT_size]; omega
  have z2 : (countV u.o).size ≤ 100 := by unfold countV; rw [ByteArray.size_append, byteT_size]; omega
  have z3 : (byteT (one u.n) ++ countV u.i).size ≤ 200 := by rw [ByteArray.size_append]; omega
  unfold textV
  generalize countV u.i = a1 at *
  generalize countV u.o = a2 at *
  obtain ⟨b, hb⟩ : ∃ b, one u.n = b := ⟨_, rfl⟩
  have hon : u.n = true ∧ b = 1 ∨ u.n = false ∧ b = 0 := by
    rw [← hb]
    cases u.n <;> simp [one]
  rw [hb] at hc z0 z3 ⊢
  generalize byteT b = a0 at *
  clear hb
  have hadd1 : ¬ 9223372036854775807 < 1 + a1.size := by omega
  have hadd2 : ¬ 9223372036854775807 < (a0 ++ a1).size + a2.size := by omega
  have hadd3 : ¬ 9223372036854775807 < 1 + a1.size + a2.size := by omega
  rcases hon with ⟨hn, rfl⟩ | ⟨hn, rfl⟩
  all_goals
    go_enter Tryz.func77, Tryz.ntmps77
    go_wp2_with fail
    go_region_law
      (first
        | (refine at_func 168 (.tmp 10) 9 (by with_reducible rfl) ?_; go_simp; refine (c1.out _).mono ?_; rintro e w' ⟨rfl, rfl⟩; go_wp2_with fail)
        | (refine at_func 168 (.tmp 14) 9 (by with_reducible rfl) ?_; go_simp; refine (c2.out _).mono ?_; rintro e w' ⟨rfl, rfl⟩; go_wp2_with fail))
    all_goals
      go_wp2
      go_ret
      exact ⟨rfl, ((((grow _ _).alloc (by simp) _).alloc (by simp; omega) _).alloc (by simp; omega) _).drew⟩

end Go.Proofs.YthjcijlabpinkaaGreatDoor.Ua
