/- Layer 9: contracts of the document's bytes. -/
import Derived.Test.YthjcijlabpinkaaGreatDoorRTmAll
import Derived.Deep.RegionLaw
namespace Go.Proofs.YthjcijlabpinkaaGreatDoor.Tm
open Go.RowKit
set_option linter.unusedVariables false
set_option maxRecDepth 100000

def wordV (v : Int) : ByteArray := strOfNums [v / 16777216, v / 65536 % 256, v / 256 % 256, v % 256]

theorem conv_new (w : World) (ns : List Int) (m : Nat) (hm : ns.length = m) :
    (convert 56 9 (.slice (some ⟨w.heap.size, 0, none⟩) m m)).run Tryz.prog (w.alloc (.cells (ns.map (Value.int .u8)).toArray 5)) = .ok (.string (strOfNums ns)) (w.alloc (.cells (ns.map (Value.int .u8)).toArray 5)) := by
  refine run_convert_bytes_arg _ 56 5 Tryz.underlying56 Tryz.underlying5 w.heap.size 0 m m ns hm ?_ 9 Tryz.underlying9
  intro i hi
  rw [Nat.zero_add, World.cell?_alloc_new]
  simp [List.getD, show i < ns.length by omega]

theorem rword_any {v : Int} (hv : W32 v) (w : World) :
    Calls Tryz.prog 80 #[.int .u32 v] w fun e w' => e = .returned (.string (wordV v)) ∧ Below w.heap.size w w' := by
  obtain ⟨v0, v1⟩ := hv
  have hc : ∀ x : World, (convert 56 9 (.slice (some ⟨x.heap.size, 0, none⟩) 4 4)).run Tryz.prog (x.alloc (.cells #[.int .u8 (v / 16777216), .int .u8 (v / 65536 % 256), .int .u8 (v / 256 % 256), .int .u8 (v % 256)] 5)) =
      .ok (.string (wordV v)) (x.alloc (.cells #[.int .u8 (v / 16777216), .int .u8 (v / 65536 % 256), .int .u8 (v / 256 % 256), .int .u8 (v % 256)] 5)) := fun x => conv_new x [v / 16777216, v / 65536 % 256, v / 256 % 256, v % 256] 4 rfl
  generalize wordV v = s at *
  go_enter Tryz.func80, Tryz.ntmps80
  go_wp2
  go_ret
  exact ⟨rfl, grow _ _⟩

set_option maxRecDepth 100000 in
theorem rval_any (s : ByteArray) (hs : s.size = 4) (w : World) :
    Calls Tryz.prog 120 #[.string s] w fun e w' => e = .returned (.int .u32 (valN s 0 4)) ∧ w' = w := by
  go_enter Tryz.func120, Tryz.ntmps120
  go_wp2
  go_loop [3, 4] (fun v i => ∃ j : Nat, j ≤ 4 ∧ i = .int .i64 j ∧ Hid (v = .int .i64 (valN s 0 j))) (fun _ i => 4 - (intOf i).toNat)
  case atStart => exact ⟨0, by omega, rfl, hide rfl⟩
  case round =>
    obtain ⟨j, hj, rfl, hv⟩ := hrel
    by_cases hlt : j < 4
    · have q1 := valN_lt s 0 j
      have q2 : (256 : Nat) ^ j ≤ 256 ^ 3 := Nat.pow_le_pow_right (by omega) (by omega)
      have hj' : j < s.size := by omega
      have e1 : valN s 0 (j + 1) = valN s 0 j * 256 + s[j].toNat := by
        rw [← byteN_in s j hj']
        simp [valN]
      have hv' := hv.out
      subst hv'
      generalize valN s 0 j = V at *
      have hb : s[j].toNat < 256 := s[j].toNat_lt
      replace e1 := hide e1
      have hV : V < 16777216 := by omega
      clear hv q1 q2
      go_wp2
      go_round
      case rel => exact ⟨j + 1, by omega, by go_num, hide (by rw [e1.out]; exact congrArg _ (by omega))⟩
      case measure => simp [intOf]; omega
    · have hx : j = 4 := by omega
      subst hx
      have hv' := hv.out
      subst hv'
      have q1 := valN_lt s 0 4
      simp only [show (256 : Nat) ^ 4 = 4294967296 from rfl] at q1
      clear hv
      go_wp2
      go_ret
      exact ⟨rfl, rfl⟩

theorem cat_text (t : Tm) : wordV t.e ++ wordV t.l ++ strOfNums [one t.r] = textV t := by
  unfold wordV textV strOfNums
  apply ByteArray.ext
  simp

theorem Rat.three {w : World} {b : Nat} {r : Tm} (h : Rat w b r) : w.cell? ⟨b, 0, none⟩ = some (.int .u32 r.e) ∧ w.cell? ⟨b, 1, none⟩ = some (.int .u32 r.l) ∧ w.cell? ⟨b, 2, none⟩ = some (.bool r.r) :=
  ⟨h.cell 0, h.cell 1, h.cell 2⟩

set_option maxRecDepth 100000 in
set_option maxHeartbeats 4000000 in
theorem rtext_any {t : Tm} (ht : Wt t) (w : World) :
    Calls Tryz.prog 78 #[.agg (cellsT t)] w fun e w' => e = .returned (.string (textV t)) ∧ Below w.heap.size w w' := by
  obtain ⟨t1, t2, t3, t4, t5, t6, t7, t8, t9⟩ := tmRules
  obtain ⟨p0, p1, p2⟩ := tmParts
  have c1 := hide fun W => rword_any ht.e W
  have c2 := hide fun W => rword_any ht.l W
  have c3 := hide fun W => rbit_any t.r W
  have hc : ∀ x : World, (convert 56 9 (.slice (some ⟨x.heap.size, 0, none⟩) 1 1)).run Tryz.prog (x.alloc (.cells #[.int .u8 (one t.r)] 5)) = .ok (.string (strOfNums [one t.r])) (x.alloc (.cells #[.int .u8 (one t.r)] 5)) := fun x => conv_new x [one t.r] 1 rfl
  obtain ⟨o0, o1⟩ := one_w t.r
  rw [← cat_text]
  have z1 : (wordV t.e).size = 4 := strOfNums_size _
  have z2 : (wordV t.l).size = 4 := strOfNums_size _
  have z3 : (strOfNums [one t.r]).size = 1 := strOfNums_size _
  clear ht
  generalize wordV t.e = s1 at *
  generalize wordV t.l = s2 at *
  generalize strOfNums [one t.r] = s3 at *
  have hb0 : IntKind.u8.wrap (one t.r) = one t.r := by cases t.r <;> decide
  generalize one t.r = b at *
  go_enter Tryz.func78, Tryz.ntmps78
  go_wp2_with fail
  have R : Rat (w.alloc (.cells (cellsT t) 62)).drew w.heap.size t := Rat.new w t 62
  have B := (grow w (.cells (cellsT t) 62)).drew
  go_region_law
    (first
      | (refine at_func 80 (.tmp 4) 22 (by with_reducible rfl) ?_; go_simp; refine (c1.out _).mono ?_; rintro e w' ⟨rfl, hn⟩; have R' := Rat.on (by assumption) hn; have B' := onto (by assumption) (Nat.le_refl _) hn; obtain ⟨q0, q1, q2⟩ := R'.three; clear hn; go_wp2_with fail)
      | (refine at_func 80 (.tmp 7) 22 (by with_reducible rfl) ?_; go_simp; refine (c2.out _).mono ?_; rintro e w' ⟨rfl, hn⟩; have R' := Rat.on (by assumption) hn; have B' := onto (by assumption) (Nat.le_refl _) hn; obtain ⟨q0, q1, q2⟩ := R'.three; clear hn; go_wp2_with fail)
      | (refine at_func 103 (.tmp 11) 4 (by with_reducible rfl) ?_; go_simp; refine (c3.out _).mono ?_; rintro e w' ⟨rfl, rfl⟩; go_wp2_with fail))
  all_goals
    go_wp2
    go_ret
    exact ⟨rfl, onto B' (Nat.le_refl _) (grow _ _)⟩

end Go.Proofs.YthjcijlabpinkaaGreatDoor.Tm
