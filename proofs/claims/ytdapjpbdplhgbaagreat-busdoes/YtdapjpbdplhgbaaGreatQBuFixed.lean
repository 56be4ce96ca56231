/- Layer 12: the calls whose answers the document fixes are answered so. -/
import Derived.Test.YtdapjpbdplhgbaaGreatQBuCall
import Derived.Test.YtdapjpbdplhgbaaGreatQBuSet2
import Derived.Test.YtdapjpbdplhgbaaGreatQBuNew
namespace Go.Proofs.YtdapjpbdplhgbaaGreat
open Go.RowKit
set_option linter.unusedVariables false
set_option maxRecDepth 100000

/-- A bus that is the call's own. -/
structure Own (w x : World) (b p g n c : Nat) (v : Dv) (B : Nat → Nat) (D : Nat → Bool) : Prop where
  bus : Bus x b p g n c v B D
  be : Below w.heap.size w x
  zb : w.heap.size ≤ b
  zp : w.heap.size ≤ p
  zg : w.heap.size ≤ g

theorem Own.next {w x y : World} {b p g n c : Nat} {v v' : Dv} {B B' : Nat → Nat} {D D' : Nat → Bool} (h : Own w x b p g n c v B D) (hB : Bus y b p g n c v' B' D') (k : Kept [b, g] x y) : Own w y b p g n c v' B' D' :=
  ⟨hB, Kept.below h.be k (Nat.le_refl _) (by intro i hi; simp at hi; rcases hi with rfl | rfl; exact h.zb; exact h.zg), h.zb, h.zp, h.zg⟩

theorem Own.on {w x y : World} {b p g n c : Nat} {v : Dv} {B : Nat → Nat} {D : Nat → Bool} (h : Own w x b p g n c v B D) (hb : Below x.heap.size x y) : Own w y b p g n c v B D :=
  ⟨h.bus.on hb, onto h.be (Nat.le_refl _) hb, h.zb, h.zp, h.zg⟩

theorem kept1 {b g : Nat} {x y : World} (h : Kept [b] x y) : Kept [b, g] x y := h.mono (by simp)

/-- The states on the way. -/
def F1 : Dv := (stA 4 V0 (fun _ => 0) (fun _ => false) 520093696 4 1).v
def F2 : Dv := tkV 4 F1 (fun _ => 0)
def F3 : Dv := fdV F2 0 65
def F4 : Dv := (ldA 4 F3 (fun _ => 0) 520093952 4).v
def F5 : Dv := (ldA 4 F4 (fun _ => 0) 520094464 4).v

theorem fx1 : (stA 4 V0 (fun _ => 0) (fun _ => false) 520093696 4 1).E = 0 ∧ (stA 4 V0 (fun _ => 0) (fun _ => false) 520093696 4 1).B = (fun _ => 0) ∧ (stA 4 V0 (fun _ => 0) (fun _ => false) 520093696 4 1).D = (fun _ => false) := ⟨rfl, rfl, rfl⟩
theorem fx2 : linesV F2 = 1 ∧ tkB 4 F1 (fun _ => 0) = (fun _ => 0) ∧ tkD 4 F1 (fun _ => false) = (fun _ => false) := by
  refine ⟨by decide +kernel, ?_, ?_⟩
  · exact (move_0 4 _ _ _ (fun _ => false)).2.1
  · exact (move_0 4 _ _ (fun _ => 0) _).2.2
theorem fx4 : (ldA 4 F3 (fun _ => 0) 520093952 4).X = 65 ∧ (ldA 4 F3 (fun _ => 0) 520093952 4).E = 0 := ⟨by decide +kernel, by decide +kernel⟩
theorem fx5 : (ldA 4 F4 (fun _ => 0) 520094464 4).X = 444936249 ∧ (ldA 4 F4 (fun _ => 0) 520094464 4).E = 0 := ⟨by decide +kernel, by decide +kernel⟩
theorem fx6 : (ldA 4 F5 (fun _ => 0) 520094468 4).E = 121 ∧ (ldA 4 F5 (fun _ => 0) 520094468 4).v = F5 := ⟨rfl, rfl⟩
theorem fx7 : (ldA 4 F5 (fun _ => 0) 2147483648 4).E = 121 ∧ (ldA 4 F5 (fun _ => 0) 2147483648 4).v = F5 := ⟨by decide +kernel, rfl⟩
theorem fx8 : memX 4 (fun _ => 0) 0 4 = 0 ∧ decide (mayI 4 0 4) = true := ⟨by decide +kernel, by decide +kernel⟩
theorem fx9 : F5.u.i.size = 0 ∧ F5.u.o.size = 0 := ⟨by decide +kernel, by decide +kernel⟩

set_option maxHeartbeats 2000000 in
set_option maxRecDepth 100000 in
theorem fixed_any12 (w : World) : Calls Tryz.prog 16 #[] w fun e w' => e = .returned (.bool true) ∧ Below w.heap.size w w' := by
  go_enter Tryz.func16, Tryz.ntmps16
  go_wp2_with fail
  refine (busNew_any 4 (by omega) (by omega) w).mono ?_
  rintro e w1 ⟨b, p, g, rfl, hB, zb, zp, zg, b1⟩
  have O : Hid (Own w w1 b p g 4 4 V0 (fun _ => 0) (fun _ => false)) := hide ⟨hB, b1, zb, zp, zg⟩
  clear hB b1
  go_wp2_with fail
  refine (busNew_bad 3 (by omega) _).mono ?_
  rintro e w2 ⟨rfl, rfl⟩
  go_wp2_with fail
  refine (store_is O.out.bus 520093696 4 1 (by omega) (by omega) (by omega) (by omega)).mono ?_
  rintro e w2 ⟨rfl, hB, K⟩
  rw [fx1.1]
  rw [fx1.2.1, fx1.2.2] at hB
  replace O := hide (O.out.next (v' := F1) hB K)
  clear hB K
  go_wp2_with fail
  refine (tick_any O.out.bus).mono ?_
  rintro e w3 ⟨rfl, hB, K⟩
  rw [fx2.2.1, fx2.2.2] at hB
  rw [show linesV (tkV 4 F1 fun _ => 0) = 1 from fx2.1]
  replace O := hide (O.out.next (v' := F2) hB K)
  clear hB K
  go_wp2_with fail
  refine (feed_is O.out.bus 0 0 65 (by omega) (by omega)).mono ?_
  rintro e w4 ⟨rfl, hB, K⟩
  replace O := hide (O.out.next (v' := F3) hB (kept1 K))
  rw [show fdE 0 = 0 from rfl]
  clear hB K
  go_wp2_with fail
  refine (load_is O.out.bus 520093952 4 (by omega) (by omega)).mono ?_
  rintro e w5 ⟨rfl, hB, K⟩
  rw [fx4.1, fx4.2]
  replace O := hide (O.out.next (v' := F4) hB (kept1 K))
  clear hB K
  go_wp2_with fail
  refine (load_is O.out.bus 520094464 4 (by omega) (by omega)).mono ?_
  rintro e w6 ⟨rfl, hB, K⟩
  rw [fx5.1, fx5.2]
  replace O := hide (O.out.next (v' := F5) hB (kept1 K))
  clear hB K
  go_wp2_with fail
  refine (load_is O.out.bus 520094468 4 (by omega) (by omega)).mono ?_
  rintro e w7 ⟨rfl, hB, K⟩
  rw [fx6.1]
  rw [fx6.2] at hB
  replace O := hide (O.out.next hB (kept1 K))
  clear hB K
  go_wp2_with fail
  refine (load_is O.out.bus 2147483648 4 (by omega) (by omega)).mono ?_
  rintro e w8 ⟨rfl, hB, K⟩
  rw [fx7.1]
  rw [fx7.2] at hB
  replace O := hide (O.out.next hB (kept1 K))
  clear hB K
  go_wp2_with fail
  refine (feed_is O.out.bus 0 9 0 (by omega) (by omega)).mono ?_
  rintro e w9 ⟨rfl, hB, K⟩
  rw [show fdE 9 = 120 from rfl]
  rw [show fdV F5 9 0 = F5 from rfl] at hB
  replace O := hide (O.out.next hB (kept1 K))
  clear hB K
  go_wp2_with fail
  refine (set_no O.out.bus _ (fun x => parse_short (s := ⟨#[]⟩) (by decide) x)).mono ?_
  rintro e w10 ⟨rfl, K⟩
  replace O := hide (O.out.on K)
  clear K
  go_wp2_with fail
  refine (peek_is O.out.bus 0 (by omega) (by omega)).mono ?_
  rintro e w11 ⟨rfl, rfl⟩
  rw [fx8.1, fx8.2]
  go_wp2_with fail
  refine (devices_any O.out.bus).mono ?_
  rintro e w12 ⟨rfl, K⟩
  have hz : (devV F5).size = 1069 := by
    rw [devV_size F5 O.out.bus.wv, fx9.1, fx9.2]
  replace O := hide (O.out.on K)
  clear K
  generalize devV F5 = T at *
  go_wp2
  go_ret
  exact ⟨rfl, O.out.be⟩

end Go.Proofs.YtdapjpbdplhgbaaGreat
