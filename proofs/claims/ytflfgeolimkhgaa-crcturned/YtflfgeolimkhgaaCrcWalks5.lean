/- Contracts of opening, the program's and the document's. -/
import Derived.Test.YtflfgeolimkhgaaCrcWalks4
import Derived.Deep.RegionHeld3
import Derived.Deep.DrawnRows
namespace Go.Proofs.Ytflfgeolimkhgaa
open Go.RowKit
set_option linter.unusedVariables false

theorem open_short (s : ByteArray) (w : World) (hs : s.size < 2) :
    Calls Try.prog 14 #[.string s] w fun e w' => e = .returned (.tuple #[.string ⟨#[]⟩, .bool false]) ∧ Below w.heap.size w w' := by
  have hd : decide ((s.size : Int) - 2 < 0) = true := by simp; omega
  go_enter Try.func14, Try.ntmps14
  go_wp2
  go_region
  all_goals (go_wp2; go_ret2; exact ⟨rfl, by repeat (first | exact Below.refl _ _ | apply Below.drew)⟩)

set_option maxHeartbeats 2000000 in
theorem open_long (s : ByteArray) (n : Nat) (q : Bool) (w : World) (hsz : (s.size : Int) - 2 = (n : Int)) (hs : n ≤ 281474976710656)
    (hq : (!(s.extract n s.size).toList == (two (Crc.on 65535 (nats (s.extract 0 n)))).toList) = q) :
    Calls Try.prog 14 #[.string s] w fun e w' => e = .returned (if q then .tuple #[.string ⟨#[]⟩, .bool false] else .tuple #[.string (s.extract 0 n), .bool true]) ∧ Below w.heap.size w w' := by
  have hd : decide ((n : Int) < 0) = false := by simp
  have h1 : n ≤ s.size := by omega
  have hl := Crc.on_lt (n := 65535) (by decide) (nats_small (s.extract 0 n))
  have hm : (s.extract 0 n).size ≤ maxLen := by unfold maxLen; simp; omega
  have hc : (s.extract 0 n).size ≤ 281474976710656 := by simp; omega
  go_enter Try.func14, Try.ntmps14
  go_wp2
  go_region_held3 (fun x => Below w.heap.size w x) (first | exact (Below.refl _ w).drew | assumption | exact Below.trans (by assumption) (Below.mono (by assumption) (Below.size (by assumption)))) (first | (go_at_call 12; refine (sum_any _ hm _).mono ?_; rintro e w' ⟨rfl, rfl⟩) | (go_at_call 19; refine (sumText_any _ hl _).mono ?_; rintro e w' ⟨rfl, hb⟩))
  have hbw : Below w.heap.size w w' := (Below.refl _ w).drew.trans hb
  cases q
  · go_wp2_with fail
    refine (clone_any _ _ hc).mono ?_
    rintro e w2 ⟨rfl, hb2⟩
    go_wp2
    go_ret2
    exact ⟨rfl, hbw.trans (hb2.mono hbw.size)⟩
  · go_wp2
    go_ret2
    exact ⟨rfl, hbw⟩

end Go.Proofs.Ytflfgeolimkhgaa
