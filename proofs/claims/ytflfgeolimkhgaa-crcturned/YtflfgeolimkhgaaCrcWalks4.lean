/- Contracts of sealing and of opening, the program's and the document's. -/
import Derived.Test.YtflfgeolimkhgaaCrcWalks3
import Derived.RegionTactic
import Derived.ChangeAlike
namespace Go.Proofs.Ytflfgeolimkhgaa
open Go.RowKit
set_option linter.unusedVariables false

/-- A text with its sum behind it. -/
def sealOf (s : ByteArray) : ByteArray := s ++ two (Crc.on 65535 (nats s))

theorem two_size (n : Nat) : (two n).size = 2 := rfl

theorem seal_any (s : ByteArray) (w : World) (hs : s.size ≤ 562949953421312) :
    Calls Try.prog 16 #[.string s] w fun e w' => e = .returned (.string (sealOf s)) ∧ Below w.heap.size w w' := by
  have hl := Crc.on_lt (n := 65535) (by decide) (nats_small s)
  have h2 := two_size (Crc.on 65535 (nats s))
  go_enter Try.func16, Try.ntmps16
  go_wp2_with fail
  refine (sum_any s (by unfold maxLen; omega) _).mono ?_
  rintro e w' ⟨rfl, rfl⟩
  go_wp2_with fail
  refine (sumText_any _ hl _).mono ?_
  rintro e w' ⟨rfl, hb⟩
  go_wp2
  go_ret
  exact ⟨rfl, hb⟩

theorem rsum_any (s : ByteArray) (hs : s.size ≤ maxLen) (w : World) :
    Calls Try.prog 13 #[.string s] w fun e w' => e = .returned (.int .u16 (Crc.on 65535 (nats s) : Nat)) ∧ w' = w := by
  go_enter Try.func13, Try.ntmps13
  go_wp2_with (go_at_call 11; refine (ron_any 65535 s (by decide) hs _).mono ?_; rintro e w' ⟨rfl, rfl⟩)
  go_ret
  exact ⟨rfl, rfl⟩

theorem rseal_any (s : ByteArray) (w : World) (hs : s.size ≤ 562949953421312) :
    Calls Try.prog 17 #[.string s] w fun e w' => e = .returned (.string (sealOf s)) ∧ Below w.heap.size w w' := by
  have hl := Crc.on_lt (n := 65535) (by decide) (nats_small s)
  have h2 := two_size (Crc.on 65535 (nats s))
  have hcv := conv_two (Crc.on 65535 (nats s)) w
  go_enter Try.func17, Try.ntmps17
  go_wp2_with fail
  refine (rsum_any s (by unfold maxLen; omega) _).mono ?_
  rintro e w' ⟨rfl, rfl⟩
  go_wp2
  go_ret
  exact ⟨rfl, (Below.refl _ _).alloc (Nat.le_refl _) _⟩

end Go.Proofs.Ytflfgeolimkhgaa
