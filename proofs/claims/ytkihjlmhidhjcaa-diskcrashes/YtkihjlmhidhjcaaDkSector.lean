/- Layer 18: the law's sector: bytes, each another one. -/
import Derived.Test.YtkihjlmhidhjcaaDkPure
namespace Go.Proofs.Ytkihjlmhidhjcaa
open Go.RowKit
set_option linter.unusedVariables false
set_option maxRecDepth 100000
set_option linter.unusedSimpArgs false

/-- How long a sector of the law is, its bytes. -/
def secN (m : Int) : Nat := (64 + max (-64) (min m 100)).toNat

def secB (v : Nat) : Nat → Nat := fun j => (v + j) % 256

def secT (v : Nat) (m : Int) : ByteArray := textOf (secN m) (secB v)

theorem secN_le (m : Int) : secN m ≤ 164 := by unfold secN; omega

theorem secT_size (v : Nat) (m : Int) : (secT v m).size = secN m := textOf_size _ _

theorem secT_64 (v : Nat) : (secT v 0).size = 64 := by rw [secT_size]; unfold secN; omega

set_option maxHeartbeats 1000000 in
set_option maxRecDepth 100000 in
theorem sector_any (v : Nat) (m : Int) (hv : v < 256) (w : World) :
    Calls Try.prog 20 #[.int .u8 (v : Int), .int .i64 m] w fun e w' => e = .returned (.string (secT v m)) ∧ Below w.heap.size w w' := by
  have hN : (64 : Int) + max (-64) (min m 100) = (secN m : Int) := by unfold secN; omega
  have hle := secN_le m
  unfold secT
  obtain ⟨N, HN⟩ : ∃ N, N = secN m := ⟨_, rfl⟩
  rw [← HN] at hN hle ⊢
  clear HN
  have mk := make_row w N (by omega)
  have R0 := hide (made_row w N)
  have B0 := hide ((Below.refl _ w).alloc (Nat.le_refl _) (.cells (madeCells #[.int .u8 0] N) 5))
  obtain ⟨T, hT⟩ : ∃ T, Hid (T = textOf N (secB v)) := ⟨_, hide rfl⟩
  rw [← hT.out]
  obtain ⟨V, hV⟩ : ∃ V : Int, Hid (V = (v : Int)) := ⟨_, hide rfl⟩
  have v0 : 0 ≤ V := by rw [hV.out]; omega
  have v1 : V < 256 := by rw [hV.out]; omega
  rw [← hV.out]
  go_enter Try.func20, Try.ntmps20
  go_wp2
  go_loopw [6] (fun i wr => ∃ k : Nat, k ≤ N ∧ i = .int .i64 k ∧ Hid (RowIs wr w.heap.size N (fun j => if j < k then secB v j else 0)) ∧ Hid (Below w.heap.size w wr)) (fun i _ => N - (intOf i).toNat)
  case atStart => exact ⟨0, by omega, rfl, hide (R0.out.congr fun j hj => by simp), B0⟩
  case round =>
    clear mk R0 B0
    obtain ⟨k, hk, rfl, R, G⟩ := hrel
    by_cases h : k < N
    · have hc := R.out.cell k h
      have hf := R.out.free k h
      have hl : (if k < k then secB v k else 0) = 0 := by simp
      rw [hl] at hc
      have R2 := hide ((R.out.set h (secB v k)).congr (g := fun j => if j < k + 1 then secB v j else 0) fun j hj => by
        by_cases e : j = k
        · subst e; simp
        · by_cases l : j < k
          · simp [e, l, show j < k + 1 by omega]
          · simp [e, l, show ¬ j < k + 1 by omega])
      have G2 := hide (G.out.setCell (p := ⟨w.heap.size, k, none⟩) (Nat.le_refl _) (.int .u8 ((secB v k : Nat) : Int)))
      have hb : ((secB v k : Nat) : Int) = (V + (k : Int)) % 256 := by unfold secB; rw [hV.out]; omega
      rw [hb] at R2 G2
      clear R G hl hb
      go_wp2
      go_roundw
      case rel => exact ⟨k + 1, by omega, by go_num, R2, G2⟩
      case measure => simp [intOf]; omega
    · have : k = N := by omega
      subst this
      have ht := conv_back (R.out.congr (g := secB v) fun j hj => by simp [hj]) k
      rw [← hT.out] at ht
      clear hT R
      go_wp2
      go_ret
      exact ⟨rfl, G.out⟩

end Go.Proofs.Ytkihjlmhidhjcaa
