/- Layer 16: the calls whose answers the document fixes. -/
import Derived.Test.YtkmafafmnncgiaaTcCa
import Derived.Test.YtkmafafmnncgiaaTcSame
namespace Go.Proofs.Ytkmafafmnncgiaa
open Go.RowKit
set_option linter.unusedVariables false
set_option linter.unusedSimpArgs false

def b8 (k : Int) : Blk := ⟨8 * k, [1, 2], [], []⟩
def fixL : Nat → List Blk
  | 0 => []
  | 1 => [b8 0]
  | 2 => [b8 0, b8 1]
  | _ => [b8 1, b8 2]

theorem fixL_put (k : Nat) (h : k < 3) : putL 2 (fixL k) (b8 k) = fixL (k + 1) := by
  have : k = 0 ∨ k = 1 ∨ k = 2 := by omega
  rcases this with rfl | rfl | rfl <;> decide

theorem Row.two (w : World) (a b : Int) : Row (w.alloc (.cells #[.int .u32 a, .int .u32 b] 32)) (fun k => k = w.heap.size) 32 1 (.slice (some ⟨w.heap.size, 0, none⟩) 2 2) 2 (ints [a, b]) :=
  ⟨⟨rfl, .inr ⟨w.heap.size, 2, _, rfl, Nat.zero_le _, heap_alloc_new w _, Nat.le_refl _, by decide, rfl, rfl⟩⟩, fun k hk => by simp [Value.ownBlock] at hk; exact hk.symm⟩

theorem b8_at (w : World) (k : Nat) (h : k < 3) : BlkAt (w.alloc (.cells #[.int .u32 1, .int .u32 2] 32)) (fun k => k = w.heap.size)
    (.agg #[.int .u32 (8 * (k : Int)), .slice (some ⟨w.heap.size, 0, none⟩) 2 2, .slice none 0 0, .slice none 0 0]) (b8 k) := by
  have r : ∀ t s, Row (w.alloc (.cells #[.int .u32 1, .int .u32 2] 32)) (fun k => k = w.heap.size) t s (.slice none 0 0) 0 [] := fun t s => ⟨World.ownsRow_nil _ 0 t s, fun k hk => by simp [Value.ownBlock] at hk⟩
  exact ⟨_, _, _, rfl, Row.two w 1 2, r _ _, r _ _, ⟨by show 0 ≤ 8 * (k : Int); omega, by show 8 * (k : Int) < 4294967296; omega⟩, by simp [b8], by simp [b8], by simp [b8]⟩

set_option maxHeartbeats 4000000 in
theorem fixed_any (w : World) : Calls Try.prog 8 #[] w fun e w' => e = .returned (.bool true) ∧ Below w.heap.size w w' := by
  have cn := ca_new 2 (by decide) (by decide) w
  have c0 := new_bad 0 (.inl (by decide))
  rw [show ((2 : Nat) : Int) = 2 from rfl] at cn
  go_enter Try.func8, Try.ntmps8
  go_wp2_with fail
  refine cn.mono ?_
  rintro e w1 ⟨cb, F, rfl, C, hb⟩
  replace C := hide C
  replace hb := hide hb
  go_wp2_with fail
  refine (c0 _).mono ?_
  rintro e w2 ⟨rfl, rfl⟩
  clear cn c0
  go_wp2_with fail
  go_loopw [5] (fun i wr => ∃ (k : Nat) (G : Nat → Prop), k ≤ 3 ∧ i = .int .i64 (k : Int) ∧ Hid (Ca w.heap.size wr G cb 2 (fixL k)) ∧ Hid (Below w.heap.size w wr)) (fun i _ => 3 - (intOf i).toNat)
  case atStart => exact ⟨0, F, by decide, rfl, C, hb⟩
  case round =>
    clear C hb
    obtain ⟨k, G, hk, rfl, C, hb⟩ := hrel
    by_cases h : k < 3
    · have g := grow wr (.cells #[.int .u32 1, .int .u32 2] 32)
      have cp := ca_put (C.out.on g) (Nat.le_trans hb.out.size g.size) (b8_at wr k h) (fun j hj hG => by have := (C.out.in' j hG).2; omega)
      rw [fixL_put k h] at cp
      replace g := hide g
      go_wp2_with fail
      refine cp.mono ?_
      rintro e w3 ⟨rfl, G', C', T, hG⟩
      have hb3 : Hid (Below w.heap.size w w3) := hide ((onto hb.out (Nat.le_refl _) g.out).trans ((C.out.on g.out).below T (Nat.le_trans hb.out.size g.out.size)))
      replace C' := hide C'
      clear cp T
      go_wp2
      go_roundw
      case rel => exact ⟨k + 1, G', by omega, by go_num, C', hb3⟩
      case measure => simp [intOf]; omega
    · obtain rfl : k = 3 := by omega
      have C3 : Hid (Ca w.heap.size wr G cb 2 [b8 1, b8 2]) := C
      have c1 := ca_places C3.out
      clear C
      go_wp2_with fail
      refine c1.mono ?_
      rintro e w3 ⟨vp, rfl, R3, h3⟩
      have hb3 := hide (onto hb.out (Nat.le_refl _) h3)
      have C4 := hide (C3.out.on h3)
      replace R3 := hide R3
      have c2 := ca_drop C4.out 12 1 ⟨by decide, by decide⟩ ⟨by decide, by decide⟩
      rw [show hitsL 12 1 [b8 1, b8 2] = 1 by decide, show dropL 12 1 [b8 1, b8 2] = [b8 2] by decide] at c2
      clear c1 h3
      go_wp2_with fail
      refine c2.mono ?_
      rintro e w4 ⟨rfl, C5, T5⟩
      have hb4 := hide (hb3.out.trans (C4.out.below T5 hb3.out.size))
      have R4 := hide (R3.out.turn T5 (fun j e h => by have := R3.out.2 j e; have := (C3.out.in' j h).2; omega))
      have c3 := ca_get C5 8
      rw [show getL [b8 2] 8 = none by decide] at c3
      simp only [Option.isSome_none, Option.getD_none] at c3
      replace C5 := hide C5
      clear c2 T5 C4 R3
      go_wp2_with fail
      refine c3.mono ?_
      rintro e w5 ⟨v5, rfl, V5, h5⟩
      obtain ⟨s1, s2, s3, rfl, V1, V2, V3, -⟩ := V5
      obtain ⟨a1, m1, rfl, -⟩ := V1.shape
      obtain ⟨a2, m2, rfl, -⟩ := V2.shape
      obtain ⟨a3, m3, rfl, -⟩ := V3.shape
      obtain ⟨p5, hp5⟩ : ∃ p, p = B0.pc := ⟨_, rfl⟩
      obtain ⟨l1, hl1⟩ : ∃ p, p = B0.ws.length := ⟨_, rfl⟩
      obtain ⟨l2, hl2⟩ : ∃ p, p = B0.os.length := ⟨_, rfl⟩
      obtain ⟨l3, hl3⟩ : ∃ p, p = B0.ps.length := ⟨_, rfl⟩
      rw [← hp5, ← hl1, ← hl2, ← hl3]
      have g5 := grow w5 (.cells #[.int .u32 p5, .slice a1 l1 m1, .slice a2 l2 m2, .slice a3 l3 m3] 38)
      have hb6 := hide (onto (onto hb4.out (Nat.le_refl _) h5) (Nat.le_refl _) g5)
      have R6 := hide ((R4.out.on h5).on g5)
      have C6 := hide ((C5.out.on h5).on g5)
      have c4 := ca_get C6.out 16
      rw [show getL [b8 2] 16 = some (b8 2) by decide] at c4
      simp only [Option.isSome_some, Option.getD_some] at c4
      clear c3 V1 V2 V3 hp5 hl1 hl2 hl3 h5 g5 C5 R4
      go_wp2_with fail
      refine c4.mono ?_
      rintro e w6 ⟨v6, rfl, V6, h6⟩
      obtain ⟨t1, t2, t3, rfl, V1, V2, V3, -⟩ := V6
      obtain ⟨d1, n1, rfl, -⟩ := V1.shape
      obtain ⟨d2, n2, rfl, -⟩ := V2.shape
      obtain ⟨d3, n3, rfl, -⟩ := V3.shape
      rw [show (b8 2).pc = 16 from rfl, show (b8 2).ws.length = 2 from rfl, show (b8 2).os.length = 0 from rfl, show (b8 2).ps.length = 0 from rfl]
      have hb7 := hide (hb6.out.trans (h6.mono (hb6.out.size)))
      have R7 := hide (R6.out.on h6)
      clear V1 V2 V3 c4
      obtain ⟨w7, hw7⟩ : ∃ w7, w7 = w6.alloc (.cells #[.int .u32 16, .slice d1 2 n1, .slice d2 0 n2, .slice d3 0 n3] 38) := ⟨_, rfl⟩
      have g7 : Below w6.heap.size w6 w7 := by rw [hw7]; exact grow _ _
      have R8 := R7.out.on g7
      have g8 := grow w7 (.cells #[.int .u32 8, .int .u32 16] 32)
      have B7 : Box w7 w6.heap.size #[.int .u32 16, .slice d1 2 n1, .slice d2 0 n2, .slice d3 0 n3] := by rw [hw7]; exact Box.new _ _ _
      have c5 := wsame_any (R8.on g8) (Row.two w7 8 16)
      have s7 : w7.heap.size = w6.heap.size + 1 := by rw [hw7]; simp
      rw [s7] at c5
      clear s7
      rw [show decide (pcL [b8 1, b8 2] = [8, 16]) = true by decide] at c5
      replace B7 := hide (B7.on g8)
      have hb8 := hide (onto (onto hb7.out (Nat.le_refl _) g7) (Nat.le_refl _) g8)
      subst hw7
      clear R8 g7 g8 h6
      go_wp2_with fail
      refine c5.mono ?_
      rintro e w9 ⟨rfl, h9⟩
      have k0 := (B7.out.on h9).cell 0
      have k1 := (B7.out.on h9).cell 1
      have hb9 := hide (onto hb8.out (Nat.le_refl _) h9)
      clear h9 c5
      go_wp2
      go_ret
      exact ⟨rfl, hb9.out⟩

end Go.Proofs.Ytkmafafmnncgiaa
