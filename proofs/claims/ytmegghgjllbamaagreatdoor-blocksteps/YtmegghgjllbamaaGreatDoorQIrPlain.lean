/- Layer 14: operations and registers as rows of cells; what an operation of a kind writes. -/
import Derived.Test.YtmegghgjllbamaaGreatDoorQWholeAt
import Derived.Test.YtmegghgjllbamaaGreatDoorQDeAll
import Derived.Test.YtmegghgjllbamaaGreatDoorQWoAll
import Derived.Test.YtmegghgjllbamaaGreatDoorQCpAll
import Derived.Deep.RegionHeld3
namespace Go.Proofs.YtmegghgjllbamaaGreatDoor.Ir
open Go.RowKit
set_option linter.unusedVariables false
set_option maxRecDepth 100000
set_option linter.unusedSimpArgs false

/-- An operation. -/
structure Mi where
  k : Int
  d : Int
  a : Int
  b : Int
  m : Int
  c : Int
deriving DecidableEq

def cellsM (m : Mi) : Array Value := #[.int .i64 m.k, .int .i64 m.d, .int .i64 m.a, .int .i64 m.b, .int .u32 m.m, .int .i64 m.c]

/-- Six and thirty-two, so spelt that no walk opens a row of them. -/
def N6 : Nat := 6
def N32 : Nat := 32

/-- No operation. -/
def M0 : Mi := ⟨0, 0, 0, 0, 0, 0⟩

/-- The registers as a row. -/
def cellsX (R : Nat → Int) : Array Value := ((List.range 32).map fun k => Value.int .u32 (R k)).toArray

def X0 : Nat → Int := fun _ => 0

/-- A register is another one. -/
def putR (R : Nat → Int) (k : Nat) (v : Int) : Nat → Int := fun j => if j = k then v else R j

def oneN (b : Bool) : Int := if b then 1 else 0

/-- What an operation of a kind writes. -/
def valV (k a b m : Int) : Int :=
  if k = 1 then m else if k = 2 then a else if k = 3 then (a + b) % 4294967296 else if k = 4 then (a - b) % 4294967296
  else if k = 5 then bits .and .u32 a b else if k = 6 then bits .or .u32 a b else if k = 7 then bits .xor .u32 a b else if k = 8 then bits .xor .u32 4294967295 (bits .or .u32 a b)
  else if k = 9 then oneN (decide (Wo.mean a < Wo.mean b)) else if k = 10 then oneN (decide (a < b))
  else if k = 11 then Wo.shiftV 0 a b else if k = 12 then Wo.shiftV 1 a b else if k = 13 then Wo.shiftV 2 a b else 0

theorem oneIf_any (b : Bool) (w : World) : Calls Tryz.prog 77 #[.bool b] w fun e w' => e = .returned (.int .u32 (oneN b)) ∧ w' = w := by
  cases b
  all_goals
    go_enter Tryz.func77, Tryz.ntmps77
    go_wp2
    go_ret
    exact ⟨rfl, rfl⟩

set_option maxHeartbeats 2000000 in
theorem value_any (k x y m : Int) (hx : Cp.W32 x) (hy : Cp.W32 y) (w : World) :
    Calls Tryz.prog 44 #[.int .i64 k, .int .u32 x, .int .u32 y, .int .u32 m] w fun r w' => r = .returned (.int .u32 (valV k x y m)) ∧ w' = w := by
  obtain ⟨x0, x1⟩ := hx
  obtain ⟨y0, y1⟩ := hy
  by_cases hk : 1 ≤ k ∧ k ≤ 13
  · have hk' : k = 1 ∨ k = 2 ∨ k = 3 ∨ k = 4 ∨ k = 5 ∨ k = 6 ∨ k = 7 ∨ k = 8 ∨ k = 9 ∨ k = 10 ∨ k = 11 ∨ k = 12 ∨ k = 13 := by omega
    clear hk
    rcases hk' with rfl | rfl | rfl | rfl | rfl | rfl | rfl | rfl | rfl | rfl | rfl | rfl | rfl
    iterate 8
      · go_enter Tryz.func44, Tryz.ntmps44
        go_wp2
        go_ret
        exact ⟨rfl, rfl⟩
    · go_enter Tryz.func44, Tryz.ntmps44
      go_wp2_with fail
      refine (Wo.less_any x y true _ x0 x1 y0 y1).mono ?_
      rintro r w1 ⟨rfl, rfl⟩
      go_wp2_with fail
      refine (oneIf_any _ _).mono ?_
      rintro r w1 ⟨rfl, rfl⟩
      go_wp2
      go_ret
      exact ⟨rfl, rfl⟩
    · go_enter Tryz.func44, Tryz.ntmps44
      go_wp2_with fail
      refine (Wo.less_any x y false _ x0 x1 y0 y1).mono ?_
      rintro r w1 ⟨rfl, rfl⟩
      go_wp2_with fail
      refine (oneIf_any _ _).mono ?_
      rintro r w1 ⟨rfl, rfl⟩
      go_wp2
      go_ret
      exact ⟨rfl, rfl⟩
    iterate 3
      · go_enter Tryz.func44, Tryz.ntmps44
        go_wp2_with fail
        refine (Wo.shift_any _ x y _ x0 x1).mono ?_
        rintro r w1 ⟨rfl, rfl⟩
        go_wp2
        go_ret
        exact ⟨rfl, rfl⟩
  · obtain ⟨e1, e2, e3, e4, e5, e6, e7, e8, e9, e10, e11, e12, e13⟩ : (k == 1) = false ∧ (k == 2) = false ∧ (k == 3) = false ∧ (k == 4) = false ∧ (k == 5) = false ∧ (k == 6) = false ∧ (k == 7) = false ∧ (k == 8) = false ∧ (k == 9) = false ∧ (k == 10) = false ∧ (k == 11) = false ∧ (k == 12) = false ∧ (k == 13) = false := by
      refine ⟨?_, ?_, ?_, ?_, ?_, ?_, ?_, ?_, ?_, ?_, ?_, ?_, ?_⟩ <;> (simp; omega)
    have hv : valV k x y m = 0 := by
      unfold valV
      rw [if_neg (by omega), if_neg (by omega), if_neg (by omega), if_neg (by omega), if_neg (by omega), if_neg (by omega), if_neg (by omega), if_neg (by omega), if_neg (by omega), if_neg (by omega), if_neg (by omega), if_neg (by omega), if_neg (by omega)]
    rw [hv]
    clear hv hk
    go_enter Tryz.func44, Tryz.ntmps44
    go_wp2
    go_ret
    exact ⟨rfl, rfl⟩

theorem w_ite {p : Prop} [Decidable p] {a b : Int} (ha : Cp.W32 a) (hb : Cp.W32 b) : Cp.W32 (if p then a else b) := by split <;> assumption

theorem valV_w (k x y m : Int) (hx : Cp.W32 x) (hy : Cp.W32 y) (hm : Cp.W32 m) : Cp.W32 (valV k x y m) := by
  have key : ∀ j, Cp.W32 (Wo.shiftV j x y) := fun j => by
    unfold Wo.shiftV
    repeat' split
    · exact ⟨Int.emod_nonneg _ (by decide), Int.emod_lt_of_pos _ (by decide)⟩
    · refine ⟨Int.ediv_nonneg hx.1 (by exact Int.le_of_lt (Int.pow_pos (by decide))), ?_⟩
      exact Int.lt_of_le_of_lt (Int.ediv_le_self _ hx.1) hx.2
    · exact ⟨Int.emod_nonneg _ (by decide), Int.emod_lt_of_pos _ (by decide)⟩
    · exact hx
  have one : ∀ b, Cp.W32 (oneN b) := fun b => by cases b <;> exact ⟨by decide, by decide⟩
  have ow : Cp.W32 (bits .or .u32 x y) := by rw [Cp.or_of hx hy]; exact Cp.mix_w hy
  have xw : ∀ {p q : Int}, Cp.W32 p → Cp.W32 q → Cp.W32 (bits .xor .u32 p q) := fun {p q} ha hb => by
    have e : bits .xor .u32 p q = ((p.toNat ^^^ q.toNat : Nat) : Int) := u32_xor p q ha.1 ha.2 hb.1 hb.2
    have h1 : p.toNat < 2 ^ 32 := by have := ha.2; omega
    have h2 : q.toNat < 2 ^ 32 := by have := hb.2; omega
    have h3 := Nat.xor_lt_two_pow h1 h2
    exact ⟨by rw [e]; omega, by rw [e]; omega⟩
  have md : ∀ z : Int, Cp.W32 (z % 4294967296) := fun z => ⟨Int.emod_nonneg _ (by decide), Int.emod_lt_of_pos _ (by decide)⟩
  unfold valV
  exact w_ite hm (w_ite hx (w_ite (md _) (w_ite (md _) (w_ite (Cp.and_w hx hy) (w_ite ow (w_ite (xw hx hy) (w_ite (xw ⟨by decide, by decide⟩ ow) (w_ite (one _) (w_ite (one _) (w_ite (key _) (w_ite (key _) (w_ite (key _) Cp.w0))))))))))))

end Go.Proofs.YtmegghgjllbamaaGreatDoor.Ir
