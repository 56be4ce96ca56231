/- Layer 12: a call of a script on a bus, the program's. -/
import Derived.Test.YtdapjpbdplhgbaaGreatQBuOps
namespace Go.Proofs.YtdapjpbdplhgbaaGreat
open Go.RowKit
set_option linter.unusedVariables false
set_option maxRecDepth 100000

/-- A call of a script: its kind, a size, an address, a number, an event. -/
structure Op12 where
  k : Int
  z : Int
  a : Int
  m : Int
  ea : Int
  ek : Int
  em : Int

/-- Its numbers may be. -/
structure Op12.Fits (o : Op12) : Prop where
  a0 : 0 ≤ o.a
  a1 : o.a < 4294967296
  m0 : 0 ≤ o.m
  m1 : o.m < 4294967296
  e0 : 0 ≤ o.em
  e1 : o.em < 4294967296
  k0 : -9223372036854775808 ≤ o.k
  k1 : o.k ≤ 9223372036854775807
  z0 : -9223372036854775808 ≤ o.z
  z1 : o.z ≤ 9223372036854775807

def cellsO (o : Op12) : Array Value := #[.int .i64 o.k, .int .i64 o.z, .int .u32 o.a, .int .u32 o.m, .int .i64 o.ea, .int .i64 o.ek, .int .u32 o.em]

/-- What a call answers and makes of a bus. -/
structure Res where
  X : Int
  E : Int
  v : Dv
  B : Nat → Nat
  D : Nat → Bool

def clA (n : Nat) (v : Dv) (B : Nat → Nat) (D : Nat → Bool) (o : Op12) : Res :=
  if o.k = 0 then ⟨(ldA n v B o.a o.z).X, (ldA n v B o.a o.z).E, (ldA n v B o.a o.z).v, B, D⟩
  else if o.k = 1 then ⟨0, (stA n v B D o.a o.z o.m).E, (stA n v B D o.a o.z o.m).v, (stA n v B D o.a o.z o.m).B, (stA n v B D o.a o.z o.m).D⟩
  else if o.k = 3 then ⟨linesV (tkV n v B), 0, tkV n v B, tkB n v B, tkD n v D⟩
  else if o.k = 4 then ⟨0, fdE o.ek, fdV v o.ek o.em, B, D⟩
  else ⟨0, 0, v, B, D⟩

/-- The marks make no difference. -/
theorem stA_D (n : Nat) (v : Dv) (B : Nat → Nat) (D D' : Nat → Bool) (a s m : Int) : (stA n v B D a s m).E = (stA n v B D' a s m).E ∧ (stA n v B D a s m).v = (stA n v B D' a s m).v ∧ (stA n v B D a s m).B = (stA n v B D' a s m).B := by
  unfold stA wrA finW
  repeat' split
  all_goals exact ⟨rfl, rfl, rfl⟩

theorem clA_D (n : Nat) (v : Dv) (B : Nat → Nat) (D D' : Nat → Bool) (o : Op12) : (clA n v B D o).X = (clA n v B D' o).X ∧ (clA n v B D o).E = (clA n v B D' o).E ∧ (clA n v B D o).v = (clA n v B D' o).v ∧ (clA n v B D o).B = (clA n v B D' o).B := by
  unfold clA
  repeat' split
  · exact ⟨rfl, rfl, rfl, rfl⟩
  · obtain ⟨h1, h2, h3⟩ := stA_D n v B D D' o.a o.z o.m
    exact ⟨rfl, h1, h2, h3⟩
  · exact ⟨rfl, rfl, rfl, rfl⟩
  · exact ⟨rfl, rfl, rfl, rfl⟩
  · exact ⟨rfl, rfl, rfl, rfl⟩

theorem clA_w {n : Nat} {v : Dv} (hv : Wv v) (B : Nat → Nat) (D : Nat → Bool) (o : Op12) (ho : o.Fits) : Wv (clA n v B D o).v ∧ (¬ (clA n v B D o).E = 0 → (clA n v B D o).X = 0 ∧ (clA n v B D o).v = v ∧ (clA n v B D o).B = B) := by
  unfold clA
  repeat' split
  · obtain ⟨h1, h2⟩ := ldA_w (n := n) hv B o.a o.z
    exact ⟨h1, fun h => ⟨(h2 h).1, (h2 h).2, rfl⟩⟩
  · obtain ⟨h1, h2⟩ := stA_w (n := n) hv B D o.a o.z o.m ho.m0 ho.m1
    exact ⟨h1, fun h => ⟨rfl, (h2 h).1, (h2 h).2⟩⟩
  · exact ⟨tkV_w hv, fun h => absurd rfl h⟩
  · obtain ⟨h1, h2⟩ := fdV_w hv o.ek o.em
    exact ⟨h1, fun h => ⟨rfl, h2 h, rfl⟩⟩
  · exact ⟨hv, fun h => absurd rfl h⟩

end Go.Proofs.YtdapjpbdplhgbaaGreat
