/- Layer 19: a log, as plain functions: heads, what is right, what is done to the disk. -/
import Derived.Test.YtgffhnggocbjhaaQWlCrc
import Derived.Test.YtgffhnggocbjhaaQDkBas
namespace Go.Proofs.Ytgffhnggocbjhaa
open Go.RowKit
set_option linter.unusedVariables false
set_option maxRecDepth 100000
set_option linter.unusedSimpArgs false

/-- Cells: their sectors' numbers, their bytes. -/
abbrev Cl := List (Int × ByteArray)

/-- Are the first k sectors of its own, rising? -/
def riseK (own : Int) (ks : List Int) : Nat → Bool
  | 0 => true
  | k + 1 => riseK own ks k && (decide (0 ≤ ks.getD k 0) && decide (ks.getD k 0 < own) && (decide (k = 0) || decide (ks.getD (k - 1) 0 < ks.getD k 0)))

/-- All cells' bytes, one behind the other; their sum. -/
def catC (c : Cl) : ByteArray := catT (c.map (·.2))
def sumC (c : Cl) : Nat := Crc.on 65535 (nats (catC c))

/-- A head's bytes ahead of its seal: the number, the cells' sectors, the sum. -/
def hdF (num : Nat) (ks : List Int) (t : Nat) (j : Nat) : Nat :=
  if j = 0 then 90 else if j = 1 then 87 else if j < 6 then num / 256 ^ (5 - j) % 256 else if j = 6 then ks.length % 256
  else if j < 39 then (if (j - 7) % 2 = 0 then (ks.getD ((j - 7) / 2) 0).toNat / 256 % 256 else (ks.getD ((j - 7) / 2) 0).toNat % 256)
  else if j = 39 then t / 256 % 256 else if j = 40 then t % 256 else if j < 58 then 0 else num / 256 ^ (61 - j) % 256
def headT (num : Nat) (ks : List Int) (t : Nat) : ByteArray := sealOf (textOf 62 (hdF num ks t))
def headC (num : Nat) (c : Cl) : ByteArray := headT num (c.map (·.1)) (sumC c)

/-- What a head tells. -/
def nb (s : ByteArray) (a : Nat) : Nat → Nat
  | 0 => 0
  | n + 1 => nb s a n * 256 + byteAt s (a + n)
def numH (s : ByteArray) : Nat := nb s 2 4
def cntH (s : ByteArray) : Nat := byteAt s 6
def ksH (s : ByteArray) : List Int := (List.range (cntH s)).map fun i => ((nb s (7 + 2 * i) 2 : Nat) : Int)
def tH (s : ByteArray) : Nat := nb s 39 2

/-- Is it right? -/
def rightB (own : Int) (s : ByteArray) (place : Nat) : Bool :=
  decide (cntH s ≤ 16) && (decide (numH s ≠ 0) && (decide (numH s % 2 = place) && (decide (headT (numH s) (ksH s) (tH s) = s) && riseK own (ksH s) (cntH s))))

/-- What is done to a disk: a write, a flush; a row of them, as long as they are answered OK. -/
inductive Do
  | w (n : Nat) (s : ByteArray)
  | f
def Do.err (d : Dk) : Do → Int
  | .w n s => d.errW n s
  | .f => d.errF
def Do.on (d : Dk) : Do → Dk
  | .w n s => d.wrote n s
  | .f => d.flush
def runL : List Do → Dk → Dk × Bool
  | [], d => (d, true)
  | a :: l, d => if a.err d = 0 then runL l (a.on d) else (a.on d, false)

theorem runL_app : ∀ (l r : List Do) (d : Dk), runL (l ++ r) d = if (runL l d).2 then runL r (runL l d).1 else runL l d
  | [], r, d => by simp [runL]
  | a :: l, r, d => by
    rw [List.cons_append, runL, runL]
    split
    · exact runL_app l r _
    · simp

/-- Cells to their room, to their sectors. -/
def roomD (num : Nat) (c : Cl) : List Do := (List.range c.length).map fun i => .w (2 + 16 * (num % 2) + i) (c.getD i (0, T0)).2
def homeD (c : Cl) : List Do := c.map (fun p => Do.w (34 + p.1.toNat) p.2) ++ [.f]
def formD : List Do := [.w 0 T0, .w 1 (headC 1 []), .f]
def changeD (num : Nat) (c : Cl) : List Do := roomD num c ++ ([.f, .w (num % 2) (headC num c), .f] ++ homeD c)

/-- How many sectors are its own; may a disk be a log's? -/
def Dk.own (d : Dk) : Int := (d.S.length : Int) - 34
def Dk.fits (d : Dk) : Bool := decide (42 ≤ d.S.length) && decide (d.S.length ≤ 4034)

/-- Format: the error, the disk. -/
def formE (d : Dk) : Int := if d.fits = false then 190 else if (runL formD d).2 then 0 else 2
def formN (d : Dk) : Dk := if d.fits = false then d else (runL formD d).1

/-- The cells of a head at a place, as its room has them. -/
def cellsH (d : Dk) (place : Nat) : Cl := (List.range (cntH (d.told (place : Int)))).map fun i => (((nb (d.told (place : Int)) (7 + 2 * i) 2 : Nat) : Int), d.told ((2 + 16 * place + i : Nat) : Int))
def rightH (d : Dk) (place : Nat) : Bool := rightB d.own (d.told (place : Int)) place
def numAt (d : Dk) (place : Nat) : Nat := if rightH d place then numH (d.told (place : Int)) else 0
/-- Which place has the right head with the greater number (none: its number is 0). -/
def bestP (d : Dk) : Nat := if numAt d 0 < numAt d 1 then 1 else 0
def bestN (d : Dk) : Nat := numAt d (bestP d)
def bestC (d : Dk) : Cl := cellsH d (bestP d)
def bestS (d : Dk) : Bool := decide (tH (d.told (bestP d : Int)) = sumC (bestC d))

/-- Open: the error, the disk. -/
def openE (d : Dk) : Int := if d.fits = false then 190 else if d.dead then 2 else if bestN d = 0 then 190 else if bestS d = false then 232 else if (runL (homeD (bestC d)) d).2 then 0 else 2
def openN (d : Dk) : Dk := if d.fits = false ∨ d.dead = true ∨ bestN d = 0 ∨ bestS d = false then d else (runL (homeD (bestC d)) d).1

/-- A log: its last change's number, is it dead, its disk. -/
structure Lg where
  n : Nat
  dead : Bool
  d : Dk

def Lg.errR (l : Lg) (n : Int) : Int := if n < 0 ∨ l.d.own ≤ n then 1 else l.d.errAt (34 + n)
def Lg.told (l : Lg) (n : Int) : ByteArray := if n < 0 ∨ l.d.own ≤ n then ByteArray.empty else l.d.told (34 + n)
def Lg.reads (l : Lg) (n : Int) : Lg := if n < 0 ∨ l.d.own ≤ n then l else { l with dead := l.dead || decide (l.d.errAt (34 + n) = 2) }

/-- Commit: is it refused, and how; else what is done. -/
def Lg.refuse (l : Lg) (c : Cl) : Int :=
  if 16 < c.length ∨ 4294967295 ≤ l.n then 191 else if c.all (fun p => decide (p.2.size = 64)) = false then 1 else if riseK l.d.own (c.map (·.1)) c.length = false then 1 else if l.dead then 2 else 0
def Lg.errC (l : Lg) (c : Cl) : Int := if l.refuse c ≠ 0 then l.refuse c else if (runL (changeD (l.n + 1) c) l.d).2 then 0 else 2
def Lg.commit (l : Lg) (c : Cl) : Lg :=
  if l.refuse c ≠ 0 then l else if (runL (changeD (l.n + 1) c) l.d).2 then ⟨l.n + 1, false, (runL (changeD (l.n + 1) c) l.d).1⟩ else ⟨l.n, true, (runL (changeD (l.n + 1) c) l.d).1⟩

/-- What is done keeps what a disk keeps to; how many steps, how many loose writes. -/
theorem Do.good {d : Dk} (g : d.Good) (a : Do) : (a.on d).Good := by
  cases a with
  | w n s => exact g.wrote _ _
  | f => exact g.flush

theorem runL_good : ∀ (l : List Do) {d : Dk}, d.Good → (runL l d).1.Good
  | [], d, g => g
  | a :: l, d, g => by
    rw [runL]
    split
    · exact runL_good l (Do.good g a)
    · exact Do.good g a

end Go.Proofs.Ytgffhnggocbjhaa
