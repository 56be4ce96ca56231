/- Contracts of the program's walk along a row over whatever its inner functions answer. -/
import Derived.Test.YtdapjpbdplhgbaaRngWalks3
namespace Go.Proofs.Ytdapjpbdplhgbaa.Rng
open Go.RowKit
set_option linter.unusedVariables false
set_option maxRecDepth 100000

/-- In block L lies a place of two numbers, block R is four zeros, and nothing below n has turned since w. -/
structure Stands (L R n : Nat) (w : World) (c d : Value) (x : World) : Prop where
  l0 : x.cell? ⟨L, 0, none⟩ = some c
  l1 : x.cell? ⟨L, 1, none⟩ = some d
  r0 : x.cell? ⟨R, 0, none⟩ = some (.int .i64 0)
  r1 : x.cell? ⟨R, 1, none⟩ = some (.int .i64 0)
  r2 : x.cell? ⟨R, 2, none⟩ = some (.int .i64 0)
  r3 : x.cell? ⟨R, 3, none⟩ = some (.int .i64 0)
  fl : ∀ o, x.frozen? ⟨L, o, none⟩ = false
  fr : ∀ o, x.frozen? ⟨R, o, none⟩ = false
  zl : L < x.heap.size
  zr : R < x.heap.size
  ne : R ≠ L
  nl : n ≤ L
  nr : n ≤ R
  nw : n ≤ w.heap.size
  be : Below n w x

theorem Stands.on {L R n : Nat} {w x y : World} {c d : Value} (h : Stands L R n w c d x) (hb : Below x.heap.size x y) : Stands L R n w c d y := by
  obtain ⟨hc, hf⟩ := bcell hb
  have hz := hb.size
  have hz2 := h.be.size
  have hz3 := h.nw
  have zl := h.zl
  have zr := h.zr
  exact ⟨by rw [hc _ _ zl, h.l0], by rw [hc _ _ zl, h.l1], by rw [hc _ _ zr, h.r0], by rw [hc _ _ zr, h.r1], by rw [hc _ _ zr, h.r2], by rw [hc _ _ zr, h.r3],
    fun o => by rw [hf _ _ zl, h.fl], fun o => by rw [hf _ _ zr, h.fr], by omega, by omega, h.ne, h.nl, h.nr, h.nw, h.be.trans (hb.mono (by omega))⟩

theorem Stands.put {L R n : Nat} {w x : World} {c d : Value} (h : Stands L R n w c d x) (c' d' : Value) : Stands L R n w c' d' ((x.setCell ⟨L, 0, none⟩ c').setCell ⟨L, 1, none⟩ d') := by
  have hn : L ≠ R := fun e => h.ne e.symm
  refine ⟨?_, ?_, ?_, ?_, ?_, ?_, ?_, ?_, ?_, ?_, h.ne, h.nl, h.nr, h.nw, (h.be.setCell h.nl _).setCell h.nl _⟩
  · simp [go_sem, h.l0]
  · simp [go_sem, h.l1]
  · simp [World.cell?_setCell_far, hn, h.r0]
  · simp [World.cell?_setCell_far, hn, h.r1]
  · simp [World.cell?_setCell_far, hn, h.r2]
  · simp [World.cell?_setCell_far, hn, h.r3]
  · intro o; simp [h.fl]
  · intro o; simp [h.fr]
  · simpa using h.zl
  · simpa using h.zr

end Go.Proofs.Ytdapjpbdplhgbaa.Rng
