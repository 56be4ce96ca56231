/- Two places in memory, side by side, behind calls and stores. -/
import Derived.Test.YtlnobnkgllemjaaRngHeld
namespace Go.Proofs.Ytlnobnkgllemjaa
open Go.RowKit
set_option linter.unusedVariables false

/-- In block L lies one place, in block R another one, and nothing below n has turned since w. -/
structure Pair (L R n : Nat) (w : World) (p q u v p' q' u' v' : Int) (x : World) : Prop where
  l0 : x.cell? ⟨L, 0, none⟩ = some (.int .i64 p)
  l1 : x.cell? ⟨L, 1, none⟩ = some (.int .i64 q)
  l2 : x.cell? ⟨L, 2, none⟩ = some (.int .i64 u)
  l3 : x.cell? ⟨L, 3, none⟩ = some (.int .i64 v)
  r0 : x.cell? ⟨R, 0, none⟩ = some (.int .i64 p')
  r1 : x.cell? ⟨R, 1, none⟩ = some (.int .i64 q')
  r2 : x.cell? ⟨R, 2, none⟩ = some (.int .i64 u')
  r3 : x.cell? ⟨R, 3, none⟩ = some (.int .i64 v')
  fl : ∀ o, x.frozen? ⟨L, o, none⟩ = false
  fr : ∀ o, x.frozen? ⟨R, o, none⟩ = false
  zl : L < x.heap.size
  zr : R < x.heap.size
  ne : R ≠ L
  nl : n ≤ L
  nr : n ≤ R
  nw : n ≤ w.heap.size
  be : Below n w x

theorem Pair.on {L R n : Nat} {w x y : World} {p q u v p' q' u' v' : Int} (h : Pair L R n w p q u v p' q' u' v' x) (hb : Below x.heap.size x y) : Pair L R n w p q u v p' q' u' v' y := by
  obtain ⟨hc, hf⟩ := bcell hb
  have hz := hb.size
  have hz2 := h.be.size
  have hz3 := h.nw
  have zl := h.zl
  have zr := h.zr
  exact ⟨by rw [hc _ _ zl, h.l0], by rw [hc _ _ zl, h.l1], by rw [hc _ _ zl, h.l2], by rw [hc _ _ zl, h.l3], by rw [hc _ _ zr, h.r0], by rw [hc _ _ zr, h.r1], by rw [hc _ _ zr, h.r2], by rw [hc _ _ zr, h.r3],
    fun o => by rw [hf _ _ zl, h.fl], fun o => by rw [hf _ _ zr, h.fr], by omega, by omega, h.ne, h.nl, h.nr, h.nw, h.be.trans (hb.mono (by omega))⟩

theorem Pair.new {L R n : Nat} {w x : World} {p q u v p' q' u' v' : Int} (h : Pair L R n w p q u v p' q' u' v' x) (o : Obj) : Pair L R n w p q u v p' q' u' v' (x.alloc o) :=
  h.on ((Below.refl _ _).alloc (Nat.le_refl _) _)

theorem Pair.flip {L R n : Nat} {w x : World} {p q u v p' q' u' v' : Int} (h : Pair L R n w p q u v p' q' u' v' x) : Pair R L n w p' q' u' v' p q u v x :=
  ⟨h.r0, h.r1, h.r2, h.r3, h.l0, h.l1, h.l2, h.l3, h.fr, h.fl, h.zr, h.zl, fun e => h.ne e.symm, h.nr, h.nl, h.nw, h.be⟩

theorem Pair.put {L R n : Nat} {w x : World} {p q u v p' q' u' v' : Int} (h : Pair L R n w p q u v p' q' u' v' x) (a b c d : Int) :
    Pair L R n w a b c d p' q' u' v' ((((x.setCell ⟨L, 0, none⟩ (.int .i64 a)).setCell ⟨L, 1, none⟩ (.int .i64 b)).setCell ⟨L, 2, none⟩ (.int .i64 c)).setCell ⟨L, 3, none⟩ (.int .i64 d)) := by
  have hn : L ≠ R := fun e => h.ne e.symm
  refine ⟨?_, ?_, ?_, ?_, ?_, ?_, ?_, ?_, ?_, ?_, ?_, ?_, h.ne, h.nl, h.nr, h.nw, set4 h.be h.nl⟩
  · simp [go_sem, h.l0]
  · simp [go_sem, h.l1]
  · simp [go_sem, h.l2]
  · simp [go_sem, h.l3]
  · simp [World.cell?_setCell_far, hn, h.r0]
  · simp [World.cell?_setCell_far, hn, h.r1]
  · simp [World.cell?_setCell_far, hn, h.r2]
  · simp [World.cell?_setCell_far, hn, h.r3]
  · intro o; simp [h.fl]
  · intro o; simp [h.fr]
  · simpa using h.zl
  · simpa using h.zr

theorem Pair.start {w x : World} {p q u v p' q' u' v' : Int} (hb : Below w.heap.size w x) :
    Pair x.heap.size (x.heap.size + 1) w.heap.size w p q u v p' q' u' v' ((x.alloc (.cells #[.int .i64 p, .int .i64 q, .int .i64 u, .int .i64 v] 24)).alloc (.cells #[.int .i64 p', .int .i64 q', .int .i64 u', .int .i64 v'] 24)) := by
  have hz := hb.size
  refine ⟨?_, ?_, ?_, ?_, ?_, ?_, ?_, ?_, ?_, ?_, ?_, ?_, ?_, ?_, ?_, ?_, ?_⟩
  · simp [go_sem]
  · simp [go_sem]
  · simp [go_sem]
  · simp [go_sem]
  · simp [go_sem]
  · simp [go_sem]
  · simp [go_sem]
  · simp [go_sem]
  · intro o; simp [go_sem]
  · intro o; simp [go_sem]
  · simp; omega
  · simp
  · omega
  · omega
  · omega
  · omega
  · exact (hb.alloc hz _).alloc (by simp; omega) _

end Go.Proofs.Ytlnobnkgllemjaa
