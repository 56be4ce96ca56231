/- Two places in memory, side by side, behind calls and stores. -/
import Derived.Test.YtlnobnkgllemjaaRngHeld
namespace Go.Proofs.Ytlnobnkgllemjaa
open Go.RowKit
set_option linter.unusedVariables false

/-- In block L lies one place, in block R another one, and nothing below n has turned since w. -/
structure Pair (L R n : Nat) (w : World) (p q u v p' q' u' v' : Int) (x : World) : Prop where
  l0 : x.cell? ⟨L, 0, none⟩ = some (.int .i64 p)
  l1 : x.cell? ⟨L, 1, none⟩ = some (.int .i64 q)
  l2 : x.cell? ⟨L, 2, none⟩ = some (.int .i64 u)
  l3 : x.cell? ⟨L, 3, none⟩ = some (.int .i64 v)
  r0 : x.cell? ⟨R, 0, none⟩ = some (.int .i64 p')
  r1 : x.cell? ⟨R, 1, none⟩ = some (.int .i64 q')
  r2 : x.cell? ⟨R, 2, none⟩ = some (.int .i64 u')
  r3 : x.cell? ⟨R, 3, none⟩ = some (.int .i64 v')
  fl : ∀ o, x.frozen? ⟨L, o, none⟩ = false
  fr : ∀ o, x.frozen? ⟨R, o, none⟩ = false
  zl : L < x.heap.size
  zr : R < x.heap.size
  ne : R ≠ L
  nl : n ≤ L
  nr : n ≤ R
  nw : n ≤ w.heap.size
  be : Below n w x

theorem Pair.on {L R n : Nat} {w x y : World} {p q u v p' q' u' v' : Int} (h : Pair L R n w p q u v p' q' u' v' x) (hb : Below x.heap.size x y) : Pair L R n w p q u v p' q' u' v' y := by
  obtain ⟨hc, hf⟩ := bcell hb
  have hz := hb.size
  have hz2 := h.be.size
  have hz3 := h.nw
  have zl := h.zl
  have zr := h.zr
  exact ⟨by rw [hc _ _ zl, h.l0], by rw [hc _ _ zl, h.l1], by rw [hc _ _ zl, h.l2], by rw [hc _ _ zl, h.l3], by rw [hc _ _ zr, h.r0], by rw [hc _ _ zr, h.r1], by rw [hc _ _ zr, h.r2], by rw [hc _ _ zr, h.r3],
    fun o => by rw [hf _ _ zl, h.fl], fun o => by rw [hf _ _ zr, h.fr], by omega, by omega, h.ne, h.nl, h.nr, h.nw, h.be.trans (hb.mono (by omega))⟩

theorem Pair.new {L R n : Nat} {w x : World} {p q u v p' q' u' v' : Int} (h : Pair L R n w p q u v p' q' u' v' x) (o : Obj) : Pair L R n w p q u v p' q' u' v' (x.alloc o) :=
  h.on ((Below.refl _ _).alloc (Nat.le_refl _) _)

theorem Pair.flip {L R n : Nat} {w x : World} {p q u v p' q' u' v' : Int} (h : Pair L R n w p q u v p' q' u' v' x) : Pair R L n w p' q' u' v' p q u v x :=
  ⟨h.r0, h.r1, h.r2, h.r3, h.l0, h.l1, h.l2, h.l3, h.fr, h.fl, h.zr, h.zl, fun e => h.ne e.symm, h.nr, h.nl, h.nw, h.be⟩

theorem Pair.put {L R n : Nat} {w x : World} {p q u v p' q' u' v' : Int} (h : Pair L R n w p q u v p' q' u' v' x) (a b c d : Int) :
    Pair L R n w a b c d p' q' u' v' ((((x.setCell ⟨L, 0, none⟩ (.int .i64 a)).setCell ⟨L, 1, none⟩ (.int .i64 b)).setCell ⟨L, 2, none⟩ (.int .i64 c)).setCell ⟨L, 3, none⟩ (.int .i64 d)) := by
  have hn : L ≠ R := fun e => h.ne e.symm
  refine ⟨?_, ?_, ?_, ?_, ?_, ?_, ?_, ?_, ?_, ?_, ?_, ?_, h.ne, h.nl, h.nr, h.nw, set4 h.be h.nl⟩
  · simp [go_sem, h.l0]
  · simp [go_sem, h.l1]
  · simp [go_sem, h.l2]
  · simp [go_sem, h.l3]
  · simp [World.cell?_setCell_far, hn, h.r0]
  · simp [World.cell?_setCell_far, hn, h.r1]
  · simp [World.cell?_setCell_far, hn, h.r2]
  · simp [World.cell?_setCell_far, hn, h.r3]
  · intro o; simp [h.fl]
  · intro o; simp [h.fr]
  · simpa using h.zl
  · simpa using h.zr

theorem Pair.start {w x : World} {p q u v p' q' u' v' : Int} (hb : Below w.heap.size w x) :
    Pair x.heap.size (x.heap.size + 1) w.heap.size w p q u v p' q' u' v' ((x.alloc (.cells #[.int .i64 p, .int .i64 q, .int .i64 u, .int .i64 v] 24)).alloc (.cells #[.int .i64 p', .int .i64 q', .int .i64 u', .int .i64 v'] 24)) := by
  have hz := hb.size
  refine ⟨?_, ?_, ?_, ?_, ?_, ?_, ?_, ?_, ?_, ?_, ?_, ?_, ?_, ?_, ?_, ?_, ?_⟩
  · simp [go_sem]
  · simp [go_sem]
  · simp [go_sem]
  · simp [go_sem]
  · simp [go_sem]
  · simp [go_sem]
  · simp [go_sem]
  · simp [go_sem]
  · intro o; simp [go_sem]
  · intro o; simp [go_sem]
  · simp; omega
  · simp
  · omega
  · omega
  · omega
  · omega
  · exact (hb.alloc hz _).alloc (by simp; omega) _

/-- Block b is a place of four zeros. -/
def Zero (b : Nat) (x : World) : Prop := x.cell? ⟨b, 0, none⟩ = some (.int .i64 0) ∧ x.cell? ⟨b, 1, none⟩ = some (.int .i64 0) ∧ x.cell? ⟨b, 2, none⟩ = some (.int .i64 0) ∧ x.cell? ⟨b, 3, none⟩ = some (.int .i64 0) ∧
  (∀ o, x.frozen? ⟨b, o, none⟩ = false) ∧ b < x.heap.size

def Zeros : List Nat → World → Prop
  | [], _ => True
  | b :: l, x => Zero b x ∧ Zeros l x

theorem Zero.on {b : Nat} {x y : World} (h : Zero b x) (hb : Below x.heap.size x y) : Zero b y := by
  obtain ⟨h0, h1, h2, h3, hf, hz⟩ := h
  obtain ⟨c, f⟩ := bcell hb
  have := hb.size
  exact ⟨by rw [c _ _ hz, h0], by rw [c _ _ hz, h1], by rw [c _ _ hz, h2], by rw [c _ _ hz, h3], fun o => by rw [f _ _ hz, hf], by omega⟩

theorem Zero.new (x : World) : Zero x.heap.size (x.alloc (.cells #[.int .i64 0, .int .i64 0, .int .i64 0, .int .i64 0] 24)) := by
  refine ⟨?_, ?_, ?_, ?_, fun o => ?_, ?_⟩ <;> simp [go_sem]

theorem Zeros.on {l : List Nat} {x y : World} (h : Zeros l x) (hb : Below x.heap.size x y) : Zeros l y := by
  induction l with
  | nil => trivial
  | cons b l ih => exact ⟨h.1.on hb, ih h.2⟩

theorem Zeros.on1 {l : List Nat} {x y : World} (h : Zeros l x) (hb : Below (x.alloc (.cells #[.int .i64 0, .int .i64 0, .int .i64 0, .int .i64 0] 24)).heap.size (x.alloc (.cells #[.int .i64 0, .int .i64 0, .int .i64 0, .int .i64 0] 24)) y) : Zeros (x.heap.size :: l) y :=
  ⟨(Zero.new x).on hb, (h.on ((Below.refl _ _).alloc (Nat.le_refl _) _)).on hb⟩

theorem Zeros.on2 {l : List Nat} {x y : World} (h : Zeros l x) (hb : Below ((x.alloc (.cells #[.int .i64 0, .int .i64 0, .int .i64 0, .int .i64 0] 24)).alloc (.cells #[.int .i64 0, .int .i64 0, .int .i64 0, .int .i64 0] 24)).heap.size ((x.alloc (.cells #[.int .i64 0, .int .i64 0, .int .i64 0, .int .i64 0] 24)).alloc (.cells #[.int .i64 0, .int .i64 0, .int .i64 0, .int .i64 0] 24)) y) : Zeros ((x.heap.size + 1) :: x.heap.size :: l) y := by
  have := (Zero.new (x.alloc (.cells #[.int .i64 0, .int .i64 0, .int .i64 0, .int .i64 0] 24))).on hb
  simp at this
  exact ⟨this, ((Zero.new x).on ((Below.refl _ _).alloc (Nat.le_refl _) _)).on hb, ((h.on ((Below.refl _ _).alloc (Nat.le_refl _) _)).on ((Below.refl _ _).alloc (Nat.le_refl _) _)).on hb⟩

theorem Zeros.on1d {l : List Nat} {x y : World} (h : Zeros l x) (hb : Below (x.alloc (.cells #[.int .i64 0, .int .i64 0, .int .i64 0, .int .i64 0] 24)).drew.heap.size (x.alloc (.cells #[.int .i64 0, .int .i64 0, .int .i64 0, .int .i64 0] 24)).drew y) : Zeros (x.heap.size :: l) y :=
  h.on1 (((Below.refl _ _).drew).trans hb)

theorem Zeros.on2d {l : List Nat} {x y : World} (h : Zeros l x) (hb : Below ((x.alloc (.cells #[.int .i64 0, .int .i64 0, .int .i64 0, .int .i64 0] 24)).alloc (.cells #[.int .i64 0, .int .i64 0, .int .i64 0, .int .i64 0] 24)).drew.heap.size ((x.alloc (.cells #[.int .i64 0, .int .i64 0, .int .i64 0, .int .i64 0] 24)).alloc (.cells #[.int .i64 0, .int .i64 0, .int .i64 0, .int .i64 0] 24)).drew y) : Zeros ((x.heap.size + 1) :: x.heap.size :: l) y :=
  h.on2 (((Below.refl _ _).drew).trans hb)

theorem since_self (W : World) : (∀ b o, b < W.heap.size → W.cell? ⟨b, o, none⟩ = W.cell? ⟨b, o, none⟩) ∧ Below W.heap.size W W := ⟨fun _ _ _ => rfl, Below.refl _ W⟩

theorem since_drew {W x : World} (h : (∀ b o, b < W.heap.size → x.cell? ⟨b, o, none⟩ = W.cell? ⟨b, o, none⟩) ∧ Below W.heap.size W x) :
    (∀ b o, b < W.heap.size → x.drew.cell? ⟨b, o, none⟩ = W.cell? ⟨b, o, none⟩) ∧ Below W.heap.size W x.drew := ⟨h.1, h.2.drew⟩

theorem Zeros.hd {b : Nat} {l : List Nat} {x : World} (h : Zeros (b :: l) x) : Zero b x := h.1

theorem Zeros.hd2 {b c : Nat} {l : List Nat} {x : World} (h : Zeros (b :: c :: l) x) : Zero c x := h.2.1

theorem Pair.lay1 {A : Nat} {w x : World} (p q u v p' q' u' v' : Int) (hz : Zero A x) (hA : w.heap.size ≤ A) (hb : Below w.heap.size w x) :
    Pair A x.heap.size w.heap.size w p q u v p' q' u' v' (((((x.setCell ⟨A, 0, none⟩ (.int .i64 p)).setCell ⟨A, 1, none⟩ (.int .i64 q)).setCell ⟨A, 2, none⟩ (.int .i64 u)).setCell ⟨A, 3, none⟩ (.int .i64 v)).alloc (.cells #[.int .i64 p', .int .i64 q', .int .i64 u', .int .i64 v'] 24)) := by
  obtain ⟨h0, h1, h2, h3, hf, hz⟩ := hz
  have hs := hb.size
  have hn : x.heap.size ≠ A := by omega
  refine ⟨?_, ?_, ?_, ?_, ?_, ?_, ?_, ?_, ?_, ?_, ?_, ?_, hn, hA, by omega, by omega, (set4 hb hA).alloc (by simp; omega) _⟩
  · simp [go_sem, h0, hz]
  · simp [go_sem, h1, hz]
  · simp [go_sem, h2, hz]
  · simp [go_sem, h3, hz]
  · simp [go_sem]
  · simp [go_sem]
  · simp [go_sem]
  · simp [go_sem]
  · intro o; simp [go_sem, hf, hz]
  · intro o; simp [go_sem]
  · simp; omega
  · simp

theorem Pair.lay2 {A B : Nat} {w x : World} (p q u v p' q' u' v' : Int) (hA : Zero A x) (hB : Zero B x) (hn : B ≠ A) (nA : w.heap.size ≤ A) (nB : w.heap.size ≤ B) (hb : Below w.heap.size w x) :
    Pair A B w.heap.size w p q u v p' q' u' v' ((((((((x.setCell ⟨A, 0, none⟩ (.int .i64 p)).setCell ⟨A, 1, none⟩ (.int .i64 q)).setCell ⟨A, 2, none⟩ (.int .i64 u)).setCell ⟨A, 3, none⟩ (.int .i64 v)).setCell ⟨B, 0, none⟩ (.int .i64 p')).setCell ⟨B, 1, none⟩ (.int .i64 q')).setCell ⟨B, 2, none⟩ (.int .i64 u')).setCell ⟨B, 3, none⟩ (.int .i64 v')) := by
  have s : Pair A B w.heap.size w 0 0 0 0 0 0 0 0 x := by
    obtain ⟨h0, h1, h2, h3, hf, hz⟩ := hA
    obtain ⟨k0, k1, k2, k3, kf, kz⟩ := hB
    exact ⟨h0, h1, h2, h3, k0, k1, k2, k3, hf, kf, hz, kz, hn, nA, nB, Nat.le_refl _, hb⟩
  exact ((s.put p q u v).flip.put p' q' u' v').flip

end Go.Proofs.Ytlnobnkgllemjaa
