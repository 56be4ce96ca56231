/- The program's memory and the document's, side by side: what each call makes of both. -/
import Derived.Test.YtbbofbilagaihaaMemR3
import Derived.Test.YtbbofbilagaihaaMemDirtyM
namespace Go.Proofs.Ytbbofbilagaihaa
open Go.RowKit
set_option linter.unusedVariables false
set_option linter.unusedSimpArgs false

theorem loads_same (n : Nat) (B : Nat → Nat) (D : Nat → Bool) (a : Nat) (z : Int) (ha : a < 4294967296) : ∃ X err : Int,
    (∀ x p g c, Mem x p g n c B D → Calls Try.prog 15 #[.pointer (some ⟨p, 0, none⟩), .int .u32 (a : Int), .int .i64 z] x fun e y => e = .returned (.tuple #[.int .u32 X, .int .i64 err]) ∧ y = x) ∧
    (∀ x p gb gd, RMem x p gb gd n B D → Calls Try.prog 16 #[.pointer (some ⟨p, 0, none⟩), .int .u32 (a : Int), .int .i64 z] x fun e y => e = .returned (.tuple #[.int .u32 X, .int .i64 err]) ∧ y = x) := by
  by_cases hm : (z = 1 ∨ z = 2 ∨ z = 4) ∧ (a : Int) % z = 0 ∧ (a : Int) + z ≤ 256 * n
  · obtain ⟨s, rfl⟩ : ∃ s : Nat, z = (s : Int) := ⟨z.toNat, by omega⟩
    have h : may n a s := by unfold may; omega
    exact ⟨_, _, fun x p g c M => load_any M a s ha h, fun x p gb gd R => rload_any R a s ha h⟩
  · exact ⟨_, _, fun x p g c M => load_bad M (a : Int) z (by omega) (by omega) hm, fun x p gb gd R => rload_bad R (a : Int) z (by omega) (by omega) hm⟩

theorem stores_same (n : Nat) (B : Nat → Nat) (D : Nat → Bool) (a v : Nat) (z : Int) (ha : a < 4294967296) (hv : v < 4294967296) : ∃ (err : Int) (B' : Nat → Nat) (D' : Nat → Bool),
    (∀ x p g c, Mem x p g n c B D → Calls Try.prog 17 #[.pointer (some ⟨p, 0, none⟩), .int .u32 (a : Int), .int .i64 z, .int .u32 (v : Int)] x fun e y => e = .returned (.int .i64 err) ∧ Mem y p g n c B' D' ∧ x.grownBy y (some g)) ∧
    (∀ x p gb gd, RMem x p gb gd n B D → Calls Try.prog 18 #[.pointer (some ⟨p, 0, none⟩), .int .u32 (a : Int), .int .i64 z, .int .u32 (v : Int)] x fun e y => e = .returned (.int .i64 err) ∧ RMem y p gb gd n B' D' ∧ RKept p gb gd x y) := by
  by_cases hm : (z = 1 ∨ z = 2 ∨ z = 4) ∧ (a : Int) % z = 0 ∧ (a : Int) + z ≤ 256 * n
  · obtain ⟨s, rfl⟩ : ∃ s : Nat, z = (s : Int) := ⟨z.toNat, by omega⟩
    have h : may n a s := by unfold may; omega
    exact ⟨0, _, _, fun x p g c M => store_any M a s v ha hv h, fun x p gb gd R => rstore_any R a s v ha hv h⟩
  · refine ⟨61, B, D, fun x p g c M => (store_bad M (a : Int) z (v : Int) (by omega) (by omega) hm).mono ?_, fun x p gb gd R => (rstore_bad R (a : Int) z (v : Int) (by omega) (by omega) hm).mono ?_⟩
    · rintro e y ⟨rfl, rfl⟩; exact ⟨rfl, M, grownBy_refl _ _⟩
    · rintro e y ⟨rfl, rfl⟩; exact ⟨rfl, R, RKept.refl _ _ _ _⟩

theorem pages_same (n : Nat) (B : Nat → Nat) (D : Nat → Bool) (z : Int) : ∃ (T : ByteArray) (err : Int),
    (∀ x p g c, Mem x p g n c B D → Calls Try.prog 19 #[.pointer (some ⟨p, 0, none⟩), .int .i64 z] x fun e y => e = .returned (.tuple #[.string T, .int .i64 err]) ∧ y = x) ∧
    (∀ x p gb gd, RMem x p gb gd n B D → Calls Try.prog 20 #[.pointer (some ⟨p, 0, none⟩), .int .i64 z] x fun e y => e = .returned (.tuple #[.string T, .int .i64 err]) ∧ y = x) := by
  by_cases h : 0 ≤ z ∧ z < n
  · obtain ⟨k, rfl⟩ : ∃ k : Nat, z = (k : Int) := ⟨z.toNat, by omega⟩
    exact ⟨_, _, fun x p g c M => page_any M k (by omega), fun x p gb gd R => rpage_any R k (by omega)⟩
  · exact ⟨_, _, fun x p g c M => page_bad M z h, fun x p gb gd R => rpage_bad R z h⟩

theorem puts_same (n : Nat) (B : Nat → Nat) (D : Nat → Bool) (z : Int) (s : ByteArray) : ∃ (err : Int) (B' : Nat → Nat) (D' : Nat → Bool),
    (∀ x p g c, Mem x p g n c B D → Calls Try.prog 21 #[.pointer (some ⟨p, 0, none⟩), .int .i64 z, .string s] x fun e y => e = .returned (.int .i64 err) ∧ Mem y p g n c B' D' ∧ x.grownBy y (some g)) ∧
    (∀ x p gb gd, RMem x p gb gd n B D → Calls Try.prog 23 #[.pointer (some ⟨p, 0, none⟩), .int .i64 z, .string s] x fun e y => e = .returned (.int .i64 err) ∧ RMem y p gb gd n B' D' ∧ RKept p gb gd x y) := by
  by_cases h : 0 ≤ z ∧ z < n
  · obtain ⟨k, rfl⟩ : ∃ k : Nat, z = (k : Int) := ⟨z.toNat, by omega⟩
    by_cases hs : s.size = 256
    · exact ⟨0, _, _, fun x p g c M => put_any M k s (by omega) hs, fun x p gb gd R => rput_any R k s (by omega) hs⟩
    · refine ⟨60, B, D, fun x p g c M => (put_size M k s (by omega) hs).mono ?_, fun x p gb gd R => (rput_size R k s (by omega) hs).mono ?_⟩
      · rintro e y ⟨rfl, rfl⟩; exact ⟨rfl, M, grownBy_refl _ _⟩
      · rintro e y ⟨rfl, rfl⟩; exact ⟨rfl, R, RKept.refl _ _ _ _⟩
  · refine ⟨61, B, D, fun x p g c M => (put_bad M z s h).mono ?_, fun x p gb gd R => (rput_bad R z s h).mono ?_⟩
    · rintro e y ⟨rfl, rfl⟩; exact ⟨rfl, M, grownBy_refl _ _⟩
    · rintro e y ⟨rfl, rfl⟩; exact ⟨rfl, R, RKept.refl _ _ _ _⟩

/-- Where the two memories lie, one apart from the other, and behind all that is old. -/
structure Places (w : World) (pr gb p g gd : Nat) : Prop where
  z1 : w.heap.size ≤ pr
  z2 : w.heap.size ≤ gb
  z3 : w.heap.size ≤ gd
  z4 : w.heap.size ≤ g
  p1 : p ≠ pr
  p2 : p ≠ gb
  p3 : p ≠ gd
  g1 : g ≠ pr
  g2 : g ≠ gb
  g3 : g ≠ gd

/-- Both memories have the same bytes and marks. -/
structure Does (w : World) (pr gb n p g c gd : Nat) (B : Nat → Nat) (D : Nat → Bool) (x : World) : Prop where
  m : Mem x p g n c B D
  r : RMem x pr gb gd n B D
  be : Below w.heap.size w x
  pl : Places w pr gb p g gd

theorem Does.on {w : World} {pr gb n p g c gd : Nat} {B : Nat → Nat} {D : Nat → Bool} {x y : World} (h : Does w pr gb n p g c gd B D x) (hb : Below x.heap.size x y) : Does w pr gb n p g c gd B D y :=
  ⟨h.m.on hb, h.r.on hb, h.be.trans (hb.mono h.be.size), h.pl⟩

theorem Does.far {w : World} {pr gb n p g c gd : Nat} {B : Nat → Nat} {D : Nat → Bool} {x y : World} {r : Nat} (h : Does w pr gb n p g c gd B D x) (G : x.grownBy y (some r)) (hr : x.heap.size ≤ r ∨ (r ≠ p ∧ r ≠ g ∧ r ≠ pr ∧ r ≠ gb ∧ r ≠ gd)) (hw : w.heap.size ≤ r) : Does w pr gb n p g c gd B D y := by
  have h1 := h.m.zp
  have h2 := h.m.zg
  have h3 := h.r.zp
  have h4 := h.r.zb
  have h5 := h.r.zd
  exact ⟨h.m.far G (by omega) (by omega), h.r.far G (by omega) (by omega) (by omega), grown_below h.be G h.be.size hw, h.pl⟩

theorem Does.held {w : World} {pr gb n p g c gd : Nat} {B : Nat → Nat} {D : Nat → Bool} {x : World} {T : ByteArray} (hT : T = textOf (256 * n) B) (h : Does w pr gb n p g c gd B D x) :
    Does w pr gb n p g c gd B D x ∧ x.cell? ⟨pr, 0, none⟩ = some (.slice (some ⟨gb, 0, none⟩) (256 * n) (256 * n)) ∧ (convert 32 9 (.slice (some ⟨gb, 0, none⟩) (256 * n) (256 * n))).run Try.prog x = .ok (.string T) x :=
  ⟨h, h.r.hb, by rw [hT]; exact rtext h.r⟩

theorem does_on {w : World} {pr gb n p g c gd : Nat} {B : Nat → Nat} {D : Nat → Bool} {x y : World} {T : ByteArray} (hT : T = textOf (256 * n) B)
    (h : Does w pr gb n p g c gd B D x ∧ x.cell? ⟨pr, 0, none⟩ = some (.slice (some ⟨gb, 0, none⟩) (256 * n) (256 * n)) ∧ (convert 32 9 (.slice (some ⟨gb, 0, none⟩) (256 * n) (256 * n))).run Try.prog x = .ok (.string T) x) (hb : Below x.heap.size x y) :
    Does w pr gb n p g c gd B D y ∧ y.cell? ⟨pr, 0, none⟩ = some (.slice (some ⟨gb, 0, none⟩) (256 * n) (256 * n)) ∧ (convert 32 9 (.slice (some ⟨gb, 0, none⟩) (256 * n) (256 * n))).run Try.prog y = .ok (.string T) y :=
  (h.1.on hb).held hT

theorem Act6.At.keep {o : Act6} {w w' : World} {b off : Nat} (h : o.At w b off) (e1 : w'.heap[b]? = w.heap[b]?) : o.At w' b off := by
  have e : ∀ k, w'.cell? ⟨b, k, none⟩ = w.cell? ⟨b, k, none⟩ := fun k => World.cell?_of_block (a := ⟨b, k, none⟩) e1
  exact ⟨by rw [e, h.c0], by rw [e, h.c1], by rw [e, h.c2], by rw [e, h.c3], by rw [e, h.c4], by rw [e, h.c5]⟩

/-- A call's own copy, its fields told. -/
theorem Act6.At.told {kd z nn mo : Int} {A V L : Nat} {x : World} (h : (Act6.mk kd A z V nn mo).At x L 0) :
    x.cell? ⟨L, 4, none⟩ = some (.int .i64 nn) ∧ x.cell? ⟨L, 3, none⟩ = some (.int .u32 (V : Int)) ∧ x.cell? ⟨L, 5, none⟩ = some (.int .i64 mo) ∧ (Act6.mk kd A z V nn mo).At x L 0 := by
  have h3 := h.c3
  have h4 := h.c4
  have h5 := h.c5
  rw [Nat.zero_add] at h3 h4 h5
  exact ⟨h4, h3, h5, h⟩

end Go.Proofs.Ytbbofbilagaihaa
