/- Layer 12: the contract of Set, the program's. -/
import Derived.Test.YtdapjpbdplhgbaaGreatQBuSet
namespace Go.Proofs.YtdapjpbdplhgbaaGreat
open Go.RowKit
set_option linter.unusedVariables false
set_option maxRecDepth 100000

set_option maxHeartbeats 1000000 in
theorem set_no {w : World} {b p g n c : Nat} {v : Dv} {B : Nat → Nat} {D : Nat → Bool} (hB : Bus w b p g n c v B D) (s : ByteArray)
    (cp : ∀ x, Calls Tryz.prog 85 #[.string s] x fun e w' => e = .returned (.tuple #[.agg (cellsV VZ), .bool false]) ∧ Below x.heap.size x w') :
    Calls Tryz.prog 38 #[.pointer (some ⟨b, 0, none⟩), .string s] w fun e w' => e = .returned (.int .i64 120) ∧ Below w.heap.size w w' := by
  obtain ⟨t1, t2, t3, t4, t5, t6, t7, t8, t9⟩ := rowRules
  obtain ⟨-, -, -, -, z5, -, -, -, -, z10⟩ := sizeRules
  obtain ⟨-, -, -, -, c5, -, -, -, -, o5, -, -, -, -, n5⟩ := cellSizes
  obtain ⟨-, -, -, -, -, -, -, -, -, -, -, -, x1, x2, x3⟩ := boxRules
  replace cp := hide cp
  clear hB
  go_enter Tryz.func38, Tryz.ntmps38
  go_wp2_with fail
  refine (cp.out _).mono ?_
  rintro e w1 ⟨rfl, b1⟩
  go_wp2
  go_ret
  exact ⟨rfl, b1.alloc b1.size _⟩

set_option maxHeartbeats 1000000 in
theorem set_yes {w : World} {b p g n c : Nat} {v : Dv} {B : Nat → Nat} {D : Nat → Bool} (hB : Bus w b p g n c v B D) (s : ByteArray) (q : Dv) (hq : Wv q)
    (cp : ∀ x, Calls Tryz.prog 85 #[.string s] x fun e w' => e = .returned (.tuple #[.agg (cellsV q), .bool true]) ∧ Below x.heap.size x w') :
    Calls Tryz.prog 38 #[.pointer (some ⟨b, 0, none⟩), .string s] w fun e w' => e = .returned (.int .i64 0) ∧ Bus w' b p g n c q B D ∧ Kept [b] w w' := by
  obtain ⟨t1, t2, t3, t4, t5, t6, t7, t8, t9⟩ := rowRules
  obtain ⟨-, -, -, -, z5, -, -, -, -, z10⟩ := sizeRules
  obtain ⟨-, -, -, -, c5, -, -, -, -, o5, -, -, -, -, n5⟩ := cellSizes
  obtain ⟨-, -, -, -, -, -, -, -, -, -, -, -, x1, x2, x3⟩ := boxRules
  obtain ⟨-, -, -, -, f5, -, -, -, -, q5, -, -, -, -, s5, -, -, -⟩ := bParts
  replace cp := hide cp
  replace hB := hide hB
  go_enter Tryz.func38, Tryz.ntmps38
  go_wp2_with fail
  refine (cp.out _).mono ?_
  rintro e w1 ⟨rfl, b1⟩
  have B1 := hB.out.on b1
  have K1 := hide (Kept.of (l := [b]) b1)
  clear cp hB b1
  obtain ⟨r1, r2, r3⟩ := And.intro B1.row (And.intro B1.at' B1.lt)
  have r4 : ¬ b = w1.heap.size := by omega
  replace B1 := hide B1
  go_wp2
  go_ret
  refine ⟨rfl, ?_⟩
  exact ⟨(B1.out.set q hq).on (grow _ _), (K1.out.trans (Kept.set _ _ _ (by simp))).trans (Kept.of (grow _ _))⟩

/-- Which bytes are the devices' state. -/
theorem isDev_or (s : ByteArray) (hm : s.size ≤ maxLen) : (∃ q, IsDev s q ∧ ∀ x, Calls Tryz.prog 85 #[.string s] x fun e w' => e = .returned (.tuple #[.agg (cellsV q), .bool true]) ∧ Below x.heap.size x w') ∨
    ((∀ q, ¬ IsDev s q) ∧ ∀ x, Calls Tryz.prog 85 #[.string s] x fun e w' => e = .returned (.tuple #[.agg (cellsV VZ), .bool false]) ∧ Below x.heap.size x w') := by
  by_cases h : 1066 ≤ s.size
  · obtain ⟨T, E1, D, E2, G, ok, U, E4, P⟩ := parts_of s h hm
    by_cases hg : E1 = 0 ∧ E2 = 0 ∧ ok = true ∧ E4 = 0
    · obtain ⟨h1, h2, h3, h4⟩ := hg
      exact Or.inl ⟨_, P.yes h1 h2 h3 h4, fun x => parse_any h hm P _ true (Or.inl ⟨h1, h2, h3, h4, rfl, rfl⟩) x⟩
    · exact Or.inr ⟨P.no hg, fun x => parse_any h hm P VZ false (Or.inr ⟨hg, rfl, rfl⟩) x⟩
  · exact Or.inr ⟨fun q hq => h (dev_cut hq).1, fun x => parse_short (by omega) x⟩

/-- Two states have not the same bytes. -/
theorem dev_one {s : ByteArray} {v q : Dv} (h : IsDev s v) (k : IsDev s q) : v = q := by
  obtain ⟨-, h1, h2, h3, h4, h5⟩ := dev_cut h
  obtain ⟨-, k1, k2, k3, k4, k5⟩ := dev_cut k
  obtain ⟨vt, vu, vd, vg, vk⟩ := v
  obtain ⟨qt, qu, qd, qg, qk⟩ := q
  simp only at h1 h2 h3 h4 h5 k1 k2 k3 k4 k5
  have e1 : vt = qt := by
    have x := Tm.text_back (t := vt) h.1.t
    have y := Tm.text_back (t := qt) k.1.t
    rw [← h1] at x
    rw [← k1] at y
    exact x.symm.trans y
  have e2 : vd = qd := by
    have x := Dm.text_back (t := vd) h.1.d
    have y := Dm.text_back (t := qd) k.1.d
    rw [← h2] at x
    rw [← k2] at y
    exact x.symm.trans y
  have e3 : vg = qg := by
    have x := rawG_text (g := vg) h.1.g
    have y := rawG_text (g := qg) k.1.g
    rw [← h3] at x
    rw [← k3] at y
    exact x.symm.trans y
  have e5 : vu = qu := by
    have x := (Ua.text_good (u := vu) h.1.u).2.1
    have y := (Ua.text_good (u := qu) k.1.u).2.1
    rw [← h5] at x
    rw [← k5] at y
    exact x.symm.trans y
  rw [e1, e2, e3, e5, ← h4, ← k4]

/-- The devices' own bytes, set again. -/
theorem set_dev {w : World} {b p g n c : Nat} {v : Dv} {B : Nat → Nat} {D : Nat → Bool} (hB : Bus w b p g n c v B D) (q : Dv) (hq : Wv q) :
    Calls Tryz.prog 38 #[.pointer (some ⟨b, 0, none⟩), .string (devV q)] w fun e w' => e = .returned (.int .i64 0) ∧ Bus w' b p g n c q B D ∧ Kept [b] w w' := by
  have hz := devV_size q hq
  have h1 := hq.u.i
  have h2 := hq.u.o
  rcases isDev_or (devV q) (by unfold maxLen; omega) with ⟨r, hr, cp⟩ | ⟨hn, -⟩
  · obtain rfl := dev_one ⟨hq, rfl⟩ hr
    exact set_yes hB _ q hq cp
  · exact absurd ⟨hq, rfl⟩ (hn q)

end Go.Proofs.YtdapjpbdplhgbaaGreat
