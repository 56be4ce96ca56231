/- Two places that are the same but for multiples of the modulus go on the same: for every place and every two numbers (of which the statement takes 16 and 5 bits); no condition. -/
import Derived.Test.YtlnobnkgllemjaaRows
import Derived.Test.YtlnobnkgllemjaaRngPair
import Derived.Test.YtlnobnkgllemjaaRngMask
import Derived.WalkKit
import Derived.ProofKit
import Derived.OpenShut
import Derived.ShutString
import Derived.ChangeOld
import Derived.Below
namespace Go.Proofs.Ytlnobnkgllemjaa.rngRows
open Go.ChangeShapes Go.WideShapes Go.ChangeAt Go.RowKit
open Go.ChangeMaps (open_string shut_string)
set_option linter.unusedVariables false

theorem own : ownKnob Try.prog.godebug = none := by kernel_rfl
theorem laidOut : laidOutB Try.prog = true := by kernel_rfl

/-- Places that are the same modulo 65521 have the same next word and place. -/
theorem next_same (p q p' q' u v : Int) (hp : p % 65521 = p' % 65521) (hq : q % 65521 = q' % 65521) : ∃ g P Q U V : Int,
    (∀ w, Calls Try.prog 11 #[.agg #[.int .i64 p, .int .i64 q, .int .i64 u, .int .i64 v]] w fun e w' => e = .returned (.tuple #[.int .u32 g, .agg #[.int .i64 P, .int .i64 Q, .int .i64 U, .int .i64 V]]) ∧ Below w.heap.size w w') ∧
    (∀ w, Calls Try.prog 11 #[.agg #[.int .i64 p', .int .i64 q', .int .i64 u, .int .i64 v]] w fun e w' => e = .returned (.tuple #[.int .u32 g, .agg #[.int .i64 P, .int .i64 Q, .int .i64 U, .int .i64 V]]) ∧ Below w.heap.size w w') := by
  refine ⟨_, _, _, _, _, fun w => next_any p q u v w, fun w => ?_⟩
  have := next_any p' q' u v w
  rw [← hp, ← hq] at this
  exact this

/-- A skip of none as functions of the parts modulo 65521. -/
theorem skip_fun : ∃ (F G : Int → Int → Int → Int → Int → Int) (H : Int → Int),
    (∀ a b c d m w, Calls Try.prog 16 #[.agg #[.int .i64 a, .int .i64 b, .int .i64 c, .int .i64 d], .int .i64 m] w fun e w' => e = .returned (.agg #[.int .i64 (F a b c d m), .int .i64 (G a b c d m), .int .i64 (H c), .int .i64 (H d)]) ∧ Below w.heap.size w w') ∧
    (∀ a b a' b' c d : Int, a % 65521 = a' % 65521 → b % 65521 = b' % 65521 → F a b c d 0 = F a' b' c d 0 ∧ G a b c d 0 = G a' b' c d 0) := by
  refine ⟨fun a b c d m => (Rng.row (a % 65521) (b % 65521) (c % 65521) (d % 65521) (min m 1000).toNat).1, fun a b c d m => (Rng.row (a % 65521) (b % 65521) (c % 65521) (d % 65521) (min m 1000).toNat).2, fun c => c % 65521, skip_any, ?_⟩
  intro a b a' b' c d ha hb
  show (Rng.row (a % 65521) (b % 65521) _ _ _).1 = _ ∧ (Rng.row (a % 65521) (b % 65521) _ _ _).2 = _
  rw [ha, hb]
  exact ⟨rfl, rfl⟩

set_option maxHeartbeats 4000000 in
theorem walk (a0 a0i a0u a0v : Int) (a1 : Int) (a2 : Int) (w : World) (w0 : Fits4 a0 a0i a0u a0v) (w1 : (Lit.int .i64 a1).wf = true) (w2 : (Lit.int .i64 a2).wf = true) :
    Calls Try.prog 7 #[.agg #[.int .i64 a0, .int .i64 a0i, .int .i64 a0u, .int .i64 a0v], .int .i64 a1, .int .i64 a2] w fun e w' => e = .returned (.bool true) ∧ Below w.heap.size w w' := by
  obtain ⟨r, ⟨r1, r2⟩, er⟩ : ∃ r, (0 ≤ r ∧ r ≤ 16777215) ∧ bits .and .i64 a0 16777215 = r := ⟨_, mask24 a0, rfl⟩
  obtain ⟨s, ⟨s1, s2⟩, es⟩ : ∃ s, (0 ≤ s ∧ s ≤ 16777215) ∧ bits .and .i64 a0i 16777215 = s := ⟨_, mask24 a0i, rfl⟩
  obtain ⟨c, ⟨c1, c2⟩, ec⟩ : ∃ c, (0 ≤ c ∧ c ≤ 255) ∧ bits .and .i64 a1 255 = c := ⟨_, mask255 a1, rfl⟩
  obtain ⟨d, ⟨d1, d2⟩, ed⟩ : ∃ d, (0 ≤ d ∧ d ≤ 255) ∧ bits .and .i64 (a1 / 256) 255 = d := ⟨_, mask255 _, rfl⟩
  obtain ⟨K, hK, eK⟩ : ∃ K : Nat, K ≤ 31 ∧ bits .and .i64 a2 31 = (K : Int) :=
    ⟨(bits .and .i64 a2 31).toNat, by have := mask31 a2; omega, by have := mask31 a2; omega⟩
  go_enter Try.func7, Try.ntmps7
  go_wp2_with fail
  have hS := Pair.start (p := r) (q := s) (u := a0u) (v := a0v) (p' := r + 65521 * c) (q' := s - 65521 * d) (u' := a0u) (v' := a0v) (Below.refl w.heap.size w)
  have hE : Hid (r % 65521 = (r + 65521 * c) % 65521 ∧ s % 65521 = (s - 65521 * d) % 65521) := hide (by omega)
  generalize (w.alloc (.cells #[.int .i64 r, .int .i64 s, .int .i64 a0u, .int .i64 a0v] 24)).alloc (.cells #[.int .i64 (r + 65521 * c), .int .i64 (s - 65521 * d), .int .i64 a0u, .int .i64 a0v] 24) = W at *
  generalize hL : w.heap.size = L at *
  generalize L + 1 = R at *
  generalize r + 65521 * c = r' at *
  generalize s - 65521 * d = s' at *
  clear er es ec ed r1 r2 s1 s2 c1 c2 d1 d2
  go_loopw [8] (fun i x => ∃ (k : Nat) (p q u v p' q' : Int), k ≤ K ∧ i = .int .i64 k ∧ Hid (p % 65521 = p' % 65521 ∧ q % 65521 = q' % 65521) ∧ Pair L R L w p q u v p' q' u v x) (fun i _ => K - (intOf i).toNat)
  case atStart => exact ⟨0, r, s, a0u, a0v, r', s', Nat.zero_le _, rfl, hE, hS⟩
  case round =>
    obtain ⟨k, p, q, u, v, p', q', hk, rfl, hI, hT⟩ := hrel
    obtain ⟨l0, l1, l2, l3, r0, r1, r2, r3, fl, fr, zl, zr, ne, nl, nr, nw, be⟩ := id hT
    clear hS hE
    by_cases hlt : k < K
    · have hlt' : (k : Int) < (K : Int) := by omega
      obtain ⟨g, P, Q, U, V, h1, h2⟩ := next_same p q p' q' u v hI.out.1 hI.out.2
      go_wp2_with fail
      refine (h1 _).mono ?_
      rintro e x1 ⟨rfl, b1⟩
      have hT1 := hT.on b1
      have hT1' := hT1.new (.cells #[.int .i64 P, .int .i64 Q, .int .i64 U, .int .i64 V] 24)
      clear hT l0 l1 l2 l3 r0 r1 r2 r3 fl fr zl zr ne nl nr nw be
      obtain ⟨l0, l1, l2, l3, r0, r1, r2, r3, fl, fr, zl, zr, ne, nl, nr, nw, be⟩ := id hT1
      clear b1
      go_wp2_with fail
      refine (h2 _).mono ?_
      rintro e x3 ⟨rfl, b2⟩
      have hT2 := hT1'.on b2
      obtain ⟨c2, f2⟩ := bcell b2
      have y2 : x1.heap.size < x3.heap.size := by have := b2.size; simp at this; omega
      clear hT1 hT1' l0 l1 l2 l3 r0 r1 r2 r3 fl fr zl zr ne nl nr nw be
      obtain ⟨l0, l1, l2, l3, r0, r1, r2, r3, fl, fr, zl, zr, ne, nl, nr, nw, be⟩ := id hT2
      clear b2 h1 h2
      go_wp2_with fail
      go_roundw
      case rel => exact ⟨k + 1, P, Q, U, V, P, Q, by omega, by go_num, hide ⟨rfl, rfl⟩, ((hT2.put P Q U V).flip.put P Q U V).flip.new _⟩
      case measure => simp [intOf]; omega
    · have hx : k = K := by omega
      subst hx
      obtain ⟨F, G, H, h1, h2⟩ := skip_fun
      obtain ⟨e1, e2⟩ := h2 p q p' q' u v hI.out.1 hI.out.2
      clear h2 hI fl fr ne nl nr nw
      go_wp2_with fail
      clear eK hlt hk hT hK
      go_region_held3 (fun x => (∀ b o, b < wr.heap.size → x.cell? ⟨b, o, none⟩ = wr.cell? ⟨b, o, none⟩) ∧ Below wr.heap.size wr x)
        (first | exact since_refl wr | assumption)
        (first
          | (go_at_call 13; refine (fixed_any _).mono ?_; rintro e w' ⟨rfl, hn⟩; have hT := since_on (by assumption) hn; clear hn)
          | (go_at_call 16; refine (h1 _ _ _ _ _ _).mono ?_; rintro e w' ⟨rfl, hn⟩; have hT := since_on (by assumption) hn; clear hn))
      all_goals
        go_wp2
        go_ret
        exact ⟨rfl, hL ▸ be.trans (hT.2.mono (by omega))⟩

set_option maxRecDepth 100000 in
theorem lifted (os : Os) (started : os.Started) (H : Type) (enc : TypeId × Value → H) :
    ReturnsInHanded {} Try.checked os 7 .any (Rows.rngRowsSpec.pre6 enc Try.prog Try.f7 Rows.rngRowsRow.domain false) (Rows.rngRowsSpec.post enc Try.prog Try.f7 false true false false) := by
  refine returnsInHanded_of_change (C := Try.checked) own started (by kernel_rfl) Try.func7
    (ChangeSpec.witness6 (enc := enc) (C := Try.checked) false ⟨#[], #[.agg #[.int .i64 0, .int .i64 0, .int .i64 0, .int .i64 0], .int .i64 0, .int .i64 0], []⟩ 8 (by kernel_rfl) (by kernel_rfl) (by kernel_rfl) (by kernel_rfl)) ?_
  intro W base args ds gs before hval0 hW hcnd _
  have hval : ∀ (j : Nat) t v, Try.f7.params[j]? = some t → args[j]? = some v → Value.okWide Try.prog W .any base t v := hval0
  have hW' := hW
  obtain ⟨p, q, hA0, hV, rfl, hfz, hnd⟩ := hW
  have hA : DataW.TrodAll enc Try.prog W 0 (fun _ => true) true Try.f7.params.toList args.toList ds p := hA0
  rw [Try.params7] at hA hval
  obtain ⟨v0, vs0, d0, ds0, p0, q0, hargs, rfl, rfl, h0, r0⟩ := trodAll_cons hA
  obtain ⟨v1, vs1, d1, ds1, p1, q1, rfl, rfl, rfl, h1, r1⟩ := trodAll_cons r0
  obtain ⟨v2, vs2, d2, ds2, p2, q2, rfl, rfl, rfl, h2, r2⟩ := trodAll_cons r1
  obtain ⟨rfl, rfl, rfl⟩ := trodAll_nil r2
  obtain rfl : args = #[v0, v1, v2] := by cases args; simp_all
  obtain ⟨rfl, rfl⟩ := trodVars_none hV
  obtain ⟨a0, a0i, a0u, a0v, rfl, rfl, rfl, w0⟩ := open_place (hval 0 24 v0 rfl rfl) h0
  obtain ⟨a1, rfl, rfl, rfl, w1⟩ := open_int Try.underlying3 (hval 1 3 v1 rfl rfl) h1
  obtain ⟨a2, rfl, rfl, rfl, w2⟩ := open_int Try.underlying3 (hval 2 3 v2 rfl rfl) h2
  clear hA0 hval0
  refine (walk a0 a0i a0u a0v a1 a2 W w0 w1 w2).mono fun e W' ⟨he, bel⟩ => ?_
  subst he
  exact ⟨_, rfl, _, _, _, [], _, [], hW', trodAll_mk1 (shut_bool Try.underlying4 _), (trodAll_cons_mk (shut_place w0) (trodAll_cons_mk (shut_int Try.underlying3 w1) (trodAll_cons_mk (shut_int Try.underlying3 w2) trodAll_mk0))), rfl, bel.frame _, fun h => by cases h⟩

theorem over : Rows.rngRowsRow.holds Try.pinned (OpenSpec.ofChange Rows.rngRowsSpec) :=
  OpenClaim.holds_of_wide 7 Try.f7 rfl rfl rfl rfl rfl rfl rfl ⟨rfl, rfl, rfl, rfl, rfl⟩ rfl rfl rfl rfl rfl (by kernel_rfl) Try.func7 (by kernel_rfl)
    (of_decide_eq_true (by kernel_rfl)) (by unfold Func.isWrapper; first | (rw [if_pos (by decide +kernel)]; kernel_rfl) | (rw [if_neg (by decide +kernel)]; exact ⟨rfl, rfl⟩))
    (fun os started H enc _ => lifted os started H enc)

theorem proved : Rows.RngRowsSaid := over
end Go.Proofs.Ytlnobnkgllemjaa.rngRows
namespace Go.Proofs.Ytlnobnkgllemjaa
theorem rngRows_holds : Rows.RngRowsSaid := rngRows.proved
#print axioms rngRows_holds
end Go.Proofs.Ytlnobnkgllemjaa
