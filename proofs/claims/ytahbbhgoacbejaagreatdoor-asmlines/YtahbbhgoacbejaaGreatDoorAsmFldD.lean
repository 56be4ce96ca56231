/- The fields of a form as text, as the document has them (D). -/
import Derived.Test.YtahbbhgoacbejaaGreatDoorAsmCat
import Derived.Test.YtahbbhgoacbejaaGreatDoorDecRef
import Derived.Deep.RegionHeld3
set_option linter.unusedVariables false
set_option linter.unusedSimpArgs false
namespace Go.Proofs.YtahbbhgoacbejaaGreatDoor
open Go.RowKit

set_option maxRecDepth 100000 in
set_option maxHeartbeats 2000000 in
theorem rfld_4 {o s t d a i j n : Int} {nm F : ByteArray} {R N : Int → ByteArray} (hF : F.toList = [74, 65, 76, 82])
    (hA : ∀ w, Calls Tryz.prog 18 #[.int .i64 o] w fun e w' => e = .returned (.agg #[.string nm, .string F, .int .i64 j, .int .i64 n]) ∧ Below w.heap.size w w')
    (hR : ∀ x w, -1000000000 ≤ x → x ≤ 1000000000 → Calls Tryz.prog 35 #[.int .i64 x] w fun e w' => e = .returned (.string (R x)) ∧ Below w.heap.size w w')
    (hN : ∀ x w, -1000000000 ≤ x → x ≤ 1000000000 → Calls Tryz.prog 36 #[.int .i64 x] w fun e w' => e = .returned (.string (N x)) ∧ Below w.heap.size w w')
    (zR : ∀ x, (R x).size ≤ 100) (zN : ∀ x, (N x).size ≤ 100)
    (s0 : -1000000000 ≤ s) (s1 : s ≤ 1000000000) (t0 : -1000000000 ≤ t) (t1 : t ≤ 1000000000) (d0 : -1000000000 ≤ d) (d1 : d ≤ 1000000000) (a0 : -1000000000 ≤ a) (a1 : a ≤ 1000000000) (i0 : -1000000000 ≤ i) (i1 : i ≤ 1000000000) (w : World) :
    Calls Tryz.prog 17 #[.agg #[.int .i64 o, .int .i64 s, .int .i64 t, .int .i64 d, .int .i64 a, .int .i64 i]] w fun e w' => e = .returned (.string (R d ++ (⟨#[44]⟩ : ByteArray) ++ R s)) ∧ Below w.heap.size w w' := by
  have hfm := at_form
  have z1 := zR s
  have z2 := zR t
  have z3 := zR d
  have z4 := zN a
  have z5 := zN i
  go_enter Tryz.func17, Tryz.ntmps17
  go_wp2_with fail
  have g0 := grow w (.cells #[.int .i64 o, .int .i64 s, .int .i64 t, .int .i64 d, .int .i64 a, .int .i64 i] 23)
  have k0 := cell6 w 23 (.int .i64 o) (.int .i64 s) (.int .i64 t) (.int .i64 d) (.int .i64 a) (.int .i64 i)
  generalize w.alloc (.cells #[.int .i64 o, .int .i64 s, .int .i64 t, .int .i64 d, .int .i64 a, .int .i64 i] 23) = W0 at *
  refine (hA _).mono ?_
  rintro e w1 ⟨rfl, h1⟩
  have b1 := onto g0 h1
  obtain ⟨c0, c1, c2, c3, c4, c5⟩ := k0.on h1
  clear g0 k0 h1 hA
  clear W0
  go_wp2_with fail
  have e1 : ¬ 9223372036854775807 < (R d).size + 1 := by omega
  have e2 : ¬ 9223372036854775807 < (R d).size + 1 + (R s).size := by omega
  have y0 := cell_in c0
  go_region_held3 (fun x => (∀ b o, b < w1.heap.size → x.cell? ⟨b, o, none⟩ = w1.cell? ⟨b, o, none⟩) ∧ Below w1.heap.size w1 x)
    (first | exact since_refl w1 | assumption)
    (first | (go_at_call 35; refine (hR _ _ (by assumption) (by assumption)).mono ?_; rintro e w' ⟨rfl, hn⟩; have hT := since_on (by assumption) hn; clear hn) | (go_at_call 36; refine (hN _ _ (by assumption) (by assumption)).mono ?_; rintro e w' ⟨rfl, hn⟩; have hT := since_on (by assumption) hn; clear hn))
  go_wp2_with fail
  go_ret
  exact ⟨rfl, onto b1 hT.2⟩

set_option maxRecDepth 100000 in
set_option maxHeartbeats 2000000 in
theorem rfld_9 {o s t d a i j n : Int} {nm F : ByteArray} {R N : Int → ByteArray} (hF : F.toList = [77, 68])
    (hA : ∀ w, Calls Tryz.prog 18 #[.int .i64 o] w fun e w' => e = .returned (.agg #[.string nm, .string F, .int .i64 j, .int .i64 n]) ∧ Below w.heap.size w w')
    (hR : ∀ x w, -1000000000 ≤ x → x ≤ 1000000000 → Calls Tryz.prog 35 #[.int .i64 x] w fun e w' => e = .returned (.string (R x)) ∧ Below w.heap.size w w')
    (hN : ∀ x w, -1000000000 ≤ x → x ≤ 1000000000 → Calls Tryz.prog 36 #[.int .i64 x] w fun e w' => e = .returned (.string (N x)) ∧ Below w.heap.size w w')
    (zR : ∀ x, (R x).size ≤ 100) (zN : ∀ x, (N x).size ≤ 100)
    (s0 : -1000000000 ≤ s) (s1 : s ≤ 1000000000) (t0 : -1000000000 ≤ t) (t1 : t ≤ 1000000000) (d0 : -1000000000 ≤ d) (d1 : d ≤ 1000000000) (a0 : -1000000000 ≤ a) (a1 : a ≤ 1000000000) (i0 : -1000000000 ≤ i) (i1 : i ≤ 1000000000) (w : World) :
    Calls Tryz.prog 17 #[.agg #[.int .i64 o, .int .i64 s, .int .i64 t, .int .i64 d, .int .i64 a, .int .i64 i]] w fun e w' => e = .returned (.string (R s ++ (⟨#[44]⟩ : ByteArray) ++ R t)) ∧ Below w.heap.size w w' := by
  have hfm := at_form
  have z1 := zR s
  have z2 := zR t
  have z3 := zR d
  have z4 := zN a
  have z5 := zN i
  go_enter Tryz.func17, Tryz.ntmps17
  go_wp2_with fail
  have g0 := grow w (.cells #[.int .i64 o, .int .i64 s, .int .i64 t, .int .i64 d, .int .i64 a, .int .i64 i] 23)
  have k0 := cell6 w 23 (.int .i64 o) (.int .i64 s) (.int .i64 t) (.int .i64 d) (.int .i64 a) (.int .i64 i)
  generalize w.alloc (.cells #[.int .i64 o, .int .i64 s, .int .i64 t, .int .i64 d, .int .i64 a, .int .i64 i] 23) = W0 at *
  refine (hA _).mono ?_
  rintro e w1 ⟨rfl, h1⟩
  have b1 := onto g0 h1
  obtain ⟨c0, c1, c2, c3, c4, c5⟩ := k0.on h1
  clear g0 k0 h1 hA
  clear W0
  go_wp2_with fail
  have e1 : ¬ 9223372036854775807 < (R s).size + 1 := by omega
  have e2 : ¬ 9223372036854775807 < (R s).size + 1 + (R t).size := by omega
  have y0 := cell_in c0
  go_region_held3 (fun x => (∀ b o, b < w1.heap.size → x.cell? ⟨b, o, none⟩ = w1.cell? ⟨b, o, none⟩) ∧ Below w1.heap.size w1 x)
    (first | exact since_refl w1 | assumption)
    (first | (go_at_call 35; refine (hR _ _ (by assumption) (by assumption)).mono ?_; rintro e w' ⟨rfl, hn⟩; have hT := since_on (by assumption) hn; clear hn) | (go_at_call 36; refine (hN _ _ (by assumption) (by assumption)).mono ?_; rintro e w' ⟨rfl, hn⟩; have hT := since_on (by assumption) hn; clear hn))
  go_wp2_with fail
  go_ret
  exact ⟨rfl, onto b1 hT.2⟩

set_option maxRecDepth 100000 in
set_option maxHeartbeats 2000000 in
theorem rfld_10 {o s t d a i j n : Int} {nm F : ByteArray} {R N : Int → ByteArray} (hF : F.toList = [67, 76])
    (hA : ∀ w, Calls Tryz.prog 18 #[.int .i64 o] w fun e w' => e = .returned (.agg #[.string nm, .string F, .int .i64 j, .int .i64 n]) ∧ Below w.heap.size w w')
    (hR : ∀ x w, -1000000000 ≤ x → x ≤ 1000000000 → Calls Tryz.prog 35 #[.int .i64 x] w fun e w' => e = .returned (.string (R x)) ∧ Below w.heap.size w w')
    (hN : ∀ x w, -1000000000 ≤ x → x ≤ 1000000000 → Calls Tryz.prog 36 #[.int .i64 x] w fun e w' => e = .returned (.string (N x)) ∧ Below w.heap.size w w')
    (zR : ∀ x, (R x).size ≤ 100) (zN : ∀ x, (N x).size ≤ 100)
    (s0 : -1000000000 ≤ s) (s1 : s ≤ 1000000000) (t0 : -1000000000 ≤ t) (t1 : t ≤ 1000000000) (d0 : -1000000000 ≤ d) (d1 : d ≤ 1000000000) (a0 : -1000000000 ≤ a) (a1 : a ≤ 1000000000) (i0 : -1000000000 ≤ i) (i1 : i ≤ 1000000000) (w : World) :
    Calls Tryz.prog 17 #[.agg #[.int .i64 o, .int .i64 s, .int .i64 t, .int .i64 d, .int .i64 a, .int .i64 i]] w fun e w' => e = .returned (.string (R d ++ (⟨#[44]⟩ : ByteArray) ++ R s)) ∧ Below w.heap.size w w' := by
  have hfm := at_form
  have z1 := zR s
  have z2 := zR t
  have z3 := zR d
  have z4 := zN a
  have z5 := zN i
  go_enter Tryz.func17, Tryz.ntmps17
  go_wp2_with fail
  have g0 := grow w (.cells #[.int .i64 o, .int .i64 s, .int .i64 t, .int .i64 d, .int .i64 a, .int .i64 i] 23)
  have k0 := cell6 w 23 (.int .i64 o) (.int .i64 s) (.int .i64 t) (.int .i64 d) (.int .i64 a) (.int .i64 i)
  generalize w.alloc (.cells #[.int .i64 o, .int .i64 s, .int .i64 t, .int .i64 d, .int .i64 a, .int .i64 i] 23) = W0 at *
  refine (hA _).mono ?_
  rintro e w1 ⟨rfl, h1⟩
  have b1 := onto g0 h1
  obtain ⟨c0, c1, c2, c3, c4, c5⟩ := k0.on h1
  clear g0 k0 h1 hA
  clear W0
  go_wp2_with fail
  have e1 : ¬ 9223372036854775807 < (R d).size + 1 := by omega
  have e2 : ¬ 9223372036854775807 < (R d).size + 1 + (R s).size := by omega
  have y0 := cell_in c0
  go_region_held3 (fun x => (∀ b o, b < w1.heap.size → x.cell? ⟨b, o, none⟩ = w1.cell? ⟨b, o, none⟩) ∧ Below w1.heap.size w1 x)
    (first | exact since_refl w1 | assumption)
    (first | (go_at_call 35; refine (hR _ _ (by assumption) (by assumption)).mono ?_; rintro e w' ⟨rfl, hn⟩; have hT := since_on (by assumption) hn; clear hn) | (go_at_call 36; refine (hN _ _ (by assumption) (by assumption)).mono ?_; rintro e w' ⟨rfl, hn⟩; have hT := since_on (by assumption) hn; clear hn))
  go_wp2_with fail
  go_ret
  exact ⟨rfl, onto b1 hT.2⟩

set_option maxRecDepth 100000 in
set_option maxHeartbeats 2000000 in
theorem rfld_11 {o s t d a i j n : Int} {nm F : ByteArray} {R N : Int → ByteArray} (hF : F.toList = [66, 90])
    (hA : ∀ w, Calls Tryz.prog 18 #[.int .i64 o] w fun e w' => e = .returned (.agg #[.string nm, .string F, .int .i64 j, .int .i64 n]) ∧ Below w.heap.size w w')
    (hR : ∀ x w, -1000000000 ≤ x → x ≤ 1000000000 → Calls Tryz.prog 35 #[.int .i64 x] w fun e w' => e = .returned (.string (R x)) ∧ Below w.heap.size w w')
    (hN : ∀ x w, -1000000000 ≤ x → x ≤ 1000000000 → Calls Tryz.prog 36 #[.int .i64 x] w fun e w' => e = .returned (.string (N x)) ∧ Below w.heap.size w w')
    (zR : ∀ x, (R x).size ≤ 100) (zN : ∀ x, (N x).size ≤ 100)
    (s0 : -1000000000 ≤ s) (s1 : s ≤ 1000000000) (t0 : -1000000000 ≤ t) (t1 : t ≤ 1000000000) (d0 : -1000000000 ≤ d) (d1 : d ≤ 1000000000) (a0 : -1000000000 ≤ a) (a1 : a ≤ 1000000000) (i0 : -1000000000 ≤ i) (i1 : i ≤ 1000000000) (w : World) :
    Calls Tryz.prog 17 #[.agg #[.int .i64 o, .int .i64 s, .int .i64 t, .int .i64 d, .int .i64 a, .int .i64 i]] w fun e w' => e = .returned (.string (R s ++ (⟨#[44]⟩ : ByteArray) ++ N i)) ∧ Below w.heap.size w w' := by
  have hfm := at_form
  have z1 := zR s
  have z2 := zR t
  have z3 := zR d
  have z4 := zN a
  have z5 := zN i
  go_enter Tryz.func17, Tryz.ntmps17
  go_wp2_with fail
  have g0 := grow w (.cells #[.int .i64 o, .int .i64 s, .int .i64 t, .int .i64 d, .int .i64 a, .int .i64 i] 23)
  have k0 := cell6 w 23 (.int .i64 o) (.int .i64 s) (.int .i64 t) (.int .i64 d) (.int .i64 a) (.int .i64 i)
  generalize w.alloc (.cells #[.int .i64 o, .int .i64 s, .int .i64 t, .int .i64 d, .int .i64 a, .int .i64 i] 23) = W0 at *
  refine (hA _).mono ?_
  rintro e w1 ⟨rfl, h1⟩
  have b1 := onto g0 h1
  obtain ⟨c0, c1, c2, c3, c4, c5⟩ := k0.on h1
  clear g0 k0 h1 hA
  clear W0
  go_wp2_with fail
  have e1 : ¬ 9223372036854775807 < (R s).size + 1 := by omega
  have e2 : ¬ 9223372036854775807 < (R s).size + 1 + (N i).size := by omega
  have y0 := cell_in c0
  go_region_held3 (fun x => (∀ b o, b < w1.heap.size → x.cell? ⟨b, o, none⟩ = w1.cell? ⟨b, o, none⟩) ∧ Below w1.heap.size w1 x)
    (first | exact since_refl w1 | assumption)
    (first | (go_at_call 35; refine (hR _ _ (by assumption) (by assumption)).mono ?_; rintro e w' ⟨rfl, hn⟩; have hT := since_on (by assumption) hn; clear hn) | (go_at_call 36; refine (hN _ _ (by assumption) (by assumption)).mono ?_; rintro e w' ⟨rfl, hn⟩; have hT := since_on (by assumption) hn; clear hn))
  go_wp2_with fail
  go_ret
  exact ⟨rfl, onto b1 hT.2⟩

set_option maxRecDepth 100000 in
set_option maxHeartbeats 2000000 in
theorem rfld_16 {o s t d a i j n : Int} {nm F : ByteArray} {R N : Int → ByteArray} (hF : F.toList = [76, 85, 73])
    (hA : ∀ w, Calls Tryz.prog 18 #[.int .i64 o] w fun e w' => e = .returned (.agg #[.string nm, .string F, .int .i64 j, .int .i64 n]) ∧ Below w.heap.size w w')
    (hR : ∀ x w, -1000000000 ≤ x → x ≤ 1000000000 → Calls Tryz.prog 35 #[.int .i64 x] w fun e w' => e = .returned (.string (R x)) ∧ Below w.heap.size w w')
    (hN : ∀ x w, -1000000000 ≤ x → x ≤ 1000000000 → Calls Tryz.prog 36 #[.int .i64 x] w fun e w' => e = .returned (.string (N x)) ∧ Below w.heap.size w w')
    (zR : ∀ x, (R x).size ≤ 100) (zN : ∀ x, (N x).size ≤ 100)
    (s0 : -1000000000 ≤ s) (s1 : s ≤ 1000000000) (t0 : -1000000000 ≤ t) (t1 : t ≤ 1000000000) (d0 : -1000000000 ≤ d) (d1 : d ≤ 1000000000) (a0 : -1000000000 ≤ a) (a1 : a ≤ 1000000000) (i0 : -1000000000 ≤ i) (i1 : i ≤ 1000000000) (w : World) :
    Calls Tryz.prog 17 #[.agg #[.int .i64 o, .int .i64 s, .int .i64 t, .int .i64 d, .int .i64 a, .int .i64 i]] w fun e w' => e = .returned (.string (R t ++ (⟨#[44]⟩ : ByteArray) ++ N i)) ∧ Below w.heap.size w w' := by
  have hfm := at_form
  have z1 := zR s
  have z2 := zR t
  have z3 := zR d
  have z4 := zN a
  have z5 := zN i
  go_enter Tryz.func17, Tryz.ntmps17
  go_wp2_with fail
  have g0 := grow w (.cells #[.int .i64 o, .int .i64 s, .int .i64 t, .int .i64 d, .int .i64 a, .int .i64 i] 23)
  have k0 := cell6 w 23 (.int .i64 o) (.int .i64 s) (.int .i64 t) (.int .i64 d) (.int .i64 a) (.int .i64 i)
  generalize w.alloc (.cells #[.int .i64 o, .int .i64 s, .int .i64 t, .int .i64 d, .int .i64 a, .int .i64 i] 23) = W0 at *
  refine (hA _).mono ?_
  rintro e w1 ⟨rfl, h1⟩
  have b1 := onto g0 h1
  obtain ⟨c0, c1, c2, c3, c4, c5⟩ := k0.on h1
  clear g0 k0 h1 hA
  clear W0
  go_wp2_with fail
  have e1 : ¬ 9223372036854775807 < (R t).size + 1 := by omega
  have e2 : ¬ 9223372036854775807 < (R t).size + 1 + (N i).size := by omega
  have y0 := cell_in c0
  go_region_held3 (fun x => (∀ b o, b < w1.heap.size → x.cell? ⟨b, o, none⟩ = w1.cell? ⟨b, o, none⟩) ∧ Below w1.heap.size w1 x)
    (first | exact since_refl w1 | assumption)
    (first | (go_at_call 35; refine (hR _ _ (by assumption) (by assumption)).mono ?_; rintro e w' ⟨rfl, hn⟩; have hT := since_on (by assumption) hn; clear hn) | (go_at_call 36; refine (hN _ _ (by assumption) (by assumption)).mono ?_; rintro e w' ⟨rfl, hn⟩; have hT := since_on (by assumption) hn; clear hn))
  go_wp2_with fail
  go_ret
  exact ⟨rfl, onto b1 hT.2⟩


set_option maxRecDepth 100000 in
set_option maxHeartbeats 2000000 in
theorem rfld_3 {o s t d a i j n : Int} {nm F : ByteArray} {R N : Int → ByteArray} (hF : F.toList = [74, 82])
    (hA : ∀ w, Calls Tryz.prog 18 #[.int .i64 o] w fun e w' => e = .returned (.agg #[.string nm, .string F, .int .i64 j, .int .i64 n]) ∧ Below w.heap.size w w')
    (hR : ∀ x w, -1000000000 ≤ x → x ≤ 1000000000 → Calls Tryz.prog 35 #[.int .i64 x] w fun e w' => e = .returned (.string (R x)) ∧ Below w.heap.size w w')
    (hN : ∀ x w, -1000000000 ≤ x → x ≤ 1000000000 → Calls Tryz.prog 36 #[.int .i64 x] w fun e w' => e = .returned (.string (N x)) ∧ Below w.heap.size w w')
    (zR : ∀ x, (R x).size ≤ 100) (zN : ∀ x, (N x).size ≤ 100)
    (s0 : -1000000000 ≤ s) (s1 : s ≤ 1000000000) (t0 : -1000000000 ≤ t) (t1 : t ≤ 1000000000) (d0 : -1000000000 ≤ d) (d1 : d ≤ 1000000000) (a0 : -1000000000 ≤ a) (a1 : a ≤ 1000000000) (i0 : -1000000000 ≤ i) (i1 : i ≤ 1000000000) (w : World) :
    Calls Tryz.prog 17 #[.agg #[.int .i64 o, .int .i64 s, .int .i64 t, .int .i64 d, .int .i64 a, .int .i64 i]] w fun e w' => e = .returned (.string (R s)) ∧ Below w.heap.size w w' := by
  have hfm := at_form
  have z1 := zR s
  have z2 := zR t
  have z3 := zR d
  have z4 := zN a
  have z5 := zN i
  go_enter Tryz.func17, Tryz.ntmps17
  go_wp2_with fail
  have g0 := grow w (.cells #[.int .i64 o, .int .i64 s, .int .i64 t, .int .i64 d, .int .i64 a, .int .i64 i] 23)
  have k0 := cell6 w 23 (.int .i64 o) (.int .i64 s) (.int .i64 t) (.int .i64 d) (.int .i64 a) (.int .i64 i)
  generalize w.alloc (.cells #[.int .i64 o, .int .i64 s, .int .i64 t, .int .i64 d, .int .i64 a, .int .i64 i] 23) = W0 at *
  refine (hA _).mono ?_
  rintro e w1 ⟨rfl, h1⟩
  have b1 := onto g0 h1
  obtain ⟨c0, c1, c2, c3, c4, c5⟩ := k0.on h1
  clear g0 k0 h1 hA
  clear W0
  go_wp2_with fail
  refine (hR _ _ (by assumption) (by assumption)).mono ?_
  rintro e w2 ⟨rfl, h2⟩
  go_wp2_with fail
  go_ret
  exact ⟨rfl, onto b1 h2⟩

set_option maxRecDepth 100000 in
set_option maxHeartbeats 2000000 in
theorem rfld_6 {o s t d a i j n : Int} {nm F : ByteArray} {R N : Int → ByteArray} (hF : F.toList = [78])
    (hA : ∀ w, Calls Tryz.prog 18 #[.int .i64 o] w fun e w' => e = .returned (.agg #[.string nm, .string F, .int .i64 j, .int .i64 n]) ∧ Below w.heap.size w w')
    (hR : ∀ x w, -1000000000 ≤ x → x ≤ 1000000000 → Calls Tryz.prog 35 #[.int .i64 x] w fun e w' => e = .returned (.string (R x)) ∧ Below w.heap.size w w')
    (hN : ∀ x w, -1000000000 ≤ x → x ≤ 1000000000 → Calls Tryz.prog 36 #[.int .i64 x] w fun e w' => e = .returned (.string (N x)) ∧ Below w.heap.size w w')
    (zR : ∀ x, (R x).size ≤ 100) (zN : ∀ x, (N x).size ≤ 100)
    (s0 : -1000000000 ≤ s) (s1 : s ≤ 1000000000) (t0 : -1000000000 ≤ t) (t1 : t ≤ 1000000000) (d0 : -1000000000 ≤ d) (d1 : d ≤ 1000000000) (a0 : -1000000000 ≤ a) (a1 : a ≤ 1000000000) (i0 : -1000000000 ≤ i) (i1 : i ≤ 1000000000) (w : World) :
    Calls Tryz.prog 17 #[.agg #[.int .i64 o, .int .i64 s, .int .i64 t, .int .i64 d, .int .i64 a, .int .i64 i]] w fun e w' => e = .returned (.string (⟨#[]⟩)) ∧ Below w.heap.size w w' := by
  have hfm := at_form
  have z1 := zR s
  have z2 := zR t
  have z3 := zR d
  have z4 := zN a
  have z5 := zN i
  go_enter Tryz.func17, Tryz.ntmps17
  go_wp2_with fail
  have g0 := grow w (.cells #[.int .i64 o, .int .i64 s, .int .i64 t, .int .i64 d, .int .i64 a, .int .i64 i] 23)
  have k0 := cell6 w 23 (.int .i64 o) (.int .i64 s) (.int .i64 t) (.int .i64 d) (.int .i64 a) (.int .i64 i)
  generalize w.alloc (.cells #[.int .i64 o, .int .i64 s, .int .i64 t, .int .i64 d, .int .i64 a, .int .i64 i] 23) = W0 at *
  refine (hA _).mono ?_
  rintro e w1 ⟨rfl, h1⟩
  have b1 := onto g0 h1
  obtain ⟨c0, c1, c2, c3, c4, c5⟩ := k0.on h1
  clear g0 k0 h1 hA
  clear W0
  go_wp2_with fail
  go_ret
  exact ⟨rfl, b1⟩

set_option maxRecDepth 100000 in
set_option maxHeartbeats 2000000 in
theorem rfld_7 {o s t d a i j n : Int} {nm F : ByteArray} {R N : Int → ByteArray} (hF : F.toList = [77, 70])
    (hA : ∀ w, Calls Tryz.prog 18 #[.int .i64 o] w fun e w' => e = .returned (.agg #[.string nm, .string F, .int .i64 j, .int .i64 n]) ∧ Below w.heap.size w w')
    (hR : ∀ x w, -1000000000 ≤ x → x ≤ 1000000000 → Calls Tryz.prog 35 #[.int .i64 x] w fun e w' => e = .returned (.string (R x)) ∧ Below w.heap.size w w')
    (hN : ∀ x w, -1000000000 ≤ x → x ≤ 1000000000 → Calls Tryz.prog 36 #[.int .i64 x] w fun e w' => e = .returned (.string (N x)) ∧ Below w.heap.size w w')
    (zR : ∀ x, (R x).size ≤ 100) (zN : ∀ x, (N x).size ≤ 100)
    (s0 : -1000000000 ≤ s) (s1 : s ≤ 1000000000) (t0 : -1000000000 ≤ t) (t1 : t ≤ 1000000000) (d0 : -1000000000 ≤ d) (d1 : d ≤ 1000000000) (a0 : -1000000000 ≤ a) (a1 : a ≤ 1000000000) (i0 : -1000000000 ≤ i) (i1 : i ≤ 1000000000) (w : World) :
    Calls Tryz.prog 17 #[.agg #[.int .i64 o, .int .i64 s, .int .i64 t, .int .i64 d, .int .i64 a, .int .i64 i]] w fun e w' => e = .returned (.string (R d)) ∧ Below w.heap.size w w' := by
  have hfm := at_form
  have z1 := zR s
  have z2 := zR t
  have z3 := zR d
  have z4 := zN a
  have z5 := zN i
  go_enter Tryz.func17, Tryz.ntmps17
  go_wp2_with fail
  have g0 := grow w (.cells #[.int .i64 o, .int .i64 s, .int .i64 t, .int .i64 d, .int .i64 a, .int .i64 i] 23)
  have k0 := cell6 w 23 (.int .i64 o) (.int .i64 s) (.int .i64 t) (.int .i64 d) (.int .i64 a) (.int .i64 i)
  generalize w.alloc (.cells #[.int .i64 o, .int .i64 s, .int .i64 t, .int .i64 d, .int .i64 a, .int .i64 i] 23) = W0 at *
  refine (hA _).mono ?_
  rintro e w1 ⟨rfl, h1⟩
  have b1 := onto g0 h1
  obtain ⟨c0, c1, c2, c3, c4, c5⟩ := k0.on h1
  clear g0 k0 h1 hA
  clear W0
  go_wp2_with fail
  refine (hR _ _ (by assumption) (by assumption)).mono ?_
  rintro e w2 ⟨rfl, h2⟩
  go_wp2_with fail
  go_ret
  exact ⟨rfl, onto b1 h2⟩

set_option maxRecDepth 100000 in
set_option maxHeartbeats 2000000 in
theorem rfld_8 {o s t d a i j n : Int} {nm F : ByteArray} {R N : Int → ByteArray} (hF : F.toList = [77, 84])
    (hA : ∀ w, Calls Tryz.prog 18 #[.int .i64 o] w fun e w' => e = .returned (.agg #[.string nm, .string F, .int .i64 j, .int .i64 n]) ∧ Below w.heap.size w w')
    (hR : ∀ x w, -1000000000 ≤ x → x ≤ 1000000000 → Calls Tryz.prog 35 #[.int .i64 x] w fun e w' => e = .returned (.string (R x)) ∧ Below w.heap.size w w')
    (hN : ∀ x w, -1000000000 ≤ x → x ≤ 1000000000 → Calls Tryz.prog 36 #[.int .i64 x] w fun e w' => e = .returned (.string (N x)) ∧ Below w.heap.size w w')
    (zR : ∀ x, (R x).size ≤ 100) (zN : ∀ x, (N x).size ≤ 100)
    (s0 : -1000000000 ≤ s) (s1 : s ≤ 1000000000) (t0 : -1000000000 ≤ t) (t1 : t ≤ 1000000000) (d0 : -1000000000 ≤ d) (d1 : d ≤ 1000000000) (a0 : -1000000000 ≤ a) (a1 : a ≤ 1000000000) (i0 : -1000000000 ≤ i) (i1 : i ≤ 1000000000) (w : World) :
    Calls Tryz.prog 17 #[.agg #[.int .i64 o, .int .i64 s, .int .i64 t, .int .i64 d, .int .i64 a, .int .i64 i]] w fun e w' => e = .returned (.string (R s)) ∧ Below w.heap.size w w' := by
  have hfm := at_form
  have z1 := zR s
  have z2 := zR t
  have z3 := zR d
  have z4 := zN a
  have z5 := zN i
  go_enter Tryz.func17, Tryz.ntmps17
  go_wp2_with fail
  have g0 := grow w (.cells #[.int .i64 o, .int .i64 s, .int .i64 t, .int .i64 d, .int .i64 a, .int .i64 i] 23)
  have k0 := cell6 w 23 (.int .i64 o) (.int .i64 s) (.int .i64 t) (.int .i64 d) (.int .i64 a) (.int .i64 i)
  generalize w.alloc (.cells #[.int .i64 o, .int .i64 s, .int .i64 t, .int .i64 d, .int .i64 a, .int .i64 i] 23) = W0 at *
  refine (hA _).mono ?_
  rintro e w1 ⟨rfl, h1⟩
  have b1 := onto g0 h1
  obtain ⟨c0, c1, c2, c3, c4, c5⟩ := k0.on h1
  clear g0 k0 h1 hA
  clear W0
  go_wp2_with fail
  refine (hR _ _ (by assumption) (by assumption)).mono ?_
  rintro e w2 ⟨rfl, h2⟩
  go_wp2_with fail
  go_ret
  exact ⟨rfl, onto b1 h2⟩

set_option maxRecDepth 100000 in
set_option maxHeartbeats 2000000 in
theorem rfld_12 {o s t d a i j n : Int} {nm F : ByteArray} {R N : Int → ByteArray} (hF : F.toList = [74])
    (hA : ∀ w, Calls Tryz.prog 18 #[.int .i64 o] w fun e w' => e = .returned (.agg #[.string nm, .string F, .int .i64 j, .int .i64 n]) ∧ Below w.heap.size w w')
    (hR : ∀ x w, -1000000000 ≤ x → x ≤ 1000000000 → Calls Tryz.prog 35 #[.int .i64 x] w fun e w' => e = .returned (.string (R x)) ∧ Below w.heap.size w w')
    (hN : ∀ x w, -1000000000 ≤ x → x ≤ 1000000000 → Calls Tryz.prog 36 #[.int .i64 x] w fun e w' => e = .returned (.string (N x)) ∧ Below w.heap.size w w')
    (zR : ∀ x, (R x).size ≤ 100) (zN : ∀ x, (N x).size ≤ 100)
    (s0 : -1000000000 ≤ s) (s1 : s ≤ 1000000000) (t0 : -1000000000 ≤ t) (t1 : t ≤ 1000000000) (d0 : -1000000000 ≤ d) (d1 : d ≤ 1000000000) (a0 : -1000000000 ≤ a) (a1 : a ≤ 1000000000) (i0 : -1000000000 ≤ i) (i1 : i ≤ 1000000000) (w : World) :
    Calls Tryz.prog 17 #[.agg #[.int .i64 o, .int .i64 s, .int .i64 t, .int .i64 d, .int .i64 a, .int .i64 i]] w fun e w' => e = .returned (.string (N i)) ∧ Below w.heap.size w w' := by
  have hfm := at_form
  have z1 := zR s
  have z2 := zR t
  have z3 := zR d
  have z4 := zN a
  have z5 := zN i
  go_enter Tryz.func17, Tryz.ntmps17
  go_wp2_with fail
  have g0 := grow w (.cells #[.int .i64 o, .int .i64 s, .int .i64 t, .int .i64 d, .int .i64 a, .int .i64 i] 23)
  have k0 := cell6 w 23 (.int .i64 o) (.int .i64 s) (.int .i64 t) (.int .i64 d) (.int .i64 a) (.int .i64 i)
  generalize w.alloc (.cells #[.int .i64 o, .int .i64 s, .int .i64 t, .int .i64 d, .int .i64 a, .int .i64 i] 23) = W0 at *
  refine (hA _).mono ?_
  rintro e w1 ⟨rfl, h1⟩
  have b1 := onto g0 h1
  obtain ⟨c0, c1, c2, c3, c4, c5⟩ := k0.on h1
  clear g0 k0 h1 hA
  clear W0
  go_wp2_with fail
  refine (hN _ _ (by assumption) (by assumption)).mono ?_
  rintro e w2 ⟨rfl, h2⟩
  go_wp2_with fail
  go_ret
  exact ⟨rfl, onto b1 h2⟩

set_option maxRecDepth 100000 in
set_option maxHeartbeats 2000000 in
theorem rfld_18 {o s t d a i j n : Int} {nm F : ByteArray} {R N : Int → ByteArray} (hF : F.toList = [67, 79])
    (hA : ∀ w, Calls Tryz.prog 18 #[.int .i64 o] w fun e w' => e = .returned (.agg #[.string nm, .string F, .int .i64 j, .int .i64 n]) ∧ Below w.heap.size w w')
    (hR : ∀ x w, -1000000000 ≤ x → x ≤ 1000000000 → Calls Tryz.prog 35 #[.int .i64 x] w fun e w' => e = .returned (.string (R x)) ∧ Below w.heap.size w w')
    (hN : ∀ x w, -1000000000 ≤ x → x ≤ 1000000000 → Calls Tryz.prog 36 #[.int .i64 x] w fun e w' => e = .returned (.string (N x)) ∧ Below w.heap.size w w')
    (zR : ∀ x, (R x).size ≤ 100) (zN : ∀ x, (N x).size ≤ 100)
    (s0 : -1000000000 ≤ s) (s1 : s ≤ 1000000000) (t0 : -1000000000 ≤ t) (t1 : t ≤ 1000000000) (d0 : -1000000000 ≤ d) (d1 : d ≤ 1000000000) (a0 : -1000000000 ≤ a) (a1 : a ≤ 1000000000) (i0 : -1000000000 ≤ i) (i1 : i ≤ 1000000000) (w : World) :
    Calls Tryz.prog 17 #[.agg #[.int .i64 o, .int .i64 s, .int .i64 t, .int .i64 d, .int .i64 a, .int .i64 i]] w fun e w' => e = .returned (.string (⟨#[]⟩)) ∧ Below w.heap.size w w' := by
  have hfm := at_form
  have z1 := zR s
  have z2 := zR t
  have z3 := zR d
  have z4 := zN a
  have z5 := zN i
  go_enter Tryz.func17, Tryz.ntmps17
  go_wp2_with fail
  have g0 := grow w (.cells #[.int .i64 o, .int .i64 s, .int .i64 t, .int .i64 d, .int .i64 a, .int .i64 i] 23)
  have k0 := cell6 w 23 (.int .i64 o) (.int .i64 s) (.int .i64 t) (.int .i64 d) (.int .i64 a) (.int .i64 i)
  generalize w.alloc (.cells #[.int .i64 o, .int .i64 s, .int .i64 t, .int .i64 d, .int .i64 a, .int .i64 i] 23) = W0 at *
  refine (hA _).mono ?_
  rintro e w1 ⟨rfl, h1⟩
  have b1 := onto g0 h1
  obtain ⟨c0, c1, c2, c3, c4, c5⟩ := k0.on h1
  clear g0 k0 h1 hA
  clear W0
  go_wp2_with fail
  go_ret
  exact ⟨rfl, b1⟩

end Go.Proofs.YtahbbhgoacbejaaGreatDoor
