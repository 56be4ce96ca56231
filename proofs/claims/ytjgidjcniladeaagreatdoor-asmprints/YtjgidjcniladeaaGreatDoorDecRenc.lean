/- What the document's Encode answers. -/
import Derived.Test.YtjgidjcniladeaaGreatDoorDecRef2
namespace Go.Proofs.YtjgidjcniladeaaGreatDoor
open Go.RowKit
set_option linter.unusedVariables false

set_option maxHeartbeats 2000000 in
theorem renc_early {nm F : ByteArray} {m n o s t d a i : Int} {bs bt bd ba : Bool} (n1 : ¬ nm.toList = []) (n2 : nm.toList.isEmpty = false)
    (hA : ∀ w, Calls Tryz.prog 18 #[.int .i64 o] w fun e w' => e = .returned (.agg #[.string nm, .string F, .int .i64 m, .int .i64 n]) ∧ Below w.heap.size w w')
    (hs : ∀ w, Calls Tryz.prog 30 #[.int .i64 s] w fun e w' => e = .returned (.bool bs) ∧ w' = w)
    (ht : ∀ w, Calls Tryz.prog 30 #[.int .i64 t] w fun e w' => e = .returned (.bool bt) ∧ w' = w)
    (hd : ∀ w, Calls Tryz.prog 30 #[.int .i64 d] w fun e w' => e = .returned (.bool bd) ∧ w' = w)
    (ha : ∀ w, Calls Tryz.prog 30 #[.int .i64 a] w fun e w' => e = .returned (.bool ba) ∧ w' = w)
    (hb : bs = false ∨ bs = true ∧ bt = false ∨ bs = true ∧ bt = true ∧ bd = false ∨ bs = true ∧ bt = true ∧ bd = true ∧ ba = false) (w : World) :
    Calls Tryz.prog 16 #[.agg #[.int .i64 o, .int .i64 s, .int .i64 t, .int .i64 d, .int .i64 a, .int .i64 i]] w fun e w' => e = .returned (.tuple #[.int .u32 0, .int .i64 40]) ∧ Below w.heap.size w w' := by
  go_enter Tryz.func16, Tryz.ntmps16
  go_wp2_with fail
  have g0 := grow w (.cells #[.int .i64 o, .int .i64 s, .int .i64 t, .int .i64 d, .int .i64 a, .int .i64 i] 23)
  have k0 := cell6 w 23 (.int .i64 o) (.int .i64 s) (.int .i64 t) (.int .i64 d) (.int .i64 a) (.int .i64 i)
  refine (hA _).mono ?_
  rintro e w1 ⟨rfl, h1⟩
  have k1 := k0.on h1
  have b1 := onto g0 h1
  clear k0 g0 h1 hA
  obtain ⟨x0, x1, x2, x3, x4, x5⟩ := k1
  have z1 := cell_in x0
  have b2 := onto b1 (grow w1 (.cells #[.string nm, .string F, .int .i64 m, .int .i64 n] 41))
  rcases hb with rfl | ⟨rfl, rfl⟩ | ⟨rfl, rfl, rfl⟩ | ⟨rfl, rfl, rfl, rfl⟩
  · go_wp2_with fail
    refine (hs _).mono ?_
    rintro e w' ⟨rfl, rfl⟩
    go_wp2
    go_ret2
    exact ⟨rfl, b2⟩
  · go_wp2_with fail
    refine (hs _).mono ?_
    rintro e w' ⟨rfl, rfl⟩
    go_wp2_with fail
    refine (ht _).mono ?_
    rintro e w' ⟨rfl, rfl⟩
    go_wp2
    go_ret2
    exact ⟨rfl, b2⟩
  · go_wp2_with fail
    refine (hs _).mono ?_
    rintro e w' ⟨rfl, rfl⟩
    go_wp2_with fail
    refine (ht _).mono ?_
    rintro e w' ⟨rfl, rfl⟩
    go_wp2_with fail
    refine (hd _).mono ?_
    rintro e w' ⟨rfl, rfl⟩
    go_wp2
    go_ret2
    exact ⟨rfl, b2⟩
  · go_wp2_with fail
    refine (hs _).mono ?_
    rintro e w' ⟨rfl, rfl⟩
    go_wp2_with fail
    refine (ht _).mono ?_
    rintro e w' ⟨rfl, rfl⟩
    go_wp2_with fail
    refine (hd _).mono ?_
    rintro e w' ⟨rfl, rfl⟩
    go_wp2_with fail
    refine (ha _).mono ?_
    rintro e w' ⟨rfl, rfl⟩
    go_wp2
    go_ret2
    exact ⟨rfl, b2⟩

theorem renc_none {F : ByteArray} {m n o s t d a i : Int}
    (hA : ∀ w, Calls Tryz.prog 18 #[.int .i64 o] w fun e w' => e = .returned (.agg #[.string ⟨#[]⟩, .string F, .int .i64 m, .int .i64 n]) ∧ Below w.heap.size w w') (w : World) :
    Calls Tryz.prog 16 #[.agg #[.int .i64 o, .int .i64 s, .int .i64 t, .int .i64 d, .int .i64 a, .int .i64 i]] w fun e w' => e = .returned (.tuple #[.int .u32 0, .int .i64 40]) ∧ Below w.heap.size w w' := by
  go_enter Tryz.func16, Tryz.ntmps16
  go_wp2_with fail
  have g0 := grow w (.cells #[.int .i64 o, .int .i64 s, .int .i64 t, .int .i64 d, .int .i64 a, .int .i64 i] 23)
  refine (hA _).mono ?_
  rintro e w1 ⟨rfl, h1⟩
  have b1 := onto g0 h1
  have b2 := onto b1 (grow w1 (.cells #[.string ⟨#[]⟩, .string F, .int .i64 m, .int .i64 n] 41))
  go_wp2
  go_ret2
  exact ⟨rfl, b2⟩

end Go.Proofs.YtjgidjcniladeaaGreatDoor
