/- The small functions of layer 5: a form's picture, the place of a number, the op of a name, the number at a text's beginning, a text cut at a byte. -/
import Derived.Test.YtahbbhgoacbejaaGreatDoorAsmBuild
import Derived.Lib.SmallJoins
import Derived.Lib.CutLaws
import Derived.Lib.IndexBytes
set_option linter.unusedVariables false
set_option linter.unusedSimpArgs false
namespace Go.Proofs.YtahbbhgoacbejaaGreatDoor
open Go.RowKit Go.Shelf Go.Joins

/-- What the program's tables, and those of its library, read as. -/
structure Lay5 (w : World) : Prop where
  tabs : Tabs w
  es : ∃ te pe, w.cell? ⟨4, 0, none⟩ = some (.iface te pe)
  er : ∃ te pe, w.cell? ⟨5, 0, none⟩ = some (.iface te pe)
  pow : Lib.TabIs Tryz.prog w "internal/strconv.uint64pow10" .u64 Lib.pow10Tab
  n : 10 ≤ w.heap.size

theorem gPow : Tryz.prog.globalNamed "internal/strconv.uint64pow10" = some 3 := by kernel_rfl

theorem Lay5.on {x y : World} (t : Lay5 x) (hb : Below x.heap.size x y) : Lay5 y := by
  obtain ⟨hc, -⟩ := bcell hb
  have hz := hb.size
  have n := t.n
  refine ⟨t.tabs.on hb, ?_, ?_, tab_stays gPow t.pow hb (Nat.le_refl _), by omega⟩
  · rw [hc _ _ (by omega)]; exact t.es
  · rw [hc _ _ (by omega)]; exact t.er

def Asm.pic (f : Nat) : List UInt8 :=
  [[], [32, 36, 100, 44, 36, 116, 44, 97], [32, 36, 100, 44, 36, 116, 44, 36, 115], [32, 36, 115], [32, 36, 100, 44, 36, 115], [32, 36, 100, 44, 36, 115, 44, 36, 116], [], [32, 36, 100], [32, 36, 115], [32, 36, 115, 44, 36, 116],
    [32, 36, 100, 44, 36, 115], [32, 36, 115, 44, 105], [32, 105], [32, 36, 115, 44, 36, 116, 44, 105], [32, 36, 116, 44, 36, 115, 44, 105], [32, 36, 116, 44, 36, 115, 44, 105], [32, 36, 116, 44, 105], [32, 36, 116, 44, 36, 100], [],
    [32, 36, 116, 44, 105, 40, 36, 115, 41]].getD f []
def Asm.letters : List UInt8 := [115, 116, 100, 97, 105]

theorem picture_0 (w : World) : Calls Tryz.prog 50 #[.string ⟨#[]⟩] w fun e w' => e = .returned (.string ⟨#[]⟩) ∧ w' = w := by
  go_enter Tryz.func50, Tryz.ntmps50
  go_wp2
  go_ret
  exact ⟨rfl, rfl⟩

theorem picture_1 (w : World) : Calls Tryz.prog 50 #[.string ⟨#[83, 72]⟩] w fun e w' => e = .returned (.string ⟨#[32, 36, 100, 44, 36, 116, 44, 97]⟩) ∧ w' = w := by
  go_enter Tryz.func50, Tryz.ntmps50
  go_wp2
  go_ret
  exact ⟨rfl, rfl⟩

theorem picture_2 (w : World) : Calls Tryz.prog 50 #[.string ⟨#[83, 86]⟩] w fun e w' => e = .returned (.string ⟨#[32, 36, 100, 44, 36, 116, 44, 36, 115]⟩) ∧ w' = w := by
  go_enter Tryz.func50, Tryz.ntmps50
  go_wp2
  go_ret
  exact ⟨rfl, rfl⟩

theorem picture_3 (w : World) : Calls Tryz.prog 50 #[.string ⟨#[74, 82]⟩] w fun e w' => e = .returned (.string ⟨#[32, 36, 115]⟩) ∧ w' = w := by
  go_enter Tryz.func50, Tryz.ntmps50
  go_wp2
  go_ret
  exact ⟨rfl, rfl⟩

theorem picture_4 (w : World) : Calls Tryz.prog 50 #[.string ⟨#[74, 65, 76, 82]⟩] w fun e w' => e = .returned (.string ⟨#[32, 36, 100, 44, 36, 115]⟩) ∧ w' = w := by
  go_enter Tryz.func50, Tryz.ntmps50
  go_wp2
  go_ret
  exact ⟨rfl, rfl⟩

theorem picture_5 (w : World) : Calls Tryz.prog 50 #[.string ⟨#[82]⟩] w fun e w' => e = .returned (.string ⟨#[32, 36, 100, 44, 36, 115, 44, 36, 116]⟩) ∧ w' = w := by
  go_enter Tryz.func50, Tryz.ntmps50
  go_wp2
  go_ret
  exact ⟨rfl, rfl⟩

theorem picture_6 (w : World) : Calls Tryz.prog 50 #[.string ⟨#[78]⟩] w fun e w' => e = .returned (.string ⟨#[]⟩) ∧ w' = w := by
  go_enter Tryz.func50, Tryz.ntmps50
  go_wp2
  go_ret
  exact ⟨rfl, rfl⟩

theorem picture_7 (w : World) : Calls Tryz.prog 50 #[.string ⟨#[77, 70]⟩] w fun e w' => e = .returned (.string ⟨#[32, 36, 100]⟩) ∧ w' = w := by
  go_enter Tryz.func50, Tryz.ntmps50
  go_wp2
  go_ret
  exact ⟨rfl, rfl⟩

theorem picture_8 (w : World) : Calls Tryz.prog 50 #[.string ⟨#[77, 84]⟩] w fun e w' => e = .returned (.string ⟨#[32, 36, 115]⟩) ∧ w' = w := by
  go_enter Tryz.func50, Tryz.ntmps50
  go_wp2
  go_ret
  exact ⟨rfl, rfl⟩

theorem picture_9 (w : World) : Calls Tryz.prog 50 #[.string ⟨#[77, 68]⟩] w fun e w' => e = .returned (.string ⟨#[32, 36, 115, 44, 36, 116]⟩) ∧ w' = w := by
  go_enter Tryz.func50, Tryz.ntmps50
  go_wp2
  go_ret
  exact ⟨rfl, rfl⟩

theorem picture_10 (w : World) : Calls Tryz.prog 50 #[.string ⟨#[67, 76]⟩] w fun e w' => e = .returned (.string ⟨#[32, 36, 100, 44, 36, 115]⟩) ∧ w' = w := by
  go_enter Tryz.func50, Tryz.ntmps50
  go_wp2
  go_ret
  exact ⟨rfl, rfl⟩

theorem picture_11 (w : World) : Calls Tryz.prog 50 #[.string ⟨#[66, 90]⟩] w fun e w' => e = .returned (.string ⟨#[32, 36, 115, 44, 105]⟩) ∧ w' = w := by
  go_enter Tryz.func50, Tryz.ntmps50
  go_wp2
  go_ret
  exact ⟨rfl, rfl⟩

theorem picture_12 (w : World) : Calls Tryz.prog 50 #[.string ⟨#[74]⟩] w fun e w' => e = .returned (.string ⟨#[32, 105]⟩) ∧ w' = w := by
  go_enter Tryz.func50, Tryz.ntmps50
  go_wp2
  go_ret
  exact ⟨rfl, rfl⟩

theorem picture_13 (w : World) : Calls Tryz.prog 50 #[.string ⟨#[66, 50]⟩] w fun e w' => e = .returned (.string ⟨#[32, 36, 115, 44, 36, 116, 44, 105]⟩) ∧ w' = w := by
  go_enter Tryz.func50, Tryz.ntmps50
  go_wp2
  go_ret
  exact ⟨rfl, rfl⟩

theorem picture_14 (w : World) : Calls Tryz.prog 50 #[.string ⟨#[73]⟩] w fun e w' => e = .returned (.string ⟨#[32, 36, 116, 44, 36, 115, 44, 105]⟩) ∧ w' = w := by
  go_enter Tryz.func50, Tryz.ntmps50
  go_wp2
  go_ret
  exact ⟨rfl, rfl⟩

theorem picture_15 (w : World) : Calls Tryz.prog 50 #[.string ⟨#[73, 85]⟩] w fun e w' => e = .returned (.string ⟨#[32, 36, 116, 44, 36, 115, 44, 105]⟩) ∧ w' = w := by
  go_enter Tryz.func50, Tryz.ntmps50
  go_wp2
  go_ret
  exact ⟨rfl, rfl⟩

theorem picture_16 (w : World) : Calls Tryz.prog 50 #[.string ⟨#[76, 85, 73]⟩] w fun e w' => e = .returned (.string ⟨#[32, 36, 116, 44, 105]⟩) ∧ w' = w := by
  go_enter Tryz.func50, Tryz.ntmps50
  go_wp2
  go_ret
  exact ⟨rfl, rfl⟩

theorem picture_17 (w : World) : Calls Tryz.prog 50 #[.string ⟨#[67, 48]⟩] w fun e w' => e = .returned (.string ⟨#[32, 36, 116, 44, 36, 100]⟩) ∧ w' = w := by
  go_enter Tryz.func50, Tryz.ntmps50
  go_wp2
  go_ret
  exact ⟨rfl, rfl⟩

theorem picture_18 (w : World) : Calls Tryz.prog 50 #[.string ⟨#[67, 79]⟩] w fun e w' => e = .returned (.string ⟨#[]⟩) ∧ w' = w := by
  go_enter Tryz.func50, Tryz.ntmps50
  go_wp2
  go_ret
  exact ⟨rfl, rfl⟩

theorem picture_19 (w : World) : Calls Tryz.prog 50 #[.string ⟨#[77]⟩] w fun e w' => e = .returned (.string ⟨#[32, 36, 116, 44, 105, 40, 36, 115, 41]⟩) ∧ w' = w := by
  go_enter Tryz.func50, Tryz.ntmps50
  go_wp2
  go_ret
  exact ⟨rfl, rfl⟩

theorem picture_any (f : Nat) (hf : f < 20) (w : World) : Calls Tryz.prog 50 #[.string (Dec.lname f)] w fun e w' => e = .returned (.string ⟨(Asm.pic f).toArray⟩) ∧ w' = w := by
  have hcases : f = 0 ∨ f = 1 ∨ f = 2 ∨ f = 3 ∨ f = 4 ∨ f = 5 ∨ f = 6 ∨ f = 7 ∨ f = 8 ∨ f = 9 ∨ f = 10 ∨ f = 11 ∨ f = 12 ∨ f = 13 ∨ f = 14 ∨ f = 15 ∨ f = 16 ∨ f = 17 ∨ f = 18 ∨ f = 19 := by omega
  rcases hcases with rfl | rfl | rfl | rfl | rfl | rfl | rfl | rfl | rfl | rfl | rfl | rfl | rfl | rfl | rfl | rfl | rfl | rfl | rfl | rfl
  · exact picture_0 w
  · exact picture_1 w
  · exact picture_2 w
  · exact picture_3 w
  · exact picture_4 w
  · exact picture_5 w
  · exact picture_6 w
  · exact picture_7 w
  · exact picture_8 w
  · exact picture_9 w
  · exact picture_10 w
  · exact picture_11 w
  · exact picture_12 w
  · exact picture_13 w
  · exact picture_14 w
  · exact picture_15 w
  · exact picture_16 w
  · exact picture_17 w
  · exact picture_18 w
  · exact picture_19 w

theorem place_any (b k : Nat) (hk : k < 5) (c : UInt8) (hc : Asm.letters[k]? = some c) (w : World) :
    Calls Tryz.prog 53 #[.pointer (some ⟨b, 0, none⟩), .int .u8 c.toNat] w fun e w' => e = .returned (.pointer (some ⟨b, k + 1, none⟩)) ∧ w' = w := by
  have hcases : k = 0 ∨ k = 1 ∨ k = 2 ∨ k = 3 ∨ k = 4 := by omega
  rcases hcases with rfl | rfl | rfl | rfl | rfl
  all_goals
    simp only [Asm.letters, List.getElem?_cons_zero, List.getElem?_cons_succ, Option.some.injEq] at hc
    subst hc
    go_enter Tryz.func53, Tryz.ntmps53
    go_wp2
    go_ret
    exact ⟨rfl, rfl⟩

theorem fields_any (p : Option Addr) (w : World) :
    Calls Tryz.prog 27 #[.pointer p] w fun e w' => e = .returned (.func (.func 49) #[] #[.pointer (some ⟨w.heap.size, 0, none⟩)]) ∧ w' = w.alloc (.cells #[.pointer p] 67) := by
  go_enter Tryz.func27, Tryz.ntmps27
  go_wp2
  go_ret
  exact ⟨rfl, rfl⟩

end Go.Proofs.YtahbbhgoacbejaaGreatDoor
