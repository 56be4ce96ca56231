/- Contracts of a sum as two bytes, of sealing and of a copy. -/
import Derived.Test.YtflfgeolimkhgaaCrcWalks2
import Derived.Below
import Derived.Laws.BytesArg
import Derived.Lib.Strings
import Derived.Shelf.Pu.Clone
namespace Go.Proofs.Ytflfgeolimkhgaa
open Go.RowKit
set_option linter.unusedVariables false

/-- A sum as two bytes, the higher first. -/
def two (n : Nat) : ByteArray := ⟨#[UInt8.ofNat (n / 256), UInt8.ofNat (n % 256)]⟩

theorem two_of (n : Nat) : strOfNums [(n : Int) / 256, (n : Int) % 256] = two n := by
  unfold strOfNums two
  congr 1

theorem conv_two (n : Nat) (w : World) :
    (convert 32 9 (.slice (some ⟨w.heap.size, 0, none⟩) 2 2)).run Try.prog (w.alloc (.cells #[.int .u8 ((n : Int) / 256), .int .u8 ((n : Int) % 256)] 5))
      = .ok (.string (two n)) (w.alloc (.cells #[.int .u8 ((n : Int) / 256), .int .u8 ((n : Int) % 256)] 5)) := by
  rw [← two_of]
  refine run_convert_bytes_arg _ 32 5 Try.underlying32 Try.underlying5 w.heap.size 0 2 2 [(n : Int) / 256, (n : Int) % 256] rfl ?_ 9 Try.underlying9
  intro i hi
  rw [World.cell?_alloc_new]
  match i, hi with
  | 0, _ => rfl
  | 1, _ => rfl

theorem sumText_any (n : Nat) (hn : n < 65536) (w : World) :
    Calls Try.prog 19 #[.int .u16 (n : Int)] w fun e w' => e = .returned (.string (two n)) ∧ Below w.heap.size w w' := by
  have hcv := conv_two n w
  go_enter Try.func19, Try.ntmps19
  go_wp2
  go_ret
  exact ⟨rfl, (Below.refl _ _).alloc (Nat.le_refl _) _⟩

/-- Where the shelf's numbers of functions and types lie in this translation. -/
def ren : Go.Shelf.Ren := ⟨fun | 25 => 22 | n => n, fun | 37 => 32 | 47 => 40 | n => n, fun n => n⟩

theorem lays25 : LaysPu.n25 Try.prog ren :=
  { mixed := by kernel_rfl, f25 := by kernel_rfl,
    t0 := by kernel_rfl, a0 := fun _ => by kernel_rfl, z0 := fun _ => by kernel_rfl, v0 := fun _ => by kernel_rfl, i0 := by kernel_rfl,
    t3 := by kernel_rfl, a3 := fun _ => by kernel_rfl, z3 := fun _ => by kernel_rfl, v3 := fun _ => by kernel_rfl, i3 := by kernel_rfl,
    t4 := by kernel_rfl, a4 := fun _ => by kernel_rfl, z4 := fun _ => by kernel_rfl, v4 := fun _ => by kernel_rfl, i4 := by kernel_rfl,
    t5 := by kernel_rfl, a5 := fun _ => by kernel_rfl, z5 := fun _ => by kernel_rfl, v5 := fun _ => by kernel_rfl, i5 := by kernel_rfl,
    t9 := by kernel_rfl, a9 := fun _ => by kernel_rfl, z9 := fun _ => by kernel_rfl, v9 := fun _ => by kernel_rfl, i9 := by kernel_rfl,
    t37 := by kernel_rfl, a37 := fun _ => by kernel_rfl, z37 := fun _ => by kernel_rfl, v37 := fun _ => by kernel_rfl, i37 := by kernel_rfl,
    t47 := by kernel_rfl, a47 := fun _ => by kernel_rfl, z47 := fun _ => by kernel_rfl, v47 := fun _ => by kernel_rfl, i47 := by kernel_rfl }

theorem slClone_any (s : ByteArray) (w : World) (hlim : s.size ≤ 281474976710656) :
    Calls Try.prog 22 #[.string s] w fun e w' => e = .returned (.string s) ∧ Below w.heap.size w w' :=
  AnyPu.stringslite_Clone lays25 s w hlim

theorem clone_any (s : ByteArray) (w : World) (hlim : s.size ≤ 281474976710656) :
    Calls Try.prog 20 #[.string s] w fun e w' => e = .returned (.string s) ∧ Below w.heap.size w w' := by
  go_enter Try.func20, Try.ntmps20
  go_wp2_with fail
  refine (slClone_any s w hlim).mono ?_
  rintro e w' ⟨rfl, hb⟩
  go_wp2
  go_ret
  exact ⟨rfl, hb⟩

end Go.Proofs.Ytflfgeolimkhgaa
