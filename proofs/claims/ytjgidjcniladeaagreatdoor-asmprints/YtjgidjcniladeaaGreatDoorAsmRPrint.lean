/- The text of an instruction, as the document has it. -/
import Derived.Test.YtjgidjcniladeaaGreatDoorAsmFldA
import Derived.Test.YtjgidjcniladeaaGreatDoorAsmFldB
import Derived.Test.YtjgidjcniladeaaGreatDoorAsmFldC
import Derived.Test.YtjgidjcniladeaaGreatDoorAsmFldD
import Derived.Test.YtjgidjcniladeaaGreatDoorAsmFixed
import Derived.Test.YtjgidjcniladeaaGreatDoorDecEnc
set_option linter.unusedVariables false
set_option linter.unusedSimpArgs false
namespace Go.Proofs.YtjgidjcniladeaaGreatDoor
open Go.RowKit Go.Shelf Go.Joins

/-- A number's text, and a register's; bounded whatever the number. -/
def Asm.nt (x : Int) : ByteArray := if -1000000000 ≤ x ∧ x ≤ 1000000000 then ⟨(Lib.itoa x).toArray⟩ else ⟨#[]⟩
def Asm.rt (x : Int) : ByteArray := (⟨#[36]⟩ : ByteArray) ++ Asm.nt x

theorem Asm.nt_size (x : Int) : (Asm.nt x).size ≤ 99 := by
  unfold Asm.nt
  split
  · rename_i h
    have := Lib.itoa_length_le x (by omega) (by omega)
    show (Lib.itoa x).length ≤ 99
    omega
  · show 0 ≤ 99; omega
theorem Asm.rt_size (x : Int) : (Asm.rt x).size ≤ 100 := by
  unfold Asm.rt
  have := Asm.nt_size x
  rw [ByteArray.size_append, sz_one]
  omega

theorem num_nt (x : Int) (w : World) (h0 : -1000000000 ≤ x) (h1 : x ≤ 1000000000) :
    Calls Tryz.prog 36 #[.int .i64 x] w fun e w' => e = .returned (.string (Asm.nt x)) ∧ Below w.heap.size w w' := by
  unfold Asm.nt
  rw [if_pos ⟨h0, h1⟩]
  exact num_any x w h0 h1
theorem reg_rt (x : Int) (w : World) (h0 : -1000000000 ≤ x) (h1 : x ≤ 1000000000) :
    Calls Tryz.prog 35 #[.int .i64 x] w fun e w' => e = .returned (.string (Asm.rt x)) ∧ Below w.heap.size w w' :=
  reg_raw x (Asm.nt x) (by have := Asm.nt_size x; omega) (fun w => num_nt x w h0 h1) w

/-- The document's fields of a form, as text. -/
def Asm.flds (f : Nat) (s t d a i : Int) : ByteArray :=
  let c : ByteArray := ⟨#[44]⟩
  [⟨#[]⟩, Asm.rt d ++ c ++ Asm.rt t ++ c ++ Asm.nt a, Asm.rt d ++ c ++ Asm.rt t ++ c ++ Asm.rt s, Asm.rt s, Asm.rt d ++ c ++ Asm.rt s, Asm.rt d ++ c ++ Asm.rt s ++ c ++ Asm.rt t, ⟨#[]⟩, Asm.rt d, Asm.rt s, Asm.rt s ++ c ++ Asm.rt t, Asm.rt d ++ c ++ Asm.rt s,
    Asm.rt s ++ c ++ Asm.nt i, Asm.nt i, Asm.rt s ++ c ++ Asm.rt t ++ c ++ Asm.nt i, Asm.rt t ++ c ++ Asm.rt s ++ c ++ Asm.nt i, Asm.rt t ++ c ++ Asm.rt s ++ c ++ Asm.nt i, Asm.rt t ++ c ++ Asm.nt i, Asm.rt t ++ c ++ Asm.rt d, ⟨#[]⟩,
    Asm.rt t ++ c ++ Asm.nt i ++ (⟨#[40]⟩ : ByteArray) ++ Asm.rt s ++ (⟨#[41]⟩ : ByteArray)].getD f ⟨#[]⟩

/-- What the document's fields are, where the numbers are within bounds. -/
theorem flds_any (op : Nat) (ho : op < 69) (s t d a i : Int) (s0 : -1000000000 ≤ s) (s1 : s ≤ 1000000000) (t0 : -1000000000 ≤ t) (t1 : t ≤ 1000000000) (d0 : -1000000000 ≤ d) (d1 : d ≤ 1000000000) (a0 : -1000000000 ≤ a) (a1 : a ≤ 1000000000) (i0 : -1000000000 ≤ i) (i1 : i ≤ 1000000000) (w : World) :
    Calls Tryz.prog 17 #[.agg #[.int .i64 (op : Int), .int .i64 s, .int .i64 t, .int .i64 d, .int .i64 a, .int .i64 i]] w fun e w' => e = .returned (.string (Asm.flds (Dec.fm op) s t d a i)) ∧ Below w.heap.size w w' := by
  have hA : ∀ w, Calls Tryz.prog 18 #[.int .i64 (op : Int)] w fun e w' => e = .returned (.agg #[.string (Dec.name op), .string (Dec.lname (Dec.fm op)), .int .i64 (Dec.mj op : Nat), .int .i64 (Dec.mn op : Nat)]) ∧ Below w.heap.size w w' := fun w => by
    have := at_any (op : Int) w
    rwa [show idx (op : Int) = op from by unfold idx; rw [if_pos (by omega)]; simp] at this
  have hr := Dec.fm_lt op ho
  have zR := Asm.rt_size
  have zN : ∀ x, (Asm.nt x).size ≤ 100 := fun x => by have := Asm.nt_size x; omega
  generalize (Dec.mj op : Nat) = j at *
  generalize (Dec.mn op : Nat) = n at *
  generalize Dec.name op = nm at *
  generalize Dec.fm op = f at *
  have hcases : f = 1 ∨ f = 2 ∨ f = 3 ∨ f = 4 ∨ f = 5 ∨ f = 6 ∨ f = 7 ∨ f = 8 ∨ f = 9 ∨ f = 10 ∨ f = 11 ∨ f = 12 ∨ f = 13 ∨ f = 14 ∨ f = 15 ∨ f = 16 ∨ f = 17 ∨ f = 18 ∨ f = 19 := by omega
  rcases hcases with rfl | rfl | rfl | rfl | rfl | rfl | rfl | rfl | rfl | rfl | rfl | rfl | rfl | rfl | rfl | rfl | rfl | rfl | rfl
  · exact rfld_1 (by decide +kernel) hA reg_rt num_nt zR zN s0 s1 t0 t1 d0 d1 a0 a1 i0 i1 w
  · exact rfld_2 (by decide +kernel) hA reg_rt num_nt zR zN s0 s1 t0 t1 d0 d1 a0 a1 i0 i1 w
  · exact rfld_3 (by decide +kernel) hA reg_rt num_nt zR zN s0 s1 t0 t1 d0 d1 a0 a1 i0 i1 w
  · exact rfld_4 (by decide +kernel) hA reg_rt num_nt zR zN s0 s1 t0 t1 d0 d1 a0 a1 i0 i1 w
  · exact rfld_5 (by decide +kernel) hA reg_rt num_nt zR zN s0 s1 t0 t1 d0 d1 a0 a1 i0 i1 w
  · exact rfld_6 (by decide +kernel) hA reg_rt num_nt zR zN s0 s1 t0 t1 d0 d1 a0 a1 i0 i1 w
  · exact rfld_7 (by decide +kernel) hA reg_rt num_nt zR zN s0 s1 t0 t1 d0 d1 a0 a1 i0 i1 w
  · exact rfld_8 (by decide +kernel) hA reg_rt num_nt zR zN s0 s1 t0 t1 d0 d1 a0 a1 i0 i1 w
  · exact rfld_9 (by decide +kernel) hA reg_rt num_nt zR zN s0 s1 t0 t1 d0 d1 a0 a1 i0 i1 w
  · exact rfld_10 (by decide +kernel) hA reg_rt num_nt zR zN s0 s1 t0 t1 d0 d1 a0 a1 i0 i1 w
  · exact rfld_11 (by decide +kernel) hA reg_rt num_nt zR zN s0 s1 t0 t1 d0 d1 a0 a1 i0 i1 w
  · exact rfld_12 (by decide +kernel) hA reg_rt num_nt zR zN s0 s1 t0 t1 d0 d1 a0 a1 i0 i1 w
  · exact rfld_13 (by decide +kernel) hA reg_rt num_nt zR zN s0 s1 t0 t1 d0 d1 a0 a1 i0 i1 w
  · exact rfld_14 (by decide +kernel) hA reg_rt num_nt zR zN s0 s1 t0 t1 d0 d1 a0 a1 i0 i1 w
  · exact rfld_15 (by decide +kernel) hA reg_rt num_nt zR zN s0 s1 t0 t1 d0 d1 a0 a1 i0 i1 w
  · exact rfld_16 (by decide +kernel) hA reg_rt num_nt zR zN s0 s1 t0 t1 d0 d1 a0 a1 i0 i1 w
  · exact rfld_17 (by decide +kernel) hA reg_rt num_nt zR zN s0 s1 t0 t1 d0 d1 a0 a1 i0 i1 w
  · exact rfld_18 (by decide +kernel) hA reg_rt num_nt zR zN s0 s1 t0 t1 d0 d1 a0 a1 i0 i1 w
  · exact rfld_19 (by decide +kernel) hA reg_rt num_nt zR zN s0 s1 t0 t1 d0 d1 a0 a1 i0 i1 w

end Go.Proofs.YtjgidjcniladeaaGreatDoor
