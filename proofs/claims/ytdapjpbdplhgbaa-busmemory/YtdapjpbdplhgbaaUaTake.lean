/- Layer 10: contracts of counted bytes that are taken, the program's. -/
import Derived.Test.YtdapjpbdplhgbaaUaWalks
import Derived.Shelf.Pu.Clone
import Derived.Deep.RegionHeld3
namespace Go.Proofs.Ytdapjpbdplhgbaa.Ua
open Go.RowKit
set_option linter.unusedVariables false
set_option maxRecDepth 100000
set_option linter.unusedSimpArgs false

/-- Where the shelf's numbers of functions and types lie in this translation. -/
def ren : Go.Shelf.Ren := ⟨fun | 25 => 79 | n => n, fun | 37 => 60 | 47 => 161 | n => n, fun n => n⟩

theorem lays25 : LaysPu.n25 Try.prog ren :=
  { mixed := by kernel_rfl, f25 := by kernel_rfl,
    t0 := by kernel_rfl, a0 := fun _ => by kernel_rfl, z0 := fun _ => by kernel_rfl, v0 := fun _ => by kernel_rfl, i0 := by kernel_rfl,
    t3 := by kernel_rfl, a3 := fun _ => by kernel_rfl, z3 := fun _ => by kernel_rfl, v3 := fun _ => by kernel_rfl, i3 := by kernel_rfl,
    t4 := by kernel_rfl, a4 := fun _ => by kernel_rfl, z4 := fun _ => by kernel_rfl, v4 := fun _ => by kernel_rfl, i4 := by kernel_rfl,
    t5 := by kernel_rfl, a5 := fun _ => by kernel_rfl, z5 := fun _ => by kernel_rfl, v5 := fun _ => by kernel_rfl, i5 := by kernel_rfl,
    t9 := by kernel_rfl, a9 := fun _ => by kernel_rfl, z9 := fun _ => by kernel_rfl, v9 := fun _ => by kernel_rfl, i9 := by kernel_rfl,
    t37 := by kernel_rfl, a37 := fun _ => by kernel_rfl, z37 := fun _ => by kernel_rfl, v37 := fun _ => by kernel_rfl, i37 := by kernel_rfl,
    t47 := by kernel_rfl, a47 := fun _ => by kernel_rfl, z47 := fun _ => by kernel_rfl, v47 := fun _ => by kernel_rfl, i47 := by kernel_rfl }

theorem slClone_any (s : ByteArray) (w : World) (hlim : s.size ≤ 281474976710656) :
    Calls Try.prog 79 #[.string s] w fun e w' => e = .returned (.string s) ∧ Below w.heap.size w w' :=
  AnyPu.stringslite_Clone lays25 s w hlim

theorem clone_any (s : ByteArray) (w : World) (hlim : s.size ≤ 281474976710656) :
    Calls Try.prog 56 #[.string s] w fun e w' => e = .returned (.string s) ∧ Below w.heap.size w w' := by
  go_enter Try.func56, Try.ntmps56
  go_wp2_with fail
  refine (slClone_any s w hlim).mono ?_
  rintro e w' ⟨rfl, hb⟩
  go_wp2
  go_ret
  exact ⟨rfl, hb⟩

/-- May so many counted bytes be taken? -/
def May (s : ByteArray) (m : Nat) : Prop := 0 < s.size ∧ byteN s 0 ≤ m ∧ 1 + byteN s 0 ≤ s.size

/-- What is taken, and what stands behind it. -/
def headT (s : ByteArray) : ByteArray := (s.extract 1 s.size).extract 0 (byteN s 0)
def tailT (s : ByteArray) : ByteArray := (s.extract 1 s.size).extract (byteN s 0) (s.size - 1)

set_option maxHeartbeats 1000000 in
theorem taken_no {s : ByteArray} {m : Nat} (hs : s.size ≤ maxLen) (hm : m ≤ 1000) (h : ¬ May s m) (w : World) :
    Calls Try.prog 80 #[.string s, .int .i64 m] w fun e w' => e = .returned (.tuple #[.string ⟨#[]⟩, .string ⟨#[]⟩, .bool false]) ∧ Below w.heap.size w w' := by
  unfold maxLen at hs
  have he := empty_iff s
  by_cases hz : s.size = 0
  · have hd : s.toList.isEmpty = true := by rw [he]; simpa using hz
    clear he
    go_enter Try.func80, Try.ntmps80
    go_wp2
    exact bodyPost_ret (v := .tuple #[.string ⟨#[]⟩, .string ⟨#[]⟩, .bool false]) (by simp [results, Try.results80, go_sem]) rfl ⟨rfl, Below.refl _ _⟩
  · have hd : s.toList.isEmpty = false := by rw [he]; simpa using hz
    clear he
    have hb : byteN s 0 = (s[0]'(by omega)).toNat := byteN_in s 0 (by omega)
    have hlt : (s[0]'(by omega)).toNat < 256 := (s[0]'(by omega)).toNat_lt
    have hx : (s.extract 1 s.size).size = s.size - 1 := by rw [ByteArray.size_extract]; omega
    by_cases h1 : m < (s[0]'(by omega)).toNat
    · go_enter Try.func80, Try.ntmps80
      go_wp2
      exact bodyPost_ret (v := .tuple #[.string ⟨#[]⟩, .string ⟨#[]⟩, .bool false]) (by simp [results, Try.results80, go_sem]) rfl ⟨rfl, Below.refl _ _⟩
    · have h2 : s.size - 1 < (s[0]'(by omega)).toNat := by
        apply Nat.lt_of_not_le
        intro hc
        exact h ⟨by omega, by omega, by omega⟩
      go_enter Try.func80, Try.ntmps80
      go_wp2
      exact bodyPost_ret (v := .tuple #[.string ⟨#[]⟩, .string ⟨#[]⟩, .bool false]) (by simp [results, Try.results80, go_sem]) rfl ⟨rfl, Below.refl _ _⟩

set_option maxHeartbeats 1000000 in
theorem taken_yes {s : ByteArray} {m : Nat} (hs : s.size ≤ maxLen) (hm : m ≤ 1000) (h : May s m) (w : World) :
    Calls Try.prog 80 #[.string s, .int .i64 m] w fun e w' => e = .returned (.tuple #[.string (headT s), .string (tailT s), .bool true]) ∧ Below w.heap.size w w' := by
  obtain ⟨hz, hn, hl⟩ := h
  have hb : byteN s 0 = (s[0]'(by omega)).toNat := byteN_in s 0 (by omega)
  unfold headT tailT
  rw [hb] at hn hl ⊢
  have hd : s.toList.isEmpty = false := by rw [empty_iff s]; simpa using (show ¬ s.size = 0 by omega)
  have hlt : (s[0]'(by omega)).toNat < 256 := (s[0]'(by omega)).toNat_lt
  have hx : (s.extract 1 s.size).size = s.size - 1 := by rw [ByteArray.size_extract]; omega
  have hle : (s[0]'(by omega)).toNat ≤ s.size - 1 := by omega
  have h1 : ¬ m < (s[0]'(by omega)).toNat := by omega
  have h2 : ¬ s.size - 1 < (s[0]'(by omega)).toNat := by omega
  have hc : ((s.extract 1 s.size).extract 0 (s[0]'(by omega)).toNat).size ≤ 281474976710656 := by rw [ByteArray.size_extract]; omega
  have c := hide fun W => clone_any ((s.extract 1 s.size).extract 0 (s[0]'(by omega)).toNat) W hc
  unfold maxLen at hs
  clear hb hn hl hc
  go_enter Try.func80, Try.ntmps80
  go_wp2_with fail
  go_region_held3 (fun x => Below w.heap.size w x) (first | exact (Below.refl _ w).drew | assumption | exact onto (by assumption) (Nat.le_refl _) (by assumption)) (first | (go_at_call 56; refine (c.out _).mono ?_; rintro e w' ⟨rfl, hn⟩))
  all_goals
    go_wp2
    exact bodyPost_ret (v := .tuple #[.string ((s.extract 1 s.size).extract 0 (s[0]'(by omega)).toNat), .string ((s.extract 1 s.size).extract (s[0]'(by omega)).toNat (s.size - 1)), .bool true]) (by simp [results, Try.results80, go_sem]) rfl ⟨rfl, by assumption⟩

end Go.Proofs.Ytdapjpbdplhgbaa.Ua
