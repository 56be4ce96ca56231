/- What is opened: a sealed text, and no other one; the program's and the document's. -/
import Derived.Test.YtflfgeolimkhgaaCrcWalks5
namespace Go.Proofs.Ytflfgeolimkhgaa
open Go.RowKit
set_option linter.unusedVariables false

theorem tl (s : ByteArray) : s.toList = s.data.toList := by
  obtain ⟨⟨l⟩⟩ := s
  exact ByteArray.toList_mk l

theorem ne_beq {l m : List UInt8} (h : ¬ l = m) : (!(l == m)) = true := by simp [h]

theorem text_ext {a b : ByteArray} (h : a.data.toList = b.data.toList) : a = b := by
  apply ByteArray.ext
  exact Array.toList_inj.1 h

theorem data_app (a b : ByteArray) : (a ++ b).data.toList = a.data.toList ++ b.data.toList := by
  simp [ByteArray.data_append]

theorem ext_head (s : ByteArray) (n : Nat) : (s.extract 0 n).data.toList = s.data.toList.take n := by
  rw [Lib.extract_data]; simp

theorem ext_tail (s : ByteArray) (n : Nat) : (s.extract n s.size).data.toList = s.data.toList.drop n := by
  rw [Lib.extract_data, List.take_of_length_le]
  rw [List.length_drop, Lib.size_eq]
  exact Nat.le_refl _

theorem seal_size (s : ByteArray) : (sealOf s).size = s.size + 2 := by
  unfold sealOf
  rw [ByteArray.size_append, two_size]

theorem seal_head (t : ByteArray) : (sealOf t).extract 0 t.size = t := by
  apply text_ext
  rw [ext_head]
  unfold sealOf
  rw [data_app, Lib.size_eq, List.take_left']
  rfl

theorem seal_tail (t : ByteArray) : ((sealOf t).extract t.size (sealOf t).size).data.toList = (two (Crc.on 65535 (nats t))).data.toList := by
  rw [ext_tail]
  unfold sealOf
  rw [data_app, Lib.size_eq, List.drop_left']
  rfl

theorem sealed_of (s : ByteArray) (n : Nat) (h : s.size = n + 2) (e : (s.extract n s.size).data.toList = (two (Crc.on 65535 (nats (s.extract 0 n)))).data.toList) :
    s = sealOf (s.extract 0 n) := by
  apply text_ext
  unfold sealOf
  rw [data_app, ← e, ext_head, ext_tail, List.take_append_drop]

theorem open_yes (t : ByteArray) (w : World) (h : t.size ≤ 281474976710656) :
    Calls Try.prog 14 #[.string (sealOf t)] w fun e w' => e = .returned (.tuple #[.string t, .bool true]) ∧ Below w.heap.size w w' := by
  have hsz := seal_size t
  have hq : (!((sealOf t).extract t.size (sealOf t).size).toList == (two (Crc.on 65535 (nats ((sealOf t).extract 0 t.size)))).toList) = false := by
    rw [tl, tl, seal_tail, seal_head]; simp
  have := open_long (sealOf t) t.size false w (by omega) h hq
  rw [seal_head] at this
  exact this

theorem open_no (s : ByteArray) (w : World) (hs : s.size ≤ 281474976710656) (h : ∀ t, s ≠ sealOf t) :
    Calls Try.prog 14 #[.string s] w fun e w' => e = .returned (.tuple #[.string ⟨#[]⟩, .bool false]) ∧ Below w.heap.size w w' := by
  by_cases h2 : s.size < 2
  · exact open_short s w h2
  · obtain ⟨n, hn⟩ : ∃ n, s.size = n + 2 := ⟨s.size - 2, by omega⟩
    have hq : (!(s.extract n s.size).toList == (two (Crc.on 65535 (nats (s.extract 0 n)))).toList) = true := by
      rw [tl, tl]
      by_cases e : (s.extract n s.size).data.toList = (two (Crc.on 65535 (nats (s.extract 0 n)))).data.toList
      · exact absurd (sealed_of s n hn e) (h _)
      · exact ne_beq e
    exact open_long s n true w (by omega) (by omega) hq

theorem ropen_short (s : ByteArray) (w : World) (hs : s.size < 2) :
    Calls Try.prog 15 #[.string s] w fun e w' => e = .returned (.tuple #[.string ⟨#[]⟩, .bool false]) ∧ Below w.heap.size w w' := by
  have hd : decide ((s.size : Int) < 2) = true := by simp; omega
  go_enter Try.func15, Try.ntmps15
  go_wp2
  go_ret2
  exact ⟨rfl, Below.refl _ _⟩

theorem ropen_long (s : ByteArray) (n : Nat) (q : Bool) (w : World) (hsz : (s.size : Int) - 2 = (n : Int)) (hs : n ≤ 281474976710656)
    (hq : (!(sealOf (s.extract 0 n)).toList == s.toList) = q) :
    Calls Try.prog 15 #[.string s] w fun e w' => e = .returned (if q then .tuple #[.string ⟨#[]⟩, .bool false] else .tuple #[.string (s.extract 0 n), .bool true]) ∧ Below w.heap.size w w' := by
  have hd : decide ((s.size : Int) < 2) = false := by simp; omega
  have h1 : n ≤ s.size := by omega
  go_enter Try.func15, Try.ntmps15
  go_wp2_with fail
  refine (rseal_any _ _ ?_).mono ?_
  · simp; omega
  rintro e w' ⟨rfl, hb⟩
  cases q
  · go_wp2
    go_ret2
    exact ⟨rfl, hb⟩
  · go_wp2
    go_ret2
    exact ⟨rfl, hb⟩

theorem ropen_yes (t : ByteArray) (w : World) (h : t.size ≤ 281474976710656) :
    Calls Try.prog 15 #[.string (sealOf t)] w fun e w' => e = .returned (.tuple #[.string t, .bool true]) ∧ Below w.heap.size w w' := by
  have hsz := seal_size t
  have hq : (!(sealOf ((sealOf t).extract 0 t.size)).toList == (sealOf t).toList) = false := by
    rw [seal_head]; simp
  have := ropen_long (sealOf t) t.size false w (by omega) h hq
  rw [seal_head] at this
  exact this

theorem ropen_no (s : ByteArray) (w : World) (hs : s.size ≤ 281474976710656) (h : ∀ t, s ≠ sealOf t) :
    Calls Try.prog 15 #[.string s] w fun e w' => e = .returned (.tuple #[.string ⟨#[]⟩, .bool false]) ∧ Below w.heap.size w w' := by
  by_cases h2 : s.size < 2
  · exact ropen_short s w h2
  · obtain ⟨n, hn⟩ : ∃ n, s.size = n + 2 := ⟨s.size - 2, by omega⟩
    have hq : (!(sealOf (s.extract 0 n)).toList == s.toList) = true := by
      rw [tl, tl]
      by_cases e : (sealOf (s.extract 0 n)).data.toList = s.data.toList
      · exact absurd (text_ext e).symm (h _)
      · exact ne_beq e
    exact ropen_long s n true w (by omega) (by omega) hq

end Go.Proofs.Ytflfgeolimkhgaa
