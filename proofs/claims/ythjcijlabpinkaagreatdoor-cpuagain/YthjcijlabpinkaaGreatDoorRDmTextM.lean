/- Layer 11: a state's bytes, and the state of bytes, there and back; the program's Parse of what is none. -/
import Derived.Test.YthjcijlabpinkaaGreatDoorRDmParse
namespace Go.Proofs.YthjcijlabpinkaaGreatDoor.Dm
open Go.RowKit
set_option linter.unusedVariables false
set_option maxRecDepth 100000

theorem parse_no {s : ByteArray} (hl : s.size ≤ maxLen) (hs : ¬ (s.size = 17 ∧ byteAt s 16 ≤ 1)) (w : World) :
    Calls Tryz.prog 186 #[.string s] w fun e w' => e = .returned (.tuple #[.agg (cellsD D0), .int .i64 110]) ∧ Below w.heap.size w w' := by
  obtain ⟨t1, t2, t3, t4, t5, t6, t7, t8, t9⟩ := dmRules
  unfold maxLen at hl
  by_cases h9 : s.size = 17
  · have hb : 1 < s[16].toNat := by
      rw [← byteAt_in s 16 (by omega)]
      omega
    clear hs
    go_enter Tryz.func186, Tryz.ntmps186
    go_wp2
    exact bodyPost_ret (v := .tuple #[.agg (cellsD D0), .int .i64 110]) (by simp [results, Tryz.results186, go_sem, t1, t3, t5, t6, t7]) rfl ⟨rfl, grow _ _⟩
  · have hd : ((s.size : Int) != 17) = true := by simp; omega
    clear hs
    go_enter Tryz.func186, Tryz.ntmps186
    go_wp2
    exact bodyPost_ret (v := .tuple #[.agg (cellsD D0), .int .i64 110]) (by simp [results, Tryz.results186, go_sem, t1, t3, t5, t6, t7]) rfl ⟨rfl, grow _ _⟩

theorem byteAt_nums (ns : List Int) (k : Nat) : byteAt (strOfNums ns) k = (ns.map fun n => n.toNat % 256).getD k 0 := by
  unfold byteAt
  rw [← Array.getElem?_toList, strOfNums_data, List.getD_eq_getElem?_getD, List.getElem?_map, List.getElem?_map]
  cases ns[k]? with
  | none => rfl
  | some n => simp

theorem be4 (E : Nat) (h : E < 4294967296) : ((E / 16777216 % 256 * 256 + E / 65536 % 256) * 256 + E / 256 % 256) * 256 + E % 256 = E := by
  have e1 : E / 65536 = E / 256 / 256 := by rw [Nat.div_div_eq_div_mul]
  have e2 : E / 16777216 = E / 256 / 256 / 256 := by rw [Nat.div_div_eq_div_mul, Nat.div_div_eq_div_mul]
  have h3 : E / 256 / 256 / 256 < 256 := by rw [← e2]; exact Nat.div_lt_of_lt_mul (by omega)
  rw [e1, e2]
  generalize hA : E / 256 = A at *
  generalize hB : A / 256 = B at *
  generalize hC : B / 256 = C at *
  omega

theorem be4_int {e : Int} (h : W32 e) : ((be ((e / 16777216).toNat % 256) ((e / 65536 % 256).toNat % 256) ((e / 256 % 256).toNat % 256) ((e % 256).toNat % 256) : Nat) : Int) = e := by
  obtain ⟨E, rfl⟩ := Int.eq_ofNat_of_zero_le h.1
  have h1 : E < 4294967296 := by have := h.2; omega
  have k := be4 E h1
  have q1 : ((E : Int) / 16777216).toNat = E / 16777216 := by omega
  have q2 : ((E : Int) / 65536 % 256).toNat % 256 = E / 65536 % 256 := by omega
  have q3 : ((E : Int) / 256 % 256).toNat % 256 = E / 256 % 256 := by omega
  have q4 : ((E : Int) % 256).toNat % 256 = E % 256 := by omega
  rw [q1, q2, q3, q4]
  unfold be
  rw [k]

theorem text_is (t : Dm) : textV t = strOfNums (quad t.a ++ quad t.n ++ quad t.b ++ quad t.y ++ [one t.r]) := rfl

theorem text_last (t : Dm) : byteAt (textV t) 16 = if t.r then 1 else 0 := by
  rw [text_is, byteAt_nums]
  cases t.r <;> rfl

theorem text_num (t : Dm) : numOf (byteAt (textV t)) 0 4 = be ((t.a / 16777216).toNat % 256) ((t.a / 65536 % 256).toNat % 256) ((t.a / 256 % 256).toNat % 256) ((t.a % 256).toNat % 256) ∧
    numOf (byteAt (textV t)) 4 4 = be ((t.n / 16777216).toNat % 256) ((t.n / 65536 % 256).toNat % 256) ((t.n / 256 % 256).toNat % 256) ((t.n % 256).toNat % 256) ∧
    numOf (byteAt (textV t)) 8 4 = be ((t.b / 16777216).toNat % 256) ((t.b / 65536 % 256).toNat % 256) ((t.b / 256 % 256).toNat % 256) ((t.b % 256).toNat % 256) ∧
    numOf (byteAt (textV t)) 12 4 = be ((t.y / 16777216).toNat % 256) ((t.y / 65536 % 256).toNat % 256) ((t.y / 256 % 256).toNat % 256) ((t.y % 256).toNat % 256) := by
  rw [text_is, num4, num4, num4, num4]
  simp only [byteAt_nums]
  exact ⟨rfl, rfl, rfl, rfl⟩

theorem text_back {t : Dm} (ht : Wd t) : dmOf (textV t) = t := by
  obtain ⟨b0, b1, b2, b3⟩ := text_num t
  have b8 := text_last t
  unfold dmOf
  rw [b0, b1, b2, b3, b8, be4_int ht.a, be4_int ht.n, be4_int ht.b, be4_int ht.y]
  obtain ⟨a, n, b, y, r⟩ := t
  cases r <;> rfl

theorem byte_of (x : UInt8) (n : Int) (h : n = (x.toNat : Int)) : UInt8.ofNat n.toNat = x := by
  subst h
  simp

theorem quad_be (x0 x1 x2 x3 : UInt8) : (quad ((be x0.toNat x1.toNat x2.toNat x3.toNat : Nat) : Int)).map (fun n => UInt8.ofNat n.toNat) = [x0, x1, x2, x3] := by
  have q0 := x0.toNat_lt
  have q1 := x1.toNat_lt
  have q2 := x2.toNat_lt
  have q3 := x3.toNat_lt
  unfold quad be
  simp only [List.map_cons, List.map_nil]
  rw [byte_of x0 _ (by omega), byte_of x1 _ (by omega), byte_of x2 _ (by omega), byte_of x3 _ (by omega)]

theorem dmOf_text {s : ByteArray} (hs : s.size = 17) (h8 : byteAt s 16 ≤ 1) : textV (dmOf s) = s := by
  obtain ⟨⟨l⟩⟩ := s
  have hl : l.length = 17 := by simpa [ByteArray.size] using hs
  match l, hl with
  | [x0, x1, x2, x3, x4, x5, x6, x7, x8, x9, x10, x11, x12, x13, x14, x15, x16], _ =>
    have v1 : numOf (byteAt ⟨⟨[x0, x1, x2, x3, x4, x5, x6, x7, x8, x9, x10, x11, x12, x13, x14, x15, x16]⟩⟩) 0 4 = be x0.toNat x1.toNat x2.toNat x3.toNat := by rw [num4]; rfl
    have v2 : numOf (byteAt ⟨⟨[x0, x1, x2, x3, x4, x5, x6, x7, x8, x9, x10, x11, x12, x13, x14, x15, x16]⟩⟩) 4 4 = be x4.toNat x5.toNat x6.toNat x7.toNat := by rw [num4]; rfl
    have v3 : numOf (byteAt ⟨⟨[x0, x1, x2, x3, x4, x5, x6, x7, x8, x9, x10, x11, x12, x13, x14, x15, x16]⟩⟩) 8 4 = be x8.toNat x9.toNat x10.toNat x11.toNat := by rw [num4]; rfl
    have v4 : numOf (byteAt ⟨⟨[x0, x1, x2, x3, x4, x5, x6, x7, x8, x9, x10, x11, x12, x13, x14, x15, x16]⟩⟩) 12 4 = be x12.toNat x13.toNat x14.toNat x15.toNat := by rw [num4]; rfl
    have v5 : byteAt ⟨⟨[x0, x1, x2, x3, x4, x5, x6, x7, x8, x9, x10, x11, x12, x13, x14, x15, x16]⟩⟩ 16 = x16.toNat := rfl
    rw [v5] at h8
    rw [text_is]
    unfold dmOf
    simp only [v1, v2, v3, v4, v5]
    unfold strOfNums
    congr 2
    rw [List.map_append, List.map_append, List.map_append, List.map_append, quad_be, quad_be, quad_be, quad_be]
    simp only [List.map_cons, List.map_nil]
    rw [byte_of x16 _ ?_]
    · rfl
    · rcases (show x16.toNat = 0 ∨ x16.toNat = 1 by omega) with h | h <;> rw [h] <;> rfl

theorem dmOf_none {s : ByteArray} (h8 : ¬ byteAt s 16 ≤ 1) : ¬ textV (dmOf s) = s := by
  intro h
  have := text_last (dmOf s)
  rw [h] at this
  split at this <;> omega

end Go.Proofs.YthjcijlabpinkaaGreatDoor.Dm
