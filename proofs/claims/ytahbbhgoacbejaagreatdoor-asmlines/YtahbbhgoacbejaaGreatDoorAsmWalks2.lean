/- A text cut at a byte; the op of a name; the number at a text's beginning. -/
import Derived.Test.YtahbbhgoacbejaaGreatDoorAsmWalks1
import Derived.BigQuiet
set_option linter.unusedVariables false
set_option linter.unusedSimpArgs false
namespace Go.Proofs.YtahbbhgoacbejaaGreatDoor
open Go.RowKit Go.Shelf Go.Joins

theorem Asm.cut_is (l : List UInt8) (c : UInt8) : Lib.cut l [c] = (l.takeWhile (· != c), l.drop ((l.takeWhile (· != c)).length + 1), l.contains c) := by
  unfold Lib.cut
  rw [Lib.index_one]
  induction l with
  | nil => rfl
  | cons b l ih =>
    by_cases hb : b = c
    · subst hb
      simp [Lib.indexByte]
    · have hb' : (b == c) = false := by simpa using hb
      have hn : (b != c) = true := by simpa using hb
      have hc' : (c == b) = false := by simpa using fun e => hb e.symm
      rw [Lib.indexByte, hb']
      simp only [Bool.false_eq_true, if_false]
      rw [List.takeWhile_cons, hn, if_pos rfl, List.length_cons, List.drop_succ_cons, List.contains_cons, hc', Bool.false_or]
      by_cases hi : Lib.indexByte l c = -1
      · rw [hi] at ih ⊢
        simp only [BEq.rfl, if_true]
        simp only [show ¬ (0 : Int) ≤ -1 by decide, if_false] at ih ⊢
        simp only [Prod.mk.injEq] at ih
        simp only [Prod.mk.injEq]
        exact ⟨by rw [← ih.1], ih.2.1, ih.2.2⟩
      · have hi' : (Lib.indexByte l c == -1) = false := by simpa using hi
        have h0 : 0 ≤ Lib.indexByte l c := by
          have := Lib.indexByte_ge l c
          omega
        rw [hi']
        simp only [Bool.false_eq_true, if_false]
        rw [if_pos h0] at ih
        rw [if_pos (by omega)]
        have e : (Lib.indexByte l c + 1).toNat = (Lib.indexByte l c).toNat + 1 := by omega
        rw [e]
        simp only [Prod.mk.injEq, List.length_singleton] at ih
        simp only [Prod.mk.injEq, List.take_succ_cons, List.length_singleton, List.drop_succ_cons]
        exact ⟨by rw [ih.1], ih.2.1, ih.2.2⟩

set_option maxHeartbeats 2000000 in
set_option maxRecDepth 100000 in
theorem cutlite_any (s : ByteArray) (c : UInt8) (hs : s.size ≤ 140737488355328) (w : World) :
    Calls Tryz.prog 43 #[.string s, .string ⟨#[c]⟩] w fun e w' => e = .returned (.tuple #[.string ⟨(Lib.cut s.data.toList [c]).1.toArray⟩, .string ⟨(Lib.cut s.data.toList [c]).2.1.toArray⟩, .bool (Lib.cut s.data.toList [c]).2.2]) ∧ Below w.heap.size w w' := by
  have hi1 : Lib.indexB s ⟨#[c]⟩ = Lib.indexByte s.data.toList c := Lib.index_one _ _
  rcases Lib.indexB_cases s ⟨#[c]⟩ with hix | ⟨i, hix, hroom⟩
  · obtain ⟨e1, e2, e3⟩ := Lib.cutB_miss s ⟨#[c]⟩ hix
    have e1' : (⟨(Lib.cut s.data.toList [c]).1.toArray⟩ : ByteArray) = _ := e1
    have e2' : (⟨(Lib.cut s.data.toList [c]).2.1.toArray⟩ : ByteArray) = _ := e2
    have e3' : (Lib.cut s.data.toList [c]).2.2 = _ := e3
    rw [e1', e2', e3']
    rw [hi1] at hix
    go_enter Tryz.func43, Tryz.ntmps43
    go_wp2_with (go_at_call 59; refine (Tryz.stringslite_Index_one s c _).mono ?_; rintro e w' ⟨rfl, rfl⟩; rw [hix])
    go_ret3
    exact ⟨rfl, Below.refl _ _⟩
  · obtain ⟨e1, e2, e3⟩ := Lib.cutB_hit s ⟨#[c]⟩ i hix
    have e1' : (⟨(Lib.cut s.data.toList [c]).1.toArray⟩ : ByteArray) = _ := e1
    have e2' : (⟨(Lib.cut s.data.toList [c]).2.1.toArray⟩ : ByteArray) = _ := e2
    have e3' : (Lib.cut s.data.toList [c]).2.2 = _ := e3
    rw [e1', e2', e3']
    rw [hi1] at hix
    have hroom' : i + 1 ≤ s.size := hroom
    have c1 : (0 : Int) ≤ ↑i := by omega
    have c2 : (↑i : Int) ≤ ↑s.size := by omega
    have c3 : (0 : Int) ≤ ↑i + 1 := by omega
    have c4 : (↑i + 1 : Int) ≤ ↑s.size := by omega
    go_enter Tryz.func43, Tryz.ntmps43
    go_wp2_with (go_at_call 59; refine (Tryz.stringslite_Index_one s c _).mono ?_; rintro e w' ⟨rfl, rfl⟩; rw [hix])
    have e64 : wrap64 ((i : Int) + 1) = (i : Int) + 1 := wrap64_id _ (by omega) (by omega)
    go_quiet (fail)
    go_wp2
    go_ret3
    exact ⟨rfl, below_drewN (Below.refl _ _) _⟩

theorem cut_any (s : ByteArray) (c : UInt8) (hs : s.size ≤ 140737488355328) (w : World) :
    Calls Tryz.prog 21 #[.string s, .string ⟨#[c]⟩] w fun e w' => e = .returned (.tuple #[.string ⟨(s.data.toList.takeWhile (· != c)).toArray⟩, .string ⟨(s.data.toList.drop ((s.data.toList.takeWhile (· != c)).length + 1)).toArray⟩, .bool (s.data.toList.contains c)]) ∧ Below w.heap.size w w' := by
  have h := fun w => cutlite_any s c hs w
  rw [Asm.cut_is] at h
  generalize s.data.toList.takeWhile (· != c) = x1 at *
  generalize s.data.toList.drop (x1.length + 1) = x2 at *
  generalize s.data.toList.contains c = x3 at *
  go_enter Tryz.func21, Tryz.ntmps21
  go_wp2_with (go_at_call 43; refine (h _).mono ?_; rintro e w' ⟨rfl, hb⟩)
  go_ret3
  exact ⟨rfl, hb⟩

set_option maxRecDepth 100000 in
theorem named_any (s : ByteArray) (w : World) (tb : Tabs w) :
    Calls Tryz.prog 40 #[.string s] w fun e w' => (∃ op ok, e = .returned (.tuple #[.int .i64 op, .bool ok]) ∧ ((∃ k : Nat, Asm.named s.data.toList = some k ∧ op = k ∧ ok = true) ∨ (Asm.named s.data.toList = none ∧ op = 0 ∧ ok = false))) ∧ Below w.heap.size w w' := by
  have hN := fun (k : Nat) (hk : k < 69) w tb => (show Calls Tryz.prog 26 #[.int .i64 (k : Int)] w fun e w' => e = .returned (.string (Dec.name k)) ∧ Below w.heap.size w w' from by
    have := name_any (k : Int) w tb
    rwa [show idx (k : Int) = k from by unfold idx; rw [if_pos (by omega)]; simp] at this)
  go_enter Tryz.func40, Tryz.ntmps40
  go_wp2_with fail
  go_loopw [5] (fun v wr => ∃ k : Nat, k ≤ 69 ∧ v = .int .i64 (k : Int) ∧ Hid (∀ j < k, ¬ (Dec.name j).data.toList = s.data.toList) ∧ Hid (Below w.heap.size w wr) ∧ Tabs wr) (fun v _ => 69 - (Lib.intOf v).toNat)
  case atStart => exact ⟨0, by omega, rfl, hide (by intro j h; omega), hide (Below.refl _ _), tb⟩
  case round =>
    obtain ⟨k, hk, rfl, hn, hb, tb⟩ := hrel
    by_cases hlt : k < 69
    · have h1 : (k : Int) < 69 := by omega
      go_wp2_with fail
      refine (hN k hlt _ tb).mono ?_
      rintro e w1 ⟨rfl, hb1⟩
      have b1 := onto hb.out hb1
      have t1 := tb.on hb1
      clear hb tb hb1 hN
      by_cases he : (Dec.name k).data.toList = s.data.toList
      · have hq : ((Dec.name k).toList == s.toList) = true := by rw [ByteArray.toList_eq, ByteArray.toList_eq, he]; simp
        have he := hide he
        go_wp2
        go_ret2
        refine ⟨⟨_, _, rfl, Or.inl ⟨k, ?_, rfl, rfl⟩⟩, b1⟩
        rw [← he.out]
        exact Asm.named_name k hlt
      · have hq : ((Dec.name k).toList == s.toList) = false := by rw [ByteArray.toList_eq, ByteArray.toList_eq]; simpa using he
        have hn2 : Hid (∀ j < k + 1, ¬ (Dec.name j).data.toList = s.data.toList) := hide (by
          intro j hj
          rcases Nat.lt_succ_iff_lt_or_eq.mp hj with h | h
          · exact hn.out j h
          · rw [h]; exact he)
        clear he hn
        have b1 := hide b1
        go_wp2
        go_roundw
        case rel => exact ⟨k + 1, by omega, by go_num, hn2, b1, t1⟩
        case measure => simp [Lib.intOf]; omega
    · obtain rfl : k = 69 := by omega
      go_wp2
      go_ret2
      refine ⟨⟨_, _, rfl, Or.inr ⟨?_, rfl, rfl⟩⟩, hb.out⟩
      unfold Asm.named
      refine List.find?_eq_none.mpr fun op ho => ?_
      have := hn.out op (List.mem_range.mp ho)
      simpa using this

theorem Asm.nums_ascii : ∀ (j : Nat) b, (⟨#[45, 48, 49, 50, 51, 52, 53, 54, 55, 56, 57]⟩ : ByteArray).data.toList[j]? = some b → b.toNat < 128 := ascii_of_all (by decide)

theorem Asm.split_nums (l : List UInt8) : l.take (l.length - (l.dropWhile (Asm.nums.contains ·)).length) = l.takeWhile (Asm.nums.contains ·) := by
  have h := List.takeWhile_append_dropWhile (p := (Asm.nums.contains ·)) (l := l)
  have hl : (l.takeWhile (Asm.nums.contains ·)).length + (l.dropWhile (Asm.nums.contains ·)).length = l.length := by
    rw [← List.length_append, h]
  have e : l.length - (l.dropWhile (Asm.nums.contains ·)).length = (l.takeWhile (Asm.nums.contains ·)).length := by omega
  rw [e]
  conv => lhs; arg 2; rw [← h]
  exact List.take_left

theorem bytes_of (s : ByteArray) (k : Nat) : s.extract 0 k = ⟨(s.data.toList.take k).toArray⟩ := by
  apply ByteArray.ext
  apply Array.ext'
  simp [ByteArray.data_extract]

set_option maxRecDepth 100000 in
theorem taken_raw (s r : ByteArray) (k : Nat) (hk : s.size = k + r.size) (hs : s.size ≤ 140737488355328) (n : Int) (ok : Bool)
    (w : World) (L : Lay5 w)
    (ht : ∀ w, Calls Tryz.prog 57 #[.string s, .string ⟨#[45, 48, 49, 50, 51, 52, 53, 54, 55, 56, 57]⟩] w fun e w' => e = .returned (.string r) ∧ Below w.heap.size w w')
    (ha : ∀ w, Lay5 w → Calls Tryz.prog 58 #[.string (s.extract 0 k)] w fun e w' => ((e = .returned (.tuple #[.int .i64 n, .nilIface]) ∧ ok = true) ∨ (∃ N, e = .returned (.tuple #[.int .i64 n, .iface 126 (.pointer (some ⟨N, 0, none⟩))]) ∧ ok = false)) ∧ Below w.heap.size w w') :
    Calls Tryz.prog 42 #[.string s] w fun e w' => e = .returned (.tuple #[.int .i64 n, .string r, .bool ok]) ∧ Below w.heap.size w w' := by
  have e1 : wrap64 ((s.size : Int) - (r.size : Int)) = (k : Int) := by rw [wrap64_id _ (by omega) (by omega)]; omega
  have c1 : (k : Int) ≤ (s.size : Int) := by omega
  go_enter Tryz.func42, Tryz.ntmps42
  go_wp2_with fail
  refine (ht _).mono ?_
  rintro e w1 ⟨rfl, hb1⟩
  go_wp2_with fail
  refine (ha _ (L.on hb1)).mono ?_
  rintro e w2 ⟨⟨rfl, rfl⟩ | ⟨N, rfl, rfl⟩, hb2⟩
  · go_wp2_with fail
    go_quiet (fail)
    go_wp2
    go_ret3
    exact ⟨rfl, below_drewN (onto hb1 hb2) _⟩
  · go_wp2_with fail
    go_quiet (fail)
    go_wp2
    go_ret3
    exact ⟨rfl, below_drewN (onto hb1 hb2) _⟩

/-- What is taken of a text's beginning. -/
theorem taken_any (s : ByteArray) (hs : s.size ≤ 140737488355328) : ∃ n ok, ((∃ r, Asm.taken s.data.toList = some (n, r) ∧ ok = true) ∨ (Asm.taken s.data.toList = none ∧ ok = false)) ∧ ∀ w, Lay5 w →
    Calls Tryz.prog 42 #[.string s] w fun e w' => e = .returned (.tuple #[.int .i64 n, .string ⟨(s.data.toList.dropWhile (Asm.nums.contains ·)).toArray⟩, .bool ok]) ∧ Below w.heap.size w w' := by
  have hl : (s.data.toList.takeWhile (Asm.nums.contains ·)).length + (s.data.toList.dropWhile (Asm.nums.contains ·)).length = s.size := by
    rw [← List.length_append, List.takeWhile_append_dropWhile]; rfl
  have ht : ∀ w, Calls Tryz.prog 57 #[.string s, .string ⟨#[45, 48, 49, 50, 51, 52, 53, 54, 55, 56, 57]⟩] w fun e w' => e = .returned (.string ⟨(s.data.toList.dropWhile (Asm.nums.contains ·)).toArray⟩) ∧ Below w.heap.size w w' :=
    fun w => Tryz.strings_TrimLeft_laid s _ w (by decide) Asm.nums_ascii
  have hx : (s.extract 0 (s.data.toList.takeWhile (Asm.nums.contains ·)).length) = ⟨(s.data.toList.takeWhile (Asm.nums.contains ·)).toArray⟩ := by
    rw [bytes_of]
    have h := Asm.split_nums s.data.toList
    have e : s.data.toList.length - (s.data.toList.dropWhile (Asm.nums.contains ·)).length = (s.data.toList.takeWhile (Asm.nums.contains ·)).length := by
      have : s.data.toList.length = s.size := rfl
      omega
    rw [e] at h
    rw [h]
  have hz : (s.extract 0 (s.data.toList.takeWhile (Asm.nums.contains ·)).length).size ≤ 140737488355328 := by
    rw [hx]; show (s.data.toList.takeWhile (Asm.nums.contains ·)).length ≤ _; omega
  have hd : (s.extract 0 (s.data.toList.takeWhile (Asm.nums.contains ·)).length).data.toList = s.data.toList.takeWhile (Asm.nums.contains ·) := by rw [hx]
  have raw := fun n ok => taken_raw s ⟨(s.data.toList.dropWhile (Asm.nums.contains ·)).toArray⟩ (s.data.toList.takeWhile (Asm.nums.contains ·)).length hl.symm hs n ok
  cases ha : Lib.atoiAll (s.data.toList.takeWhile (Asm.nums.contains ·)) with
  | ok v =>
    refine ⟨v, true, Or.inl ⟨_, by unfold Asm.taken; rw [ha], rfl⟩, fun w L => raw v true w L ht fun w L => ?_⟩
    refine (Tryz.strconv_Atoi_ok _ (by omega) v (by rw [hd]; exact ha) w).mono ?_
    rintro e w' ⟨rfl, hw⟩
    refine ⟨Or.inl ⟨rfl, rfl⟩, ?_⟩
    rcases hw with rfl | ⟨t, rfl⟩
    · exact Below.refl _ _
    · exact Lib.bytesWorld_below _ _ _
  | «syntax» =>
    refine ⟨0, false, Or.inr ⟨by unfold Asm.taken; rw [ha], rfl⟩, fun w L => raw 0 false w L ht fun w L => ?_⟩
    obtain ⟨te, pe, hv⟩ := L.es
    refine (Tryz.strconv_Atoi_syntax _ (by omega) (by rw [hd]; exact ha) _ w hv (Or.inr ⟨te, pe, rfl⟩)).mono ?_
    rintro e w' ⟨N, rfl, -, -, hb⟩
    exact ⟨Or.inr ⟨N, rfl, rfl⟩, hb⟩
  | range =>
    refine ⟨Lib.atoiSat (s.data.toList.takeWhile (Asm.nums.contains ·)), false, Or.inr ⟨by unfold Asm.taken; rw [ha], rfl⟩, fun w L => raw _ false w L ht fun w L => ?_⟩
    obtain ⟨te, pe, hv⟩ := L.er
    refine (Tryz.strconv_Atoi_range _ (by omega) (by rw [hd]; exact ha) _ w hv (Or.inr ⟨te, pe, rfl⟩)).mono ?_
    rintro e w' ⟨N, rfl, -, -, hb⟩
    rw [hd]
    exact ⟨Or.inr ⟨N, rfl, rfl⟩, hb⟩

end Go.Proofs.YtahbbhgoacbejaaGreatDoor
