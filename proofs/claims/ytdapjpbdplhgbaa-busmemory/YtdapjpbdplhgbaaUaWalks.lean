/- Layer 10: contracts of the registers and of the bytes that come in, the program's. -/
import Derived.Test.YtdapjpbdplhgbaaUaPlain
import Derived.Laws.BytesArg
import Derived.Lib.Strings
import Derived.RegionTactic
import Derived.ChangeAlike
namespace Go.Proofs.Ytdapjpbdplhgbaa.Ua
open Go.RowKit
set_option linter.unusedVariables false
set_option maxRecDepth 100000
set_option linter.unusedSimpArgs false

theorem conv_new (w : World) (ns : List Int) (m : Nat) (hm : ns.length = m) :
    (convert 60 9 (.slice (some ⟨w.heap.size, 0, none⟩) m m)).run Try.prog (w.alloc (.cells (ns.map (Value.int .u8)).toArray 5)) = .ok (.string (strOfNums ns)) (w.alloc (.cells (ns.map (Value.int .u8)).toArray 5)) := by
  refine run_convert_bytes_arg _ 60 5 Try.underlying60 Try.underlying5 w.heap.size 0 m m ns hm ?_ 9 Try.underlying9
  intro i hi
  rw [Nat.zero_add, World.cell?_alloc_new]
  simp [List.getD, show i < ns.length by omega]

theorem conv_one (c : Int) (x : World) : (convert 60 9 (.slice (some ⟨x.heap.size, 0, none⟩) 1 1)).run Try.prog (x.alloc (.cells #[.int .u8 c] 5)) = .ok (.string (byteT c)) (x.alloc (.cells #[.int .u8 c] 5)) :=
  conv_new x [c] 1 rfl

theorem behind_any (s : ByteArray) (hs : s.size ≤ 1000000) (c : Int) (w : World) :
    Calls Try.prog 86 #[.string s, .int .u8 c] w fun e w' => e = .returned (.string (s ++ byteT c)) ∧ w' = w.alloc (.cells #[.int .u8 c] 5) := by
  have hc := fun x => conv_one c x
  have hz := byteT_size c
  generalize byteT c = t at *
  go_enter Try.func86, Try.ntmps86
  go_wp2
  go_ret
  exact ⟨rfl, rfl⟩

theorem one_any (n : Int) (h0 : 0 ≤ n) (w : World) :
    Calls Try.prog 63 #[.int .i64 n] w fun e w' => e = .returned (.string (byteT (n % 256))) ∧ w' = w.alloc (.cells #[.int .u8 (n % 256)] 5) := by
  have hc := fun x => conv_one (n % 256) x
  have m0 := Int.emod_nonneg n (show (256 : Int) ≠ 0 by decide)
  have m1 := Int.emod_lt_of_pos n (show (0 : Int) < 256 by decide)
  have hr : n.tmod 256 = n % 256 := Int.tmod_eq_emod_of_nonneg h0
  generalize byteT (n % 256) = t at *
  generalize n % 256 = m at *
  go_enter Try.func63, Try.ntmps63
  go_wp2
  go_ret
  exact ⟨rfl, rfl⟩

/-- None of the three. -/
def Nor (g : Int) : Prop := ¬ g = 0 ∧ ¬ g = 4 ∧ ¬ g = 8

theorem reg_is (g : Int) : g = 0 ∨ g = 4 ∨ g = 8 ∨ Nor g := by
  unfold Nor
  omega

theorem Nor.tests {g : Int} (h : Nor g) : (g == 0) = false ∧ (g == 4) = false ∧ (g == 8) = false := by
  unfold Nor at h
  simp [h]

theorem Nor.read {g : Int} (h : Nor g) (t : Ua) : readV t g = 0 := by simp [readV, h.1, h.2.1, h.2.2]
theorem Nor.left {g : Int} (h : Nor g) (t : Ua) : leftV t g = U0 := by simp [leftV, h.1, h.2.1, h.2.2]
theorem Nor.form {g : Int} (h : Nor g) : formV g = 100 := by simp [formV, h.1, h.2.1, h.2.2]
theorem Nor.write {g : Int} (h : Nor g) (t : Ua) (v : Int) : writeV t g v = U0 := by simp [writeV, h.1, h.2.1, h.2.2]

theorem empty_iff (s : ByteArray) : s.toList.isEmpty = decide (s.size = 0) := by
  rw [ByteArray.toList_eq, Bool.eq_iff_iff, List.isEmpty_iff, decide_eq_true_iff, ← ByteArray.size_data, ← Array.length_toList, List.length_eq_zero_iff]

theorem none_left {s : ByteArray} (h : s.size = 0) : s.extract 1 s.size = s := by
  apply ByteArray.ext
  rw [ByteArray.data_extract, h]
  apply Array.ext
  · simp [h]
  · intro i h1 h2
    simp at h1

theorem ring_any (u : Ua) (w : World) :
    Calls Try.prog 85 #[.agg (cellsU u)] w fun e w' => e = .returned (.bool (u.n && decide (¬ u.i.size = 0))) ∧ Below w.heap.size w w' := by
  obtain ⟨t1, t2, t3, t4, t5, t6, t7, t8, t9⟩ := uaRules
  obtain ⟨p0, p1, p2⟩ := uaParts
  have he := empty_iff u.i
  obtain ⟨i, o, n⟩ := u
  simp only at he
  cases n
  · go_enter Try.func85, Try.ntmps85
    go_wp2
    go_ret
    exact ⟨rfl, grow _ _⟩
  · have hf : (!i.toList.isEmpty) = (true && decide (¬ i.size = 0)) := by rw [he]; simp
    rw [← hf]
    clear hf he
    go_enter Try.func85, Try.ntmps85
    go_wp2
    go_ret
    exact ⟨rfl, grow _ _⟩

set_option maxHeartbeats 1000000 in
theorem read_any (u : Ua) (hu : Fits u) (g : Int) (w : World) :
    Calls Try.prog 94 #[.agg (cellsU u), .int .u32 g] w fun e w' => e = .returned (.tuple #[.int .u32 (readV u g), .agg (cellsU (leftV u g)), .int .i64 (formV g)]) ∧ Below w.heap.size w w' := by
  obtain ⟨t1, t2, t3, t4, t5, t6, t7, t8, t9⟩ := uaRules
  obtain ⟨p0, p1, p2⟩ := uaParts
  obtain ⟨s0, s1, s2⟩ := uaSets
  obtain ⟨d1, d2, d3⟩ := uaDrew
  have fin : ∀ c d : Array Value, Below w.heap.size w ((w.alloc (.cells c 64)).alloc (.cells d 64)) := fun c d => (grow _ _).alloc (by simp) _
  replace fin := hide fin
  obtain ⟨hi, ho⟩ := hu
  have he := empty_iff u.i
  rcases reg_is g with rfl | rfl | rfl | h
  · by_cases hz : u.i.size = 0
    · have e1 : readV u 0 = 0 := by simp [readV, byteN_out u.i 0 (by omega)]
      have e2 : leftV u 0 = u := by
        unfold leftV
        rw [if_pos rfl, none_left hz]
      rw [e1, e2]
      have hd : u.i.toList.isEmpty = true := by rw [he]; simpa using hz
      clear he
      go_enter Try.func94, Try.ntmps94
      go_wp2
      go_region
      go_wp2
      exact bodyPost_ret (v := .tuple #[.int .u32 0, .agg (cellsU u), .int .i64 0]) (by simp [results, Try.results94, go_sem, t1, t3, t5, t6, t7, d1, d2]) rfl ⟨rfl, (fin.out _ _).drew⟩
    · have e1 : readV u 0 = (u.i[0]'(by omega)).toNat := by simp [readV, byteN_in u.i 0 (by omega)]
      have e2 : leftV u 0 = { u with i := u.i.extract 1 u.i.size } := rfl
      rw [e1, e2]
      have hd : u.i.toList.isEmpty = false := by rw [he]; simpa using hz
      have hb : (u.i[0]'(by omega)).toNat < 256 := (u.i[0]'(by omega)).toNat_lt
      have hw : ((u.i[0]'(by omega)).toNat : Int) % 4294967296 = ((u.i[0]'(by omega)).toNat : Int) := by omega
      clear he
      go_enter Try.func94, Try.ntmps94
      go_wp2
      go_region
      go_wp2
      exact bodyPost_ret (v := .tuple #[.int .u32 ((u.i[0]'(by omega)).toNat : Int), .agg (cellsU { u with i := u.i.extract 1 u.i.size }), .int .i64 0]) (by simp [hw, results, Try.results94, go_sem, t1, t3, t5, t6, t7, d1, d2]) rfl ⟨rfl, (fin.out _ _).drew⟩
  · go_enter Try.func94, Try.ntmps94
    go_wp2
    go_region
    go_wp2
    exact bodyPost_ret (v := .tuple #[.int .u32 (u.i.size : Int), .agg (cellsU u), .int .i64 0]) (by simp [results, Try.results94, go_sem, t1, t3, t5, t6, t7, d1, d2]) rfl ⟨rfl, (fin.out _ _).drew⟩
  · go_enter Try.func94, Try.ntmps94
    have hr : (u.o.size : Int).tmod 256 = (u.o.size : Int) % 256 := Int.tmod_eq_emod_of_nonneg (by omega)
    have hr2 : (u.o.size : Int) % 256 = (u.o.size : Int) := by omega
    go_wp2
    go_region
    go_wp2
    exact bodyPost_ret (v := .tuple #[.int .u32 (readV u 8), .agg (cellsU u), .int .i64 0]) (by simp [results, Try.results94, go_sem, t1, t3, t5, t6, t7, d1, d2, readV, hr2]) rfl ⟨rfl, (fin.out _ _).drew⟩
  · rw [h.read, h.form, h.left]
    obtain ⟨h0, h1, h2⟩ := h.tests
    clear h
    go_enter Try.func94, Try.ntmps94
    go_wp2
    exact bodyPost_ret (v := .tuple #[.int .u32 0, .agg (cellsU U0), .int .i64 100]) (by simp [results, Try.results94, go_sem, t1, t3, t5, t6, t7]) rfl ⟨rfl, fin.out _ _⟩

end Go.Proofs.Ytdapjpbdplhgbaa.Ua
