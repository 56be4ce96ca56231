/- What went out are the last 64 bytes that were written since it was emptied. -/
import Derived.Test.YtgcdohkpoaklbaaUaHeld
import Derived.Deep.RegionHeld3
import Derived.Deep.CutRange
namespace Go.Proofs.Ytgcdohkpoaklbaa
open Go.RowKit
set_option linter.unusedVariables false
set_option linter.unusedSimpArgs false

/-- The last 64 bytes. -/
def tail64 (a : ByteArray) : ByteArray := a.extract (a.size - 64) a.size

theorem tail64_size (a : ByteArray) : (tail64 a).size = if 64 < a.size then 64 else a.size := by
  unfold tail64
  rw [ByteArray.size_extract]
  split <;> omega

theorem tail64_next (a : ByteArray) (n : Nat) : lastV (tail64 a ++ byteT n) = tail64 (a ++ byteT n) := by
  have hz := tail64_size a
  have hl := lst_length a
  have hs : (tail64 a ++ byteT n).size = (tail64 a).size + 1 := by rw [ByteArray.size_append, byteT_size]
  have hs2 : (a ++ byteT n).size = a.size + 1 := by rw [ByteArray.size_append, byteT_size]
  unfold lastV
  rw [hs]
  have e1 : lst (tail64 a) = (lst a).drop (a.size - 64) := by
    unfold tail64
    rw [lst_extract, List.take_of_length_le (by simp; omega)]
  have e2 : lst (tail64 (a ++ byteT n)) = (lst a ++ [UInt8.ofNat n]).drop (a.size + 1 - 64) := by
    unfold tail64
    rw [lst_extract, hs2, lst_append, lst_byteT, List.take_of_length_le (by simp; omega)]
  by_cases h : 64 ≤ a.size
  · have hz64 : (tail64 a).size = 64 := by rw [hz]; split <;> omega
    rw [if_pos (by omega)]
    apply lst_ext
    rw [e2, lst_extract, lst_append, lst_byteT, e1, hz64, List.take_of_length_le (by simp; omega)]
    rw [List.drop_append_of_le_length (by simp; omega), List.drop_append_of_le_length (by omega), List.drop_drop]
    have hk : a.size - 64 + 1 = a.size + 1 - 64 := by omega
    first
      | rw [hk]
      | rw [Nat.add_comm, hk]
  · have hz2 : (tail64 a).size = a.size := by rw [hz]; split <;> omega
    rw [if_neg (by omega)]
    apply lst_ext
    rw [e2, lst_append, lst_byteT, e1, show a.size - 64 = 0 by omega, show a.size + 1 - 64 = 0 by omega]
    rfl

theorem one_cut (s : ByteArray) (i : Nat) (h : i < s.size) : s.extract i (i + 1) = byteT ((s[i].toNat : Nat) : Int) := by
  apply lst_ext
  rw [lst_extract, lst_byteT, show i + 1 - i = 1 by omega]
  have hl := lst_length s
  have he : (lst s)[i]'(by omega) = s[i] := rfl
  rw [List.drop_eq_getElem_cons (by omega), he]
  simp

theorem run_min300 (n : Nat) (w : World) : (Builtin.min_ #[3, 3] 3 #[.int .i64 n, .int .i64 300]).run Try.prog w = .ok (.int .i64 ((if n ≤ 300 then n else 300 : Nat) : Int)) w := run_minN n 300 300 rfl w

/-- A uart with nothing In, and the last bytes of a text Out. -/
def UA (a : ByteArray) : Ua := ⟨⟨#[]⟩, tail64 a, false⟩

theorem UA_fits (a : ByteArray) : Fits (UA a) := by
  refine ⟨by show (0 : Nat) ≤ 16; omega, ?_⟩
  show (tail64 a).size ≤ 64
  rw [tail64_size]
  split <;> omega

theorem UA_none : UA ⟨#[]⟩ = U0 := by decide +kernel

theorem write_out (a : ByteArray) (c : Nat) (hc : c < 256) (w : World) :
    Calls Try.prog 11 #[.agg (cellsU (UA a)), .int .u32 0, .int .u32 ((c : Int) + 256)] w fun e w' => e = .returned (.tuple #[.agg (cellsU (UA (a ++ byteT c))), .int .i64 0]) ∧ Below w.heap.size w w' := by
  have h := write_any (UA a) (UA_fits a) 0 ((c : Int) + 256) (by omega) (by omega) w
  rwa [show writeV (UA a) 0 ((c : Int) + 256) = UA (a ++ byteT c) by
    unfold writeV UA
    rw [if_pos rfl, show ((c : Int) + 256) % 256 = c by omega]
    simp only
    rw [tail64_next]] at h

theorem write_empty (a : ByteArray) (w : World) :
    Calls Try.prog 11 #[.agg (cellsU (UA a)), .int .u32 8, .int .u32 1] w fun e w' => e = .returned (.tuple #[.agg (cellsU (UA ⟨#[]⟩)), .int .i64 0]) ∧ Below w.heap.size w w' := by
  have h := write_any (UA a) (UA_fits a) 8 1 (by omega) (by omega) w
  rwa [show writeV (UA a) 8 1 = UA ⟨#[]⟩ by rw [UA_none]; rfl] at h

/-- What a round reads, behind a call. -/
theorem sa_on {w x y : World} {u : Ua} (h : Rat x w.heap.size u ∧ Below w.heap.size w x) (hb : Below x.heap.size x y) :
    (loadCellsFrom ⟨w.heap.size, 0, none⟩ 0 N3 #[]).run Try.prog y = .ok (cellsU u) y ∧ Rat y w.heap.size u ∧ Below w.heap.size w y :=
  ⟨(h.1.on hb).load, h.1.on hb, onto h.2 (Nat.le_refl _) hb⟩

/-- What a round reads, behind a store into another block. -/
theorem sa_far {w x : World} {u : Ua} (h : Rat x w.heap.size u ∧ Below w.heap.size w x) (g : Nat) (c : Array Value) (hg : w.heap.size < g) :
    (loadCellsFrom ⟨w.heap.size, 0, none⟩ 0 N3 #[]).run Try.prog (x.setRow g c) = .ok (cellsU u) (x.setRow g c) ∧ Rat (x.setRow g c) w.heap.size u ∧ Below w.heap.size w (x.setRow g c) :=
  ⟨(h.1.setFar g c hg).load, h.1.setFar g c hg, below_setRow h.2 (by omega) c⟩

/-- What the last statement reads, behind a call. -/
theorem fin_on {w x y : World} {A : ByteArray} (h : Rat x w.heap.size (UA A) ∧ Below w.heap.size w x) (hb : Below x.heap.size x y) :
    y.cell? ⟨w.heap.size, 0, none⟩ = some (.string ⟨#[]⟩) ∧ y.cell? ⟨w.heap.size, 1, none⟩ = some (.string (tail64 A)) ∧ Rat y w.heap.size (UA A) ∧ Below w.heap.size w y :=
  ⟨(h.1.on hb).cell 0, (h.1.on hb).cell 1, h.1.on hb, onto h.2 (Nat.le_refl _) hb⟩

theorem run_max64 (n : Nat) (w : World) : (Builtin.max_ #[3, 3] 3 #[.int .i64 0, .int .i64 ((n : Int) - 64)]).run Try.prog w = .ok (.int .i64 ((n - 64 : Nat) : Int)) w := by
  rw [run_max_int2]
  congr 2
  split <;> omega

/-- A block that was made ahead of a call, behind the call and a store. -/
theorem set_new {w' x : World} {L : Nat} {u q : Ua} (h : Rat x L u) (hk : ((∀ b, b < x.heap.size → rowAt w' b = rowAt x b) ∧ (∀ b, b < x.heap.size → isRow w' b = isRow x b)) ∧ x.heap.size ≤ w'.heap.size) : Rat (w'.setRow L (cellsU q)) L q :=
  Rat.set (r := u) ⟨by rw [hk.1.2 _ h.2.2]; exact h.1, by rw [hk.1.1 _ h.2.2]; exact h.2.1, Nat.lt_of_lt_of_le h.2.2 hk.2⟩ q

set_option maxRecDepth 100000 in
set_option maxHeartbeats 4000000 in
theorem out_walk (w : World) (s : ByteArray) (hl : s.size ≤ maxLen) (m : Int) (wm : (Lit.int .i64 m).wf = true) :
    Calls Try.prog 6 #[.string s, .int .i64 m] w fun e w' => e = .returned (.bool true) ∧ Below w.heap.size w w' := by
  obtain ⟨t1, t2, t3, t4, t5, t6, t7, t8, t9⟩ := uaRules
  obtain ⟨p0, p1, p2⟩ := uaParts
  obtain ⟨d1, d2, d3⟩ := uaDrew
  have n0 : ¬ cellsU U0 = #[] := by unfold cellsU; simp
  have hm := fun W => run_min300 s.size W
  have hle : (if s.size ≤ 300 then s.size else 300) ≤ s.size := by split <;> omega
  have hle2 : (if s.size ≤ 300 then s.size else 300) ≤ 300 := by split <;> omega
  generalize (if s.size ≤ 300 then s.size else 300) = k at *
  have hx : (s.extract 0 k).size ≤ 300 := by rw [ByteArray.size_extract]; omega
  unfold maxLen at hl
  go_enter Try.func6, Try.ntmps6
  go_wp2
  clear hm hle hle2
  generalize s.extract 0 k = t at *
  go_loopw [6, 7] (fun a i wr => ∃ (n : Nat) (A : ByteArray), n ≤ t.size ∧ i = .int .i64 n ∧ A.size ≤ n ∧ a = .string A ∧ Hid (Rat wr w.heap.size (UA A) ∧ Below w.heap.size w wr)) (fun _ i _ => t.size - (intOf i).toNat)
  case atStart => exact ⟨0, ⟨#[]⟩, by omega, rfl, by decide, rfl, by rw [UA_none]; exact Rat.new w U0 _, grow _ _⟩
  case round =>
    obtain ⟨n, A, hn, rfl, hA, rfl, hR⟩ := hrel
    by_cases hlt : n < t.size
    · have hb : t[n].toNat < 256 := t[n].toNat_lt
      have hcut := one_cut t n hlt
      have hw1 : IntKind.u32.wrap ((t[n].toNat : Nat) : Int) = ((t[n].toNat : Nat) : Int) := by rw [IntKind.wrap_u32]; omega
      have hw2 : IntKind.u32.wrap (((t[n].toNat : Nat) : Int) + 256) = ((t[n].toNat : Nat) : Int) + 256 := by rw [IntKind.wrap_u32]; omega
      by_cases hm : (n : Int) = m
      · have hd : ((n : Int) == m) = true := by simpa using hm
        have l1 := hR.out.1.load
        have c0 := hide fun W => write_empty A W
        replace hm := hide hm
        go_wp2_with fail
        refine (c0.out _).mono ?_
        rintro e w1 ⟨rfl, b1⟩
        have R0 := hR.out.1.on b1
        have B0 := onto hR.out.2 (Nat.le_refl _) b1
        have hne : ¬ w.heap.size = w1.heap.size := by have := R0.2.2; omega
        have x1 := R0.1
        have x2 := R0.2.1
        clear b1 l1 hR c0
        have hR : Rat ((w1.setRow w.heap.size (cellsU (UA ⟨#[]⟩))).alloc (.cells (cellsU (UA ⟨#[]⟩)) 23)) w.heap.size (UA ⟨#[]⟩) ∧ Below w.heap.size w ((w1.setRow w.heap.size (cellsU (UA ⟨#[]⟩))).alloc (.cells (cellsU (UA ⟨#[]⟩)) 23)) :=
          ⟨(R0.set (UA ⟨#[]⟩)).on (grow _ _), onto (below_setRow B0 (Nat.le_refl _) _) (Nat.le_refl _) (grow _ _)⟩
        replace hR := hide hR
        clear R0 B0
        go_wp2_with fail
        replace hR := hR.out
        generalize (w1.setRow w.heap.size (cellsU (UA ⟨#[]⟩))).alloc (.cells (cellsU (UA ⟨#[]⟩)) 23) = W2 at *
        clear x1 x2 hne
        have hA0 : (⟨#[]⟩ : ByteArray).size ≤ n := Nat.zero_le _
        have hlt2 := hR.1.2.2
        have c1 := hide fun W => write_out (⟨#[]⟩ : ByteArray) t[n].toNat hb W
        have hS := sa_on hR (Below.refl _ W2).drew
        go_cut [10, 11] from 35 to 44 (fun p e x => ∃ L : Nat, p = .pointer (some ⟨L, 0, none⟩) ∧ e = .int .i64 0 ∧ Hid (Rat x L (UA ((⟨#[]⟩ : ByteArray) ++ byteT ((t[n].toNat : Nat) : Int))) ∧ Rat x w.heap.size (UA (⟨#[]⟩ : ByteArray)) ∧ ¬ w.heap.size = L ∧ Below w.heap.size w x))
        case first =>
          go_region_held3 (fun x => (loadCellsFrom ⟨w.heap.size, 0, none⟩ 0 N3 #[]).run Try.prog x = .ok (cellsU (UA (⟨#[]⟩ : ByteArray))) x ∧ Rat x w.heap.size (UA (⟨#[]⟩ : ByteArray)) ∧ Below w.heap.size w x)
            (first | exact hS | assumption | exact sa_on hT.2 (grow _ _) | exact sa_far hT.2 _ _ hlt2 | exact sa_on hS.2 (grow _ _) | exact sa_on (And.right (by assumption)) (grow _ _) | exact sa_on (And.right (by assumption)) (grow _ _).drew)
            (first | (go_at_call 11; refine (c1.out _).mono ?_; rintro e w' ⟨rfl, hbn⟩; have hT := sa_on (And.right (by assumption)) hbn; have hk1 := And.intro (brow hbn) hbn.size; clear hbn))
          · go_wp2_with fail
            go_meet
            case rel => exact ⟨w'.heap.size, rfl, rfl, Rat.new _ _ _, hT.2.1.on (grow _ _), by have := hT.2.1.2.2; omega, onto hT.2.2 (Nat.le_refl _) (grow _ _)⟩
          all_goals
            go_wp2_with fail
            go_meet
            case rel => exact ⟨W2.heap.size, rfl, rfl, set_new (Rat.new W2.drew U0 _) hk1, hT.2.1.setFar _ _ hlt2, by omega, below_setRow hT.2.2 (by omega) _⟩
        case rest =>
          obtain ⟨L, rfl, rfl, hX⟩ := hcut
          have z3 := hX.out.1.load
          have z4 := hX.out.2.1.1
          have z5 := hX.out.2.1.2.1
          have hF := hide (And.intro (hX.out.2.1.set (UA ((⟨#[]⟩ : ByteArray) ++ byteT ((t[n].toNat : Nat) : Int)))) (below_setRow hX.out.2.2.2 (Nat.le_refl _) (cellsU (UA ((⟨#[]⟩ : ByteArray) ++ byteT ((t[n].toNat : Nat) : Int))))))
          have hs1 : ((⟨#[]⟩ : ByteArray) ++ byteT ((t[n].toNat : Nat) : Int)).size ≤ n + 1 := by rw [ByteArray.size_append, byteT_size]; omega
          have hs2 : (byteT ((t[n].toNat : Nat) : Int)).size = 1 := byteT_size _
          have hs3 : ((⟨#[]⟩ : ByteArray) : ByteArray).size ≤ 300 := by omega
          generalize byteT ((t[n].toNat : Nat) : Int) = bt at *
          obtain ⟨A', hA'⟩ : ∃ A', (⟨#[]⟩ : ByteArray) ++ bt = A' := ⟨_, rfl⟩
          rw [hA'] at hs1 z3 hF
          clear hX hS hR c1
          go_wp2
          go_roundw
          case rel => exact ⟨n + 1, A', by omega, by go_num, hs1, by first | rfl | rw [hA'], hF.out⟩
          case measure => simp [intOf]; omega
      · have hd : ((n : Int) == m) = false := by simpa using hm
        have hR := hR.out
        replace hm := hide hm
        go_wp2_with fail
        have hlt2 := hR.1.2.2
        have c1 := hide fun W => write_out A t[n].toNat hb W
        have hS := sa_on hR (Below.refl _ wr).drew
        go_cut [10, 11] from 35 to 44 (fun p e x => ∃ L : Nat, p = .pointer (some ⟨L, 0, none⟩) ∧ e = .int .i64 0 ∧ Hid (Rat x L (UA (A ++ byteT ((t[n].toNat : Nat) : Int))) ∧ Rat x w.heap.size (UA A) ∧ ¬ w.heap.size = L ∧ Below w.heap.size w x))
        case first =>
          go_region_held3 (fun x => (loadCellsFrom ⟨w.heap.size, 0, none⟩ 0 N3 #[]).run Try.prog x = .ok (cellsU (UA A)) x ∧ Rat x w.heap.size (UA A) ∧ Below w.heap.size w x)
            (first | exact hS | assumption | exact sa_on hT.2 (grow _ _) | exact sa_far hT.2 _ _ hlt2 | exact sa_on hS.2 (grow _ _) | exact sa_on (And.right (by assumption)) (grow _ _) | exact sa_on (And.right (by assumption)) (grow _ _).drew)
            (first | (go_at_call 11; refine (c1.out _).mono ?_; rintro e w' ⟨rfl, hbn⟩; have hT := sa_on (And.right (by assumption)) hbn; have hk1 := And.intro (brow hbn) hbn.size; clear hbn))
          · go_wp2_with fail
            go_meet
            case rel => exact ⟨w'.heap.size, rfl, rfl, Rat.new _ _ _, hT.2.1.on (grow _ _), by have := hT.2.1.2.2; omega, onto hT.2.2 (Nat.le_refl _) (grow _ _)⟩
          all_goals
            go_wp2_with fail
            go_meet
            case rel => exact ⟨wr.heap.size, rfl, rfl, set_new (Rat.new wr.drew U0 _) hk1, hT.2.1.setFar _ _ hlt2, by omega, below_setRow hT.2.2 (by omega) _⟩
        case rest =>
          obtain ⟨L, rfl, rfl, hX⟩ := hcut
          have z3 := hX.out.1.load
          have z4 := hX.out.2.1.1
          have z5 := hX.out.2.1.2.1
          have hF := hide (And.intro (hX.out.2.1.set (UA (A ++ byteT ((t[n].toNat : Nat) : Int)))) (below_setRow hX.out.2.2.2 (Nat.le_refl _) (cellsU (UA (A ++ byteT ((t[n].toNat : Nat) : Int))))))
          have hs1 : (A ++ byteT ((t[n].toNat : Nat) : Int)).size ≤ n + 1 := by rw [ByteArray.size_append, byteT_size]; omega
          have hs2 : (byteT ((t[n].toNat : Nat) : Int)).size = 1 := byteT_size _
          have hs3 : (A : ByteArray).size ≤ 300 := by omega
          generalize byteT ((t[n].toNat : Nat) : Int) = bt at *
          obtain ⟨A', hA'⟩ : ∃ A', A ++ bt = A' := ⟨_, rfl⟩
          rw [hA'] at hs1 z3 hF
          clear hX hS hR c1
          go_wp2
          go_roundw
          case rel => exact ⟨n + 1, A', by omega, by go_num, hs1, by first | rfl | rw [hA'], hF.out⟩
          case measure => simp [intOf]; omega
    · have hx : n = t.size := by omega
      subst hx
      have hS := fin_on hR.out (Below.refl _ wr).drew
      have hmx := fun W => run_max64 A.size W
      have hw : IntKind.i64.wrap ((A.size : Int) - 64) = (A.size : Int) - 64 := by rw [IntKind.wrap_i64]; omega
      have hn1 : A.size - 64 ≤ A.size := by omega
      have hA2 : A.size ≤ 300 := by omega
      unfold tail64 at hS
      have ht : tail64 A = A.extract (A.size - 64) A.size := rfl
      generalize A.size - 64 = j at *
      clear hR
      go_wp2_with fail
      go_region_held3 (fun x => x.cell? ⟨w.heap.size, 0, none⟩ = some (.string ⟨#[]⟩) ∧ x.cell? ⟨w.heap.size, 1, none⟩ = some (.string (A.extract j A.size)) ∧ Rat x w.heap.size (UA A) ∧ Below w.heap.size w x)
        (first | exact hS | assumption)
        (first | (go_at_call 15; refine (fixed_any _).mono ?_; rintro e w' ⟨rfl, hbn⟩; have hT := fin_on (And.right (And.right (by assumption))) hbn; rw [ht] at hT; clear hbn))
      all_goals
        go_wp2
        go_ret
        exact ⟨rfl, hT.2.2.2⟩

end Go.Proofs.Ytgcdohkpoaklbaa
