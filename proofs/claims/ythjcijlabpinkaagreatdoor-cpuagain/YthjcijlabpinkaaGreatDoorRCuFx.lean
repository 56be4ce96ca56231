/- Layer 13: the two steps whose answers the document fixes. -/
import Derived.Test.YthjcijlabpinkaaGreatDoorRCuSix
import Derived.Test.YthjcijlabpinkaaGreatDoorRCuReset
import Derived.Test.YthjcijlabpinkaaGreatDoorRCuLaid
import Derived.Test.YthjcijlabpinkaaGreatDoorRCuEig
import Derived.Test.YthjcijlabpinkaaGreatDoorRCuTm
import Derived.Test.YthjcijlabpinkaaGreatDoorRCuTm
import Derived.Laws.OwnMore
import Derived.OwnWalk
namespace Go.Proofs.YthjcijlabpinkaaGreatDoor
open Go.RowKit
set_option linter.unusedVariables false
set_option maxRecDepth 100000
set_option linter.unusedSimpArgs false

def Z0 : List Int := List.replicate 128 0 ++ [604045317, 4294967295]

theorem fill_at (zs : List Int) (k j : Nat) (hj : j < k) (z : Int) (hz : zs.getD j 0 = z) (h0 : 0 ≤ z) (h1 : z < 4294967296) : numOf (fillW zs k) (4 * j) 4 = z.toNat := by
  induction k with
  | zero => omega
  | succ k ih =>
    show numOf (putB (fillW zs k) (4 * k) 4 (zs.getD k 0).toNat) (4 * j) 4 = z.toNat
    by_cases e : j = k
    · subst e
      rw [num_put _ _ _ (by omega), hz]
    · rw [num_far _ _ _ _ (by omega)]
      exact ih (by omega)

theorem tick_0 (B : Nat → Nat) (D : Nat → Bool) : tkV 8 V0 B = V0 ∧ tkB 8 V0 B = B ∧ tkD 8 V0 D = D := by
  unfold tkV tkB tkD
  obtain ⟨e1, e2, e3⟩ := move_0 8 (Dm.tickV V0.d) V0.k B D
  have e : Dm.wayV V0.d = 0 := rfl
  rw [e, e1, e2, e3]
  exact ⟨rfl, rfl, rfl⟩

def K1 : Cp.Regs := ⟨0, 0, 0, 1, 0, 0, 0, 0, 0⟩
def K2 : Cp.Regs := ⟨0, 0, 0, 2, 0, 0, 0, 0, 0⟩
def C1 : Cs := ⟨2147484164, 2147484168, false, putR (fun _ => 0) 1 5, 0, 0, false, K1, Tl.T0⟩
def C2 : Cs := ⟨2147484032, 2147484036, false, putR (fun _ => 0) 1 5, 0, 0, false, ⟨0, 0, 0, 2, 0, 0, 2, 40, 2147484164⟩, Tl.T0⟩

theorem dec_one : decV 604045317 = ⟨46, 0, 1, 0, 0, 5, 0⟩ := by
  have h := decV_told 604045317 (by decide)
  generalize decV 604045317 = I at h
  obtain ⟨o, s, t, d, a, i, e⟩ := I
  rcases h with ⟨op, h1, h2, rfl, rfl, rfl, rfl, rfl, rfl, rfl⟩ | ⟨h1, -⟩
  · have : op = 46 := (by decide +kernel : ∀ op < 69, De.Dec.is 604045317 op = true → op = 46) op h1 h2
    subst this
    rfl
  · exact absurd (h1 46 (by omega)) (by decide +kernel)

theorem dec_two : (decV 4294967295).e = 40 := by
  have h := decV_told 4294967295 (by decide)
  generalize decV 4294967295 = I at h
  obtain ⟨o, s, t, d, a, i, e⟩ := I
  rcases h with ⟨op, h1, h2, -⟩ | ⟨h1, -, -, -, -, -, -, rfl⟩
  · have k : De.Dec.is 4294967295 op = false := (by decide +kernel : ∀ op < 69, De.Dec.is 4294967295 op = false) op h1
    exact absurd (h2.symm.trans k) (by decide)
  · rfl

theorem where_0 (c : Cs) (a : Int) (h0 : 2147483648 ≤ a) (h1 : a < 3221225472) (wr : Bool) (hu : Cp.userV c.C = false) : whereV c a wr = (a % 536870912, -1, false) := by
  unfold whereV
  rw [if_neg (by rw [hu]; simp), if_pos ⟨h0, h1⟩]

theorem pl_0 (c : Cs) (a : Int) (h0 : 2147483648 ≤ a) (h1 : a < 3221225472) (h4 : a % 4 = 0) (hu : Cp.userV c.C = false) : plV c a 4 false = (a % 536870912, F0, true) := by
  unfold plV
  rw [where_0 c a h0 h1 false hu, if_neg (by simpa using h4), if_pos rfl]

theorem step_1 (B : Nat → Nat) (D : Nat → Bool) (hB : numOf B 512 4 = 604045317) : stepM 8 ⟨C0, V0, B, D⟩ = ⟨C1, V0, B, D⟩ := by
  obtain ⟨e1, e2, e3⟩ := tick_0 B D
  have t : tickM 8 ⟨C0, V0, B, D⟩ = ⟨{ C0 with C := K1 }, V0, B, D⟩ := by
    have k : Cp.tickV C0.C (linesV V0) = K1 := by kernel_rfl
    unfold tickM
    rw [e1, e2, e3]
    show (⟨{ C0 with C := Cp.tickV C0.C (linesV V0) }, V0, B, D⟩ : Mc) = _
    rw [k]
  have hm : memX 8 B 512 4 = 604045317 := by
    unfold memX
    rw [if_pos (by decide)]
    show ((numOf B 512 4 : Nat) : Int) = _
    rw [hB]
    rfl
  have f : ftV 8 { C0 with C := K1 } B = (⟨46, 0, 1, 0, 0, 5, 0⟩, F0, true) := by
    have hp : plV { C0 with C := K1 } 2147484160 4 false = (512, F0, true) := pl_0 _ _ (by decide) (by decide) (by decide) (by decide)
    unfold ftV
    rw [show ({ C0 with C := K1 } : Cs).pc = 2147484160 from rfl, hp]
    simp only
    rw [hm, dec_one, if_neg (by decide), if_neg (by decide), if_neg (by decide)]
  unfold stepM
  rw [t]
  unfold restM
  simp only [f]
  rw [if_neg (by decide), if_neg (by decide), if_neg (by decide)]
  have d : doM 8 ⟨{ C0 with C := K1 }, V0, B, D⟩ ⟨46, 0, 1, 0, 0, 5, 0⟩ = nop ⟨{ C0 with C := K1, R := putR (fun _ => 0) 1 5 }, V0, B, D⟩ := by
    unfold doM
    rw [if_neg (by decide), if_neg (by decide), if_neg (by decide), if_neg (by decide), if_neg (by decide), if_neg (by decide), if_neg (by decide), if_neg (by decide), if_neg (by decide), if_neg (by decide), if_neg (by decide)]
    rfl
  rw [d, if_pos (show (nop _).k = true from rfl)]
  rfl

theorem step_2 (B : Nat → Nat) (D : Nat → Bool) (hB : numOf B 516 4 = 4294967295) : stepM 8 ⟨C1, V0, B, D⟩ = ⟨C2, V0, B, D⟩ := by
  obtain ⟨e1, e2, e3⟩ := tick_0 B D
  have t : tickM 8 ⟨C1, V0, B, D⟩ = ⟨{ C1 with C := K2 }, V0, B, D⟩ := by
    have k : Cp.tickV C1.C (linesV V0) = K2 := by kernel_rfl
    unfold tickM
    rw [e1, e2, e3]
    show (⟨{ C1 with C := Cp.tickV C1.C (linesV V0) }, V0, B, D⟩ : Mc) = _
    rw [k]
  have hm : memX 8 B 516 4 = 4294967295 := by
    unfold memX
    rw [if_pos (by decide)]
    show ((numOf B 516 4 : Nat) : Int) = _
    rw [hB]
    rfl
  have f : ftV 8 { C1 with C := K2 } B = (I0, ftC 10, false) := by
    have hp : plV { C1 with C := K2 } 2147484164 4 false = (516, F0, true) := pl_0 _ _ (by decide) (by decide) (by decide) (by decide)
    unfold ftV
    rw [show ({ C1 with C := K2 } : Cs).pc = 2147484164 from rfl, hp]
    simp only
    rw [hm, dec_two, if_neg (by decide), if_neg (by decide), if_pos (by decide)]
  unfold stepM
  rw [t]
  unfold restM
  simp only [f]
  have hf : faultC { C1 with C := K2 } (ftC 10) = C2 := by kernel_rfl
  rw [if_neg (by decide), if_pos trivial, hf]

theorem miss_2 : whereV C2 1040 true = (0, 3, true) := by
  have hf : findV C2.T 1040 (C2.C.h % 256) = -1 := by
    refine (findV_is C2.T 1040 (C2.C.h % 256)).one (Or.inl ⟨rfl, fun i hi h => ?_⟩)
    have := h.1
    exact absurd this (by show ¬ ((0 : Int) / 256 = 1040 / 256); decide)
  unfold whereV
  rw [hf, if_neg (by decide), if_neg (by decide)]
  rfl

theorem there_2 : whereV C2 2684354576 true = (16, -1, false) := where_0 C2 _ (by decide) (by decide) _ (by decide)

theorem words_2 : numOf (fillW Z0 130) 512 4 = 604045317 ∧ numOf (fillW Z0 130) 516 4 = 4294967295 :=
  ⟨fill_at Z0 130 128 (by omega) 604045317 rfl (by decide) (by decide), fill_at Z0 130 129 (by omega) 4294967295 rfl (by decide) (by decide)⟩

end Go.Proofs.YthjcijlabpinkaaGreatDoor

namespace Go.Proofs.YthjcijlabpinkaaGreatDoor
open Go.RowKit
set_option linter.unusedVariables false
set_option maxRecDepth 100000
set_option linter.unusedSimpArgs false

def zeros128 : List Value := List.replicate 128 (Value.int .u32 0)

def row128 : Array Value := (List.replicate 128 (Value.int .u32 0)).toArray

theorem own128 (x : World) : (x.alloc (.cells row128 22)).ownsRow x.heap.size 22 1 (.slice (some ⟨x.heap.size, 0, none⟩) 128 128) 128 zeros128 :=
  ⟨by simp [zeros128], Or.inr ⟨x.heap.size, 128, row128, rfl, Nat.le_refl _, heap_alloc_new _ _, Nat.le_refl _, by unfold maxLen; omega, by simp [row128], by simp [row128, zeros128]⟩⟩

theorem two_new (x : World) (a b : Value) (t : TypeId) : ∀ j u, ([a, b] : List Value)[j]? = some u → (x.alloc (.cells #[a, b] t)).cell? ((⟨x.heap.size, 0, none⟩ : Addr).add j) = some u := fun j u h => by
  rw [Addr.add_lit, Nat.zero_add, World.cell?_alloc_new]
  simpa using h

theorem wpList_buildWo {ops : Array Oper} {rest : List Oper} {o : Oper} {a : Act} {w : World} {Q : Exit → Act → World → Prop} (hg : o.guard = none) (p0 : Operand)
    (ho : o.op = .build 41 #[(1, p0)]) (x : Addr) (n c : Nat) (h0 : a.eval p0 = .slice (some x) n c)
    (h : wpList Tryz.prog ops Q rest (a.put o.dst (.agg (cellsWo CZ (.slice (some x) n c) ⟨#[]⟩ (.slice none 0 0) 0))) w) : wpList Tryz.prog ops Q (o :: rest) a w := by
  have b1 : Tryz.prog.built 41 [(1, .slice (some x) n c)] = some (cellsWo CZ (.slice (some x) n c) ⟨#[]⟩ (.slice none 0 0) 0) := by kernel_rfl
  have e : ((#[(1, p0)] : Array (Nat × Operand)).map fun (i, x) => (i, a.eval x)).toList = [(1, a.eval p0)] := by simp
  refine wpList_build hg 41 _ ho ?_ ?_
  · rw [e, h0, b1]; rfl
  · rw [e, h0, b1]; exact h

theorem set_none : ∃ f : Int, (∀ x b p g n c B D, Bus x b p g n c V0 B D → Calls Tryz.prog 44 #[.pointer (some ⟨b, 0, none⟩), .string ⟨#[]⟩] x fun e y => e = .returned (.int .i64 f) ∧ Bus y b p g n c V0 B D ∧ Kept [b] x y) ∧
    (∀ x b p gb gd n B D, RBus x b p gb gd n V0 B D → Calls Tryz.prog 45 #[.pointer (some ⟨b, 0, none⟩), .string ⟨#[]⟩] x fun e y => e = .returned (.int .i64 f) ∧ RBus y b p gb gd n V0 B D ∧ Kept [b] x y) := by
  obtain ⟨q, f, hq, hf, c1, c2⟩ := sets_same ⟨#[]⟩ (by decide) V0 V0_w
  rcases hf with ⟨-, h⟩ | ⟨-, h⟩
  · have := devV_size q hq
    rw [h] at this
    have e : (ByteArray.mk #[]).size = 0 := rfl
    omega
  · subst h
    exact ⟨f, c1, c2⟩

theorem Z0_length : Z0.length = 130 := by decide

theorem Z0_w (i : Nat) (z : Int) (h : Z0[i]? = some z) : Dm.W32 z := by
  have : z = 0 ∨ z = 604045317 ∨ z = 4294967295 := by
    have hm := List.mem_of_getElem? h
    unfold Z0 at hm
    simp at hm
    exact hm
  rcases this with rfl | rfl | rfl <;> exact ⟨by decide, by decide⟩

theorem Z0_cells : zeros128 ++ [.int .u32 604045317, .int .u32 4294967295] = Z0.map (Value.int .u32) := by
  unfold Z0 zeros128
  rw [List.map_append, List.map_replicate]
  rfl

set_option maxHeartbeats 4000000 in
set_option maxRecDepth 100000 in
theorem fixed13 (w : World) (tb : De.Tabs w) : Calls Tryz.prog 11 #[] w fun e w' => e = .returned (.bool true) ∧ Below w.heap.size w w' := by
  obtain ⟨z1, z2, z3, z4, z5, z6, z7, z8, z9, z10, z11, z12, z13, z14, z15⟩ := cSizes
  obtain ⟨t1, t2, t3, t4, t5, t6, t7, t8, t9⟩ := rowRules
  obtain ⟨f1, f2, f3, f4, f5, f6, f7, f8, f9⟩ := cWhole
  replace tb := hide tb
  have hmk : ∀ w : World, (Instr.makeSlice 38 (.int .i64 128) (.int .i64 128)).run Tryz.prog w = .ok (.slice (some ⟨w.heap.size, 0, none⟩) 128 128) (w.alloc (.cells row128 22)) := fun _ => by kernel_rfl
  have hi0 : (Tryz.prog.info? 22).map (fun i => (i.zero, i.size, i.bytes)) = some (some (.int .u32 0), 1, 4) := by kernel_rfl
  obtain ⟨i0, hi, hz0, hz1, hz2⟩ := info_parts hi0
  go_enter Tryz.func11, Tryz.ntmps11
  go_wp2_with fail
  refine (reset_any _).mono ?_
  rintro e w1 ⟨rfl, b1⟩
  generalize hC0 : C0 = c0 at *
  have O3 : Hid ((((w1.alloc (.cells (cellsC c0) 31)).alloc (.cells row128 22)).alloc (.cells #[.int .u32 604045317, .int .u32 4294967295] 22)).ownsRow (w1.heap.size + 1) 22 1 (.slice (some ⟨w1.heap.size + 1, 0, none⟩) 128 128) 128 zeros128) := hide (by
    have := (own128 (w1.alloc (.cells (cellsC c0) 31))).alloc (.cells #[.int .u32 604045317, .int .u32 4294967295] 22)
    rw [show (w1.alloc (.cells (cellsC c0) 31)).heap.size = w1.heap.size + 1 by simp] at this
    exact this)
  have hc : Hid (∀ j u, ([.int .u32 604045317, .int .u32 4294967295] : List Value)[j]? = some u → (((w1.alloc (.cells (cellsC c0) 31)).alloc (.cells row128 22)).alloc (.cells #[.int .u32 604045317, .int .u32 4294967295] 22)).cell? ((⟨w1.heap.size + 1 + 1, 0, none⟩ : Addr).add j) = some u) := hide (by
    have := two_new ((w1.alloc (.cells (cellsC c0) 31)).alloc (.cells row128 22)) (.int .u32 604045317) (.int .u32 4294967295) 22
    rw [show ((w1.alloc (.cells (cellsC c0) 31)).alloc (.cells row128 22)).heap.size = w1.heap.size + 1 + 1 by simp] at this
    exact this)
  have bc := Box.new w1 (cellsC c0) 31
  have B1 := hide ((grow w1 (.cells (cellsC c0) 31)).mono b1.size)
  replace B1 := hide (b1.trans B1.out)
  replace bc := hide bc
  obtain ⟨L, hL⟩ : ∃ L, L = w1.heap.size := ⟨_, rfl⟩
  have hLw : w.heap.size ≤ L := by rw [hL]; exact b1.size
  clear b1
  rw [← hL] at bc
  have hg1 : ∀ u ∈ ([.int .u32 604045317, .int .u32 4294967295] : List Value), u.oneCell' = true := by
    intro u hu
    simp at hu
    rcases hu with rfl | rfl <;> rfl
  have hg2 : 128 + 2 ≤ maxLen := by unfold maxLen; omega
  have hg3 : (128 + 2) * 4 ≤ 140737488355328 := by omega
  have hg4 : w1.heap.size + 1 ≤ (((w1.alloc (.cells (cellsC c0) 31)).alloc (.cells row128 22)).alloc (.cells #[.int .u32 604045317, .int .u32 4294967295] 22)).heap.size := by
    rw [World.size_alloc, World.size_alloc, World.size_alloc]; omega
  replace hg1 := hide hg1
  replace hg2 := hide hg2
  replace hg4 := hide hg4
  go_wp2_with (at_builtin; refine wpList_append_own _ rfl _ _ 38 rfl (w1.heap.size + 1) 22 i0 (.int .u32 0) 1 4 Tryz.underlying38 hi hz0 hz1 hz2 rfl (by decide) _ _ _ rfl O3.out ⟨w1.heap.size + 1 + 1, 0, none⟩ 2 2 [.int .u32 604045317, .int .u32 4294967295] rfl rfl hc.out hg1.out hg2.out hg3 hg4.out ?_)
  intro v' w4 hown' hgrow _
  rw [Z0_cells] at hown'
  obtain ⟨gw, cap, cur, rfl, hgw, hrow, hcap, hcl, -, -⟩ : ∃ gw cap cur, v' = .slice (some ⟨gw, 0, none⟩) 130 cap ∧ w1.heap.size + 1 ≤ gw ∧ w4.heap[gw]? = some (.cells cur 22 (0, 0)) ∧ 130 ≤ cap ∧ cap ≤ maxLen ∧ cur.size = cap * 1 ∧ cur.toList.take (130 * 1) = Z0.map (Value.int .u32) := by
    rcases hown'.2 with ⟨-, h⟩ | h
    · omega
    · exact h
  have hIs : Hid (IsWords w4 (.slice (some ⟨gw, 0, none⟩) 130 cap) Z0) := hide (by
    refine Or.inr ⟨gw, 0, cap, by rw [Z0_length], by rw [Z0_length]; unfold maxLen; omega, ?_, fun i z hz => ⟨Z0_w i z hz, ?_⟩⟩
    · exact (Array.getElem?_eq_some_iff.1 hrow).1
    · have := hown'.cells (g := gw) rfl i (.int .u32 z) (by rw [List.getElem?_map, hz]; rfl)
      rw [Addr.add_lit] at this
      exact this)
  have bc4 : Hid (Box w4 L (cellsC c0)) := hide (by
    refine bc.out.of_heap ?_
    rw [hgrow.block L (by rw [World.size_alloc, World.size_alloc, World.size_alloc]; omega) (by show ¬ some L = some (w1.heap.size + 1); simp; omega), heap_alloc_old _ _ (by rw [World.size_alloc, World.size_alloc]; omega), heap_alloc_old _ _ (by rw [World.size_alloc]; omega)])
  have B4 : Hid (Below w.heap.size w w4) := hide (by
    have hs := B1.out.size
    rw [World.size_alloc] at hs
    refine ((B1.out.alloc (by rw [World.size_alloc]; omega) _).alloc (by rw [World.size_alloc, World.size_alloc]; omega) _).grown hgrow (by rw [World.size_alloc, World.size_alloc, World.size_alloc]; omega) (fun k hk => ?_)
    cases hk
    omega)
  have hL4 : L < w4.heap.size := bc4.out.2.2
  clear hown' hgrow hrow O3 hc hg1 hg2 hg3 hg4 hmk bc B1 hgw hcap hcl hi0 hi hz0 hz1 hz2
  rw [← hL]
  clear hL
  refine wpList_buildWo rfl _ rfl ⟨gw, 0, none⟩ 130 cap rfl ?_
  obtain ⟨f, cs1, cs2⟩ := set_none
  have cl := hide (laid_any w4 CZ (.slice (some ⟨gw, 0, none⟩) 130 cap) (.slice none 0 0) ⟨#[]⟩ 0 Z0 hIs.out V0 f V0_w cs1 cs2)
  rw [show min Z0.length 512 = 130 by rw [Z0_length]; rfl] at cl
  obtain ⟨wd1, wd2⟩ := words_2
  have s1 := hide (step_1 (fillW Z0 130) (markW 130) wd1)
  have s2 := hide (step_2 (fillW Z0 130) (markW 130) wd2)
  generalize fillW Z0 130 = BB at *
  generalize markW 130 = DD at *
  generalize cellsWo CZ (.slice (some ⟨gw, 0, none⟩) 130 cap) ⟨#[]⟩ (.slice none 0 0) 0 = CW at *
  clear cs1 cs2 wd1 wd2 hIs
  go_wp2_with fail
  refine cl.out.mono ?_
  rintro e w5 ⟨b, p, g, b', p', gb, gd, rfl, S⟩
  clear cl
  have hw2 : 2 ≤ w.heap.size := tb.out.n
  have B5 := hide (onto B4.out (Nat.le_refl _) S.o1.be)
  have tb5 := tb.out.on B5.out
  have hw4 := B4.out.size
  have zb := S.o1.zb
  have zp := S.o1.zp
  have zg := S.o1.zg
  have M5 : Hid (Mach w5 L b p g 8 8 ⟨C0, V0, BB, DD⟩) := hide ⟨by rw [hC0]; exact bc4.out.on S.o1.be, S.o1.bus, C0_w, tb5, by omega, by omega, by omega, by omega, by omega, by omega⟩
  clear S tb5 bc4
  go_wp2_with fail
  refine (step_any M5.out rfl).mono ?_
  rintro e w6 ⟨rfl, M6, K6⟩
  rw [s1.out] at M6
  replace M6 := hide M6
  have B6 : Hid (Below w.heap.size w w6) := hide (Kept.below B5.out K6 (Nat.le_refl _) (by simp; omega))
  clear M5 K6 B5 s1
  have l1 : w6.cell? ⟨L, 4, none⟩ = some (.int .u32 5) := by rw [M6.out.bx.cell]; rfl
  have l2 : w6.cell? ⟨L, 0, none⟩ = some (.int .u32 2147484164) := by rw [M6.out.bx.cell]; rfl
  have l3 : w6.cell? ⟨L, 41, none⟩ = some (.int .u32 1) := by rw [M6.out.bx.cell]; rfl
  go_wp2_with fail
  go_region
  go_wp2_with fail
  refine (step_any M6.out.drew rfl).mono ?_
  rintro e w7 ⟨rfl, M7, K7⟩
  rw [s2.out] at M7
  have B7 : Hid (Below w.heap.size w w7) := hide (Kept.below B6.out.drew K7 (Nat.le_refl _) (by simp; omega))
  have W2 := M7.wc
  have X7 := hide M7.bx
  have tx := hide (text_anyC M7.wc w7 M7.bx)
  have pz := hide (parse_sizedC (textC_size C2))
  rw [okP_text M7.wc, num_R0 M7.wc, csOf_textC M7.wc] at pz
  rw [show (true && C2.R 0 == 0) = true from rfl, if_pos rfl] at pz
  have th := there_2
  have mi := miss_2
  have hts := textC_size C2
  generalize textC C2 = TX at *
  clear M6 M7 K7 B6 s2 l1 l2 l3
  go_wp2_with fail
  refine tx.out.mono ?_
  rintro e w8 ⟨rfl, b8⟩
  replace X7 := hide (X7.out.on b8)
  replace B7 := hide (onto B7.out (Nat.le_refl _) b8)
  clear b8 tx
  have e0 : (cellsC C2)[0]? = some (.int .u32 2147484032) := rfl
  have e45 : (cellsC C2)[45]? = some (.int .u32 40) := rfl
  have e46 : (cellsC C2)[46]? = some (.int .u32 2147484164) := rfl
  generalize C2 = c2 at *
  go_wp2_with fail
  refine (pz.out _).mono ?_
  rintro e w9 ⟨rfl, b9⟩
  replace X7 := hide (X7.out.on b9)
  replace B7 := hide (onto B7.out (Nat.le_refl _) b9)
  clear b9 pz
  go_wp2_with fail
  have d9 := hide (Box.new w9 (cellsC c2) 31)
  replace X7 := hide (X7.out.on (grow w9 (.cells (cellsC c2) 31)))
  replace B7 := hide (onto B7.out (Nat.le_refl _) (grow w9 (.cells (cellsC c2) 31)))
  generalize w9.heap.size = Ld at *
  generalize w9.alloc (.cells (cellsC c2) 31) = w10 at *
  have cw1 : Hid (∀ x, Box x L (cellsC c2) → Calls Tryz.prog 9 #[.pointer (some ⟨L, 0, none⟩), .int .u32 2684354576, .bool true] x fun e w' => e = .returned (.tuple #[.int .u32 16, .int .i64 (-1), .bool false]) ∧ Below x.heap.size x w') := hide fun x hx => by
    have := where_any hx W2 2684354576 ⟨by decide, by decide⟩ true
    rw [th] at this
    exact this
  have cw2 : Hid (∀ x, Box x L (cellsC c2) → Calls Tryz.prog 9 #[.pointer (some ⟨L, 0, none⟩), .int .u32 1040, .bool true] x fun e w' => e = .returned (.tuple #[.int .u32 0, .int .i64 3, .bool true]) ∧ Below x.heap.size x w') := hide fun x hx => by
    have := where_any hx W2 1040 ⟨by decide, by decide⟩ true
    rw [mi] at this
    exact this
  clear th mi
  refine (parse_longC (s := ⟨#[]⟩) (by decide) (by decide) _).mono ?_
  rintro e w11 ⟨rfl, b11⟩
  replace d9 := hide (d9.out.on b11)
  replace X7 := hide (X7.out.on b11)
  replace B7 := hide (onto B7.out (Nat.le_refl _) b11)
  clear b11
  go_wp2_with fail
  replace d9 := hide (d9.out.on (grow w11 (.cells (cellsC CZ) 31)))
  replace X7 := hide (X7.out.on (grow w11 (.cells (cellsC CZ) 31)))
  replace B7 := hide (onto B7.out (Nat.le_refl _) (grow w11 (.cells (cellsC CZ) 31)))
  generalize w11.heap.size = Le at *
  generalize w11.alloc (.cells (cellsC CZ) 31) = w11' at *
  refine (cw1.out _ X7.out).mono ?_
  rintro e w12 ⟨rfl, b12⟩
  replace d9 := hide (d9.out.on b12)
  replace X7 := hide (X7.out.on b12)
  replace B7 := hide (onto B7.out (Nat.le_refl _) b12)
  clear b12
  go_wp2_with fail
  refine (cw2.out _ X7.out).mono ?_
  rintro e w13 ⟨rfl, b13⟩
  replace d9 := hide (d9.out.on b13)
  replace X7 := hide (X7.out.on b13)
  replace B7 := hide (onto B7.out (Nat.le_refl _) b13)
  clear b13
  have he := fun w => eqlC c2 w
  have l0 : w13.cell? ⟨L, 0, none⟩ = some (.int .u32 2147484032) := by rw [X7.out.cell]; exact e0
  have l45 : w13.cell? ⟨L, 45, none⟩ = some (.int .u32 40) := by rw [X7.out.cell]; exact e45
  have l46 : w13.cell? ⟨L, 46, none⟩ = some (.int .u32 2147484164) := by rw [X7.out.cell]; exact e46
  have q1 := X7.out.loads 0 N63 (f3 c2) (f6 c2)
  have q2 := d9.out.loads 0 N63 (f3 c2) (f6 c2)
  go_wp2
  go_ret
  exact ⟨rfl, B7.out⟩

end Go.Proofs.YthjcijlabpinkaaGreatDoor
