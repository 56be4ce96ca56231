/- Layer 11: contracts of the document's bytes. -/
import Derived.Test.YthjcijlabpinkaaGreatDoorRDmTextM
import Derived.Deep.CutRange
namespace Go.Proofs.YthjcijlabpinkaaGreatDoor.Dm
open Go.RowKit
set_option linter.unusedVariables false
set_option maxRecDepth 100000

theorem one_w (b : Bool) : 0 ≤ one b ∧ one b < 2 := by cases b <;> decide

theorem rbit_any (b : Bool) (w : World) : Calls Tryz.prog 103 #[.bool b] w fun e w' => e = .returned (.int .u32 (one b)) ∧ w' = w := by
  cases b
  all_goals
    go_enter Tryz.func103, Tryz.ntmps103
    go_wp2
    go_ret
    exact ⟨rfl, rfl⟩

def wordV (v : Int) : ByteArray := strOfNums (quad v)

theorem conv_new (w : World) (ns : List Int) (m : Nat) (hm : ns.length = m) :
    (convert 56 9 (.slice (some ⟨w.heap.size, 0, none⟩) m m)).run Tryz.prog (w.alloc (.cells (ns.map (Value.int .u8)).toArray 5)) = .ok (.string (strOfNums ns)) (w.alloc (.cells (ns.map (Value.int .u8)).toArray 5)) := by
  refine run_convert_bytes_arg _ 56 5 Tryz.underlying56 Tryz.underlying5 w.heap.size 0 m m ns hm ?_ 9 Tryz.underlying9
  intro i hi
  rw [Nat.zero_add, World.cell?_alloc_new]
  simp [List.getD, show i < ns.length by omega]

theorem rword_any {v : Int} (hv : W32 v) (w : World) :
    Calls Tryz.prog 80 #[.int .u32 v] w fun e w' => e = .returned (.string (wordV v)) ∧ Below w.heap.size w w' := by
  obtain ⟨v0, v1⟩ := hv
  have hc : ∀ x : World, (convert 56 9 (.slice (some ⟨x.heap.size, 0, none⟩) 4 4)).run Tryz.prog (x.alloc (.cells #[.int .u8 (v / 16777216), .int .u8 (v / 65536 % 256), .int .u8 (v / 256 % 256), .int .u8 (v % 256)] 5)) =
      .ok (.string (wordV v)) (x.alloc (.cells #[.int .u8 (v / 16777216), .int .u8 (v / 65536 % 256), .int .u8 (v / 256 % 256), .int .u8 (v % 256)] 5)) := fun x => conv_new x [v / 16777216, v / 65536 % 256, v / 256 % 256, v % 256] 4 rfl
  generalize wordV v = s at *
  go_enter Tryz.func80, Tryz.ntmps80
  go_wp2
  go_ret
  exact ⟨rfl, grow _ _⟩

set_option maxRecDepth 100000 in
theorem rval_any (s : ByteArray) (hs : s.size = 4) (w : World) :
    Calls Tryz.prog 120 #[.string s] w fun e w' => e = .returned (.int .u32 (numOf (byteAt s) 0 4 : Nat)) ∧ w' = w := by
  go_enter Tryz.func120, Tryz.ntmps120
  go_wp2
  go_loop [3, 4] (fun v i => ∃ j : Nat, j ≤ 4 ∧ i = .int .i64 j ∧ Hid (v = .int .i64 (numOf (byteAt s) 0 j : Nat))) (fun _ i => 4 - (intOf i).toNat)
  case atStart => exact ⟨0, by omega, rfl, hide rfl⟩
  case round =>
    obtain ⟨j, hj, rfl, hv⟩ := hrel
    by_cases hlt : j < 4
    · have q1 := numOf_lt (byteAt_lt s) 0 j
      have q2 : (256 : Nat) ^ j ≤ 256 ^ 3 := Nat.pow_le_pow_right (by omega) (by omega)
      have hj' : j < s.size := by omega
      have e1 : numOf (byteAt s) 0 (j + 1) = numOf (byteAt s) 0 j * 256 + s[j].toNat := by
        rw [← byteAt_in s j hj']
        simp [numOf]
      have hv' := hv.out
      subst hv'
      generalize numOf (byteAt s) 0 j = V at *
      have hb : s[j].toNat < 256 := s[j].toNat_lt
      replace e1 := hide e1
      have hV : V < 16777216 := by omega
      clear hv q1 q2
      go_wp2
      go_round
      case rel => exact ⟨j + 1, by omega, by go_num, hide (by rw [e1.out]; exact congrArg _ (by omega))⟩
      case measure => simp [intOf]; omega
    · have hx : j = 4 := by omega
      subst hx
      have hv' := hv.out
      subst hv'
      have q1 := num_lt s 0
      clear hv
      go_wp2
      go_ret
      exact ⟨rfl, rfl⟩

theorem cat_text (t : Dm) : wordV t.a ++ wordV t.n ++ wordV t.b ++ wordV t.y ++ strOfNums [one t.r] = textV t := by
  rw [text_is]
  unfold wordV strOfNums
  apply ByteArray.ext
  simp

theorem two_on {w x y : World} {A : Nat} {t : Dm} (h : Rat x A t ∧ Below w.heap.size w x) (hb : Below x.heap.size x y) : Rat y A t ∧ Below w.heap.size w y :=
  ⟨h.1.on hb, onto h.2 (Nat.le_refl _) hb⟩

set_option maxRecDepth 100000 in
set_option maxHeartbeats 4000000 in
theorem rtext_any {t : Dm} (ht : Wd t) (w : World) :
    Calls Tryz.prog 79 #[.agg (cellsD t)] w fun e w' => e = .returned (.string (textV t)) ∧ Below w.heap.size w w' := by
  obtain ⟨t1, t2, t3, t4, t5, t6, t7, t8, t9⟩ := dmRules
  obtain ⟨p0, p1, p2, p3, p4⟩ := dmParts
  have c1 := hide fun W => rword_any ht.a W
  have c2 := hide fun W => rword_any ht.n W
  have c3 := hide fun W => rword_any ht.b W
  have c4 := hide fun W => rword_any ht.y W
  have c5 := hide fun W => rbit_any t.r W
  have hc : ∀ x : World, (convert 56 9 (.slice (some ⟨x.heap.size, 0, none⟩) 1 1)).run Tryz.prog (x.alloc (.cells #[.int .u8 (one t.r)] 5)) = .ok (.string (strOfNums [one t.r])) (x.alloc (.cells #[.int .u8 (one t.r)] 5)) := fun x => conv_new x [one t.r] 1 rfl
  obtain ⟨o0, o1⟩ := one_w t.r
  rw [← cat_text]
  have z1 : (wordV t.a).size = 4 := strOfNums_size _
  have z2 : (wordV t.n).size = 4 := strOfNums_size _
  have z3 : (wordV t.b).size = 4 := strOfNums_size _
  have z4 : (wordV t.y).size = 4 := strOfNums_size _
  have z5 : (strOfNums [one t.r]).size = 1 := strOfNums_size _
  clear ht
  generalize wordV t.a = s1 at *
  generalize wordV t.n = s2 at *
  generalize wordV t.b = s3 at *
  generalize wordV t.y = s4 at *
  generalize strOfNums [one t.r] = s5 at *
  have hb0 : IntKind.u8.wrap (one t.r) = one t.r := by cases t.r <;> decide
  generalize one t.r = b at *
  go_enter Tryz.func79, Tryz.ntmps79
  go_wp2_with fail
  refine wp_region_held_drew (S := fun x => Rat x w.heap.size t ∧ Below w.heap.size w x) (by kernel_rfl) ⟨Rat.new w t 66, (grow w _).drew⟩ (fun hHeld => ?_)
  refine wpAnyH_take (i := 0) (oi := ⟨some 3, .fieldAddr 66 (.tmp 1) 0, 0, "ref.go:70", #[], none⟩) (v := ?_) rfl (by kernel_rfl) (by kernel_rfl) (by kernel_rfl) (fun _ _ _ h => h) (Or.inl ⟨by rfl, ?_⟩) (by assumption) ?_
  rotate_left
  · intro y hSw
    obtain ⟨q0, q1, q2, q3, q4⟩ := hSw.1.five
    go_simp
    try with_reducible rfl
  try simp only [Act.put, List.setIfInBounds_toArray, List.set_cons_zero, List.set_cons_succ]
  refine wpAnyH_take (i := 1) (oi := ⟨some 4, .load 22 (.tmp 3), 22, "ref.go:70", #[⟨0, .data⟩], none⟩) (v := ?_) rfl (by kernel_rfl) (by kernel_rfl) (by kernel_rfl) (fun _ _ _ h => h) (Or.inl ⟨by rfl, ?_⟩) (by assumption) ?_
  rotate_left
  · intro y hSw
    obtain ⟨q0, q1, q2, q3, q4⟩ := hSw.1.five
    go_simp
    try with_reducible rfl
  try simp only [Act.put, List.setIfInBounds_toArray, List.set_cons_zero, List.set_cons_succ]
  refine wpAnyH_take (i := 3) (oi := ⟨some 6, .fieldAddr 66 (.tmp 1) 1, 0, "ref.go:70", #[], none⟩) (v := ?_) rfl (by kernel_rfl) (by kernel_rfl) (by kernel_rfl) (fun _ _ _ h => h) (Or.inl ⟨by rfl, ?_⟩) (by assumption) ?_
  rotate_left
  · intro y hSw
    obtain ⟨q0, q1, q2, q3, q4⟩ := hSw.1.five
    go_simp
    try with_reducible rfl
  try simp only [Act.put, List.setIfInBounds_toArray, List.set_cons_zero, List.set_cons_succ]
  refine wpAnyH_take (i := 4) (oi := ⟨some 7, .load 22 (.tmp 6), 22, "ref.go:70", #[⟨3, .data⟩], none⟩) (v := ?_) rfl (by kernel_rfl) (by kernel_rfl) (by kernel_rfl) (fun _ _ _ h => h) (Or.inl ⟨by rfl, ?_⟩) (by assumption) ?_
  rotate_left
  · intro y hSw
    obtain ⟨q0, q1, q2, q3, q4⟩ := hSw.1.five
    go_simp
    try with_reducible rfl
  try simp only [Act.put, List.setIfInBounds_toArray, List.set_cons_zero, List.set_cons_succ]
  refine wpAnyH_take (i := 7) (oi := ⟨some 10, .fieldAddr 66 (.tmp 1) 2, 0, "ref.go:70", #[], none⟩) (v := ?_) rfl (by kernel_rfl) (by kernel_rfl) (by kernel_rfl) (fun _ _ _ h => h) (Or.inl ⟨by rfl, ?_⟩) (by assumption) ?_
  rotate_left
  · intro y hSw
    obtain ⟨q0, q1, q2, q3, q4⟩ := hSw.1.five
    go_simp
    try with_reducible rfl
  try simp only [Act.put, List.setIfInBounds_toArray, List.set_cons_zero, List.set_cons_succ]
  refine wpAnyH_take (i := 8) (oi := ⟨some 11, .load 22 (.tmp 10), 22, "ref.go:70", #[⟨7, .data⟩], none⟩) (v := ?_) rfl (by kernel_rfl) (by kernel_rfl) (by kernel_rfl) (fun _ _ _ h => h) (Or.inl ⟨by rfl, ?_⟩) (by assumption) ?_
  rotate_left
  · intro y hSw
    obtain ⟨q0, q1, q2, q3, q4⟩ := hSw.1.five
    go_simp
    try with_reducible rfl
  try simp only [Act.put, List.setIfInBounds_toArray, List.set_cons_zero, List.set_cons_succ]
  refine wpAnyH_take (i := 11) (oi := ⟨some 14, .fieldAddr 66 (.tmp 1) 3, 0, "ref.go:70", #[], none⟩) (v := ?_) rfl (by kernel_rfl) (by kernel_rfl) (by kernel_rfl) (fun _ _ _ h => h) (Or.inl ⟨by rfl, ?_⟩) (by assumption) ?_
  rotate_left
  · intro y hSw
    obtain ⟨q0, q1, q2, q3, q4⟩ := hSw.1.five
    go_simp
    try with_reducible rfl
  try simp only [Act.put, List.setIfInBounds_toArray, List.set_cons_zero, List.set_cons_succ]
  refine wpAnyH_take (i := 12) (oi := ⟨some 15, .load 22 (.tmp 14), 22, "ref.go:70", #[⟨11, .data⟩], none⟩) (v := ?_) rfl (by kernel_rfl) (by kernel_rfl) (by kernel_rfl) (fun _ _ _ h => h) (Or.inl ⟨by rfl, ?_⟩) (by assumption) ?_
  rotate_left
  · intro y hSw
    obtain ⟨q0, q1, q2, q3, q4⟩ := hSw.1.five
    go_simp
    try with_reducible rfl
  try simp only [Act.put, List.setIfInBounds_toArray, List.set_cons_zero, List.set_cons_succ]
  refine wpAnyH_take (i := 15) (oi := ⟨some 18, .fieldAddr 66 (.tmp 1) 4, 0, "ref.go:70", #[], none⟩) (v := ?_) rfl (by kernel_rfl) (by kernel_rfl) (by kernel_rfl) (fun _ _ _ h => h) (Or.inl ⟨by rfl, ?_⟩) (by assumption) ?_
  rotate_left
  · intro y hSw
    obtain ⟨q0, q1, q2, q3, q4⟩ := hSw.1.five
    go_simp
    try with_reducible rfl
  try simp only [Act.put, List.setIfInBounds_toArray, List.set_cons_zero, List.set_cons_succ]
  refine wpAnyH_take (i := 16) (oi := ⟨some 19, .load 4 (.tmp 18), 4, "ref.go:70", #[⟨15, .data⟩], none⟩) (v := ?_) rfl (by kernel_rfl) (by kernel_rfl) (by kernel_rfl) (fun _ _ _ h => h) (Or.inl ⟨by rfl, ?_⟩) (by assumption) ?_
  rotate_left
  · intro y hSw
    obtain ⟨q0, q1, q2, q3, q4⟩ := hSw.1.five
    go_simp
    try with_reducible rfl
  try simp only [Act.put, List.setIfInBounds_toArray, List.set_cons_zero, List.set_cons_succ]
  refine wpAnyH_ready (rs := [2]) (by kernel_rfl) (by simp) ?_
  refine AllReadyH.cons (o := ⟨some 5, .call { callee := .value (.func 80), args := #[.tmp 4], argTypes := #[22] }, 9, "ref.go:70", #[⟨1, .data⟩], none⟩) rfl (fun K hK => ?_) AllReadyH.nil
  go_simp
  refine (c1.out _).mono ?_
  rintro e w' ⟨rfl, hn⟩
  have hR := two_on hHeld hn
  clear hn
  go_wp2_with fail
  refine hK.out _ _ hR (fun hHeld => ?_)
  clear hK K
  try simp only [Act.put, List.setIfInBounds_toArray, List.set_cons_zero, List.set_cons_succ]
  refine wpAnyH_ready (rs := [5]) (by kernel_rfl) (by simp) ?_
  refine AllReadyH.cons (o := ⟨some 8, .call { callee := .value (.func 80), args := #[.tmp 7], argTypes := #[22] }, 9, "ref.go:70", #[⟨4, .data⟩, ⟨2, .chain⟩], none⟩) rfl (fun K hK => ?_) AllReadyH.nil
  go_simp
  refine (c2.out _).mono ?_
  rintro e w' ⟨rfl, hn⟩
  have hR := two_on hHeld hn
  clear hn
  go_wp2_with fail
  refine hK.out _ _ hR (fun hHeld => ?_)
  clear hK K
  try simp only [Act.put, List.setIfInBounds_toArray, List.set_cons_zero, List.set_cons_succ]
  refine wpAnyH_take (i := 6) (oi := ⟨some 9, .binOp .add 9 (.tmp 5) (.tmp 8) 9, 9, "ref.go:70", #[⟨2, .data⟩, ⟨5, .data⟩], none⟩) (v := ?_) rfl (by kernel_rfl) (by kernel_rfl) (by kernel_rfl) (fun _ _ _ h => h) (Or.inl ⟨by rfl, ?_⟩) (by assumption) ?_
  rotate_left
  · intro y hSw
    obtain ⟨q0, q1, q2, q3, q4⟩ := hSw.1.five
    go_simp
    try with_reducible rfl
  try simp only [Act.put, List.setIfInBounds_toArray, List.set_cons_zero, List.set_cons_succ]
  refine wpAnyH_ready (rs := [9]) (by kernel_rfl) (by simp) ?_
  refine AllReadyH.cons (o := ⟨some 12, .call { callee := .value (.func 80), args := #[.tmp 11], argTypes := #[22] }, 9, "ref.go:70", #[⟨8, .data⟩, ⟨5, .chain⟩], none⟩) rfl (fun K hK => ?_) AllReadyH.nil
  go_simp
  refine (c3.out _).mono ?_
  rintro e w' ⟨rfl, hn⟩
  have hR := two_on hHeld hn
  clear hn
  go_wp2_with fail
  refine hK.out _ _ hR (fun hHeld => ?_)
  clear hK K
  try simp only [Act.put, List.setIfInBounds_toArray, List.set_cons_zero, List.set_cons_succ]
  refine wpAnyH_take (i := 10) (oi := ⟨some 13, .binOp .add 9 (.tmp 9) (.tmp 12) 9, 9, "ref.go:70", #[⟨6, .data⟩, ⟨9, .data⟩], none⟩) (v := ?_) rfl (by kernel_rfl) (by kernel_rfl) (by kernel_rfl) (fun _ _ _ h => h) (Or.inl ⟨by rfl, ?_⟩) (by assumption) ?_
  rotate_left
  · intro y hSw
    obtain ⟨q0, q1, q2, q3, q4⟩ := hSw.1.five
    go_simp
    try with_reducible rfl
  try simp only [Act.put, List.setIfInBounds_toArray, List.set_cons_zero, List.set_cons_succ]
  refine wpAnyH_ready (rs := [13]) (by kernel_rfl) (by simp) ?_
  refine AllReadyH.cons (o := ⟨some 16, .call { callee := .value (.func 80), args := #[.tmp 15], argTypes := #[22] }, 9, "ref.go:70", #[⟨12, .data⟩, ⟨9, .chain⟩], none⟩) rfl (fun K hK => ?_) AllReadyH.nil
  go_simp
  refine (c4.out _).mono ?_
  rintro e w' ⟨rfl, hn⟩
  have hR := two_on hHeld hn
  clear hn
  go_wp2_with fail
  refine hK.out _ _ hR (fun hHeld => ?_)
  clear hK K
  try simp only [Act.put, List.setIfInBounds_toArray, List.set_cons_zero, List.set_cons_succ]
  refine wpAnyH_take (i := 14) (oi := ⟨some 17, .binOp .add 9 (.tmp 13) (.tmp 16) 9, 9, "ref.go:70", #[⟨10, .data⟩, ⟨13, .data⟩], none⟩) (v := ?_) rfl (by kernel_rfl) (by kernel_rfl) (by kernel_rfl) (fun _ _ _ h => h) (Or.inl ⟨by rfl, ?_⟩) (by assumption) ?_
  rotate_left
  · intro y hSw
    obtain ⟨q0, q1, q2, q3, q4⟩ := hSw.1.five
    go_simp
    try with_reducible rfl
  try simp only [Act.put, List.setIfInBounds_toArray, List.set_cons_zero, List.set_cons_succ]
  refine wpAnyH_ready (rs := [17]) (by kernel_rfl) (by simp) ?_
  refine AllReadyH.cons (o := ⟨some 20, .call { callee := .value (.func 103), args := #[.tmp 19], argTypes := #[4] }, 22, "ref.go:70", #[⟨16, .data⟩, ⟨13, .chain⟩], none⟩) rfl (fun K hK => ?_) AllReadyH.nil
  go_simp
  refine (c5.out _).mono ?_
  rintro e w' ⟨rfl, rfl⟩
  go_wp2_with fail
  refine hK.out _ _ hHeld (fun hHeld => ?_)
  clear hK K
  try simp only [Act.put, List.setIfInBounds_toArray, List.set_cons_zero, List.set_cons_succ]
  refine wpAnyH_take (i := 18) (oi := ⟨some 21, .convert 22 5 (.tmp 20), 5, "ref.go:70", #[⟨17, .data⟩], none⟩) (v := ?_) rfl (by kernel_rfl) (by kernel_rfl) (by kernel_rfl) (fun _ _ _ h => h) (Or.inl ⟨by rfl, ?_⟩) (by assumption) ?_
  rotate_left
  · intro y hSw
    obtain ⟨q0, q1, q2, q3, q4⟩ := hSw.1.five
    go_simp
    try with_reducible rfl
  try simp only [Act.put, List.setIfInBounds_toArray, List.set_cons_zero, List.set_cons_succ]
  refine wpAnyH_ready (rs := [19]) (by kernel_rfl) (by simp) ?_
  refine AllReadyH.cons (o := ⟨some 22, .buildSlice 56 1 #[(0, .tmp 21)], 56, "ref.go:70", #[⟨18, .data⟩], none⟩) rfl (fun K hK => ?_) AllReadyH.nil
  go_simp
  refine hK.out _ _ (two_on hHeld (grow _ _)) (fun hHeld => ?_)
  clear hK K
  try simp only [Act.put, List.setIfInBounds_toArray, List.set_cons_zero, List.set_cons_succ]
  refine wpAnyH_ready (rs := [20]) (by kernel_rfl) (by simp) ?_
  refine AllReadyH.cons (o := ⟨some 23, .convert 56 9 (.tmp 22), 9, "ref.go:70", #[⟨19, .data⟩], none⟩) rfl (fun K hK => ?_) AllReadyH.nil
  go_simp
  refine hK.out _ _ hHeld (fun hHeld => ?_)
  clear hK K
  try simp only [Act.put, List.setIfInBounds_toArray, List.set_cons_zero, List.set_cons_succ]
  refine wpAnyH_take (i := 21) (oi := ⟨some 24, .binOp .add 9 (.tmp 17) (.tmp 23) 9, 9, "ref.go:70", #[⟨14, .data⟩, ⟨20, .data⟩], none⟩) (v := ?_) rfl (by kernel_rfl) (by kernel_rfl) (by kernel_rfl) (fun _ _ _ h => h) (Or.inl ⟨by rfl, ?_⟩) (by assumption) ?_
  rotate_left
  · intro y hSw
    obtain ⟨q0, q1, q2, q3, q4⟩ := hSw.1.five
    go_simp
    try with_reducible rfl
  try simp only [Act.put, List.setIfInBounds_toArray, List.set_cons_zero, List.set_cons_succ]
  refine wpAnyH_take (i := 22) (oi := ⟨some 2, .assign (.tmp 24), 9, "ref.go:70", #[⟨21, .data⟩, ⟨17, .chain⟩, ⟨0, .phase⟩, ⟨1, .phase⟩, ⟨2, .phase⟩, ⟨3, .phase⟩, ⟨4, .phase⟩, ⟨5, .phase⟩, ⟨6, .phase⟩, ⟨7, .phase⟩, ⟨8, .phase⟩, ⟨9, .phase⟩, ⟨10, .phase⟩, ⟨11, .phase⟩, ⟨12, .phase⟩, ⟨13, .phase⟩, ⟨14, .phase⟩, ⟨15, .phase⟩, ⟨16, .phase⟩, ⟨17, .phase⟩, ⟨18, .phase⟩, ⟨19, .phase⟩, ⟨20, .phase⟩, ⟨21, .phase⟩], none⟩) (v := ?_) rfl (by kernel_rfl) (by kernel_rfl) (by kernel_rfl) (fun _ _ _ h => h) (Or.inl ⟨by rfl, ?_⟩) (by assumption) ?_
  rotate_left
  · intro y hSw
    obtain ⟨q0, q1, q2, q3, q4⟩ := hSw.1.five
    go_simp
    try with_reducible rfl
  try simp only [Act.put, List.setIfInBounds_toArray, List.set_cons_zero, List.set_cons_succ]
  refine wpAnyH_done (by kernel_rfl) ?_ _
  go_wp2
  go_ret
  exact ⟨rfl, hHeld.2⟩

end Go.Proofs.YthjcijlabpinkaaGreatDoor.Dm
