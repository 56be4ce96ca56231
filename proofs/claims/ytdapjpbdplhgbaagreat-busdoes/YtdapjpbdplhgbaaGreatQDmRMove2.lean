/- Layer 11: contract of the document's Move, the other way. -/
import Derived.Test.YtdapjpbdplhgbaaGreatQDmRMove
namespace Go.Proofs.YtdapjpbdplhgbaaGreat.Dm
open Go.RowKit
set_option linter.unusedVariables false
set_option maxRecDepth 100000
set_option linter.unusedSimpArgs false

/-- What the copying reads: the state, the document's memory. -/
def Reads (A p gb gd n : Nat) (B : Nat → Nat) (D : Nat → Bool) (t : Dm) (x : World) : Prop := Rat x A t ∧ RMem x p gb gd n B D

theorem Reads.all {A p gb gd n : Nat} {B : Nat → Nat} {D : Nat → Bool} {t : Dm} {x : World} (h : Reads A p gb gd n B D t x) {j : Nat} (hj : j < 256 * n) :
    (x.cell? ⟨A, 0, none⟩ = some (.int .u32 t.a) ∧ x.cell? ⟨A, 1, none⟩ = some (.int .u32 t.n)) ∧ x.cell? ⟨p, 0, none⟩ = some (.slice (some ⟨gb, 0, none⟩) (256 * n) (256 * n)) ∧ x.cell? ⟨gb, j, none⟩ = some (.int .u8 ((B j : Nat) : Int)) :=
  ⟨⟨h.1.five.1, h.1.five.2.1⟩, h.2.hb, h.2.by' j hj⟩

theorem Reads.far {A p gb gd n r : Nat} {B : Nat → Nat} {D : Nat → Bool} {t : Dm} {x y : World} (h : Reads A p gb gd n B D t x) (hg : x.grownBy y (some r)) (h1 : A ≠ r) (h2 : p ≠ r) (h3 : gb ≠ r) (h4 : gd ≠ r) : Reads A p gb gd n B D t y :=
  ⟨h.1.far hg h1, h.2.far hg h2 h3 h4⟩

set_option maxHeartbeats 2000000 in
set_option maxRecDepth 100000 in
theorem rmove_out {w : World} {p gb gd n : Nat} {B : Nat → Nat} {D : Nat → Bool} (R : RMem w p gb gd n B D) (a num : Nat) (tb ty : Int) (tr : Bool) (disk : ByteArray) (hz : disk.size = 1024) (hn : num < 16) (ha : a % 64 = 0) (hl : a + 64 ≤ 256 * n) :
    Calls Tryz.prog 82 #[.agg (cellsD ⟨(a : Int), (num : Int), tb, ty, tr⟩), .int .u32 2, .pointer (some ⟨p, 0, none⟩), .string disk] w fun e w' =>
      e = .returned (.string (outV B a num disk)) ∧ Below w.heap.size w w' := by
  obtain ⟨t1, t2, t3, t4, t5, t6, t7, t8, t9⟩ := dmRules
  obtain ⟨p0, p1, p2, p3, p4⟩ := dmParts
  obtain ⟨d1, d2, d3⟩ := dmDrew
  have n64 := R.n64
  have n4 := R.n4
  have e1 : ((disk.size : Int) != 1024) = false := by simp [hz]
  have e2 : decide (15 < (num : Int)) = false := by simp; omega
  have e3 : (a : Int).tmod 64 = 0 := by rw [Int.tmod_eq_emod_of_nonneg (by omega)]; omega
  have e4 : decide (256 * (n : Int) - 64 < (a : Int)) = false := by simp; omega
  have hw1 : IntKind.i64.wrap (a : Int) = (a : Int) := by rw [IntKind.wrap_i64]; omega
  have hw2 : IntKind.i64.wrap (256 * (n : Int) - 64) = 256 * (n : Int) - 64 := by rw [IntKind.wrap_i64]; omega
  have R0 := (R.on (grow w (.cells (cellsD ⟨(a : Int), (num : Int), tb, ty, tr⟩) 42))).drew
  have A0 : Rat (w.alloc (.cells (cellsD ⟨(a : Int), (num : Int), tb, ty, tr⟩) 42)).drew w.heap.size ⟨(a : Int), (num : Int), tb, ty, tr⟩ := Rat.new w _ 42
  have hcv := conv_row (w.alloc (.cells (cellsD ⟨(a : Int), (num : Int), tb, ty, tr⟩) 42)).drew disk
  have CP := copied R ⟨(a : Int), (num : Int), tb, ty, tr⟩ disk hz
  have zp := R.zp
  have zb := R.zb
  have zd := R.zd
  rw [hz] at hcv
  rw [show (w.alloc (.cells (cellsD ⟨(a : Int), (num : Int), tb, ty, tr⟩) 42)).drew.heap.size = w.heap.size + 1 by simp] at hcv
  obtain ⟨C, hC⟩ : ∃ C, C = grownCap (w.alloc (.cells (cellsD ⟨(a : Int), (num : Int), tb, ty, tr⟩) 42)).drew 1024 0 5 := ⟨_, rfl⟩
  rw [← hC] at hcv
  generalize rowWorld (w.alloc (.cells (cellsD ⟨(a : Int), (num : Int), tb, ty, tr⟩) 42)).drew disk = X1 at *
  have hb := R0.hb
  obtain ⟨l0, l1, -, -, -⟩ := A0.five
  replace CP := hide CP
  clear R0 A0 R
  have hCb : 1024 ≤ C := by rw [hC]; exact grownCap_ge _ 1024 0 5
  have hCm : C ≤ 9223372036854775807 := by rw [hC]; exact grownCap_le_maxLen _ 1024 0 5 (by unfold maxLen; omega)
  clear hC
  obtain ⟨V, hV⟩ : ∃ V, V = outV B a num disk := ⟨_, rfl⟩
  rw [← hV]
  replace hV := hide hV
  go_enter Tryz.func82, Tryz.ntmps82
  go_wp2
  go_region
  all_goals
    go_wp2
    go_loopw [10] (fun i x => i = .int .i64 0 ∧ x = X1) (fun _ _ => 0)
    case atStart => exact ⟨rfl, rfl⟩
    case round =>
      obtain ⟨rfl, hwx⟩ := hrel
      rw [hwx]
      clear hb l0 l1 hcv hwx
      go_wp2
      go_loopw [11] (fun i x => ∃ k : Nat, k ≤ 64 ∧ i = .int .i64 (k : Int) ∧ Hid (RowIs x (w.heap.size + 1) 1024 (secB (byteAt disk) (64 * num) k (fun j => B (a + j)))) ∧ Hid (X1.grownBy x (some (w.heap.size + 1)))) (fun i _ => 64 - (intOf i).toNat)
      case atStart => exact ⟨0, by omega, rfl, hide (CP.out.row.congr fun j _ => by unfold secB; rw [if_neg (by omega)]), hide (grownBy_refl _ _)⟩
      case round =>
        obtain ⟨k, hk, rfl, R, K⟩ := hrel
        by_cases h : k < 64
        · have H0 : Reads w.heap.size p gb gd n B D ⟨(a : Int), (num : Int), tb, ty, tr⟩ wr.drew := And.intro (Rat.on (CP.out.a.far K.out (by omega)) (Below.refl _ _).drew) (CP.out.r.far K.out (by omega) (by omega) (by omega)).drew
          replace H0 := hide H0
          have rc : ∃ v0 : Int, wr.drew.cell? ⟨w.heap.size + 1, 64 * num + k, none⟩ = some (.int .u8 v0) := ⟨_, R.out.cell (64 * num + k) (by omega)⟩
          replace rc := hide rc
          have rf : Hid (wr.drew.frozen? ⟨w.heap.size + 1, 64 * num + k, none⟩ = false) := hide (R.out.free (64 * num + k) (by omega))
          have R2 := hide ((R.out.set (k := 64 * num + k) (by omega) (B (a + k))).congr (g := secB (byteAt disk) (64 * num) (k + 1) (fun j => B (a + j))) fun j hj => by
            unfold secB
            by_cases e : j = 64 * num + k
            · subst e
              rw [if_pos rfl, if_pos (by omega), Nat.add_sub_cancel_left]
            · rw [if_neg e]
              by_cases l : 64 * num ≤ j ∧ j < 64 * num + k
              · rw [if_pos l, if_pos (by omega)]
              · rw [if_neg l, if_neg (by omega)])
          have K2 := hide (grownBy_trans K.out (grownBy_set wr (w.heap.size + 1) (64 * num + k) (.int .u8 ((B (a + k) : Nat) : Int))))
          clear R K
          go_wp2_with fail
          replace rf := rf.out
          obtain ⟨v0, rc⟩ := rc.out
          have w1 : IntKind.i64.wrap (a : Int) = (a : Int) := by rw [IntKind.wrap_i64]; omega
          have w2 : IntKind.i64.wrap ((a : Int) + (k : Int)) = (a : Int) + (k : Int) := by rw [IntKind.wrap_i64]; omega
          have w3 : IntKind.i64.wrap (num : Int) = (num : Int) := by rw [IntKind.wrap_i64]; omega
          have w4 : IntKind.i64.wrap (64 * (num : Int)) = 64 * (num : Int) := by rw [IntKind.wrap_i64]; omega
          have w5 : IntKind.i64.wrap (64 * (num : Int) + (k : Int)) = 64 * (num : Int) + (k : Int) := by rw [IntKind.wrap_i64]; omega
          have i1 : (a : Int) + (k : Int) < 256 * (n : Int) := by omega
          have i2 : (64 : Int) * (num : Int) + (k : Int) < 1024 := by omega
          have j1 : (0 : Int) ≤ (a : Int) + (k : Int) := by omega
          have j2 : ((a : Int) + (k : Int)).toNat = a + k := by omega
          have j3 : (0 : Int) ≤ 64 * (num : Int) + (k : Int) := by omega
          have j4 : (64 * (num : Int) + (k : Int)).toNat = 64 * num + k := by omega
          refine wp_region_held_drew (S := Reads w.heap.size p gb gd n B D ⟨(a : Int), (num : Int), tb, ty, tr⟩) (by kernel_rfl) H0.out (fun hHeld => ?_)
          refine wpAnyH_take (i := 0) (oi := { dst := some 74, op := Op.move (Operand.tmp 9), type := 55, pos := "ref.go:63", after := #[], guard := none }) (v := ?_) rfl (by kernel_rfl) (by kernel_rfl) (by kernel_rfl) (fun _ _ _ h => h) (Or.inl ⟨by rfl, ?_⟩) (by assumption) ?_
          rotate_left
          · intro y hSw
            obtain ⟨⟨q0, q1⟩, q2, q3⟩ := hSw.all (show a + k < 256 * n by omega)
            go_simp
            try with_reducible rfl
          try simp only [Act.put, List.setIfInBounds_toArray, List.set_cons_zero, List.set_cons_succ]
          refine wpAnyH_take (i := 1) (oi := { dst := some 75, op := Op.fieldAddr 42 (Operand.tmp 4) 1, type := 0, pos := "ref.go:63", after := #[], guard := none }) (v := ?_) rfl (by kernel_rfl) (by kernel_rfl) (by kernel_rfl) (fun _ _ _ h => h) (Or.inl ⟨by rfl, ?_⟩) (by assumption) ?_
          rotate_left
          · intro y hSw
            obtain ⟨⟨q0, q1⟩, q2, q3⟩ := hSw.all (show a + k < 256 * n by omega)
            go_simp
            try with_reducible rfl
          try simp only [Act.put, List.setIfInBounds_toArray, List.set_cons_zero, List.set_cons_succ]
          refine wpAnyH_take (i := 2) (oi := { dst := some 76, op := Op.load 30 (Operand.tmp 75), type := 30, pos := "ref.go:63", after := #[{ on := 1, ground := Ground.data }], guard := none }) (v := ?_) rfl (by kernel_rfl) (by kernel_rfl) (by kernel_rfl) (fun _ _ _ h => h) (Or.inl ⟨by rfl, ?_⟩) (by assumption) ?_
          rotate_left
          · intro y hSw
            obtain ⟨⟨q0, q1⟩, q2, q3⟩ := hSw.all (show a + k < 256 * n by omega)
            go_simp
            try with_reducible rfl
          try simp only [Act.put, List.setIfInBounds_toArray, List.set_cons_zero, List.set_cons_succ]
          refine wpAnyH_take (i := 3) (oi := { dst := some 77, op := Op.convert 30 3 (Operand.tmp 76), type := 3, pos := "ref.go:63", after := #[{ on := 2, ground := Ground.data }], guard := none }) (v := ?_) rfl (by kernel_rfl) (by kernel_rfl) (by kernel_rfl) (fun _ _ _ h => h) (Or.inl ⟨by rfl, ?_⟩) (by assumption) ?_
          rotate_left
          · intro y hSw
            obtain ⟨⟨q0, q1⟩, q2, q3⟩ := hSw.all (show a + k < 256 * n by omega)
            go_simp
            try with_reducible rfl
          try simp only [Act.put, List.setIfInBounds_toArray, List.set_cons_zero, List.set_cons_succ]
          refine wpAnyH_take (i := 4) (oi := { dst := some 78, op := Op.binOp BinOp.mul 3 (Operand.const (Value.int IntKind.i64 64)) (Operand.tmp 77) 3, type := 3, pos := "ref.go:63", after := #[{ on := 3, ground := Ground.data }], guard := none }) (v := ?_) rfl (by kernel_rfl) (by kernel_rfl) (by kernel_rfl) (fun _ _ _ h => h) (Or.inl ⟨by rfl, ?_⟩) (by assumption) ?_
          rotate_left
          · intro y hSw
            obtain ⟨⟨q0, q1⟩, q2, q3⟩ := hSw.all (show a + k < 256 * n by omega)
            go_simp
            try with_reducible rfl
          try simp only [Act.put, List.setIfInBounds_toArray, List.set_cons_zero, List.set_cons_succ]
          refine wpAnyH_take (i := 5) (oi := { dst := some 79, op := Op.move (Operand.tmp 11), type := 3, pos := "ref.go:63", after := #[], guard := none }) (v := ?_) rfl (by kernel_rfl) (by kernel_rfl) (by kernel_rfl) (fun _ _ _ h => h) (Or.inl ⟨by rfl, ?_⟩) (by assumption) ?_
          rotate_left
          · intro y hSw
            obtain ⟨⟨q0, q1⟩, q2, q3⟩ := hSw.all (show a + k < 256 * n by omega)
            go_simp
            try with_reducible rfl
          try simp only [Act.put, List.setIfInBounds_toArray, List.set_cons_zero, List.set_cons_succ]
          refine wpAnyH_take (i := 6) (oi := { dst := some 80, op := Op.binOp BinOp.add 3 (Operand.tmp 78) (Operand.tmp 79) 3, type := 3, pos := "ref.go:63", after := #[{ on := 4, ground := Ground.data }, { on := 5, ground := Ground.data }], guard := none }) (v := ?_) rfl (by kernel_rfl) (by kernel_rfl) (by kernel_rfl) (fun _ _ _ h => h) (Or.inl ⟨by rfl, ?_⟩) (by assumption) ?_
          rotate_left
          · intro y hSw
            obtain ⟨⟨q0, q1⟩, q2, q3⟩ := hSw.all (show a + k < 256 * n by omega)
            go_simp
            try with_reducible rfl
          try simp only [Act.put, List.setIfInBounds_toArray, List.set_cons_zero, List.set_cons_succ]
          refine wpAnyH_take (i := 7) (oi := { dst := some 81, op := Op.move (Operand.tmp 2), type := 44, pos := "ref.go:63", after := #[], guard := none }) (v := ?_) rfl (by kernel_rfl) (by kernel_rfl) (by kernel_rfl) (fun _ _ _ h => h) (Or.inl ⟨by rfl, ?_⟩) (by assumption) ?_
          rotate_left
          · intro y hSw
            obtain ⟨⟨q0, q1⟩, q2, q3⟩ := hSw.all (show a + k < 256 * n by omega)
            go_simp
            try with_reducible rfl
          try simp only [Act.put, List.setIfInBounds_toArray, List.set_cons_zero, List.set_cons_succ]
          refine wpAnyH_take (i := 8) (oi := { dst := some 82, op := Op.nilCheck (Operand.tmp 81), type := 0, pos := "ref.go:63", after := #[{ on := 7, ground := Ground.data }], guard := none }) (v := ?_) rfl (by kernel_rfl) (by kernel_rfl) (by kernel_rfl) (fun _ _ _ h => h) (Or.inl ⟨by rfl, ?_⟩) (by assumption) ?_
          rotate_left
          · intro y hSw
            obtain ⟨⟨q0, q1⟩, q2, q3⟩ := hSw.all (show a + k < 256 * n by omega)
            go_simp
            try with_reducible rfl
          try simp only [Act.put, List.setIfInBounds_toArray, List.set_cons_zero, List.set_cons_succ]
          refine wpAnyH_take (i := 9) (oi := { dst := some 83, op := Op.fieldAddr 58 (Operand.tmp 82) 0, type := 0, pos := "ref.go:63", after := #[{ on := 8, ground := Ground.data }], guard := none }) (v := ?_) rfl (by kernel_rfl) (by kernel_rfl) (by kernel_rfl) (fun _ _ _ h => h) (Or.inl ⟨by rfl, ?_⟩) (by assumption) ?_
          rotate_left
          · intro y hSw
            obtain ⟨⟨q0, q1⟩, q2, q3⟩ := hSw.all (show a + k < 256 * n by omega)
            go_simp
            try with_reducible rfl
          try simp only [Act.put, List.setIfInBounds_toArray, List.set_cons_zero, List.set_cons_succ]
          refine wpAnyH_take (i := 10) (oi := { dst := some 84, op := Op.load 55 (Operand.tmp 83), type := 55, pos := "ref.go:63", after := #[{ on := 9, ground := Ground.data }], guard := none }) (v := ?_) rfl (by kernel_rfl) (by kernel_rfl) (by kernel_rfl) (fun _ _ _ h => h) (Or.inl ⟨by rfl, ?_⟩) (by assumption) ?_
          rotate_left
          · intro y hSw
            obtain ⟨⟨q0, q1⟩, q2, q3⟩ := hSw.all (show a + k < 256 * n by omega)
            go_simp
            try with_reducible rfl
          try simp only [Act.put, List.setIfInBounds_toArray, List.set_cons_zero, List.set_cons_succ]
          refine wpAnyH_take (i := 11) (oi := { dst := some 85, op := Op.fieldAddr 42 (Operand.tmp 4) 0, type := 0, pos := "ref.go:63", after := #[], guard := none }) (v := ?_) rfl (by kernel_rfl) (by kernel_rfl) (by kernel_rfl) (fun _ _ _ h => h) (Or.inl ⟨by rfl, ?_⟩) (by assumption) ?_
          rotate_left
          · intro y hSw
            obtain ⟨⟨q0, q1⟩, q2, q3⟩ := hSw.all (show a + k < 256 * n by omega)
            go_simp
            try with_reducible rfl
          try simp only [Act.put, List.setIfInBounds_toArray, List.set_cons_zero, List.set_cons_succ]
          refine wpAnyH_take (i := 12) (oi := { dst := some 86, op := Op.load 30 (Operand.tmp 85), type := 30, pos := "ref.go:63", after := #[{ on := 11, ground := Ground.data }], guard := none }) (v := ?_) rfl (by kernel_rfl) (by kernel_rfl) (by kernel_rfl) (fun _ _ _ h => h) (Or.inl ⟨by rfl, ?_⟩) (by assumption) ?_
          rotate_left
          · intro y hSw
            obtain ⟨⟨q0, q1⟩, q2, q3⟩ := hSw.all (show a + k < 256 * n by omega)
            go_simp
            try with_reducible rfl
          try simp only [Act.put, List.setIfInBounds_toArray, List.set_cons_zero, List.set_cons_succ]
          refine wpAnyH_take (i := 13) (oi := { dst := some 87, op := Op.convert 30 3 (Operand.tmp 86), type := 3, pos := "ref.go:63", after := #[{ on := 12, ground := Ground.data }], guard := none }) (v := ?_) rfl (by kernel_rfl) (by kernel_rfl) (by kernel_rfl) (fun _ _ _ h => h) (Or.inl ⟨by rfl, ?_⟩) (by assumption) ?_
          rotate_left
          · intro y hSw
            obtain ⟨⟨q0, q1⟩, q2, q3⟩ := hSw.all (show a + k < 256 * n by omega)
            go_simp
            try with_reducible rfl
          try simp only [Act.put, List.setIfInBounds_toArray, List.set_cons_zero, List.set_cons_succ]
          refine wpAnyH_take (i := 14) (oi := { dst := some 88, op := Op.move (Operand.tmp 11), type := 3, pos := "ref.go:63", after := #[], guard := none }) (v := ?_) rfl (by kernel_rfl) (by kernel_rfl) (by kernel_rfl) (fun _ _ _ h => h) (Or.inl ⟨by rfl, ?_⟩) (by assumption) ?_
          rotate_left
          · intro y hSw
            obtain ⟨⟨q0, q1⟩, q2, q3⟩ := hSw.all (show a + k < 256 * n by omega)
            go_simp
            try with_reducible rfl
          try simp only [Act.put, List.setIfInBounds_toArray, List.set_cons_zero, List.set_cons_succ]
          refine wpAnyH_take (i := 15) (oi := { dst := some 89, op := Op.binOp BinOp.add 3 (Operand.tmp 87) (Operand.tmp 88) 3, type := 3, pos := "ref.go:63", after := #[{ on := 13, ground := Ground.data }, { on := 14, ground := Ground.data }], guard := none }) (v := ?_) rfl (by kernel_rfl) (by kernel_rfl) (by kernel_rfl) (fun _ _ _ h => h) (Or.inl ⟨by rfl, ?_⟩) (by assumption) ?_
          rotate_left
          · intro y hSw
            obtain ⟨⟨q0, q1⟩, q2, q3⟩ := hSw.all (show a + k < 256 * n by omega)
            go_simp
            try with_reducible rfl
          try simp only [Act.put, List.setIfInBounds_toArray, List.set_cons_zero, List.set_cons_succ]
          refine wpAnyH_take (i := 16) (oi := { dst := some 90, op := Op.indexAddr 55 (Operand.tmp 84) (Operand.tmp 89), type := 0, pos := "ref.go:63", after := #[{ on := 10, ground := Ground.data }, { on := 15, ground := Ground.data }], guard := none }) (v := ?_) rfl (by kernel_rfl) (by kernel_rfl) (by kernel_rfl) (fun _ _ _ h => h) (Or.inl ⟨by rfl, ?_⟩) (by assumption) ?_
          rotate_left
          · intro y hSw
            obtain ⟨⟨q0, q1⟩, q2, q3⟩ := hSw.all (show a + k < 256 * n by omega)
            go_simp
            try with_reducible rfl
          try simp only [Act.put, List.setIfInBounds_toArray, List.set_cons_zero, List.set_cons_succ]
          refine wpAnyH_take (i := 17) (oi := { dst := some 91, op := Op.load 5 (Operand.tmp 90), type := 5, pos := "ref.go:63", after := #[{ on := 16, ground := Ground.data }], guard := none }) (v := ?_) rfl (by kernel_rfl) (by kernel_rfl) (by kernel_rfl) (fun _ _ _ h => h) (Or.inl ⟨by rfl, ?_⟩) (by assumption) ?_
          rotate_left
          · intro y hSw
            obtain ⟨⟨q0, q1⟩, q2, q3⟩ := hSw.all (show a + k < 256 * n by omega)
            go_simp
            try with_reducible rfl
          try simp only [Act.put, List.setIfInBounds_toArray, List.set_cons_zero, List.set_cons_succ]
          refine wpAnyH_take (i := 18) (oi := { dst := some 92, op := Op.indexAddr 55 (Operand.tmp 74) (Operand.tmp 80), type := 0, pos := "ref.go:63", after := #[{ on := 0, ground := Ground.data }, { on := 6, ground := Ground.data }, { on := 0, ground := Ground.phase }, { on := 1, ground := Ground.phase }, { on := 2, ground := Ground.phase }, { on := 3, ground := Ground.phase }, { on := 4, ground := Ground.phase }, { on := 5, ground := Ground.phase }, { on := 6, ground := Ground.phase }, { on := 7, ground := Ground.phase }, { on := 8, ground := Ground.phase }, { on := 9, ground := Ground.phase }, { on := 10, ground := Ground.phase }, { on := 11, ground := Ground.phase }, { on := 12, ground := Ground.phase }, { on := 13, ground := Ground.phase }, { on := 14, ground := Ground.phase }, { on := 15, ground := Ground.phase }, { on := 16, ground := Ground.phase }, { on := 17, ground := Ground.phase }], guard := none }) (v := ?_) rfl (by kernel_rfl) (by kernel_rfl) (by kernel_rfl) (fun _ _ _ h => h) (Or.inl ⟨by rfl, ?_⟩) (by assumption) ?_
          rotate_left
          · intro y hSw
            obtain ⟨⟨q0, q1⟩, q2, q3⟩ := hSw.all (show a + k < 256 * n by omega)
            go_simp
            try with_reducible rfl
          try simp only [Act.put, List.setIfInBounds_toArray, List.set_cons_zero, List.set_cons_succ]
          refine wpAnyH_ready (rs := [19]) (by kernel_rfl) (by simp) ?_
          refine AllReadyH.cons (o := { dst := none, op := Op.store 5 (Operand.tmp 92) (Operand.tmp 91), type := 0, pos := "ref.go:63", after := #[{ on := 18, ground := Ground.data }, { on := 17, ground := Ground.data }, { on := 0, ground := Ground.phase }, { on := 1, ground := Ground.phase }, { on := 2, ground := Ground.phase }, { on := 3, ground := Ground.phase }, { on := 4, ground := Ground.phase }, { on := 5, ground := Ground.phase }, { on := 6, ground := Ground.phase }, { on := 7, ground := Ground.phase }, { on := 8, ground := Ground.phase }, { on := 9, ground := Ground.phase }, { on := 10, ground := Ground.phase }, { on := 11, ground := Ground.phase }, { on := 12, ground := Ground.phase }, { on := 13, ground := Ground.phase }, { on := 14, ground := Ground.phase }, { on := 15, ground := Ground.phase }, { on := 16, ground := Ground.phase }, { on := 17, ground := Ground.phase }], guard := none }) rfl (fun K hK => ?_) AllReadyH.nil
          go_simp
          refine hK.out _ _ (hHeld.far (r := w.heap.size + 1) (grownBy_set _ _ _ _) (by omega) (by omega) (by omega) (by omega)) (fun hHeld => ?_)
          clear hK K
          try simp only [Act.put, List.setIfInBounds_toArray, List.set_cons_zero, List.set_cons_succ]
          refine wpAnyH_done (by kernel_rfl) ?_ _
          go_wp2_with fail
          go_roundw
          case rel => exact ⟨k + 1, by omega, by go_num, hide (R2.out.keep rfl), hide (grownBy_trans K2.out (grownBy_of (Below.refl _ _).drew _))⟩
          case measure => simp [intOf]; omega
        · obtain rfl : k = 64 := by omega
          have hback := conv_back R.out C
          have e : textOf 1024 (secB (byteAt disk) (64 * num) 64 (fun j => B (a + j))) = V := hV.out.symm
          rw [e] at hback
          have K2 := hide (CP.out.be.grown K.out (CP.out.be.size) (fun k hk => by cases hk; omega))
          clear R K e
          go_wp2
          go_ret
          exact ⟨rfl, K2.out⟩

end Go.Proofs.YtdapjpbdplhgbaaGreat.Dm
