/- The document's memory: Store, Put. -/
import Derived.Test.YtifkldlhoaipbaaMemR2
namespace Go.Proofs.Ytifkldlhoaipbaa
open Go.RowKit
set_option linter.unusedVariables false
set_option linter.unusedSimpArgs false

/-- Nothing but three blocks has changed. -/
structure RKept (a b c : Nat) (w w' : World) : Prop where
  os : w'.os = w.os
  tape : w'.tape = w.tape
  output : w'.output = w.output
  size : w.heap.size ≤ w'.heap.size
  block : ∀ k, k < w.heap.size → k ≠ a → k ≠ b → k ≠ c → w'.heap[k]? = w.heap[k]?

theorem RKept.refl (a b c : Nat) (w : World) : RKept a b c w w := ⟨rfl, rfl, rfl, Nat.le_refl _, fun _ _ _ _ _ => rfl⟩

theorem RKept.trans {a b c : Nat} {x y z : World} (h : RKept a b c x y) (k : RKept a b c y z) : RKept a b c x z :=
  ⟨k.os.trans h.os, k.tape.trans h.tape, k.output.trans h.output, Nat.le_trans h.size k.size, fun i hi h1 h2 h3 => (k.block i (Nat.lt_of_lt_of_le hi h.size) h1 h2 h3).trans (h.block i hi h1 h2 h3)⟩

theorem RKept.of1 {a b c : Nat} {x y : World} (h : x.grownBy y (some a)) : RKept a b c x y := ⟨h.os, h.tape, h.output, h.size, fun k hk h1 _ _ => h.block k hk (by simpa using h1)⟩

theorem RKept.of2 {a b c : Nat} {x y : World} (h : x.grownBy y (some b)) : RKept a b c x y := ⟨h.os, h.tape, h.output, h.size, fun k hk _ h1 _ => h.block k hk (by simpa using h1)⟩

theorem RKept.of3 {a b c : Nat} {x y : World} (h : x.grownBy y (some c)) : RKept a b c x y := ⟨h.os, h.tape, h.output, h.size, fun k hk _ _ h1 => h.block k hk (by simpa using h1)⟩

theorem RKept.drew {a b c : Nat} {x y : World} (h : RKept a b c x y) : RKept a b c x y.drew := ⟨h.os, h.tape, h.output, h.size, h.block⟩

theorem RKept.below {a b c : Nat} {w x y : World} (h : Below w.heap.size w x) (k : RKept a b c x y) (h1 : w.heap.size ≤ a) (h2 : w.heap.size ≤ b) (h3 : w.heap.size ≤ c) : Below w.heap.size w y :=
  h.trans ⟨k.os, k.tape, k.output, k.size, fun i hi => k.block i (Nat.lt_of_lt_of_le hi h.size) (by omega) (by omega) (by omega)⟩

theorem RKept.mem {a b c : Nat} {x y : World} (k : RKept a b c x y) {p g n cc : Nat} {B : Nat → Nat} {D : Nat → Bool} (M : Mem x p g n cc B D) (p1 : p ≠ a) (p2 : p ≠ b) (p3 : p ≠ c) (g1 : g ≠ a) (g2 : g ≠ b) (g3 : g ≠ c) : Mem y p g n cc B D :=
  M.keep k.size (k.block p M.zp p1 p2 p3) (k.block g M.zg g1 g2 g3)

theorem RMem.setB {w : World} {p gb gd n : Nat} {B : Nat → Nat} {D : Nat → Bool} (R : RMem w p gb gd n B D) (j b : Nat) (hj : j < 256 * n) (hb : b < 256) :
    RMem (w.setCell ⟨gb, j, none⟩ (.int .u8 ((b : Nat) : Int))) p gb gd n (fun x => if x = j then b else B x) D := by
  refine ⟨by simpa using R.zp, by simpa using R.zb, by simpa using R.zd, R.n1, R.n2, R.n3, R.n4, R.n64, ?_, ?_, ?_, ?_, ?_, ?_, ?_, ?_⟩
  · rw [World.cell?_setCell_other _ _ _ _ (by intro e; injection e with e1; exact R.n1 e1.symm)]; exact R.hb
  · rw [World.cell?_setCell_other _ _ _ _ (by intro e; injection e with e1; exact R.n1 e1.symm)]; exact R.hd
  · intro x hx
    by_cases e : x = j
    · subst e
      rw [World.cell?_setCell_same _ _ _ (R.by' x hx), if_pos rfl]
    · rw [World.cell?_setCell_other _ _ _ _ (by intro c; injection c with _ c2; omega), if_neg e]; exact R.by' x hx
  · intro k hk
    rw [World.cell?_setCell_other _ _ _ _ (by intro e; injection e with e1; exact R.n3 e1)]; exact R.di k hk
  · intro o; rw [World.frozen?_setCell]; exact R.fp o
  · intro o; rw [World.frozen?_setCell]; exact R.fb o
  · intro o; rw [World.frozen?_setCell]; exact R.fd o
  · intro x; split
    · exact hb
    · exact R.lt x

theorem RMem.setD {w : World} {p gb gd n : Nat} {B : Nat → Nat} {D : Nat → Bool} (R : RMem w p gb gd n B D) (k : Nat) (hk : k < n) :
    RMem (w.setCell ⟨gd, k, none⟩ (.bool true)) p gb gd n B (putD D k) := by
  refine ⟨by simpa using R.zp, by simpa using R.zb, by simpa using R.zd, R.n1, R.n2, R.n3, R.n4, R.n64, ?_, ?_, ?_, ?_, ?_, ?_, ?_, R.lt⟩
  · rw [World.cell?_setCell_other _ _ _ _ (by intro e; injection e with e1; exact R.n2 e1.symm)]; exact R.hb
  · rw [World.cell?_setCell_other _ _ _ _ (by intro e; injection e with e1; exact R.n2 e1.symm)]; exact R.hd
  · intro x hx
    rw [World.cell?_setCell_other _ _ _ _ (by intro e; injection e with e1; exact R.n3 e1.symm)]; exact R.by' x hx
  · intro i hi
    unfold putD
    by_cases e : i = k
    · subst e
      rw [World.cell?_setCell_same _ _ _ (R.di i hi), if_pos rfl]
    · rw [World.cell?_setCell_other _ _ _ _ (by intro c; injection c with _ c2; omega), if_neg e]; exact R.di i hi
  · intro o; rw [World.frozen?_setCell]; exact R.fp o
  · intro o; rw [World.frozen?_setCell]; exact R.fb o
  · intro o; rw [World.frozen?_setCell]; exact R.fd o

theorem RMem.congr {w : World} {p gb gd n : Nat} {B B' : Nat → Nat} {D : Nat → Bool} (R : RMem w p gb gd n B D) (e : ∀ j, j < 256 * n → B j = B' j) (l : ∀ j, B' j < 256) : RMem w p gb gd n B' D :=
  ⟨R.zp, R.zb, R.zd, R.n1, R.n2, R.n3, R.n4, R.n64, R.hb, R.hd, fun j hj => by rw [← e j hj]; exact R.by' j hj, R.di, R.fp, R.fb, R.fd, l⟩

theorem RMem.drew {w : World} {p gb gd n : Nat} {B : Nat → Nat} {D : Nat → Bool} (R : RMem w p gb gd n B D) : RMem w.drew p gb gd n B D := R.on (Below.refl _ _).drew

theorem rstore_bad {w : World} {p gb gd n : Nat} {B : Nat → Nat} {D : Nat → Bool} (R : RMem w p gb gd n B D) (A s v : Int) (a0 : 0 ≤ A) (a1 : A < 4294967296)
    (h : ¬ ((s = 1 ∨ s = 2 ∨ s = 4) ∧ A % s = 0 ∧ A + s ≤ 256 * n)) :
    Calls Try.prog 42 #[.pointer (some ⟨p, 0, none⟩), .int .u32 A, .int .i64 s, .int .u32 v] w fun e w' => e = .returned (.int .i64 61) ∧ w' = w := by
  have F := rmay_no R A s a0 a1 h
  clear h
  go_enter Try.func42, Try.ntmps42
  go_wp2_with fail
  refine F.mono ?_
  rintro e w' ⟨rfl, rfl⟩
  go_wp2
  go_ret
  exact ⟨rfl, rfl⟩

/-- The bytes when all but the first m of s are stored. -/
def partB (B : Nat → Nat) (a s v m : Nat) : Nat → Nat := fun x => if a + m ≤ x ∧ x < a + s then byteOf v s (x - a) else B x

theorem partB_lt {B : Nat → Nat} (l : ∀ j, B j < 256) (a s v m j : Nat) : partB B a s v m j < 256 := by
  unfold partB
  split
  · exact byteOf_lt _ _ _
  · exact l j

set_option maxHeartbeats 1000000 in
set_option maxRecDepth 100000 in
theorem rstore_any {w : World} {p gb gd n : Nat} {B : Nat → Nat} {D : Nat → Bool} (R : RMem w p gb gd n B D) (a s v : Nat) (a1 : a < 4294967296) (hv : v < 4294967296) (h : may n a s) :
    Calls Try.prog 42 #[.pointer (some ⟨p, 0, none⟩), .int .u32 (a : Int), .int .i64 (s : Int), .int .u32 (v : Int)] w fun e w' =>
      e = .returned (.int .i64 0) ∧ RMem w' p gb gd n (putB B a s v) (putD D (a / 256)) ∧ RKept p gb gd w w' := by
  have F := rmay_yes R a s h
  obtain ⟨h1, h2, h3⟩ := h
  have n64 := R.n64
  have hs4 : s ≤ 4 := by omega
  have hs0 : 0 < s := by omega
  have a2 : a + s ≤ 16384 := by omega
  have R0 := hide R
  clear R h1 h2
  go_enter Try.func42, Try.ntmps42
  go_wp2_with fail
  refine F.mono ?_
  rintro e w' ⟨rfl, rfl⟩
  clear F
  go_wp2
  go_loopw [9, 10] (fun t i wr => ∃ m : Nat, m ≤ s ∧ i = .int .i64 ((m : Int) - 1) ∧ t = .int .i64 ((v / 256 ^ (s - m) : Nat) : Int) ∧ Hid (RMem wr p gb gd n (partB B a s v m) D) ∧ Hid (RKept p gb gd w' wr)) (fun _ i _ => (intOf i + 1).toNat)
  case atStart => exact ⟨s, by omega, by go_num, by simp, hide (R0.out.congr (fun j hj => by unfold partB; rw [if_neg (by omega)]) (partB_lt R0.out.lt a s v s)), hide (RKept.refl _ _ _ _)⟩
  case round =>
    obtain ⟨m, hm, rfl, rfl, R, K⟩ := hrel
    have hb := R.out.hb
    have hd := R.out.hd
    by_cases hm0 : 0 < m
    · obtain ⟨q, rfl⟩ : ∃ q, m = q + 1 := ⟨m - 1, by omega⟩
      have hc := R.out.by' (a + q) (by omega)
      have hf := R.out.fb (a + q)
      have hbv : byteOf v s q = v / 256 ^ (s - (q + 1)) % 256 := by unfold byteOf; rw [show s - 1 - q = s - (q + 1) by omega]
      have hdv : v / 256 ^ (s - (q + 1)) / 256 = v / 256 ^ (s - q) := by rw [Nat.div_div_eq_div_mul, ← Nat.pow_succ, show (s - (q + 1)).succ = s - q by omega]
      have hvl : v / 256 ^ (s - (q + 1)) < 4294967296 := Nat.lt_of_le_of_lt (Nat.div_le_self _ _) hv
      obtain ⟨x, hx⟩ : ∃ x, x = v / 256 ^ (s - (q + 1)) := ⟨_, rfl⟩
      rw [← hx] at hbv hdv hvl ⊢
      have R2 := hide ((R.out.setB (a + q) (x % 256) (by omega) (Nat.mod_lt _ (by decide))).congr (B' := partB B a s v q) (fun j hj => by
        unfold partB
        by_cases e : j = a + q
        · subst e
          rw [if_pos rfl, if_pos (by omega), Nat.add_sub_cancel_left, hbv]
        · rw [if_neg e]
          by_cases l : a + (q + 1) ≤ j ∧ j < a + s
          · rw [if_pos l, if_pos (by omega)]
          · rw [if_neg l, if_neg (by omega)]) (partB_lt R0.out.lt a s v q))
      have K2 := hide (K.out.trans (RKept.of2 (grownBy_set wr gb (a + q) (.int .u8 ((x % 256 : Nat) : Int)))))
      have hdv := hide hdv
      clear hx R K hbv
      have hcast : ((x % 256 : Nat) : Int) = (x : Int) % 256 := by omega
      rw [hcast] at R2 K2
      go_wp2
      go_roundw
      case rel => exact ⟨q, by omega, by go_num, by rw [← hdv.out]; go_num, R2, K2⟩
      case measure => simp [intOf]
    · obtain rfl : m = 0 := by omega
      have hc := R.out.di (a / 256) (by omega)
      have hf := R.out.fd (a / 256)
      have R2 := hide ((R.out.setD (a / 256) (by omega)).congr (B' := putB B a s v) (fun j hj => by unfold partB putB; rfl) (putB_lt R0.out.lt a s v))
      have K2 := hide (K.out.trans (RKept.of3 (grownBy_set wr gd (a / 256) (.bool true))))
      obtain ⟨ka, hka, hk2⟩ : ∃ ka : Nat, (a : Int) / 256 = (ka : Int) ∧ Hid (ka = a / 256) := ⟨a / 256, by omega, hide rfl⟩
      rw [← hk2.out] at hc hf R2 K2
      have hkn : ka < n := by rw [hk2.out]; omega
      clear R K
      go_wp2
      go_ret
      refine ⟨rfl, ?_, K2.out⟩
      rw [← hk2.out]
      exact R2.out

theorem rput_bad {w : World} {p gb gd n : Nat} {B : Nat → Nat} {D : Nat → Bool} (R : RMem w p gb gd n B D) (k : Int) (s : ByteArray) (h : ¬ (0 ≤ k ∧ k < n)) :
    Calls Try.prog 36 #[.pointer (some ⟨p, 0, none⟩), .int .i64 k, .string s] w fun e w' => e = .returned (.int .i64 61) ∧ w' = w := by
  have hd := R.hd
  have n64 := R.n64
  by_cases h0 : k < 0
  · go_enter Try.func36, Try.ntmps36
    go_wp2
    go_ret
    exact ⟨rfl, rfl⟩
  · have h1 : (n : Int) ≤ k := by omega
    go_enter Try.func36, Try.ntmps36
    go_wp2
    go_ret
    exact ⟨rfl, rfl⟩

theorem rput_size {w : World} {p gb gd n : Nat} {B : Nat → Nat} {D : Nat → Bool} (R : RMem w p gb gd n B D) (k : Nat) (s : ByteArray) (h : k < n) (hs : s.size ≠ 256) :
    Calls Try.prog 36 #[.pointer (some ⟨p, 0, none⟩), .int .i64 (k : Int), .string s] w fun e w' => e = .returned (.int .i64 60) ∧ w' = w := by
  have hd := R.hd
  have n64 := R.n64
  have hb : ((s.size : Int) != 256) = true := by simp; omega
  clear hs
  go_enter Try.func36, Try.ntmps36
  go_wp2
  go_ret
  exact ⟨rfl, rfl⟩

/-- The bytes when the first m of a page are put. -/
def partP (B : Nat → Nat) (k : Nat) (s : ByteArray) (m : Nat) : Nat → Nat := fun x => if 256 * k ≤ x ∧ x < 256 * k + m then byteAt s (x - 256 * k) else B x

theorem partP_lt {B : Nat → Nat} (l : ∀ j, B j < 256) (k : Nat) (s : ByteArray) (m j : Nat) : partP B k s m j < 256 := by
  unfold partP
  split
  · exact byteAt_lt _ _
  · exact l j

theorem byteAt_in (s : ByteArray) (j : Nat) (h : j < s.size) : byteAt s j = (s[j]'h).toNat := by
  unfold byteAt
  rw [Array.getElem?_eq_getElem (show j < s.data.size from h)]
  rfl

set_option maxHeartbeats 1000000 in
set_option maxRecDepth 100000 in
theorem rput_any {w : World} {p gb gd n : Nat} {B : Nat → Nat} {D : Nat → Bool} (R : RMem w p gb gd n B D) (k : Nat) (s : ByteArray) (h : k < n) (hs : s.size = 256) :
    Calls Try.prog 36 #[.pointer (some ⟨p, 0, none⟩), .int .i64 (k : Int), .string s] w fun e w' =>
      e = .returned (.int .i64 0) ∧ RMem w' p gb gd n (pageB B k s) (putD D k) ∧ RKept p gb gd w w' := by
  have n64 := R.n64
  have R0 := hide R
  have hd := R.hd
  clear R
  have hw1 : IntKind.i64.wrap (256 * (k : Int)) = 256 * (k : Int) := by rw [IntKind.wrap_i64]; omega
  go_enter Try.func36, Try.ntmps36
  go_wp2
  go_loopw [7] (fun i wr => ∃ m : Nat, m ≤ 256 ∧ i = .int .i64 m ∧ Hid (RMem wr p gb gd n (partP B k s m) D) ∧ Hid (RKept p gb gd w wr)) (fun i _ => 256 - (intOf i).toNat)
  case atStart => exact ⟨0, by omega, rfl, hide (R0.out.congr (fun j hj => by unfold partP; rw [if_neg (by omega)]) (partP_lt R0.out.lt k s 0)), hide (RKept.refl _ _ _ _)⟩
  case round =>
    clear hd
    obtain ⟨m, hm, rfl, R, K⟩ := hrel
    have hb := R.out.hb
    have hd := R.out.hd
    by_cases hm6 : m < 256
    · have hc := R.out.by' (256 * k + m) (by omega)
      have hf := R.out.fb (256 * k + m)
      have hms : m < s.size := by omega
      have hby := byteAt_in s m hms
      have hw2 : IntKind.i64.wrap (256 * (k : Int) + (m : Int)) = 256 * (k : Int) + (m : Int) := by rw [IntKind.wrap_i64]; omega
      have R2 := hide ((R.out.setB (256 * k + m) (byteAt s m) (by omega) (byteAt_lt s m)).congr (B' := partP B k s (m + 1)) (fun j hj => by
        unfold partP
        by_cases e : j = 256 * k + m
        · subst e
          rw [if_pos rfl, if_pos (by omega), Nat.add_sub_cancel_left]
        · rw [if_neg e]
          by_cases l : 256 * k ≤ j ∧ j < 256 * k + m
          · rw [if_pos l, if_pos (by omega)]
          · rw [if_neg l, if_neg (by omega)]) (partP_lt R0.out.lt k s (m + 1)))
      have K2 := hide (K.out.trans (RKept.of2 (grownBy_set wr gb (256 * k + m) (.int .u8 ((byteAt s m : Nat) : Int)))))
      rw [hby] at R2 K2
      clear R K hby
      go_wp2
      go_region
      all_goals
        go_wp2
        go_roundw
        case rel => exact ⟨m + 1, by omega, by go_num, hide R2.out.drew, hide K2.out.drew⟩
        case measure => simp [intOf]; omega
    · obtain rfl : m = 256 := by omega
      have hc := R.out.di k h
      have hf := R.out.fd k
      have R2 := hide ((R.out.setD k h).congr (B' := pageB B k s) (fun j hj => by
        unfold partP pageB
        by_cases e : j / 256 = k
        · rw [if_pos (by omega), if_pos e, show j - 256 * k = j % 256 by omega]
        · rw [if_neg (by omega), if_neg e]) (fun j => by unfold pageB; split; exact byteAt_lt _ _; exact R0.out.lt j))
      have K2 := hide (K.out.trans (RKept.of3 (grownBy_set wr gd k (.bool true))))
      clear R K
      go_wp2
      go_ret
      exact ⟨rfl, R2.out, K2.out⟩

end Go.Proofs.Ytifkldlhoaipbaa
