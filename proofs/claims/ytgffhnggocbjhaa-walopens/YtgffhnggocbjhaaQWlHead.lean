/- Layer 19: cells in memory; the document's heads. -/
import Derived.Test.YtgffhnggocbjhaaQWlPure
import Derived.Test.YtgffhnggocbjhaaQDkRefA
import Derived.Test.YtgffhnggocbjhaaQHeldCalm
namespace Go.Proofs.Ytgffhnggocbjhaa
open Go.RowKit
set_option linter.unusedVariables false
set_option maxRecDepth 100000
set_option linter.unusedSimpArgs false

/-- Cells as they lie. -/
def cellsL (c : Cl) : List Value := c.flatMap fun p => [.int .i64 p.1, .string p.2]

theorem cellsL_len (c : Cl) : (cellsL c).length = c.length * 2 := by
  induction c with
  | nil => rfl
  | cons m r ih => simp only [cellsL, List.flatMap_cons, List.length_append, List.length_cons] at *; rw [ih]; simp; omega
theorem cellsL_app (a b : Cl) : cellsL (a ++ b) = cellsL a ++ cellsL b := List.flatMap_append
theorem cellsL_one (l : Cl) : ∀ u ∈ cellsL l, u.oneCell' = true := by
  intro u hu
  obtain ⟨m, -, h⟩ := List.mem_flatMap.1 hu
  simp at h
  rcases h with rfl | rfl <;> rfl
theorem cellsL_at : ∀ {l : Cl} {k : Nat} {p : Int × ByteArray}, l[k]? = some p → (cellsL l)[k * 2]? = some (.int .i64 p.1) ∧ (cellsL l)[k * 2 + 1]? = some (.string p.2)
  | [], k, p, h => by simp at h
  | q :: l, 0, p, h => by simp at h; subst h; simp [cellsL]
  | q :: l, k + 1, p, h => by
    have ih := cellsL_at (l := l) (k := k) (p := p) (by simpa using h)
    have e : cellsL (q :: l) = .int .i64 q.1 :: .string q.2 :: cellsL l := rfl
    rw [e, show (k + 1) * 2 = k * 2 + 1 + 1 by omega, show k * 2 + 1 + 1 + 1 = (k * 2 + 1) + 1 + 1 by omega]
    simpa using ih

/-- v is a slice of the cells c, none of whose cells lies in blocks of H. -/
def CW (w : World) (H : Nat → Prop) (v : Value) (c : Cl) : Prop :=
  ∃ a cap, v = .slice a c.length cap ∧ c.length ≤ cap ∧ c.length ≤ 1000000 ∧ ∀ (k : Nat) p, c[k]? = some p → ∃ g, a = some ⟨g, 0, none⟩ ∧ g < w.heap.size ∧ ¬ H g ∧ w.cell? ⟨g, k * 2, none⟩ = some (.int .i64 p.1) ∧ w.cell? ⟨g, k * 2 + 1, none⟩ = some (.string p.2)

theorem CW.nil (w : World) (H : Nat → Prop) : CW w H (.slice none 0 0) [] := ⟨none, 0, rfl, Nat.le_refl _, by decide, fun k p h => by simp at h⟩
theorem CW.turn {w y : World} {H : Nat → Prop} {v : Value} {c : Cl} (h : CW w H v c) (T : Turn H w y) : CW y H v c := by
  obtain ⟨a, cap, e, h1, h2, hx⟩ := h
  refine ⟨a, cap, e, h1, h2, fun k p hp => ?_⟩
  obtain ⟨g, e, hg, hH, q0, q1⟩ := hx k p hp
  have eb := T.block g hg hH
  exact ⟨g, e, Nat.lt_of_lt_of_le hg T.size, hH, by rw [World.cell?_of_block (a := ⟨g, k * 2, none⟩) eb]; exact q0, by rw [World.cell?_of_block (a := ⟨g, k * 2 + 1, none⟩) eb]; exact q1⟩
theorem CW.on {w y : World} {H : Nat → Prop} {v : Value} {c : Cl} (h : CW w H v c) (hb : Below w.heap.size w y) : CW y H v c := h.turn (Turn.of hb)
theorem CW.less {w : World} {H G : Nat → Prop} {v : Value} {c : Cl} (h : CW w H v c) (hG : ∀ k, k < w.heap.size → G k → H k) : CW w G v c := by
  obtain ⟨a, cap, e, h1, h2, hx⟩ := h
  refine ⟨a, cap, e, h1, h2, fun k p hp => ?_⟩
  obtain ⟨g, e, hg, hH, q⟩ := hx k p hp
  exact ⟨g, e, hg, fun hh => hH (hG g hg hh), q⟩

theorem hdF_k (num : Nat) (ks : List Int) (t i : Nat) (h : i < 16) : hdF num ks t (7 + 2 * i) = (ks.getD i 0).toNat / 256 % 256 ∧ hdF num ks t (7 + 2 * i + 1) = (ks.getD i 0).toNat % 256 := by
  refine ⟨?_, ?_⟩
  · unfold hdF
    rw [if_neg (by omega), if_neg (by omega), if_neg (by omega), if_neg (by omega), if_pos (by omega), if_pos (by omega), show (7 + 2 * i - 7) / 2 = i by omega]
  · unfold hdF
    rw [if_neg (by omega), if_neg (by omega), if_neg (by omega), if_neg (by omega), if_pos (by omega), if_neg (by omega), show (7 + 2 * i + 1 - 7) / 2 = i by omega]
theorem hdF_lt (num : Nat) (ks : List Int) (t j : Nat) : hdF num ks t j < 256 := by
  unfold hdF
  repeat' split
  all_goals omega

def twoT (n : Nat) : ByteArray := textOf 2 fun j => if j = 0 then n / 256 % 256 else n % 256
def wordT (n : Nat) : ByteArray := textOf 4 fun j => n / 256 ^ (3 - j) % 256

theorem conv_new (w : World) (ns : List Int) (m : Nat) (hm : ns.length = m) :
    (convert 57 9 (.slice (some ⟨w.heap.size, 0, none⟩) m m)).run Try.prog (w.alloc (.cells (ns.map (Value.int .u8)).toArray 5)) = .ok (.string (strOfNums ns)) (w.alloc (.cells (ns.map (Value.int .u8)).toArray 5)) := by
  refine run_convert_bytes_arg _ 57 5 Try.underlying57 Try.underlying5 w.heap.size 0 m m ns hm ?_ 9 Try.underlying9
  intro i hi
  rw [Nat.zero_add, World.cell?_alloc_new]
  simp [List.getD, show i < ns.length by omega]

theorem conv_box {x : World} {B m : Nat} {ns : List Int} (h : Box x B (ns.map (Value.int .u8)).toArray) (hm : ns.length = m) :
    (convert 57 9 (.slice (some ⟨B, 0, none⟩) m m)).run Try.prog x = .ok (.string (strOfNums ns)) x := by
  refine run_convert_bytes_arg _ 57 5 Try.underlying57 Try.underlying5 B 0 m m ns hm ?_ 9 Try.underlying9
  intro i hi
  rw [Nat.zero_add, h.cell]
  simp [List.getD, show i < ns.length by omega]

theorem rtwo_any (n : Nat) (hn : n < 65536) (w : World) : Calls Try.prog 78 #[.int .i64 (n : Int)] w fun e w' => e = .returned (.string (twoT n)) ∧ Below w.heap.size w w' := by
  have hT : twoT n = strOfNums [(n : Int) / 256, (n : Int) % 256] := by
    show strOfNums [((n / 256 % 256 : Nat) : Int), ((n % 256 : Nat) : Int)] = _
    congr 1
    rw [show ((n / 256 % 256 : Nat) : Int) = (n : Int) / 256 by omega, show ((n % 256 : Nat) : Int) = (n : Int) % 256 by omega]
  have hc : ∀ x : World, (convert 57 9 (.slice (some ⟨x.heap.size, 0, none⟩) 2 2)).run Try.prog (x.alloc (.cells #[.int .u8 ((n : Int) / 256), .int .u8 ((n : Int) % 256)] 5)) =
      .ok (.string (twoT n)) (x.alloc (.cells #[.int .u8 ((n : Int) / 256), .int .u8 ((n : Int) % 256)] 5)) := fun x => by rw [hT]; exact conv_new x [(n : Int) / 256, (n : Int) % 256] 2 rfl
  generalize twoT n = s at *
  clear hT
  go_enter Try.func78, Try.ntmps78
  go_wp2
  go_ret
  exact ⟨rfl, grow _ _⟩

theorem rword_any (v : Nat) (hv : v < 4294967296) (w : World) :
    Calls Try.prog 77 #[.int .u32 (v : Int)] w fun e w' => e = .returned (.string (wordT v)) ∧ Below w.heap.size w w' := by
  have hT : wordT v = strOfNums [(v : Int) / 16777216, (v : Int) / 65536 % 256, (v : Int) / 256 % 256, (v : Int) % 256] := by
    show strOfNums [((v / 256 ^ 3 % 256 : Nat) : Int), ((v / 256 ^ 2 % 256 : Nat) : Int), ((v / 256 ^ 1 % 256 : Nat) : Int), ((v / 256 ^ 0 % 256 : Nat) : Int)] = _
    congr 1
    rw [show ((v / 256 ^ 3 % 256 : Nat) : Int) = (v : Int) / 16777216 by omega, show ((v / 256 ^ 2 % 256 : Nat) : Int) = (v : Int) / 65536 % 256 by omega, show ((v / 256 ^ 1 % 256 : Nat) : Int) = (v : Int) / 256 % 256 by omega, show ((v / 256 ^ 0 % 256 : Nat) : Int) = (v : Int) % 256 by omega]
  have hc : ∀ x : World, (convert 57 9 (.slice (some ⟨x.heap.size, 0, none⟩) 4 4)).run Try.prog (x.alloc (.cells #[.int .u8 ((v : Int) / 16777216), .int .u8 ((v : Int) / 65536 % 256), .int .u8 ((v : Int) / 256 % 256), .int .u8 ((v : Int) % 256)] 5)) =
      .ok (.string (wordT v)) (x.alloc (.cells #[.int .u8 ((v : Int) / 16777216), .int .u8 ((v : Int) / 65536 % 256), .int .u8 ((v : Int) / 256 % 256), .int .u8 ((v : Int) % 256)] 5)) := fun x => by rw [hT]; exact conv_new x [(v : Int) / 16777216, (v : Int) / 65536 % 256, (v : Int) / 256 % 256, (v : Int) % 256] 4 rfl
  generalize wordT v = s at *
  clear hT
  go_enter Try.func77, Try.ntmps77
  go_wp2
  go_ret
  exact ⟨rfl, grow _ _⟩

theorem nats_zero (n : Nat) : (strOfNums (List.replicate n 0)) = textOf n (fun _ => 0) := by
  unfold textOf
  congr 1
  apply List.ext_getElem?
  intro j
  rw [List.getElem?_map, List.getElem?_replicate]
  by_cases h : j < n
  · rw [List.getElem?_range h]; simp [h]
  · rw [List.getElem?_eq_none (by simp; omega)]; simp [h]

theorem catT_le : ∀ (l : List ByteArray) (k : Nat), (∀ s ∈ l, s.size ≤ 64) → l.length ≤ k → (catT l).size ≤ 64 * k
  | [], k, _, _ => by simp [catT]
  | s :: l, 0, _, h => by simp at h
  | s :: l, k + 1, h, hl => by
    have ih := catT_le l k (fun x hx => h x (by simp [hx])) (by simpa using hl)
    have := h s (by simp)
    rw [catT, ByteArray.size_append]
    omega

/-- The parts of a head, one behind the other. -/
theorem hd_begin (num : Nat) (ks : List Int) (t : Nat) (w2 : ByteArray) (hz : w2 = ⟨#[90, 87]⟩) : w2 ++ wordT num ++ textOf 1 (fun _ => ks.length % 256) = textOf 7 (hdF num ks t) := by
  have e1 : w2 = textOf 2 (hdF num ks t) := by rw [hz]; rfl
  have e2 : wordT num = textOf 4 (fun j => hdF num ks t (2 + j)) := textOf_congr fun j hj => by
    unfold hdF
    rw [if_neg (by omega), if_neg (by omega), if_pos (by omega)]
    rw [show 5 - (2 + j) = 3 - j by omega]
  have e3 : textOf 1 (fun _ => ks.length % 256) = textOf 1 (fun j => hdF num ks t (6 + j)) := textOf_congr fun j hj => by
    unfold hdF
    rw [if_neg (by omega), if_neg (by omega), if_neg (by omega), if_pos (by omega)]
  rw [e1, e2, textOf_add 2 4, e3, textOf_add 6 1]

theorem hd_next (num : Nat) (ks : List Int) (t i : Nat) (hi : i < 16) : textOf (7 + 2 * i) (hdF num ks t) ++ twoT (ks.getD i 0).toNat = textOf (7 + 2 * (i + 1)) (hdF num ks t) := by
  have e : twoT (ks.getD i 0).toNat = textOf 2 (fun j => hdF num ks t (7 + 2 * i + j)) := textOf_congr fun j hj => by
    obtain ⟨h1, h2⟩ := hdF_k num ks t i hi
    rcases (show j = 0 ∨ j = 1 by omega) with rfl | rfl
    · rw [if_pos rfl, Nat.add_zero, h1]
    · rw [if_neg (by decide), h2]
  rw [e, textOf_add, show 7 + 2 * i + 2 = 7 + 2 * (i + 1) by omega]

theorem hd_end (num : Nat) (ks : List Int) (t : Nat) (ht : t < 65536) : textOf 39 (hdF num ks t) ++ twoT t ++ textOf 17 (fun _ => 0) ++ wordT num = textOf 62 (hdF num ks t) := by
  have e1 : twoT t = textOf 2 (fun j => hdF num ks t (39 + j)) := textOf_congr fun j hj => by
    rcases (show j = 0 ∨ j = 1 by omega) with rfl | rfl
    · unfold hdF; simp
    · unfold hdF; simp
  have e2 : textOf 17 (fun _ => 0) = textOf 17 (fun j => hdF num ks t (41 + j)) := textOf_congr fun j hj => by
    unfold hdF
    rw [if_neg (by omega), if_neg (by omega), if_neg (by omega), if_neg (by omega), if_neg (by omega), if_neg (by omega), if_neg (by omega), if_pos (by omega)]
  have e3 : wordT num = textOf 4 (fun j => hdF num ks t (58 + j)) := textOf_congr fun j hj => by
    unfold hdF
    rw [if_neg (by omega), if_neg (by omega), if_neg (by omega), if_neg (by omega), if_neg (by omega), if_neg (by omega), if_neg (by omega), if_neg (by omega), show 61 - (58 + j) = 3 - j by omega]
  rw [e1, textOf_add, e2, textOf_add, e3, textOf_add]

set_option maxHeartbeats 1000000 in
set_option maxRecDepth 100000 in
theorem rhead_any (num : Nat) (hn : num < 4294967296) {H : Nat → Prop} {v : Value} {c : Cl} {w : World} (C : CW w H v c) (h16 : c.length ≤ 16) (hk : ∀ p ∈ c, 0 ≤ p.1 ∧ p.1 < 65536) (hs : ∀ p ∈ c, p.2.size ≤ 64) :
    Calls Try.prog 52 #[.int .i64 (num : Int), v] w fun e w' => e = .returned (.string (headC num c)) ∧ Below w.heap.size w w' := by
  obtain ⟨a, cap, rfl, hc, hm, hx⟩ := C
  obtain ⟨n, hnn⟩ : ∃ n, n = c.length := ⟨_, rfl⟩
  rw [← hnn] at hc hm h16 ⊢
  have hwt := fun y => rword_any num hn y
  replace hx := hide hx
  replace hk := hide hk
  replace hs := hide hs
  replace hnn := hide hnn
  replace hwt := hide hwt
  have hw32 : IntKind.u32.wrap (num : Int) = (num : Int) := by simp [IntKind.wrap, IntKind.bits, IntKind.signed]; omega
  have hw8 : IntKind.u8.wrap (n : Int) = (n : Int) := by simp [IntKind.wrap, IntKind.bits, IntKind.signed]; omega
  obtain ⟨W4, hW4⟩ : ∃ s, Hid (s = wordT num) := ⟨_, hide rfl⟩
  rw [← hW4.out] at hwt
  have hW4s : W4.size = 4 := by rw [hW4.out, wordT, textOf_size]
  obtain ⟨A6, hA6⟩ : ∃ s, Hid (s = (⟨#[90, 87]⟩ : ByteArray) ++ W4) := ⟨_, hide rfl⟩
  have hA6s : A6.size = 6 := by rw [hA6.out, ByteArray.size_append, hW4s]; rfl
  obtain ⟨N1, hN1⟩ : ∃ s, Hid (s = strOfNums [(n : Int)]) := ⟨_, hide rfl⟩
  have hN1s : N1.size = 1 := by rw [hN1.out, strOfNums_size]; rfl
  have hz3 : ¬ 9223372036854775807 < 2 + W4.size := by omega
  have hz9 : ¬ 9223372036854775807 < A6.size + N1.size := by omega
  go_enter Try.func52, Try.ntmps52
  go_wp2_with fail
  refine zcalm (fun V => by simp only [actV, Act.put, zpa, zpb, zpc, Nat.zero_add, Nat.reduceAdd]; exact rfl) (fun x => Below w.heap.size w x) [.is (.int .i64 (num : Int)), .is (.int .u32 (num : Int)), .is (.string W4), .is (.string A6), .is (.slice a n cap), .is (.int .i64 (n : Int)), .is (.int .u8 (n : Int)), .row 1 #[.int .u8 (n : Int)], .is (.string N1), .is (.string (A6 ++ N1)), .is (.string (A6 ++ N1)), .is (.string ⟨#[]⟩)] (by kernel_rfl) (by kernel_rfl) (fun x y h hb => onto h (Nat.le_refl _) hb) (Below.refl _ w).drew ?_ ?_
  · refine ⟨?_, ?_, ?_, ?_, ?_, ?_, ?_, ?_, ?_, ?_, ?_, ?_, trivial⟩
    · intro V x hS hd
      go_simp
      exact ⟨Below.refl _ _, rfl⟩
    · intro V x hS hd
      have h0 : V 0 = _ := hd 0 (by decide)
      simp only [h0]
      go_simp
      exact ⟨Below.refl _ _, rfl⟩
    · intro V x hS hd
      have h1 : V 1 = _ := hd 1 (by decide)
      simp only [h1]
      go_simp
      refine (hwt.out _).mono ?_
      rintro q y ⟨rfl, hb⟩
      exact ⟨hb, rfl⟩
    · intro V x hS hd
      have h2 : V 2 = _ := hd 2 (by decide)
      simp only [h2]
      go_simp
      exact ⟨Below.refl _ _, by rw [hA6.out]; rfl⟩
    · intro V x hS hd
      go_simp
      exact ⟨Below.refl _ _, rfl⟩
    · intro V x hS hd
      have h4 : V 4 = _ := hd 4 (by decide)
      simp only [h4]
      go_simp
      exact ⟨Below.refl _ _, rfl⟩
    · intro V x hS hd
      have h5 : V 5 = _ := hd 5 (by decide)
      simp only [h5]
      go_simp
      exact ⟨Below.refl _ _, rfl⟩
    · intro V x hS hd
      have h6 : V 6 = _ := hd 6 (by decide)
      simp only [h6]
      go_simp
      exact ⟨grow _ _, x.heap.size, rfl, Box.new _ _ _⟩
    · intro V x hS hd
      obtain ⟨B, h7, hB⟩ := Tell.row_is (hd 7 (by decide)) rfl
      have hcv := conv_box (x := x) (B := B) hB (ns := [(n : Int)]) (m := 1) rfl
      rw [← hN1.out] at hcv
      simp only [h7]
      go_simp
      exact ⟨Below.refl _ _, rfl⟩
    · intro V x hS hd
      have h3 : V 3 = _ := hd 3 (by decide)
      have h8 : V 8 = _ := hd 8 (by decide)
      simp only [h3, h8]
      go_simp
      exact ⟨Below.refl _ _, rfl⟩
    · intro V x hS hd
      have h9 : V 9 = _ := hd 9 (by decide)
      simp only [h9]
      go_simp
      exact ⟨Below.refl _ _, rfl⟩
    · intro V x hS hd
      go_simp
      exact ⟨Below.refl _ _, rfl⟩
  · intro V x hS hd
    have h10 : V 10 = _ := hd 10 (by decide)
    have h11 : V 11 = _ := hd 11 (by decide)
    simp only [h10, h11]
    clear h10 h11 hd hz3 hz9 hw32 hw8
    obtain ⟨ks, hks⟩ : ∃ ks, Hid (ks = c.map (·.1)) := ⟨_, hide rfl⟩
    obtain ⟨t, ht⟩ : ∃ t, Hid (t = sumC c) := ⟨_, hide rfl⟩
    have hsz : ∀ k, (catT ((c.map (·.2)).take k)).size ≤ 64 * k := fun k => catT_le _ k (fun s h => by
      obtain ⟨p, hp, rfl⟩ := List.mem_map.1 (List.mem_of_mem_take h)
      exact hs.out p hp) (by rw [List.length_take]; omega)
    replace hsz := hide hsz
    have hnx := hide (hd_next num ks t)
    have hb7 : Hid (A6 ++ N1 = textOf (7 + 2 * 0) (hdF num ks t)) := hide (by
      rw [hA6.out, hW4.out, hN1.out]
      have h1 : strOfNums [(n : Int)] = textOf 1 (fun _ => ks.length % 256) := by
        rw [hks.out, List.length_map, ← hnn.out]
        show _ = strOfNums [((n % 256 : Nat) : Int)]
        rw [Nat.mod_eq_of_lt (by omega)]
      rw [h1]
      exact hd_begin num ks t _ rfl)
    have hkn : Hid (∀ i, n ≤ i → ks.getD i 0 = 0) := hide (fun i hi => by rw [hks.out, List.getD_eq_getElem?_getD, List.getElem?_eq_none (by rw [List.length_map, ← hnn.out]; exact hi)]; rfl)
    have htk : Hid (∀ i, n ≤ i → (c.map (·.2)).take (i + 1) = (c.map (·.2)).take i) := hide (fun i hi => by rw [List.take_of_length_le (by rw [List.length_map, ← hnn.out]; omega), List.take_of_length_le (by rw [List.length_map, ← hnn.out]; exact hi)])
    replace hS := hide hS
    go_wp2_with fail
    go_loopw [5, 6, 7] (fun s all i y => ∃ (k : Nat) (sv av : ByteArray), k ≤ 16 ∧ i = .int .i64 (k : Int) ∧ s = .string sv ∧ all = .string av ∧ Hid (sv = textOf (7 + 2 * k) (hdF num ks t)) ∧ Hid (av = catT ((c.map (·.2)).take k)) ∧ Hid (Below w.heap.size w y)) (fun _ _ i _ => 16 - (intOf i).toNat)
    case atStart => exact ⟨0, _, _, Nat.zero_le _, rfl, rfl, rfl, hb7, hide rfl, hS⟩
    case round =>
      clear hS hb7
      obtain ⟨k, sv, av, hk16, rfl, rfl, rfl, hsv, hav, hB⟩ := hrel
      have hsvs : sv.size = 7 + 2 * k := by rw [hsv.out, textOf_size]
      have havs : av.size ≤ 64 * k := by rw [hav.out]; exact hsz.out k
      by_cases h : k < 16
      · by_cases hkn2 : k < n
        · obtain ⟨p, hp⟩ : ∃ p, c[k]? = some p := ⟨c[k]'(by have := hnn.out; omega), List.getElem?_eq_getElem _⟩
          obtain ⟨g, rfl, hg, -, q0, q1⟩ := hx.out k p hp
          have r0 : wr.cell? ⟨g, k * 2, none⟩ = some (.int .i64 p.1) := (hB.out.cell (p := ⟨g, k * 2, none⟩) hg).trans q0
          have r1 : wr.cell? ⟨g, k * 2 + 1, none⟩ = some (.string p.2) := (hB.out.cell (p := ⟨g, k * 2 + 1, none⟩) hg).trans q1
          obtain ⟨p0, p1⟩ := hk.out p (List.mem_of_getElem? hp)
          have p2 := hs.out p (List.mem_of_getElem? hp)
          obtain ⟨K, hK⟩ : ∃ K : Nat, p.1 = (K : Int) := ⟨p.1.toNat, by omega⟩
          have hgd : Hid (ks.getD k 0 = (K : Int)) := hide (by rw [hks.out, getD_some (x := p.1) (by rw [List.getElem?_map, hp]; rfl), hK])
          obtain ⟨px, hpx⟩ : ∃ px, px = p.2 := ⟨_, rfl⟩
          have hav2 : Hid (av ++ px = catT ((c.map (·.2)).take (k + 1))) := hide (by
            rw [List.take_add_one, List.getElem?_map, hp, catT_app, hav.out, hpx]
            simp [catT])
          rw [hK] at r0 p0 p1
          rw [← hpx] at r1 p2
          have ct := fun y => rtwo_any K (by omega) y
          have ht2 : (twoT K).size = 2 := textOf_size _ _
          have hsv2 : Hid (sv ++ twoT K = textOf (7 + 2 * (k + 1)) (hdF num ks t)) := hide (by
            rw [hsv.out, ← hnx.out k h, hgd.out]; rfl)
          obtain ⟨tw, htw⟩ : ∃ tw, tw = twoT K := ⟨_, rfl⟩
          rw [← htw] at ct ht2 hsv2
          have hzz : ¬ 9223372036854775807 < sv.size + tw.size := by omega
          have hzy : ¬ 9223372036854775807 < av.size + px.size := by omega
          clear q0 q1 hp hK hgd hpx htw hx hsv hav p0 p1 p2 hsvs havs ht2
          go_wp2_with fail
          refine (ct _).mono ?_
          rintro q y2 ⟨rfl, hb2⟩
          have hB2 := hide (onto hB.out (Nat.le_refl _) hb2)
          have s1 : y2.cell? ⟨g, k * 2 + 1, none⟩ = some (.string px) := (hb2.cell (p := ⟨g, k * 2 + 1, none⟩) (Nat.lt_of_lt_of_le hg hB.out.size)).trans r1
          clear hb2 ct r0 r1 hB
          go_wp2
          go_roundw
          case rel => exact ⟨k + 1, _, _, by omega, by go_num, rfl, rfl, hsv2, hav2, hB2⟩
          case measure => simp [intOf]; omega
        · have ct : ∀ y, Calls Try.prog 78 #[.int .i64 0] y fun e w' => e = .returned (.string (twoT 0)) ∧ Below y.heap.size y w' := fun y => rtwo_any 0 (by decide) y
          have ht2 : (twoT 0).size = 2 := textOf_size _ _
          have hsv2 : Hid (sv ++ twoT 0 = textOf (7 + 2 * (k + 1)) (hdF num ks t)) := hide (by
            rw [hsv.out, ← hnx.out k h, hkn.out k (by omega)]; rfl)
          have hav2 : Hid (av = catT ((c.map (·.2)).take (k + 1))) := hide (by rw [htk.out k (by omega)]; exact hav.out)
          obtain ⟨tw, htw⟩ : ∃ tw, tw = twoT 0 := ⟨_, rfl⟩
          rw [← htw] at ct ht2 hsv2
          have hzz : ¬ 9223372036854775807 < sv.size + tw.size := by omega
          clear htw hsv hav
          go_wp2_with fail
          refine (ct _).mono ?_
          rintro q y2 ⟨rfl, hb2⟩
          have hB2 := hide (onto hB.out (Nat.le_refl _) hb2)
          clear hb2 ct hB
          go_wp2
          go_roundw
          case rel => exact ⟨k + 1, _, _, by omega, by go_num, rfl, rfl, hsv2, hav2, hB2⟩
          case measure => simp [intOf]; omega
      · obtain rfl : k = 16 := by omega
        have hall : av = catC c := by rw [hav.out, List.take_of_length_le (by rw [List.length_map, ← hnn.out]; exact h16)]; rfl
        have hsum : Crc.on 65535 (nats av) = t := by rw [hall, ht.out]; rfl
        have ht6 : t < 65536 := by rw [← hsum]; exact Crc.on_lt (by decide) (nats_small av)
        have cs := fun y => rsum_any av (by unfold maxLen; omega) y
        simp only [hsum] at cs
        have ct := fun y => rtwo_any t ht6 y
        have ht2 : (twoT t).size = 2 := textOf_size _ _
        have hend : Hid (sv ++ twoT t ++ textOf 17 (fun _ => 0) ++ wordT num = textOf 62 (hdF num ks t)) := hide (by rw [hsv.out]; exact hd_end num ks t ht6)
        obtain ⟨tw, htw⟩ : ∃ tw, tw = twoT t := ⟨_, rfl⟩
        rw [← htw] at ct ht2 hend
        have hzz : ¬ 9223372036854775807 < sv.size + tw.size := by omega
        clear htw hsv hav hall hsum hx
        go_wp2_with fail
        refine (cs _).mono ?_
        rintro q y2 ⟨rfl, hy2⟩
        subst hy2
        go_wp2_with fail
        refine (ct _).mono ?_
        rintro q y3 ⟨rfl, hb3⟩
        replace hB := hide (onto hB.out (Nat.le_refl _) hb3)
        obtain ⟨s2, hs2⟩ : ∃ s2, s2 = sv ++ tw := ⟨_, rfl⟩
        have hs2s : s2.size = 41 := by rw [hs2, ByteArray.size_append]; omega
        rw [← hs2] at hend
        obtain ⟨Z, hZ⟩ : ∃ s, Hid (s = strOfNums (List.replicate 17 0)) := ⟨_, hide rfl⟩
        have hZs : Z.size = 17 := by rw [hZ.out, strOfNums_size]; rfl
        obtain ⟨B2, hB2⟩ : ∃ s, Hid (s = s2 ++ Z ++ W4) := ⟨_, hide rfl⟩
        have hB2s : B2.size = 62 := by rw [hB2.out, ByteArray.size_append, ByteArray.size_append]; omega
        have cse := fun y => rseal_any B2 y (by omega)
        have hfin : Hid (sealOf B2 = headC num c) := hide (by
          rw [hB2.out, hZ.out, nats_zero, hW4.out, hend.out]
          unfold headC headT
          rw [hks.out, ht.out])
        rw [hfin.out] at cse
        have mk : ∀ x : World, (Instr.makeSlice 57 (.int .i64 17) (.int .i64 17)).run Try.prog x = .ok (.slice (some ⟨x.heap.size, 0, none⟩) 17 17) (x.alloc (.cells ((List.replicate 17 (0 : Int)).map (Value.int .u8)).toArray 5)) := fun x => (make_row x 17 (by decide)).trans (by rw [show madeCells #[Value.int .u8 0] 17 = ((List.replicate 17 (0 : Int)).map (Value.int .u8)).toArray by kernel_rfl])
        have hw32 : IntKind.u32.wrap (num : Int) = (num : Int) := by simp [IntKind.wrap, IntKind.bits, IntKind.signed]; omega
        have hz6 : ¬ 9223372036854775807 < s2.size + 17 := by omega
        have hz10 : ¬ 9223372036854775807 < s2.size + 17 + 4 := by omega
        obtain ⟨HC, hHC⟩ : ∃ s, s = headC num c := ⟨_, rfl⟩
        rw [← hHC] at cse
        replace hs2s : (s2.size : Int) = 41 := by omega
        clear hb3 ct cs hend hfin
        replace hHC := hide hHC
        go_wp2_with fail
        rw [← hs2]
        clear hs2
        refine zcalm (fun V => by simp only [actV, Act.put, zpa, zpb, zpc, Nat.zero_add, Nat.reduceAdd]; exact rfl) (fun x => Below w.heap.size w x) [.is (.string s2), .is (.string s2), .is (.int .i64 41), .is (.int .i64 17), .row 17 ((List.replicate 17 (0 : Int)).map (Value.int .u8)).toArray, .is (.string Z), .is (.string (s2 ++ Z)), .is (.int .i64 (num : Int)), .is (.int .u32 (num : Int)), .is (.string W4), .is (.string B2), .is (.string HC), .is (.string HC)] (by kernel_rfl) (by kernel_rfl) (fun x y h hb => onto h (Nat.le_refl _) hb) hB.out.drew ?_ ?_
        · refine ⟨?_, ?_, ?_, ?_, ?_, ?_, ?_, ?_, ?_, ?_, ?_, ?_, ?_, trivial⟩
          · intro V x hS hd
            go_simp
            exact ⟨Below.refl _ _, rfl⟩
          · intro V x hS hd
            go_simp
            exact ⟨Below.refl _ _, rfl⟩
          · intro V x hS hd
            have h1 : V 1 = _ := hd 1 (by decide)
            simp only [h1]
            go_simp
            exact ⟨Below.refl _ _, rfl⟩
          · intro V x hS hd
            have h2 : V 2 = _ := hd 2 (by decide)
            simp only [h2]
            go_simp
            exact ⟨Below.refl _ _, rfl⟩
          · intro V x hS hd
            have h3 : V 3 = _ := hd 3 (by decide)
            simp only [h3]
            go_simp
            exact ⟨grow _ _, x.heap.size, rfl, Box.new _ _ _⟩
          · intro V x hS hd
            obtain ⟨B, h4, hBx⟩ := Tell.row_is (hd 4 (by decide)) rfl
            have hcv := conv_box (x := x) (B := B) hBx (ns := List.replicate 17 (0 : Int)) (m := 17) rfl
            rw [← hZ.out] at hcv
            simp only [h4]
            go_simp
            exact ⟨Below.refl _ _, rfl⟩
          · intro V x hS hd
            have h0 : V 0 = _ := hd 0 (by decide)
            have h5 : V 5 = _ := hd 5 (by decide)
            simp only [h0, h5]
            go_simp
            exact ⟨Below.refl _ _, rfl⟩
          · intro V x hS hd
            go_simp
            exact ⟨Below.refl _ _, rfl⟩
          · intro V x hS hd
            have h7 : V 7 = _ := hd 7 (by decide)
            simp only [h7]
            go_simp
            exact ⟨Below.refl _ _, rfl⟩
          · intro V x hS hd
            have h8 : V 8 = _ := hd 8 (by decide)
            simp only [h8]
            go_simp
            refine (hwt.out _).mono ?_
            rintro q y ⟨rfl, hb⟩
            exact ⟨hb, rfl⟩
          · intro V x hS hd
            have h6 : V 6 = _ := hd 6 (by decide)
            have h9 : V 9 = _ := hd 9 (by decide)
            simp only [h6, h9]
            go_simp
            exact ⟨Below.refl _ _, by rw [hB2.out]; rfl⟩
          · intro V x hS hd
            have h10 : V 10 = _ := hd 10 (by decide)
            simp only [h10]
            go_simp
            refine (cse _).mono ?_
            rintro q y ⟨rfl, hb⟩
            exact ⟨hb, rfl⟩
          · intro V x hS hd
            have h11 : V 11 = _ := hd 11 (by decide)
            simp only [h11]
            go_simp
            exact ⟨Below.refl _ _, rfl⟩
        · intro V x hS hd
          have h12 : V 12 = _ := hd 12 (by decide)
          simp only [h12]
          go_wp2
          go_ret
          exact ⟨by rw [hHC.out]; rfl, hS⟩

end Go.Proofs.Ytgffhnggocbjhaa
