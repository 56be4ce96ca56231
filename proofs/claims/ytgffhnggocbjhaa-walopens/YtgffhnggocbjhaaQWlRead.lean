/- Layer 19: the document's log: a head is read. -/
import Derived.Test.YtgffhnggocbjhaaQWlHome
import Derived.OwnWalk
namespace Go.Proofs.Ytgffhnggocbjhaa
open Go.RowKit
set_option linter.unusedVariables false
set_option maxRecDepth 100000
set_option linter.unusedSimpArgs false

theorem nb_lt (s : ByteArray) (a : Nat) : ∀ n, nb s a n < 256 ^ n
  | 0 => by simp [nb]
  | n + 1 => by
    have := nb_lt s a n
    have := byteAt_lt s (a + n)
    rw [nb, Nat.pow_succ]
    omega
theorem byteAt_cut (s : ByteArray) (a b i : Nat) (hb : b ≤ s.size) (hi : a + i < b) : byteAt (s.extract a b) i = byteAt s (a + i) := by
  have h1 : i < (s.extract a b).size := by rw [ByteArray.size_extract]; omega
  rw [byteAt_in _ i h1, byteAt_in _ (a + i) (by omega)]
  congr 1
  exact ByteArray.getElem_extract h1

set_option maxRecDepth 100000 in
theorem rval_any (s : ByteArray) (a b n : Nat) (hb : b = a + n) (h : b ≤ s.size) (hn : n ≤ 4) (w : World) :
    Calls Try.prog 89 #[.string (s.extract a b)] w fun e w' => e = .returned (.int .u32 ((nb s a n : Nat) : Int)) ∧ w' = w := by
  subst hb
  obtain ⟨t, ht⟩ : ∃ t, t = s.extract a (a + n) := ⟨_, rfl⟩
  have hts : t.size = n := by rw [ht, ByteArray.size_extract]; omega
  have hB := hide (fun j (hj : j < n) => byteAt_cut s a (a + n) j h (by omega))
  rw [← ht] at hB ⊢
  clear ht
  go_enter Try.func89, Try.ntmps89
  go_wp2
  go_loop [3, 4] (fun v i => ∃ j : Nat, j ≤ n ∧ i = .int .i64 j ∧ Hid (v = .int .i64 (nb s a j : Nat))) (fun _ i => n - (intOf i).toNat)
  case atStart => exact ⟨0, by omega, rfl, hide rfl⟩
  case round =>
    obtain ⟨j, hj, rfl, hv⟩ := hrel
    by_cases hlt : j < n
    · have q1 := nb_lt s a j
      have q2 : (256 : Nat) ^ j ≤ 256 ^ 3 := Nat.pow_le_pow_right (by omega) (by omega)
      have hj' : j < t.size := by omega
      have e1 : nb s a (j + 1) = nb s a j * 256 + t[j].toNat := by
        rw [← byteAt_in t j hj', nb, hB.out j hlt]
      have hv' := hv.out
      subst hv'
      generalize nb s a j = V at *
      have hb : t[j].toNat < 256 := t[j].toNat_lt
      replace e1 := hide e1
      have hV : V < 16777216 := by omega
      clear hv q1 q2
      go_wp2
      go_round
      case rel => exact ⟨j + 1, by omega, by go_num, hide (by rw [e1.out]; exact congrArg _ (by omega))⟩
      case measure => simp [intOf]; omega
    · have hx : j = n := by omega
      subst hx
      have hv' := hv.out
      subst hv'
      have q1 := nb_lt s a j
      have q2 : (256 : Nat) ^ j ≤ 256 ^ 4 := Nat.pow_le_pow_right (by omega) (by omega)
      obtain ⟨V, hVV⟩ : ∃ V, Hid (nb s a j = V) := ⟨_, hide rfl⟩
      rw [hVV.out] at q1 ⊢
      have hw : IntKind.u32.wrap (V : Int) = (V : Int) := by simp [IntKind.wrap, IntKind.bits, IntKind.signed]; omega
      clear hv q1 q2
      go_wp2
      go_ret
      exact ⟨by rw [hVV.out]; rfl, rfl⟩

theorem byteAt_left (a b : ByteArray) (j : Nat) (h : j < a.size) : byteAt (a ++ b) j = byteAt a j := by
  unfold byteAt
  rw [ByteArray.data_append, Array.getElem?_append_left h]
theorem byteAt_headT (num : Nat) (ks : List Int) (t j : Nat) (h : j < 62) : byteAt (headT num ks t) j = hdF num ks t j := by
  unfold headT sealOf
  rw [byteAt_left _ _ _ (by rw [textOf_size]; exact h), byteAt_textOf _ _ (hdF_lt num ks t) _ h]
theorem headT_size (num : Nat) (ks : List Int) (t : Nat) : (headT num ks t).size = 64 := by
  unfold headT sealOf
  rw [ByteArray.size_append, textOf_size, two_size]
theorem hdF_far (num : Nat) (ks : List Int) (t u j : Nat) (h : j ≠ 39) (h' : j ≠ 40) : hdF num ks t j = hdF num ks u j := by
  unfold hdF
  repeat' split
  all_goals first | rfl | omega
theorem cut_text (s : ByteArray) (a b : Nat) (h1 : a ≤ b) (h2 : b ≤ s.size) : s.extract a b = textOf (b - a) (fun j => byteAt s (a + j)) := by
  have e := textOf_cut s.size a b (byteAt s) h1 h2
  rw [← textOf_byteAt] at e
  exact e
theorem tH_lt (s : ByteArray) : tH s < 65536 := nb_lt s 39 2
/-- A head's sum put in another's place. -/
theorem hd_swap (num : Nat) (ks : List Int) (u : Nat) (s : ByteArray) (hs : s.size = 64) :
    (headT num ks u).extract 0 39 ++ s.extract 39 41 ++ (headT num ks u).extract 41 62 = textOf 62 (hdF num ks (tH s)) := by
  rw [cut_text _ 0 39 (by omega) (by rw [headT_size]; omega), cut_text s 39 41 (by omega) (by omega), cut_text _ 41 62 (by omega) (by rw [headT_size]; omega)]
  have e1 : textOf (39 - 0) (fun j => byteAt (headT num ks u) (0 + j)) = textOf 39 (hdF num ks (tH s)) := textOf_congr fun j hj => by
    rw [Nat.zero_add, byteAt_headT _ _ _ _ (by omega)]
    exact hdF_far _ _ _ _ _ (by omega) (by omega)
  have e2 : textOf (41 - 39) (fun j => byteAt s (39 + j)) = textOf 2 (fun j => hdF num ks (tH s) (39 + j)) := textOf_congr fun j hj => by
    have h0 := byteAt_lt s 39
    have h1 := byteAt_lt s 40
    have ht : tH s = byteAt s 39 * 256 + byteAt s 40 := by unfold tH; simp [nb]
    rcases (show j = 0 ∨ j = 1 by omega) with rfl | rfl
    · unfold hdF
      simp
      omega
    · unfold hdF
      simp
      omega
  have e3 : textOf (62 - 41) (fun j => byteAt (headT num ks u) (41 + j)) = textOf 21 (fun j => hdF num ks (tH s) (41 + j)) := textOf_congr fun j hj => by
    rw [byteAt_headT _ _ _ _ (by omega)]
    exact hdF_far _ _ _ _ _ (by omega) (by omega)
  rw [e1, e2, textOf_add, e3, textOf_add]
theorem headT_sum {num : Nat} {ks : List Int} {t u : Nat} (ht : t < 65536) (hu : u < 65536) (h : headT num ks t = headT num ks u) : t = u := by
  have h39 : byteAt (headT num ks t) 39 = byteAt (headT num ks u) 39 := by rw [h]
  have h40 : byteAt (headT num ks t) 40 = byteAt (headT num ks u) 40 := by rw [h]
  rw [byteAt_headT _ _ _ _ (by omega), byteAt_headT _ _ _ _ (by omega)] at h39 h40
  unfold hdF at h39 h40
  simp at h39 h40
  omega

/-- The cells of a head's text. -/
def cellsD (d : Dk) (s : ByteArray) (place : Nat) : Cl := (List.range (cntH s)).map fun i => (((nb s (7 + 2 * i) 2 : Nat) : Int), d.told ((2 + 16 * place + i : Nat) : Int))
def bareD (s : ByteArray) : Cl := (List.range (cntH s)).map fun i => (((nb s (7 + 2 * i) 2 : Nat) : Int), ByteArray.empty)
theorem cellsD_len (d : Dk) (s : ByteArray) (place : Nat) : (cellsD d s place).length = cntH s := by simp [cellsD]
theorem bareD_len (s : ByteArray) : (bareD s).length = cntH s := by simp [bareD]
theorem cellsD_ks (d : Dk) (s : ByteArray) (place : Nat) : (cellsD d s place).map (·.1) = ksH s := by simp [cellsD, ksH]
theorem bareD_ks (s : ByteArray) : (bareD s).map (·.1) = ksH s := by simp [bareD, ksH]
theorem take_map_range {α : Type} (f : Nat → α) {n k : Nat} (h : k < n) : ((List.range n).map f).take (k + 1) = ((List.range n).map f).take k ++ [f k] := by
  rw [List.take_add_one, List.getElem?_map, List.getElem?_range h]
  rfl

theorem CW.of_own {w : World} {B : Nat} {v : Value} {c : Cl} (O : w.ownsRow B 80 2 v c.length (cellsL c)) (hm : c.length ≤ 1000000) (H : Nat → Prop) (hH : ∀ g, H g → g < B) : CW w H v c := by
  rcases O.2 with ⟨rfl, h0⟩ | ⟨g, cap, cur, rfl, hb, hg, hcap, -⟩
  · exact ⟨none, 0, by rw [h0], by omega, hm, fun k p hp => (by rw [List.getElem?_eq_none (by omega)] at hp; cases hp)⟩
  · refine ⟨some ⟨g, 0, none⟩, cap, rfl, hcap, hm, fun k p hp => ⟨g, rfl, (Array.getElem?_eq_some_iff.1 hg).1, fun h => by have := hH g h; omega, ?_, ?_⟩⟩
    · have := O.cells (g := g) rfl (k * 2) _ (cellsL_at hp).1
      rwa [Addr.add_lit, Nat.zero_add] at this
    · have := O.cells (g := g) rfl (k * 2 + 1) _ (cellsL_at hp).2
      rwa [Addr.add_lit, Nat.zero_add] at this

/-- One more cell behind a row of the call's own. -/
theorem put_cell {y : World} {B k : Nat} {v : Value} {c : Cl} (O : y.ownsRow B 80 2 v k (cellsL c)) (hB : B ≤ y.heap.size) (hk : k ≤ 1000) (K : Int) (T : ByteArray) :
    ∃ v' z, (Builtin.append_ #[36, 36] 36 #[v, .slice (some ⟨y.heap.size, 0, none⟩) 1 1]).run Try.prog (y.alloc (.cells #[.int .i64 K, .string T] 80)) = .ok v' z ∧
      z.ownsRow B 80 2 v' (k + 1) (cellsL (c ++ [(K, T)])) ∧ Below B y z ∧ (∀ j, j < y.heap.size → v.ownBlock ≠ some j → z.heap[j]? = y.heap[j]?) ∧ (v'.ownBlock = v.ownBlock ∨ ∃ j, v'.ownBlock = some j ∧ y.heap.size ≤ j) := by
  obtain ⟨i, hi, hz, hs, hb⟩ := infoL
  have BL := Box.new y #[.int .i64 K, .string T] 80
  have O2 := O.alloc (.cells #[.int .i64 K, .string T] 80)
  have g1 := grow y (.cells #[.int .i64 K, .string T] 80)
  have g1' : Below B y (y.alloc (.cells #[.int .i64 K, .string T] 80)) := g1.mono hB
  obtain ⟨v', z, h1, h2, h3, -, h5⟩ := run_append_own_at (P := Try.prog) _ B 36 36 80 i _ 2 24 Try.underlying36 hi hz hs hb rfl (by decide) _ k _ O2 ⟨y.heap.size, 0, none⟩ 1 1 [.int .i64 K, .string T] rfl (fun j u hj => by rw [Addr.add_lit, Nat.zero_add, BL.cell]; simpa using hj) (by simp [Value.oneCell']) (by unfold maxLen; omega) (by omega) (Nat.le_trans hB g1.size)
  refine ⟨v', z, h1, by rw [cellsL_app]; exact h2, g1'.grown h3 (Nat.le_trans hB g1.size) (fun j hj => (O2.lt j hj).1), fun j hj hn => (h3.block j (Nat.lt_of_lt_of_le hj g1.size) (fun e => hn e.symm)).trans (g1.block j hj), ?_⟩
  rcases h5 with h5 | h5
  · exact .inl h5
  · exact .inr ⟨_, h5, by rw [World.size_alloc]; omega⟩
theorem own_keep {w y : World} {B n size : Nat} {t : TypeId} {v : Value} {xs : List Value} (h : w.ownsRow B t size v n xs) (hk : ∀ g, v.ownBlock = some g → g < w.heap.size → y.heap[g]? = w.heap[g]?) : y.ownsRow B t size v n xs := by
  refine ⟨h.1, ?_⟩
  rcases h.2 with hn | ⟨g, cap, cur, rfl, hb, hgg, rest⟩
  · exact .inl hn
  · refine .inr ⟨g, cap, cur, rfl, hb, ?_, rest⟩
    rw [hk g rfl (Array.getElem?_eq_some_iff.1 hgg).1]
    exact hgg

theorem told_le {d : Dk} (g : d.Good) (n : Int) : (d.told n).size ≤ 64 := by
  unfold Dk.told
  split
  · next h =>
    refine Nat.le_of_eq (readK_size ?_ (fun p hp => (g.l64 p hp).2) _ (Nat.le_refl _))
    rw [List.getD_eq_getElem?_getD]
    cases e : d.S[n.toNat]? with
    | none => exact T0_size
    | some x => exact g.s64 x (List.mem_of_getElem? e)
  · exact Nat.zero_le _
theorem cellsD_ok {d : Dk} (g : d.Good) (s : ByteArray) (place : Nat) : ∀ p ∈ cellsD d s place, (0 ≤ p.1 ∧ p.1 < 65536) ∧ p.2.size ≤ 64 := fun p hp => by
  obtain ⟨i, -, rfl⟩ := List.mem_map.1 hp
  have := nb_lt s (7 + 2 * i) 2
  exact ⟨⟨by omega, by simp only; omega⟩, told_le g _⟩
theorem bareD_ok (s : ByteArray) : ∀ p ∈ bareD s, (0 ≤ p.1 ∧ p.1 < 65536) ∧ p.2.size ≤ 64 := fun p hp => by
  obtain ⟨i, -, rfl⟩ := List.mem_map.1 hp
  have := nb_lt s (7 + 2 * i) 2
  exact ⟨⟨by omega, by simp only; omega⟩, Nat.zero_le _⟩

theorem same_text (a b : ByteArray) : (a.toList == b.toList) = decide (a = b) := by
  by_cases h : a = b
  · subst h; simp
  · rw [decide_eq_false h]
    have : ¬ a.toList = b.toList := fun e => h (by
      have e2 : a.data = b.data := by
        apply Array.ext'
        rw [← ByteArray.toList_eq, ← ByteArray.toList_eq, e]
      cases a
      cases b
      simpa using e2)
    simpa using this

/-- What is read of a head. -/
def headN (d : Dk) (s : ByteArray) (place : Nat) : Nat := if rightB d.own s place then numH s else 0
def headL (d : Dk) (s : ByteArray) (place : Nat) : Cl := if rightB d.own s place then cellsD d s place else []
def headB (d : Dk) (s : ByteArray) (place : Nat) : Bool := rightB d.own s place && decide (tH s = sumC (cellsD d s place))
theorem read_no {d : Dk} {s : ByteArray} {place : Nat} (h : rightB d.own s place = false) : headN d s place = 0 ∧ headL d s place = [] ∧ headB d s place = false := by
  unfold headN headL headB
  simp [h]
theorem sumC_lt (c : Cl) : sumC c < 65536 := Crc.on_lt (by decide) (nats_small _)
theorem read_yes {d : Dk} {s : ByteArray} {place : Nat} (h16 : cntH s ≤ 16) (h0 : numH s ≠ 0) (hp : numH s % 2 = place) (hh : headT (numH s) (ksH s) (tH s) = s) (hr : riseK d.own (ksH s) (cntH s) = true) :
    headN d s place = numH s ∧ headL d s place = cellsD d s place ∧ headB d s place = decide (headC (numH s) (cellsD d s place) = s) := by
  have h : rightB d.own s place = true := by
    unfold rightB
    simp only [Bool.and_eq_true, decide_eq_true_eq]
    exact ⟨h16, h0, hp, hh, hr⟩
  unfold headN headL headB
  refine ⟨by rw [if_pos h], by rw [if_pos h], ?_⟩
  rw [h, Bool.true_and]
  unfold headC
  rw [cellsD_ks]
  by_cases e : tH s = sumC (cellsD d s place)
  · rw [decide_eq_true e, ← e, decide_eq_true hh]
  · rw [decide_eq_false e, decide_eq_false]
    intro e2
    exact e (headT_sum (tH_lt s) (sumC_lt _) (hh.trans e2.symm))

set_option maxHeartbeats 4000000 in
set_option maxRecDepth 100000 in
theorem rreadh_any {w : World} {H : Nat → Prop} {lb rb N : Nat} {dead : Bool} {lv lw : Value} {d : Dk} (L : Box w lb (cellsG rb N dead)) (R : RD w H rb lv lw d) (s : ByteArray) (hs : s.size = 64) (place : Nat) (hp : place < 2) :
    Calls Try.prog 66 #[.pointer (some ⟨lb, 0, none⟩), .string s, .int .i64 (place : Int)] w fun e w' =>
      ∃ v, e = .returned (.tuple #[.int .i64 (headN d s place : Int), v, .bool (headB d s place)]) ∧ CW w' (fun k => k < w.heap.size) v (headL d s place) ∧ Below w.heap.size w w' := by
  obtain ⟨num, hnum⟩ : ∃ n, n = numH s := ⟨_, rfl⟩
  obtain ⟨cnt, hcnt⟩ : ∃ n, n = cntH s := ⟨_, rfl⟩
  have hnum4 : num < 4294967296 := by rw [hnum]; exact nb_lt s 2 4
  have hc256 : cnt < 256 := by rw [hcnt]; exact byteAt_lt s 6
  have cv := fun y => rval_any s 2 6 4 rfl (by omega) (by omega) y
  rw [show nb s 2 4 = num from hnum.symm] at cv
  have h6 : s[6].toNat = cnt := by rw [← byteAt_in s 6 (by omega), hcnt]; rfl
  replace hnum := hide hnum
  replace hcnt := hide hcnt
  go_enter Try.func66, Try.ntmps66
  go_wp2_with fail
  go_quiet ((go_at_call 89; exact Calls.quiet_of_same (cv _)))
  rename_i nq
  have hB0 := hide (below_drewN (Below.refl w.heap.size w) nq)
  have b0 : (w.drewN nq).cell? ⟨lb, 0, none⟩ = some (.pointer (some ⟨rb, 0, none⟩)) := (hB0.out.cell (p := ⟨lb, 0, none⟩) L.2.2).trans (L.cell 0)
  have hno := hide (fun h => read_no (d := d) (s := s) (place := place) h)
  by_cases h16 : 16 < cnt
  · have hno := hide (hno.out (by unfold rightB; rw [← hcnt.out, show decide (cnt ≤ 16) = false by simp; omega]; rfl))
    clear cv h6
    go_wp2
    go_ret3
    exact ⟨_, by rw [hno.out.1, hno.out.2.2]; rfl, by rw [hno.out.2.1]; exact CW.nil _ _, hB0.out⟩
  · have h16d : decide (16 < cnt) = false := by simpa using h16
    by_cases h0 : num = 0
    · have hno := hide (hno.out (by unfold rightB; rw [← hnum.out, h0]; simp))
      subst h0
      clear cv h6
      go_wp2
      go_ret3
      exact ⟨_, by rw [hno.out.1, hno.out.2.2]; rfl, by rw [hno.out.2.1]; exact CW.nil _ _, hB0.out⟩
    · have h0d : ((num : Int) == 0) = false := by simpa using h0
      by_cases hpp : num % 2 = place
      · have hpd : ((num : Int) % 2 != (place : Int)) = false := by simp; omega
        obtain ⟨cs, hcs⟩ : ∃ cs, Hid (cs = cellsD d s place) := ⟨_, hide rfl⟩
        obtain ⟨bs, hbs⟩ : ∃ bs, Hid (bs = bareD s) := ⟨_, hide rfl⟩
        have hcl : Hid (cs.length = cnt) := hide (by rw [hcs.out, cellsD_len, hcnt.out])
        have hbl : Hid (bs.length = cnt) := hide (by rw [hbs.out, bareD_len, hcnt.out])
        have hct : Hid (∀ k, k < cnt → cs.take (k + 1) = cs.take k ++ [(((nb s (7 + 2 * k) 2 : Nat) : Int), d.told ((2 + 16 * place + k : Nat) : Int))]) := hide (fun k hk => by rw [hcs.out]; exact take_map_range _ (by rw [← hcnt.out]; exact hk))
        have hbt : Hid (∀ k, k < cnt → bs.take (k + 1) = bs.take k ++ [(((nb s (7 + 2 * k) 2 : Nat) : Int), ByteArray.empty)]) := hide (fun k hk => by rw [hbs.out]; exact take_map_range _ (by rw [← hcnt.out]; exact hk))
        have O1 := (World.ownsRow_made (w.drewN nq) (base := w.heap.size) (e := 80) (size := 2) #[] 0 (Nat.le_refl _) (Nat.zero_le _) rfl).alloc (.cells #[] 80)
        have O2 := World.ownsRow_made ((w.drewN nq).alloc (.cells #[] 80)) (base := w.heap.size) (e := 80) (size := 2) #[] 0 (by rw [World.size_alloc]; exact Nat.le_succ _) (Nat.zero_le _) rfl
        have hB2 := hide (((hB0.out.alloc (Nat.le_refl _) (.cells #[] 80))).alloc (by rw [World.size_alloc]; exact Nat.le_succ _) (.cells #[] 80))
        rw [World.size_alloc] at O2
        have O1 := hide O1
        have O2 := hide O2
        have h16' : cnt ≤ 16 := by omega
        have hrb := R.box.2.2
        have hlb := L.2.2
        have bL := L.cell 0
        have hR := hide R
        have hL := hide L
        clear cv h6 h16d h16 R L
        go_wp2_with fail
        go_loopw [11, 12, 13] (fun cv bv i y => ∃ k : Nat, k ≤ cnt ∧ i = .int .i64 (k : Int) ∧ Hid (y.ownsRow w.heap.size 80 2 cv k (cellsL (cs.take k))) ∧ Hid (y.ownsRow w.heap.size 80 2 bv k (cellsL (bs.take k))) ∧ Hid (∀ j, cv.ownBlock = some j → bv.ownBlock ≠ some j) ∧ Hid (Below w.heap.size w y)) (fun _ _ i _ => cnt - (intOf i).toNat)
        case atStart => exact ⟨0, Nat.zero_le _, rfl, O1, O2, hide (fun j h => by simp [Value.ownBlock] at h ⊢; omega), hB2⟩
        case round =>
          clear O1 O2 hB2
          obtain ⟨k, hkc, rfl, O1, O2, hne, hB⟩ := hrel
          have b0 : wr.cell? ⟨lb, 0, none⟩ = some (.pointer (some ⟨rb, 0, none⟩)) := (hB.out.cell (p := ⟨lb, 0, none⟩) hlb).trans bL
          by_cases h : k < cnt
          · have cr := rread_any (hR.out.on hB.out) ((2 + 16 * place + k : Nat) : Int)
            rw [show ((2 + 16 * place + k : Nat) : Int) = 2 + 16 * (place : Int) + (k : Int) by omega] at cr
            have cv2 := rval_any s (7 + 2 * k) (9 + 2 * k) 2 (by omega) (by omega) (by omega) wr
            have h1 := hct.out k h
            have h2 := hbt.out k h
            have hK := nb_lt s (7 + 2 * k) 2
            obtain ⟨K, hKK⟩ : ∃ K, K = nb s (7 + 2 * k) 2 := ⟨_, rfl⟩
            rw [show ((2 + 16 * place + k : Nat) : Int) = 2 + 16 * (place : Int) + (k : Int) by omega] at h1
            obtain ⟨T, hT⟩ : ∃ T, T = d.told (2 + 16 * (place : Int) + (k : Int)) := ⟨_, rfl⟩
            obtain ⟨E, hE⟩ : ∃ E, E = d.errAt (2 + 16 * (place : Int) + (k : Int)) := ⟨_, rfl⟩
            rw [← hKK] at cv2 h1 h2 hK
            rw [← hT] at cr h1
            rw [← hE] at cr
            obtain ⟨v1, z1, hap1, P1, B1, K1, D1⟩ := put_cell O1.out hB.out.size (by omega) (K : Int) T
            have O2' := own_keep O2.out (y := z1) (fun g hg hlt => K1 g hlt (fun e => hne.out g e hg))
            obtain ⟨v2, z2, hap2, P2, B2, K2, D2⟩ := put_cell O2' (Nat.le_trans hB.out.size B1.size) (by omega) (K : Int) ByteArray.empty
            have P1' := hide (own_keep P1 (y := z2) (fun g hg hlt => K2 g hlt (fun e => by
              rcases D1 with D1 | ⟨j, D1, hj⟩
              · rw [D1] at hg
                exact hne.out g hg e
              · rw [D1] at hg
                injection hg with hg
                subst hg
                have := (O2.out.lt _ e).2
                omega)))
            have hne2 := hide (fun j (hj : v1.ownBlock = some j) => (show v2.ownBlock ≠ some j from fun e => by
              rcases D2 with D2 | ⟨j2, D2, hj2⟩
              · rw [D2] at e
                rcases D1 with D1 | ⟨j1, D1, hj1⟩
                · rw [D1] at hj
                  exact hne.out j hj e
                · rw [D1] at hj
                  injection hj with hj
                  have := (O2.out.lt _ e).2
                  omega
              · rw [D2] at e
                injection e with e
                have := (P1.lt _ hj).2
                omega))
            have P2' := hide P2
            have hBz := hide ((hB.out.trans B1).trans B2)
            rw [← h1] at P1'
            rw [← h2] at P2'
            replace hT := hide hT
            replace hE := hide hE
            replace hKK := hide hKK
            have ht1 : (7 + 2 * (k : Int)).toNat = 7 + 2 * k := by omega
            have ht2 : (9 + 2 * (k : Int)).toNat = 9 + 2 * k := by omega
            clear h1 h2 P1 P2 B1 B2 K1 K2 D1 D2 O1 O2 O2' hne hB
            go_wp2_with (at_builtin; first | refine wpList_append_told rfl _ _ 36 36 rfl _ _ _ rfl rfl hap1 ?_ | refine wpList_append_told rfl _ _ 36 36 rfl _ _ _ rfl rfl hap2 ?_)
            refine cr.mono ?_
            rintro e y ⟨rfl, hy⟩
            subst hy
            go_wp2_with (at_builtin; first | refine wpList_append_told rfl _ _ 36 36 rfl _ _ _ rfl rfl hap1 ?_ | refine wpList_append_told rfl _ _ 36 36 rfl _ _ _ rfl rfl hap2 ?_)
            refine cv2.mono ?_
            rintro e y2 ⟨rfl, hy⟩
            subst hy
            go_wp2_with (at_builtin; first | refine wpList_append_told rfl _ _ 36 36 rfl _ _ _ rfl rfl hap1 ?_ | refine wpList_append_told rfl _ _ 36 36 rfl _ _ _ rfl rfl hap2 ?_)
            go_roundw
            case rel => exact ⟨k + 1, by omega, by go_num, P1', P2', hne2, hBz⟩
            case measure => simp [intOf]; omega
          · obtain rfl : k = cnt := by omega
            have e1 : cs.take k = cs := List.take_of_length_le (by rw [hcl.out]; exact Nat.le_refl _)
            have e2 : bs.take k = bs := List.take_of_length_le (by rw [hbl.out]; exact Nat.le_refl _)
            rw [e1] at O1
            rw [e2] at O2
            have Cc := CW.of_own (B := w.heap.size) (c := cs) (by rw [hcl.out]; exact O1.out) (by rw [hcl.out]; omega) (fun k => k < w.heap.size) (fun g h => h)
            have Cb := CW.of_own (B := w.heap.size) (c := bs) (by rw [hbl.out]; exact O2.out) (by rw [hbl.out]; omega) (fun k => k < w.heap.size) (fun g h => h)
            have okc := cellsD_ok hR.out.g s place
            have okb := bareD_ok s
            rw [← hcs.out] at okc
            rw [← hbs.out] at okb
            have ch1 := rhead_any num hnum4 Cb (by rw [hbl.out]; exact h16') (fun p hp => (okb p hp).1) (fun p hp => (okb p hp).2)
            have ch2 := hide (fun y (hb : Below wr.heap.size wr y) => rhead_any num hnum4 (Cc.on hb) (by rw [hcl.out]; exact h16') (fun p hp => (okc p hp).1) (fun p hp => (okc p hp).2))
            have crs := hide (fun y (hb : Below wr.heap.size wr y) => rrise_any (hL.out.on (onto hB.out (Nat.le_refl _) hb)) (hR.out.on (onto hB.out (Nat.le_refl _) hb)) (Cc.on hb))
            have eks : cs.map (·.1) = ksH s := by rw [hcs.out, cellsD_ks]
            rw [eks, hcl.out] at crs
            have hsw := hd_swap num (ksH s) (sumC bs) s hs
            have eX : headC num bs = headT num (ksH s) (sumC bs) := by unfold headC; rw [hbs.out, bareD_ks]
            rw [← eX] at hsw
            have hXs : (headC num bs).size = 64 := headT_size _ _ _
            obtain ⟨X, hX⟩ : ∃ X, X = headC num bs := ⟨_, rfl⟩
            rw [← hX] at hsw hXs ch1
            obtain ⟨Y, hY⟩ : ∃ Y, Y = headT num (ksH s) (tH s) := ⟨_, rfl⟩
            obtain ⟨A, hA⟩ : ∃ A, A = X.extract 0 39 ++ s.extract 39 41 := ⟨_, rfl⟩
            obtain ⟨A2, hA2⟩ : ∃ A2, A2 = A ++ X.extract 41 62 := ⟨_, rfl⟩
            have hseal : sealOf A2 = Y := by rw [hA2, hA, hsw, hY]; rfl
            have hz1 : (X.extract 0 39).size = 39 := by rw [ByteArray.size_extract]; omega
            have hz2 : (s.extract 39 41).size = 2 := by rw [ByteArray.size_extract]; omega
            have hz3 : (X.extract 41 62).size = 21 := by rw [ByteArray.size_extract]; omega
            have hz4 : A.size = 41 := by rw [hA, ByteArray.size_append]; omega
            have hz5 : A2.size = 62 := by rw [hA2, ByteArray.size_append]; omega
            have csl := hide (fun y => rseal_any A2 y (by omega))
            rw [hseal] at csl
            have n1 : ¬ 9223372036854775807 < (X.extract 0 39).size + (s.extract 39 41).size := by omega
            have n2 : ¬ 9223372036854775807 < A.size + 21 := by omega
            replace hA := hide hA
            replace hA2 := hide hA2
            replace hY := hide hY
            clear O1 O2 Cb okc okb eX hsw hX hseal e1 e2 hz4 hz5 hct hbt b0 eks
            go_wp2_with fail
            refine ch1.mono ?_
            rintro q y2 ⟨rfl, hb2⟩
            replace hb2 := hide hb2
            clear ch1
            go_wp2_with fail
            refine zcalm (fun V => by simp only [actV, Act.put, zpa, zpb, zpc, Nat.zero_add, Nat.reduceAdd]; exact rfl) (fun x => Below y2.heap.size y2 x) [.is (.string X), .is (.string (X.extract 0 39)), .is (.string s), .is (.string (s.extract 39 41)), .is (.string A), .is (.string X), .is (.string (X.extract 41 62)), .is (.string A2), .is (.string Y), .is (.string Y)] (by kernel_rfl) (by kernel_rfl) (fun x y h hb => onto h (Nat.le_refl _) hb) (Below.refl _ y2).drew ?_ ?_
            · refine ⟨?_, ?_, ?_, ?_, ?_, ?_, ?_, ?_, ?_, ?_, trivial⟩
              · intro V x hS hd
                go_simp
                exact ⟨Below.refl _ _, rfl⟩
              · intro V x hS hd
                have h0 : V 0 = _ := hd 0 (by decide)
                simp only [h0]
                go_simp
                exact ⟨Below.refl _ _, rfl⟩
              · intro V x hS hd
                go_simp
                exact ⟨Below.refl _ _, rfl⟩
              · intro V x hS hd
                have h2 : V 2 = _ := hd 2 (by decide)
                simp only [h2]
                go_simp
                exact ⟨Below.refl _ _, rfl⟩
              · intro V x hS hd
                have h1 : V 1 = _ := hd 1 (by decide)
                have h3 : V 3 = _ := hd 3 (by decide)
                simp only [h1, h3]
                go_simp
                exact ⟨Below.refl _ _, by rw [hA.out]; rfl⟩
              · intro V x hS hd
                go_simp
                exact ⟨Below.refl _ _, rfl⟩
              · intro V x hS hd
                have h5 : V 5 = _ := hd 5 (by decide)
                simp only [h5]
                go_simp
                exact ⟨Below.refl _ _, rfl⟩
              · intro V x hS hd
                have h4 : V 4 = _ := hd 4 (by decide)
                have h6 : V 6 = _ := hd 6 (by decide)
                simp only [h4, h6]
                go_simp
                exact ⟨Below.refl _ _, by rw [hA2.out]; rfl⟩
              · intro V x hS hd
                have h7 : V 7 = _ := hd 7 (by decide)
                simp only [h7]
                go_simp
                refine (csl.out _).mono ?_
                rintro q y ⟨rfl, hb⟩
                exact ⟨hb, rfl⟩
              · intro V x hS hd
                have h8 : V 8 = _ := hd 8 (by decide)
                simp only [h8]
                go_simp
                exact ⟨Below.refl _ _, rfl⟩
            · intro V x hS hd
              have h9 : V 9 = _ := hd 9 (by decide)
              simp only [h9]
              have hBx := hide (onto hb2.out (Nat.le_refl _) hS)
              clear h9 hd hS csl n1 n2 hz1 hz2 hz3 hXs
              have hBw := hide (onto hB.out (Nat.le_refl _) hBx.out)
              by_cases hYs : Y = s
              · have hYd : decide (Y = s) = true := by simpa using hYs
                have cr := crs.out x hBx.out
                obtain ⟨b, hb⟩ : ∃ b, b = riseK d.own (ksH s) k := ⟨_, rfl⟩
                rw [← hb] at cr
                replace hb := hide hb
                go_wp2_with fail
                refine cr.mono ?_
                rintro q y3 ⟨rfl, hb3⟩
                have hB3 := hide (onto hBx.out (Nat.le_refl _) hb3)
                have hB3w := hide (onto hBw.out (Nat.le_refl _) hb3)
                clear cr hb3
                cases b with
                | false =>
                  have hno := hide (hno.out (by unfold rightB; rw [← hcnt.out, ← hb.out]; simp))
                  go_wp2
                  go_ret3
                  exact ⟨_, by rw [hno.out.1, hno.out.2.2]; rfl, by rw [hno.out.2.1]; exact CW.nil _ _, hB3w.out⟩
                | true =>
                  have hyes := hide (read_yes (d := d) (s := s) (place := place) (by rw [← hcnt.out]; exact h16') (by rw [← hnum.out]; exact h0) (by rw [← hnum.out]; exact hpp) (by rw [← hnum.out] at *; exact hY.out.symm.trans hYs) (by rw [← hcnt.out]; exact hb.out.symm))
                  have ch := ch2.out y3 hB3.out
                  obtain ⟨Z, hZ⟩ : ∃ Z, Z = headC num cs := ⟨_, rfl⟩
                  rw [← hZ] at ch
                  replace hZ := hide hZ
                  go_wp2_with fail
                  refine ch.mono ?_
                  rintro q y4 ⟨rfl, hb4⟩
                  have hB4 := hide (onto hB3.out (Nat.le_refl _) hb4)
                  have hB4w := hide (onto hB3w.out (Nat.le_refl _) hb4)
                  clear ch hb4
                  go_wp2
                  go_ret3
                  refine ⟨_, ?_, by rw [hyes.out.2.1, ← hcs.out]; exact Cc.on hB4.out, hB4w.out⟩
                  rw [hyes.out.1, hyes.out.2.2, ← hnum.out, ← hcs.out, ← hZ.out, ← same_text]
                  rfl
              · have hno := hide (hno.out (by
                  unfold rightB
                  rw [← hnum.out, ← hY.out, show decide (Y = s) = false by simpa using hYs]
                  simp))
                have hYd : (Y.toList != s.toList) = true := by rw [bne, same_text]; simpa using hYs
                have hYd2 : (Y.toList == s.toList) = false := by rw [same_text]; simpa using hYs
                go_wp2
                go_ret3
                exact ⟨_, by rw [hno.out.1, hno.out.2.2]; rfl, by rw [hno.out.2.1]; exact CW.nil _ _, hBw.out⟩
      · have hno := hide (hno.out (by unfold rightB; rw [← hnum.out, show decide (num % 2 = place) = false by simpa using hpp]; simp))
        have hpd : ((num : Int) % 2 != (place : Int)) = true := by simp; omega
        clear cv h6
        go_wp2
        go_ret3
        exact ⟨_, by rw [hno.out.1, hno.out.2.2]; rfl, by rw [hno.out.2.1]; exact CW.nil _ _, hB0.out⟩

end Go.Proofs.Ytgffhnggocbjhaa
