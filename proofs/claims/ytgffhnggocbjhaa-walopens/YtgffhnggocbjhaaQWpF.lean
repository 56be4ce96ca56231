/- Layer 19: the program's log: a head as it is laid. -/
import Derived.Test.YtgffhnggocbjhaaQWpE
namespace Go.Proofs.Ytgffhnggocbjhaa
open Go.RowKit
set_option linter.unusedVariables false
set_option maxRecDepth 100000
set_option linter.unusedSimpArgs false

theorem bytesT_two (v : Nat) : bytesT v 2 = twoT v := textOf_congr fun j hj => by
  unfold bytesF
  rcases (show j = 0 ∨ j = 1 by omega) with rfl | rfl <;> simp
theorem bytesT_word (v : Nat) : bytesT v 4 = wordT v := textOf_congr fun j hj => by
  unfold bytesF
  rw [show 4 - 1 - j = 3 - j by omega]
theorem bytesT_zero (n : Nat) : bytesT 0 n = textOf n (fun _ => 0) := textOf_congr fun j hj => by
  unfold bytesF
  simp
theorem bytesT_one (v : Nat) : bytesT v 1 = textOf 1 (fun _ => v % 256) := textOf_congr fun j hj => by
  unfold bytesF
  rw [show 1 - 1 - j = 0 by omega]
  simp
theorem bytesT_size (v n : Nat) : (bytesT v n).size = n := textOf_size _ _
theorem hd_rest (num : Nat) (ks : List Int) (t : Nat) (h : ks.length ≤ 16) : textOf (7 + 2 * ks.length) (hdF num ks t) ++ textOf (2 * (16 - ks.length)) (fun _ => 0) = textOf 39 (hdF num ks t) := by
  have e : textOf (2 * (16 - ks.length)) (fun _ => 0) = textOf (2 * (16 - ks.length)) (fun j => hdF num ks t (7 + 2 * ks.length + j)) := textOf_congr fun j hj => by
    have hi : ks.length + j / 2 < 16 := by omega
    obtain ⟨h1, h2⟩ := hdF_k num ks t (ks.length + j / 2) hi
    have h0 : ks.getD (ks.length + j / 2) 0 = 0 := by rw [List.getD_eq_getElem?_getD, List.getElem?_eq_none (by omega)]; rfl
    rw [h0] at h1 h2
    rcases (show 7 + 2 * ks.length + j = 7 + 2 * (ks.length + j / 2) ∨ 7 + 2 * ks.length + j = 7 + 2 * (ks.length + j / 2) + 1 by omega) with e | e
    · rw [e, h1]; rfl
    · rw [e, h2]; rfl
  rw [e, textOf_add, show 7 + 2 * ks.length + 2 * (16 - ks.length) = 39 by omega]

/-- The call's blocks: the head, the bytes on the way. -/
structure Laid (w y : World) (c : Array Value) (s : ByteArray) (P : Prop) : Prop where
  buf : Buf y (w.heap.size + 1) (w.heap.size + 1 + 1) s P
  box : Box y w.heap.size c
  far : Below w.heap.size w y

theorem Laid.put {w y : World} {c : Array Value} {s : ByteArray} {P : Prop} (h : Laid w y c s P) (v n : Nat) (vi ni : Int) (hv : vi = (v : Int)) (hn : ni = (n : Int)) (hv2 : v < 9223372036854775808) (hn2 : n ≤ 40) (hs : s.size ≤ 900) :
    Calls Try.prog 71 #[.int .i64 vi, .int .i64 ni, .pointer (some ⟨w.heap.size + 1 + 1, 0, none⟩)] y fun e w' => e = .returned (.tuple #[]) ∧ Laid w w' c (s ++ bytesT v n) (P ∨ 0 < n) := by
  subst hv
  subst hn
  refine (wput_any h.buf v hv2 n hn2 hs).mono ?_
  rintro e w' ⟨rfl, B, T⟩
  exact ⟨rfl, B, h.box.of_heap (T.block _ (Nat.lt_succ_self _)), h.far.trans (T.mono (Nat.le_succ _))⟩

theorem Laid.start (w : World) (c : Array Value) (t1 t2 : TypeId) :
    Laid w (((w.alloc (.cells c t1)).alloc (.cells #[.int .u8 90, .int .u8 87] 5 (2, 3))).alloc (.cells #[.slice (some ⟨w.heap.size + 1, 0, none⟩) 2 2] t2)) c ⟨#[90, 87]⟩ False := by
  have B0 := Box.new w c t1
  have g0 := grow w (.cells c t1)
  have h1 : (w.alloc (.cells c t1)).heap.size = w.heap.size + 1 := by simp
  generalize w.alloc (.cells c t1) = x1 at *
  have g1 := grow x1 (.cells #[.int .u8 90, .int .u8 87] 5 (2, 3))
  have h2 : (x1.alloc (.cells #[.int .u8 90, .int .u8 87] 5 (2, 3))).heap.size = w.heap.size + 1 + 1 := by simp [h1]
  have c2 : ∀ j, (x1.alloc (.cells #[.int .u8 90, .int .u8 87] 5 (2, 3))).cell? ⟨w.heap.size + 1, j, none⟩ = (#[.int .u8 90, .int .u8 87] : Array Value)[j]? := fun j => by
    rw [← h1]
    exact World.cell?_alloc_mark _ _ _ _ j
  generalize x1.alloc (.cells #[.int .u8 90, .int .u8 87] 5 (2, 3)) = x2 at *
  have g2 := grow x2 (.cells #[.slice (some ⟨w.heap.size + 1, 0, none⟩) 2 2] t2)
  have B2 := Box.new x2 #[.slice (some ⟨w.heap.size + 1, 0, none⟩) 2 2] t2
  have h3 : (x2.alloc (.cells #[.slice (some ⟨w.heap.size + 1, 0, none⟩) 2 2] t2)).heap.size = w.heap.size + 1 + 1 + 1 := by simp [h2]
  generalize x2.alloc (.cells #[.slice (some ⟨w.heap.size + 1, 0, none⟩) 2 2] t2) = x3 at *
  rw [h2] at B2
  refine ⟨⟨_, B2, .inr ⟨fun h => h, w.heap.size + 1, rfl, Nat.le_refl _, by omega, fun j u hj => ?_⟩, ?_, by omega⟩, (B0.on g1).on g2, onto (onto g0 (Nat.le_refl _) g1) (Nat.le_refl _) g2⟩
  · rw [g2.cell (p := ⟨w.heap.size + 1, j, none⟩) (by show w.heap.size + 1 < _; rw [h2]; omega), c2]
    have e : Go.Lib.strCells ⟨#[90, 87]⟩ = [.int .u8 90, .int .u8 87] := by rfl
    rw [e] at hj
    simpa using hj
  · simp [Value.ownBlock]

theorem Laid.row {w y : World} {c : Array Value} {s : ByteArray} (h : Laid w y c s True) : ∃ a cap, Box y (w.heap.size + 1 + 1) #[.slice a s.size cap] ∧ y.ownsRow (w.heap.size + 1) 5 1 (.slice a s.size cap) s.size (Go.Lib.strCells s) := by
  obtain ⟨u, BB, O, -, -⟩ := h.buf
  rcases O with O | ⟨n, -⟩
  · rcases O.2 with ⟨rfl, h0⟩ | ⟨g, cap, cur, rfl, -⟩
    · exact ⟨none, 0, by rw [h0]; exact BB, by rw [h0] at O ⊢; exact O⟩
    · exact ⟨_, cap, BB, O⟩
  · exact (n trivial).elim

set_option maxHeartbeats 1000000 in
theorem wtext_any (num : Nat) (hn : num < 4294967296) {w : World} {H : Nat → Prop} {v : Value} {ks : List Int} (I : IW w H v ks) (h16 : ks.length ≤ 16) (hk : ∀ k ∈ ks, 0 ≤ k ∧ k < 65536) (t : Nat) (ht : t < 65536) :
    Calls Try.prog 44 #[headV num v t] w fun e w' => e = .returned (.string (headT num ks t)) ∧ Below w.heap.size w w' := by
  obtain ⟨a, cap, rfl, hc, hm, hx⟩ := I
  obtain ⟨n, hnn⟩ : ∃ n, n = ks.length := ⟨_, rfl⟩
  have hbeg := hide (hd_begin num ks t ⟨#[90, 87]⟩ rfl)
  have hres := hide (hd_rest num ks t h16)
  have hnx := hide (hd_next num ks t)
  have hend := hide (hd_end num ks t ht)
  rw [← hnn] at hc hm h16 hres hbeg ⊢
  have hw1 : (w.alloc (.cells #[.int .i64 (num : Int), .slice a n cap, .int .u16 (t : Int)] 77)).heap.size = w.heap.size + 1 := by simp
  have hcv := Go.Lib.run_convert_bytes_const (P := Try.prog) (w.alloc (.cells #[.int .i64 (num : Int), .slice a n cap, .int .u16 (t : Int)] 77)) 57 5 #[.int .u8 90, .int .u8 87] 2 2 Try.underlying57 Try.underlying5
  rw [hw1] at hcv
  have L0 := Laid.start w #[.int .i64 (num : Int), .slice a n cap, .int .u16 (t : Int)] 77 57
  replace hx := hide hx
  replace hk := hide hk
  replace hnn := hide hnn
  unfold headV
  obtain ⟨F, hF⟩ : ∃ F, Hid (F = headT num ks t) := ⟨_, hide rfl⟩
  rw [← hF.out]
  go_enter Try.func44, Try.ntmps44
  go_wp2_with fail
  generalize ((w.alloc (.cells #[.int .i64 (num : Int), .slice a n cap, .int .u16 (t : Int)] 77)).alloc (.cells #[.int .u8 90, .int .u8 87] 5 (2, 3))).alloc (.cells #[.slice (some ⟨w.heap.size + 1, 0, none⟩) 2 2] 57) = x0 at *
  clear hcv hw1
  refine (L0.put num 4 _ _ rfl rfl (by omega) (by decide) (by decide)).mono ?_
  rintro e x1 ⟨rfl, L1⟩
  clear L0
  have b1 := L1.box.cell 1
  go_wp2_with fail
  refine (L1.put n 1 _ _ rfl rfl (by omega) (by decide) (by rw [ByteArray.size_append, bytesT_size]; decide)).mono ?_
  rintro e x2 ⟨rfl, L2⟩
  clear L1 b1
  have L2 : Hid (Laid w x2 #[.int .i64 (num : Int), .slice a n cap, .int .u16 (t : Int)] (textOf (7 + 2 * 0) (hdF num ks t)) True) := hide (by
    rw [bytesT_word, bytesT_one, hbeg.out, show ((False ∨ 0 < 4) ∨ 0 < 1) = True by simp] at L2
    exact L2)
  have b1 := L2.out.box.cell 1
  go_wp2_with fail
  clear b1
  go_loopw [22] (fun i y => ∃ k : Nat, k ≤ n ∧ i = .int .i64 (k : Int) ∧ Hid (Laid w y #[.int .i64 (num : Int), .slice a n cap, .int .u16 (t : Int)] (textOf (7 + 2 * k) (hdF num ks t)) True)) (fun i _ => n - (intOf i).toNat)
  case atStart => exact ⟨0, Nat.zero_le _, rfl, L2⟩
  case round =>
    clear L2
    obtain ⟨k, hkn, rfl, L⟩ := hrel
    by_cases h : k < n
    · obtain ⟨x, hp⟩ : ∃ p, ks[k]? = some p := ⟨ks[k]'(by have := hnn.out; omega), List.getElem?_eq_getElem _⟩
      obtain ⟨g, rfl, hg, -, q0⟩ := hx.out k x hp
      have r0 : wr.cell? ⟨g, k, none⟩ = some (.int .i64 x) := (L.out.far.cell (p := ⟨g, k, none⟩) hg).trans q0
      obtain ⟨k0, k1⟩ := hk.out x (List.mem_of_getElem? hp)
      have hgd : ks.getD k 0 = x := getD_some hp
      have nx := hide ((hnx.out k (by omega)).symm.trans (by rw [hgd, ← bytesT_two]))
      have cp := L.out.put x.toNat 2 x 2 (by omega) rfl (by omega) (by decide) (by rw [textOf_size]; omega)
      rw [← nx.out, show (True ∨ 0 < 2) = True by simp] at cp
      clear q0 hp hgd hx hk hnn
      go_wp2_with fail
      refine cp.mono ?_
      rintro e y ⟨rfl, L2⟩
      replace L2 := hide L2
      clear cp r0 L
      go_wp2
      go_roundw
      case rel => exact ⟨k + 1, by omega, by go_num, L2⟩
      case measure => simp [intOf]; omega
    · obtain rfl : k = n := by omega
      have b1 := L.out.box.cell 1
      have b2 := L.out.box.cell 2
      have cp := fun vi ni hv hn => L.out.put 0 (2 * (16 - k)) vi ni hv hn (by decide) (by omega) (by rw [textOf_size]; omega)
      rw [bytesT_zero, hres.out, show (True ∨ 0 < 2 * (16 - k)) = True by simp] at cp
      clear hx hk hnx hnn hres hbeg
      go_wp2_with fail
      refine (cp _ _ rfl (by omega)).mono ?_
      rintro e x3 ⟨rfl, L3⟩
      clear cp L b1 b2
      have b2 := L3.box.cell 2
      have cp := fun vi ni hv hn => L3.put t 2 vi ni hv hn (by omega) (by decide) (by rw [textOf_size]; decide)
      rw [bytesT_two, show (True ∨ 0 < 2) = True by simp] at cp
      go_wp2_with fail
      refine (cp _ _ rfl (by omega)).mono ?_
      rintro e x4 ⟨rfl, L4⟩
      clear cp L3 b2
      obtain ⟨s4, hs4⟩ : ∃ s4, s4 = textOf 39 (hdF num ks t) ++ twoT t := ⟨_, rfl⟩
      have hz4 : s4.size = 41 := by rw [hs4, ByteArray.size_append, textOf_size]; rfl
      rw [← hs4] at L4 hend
      obtain ⟨ra, rc, RB, -⟩ := L4.row
      rw [hz4] at RB
      have b0 := RB.cell 0
      have cp := fun vi ni hv hn => L4.put 0 17 vi ni hv hn (by decide) (by decide) (by rw [hz4]; decide)
      rw [bytesT_zero, show (True ∨ 0 < 17) = True by simp] at cp
      clear hs4
      go_wp2_with fail
      refine (cp _ _ rfl rfl).mono ?_
      rintro e x5 ⟨rfl, L5⟩
      clear cp L4 b0 RB
      have b0 := L5.box.cell 0
      have cp := fun vi ni hv hn => L5.put num 4 vi ni hv hn (by omega) (by decide) (by rw [ByteArray.size_append, hz4, textOf_size]; decide)
      rw [bytesT_word, hend.out, show (True ∨ 0 < 4) = True by simp] at cp
      go_wp2_with fail
      refine (cp _ _ rfl rfl).mono ?_
      rintro e x6 ⟨rfl, L6⟩
      clear cp L5 b0
      obtain ⟨ra, rc, RB, RO⟩ := L6.row
      have hsz := textOf_size 62 (hdF num ks t)
      have hcv := conv_own RO rfl
      rw [hsz] at RB hcv
      have b0 := RB.cell 0
      have hF2 := hF.out
      unfold headT at hF2
      obtain ⟨s6, hs6⟩ : ∃ s, s = textOf 62 (hdF num ks t) := ⟨_, rfl⟩
      rw [← hs6] at hcv hF2 hsz
      have cs := fun y => seal_any s6 y (by omega)
      rw [← hF2] at cs
      replace L6 := hide L6
      clear RO RB hs6 hF2
      go_wp2_with fail
      refine (cs _).mono ?_
      rintro e x7 ⟨rfl, hb⟩
      have T := hide (onto L6.out.far (Nat.le_refl _) hb)
      clear hb cs b0 hcv
      go_wp2
      go_ret
      exact ⟨rfl, T.out⟩

end Go.Proofs.Ytgffhnggocbjhaa
