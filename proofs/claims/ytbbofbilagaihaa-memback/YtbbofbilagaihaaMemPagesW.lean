/- Pages that are put are told, and are the image, one behind the other. -/
import Derived.Test.YtbbofbilagaihaaMemText
namespace Go.Proofs.Ytbbofbilagaihaa
open Go.RowKit
set_option linter.unusedVariables false
set_option linter.unusedSimpArgs false

/-- The byte that page k is filled from. -/
def seedOf (zs : List Nat) (k : Nat) : Nat := zs[k]?.getD 0

/-- All bytes. -/
def allB (zs : List Nat) : Nat → Nat := fun j => fillB (seedOf zs (j / 256)) (j % 256)

theorem fillB_lt (v j : Nat) : fillB v j < 256 := Nat.mod_lt _ (by decide)

theorem allB_lt (zs : List Nat) (j : Nat) : allB zs j < 256 := fillB_lt _ _

theorem fill0 (v : Nat) : fillT v 0 = textOf 256 (fillB v) := rfl

theorem fill0_size (v : Nat) : (fillT v 0).size = 256 := textOf_size _ _

theorem all_succ (zs : List Nat) (k : Nat) : textOf (256 * k) (allB zs) ++ fillT (seedOf zs k) 0 = textOf (256 * (k + 1)) (allB zs) := by
  rw [fill0, show 256 * (k + 1) = 256 * k + 256 by omega, ← textOf_add]
  congr 1
  apply textOf_congr
  intro j hj
  unfold allB
  rw [show (256 * k + j) / 256 = k by omega, show (256 * k + j) % 256 = j by omega]

theorem put_all {w : World} {p g c : Nat} {zs : List Nat} {k : Nat} {D : Nat → Bool} (M : Mem w p g 8 c (pageB (fun j => if j < 256 * k then allB zs j else 0) k (fillT (seedOf zs k) 0)) D) :
    Mem w p g 8 c (fun j => if j < 256 * (k + 1) then allB zs j else 0) D := by
  refine M.congr (fun j hj => ?_) (fun _ _ => rfl) (fun j => ?_)
  · unfold pageB
    by_cases e : j / 256 = k
    · rw [if_pos e, if_pos (by omega), fill0, byteAt_textOf _ _ (fillB_lt _) _ (by omega)]
      unfold allB
      rw [e]
    · rw [if_neg e]
      show (if j < 256 * k then allB zs j else 0) = _
      by_cases h : j < 256 * k
      · rw [if_pos h, if_pos (by omega)]
      · rw [if_neg h, if_neg (by omega)]
  · split
    · exact allB_lt _ _
    · decide

theorem and7 (a : Int) : ∃ q : Nat, q < 8 ∧ bits .and .i64 a 7 = (q : Int) := by
  refine ⟨(BitVec.ofInt 64 a &&& 7#64).toNat, ?_, ?_⟩
  · have : (BitVec.ofInt 64 a &&& 7#64).toNat = (BitVec.ofInt 64 a).toNat &&& 7 := by simp [BitVec.toNat_and]
    rw [this]
    exact Nat.lt_of_le_of_lt Nat.and_le_right (by decide)
  · have h : (BitVec.ofInt 64 a &&& 7#64).toNat < 8 := by
      have : (BitVec.ofInt 64 a &&& 7#64).toNat = (BitVec.ofInt 64 a).toNat &&& 7 := by simp [BitVec.toNat_and]
      rw [this]
      exact Nat.lt_of_le_of_lt Nat.and_le_right (by decide)
    show IntKind.i64.wrap ((BitVec.ofInt 64 a &&& BitVec.ofInt 64 7).toNat : Int) = _
    rw [show BitVec.ofInt 64 7 = 7#64 from rfl, IntKind.wrap_i64]
    omega

theorem pages_end (zs : List Nat) (q : Nat) (h : q < 8) (t : ByteArray) (ht : t.size = 256) :
    (textOf 2048 (allB zs)).extract 0 (256 * q) ++ t ++ (textOf 2048 (allB zs)).extract (256 * q + 256) 2048 = textOf (256 * 8) (pageB (fun j => if j < 256 * 8 then allB zs j else 0) q t) := by
  have := textOf_put 2048 (256 * q) (allB zs) t (by omega)
  rw [ht] at this
  rw [this]
  apply textOf_congr
  intro j hj
  unfold pageB
  by_cases e : j / 256 = q
  · rw [if_pos (by omega), if_pos e, show j - 256 * q = j % 256 by omega]
  · rw [if_neg (by omega), if_neg e]
    show _ = (if j < 256 * 8 then allB zs j else 0)
    rw [if_pos (by omega)]

theorem cut_head (S : ByteArray) (h : Int) (n : Nat) (e : h = (n : Int)) (hn : n ≤ S.size) (w : World) :
    (Instr.sliceAt 9 (.string S) none (some (.int .i64 h)) none).run Try.prog w = .ok (.string (S.extract 0 n)) w := by
  subst e
  rw [run_sliceAt_string w 9 _ _ _ _ Try.underlying9, run_slice_string_h w 9 S Try.underlying9 .i64 (n : Int) (by omega) (by omega), Int.toNat_natCast]

theorem cut_tail (S : ByteArray) (h : Int) (n : Nat) (e : h = (n : Int)) (hn : n ≤ S.size) (w : World) :
    (Instr.sliceAt 9 (.string S) (some (.int .i64 h)) none none).run Try.prog w = .ok (.string (S.extract n S.size)) w := by
  subst e
  rw [run_sliceAt_string w 9 _ _ _ _ Try.underlying9, run_slice_string_l w 9 S Try.underlying9 .i64 (n : Int) (by omega) (by omega), Int.toNat_natCast]

theorem held2 {w x y : World} {p g n c : Nat} {B : Nat → Nat} {D : Nat → Bool} (h : Mem x p g n c B D ∧ Below w.heap.size w x) (hb : Below x.heap.size x y) : Mem y p g n c B D ∧ Below w.heap.size w y :=
  ⟨h.1.on hb, h.2.trans (hb.mono h.2.size)⟩

set_option maxHeartbeats 4000000 in
set_option maxRecDepth 100000 in
theorem pages_walk (w : World) (v0 : Value) (zs : List Nat) (w0 : IsBytes w v0 zs) (a1 : Int) (w1 : (Lit.int .i64 a1).wf = true) :
    Calls Try.prog 7 #[v0, .int .i64 a1] w fun e w' => e = .returned (.bool true) ∧ Below w.heap.size w w' := by
  obtain ⟨ad, n, c, rfl, hn, hm, hcell⟩ : ∃ ad n c, v0 = .slice ad n c ∧ n = zs.length ∧ n ≤ maxLen ∧ ∀ (i z : Nat), zs[i]? = some z → z < 256 ∧ ∃ b off, ad = some ⟨b, off, none⟩ ∧ w.cell? ⟨b, off + i, none⟩ = some (.int .u8 ((z : Nat) : Int)) := by
    rcases w0 with ⟨a, c, rfl, rfl⟩ | ⟨b, off, c, rfl, hl, hx⟩
    · exact ⟨a, 0, c, rfl, rfl, Nat.zero_le _, fun i z h => by simp at h⟩
    · exact ⟨_, _, c, rfl, rfl, hl, fun i z h => ⟨(hx i z h).1, b, off, rfl, (hx i z h).2⟩⟩
  unfold maxLen at hm
  replace hn := hide hn
  obtain ⟨q, hq, hand⟩ := and7 a1
  go_enter Try.func7, Try.ntmps7
  go_wp2_with fail
  refine (new_any 8 (by decide) (by decide) w).mono ?_
  rintro e w2 ⟨p, g, rfl, M2, hp, hg, b2⟩
  replace M2 := hide M2
  replace b2 := hide b2
  replace hcell := hide hcell
  go_wp2_with fail
  go_loopw [7, 8] (fun s i wr => ∃ k : Nat, k ≤ 8 ∧ i = .int .i64 k ∧ s = .string (textOf (256 * k) (allB zs)) ∧ Hid (∃ D, Mem wr p g 8 8 (fun j => if j < 256 * k then allB zs j else 0) D) ∧ Hid (Below w.heap.size w wr)) (fun _ i _ => 8 - (intOf i).toNat)
  case atStart => exact ⟨0, by omega, rfl, rfl, hide ⟨_, M2.out.congr (fun j hj => by simp) (fun _ _ => rfl) (fun j => by simp)⟩, b2⟩
  case round =>
    clear M2 b2
    obtain ⟨k, hk, rfl, rfl, M, G⟩ := hrel
    by_cases h : k < 8
    · obtain ⟨S, hS⟩ : ∃ S, Hid (S = textOf (256 * k) (allB zs)) := ⟨_, hide rfl⟩
      rw [← hS.out]
      have hsz : S.size = 256 * k := by rw [hS.out, textOf_size]
      have HA := hide (all_succ zs k)
      rw [← hS.out] at HA
      by_cases hlt : k < n
      · obtain ⟨z, hz⟩ : ∃ z, zs[k]? = some z := ⟨_, List.getElem?_eq_getElem (by rw [← hn.out]; exact hlt)⟩
        obtain ⟨hz1, b, off, rfl, hc⟩ := hcell.out k z hz
        have hc2 : wr.cell? ⟨b, off + k, none⟩ = some (.int .u8 ((z : Nat) : Int)) := (G.out.cell (p := ⟨b, off + k, none⟩) (cell_in hc)).trans hc
        have hsd : seedOf zs k = z := by unfold seedOf; rw [hz]; rfl
        obtain ⟨F, hF⟩ : ∃ F, Hid (F = fillT (seedOf zs k) 0) := ⟨_, hide rfl⟩
        have hf := fun w => filled_any z 0 (by omega) w
        rw [← hsd, ← hF.out] at hf
        rw [hsd] at hf
        rw [← hF.out] at HA
        have hfs : F.size = 256 := by rw [hF.out, fill0_size]
        have hl : decide ((k : Int) < (n : Int)) = true := by simp; omega
        have hl2 : (k : Int) < (n : Int) := by omega
        clear hc hz hS hsd hn
        go_wp2_with fail
        refine (hf _).mono ?_
        rintro e w3 ⟨rfl, b3⟩
        obtain ⟨D, Mk⟩ := M.out
        have M3 := Mk.on b3
        have G3 := G.out.trans (b3.mono G.out.size)
        clear M G Mk b3
        go_wp2_with fail
        refine (put_any M3 k F (by omega) hfs).mono ?_
        rintro e w4 ⟨rfl, M4, g4⟩
        rw [hF.out] at M4
        have M5 := hide (⟨_, put_all M4⟩ : ∃ D, Mem w4 p g 8 8 (fun j => if j < 256 * (k + 1) then allB zs j else 0) D)
        have G4 := hide (grown_below G3 g4 G3.size hg)
        clear M3 M4 G3 g4
        go_wp2
        go_roundw
        case rel => exact ⟨k + 1, by omega, by go_num, by rw [HA.out], M5, G4⟩
        case measure => simp [intOf]; omega
      · have hsd : seedOf zs k = 0 := by unfold seedOf; rw [List.getElem?_eq_none (by rw [← hn.out]; omega)]; rfl
        obtain ⟨F, hF⟩ : ∃ F, Hid (F = fillT (seedOf zs k) 0) := ⟨_, hide rfl⟩
        have hf := fun w => filled_any 0 0 (by omega) w
        rw [← hF.out] at HA
        rw [hsd] at hF
        rw [← hF.out] at hf
        rw [← hsd] at hF
        have hfs : F.size = 256 := by rw [hF.out, fill0_size]
        have hl : decide ((k : Int) < (n : Int)) = false := by simp; omega
        have hl2 : ¬ (k : Int) < (n : Int) := by omega
        clear hS hsd hn
        go_wp2_with fail
        refine (hf _).mono ?_
        rintro e w3 ⟨rfl, b3⟩
        obtain ⟨D, Mk⟩ := M.out
        have M3 := Mk.on b3
        have G3 := G.out.trans (b3.mono G.out.size)
        clear M G Mk b3
        go_wp2_with fail
        refine (put_any M3 k F (by omega) hfs).mono ?_
        rintro e w4 ⟨rfl, M4, g4⟩
        rw [hF.out] at M4
        have M5 := hide (⟨_, put_all M4⟩ : ∃ D, Mem w4 p g 8 8 (fun j => if j < 256 * (k + 1) then allB zs j else 0) D)
        have G4 := hide (grown_below G3 g4 G3.size hg)
        clear M3 M4 G3 g4
        go_wp2
        go_roundw
        case rel => exact ⟨k + 1, by omega, by go_num, by rw [HA.out], M5, G4⟩
        case measure => simp [intOf]; omega
    · have : k = 8 := by omega
      subst this
      clear hcell hn
      obtain ⟨S, hS⟩ : ∃ S, Hid (S = textOf (256 * 8) (allB zs)) := ⟨_, hide rfl⟩
      rw [← hS.out]
      have hsz : S.size = 2048 := by rw [hS.out, textOf_size]
      obtain ⟨F, hF⟩ : ∃ F, Hid (F = fillT 99 0) := ⟨_, hide rfl⟩
      have hf := fun w => filled_any 99 0 (by omega) w
      rw [← hF.out] at hf
      have hfs : F.size = 256 := by rw [hF.out, fill0_size]
      obtain ⟨D, Mk⟩ := M.out
      have hi : textOf (256 * 8) (fun j => if j < 256 * 8 then allB zs j else 0) = S := by
        rw [hS.out]
        apply textOf_congr
        intro j hj
        rw [if_pos hj]
      have hpe := pages_end zs q hq F hfs
      rw [show (2048 : Nat) = 256 * 8 from rfl, ← hS.out] at hpe
      obtain ⟨Z, hZ⟩ : ∃ Z, Hid (Z = textOf (256 * 8) (pageB (fun j => if j < 256 * 8 then allB zs j else 0) q F)) := ⟨_, hide rfl⟩
      rw [← hZ.out] at hpe
      have hpg : textOf 256 (fun j => pageB (fun j => if j < 256 * 8 then allB zs j else 0) q F (256 * q + j)) = F := by
        have e := textOf_byteAt F
        rw [hfs] at e
        refine Eq.trans (textOf_congr fun j hj => ?_) e.symm
        unfold pageB
        rw [if_pos (by omega), show (256 * q + j) % 256 = j by omega]
      replace hpe := hide hpe
      replace hpg := hide hpg
      clear hS M
      go_wp2_with fail
      refine (hf _).mono ?_
      rintro e w3 ⟨rfl, b3⟩
      have M3 := Mk.on b3
      have G3 := G.out.trans (b3.mono G.out.size)
      clear Mk G b3
      go_wp2_with fail
      refine (image_any M3).mono ?_
      rw [hi]
      rintro e w4 ⟨rfl, b4⟩
      have M4 := M3.on b4
      have G4 := G3.trans (b4.mono G3.size)
      clear M3 G3 b4
      go_wp2_with fail
      refine (put_any M4 q F hq hfs).mono ?_
      rintro e w5 ⟨rfl, M5, g5⟩
      have G5 := grown_below G4 g5 G4.size hg
      clear M4 G4 g5
      go_wp2_with fail
      refine (page_any M5 q hq).mono ?_
      rw [hpg.out]
      rintro e w6 ⟨rfl, rfl⟩
      have hpe2 : S.extract 0 (256 * q) ++ F ++ S.extract (256 * q + 256) S.size = Z := by rw [hsz]; exact hpe.out
      have hs1 := cut_head S (256 * (q : Int)) (256 * q) (by omega) (by omega)
      have hs2 := cut_tail S (256 * (q : Int) + 256) (256 * q + 256) (by omega) (by omega)
      have hw1 : IntKind.i64.wrap (256 * (q : Int)) = 256 * (q : Int) := by rw [IntKind.wrap_i64]; omega
      have hw2 : IntKind.i64.wrap (256 * (q : Int) + 256) = 256 * (q : Int) + 256 := by rw [IntKind.wrap_i64]; omega
      obtain ⟨A, hA⟩ : ∃ A, A = S.extract 0 (256 * q) := ⟨_, rfl⟩
      obtain ⟨C, hC⟩ : ∃ C, C = S.extract (256 * q + 256) S.size := ⟨_, rfl⟩
      rw [← hA] at hs1 hpe2
      rw [← hC] at hs2 hpe2
      have a1' : A.size ≤ 2048 := by rw [hA, ByteArray.size_extract]; omega
      have c1' : C.size ≤ 2048 := by rw [hC, ByteArray.size_extract]; omega
      have k1 : ¬ 9223372036854775807 < A.size + 256 := by omega
      have k2 : ¬ 9223372036854775807 < A.size + 256 + C.size := by omega
      clear hpe hpg hi hf hF hA hC
      obtain ⟨B', hB⟩ : ∃ B', Hid (B' = pageB (fun j => if j < 256 * 8 then allB zs j else 0) q F) := ⟨_, hide rfl⟩
      rw [← hB.out] at M5 hZ
      clear hB
      have S0 : Mem w6.drew p g 8 8 B' (putD D q) ∧ Below w.heap.size w w6.drew := ⟨M5.drew, G5.drew⟩
      clear M5 G5
      go_wp2_with fail
      go_region_held3 (fun x => Mem x p g 8 8 B' (putD D q) ∧ Below w.heap.size w x) (first | exact S0 | assumption | exact held2 (by assumption) (by assumption)) (first | (go_at_call 11; refine (fixed_any _).mono ?_; rintro e wf ⟨rfl, bf⟩) | (go_at_call 13; refine (image_any (And.left (by assumption))).mono ?_; rw [← hZ.out]; rintro e wi ⟨rfl, bi⟩))
      have HS : Mem wf p g 8 8 B' (putD D q) ∧ Below w.heap.size w wf := by assumption
      have hbw := HS.2
      clear HS
      go_wp2
      go_ret
      exact ⟨rfl, hbw⟩

end Go.Proofs.Ytbbofbilagaihaa
