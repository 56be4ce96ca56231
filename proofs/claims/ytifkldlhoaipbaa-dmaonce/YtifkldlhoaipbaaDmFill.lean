/- Layer 11: two memories, the program's and the document's, filled alike. -/
import Derived.Test.YtifkldlhoaipbaaDmWalks2
namespace Go.Proofs.Ytifkldlhoaipbaa
open Go.RowKit
set_option linter.unusedVariables false
set_option linter.unusedSimpArgs false

/-- The program's memory and the document's, apart from one another, made since w. -/
structure Both (w x : World) (p g q gb gd n : Nat) (B B' : Nat → Nat) (D D' : Nat → Bool) : Prop where
  m : Mem x p g n n B D
  r : RMem x q gb gd n B' D'
  bp : w.heap.size ≤ p
  bg : w.heap.size ≤ g
  bq : w.heap.size ≤ q
  bb : w.heap.size ≤ gb
  bd : w.heap.size ≤ gd
  pq : p ≠ q
  pb : p ≠ gb
  pd : p ≠ gd
  gq : g ≠ q
  ggb : g ≠ gb
  ggd : g ≠ gd
  be : Below w.heap.size w x

theorem Both.on {w x y : World} {p g q gb gd n : Nat} {B B' : Nat → Nat} {D D' : Nat → Bool} (h : Both w x p g q gb gd n B B' D D') (hb : Below x.heap.size x y) : Both w y p g q gb gd n B B' D D' :=
  { h with m := h.m.on hb, r := h.r.on hb, be := onto h.be (Nat.le_refl _) hb }

theorem Both.putM {w x y : World} {p g q gb gd n : Nat} {B B' C : Nat → Nat} {D D' E : Nat → Bool} (h : Both w x p g q gb gd n B B' D D') (hm : Mem y p g n n C E) (hg : x.grownBy y (some g)) : Both w y p g q gb gd n C B' E D' :=
  { h with m := hm, r := h.r.far hg h.gq.symm h.ggb.symm h.ggd.symm, be := grown_below h.be hg h.be.size h.bg }

theorem Both.putR {w x y : World} {p g q gb gd n : Nat} {B B' C : Nat → Nat} {D D' E : Nat → Bool} (h : Both w x p g q gb gd n B B' D D') (hr : RMem y q gb gd n C E) (hk : RKept q gb gd x y) : Both w y p g q gb gd n B C D E :=
  { h with m := hk.mem h.m h.pq h.pb h.pd h.gq h.ggb h.ggd, r := hr, be := RKept.below h.be hk h.bq h.bb h.bd }

theorem Both.cleanR {w x y : World} {p g q gb gd gd' n : Nat} {B B' : Nat → Nat} {D D' E : Nat → Bool} (h : Both w x p g q gb gd n B B' D D') (hd : x.heap.size ≤ gd') (hr : RMem y q gb gd' n B' E) (hg : x.grownBy y (some q)) : Both w y p g q gb gd' n B B' D E :=
  { h with m := h.m.far hg h.pq h.gq, r := hr, bd := Nat.le_trans h.be.size hd, pd := by have := h.m.zp; omega, ggd := by have := h.m.zg; omega, be := grown_below h.be hg h.be.size h.bq }

theorem Both.congr {w x : World} {p g q gb gd n : Nat} {B B' C : Nat → Nat} {D D' : Nat → Bool} (h : Both w x p g q gb gd n B B' D D') (e : ∀ j, j < 256 * n → B j = C j) (e' : ∀ j, j < 256 * n → B' j = C j) (l : ∀ j, C j < 256) : Both w x p g q gb gd n C C D D' :=
  { h with m := h.m.congr e (fun _ _ => rfl) l, r := h.r.congr e' l }

/-- The bytes of a memory that is filled. -/
def fillF (c : Nat) : Nat → Nat := fun j => (c + j % 256 * (j / 256 + 1)) % 256

theorem fillF_lt (c j : Nat) : fillF c j < 256 := Nat.mod_lt _ (by decide)

/-- The bytes of page i. -/
def rowF (c i : Nat) : Nat → Nat := fun j => (c + j * (i + 1)) % 256

/-- The bytes when i pages are filled. -/
def fillP (c i : Nat) : Nat → Nat := fun j => if j / 256 < i then fillF c j else 0

theorem fillP_lt (c i j : Nat) : fillP c i j < 256 := by
  unfold fillP
  split
  · exact fillF_lt c j
  · decide

theorem fillP_put (c i j : Nat) : pageB (fillP c i) i (textOf 256 (rowF c i)) j = fillP c (i + 1) j := by
  unfold pageB fillP
  by_cases h : j / 256 = i
  · rw [if_pos h, if_pos (by omega), byteAt_textOf 256 (rowF c i) (fun j => by unfold rowF; exact Nat.mod_lt _ (by decide)) _ (Nat.mod_lt _ (by decide))]
    unfold rowF fillF
    rw [h]
  · rw [if_neg h]
    by_cases l : j / 256 < i
    · rw [if_pos l, if_pos (by omega)]
    · rw [if_neg l, if_neg (by omega)]

/-- How many pages there are. -/
def pagesN (m : Int) : Nat := (max 4 (min m 64)).toNat

theorem pagesN_is (m : Int) : 4 ≤ pagesN m ∧ pagesN m ≤ 64 ∧ max 4 (min m 64) = (pagesN m : Int) := by
  unfold pagesN
  omega

theorem RowIs.keep {w w' : World} {B n : Nat} {f : Nat → Nat} (h : RowIs w B n f) (e : w'.heap[B]? = w.heap[B]?) : RowIs w' B n f := by
  refine ⟨?_, fun j hj => (World.cell?_of_block (a := ⟨B, j, none⟩) e).trans (h.cell j hj), fun j hj => (World.frozen?_of_block (a := ⟨B, j, none⟩) e).trans (h.free j hj)⟩
  have hl := h.lt
  rw [Array.getElem?_eq_getElem hl] at e
  exact (Array.getElem?_eq_some_iff.1 e).1

set_option maxHeartbeats 2000000 in
set_option maxRecDepth 100000 in
theorem filled_any (m : Int) (c : Nat) (hc : c < 256) (w : World) :
    Calls Try.prog 20 #[.int .i64 m, .int .u8 (c : Int)] w fun e w' =>
      ∃ p g q gb gd, e = .returned (.tuple #[.pointer (some ⟨p, 0, none⟩), .pointer (some ⟨q, 0, none⟩)]) ∧ Both w w' p g q gb gd (pagesN m) (fillF c) (fillF c) (fun _ => false) (fun _ => false) := by
  obtain ⟨n4, n64, hN⟩ := pagesN_is m
  obtain ⟨N, HN⟩ : ∃ N, N = pagesN m := ⟨_, rfl⟩
  rw [← HN] at n4 n64 hN ⊢
  clear HN
  go_enter Try.func20, Try.ntmps20
  go_wp2_with fail
  refine (new_any N n4 n64 _).mono ?_
  rintro e w1 ⟨p, g, rfl, M1, hp, hg, b1⟩
  go_wp2_with fail
  refine (rnew_any N n4 n64 _).mono ?_
  rintro e w2 ⟨q, gb, gd, rfl, R2, hq, hgb, hgd, b2⟩
  have z1 := M1.zp
  have z2 := M1.zg
  have bo : Both w w2 p g q gb gd N (fillP c 0) (fillP c 0) (fun _ => false) (fun _ => false) := by
    have hs := b1.size
    have k : ∀ j, (0 : Nat) = fillP c 0 j := fun j => by simp [fillP]
    exact Both.congr (B := fun _ => 0) (B' := fun _ => 0) ⟨M1.on b2, R2, hp, hg, by omega, by omega, by omega, by omega, by omega, by omega, by omega, by omega, by omega, onto b1 (Nat.le_refl _) b2⟩ (fun j _ => k j) (fun j _ => k j) (fillP_lt c 0)
  have bo := hide bo
  clear M1 R2 z1 z2 hp hg hq hgb hgd b1 b2
  go_wp2_with fail
  go_loopw [11] (fun i wr => ∃ k : Nat, k ≤ N ∧ i = .int .i64 k ∧ Hid (∃ D D', Both w wr p g q gb gd N (fillP c k) (fillP c k) D D')) (fun i _ => N - (intOf i).toNat)
  case atStart => exact ⟨0, by omega, rfl, hide ⟨_, _, bo.out⟩⟩
  case round =>
    clear bo
    obtain ⟨i, hi, rfl, bo⟩ := hrel
    by_cases h : i < N
    · obtain ⟨W0, hW0⟩ : ∃ W0, W0 = wr := ⟨_, rfl⟩
      rw [← hW0] at bo ⊢
      clear hW0
      have mk := make_row W0 256 (by omega)
      rw [show ((256 : Nat) : Int) = 256 from rfl] at mk
      have R0 := hide (made_row W0 256)
      have B0 := hide (grow W0 (.cells (madeCells #[.int .u8 0] 256) 5))
      go_wp2
      go_loopw [13] (fun j wr => ∃ k : Nat, k ≤ 256 ∧ j = .int .i64 k ∧ Hid (RowIs wr W0.heap.size 256 (fun j => if j < k then rowF c i j else 0)) ∧ Hid (Below W0.heap.size W0 wr)) (fun j _ => 256 - (intOf j).toNat)
      case atStart => exact ⟨0, by omega, rfl, hide (R0.out.congr fun j hj => by simp), B0⟩
      case round =>
        clear mk R0 B0
        obtain ⟨k, hk, rfl, R, G⟩ := hrel
        by_cases h6 : k < 256
        · have hcl := R.out.cell k h6
          have hf := R.out.free k h6
          have hl : (if k < k then rowF c i k else 0) = 0 := by simp
          rw [hl] at hcl
          have R2 := hide ((R.out.set h6 (rowF c i k)).congr (g := fun j => if j < k + 1 then rowF c i j else 0) fun j hj => by
            by_cases e : j = k
            · subst e; simp
            · by_cases l : j < k
              · simp [e, l, show j < k + 1 by omega]
              · simp [e, l, show ¬ j < k + 1 by omega])
          have G2 := hide (G.out.setCell (p := ⟨W0.heap.size, k, none⟩) (Nat.le_refl _) (.int .u8 ((rowF c i k : Nat) : Int)))
          obtain ⟨X, hX⟩ : ∃ X, X = k * (i + 1) := ⟨_, rfl⟩
          have hX2 : X ≤ 255 * 64 := by rw [hX]; exact Nat.mul_le_mul (by omega) (by omega)
          have hXi : (k : Int) * ((i : Int) + 1) = (X : Int) := by rw [hX]; simp
          have hXw : IntKind.i64.wrap ((k : Int) * ((i : Int) + 1)) = (X : Int) := by rw [hXi, IntKind.wrap_i64]; omega
          have hb : ((rowF c i k : Nat) : Int) = ((c : Int) + (X : Int)) % 256 := by unfold rowF; rw [← hX]; omega
          rw [hb] at R2 G2
          clear R G hl hb hX bo
          go_wp2
          go_roundw
          case rel => exact ⟨k + 1, by omega, by go_num, R2, G2⟩
          case measure => simp [intOf]; omega
        · obtain rfl : k = 256 := by omega
          obtain ⟨D, D', bo⟩ := bo.out
          have gz : g < W0.heap.size := bo.m.zg
          have R1 := R.out.congr (g := rowF c i) fun j hj => by simp [hj]
          have ht := conv_back R1 256
          replace bo := hide (bo.on G.out)
          replace R1 := hide R1
          obtain ⟨T, hT⟩ : ∃ T, T = textOf 256 (rowF c i) := ⟨_, rfl⟩
          have hz : T.size = 256 := by rw [hT]; exact textOf_size _ _
          rw [← hT] at ht
          replace hT := hide hT
          clear R G
          go_wp2_with fail
          refine (put_any bo.out.m i T h hz).mono ?_
          rintro e w3 ⟨rfl, M3, g3⟩
          replace bo := hide (bo.out.putM M3 g3)
          replace R1 := hide (R1.out.keep (g3.block _ R1.out.lt (by simp; omega)))
          replace ht := conv_back R1.out 256
          rw [← hT.out] at ht
          clear M3 g3
          go_wp2_with fail
          refine (rput_any bo.out.r i T h hz).mono ?_
          rintro e w4 ⟨rfl, M4, g4⟩
          replace bo := hide (bo.out.putR M4 g4)
          clear M4 g4 ht R1
          have bo2 := hide (Both.congr (C := fillP c (i + 1)) bo.out (fun j _ => by rw [hT.out]; exact fillP_put c i j) (fun j _ => by rw [hT.out]; exact fillP_put c i j) (fillP_lt c (i + 1)))
          clear bo hT hz
          go_wp2_with fail
          go_roundw
          case rel => exact ⟨i + 1, by omega, by go_num, hide ⟨_, _, bo2.out⟩⟩
          case measure => simp [intOf]; omega
    · obtain rfl : i = N := by omega
      obtain ⟨D, D', bo⟩ := bo.out
      replace bo := hide (Both.congr (C := fillF c) bo (fun j hj => by unfold fillP; rw [if_pos (by omega)]) (fun j hj => by unfold fillP; rw [if_pos (by omega)]) (fillF_lt c))
      go_wp2_with fail
      refine (clean_any bo.out.m).mono ?_
      rintro e w3 ⟨rfl, M3, g3⟩
      replace bo := hide (bo.out.putM M3 g3)
      clear M3 g3
      go_wp2_with fail
      refine (rclean_any bo.out.r).mono ?_
      rintro e w4 ⟨rfl, ⟨gd', hgd', M4⟩, g4⟩
      replace bo := hide (bo.out.cleanR hgd' M4 g4)
      clear M4 g4 hgd'
      go_wp2
      go_ret2
      exact ⟨p, g, q, gb, gd', rfl, bo.out⟩

end Go.Proofs.Ytifkldlhoaipbaa
