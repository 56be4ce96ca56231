/- Layer 18: the law's fixed calls. -/
import Derived.Test.YtkihjlmhidhjcaaDkProg
namespace Go.Proofs.Ytkihjlmhidhjcaa
open Go.RowKit
set_option linter.unusedVariables false
set_option maxRecDepth 100000
set_option linter.unusedSimpArgs false

def TA : ByteArray := textOf 64 fun _ => 97
def TB : ByteArray := textOf 64 fun _ => 98
theorem TA_size : TA.size = 64 := textOf_size _ _
theorem TB_size : TB.size = 64 := textOf_size _ _

theorem RowIs.of_heap {w y : World} {B n : Nat} {f : Nat → Nat} (h : RowIs w B n f) (e : y.heap[B]? = w.heap[B]?) : RowIs y B n f :=
  ⟨(Array.getElem?_eq_some_iff.1 (e.trans (Array.getElem?_eq_getElem h.lt))).1, fun j hj => (World.cell?_of_block (a := ⟨B, j, none⟩) e).trans (h.cell j hj), fun j hj => (World.frozen?_of_block (a := ⟨B, j, none⟩) e).trans (h.free j hj)⟩
theorem RowIs.on {w y : World} {B n : Nat} {f : Nat → Nat} (h : RowIs w B n f) (hb : Below w.heap.size w y) : RowIs y B n f := h.of_heap (hb.block B h.lt)

/-- The disk and the two rows of bytes, side by side. -/
structure Fx (w y : World) (ba bb db : Nat) (d : Dk) : Prop where
  pd : ∃ H, PD y H db d ∧ ∀ k, H k → w.heap.size ≤ k ∧ k ≠ ba ∧ k ≠ bb
  ra : RowIs y ba 64 fun _ => 97
  rb : RowIs y bb 64 fun _ => 98
  bl : Below w.heap.size w y

theorem Fx.on {w y x : World} {ba bb db : Nat} {d : Dk} (F : Fx w y ba bb db d) (h : Below y.heap.size y x) : Fx w x ba bb db d := by
  obtain ⟨H, D, hH⟩ := F.pd
  exact ⟨⟨H, D.on h, hH⟩, F.ra.on h, F.rb.on h, onto F.bl (Nat.le_refl _) h⟩

theorem Fx.turn {w y x : World} {ba bb db : Nat} {d t : Dk} (F : Fx w y ba bb db d) {H : Nat → Prop} (hH : ∀ k, H k → w.heap.size ≤ k ∧ k ≠ ba ∧ k ≠ bb) (D : PD x (fun k => H k ∨ y.heap.size ≤ k) db t) (T : Turn H y x) : Fx w x ba bb db t := by
  refine ⟨⟨_, D, fun k hk => ?_⟩, F.ra.of_heap (T.block ba F.ra.lt fun h => (hH ba h).2.1 rfl), F.rb.of_heap (T.block bb F.rb.lt fun h => (hH bb h).2.2 rfl), ?_⟩
  · have h1 := F.ra.lt
    have h2 := F.rb.lt
    have h3 := F.bl.size
    rcases hk with hk | hk
    · exact hH k hk
    · exact ⟨by omega, by omega, by omega⟩
  · exact F.bl.trans (T.below F.bl.size fun k hk => (hH k hk).1)

theorem fx_write {w y : World} {ba bb db : Nat} {d : Dk} (F : Fx w y ba bb db d) (hm : d.m < 1000000) (hL : d.L.length < 1000) (n : Int) (s : ByteArray) :
    Calls Try.prog 19 #[.pointer (some ⟨db, 0, none⟩), .int .i64 n, .string s] y fun e x => e = .returned (.int .i64 (d.errW n s)) ∧ Fx w x ba bb db (d.wrote n s) := by
  obtain ⟨H, D, hH⟩ := F.pd
  refine (dwrite_any D hm hL n s).mono ?_
  rintro e x ⟨rfl, D', T⟩
  exact ⟨rfl, F.turn hH D' T⟩
theorem fx_crash {w y : World} {ba bb db : Nat} {d : Dk} (F : Fx w y ba bb db d) (c : Crs) (hk : c.Fits) :
    Calls Try.prog 22 #[.pointer (some ⟨db, 0, none⟩), .agg #[.string c.keep, .int .i64 c.torn, .int .i64 c.bytes]] y fun e x => e = .returned (.int .i64 d.errC) ∧ Fx w x ba bb db (d.crash c) := by
  obtain ⟨H, D, hH⟩ := F.pd
  refine (dcrash_any D c hk).mono ?_
  rintro e x ⟨rfl, D', T⟩
  exact ⟨rfl, F.turn hH D' T⟩
theorem fx_revive {w y : World} {ba bb db : Nat} {d : Dk} (F : Fx w y ba bb db d) :
    Calls Try.prog 26 #[.pointer (some ⟨db, 0, none⟩)] y fun e x => e = .returned (.tuple #[]) ∧ Fx w x ba bb db d.revived := by
  obtain ⟨H, D, hH⟩ := F.pd
  refine (drevive_any D).mono ?_
  rintro e x ⟨rfl, D', T⟩
  exact ⟨rfl, F.turn hH D' T⟩
theorem fx_read {w y : World} {ba bb db : Nat} {d : Dk} (F : Fx w y ba bb db d) (n : Int) :
    Calls Try.prog 25 #[.pointer (some ⟨db, 0, none⟩), .int .i64 n] y fun e x => e = .returned (.tuple #[.string (d.told n), .int .i64 (d.errAt n)]) ∧ Fx w x ba bb db d := by
  obtain ⟨H, D, hH⟩ := F.pd
  refine (dread_any D n).mono ?_
  rintro e x ⟨rfl, hb⟩
  exact ⟨rfl, F.on hb⟩
theorem fx_steps {w y : World} {ba bb db : Nat} {d : Dk} (F : Fx w y ba bb db d) :
    Calls Try.prog 15 #[.pointer (some ⟨db, 0, none⟩)] y fun e x => e = .returned (.int .i64 (d.m : Int)) ∧ Fx w x ba bb db d := by
  obtain ⟨H, D, hH⟩ := F.pd
  refine (dsteps_any D).mono ?_
  rintro e x ⟨rfl, rfl⟩
  exact ⟨rfl, F⟩

/-- The fixed disk, call by call. -/
def fd1 : Dk := (newD 2).wrote 0 TA
def fd2 : Dk := fd1.wrote 0 TB
def fc : Crs := ⟨⟨#[1]⟩, 1, 3⟩
def fd3 : Dk := fd2.crash fc
def fd4 : Dk := fd3.wrote 0 TA
def fd5 : Dk := fd4.revived
def fd6 : Dk := fd5.wrote 2 TA
def fd7 : Dk := fd6.wrote 0 ⟨#[120]⟩

theorem fd1_is : fd1 = ⟨[T0, T0], [(0, TA)], 0, ⟨ByteArray.empty, 0, 0⟩, false, 1⟩ := by
  have e : (newD 2).errAt 0 = 0 := by simp [Dk.errAt, newD]
  unfold fd1 Dk.wrote
  rw [if_neg (by simp [e, TA_size])]
  rfl
theorem fd2_is : fd2 = ⟨[T0, T0], [(0, TA), (0, TB)], 0, ⟨ByteArray.empty, 0, 0⟩, false, 2⟩ := by
  have e : fd1.errAt 0 = 0 := by rw [fd1_is]; simp [Dk.errAt]
  unfold fd2 Dk.wrote
  rw [if_neg (by simp [e, TB_size]), fd1_is]
  rfl
theorem fd3_is : fd3 = ⟨[tornT 3 TB TA, T0], [], 0, ⟨ByteArray.empty, 0, 0⟩, true, 2⟩ := by
  have hb : bitAt fc.keep 0 = true := by decide
  have h0 : crashK fc [(0, TA), (0, TB)] [T0, T0] 0 = [T0, T0] := rfl
  have h1 : crashK fc [(0, TA), (0, TB)] [T0, T0] 1 = [TA, T0] := by
    rw [crashK, h0, oneC, if_neg (by decide), if_pos hb]
    rfl
  have h2 : crashK fc [(0, TA), (0, TB)] [T0, T0] 2 = [tornT 3 TB TA, T0] := by
    rw [crashK, h1, oneC, if_pos (by decide)]
    rfl
  unfold fd3 Dk.crash
  rw [fd2_is, if_neg (by decide)]
  unfold Dk.crashed
  rw [show ([(0, TA), (0, TB)] : List (Nat × ByteArray)).length = 2 from rfl, h2]
theorem fd4_is : fd4 = fd3 ∧ fd3.errW 0 TA = 2 := by
  have e : fd3.errAt 0 = 2 := by rw [fd3_is]; simp [Dk.errAt]
  exact ⟨by unfold fd4 Dk.wrote; rw [if_pos (.inl (by simp [e]))], by unfold Dk.errW; rw [if_pos (by simp [e])]; exact e⟩
theorem fd5_is : fd5 = ⟨[tornT 3 TB TA, T0], [], 0, ⟨ByteArray.empty, 0, 0⟩, false, 2⟩ := by
  unfold fd5 Dk.revived
  rw [fd4_is.1, fd3_is]
theorem fd6_is : fd6 = fd5 ∧ fd5.errW 2 TA = 181 := by
  have e : fd5.errAt 2 = 181 := by rw [fd5_is]; simp [Dk.errAt]
  exact ⟨by unfold fd6 Dk.wrote; rw [if_pos (.inl (by simp [e]))], by unfold Dk.errW; rw [if_pos (by simp [e])]; exact e⟩
theorem fd7_is : fd7 = fd5 ∧ fd6.errW 0 ⟨#[120]⟩ = 1 := by
  have e : fd6.errAt 0 = 0 := by rw [fd6_is.1, fd5_is]; simp [Dk.errAt]
  exact ⟨by unfold fd7 Dk.wrote; rw [if_pos (.inr (by decide))]; exact fd6_is.1, by unfold Dk.errW; rw [if_neg (by simp [e]), if_pos (by decide)]⟩

theorem fd_reads : fd2.told 0 = TB ∧ fd2.errAt 0 = 0 ∧ fd5.told 0 = tornT 3 TB TA ∧ fd5.errAt 0 = 0 ∧ (newD 2).errW 0 TA = 0 ∧ fd1.errW 0 TB = 0 ∧ fd2.errC = 0 := by
  have e2 : fd2.errAt 0 = 0 := by rw [fd2_is]; simp [Dk.errAt]
  have e5 : fd5.errAt 0 = 0 := by rw [fd5_is]; simp [Dk.errAt]
  have e0 : (newD 2).errAt 0 = 0 := by simp [Dk.errAt, newD]
  have e1 : fd1.errAt 0 = 0 := by rw [fd1_is]; simp [Dk.errAt]
  refine ⟨?_, e2, ?_, e5, ?_, ?_, ?_⟩
  · rw [Dk.told, if_pos e2, fd2_is]; rfl
  · rw [Dk.told, if_pos e5, fd5_is]; rfl
  · unfold Dk.errW; rw [if_neg (by simp [e0]), if_neg (by simp [TA_size])]; rfl
  · unfold Dk.errW; rw [if_neg (by simp [e1]), if_neg (by simp [TB_size]), fd1_is]; rfl
  · rw [fd2_is]; rfl

theorem torn_is : tornT 3 TB TA = (⟨#[98, 98, 98]⟩ : ByteArray) ++ textOf 61 fun _ => 97 := by
  unfold tornT TA TB
  rw [textOf_cut 64 0 3 _ (by decide) (by decide), textOf_cut 64 3 64 _ (by decide) (by decide)]
  rfl

set_option maxHeartbeats 8000000 in
set_option maxRecDepth 100000 in
theorem fixed_any (w : World) : Calls Try.prog 12 #[] w fun e w' => e = .returned (.bool true) ∧ Below w.heap.size w w' := by
  have c1 := dnew_any 2 (by decide) (by decide) w
  rw [show ((2 : Nat) : Int) = 2 from rfl] at c1
  have c2 := fun w => dnew_bad 0 (.inl (by decide)) w
  have c3 := fun w => dopen_bad ⟨#[120]⟩ (by decide) (by decide) w
  have mk : ∀ w : World, (Instr.makeSlice 58 (.int .i64 64) (.int .i64 64)).run Try.prog w = .ok (.slice (some ⟨w.heap.size, 0, none⟩) 64 64) (w.alloc (.cells (madeCells #[.int .u8 0] 64) 5)) := fun w => make_row w 64 (by decide)
  go_enter Try.func12, Try.ntmps12
  go_wp2_with fail
  refine c1.mono ?_
  rintro e w1 ⟨db, rfl, D1, hb1⟩
  replace D1 := hide D1
  replace hb1 := hide hb1
  clear c1
  go_wp2_with fail
  refine (c2 _).mono ?_
  rintro e wx ⟨rfl, hwx⟩
  subst hwx
  clear c2
  go_wp2_with fail
  refine (c3 _).mono ?_
  rintro e w2 ⟨rfl, h2⟩
  replace D1 := hide (D1.out.on h2)
  replace hb1 := hide (onto hb1.out (Nat.le_refl _) h2)
  clear c3 h2
  have A0 := made_row w2 64
  have gA := grow w2 (.cells (madeCells #[.int .u8 0] 64) 5)
  have A1 := A0.on (grow (w2.alloc (.cells (madeCells #[.int .u8 0] 64) 5)) (.cells (madeCells #[.int .u8 0] 64) 5))
  have B1 := made_row (w2.alloc (.cells (madeCells #[.int .u8 0] 64) 5)) 64
  have G2 := onto gA (Nat.le_refl _) (grow (w2.alloc (.cells (madeCells #[.int .u8 0] 64) 5)) (.cells (madeCells #[.int .u8 0] 64) 5))
  rw [show (w2.alloc (.cells (madeCells #[.int .u8 0] 64) 5)).heap.size = w2.heap.size + 1 by simp] at B1
  replace A1 := hide A1
  replace B1 := hide B1
  replace G2 := hide G2
  clear A0 gA
  go_wp2_with fail
  generalize (w2.alloc (.cells (madeCells #[.int .u8 0] 64) 5)).alloc (.cells (madeCells #[.int .u8 0] 64) 5) = w3 at *
  go_loopw [9] (fun i wr => ∃ k : Nat, k ≤ 64 ∧ i = .int .i64 (k : Int) ∧ Hid (RowIs wr w2.heap.size 64 (fun j => if j < k then 97 else 0)) ∧ Hid (RowIs wr (w2.heap.size + 1) 64 (fun j => if j < k then 98 else 0)) ∧ Hid (Below w2.heap.size w2 wr)) (fun i _ => 64 - (intOf i).toNat)
  case atStart => exact ⟨0, by omega, rfl, hide (A1.out.congr fun j hj => by simp), hide (B1.out.congr fun j hj => by simp), G2⟩
  case round =>
    clear A1 B1 G2
    obtain ⟨k, hk, rfl, A, B, G⟩ := hrel
    by_cases h : k < 64
    · have ca := A.out.cell k h
      have fa := A.out.free k h
      have cb := B.out.cell k h
      have fb := B.out.free k h
      rw [show (if k < k then 97 else 0) = 0 by simp] at ca
      rw [show (if k < k then 98 else 0) = 0 by simp] at cb
      have A2 := (A.out.set h 97).congr (g := fun j => if j < k + 1 then 97 else 0) fun j hj => by
        by_cases e : j = k
        · subst e; simp
        · by_cases l : j < k
          · simp [e, l, show j < k + 1 by omega]
          · simp [e, l, show ¬ j < k + 1 by omega]
      have B2 := B.out.of_heap (y := wr.setCell ⟨w2.heap.size, k, none⟩ (.int .u8 97)) (Below.heap_setCell _ _ _ _ (by show w2.heap.size + 1 ≠ w2.heap.size; omega))
      have B3 := hide ((B2.set h 98).congr (g := fun j => if j < k + 1 then 98 else 0) fun j hj => by
        by_cases e : j = k
        · subst e; simp
        · by_cases l : j < k
          · simp [e, l, show j < k + 1 by omega]
          · simp [e, l, show ¬ j < k + 1 by omega])
      have A3 := hide (A2.of_heap (y := (wr.setCell ⟨w2.heap.size, k, none⟩ (.int .u8 97)).setCell ⟨w2.heap.size + 1, k, none⟩ (.int .u8 98)) (Below.heap_setCell _ _ _ _ (by show w2.heap.size ≠ w2.heap.size + 1; omega)))
      have G3 := hide ((G.out.setCell (p := ⟨w2.heap.size, k, none⟩) (Nat.le_refl _) (.int .u8 97)).setCell (p := ⟨w2.heap.size + 1, k, none⟩) (Nat.le_succ _) (.int .u8 98))
      clear A B G A2 B2
      go_wp2
      go_roundw
      case rel => exact ⟨k + 1, by omega, by go_num, A3, B3, G3⟩
      case measure => simp [intOf]; omega
    · obtain rfl : k = 64 := by omega
      have F0 : Fx w wr w2.heap.size (w2.heap.size + 1) db (newD 2) := ⟨⟨fun k => w.heap.size ≤ k ∧ k < w2.heap.size, (D1.out.mono (G := fun k => w.heap.size ≤ k ∧ k < w2.heap.size) (fun k h hl => ⟨h, hl⟩)).on (by exact G.out), fun k hk => ⟨hk.1, by omega, by omega⟩⟩,
        A.out.congr fun j hj => by simp [hj], B.out.congr fun j hj => by simp [hj], onto hb1.out (Nat.le_refl _) G.out⟩
      clear A B G D1 hb1
      obtain ⟨r1, r2, r3, r4, r5, r6, r7⟩ := fd_reads
      have r8 := fd4_is.2
      have r9 := fd6_is.2
      have r10 := fd7_is.2
      have z5 : fd5.m = 2 := by rw [fd5_is]
      obtain ⟨m1, m2, m4, m5, m6⟩ : (fd1.m < 1000000 ∧ fd1.L.length < 1000) ∧ (fd2.m < 1000000 ∧ fd2.L.length < 1000) ∧ (fd3.m < 1000000 ∧ fd3.L.length < 1000) ∧ (fd5.m < 1000000 ∧ fd5.L.length < 1000) ∧ (fd6.m < 1000000 ∧ fd6.L.length < 1000) := by
        rw [fd6_is.1, fd1_is, fd2_is, fd3_is, fd5_is]
        exact ⟨⟨by decide, by decide⟩, ⟨by decide, by decide⟩, ⟨by decide, by decide⟩, ⟨by decide, by decide⟩, ⟨by decide, by decide⟩⟩
      generalize w2.heap.size + 1 = bb at *
      generalize w2.heap.size = ba at *
      have cv := conv_back F0.ra 64
      have cc := fx_write F0 (by decide) (by decide) 0 TA
      rw [r5] at cc
      replace F0 := hide F0
      rw [show textOf 64 (fun _ => 97) = TA from rfl] at cv
      go_wp2_with fail
      refine cc.mono ?_
      rintro e x1 ⟨rfl, F1⟩
      replace F1 : Fx w x1 ba bb db fd1 := F1
      clear cc cv F0
      have cv := conv_back F1.rb 64
      have cc := fx_write F1 m1.1 m1.2 0 TB
      rw [r6] at cc
      rw [show textOf 64 (fun _ => 98) = TB from rfl] at cv
      replace F1 := hide F1
      go_wp2_with fail
      refine cc.mono ?_
      rintro e x2 ⟨rfl, F2⟩
      replace F2 : Fx w x2 ba bb db fd2 := F2
      clear cc cv F1
      have cc := fx_read F2 0
      rw [r1, r2] at cc
      replace F2 := hide F2
      go_wp2_with fail
      refine cc.mono ?_
      rintro e x3 ⟨rfl, F2⟩
      clear cc
      have cc := fx_crash F2 fc (by unfold Crs.Fits fc; decide)
      rw [r7] at cc
      replace F2 := hide F2
      go_wp2_with fail
      refine cc.mono ?_
      rintro e x4 ⟨rfl, F3⟩
      replace F3 : Fx w x4 ba bb db fd3 := F3
      clear cc F2
      have cv := conv_back F3.ra 64
      have cc := fx_write F3 m4.1 m4.2 0 TA
      rw [r8] at cc
      rw [show textOf 64 (fun _ => 97) = TA from rfl] at cv
      replace F3 := hide F3
      go_wp2_with fail
      refine cc.mono ?_
      rintro e x5 ⟨rfl, F4⟩
      replace F4 : Fx w x5 ba bb db fd4 := F4
      clear cc cv F3
      have cc := fx_revive F4
      replace F4 := hide F4
      go_wp2_with fail
      refine cc.mono ?_
      rintro e x6 ⟨rfl, F5⟩
      replace F5 : Fx w x6 ba bb db fd5 := F5
      clear cc F4
      have cc := fx_read F5 0
      rw [r3, r4] at cc
      replace F5 := hide F5
      go_wp2_with fail
      refine cc.mono ?_
      rintro e x7 ⟨rfl, F5⟩
      clear cc
      have cv := conv_back F5.ra 64
      have cc := fx_write F5 m5.1 m5.2 2 TA
      rw [r9] at cc
      rw [show textOf 64 (fun _ => 97) = TA from rfl] at cv
      replace F5 := hide F5
      go_wp2_with fail
      refine cc.mono ?_
      rintro e x8 ⟨rfl, F6⟩
      replace F6 : Fx w x8 ba bb db fd6 := F6
      clear cc cv F5
      have cc := fx_write F6 m6.1 m6.2 0 ⟨#[120]⟩
      rw [r10] at cc
      replace F6 := hide F6
      go_wp2_with fail
      refine cc.mono ?_
      rintro e x9 ⟨rfl, F7⟩
      replace F7 : Fx w x9 ba bb db fd7 := F7
      rw [fd7_is.1] at F7
      clear cc F6
      have cc := fx_steps F7
      rw [z5] at cc
      have cv := conv_back F7.rb 64
      rw [show textOf 64 (fun _ => 98) = TB from rfl] at cv
      have cs : (convert 58 9 (.slice (some ⟨ba, 3, none⟩) 61 61)).run Try.prog x9 = .ok (.string (textOf 61 fun _ => 97)) x9 := by
        refine run_convert_bytes_arg x9 58 5 Try.underlying58 Try.underlying5 ba 3 61 61 _ (by rw [List.length_map, List.length_range]) ?_ 9 Try.underlying9
        intro i hi
        rw [F7.ra.cell (3 + i) (by omega), List.getD_eq_getElem?_getD, List.getElem?_map, List.getElem?_range hi]
        rfl
      have ht := torn_is
      replace F7 := hide F7
      go_wp2_with fail
      refine cc.mono ?_
      rintro e x10 ⟨rfl, F8⟩
      replace F8 := hide F8.bl
      clear cc F7 cv cs
      go_wp2
      go_ret
      exact ⟨rfl, F8.out⟩

end Go.Proofs.Ytkihjlmhidhjcaa
