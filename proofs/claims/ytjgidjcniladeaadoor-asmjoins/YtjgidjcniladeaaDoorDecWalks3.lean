/- The contract of the program's search for the op whose own bits a word has. -/
import Derived.Test.YtjgidjcniladeaaDoorDecWalks2
namespace Go.Proofs.YtjgidjcniladeaaDoor
open Go.RowKit
set_option linter.unusedVariables false

theorem rowOf_at (op : Nat) (h : op < 69) (w : World) (tb : Tabs w) :
    Calls Tryd.prog 19 #[.int .i64 (op : Int)] w fun e w' => e = .returned (.agg #[.string (Dec.name op), .int .i64 (Dec.fm op : Nat), .int .u32 (Dec.mj op : Nat), .int .u32 (Dec.mn op : Nat)]) ∧ Below w.heap.size w w' := by
  have e : idx (op : Int) = op := by unfold idx; rw [if_pos (by omega)]; omega
  have := rowOf_any (op : Int) w tb
  rw [e] at this
  exact this

theorem andNot_is (wd f : Nat) (hw : wd < 4294967296) (hf : f < 20) : bits .andNot .u32 (wd : Int) (Dec.opened f : Nat) = ((wd &&& Dec.shut f : Nat) : Int) :=
  u32_andNot_nat wd (Dec.opened f) hw (Dec.masks_lt f hf).2.2.2

def sends (wd : Nat) (w : World) (e : Ending) (w' : World) : Prop :=
  ((∃ op, op < 69 ∧ wd &&& Dec.shut (Dec.fm op) = Dec.fixed op ∧ e = .returned (.tuple #[.int .i64 (op : Int), .bool true])) ∨
    ((∀ op < 69, wd &&& Dec.shut (Dec.fm op) ≠ Dec.fixed op) ∧ e = .returned (.tuple #[.int .i64 0, .bool false]))) ∧ Below w.heap.size w w'

theorem more {wd k : Nat} (h : ∀ op < k, wd &&& Dec.shut (Dec.fm op) ≠ Dec.fixed op) (hk : wd &&& Dec.shut (Dec.fm k) ≠ Dec.fixed k) : ∀ op < k + 1, wd &&& Dec.shut (Dec.fm op) ≠ Dec.fixed op := by
  intro op ho
  rcases Nat.lt_succ_iff_lt_or_eq.mp ho with h1 | h1
  · exact h op h1
  · rw [h1]; exact hk

set_option maxHeartbeats 2000000 in
theorem sought_any (wd : Nat) (hw : wd < 4294967296) (w : World) (tb : Tabs w) :
    Calls Tryd.prog 15 #[.int .u32 (wd : Int)] w (sends wd w) := by
  go_enter Tryd.func15, Tryd.ntmps15
  go_wp2
  go_loopw [7] (fun i x => ∃ k : Nat, k ≤ 69 ∧ i = .int .i64 k ∧ Hid (∀ op < k, wd &&& Dec.shut (Dec.fm op) ≠ Dec.fixed op) ∧ Hid (Below w.heap.size w x) ∧ Tabs x) (fun i _ => 69 - (intOf i).toNat)
  case atStart => exact ⟨0, Nat.zero_le _, rfl, hide (by intro op h; omega), hide (Below.refl _ _), tb⟩
  case round =>
    obtain ⟨k, hk, rfl, hno, hb, ht⟩ := hrel
    by_cases hlt : k < 69
    · have h1 : (k : Int) < 69 := by omega
      go_wp2_with fail
      refine (rowOf_at k hlt _ ht).mono ?_
      rintro e w1 ⟨rfl, hb1⟩
      have b1 := onto hb.out hb1
      have t1 := ht.on hb1
      clear hb ht hb1
      have r1 := cell4 w1 52 (.string (Dec.name k)) (.int .i64 (Dec.fm k : Nat)) (.int .u32 (Dec.mj k : Nat)) (.int .u32 (Dec.mn k : Nat))
      have g1 := grow w1 (.cells #[.string (Dec.name k), .int .i64 (Dec.fm k : Nat), .int .u32 (Dec.mj k : Nat), .int .u32 (Dec.mn k : Nat)] 52)
      have b2 := hide (onto b1 g1)
      have t2 := t1.on g1
      by_cases hm : Dec.mj k = wd / 67108864
      · have hq : (((Dec.mj k : Nat) : Int) != (wd : Int) / 67108864) = false := by rw [hm]; simp
        clear hm
        go_wp2_with fail
        refine (layout_any (Dec.fm k) (Dec.fm_lt k hlt).2 _).mono ?_
        rintro e w2 ⟨rfl, h2⟩
        have r2 := r1.on h2
        have b3 := onto b2.out h2
        have t3 := t2.on h2
        clear h2 b2 t2 g1 b1 t1 r1
        generalize w1.heap.size = R at *
        clear w1
        have l4 := cell7 w2 76 (.string (Dec.lname (Dec.fm k))) (.int .u32 (Dec.lregs (Dec.fm k) : Nat)) (.int .u32 (Dec.limm (Dec.fm k) : Nat)) (.bool (Dec.lsigned (Dec.fm k))) (.int .u32 (Dec.lagain (Dec.fm k) : Nat)) (.int .i64 (Dec.lat (Dec.fm k) : Nat)) (.int .u32 (Dec.lmark (Dec.fm k) : Nat))
        have g4 := grow w2 (.cells #[.string (Dec.lname (Dec.fm k)), .int .u32 (Dec.lregs (Dec.fm k) : Nat), .int .u32 (Dec.limm (Dec.fm k) : Nat), .bool (Dec.lsigned (Dec.fm k)), .int .u32 (Dec.lagain (Dec.fm k) : Nat), .int .i64 (Dec.lat (Dec.fm k) : Nat), .int .u32 (Dec.lmark (Dec.fm k) : Nat)] 76)
        have r4 := r2.on g4
        have b4 := hide (onto b3 g4)
        have t4 := t3.on g4
        have z2 := cell_in r2.c0
        clear b3 t3
        unfold layV
        go_wp2_with fail
        have hop := fun w => open_any (Dec.fm k) (Dec.fm_lt k hlt).2 w
        have hfx := fun w => fixed_any k hlt w
        unfold layV at hop hfx
        unfold rowV at hfx
        generalize w2.alloc (.cells #[.string (Dec.lname (Dec.fm k)), .int .u32 (Dec.lregs (Dec.fm k) : Nat), .int .u32 (Dec.limm (Dec.fm k) : Nat), .bool (Dec.lsigned (Dec.fm k)), .int .u32 (Dec.lagain (Dec.fm k) : Nat), .int .i64 (Dec.lat (Dec.fm k) : Nat), .int .u32 (Dec.lmark (Dec.fm k) : Nat)] 76) = V at *
        generalize w2.heap.size = L at *
        clear g4 r2 z2
        clear w2
        obtain ⟨q0, q1, q2, q3⟩ := r4
        obtain ⟨l0, l1, l2, l3, l4, l5, l6⟩ := l4
        have z1 := cell_in q0
        have z2 := cell_in l0
        go_region_held3 (fun x => (∀ b o, b < V.heap.size → x.cell? ⟨b, o, none⟩ = V.cell? ⟨b, o, none⟩) ∧ Below V.heap.size V x)
          (first | exact since_refl V | assumption)
          (first
            | (go_at_call 29; refine (hop _).mono ?_; rintro e w' ⟨rfl, hn⟩; have hT := since_on (by assumption) hn; clear hn)
            | (go_at_call 30; refine (hfx _).mono ?_; rintro e w' ⟨rfl, hn⟩; have hT := since_on (by assumption) hn; clear hn))
        have b5 := hide (onto b4.out hT.2)
        have t5 := t4.on hT.2
        rw [andNot_is wd _ hw (Dec.fm_lt k hlt).2]
        by_cases he : wd &&& Dec.shut (Dec.fm k) = Dec.fixed k
        · have hq2 : (((wd &&& Dec.shut (Dec.fm k) : Nat) : Int) == (Dec.fixed k : Nat)) = true := by rw [he]; simp
          have he := hide he
          go_wp2
          go_ret2
          exact ⟨Or.inl ⟨k, hlt, he.out, rfl⟩, b5.out⟩
        · have hq2 : (((wd &&& Dec.shut (Dec.fm k) : Nat) : Int) == (Dec.fixed k : Nat)) = false := by simp; omega
          have hn := hide (more hno.out he)
          clear hno he
          go_wp2
          go_roundw
          case rel => exact ⟨k + 1, by omega, by go_num, hn, b5, t5⟩
          case measure => simp [intOf]; omega
      · have hq : (((Dec.mj k : Nat) : Int) != (wd : Int) / 67108864) = true := by simp; omega
        have hn := more hno.out fun e => hm (Dec.major_of_shut k wd hlt hw e).symm
        clear hno hm
        have hn := hide hn
        go_wp2
        go_roundw
        case rel => exact ⟨k + 1, by omega, by go_num, hn, b2, t2⟩
        case measure => simp [intOf]; omega
    · have hx : k = 69 := by omega
      subst hx
      go_wp2
      go_ret2
      exact ⟨Or.inr ⟨hno.out, rfl⟩, hb.out⟩

end Go.Proofs.YtjgidjcniladeaaDoor
