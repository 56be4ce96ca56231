/- The document's reader of a line. -/
import Derived.Test.YtahbbhgoacbejaaGreatDoorAsmNumW
import Derived.Test.YtahbbhgoacbejaaGreatDoorAsmParM
import Derived.Test.YtahbbhgoacbejaaGreatDoorAsmSw
import Derived.Test.YtahbbhgoacbejaaGreatDoorAsmRPrint2
import Derived.Laws.AppendOwnNone
import Derived.Deep.CutBlock
set_option linter.unusedVariables false
set_option linter.unusedSimpArgs false
namespace Go.Proofs.YtahbbhgoacbejaaGreatDoor
open Go.RowKit Go.Shelf Go.Joins

theorem Asm.numsF_len : ∀ (n : Nat) (l : List UInt8), l.length ≤ n → ∀ b, (Asm.numsF l b).length ≤ l.length := by
  intro n
  induction n with
  | zero =>
    intro l hl b
    obtain rfl : l = [] := List.length_eq_zero_iff.mp (by omega)
    rw [Asm.numsF_nil]
    exact Nat.le_refl _
  | succ n ih =>
    intro l hl b
    cases l with
    | nil => rw [Asm.numsF_nil]; exact Nat.le_refl _
    | cons c r =>
      by_cases h : Asm.dig c = true
      · rw [Asm.numsF, dif_pos h, List.length_cons, List.length_cons]
        have h2 := (List.dropWhile_suffix (l := r) Asm.dig).length_le
        simp only [List.length_cons] at hl
        have := ih (r.dropWhile Asm.dig) (by omega) false
        omega
      · rw [Asm.numsF_skip b (by simpa using h), List.length_cons]
        simp only [List.length_cons] at hl
        have := ih r (by omega) (c == 45)
        omega

/-- Where a text's name ends. -/
def Asm.endOf (s : ByteArray) : Nat := (s.data.toList.takeWhile (· != 32)).length

theorem Asm.end_le (s : ByteArray) : Asm.endOf s ≤ s.size := by
  unfold Asm.endOf
  have h := congrArg List.length (List.takeWhile_append_dropWhile (p := fun c : UInt8 => c != 32) (l := s.data.toList))
  rw [List.length_append] at h
  have e : s.data.toList.length = s.size := rfl
  omega

theorem Asm.tw_at (l : List UInt8) : ∀ (k : Nat) (h : k < l.length), k ≤ (l.takeWhile (· != 32)).length → (k < (l.takeWhile (· != 32)).length ↔ l[k] ≠ 32) := by
  induction l with
  | nil => intro k h; simp at h
  | cons c r ih =>
    intro k h hk
    by_cases hc : c = 32
    · subst hc
      simp at hk
      subst hk
      simp
    · have e : (c :: r).takeWhile (· != 32) = c :: r.takeWhile (· != 32) := by simp [List.takeWhile_cons, hc]
      rw [e] at hk ⊢
      cases k with
      | zero => simp [hc]
      | succ k =>
        simp at h hk
        have := ih k h hk
        simpa using this

theorem Asm.end_in (s : ByteArray) (k : Nat) (h : k < s.size) (hp : k ≤ Asm.endOf s) : k < Asm.endOf s ↔ (s[k]'h) ≠ 32 := Asm.tw_at s.data.toList k h hp

theorem cut_rest (s : ByteArray) (h : Asm.endOf s ≤ s.size) (w : World) :
    (Instr.sliceAt 9 (.string s) (some (.int .i64 ((Asm.endOf s : Nat) : Int))) none none).run Tryz.prog w = .ok (.string (s.extract (Asm.endOf s) s.size)) w := by
  rw [run_sliceAt_string w 9 _ _ _ _ Tryz.underlying9, run_slice_string_l w 9 s Tryz.underlying9 .i64 ((Asm.endOf s : Nat) : Int) (by omega) (by omega), Int.toNat_natCast]

theorem cut_name (s : ByteArray) (h : Asm.endOf s ≤ s.size) (w : World) :
    (Instr.sliceAt 9 (.string s) none (some (.int .i64 ((Asm.endOf s : Nat) : Int))) none).run Tryz.prog w = .ok (.string (s.extract 0 (Asm.endOf s))) w := by
  rw [run_sliceAt_string w 9 _ _ _ _ Tryz.underlying9, run_slice_string_h w 9 s Tryz.underlying9 .i64 ((Asm.endOf s : Nat) : Int) (by omega) (by omega), Int.toNat_natCast]

set_option maxHeartbeats 4000000 in
set_option maxRecDepth 100000 in
theorem rparse_any (s : ByteArray) (hs : s.size ≤ 1048576) (w : World) :
    Calls Tryz.prog 10 #[.string s] w fun e' w' => (∃ o a0 a1 a2 a3 a4 e : Int, Asm.Got s.data.toList o a0 a1 a2 a3 a4 e ∧ e' = .returned (.tuple #[.agg #[.int .i64 o, .int .i64 a0, .int .i64 a1, .int .i64 a2, .int .i64 a3, .int .i64 a4], .int .i64 e])) ∧ Below w.heap.size w w' := by
  have hi0 : (Tryz.prog.info? 3).map (fun i => (i.zero, i.size, i.bytes)) = some (some (.int .i64 0), 1, 8) := by kernel_rfl
  obtain ⟨i0, hi, hz0, hz1, hz2⟩ := info_parts hi0
  have hel := Asm.end_le s
  go_enter Tryz.func10, Tryz.ntmps10
  go_upto_block 0 with fail
  go_cut [4] from 10 (fun i x => i = .int .i64 ((Asm.endOf s : Nat) : Int) ∧ x = w.alloc (.cells #[.int .i64 0, .int .i64 0, .int .i64 0, .int .i64 0, .int .i64 0, .int .i64 0] 23))
  case first =>
    go_wp2_with fail
    go_loop [4] (fun i => ∃ k : Nat, k ≤ Asm.endOf s ∧ i = .int .i64 (k : Int)) (fun i => s.size - (Lib.intOf i).toNat)
    case atStart => exact ⟨0, by omega, rfl⟩
    case round =>
      obtain ⟨k, hk, rfl⟩ := hrel
      by_cases hlt : k < s.size
      · have hin := Asm.end_in s k hlt hk
        have hl : (k : Int) < (s.size : Int) := by omega
        by_cases hb : (s[k]'hlt) = 32
        · have hke : k = Asm.endOf s := by
            by_cases c : k < Asm.endOf s
            · exact absurd hb (hin.1 c)
            · omega
          have hbn : (((s[k]'hlt).toNat : Int) != 32) = false := by rw [hb]; rfl
          replace hke := hide hke
          clear hin hb
          go_wp2_with fail
          go_meet
          case rel => exact ⟨by rw [hke.out], rfl⟩
        · have hke : k < Asm.endOf s := hin.2 hb
          have hbn : (((s[k]'hlt).toNat : Int) != 32) = true := by
            have : (s[k]'hlt).toNat ≠ 32 := fun e => hb (UInt8.toNat_inj.mp e)
            simp; omega
          clear hin hb
          go_wp2
          go_round
          case rel => exact ⟨k + 1, by omega, by go_num⟩
          case measure => simp [Lib.intOf]; omega
      · have hke : Hid (k = Asm.endOf s) := hide (by omega)
        have hl : ¬ (k : Int) < (s.size : Int) := by omega
        go_wp2_with fail
        go_meet
        case rel => exact ⟨by rw [hke.out], rfl⟩
  case rest =>
    obtain ⟨rfl, rfl⟩ := hcut
    have hcr := cut_rest s hel
    have hxs : (s.extract (Asm.endOf s) s.size).size ≤ 1048576 := by rw [ByteArray.size_extract]; omega
    have hN := fun w => numbers_any (s.extract (Asm.endOf s) s.size) hxs w
    have hxd : (s.extract (Asm.endOf s) s.size).data.toList = s.data.toList.drop (s.data.toList.takeWhile (· != 32)).length := by
      rw [ByteArray.data_extract, Array.toList_extract, List.extract_eq_take_drop]
      exact List.take_of_length_le (by rw [List.length_drop, Array.length_toList]; exact Nat.le_refl _)
    rw [hxd] at hN
    obtain ⟨L, hL⟩ : ∃ L, Hid (L = Asm.numsF (s.data.toList.drop (s.data.toList.takeWhile (· != 32)).length) false) := ⟨_, hide rfl⟩
    have hll : L.length ≤ 1048576 := by
      rw [hL.out]
      have h1 := Asm.numsF_len (s.data.toList.drop (s.data.toList.takeWhile (· != 32)).length).length (s.data.toList.drop (s.data.toList.takeWhile (· != 32)).length) (Nat.le_refl _) false
      rw [List.length_drop] at h1
      have e : s.data.toList.length = s.size := rfl
      omega
    rw [← hL.out] at hN
    clear hxd
    obtain ⟨E, hE⟩ : ∃ E, Hid (E = s.extract (Asm.endOf s) s.size) := ⟨_, hide rfl⟩
    rw [← hE.out] at hcr hN
    have hes : Hid (Asm.endOf s ≤ s.size) := hide hel
    obtain ⟨en, hen⟩ : ∃ en, Hid (en = Asm.endOf s) := ⟨_, hide rfl⟩
    rw [← hen.out] at hcr hel ⊢
    clear hE hxs
    obtain ⟨l0, l1, l2, rest, hnum⟩ : ∃ l0 l1 l2 rest, Hid (L ++ [0, 0, 0] = l0 :: l1 :: l2 :: rest) := by
      match L with
      | [] => exact ⟨0, 0, 0, [], hide rfl⟩
      | [a] => exact ⟨a, 0, 0, [0], hide rfl⟩
      | [a, b] => exact ⟨a, b, 0, [0, 0], hide rfl⟩
      | a :: b :: c :: r => exact ⟨a, b, c, r ++ [0, 0, 0], hide rfl⟩
    go_upto_region 4 with fail
    go_cut [5] from 10 (fun l x => ∃ gl cap, l = .slice (some ⟨gl, 0, none⟩) (L.length + 3) cap ∧ x.cell? ⟨gl, 0, none⟩ = some (.int .i64 l0) ∧ x.cell? ⟨gl, 1, none⟩ = some (.int .i64 l1) ∧ x.cell? ⟨gl, 2, none⟩ = some (.int .i64 l2) ∧
      x.heap[w.heap.size]? = some (.cells #[.int .i64 0, .int .i64 0, .int .i64 0, .int .i64 0, .int .i64 0, .int .i64 0] 23 (0, 0)) ∧ Below w.heap.size w x)
    case first =>
      have g0 := grow w (.cells #[.int .i64 0, .int .i64 0, .int .i64 0, .int .i64 0, .int .i64 0, .int .i64 0] 23)
      have hR : (w.alloc (.cells #[.int .i64 0, .int .i64 0, .int .i64 0, .int .i64 0, .int .i64 0, .int .i64 0] 23)).heap[w.heap.size]? = _ := World.alloc_heap_new w _
      have hz : (w.alloc (.cells #[.int .i64 0, .int .i64 0, .int .i64 0, .int .i64 0, .int .i64 0, .int .i64 0] 23)).heap.size = w.heap.size + 1 := by simp
      generalize (w.alloc (.cells #[.int .i64 0, .int .i64 0, .int .i64 0, .int .i64 0, .int .i64 0, .int .i64 0] 23)) = w0 at *
      have g1 := grow w0 (.cells #[] 3)
      have O1 : (w0.alloc (.cells #[] 3)).ownsRow (w.heap.size + 1) 3 1 (.slice (some ⟨w.heap.size + 1, 0, none⟩) 0 0) 0 [] := by
        have := World.ownsRow_made (base := w.heap.size + 1) (e := 3) (size := 1) w0 #[] 0 (by omega) (Nat.zero_le _) (by simp)
        rwa [hz] at this
      go_wp2_with fail
      refine (hN _).mono ?_
      rintro e w2 ⟨⟨v, rfl, O⟩, b2⟩
      have O2 := O1.kept (grown_of b2) (Or.inr (by simp [Value.ownBlock]))
      have hR2 := block_kept (block_kept hR (grown_of g1) (fun r e => by cases e)) (grown_of b2) (fun r e => by cases e)
      have c2 := onto (onto g0 g1) b2
      have z2 : w0.heap.size + 1 ≤ w2.heap.size := by have := b2.size; simpa using this
      rcases O with ⟨hl, ⟨rfl, h0⟩ | ⟨g, cap, cur, rfl, hbg, hg, hcap⟩⟩
      · have hL0 : L = [] := List.length_eq_zero_iff.mp h0
        have hnn : l0 = 0 ∧ l1 = 0 ∧ l2 = 0 := by
          have := hnum.out
          rw [hL0] at this
          simp at this
          exact ⟨this.1.symm, this.2.1.symm, this.2.2.1.symm⟩
        obtain ⟨rfl, rfl, rfl⟩ := hnn
        go_wp2_with fail
        go_meet
        case rel =>
          refine ⟨w2.heap.size + 1, _, by rw [hL0]; rfl, ?_, ?_, ?_, ?_, ?_⟩
          · simp [go_sem]; rw [Array.getElem?_append_left (by simp)]; rfl
          · simp [go_sem]; rw [Array.getElem?_append_left (by simp)]; rfl
          · simp [go_sem]; rw [Array.getElem?_append_left (by simp)]; rfl
          · have z0 := c2.size
            show ((w2.alloc _).alloc _).heap[w.heap.size]? = _
            rw [Below.heap_alloc _ _ _ (by simp; omega), Below.heap_alloc _ _ _ (by omega)]
            exact hR2
          · exact ((c2.alloc c2.size _).alloc (by have := c2.size; simp; omega) _).drew
      · have hsrc : ∀ j u, (L.map (fun x => Value.int .i64 x))[j]? = some u → w2.cell? ((⟨g, 0, none⟩ : Addr).add j) = some u := World.ownsRow.cells (v := .slice (some ⟨g, 0, none⟩) L.length cap) (base := (w0.alloc (.cells #[] 3)).heap.size) (e := 3) (size := 1) (n := L.length) ⟨hl, Or.inr ⟨g, cap, cur, rfl, hbg, hg, hcap⟩⟩ rfl
        go_wp2_with (at_builtin; refine wpList_append_own _ rfl _ _ 45 rfl (w.heap.size + 1) 3 i0 (.int .i64 0) 1 8 Tryz.underlying45 hi hz0 hz1 hz2 rfl (by decide) _ _ _ rfl O2 ⟨g, 0, none⟩ L.length cap (L.map (fun x => Value.int .i64 x)) rfl (by simp) hsrc (by intro u hu; rw [List.mem_map] at hu; obtain ⟨x, -, rfl⟩ := hu; rfl) (by unfold maxLen; omega) (by omega) (by omega) ?_)
        intro v3 w3 O3 G3 _
        have c3 : Below w.heap.size w w3 := c2.grown G3 (by have := c2.size; exact this) (fun k hk => by cases hk; show w.heap.size ≤ w.heap.size + 1; omega)
        have hR3 : w3.heap[w.heap.size]? = some (.cells #[.int .i64 0, .int .i64 0, .int .i64 0, .int .i64 0, .int .i64 0, .int .i64 0] 23 (0, 0)) := by
          rw [G3.block w.heap.size (Array.getElem?_eq_some_iff.1 hR2).1 (fun e => by simp [Value.ownBlock] at e)]
          exact hR2
        have z3 : w2.heap.size ≤ w3.heap.size := G3.size
        clear hsrc O2 G3 hR2 c2 hg hcap hbg hl
        have cz : ∀ j u, ([.int .i64 0, .int .i64 0, .int .i64 0] : List Value)[j]? = some u → (w3.alloc (.cells #[.int .i64 0, .int .i64 0, .int .i64 0] 3)).cell? ((⟨w3.heap.size, 0, none⟩ : Addr).add j) = some u := by
          intro j u hj
          rw [Addr.add_lit, Nat.zero_add, World.cell?_alloc_new, ← hj]
          match j, hj with
          | 0, _ => rfl
          | 1, _ => rfl
          | 2, _ => rfl
        have g4 := grow w3 (.cells #[.int .i64 0, .int .i64 0, .int .i64 0] 3)
        go_wp2_with (at_builtin; refine wpList_append_own _ rfl _ _ 45 rfl (w.heap.size + 1) 3 i0 (.int .i64 0) 1 8 Tryz.underlying45 hi hz0 hz1 hz2 rfl (by decide) _ _ _ rfl (O3.alloc _) ⟨w3.heap.size, 0, none⟩ 3 3 [.int .i64 0, .int .i64 0, .int .i64 0] rfl rfl cz (by simp [Value.oneCell']) (by unfold maxLen; omega) (by omega) (by rw [World.size_alloc]; omega) ?_)
        intro v4 w4 O4 G4 _
        have hb4 : ∀ k, v3.ownBlock = some k → w.heap.size + 1 ≤ k := by
          intro k hk
          exact (O3.lt k hk).1
        have c4 : Below w.heap.size w w4 := (onto c3 g4).grown G4 (by have := (onto c3 g4).size; exact this) (fun k hk => by have := hb4 k hk; omega)
        have hR4 : w4.heap[w.heap.size]? = some (.cells #[.int .i64 0, .int .i64 0, .int .i64 0, .int .i64 0, .int .i64 0, .int .i64 0] 23 (0, 0)) := by
          have h5 := block_kept hR3 (grown_of g4) (fun r e => by cases e)
          rw [G4.block w.heap.size (Array.getElem?_eq_some_iff.1 h5).1 (fun e => by have := hb4 _ e.symm; omega)]
          exact h5
        obtain ⟨gl, cap4, rfl⟩ := ownsRow_succ (k := L.length + 2) (by simpa using O4)
        have hcells := O4.cells (g := gl) rfl
        have hcat : (L.map (fun x => Value.int .i64 x)) ++ [.int .i64 0, .int .i64 0, .int .i64 0] = .int .i64 l0 :: .int .i64 l1 :: .int .i64 l2 :: rest.map (fun x => Value.int .i64 x) := by
          have := congrArg (List.map (fun x : Int => Value.int .i64 x)) hnum.out
          simpa using this
        rw [hcat] at hcells
        have q0 := hcells 0 _ rfl
        have q1 := hcells 1 _ rfl
        have q2 := hcells 2 _ rfl
        rw [Addr.add_lit] at q0 q1 q2
        clear hcells O4 G4 cz
        go_wp2_with fail
        go_meet
        case rel => exact ⟨gl, cap4, rfl, q0, q1, q2, hR4, c4⟩
    case rest =>
      obtain ⟨W0, rfl⟩ : ∃ W0, W0 = wc := ⟨_, rfl⟩
      obtain ⟨gl, cap, rfl, k0, k1, k2, hR, hB⟩ := hcut
      have hnm : ∀ (v0 v1 v2 v3 : Value) (w : World), (Instr.field 41 (.agg #[v0, v1, v2, v3]) 0).run Tryz.prog w = .ok v0 w := by intros; kernel_rfl
      have hfm := at_form
      have hcn := cut_name s hes.out
      rw [← hen.out] at hcn
      have hND : (s.extract 0 en).toList = s.data.toList.takeWhile (· != 32) := by
        rw [ByteArray.toList_eq, ByteArray.data_extract, Array.toList_extract, List.extract_eq_take_drop, hen.out]
        unfold Asm.endOf
        rw [List.drop_zero, Nat.sub_zero]
        have h := List.takeWhile_append_dropWhile (p := fun c : UInt8 => c != 32) (l := s.data.toList)
        conv => lhs; arg 2; rw [← h]
        rw [List.take_left']
        rfl
      obtain ⟨N, hN2⟩ : ∃ N, Hid (N = s.extract 0 en) := ⟨_, hide rfl⟩
      rw [← hN2.out] at hcn hND
      replace hND := hide hND
      have hx : Hid (Asm.numsOf s.data.toList = l0 :: l1 :: l2 :: rest) := hide (by unfold Asm.numsOf; rw [← hL.out]; exact hnum.out)
      have gR := (Array.getElem?_eq_some_iff.1 hR).1
      replace hR := hide hR
      replace hB := hide hB
      clear hN2 hL hN hcr hnum
      go_wp2_with fail
      go_loopw [6] (fun i wr => ∃ k : Nat, k ≤ 69 ∧ i = .int .i64 k ∧ Hid (Asm.NoneTill s.data.toList k) ∧ Hid (Below W0.heap.size W0 wr)) (fun i _ => 69 - (Lib.intOf i).toNat)
      case atStart => exact ⟨0, by omega, rfl, hide (Asm.NoneTill.zero _), hide (Below.refl _ _)⟩
      case round =>
        obtain ⟨k, hk, rfl, T, G⟩ := hrel
        by_cases hk69 : k < 69
        · have hA : ∀ w, Calls Tryz.prog 18 #[.int .i64 (k : Int)] w fun e w' => e = .returned (.agg #[.string (Dec.name k), .string (Dec.lname (Dec.fm k)), .int .i64 (Dec.mj k : Nat), .int .i64 (Dec.mn k : Nat)]) ∧ Below w.heap.size w w' := fun w => by
            have := at_any (k : Int) w
            rwa [show idx (k : Int) = k from by unfold idx; rw [if_pos (by omega)]; simp] at this
          have hf := Dec.fm_lt k hk69
          have hks : (k : Int) < 69 := by omega
          have hnamed := hide (T.out.named (k := k))
          obtain ⟨mj, hmj⟩ : ∃ mj : Int, mj = (Dec.mj k : Nat) := ⟨_, rfl⟩
          obtain ⟨mn, hmn⟩ : ∃ mn : Int, mn = (Dec.mn k : Nat) := ⟨_, rfl⟩
          rw [← hmj, ← hmn] at hA
          clear hmj hmn
          obtain ⟨fk, hfk⟩ : ∃ fk, Hid (fk = Dec.fm k) := ⟨_, hide rfl⟩
          rw [← hfk.out] at hA hf
          obtain ⟨FM, hFM⟩ : ∃ FM, Hid (FM = Dec.lname fk) := ⟨_, hide rfl⟩
          rw [← hFM.out] at hA
          obtain ⟨nm, hnme⟩ : ∃ nm, Hid (nm = Dec.name k) := ⟨_, hide rfl⟩
          rw [← hnme.out] at hA hnamed
          by_cases hsame : nm.toList = N.toList
          · have hb : (!nm.toList == N.toList) = false := by rw [hsame]; simp
            clear hnamed
            go_wp2_with fail
            go_region_held3 (fun x => Below wr.heap.size wr x) (first | exact (Below.refl _ wr).drew | assumption | exact Below.trans (by assumption) (Below.mono (by assumption) (Below.size (by assumption)))) (first | (go_at_call 18; refine (hA _).mono ?_; rintro e w1 ⟨rfl, h1⟩))
            have G1 : Below W0.heap.size W0 w1 := G.out.trans (((Below.refl _ wr).drew.trans h1).mono G.out.size)
            clear h1 G
            have g2 := grow w1 (.cells #[.int .i64 (k : Int), .int .i64 0, .int .i64 0, .int .i64 0, .int .i64 0, .int .i64 0] 23)
            have hP1 : (w1.alloc (.cells #[.int .i64 (k : Int), .int .i64 0, .int .i64 0, .int .i64 0, .int .i64 0, .int .i64 0] 23)).heap[w1.heap.size]? = _ := World.alloc_heap_new w1 _
            have hz1 := G1.size
            go_wp2_with fail
            refine (hA _).mono ?_
            rintro e w2 ⟨rfl, h2⟩
            have hP2 := block_kept hP1 (grown_of h2) (fun r e => by cases e)
            have G2 : Below W0.heap.size W0 w2 := onto (onto G1 g2) h2
            have q0 := on1 G2 k0
            have q1 := on1 G2 k1
            have q2 := on1 G2 k2
            obtain ⟨⟨z0, z1, z2, z3, z4, z5⟩, zf⟩ := six_of hP2
            have hgl : w1.heap.size ≠ gl := by have := cell_in k0; omega
            clear hP1 h2 g2 G1 hA
            go_upto_block 4 with fail
            go_cut [7] from 30 to 210 (fun s7 x => s7 = .pointer (some ⟨w1.heap.size, 0, none⟩) ∧ ∃ fs ft fd fa fi : Int, Hid (Asm.pour (Asm.rounds (Dec.fm k)) (Asm.numsOf s.data.toList) [0, 0, 0, 0, 0] = [fs, ft, fd, fa, fi]) ∧ Hid (x.heap[w1.heap.size]? = some (.cells #[.int .i64 (k : Int), .int .i64 fs, .int .i64 ft, .int .i64 fd, .int .i64 fa, .int .i64 fi] 23 (0, 0))) ∧ Hid (Below W0.heap.size W0 x))
            case first =>
              have hFl := Dec.fm_lt k hk69
              show Code.wp Tryz.prog SW _ _ _
              apply sw_any (fk := fk) (hf := hf) (l0 := l0) (l1 := l1) (l2 := l2) (rest := rest) (hFM := hFM) (h3 := by omega) (q0 := q0) (q1 := q1) (q2 := q2) (hP2 := hP2)
              intro v46 v47 v48 v49 v50 v51 v52 v53 v54 v55 v56 v57 v58 v59 v60 v61 v62 v63 v64 v65 v66 v67 v68 v69 v70 v71 v72 v73 v74 v75 v76 v77 v78 v79 v80 v81 v82 v83 v84 v85 v86 v87 v88 v89 v90 v91 v92 v93 v94 v95 v96 v97 v98 v99 v100 v101 v102 v103 v104 v105 v106 v107 v108 v109 v110 v111 v112 v113 v114 v115 v116 v117 v118 v119 v120 v121 v122 v123 v124 v125 v126 v127 v128 v129 v130 v131 v132 v133 v134 v135 v136 v137 v138 v139 v140 v141 v142 v143 v144 v145 v146 v147 v148 v149 v150 v151 v152 v153 v154 v155 v156 v157 v158 v159 v160 v161 v162 v163 v164 v165 v166 v167 v168 v169 v170 v171 v172 v173 v174 v175 v176 v177 v178 v179 v180 v181 v182 v183 v184 v185 v186 v187 v188 v189 v190 v191 v192 v193 v194 v195 v196 v197 x fs ft fd fa fi hp h1 h2
              go_wp2_with fail
              go_meet
              case rel => exact ⟨rfl, fs, ft, fd, fa, fi, hide (by rw [hx.out, ← hfk.out]; exact hp), hide h1, hide (G2.trans (Below.mono h2 hz1))⟩
            case rest =>
              obtain ⟨rfl, fs, ft, fd, fa, fi, hpour, hP3, G3⟩ := hcut
              obtain ⟨y, er, hsaid, hP⟩ := rprint_any (k : Int) fs ft fd fa fi
              replace hsaid := hide hsaid
              obtain ⟨⟨u0, u1, u2, u3', u4', u5'⟩, uf⟩ := six_of hP3.out
              clear z0 z1 z2 z3 z4 z5 zf hP2 G2 q0 q1 q2 hx hFM
              obtain ⟨Y, hY⟩ : ∃ Y : ByteArray, Hid (Y = ⟨y.toArray⟩) := ⟨_, hide rfl⟩
              rw [← hY.out] at hP
              go_wp2_with fail
              refine (hP _).mono ?_
              rintro e w5 ⟨rfl, b5⟩
              have hP5 := block_kept hP3.out (grown_of b5) (fun r e => by cases e)
              have G5 := onto G3.out b5
              have hR5 : w5.heap[w.heap.size]? = some (.cells #[.int .i64 0, .int .i64 0, .int .i64 0, .int .i64 0, .int .i64 0, .int .i64 0] 23 (0, 0)) := by
                rw [G5.block w.heap.size gR]; exact hR.out
              have B5 : Below w.heap.size w w5 := hB.out.trans (G5.mono hB.out.size)
              obtain ⟨⟨v0, v1, v2, v3, v4, v5⟩, vf⟩ := six_of hP5
              have hYl : Y.toList = y := by rw [hY.out, ByteArray.toList_eq]
              clear hP b5 hP3 G3 u0 u1 u2 u3' u4' u5' uf hP5 hY
              by_cases he : er = 0
              · by_cases hy : y = s.data.toList
                · have hbs : (Y.toList == s.toList) = true := by rw [hYl, hy, ByteArray.toList_eq]; simp
                  have hgot := hide (Asm.Got.printed hsaid.out he hy)
                  subst he
                  obtain ⟨⟨y0, y1, y2, y3, y4, y5⟩, yf⟩ := six_of hR5
                  obtain ⟨p0, pb⟩ := put6 hR5 (.int .i64 (k : Int)) (.int .i64 fs) (.int .i64 ft) (.int .i64 fd) (.int .i64 fa) (.int .i64 fi)
                  obtain ⟨⟨r0, r1, r2, r3, r4, r5⟩, -⟩ := six_of p0
                  have hend := hide (⟨r0, r1, r2, r3, r4, r5⟩ : _ ∧ _ ∧ _ ∧ _ ∧ _ ∧ _)
                  clear r0 r1 r2 r3 r4 r5 p0 hYl hy
                  go_wp2_with fail
                  obtain ⟨r0, r1, r2, r3, r4, r5⟩ := hend.out
                  exact bodyPost_ret (v := .tuple #[.agg #[.int .i64 (k : Int), .int .i64 fs, .int .i64 ft, .int .i64 fd, .int .i64 fa, .int .i64 fi], .int .i64 0]) (by simp [results, Tryz.results10, go_sem, r0, r1, r2, r3, r4, r5]) rfl ⟨⟨_, _, _, _, _, _, _, hgot.out, rfl⟩, B5.trans pb⟩
                · have hbs : (Y.toList == s.toList) = false := by rw [hYl, ByteArray.toList_eq]; simpa using hy
                  have T2 := hide (T.out.printed hpour.out hsaid.out (fun h => hy h.2))
                  subst he
                  replace G5 := hide G5
                  clear hYl hy
                  go_wp2
                  go_roundw
                  case rel => exact ⟨k + 1, by omega, by go_num, T2, G5⟩
                  case measure => simp [Lib.intOf]; omega
              · have hbe : (er == 0) = false := by simpa using he
                have T2 := hide (T.out.printed hpour.out hsaid.out (fun h => he h.1))
                replace G5 := hide G5
                clear hYl
                go_wp2
                go_roundw
                case rel => exact ⟨k + 1, by omega, by go_num, T2, G5⟩
                case measure => simp [Lib.intOf]; omega
          · have hb : (!nm.toList == N.toList) = true := by simpa using hsame
            have T2 := hide (hnamed.out (fun e => hsame (by rw [ByteArray.toList_eq, e, hND.out])))
            clear hnamed hsame
            go_wp2_with fail
            go_region_held3 (fun x => Below wr.heap.size wr x) (first | exact (Below.refl _ wr).drew | assumption | exact Below.trans (by assumption) (Below.mono (by assumption) (Below.size (by assumption)))) (first | (go_at_call 18; refine (hA _).mono ?_; rintro e w1 ⟨rfl, h1⟩))
            have hbw : Below wr.heap.size wr w1 := (Below.refl _ wr).drew.trans h1
            have G2 := hide (G.out.trans (hbw.mono G.out.size))
            clear h1 hbw
            go_wp2
            go_roundw
            case rel => exact ⟨k + 1, by omega, by go_num, T2, G2⟩
            case measure => simp [Lib.intOf]; omega
        · obtain rfl : k = 69 := by omega
          have hR5 : wr.heap[w.heap.size]? = some (.cells #[.int .i64 0, .int .i64 0, .int .i64 0, .int .i64 0, .int .i64 0, .int .i64 0] 23 (0, 0)) := by
            rw [G.out.block w.heap.size gR]; exact hR.out
          have B5 : Below w.heap.size w wr := hB.out.trans (G.out.mono hB.out.size)
          obtain ⟨⟨y0, y1, y2, y3, y4, y5⟩, yf⟩ := six_of hR5
          obtain ⟨p0, pb⟩ := put6 hR5 (.int .i64 0) (.int .i64 0) (.int .i64 0) (.int .i64 0) (.int .i64 0) (.int .i64 0)
          obtain ⟨⟨r0, r1, r2, r3, r4, r5⟩, -⟩ := six_of p0
          have hgot := hide (Asm.Got.none_ T.out)
          have hend := hide (⟨r0, r1, r2, r3, r4, r5⟩ : _ ∧ _ ∧ _ ∧ _ ∧ _ ∧ _)
          clear r0 r1 r2 r3 r4 r5 p0
          go_wp2_with fail
          obtain ⟨r0, r1, r2, r3, r4, r5⟩ := hend.out
          exact bodyPost_ret (v := .tuple #[.agg #[.int .i64 0, .int .i64 0, .int .i64 0, .int .i64 0, .int .i64 0, .int .i64 0], .int .i64 50]) (by simp [results, Tryz.results10, go_sem, r0, r1, r2, r3, r4, r5]) rfl ⟨⟨_, _, _, _, _, _, _, hgot.out, rfl⟩, B5.trans pb⟩

end Go.Proofs.YtahbbhgoacbejaaGreatDoor
