/- The document's Lines: the words of lines. -/
import Derived.Test.YtahbbhgoacbejaaGreatDoorAsmParW
import Derived.Deep.CutRange
set_option linter.unusedVariables false
set_option linter.unusedSimpArgs false
namespace Go.Proofs.YtahbbhgoacbejaaGreatDoor
open Go.RowKit Go.Shelf Go.Joins

/-- The next row of a text ends at the next byte 10, or at the text's end. -/
theorem Asm.rows_at (l : List UInt8) (f k : Nat) (hfk : f ≤ k) (hk : k ≤ l.length) (hno : ∀ j, f ≤ j → j < k → l[j]? ≠ some 10) (hend : l[k]? = some 10 ∨ (k = l.length ∧ f < k)) :
    Asm.rows (l.drop f) = (l.drop f).take (k - f) :: Asm.rows (l.drop (k + 1)) := by
  have hne : l.drop f ≠ [] := by
    intro e
    have h0 : l.length - f = 0 := by rw [← List.length_drop, e]; rfl
    rcases hend with h | ⟨h, h'⟩
    · have := (List.getElem?_eq_some_iff.mp h).1
      omega
    · omega
  have htw : (l.drop f).takeWhile (· != 10) = (l.drop f).take (k - f) := by
    conv => lhs; rw [← List.take_append_drop (k - f) (l.drop f)]
    rw [List.takeWhile_append_of_pos]
    · have : ((l.drop f).drop (k - f)).takeWhile (· != 10) = [] := by
        rw [List.drop_drop, show f + (k - f) = k by omega]
        rcases hend with h | ⟨h, -⟩
        · obtain ⟨hl, he⟩ := List.getElem?_eq_some_iff.mp h
          rw [List.drop_eq_getElem_cons hl, he]
          rfl
        · rw [List.drop_of_length_le (by omega)]; rfl
      rw [this, List.append_nil]
    · intro a ha
      obtain ⟨i, hi⟩ := List.mem_iff_getElem?.mp ha
      have hlt : i < k - f := by
        have := (List.getElem?_eq_some_iff.mp hi).1
        rw [List.length_take] at this
        omega
      rw [List.getElem?_take_of_lt hlt, List.getElem?_drop] at hi
      have := hno (f + i) (by omega) (by omega)
      rw [hi] at this
      simpa using this
  rw [Asm.rows_cons hne, htw, List.length_take, List.length_drop, List.drop_drop, show f + (min (k - f) (l.length - f) + 1) = k + 1 by omega]

theorem cut_line (s : ByteArray) (f k : Nat) (h : f ≤ k) (hk : k ≤ s.size) (w : World) :
    (Instr.sliceAt 9 (.string s) (some (.int .i64 (f : Int))) (some (.int .i64 (k : Int))) none).run Tryz.prog w = .ok (.string (s.extract f k)) w := by
  rw [run_sliceAt_string w 9 _ _ _ _ Tryz.underlying9, run_slice_string w 9 s .i64 .i64 (f : Int) (k : Int) Tryz.underlying9 (by omega) (by omega) (by omega), Int.toNat_natCast, Int.toNat_natCast]

theorem byte_of (s : ByteArray) (k : Nat) (h : k < s.size) : s.data.toList[k]? = some (s[k]'h) := byte_at s k h

set_option maxHeartbeats 16000000 in
set_option maxRecDepth 100000 in
theorem rlines_any (s : ByteArray) (hs : s.size ≤ 2000) (w : World) :
    Calls Tryz.prog 11 #[.string s] w fun e' w' => (∃ ws e v, e' = .returned (.tuple #[v, .int .i64 e]) ∧ Asm.Lined s.data.toList ws e ∧ RowAt w' v ws) ∧ Below w.heap.size w w' := by
  have hi0 : (Tryz.prog.info? 36).map (fun i => (i.zero, i.size, i.bytes)) = some (some (.int .u32 0), 1, 4) := by kernel_rfl
  obtain ⟨i0, hi, hz0, hz1, hz2⟩ := info_parts hi0
  go_enter Tryz.func11, Tryz.ntmps11
  go_wp2_with fail
  have g0 := grow w (.cells #[] 36)
  have o0 : (w.alloc (.cells #[] 36)).ownsRow w.heap.size 36 1 (.slice (some ⟨w.heap.size, 0, none⟩) 0 0) 0 [] :=
    ⟨rfl, Or.inr ⟨w.heap.size, 0, #[], rfl, Nat.le_refl _, World.alloc_heap_new w _, Nat.le_refl _, by unfold maxLen; omega, rfl, rfl⟩⟩
  go_loopw [4, 5, 6] (fun v fr i wr => ∃ (k f : Nat) (don : List (List UInt8)) (ws : List Int), f ≤ k ∧ k ≤ s.size + 1 ∧ (k ≤ s.size ∨ s.size ≤ f) ∧ fr = .int .i64 (f : Int) ∧ i = .int .i64 (k : Int) ∧ don.length ≤ f ∧
      Hid (Asm.rows s.data.toList = don ++ Asm.rows (s.data.toList.drop f)) ∧ Hid (Asm.Words don ws) ∧ Hid (∀ j, f ≤ j → j < k → s.data.toList[j]? ≠ some 10) ∧
      Hid (wr.ownsRow w.heap.size 36 1 v ws.length (ws.map (.int .u32 ·))) ∧ Hid (Below w.heap.size w wr)) (fun _ _ i _ => s.size + 2 - (Lib.intOf i).toNat)
  case atStart => exact ⟨0, 0, [], [], by omega, by omega, by omega, rfl, rfl, by simp, hide rfl, hide .nil, hide (fun j h1 h2 => by omega), hide o0, hide g0⟩
  case round =>
    obtain ⟨k, f, don, ws, hfk, hk, hor, rfl, rfl, hdl, hrows, hwords, hno, hown, hb⟩ := hrel
    have hwl0 := hwords.out.length
    by_cases hle : k ≤ s.size
    · have hl : (k : Int) ≤ (s.size : Int) := by omega
      go_upto_region 6 with fail
      go_cut [38] from 12 to 60 (fun b x => ∃ sk : Bool, b = .bool sk ∧ x = wr ∧ Hid (sk = true → (∀ j, f ≤ j → j < k + 1 → s.data.toList[j]? ≠ some 10) ∧ (k < s.size ∨ f = k)) ∧ Hid (sk = false → s.data.toList[k]? = some 10 ∨ (k = s.data.toList.length ∧ f < k)))
      case first =>
        by_cases hlt : k < s.size
        · have hl2 : (k : Int) < (s.size : Int) := by omega
          by_cases hbt : (s[k]'hlt) = 10
          · have hbn : (((s[k]'hlt).toNat : Int) != 10) = false := by rw [hbt]; rfl
            have hne : ((k : Int) == (s.size : Int)) = false := by simp; omega
            have hend : Hid (s.data.toList[k]? = some 10 ∨ (k = s.data.toList.length ∧ f < k)) := hide (Or.inl (by rw [byte_of s k hlt, hbt]))
            clear hbt
            go_wp2_with fail
            go_meet
            case rel => exact ⟨false, rfl, rfl, hide (fun h => by cases h), hide (fun _ => hend.out)⟩
          · have hbn : (((s[k]'hlt).toNat : Int) != 10) = true := by
              have : (s[k]'hlt).toNat ≠ 10 := fun e => hbt (UInt8.toNat_inj.mp e)
              simp; omega
            have hno2 : Hid ((∀ j, f ≤ j → j < k + 1 → s.data.toList[j]? ≠ some 10) ∧ (k < s.size ∨ f = k)) := hide (by
              refine ⟨fun j h1 h2 => ?_, by omega⟩
              rcases Nat.lt_succ_iff_lt_or_eq.mp h2 with h | h
              · exact hno.out j h1 h
              · rw [h, byte_of s k hlt]
                intro e
                exact hbt (Option.some.inj e))
            clear hbt
            go_wp2_with fail
            go_meet
            case rel => exact ⟨true, rfl, rfl, hide (fun _ => hno2.out), hide (fun h => by cases h)⟩
        · have hks : k = s.size := by omega
          subst hks
          by_cases hf : f = s.size
          · subst hf
            have hno2 : Hid ((∀ j, s.size ≤ j → j < s.size + 1 → s.data.toList[j]? ≠ some 10) ∧ (s.size < s.size ∨ s.size = s.size)) := hide (by
              refine ⟨fun j h1 h2 => ?_, Or.inr rfl⟩
              rw [List.getElem?_eq_none (show s.data.toList.length ≤ j from h1)]
              intro e
              cases e)
            go_wp2_with fail
            go_meet
            case rel => exact ⟨true, rfl, rfl, hide (fun _ => hno2.out), hide (fun h => by cases h)⟩
          · have hfe : ((f : Int) == (s.size : Int)) = false := by simp; omega
            have hend : Hid (s.data.toList[s.size]? = some 10 ∨ (s.size = s.data.toList.length ∧ f < s.size)) := hide (Or.inr ⟨rfl, by omega⟩)
            go_wp2_with fail
            go_meet
            case rel => exact ⟨false, rfl, rfl, hide (fun h => by cases h), hide (fun _ => hend.out)⟩
      case rest =>
        obtain ⟨sk, rfl, rfl, hA, hB⟩ := hcut
        cases sk with
        | true =>
          obtain ⟨hno2, hkf⟩ := hA.out rfl
          replace hno2 := hide hno2
          clear hA hB hno
          go_wp2
          go_roundw
          case rel =>
            exact ⟨k + 1, f, don, ws, by omega, by omega, by omega, congrArg (Value.int .i64) (by omega), congrArg (Value.int .i64) (by omega), hdl, hrows, hwords, hno2, hown, hb⟩
          case measure => simp [Lib.intOf]; omega
        | false =>
          have hend := hide (hB.out rfl)
          clear hA hB
          obtain ⟨E, hE⟩ : ∃ E, Hid (E = s.extract f k) := ⟨_, hide rfl⟩
          have hcut := cut_line s f k hfk hle
          have hEs : E.size ≤ 1048576 := by rw [hE.out, ByteArray.size_extract]; omega
          have hEd : E.data.toList = (s.data.toList.drop f).take (k - f) := by rw [hE.out, ByteArray.data_extract, Array.toList_extract, List.extract_eq_take_drop]
          rw [← hE.out] at hcut
          have hrows2 : Hid (Asm.rows s.data.toList = don ++ E.data.toList :: Asm.rows (s.data.toList.drop (k + 1))) := hide (by
            rw [hEd, ← Asm.rows_at s.data.toList f k hfk hle hno.out hend.out]; exact hrows.out)
          have hP := fun W => rparse_any E hEs W
          clear hE hEs hEd hrows hno hend
          generalize hln : E.data.toList = ln at hrows2
          rw [hln] at hP
          replace hln := hide hln
          go_wp2_with fail
          refine (hP _).mono ?_
          rintro e1 w2 ⟨⟨o, a0, a1, a2, a3, a4, e, hgot, rfl⟩, h2⟩
          have g2 := grow w2 (.cells #[.int .i64 o, .int .i64 a0, .int .i64 a1, .int .i64 a2, .int .i64 a3, .int .i64 a4] 23)
          have c2 := cell6 w2 23 (.int .i64 o) (.int .i64 a0) (.int .i64 a1) (.int .i64 a2) (.int .i64 a3) (.int .i64 a4)
          obtain ⟨k0, k1, k2, k3, k4, k5⟩ := c2
          have b2 := onto (onto hb.out h2) g2
          have hown2 := (hown.out.kept (grown_of h2) (by cases hv : Value.ownBlock u4 <;> simp)).kept (grown_of g2) (by cases hv : Value.ownBlock u4 <;> simp)
          clear hP hb h2 hown g2
          replace hown2 := hide hown2
          replace b2 := hide b2
          rcases hgot with ⟨op, ho, rfl, hg, hx, rfl⟩ | ⟨hnon, rfl, rfl, rfl, rfl, rfl, rfl, rfl⟩
          · obtain ⟨v, e, hw, hE⟩ := renc_any (op : Int) a0 a1 a2 a3 a4
            obtain ⟨rfl, rfl⟩ : v = (Dec.laid op a0 a1 a2 a3 a4 : Nat) ∧ e = 0 := by
              rcases hw with ⟨op', ho', he, hg', rfl, rfl⟩ | ⟨hn, -⟩
              · obtain rfl : op = op' := by omega
                exact ⟨rfl, rfl⟩
              · exact absurd hg (hn op ho rfl)
            have hline : Hid (Asm.Line ln (Dec.laid op a0 a1 a2 a3 a4 : Nat)) := hide ⟨op, a0, a1, a2, a3, a4, ho, hg, hx, rfl⟩
            clear hx hg hw
            generalize ((Dec.laid op a0 a1 a2 a3 a4 : Nat) : Int) = v at *
            go_wp2_with fail
            refine (hE _).mono ?_
            rintro e3 w3 ⟨rfl, h3⟩
            have b3 := onto b2.out h3
            have hown3 := hown2.out.kept (grown_of h3) (by cases hv : Value.ownBlock u4 <;> simp)
            clear hE b2 h3 hown2 k0 k1 k2 k3 k4 k5
            have hwl := hwords.out.length
            go_wp2_with (at_builtin; refine wpList_append_own _ rfl _ _ 32 rfl w.heap.size 36 i0 (.int .u32 0) 1 4 Tryz.underlying32 hi hz0 hz1 hz2 rfl (by decide) _ _ _ rfl (hown3.alloc _) ⟨w3.heap.size, 0, none⟩ 1 1 [.int .u32 v] rfl rfl (cell_one_new _ _ _) (by simp [Value.oneCell']) (by unfold maxLen; omega) (by omega) (by have := b3.size; simp; omega) ?_)
            intro v' w4 hown' hgrow _
            have b4 : Below w.heap.size w w4 := by
              refine (b3.alloc b3.size _).grown hgrow (by have := b3.size; simp; omega) (fun k hk => ?_)
              rcases hown3.2 with ⟨rfl, -⟩ | ⟨g, cap, cur, rfl, hg, -⟩
              · cases hk
              · cases hk; exact hg
            obtain ⟨g', cap', rfl⟩ := ownsRow_succ hown'
            have hown4 : Hid (w4.ownsRow w.heap.size 36 1 (.slice (some ⟨g', 0, none⟩) (ws.length + 1) cap') (ws ++ [v]).length ((ws ++ [v]).map (.int .u32 ·))) := hide (by
              rw [List.map_append, List.length_append]
              exact hown')
            have hw4 : Hid (Asm.Words (don ++ [ln]) (ws ++ [v])) := hide (hwords.out.append (.cons hline.out .nil))
            have hr4 : Hid (Asm.rows s.data.toList = (don ++ [ln]) ++ Asm.rows (s.data.toList.drop (k + 1))) := hide (by rw [hrows2.out]; simp)
            have hl4 : (don ++ [ln]).length ≤ k + 1 := by simp; omega
            replace b4 := hide b4
            clear hown' hgrow hown3 b3 hrows2 hwords hline hwl
            go_wp2
            go_roundw
            case rel =>
              exact ⟨k + 1, k + 1, _, _, by omega, by omega, by omega, congrArg (Value.int .i64) (by omega), congrArg (Value.int .i64) (by omega), hl4, hr4, hw4, hide (fun j h1 h2 => by omega), hown4, b4⟩
            case measure => simp [Lib.intOf]; omega
          · have hbad : Hid (∃ x ∈ Asm.rows s.data.toList, ∀ v, ¬ Asm.Line x v) := hide (by
              refine ⟨ln, by rw [hrows2.out]; simp, fun v hv => ?_⟩
              obtain ⟨op, s', t, d, a, i, ho, hg, hx, -⟩ := hv
              exact hnon op s' t d a i ho hg hx)
            clear hnon
            go_wp2_with fail
            go_ret2
            exact ⟨⟨[], 50, _, rfl, Or.inr ⟨hbad.out, rfl, rfl⟩, Or.inl ⟨rfl, rfl⟩⟩, b2.out⟩
    · have hl : ¬ (k : Int) ≤ (s.size : Int) := by omega
      go_wp2_with fail
      go_ret2
      refine ⟨⟨ws, 0, _, rfl, Or.inl ⟨?_, rfl⟩, RowAt.of hown.out⟩, hb.out⟩
      have := hrows.out
      rw [List.drop_of_length_le (show s.data.toList.length ≤ f from by have : s.data.toList.length = s.size := rfl; omega), Asm.rows_nil, List.append_nil] at this
      rw [this]
      exact hwords.out

end Go.Proofs.YtahbbhgoacbejaaGreatDoor
