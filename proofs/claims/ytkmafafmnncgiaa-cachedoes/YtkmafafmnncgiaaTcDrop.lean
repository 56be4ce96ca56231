/- Layer 16: blocks with a byte in some bytes go. -/
import Derived.Test.YtkmafafmnncgiaaTcPut
namespace Go.Proofs.Ytkmafafmnncgiaa
open Go.RowKit
set_option linter.unusedVariables false
set_option linter.unusedSimpArgs false

theorem wout_mid {A B : List (Blk × Value)} {p : Blk × Value} (hd : (pcs (A ++ p :: B)).Nodup) : wout (A ++ p :: B) p.1.pc = A ++ B ∧ ∀ q ∈ A, q.1.pc ≠ p.1.pc := by
  have h1 : ∀ q ∈ A, q.1.pc ≠ p.1.pc := fun q hq e => by
    rw [pcs_app] at hd
    exact (List.nodup_append.1 hd).2.2 q.1.pc (List.mem_map_of_mem (f := fun p : Blk × Value => p.1.pc) hq) p.1.pc (by simp [pcs]) e
  have h2 : (pcs (p :: B)).Nodup := by
    rw [pcs_app] at hd
    exact (List.nodup_append.1 hd).2.1
  have e1 : wout A p.1.pc = A := by
    unfold wout
    rw [List.filter_eq_self]
    intro q hq
    simpa using h1 q hq
  refine ⟨?_, h1⟩
  have e2 := wout_head h2
  unfold wout at e1 e2 ⊢
  rw [List.filter_append, e1, e2]

/-- What a Drop leaves, and how many go. -/
def keepE (f s : Int) (E : List (Blk × Value)) : List (Blk × Value) := E.filter fun p => !(hitV p.1 f s)
def hitsE (f s : Int) (E : List (Blk × Value)) : Nat := E.countP fun p => hitV p.1 f s

theorem cell_row {w : World} {F : Nat → Prop} {v : Value} {n : Nat} {l : List Int} (h : Row w F 32 1 v n (ints l)) {k : Nat} {z : Int} (hz : l[k]? = some z) : ∃ a c, v = .slice (some a) n c ∧ n ≤ c ∧ w.cell? (a.add k) = some (.int .u32 z) ∧ k < n ∧ n ≤ maxLen := by
  have hk := (List.getElem?_eq_some_iff.1 hz).1
  have hn : n = l.length := by have := h.1.1; rw [ints_len] at this; omega
  rcases h.1.2 with ⟨rfl, h0⟩ | ⟨g, cap, cur, rfl, -, -, hc, hm, -⟩
  · omega
  · exact ⟨_, _, rfl, hc, h.1.cells (g := g) rfl k _ (by simp [ints, hz]), by omega, by omega⟩

set_option maxHeartbeats 4000000 in
theorem drop_any {w : World} {F : Nat → Prop} {cb mb r : Nat} {ov : Value} {E : List (Blk × Value)} (C : CacheAt w F cb mb ov r E) (f s : Int) (hf : W32 f) (hs : W32 s) :
    Calls Try.prog 15 #[.pointer (some ⟨cb, 0, none⟩), .int .u32 f, .int .u32 s] w fun e w' => e = .returned (.int .i64 (hitsE f s E)) ∧ ∃ ov', CacheAt w' F cb mb ov' r (keepE f s E) ∧ Turn F w w' := by
  obtain ⟨F0, hF0⟩ : ∃ F0 : Nat → Prop, F0 = fun k => F k ∧ k < w.heap.size := ⟨_, rfl⟩
  have C0 : CacheAt w F0 cb mb ov r E := C.mono fun k h1 h2 => by rw [hF0]; exact ⟨h1, h2⟩
  have hcall := places_any C0
  obtain ⟨n, hn⟩ : ∃ n, n = (pcs E).length := ⟨_, rfl⟩
  have hnE : n = E.length := by rw [hn, pcs_len]
  have hn64 : n ≤ 64 := by have := C.le; have := C.r64; omega
  rw [← hn] at hcall
  replace hF0 := hide hF0
  replace hn := hide hn
  replace hnE := hide hnE
  replace hf := hide hf
  replace hs := hide hs
  replace C0 := hide C0
  clear C
  go_enter Try.func15, Try.ntmps15
  go_wp2_with fail
  refine hcall.mono ?_
  rintro e w1 ⟨v', rfl, R1, hb⟩
  obtain ⟨av, mv, rfl, hmv⟩ := R1.shape
  have C1 := hide (C0.out.on hb)
  have T1 := hide (Turn.of (F := F0) hb)
  replace R1 := hide R1
  clear hcall hb
  go_wp2_with fail
  go_loopw [7, 13] (fun d i wr => ∃ k : Nat, k ≤ n ∧ i = .int .i64 k ∧ d = .int .i64 (hitsE f s (E.take k)) ∧ Hid (∃ ov', CacheAt wr F0 cb mb ov' r (keepE f s (E.take k) ++ E.drop k)) ∧ Hid (Row wr (fun k => w.heap.size ≤ k) 32 1 (.slice av n mv) n (ints (pcs E))) ∧ Hid (Turn F0 w wr)) (fun _ i _ => n - (intOf i).toNat)
  case atStart => exact ⟨0, Nat.zero_le _, rfl, rfl, hide ⟨ov, C1.out⟩, R1, T1⟩
  case round =>
    clear C1 R1 T1 w1
    obtain ⟨k, hk, rfl, rfl, hC, hR, hT⟩ := hrel
    by_cases h : k < n
    · obtain ⟨p, hp⟩ : ∃ p, E[k]? = some p := ⟨E[k]'(by have := hnE.out; omega), List.getElem?_eq_getElem _⟩
      obtain ⟨a0, c0, ha, -, hcell, -, -⟩ := cell_row hR.out (k := k) (z := p.1.pc) (by simp [pcs, hp])
      injection ha with ha1 ha2 ha3
      have hsplit : E.drop k = p :: E.drop (k + 1) := by
        have hkl := (List.getElem?_eq_some_iff.1 hp).1
        rw [List.drop_eq_getElem_cons hkl]
        congr 1
        exact (List.getElem?_eq_some_iff.1 hp).2
      have htake : E.take (k + 1) = E.take k ++ [p] := by rw [List.take_add_one, hp]; rfl
      obtain ⟨ov1, C1⟩ := hC.out
      rw [hsplit] at C1
      obtain ⟨A, hA⟩ : ∃ A, A = keepE f s (E.take k) := ⟨_, rfl⟩
      obtain ⟨B, hB⟩ : ∃ B, B = E.drop (k + 1) := ⟨_, rfl⟩
      rw [← hA, ← hB] at C1
      obtain ⟨hw1, hw2⟩ := wout_mid C1.nodup
      have c1 : wr.cell? ⟨cb, 1, none⟩ = some (.map (some mb)) := C1.box.cell 1
      have hlook := look_yes (w := wr) (b := mb) (K1 := kvs A) (K2 := kvs B) (k := p.1.pc) (v := p.2) (by have := C1.map; rw [kvs_app] at this; exact this) (fun q hq => by obtain ⟨q', hq', rfl⟩ := List.mem_map.1 hq; exact hw2 q' hq') false
      have hhas := has_any (C1.each p (by simp)) f s hf.out hs.out
      obtain ⟨H, hH⟩ : ∃ H, H = hitV p.1 f s := ⟨_, rfl⟩
      rw [← hH] at hhas
      have hd : hitsE f s (E.take (k + 1)) = hitsE f s (E.take k) + (if H then 1 else 0) := by
        unfold hitsE
        rw [htake, List.countP_append, hH]
        simp [List.countP_cons]
      have hle : hitsE f s (E.take k) ≤ 64 := Nat.le_trans List.countP_le_length (by rw [List.length_take]; omega)
      have hkeep : keepE f s (E.take (k + 1)) = A ++ (if H then [] else [p]) := by
        unfold keepE
        rw [htake, List.filter_append, hA, hH]
        unfold keepE
        cases e : hitV p.1 f s <;> simp [e]
      obtain ⟨D, hD⟩ : ∃ D, D = hitsE f s (E.take k) := ⟨_, rfl⟩
      rw [← hD] at hd hle ⊢
      replace C1 := hide C1
      replace hw1 := hide hw1
      replace hH := hide hH
      replace hd := hide hd
      replace hkeep := hide hkeep
      replace hB := hide hB
      subst ha1
      clear hC hp hsplit htake hw2 hA hD ha2 ha3
      simp only [Bool.false_eq_true, if_false] at hlook
      go_wp2_with fail
      refine hhas.mono ?_
      rintro e w2 ⟨rfl, hb⟩
      have C2 := hide (C1.out.on hb)
      have R2 := hide (hR.out.on hb)
      have T2 := hide (hT.out.trans (Turn.of (F := F0) hb) (fun b h => .inl h))
      clear hhas hlook C1 hcell c1 hR hT hb
      cases H with
      | true =>
        have hrem := remove_any C2.out p.1.pc
        rw [hw1.out] at hrem
        go_wp2_with fail
        refine hrem.mono ?_
        rintro e w3 ⟨rfl, ov3, C3, T3⟩
        have R3 := hide (R2.out.turn T3 (fun k e h => by have := R2.out.2 k e; have h' := hF0.out; rw [h'] at h; have := h.2; omega))
        replace C3 := hide C3
        have T4 := hide (T2.out.trans T3 (fun b h => .inl h))
        clear hrem C2 R2 T2 T3
        go_wp2
        go_roundw
        case rel =>
          refine ⟨k + 1, by omega, by go_num, ?_, hide ⟨ov3, ?_⟩, R3, T4⟩
          · rw [hd.out]; simp
          · rw [hkeep.out, ← hB.out]; simpa using C3.out
        case measure => simp [intOf]; omega
      | false =>
        go_wp2
        go_roundw
        case rel =>
          refine ⟨k + 1, by omega, by go_num, ?_, hide ⟨ov1, ?_⟩, R2, T2⟩
          · rw [hd.out]; simp
          · rw [hkeep.out, ← hB.out]; simpa using C2.out
        case measure => simp [intOf]; omega
    · obtain rfl : k = n := by omega
      have ht : E.take k = E := List.take_of_length_le (by have := hnE.out; omega)
      have hdr : E.drop k = [] := List.drop_eq_nil_of_le (by have := hnE.out; omega)
      rw [ht, hdr, List.append_nil] at hC
      rw [ht]
      clear ht hdr
      go_wp2
      go_ret
      obtain ⟨ov', C'⟩ := hC.out
      have hF := hF0.out
      exact ⟨rfl, ov', C'.mono (fun k h _ => by rw [hF] at h; exact h.1), hT.out.mono (fun b _ h => by rw [hF] at h; exact h.1)⟩

end Go.Proofs.Ytkmafafmnncgiaa
