/- Layer 15: contract of slices.DeleteFunc for operations that are none. -/
import Derived.Test.YtnbflahggpehpabQOpDel
namespace Go.Proofs.Ytnbflahggpehpab.Ir
open Go.RowKit
set_option linter.unusedVariables false
set_option maxRecDepth 100000
set_option linter.unusedSimpArgs false

theorem zeros_len (k : Nat) : (Builtin.zeroCells (cellsM M0) k).size = k * 6 := by
  simp [Builtin.zeroCells, cellsM]

theorem zeros_one (k : Nat) : ones (Builtin.zeroCells (cellsM M0) k) = true := by
  unfold ones
  rw [List.all_eq_true]
  intro v hv
  simp only [Builtin.zeroCells, Array.toList_map, List.mem_map] at hv
  obtain ⟨j, -, rfl⟩ := hv
  have hj : j % 6 < 6 := Nat.mod_lt _ (by decide)
  show ((cellsM M0)[j % 6]!).oneCell' = true
  generalize j % 6 = i at hj
  match i, hj with
  | 0, _ => rfl
  | 1, _ => rfl
  | 2, _ => rfl
  | 3, _ => rfl
  | 4, _ => rfl
  | 5, _ => rfl
  | i + 6, h => exact absurd h (by omega)

/-- The rest of an own row is cleared. -/
theorem clear_own (w : World) (g i k c : Nat) (ty : TypeId) (hr : isRow w g = true) (hf : i * 6 + k * 6 ≤ (rowAt w g).size) (hk : 0 < k) :
    (Builtin.clear_ #[22] ty #[.slice (some ⟨g, i * N6, none⟩) k c]).run Try.prog w = .ok (.tuple #[]) (w.setRow g (placed (rowAt w g) (i * 6) (Builtin.zeroCells (cellsM M0) k))) := by
  have hst := store_part w g (i * 6) (Builtin.zeroCells (cellsM M0) k) hr (by rw [zeros_len]; simpa [fitsP] using hf) (zeros_one k)
  obtain ⟨m, rfl⟩ : ∃ m, k = m + 1 := ⟨k - 1, by omega⟩
  have hz := zeroM
  simp only [Builtin.clear_]
  simp [run_underlying Try.underlying22, hz, Value.cells]
  show ((storeCells ⟨g, i * 6, none⟩ (Builtin.zeroCells (cellsM M0) (m + 1)).toList 0).run Try.prog w).andThen _ = _
  rw [hst]
  rfl

/-- The first operations of an own row behind a store beyond them. -/
theorem OwnM.cut {base : Nat} {y : World} {g cap : Nat} {pre rest : List Mi} (h : OwnM base y g cap (pre ++ rest)) (c : Array Value) (hc : pre.length * 6 + c.size ≤ cap * 6) :
    OwnM base (y.setRow g (placed (rowAt y g) (pre.length * 6) c)) g cap pre := by
  obtain ⟨hr, hg, hs, ht⟩ := h.row
  obtain ⟨h1, h2, h3, cur, e, -, -⟩ := h
  have hl : (rowAt y g).toList.length = cap * 6 := by simpa using hs
  refine ⟨h1, by simp at h2; omega, h3, _, setRow_heap y g _ _ _ _ e, ?_, ?_⟩
  · simp only [placed, List.size_toArray, List.length_append, List.length_take, List.length_drop, Array.length_toList, hl, hs]
    omega
  · simp only [placed]
    rw [List.append_assoc, List.take_append_of_le_length (by rw [List.length_take]; omega), List.take_take, Nat.min_self]
    have : (rowAt y g).toList.take (pre.length * 6) = ((rowAt y g).toList.take ((pre ++ rest).length * 6)).take (pre.length * 6) := by
      rw [List.take_take, Nat.min_eq_left (by rw [List.length_append]; omega)]
    rw [this, ht, flat_append, List.take_append_of_le_length (by rw [flat_len]; exact Nat.le_refl _), List.take_of_length_le (by rw [flat_len]; exact Nat.le_refl _)]

def keepB (m : Mi) : Bool := !(m.k == 0)

theorem keep_all {l : List Mi} (h : ∀ x ∈ l, ¬ x.k = 0) : l.filter keepB = l := List.filter_eq_self.2 fun x hx => by simp [keepB, h x hx]

set_option maxHeartbeats 8000000 in
theorem deleteFunc_any {base : Nat} {w : World} {g cap n : Nat} {l : List Mi} (hO : OwnM base w g cap l) (hn : n = l.length) (hl : l.length ≤ 16) (hbase : base ≤ w.heap.size) :
    Calls Try.prog 25 #[.slice (some ⟨g, 0, none⟩) n cap, .func (.func 26) #[] #[]] w fun e w' =>
    ∃ v', e = .returned v' ∧ w'.ownsRow base 32 6 v' (l.filter keepB).length (flat (l.filter keepB)) ∧ w.grownBy w' (some g) := by
  obtain ⟨r1, r2, r3, r4, r5, r6, r7, r8, r9⟩ := rowRules
  obtain ⟨s1, s2, s3, s4, s5, s6, s7, s8, s9, s10⟩ := irSizes
  obtain ⟨q1, q2, q3, q4, q5, q6⟩ := irWhole
  have hops := ops_of_own hO.own
  rw [← hn] at hops
  have ci := hide (indexFunc_any hops hl)
  have hn16 : n ≤ 16 := by omega
  have hcap : n ≤ cap := by rw [hn]; exact hO.2.1
  have hgb := hO.1
  have hcm := hO.2.2.1
  replace hO := hide hO
  replace hn := hide hn
  clear hops hl
  cases hF : firstN l 0 with
  | none =>
    rw [hF] at ci
    have ci' : Hid (Calls Try.prog 37 #[.slice (some ⟨g, 0, none⟩) n cap, .func (.func 26) #[] #[]] w fun e w' => e = .returned (.int .i64 (-1)) ∧ Below w.heap.size w w') := ci
    have hK := hide (keep_all (firstN_none hF))
    clear hF ci
    go_enter Try.func25, Try.ntmps25
    go_wp2_with fail
    refine ci'.out.mono ?_
    rintro e w1 ⟨rfl, h1⟩
    have hO1 := hide (hO.out.of_heap (h1.block g hO.out.row.2.1)).own
    have hb1 := hide ((grown_of h1).but (some g))
    clear ci' h1
    go_wp2
    go_ret
    refine ⟨_, rfl, ?_, hb1.out⟩
    rw [hK.out, hn.out]
    exact hO1.out
  | some j0 =>
    rw [hF] at ci
    have ci' : Hid (Calls Try.prog 37 #[.slice (some ⟨g, 0, none⟩) n cap, .func (.func 26) #[] #[]] w fun e w' => e = .returned (.int .i64 (j0 : Int)) ∧ Below w.heap.size w w') := ci
    obtain ⟨-, pre, m0, rest, hpl, hlen, hm0, hpre⟩ := firstN_some hF
    have hlen : pre.length = j0 := by omega
    have hj0 : j0 < n := by have := hn.out; rw [hpl] at this; simp at this; omega
    have hK : Hid (l.filter keepB = pre ++ (l.drop (j0 + 1)).filter keepB) := hide (by
      rw [hpl, List.filter_append, keep_all hpre, List.filter_cons_of_neg (by simp [keepB, hm0]), ← hlen, show pre ++ m0 :: rest = (pre ++ [m0]) ++ rest by simp, List.drop_left' (by simp)])
    have hI : Hid (OwnM base w g cap (pre ++ ([m0] ++ l.drop (j0 + 1)))) := hide (by
      have e : pre ++ ([m0] ++ l.drop (j0 + 1)) = l := by
        rw [hpl, ← hlen, show pre ++ m0 :: rest = (pre ++ [m0]) ++ rest by simp, List.drop_left' (by simp)]; simp
      rw [e]; exact hO.out)
    have en : ((j0 : Int) == -1) = false := by simp
    clear ci hF hpl hm0 hpre
    replace hlen := hide hlen
    go_enter Try.func25, Try.ntmps25
    go_wp2_with fail
    refine ci'.out.mono ?_
    rintro e w1 ⟨rfl, h1⟩
    have hI1 := hide (hI.out.of_heap (h1.block g hI.out.row.2.1))
    have hb1 := hide ((grown_of h1).but (some g))
    clear ci' h1 hI
    go_wp2_with fail
    go_loopw [5, 6] (fun i j wr => ∃ (a b : Nat) (kept junk : List Mi), a < b ∧ b ≤ n ∧ i = .int .i64 (a : Int) ∧ j = .int .i64 (b : Int) ∧ Hid (kept.length = a) ∧ Hid (junk.length + a = b) ∧ Hid (l.filter keepB = kept ++ (l.drop b).filter keepB) ∧ Hid (OwnM base wr g cap (kept ++ (junk ++ l.drop b))) ∧ Hid (w.grownBy wr (some g))) (fun _ j _ => n - (intOf j).toNat)
    case atStart => exact ⟨j0, j0 + 1, pre, [m0], by omega, by omega, rfl, by go_num, hlen, hide (by simp; omega), hK, hI1, hb1⟩
    case round =>
      obtain ⟨a, b, kept, junk, hab, hbn, rfl, rfl, hka, hjb, hKf, hOk, hb⟩ := hrel
      clear hI1 hb1 hK hO
      by_cases hlt : b < n
      · have dk : decide ((b : Int) < (n : Int)) = true := by simp; omega
        obtain ⟨x, hx0⟩ : ∃ m, l[b]? = some m := ⟨l[b]'(by have := hn.out; omega), List.getElem?_eq_getElem _⟩
        have hO2 := hOk.out
        have hK2 := hKf.out
        rw [drop_at hx0] at hO2 hK2
        obtain ⟨x1, x2, x3, x4⟩ := hO2.row
        have hM : Mat wr g (0 + b * 6) x := by
          have hio := ops_of_own hO2.own
          rcases hio with ⟨aa, cc, hnil, -⟩ | ⟨g', o', c', hv, -, -, hmm⟩
          · simp at hnil
          · cases hv
            exact hmm b x (by
              rw [← List.append_assoc, List.getElem?_append_right (by rw [List.length_append, hka.out]; have := hjb.out; omega)]
              rw [show b - (kept ++ junk).length = 0 by rw [List.length_append, hka.out]; have := hjb.out; omega]
              rfl)
        have hld : (loadCellsFrom ⟨g, b * N6, none⟩ 0 N6 #[]).run Try.prog wr = .ok (cellsM x) wr := by
          have := hM.load
          rwa [Nat.zero_add] at this
        have hgr := grow wr (.cells (cellsM x) 32)
        have hbs : base ≤ wr.heap.size := by have := hb.out.size; omega
        have hba := hide (hb.out.trans ((grown_of hgr).but (some g)))
        have hOa := hide (hO2.of_heap (hgr.block g x2))
        have hbx := hide (Box.new wr (cellsM x) 32)
        replace hK2 := hide hK2
        replace hbs := hide hbs
        clear hOk hKf hb hM x1 x2 x3 x4 hgr hO2 hx0
        go_wp2_with fail
        generalize hL : wr.heap.size = L at *
        generalize World.alloc wr _ = Y1 at *
        refine (none_any x _).mono ?_
        rintro e Y2 ⟨rfl, hY2⟩
        have hO3 := hOa.out.of_heap (hY2.block g hOa.out.row.2.1)
        have hb3 := hba.out.trans ((grown_of hY2).but (some g))
        have hl3 := (hbx.out.on hY2).loads 0 N6 (q1 _) (q2 _)
        clear hOa hba hbx hY2 hld
        by_cases e : x.k = 0
        · have d1 : (x.k == 0) = true := by simpa using e
          have hK3 : Hid (l.filter keepB = kept ++ (l.drop (b + 1)).filter keepB) := hide (by rw [hK2.out, List.filter_cons_of_neg (by simp [keepB, e])])
          have hO4 : Hid (OwnM base Y2 g cap (kept ++ ((junk ++ [x]) ++ l.drop (b + 1)))) := hide (by simpa using hO3)
          have hj2 : Hid ((junk ++ [x]).length + a = b + 1) := hide (by have := hjb.out; simp; omega)
          rw [d1]
          replace hb3 := hide hb3
          clear e hK2 hO3 hl3 hL hjb
          go_wp2
          go_roundw
          case rel => exact ⟨a, b + 1, kept, junk ++ [x], by omega, by omega, rfl, by go_num, hka, hj2, hK3, hO4, hb3⟩
          case measure => simp [intOf]; omega
        · have d1 : (x.k == 0) = false := by simpa using e
          obtain ⟨y, junk', rfl⟩ : ∃ y junk', junk = y :: junk' := by
            cases junk with
            | nil => have := hjb.out; simp at this; omega
            | cons y j => exact ⟨y, j, rfl⟩
          obtain ⟨x1, x2, x3, -⟩ := hO3.row
          have hf : fitsP (rowAt Y2 g) (a * N6) N6 = true := by simp [fitsP, x3, N6]; omega
          have hK3 : Hid (l.filter keepB = (kept ++ [x]) ++ (l.drop (b + 1)).filter keepB) := hide (by rw [hK2.out, List.filter_cons_of_pos (by simp [keepB, e])]; simp)
          have hO4 := hO3.put (pre := kept) (m := y) (rest := junk' ++ x :: l.drop (b + 1)) x
          rw [hka.out] at hO4
          have hO5 : Hid (OwnM base (Y2.setRow g (placed (rowAt Y2 g) (a * N6) (cellsM x))) g cap ((kept ++ [x]) ++ ((junk' ++ [x]) ++ l.drop (b + 1)))) := hide (show OwnM base (Y2.setRow g (placed (rowAt Y2 g) (a * 6) (cellsM x))) g cap _ from by simpa using hO4)
          have hb4 := hide (grown_row hb3 (Or.inl rfl) (placed (rowAt Y2 g) (a * N6) (cellsM x)))
          have hj2 : Hid ((junk' ++ [x]).length + (a + 1) = b + 1) := hide (by have := hjb.out; simp at this ⊢; omega)
          have hk2 : Hid ((kept ++ [x]).length = a + 1) := hide (by have := hka.out; simp; omega)
          rw [d1]
          clear e hK2 hO3 hO4 hL hjb hka x2 x3 hb3
          go_wp2
          go_roundw
          case rel => exact ⟨a + 1, b + 1, kept ++ [x], junk' ++ [x], by omega, by omega, by go_num, by go_num, hk2, hj2, hK3, hO5, hb4⟩
          case measure => simp [intOf]; omega
      · have dk : decide ((b : Int) < (n : Int)) = false := by simp; omega
        obtain rfl : b = n := by omega
        have hend : l.drop b = [] := List.drop_eq_nil_of_le (by have := hn.out; omega)
        have hK2 := hKf.out
        have hO2 := hOk.out
        rw [hend] at hK2 hO2
        simp only [List.filter_nil, List.append_nil] at hK2 hO2
        obtain ⟨x1, x2, x3, -⟩ := hO2.row
        have hcl := fun ty => clear_own wr g a (b - a) (cap - a) ty x1 (by rw [x3]; omega) (by omega)
        have hO3 := hO2.cut (Builtin.zeroCells (cellsM M0) (b - a)) (by rw [zeros_len, hka.out]; omega)
        rw [hka.out] at hO3
        have hO4 := hide hO3.own
        have hb4 := hide (grown_row hb.out (Or.inl rfl) (placed (rowAt wr g) (a * 6) (Builtin.zeroCells (cellsM M0) (b - a))))
        replace hK2 := hide hK2
        have na : ¬ a = cap := by omega
        clear hKf hOk hO2 hO3 hend x1 x2 x3
        go_wp2
        go_ret
        refine ⟨_, rfl, ?_, hb4.out⟩
        rw [hK2.out, hka.out]
        have := hO4.out
        rw [hka.out] at this
        exact this

end Go.Proofs.Ytnbflahggpehpab.Ir
