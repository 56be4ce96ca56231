/- Layer 15: contract of the program's each. -/
import Derived.Test.YtnbflahggpehpabQOpEach
import Derived.Deep.Onto
namespace Go.Proofs.Ytnbflahggpehpab.Ir
open Go.RowKit
set_option linter.unusedVariables false
set_option maxRecDepth 100000
set_option linter.unusedSimpArgs false

theorem flat_append (a b : List Mi) : flat (a ++ b) = flat a ++ flat b := by simp [flat]

/-- A row of operations of the call's own, that is not empty. -/
def OwnM (base : Nat) (y : World) (g cap : Nat) (l : List Mi) : Prop :=
  base ≤ g ∧ l.length ≤ cap ∧ cap ≤ maxLen ∧ ∃ cur, y.heap[g]? = some (.cells cur 32 (0, 0)) ∧ cur.size = cap * 6 ∧ cur.toList.take (l.length * 6) = flat l

theorem OwnM.own {base : Nat} {y : World} {g cap : Nat} {l : List Mi} (h : OwnM base y g cap l) : y.ownsRow base 32 6 (.slice (some ⟨g, 0, none⟩) l.length cap) l.length (flat l) :=
  ⟨flat_len l, Or.inr ⟨g, cap, h.2.2.2.choose, rfl, h.1, h.2.2.2.choose_spec.1, h.2.1, h.2.2.1, h.2.2.2.choose_spec.2.1, h.2.2.2.choose_spec.2.2⟩⟩

theorem own_open {base : Nat} {y : World} {v : Value} {l : List Mi} (h : y.ownsRow base 32 6 v l.length (flat l)) : (l = [] ∧ v = .slice none 0 0) ∨ ∃ g cap, v = .slice (some ⟨g, 0, none⟩) l.length cap ∧ OwnM base y g cap l := by
  rcases h.2 with ⟨rfl, hn⟩ | ⟨g, cap, cur, rfl, hg, hh, hc, hcm, hs, ht⟩
  · exact Or.inl ⟨List.length_eq_zero_iff.1 hn, rfl⟩
  · exact Or.inr ⟨g, cap, rfl, hg, hc, hcm, cur, hh, hs, ht⟩

theorem OwnM.of_heap {base : Nat} {y z : World} {g cap : Nat} {l : List Mi} (h : OwnM base y g cap l) (e : z.heap[g]? = y.heap[g]?) : OwnM base z g cap l :=
  ⟨h.1, h.2.1, h.2.2.1, h.2.2.2.choose, by rw [e]; exact h.2.2.2.choose_spec.1, h.2.2.2.choose_spec.2⟩

theorem OwnM.row {base : Nat} {y : World} {g cap : Nat} {l : List Mi} (h : OwnM base y g cap l) : isRow y g = true ∧ g < y.heap.size ∧ (rowAt y g).size = cap * 6 ∧ (rowAt y g).toList.take (l.length * 6) = flat l := by
  obtain ⟨-, -, -, cur, e, hs, ht⟩ := h
  have er : rowAt y g = cur := by simp [rowAt, e]
  exact ⟨by simp [isRow, e], (Array.getElem?_eq_some_iff.1 e).1, by rw [er]; exact hs, by rw [er]; exact ht⟩

theorem OwnM.put {base : Nat} {y : World} {g cap : Nat} {pre rest : List Mi} {m : Mi} (h : OwnM base y g cap (pre ++ m :: rest)) (q : Mi) :
    OwnM base (y.setRow g (placed (rowAt y g) (pre.length * 6) (cellsM q))) g cap ((pre ++ [q]) ++ rest) := by
  obtain ⟨hr, hg, hs, ht⟩ := h.row
  obtain ⟨h1, h2, h3, cur, e, -, -⟩ := h
  have hlen : ((pre ++ [q]) ++ rest).length = (pre ++ m :: rest).length := by simp
  have er : rowAt y g = cur := by simp [rowAt, e]
  obtain ⟨T, hT⟩ : ∃ T, (rowAt y g).toList = flat (pre ++ m :: rest) ++ T := ⟨_, by rw [← ht]; exact (List.take_append_drop _ _).symm⟩
  have hm : flat (pre ++ m :: rest) = flat pre ++ ((cellsM m).toList ++ flat rest) := by rw [flat_append]; rfl
  have hq : flat ((pre ++ [q]) ++ rest) = flat pre ++ ((cellsM q).toList ++ flat rest) := by rw [flat_append, flat_append]; simp [flat]
  have hm6 : (cellsM m).toList.length = 6 := rfl
  have hq6 : (cellsM q).size = 6 := rfl
  have hP : (placed (rowAt y g) (pre.length * 6) (cellsM q)).toList = flat ((pre ++ [q]) ++ rest) ++ T := by
    rw [placed, hT, hm, hq]
    have hfl := flat_len pre
    simp only [List.append_assoc]
    rw [List.take_append_of_le_length (by omega), List.take_of_length_le (by omega), List.drop_append, hfl, hq6, List.drop_eq_nil_of_le (by omega), show pre.length * 6 + 6 - pre.length * 6 = 6 by omega, List.drop_left' hm6]
    simp
  refine ⟨h1, by rw [hlen]; exact h2, h3, _, setRow_heap y g _ _ _ _ e, ?_, ?_⟩
  · have := congrArg List.length hP
    have h5 := congrArg List.length hT
    rw [List.length_append, flat_len, hlen, ← flat_len (pre ++ m :: rest), ← List.length_append, ← hT] at this
    simpa [hs] using this
  · rw [hP, ← flat_len, List.take_append_of_le_length (Nat.le_refl _), List.take_of_length_le (Nat.le_refl _)]

set_option maxHeartbeats 4000000 in
theorem each_any {σ : Type} (F : σ → Mi → Mi) (N : σ → Mi → σ) (s0 : σ) (J : σ → World → Prop) (Good : Mi → Prop) (gf : Nat) (lb : Array Value) (B : Nat) (w0 w : World) (v : Value) (l : List Mi)
    (eg : ∀ args w, (callFunc gf args).run Try.prog w = .ok (.enter gf args) w) (h : IsOps w0 v l) (hl : l.length ≤ 16) (hgood : ∀ m ∈ l, Good m) (h0w : Below w0.heap.size w0 w) (hB0 : w0.heap.size ≤ B) (hBw : B < w.heap.size)
    (hJ : ∀ s y z, J s y → (∀ k, k < w.heap.size → z.heap[k]? = y.heap[k]?) → J s z) (hs0 : J s0 w)
    (hp : ∀ s m y, Good m → J s y → Calls Try.prog gf (#[.agg (cellsM m)] ++ lb) y fun e y' => e = .returned (.agg (cellsM (F s m))) ∧ J (N s m) y' ∧ y.grownBy y' (some B)) :
    Calls Try.prog 16 #[v, .func (.func gf) #[] lb] w fun e w' => ∃ v', e = .returned v' ∧ w'.ownsRow w.heap.size 32 6 v' l.length (flat (mapS F N s0 l)) ∧ Below w0.heap.size w0 w' := by
  obtain ⟨r1, r2, r3, r4, r5, r6, r7, r8, r9⟩ := rowRules
  obtain ⟨s1, s2, s3, s4, s5, s6, s7, s8, s9, s10⟩ := irSizes
  obtain ⟨q1, q2, q3, q4, q5, q6⟩ := irWhole
  have cc := hide (clone_ops (h.on h0w) hl)
  obtain ⟨ad, n, c, rfl, hn, hmx, hm⟩ := h.open'
  replace hm := hide hm
  replace hn := hide hn
  replace hgood := hide hgood
  replace hJ := hide hJ
  replace hp := hide hp
  replace hs0 := hide hs0
  replace h0w := hide h0w
  clear h
  go_enter Try.func16, Try.ntmps16
  go_wp2_with fail
  refine cc.out.mono ?_
  rintro e w1 ⟨v1, rfl, ho, hb1⟩
  rcases own_open ho with ⟨hnil, rfl⟩ | ⟨g, cap, hv, hO⟩
  · obtain rfl : n = 0 := by have := hn.out; rw [hnil] at this; exact this
    replace hnil := hide hnil
    have h2 := hide (h0w.out.trans (hb1.mono h0w.out.size))
    clear hb1
    go_wp2_with fail
    go_loopw [12] (fun i wr => i = .int .i64 0 ∧ wr = w1) (fun _ _ => 0)
    case atStart => exact ⟨rfl, rfl⟩
    case round =>
      obtain ⟨rfl, rfl⟩ := hrel
      go_wp2
      go_ret
      refine ⟨_, rfl, ?_, h2.out⟩
      rw [hnil.out]
      exact World.ownsRow_nil _ _ _ _
  · rw [← hn.out] at hv
    subst hv
    have hO := hide hO
    have hb1' := hide (h0w.out.trans (hb1.mono h0w.out.size))
    have hJ1 := hide (hJ.out s0 w w1 hs0.out (fun k hk => hb1.block k hk))
    have hgw := hO.out.1
    have hcap : n ≤ cap := by have := hO.out.2.1; rw [← hn.out] at this; exact this
    have hn16 : n ≤ 16 := by rw [hn.out]; exact hl
    clear hl
    clear ho hb1 cc hs0
    go_wp2_with fail
    go_loopw [12] (fun i wr => ∃ (k : Nat) (pre : List Mi) (s : σ), k ≤ n ∧ i = .int .i64 (k : Int) ∧ pre.length = k ∧ Hid (mapS F N s0 l = pre ++ mapS F N s (l.drop k)) ∧ Hid (J s wr) ∧ Hid (OwnM w.heap.size wr g cap (pre ++ l.drop k)) ∧ Hid (Below w0.heap.size w0 wr)) (fun i _ => n - (intOf i).toNat)
    case atStart => exact ⟨0, [], s0, Nat.zero_le _, rfl, rfl, hide rfl, hJ1, hO, hb1'⟩
    case round =>
      obtain ⟨k, pre, s, hk, rfl, hpre, hM, hJs, hOk, hb⟩ := hrel
      clear hJ1 hO hb1'
      by_cases hlt : k < n
      · have dk : decide ((k : Int) < (n : Int)) = true := by simp; omega
        obtain ⟨m, hm0⟩ : ∃ m, l[k]? = some m := ⟨l[k]'(by have := hn.out; omega), List.getElem?_eq_getElem _⟩
        obtain ⟨g1, o, rfl, hg, hM0⟩ := hm.out k m hm0
        have hld : (loadCellsFrom ⟨g1, o + k * N6, none⟩ 0 N6 #[]).run Try.prog wr = .ok (cellsM m) wr := (hM0.on hg hb.out).load
        have hgr := grow wr (.cells (cellsM m) 32)
        have hws : w.heap.size ≤ wr.heap.size := by have := hOk.out.row.2.1; omega
        have hJa := hide (hJ.out s wr _ hJs.out (fun j hj => hgr.block j (by omega)))
        have hba := hide (onto hb.out (Nat.le_refl _) hgr)
        have hM2 := hM.out
        have hO2 := hOk.out
        rw [drop_at hm0] at hM2 hO2
        have hOa := hide (hO2.of_heap (hgr.block g hO2.row.2.1))
        have hM3 : Hid (mapS F N s0 l = (pre ++ [F s m]) ++ mapS F N (N s m) (l.drop (k + 1))) := hide (by rw [hM2, mapS]; simp)
        have cp := hide (hp.out s m (wr.alloc (.cells (cellsM m) 32)) (hgood.out m (List.mem_of_getElem? hm0)) hJa.out)
        clear hM2 hO2 hM hOk hJs hgr hm0 hM0 hJa
        generalize F s m = q at *
        generalize N s m = s' at *
        replace hws := hide hws
        go_wp2_with fail
        generalize World.alloc wr _ = Y1 at *
        refine cp.out.mono ?_
        rintro e Y2 ⟨rfl, hJ2, hg2⟩
        have hO2 := hOa.out.of_heap (hg2.block g hOa.out.row.2.1 (fun e => by injection e; omega))
        obtain ⟨x1, x2, x3, -⟩ := hO2.row
        have hf : fitsP (rowAt Y2 g) (k * N6) N6 = true := by simp [fitsP, x3, N6]; omega
        have hb2 := hba.out.grown hg2 (by have := hba.out.size; omega) (fun j e => by injection e; omega)
        have hb3 := hide (below_setRow hb2 (g := g) (by omega) (placed (rowAt Y2 g) (k * N6) (cellsM q)))
        have hO3 := hide (hO2.put q)
        rw [hpre] at hO3
        have hJ3 := hide (hJ.out s' Y2 (Y2.setRow g (placed (rowAt Y2 g) (k * N6) (cellsM q))) hJ2 (fun j hj => setRow_other _ _ _ _ (by omega)))
        have hlen : (pre ++ [q]).length = k + 1 := by simp [hpre]
        clear hO2 hb2 hJ2 hg2 hba hOa cp x2 x3
        go_wp2
        go_roundw
        case rel => exact ⟨k + 1, _, s', by omega, by go_num, hlen, hM3, hJ3, hO3, hb3⟩
        case measure => simp [intOf]; omega
      · have dk : decide ((k : Int) < (n : Int)) = false := by simp; omega
        have hend : l.drop k = [] := List.drop_eq_nil_of_le (by have := hn.out; omega)
        have hM2 := hM.out
        have hO2 := hOk.out
        rw [hend] at hM2 hO2
        simp only [mapS, List.append_nil] at hM2 hO2
        obtain rfl : n = pre.length := by omega
        have hO3 := hide hO2.own
        clear hM hOk hO2 hJs hend
        replace hM2 := hide hM2
        replace hpre := hide hpre
        go_wp2
        go_ret
        refine ⟨_, rfl, ?_, hb.out⟩
        rw [hM2.out, ← hn.out]
        exact hO3.out

end Go.Proofs.Ytnbflahggpehpab.Ir
