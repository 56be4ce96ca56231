/- Layer 14: contracts of operation, Translate. -/
import Derived.Test.YtmegghgjllbamaaGreatDoorQIrTrans
import Derived.Maps.AppendAt
import Derived.RangeFuncBox
namespace Go.Proofs.YtmegghgjllbamaaGreatDoor.Ir
open Go.RowKit
set_option linter.unusedVariables false
set_option maxRecDepth 100000
set_option linter.unusedSimpArgs false

/-- An instruction, and an error. -/
structure Ins where
  o : Int
  s : Int
  t : Int
  d : Int
  a : Int
  i : Int
  e : Int

theorem dec_ex (x : Int) (hx : Cp.W32 x) : ∃ I : Ins, De.Told x.toNat I.o I.s I.t I.d I.a I.i I.e ∧ ∀ w, De.Tabs w →
    Calls Tryz.prog 39 #[.int .u32 x] w fun e' w' => e' = .returned (.tuple #[.agg (cellsI I.o I.s I.t I.d I.a I.i), .int .i64 I.e]) ∧ Below w.heap.size w w' := by
  obtain ⟨o, s, t, d, a, i, e, h, k⟩ := De.decode_any x.toNat (by have := hx.1; have := hx.2; omega)
  rw [show ((x.toNat : Nat) : Int) = x from Int.toNat_of_nonneg hx.1] at k
  exact ⟨⟨o, s, t, d, a, i, e⟩, h, k⟩

instance (x : Int) : Decidable (Cp.W32 x) := by unfold Cp.W32; infer_instance

noncomputable def decV (x : Int) : Ins := if h : Cp.W32 x then Classical.choose (dec_ex x h) else ⟨0, 0, 0, 0, 0, 0, 0⟩

theorem decV_told (x : Int) (h : Cp.W32 x) : De.Told x.toNat (decV x).o (decV x).s (decV x).t (decV x).d (decV x).a (decV x).i (decV x).e := by
  unfold decV
  rw [dif_pos h]
  exact (Classical.choose_spec (dec_ex x h)).1

theorem decode_fn (x : Int) (h : Cp.W32 x) (w : World) (tb : De.Tabs w) :
    Calls Tryz.prog 39 #[.int .u32 x] w fun e' w' => e' = .returned (.tuple #[.agg (cellsI (decV x).o (decV x).s (decV x).t (decV x).d (decV x).a (decV x).i), .int .i64 (decV x).e]) ∧ Below w.heap.size w w' := by
  unfold decV
  rw [dif_pos h]
  exact (Classical.choose_spec (dec_ex x h)).2 w tb

/-- Is it a plain instruction? -/
def plB (I : Ins) : Bool := decide (I.e = 0) && decide (isPl I.o)

/-- Its operation, without a Count. -/
def opM (I : Ins) : Mi :=
  if plB I then (if (fillV I.o I.s I.t I.d I.a I.i).d = 0 then M0 else { fillV I.o I.s I.t I.d I.a I.i with k := kindV I.o }) else M0

set_option maxHeartbeats 4000000 in
theorem operation_any (x : Int) (hx : Cp.W32 x) (w : World) (tb : De.Tabs w) : Calls Tryz.prog 17 #[.int .u32 x] w fun e w' =>
    e = .returned (.tuple #[.agg (cellsM (opM (decV x))), .bool (plB (decV x))]) ∧ Below w.heap.size w w' := by
  obtain ⟨r1, r2, r3, r4, r5, r6, r7, r8, r9⟩ := rowRules
  obtain ⟨s1, s2, s3, s4, s5, s6, s7, s8, s9, s10⟩ := irSizes
  obtain ⟨q1, q2, q3, q4, q5, q6⟩ := irWhole
  obtain ⟨p1, p2, p3, p4, p5, p6, p7⟩ := irParts
  obtain ⟨t1, t2, t3, t4, t5, t6, t7⟩ := irSets
  obtain ⟨k1, k2⟩ := rowSets
  have b0 := Box.new w (cellsM M0) 66
  have g := grow w (.cells (cellsM M0) 66)
  have cd := hide (decode_fn x hx _ (tb.on g))
  have ck := hide (kindOf_any (decV x).o)
  generalize decV x = I at *
  obtain ⟨o, s, t, d, a, i, e⟩ := I
  have cf : Hid (isPl o → ∀ w, De.Tabs w → Calls Tryz.prog 41 #[.agg (cellsI o s t d a i)] w fun e w' => e = .returned (.agg (cellsM (fillV o s t d a i))) ∧ Below w.heap.size w w') := hide (fun h w tb => filled_any h s t d a i w tb)
  unfold opM plB
  simp only at cd ck ⊢
  replace b0 := hide b0
  replace g := hide g
  replace tb := hide tb
  by_cases he : e = 0
  · subst he
    by_cases hp : isPl o
    · have hk0 : (kindV o == 0) = false := by have := kind_yes hp; simp; omega
      rw [show decide (isPl o) = true by simpa using hp]
      replace cf := hide (cf.out hp)
      clear hp
      simp only [decide_true, Bool.and_true, if_true]
      generalize kindV o = k at *
      generalize fillV o s t d a i = F at *
      by_cases hd : F.d = 0
      · rw [if_pos hd]
        have nd : (F.d == 0) = true := by simpa using hd
        clear hd
        go_enter Tryz.func17, Tryz.ntmps17
        go_wp2_with fail
        refine cd.out.mono ?_
        rintro r y ⟨rfl, hy⟩
        have hB0 := hide (onto g.out (Nat.le_refl _) hy)
        have b1 := b0.out.on hy
        have b2 := b1.on (grow y (.cells (cellsI o s t d a i) 73))
        have hB := hide (onto hB0.out (Nat.le_refl _) (grow y (.cells (cellsI o s t d a i) 73)))
        have tb1 := hide (tb.out.on hB.out)
        have bI := Box.new y (cellsI o s t d a i) 73
        have hL : w.heap.size < y.heap.size := b1.2.2
        clear cd b0 g hy tb
        unfold cellsI at b2 hB bI tb1 ⊢
        clear b1
        go_wp2_with fail
        refine (ck.out _).mono ?_
        rintro r y2 ⟨rfl, rfl⟩
        generalize World.alloc y _ = Y at *
        generalize y.heap.size = L at *
        have d0 : Y.cell? ⟨L, 0, none⟩ = some (.int .i64 o) := bI.cell 0
        have d1 : Y.cell? ⟨L, 1, none⟩ = some (.int .i64 s) := bI.cell 1
        have d2 : Y.cell? ⟨L, 2, none⟩ = some (.int .i64 t) := bI.cell 2
        have d3 : Y.cell? ⟨L, 3, none⟩ = some (.int .i64 d) := bI.cell 3
        have d4 : Y.cell? ⟨L, 4, none⟩ = some (.int .i64 a) := bI.cell 4
        have d5 : Y.cell? ⟨L, 5, none⟩ = some (.int .i64 i) := bI.cell 5
        go_wp2_with fail
        refine (cf.out _ tb1.out).mono ?_
        rintro r Z ⟨rfl, hZ⟩
        obtain ⟨y1, y2, y3⟩ := b2.on hZ
        have cI := bI.on hZ
        have e0 : Z.cell? ⟨L, 0, none⟩ = some (.int .i64 o) := cI.cell 0
        have hBZ := hide (onto hB.out (Nat.le_refl _) hZ)
        have n1 : ¬ w.heap.size = Z.heap.size := by omega
        have n2 : L < Z.heap.size := cI.2.2
        clear b2 bI d0 d1 d2 d3 d4 d5 cI hB hZ tb1 cf
        go_wp2
        refine bodyPost_ret (v := .tuple #[.agg (cellsM M0), .bool true]) (by simp [results, Tryz.results17, go_sem, *]) rfl ⟨rfl, ?_⟩
        exact (below_setRow hBZ.out (Nat.le_refl _) _).alloc (by rw [setRow_size]; omega) _
      · rw [if_neg hd]
        have nd : (F.d == 0) = false := by simpa using hd
        clear hd
        go_enter Tryz.func17, Tryz.ntmps17
        go_wp2_with fail
        refine cd.out.mono ?_
        rintro r y ⟨rfl, hy⟩
        have hB0 := hide (onto g.out (Nat.le_refl _) hy)
        have b1 := b0.out.on hy
        have b2 := b1.on (grow y (.cells (cellsI o s t d a i) 73))
        have hB := hide (onto hB0.out (Nat.le_refl _) (grow y (.cells (cellsI o s t d a i) 73)))
        have tb1 := hide (tb.out.on hB.out)
        have bI := Box.new y (cellsI o s t d a i) 73
        have hL : w.heap.size < y.heap.size := b1.2.2
        clear cd b0 g hy tb
        unfold cellsI at b2 hB bI tb1 ⊢
        clear b1
        go_wp2_with fail
        refine (ck.out _).mono ?_
        rintro r y2 ⟨rfl, rfl⟩
        generalize World.alloc y _ = Y at *
        generalize y.heap.size = L at *
        have d0 : Y.cell? ⟨L, 0, none⟩ = some (.int .i64 o) := bI.cell 0
        have d1 : Y.cell? ⟨L, 1, none⟩ = some (.int .i64 s) := bI.cell 1
        have d2 : Y.cell? ⟨L, 2, none⟩ = some (.int .i64 t) := bI.cell 2
        have d3 : Y.cell? ⟨L, 3, none⟩ = some (.int .i64 d) := bI.cell 3
        have d4 : Y.cell? ⟨L, 4, none⟩ = some (.int .i64 a) := bI.cell 4
        have d5 : Y.cell? ⟨L, 5, none⟩ = some (.int .i64 i) := bI.cell 5
        go_wp2_with fail
        refine (cf.out _ tb1.out).mono ?_
        rintro r Z ⟨rfl, hZ⟩
        obtain ⟨y1, y2, y3⟩ := b2.on hZ
        have cI := bI.on hZ
        have e0 : Z.cell? ⟨L, 0, none⟩ = some (.int .i64 o) := cI.cell 0
        have hBZ := hide (onto hB.out (Nat.le_refl _) hZ)
        have n1 : ¬ w.heap.size = Z.heap.size := by omega
        have n2 : L < Z.heap.size := cI.2.2
        clear b2 bI d0 d1 d2 d3 d4 d5 cI hB hZ tb1 cf
        go_wp2_with fail
        refine (ck.out _).mono ?_
        rintro r y9 ⟨rfl, rfl⟩
        go_wp2
        refine bodyPost_ret (v := .tuple #[.agg (cellsM { F with k := k }), .bool true]) (by simp [results, Tryz.results17, go_sem, *]) rfl ⟨rfl, ?_⟩
        exact (below_setRow hBZ.out (Nat.le_refl _) _).alloc (by rw [setRow_size]; omega) _
    · rw [kind_no hp] at ck
      rw [show decide (isPl o) = false by simpa using hp]
      clear hp cf
      go_enter Tryz.func17, Tryz.ntmps17
      go_wp2_with fail
      refine cd.out.mono ?_
      rintro r y ⟨rfl, hy⟩
      have hB0 := hide (onto g.out (Nat.le_refl _) hy)
      have b1 := b0.out.on hy
      have b2 := b1.on (grow y (.cells (cellsI o s t d a i) 73))
      have hB := hide (onto hB0.out (Nat.le_refl _) (grow y (.cells (cellsI o s t d a i) 73)))
      have tb1 := hide (tb.out.on hB.out)
      have bI := Box.new y (cellsI o s t d a i) 73
      have hL : w.heap.size < y.heap.size := b1.2.2
      clear cd b0 g hy tb
      unfold cellsI at b2 hB bI tb1 ⊢
      clear b1
      go_wp2_with fail
      refine (ck.out _).mono ?_
      rintro r y2 ⟨rfl, rfl⟩
      generalize World.alloc y _ = Y at *
      generalize y.heap.size = L at *
      obtain ⟨y1, y2, y3⟩ := b2
      clear bI
      go_wp2
      refine bodyPost_ret (v := .tuple #[.agg (cellsM M0), .bool false]) (by simp [results, Tryz.results17, go_sem, *]) rfl ⟨rfl, ?_⟩
      exact below_setRow hB.out (Nat.le_refl _) _
  · have n0 : (e == 0) = false := by simpa using he
    rw [show decide (e = 0) = false by simpa using he]
    clear cf
    go_enter Tryz.func17, Tryz.ntmps17
    go_wp2_with fail
    refine cd.out.mono ?_
    rintro r y ⟨rfl, hy⟩
    have hB0 := hide (onto g.out (Nat.le_refl _) hy)
    have b1 := b0.out.on hy
    have b2 := b1.on (grow y (.cells (cellsI o s t d a i) 73))
    have hB := hide (onto hB0.out (Nat.le_refl _) (grow y (.cells (cellsI o s t d a i) 73)))
    have tb1 := hide (tb.out.on hB.out)
    have bI := Box.new y (cellsI o s t d a i) 73
    have hL : w.heap.size < y.heap.size := b1.2.2
    clear cd b0 g hy tb
    unfold cellsI at b2 hB bI tb1 ⊢
    obtain ⟨y1, y2, y3⟩ := b1
    have n1 : ¬ w.heap.size = y.heap.size := by omega
    clear bI b2
    go_wp2
    refine bodyPost_ret (v := .tuple #[.agg (cellsM M0), .bool false]) (by simp [results, Tryz.results17, go_sem, *]) rfl ⟨rfl, ?_⟩
    exact (below_setRow hB0.out (Nat.le_refl _) _).alloc (by rw [setRow_size]; omega) _

/-- The operations of words, from a place on. -/
noncomputable def transF : Nat → List Int → List Mi
  | _, [] => []
  | k, x :: l => if plB (decV x) then { opM (decV x) with c := ((k + 1 : Nat) : Int) } :: transF (k + 1) l else []

noncomputable def transV (l : List Int) : List Mi := transF 0 (l.take 16)

/-- v is the slice of the words l. -/
def IsWords (w : World) (v : Value) (zs : List Int) : Prop :=
  (∃ a c, zs = [] ∧ v = .slice a 0 c) ∨ ∃ b off c, v = .slice (some ⟨b, off, none⟩) zs.length c ∧ zs.length ≤ c ∧ c ≤ maxLen ∧ b < w.heap.size ∧ ∀ (i : Nat) z, zs[i]? = some z → Cp.W32 z ∧ w.cell? ⟨b, off + i, none⟩ = some (.int .u32 z)

/-- What is known of a row of words, in one way for all of them. -/
theorem IsWords.open' {w : World} {v : Value} {zs : List Int} (h : IsWords w v zs) :
    ∃ ad n c, v = .slice ad n c ∧ n = zs.length ∧ n ≤ maxLen ∧ (n ≤ c ∨ n = 0) ∧ ∀ (i : Nat) z, zs[i]? = some z → Cp.W32 z ∧ ∃ b off, ad = some ⟨b, off, none⟩ ∧ b < w.heap.size ∧ w.cell? ⟨b, off + i, none⟩ = some (.int .u32 z) := by
  rcases h with ⟨a, c, rfl, rfl⟩ | ⟨b, off, c, rfl, hc, hl, hb, hx⟩
  · exact ⟨a, 0, c, rfl, rfl, Nat.zero_le _, Or.inr rfl, fun i z h => by simp at h⟩
  · exact ⟨_, _, c, rfl, rfl, Nat.le_trans hc hl, Or.inl hc, fun i z h => ⟨(hx i z h).1, b, off, rfl, hb, (hx i z h).2⟩⟩

theorem IsWords.on {w y : World} {v : Value} {l : List Int} (h : IsWords w v l) (b : Below w.heap.size w y) : IsWords y v l := by
  rcases h with h | ⟨g, o, c, rfl, hc, hl, hg, hm⟩
  · exact Or.inl h
  · exact Or.inr ⟨g, o, c, rfl, hc, hl, Nat.lt_of_lt_of_le hg b.size, fun i m hi => ⟨(hm i m hi).1, by rw [← (hm i m hi).2]; exact b.cell (p := ⟨g, o + i, none⟩) hg⟩⟩

theorem grown_of {w w' : World} (h : Below w.heap.size w w') : w.grownBy w' none := ⟨h.os, h.tape, h.output, h.size, fun k hk _ => h.block k hk⟩

/-- The cells of operations, one behind the other. -/
def flat (l : List Mi) : List Value := l.flatMap fun m => (cellsM m).toList

theorem flat_snoc (l : List Mi) (m : Mi) : flat (l ++ [m]) = flat l ++ (cellsM m).toList := by simp [flat]

/-- A slice of one operation is built. -/
theorem built1 (m : Mi) : Array.foldl (fun (cs : Array Value) (x : Value × Nat) => cs.setIfInBounds x.snd x.fst) (Array.map (fun x => (cellsM M0)[x % N6]!) (Array.range N6)) (cellsM m).zipIdx 0 N6 = cellsM m := by kernel_rfl

/-- A row of one operation that is made. -/
theorem new_ops (y : World) (m q : Mi) : (∀ j u, (cellsM m).toList[j]? = some u → ((y.alloc (.cells (cellsM q) 66)).alloc (.cells (cellsM m) 66)).cell? ((⟨y.heap.size + 1, 0, none⟩ : Addr).add j) = some u) ∧ ∀ u ∈ (cellsM m).toList, u.oneCell' = true := by
  refine ⟨fun j u h => ?_, fun u hu => ?_⟩
  · have b := Box.new (y.alloc (.cells (cellsM q) 66)) (cellsM m) 66
    rw [World.size_alloc] at b
    rw [Addr.add_lit, Nat.zero_add, b.cell j]
    simpa using h
  · exact List.all_eq_true.1 (show ones (cellsM m) = true from rfl) u hu

set_option maxHeartbeats 4000000 in
theorem translate_any {w : World} {v : Value} {l : List Int} (h : IsWords w v l) (tb : De.Tabs w) : Calls Tryz.prog 6 #[v] w fun e w' =>
    (∃ v', e = .returned v' ∧ w'.ownsRow w.heap.size 66 6 v' (transV l).length (flat (transV l))) ∧ Below w.heap.size w w' := by
  obtain ⟨r1, r2, r3, r4, r5, r6, r7, r8, r9⟩ := rowRules
  obtain ⟨s1, s2, s3, s4, s5, s6, s7, s8, s9, s10⟩ := irSizes
  obtain ⟨q1, q2, q3, q4, q5, q6⟩ := irWhole
  obtain ⟨p1, p2, p3, p4, p5, p6, p7⟩ := irParts
  obtain ⟨t1, t2, t3, t4, t5, t6, t7⟩ := irSets
  obtain ⟨k1, k2⟩ := rowSets
  have hi0 : (Tryz.prog.info? 66).map (fun i => (i.zero, i.size, i.bytes)) = some (some (.agg (cellsM M0)), 6, 48) := by kernel_rfl
  obtain ⟨i0, hi, hz0, hz1, hz2⟩ := info_parts hi0
  obtain ⟨ad, n, c, rfl, hn, hmx, hnc, hm⟩ := h.open'
  replace hm := hide hm
  replace hn := hide hn
  obtain ⟨K, hK, hK16, hKn⟩ : ∃ K : Nat, K = min n 16 ∧ K ≤ 16 ∧ K ≤ n := ⟨min n 16, rfl, by omega, by omega⟩
  replace hK := hide hK
  clear h
  replace tb := hide tb
  have hBS := built1
  by_cases h16 : n ≤ 16
  · obtain rfl : K = n := by have := hK.out; omega
    go_enter Tryz.func6, Tryz.ntmps6
    go_wp2_with fail
    go_loopw [3, 14] (fun v i wr => ∃ (k : Nat) (ms : List Mi), k ≤ K ∧ i = .int .i64 (k : Int) ∧ ms.length = k ∧ Hid (transV l = ms ++ transF k ((l.take 16).drop k)) ∧ Hid (wr.ownsRow w.heap.size 66 6 v ms.length (flat ms)) ∧ Hid (Below w.heap.size w wr)) (fun _ i _ => K - (intOf i).toNat)
    case atStart => exact ⟨0, [], Nat.zero_le _, rfl, rfl, hide rfl, hide (World.ownsRow_nil _ _ _ _), hide (Below.refl _ _)⟩
    case round =>
      obtain ⟨k, ms, hk, rfl, hms, hT, hO, hb⟩ := hrel
      by_cases hlt : k < K
      · have dk : decide ((k : Int) < (K : Int)) = true := by simp; omega
        obtain ⟨z, hz⟩ : ∃ z, l[k]? = some z := ⟨l[k]'(by have := hn.out; omega), List.getElem?_eq_getElem _⟩
        obtain ⟨hzw, b, off, rfl, hbl, hc0⟩ := hm.out k z hz
        have hc : wr.cell? ⟨b, off + k, none⟩ = some (.int .u32 z) := by rw [← hc0]; exact hb.out.cell (p := ⟨b, off + k, none⟩) hbl
        have hT2 := hT.out
        rw [drop_at (show (l.take 16)[k]? = some z by rw [List.getElem?_take_of_lt (by omega)]; exact hz)] at hT2
        unfold transF at hT2
        replace hT2 := hide hT2
        have co := hide (operation_any z hzw wr (tb.out.on hb.out))
        generalize opM (decV z) = P at *
        generalize plB (decV z) = B at *
        clear hT hzw hc0 hz
        go_wp2_with fail
        refine co.out.mono ?_
        rintro e y ⟨rfl, hy⟩
        have hO1 := hO.out.kept (grown_of hy) (by cases hv : Value.ownBlock u3 <;> simp)
        have hb1 := onto hb.out (Nat.le_refl _) hy
        replace hO1 := hide hO1
        replace hb1 := hide hb1
        clear co hO hb hy
        cases B
        · have hF : Hid (transV l = ms) := hide (by rw [hT2.out]; simp)
          clear hT2
          go_wp2
          go_ret
          refine ⟨⟨_, rfl, ?_⟩, hb1.out.alloc hb1.out.size _⟩
          rw [hF.out]
          exact hO1.out.alloc _
        · have hN := hide (new_ops y ({ P with c := (k : Int) + 1 } : Mi) ({ P with c := (k : Int) + 1 } : Mi))
          have h16k : k + 1 ≤ 16 := by omega
          have hT3 : Hid (transV l = (ms ++ [({ P with c := (k : Int) + 1 } : Mi)]) ++ transF (k + 1) ((l.take 16).drop (k + 1))) := hide (by rw [hT2.out]; simp)
          clear hT2
          go_wp2_with (at_builtin; refine wpList_append_own _ rfl _ _ 30 rfl w.heap.size 66 i0 (.agg (cellsM M0)) 6 48 Tryz.underlying30 hi hz0 hz1 hz2 rfl (by decide) _ _ _ rfl ((hO1.out.alloc _).alloc _) ⟨y.heap.size + 1, 0, none⟩ 1 1 (cellsM ({ P with c := (k : Int) + 1 } : Mi)).toList rfl rfl hN.out.1 hN.out.2 (by unfold maxLen; omega) (by omega) (by have := hb1.out.size; simp; omega) ?_)
          intro v' w4 hown' hgrow _
          have b4 : Hid (Below w.heap.size w w4) := hide (by
            refine ((hb1.out.alloc hb1.out.size _).alloc (by have := hb1.out.size; simp; omega) _).grown hgrow (by have := hb1.out.size; simp; omega) (fun k hk => ?_)
            rcases hO1.out.2 with ⟨rfl, -⟩ | ⟨g, cap, cur, rfl, hg, -⟩
            · cases hk
            · cases hk; exact hg)
          have hown4 : Hid (w4.ownsRow w.heap.size 66 6 v' (ms ++ [({ P with c := (k : Int) + 1 } : Mi)]).length (flat (ms ++ [({ P with c := (k : Int) + 1 } : Mi)]))) := hide (by
            rw [flat_snoc, List.length_append, hms]
            exact hown')
          obtain ⟨g', cap', rfl⟩ := ownsRow_succ hown'
          have hl4 : (ms ++ [({ P with c := (k : Int) + 1 } : Mi)]).length = k + 1 := by simp [hms]
          clear hown' hgrow hO1 hb1 hN
          go_wp2
          go_roundw
          case rel => exact ⟨k + 1, _, by omega, by go_num, hl4, hT3, hown4, b4⟩
          case measure => simp [intOf]; omega
      · have dk : decide ((k : Int) < (K : Int)) = false := by simp; omega
        have hF : Hid (transV l = ms) := hide (by
          rw [hT.out, List.drop_eq_nil_of_le (by rw [List.length_take]; have := hn.out; omega)]
          simp [transF])
        go_wp2
        go_ret
        refine ⟨⟨_, rfl, ?_⟩, hb.out⟩
        rw [hF.out]
        exact hO.out
  · obtain rfl : K = 16 := by have := hK.out; omega
    have h16' : ¬ (n : Int) ≤ 16 := by omega
    go_enter Tryz.func6, Tryz.ntmps6
    go_wp2_with fail
    go_loopw [3, 14] (fun v i wr => ∃ (k : Nat) (ms : List Mi), k ≤ 16 ∧ i = .int .i64 (k : Int) ∧ ms.length = k ∧ Hid (transV l = ms ++ transF k ((l.take 16).drop k)) ∧ Hid (wr.ownsRow w.heap.size 66 6 v ms.length (flat ms)) ∧ Hid (Below w.heap.size w wr)) (fun _ i _ => 16 - (intOf i).toNat)
    case atStart => exact ⟨0, [], Nat.zero_le _, rfl, rfl, hide rfl, hide (World.ownsRow_nil _ _ _ _), hide (Below.refl _ _)⟩
    case round =>
      obtain ⟨k, ms, hk, rfl, hms, hT, hO, hb⟩ := hrel
      by_cases hlt : k < 16
      · have dk : decide ((k : Int) < 16) = true := by simp; omega
        obtain ⟨z, hz⟩ : ∃ z, l[k]? = some z := ⟨l[k]'(by have := hn.out; omega), List.getElem?_eq_getElem _⟩
        obtain ⟨hzw, b, off, rfl, hbl, hc0⟩ := hm.out k z hz
        have hc : wr.cell? ⟨b, off + k, none⟩ = some (.int .u32 z) := by rw [← hc0]; exact hb.out.cell (p := ⟨b, off + k, none⟩) hbl
        have hT2 := hT.out
        rw [drop_at (show (l.take 16)[k]? = some z by rw [List.getElem?_take_of_lt (by omega)]; exact hz)] at hT2
        unfold transF at hT2
        replace hT2 := hide hT2
        have co := hide (operation_any z hzw wr (tb.out.on hb.out))
        generalize opM (decV z) = P at *
        generalize plB (decV z) = B at *
        clear hT hzw hc0 hz
        go_wp2_with fail
        refine co.out.mono ?_
        rintro e y ⟨rfl, hy⟩
        have hO1 := hO.out.kept (grown_of hy) (by cases hv : Value.ownBlock u3 <;> simp)
        have hb1 := onto hb.out (Nat.le_refl _) hy
        replace hO1 := hide hO1
        replace hb1 := hide hb1
        clear co hO hb hy
        cases B
        · have hF : Hid (transV l = ms) := hide (by rw [hT2.out]; simp)
          clear hT2
          go_wp2
          go_ret
          refine ⟨⟨_, rfl, ?_⟩, hb1.out.alloc hb1.out.size _⟩
          rw [hF.out]
          exact hO1.out.alloc _
        · have hN := hide (new_ops y ({ P with c := (k : Int) + 1 } : Mi) ({ P with c := (k : Int) + 1 } : Mi))
          have h16k : k + 1 ≤ 16 := by omega
          have hT3 : Hid (transV l = (ms ++ [({ P with c := (k : Int) + 1 } : Mi)]) ++ transF (k + 1) ((l.take 16).drop (k + 1))) := hide (by rw [hT2.out]; simp)
          clear hT2
          go_wp2_with (at_builtin; refine wpList_append_own _ rfl _ _ 30 rfl w.heap.size 66 i0 (.agg (cellsM M0)) 6 48 Tryz.underlying30 hi hz0 hz1 hz2 rfl (by decide) _ _ _ rfl ((hO1.out.alloc _).alloc _) ⟨y.heap.size + 1, 0, none⟩ 1 1 (cellsM ({ P with c := (k : Int) + 1 } : Mi)).toList rfl rfl hN.out.1 hN.out.2 (by unfold maxLen; omega) (by omega) (by have := hb1.out.size; simp; omega) ?_)
          intro v' w4 hown' hgrow _
          have b4 : Hid (Below w.heap.size w w4) := hide (by
            refine ((hb1.out.alloc hb1.out.size _).alloc (by have := hb1.out.size; simp; omega) _).grown hgrow (by have := hb1.out.size; simp; omega) (fun k hk => ?_)
            rcases hO1.out.2 with ⟨rfl, -⟩ | ⟨g, cap, cur, rfl, hg, -⟩
            · cases hk
            · cases hk; exact hg)
          have hown4 : Hid (w4.ownsRow w.heap.size 66 6 v' (ms ++ [({ P with c := (k : Int) + 1 } : Mi)]).length (flat (ms ++ [({ P with c := (k : Int) + 1 } : Mi)]))) := hide (by
            rw [flat_snoc, List.length_append, hms]
            exact hown')
          obtain ⟨g', cap', rfl⟩ := ownsRow_succ hown'
          have hl4 : (ms ++ [({ P with c := (k : Int) + 1 } : Mi)]).length = k + 1 := by simp [hms]
          clear hown' hgrow hO1 hb1 hN
          go_wp2
          go_roundw
          case rel => exact ⟨k + 1, _, by omega, by go_num, hl4, hT3, hown4, b4⟩
          case measure => simp [intOf]; omega
      · have dk : decide ((k : Int) < 16) = false := by simp; omega
        have hF : Hid (transV l = ms) := hide (by
          rw [hT.out, List.drop_eq_nil_of_le (by rw [List.length_take]; have := hn.out; omega)]
          simp [transF])
        go_wp2
        go_ret
        refine ⟨⟨_, rfl, ?_⟩, hb.out⟩
        rw [hF.out]
        exact hO.out

end Go.Proofs.YtmegghgjllbamaaGreatDoor.Ir
