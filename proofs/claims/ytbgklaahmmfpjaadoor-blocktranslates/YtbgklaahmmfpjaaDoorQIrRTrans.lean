/- Layer 14: the document's Translate. -/
import Derived.Test.YtbgklaahmmfpjaaDoorQIrKinds
import Derived.Test.YtbgklaahmmfpjaaDoorQIrSame
import Derived.Deep.CutRange
namespace Go.Proofs.YtbgklaahmmfpjaaDoor.Ir
open Go.RowKit
set_option linter.unusedVariables false
set_option maxRecDepth 100000
set_option linter.unusedSimpArgs false

/-- The forms of plain instructions, and what the document makes of them. -/
def FormIs (N : ByteArray) (kd : Int) (X : Int → Int → Int → Int → Int → Int → Mi) : Prop :=
  (N.toList = [83, 72] ∧ ∀ s t d a i c : Int, X s t d a i c = ⟨kd, d, t, 32, a % 4294967296, c⟩) ∨ (N.toList = [83, 86] ∧ ∀ s t d a i c : Int, X s t d a i c = ⟨kd, d, t, s, 0, c⟩) ∨
  (N.toList = [73] ∧ ∀ s t d a i c : Int, X s t d a i c = ⟨kd, t, s, 32, i % 4294967296, c⟩) ∨ (N.toList = [73, 85] ∧ ∀ s t d a i c : Int, X s t d a i c = ⟨kd, t, s, 32, i % 4294967296, c⟩) ∨
  (N.toList = [76, 85, 73] ∧ ∀ s t d a i c : Int, X s t d a i c = ⟨kd, t, 0, 0, i * 65536 % 4294967296, c⟩) ∨ (N.toList = [82] ∧ ∀ s t d a i c : Int, X s t d a i c = ⟨kd, d, s, t, 0, c⟩)

def opC (o s t d a i c : Int) : Mi := { fillV o s t d a i with k := kindV o, c := c }

theorem form_is {o : Int} (h : isPl o) : FormIs (De.Dec.lname (De.Dec.fm (De.idx o))) (kindV o) (opC o) := by
  have hl : ∀ i : Int, i % 4294967296 * 65536 % 4294967296 = i * 65536 % 4294967296 := fun i => by omega
  unfold isPl at h
  rcases h with (rfl | rfl | rfl | rfl | rfl | rfl | rfl | rfl | rfl | rfl | rfl) | rfl | rfl | rfl | rfl | rfl | rfl | rfl | rfl | rfl | rfl
  · refine Or.inr (Or.inr (Or.inr (Or.inr (Or.inl ⟨by rw [ByteArray.toList_eq]; rfl, fun s t d a i c => ?_⟩))))
    show (⟨kindV 52, t, 0, 0, i % 4294967296 * 65536 % 4294967296, c⟩ : Mi) = _
    rw [hl]
  all_goals
    first
      | exact Or.inr (Or.inr (Or.inr (Or.inr (Or.inr ⟨by rw [ByteArray.toList_eq]; rfl, fun s t d a i c => rfl⟩))))
      | exact Or.inr (Or.inr (Or.inl ⟨by rw [ByteArray.toList_eq]; rfl, fun s t d a i c => rfl⟩))
      | exact Or.inr (Or.inr (Or.inr (Or.inl ⟨by rw [ByteArray.toList_eq]; rfl, fun s t d a i c => rfl⟩)))
      | exact Or.inl ⟨by rw [ByteArray.toList_eq]; rfl, fun s t d a i c => rfl⟩
      | exact Or.inr (Or.inl ⟨by rw [ByteArray.toList_eq]; rfl, fun s t d a i c => rfl⟩)

theorem own_set {x : World} {B LM : Nat} {v : Value} {n : Nat} {xs : List Value} (h : x.ownsRow B 28 6 v n xs) (hne : ∀ g, v.ownBlock = some g → g ≠ LM) (c : Array Value) : (x.setRow LM c).ownsRow B 28 6 v n xs := by
  refine ⟨h.1, ?_⟩
  rcases h.2 with h | ⟨g, cap, cur, rfl, hg, hh, r⟩
  · exact Or.inl h
  · exact Or.inr ⟨g, cap, cur, rfl, hg, by rw [setRow_other x LM g c (hne g rfl)]; exact hh, r⟩

/-- What is held from the forms' tests on. -/
structure StT (w : World) (LI LR LM : Nat) (cI cR : Array Value) (v : Value) (ms : List Mi) (m : Mi) (x : World) : Prop where
  I : Box x LI cI
  R : Box x LR cR
  M : Box x LM (cellsM m)
  o : x.ownsRow w.heap.size 28 6 v ms.length (flat ms)
  b : Below w.heap.size w x
  ne : ∀ g, v.ownBlock = some g → g ≠ LM
  lI : LI < LM
  lR : LR < LM
  lw : w.heap.size ≤ LM

theorem StT.put {w : World} {LI LR LM : Nat} {cI cR : Array Value} {v : Value} {ms : List Mi} {m : Mi} {x : World} (h : StT w LI LR LM cI cR v ms m x) (q : Mi) : StT w LI LR LM cI cR v ms q (x.setRow LM (cellsM q)) :=
  ⟨h.I.far _ _ (by have := h.lI; omega), h.R.far _ _ (by have := h.lR; omega), h.M.set _, own_set h.o h.ne _, below_setRow h.b h.lw _, h.ne, h.lI, h.lR, h.lw⟩

theorem StT.drew {w : World} {LI LR LM : Nat} {cI cR : Array Value} {v : Value} {ms : List Mi} {m : Mi} {x : World} (h : StT w LI LR LM cI cR v ms m x) : StT w LI LR LM cI cR v ms m x.drew :=
  ⟨h.I.drew, h.R.drew, h.M.drew, h.o, h.b.drew, h.ne, h.lI, h.lR, h.lw⟩

theorem Box.sixM {w : World} {b : Nat} {m : Mi} (h : Box w b (cellsM m)) : w.cell? ⟨b, 0, none⟩ = some (.int .i64 m.k) ∧ w.cell? ⟨b, 1, none⟩ = some (.int .i64 m.d) :=
  ⟨h.cell 0, h.cell 1⟩

/-- A row of one operation that is made. -/
theorem new_op1 (y : World) (m : Mi) : (∀ j u, (cellsM m).toList[j]? = some u → (y.alloc (.cells (cellsM m) 28)).cell? ((⟨y.heap.size, 0, none⟩ : Addr).add j) = some u) ∧ ∀ u ∈ (cellsM m).toList, u.oneCell' = true := by
  refine ⟨fun j u h => ?_, fun u hu => ?_⟩
  · have b := Box.new y (cellsM m) 28
    rw [Addr.add_lit, Nat.zero_add, b.cell j]
    simpa using h
  · exact List.all_eq_true.1 (show ones (cellsM m) = true from rfl) u hu

/-- What the forms up to here have made of it. -/
def Pm (L : List (List UInt8)) (N : ByteArray) (m m0 F : Mi) : Prop := (N.toList ∈ L → m = F) ∧ (N.toList ∉ L → m = m0)

theorem told_i {x : Nat} {o s t d a i e : Int} (h : De.Told x o s t d a i e) (hx : x < 4294967296) : -65536 ≤ i ∧ i < 4294967296 := by
  rcases h with ⟨op, -, -, -, -, -, -, -, rfl, -⟩ | ⟨-, -, -, -, -, -, rfl, -⟩
  · unfold De.Dec.di
    split
    · unfold De.Dec.sign
      split <;> omega
    · have : x &&& De.Dec.limm (De.Dec.fm op) ≤ x := Nat.and_le_left
      omega
  · omega

set_option maxHeartbeats 8000000 in
theorem rtranslate_any {w : World} {v : Value} {l : List Int} (h : IsWords w v l) : Calls Tryd.prog 4 #[v] w fun e w' =>
    (∃ v', e = .returned v' ∧ w'.ownsRow w.heap.size 28 6 v' (transV l).length (flat (transV l))) ∧ Below w.heap.size w w' := by
  obtain ⟨r1, r2, r3, r4, r5, r6, r7, r8, r9⟩ := rowRules
  obtain ⟨s1, s2, s3, s4, s5, s6, s7, s8, s9, s10⟩ := irSizes
  obtain ⟨q1, q2, q3, q4, q5, q6⟩ := irWhole
  obtain ⟨p1, p2, p3, p4, p5, p6, p7⟩ := irParts
  obtain ⟨t1, t2, t3, t4, t5, t6, t7⟩ := irSets
  obtain ⟨k1, k2⟩ := rowSets
  have hi0 : (Tryd.prog.info? 28).map (fun i => (i.zero, i.size, i.bytes)) = some (some (.agg (cellsM M0)), 6, 48) := by kernel_rfl
  obtain ⟨i0, hi, hz0, hz1, hz2⟩ := info_parts hi0
  obtain ⟨ad, n, c, rfl, hn, hmx, hnc, hm⟩ := h.open'
  replace hm := hide hm
  replace hn := hide hn
  have hBS := built1
  have hE : Hid ((w.alloc (.cells #[] 28)).ownsRow w.heap.size 28 6 (.slice (some ⟨w.heap.size, 0, none⟩) 0 0) 0 []) :=
    hide ⟨rfl, Or.inr ⟨w.heap.size, 0, #[], rfl, Nat.le_refl _, heap_alloc_new _ _, Nat.le_refl _, Nat.zero_le _, rfl, rfl⟩⟩
  have hg := hide (grow w (.cells #[] 28))
  clear h
  go_enter Tryd.func4, Tryd.ntmps4
  go_wp2_with fail
  go_loopw [3, 4] (fun v i wr => ∃ (k : Nat) (ms : List Mi), k ≤ n ∧ k ≤ 16 ∧ i = .int .i64 (k : Int) ∧ ms.length = k ∧ Hid (transV l = ms ++ transF k ((l.take 16).drop k)) ∧ Hid (wr.ownsRow w.heap.size 28 6 v ms.length (flat ms)) ∧ Hid (Below w.heap.size w wr)) (fun _ i _ => 16 - (intOf i).toNat)
  case atStart => exact ⟨0, [], Nat.zero_le _, Nat.zero_le _, rfl, rfl, hide rfl, hide (by first | exact hE.out | exact World.ownsRow_nil _ _ _ _), hg⟩
  case round =>
    obtain ⟨k, ms, hkn, hk16, rfl, hms, hT, hO, hb⟩ := hrel
    clear hE hg
    by_cases hlt : k < n ∧ k < 16
    · have dk : decide ((k : Int) < (n : Int)) = true := by simp; omega
      have dk2 : decide ((k : Int) < 16) = true := by simp; omega
      obtain ⟨z, hz⟩ : ∃ z, l[k]? = some z := ⟨l[k]'(by have := hn.out; omega), List.getElem?_eq_getElem _⟩
      obtain ⟨hzw, b, off, rfl, hbl, hc0⟩ := hm.out k z hz
      have hc : wr.cell? ⟨b, off + k, none⟩ = some (.int .u32 z) := by rw [← hc0]; exact hb.out.cell (p := ⟨b, off + k, none⟩) hbl
      have hT2 := hT.out
      rw [drop_at (show (l.take 16)[k]? = some z by rw [List.getElem?_take_of_lt (by omega)]; exact hz)] at hT2
      unfold transF at hT2
      have ht := decV_told z hzw
      have hib0 := hide (told_i ht (by have := hzw.1; have := hzw.2; omega))
      have cd := hide (De.rdecode_any z.toNat (by have := hzw.1; have := hzw.2; omega) ht)
      rw [Int.toNat_of_nonneg hzw.1] at cd
      generalize decV z = I at *
      obtain ⟨op, hop, ho⟩ : ∃ op : Nat, op < 69 ∧ I.o = (op : Int) := by
        rcases ht with ⟨op, h1, -, h2, -⟩ | ⟨-, h2, -⟩
        · exact ⟨op, h1, h2⟩
        · exact ⟨0, by omega, h2⟩
      have hid : De.idx (op : Int) = op := by unfold De.idx; rw [if_pos (by omega)]; omega
      have ca := hide (De.at_any (op : Int))
      rw [hid] at ca
      have ck := hide (rkinds_any op hop)
      obtain ⟨o, s, t, d, a, i, e⟩ := I
      simp only at ho
      have hib : Hid (-65536 ≤ i ∧ i < 4294967296) := hide hib0.out
      clear hib0
      subst ho
      have hfm : Hid (isPl (op : Int) → FormIs (De.Dec.lname (De.Dec.fm op)) (kindV (op : Int)) (opC (op : Int))) := hide (fun hp => by
        have := form_is hp
        rwa [hid] at this)
      generalize De.Dec.lname (De.Dec.fm op) = N at *
      generalize De.Dec.name op = NM at *
      replace hT2 := hide hT2
      clear hT hzw hc0 hz ht hid
      go_wp2_with fail
      refine (cd.out _).mono ?_
      rintro r y1 ⟨rfl, h1⟩
      have hO1 := hide ((hO.out.kept (grown_of h1) (by cases hv : Value.ownBlock u3 <;> simp)).alloc (.cells #[.int .i64 (op : Int), .int .i64 s, .int .i64 t, .int .i64 d, .int .i64 a, .int .i64 i] 32))
      have hb1 := hide (onto (onto hb.out (Nat.le_refl _) h1) (Nat.le_refl _) (grow y1 (.cells #[.int .i64 (op : Int), .int .i64 s, .int .i64 t, .int .i64 d, .int .i64 a, .int .i64 i] 32)))
      have bI := hide (Box.new y1 #[.int .i64 (op : Int), .int .i64 s, .int .i64 t, .int .i64 d, .int .i64 a, .int .i64 i] 32)
      clear cd hO hb h1 hc
      go_wp2_with fail
      generalize World.alloc y1 _ = Y1 at *
      generalize y1.heap.size = LI at *
      refine (ca.out _).mono ?_
      rintro r y2 ⟨rfl, h2⟩
      have hO2 := hide ((hO1.out.kept (grown_of h2) (by cases hv : Value.ownBlock u3 <;> simp)).alloc (.cells #[.string NM, .string N, .int .i64 (De.Dec.mj op : Nat), .int .i64 (De.Dec.mn op : Nat)] 37))
      have hb2 := hide (onto (onto hb1.out (Nat.le_refl _) h2) (Nat.le_refl _) (grow y2 (.cells #[.string NM, .string N, .int .i64 (De.Dec.mj op : Nat), .int .i64 (De.Dec.mn op : Nat)] 37)))
      have bI2 := hide ((bI.out.on h2).on (grow y2 (.cells #[.string NM, .string N, .int .i64 (De.Dec.mj op : Nat), .int .i64 (De.Dec.mn op : Nat)] 37)))
      have bR := hide (Box.new y2 #[.string NM, .string N, .int .i64 (De.Dec.mj op : Nat), .int .i64 (De.Dec.mn op : Nat)] 37)
      clear hO1 hb1 bI h2 ca
      go_wp2_with fail
      generalize World.alloc y2 _ = Y2 at *
      generalize y2.heap.size = LR at *
      refine (ck.out _).mono ?_
      rintro r y3 ⟨rfl, rfl⟩
      clear ck
      by_cases hpl : e = 0 ∧ isPl (op : Int)
      · obtain ⟨he, hp⟩ := hpl
        subst he
        have hkd : rkindV (op : Int) = kindV (op : Int) := by unfold rkindV; rw [if_pos hp]
        rw [hkd]
        have hk1 := kind_yes hp
        have hF := hfm.out hp
        have hk0 : decide (kindV (op : Int) < 0) = false := by simp; omega
        have hT3 : Hid (transV l = (ms ++ [if (fillV (op : Int) s t d a i).d = 0 then ({ M0 with c := (k : Int) + 1 } : Mi) else opC (op : Int) s t d a i ((k : Int) + 1)]) ++ transF (k + 1) ((l.take 16).drop (k + 1))) := hide (by
          have hpb : plB ⟨(op : Int), s, t, d, a, i, 0⟩ = true := by simp [plB, hp]
          rw [hT2.out, if_pos hpb]
          have : ({ opM ⟨(op : Int), s, t, d, a, i, 0⟩ with c := ((k + 1 : Nat) : Int) } : Mi) = (if (fillV (op : Int) s t d a i).d = 0 then ({ M0 with c := (k : Int) + 1 } : Mi) else opC (op : Int) s t d a i ((k : Int) + 1)) := by
            unfold opM opC
            rw [if_pos hpb]
            split <;> simp
          rw [← this]
          simp)
        have hdd : (opC (op : Int) s t d a i ((k : Int) + 1)).d = (fillV (op : Int) s t d a i).d := rfl
        rw [← hdd] at hT3
        generalize opC (op : Int) = X at *
        generalize kindV (op : Int) = kd at *
        clear hT2 hfm hkd hp hdd hk1
        have hO3 := hO2.out.alloc (.cells (cellsM (⟨kd, d, s, t, M0.m, (k : Int) + 1⟩ : Mi)) 28)
        have hSt : Hid (StT w LI LR y3.heap.size #[.int .i64 (op : Int), .int .i64 s, .int .i64 t, .int .i64 d, .int .i64 a, .int .i64 i] #[.string NM, .string N, .int .i64 (De.Dec.mj op : Nat), .int .i64 (De.Dec.mn op : Nat)] u3 ms ⟨kd, d, s, t, M0.m, (k : Int) + 1⟩ (y3.alloc (.cells (cellsM (⟨kd, d, s, t, M0.m, (k : Int) + 1⟩ : Mi)) 28))) :=
          hide ⟨bI2.out.on (grow _ _), bR.out.on (grow _ _), Box.new _ _ _, hO3, onto hb2.out (Nat.le_refl _) (grow _ _), fun g hg => (by
            rcases hO2.out.2 with ⟨rfl, -⟩ | ⟨g', cap, cur, rfl, hgb, hh, -⟩
            · cases hg
            · cases hg
              exact Nat.ne_of_lt (Array.getElem?_eq_some_iff.1 hh).1), bI2.out.2.2, bR.out.2.2, hb2.out.size⟩
        have f1 : y3.cell? ⟨LI, 1, none⟩ = some (.int .i64 s) := bI2.out.cell 1
        have f2 : y3.cell? ⟨LI, 2, none⟩ = some (.int .i64 t) := bI2.out.cell 2
        have f3 : y3.cell? ⟨LI, 3, none⟩ = some (.int .i64 d) := bI2.out.cell 3
        have nI : LI < y3.heap.size := bI2.out.2.2
        have nR : LR < y3.heap.size := bR.out.2.2
        have f6 : y3.cell? ⟨LR, 1, none⟩ = some (.string N) := bR.out.cell 1
        obtain ⟨F, hFX⟩ : ∃ F, F = X s t d a i ((k : Int) + 1) := ⟨_, rfl⟩
        replace hFX := hide hFX
        replace hF := hide hF
        clear hO3 hO2 hb2 bI2 bR
        obtain ⟨q0, hq0⟩ : ∃ q0 : Mi, q0 = ⟨kd, d, s, t, M0.m, (k : Int) + 1⟩ := ⟨_, rfl⟩
        go_upto_if 53 with fail
        generalize World.alloc y3 _ = xx at *
        generalize y3.heap.size = LM at *
        rw [← hq0] at hSt
        replace hq0 := hide hq0
        clear f1 f2 f3 f6 nI nR
        go_cut [] from 11 to 119 (fun x => ∃ q, Hid (StT w LI LR LM #[.int .i64 (op : Int), .int .i64 s, .int .i64 t, .int .i64 d, .int .i64 a, .int .i64 i] #[.string NM, .string N, .int .i64 (De.Dec.mj op : Nat), .int .i64 (De.Dec.mn op : Nat)] u3 ms q x) ∧ Hid (Pm [[83, 72]] N q q0 F))
        case first =>
          rcases hF.out with ⟨hN0, hX⟩ | ⟨hN0, hX⟩ | ⟨hN0, hX⟩ | ⟨hN0, hX⟩ | ⟨hN0, hX⟩ | ⟨hN0, hX⟩
          · rw [hN0]
            replace hN0 := hide hN0
            have f1 : xx.cell? ⟨LI, 1, none⟩ = some (.int .i64 s) := hSt.out.I.cell 1
            have f2 : xx.cell? ⟨LI, 2, none⟩ = some (.int .i64 t) := hSt.out.I.cell 2
            have f3 : xx.cell? ⟨LI, 3, none⟩ = some (.int .i64 d) := hSt.out.I.cell 3
            have f4 : xx.cell? ⟨LI, 4, none⟩ = some (.int .i64 a) := hSt.out.I.cell 4
            have g1 := hSt.out.M.1
            have g2 := hSt.out.M.2.1
            go_wp2_with fail
            go_meet
            case rel => exact ⟨⟨kd, d, t, 32, a % 4294967296, (k : Int) + 1⟩, hide (hSt.out.put _), hide ⟨fun _ => by rw [hFX.out, hX] <;> rfl, fun h => absurd (by rw [hN0.out]; decide) h⟩⟩
          · rw [hN0]
            replace hN0 := hide hN0
            go_wp2_with fail
            go_meet
            case rel => exact ⟨q0, hSt, hide ⟨fun h => absurd h (by rw [hN0.out]; decide), fun _ => rfl⟩⟩
          · rw [hN0]
            replace hN0 := hide hN0
            go_wp2_with fail
            go_meet
            case rel => exact ⟨q0, hSt, hide ⟨fun h => absurd h (by rw [hN0.out]; decide), fun _ => rfl⟩⟩
          · rw [hN0]
            replace hN0 := hide hN0
            go_wp2_with fail
            go_meet
            case rel => exact ⟨q0, hSt, hide ⟨fun h => absurd h (by rw [hN0.out]; decide), fun _ => rfl⟩⟩
          · rw [hN0]
            replace hN0 := hide hN0
            go_wp2_with fail
            go_meet
            case rel => exact ⟨q0, hSt, hide ⟨fun h => absurd h (by rw [hN0.out]; decide), fun _ => rfl⟩⟩
          · rw [hN0]
            replace hN0 := hide hN0
            go_wp2_with fail
            go_meet
            case rel => exact ⟨q0, hSt, hide ⟨fun h => absurd h (by rw [hN0.out]; decide), fun _ => rfl⟩⟩
        case rest =>
          clear hSt
          obtain ⟨qa, hSt, hPa⟩ := hcut
          generalize hwc : wc = xa at *
          clear hwc
          have f6 : xa.cell? ⟨LR, 1, none⟩ = some (.string N) := hSt.out.R.cell 1
          go_upto_if 67 with fail
          clear f6
          go_cut [] from 11 to 119 (fun x => ∃ q, Hid (StT w LI LR LM #[.int .i64 (op : Int), .int .i64 s, .int .i64 t, .int .i64 d, .int .i64 a, .int .i64 i] #[.string NM, .string N, .int .i64 (De.Dec.mj op : Nat), .int .i64 (De.Dec.mn op : Nat)] u3 ms q x) ∧ Hid (Pm [[83, 72], [83, 86]] N q q0 F))
          case first =>
            rcases hF.out with ⟨hN0, hX⟩ | ⟨hN0, hX⟩ | ⟨hN0, hX⟩ | ⟨hN0, hX⟩ | ⟨hN0, hX⟩ | ⟨hN0, hX⟩
            · rw [hN0]
              replace hN0 := hide hN0
              go_wp2_with fail
              go_meet
              case rel => exact ⟨qa, hSt, hide ⟨fun _ => hPa.out.1 (by rw [hN0.out]; decide), fun h => absurd (by rw [hN0.out]; decide) h⟩⟩
            · rw [hN0]
              replace hN0 := hide hN0
              have f1 : xa.cell? ⟨LI, 1, none⟩ = some (.int .i64 s) := hSt.out.I.cell 1
              have f2 : xa.cell? ⟨LI, 2, none⟩ = some (.int .i64 t) := hSt.out.I.cell 2
              have f3 : xa.cell? ⟨LI, 3, none⟩ = some (.int .i64 d) := hSt.out.I.cell 3
              have f4 : xa.cell? ⟨LI, 4, none⟩ = some (.int .i64 a) := hSt.out.I.cell 4
              have g1 := hSt.out.M.1
              have g2 := hSt.out.M.2.1
              go_wp2_with fail
              go_meet
              case rel => exact ⟨⟨kd, d, t, s, M0.m, (k : Int) + 1⟩, hide (hSt.out.put _), hide ⟨fun _ => by rw [hFX.out, hX] <;> rfl, fun h => absurd (by rw [hN0.out]; decide) h⟩⟩
            · rw [hN0]
              replace hN0 := hide hN0
              go_wp2_with fail
              go_meet
              case rel => exact ⟨qa, hSt, hide ⟨fun h => absurd h (by rw [hN0.out]; decide), fun _ => hPa.out.2 (by rw [hN0.out]; decide)⟩⟩
            · rw [hN0]
              replace hN0 := hide hN0
              go_wp2_with fail
              go_meet
              case rel => exact ⟨qa, hSt, hide ⟨fun h => absurd h (by rw [hN0.out]; decide), fun _ => hPa.out.2 (by rw [hN0.out]; decide)⟩⟩
            · rw [hN0]
              replace hN0 := hide hN0
              go_wp2_with fail
              go_meet
              case rel => exact ⟨qa, hSt, hide ⟨fun h => absurd h (by rw [hN0.out]; decide), fun _ => hPa.out.2 (by rw [hN0.out]; decide)⟩⟩
            · rw [hN0]
              replace hN0 := hide hN0
              go_wp2_with fail
              go_meet
              case rel => exact ⟨qa, hSt, hide ⟨fun h => absurd h (by rw [hN0.out]; decide), fun _ => hPa.out.2 (by rw [hN0.out]; decide)⟩⟩
          case rest =>
            clear hSt hPa
            obtain ⟨qb, hSt, hPb⟩ := hcut
            generalize hwc : wc = xb at *
            clear hwc
            have f6 : xb.cell? ⟨LR, 1, none⟩ = some (.string N) := hSt.out.R.cell 1
            obtain ⟨bI, hbI⟩ : ∃ bI, decide (N.toList = [73] ∨ N.toList = [73, 85]) = bI := ⟨_, rfl⟩
            replace hbI := hide hbI
            go_upto_region 14 with fail
            go_cut [85] from 11 to 119 (fun s85 x => s85 = .bool bI ∧ x = xb)
            case first =>
              rcases hF.out with ⟨hN0, hX⟩ | ⟨hN0, hX⟩ | ⟨hN0, hX⟩ | ⟨hN0, hX⟩ | ⟨hN0, hX⟩ | ⟨hN0, hX⟩
              · have hN1 := hN0
                replace hN0 := hide hN0
                obtain rfl : bI = false := by rw [← hbI.out, hN0.out]; decide
                go_wp2_with fail
                go_meet
                case rel => exact ⟨by simp, rfl⟩
              · have hN1 := hN0
                replace hN0 := hide hN0
                obtain rfl : bI = false := by rw [← hbI.out, hN0.out]; decide
                go_wp2_with fail
                go_meet
                case rel => exact ⟨by simp, rfl⟩
              · have hN1 := hN0
                replace hN0 := hide hN0
                obtain rfl : bI = true := by rw [← hbI.out, hN0.out]; decide
                go_wp2_with fail
                go_meet
                case rel => exact ⟨by simp, rfl⟩
              · have hN1 := hN0
                replace hN0 := hide hN0
                obtain rfl : bI = true := by rw [← hbI.out, hN0.out]; decide
                go_wp2_with fail
                go_meet
                case rel => exact ⟨by simp, rfl⟩
              · have hN1 := hN0
                replace hN0 := hide hN0
                obtain rfl : bI = false := by rw [← hbI.out, hN0.out]; decide
                go_wp2_with fail
                go_meet
                case rel => exact ⟨by simp, rfl⟩
              · have hN1 := hN0
                replace hN0 := hide hN0
                obtain rfl : bI = false := by rw [← hbI.out, hN0.out]; decide
                go_wp2_with fail
                go_meet
                case rel => exact ⟨by simp, rfl⟩
            case rest =>
              obtain ⟨rfl, rfl⟩ := hcut
              generalize hwc : wc = xb at *
              clear hwc f6
              go_upto_if 85 with fail
              go_cut [] from 11 to 119 (fun x => ∃ q, Hid (StT w LI LR LM #[.int .i64 (op : Int), .int .i64 s, .int .i64 t, .int .i64 d, .int .i64 a, .int .i64 i] #[.string NM, .string N, .int .i64 (De.Dec.mj op : Nat), .int .i64 (De.Dec.mn op : Nat)] u3 ms q x) ∧ Hid (Pm [[83, 72], [83, 86], [73], [73, 85]] N q q0 F))
              case first =>
                rcases hF.out with ⟨hN0, hX⟩ | ⟨hN0, hX⟩ | ⟨hN0, hX⟩ | ⟨hN0, hX⟩ | ⟨hN0, hX⟩ | ⟨hN0, hX⟩
                · replace hN0 := hide hN0
                  obtain rfl : bI = false := by rw [← hbI.out, hN0.out]; decide
                  go_wp2_with fail
                  go_meet
                  case rel => exact ⟨qb, hSt, hide ⟨fun _ => hPb.out.1 (by rw [hN0.out]; decide), fun h => absurd (by rw [hN0.out]; decide) h⟩⟩
                · replace hN0 := hide hN0
                  obtain rfl : bI = false := by rw [← hbI.out, hN0.out]; decide
                  go_wp2_with fail
                  go_meet
                  case rel => exact ⟨qb, hSt, hide ⟨fun _ => hPb.out.1 (by rw [hN0.out]; decide), fun h => absurd (by rw [hN0.out]; decide) h⟩⟩
                · replace hN0 := hide hN0
                  obtain rfl : bI = true := by rw [← hbI.out, hN0.out]; decide
                  have hwr : IntKind.i64.wrap ((k : Int) + 1) = (k : Int) + 1 := by simp [IntKind.wrap, IntKind.bits, IntKind.signed]; omega
                  have hn1 : ¬ N6 < 1 := by decide
                  have hn2 : ¬ N6 < 2 := by decide
                  have hn3 : ¬ N6 < 3 := by decide
                  have hn4 : ¬ N6 < 4 := by decide
                  have hn5 : ¬ N6 < 5 := by decide
                  have hn6 : ¬ N6 < 6 := by decide
                  have cw := hide (Wo.word_any (i))
                  go_wp2_with fail
                  replace hSt := hide hSt.out.drew
                  refine wp_region_held_drew (S := fun y => Box y LI #[.int .i64 (op : Int), .int .i64 s, .int .i64 t, .int .i64 d, .int .i64 a, .int .i64 i]) (by kernel_rfl) hSt.out.I (fun hHeld => ?_)
                  generalize World.drew xb = xd at *
                  refine wpAnyH_take (i := 0) (v := ?_) rfl (by kernel_rfl) (by kernel_rfl) (by kernel_rfl) (fun _ _ _ h => h) (Or.inl ⟨by rfl, ?_⟩) (by assumption) ?_
                  rotate_left
                  · intro y hSw
                    have l1 : y.cell? ⟨LI, 1, none⟩ = some (.int .i64 s) := hSw.cell 1; have l2 : y.cell? ⟨LI, 2, none⟩ = some (.int .i64 t) := hSw.cell 2; have l5 : y.cell? ⟨LI, 5, none⟩ = some (.int .i64 i) := hSw.cell 5
                    go_simp
                    try with_reducible rfl
                  try simp only [Act.put, List.setIfInBounds_toArray, List.set_cons_zero, List.set_cons_succ]
                  refine wpAnyH_take (i := 1) (v := ?_) rfl (by kernel_rfl) (by kernel_rfl) (by kernel_rfl) (fun _ _ _ h => h) (Or.inl ⟨by rfl, ?_⟩) (by assumption) ?_
                  rotate_left
                  · intro y hSw
                    have l1 : y.cell? ⟨LI, 1, none⟩ = some (.int .i64 s) := hSw.cell 1; have l2 : y.cell? ⟨LI, 2, none⟩ = some (.int .i64 t) := hSw.cell 2; have l5 : y.cell? ⟨LI, 5, none⟩ = some (.int .i64 i) := hSw.cell 5
                    go_simp
                    try with_reducible rfl
                  try simp only [Act.put, List.setIfInBounds_toArray, List.set_cons_zero, List.set_cons_succ]
                  refine wpAnyH_take (i := 2) (v := ?_) rfl (by kernel_rfl) (by kernel_rfl) (by kernel_rfl) (fun _ _ _ h => h) (Or.inl ⟨by rfl, ?_⟩) (by assumption) ?_
                  rotate_left
                  · intro y hSw
                    have l1 : y.cell? ⟨LI, 1, none⟩ = some (.int .i64 s) := hSw.cell 1; have l2 : y.cell? ⟨LI, 2, none⟩ = some (.int .i64 t) := hSw.cell 2; have l5 : y.cell? ⟨LI, 5, none⟩ = some (.int .i64 i) := hSw.cell 5
                    go_simp
                    try with_reducible rfl
                  try simp only [Act.put, List.setIfInBounds_toArray, List.set_cons_zero, List.set_cons_succ]
                  refine wpAnyH_take (i := 3) (v := ?_) rfl (by kernel_rfl) (by kernel_rfl) (by kernel_rfl) (fun _ _ _ h => h) (Or.inl ⟨by rfl, ?_⟩) (by assumption) ?_
                  rotate_left
                  · intro y hSw
                    have l1 : y.cell? ⟨LI, 1, none⟩ = some (.int .i64 s) := hSw.cell 1; have l2 : y.cell? ⟨LI, 2, none⟩ = some (.int .i64 t) := hSw.cell 2; have l5 : y.cell? ⟨LI, 5, none⟩ = some (.int .i64 i) := hSw.cell 5
                    go_simp
                    try with_reducible rfl
                  try simp only [Act.put, List.setIfInBounds_toArray, List.set_cons_zero, List.set_cons_succ]
                  refine wpAnyH_take (i := 4) (v := ?_) rfl (by kernel_rfl) (by kernel_rfl) (by kernel_rfl) (fun _ _ _ h => h) (Or.inl ⟨by rfl, ?_⟩) (by assumption) ?_
                  rotate_left
                  · intro y hSw
                    have l1 : y.cell? ⟨LI, 1, none⟩ = some (.int .i64 s) := hSw.cell 1; have l2 : y.cell? ⟨LI, 2, none⟩ = some (.int .i64 t) := hSw.cell 2; have l5 : y.cell? ⟨LI, 5, none⟩ = some (.int .i64 i) := hSw.cell 5
                    go_simp
                    try with_reducible rfl
                  try simp only [Act.put, List.setIfInBounds_toArray, List.set_cons_zero, List.set_cons_succ]
                  refine wpAnyH_take (i := 5) (v := ?_) rfl (by kernel_rfl) (by kernel_rfl) (by kernel_rfl) (fun _ _ _ h => h) (Or.inl ⟨by rfl, ?_⟩) (by assumption) ?_
                  rotate_left
                  · intro y hSw
                    have l1 : y.cell? ⟨LI, 1, none⟩ = some (.int .i64 s) := hSw.cell 1; have l2 : y.cell? ⟨LI, 2, none⟩ = some (.int .i64 t) := hSw.cell 2; have l5 : y.cell? ⟨LI, 5, none⟩ = some (.int .i64 i) := hSw.cell 5
                    go_simp
                    try with_reducible rfl
                  try simp only [Act.put, List.setIfInBounds_toArray, List.set_cons_zero, List.set_cons_succ]
                  refine wpAnyH_take (i := 6) (v := ?_) rfl (by kernel_rfl) (by kernel_rfl) (by kernel_rfl) (fun _ _ _ h => h) (Or.inl ⟨by rfl, ?_⟩) (by assumption) ?_
                  rotate_left
                  · intro y hSw
                    have l1 : y.cell? ⟨LI, 1, none⟩ = some (.int .i64 s) := hSw.cell 1; have l2 : y.cell? ⟨LI, 2, none⟩ = some (.int .i64 t) := hSw.cell 2; have l5 : y.cell? ⟨LI, 5, none⟩ = some (.int .i64 i) := hSw.cell 5
                    go_simp
                    try with_reducible rfl
                  try simp only [Act.put, List.setIfInBounds_toArray, List.set_cons_zero, List.set_cons_succ]
                  refine wpAnyH_take (i := 8) (v := ?_) rfl (by kernel_rfl) (by kernel_rfl) (by kernel_rfl) (fun _ _ _ h => h) (Or.inl ⟨by rfl, ?_⟩) (by assumption) ?_
                  rotate_left
                  · intro y hSw
                    have l1 : y.cell? ⟨LI, 1, none⟩ = some (.int .i64 s) := hSw.cell 1; have l2 : y.cell? ⟨LI, 2, none⟩ = some (.int .i64 t) := hSw.cell 2; have l5 : y.cell? ⟨LI, 5, none⟩ = some (.int .i64 i) := hSw.cell 5
                    go_simp
                    try with_reducible rfl
                  try simp only [Act.put, List.setIfInBounds_toArray, List.set_cons_zero, List.set_cons_succ]
                  refine wpAnyH_take (i := 9) (v := ?_) rfl (by kernel_rfl) (by kernel_rfl) (by kernel_rfl) (fun _ _ _ h => h) (Or.inl ⟨by rfl, ?_⟩) (by assumption) ?_
                  rotate_left
                  · intro y hSw
                    have l1 : y.cell? ⟨LI, 1, none⟩ = some (.int .i64 s) := hSw.cell 1; have l2 : y.cell? ⟨LI, 2, none⟩ = some (.int .i64 t) := hSw.cell 2; have l5 : y.cell? ⟨LI, 5, none⟩ = some (.int .i64 i) := hSw.cell 5
                    go_simp
                    try with_reducible rfl
                  try simp only [Act.put, List.setIfInBounds_toArray, List.set_cons_zero, List.set_cons_succ]
                  refine wpAnyH_ready (rs := [7]) (by kernel_rfl) (by simp) ?_
                  refine AllReadyH.cons rfl (fun K hK => ?_) AllReadyH.nil
                  go_simp
                  refine (cw.out _).mono ?_
                  rintro e y7 ⟨rfl, rfl⟩
                  go_wp2_with fail
                  refine hK.out _ _ (hHeld) (fun hHeld => ?_)
                  clear hK K
                  try simp only [Act.put, List.setIfInBounds_toArray, List.set_cons_zero, List.set_cons_succ]
                  refine wpAnyH_take (i := 10) (v := ?_) rfl (by kernel_rfl) (by kernel_rfl) (by kernel_rfl) (fun _ _ _ h => h) (Or.inl ⟨by rfl, ?_⟩) (by assumption) ?_
                  rotate_left
                  · intro y hSw
                    have l1 : y.cell? ⟨LI, 1, none⟩ = some (.int .i64 s) := hSw.cell 1; have l2 : y.cell? ⟨LI, 2, none⟩ = some (.int .i64 t) := hSw.cell 2; have l5 : y.cell? ⟨LI, 5, none⟩ = some (.int .i64 i) := hSw.cell 5
                    go_simp
                    try with_reducible rfl
                  try simp only [Act.put, List.setIfInBounds_toArray, List.set_cons_zero, List.set_cons_succ]
                  refine wpAnyH_ready (rs := [11]) (by kernel_rfl) (by simp) ?_
                  refine AllReadyH.cons rfl (fun K hK => ?_) AllReadyH.nil
                  have hst := store_part _ LM 0 (cellsM ⟨kd, t, s, 32, i % 4294967296, (k : Int) + 1⟩) hSt.out.M.1 (by rw [hSt.out.M.2.1]; exact q1 _) rfl
                  rw [hSt.out.M.2.1, q3] at hst
                  go_simp
                  refine hK.out _ _ (hHeld.far LM (cellsM ⟨kd, t, s, 32, i % 4294967296, (k : Int) + 1⟩) (Nat.ne_of_lt hSt.out.lI)) (fun hHeld => ?_)
                  clear hK K
                  try simp only [Act.put, List.setIfInBounds_toArray, List.set_cons_zero, List.set_cons_succ]
                  replace hSt := hide (hSt.out.put ⟨kd, t, s, 32, i % 4294967296, (k : Int) + 1⟩)
                  clear hst hHeld
                  refine wpAnyH_done (by kernel_rfl) ?_ _
                  go_wp2_with fail
                  go_meet
                  case rel => exact ⟨⟨kd, t, s, 32, i % 4294967296, (k : Int) + 1⟩, hSt, hide ⟨fun _ => by rw [hFX.out, hX] <;> rfl, fun h => absurd (by rw [hN0.out]; decide) h⟩⟩
                · replace hN0 := hide hN0
                  obtain rfl : bI = true := by rw [← hbI.out, hN0.out]; decide
                  have hwr : IntKind.i64.wrap ((k : Int) + 1) = (k : Int) + 1 := by simp [IntKind.wrap, IntKind.bits, IntKind.signed]; omega
                  have hn1 : ¬ N6 < 1 := by decide
                  have hn2 : ¬ N6 < 2 := by decide
                  have hn3 : ¬ N6 < 3 := by decide
                  have hn4 : ¬ N6 < 4 := by decide
                  have hn5 : ¬ N6 < 5 := by decide
                  have hn6 : ¬ N6 < 6 := by decide
                  have cw := hide (Wo.word_any (i))
                  go_wp2_with fail
                  replace hSt := hide hSt.out.drew
                  refine wp_region_held_drew (S := fun y => Box y LI #[.int .i64 (op : Int), .int .i64 s, .int .i64 t, .int .i64 d, .int .i64 a, .int .i64 i]) (by kernel_rfl) hSt.out.I (fun hHeld => ?_)
                  generalize World.drew xb = xd at *
                  refine wpAnyH_take (i := 0) (v := ?_) rfl (by kernel_rfl) (by kernel_rfl) (by kernel_rfl) (fun _ _ _ h => h) (Or.inl ⟨by rfl, ?_⟩) (by assumption) ?_
                  rotate_left
                  · intro y hSw
                    have l1 : y.cell? ⟨LI, 1, none⟩ = some (.int .i64 s) := hSw.cell 1; have l2 : y.cell? ⟨LI, 2, none⟩ = some (.int .i64 t) := hSw.cell 2; have l5 : y.cell? ⟨LI, 5, none⟩ = some (.int .i64 i) := hSw.cell 5
                    go_simp
                    try with_reducible rfl
                  try simp only [Act.put, List.setIfInBounds_toArray, List.set_cons_zero, List.set_cons_succ]
                  refine wpAnyH_take (i := 1) (v := ?_) rfl (by kernel_rfl) (by kernel_rfl) (by kernel_rfl) (fun _ _ _ h => h) (Or.inl ⟨by rfl, ?_⟩) (by assumption) ?_
                  rotate_left
                  · intro y hSw
                    have l1 : y.cell? ⟨LI, 1, none⟩ = some (.int .i64 s) := hSw.cell 1; have l2 : y.cell? ⟨LI, 2, none⟩ = some (.int .i64 t) := hSw.cell 2; have l5 : y.cell? ⟨LI, 5, none⟩ = some (.int .i64 i) := hSw.cell 5
                    go_simp
                    try with_reducible rfl
                  try simp only [Act.put, List.setIfInBounds_toArray, List.set_cons_zero, List.set_cons_succ]
                  refine wpAnyH_take (i := 2) (v := ?_) rfl (by kernel_rfl) (by kernel_rfl) (by kernel_rfl) (fun _ _ _ h => h) (Or.inl ⟨by rfl, ?_⟩) (by assumption) ?_
                  rotate_left
                  · intro y hSw
                    have l1 : y.cell? ⟨LI, 1, none⟩ = some (.int .i64 s) := hSw.cell 1; have l2 : y.cell? ⟨LI, 2, none⟩ = some (.int .i64 t) := hSw.cell 2; have l5 : y.cell? ⟨LI, 5, none⟩ = some (.int .i64 i) := hSw.cell 5
                    go_simp
                    try with_reducible rfl
                  try simp only [Act.put, List.setIfInBounds_toArray, List.set_cons_zero, List.set_cons_succ]
                  refine wpAnyH_take (i := 3) (v := ?_) rfl (by kernel_rfl) (by kernel_rfl) (by kernel_rfl) (fun _ _ _ h => h) (Or.inl ⟨by rfl, ?_⟩) (by assumption) ?_
                  rotate_left
                  · intro y hSw
                    have l1 : y.cell? ⟨LI, 1, none⟩ = some (.int .i64 s) := hSw.cell 1; have l2 : y.cell? ⟨LI, 2, none⟩ = some (.int .i64 t) := hSw.cell 2; have l5 : y.cell? ⟨LI, 5, none⟩ = some (.int .i64 i) := hSw.cell 5
                    go_simp
                    try with_reducible rfl
                  try simp only [Act.put, List.setIfInBounds_toArray, List.set_cons_zero, List.set_cons_succ]
                  refine wpAnyH_take (i := 4) (v := ?_) rfl (by kernel_rfl) (by kernel_rfl) (by kernel_rfl) (fun _ _ _ h => h) (Or.inl ⟨by rfl, ?_⟩) (by assumption) ?_
                  rotate_left
                  · intro y hSw
                    have l1 : y.cell? ⟨LI, 1, none⟩ = some (.int .i64 s) := hSw.cell 1; have l2 : y.cell? ⟨LI, 2, none⟩ = some (.int .i64 t) := hSw.cell 2; have l5 : y.cell? ⟨LI, 5, none⟩ = some (.int .i64 i) := hSw.cell 5
                    go_simp
                    try with_reducible rfl
                  try simp only [Act.put, List.setIfInBounds_toArray, List.set_cons_zero, List.set_cons_succ]
                  refine wpAnyH_take (i := 5) (v := ?_) rfl (by kernel_rfl) (by kernel_rfl) (by kernel_rfl) (fun _ _ _ h => h) (Or.inl ⟨by rfl, ?_⟩) (by assumption) ?_
                  rotate_left
                  · intro y hSw
                    have l1 : y.cell? ⟨LI, 1, none⟩ = some (.int .i64 s) := hSw.cell 1; have l2 : y.cell? ⟨LI, 2, none⟩ = some (.int .i64 t) := hSw.cell 2; have l5 : y.cell? ⟨LI, 5, none⟩ = some (.int .i64 i) := hSw.cell 5
                    go_simp
                    try with_reducible rfl
                  try simp only [Act.put, List.setIfInBounds_toArray, List.set_cons_zero, List.set_cons_succ]
                  refine wpAnyH_take (i := 6) (v := ?_) rfl (by kernel_rfl) (by kernel_rfl) (by kernel_rfl) (fun _ _ _ h => h) (Or.inl ⟨by rfl, ?_⟩) (by assumption) ?_
                  rotate_left
                  · intro y hSw
                    have l1 : y.cell? ⟨LI, 1, none⟩ = some (.int .i64 s) := hSw.cell 1; have l2 : y.cell? ⟨LI, 2, none⟩ = some (.int .i64 t) := hSw.cell 2; have l5 : y.cell? ⟨LI, 5, none⟩ = some (.int .i64 i) := hSw.cell 5
                    go_simp
                    try with_reducible rfl
                  try simp only [Act.put, List.setIfInBounds_toArray, List.set_cons_zero, List.set_cons_succ]
                  refine wpAnyH_take (i := 8) (v := ?_) rfl (by kernel_rfl) (by kernel_rfl) (by kernel_rfl) (fun _ _ _ h => h) (Or.inl ⟨by rfl, ?_⟩) (by assumption) ?_
                  rotate_left
                  · intro y hSw
                    have l1 : y.cell? ⟨LI, 1, none⟩ = some (.int .i64 s) := hSw.cell 1; have l2 : y.cell? ⟨LI, 2, none⟩ = some (.int .i64 t) := hSw.cell 2; have l5 : y.cell? ⟨LI, 5, none⟩ = some (.int .i64 i) := hSw.cell 5
                    go_simp
                    try with_reducible rfl
                  try simp only [Act.put, List.setIfInBounds_toArray, List.set_cons_zero, List.set_cons_succ]
                  refine wpAnyH_take (i := 9) (v := ?_) rfl (by kernel_rfl) (by kernel_rfl) (by kernel_rfl) (fun _ _ _ h => h) (Or.inl ⟨by rfl, ?_⟩) (by assumption) ?_
                  rotate_left
                  · intro y hSw
                    have l1 : y.cell? ⟨LI, 1, none⟩ = some (.int .i64 s) := hSw.cell 1; have l2 : y.cell? ⟨LI, 2, none⟩ = some (.int .i64 t) := hSw.cell 2; have l5 : y.cell? ⟨LI, 5, none⟩ = some (.int .i64 i) := hSw.cell 5
                    go_simp
                    try with_reducible rfl
                  try simp only [Act.put, List.setIfInBounds_toArray, List.set_cons_zero, List.set_cons_succ]
                  refine wpAnyH_ready (rs := [7]) (by kernel_rfl) (by simp) ?_
                  refine AllReadyH.cons rfl (fun K hK => ?_) AllReadyH.nil
                  go_simp
                  refine (cw.out _).mono ?_
                  rintro e y7 ⟨rfl, rfl⟩
                  go_wp2_with fail
                  refine hK.out _ _ (hHeld) (fun hHeld => ?_)
                  clear hK K
                  try simp only [Act.put, List.setIfInBounds_toArray, List.set_cons_zero, List.set_cons_succ]
                  refine wpAnyH_take (i := 10) (v := ?_) rfl (by kernel_rfl) (by kernel_rfl) (by kernel_rfl) (fun _ _ _ h => h) (Or.inl ⟨by rfl, ?_⟩) (by assumption) ?_
                  rotate_left
                  · intro y hSw
                    have l1 : y.cell? ⟨LI, 1, none⟩ = some (.int .i64 s) := hSw.cell 1; have l2 : y.cell? ⟨LI, 2, none⟩ = some (.int .i64 t) := hSw.cell 2; have l5 : y.cell? ⟨LI, 5, none⟩ = some (.int .i64 i) := hSw.cell 5
                    go_simp
                    try with_reducible rfl
                  try simp only [Act.put, List.setIfInBounds_toArray, List.set_cons_zero, List.set_cons_succ]
                  refine wpAnyH_ready (rs := [11]) (by kernel_rfl) (by simp) ?_
                  refine AllReadyH.cons rfl (fun K hK => ?_) AllReadyH.nil
                  have hst := store_part _ LM 0 (cellsM ⟨kd, t, s, 32, i % 4294967296, (k : Int) + 1⟩) hSt.out.M.1 (by rw [hSt.out.M.2.1]; exact q1 _) rfl
                  rw [hSt.out.M.2.1, q3] at hst
                  go_simp
                  refine hK.out _ _ (hHeld.far LM (cellsM ⟨kd, t, s, 32, i % 4294967296, (k : Int) + 1⟩) (Nat.ne_of_lt hSt.out.lI)) (fun hHeld => ?_)
                  clear hK K
                  try simp only [Act.put, List.setIfInBounds_toArray, List.set_cons_zero, List.set_cons_succ]
                  replace hSt := hide (hSt.out.put ⟨kd, t, s, 32, i % 4294967296, (k : Int) + 1⟩)
                  clear hst hHeld
                  refine wpAnyH_done (by kernel_rfl) ?_ _
                  go_wp2_with fail
                  go_meet
                  case rel => exact ⟨⟨kd, t, s, 32, i % 4294967296, (k : Int) + 1⟩, hSt, hide ⟨fun _ => by rw [hFX.out, hX] <;> rfl, fun h => absurd (by rw [hN0.out]; decide) h⟩⟩
                · replace hN0 := hide hN0
                  obtain rfl : bI = false := by rw [← hbI.out, hN0.out]; decide
                  go_wp2_with fail
                  go_meet
                  case rel => exact ⟨qb, hSt, hide ⟨fun h => absurd h (by rw [hN0.out]; decide), fun _ => hPb.out.2 (by rw [hN0.out]; decide)⟩⟩
                · replace hN0 := hide hN0
                  obtain rfl : bI = false := by rw [← hbI.out, hN0.out]; decide
                  go_wp2_with fail
                  go_meet
                  case rel => exact ⟨qb, hSt, hide ⟨fun h => absurd h (by rw [hN0.out]; decide), fun _ => hPb.out.2 (by rw [hN0.out]; decide)⟩⟩
              case rest =>
                clear hSt hPb hbI
                obtain ⟨qc, hSt, hPc⟩ := hcut
                generalize hwc : wc = xc at *
                clear hwc
                have f6 : xc.cell? ⟨LR, 1, none⟩ = some (.string N) := hSt.out.R.cell 1
                go_upto_if 99 with fail
                clear f6
                go_cut [] from 11 to 119 (fun x => ∃ q, Hid (StT w LI LR LM #[.int .i64 (op : Int), .int .i64 s, .int .i64 t, .int .i64 d, .int .i64 a, .int .i64 i] #[.string NM, .string N, .int .i64 (De.Dec.mj op : Nat), .int .i64 (De.Dec.mn op : Nat)] u3 ms q x) ∧ Hid (Pm [[83, 72], [83, 86], [73], [73, 85], [76, 85, 73]] N q q0 F))
                case first =>
                  rcases hF.out with ⟨hN0, hX⟩ | ⟨hN0, hX⟩ | ⟨hN0, hX⟩ | ⟨hN0, hX⟩ | ⟨hN0, hX⟩ | ⟨hN0, hX⟩
                  · rw [hN0]
                    replace hN0 := hide hN0
                    go_wp2_with fail
                    go_meet
                    case rel => exact ⟨qc, hSt, hide ⟨fun _ => hPc.out.1 (by rw [hN0.out]; decide), fun h => absurd (by rw [hN0.out]; decide) h⟩⟩
                  · rw [hN0]
                    replace hN0 := hide hN0
                    go_wp2_with fail
                    go_meet
                    case rel => exact ⟨qc, hSt, hide ⟨fun _ => hPc.out.1 (by rw [hN0.out]; decide), fun h => absurd (by rw [hN0.out]; decide) h⟩⟩
                  · rw [hN0]
                    replace hN0 := hide hN0
                    go_wp2_with fail
                    go_meet
                    case rel => exact ⟨qc, hSt, hide ⟨fun _ => hPc.out.1 (by rw [hN0.out]; decide), fun h => absurd (by rw [hN0.out]; decide) h⟩⟩
                  · rw [hN0]
                    replace hN0 := hide hN0
                    go_wp2_with fail
                    go_meet
                    case rel => exact ⟨qc, hSt, hide ⟨fun _ => hPc.out.1 (by rw [hN0.out]; decide), fun h => absurd (by rw [hN0.out]; decide) h⟩⟩
                  · rw [hN0]
                    replace hN0 := hide hN0
                    have hwr : IntKind.i64.wrap ((k : Int) + 1) = (k : Int) + 1 := by simp [IntKind.wrap, IntKind.bits, IntKind.signed]; omega
                    have hn1 : ¬ N6 < 1 := by decide
                    have hn2 : ¬ N6 < 2 := by decide
                    have hn3 : ¬ N6 < 3 := by decide
                    have hn4 : ¬ N6 < 4 := by decide
                    have hn5 : ¬ N6 < 5 := by decide
                    have hn6 : ¬ N6 < 6 := by decide
                    have hwi : IntKind.i64.wrap (i * 65536) = i * 65536 := by simp [IntKind.wrap, IntKind.bits, IntKind.signed]; have := hib.out; omega
                    have cw := hide (Wo.word_any (i * 65536))
                    go_wp2_with fail
                    replace hSt := hide hSt.out.drew
                    refine wp_region_held_drew (S := fun y => Box y LI #[.int .i64 (op : Int), .int .i64 s, .int .i64 t, .int .i64 d, .int .i64 a, .int .i64 i]) (by kernel_rfl) hSt.out.I (fun hHeld => ?_)
                    generalize World.drew xc = xd at *
                    refine wpAnyH_take (i := 0) (v := ?_) rfl (by kernel_rfl) (by kernel_rfl) (by kernel_rfl) (fun _ _ _ h => h) (Or.inl ⟨by rfl, ?_⟩) (by assumption) ?_
                    rotate_left
                    · intro y hSw
                      have l1 : y.cell? ⟨LI, 1, none⟩ = some (.int .i64 s) := hSw.cell 1; have l2 : y.cell? ⟨LI, 2, none⟩ = some (.int .i64 t) := hSw.cell 2; have l5 : y.cell? ⟨LI, 5, none⟩ = some (.int .i64 i) := hSw.cell 5
                      go_simp
                      try with_reducible rfl
                    try simp only [Act.put, List.setIfInBounds_toArray, List.set_cons_zero, List.set_cons_succ]
                    refine wpAnyH_take (i := 1) (v := ?_) rfl (by kernel_rfl) (by kernel_rfl) (by kernel_rfl) (fun _ _ _ h => h) (Or.inl ⟨by rfl, ?_⟩) (by assumption) ?_
                    rotate_left
                    · intro y hSw
                      have l1 : y.cell? ⟨LI, 1, none⟩ = some (.int .i64 s) := hSw.cell 1; have l2 : y.cell? ⟨LI, 2, none⟩ = some (.int .i64 t) := hSw.cell 2; have l5 : y.cell? ⟨LI, 5, none⟩ = some (.int .i64 i) := hSw.cell 5
                      go_simp
                      try with_reducible rfl
                    try simp only [Act.put, List.setIfInBounds_toArray, List.set_cons_zero, List.set_cons_succ]
                    refine wpAnyH_take (i := 2) (v := ?_) rfl (by kernel_rfl) (by kernel_rfl) (by kernel_rfl) (fun _ _ _ h => h) (Or.inl ⟨by rfl, ?_⟩) (by assumption) ?_
                    rotate_left
                    · intro y hSw
                      have l1 : y.cell? ⟨LI, 1, none⟩ = some (.int .i64 s) := hSw.cell 1; have l2 : y.cell? ⟨LI, 2, none⟩ = some (.int .i64 t) := hSw.cell 2; have l5 : y.cell? ⟨LI, 5, none⟩ = some (.int .i64 i) := hSw.cell 5
                      go_simp
                      try with_reducible rfl
                    try simp only [Act.put, List.setIfInBounds_toArray, List.set_cons_zero, List.set_cons_succ]
                    refine wpAnyH_take (i := 3) (v := ?_) rfl (by kernel_rfl) (by kernel_rfl) (by kernel_rfl) (fun _ _ _ h => h) (Or.inl ⟨by rfl, ?_⟩) (by assumption) ?_
                    rotate_left
                    · intro y hSw
                      have l1 : y.cell? ⟨LI, 1, none⟩ = some (.int .i64 s) := hSw.cell 1; have l2 : y.cell? ⟨LI, 2, none⟩ = some (.int .i64 t) := hSw.cell 2; have l5 : y.cell? ⟨LI, 5, none⟩ = some (.int .i64 i) := hSw.cell 5
                      go_simp
                      try with_reducible rfl
                    try simp only [Act.put, List.setIfInBounds_toArray, List.set_cons_zero, List.set_cons_succ]
                    refine wpAnyH_take (i := 4) (v := ?_) rfl (by kernel_rfl) (by kernel_rfl) (by kernel_rfl) (fun _ _ _ h => h) (Or.inl ⟨by rfl, ?_⟩) (by assumption) ?_
                    rotate_left
                    · intro y hSw
                      have l1 : y.cell? ⟨LI, 1, none⟩ = some (.int .i64 s) := hSw.cell 1; have l2 : y.cell? ⟨LI, 2, none⟩ = some (.int .i64 t) := hSw.cell 2; have l5 : y.cell? ⟨LI, 5, none⟩ = some (.int .i64 i) := hSw.cell 5
                      go_simp
                      try with_reducible rfl
                    try simp only [Act.put, List.setIfInBounds_toArray, List.set_cons_zero, List.set_cons_succ]
                    refine wpAnyH_take (i := 5) (v := ?_) rfl (by kernel_rfl) (by kernel_rfl) (by kernel_rfl) (fun _ _ _ h => h) (Or.inl ⟨by rfl, ?_⟩) (by assumption) ?_
                    rotate_left
                    · intro y hSw
                      have l1 : y.cell? ⟨LI, 1, none⟩ = some (.int .i64 s) := hSw.cell 1; have l2 : y.cell? ⟨LI, 2, none⟩ = some (.int .i64 t) := hSw.cell 2; have l5 : y.cell? ⟨LI, 5, none⟩ = some (.int .i64 i) := hSw.cell 5
                      go_simp
                      try with_reducible rfl
                    try simp only [Act.put, List.setIfInBounds_toArray, List.set_cons_zero, List.set_cons_succ]
                    refine wpAnyH_take (i := 7) (v := ?_) rfl (by kernel_rfl) (by kernel_rfl) (by kernel_rfl) (fun _ _ _ h => h) (Or.inl ⟨by rfl, ?_⟩) (by assumption) ?_
                    rotate_left
                    · intro y hSw
                      have l1 : y.cell? ⟨LI, 1, none⟩ = some (.int .i64 s) := hSw.cell 1; have l2 : y.cell? ⟨LI, 2, none⟩ = some (.int .i64 t) := hSw.cell 2; have l5 : y.cell? ⟨LI, 5, none⟩ = some (.int .i64 i) := hSw.cell 5
                      go_simp
                      try with_reducible rfl
                    try simp only [Act.put, List.setIfInBounds_toArray, List.set_cons_zero, List.set_cons_succ]
                    refine wpAnyH_take (i := 8) (v := ?_) rfl (by kernel_rfl) (by kernel_rfl) (by kernel_rfl) (fun _ _ _ h => h) (Or.inl ⟨by rfl, ?_⟩) (by assumption) ?_
                    rotate_left
                    · intro y hSw
                      have l1 : y.cell? ⟨LI, 1, none⟩ = some (.int .i64 s) := hSw.cell 1; have l2 : y.cell? ⟨LI, 2, none⟩ = some (.int .i64 t) := hSw.cell 2; have l5 : y.cell? ⟨LI, 5, none⟩ = some (.int .i64 i) := hSw.cell 5
                      go_simp
                      try with_reducible rfl
                    try simp only [Act.put, List.setIfInBounds_toArray, List.set_cons_zero, List.set_cons_succ]
                    refine wpAnyH_ready (rs := [6]) (by kernel_rfl) (by simp) ?_
                    refine AllReadyH.cons rfl (fun K hK => ?_) AllReadyH.nil
                    go_simp
                    refine (cw.out _).mono ?_
                    rintro e y7 ⟨rfl, rfl⟩
                    go_wp2_with fail
                    refine hK.out _ _ (hHeld) (fun hHeld => ?_)
                    clear hK K
                    try simp only [Act.put, List.setIfInBounds_toArray, List.set_cons_zero, List.set_cons_succ]
                    refine wpAnyH_take (i := 9) (v := ?_) rfl (by kernel_rfl) (by kernel_rfl) (by kernel_rfl) (fun _ _ _ h => h) (Or.inl ⟨by rfl, ?_⟩) (by assumption) ?_
                    rotate_left
                    · intro y hSw
                      have l1 : y.cell? ⟨LI, 1, none⟩ = some (.int .i64 s) := hSw.cell 1; have l2 : y.cell? ⟨LI, 2, none⟩ = some (.int .i64 t) := hSw.cell 2; have l5 : y.cell? ⟨LI, 5, none⟩ = some (.int .i64 i) := hSw.cell 5
                      go_simp
                      try with_reducible rfl
                    try simp only [Act.put, List.setIfInBounds_toArray, List.set_cons_zero, List.set_cons_succ]
                    refine wpAnyH_ready (rs := [10]) (by kernel_rfl) (by simp) ?_
                    refine AllReadyH.cons rfl (fun K hK => ?_) AllReadyH.nil
                    have hst := store_part _ LM 0 (cellsM ⟨kd, t, M0.a, M0.b, i * 65536 % 4294967296, (k : Int) + 1⟩) hSt.out.M.1 (by rw [hSt.out.M.2.1]; exact q1 _) rfl
                    rw [hSt.out.M.2.1, q3] at hst
                    go_simp
                    refine hK.out _ _ (hHeld.far LM (cellsM ⟨kd, t, M0.a, M0.b, i * 65536 % 4294967296, (k : Int) + 1⟩) (Nat.ne_of_lt hSt.out.lI)) (fun hHeld => ?_)
                    clear hK K
                    try simp only [Act.put, List.setIfInBounds_toArray, List.set_cons_zero, List.set_cons_succ]
                    replace hSt := hide (hSt.out.put ⟨kd, t, M0.a, M0.b, i * 65536 % 4294967296, (k : Int) + 1⟩)
                    clear hst hHeld
                    refine wpAnyH_done (by kernel_rfl) ?_ _
                    go_wp2_with fail
                    go_meet
                    case rel => exact ⟨⟨kd, t, M0.a, M0.b, i * 65536 % 4294967296, (k : Int) + 1⟩, hSt, hide ⟨fun _ => by rw [hFX.out, hX] <;> rfl, fun h => absurd (by rw [hN0.out]; decide) h⟩⟩
                  · rw [hN0]
                    replace hN0 := hide hN0
                    go_wp2_with fail
                    go_meet
                    case rel => exact ⟨qc, hSt, hide ⟨fun h => absurd h (by rw [hN0.out]; decide), fun _ => hPc.out.2 (by rw [hN0.out]; decide)⟩⟩
                case rest =>
                  clear hSt hPc
                  obtain ⟨qd, hSt, hPd⟩ := hcut
                  generalize hwc : wc = xd at *
                  clear hwc
                  have hqF : qd = F := by
                    rcases hF.out with ⟨hN0, hX⟩ | ⟨hN0, hX⟩ | ⟨hN0, hX⟩ | ⟨hN0, hX⟩ | ⟨hN0, hX⟩ | ⟨hN0, hX⟩
                    · exact hPd.out.1 (by rw [hN0]; decide)
                    · exact hPd.out.1 (by rw [hN0]; decide)
                    · exact hPd.out.1 (by rw [hN0]; decide)
                    · exact hPd.out.1 (by rw [hN0]; decide)
                    · exact hPd.out.1 (by rw [hN0]; decide)
                    · rw [hPd.out.2 (by rw [hN0]; decide), hFX.out, hX, hq0.out]; rfl
                  clear hPd
                  rw [hqF] at hSt
                  clear hqF
                  have g1 := hSt.out.M.1
                  have g2 := hSt.out.M.2.1
                  have g3 : xd.cell? ⟨LM, 1, none⟩ = some (.int .i64 F.d) := hSt.out.M.cell 1
                  have hT3' := hT3.out
                  rw [← hFX.out] at hT3'
                  by_cases hd : F.d = 0
                  · have nd : (F.d == 0) = true := by simpa using hd
                    rw [if_pos hd] at hT3'
                    have hT4 := hide hT3'
                    clear hT3' hd
                    go_upto_region 20 with fail
                    replace hSt := hide (hSt.out.put ⟨M0.k, M0.d, M0.a, M0.b, M0.m, (k : Int) + 1⟩)
                    clear g1 g2 g3
                    generalize World.setRow xd LM _ = Z2 at *
                    clear nd
                    have hN := hide (new_op1 Z2 (⟨M0.k, M0.d, M0.a, M0.b, M0.m, (k : Int) + 1⟩ : Mi))
                    have g1 := hSt.out.M.1
                    have g2 := hSt.out.M.2.1
                    have hbs := hSt.out.b.size
                    go_wp2_with (at_builtin; refine wpList_append_own _ rfl _ _ 23 rfl w.heap.size 28 i0 (.agg (cellsM M0)) 6 48 Tryd.underlying23 hi hz0 hz1 hz2 rfl (by decide) _ _ _ rfl (hSt.out.o.alloc _) ⟨Z2.heap.size, 0, none⟩ 1 1 (cellsM (⟨M0.k, M0.d, M0.a, M0.b, M0.m, (k : Int) + 1⟩ : Mi)).toList rfl rfl hN.out.1 hN.out.2 (by unfold maxLen; omega) (by omega) (by simp; omega) ?_)
                    intro v' w4 hown' hgrow _
                    have b4 : Hid (Below w.heap.size w w4) := hide (by
                      refine (hSt.out.b.alloc hbs _).grown hgrow (by simp; omega) (fun k hk => ?_)
                      rcases hSt.out.o.2 with ⟨rfl, -⟩ | ⟨g, cap, cur, rfl, hg, -⟩
                      · cases hk
                      · cases hk; exact hg)
                    have hown4 : Hid (w4.ownsRow w.heap.size 28 6 v' (ms ++ [(⟨M0.k, M0.d, M0.a, M0.b, M0.m, (k : Int) + 1⟩ : Mi)]).length (flat (ms ++ [(⟨M0.k, M0.d, M0.a, M0.b, M0.m, (k : Int) + 1⟩ : Mi)]))) := hide (by
                      rw [flat_snoc, List.length_append, hms]
                      exact hown')
                    obtain ⟨g', cap', rfl⟩ := ownsRow_succ hown'
                    have hl4 : (ms ++ [(⟨M0.k, M0.d, M0.a, M0.b, M0.m, (k : Int) + 1⟩ : Mi)]).length = k + 1 := by simp [hms]
                    clear hown' hgrow hSt hN g1 g2 hbs
                    go_wp2
                    go_roundw
                    case rel => exact ⟨k + 1, _, by omega, by omega, by go_num, hl4, hT4, hown4, b4⟩
                    case measure => simp [intOf]; omega
                  · have nd : (F.d == 0) = false := by simpa using hd
                    rw [if_neg hd] at hT3'
                    have hT4 := hide hT3'
                    clear hT3' hd
                    go_upto_region 20 with fail
                    clear g1 g2 g3 nd
                    have hN := hide (new_op1 xd (F : Mi))
                    have g1 := hSt.out.M.1
                    have g2 := hSt.out.M.2.1
                    have hbs := hSt.out.b.size
                    go_wp2_with (at_builtin; refine wpList_append_own _ rfl _ _ 23 rfl w.heap.size 28 i0 (.agg (cellsM M0)) 6 48 Tryd.underlying23 hi hz0 hz1 hz2 rfl (by decide) _ _ _ rfl (hSt.out.o.alloc _) ⟨xd.heap.size, 0, none⟩ 1 1 (cellsM (F : Mi)).toList rfl rfl hN.out.1 hN.out.2 (by unfold maxLen; omega) (by omega) (by simp; omega) ?_)
                    intro v' w4 hown' hgrow _
                    have b4 : Hid (Below w.heap.size w w4) := hide (by
                      refine (hSt.out.b.alloc hbs _).grown hgrow (by simp; omega) (fun k hk => ?_)
                      rcases hSt.out.o.2 with ⟨rfl, -⟩ | ⟨g, cap, cur, rfl, hg, -⟩
                      · cases hk
                      · cases hk; exact hg)
                    have hown4 : Hid (w4.ownsRow w.heap.size 28 6 v' (ms ++ [(F : Mi)]).length (flat (ms ++ [(F : Mi)]))) := hide (by
                      rw [flat_snoc, List.length_append, hms]
                      exact hown')
                    obtain ⟨g', cap', rfl⟩ := ownsRow_succ hown'
                    have hl4 : (ms ++ [(F : Mi)]).length = k + 1 := by simp [hms]
                    clear hown' hgrow hSt hN g1 g2 hbs
                    go_wp2
                    go_roundw
                    case rel => exact ⟨k + 1, _, by omega, by omega, by go_num, hl4, hT4, hown4, b4⟩
                    case measure => simp [intOf]; omega
      · have hpb : plB ⟨(op : Int), s, t, d, a, i, e⟩ = false := by
          rw [Bool.eq_false_iff]
          intro h
          simp [plB] at h
          exact hpl h
        have hF : Hid (transV l = ms) := hide (by rw [hT2.out, if_neg (by rw [hpb]; decide)]; simp)
        clear hT2 hfm
        by_cases he : e = 0
        · subst he
          have hnp : ¬ isPl (op : Int) := fun h => hpl ⟨rfl, h⟩
          have hk0 : rkindV (op : Int) = -1 := by unfold rkindV; rw [if_neg hnp]
          rw [hk0]
          clear hpl hnp hpb
          go_wp2
          go_ret
          refine ⟨⟨_, rfl, ?_⟩, hb2.out⟩
          rw [hF.out]
          exact hO2.out
        · have ne : (e == 0) = false := by simpa using he
          have ne2 : (e != 0) = true := by simpa using he
          generalize rkindV (op : Int) = RK at *
          clear hpl hpb
          go_wp2
          go_ret
          refine ⟨⟨_, rfl, ?_⟩, hb2.out⟩
          rw [hF.out]
          exact hO2.out
    · have hF : Hid (transV l = ms) := hide (by
        rw [hT.out, List.drop_eq_nil_of_le (by rw [List.length_take]; have := hn.out; omega)]
        simp [transF])
      by_cases hkn2 : k < n
      · have dk : decide ((k : Int) < (n : Int)) = true := by simp; omega
        have dk2 : decide ((k : Int) < 16) = false := by simp; omega
        clear hlt
        go_wp2
        go_ret
        refine ⟨⟨_, rfl, ?_⟩, hb.out⟩
        rw [hF.out]
        exact hO.out
      · have dk : decide ((k : Int) < (n : Int)) = false := by simp; omega
        clear hlt
        go_wp2
        go_ret
        refine ⟨⟨_, rfl, ?_⟩, hb.out⟩
        rw [hF.out]
        exact hO.out

end Go.Proofs.YtbgklaahmmfpjaaDoor.Ir
