/- Operations in two parts do what all of them do; those up to no instruction do nothing; Count is each one's place. -/
import Derived.Test.YtfnmihjchlljbaaDoorQIrPartsM
namespace Go.Proofs.YtfnmihjchlljbaaDoor.Ir
open Go.RowKit
set_option linter.unusedVariables false
set_option maxRecDepth 100000
set_option linter.unusedSimpArgs false

set_option maxHeartbeats 8000000 in
theorem parts_cut {w : World} (tb : De.Tabs w) {ad : Option Addr} {n c K : Nat} {ws : List Int} (hKc : K ≤ c) (hK16 : K ≤ 16) (hws : IsWords w (.slice ad K c) ws) (hlw : ws.length = K) (hnc : n ≤ c) (hKn : (n ≤ 16 ∧ K = n) ∨ (16 < n ∧ K = 16)) (R : Nat → Int) (hR : ∀ k, Cp.W32 (R k)) (cut : Int) :
    Calls Tryd.prog 6 #[.slice ad n c, .agg (cellsX R), .int .i64 cut] w fun e w' => e = .returned (.bool true) ∧ Below w.heap.size w w' := by
  obtain ⟨r1, r2, r3, r4, r5, r6, r7, r8, r9⟩ := rowRules
  obtain ⟨s1, s2, s3, s4, s5, s6, s7, s8, s9, s10⟩ := irSizes
  obtain ⟨q1, q2, q3, q4, q5, q6⟩ := irWhole
  obtain ⟨k1, k2⟩ := rowSets
  have e1 := and65535 cut
  have hR0 : ∀ k, Cp.W32 (putR R 0 0 k) := putR_w hR Cp.w0 0
  have hz := set_X R 0 (by omega) 0
  have gz := get_X R 0 (by omega)
  have b0 := Box.new w (cellsX R) 32
  have g0 := grow w (.cells (cellsX R) 32)
  have ct := hide (translate_any (hws.on g0) (tb.on g0))
  obtain ⟨hl1, hl2⟩ := transV_len ws
  have hpe := hide (parts_eq ws (putR R 0 0) rfl)
  have htc := hide (fun i m h => transF_c (ws.take 16) 0 i m h)
  have htw := hide (transV_w ws)
  change Hid (∀ (i : Nat) (m : Mi), (transV ws)[i]? = some m → _) at htc
  generalize transV ws = ms at *
  replace b0 := hide b0
  replace g0 := hide g0
  replace tb := hide tb
  replace hR0 := hide hR0
  clear hws hR
  rcases hKn with ⟨hn16, rfl⟩ | ⟨hn16, rfl⟩
  · skip
    go_enter Tryd.func6, Tryd.ntmps6
    go_wp2_with fail
    refine ct.out.mono ?_
    rintro e w1 ⟨⟨mv, rfl, ho⟩, h1⟩
    have b1 := b0.out.on h1
    have hB1 := onto g0.out (Nat.le_refl _) h1
    have hx0 : isRow w1 w.heap.size = true := b1.1
    have hx1 : rowAt w1 w.heap.size = cellsX R := b1.2.1
    have hx2 := (b1.cell 0).trans gz
    have hx3 := b1.free 0
    have hx4 := setCell_row w.heap.size w1 0 (.int .u32 0) b1.1
    rw [hx1, hz] at hx4
    obtain ⟨kk, hkk⟩ : ∃ kk : Nat, (cut % 65536) % ((ms.length : Int) + 1) = (kk : Int) := ⟨((cut % 65536) % ((ms.length : Int) + 1)).toNat, by rw [Int.toNat_of_nonneg (Int.emod_nonneg _ (by omega))]⟩
    have hkl : kk ≤ ms.length := by
      have := Int.emod_lt_of_pos (cut % 65536) (show (0 : Int) < (ms.length : Int) + 1 by omega)
      omega
    have e2 : (cut % 65536).tmod ((ms.length : Int) + 1) = (kk : Int) := by rw [Int.tmod_eq_emod_of_nonneg (by omega)]; exact hkk
    obtain ⟨pe1, pe2, pe3⟩ := hpe.out kk hkl
    have bX := b1.set (cellsX (putR R 0 0))
    have hBX := below_setRow hB1 (Nat.le_refl _) (cellsX (putR R 0 0))
    have tX := tb.out.on hBX
    have hp0 : putR (putR R 0 0) 0 0 = putR R 0 0 := putR_same rfl
    obtain ⟨Fk, eFk⟩ : ∃ F, untilV 9223372036854775807 (ms.take kk) (putR R 0 0) = F := ⟨_, rfl⟩
    obtain ⟨F, eF⟩ : ∃ F, untilV 9223372036854775807 ms (putR R 0 0) = F := ⟨_, rfl⟩
    have hFw : ∀ k, Cp.W32 (Fk k) := by rw [← eFk]; exact until_w _ (htw.out.take kk) _ hR0.out
    rw [eFk] at pe1 pe3
    rw [eF] at pe1
    have hnX := neqX
    rcases ho.2 with ⟨rfl, hn0⟩ | ⟨g, cap, cur, rfl, hg, hh, hcc, hcm, hs, ht⟩
    · skip
      have hms : ms = [] := List.length_eq_zero_iff.1 hn0
      subst hms
      have e3 : (cut % 65536).tmod 1 = 0 := by rw [Int.tmod_eq_emod_of_nonneg (by omega)]; omega
      obtain ⟨hr, hhr⟩ : ∃ l : List (Nat × (Nat → Int)), l = [(w.heap.size, putR R 0 0)] := ⟨_, rfl⟩
      have hS : (∀ p ∈ hr, Box (w1.setRow w.heap.size (cellsX (putR R 0 0))).drew p.1 (cellsX p.2)) ∧ (∀ p ∈ ([] : List (Value × List Mi)), IsOps (w1.setRow w.heap.size (cellsX (putR R 0 0))).drew p.1 p.2) ∧ De.Tabs (w1.setRow w.heap.size (cellsX (putR R 0 0))).drew ∧ Below w.heap.size w (w1.setRow w.heap.size (cellsX (putR R 0 0))).drew := by
        refine ⟨fun p hp => ?_, fun p hp => by simp at hp, tX.drew, hBX.drew⟩
        rw [hhr] at hp; simp at hp; subst hp; exact bX
      obtain ⟨rd, rc⟩ := Held.reads (w := w) (l := hr) (o := []) (b := w.heap.size) (R := putR R 0 0) (by rw [hhr]; simp)
      have c1 := hide (fun y : Held w hr [] => run_any (w := y.x) (v := .slice none 0 0) (l := []) (Or.inl ⟨_, _, rfl, rfl⟩) (fun i m h => by simp at h) (putR R 0 0) hR0.out)
      have c4 := hide (fun y : Held w hr [] => until_any (w := y.x) (v := .slice none 0 0) (l := []) (Or.inl ⟨_, _, rfl, rfl⟩) (fun i m h => by simp at h) (putR R 0 0) hR0.out 0)
      simp only [untilV, hp0] at c1 c4
      replace hS := hide hS
      replace rd := hide rd
      replace hnX := hide hnX
      clear hpe ct b0 g0 bX tX hhr hp0 eFk eF hFw pe1 pe2 pe3 b1 rc hkk hkl e2 ho hn0
      go_wp2_with fail
      clear hx0 hx1 hx2 hx3 hx4 hz gz
      refine region_calm (fun x => ∃ y : Held w hr [], x = y.x) (by kernel_rfl) (by kernel_rfl) ⟨⟨_, hS.out⟩, rfl⟩ ?_
      replace rd := rd.out
      replace hnX := hnX.out
      repeat (go_big_quiet_step (first
        | with_reducible rfl
        | (go_at_call 15; with_reducible refine (c1.out _).mono ?_; rintro e wf ⟨rfl, bf⟩; exact ⟨rfl, Held.on _ bf, rfl⟩)
        | (go_at_call 16; with_reducible refine (c4.out _).mono ?_; rintro e wf ⟨rfl, bf⟩; exact ⟨rfl, Held.on _ bf, rfl⟩)))
      refine wpQuiet_nil ?_
      rintro _ ⟨y, rfl⟩
      clear c1 c4 rd hnX
      go_wp2_with fail
      go_loopw [9] (fun i wr => i = .int .i64 0 ∧ Hid (∃ y : Held w hr [], wr = y.x)) (fun _ _ => 0)
      case atStart => exact ⟨rfl, hide ⟨y, rfl⟩⟩
      case round =>
        obtain ⟨rfl, hy⟩ := hrel
        obtain ⟨y, rfl⟩ := hy.out
        have cf := hide (fixed_any y.x y.h.2.2.1)
        go_wp2_with fail
        refine cf.out.mono ?_
        rintro e w9 ⟨rfl, h9⟩
        have hB9 := onto y.h.2.2.2 (Nat.le_refl _) h9
        clear cf h9
        go_wp2
        go_ret
        exact ⟨rfl, hB9⟩
    · have hne : g ≠ w.heap.size := by simp at hg; omega
      have hoX : (w1.setRow w.heap.size (cellsX (putR R 0 0))).ownsRow (w.alloc (.cells (cellsX R) 32)).heap.size 28 6 (.slice (some ⟨g, 0, none⟩) ms.length cap) ms.length (flat ms) :=
        ⟨ho.1, Or.inr ⟨g, cap, cur, rfl, hg, by rw [setRow_other w1 w.heap.size g _ hne]; exact hh, hcc, hcm, hs, ht⟩⟩
      have hos := ops_of_own hoX
      have hod0 := own_drop hoX kk hkl (cap - kk)
      have hot := hos.cut kk cap hkl
      have hdn : ms.length ≤ kk → ms.drop kk = [] := fun h => List.drop_eq_nil_of_le h
      clear ho hoX hh hs ht hcm
      generalize hN : ms.length = N at *
      by_cases hck : cap = kk
      · obtain rfl : N = kk := by omega
        subst hck
        have hod : IsOps (w1.setRow w.heap.size (cellsX (putR R 0 0))) (.slice (some ⟨g, 0, none⟩) 0 0) (ms.drop cap) := Or.inl ⟨_, _, hdn (Nat.le_refl _), rfl⟩
        have hFF : Fk = F := by rw [← eFk, ← eF, List.take_of_length_le (by omega)]
        subst hFF
        clear hod0 hdn
        obtain ⟨hr, hhr⟩ : ∃ l : List (Nat × (Nat → Int)), l = [(w.heap.size, putR R 0 0)] := ⟨_, rfl⟩
        obtain ⟨ho', hho⟩ : ∃ l : List (Value × List Mi), l = [(.slice (some ⟨g, 0, none⟩) cap cap, ms), (.slice (some ⟨g, 0, none⟩) 0 0, ms.drop cap), (.slice (some ⟨g, 0, none⟩) cap cap, ms.take cap)] := ⟨_, rfl⟩
        have hS : (∀ p ∈ hr, Box (w1.setRow w.heap.size (cellsX (putR R 0 0))).drew p.1 (cellsX p.2)) ∧ (∀ p ∈ ho', IsOps (w1.setRow w.heap.size (cellsX (putR R 0 0))).drew p.1 p.2) ∧ De.Tabs (w1.setRow w.heap.size (cellsX (putR R 0 0))).drew ∧ Below w.heap.size w (w1.setRow w.heap.size (cellsX (putR R 0 0))).drew := by
          refine ⟨fun p hp => ?_, fun p hp => ?_, tX.drew, hBX.drew⟩
          · rw [hhr] at hp; simp at hp; subst hp; exact bX
          · rw [hho] at hp; simp only [List.mem_cons, List.not_mem_nil, or_false] at hp
            rcases hp with rfl | rfl | rfl
            · exact hos.on (Below.refl _ _).drew
            · exact hod.on (Below.refl _ _).drew
            · exact hot.on (Below.refl _ _).drew
        obtain ⟨rd, rc⟩ := Held.reads (w := w) (l := hr) (o := ho') (b := w.heap.size) (R := putR R 0 0) (by rw [hhr]; simp)
        have o1 := Held.ops (w := w) (l := hr) (o := ho') (v := .slice (some ⟨g, 0, none⟩) cap cap) (ms := ms) (by rw [hho]; simp)
        have o2 := Held.ops (w := w) (l := hr) (o := ho') (v := .slice (some ⟨g, 0, none⟩) 0 0) (ms := ms.drop cap) (by rw [hho]; simp)
        have o3 := Held.ops (w := w) (l := hr) (o := ho') (v := .slice (some ⟨g, 0, none⟩) cap cap) (ms := ms.take cap) (by rw [hho]; simp)
        have c1 := hide (fun y : Held w hr ho' => run_any (o3 y) (htw.out.take cap) (putR R 0 0) hR0.out)
        have c2 := hide (fun y : Held w hr ho' => run_any (o2 y) (wordsM_drop htw.out cap) Fk hFw)
        have c3 := hide (fun y : Held w hr ho' => run_any (o1 y) htw.out (putR R 0 0) hR0.out)
        have c4 := hide (fun y : Held w hr ho' => until_any (o1 y) htw.out (putR R 0 0) hR0.out 0)
        have c5 := hide (fun y : Held w hr ho' => until_any (o1 y) htw.out (putR R 0 0) hR0.out (cap : Int))
        rw [hp0, eFk] at c1
        rw [pe1] at c2
        rw [hp0, eF] at c3
        rw [hp0, pe2] at c4
        rw [hp0, pe3] at c5
        replace hN := hide hN
        replace hkk := hide hkk
        have dd : decide ((K : Int) < (cap : Int)) = false := by simp; omega
        have nz : ¬ (cap : Int) + 1 = 0 := by omega
        replace hS := hide hS
        replace rd := hide rd
        replace hnX := hide hnX
        replace o1 := hide o1
        clear hpe ct b0 g0 hos hod hot bX tX hhr hho o2 o3 hp0 eFk eF hFw pe1 pe2 pe3 b1 rc
        go_wp2_with fail
        clear hx0 hx1 hx2 hx3 hx4 hz gz
        refine region_calm (fun x => ∃ y : Held w hr ho', x = y.x) (by kernel_rfl) (by kernel_rfl) ⟨⟨_, hS.out⟩, rfl⟩ ?_
        replace rd := rd.out
        replace hnX := hnX.out
        repeat (go_big_quiet_step (first
          | with_reducible rfl
          | (go_at_call 15; with_reducible refine (c1.out _).mono ?_; rintro e wf ⟨rfl, bf⟩; exact ⟨rfl, Held.on _ bf, rfl⟩)
          | (go_at_call 15; with_reducible refine (c2.out _).mono ?_; rintro e wf ⟨rfl, bf⟩; exact ⟨rfl, Held.on _ bf, rfl⟩)
          | (go_at_call 15; with_reducible refine (c3.out _).mono ?_; rintro e wf ⟨rfl, bf⟩; exact ⟨rfl, Held.on _ bf, rfl⟩)
          | (go_at_call 16; with_reducible refine (c4.out _).mono ?_; rintro e wf ⟨rfl, bf⟩; exact ⟨rfl, Held.on _ bf, rfl⟩)
          | (go_at_call 16; with_reducible refine (c5.out _).mono ?_; rintro e wf ⟨rfl, bf⟩; exact ⟨rfl, Held.on _ bf, rfl⟩)))
        refine wpQuiet_nil ?_
        rintro _ ⟨y0, rfl⟩
        clear c1 c2 c3 c4 c5 rd hnX
        go_wp2_with fail
        go_loopw [9] (fun i wr => ∃ k : Nat, k ≤ cap ∧ i = .int .i64 (k : Int) ∧ Hid (∃ y : Held w hr ho', wr = y.x)) (fun i _ => cap - (intOf i).toNat)
        case atStart => exact ⟨0, Nat.zero_le _, rfl, hide ⟨y0, rfl⟩⟩
        case round =>
          obtain ⟨k, hk, rfl, hy⟩ := hrel
          obtain ⟨y, rfl⟩ := hy.out
          by_cases hlt : k < cap
          · have dk : decide ((k : Int) < (cap : Int)) = true := by simp; omega
            obtain ⟨m, hm0⟩ : ∃ m, ms[k]? = some m := ⟨ms[k]'(by have := hN.out; omega), List.getElem?_eq_getElem _⟩
            have hcell : y.x.cell? ⟨g, k * N6 + 5, none⟩ = some (.int .i64 ((k : Int) + 1)) := by
              rcases o1.out y with ⟨a, c0, e, -⟩ | ⟨g', o, c0, e, hl, hg, hm⟩
              · rw [e] at hm0; simp at hm0
              · cases e
                have h5 := hm k m hm0 5 (by decide)
                have hc := htc.out k m hm0
                rw [show (0 + k * 6 + 5 : Nat) = k * N6 + 5 by unfold N6; omega] at h5
                rw [h5]
                show some (Value.int .i64 m.c) = _
                rw [hc]
                simp
            clear hm0
            go_wp2
            go_roundw
            case rel => exact ⟨k + 1, by omega, by go_num, hide ⟨y, rfl⟩⟩
            case measure => simp [intOf]; omega
          · have dk : decide ((k : Int) < (cap : Int)) = false := by simp; omega
            have cf := hide (fixed_any y.x y.h.2.2.1)
            go_wp2_with fail
            refine cf.out.mono ?_
            rintro e w9 ⟨rfl, h9⟩
            have hB9 := onto y.h.2.2.2 (Nat.le_refl _) h9
            clear cf h9
            go_wp2
            go_ret
            exact ⟨rfl, hB9⟩
      · have hod : IsOps (w1.setRow w.heap.size (cellsX (putR R 0 0))) (.slice (some ⟨g, kk * N6, none⟩) (N - kk) (cap - kk)) (ms.drop kk) := hod0
        clear hod0 hdn
        obtain ⟨hr, hhr⟩ : ∃ l : List (Nat × (Nat → Int)), l = [(w.heap.size, putR R 0 0)] := ⟨_, rfl⟩
        obtain ⟨ho', hho⟩ : ∃ l : List (Value × List Mi), l = [(.slice (some ⟨g, 0, none⟩) N cap, ms), (.slice (some ⟨g, kk * N6, none⟩) (N - kk) (cap - kk), ms.drop kk), (.slice (some ⟨g, 0, none⟩) kk cap, ms.take kk)] := ⟨_, rfl⟩
        have hS : (∀ p ∈ hr, Box (w1.setRow w.heap.size (cellsX (putR R 0 0))).drew p.1 (cellsX p.2)) ∧ (∀ p ∈ ho', IsOps (w1.setRow w.heap.size (cellsX (putR R 0 0))).drew p.1 p.2) ∧ De.Tabs (w1.setRow w.heap.size (cellsX (putR R 0 0))).drew ∧ Below w.heap.size w (w1.setRow w.heap.size (cellsX (putR R 0 0))).drew := by
          refine ⟨fun p hp => ?_, fun p hp => ?_, tX.drew, hBX.drew⟩
          · rw [hhr] at hp; simp at hp; subst hp; exact bX
          · rw [hho] at hp; simp only [List.mem_cons, List.not_mem_nil, or_false] at hp
            rcases hp with rfl | rfl | rfl
            · exact hos.on (Below.refl _ _).drew
            · exact hod.on (Below.refl _ _).drew
            · exact hot.on (Below.refl _ _).drew
        obtain ⟨rd, rc⟩ := Held.reads (w := w) (l := hr) (o := ho') (b := w.heap.size) (R := putR R 0 0) (by rw [hhr]; simp)
        have o1 := Held.ops (w := w) (l := hr) (o := ho') (v := .slice (some ⟨g, 0, none⟩) N cap) (ms := ms) (by rw [hho]; simp)
        have o2 := Held.ops (w := w) (l := hr) (o := ho') (v := .slice (some ⟨g, kk * N6, none⟩) (N - kk) (cap - kk)) (ms := ms.drop kk) (by rw [hho]; simp)
        have o3 := Held.ops (w := w) (l := hr) (o := ho') (v := .slice (some ⟨g, 0, none⟩) kk cap) (ms := ms.take kk) (by rw [hho]; simp)
        have c1 := hide (fun y : Held w hr ho' => run_any (o3 y) (htw.out.take kk) (putR R 0 0) hR0.out)
        have c2 := hide (fun y : Held w hr ho' => run_any (o2 y) (wordsM_drop htw.out kk) Fk hFw)
        have c3 := hide (fun y : Held w hr ho' => run_any (o1 y) htw.out (putR R 0 0) hR0.out)
        have c4 := hide (fun y : Held w hr ho' => until_any (o1 y) htw.out (putR R 0 0) hR0.out 0)
        have c5 := hide (fun y : Held w hr ho' => until_any (o1 y) htw.out (putR R 0 0) hR0.out (kk : Int))
        rw [hp0, eFk] at c1
        rw [pe1] at c2
        rw [hp0, eF] at c3
        rw [hp0, pe2] at c4
        rw [hp0, pe3] at c5
        replace hN := hide hN
        replace hkk := hide hkk
        have dd : decide ((K : Int) < (N : Int)) = false := by simp; omega
        have nz : ¬ (N : Int) + 1 = 0 := by omega
        replace hS := hide hS
        replace rd := hide rd
        replace hnX := hide hnX
        replace o1 := hide o1
        clear hpe ct b0 g0 hos hod hot bX tX hhr hho o2 o3 hp0 eFk eF hFw pe1 pe2 pe3 b1 rc
        go_wp2_with fail
        clear hx0 hx1 hx2 hx3 hx4 hz gz
        refine region_calm (fun x => ∃ y : Held w hr ho', x = y.x) (by kernel_rfl) (by kernel_rfl) ⟨⟨_, hS.out⟩, rfl⟩ ?_
        replace rd := rd.out
        replace hnX := hnX.out
        repeat (go_big_quiet_step (first
          | with_reducible rfl
          | (go_at_call 15; with_reducible refine (c1.out _).mono ?_; rintro e wf ⟨rfl, bf⟩; exact ⟨rfl, Held.on _ bf, rfl⟩)
          | (go_at_call 15; with_reducible refine (c2.out _).mono ?_; rintro e wf ⟨rfl, bf⟩; exact ⟨rfl, Held.on _ bf, rfl⟩)
          | (go_at_call 15; with_reducible refine (c3.out _).mono ?_; rintro e wf ⟨rfl, bf⟩; exact ⟨rfl, Held.on _ bf, rfl⟩)
          | (go_at_call 16; with_reducible refine (c4.out _).mono ?_; rintro e wf ⟨rfl, bf⟩; exact ⟨rfl, Held.on _ bf, rfl⟩)
          | (go_at_call 16; with_reducible refine (c5.out _).mono ?_; rintro e wf ⟨rfl, bf⟩; exact ⟨rfl, Held.on _ bf, rfl⟩)))
        refine wpQuiet_nil ?_
        rintro _ ⟨y0, rfl⟩
        clear c1 c2 c3 c4 c5 rd hnX
        go_wp2_with fail
        go_loopw [9] (fun i wr => ∃ k : Nat, k ≤ N ∧ i = .int .i64 (k : Int) ∧ Hid (∃ y : Held w hr ho', wr = y.x)) (fun i _ => N - (intOf i).toNat)
        case atStart => exact ⟨0, Nat.zero_le _, rfl, hide ⟨y0, rfl⟩⟩
        case round =>
          obtain ⟨k, hk, rfl, hy⟩ := hrel
          obtain ⟨y, rfl⟩ := hy.out
          by_cases hlt : k < N
          · have dk : decide ((k : Int) < (N : Int)) = true := by simp; omega
            obtain ⟨m, hm0⟩ : ∃ m, ms[k]? = some m := ⟨ms[k]'(by have := hN.out; omega), List.getElem?_eq_getElem _⟩
            have hcell : y.x.cell? ⟨g, k * N6 + 5, none⟩ = some (.int .i64 ((k : Int) + 1)) := by
              rcases o1.out y with ⟨a, c0, e, -⟩ | ⟨g', o, c0, e, hl, hg, hm⟩
              · rw [e] at hm0; simp at hm0
              · cases e
                have h5 := hm k m hm0 5 (by decide)
                have hc := htc.out k m hm0
                rw [show (0 + k * 6 + 5 : Nat) = k * N6 + 5 by unfold N6; omega] at h5
                rw [h5]
                show some (Value.int .i64 m.c) = _
                rw [hc]
                simp
            clear hm0
            go_wp2
            go_roundw
            case rel => exact ⟨k + 1, by omega, by go_num, hide ⟨y, rfl⟩⟩
            case measure => simp [intOf]; omega
          · have dk : decide ((k : Int) < (N : Int)) = false := by simp; omega
            have cf := hide (fixed_any y.x y.h.2.2.1)
            go_wp2_with fail
            refine cf.out.mono ?_
            rintro e w9 ⟨rfl, h9⟩
            have hB9 := onto y.h.2.2.2 (Nat.le_refl _) h9
            clear cf h9
            go_wp2
            go_ret
            exact ⟨rfl, hB9⟩
  · skip
    go_enter Tryd.func6, Tryd.ntmps6
    go_wp2_with fail
    refine ct.out.mono ?_
    rintro e w1 ⟨⟨mv, rfl, ho⟩, h1⟩
    have b1 := b0.out.on h1
    have hB1 := onto g0.out (Nat.le_refl _) h1
    have hx0 : isRow w1 w.heap.size = true := b1.1
    have hx1 : rowAt w1 w.heap.size = cellsX R := b1.2.1
    have hx2 := (b1.cell 0).trans gz
    have hx3 := b1.free 0
    have hx4 := setCell_row w.heap.size w1 0 (.int .u32 0) b1.1
    rw [hx1, hz] at hx4
    obtain ⟨kk, hkk⟩ : ∃ kk : Nat, (cut % 65536) % ((ms.length : Int) + 1) = (kk : Int) := ⟨((cut % 65536) % ((ms.length : Int) + 1)).toNat, by rw [Int.toNat_of_nonneg (Int.emod_nonneg _ (by omega))]⟩
    have hkl : kk ≤ ms.length := by
      have := Int.emod_lt_of_pos (cut % 65536) (show (0 : Int) < (ms.length : Int) + 1 by omega)
      omega
    have e2 : (cut % 65536).tmod ((ms.length : Int) + 1) = (kk : Int) := by rw [Int.tmod_eq_emod_of_nonneg (by omega)]; exact hkk
    obtain ⟨pe1, pe2, pe3⟩ := hpe.out kk hkl
    have bX := b1.set (cellsX (putR R 0 0))
    have hBX := below_setRow hB1 (Nat.le_refl _) (cellsX (putR R 0 0))
    have tX := tb.out.on hBX
    have hp0 : putR (putR R 0 0) 0 0 = putR R 0 0 := putR_same rfl
    obtain ⟨Fk, eFk⟩ : ∃ F, untilV 9223372036854775807 (ms.take kk) (putR R 0 0) = F := ⟨_, rfl⟩
    obtain ⟨F, eF⟩ : ∃ F, untilV 9223372036854775807 ms (putR R 0 0) = F := ⟨_, rfl⟩
    have hFw : ∀ k, Cp.W32 (Fk k) := by rw [← eFk]; exact until_w _ (htw.out.take kk) _ hR0.out
    rw [eFk] at pe1 pe3
    rw [eF] at pe1
    have hnX := neqX
    rcases ho.2 with ⟨rfl, hn0⟩ | ⟨g, cap, cur, rfl, hg, hh, hcc, hcm, hs, ht⟩
    · skip
      have hms : ms = [] := List.length_eq_zero_iff.1 hn0
      subst hms
      have e3 : (cut % 65536).tmod 1 = 0 := by rw [Int.tmod_eq_emod_of_nonneg (by omega)]; omega
      obtain ⟨hr, hhr⟩ : ∃ l : List (Nat × (Nat → Int)), l = [(w.heap.size, putR R 0 0)] := ⟨_, rfl⟩
      have hS : (∀ p ∈ hr, Box (w1.setRow w.heap.size (cellsX (putR R 0 0))).drew p.1 (cellsX p.2)) ∧ (∀ p ∈ ([] : List (Value × List Mi)), IsOps (w1.setRow w.heap.size (cellsX (putR R 0 0))).drew p.1 p.2) ∧ De.Tabs (w1.setRow w.heap.size (cellsX (putR R 0 0))).drew ∧ Below w.heap.size w (w1.setRow w.heap.size (cellsX (putR R 0 0))).drew := by
        refine ⟨fun p hp => ?_, fun p hp => by simp at hp, tX.drew, hBX.drew⟩
        rw [hhr] at hp; simp at hp; subst hp; exact bX
      obtain ⟨rd, rc⟩ := Held.reads (w := w) (l := hr) (o := []) (b := w.heap.size) (R := putR R 0 0) (by rw [hhr]; simp)
      have c1 := hide (fun y : Held w hr [] => run_any (w := y.x) (v := .slice none 0 0) (l := []) (Or.inl ⟨_, _, rfl, rfl⟩) (fun i m h => by simp at h) (putR R 0 0) hR0.out)
      have c4 := hide (fun y : Held w hr [] => until_any (w := y.x) (v := .slice none 0 0) (l := []) (Or.inl ⟨_, _, rfl, rfl⟩) (fun i m h => by simp at h) (putR R 0 0) hR0.out 0)
      simp only [untilV, hp0] at c1 c4
      replace hS := hide hS
      replace rd := hide rd
      replace hnX := hide hnX
      clear hpe ct b0 g0 bX tX hhr hp0 eFk eF hFw pe1 pe2 pe3 b1 rc hkk hkl e2 ho hn0
      go_wp2_with fail
      clear hx0 hx1 hx2 hx3 hx4 hz gz
      refine region_calm (fun x => ∃ y : Held w hr [], x = y.x) (by kernel_rfl) (by kernel_rfl) ⟨⟨_, hS.out⟩, rfl⟩ ?_
      replace rd := rd.out
      replace hnX := hnX.out
      repeat (go_big_quiet_step (first
        | with_reducible rfl
        | (go_at_call 15; with_reducible refine (c1.out _).mono ?_; rintro e wf ⟨rfl, bf⟩; exact ⟨rfl, Held.on _ bf, rfl⟩)
        | (go_at_call 16; with_reducible refine (c4.out _).mono ?_; rintro e wf ⟨rfl, bf⟩; exact ⟨rfl, Held.on _ bf, rfl⟩)))
      refine wpQuiet_nil ?_
      rintro _ ⟨y, rfl⟩
      clear c1 c4 rd hnX
      go_wp2_with fail
      go_loopw [9] (fun i wr => i = .int .i64 0 ∧ Hid (∃ y : Held w hr [], wr = y.x)) (fun _ _ => 0)
      case atStart => exact ⟨rfl, hide ⟨y, rfl⟩⟩
      case round =>
        obtain ⟨rfl, hy⟩ := hrel
        obtain ⟨y, rfl⟩ := hy.out
        have cf := hide (fixed_any y.x y.h.2.2.1)
        go_wp2_with fail
        refine cf.out.mono ?_
        rintro e w9 ⟨rfl, h9⟩
        have hB9 := onto y.h.2.2.2 (Nat.le_refl _) h9
        clear cf h9
        go_wp2
        go_ret
        exact ⟨rfl, hB9⟩
    · have hne : g ≠ w.heap.size := by simp at hg; omega
      have hoX : (w1.setRow w.heap.size (cellsX (putR R 0 0))).ownsRow (w.alloc (.cells (cellsX R) 32)).heap.size 28 6 (.slice (some ⟨g, 0, none⟩) ms.length cap) ms.length (flat ms) :=
        ⟨ho.1, Or.inr ⟨g, cap, cur, rfl, hg, by rw [setRow_other w1 w.heap.size g _ hne]; exact hh, hcc, hcm, hs, ht⟩⟩
      have hos := ops_of_own hoX
      have hod0 := own_drop hoX kk hkl (cap - kk)
      have hot := hos.cut kk cap hkl
      have hdn : ms.length ≤ kk → ms.drop kk = [] := fun h => List.drop_eq_nil_of_le h
      clear ho hoX hh hs ht hcm
      generalize hN : ms.length = N at *
      by_cases hck : cap = kk
      · obtain rfl : N = kk := by omega
        subst hck
        have hod : IsOps (w1.setRow w.heap.size (cellsX (putR R 0 0))) (.slice (some ⟨g, 0, none⟩) 0 0) (ms.drop cap) := Or.inl ⟨_, _, hdn (Nat.le_refl _), rfl⟩
        have hFF : Fk = F := by rw [← eFk, ← eF, List.take_of_length_le (by omega)]
        subst hFF
        clear hod0 hdn
        obtain ⟨hr, hhr⟩ : ∃ l : List (Nat × (Nat → Int)), l = [(w.heap.size, putR R 0 0)] := ⟨_, rfl⟩
        obtain ⟨ho', hho⟩ : ∃ l : List (Value × List Mi), l = [(.slice (some ⟨g, 0, none⟩) cap cap, ms), (.slice (some ⟨g, 0, none⟩) 0 0, ms.drop cap), (.slice (some ⟨g, 0, none⟩) cap cap, ms.take cap)] := ⟨_, rfl⟩
        have hS : (∀ p ∈ hr, Box (w1.setRow w.heap.size (cellsX (putR R 0 0))).drew p.1 (cellsX p.2)) ∧ (∀ p ∈ ho', IsOps (w1.setRow w.heap.size (cellsX (putR R 0 0))).drew p.1 p.2) ∧ De.Tabs (w1.setRow w.heap.size (cellsX (putR R 0 0))).drew ∧ Below w.heap.size w (w1.setRow w.heap.size (cellsX (putR R 0 0))).drew := by
          refine ⟨fun p hp => ?_, fun p hp => ?_, tX.drew, hBX.drew⟩
          · rw [hhr] at hp; simp at hp; subst hp; exact bX
          · rw [hho] at hp; simp only [List.mem_cons, List.not_mem_nil, or_false] at hp
            rcases hp with rfl | rfl | rfl
            · exact hos.on (Below.refl _ _).drew
            · exact hod.on (Below.refl _ _).drew
            · exact hot.on (Below.refl _ _).drew
        obtain ⟨rd, rc⟩ := Held.reads (w := w) (l := hr) (o := ho') (b := w.heap.size) (R := putR R 0 0) (by rw [hhr]; simp)
        have o1 := Held.ops (w := w) (l := hr) (o := ho') (v := .slice (some ⟨g, 0, none⟩) cap cap) (ms := ms) (by rw [hho]; simp)
        have o2 := Held.ops (w := w) (l := hr) (o := ho') (v := .slice (some ⟨g, 0, none⟩) 0 0) (ms := ms.drop cap) (by rw [hho]; simp)
        have o3 := Held.ops (w := w) (l := hr) (o := ho') (v := .slice (some ⟨g, 0, none⟩) cap cap) (ms := ms.take cap) (by rw [hho]; simp)
        have c1 := hide (fun y : Held w hr ho' => run_any (o3 y) (htw.out.take cap) (putR R 0 0) hR0.out)
        have c2 := hide (fun y : Held w hr ho' => run_any (o2 y) (wordsM_drop htw.out cap) Fk hFw)
        have c3 := hide (fun y : Held w hr ho' => run_any (o1 y) htw.out (putR R 0 0) hR0.out)
        have c4 := hide (fun y : Held w hr ho' => until_any (o1 y) htw.out (putR R 0 0) hR0.out 0)
        have c5 := hide (fun y : Held w hr ho' => until_any (o1 y) htw.out (putR R 0 0) hR0.out (cap : Int))
        rw [hp0, eFk] at c1
        rw [pe1] at c2
        rw [hp0, eF] at c3
        rw [hp0, pe2] at c4
        rw [hp0, pe3] at c5
        replace hN := hide hN
        replace hkk := hide hkk
        have dd : decide ((16 : Int) < (cap : Int)) = false := by simp; omega
        have nz : ¬ (cap : Int) + 1 = 0 := by omega
        replace hS := hide hS
        replace rd := hide rd
        replace hnX := hide hnX
        replace o1 := hide o1
        clear hpe ct b0 g0 hos hod hot bX tX hhr hho o2 o3 hp0 eFk eF hFw pe1 pe2 pe3 b1 rc
        go_wp2_with fail
        clear hx0 hx1 hx2 hx3 hx4 hz gz
        refine region_calm (fun x => ∃ y : Held w hr ho', x = y.x) (by kernel_rfl) (by kernel_rfl) ⟨⟨_, hS.out⟩, rfl⟩ ?_
        replace rd := rd.out
        replace hnX := hnX.out
        repeat (go_big_quiet_step (first
          | with_reducible rfl
          | (go_at_call 15; with_reducible refine (c1.out _).mono ?_; rintro e wf ⟨rfl, bf⟩; exact ⟨rfl, Held.on _ bf, rfl⟩)
          | (go_at_call 15; with_reducible refine (c2.out _).mono ?_; rintro e wf ⟨rfl, bf⟩; exact ⟨rfl, Held.on _ bf, rfl⟩)
          | (go_at_call 15; with_reducible refine (c3.out _).mono ?_; rintro e wf ⟨rfl, bf⟩; exact ⟨rfl, Held.on _ bf, rfl⟩)
          | (go_at_call 16; with_reducible refine (c4.out _).mono ?_; rintro e wf ⟨rfl, bf⟩; exact ⟨rfl, Held.on _ bf, rfl⟩)
          | (go_at_call 16; with_reducible refine (c5.out _).mono ?_; rintro e wf ⟨rfl, bf⟩; exact ⟨rfl, Held.on _ bf, rfl⟩)))
        refine wpQuiet_nil ?_
        rintro _ ⟨y0, rfl⟩
        clear c1 c2 c3 c4 c5 rd hnX
        go_wp2_with fail
        go_loopw [9] (fun i wr => ∃ k : Nat, k ≤ cap ∧ i = .int .i64 (k : Int) ∧ Hid (∃ y : Held w hr ho', wr = y.x)) (fun i _ => cap - (intOf i).toNat)
        case atStart => exact ⟨0, Nat.zero_le _, rfl, hide ⟨y0, rfl⟩⟩
        case round =>
          obtain ⟨k, hk, rfl, hy⟩ := hrel
          obtain ⟨y, rfl⟩ := hy.out
          by_cases hlt : k < cap
          · have dk : decide ((k : Int) < (cap : Int)) = true := by simp; omega
            obtain ⟨m, hm0⟩ : ∃ m, ms[k]? = some m := ⟨ms[k]'(by have := hN.out; omega), List.getElem?_eq_getElem _⟩
            have hcell : y.x.cell? ⟨g, k * N6 + 5, none⟩ = some (.int .i64 ((k : Int) + 1)) := by
              rcases o1.out y with ⟨a, c0, e, -⟩ | ⟨g', o, c0, e, hl, hg, hm⟩
              · rw [e] at hm0; simp at hm0
              · cases e
                have h5 := hm k m hm0 5 (by decide)
                have hc := htc.out k m hm0
                rw [show (0 + k * 6 + 5 : Nat) = k * N6 + 5 by unfold N6; omega] at h5
                rw [h5]
                show some (Value.int .i64 m.c) = _
                rw [hc]
                simp
            clear hm0
            go_wp2
            go_roundw
            case rel => exact ⟨k + 1, by omega, by go_num, hide ⟨y, rfl⟩⟩
            case measure => simp [intOf]; omega
          · have dk : decide ((k : Int) < (cap : Int)) = false := by simp; omega
            have cf := hide (fixed_any y.x y.h.2.2.1)
            go_wp2_with fail
            refine cf.out.mono ?_
            rintro e w9 ⟨rfl, h9⟩
            have hB9 := onto y.h.2.2.2 (Nat.le_refl _) h9
            clear cf h9
            go_wp2
            go_ret
            exact ⟨rfl, hB9⟩
      · have hod : IsOps (w1.setRow w.heap.size (cellsX (putR R 0 0))) (.slice (some ⟨g, kk * N6, none⟩) (N - kk) (cap - kk)) (ms.drop kk) := hod0
        clear hod0 hdn
        obtain ⟨hr, hhr⟩ : ∃ l : List (Nat × (Nat → Int)), l = [(w.heap.size, putR R 0 0)] := ⟨_, rfl⟩
        obtain ⟨ho', hho⟩ : ∃ l : List (Value × List Mi), l = [(.slice (some ⟨g, 0, none⟩) N cap, ms), (.slice (some ⟨g, kk * N6, none⟩) (N - kk) (cap - kk), ms.drop kk), (.slice (some ⟨g, 0, none⟩) kk cap, ms.take kk)] := ⟨_, rfl⟩
        have hS : (∀ p ∈ hr, Box (w1.setRow w.heap.size (cellsX (putR R 0 0))).drew p.1 (cellsX p.2)) ∧ (∀ p ∈ ho', IsOps (w1.setRow w.heap.size (cellsX (putR R 0 0))).drew p.1 p.2) ∧ De.Tabs (w1.setRow w.heap.size (cellsX (putR R 0 0))).drew ∧ Below w.heap.size w (w1.setRow w.heap.size (cellsX (putR R 0 0))).drew := by
          refine ⟨fun p hp => ?_, fun p hp => ?_, tX.drew, hBX.drew⟩
          · rw [hhr] at hp; simp at hp; subst hp; exact bX
          · rw [hho] at hp; simp only [List.mem_cons, List.not_mem_nil, or_false] at hp
            rcases hp with rfl | rfl | rfl
            · exact hos.on (Below.refl _ _).drew
            · exact hod.on (Below.refl _ _).drew
            · exact hot.on (Below.refl _ _).drew
        obtain ⟨rd, rc⟩ := Held.reads (w := w) (l := hr) (o := ho') (b := w.heap.size) (R := putR R 0 0) (by rw [hhr]; simp)
        have o1 := Held.ops (w := w) (l := hr) (o := ho') (v := .slice (some ⟨g, 0, none⟩) N cap) (ms := ms) (by rw [hho]; simp)
        have o2 := Held.ops (w := w) (l := hr) (o := ho') (v := .slice (some ⟨g, kk * N6, none⟩) (N - kk) (cap - kk)) (ms := ms.drop kk) (by rw [hho]; simp)
        have o3 := Held.ops (w := w) (l := hr) (o := ho') (v := .slice (some ⟨g, 0, none⟩) kk cap) (ms := ms.take kk) (by rw [hho]; simp)
        have c1 := hide (fun y : Held w hr ho' => run_any (o3 y) (htw.out.take kk) (putR R 0 0) hR0.out)
        have c2 := hide (fun y : Held w hr ho' => run_any (o2 y) (wordsM_drop htw.out kk) Fk hFw)
        have c3 := hide (fun y : Held w hr ho' => run_any (o1 y) htw.out (putR R 0 0) hR0.out)
        have c4 := hide (fun y : Held w hr ho' => until_any (o1 y) htw.out (putR R 0 0) hR0.out 0)
        have c5 := hide (fun y : Held w hr ho' => until_any (o1 y) htw.out (putR R 0 0) hR0.out (kk : Int))
        rw [hp0, eFk] at c1
        rw [pe1] at c2
        rw [hp0, eF] at c3
        rw [hp0, pe2] at c4
        rw [hp0, pe3] at c5
        replace hN := hide hN
        replace hkk := hide hkk
        have dd : decide ((16 : Int) < (N : Int)) = false := by simp; omega
        have nz : ¬ (N : Int) + 1 = 0 := by omega
        replace hS := hide hS
        replace rd := hide rd
        replace hnX := hide hnX
        replace o1 := hide o1
        clear hpe ct b0 g0 hos hod hot bX tX hhr hho o2 o3 hp0 eFk eF hFw pe1 pe2 pe3 b1 rc
        go_wp2_with fail
        clear hx0 hx1 hx2 hx3 hx4 hz gz
        refine region_calm (fun x => ∃ y : Held w hr ho', x = y.x) (by kernel_rfl) (by kernel_rfl) ⟨⟨_, hS.out⟩, rfl⟩ ?_
        replace rd := rd.out
        replace hnX := hnX.out
        repeat (go_big_quiet_step (first
          | with_reducible rfl
          | (go_at_call 15; with_reducible refine (c1.out _).mono ?_; rintro e wf ⟨rfl, bf⟩; exact ⟨rfl, Held.on _ bf, rfl⟩)
          | (go_at_call 15; with_reducible refine (c2.out _).mono ?_; rintro e wf ⟨rfl, bf⟩; exact ⟨rfl, Held.on _ bf, rfl⟩)
          | (go_at_call 15; with_reducible refine (c3.out _).mono ?_; rintro e wf ⟨rfl, bf⟩; exact ⟨rfl, Held.on _ bf, rfl⟩)
          | (go_at_call 16; with_reducible refine (c4.out _).mono ?_; rintro e wf ⟨rfl, bf⟩; exact ⟨rfl, Held.on _ bf, rfl⟩)
          | (go_at_call 16; with_reducible refine (c5.out _).mono ?_; rintro e wf ⟨rfl, bf⟩; exact ⟨rfl, Held.on _ bf, rfl⟩)))
        refine wpQuiet_nil ?_
        rintro _ ⟨y0, rfl⟩
        clear c1 c2 c3 c4 c5 rd hnX
        go_wp2_with fail
        go_loopw [9] (fun i wr => ∃ k : Nat, k ≤ N ∧ i = .int .i64 (k : Int) ∧ Hid (∃ y : Held w hr ho', wr = y.x)) (fun i _ => N - (intOf i).toNat)
        case atStart => exact ⟨0, Nat.zero_le _, rfl, hide ⟨y0, rfl⟩⟩
        case round =>
          obtain ⟨k, hk, rfl, hy⟩ := hrel
          obtain ⟨y, rfl⟩ := hy.out
          by_cases hlt : k < N
          · have dk : decide ((k : Int) < (N : Int)) = true := by simp; omega
            obtain ⟨m, hm0⟩ : ∃ m, ms[k]? = some m := ⟨ms[k]'(by have := hN.out; omega), List.getElem?_eq_getElem _⟩
            have hcell : y.x.cell? ⟨g, k * N6 + 5, none⟩ = some (.int .i64 ((k : Int) + 1)) := by
              rcases o1.out y with ⟨a, c0, e, -⟩ | ⟨g', o, c0, e, hl, hg, hm⟩
              · rw [e] at hm0; simp at hm0
              · cases e
                have h5 := hm k m hm0 5 (by decide)
                have hc := htc.out k m hm0
                rw [show (0 + k * 6 + 5 : Nat) = k * N6 + 5 by unfold N6; omega] at h5
                rw [h5]
                show some (Value.int .i64 m.c) = _
                rw [hc]
                simp
            clear hm0
            go_wp2
            go_roundw
            case rel => exact ⟨k + 1, by omega, by go_num, hide ⟨y, rfl⟩⟩
            case measure => simp [intOf]; omega
          · have dk : decide ((k : Int) < (N : Int)) = false := by simp; omega
            have cf := hide (fixed_any y.x y.h.2.2.1)
            go_wp2_with fail
            refine cf.out.mono ?_
            rintro e w9 ⟨rfl, h9⟩
            have hB9 := onto y.h.2.2.2 (Nat.le_refl _) h9
            clear cf h9
            go_wp2
            go_ret
            exact ⟨rfl, hB9⟩

theorem parts_walk (w : World) (v : Value) (l : List Int) (hl : IsWords w v l) (hc : CapOk v) (R : Nat → Int) (hR : ∀ k, Cp.W32 (R k)) (cut : Int) (hcut : (Lit.int .i64 cut).wf = true) (tb : De.Tabs w) :
    Calls Tryd.prog 6 #[v, .agg (cellsX R), .int .i64 cut] w fun e w' => e = .returned (.bool true) ∧ Below w.heap.size w w' := by
  obtain ⟨ad, n, c, rfl, hnc, hcs⟩ := cut_words hl hc 16
  rcases hcs with ⟨h, hw⟩ | ⟨h, hw⟩
  · refine parts_cut tb hnc h hw ?_ hnc (Or.inl ⟨h, rfl⟩) R hR cut
    obtain ⟨_, _, _, e, hn, -⟩ := hw.open'
    cases e; exact hn.symm
  · refine parts_cut tb (by omega) (Nat.le_refl _) hw ?_ hnc (Or.inr ⟨h, rfl⟩) R hR cut
    obtain ⟨_, _, _, e, hn, -⟩ := hw.open'
    cases e; exact hn.symm

end Go.Proofs.YtfnmihjchlljbaaDoor.Ir
