/- Layer 18: the document's disk: a crash. -/
import Derived.Test.YtgffhnggocbjhaaQDkRefA
namespace Go.Proofs.Ytgffhnggocbjhaa
open Go.RowKit
set_option linter.unusedVariables false
set_option maxRecDepth 100000
set_option linter.unusedSimpArgs false

theorem crashK_at {c : Crs} {L : List (Nat × ByteArray)} {S : List ByteArray} {k : Nat} {p : Nat × ByteArray} (h : L[k]? = some p) : crashK c L S (k + 1) = oneC c k p (crashK c L S k) := by
  rw [crashK, getD_some h]

/-- The loop's state: the first k loose writes are done. -/
def Dk.mid (d : Dk) (c : Crs) (k : Nat) : Dk := { d with S := crashK c d.L d.S k }

set_option maxHeartbeats 8000000 in
set_option maxRecDepth 100000 in
theorem rcrash_any {w : World} {H : Nat → Prop} {rb : Nat} {lv lw : Value} {d : Dk} (R : RD w H rb lv lw d) (c : Crs) :
    Calls Try.prog 17 #[.pointer (some ⟨rb, 0, none⟩), .agg #[.string c.keep, .int .i64 c.torn, .int .i64 c.bytes]] w fun e w' => e = .returned (.int .i64 d.errC) ∧
      ∃ lv' lw', RD w' (fun k => H k ∨ w.heap.size ≤ k) rb lv' lw' (d.crash c) ∧ Turn (fun k => k = rb) w w' := by
  have g0 := grow w (.cells #[.string c.keep, .int .i64 c.torn, .int .i64 c.bytes] 31)
  have BC := Box.new w #[.string c.keep, .int .i64 c.torn, .int .i64 c.bytes] 31
  have R1 := R.on g0
  cases hd : d.dead with
  | true =>
    have h1 : d.errC = 2 := by simp [Dk.errC, hd]
    have h2 : d.crash c = d := by simp [Dk.crash, hd]
    have b4 : w.cell? ⟨rb, 6, none⟩ = some (.bool true) := by have := R.box.cell 6; rw [← hd]; exact this
    rw [h1, h2]
    replace R1 := hide R1
    replace g0 := hide g0
    have hrbw := R.box.2.2
    clear h1 h2 hd BC R
    go_enter Try.func17, Try.ntmps17
    go_wp2
    go_ret
    exact ⟨rfl, _, _, R1.out.mono (fun k h _ => .inl h), Turn.of g0.out⟩
  | false =>
    have h1 : d.errC = 0 := by simp [Dk.errC, hd]
    have h2 : d.crash c = d.crashed c := by simp [Dk.crash, hd]
    rw [h1, h2]
    have b4 : w.cell? ⟨rb, 6, none⟩ = some (.bool false) := by have := R.box.cell 6; rw [← hd]; exact this
    have R0 : Hid (RD (w.alloc (.cells #[.string c.keep, .int .i64 c.torn, .int .i64 c.bytes] 31)) (fun k => H k ∨ w.heap.size ≤ k) rb lv lw (d.mid c 0)) := hide (R1.mono (fun k h _ => .inl h))
    have hcl := cutN_le c.bytes
    have hcut : max 0 (min 64 c.bytes) = ((cutN c.bytes : Nat) : Int) := by unfold cutN; omega
    obtain ⟨K, hK⟩ : ∃ K, K = cutN c.bytes := ⟨_, rfl⟩
    rw [← hK] at hcl hcut
    have hcli : (K : Int) ≤ 64 := by omega
    obtain ⟨l, hll⟩ : ∃ l, l = d.L.length := ⟨_, rfl⟩
    have l6 := R.l6
    rw [← hll] at l6
    have hlg := hide R.g.l64
    have hs64 := hide R.g.s64
    replace BC := hide BC
    replace g0 := hide g0
    replace hll := hide hll
    replace hK := hide hK
    have hrbw := R.box.2.2
    clear h1 h2 R1 R
    go_enter Try.func17, Try.ntmps17
    go_wp2_with fail
    generalize w.alloc (.cells #[.string c.keep, .int .i64 c.torn, .int .i64 c.bytes] 31) = w1 at *
    have hwl : w.heap.size < w1.heap.size := BC.out.2.2
    go_loopw [5] (fun i wr => ∃ (k : Nat) (lv' lw' : Value), k ≤ l ∧ i = .int .i64 (k : Int) ∧ Hid (RD wr (fun j => H j ∨ w.heap.size ≤ j) rb lv' lw' (d.mid c k)) ∧ Hid (Turn (fun j => j = rb) w1 wr)) (fun i _ => l - (intOf i).toNat)
    case atStart => exact ⟨0, lv, lw, Nat.zero_le _, rfl, R0, hide (Turn.refl _ _)⟩
    case round =>
      clear R0
      obtain ⟨k, lv', lw', hk, rfl, R, T⟩ := hrel
      have bl : wr.cell? ⟨rb, 1, none⟩ = some lw' := R.out.box.cell 1
      obtain ⟨a2, c2, rfl, hc2, hm2, hl⟩ := R.out.l.open'
      rw [show (d.mid c k).L.length = l from hll.out.symm] at bl hm2 hc2
      have bcr : Box wr w.heap.size #[.string c.keep, .int .i64 c.torn, .int .i64 c.bytes] := BC.out.of_heap (T.out.block _ hwl (by omega))
      replace hl := hide hl
      by_cases h : k < l
      · obtain ⟨p, hp⟩ : ∃ p, d.L[k]? = some p := ⟨d.L[k]'(by have := hll.out; omega), List.getElem?_eq_getElem _⟩
        obtain ⟨p0, p1⟩ := looses_at hp
        obtain ⟨g2, rfl, -, -, hc0⟩ := hl.out _ _ p0
        obtain ⟨g3, e3, -, -, hc1⟩ := hl.out _ _ p1
        injection e3 with e3
        injection e3 with e3
        subst e3
        have hS0 := hide (And.intro bl (And.intro hc0 hc1))
        obtain ⟨hp1, hp2⟩ := hlg.out p (List.mem_of_getElem? hp)
        have hstep : Hid (crashK c d.L d.S (k + 1) = oneC c k p (crashK c d.L d.S k)) := hide (crashK_at hp)
        obtain ⟨pn, hpn⟩ : ∃ pn, pn = p.1 := ⟨_, rfl⟩
        obtain ⟨px, hpx⟩ : ∃ px, px = p.2 := ⟨_, rfl⟩
        rw [← hpn] at hS0 hp1
        rw [← hpx] at hS0 hp2
        have hpe := hide (And.intro hpn hpx)
        clear p0 p1 hc0 hc1 hpn hpx hp hl
        replace bcr := hide bcr
        go_wp2_with fail
        go_region_held3 (fun y => y.cell? ⟨rb, 1, none⟩ = some (.slice (some ⟨g2, 0, none⟩) l c2) ∧ y.cell? ⟨g2, k * 2, none⟩ = some (.int .i64 (pn : Int)) ∧ y.cell? ⟨g2, k * 2 + 1, none⟩ = some (.string px)) (exact hS0.out) (fail)
        have R2 : Hid (RD wr.drew (fun j => H j ∨ w.heap.size ≤ j) rb lv' (.slice (some ⟨g2, 0, none⟩) l c2) (d.mid c k)) := hide (by
          have := R.out.on (Below.refl wr.heap.size wr).drew
          rwa [show (d.mid c k).L.length = l from hll.out.symm] at this)
        have T2 : Hid (Turn (fun j => j = rb) w1 wr.drew) := hide (T.out.trans (Turn.of (Below.refl wr.heap.size wr).drew) (fun b h => .inl h))
        have bc := bcr.out.drew
        have hlen : (d.mid c k).S.length = d.S.length := (crashK_good (c := c) hs64.out (fun p hp => (hlg.out p hp).2) k (by have := hll.out; omega)).1
        clear R T bcr bl hS0
        rename_i hHeld0
        clear hHeld0
        generalize wr.drew = x at *
        have q0 : x.cell? ⟨w.heap.size, 0, none⟩ = some (.string c.keep) := bc.cell 0
        have q1 : x.cell? ⟨w.heap.size, 1, none⟩ = some (.int .i64 c.torn) := bc.cell 1
        have q2 : x.cell? ⟨w.heap.size, 2, none⟩ = some (.int .i64 c.bytes) := bc.cell 2
        by_cases e : (k : Int) = c.torn
        · rw [← e] at q1
          have hS := R2.out.s
          obtain ⟨a0, c0, rfl, hc0, hm0, hsrc⟩ := hS.open'
          obtain ⟨y, hy⟩ : ∃ y, (d.mid c k).S[pn]? = some y := ⟨(d.mid c k).S[pn]'(by omega), List.getElem?_eq_getElem _⟩
          obtain ⟨gs, rfl, -, -, hcs⟩ := hsrc _ _ (strs_at hy)
          have hy64 : y.size = 64 := R2.out.g.s64 y (List.mem_of_getElem? hy)
          have b0 : x.cell? ⟨rb, 0, none⟩ = some (.slice (some ⟨gs, 0, none⟩) (d.mid c k).S.length c0) := R2.out.box.cell 0
          obtain ⟨m, hm⟩ : ∃ m, m = (d.mid c k).S.length := ⟨_, rfl⟩
          rw [← hm] at b0 hc0 hm0
          have hpm : pn < m := by omega
          have hS0 := hide (And.intro b0 hcs)
          have hsz : (px.extract 0 K ++ y.extract K 64).size = 64 := tornT_size (k := K) hcl hp2 hy64
          have cw := rwith_any (R2.out.on (Below.refl x.heap.size x).drew) pn (px.extract 0 K ++ y.extract K 64) (by omega) hsz
          have hfin : Hid ({ d.mid c k with S := (d.mid c k).S.set pn (px.extract 0 K ++ y.extract K 64) } = d.mid c (k + 1)) := hide (by
            unfold Dk.mid at hy ⊢
            rw [hstep.out]
            unfold oneC
            rw [if_pos e, getD_some (show (crashK c d.L d.S k)[p.1]? = some y by rw [← hpe.out.1]; exact hy), tornT, ← hK.out, ← hpe.out.1, ← hpe.out.2])
          replace R2 := hide R2.out
          clear hsrc hS hcs hy b0 hm hstep e
          go_wp2_with fail
          refine zir [15] (fun y' => y'.cell? ⟨rb, 0, none⟩ = some (.slice (some ⟨gs, 0, none⟩) m c0) ∧ y'.cell? ⟨gs, pn, none⟩ = some (.string y)) (by kernel_rfl) hS0.out (fun hHeld => ?_)
          refine zit 0 ?_ rfl (by kernel_rfl) (fun _ _ _ h => h) (by rfl) (by assumption) ?_ ?_
          rotate_left
          · intro y hSw
            have e0 := hSw.1; have e1 := hSw.2
            go_simp
            try with_reducible rfl
          try simp only [Act.put, zpa, zpb, zpc]
          refine zit 1 ?_ rfl (by kernel_rfl) (fun _ _ _ h => h) (by rfl) (by assumption) ?_ ?_
          rotate_left
          · intro y hSw
            have e0 := hSw.1; have e1 := hSw.2
            go_simp
            try with_reducible rfl
          try simp only [Act.put, zpa, zpb, zpc]
          refine zit 2 ?_ rfl (by kernel_rfl) (fun _ _ _ h => h) (by rfl) (by assumption) ?_ ?_
          rotate_left
          · intro y hSw
            have e0 := hSw.1; have e1 := hSw.2
            go_simp
            try with_reducible rfl
          try simp only [Act.put, zpa, zpb, zpc]
          refine zit 3 ?_ rfl (by kernel_rfl) (fun _ _ _ h => h) (by rfl) (by assumption) ?_ ?_
          rotate_left
          · intro y hSw
            have e0 := hSw.1; have e1 := hSw.2
            go_simp
            try with_reducible rfl
          try simp only [Act.put, zpa, zpb, zpc]
          refine zit 4 ?_ rfl (by kernel_rfl) (fun _ _ _ h => h) (by rfl) (by assumption) ?_ ?_
          rotate_left
          · intro y hSw
            have e0 := hSw.1; have e1 := hSw.2
            go_simp
            try with_reducible rfl
          try simp only [Act.put, zpa, zpb, zpc]
          refine zit 5 ?_ rfl (by kernel_rfl) (fun _ _ _ h => h) (by rfl) (by assumption) ?_ ?_
          rotate_left
          · intro y hSw
            have e0 := hSw.1; have e1 := hSw.2
            go_simp
            try with_reducible rfl
          try simp only [Act.put, zpa, zpb, zpc]
          refine zit 6 ?_ rfl (by kernel_rfl) (fun _ _ _ h => h) (by rfl) (by assumption) ?_ ?_
          rotate_left
          · intro y hSw
            have e0 := hSw.1; have e1 := hSw.2
            go_simp
            try with_reducible rfl
          try simp only [Act.put, zpa, zpb, zpc]
          refine zit 7 ?_ rfl (by kernel_rfl) (fun _ _ _ h => h) (by rfl) (by assumption) ?_ ?_
          rotate_left
          · intro y hSw
            have e0 := hSw.1; have e1 := hSw.2
            go_simp
            try with_reducible rfl
          try simp only [Act.put, zpa, zpb, zpc]
          refine zit 8 ?_ rfl (by kernel_rfl) (fun _ _ _ h => h) (by rfl) (by assumption) ?_ ?_
          rotate_left
          · intro y hSw
            have e0 := hSw.1; have e1 := hSw.2
            go_simp
            try with_reducible rfl
          try simp only [Act.put, zpa, zpb, zpc]
          refine zit 9 ?_ rfl (by kernel_rfl) (fun _ _ _ h => h) (by rfl) (by assumption) ?_ ?_
          rotate_left
          · intro y hSw
            have e0 := hSw.1; have e1 := hSw.2
            go_simp
            try with_reducible rfl
          try simp only [Act.put, zpa, zpb, zpc]
          refine zit 10 ?_ rfl (by kernel_rfl) (fun _ _ _ h => h) (by rfl) (by assumption) ?_ ?_
          rotate_left
          · intro y hSw
            have e0 := hSw.1; have e1 := hSw.2
            go_simp
            try with_reducible rfl
          try simp only [Act.put, zpa, zpb, zpc]
          refine zit 11 ?_ rfl (by kernel_rfl) (fun _ _ _ h => h) (by rfl) (by assumption) ?_ ?_
          rotate_left
          · intro y hSw
            have e0 := hSw.1; have e1 := hSw.2
            go_simp
            try with_reducible rfl
          try simp only [Act.put, zpa, zpb, zpc]
          refine zit 12 ?_ rfl (by kernel_rfl) (fun _ _ _ h => h) (by rfl) (by assumption) ?_ ?_
          rotate_left
          · intro y hSw
            have e0 := hSw.1; have e1 := hSw.2
            go_simp
            try with_reducible rfl
          try simp only [Act.put, zpa, zpb, zpc]
          refine zit 13 ?_ rfl (by kernel_rfl) (fun _ _ _ h => h) (by rfl) (by assumption) ?_ ?_
          rotate_left
          · intro y hSw
            have e0 := hSw.1; have e1 := hSw.2
            go_simp
            try with_reducible rfl
          try simp only [Act.put, zpa, zpb, zpc]
          refine zit 14 ?_ rfl (by kernel_rfl) (fun _ _ _ h => h) (by rfl) (by assumption) ?_ ?_
          rotate_left
          · intro y hSw
            have e0 := hSw.1; have e1 := hSw.2
            go_simp
            try with_reducible rfl
          try simp only [Act.put, zpa, zpb, zpc]
          refine zil 15 rfl (by kernel_rfl) (by kernel_rfl) (fun K hK => ?_)
          go_simp
          refine cw.mono ?_
          rintro e w2 ⟨rfl, lv2, R3, T3⟩
          have R4 := hide (R3.mono (G := fun j => H j ∨ w.heap.size ≤ j) (fun j h _ => by
            rcases h with h | h
            · exact h
            · have := T2.out.size; have e : x.drew.heap.size = x.heap.size := rfl; right; omega))
          have T4 := hide (T2.out.trans ((Turn.of (Below.refl x.heap.size x).drew).trans T3 (fun b h => .inl h)) (fun b h => .inl h))
          rw [hfin.out] at R4
          clear R3 T3 R2 T2 cw hS0 hHeld hfin
          go_wp2_with fail
          refine hK.out _ _ ?_
          clear hK K
          try simp only [Act.put, zpa, zpb, zpc]
          refine zid (by kernel_rfl) ?_ _
          go_wp2
          go_roundw
          case rel => exact ⟨k + 1, lv2, _, by omega, by go_num, R4, T4⟩
          case measure => simp [intOf]; omega
        · have ck := kept_any c.keep k (by omega)
          cases hb : bitAt c.keep k with
          | false =>
            rw [hb] at ck
            have hfin : Hid (d.mid c k = d.mid c (k + 1)) := hide (by
              unfold Dk.mid
              rw [hstep.out]
              unfold oneC
              rw [if_neg e, hb, if_neg (by decide)])
            rw [hfin.out] at R2
            clear hfin hstep hb
            go_wp2_with fail
            refine (ck _).mono ?_
            rintro e w2 ⟨rfl, hw⟩
            subst hw
            go_wp2
            go_roundw
            case rel => exact ⟨k + 1, lv', _, by omega, by go_num, R2, T2⟩
            case measure => simp [intOf]; omega
          | true =>
            rw [hb] at ck
            have cw := rwith_any R2.out pn px (by omega) hp2
            have hfin : Hid ({ d.mid c k with S := (d.mid c k).S.set pn px } = d.mid c (k + 1)) := hide (by
              unfold Dk.mid
              rw [hstep.out]
              unfold oneC
              rw [if_neg e, hb, if_pos rfl, hpe.out.1, hpe.out.2])
            clear hstep hb
            go_wp2_with fail
            refine (ck _).mono ?_
            rintro e w2 ⟨rfl, hw⟩
            subst hw
            go_wp2_with fail
            refine cw.mono ?_
            rintro e w2 ⟨rfl, lv2, R3, T3⟩
            have R4 := hide (R3.mono (G := fun j => H j ∨ w.heap.size ≤ j) (fun j h _ => by
              rcases h with h | h
              · exact h
              · have := T2.out.size; right; omega))
            have T4 := hide (T2.out.trans T3 (fun b h => .inl h))
            rw [hfin.out] at R4
            clear R3 T3 R2 T2 cw hfin
            go_wp2
            go_roundw
            case rel => exact ⟨k + 1, lv2, _, by omega, by go_num, R4, T4⟩
            case measure => simp [intOf]; omega
      · obtain rfl : k = l := by omega
        have f1 : wr.frozen? ⟨rb, 1, none⟩ = false := R.out.box.free 1
        have f2 : wr.frozen? ⟨rb, 2, none⟩ = false := R.out.box.free 2
        have f6 : wr.frozen? ⟨rb, 6, none⟩ = false := R.out.box.free 6
        have c2' : wr.cell? ⟨rb, 2, none⟩ = some (.int .i64 (d.a : Int)) := R.out.box.cell 2
        have c6 : wr.cell? ⟨rb, 6, none⟩ = some (.bool d.dead) := R.out.box.cell 6
        have BX := hide (((R.out.box.set 1 (.slice none 0 0)).set 2 (.int .i64 0)).set 6 (.bool true))
        have hfar : Hid (∀ j, j ≠ rb → (((wr.setCell ⟨rb, 1, none⟩ (.slice none 0 0)).setCell ⟨rb, 2, none⟩ (.int .i64 0)).setCell ⟨rb, 6, none⟩ (.bool true)).heap[j]? = wr.heap[j]?) := hide (fun j hj => by
          rw [Below.heap_setCell _ _ _ j hj, Below.heap_setCell _ _ _ j hj, Below.heap_setCell _ _ _ j hj])
        have hmid : Hid ((d.mid c k).S = (d.crashed c).S) := hide (by unfold Dk.mid Dk.crashed; rw [hll.out])
        have hgc := hide (R.out.g.crashed c)
        clear bcr hl
        go_wp2
        go_ret
        refine ⟨rfl, lv', .slice none 0 0, ⟨BX.out, ?_, ⟨World.ownsRow_nil _ _ _ _, fun k hk => by simp [Value.ownBlock] at hk⟩, R.out.h, ?_, by simp [Dk.crashed], R.out.m6⟩, ⟨?_, ?_, ?_, ?_, fun j hj hn => ?_⟩⟩
        · rw [← hmid.out]
          exact R.out.s.keep fun j h hl => hfar.out j h.2
        · have hg := R.out.g
          have hz := crashK_good (c := c) hs64.out (fun p hp => (hlg.out p hp).2) d.L.length (Nat.le_refl _)
          have e : (d.crashed c).S = (d.mid c k).S := hmid.out.symm
          exact ⟨by rw [e]; exact hg.s1, by rw [e]; exact hg.s2, by rw [e]; exact hg.s64, fun p hp => (by cases hp), by simp [Dk.crashed]⟩
        · exact T.out.os.trans g0.out.os
        · exact T.out.tape.trans g0.out.tape
        · exact T.out.output.trans g0.out.output
        · exact Nat.le_trans (Nat.le_trans g0.out.size T.out.size) (by simp [World.setCell])
        · exact ((hfar.out j hn).trans (T.out.block j (Nat.lt_of_lt_of_le hj g0.out.size) hn)).trans (g0.out.block j hj)

end Go.Proofs.Ytgffhnggocbjhaa
