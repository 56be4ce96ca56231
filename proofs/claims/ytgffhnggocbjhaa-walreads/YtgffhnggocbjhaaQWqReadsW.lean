/- Layer 19: the walk of WalReads. -/
import Derived.Test.YtgffhnggocbjhaaQWqReads
import Derived.Test.YtgffhnggocbjhaaQWqFixed
namespace Go.Proofs.Ytgffhnggocbjhaa
open Go.RowKit
set_option linter.unusedVariables false
set_option maxRecDepth 100000
set_option linter.unusedSimpArgs false

theorem san60 : ∃ S, S = S1 60 ∧ S.length = 60 ∧ San S 1 [] := ⟨_, rfl, by rfl, (form_new (by decide) (by decide)).2.2⟩

set_option maxHeartbeats 4000000 in
set_option maxRecDepth 100000 in
theorem reads_walk (w : World) (v : Value) (ops : List Wop) (hv : IsWops w v ops) :
    Calls Try.prog 5 #[v] w fun e w' => e = .returned (.bool true) ∧ Below w.heap.size w w' := by
  have hfix := hide (fun y => fixed_any y)
  obtain ⟨ad, n, c, rfl, hn, hmx, hx⟩ := hv.open'
  have cl := laid_any 60 (by constructor <;> decide) (by decide) w
  obtain ⟨S0, hS0, hl0, hsan⟩ := san60
  rw [show (min (60 : Int) 80).toNat = 60 from rfl, ← hS0] at cl
  replace hsan := hide hsan
  replace hx := hide hx
  replace hn := hide hn
  replace hl0 := hide hl0
  unfold maxLen at hmx
  clear hv hS0
  go_enter Try.func5, Try.ntmps5
  go_wp2_with fail
  refine cl.mono ?_
  rintro e w1 ⟨db, lb, mv, kv, rfl, L1, hlb, T1⟩
  have F1 := Fs.mk (b := w.heap.size) (P := fun _ => False) ⟨_, L1.bound, fun k hk => ⟨hk.1.1, id, hk.2⟩⟩ hlb L1.log.2.2 (Nat.le_refl _) id (fun k h => h.elim)
  have ca := hide (F1.all (by rw [hl0.out]; decide))
  replace T1 := hide T1
  clear cl L1 F1
  go_wp2_with fail
  refine ca.out.mono ?_
  rintro e w2 ⟨rfl, F1, B1, -⟩
  replace T1 := hide (T1.out.trans B1)
  replace F1 := hide F1
  obtain ⟨V0, hV0⟩ : ∃ V, V = catT (S0.drop 34) := ⟨_, rfl⟩
  rw [← hV0]
  replace hV0 := hide hV0
  clear ca B1
  go_wp2_with fail
  go_loopw [8, 9] (fun hv i wr => ∃ (k n' m N : Nat) (S : List ByteArray) (c' : Cl) (V : ByteArray), k ≤ n ∧ k ≤ 60 ∧ i = .int .i64 (k : Int) ∧ hv = .string V ∧ Hid (V = catT (S.drop 34)) ∧ Hid (Fs w.heap.size N (fun _ => False) wr lb db (LQ n' S m C00)) ∧ Hid (Below w.heap.size w wr) ∧ Hid (San S n' c') ∧ Hid (S.length = 60) ∧ n' ≤ k + 1 ∧ m ≤ 3 + 60 * k ∧ c'.length ≤ 16) (fun _ i _ => n - (intOf i).toNat)
  case atStart => exact ⟨0, 1, 3, _, S0, [], V0, Nat.zero_le _, Nat.zero_le _, rfl, rfl, hV0, F1, T1, hsan, hl0, Nat.le_refl _, Nat.le_refl _, Nat.zero_le _⟩
  case round =>
    clear F1 T1 hsan hl0 hV0
    obtain ⟨k, n', m, NB, S, c', V, hk, hk1, rfl, rfl, hV, F, T, hs, hl, hn', hm, hc⟩ := hrel
    by_cases h : k < n ∧ k < 60
    · obtain ⟨hk2, hk3⟩ := h
      obtain ⟨o, ho⟩ : ∃ o, ops[k]? = some o := ⟨ops[k]'(by have := hn.out; omega), List.getElem?_eq_getElem _⟩
      obtain ⟨⟨ok, ks, I⟩, b, off, rfl, hbl, hat⟩ := hx.out k o ho
      obtain ⟨q0, q1, q2, q3, q4, q5, q6, q7⟩ := (hat.keep (T.out.block b hbl)).eight
      clear hat ho
      have I2 : IsInts wr o.v ks := by
        obtain ⟨ad', n2, c2, e, h1, h2, hx'⟩ := I
        exact ⟨ad', n2, c2, e, h1, h2, fun i z hz => by
          obtain ⟨b', off', e, hl', hc'⟩ := hx' i z hz
          exact ⟨b', off', e, Nat.lt_of_lt_of_le hl' T.out.size, (T.out.cell (p := ⟨b', off' + i, none⟩) hl').trans hc'⟩⟩
      have cc := cells_any o ok I2
      obtain ⟨K, ov, Fb, M, N, ⟨dk, dt, db'⟩⟩ := o
      obtain ⟨ad', n2, c2, he, -⟩ := I2
      replace he : ov = .slice ad' n2 c2 := he
      subst he
      replace cc : Calls Try.prog 10 #[.agg #[.int .i64 K, .slice ad' n2 c2, .int .u8 Fb, .int .i64 M, .int .i64 N, .string dk, .int .i64 dt, .int .i64 db']] wr _ := cc
      simp only at q0 q1 q2 q3 q4 q5 q6 q7
      have d60 : decide ((k : Int) < 60) = true := by simp; omega
      clear I ok
      go_wp2_with fail
      refine cc.mono ?_
      rintro e x2 ⟨cv, cl, rfl, CA⟩
      have F2 : Fs w.heap.size NB (fun k => NB ≤ k ∧ k < x2.heap.size) x2 lb db (LQ n' S m C00) := (F.out.on CA.far).more (fun k hk => .inr hk)
      have hN := F.out.top
      have hN2 := CA.far.size
      have cm := F2.commit (v := cv) (c := cl) CA.row (fun k hk _ => by omega) (by show n' < _; omega) (by show m + 100 < _; omega) (by show 0 + 100 < 1000; decide)
      have cnum := F2.num
      have cst := F2.steps
      rw [show (LQ n' S m C00).n = n' from rfl] at cnum
      rw [show (LQ n' S m C00).d.m = m from rfl] at cst
      have hdi := hide (fun h => done_in (S := S) (n := n') (m := m) (cr := C00) (c := cl) h (by rw [hl.out]; decide))
      obtain ⟨S2, n3, m2, c3, SP⟩ := stepped hs.out (by omega : n' < 4294967295) m C00 cl
      rw [SP.is] at cm
      have T2 := hide (onto T.out (Nat.le_refl _) CA.far)
      have hrow := hide CA.row
      have hwx : w.heap.size ≤ wr.heap.size := T.out.size
      have e1 := SP.num
      have e2 := SP.made
      have e3 := SP.c16
      have hl2 := hide (SP.len.trans hl.out)
      have hs2 := hide SP.san
      have how := hide SP.how
      have h64 : Hid (∀ s ∈ S.drop 34, s.size = 64) := hide (fun s hsm => hs.out.s64 s (List.mem_of_mem_drop hsm))
      obtain ⟨er, her⟩ : ∃ er, Hid (er = (LQ n' S m C00).errC cl) := ⟨_, hide rfl⟩
      rw [← her.out] at cm
      replace cm := hide cm
      clear cc CA F F2 SP T q0 q1 q2 q3 q4 q5 q6 q7 hs
      go_wp2_with fail
      refine cnum.mono ?_
      rintro e y1 ⟨rfl, hy⟩
      subst hy
      go_wp2_with fail
      refine cst.mono ?_
      rintro e y2 ⟨rfl, hy⟩
      subst hy
      clear cnum cst
      go_wp2_with fail
      refine cm.out.mono ?_
      rintro e x3 ⟨rfl, F3, T3, hold⟩
      have T4 := hide (T2.out.trans T3)
      have hrow2 := hide (hrow.out.turn (turn_of T3 (fun k hk hn => hold k ⟨by omega, hk⟩)))
      have F4 := hide (F3.more (P2 := fun _ => False) (fun k h => h.elim))
      clear cm T2 T3 hold F3 hrow
      by_cases her0 : er = 0
      · subst her0
        obtain ⟨rfl, hdr⟩ : n3 = n' + 1 ∧ S2.drop 34 = setsR cl (S.drop 34) := by
          rcases how.out with ⟨-, h2, h3⟩ | ⟨h1, -⟩
          · exact ⟨h2, h3⟩
          · exact absurd her.out.symm h1
        obtain ⟨V2, hV2⟩ : ∃ V2, Hid (V2 = catT (S2.drop 34)) := ⟨_, hide rfl⟩
        have cw := with_any hrow2.out h64.out (by rw [List.length_drop, hl.out]; decide) (hdi.out her.out.symm)
        rw [← hdr, ← hV2.out, ← hV.out] at cw
        replace cw := hide cw
        have hst := same_text V2 V2
        rw [decide_eq_true rfl] at hst
        have hw1 : IntKind.i64.wrap ((n' : Int) + 1) = (n' : Int) + 1 := by simp [IntKind.wrap, IntKind.bits, IntKind.signed]; omega
        clear how hdi her hrow2 hdr h64
        go_wp2_with fail
        refine cw.out.mono ?_
        rintro e y1 ⟨rfl, B1⟩
        have ca := (F4.out.on B1).all (by rw [hl2.out]; decide)
        rw [← hV2.out] at ca
        replace ca := hide ca
        replace T4 := hide (onto T4.out (Nat.le_refl _) B1)
        clear cw F4 B1
        go_wp2_with fail
        refine ca.out.mono ?_
        rintro e y2 ⟨rfl, F5, B2, -⟩
        replace T4 := hide (T4.out.trans B2)
        obtain ⟨o1, o2⟩ := hs2.out.opens m2 C00
        obtain ⟨-, b2, -, -⟩ := hs2.out.best m2 C00
        have co := F5.opens (by show m2 + 300 < _; omega) (by show 0 + 300 < 1000; decide) o1
        rw [show (LQ (n' + 1) S2 m2 C00).d = Q S2 m2 C00 from rfl, o2, b2] at co
        replace co := hide co
        clear ca F5 B2 o1 o2 b2
        go_wp2_with fail
        refine co.out.mono ?_
        rintro e y3 ⟨tb, rfl, htb, F6, G6, B3, -⟩
        replace T4 := hide (T4.out.trans B3)
        have n1 := G6.num
        have n2' := F6.num
        rw [show (({ LQ (n' + 1) S2 m2 C00 with d := Q S2 (m2 + c3.length + 1) C00 } : Lg)).n = n' + 1 from rfl] at n2'
        rw [show ((⟨n' + 1, false, Q S2 (m2 + c3.length + 1) C00⟩ : Lg)).n = n' + 1 from rfl] at n1
        have ca : Calls Try.prog 32 _ y3 _ := Fs.all (n := n' + 1) (cr := C00) G6 (by rw [hl2.out]; decide)
        rw [← hV2.out] at ca
        replace ca := hide ca
        replace F6 := hide F6
        clear co G6 B3
        go_wp2_with fail
        refine n1.mono ?_
        rintro e y4 ⟨rfl, hy⟩
        subst hy
        go_wp2_with fail
        refine n2'.mono ?_
        rintro e y5 ⟨rfl, hy⟩
        subst hy
        clear n1 n2'
        go_wp2_with fail
        refine ca.out.mono ?_
        rintro e y6 ⟨rfl, -, B4, hold⟩
        have F7 : Hid (Fs w.heap.size _ (fun _ => False) y6 lb db (LQ (n' + 1) S2 (m2 + c3.length + 1) C00)) := hide ((F6.out.turn (turn_of B4 (fun k hk hn => hold k hk (fun e => hn (.inr e))))).more (fun k h => h.elim))
        replace T4 := hide (T4.out.trans B4)
        clear F6 B4 hold ca
        go_wp2
        go_roundw
        case rel => exact ⟨k + 1, n' + 1, _, _, S2, c3, V2, by omega, by omega, by go_num, rfl, hV2, F7, T4, hs2, hl2, by omega, by omega, e3⟩
        case measure => simp [intOf]; omega
      · obtain ⟨rfl, rfl, rfl⟩ : n3 = n' ∧ S2 = S ∧ m2 = m := by
          rcases how.out with ⟨h1, -, -⟩ | ⟨-, h2, h3, h4⟩
          · exact absurd (her.out.trans h1) her0
          · exact ⟨h2, h3, h4⟩
        have cnum := F4.out.num
        have cst := F4.out.steps
        rw [show (LQ n3 S2 m2 C00).n = n3 from rfl] at cnum
        rw [show (LQ n3 S2 m2 C00).d.m = m2 from rfl] at cst
        clear how hdi hl2 her hrow2
        go_wp2_with fail
        refine cnum.mono ?_
        rintro e y1 ⟨rfl, hy⟩
        subst hy
        go_wp2_with fail
        refine cst.mono ?_
        rintro e y2 ⟨rfl, hy⟩
        subst hy
        clear cnum cst
        go_wp2
        go_roundw
        case rel => exact ⟨k + 1, n3, m2, _, S2, c3, V, by omega, by omega, by go_num, rfl, hV, F4, T4, hs2, hl, by omega, by omega, e3⟩
        case measure => simp [intOf]; omega
    · have hfix2 := hfix
      by_cases h1 : k < n
      · have h2 : ¬ k < 60 := fun h2 => h ⟨h1, h2⟩
        have d60 : decide ((k : Int) < 60) = false := by simp; omega
        clear F hs hl hV
        go_wp2_with fail
        refine (hfix.out _).mono ?_
        rintro q y5 ⟨rfl, h5⟩
        replace T := hide (onto T.out (Nat.le_refl _) h5)
        go_wp2
        go_ret
        exact ⟨rfl, T.out⟩
      · clear F hs hl hV
        go_wp2_with fail
        refine (hfix.out _).mono ?_
        rintro q y5 ⟨rfl, h5⟩
        replace T := hide (onto T.out (Nat.le_refl _) h5)
        go_wp2
        go_ret
        exact ⟨rfl, T.out⟩

end Go.Proofs.Ytgffhnggocbjhaa
