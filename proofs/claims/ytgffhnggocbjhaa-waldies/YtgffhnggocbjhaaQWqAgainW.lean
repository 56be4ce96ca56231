/- Layer 19: the walk of WalAgain. -/
import Derived.Test.YtgffhnggocbjhaaQWqWops
import Derived.Test.YtgffhnggocbjhaaQWqStep
import Derived.Test.YtgffhnggocbjhaaQWqFixed
namespace Go.Proofs.Ytgffhnggocbjhaa
open Go.RowKit
set_option linter.unusedVariables false
set_option maxRecDepth 100000
set_option linter.unusedSimpArgs false

theorem san_60 : ∃ S, S = S1 60 ∧ S.length = 60 ∧ San S 1 [] := ⟨_, rfl, by rfl, (form_new (by decide) (by decide)).2.2⟩

set_option maxHeartbeats 4000000 in
set_option maxRecDepth 100000 in
theorem again_walk (w : World) (v : Value) (ops : List Wop) (hv : IsWops w v ops) :
    Calls Try.prog 6 #[v] w fun e w' => e = .returned (.bool true) ∧ Below w.heap.size w w' := by
  have hfix := hide (fun y => fixed_any y)
  obtain ⟨ad, n, c, rfl, hn, hmx, hx⟩ := hv.open'
  have cl := laid_any 60 (by constructor <;> decide) (by decide) w
  obtain ⟨S0, hS0, hl0, hsan⟩ := san_60
  rw [show (min (60 : Int) 80).toNat = 60 from rfl, ← hS0] at cl
  replace hsan := hide hsan
  replace hx := hide hx
  replace hn := hide hn
  replace hl0 := hide hl0
  unfold maxLen at hmx
  clear hv hS0
  go_enter Try.func6, Try.ntmps6
  go_wp2_with fail
  refine cl.mono ?_
  rintro e w1 ⟨db, lb, mv, kv, rfl, L1, hlb, T1⟩
  have F1 := hide (Fs.mk (b := w.heap.size) (P := fun _ => False) ⟨_, L1.bound, fun k hk => ⟨hk.1.1, id, hk.2⟩⟩ hlb L1.log.2.2 (Nat.le_refl _) id (fun k h => h.elim))
  replace T1 := hide T1
  clear cl L1
  go_upto_block 0 with fail
  go_cut [8] from 9 (fun i y => ∃ (n' m N : Nat) (S : List ByteArray) (c' : Cl) (iv : Value), i = iv ∧ Hid (Fs w.heap.size N (fun _ => False) y lb db (LQ n' S m C00)) ∧ Hid (Below w.heap.size w y) ∧ Hid (San S n' c') ∧ Hid (S.length = 60) ∧ n' ≤ 31 ∧ m ≤ 1083 ∧ c'.length ≤ 16)
  case first =>
    go_wp2_with fail
    go_loopw [8] (fun i wr => ∃ (k n' m N : Nat) (S : List ByteArray) (c' : Cl), k ≤ n ∧ k ≤ 30 ∧ i = .int .i64 (k : Int) ∧ Hid (Fs w.heap.size N (fun _ => False) wr lb db (LQ n' S m C00)) ∧ Hid (Below w.heap.size w wr) ∧ Hid (San S n' c') ∧ Hid (S.length = 60) ∧ n' ≤ k + 1 ∧ m ≤ 3 + 36 * k ∧ c'.length ≤ 16) (fun i _ => n - (intOf i).toNat)
    case atStart => exact ⟨0, 1, 3, _, S0, [], Nat.zero_le _, Nat.zero_le _, rfl, F1, T1, hsan, hl0, Nat.le_refl _, Nat.le_refl _, Nat.zero_le _⟩
    case round =>
      clear F1 T1 hsan hl0
      obtain ⟨k, n', m, NB, S, c', hk, hk1, rfl, F, T, hs, hl, hn', hm, hc⟩ := hrel
      by_cases h : k < n ∧ k < 30
      · obtain ⟨hk2, hk3⟩ := h
        obtain ⟨o, ho⟩ : ∃ o, ops[k]? = some o := ⟨ops[k]'(by have := hn.out; omega), List.getElem?_eq_getElem _⟩
        obtain ⟨⟨ok, ks, I⟩, b, off, rfl, hbl, hat⟩ := hx.out k o ho
        obtain ⟨q0, q1, q2, q3, q4, q5, q6, q7⟩ := (hat.keep (T.out.block b hbl)).eight
        clear hat ho
        have I2 : IsInts wr o.v ks := by
          obtain ⟨ad', n2, c2, e, h1, h2, hx'⟩ := I
          exact ⟨ad', n2, c2, e, h1, h2, fun i z hz => by
            obtain ⟨b', off', e, hl', hc'⟩ := hx' i z hz
            exact ⟨b', off', e, Nat.lt_of_lt_of_le hl' T.out.size, (T.out.cell (p := ⟨b', off' + i, none⟩) hl').trans hc'⟩⟩
        have cc := cells_any o ok I2
        obtain ⟨K, ov, Fb, M, N, ⟨dk, dt, db'⟩⟩ := o
        obtain ⟨ad', n2, c2, he, -⟩ := I2
        replace he : ov = .slice ad' n2 c2 := he
        subst he
        replace cc : Calls Try.prog 10 #[.agg #[.int .i64 K, .slice ad' n2 c2, .int .u8 Fb, .int .i64 M, .int .i64 N, .string dk, .int .i64 dt, .int .i64 db']] wr _ := cc
        simp only at q0 q1 q2 q3 q4 q5 q6 q7
        have d30 : decide ((k : Int) < 30) = true := by simp; omega
        clear I ok
        go_wp2_with fail
        refine cc.mono ?_
        rintro e x2 ⟨cv, cl, rfl, CA⟩
        have F2 := F.out.on CA.far
        have hN := F.out.top
        have cm := F2.commit (v := cv) (c := cl) CA.row (fun k hk _ => by omega) (by show n' < _; omega) (by show m + 100 < _; omega) (by show 0 + 100 < 1000; decide)
        obtain ⟨S2, n3, m2, c3, SP⟩ := stepped hs.out (by omega : n' < 4294967295) m C00 cl
        rw [SP.is] at cm
        have hF := F.out.lo
        have hF2 := F.out.hi
        have T2 := hide (onto T.out (Nat.le_refl _) CA.far)
        have e1 := SP.num
        have e2 := SP.made
        have e3 := SP.c16
        have hl2 := hide (SP.len.trans hl.out)
        have hs2 := hide SP.san
        generalize (LQ n' S m C00).errC cl = er at cm
        replace cm := hide cm
        clear cc CA F F2 SP T q0 q1 q2 q3 q4 q5 q6 q7 hs hl
        go_wp2_with fail
        refine cm.out.mono ?_
        rintro e x3 ⟨rfl, F3, T3, -⟩
        have T4 := hide (T2.out.trans T3)
        replace F3 := hide F3
        clear cm T2 T3
        go_wp2
        go_roundw
        case rel => exact ⟨k + 1, n3, m2, _, S2, c3, by omega, by omega, by go_num, F3, T4, hs2, hl2, by omega, by omega, e3⟩
        case measure => simp [intOf]; omega
      · have fin : Hid (∃ (n' m N : Nat) (S : List ByteArray) (c' : Cl), Hid (Fs w.heap.size N (fun _ => False) wr lb db (LQ n' S m C00)) ∧ Hid (Below w.heap.size w wr) ∧ Hid (San S n' c') ∧ Hid (S.length = 60) ∧ n' ≤ 31 ∧ m ≤ 1083 ∧ c'.length ≤ 16) := hide ⟨n', m, NB, S, c', F, T, hs, hl, by omega, by omega, hc⟩
        by_cases hk2 : k < n
        · have hk3 : ¬ k < 30 := fun h3 => h ⟨hk2, h3⟩
          have d30 : decide ((k : Int) < 30) = false := by simp; omega
          clear h F T hs hl
          go_wp2
          go_meet
          case rel => obtain ⟨n', m, NB, S, c', h1, h2, h3, h4, h5, h6, h7⟩ := fin.out; exact ⟨n', m, NB, S, c', _, rfl, h1, h2, h3, h4, h5, h6, h7⟩
        · clear h F T hs hl
          go_wp2
          go_meet
          case rel => obtain ⟨n', m, NB, S, c', h1, h2, h3, h4, h5, h6, h7⟩ := fin.out; exact ⟨n', m, NB, S, c', _, rfl, h1, h2, h3, h4, h5, h6, h7⟩
  case rest =>
    obtain ⟨n', m, NB, S, c', iv, hiv, F, T, hs, hl, hn', hm, hc⟩ := hcut
    replace hiv := hiv.symm
    subst hiv
    clear F1 T1 hsan hl0 hx hn
    obtain ⟨IM, hIM⟩ : ∃ IM, Hid (IM = catT S) := ⟨_, hide rfl⟩
    have ci := hide (fun (z : World) (NB' : Nat) (m' : Nat) (F : Fs w.heap.size NB' (fun _ => False) z lb db (LQ n' S m' C00)) => show Calls Try.prog 24 #[.pointer (some ⟨db, 0, none⟩)] z (fun q z' => q = .returned (.string IM) ∧ Below z.heap.size z z') by
      obtain ⟨H, L, hH⟩ := F.ex
      rw [hIM.out]
      exact dimage_any L.disk)
    go_wp2_with fail
    refine (ci.out _ _ _ F.out).mono ?_
    rintro q y1 ⟨rfl, b1⟩
    replace F := hide (F.out.on b1)
    replace T := hide (onto T.out (Nat.le_refl _) b1)
    clear b1
    have hst := same_text IM IM
    rw [decide_eq_true rfl] at hst
    go_wp2_with fail
    go_loopw [10] (fun i wr => ∃ (k m' N : Nat), k ≤ 3 ∧ i = .int .i64 (k : Int) ∧ Hid (Fs w.heap.size N (fun _ => False) wr lb db (LQ n' S m' C00)) ∧ Hid (Below w.heap.size w wr) ∧ m' ≤ 1083 + 20 * k) (fun i _ => 3 - (intOf i).toNat)
    case atStart => exact ⟨0, m, _, Nat.zero_le _, rfl, F, T, by omega⟩
    case round =>
      clear F T hm
      obtain ⟨k, m', NB', hk, rfl, F, T, hm⟩ := hrel
      by_cases h : k < 3
      · have d3 : decide ((k : Int) < 3) = true := by simp; omega
        obtain ⟨o1, o2⟩ := hs.out.opens m' C00
        obtain ⟨-, b2, -, -⟩ := hs.out.best m' C00
        have co := F.out.opens (by show m' + 300 < _; omega) (by show 0 + 300 < 1000; decide) o1
        rw [show (LQ n' S m' C00).d = Q S m' C00 from rfl, o2, b2] at co
        replace co : Calls Try.prog 20 #[.pointer (some ⟨db, 0, none⟩)] wr fun e z => ∃ tb, e = .returned (.tuple #[.pointer (some ⟨tb, 0, none⟩), .int .i64 0]) ∧ wr.heap.size ≤ tb ∧
          Fs w.heap.size z.heap.size (fun k => False ∨ k = tb) z lb db (LQ n' S (m' + c'.length + 1) C00) ∧ Fs w.heap.size z.heap.size (fun k => False ∨ k = lb) z tb db (LQ n' S (m' + c'.length + 1) C00) ∧ Below w.heap.size wr z ∧ ∀ k, False → z.heap[k]? = wr.heap[k]? := co
        clear F o1 o2 b2
        go_wp2_with fail
        refine co.mono ?_
        rintro e x2 ⟨tb, rfl, htb, F2, G2, B2, -⟩
        replace F2 := hide (F2.more (P2 := fun _ => False) (fun k h => h.elim))
        replace G2 := hide G2
        replace T := hide (T.out.trans B2)
        have n1 := G2.out.num
        have n2 := F2.out.num
        have s1 := G2.out.sec
        have s2 := F2.out.sec
        have hdo : Hid (∃ SO, (LQ n' S (m' + c'.length + 1) C00).d.own = SO) := hide ⟨_, rfl⟩
        obtain ⟨SO, hSO⟩ := hdo.out
        rw [hSO] at s1 s2
        rw [show (LQ n' S (m' + c'.length + 1) C00).n = n' from rfl] at n1 n2
        clear co B2 G2 hSO hdo
        go_wp2_with fail
        refine n1.mono ?_
        rintro e y3 ⟨rfl, hy⟩
        subst hy
        go_wp2_with fail
        refine n2.mono ?_
        rintro e y4 ⟨rfl, hy⟩
        subst hy
        go_wp2_with fail
        refine s1.mono ?_
        rintro e y5 ⟨rfl, hy⟩
        subst hy
        go_wp2_with fail
        refine s2.mono ?_
        rintro e y6 ⟨rfl, hy⟩
        subst hy
        clear n1 n2 s1 s2
        go_wp2_with fail
        refine (ci.out _ _ _ F2.out).mono ?_
        rintro q y7 ⟨rfl, b1⟩
        replace F2 := hide (F2.out.on b1)
        replace T := hide (onto T.out (Nat.le_refl _) b1)
        clear b1
        go_wp2
        go_roundw
        case rel => exact ⟨k + 1, _, _, by omega, by go_num, F2, T, by omega⟩
        case measure => simp [intOf]; omega
      · have d3 : decide ((k : Int) < 3) = false := by simp; omega
        clear F ci hs
        go_wp2_with fail
        refine (hfix.out _).mono ?_
        rintro q y5 ⟨rfl, h5⟩
        replace T := hide (onto T.out (Nat.le_refl _) h5)
        go_wp2
        go_ret
        exact ⟨rfl, T.out⟩

end Go.Proofs.Ytgffhnggocbjhaa
