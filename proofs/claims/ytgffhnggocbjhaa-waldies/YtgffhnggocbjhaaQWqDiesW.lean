/- Layer 19: the walk of WalDies. -/
import Derived.Test.YtgffhnggocbjhaaQWqWops
import Derived.Test.YtgffhnggocbjhaaQWqStep
import Derived.Test.YtgffhnggocbjhaaQWqMore
import Derived.Test.YtgffhnggocbjhaaQWqAgainW
import Derived.Test.YtgffhnggocbjhaaQWqFixed
namespace Go.Proofs.Ytgffhnggocbjhaa
open Go.RowKit
set_option linter.unusedVariables false
set_option maxRecDepth 100000
set_option linter.unusedSimpArgs false

set_option maxHeartbeats 4000000 in
set_option maxRecDepth 100000 in
theorem dies_walk (w : World) (v : Value) (ops : List Wop) (hv : IsWops w v ops) (cz : Crs) (hz : cz.Ok) :
    Calls Try.prog 7 #[v, .agg cz.list.toArray] w fun e w' => e = .returned (.bool true) ∧ Below w.heap.size w w' := by
  have hfix := hide (fun y => fixed_any y)
  have hcz := hide (fun (z : World) (bb NB' n m : Nat) (S : List ByteArray) (lb db : Nat) (F : Fs bb NB' (fun _ => False) z lb db (LQ n S m C00)) => F.crash cz hz.k)
  obtain ⟨zk, zt, zb⟩ := cz
  show Calls Try.prog 7 #[v, .agg #[.string zk, .int .i64 zt, .int .i64 zb]] w _
  clear hz
  obtain ⟨ad, n, c, rfl, hn, hmx, hx⟩ := hv.open'
  have cl := laid_any 60 (by constructor <;> decide) (by decide) (w.alloc (.cells #[.string zk, .int .i64 zt, .int .i64 zb] 31))
  have BO := Box.new w #[.string zk, .int .i64 zt, .int .i64 zb] 31
  have g0 := grow w (.cells #[.string zk, .int .i64 zt, .int .i64 zb] 31)
  obtain ⟨S0, hS0, hl0, hsan⟩ := san_60
  rw [show (min (60 : Int) 80).toNat = 60 from rfl, ← hS0] at cl
  replace hsan := hide hsan
  replace hx := hide hx
  replace hn := hide hn
  replace hl0 := hide hl0
  unfold maxLen at hmx
  clear hv hS0
  go_enter Try.func7, Try.ntmps7
  go_wp2_with fail
  generalize w.alloc (.cells #[.string zk, .int .i64 zt, .int .i64 zb] 31) = x0 at *
  replace hx : Hid (∀ (i : Nat) o, ops[i]? = some o → (o.Ok ∧ ∃ ks, IsInts x0 o.v ks) ∧ ∃ b off, ad = some ⟨b, off, none⟩ ∧ b < x0.heap.size ∧ o.At x0 b (off + i * 8)) := hide (fun i o ho => by
    obtain ⟨⟨ok, ks, I⟩, b, off, e, hbl, hat⟩ := hx.out i o ho
    exact ⟨⟨ok, ks, I.on g0⟩, b, off, e, Nat.lt_of_lt_of_le hbl g0.size, hat.keep (g0.block b hbl)⟩)
  replace BO := hide BO
  replace g0 := hide g0
  refine cl.mono ?_
  rintro e w1 ⟨db, lb, mv, kv, rfl, L1, hlb, T1⟩
  have F1 := hide (Fs.mk (b := x0.heap.size) (P := fun _ => False) ⟨_, L1.bound, fun k hk => ⟨hk.1.1, id, hk.2⟩⟩ hlb L1.log.2.2 (Nat.le_refl _) id (fun k h => h.elim))
  replace T1 := hide T1
  clear cl L1
  go_upto_block 0 with fail
  go_cut [10] from 11 (fun i y => ∃ (n' m N : Nat) (S : List ByteArray) (c' : Cl) (iv : Value), i = iv ∧ Hid (Fs x0.heap.size N (fun _ => False) y lb db (LQ n' S m C00)) ∧ Hid (Below x0.heap.size x0 y) ∧ Hid (San S n' c') ∧ Hid (S.length = 60) ∧ n' ≤ 31 ∧ m ≤ 1083 ∧ c'.length ≤ 16)
  case first =>
    go_wp2_with fail
    go_loopw [10] (fun i wr => ∃ (k n' m N : Nat) (S : List ByteArray) (c' : Cl), k ≤ n ∧ k ≤ 30 ∧ i = .int .i64 (k : Int) ∧ Hid (Fs x0.heap.size N (fun _ => False) wr lb db (LQ n' S m C00)) ∧ Hid (Below x0.heap.size x0 wr) ∧ Hid (San S n' c') ∧ Hid (S.length = 60) ∧ n' ≤ k + 1 ∧ m ≤ 3 + 36 * k ∧ c'.length ≤ 16) (fun i _ => n - (intOf i).toNat)
    case atStart => exact ⟨0, 1, 3, _, S0, [], Nat.zero_le _, Nat.zero_le _, rfl, F1, T1, hsan, hl0, Nat.le_refl _, Nat.le_refl _, Nat.zero_le _⟩
    case round =>
      clear F1 T1 hsan hl0
      obtain ⟨k, n', m, NB, S, c', hk, hk1, rfl, F, T, hs, hl, hn', hm, hc⟩ := hrel
      by_cases h : k < n ∧ k < 30
      · obtain ⟨hk2, hk3⟩ := h
        obtain ⟨o, ho⟩ : ∃ o, ops[k]? = some o := ⟨ops[k]'(by have := hn.out; omega), List.getElem?_eq_getElem _⟩
        obtain ⟨⟨ok, ks, I⟩, b, off, rfl, hbl, hat⟩ := hx.out k o ho
        obtain ⟨q0, q1, q2, q3, q4, q5, q6, q7⟩ := (hat.keep (T.out.block b hbl)).eight
        clear hat ho
        have I2 : IsInts wr o.v ks := by
          obtain ⟨ad', n2, c2, e, h1, h2, hx'⟩ := I
          exact ⟨ad', n2, c2, e, h1, h2, fun i z hz => by
            obtain ⟨b', off', e, hl', hc'⟩ := hx' i z hz
            exact ⟨b', off', e, Nat.lt_of_lt_of_le hl' T.out.size, (T.out.cell (p := ⟨b', off' + i, none⟩) hl').trans hc'⟩⟩
        have cc := cells_any o ok I2
        obtain ⟨K, ov, Fb, M, N, ⟨dk, dt, db'⟩⟩ := o
        obtain ⟨ad', n2, c2, he, -⟩ := I2
        replace he : ov = .slice ad' n2 c2 := he
        subst he
        replace cc : Calls Try.prog 10 #[.agg #[.int .i64 K, .slice ad' n2 c2, .int .u8 Fb, .int .i64 M, .int .i64 N, .string dk, .int .i64 dt, .int .i64 db']] wr _ := cc
        simp only at q0 q1 q2 q3 q4 q5 q6 q7
        have d30 : decide ((k : Int) < 30) = true := by simp; omega
        clear I ok
        go_wp2_with fail
        refine cc.mono ?_
        rintro e x2 ⟨cv, cl, rfl, CA⟩
        have F2 := F.out.on CA.far
        have hN := F.out.top
        have cm := F2.commit (v := cv) (c := cl) CA.row (fun k hk _ => by omega) (by show n' < _; omega) (by show m + 100 < _; omega) (by show 0 + 100 < 1000; decide)
        obtain ⟨S2, n3, m2, c3, SP⟩ := stepped hs.out (by omega : n' < 4294967295) m C00 cl
        rw [SP.is] at cm
        have hF := F.out.lo
        have hF2 := F.out.hi
        have T2 := hide (onto T.out (Nat.le_refl _) CA.far)
        have e1 := SP.num
        have e2 := SP.made
        have e3 := SP.c16
        have hl2 := hide (SP.len.trans hl.out)
        have hs2 := hide SP.san
        generalize (LQ n' S m C00).errC cl = er at cm
        replace cm := hide cm
        clear cc CA F F2 SP T q0 q1 q2 q3 q4 q5 q6 q7 hs hl
        go_wp2_with fail
        refine cm.out.mono ?_
        rintro e x3 ⟨rfl, F3, T3, -⟩
        have T4 := hide (T2.out.trans T3)
        replace F3 := hide F3
        clear cm T2 T3
        go_wp2
        go_roundw
        case rel => exact ⟨k + 1, n3, m2, _, S2, c3, by omega, by omega, by go_num, F3, T4, hs2, hl2, by omega, by omega, e3⟩
        case measure => simp [intOf]; omega
      · have fin : Hid (∃ (n' m N : Nat) (S : List ByteArray) (c' : Cl), Hid (Fs x0.heap.size N (fun _ => False) wr lb db (LQ n' S m C00)) ∧ Hid (Below x0.heap.size x0 wr) ∧ Hid (San S n' c') ∧ Hid (S.length = 60) ∧ n' ≤ 31 ∧ m ≤ 1083 ∧ c'.length ≤ 16) := hide ⟨n', m, NB, S, c', F, T, hs, hl, by omega, by omega, hc⟩
        by_cases hk2 : k < n
        · have hk3 : ¬ k < 30 := fun h3 => h ⟨hk2, h3⟩
          have d30 : decide ((k : Int) < 30) = false := by simp; omega
          clear h F T hs hl
          go_wp2
          go_meet
          case rel => obtain ⟨n', m, NB, S, c', h1, h2, h3, h4, h5, h6, h7⟩ := fin.out; exact ⟨n', m, NB, S, c', _, rfl, h1, h2, h3, h4, h5, h6, h7⟩
        · clear h F T hs hl
          go_wp2
          go_meet
          case rel => obtain ⟨n', m, NB, S, c', h1, h2, h3, h4, h5, h6, h7⟩ := fin.out; exact ⟨n', m, NB, S, c', _, rfl, h1, h2, h3, h4, h5, h6, h7⟩
  case rest =>
    obtain ⟨n', m, NB, S, c', iv, hiv, F, T, hs, hl, hn', hm, hc⟩ := hcut
    replace hiv := hiv.symm
    subst hiv
    clear F1 T1 hsan hl0 hx hn
    have ca := F.out.all (by rw [hl.out]; decide)
    obtain ⟨V, hV⟩ : ∃ V, V = catT (S.drop 34) := ⟨_, rfl⟩
    rw [← hV] at ca
    have hl42 : 42 ≤ S.length := by rw [hl.out]; decide
    go_wp2_with fail
    refine ca.mono ?_
    rintro q y1 ⟨rfl, F1, B1, -⟩
    have cn := F1.num
    have cc := hcz.out _ _ _ _ _ _ _ _ F1
    replace T := hide (T.out.trans B1)
    have hb1 := BO.out.on T.out
    have e0 : y1.cell? ⟨w.heap.size, 0, none⟩ = some (.string zk) := hb1.cell 0
    have e1 : y1.cell? ⟨w.heap.size, 1, none⟩ = some (.int .i64 zt) := hb1.cell 1
    have e2 : y1.cell? ⟨w.heap.size, 2, none⟩ = some (.int .i64 zb) := hb1.cell 2
    obtain ⟨n1, hn1⟩ : ∃ n1, n1 = n' := ⟨_, rfl⟩
    rw [show (LQ n' S m C00).n = n' from rfl] at cn
    have hst := same_text V V
    rw [decide_eq_true rfl] at hst
    obtain ⟨o1, o2⟩ := hs.out.opens m C00
    obtain ⟨-, b2, -, -⟩ := hs.out.best m C00
    have hl134 : S.length ≤ 134 := by rw [hl.out]; decide
    replace hV := hide hV
    replace o1 := hide o1
    replace o2 := hide o2
    replace b2 := hide b2
    clear ca F B1 hb1 hn1 n1
    go_wp2_with fail
    refine cn.mono ?_
    rintro q y2 ⟨rfl, hy⟩
    subst hy
    replace cc := hide cc
    clear cn
    go_wp2_with fail
    refine cc.out.mono ?_
    rintro q y3 ⟨rfl, F2, B2, -⟩
    have c3 := hide (F2.readDead hl42)
    replace T := hide (T.out.trans B2)
    clear F1 F2 B2 cc e0 e1 e2
    go_wp2_with fail
    refine c3.out.mono ?_
    rintro q y4 ⟨rfl, F3, B3, -⟩
    have c4 := F3.isDead
    rw [show (⟨n', true, ⟨S, [], 0, C00, true, m⟩⟩ : Lg).dead = true from rfl] at c4
    have c5 := hide F3.revive
    replace T := hide (T.out.trans B3)
    clear F3 B3 c3
    go_wp2_with fail
    refine c4.mono ?_
    rintro q y5 ⟨rfl, hy⟩
    subst hy
    clear c4
    go_wp2_with fail
    refine c5.out.mono ?_
    rintro q y6 ⟨rfl, F4, B4, -⟩
    have c6 := hide (F4.commitDead (by omega) (by omega))
    replace T := hide (T.out.trans B4)
    clear F4 B4 c5
    go_wp2_with fail
    refine c6.out.mono ?_
    rintro q y7 ⟨rfl, F5, B5, -⟩
    have c7 := F5.num
    rw [show (⟨n', true, Q S m C00⟩ : Lg).n = n' from rfl] at c7
    have c8 := F5.opens (by show m + 300 < _; omega) (by show 0 + 300 < 1000; decide) o1.out
    rw [show (⟨n', true, Q S m C00⟩ : Lg).d = Q S m C00 from rfl, o2.out, b2.out] at c8
    replace c8 := hide c8
    replace T := hide (T.out.trans B5)
    clear F5 B5 c6
    go_wp2_with fail
    refine c7.mono ?_
    rintro q y8 ⟨rfl, hy⟩
    subst hy
    clear c7
    go_wp2_with fail
    refine c8.out.mono ?_
    rintro q y9 ⟨tb, rfl, htb, -, G, B6, -⟩
    have c9 : Calls Try.prog 32 _ y9 _ := Fs.all (n := n') (cr := C00) G hl134
    rw [← hV.out] at c9
    replace c9 := hide c9
    replace T := hide (T.out.trans B6)
    clear B6 c8 G
    go_wp2_with fail
    refine c9.out.mono ?_
    rintro q y10 ⟨rfl, G, B7, -⟩
    have c10 := G.num
    rw [show (LQ n' S (m + c'.length + 1) C00).n = n' from rfl] at c10
    replace T := hide (T.out.trans B7)
    clear B7 c9 G
    go_wp2_with fail
    refine c10.mono ?_
    rintro q y11 ⟨rfl, hy⟩
    subst hy
    clear c10
    go_wp2_with fail
    refine (hfix.out _).mono ?_
    rintro q y12 ⟨rfl, h5⟩
    replace T := hide (onto T.out (Nat.le_refl _) h5)
    go_wp2
    go_ret
    exact ⟨rfl, g0.out.trans (T.out.mono g0.out.size)⟩

end Go.Proofs.Ytgffhnggocbjhaa
