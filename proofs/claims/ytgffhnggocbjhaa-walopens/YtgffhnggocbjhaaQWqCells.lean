/- Layer 19: the laws' cells. -/
import Derived.Test.YtgffhnggocbjhaaQWqPur
import Derived.Test.YtgffhnggocbjhaaQDkOpen
namespace Go.Proofs.Ytgffhnggocbjhaa
open Go.RowKit
set_option linter.unusedVariables false
set_option maxRecDepth 100000
set_option linter.unusedSimpArgs false

/-- v is a slice of the numbers ks, as it came in. -/
def IsInts (w : World) (v : Value) (ks : List Int) : Prop :=
  ∃ ad n c, v = .slice ad n c ∧ n = ks.length ∧ n ≤ maxLen ∧ ∀ (i : Nat) z, ks[i]? = some z → ∃ b off, ad = some ⟨b, off, none⟩ ∧ b < w.heap.size ∧ w.cell? ⟨b, off + i, none⟩ = some (.int .i64 z)
theorem IsInts.on {w y : World} {v : Value} {ks : List Int} (h : IsInts w v ks) (hb : Below w.heap.size w y) : IsInts y v ks := by
  obtain ⟨ad, n, c, e, h1, h2, hx⟩ := h
  exact ⟨ad, n, c, e, h1, h2, fun i z hz => by
    obtain ⟨b, off, e, hl, hc⟩ := hx i z hz
    exact ⟨b, off, e, Nat.lt_of_lt_of_le hl hb.size, (hb.cell (p := ⟨b, off + i, none⟩) hl).trans hc⟩⟩

/-- A call of a script: its parts. -/
structure Wop where
  k : Int
  v : Value
  f : Int
  m : Int
  n : Int
  c : Crs
def Wop.list (o : Wop) : List Value := [.int .i64 o.k, o.v, .int .u8 o.f, .int .i64 o.m, .int .i64 o.n, .string o.c.keep, .int .i64 o.c.torn, .int .i64 o.c.bytes]
structure Wop.Ok (o : Wop) : Prop where
  f : 0 ≤ o.f ∧ o.f < 256
  m : I64 o.m

def sizeC (m : Int) : Nat := (64 + max (-64) (min m 10)).toNat
theorem sizeC_le (m : Int) : sizeC m ≤ 74 := by unfold sizeC; omega

/-- What cells answers. -/
structure CellsAre (w w' : World) (ks : List Int) (m : Int) (v : Value) (c : Cl) : Prop where
  row : CW w' (fun k => k < w.heap.size) v c
  far : Below w.heap.size w w'
  len : c.length = min ks.length 18
  num : ∀ (i : Nat) p, c[i]? = some p → ks[i]? = some p.1
  size : ∀ p ∈ c, p.2.size = sizeC m

theorem RowIs.onto {w y : World} {B n : Nat} {f : Nat → Nat} (h : RowIs w B n f) (hb : Below w.heap.size w y) : RowIs y B n f := by
  have e := hb.block B h.lt
  refine ⟨Nat.lt_of_lt_of_le h.lt hb.size, fun j hj => by rw [World.cell?_of_block (a := ⟨B, j, none⟩) e]; exact h.cell j hj, fun j hj => ?_⟩
  have := h.free j hj
  unfold World.frozen? at this ⊢
  rw [e]
  exact this

set_option maxHeartbeats 1000000 in
theorem cells_any {w : World} (o : Wop) (ok : o.Ok) {ks : List Int} (I : IsInts w o.v ks) :
    Calls Try.prog 10 #[.agg o.list.toArray] w fun e w' => ∃ v c, e = .returned v ∧ CellsAre w w' ks o.m v c := by
  obtain ⟨k0, ov, f, m, n0, ⟨ck, ct, cb⟩⟩ := o
  obtain ⟨ad, n, cap, hv, hn, hmx, hx⟩ := I
  replace hv : ov = .slice ad n cap := hv
  subst hv
  obtain ⟨⟨f1, f2⟩, m1, m2⟩ := ok
  simp only at f1 f2 m1 m2
  have BO := Box.new w #[.int .i64 k0, .slice ad n cap, .int .u8 f, .int .i64 m, .int .i64 n0, .string ck, .int .i64 ct, .int .i64 cb] 33
  have gO := grow w (.cells #[.int .i64 k0, .slice ad n cap, .int .u8 f, .int .i64 m, .int .i64 n0, .string ck, .int .i64 ct, .int .i64 cb] 33)
  show Calls Try.prog _ #[.agg #[.int .i64 k0, .slice ad n cap, .int .u8 f, .int .i64 m, .int .i64 n0, .string ck, .int .i64 ct, .int .i64 cb]] w _
  replace hx := hide hx
  replace hn := hide hn
  go_enter Try.func10, Try.ntmps10
  go_wp2_with fail
  have hx0 : (w.alloc (.cells #[.int .i64 k0, .slice ad n cap, .int .u8 f, .int .i64 m, .int .i64 n0, .string ck, .int .i64 ct, .int .i64 cb] 33)).heap.size = w.heap.size + 1 := by simp
  generalize w.alloc (.cells #[.int .i64 k0, .slice ad n cap, .int .u8 f, .int .i64 m, .int .i64 n0, .string ck, .int .i64 ct, .int .i64 cb] 33) = x0 at *
  have hE : Hid ((x0.alloc (.cells #[] 80)).ownsRow (w.heap.size + 1) 80 2 (.slice (some ⟨w.heap.size + 1, 0, none⟩) 0 0) 0 (cellsL [])) := hide (by
    have := World.ownsRow_made (base := w.heap.size + 1) (e := 80) (size := 2) x0 #[] 0 (by rw [hx0]; exact Nat.le_refl _) (by decide) rfl
    rw [hx0] at this
    exact this)
  have g1 := grow x0 (.cells #[] 80)
  have BO1 := hide (BO.on g1)
  have T1 := hide (onto gO (Nat.le_refl _) g1)
  generalize x0.alloc (.cells #[] 80) = x1 at *
  obtain ⟨HB, hHB⟩ : ∃ HB, HB = w.heap.size := ⟨_, rfl⟩
  rw [← hHB] at hE BO1 ⊢
  obtain ⟨Z, hZ⟩ : ∃ Z, Z = sizeC m := ⟨_, rfl⟩
  have hZ74 : Z ≤ 74 := by rw [hZ]; exact sizeC_le m
  have hZI : (Z : Int) = 64 + max (-64) (min m 10) := by rw [hZ]; unfold sizeC; omega
  have mk := fun (y : World) => make_row y Z (by omega)
  rw [hZI] at mk
  replace hZ := hide hZ
  replace hHB := hide hHB
  replace hZI := hide hZI
  clear BO gO g1 hx0
  go_loopw [3, 4] (fun lv i y => ∃ (j : Nat) (la : Option Addr) (ll lc : Nat) (c : Cl), j ≤ 18 ∧ j ≤ n ∧ i = .int .i64 (j : Int) ∧ lv = .slice la ll lc ∧ Hid (y.ownsRow (HB + 1) 80 2 (.slice la ll lc) j (cellsL c)) ∧ Hid (c.length = j) ∧ Hid (Below w.heap.size w y) ∧
    Hid (Box y HB #[.int .i64 k0, .slice ad n cap, .int .u8 f, .int .i64 m, .int .i64 n0, .string ck, .int .i64 ct, .int .i64 cb]) ∧ Hid (∀ (i : Nat) p, c[i]? = some p → ks[i]? = some p.1) ∧ Hid (∀ p ∈ c, p.2.size = Z)) (fun _ i _ => 18 - (intOf i).toNat)
  case atStart => exact ⟨0, _, _, _, [], Nat.zero_le _, Nat.zero_le _, rfl, rfl, hE, hide rfl, T1, BO1, hide (fun i p h => by simp at h), hide (fun p h => by cases h)⟩
  case round =>
    clear hE T1 BO1 x1
    obtain ⟨j, la, ll, lc, c, hj18, hjn, rfl, rfl, O, hcl, T, BO, hnum, hsz⟩ := hrel
    have b1 : wr.cell? ⟨HB, 1, none⟩ = some (.slice ad n cap) := BO.out.cell 1
    have b2 : wr.cell? ⟨HB, 2, none⟩ = some (.int .u8 f) := BO.out.cell 2
    have b3 : wr.cell? ⟨HB, 3, none⟩ = some (.int .i64 m) := BO.out.cell 3
    by_cases h1 : j < n
    · by_cases h2 : j < 18
      · have M0 := made_row wr Z
        have gM := grow wr (.cells (madeCells #[.int .u8 0] Z) 5)
        have hMl : wr.heap.size < (wr.alloc (.cells (madeCells #[.int .u8 0] Z) 5)).heap.size := M0.lt
        have hwB : w.heap.size ≤ wr.heap.size := T.out.size
        have hHBl := BO.out.2.2
        have O1 := hide (own_keep O.out (fun g _ hg => gM.block g hg))
        have hOb : Hid (∀ g, (Value.slice la ll lc).ownBlock = some g → g < wr.heap.size) := hide (fun g hg => (O.out.lt g hg).2)
        have T1 := hide (onto T.out (Nat.le_refl _) gM)
        have BO1 := hide (BO.out.on gM)
        go_wp2_with fail
        generalize wr.alloc (.cells (madeCells #[.int .u8 0] Z) 5) = y0 at *
        obtain ⟨RB, hRB⟩ : ∃ RB, RB = wr.heap.size := ⟨_, rfl⟩
        rw [← hRB] at M0 hMl hwB hHBl hOb ⊢
        replace M0 := hide M0
        clear O T BO gM b1 b3 hRB
        go_loopw [6] (fun i y => ∃ (k : Nat) (fB : Nat → Nat), k ≤ Z ∧ i = .int .i64 (k : Int) ∧ Hid (RowIs y RB Z fB) ∧ Hid (y.ownsRow (HB + 1) 80 2 (.slice la ll lc) j (cellsL c)) ∧ Hid (Below w.heap.size w y) ∧
          Hid (Box y HB #[.int .i64 k0, .slice ad n cap, .int .u8 f, .int .i64 m, .int .i64 n0, .string ck, .int .i64 ct, .int .i64 cb])) (fun i _ => Z - (intOf i).toNat)
        case atStart => exact ⟨0, _, Nat.zero_le _, rfl, M0, O1, T1, BO1⟩
        case round =>
          clear M0 O1 T1 BO1 hMl y0 b2
          obtain ⟨k, fB, hk, rfl, R, O, T, BO⟩ := hrel
          have b2 : wr.cell? ⟨HB, 2, none⟩ = some (.int .u8 f) := BO.out.cell 2
          have hRl := R.out.lt
          by_cases h3 : k < Z
          · obtain ⟨P, hP⟩ : ∃ P, P = j * k := ⟨_, rfl⟩
            have hPI : (j : Int) * (k : Int) = (P : Int) := by rw [hP]; push_cast; rfl
            have hP2 : P ≤ 1332 := by rw [hP]; exact Nat.le_trans (Nat.mul_le_mul (Nat.le_of_lt h2) (Nat.le_of_lt (Nat.lt_of_lt_of_le h3 hZ74))) (by decide)
            obtain ⟨X, hX⟩ : ∃ X : Nat, (X : Int) = (f + (P : Int) % 256) % 256 := ⟨((f + (P : Int) % 256) % 256).toNat, by omega⟩
            have hw1 : IntKind.i64.wrap (P : Int) = (P : Int) := by simp [IntKind.wrap, IntKind.bits, IntKind.signed]; omega
            have hw2 : IntKind.u8.wrap (P : Int) = (P : Int) % 256 := by simp [IntKind.wrap, IntKind.bits, IntKind.signed]
            have hw3 : IntKind.u8.wrap (f + (P : Int) % 256) = (X : Int) := by rw [hX]; simp [IntKind.wrap, IntKind.bits, IntKind.signed]
            have m0 := R.out.cell k h3
            have m1 := R.out.free k h3
            have hne : ∀ g, g ≠ RB → (wr.setCell ⟨RB, k, none⟩ (.int .u8 (X : Int))).heap[g]? = wr.heap[g]? := fun g hg => Below.heap_setCell _ _ _ g hg
            have R2 := hide (R.out.set h3 X)
            have O2 := hide (own_keep O.out (fun g hg hl => hne g (by have := hOb.out g hg; omega)))
            have T2 := hide (T.out.setCell (p := ⟨RB, k, none⟩) hwB (.int .u8 (X : Int)))
            have BO2 := hide (BO.out.of_heap (hne HB (by omega)))
            clear R O T BO hne hP hX
            go_wp2
            go_roundw
            case rel => exact ⟨k + 1, _, by omega, by go_num, R2, O2, T2, BO2⟩
            case measure => simp [intOf]; omega
          · obtain rfl : k = Z := by omega
            obtain ⟨z, hz⟩ : ∃ z, ks[j]? = some z := ⟨ks[j]'(by have := hn.out; omega), List.getElem?_eq_getElem _⟩
            obtain ⟨gb, go, hae, hgl, hgc⟩ := hx.out j z hz
            subst hae
            have b1 : wr.cell? ⟨HB, 1, none⟩ = some (.slice (some ⟨gb, go, none⟩) n cap) := BO.out.cell 1
            have hzc : wr.cell? ⟨gb, go + j, none⟩ = some (.int .i64 z) := (T.out.cell (p := ⟨gb, go + j, none⟩) hgl).trans hgc
            obtain ⟨S, hS⟩ : ∃ S, S = textOf k fB := ⟨_, rfl⟩
            have hSs : S.size = k := by rw [hS]; exact textOf_size _ _
            replace hS := hide hS
            have gd := (Below.refl wr.heap.size wr).drew
            have R1 := R.out.onto gd
            have O1 := own_keep O.out (fun g _ hg => gd.block g hg)
            have T1 := onto T.out (Nat.le_refl _) gd
            have BO1 := BO.out.on gd
            have hzc1 : wr.drew.cell? ⟨gb, go + j, none⟩ = some (.int .i64 z) := hzc
            clear b1 hzc R O T BO gd
            go_wp2_with fail
            refine zir [] (fun y => y.cell? ⟨HB, 1, none⟩ = some (.slice (some ⟨gb, go, none⟩) n cap) ∧ y.cell? ⟨gb, go + j, none⟩ = some (.int .i64 z) ∧ RowIs y RB k fB) (by kernel_rfl) ⟨BO1.cell 1, hzc1, R1⟩ (fun hHeld => ?_)
            generalize wr.drew = y1 at *
            obtain ⟨v', zz, hap, O2, B2, ho, -⟩ := put_cell O1 (by have := BO1.2.2; omega) (by omega) z S
            obtain ⟨la2, ll2, lc2, rfl⟩ : ∃ a n c, v' = .slice a n c := by
              rcases O2.2 with ⟨e, -⟩ | ⟨g, cap, cur, e, -⟩
              · exact ⟨_, _, _, e⟩
              · exact ⟨_, _, _, e⟩
            have T2 := hide (T1.trans (B2.mono (by rw [hHB.out]; exact Nat.le_succ _)))
            have BO2 := hide (BO1.of_heap (ho HB BO1.2.2 (fun e => by have := (O1.lt HB e).1; omega)))
            have hcl2 : Hid ((c ++ [(z, S)]).length = j + 1) := hide (by rw [List.length_append, hcl.out]; rfl)
            have hnum2 : Hid (∀ (i : Nat) p, (c ++ [(z, S)])[i]? = some p → ks[i]? = some p.1) := hide (fun i p h => by
              by_cases hi : i < j
              · rw [List.getElem?_append_left (by rw [hcl.out]; exact hi)] at h
                exact hnum.out i p h
              · rw [List.getElem?_append_right (by rw [hcl.out]; omega), hcl.out] at h
                have hi2 : i - j = 0 := by
                  rcases Nat.eq_zero_or_pos (i - j) with h' | h'
                  · exact h'
                  · rw [List.getElem?_eq_none (by simp; omega)] at h; cases h
                rw [hi2] at h
                simp at h
                subst h
                rw [show i = j by omega]
                exact hz)
            have hsz2 : Hid (∀ p ∈ c ++ [(z, S)], p.2.size = k) := hide (fun p h => by
              rcases List.mem_append.1 h with h | h
              · exact hsz.out p h
              · simp at h; subst h; exact hSs)
            replace O2 := hide O2
            have hgw : gb < HB := by rw [hHB.out]; exact hgl
            have SZ : zz.cell? ⟨HB, 1, none⟩ = some (.slice (some ⟨gb, go, none⟩) n cap) ∧ zz.cell? ⟨gb, go + j, none⟩ = some (.int .i64 z) ∧ RowIs zz RB k fB := by
              have e1 := ho gb (by have := BO1.2.2; omega) (fun e => by have := (O1.lt gb e).1; omega)
              have e2 := ho RB R1.lt (fun e => by have := hOb.out RB e; omega)
              refine ⟨BO2.out.cell 1, (World.cell?_of_block (a := ⟨gb, go + j, none⟩) e1).trans hzc1, Nat.lt_of_lt_of_le R1.lt B2.size, fun i hi => by rw [World.cell?_of_block (a := ⟨RB, i, none⟩) e2]; exact R1.cell i hi, fun i hi => ?_⟩
              have := R1.free i hi
              unfold World.frozen? at this ⊢
              rw [e2]
              exact this
            clear O1 T1 hgc B2 ho hzc1
            refine zit 0 ?_ rfl (by kernel_rfl) (fun _ _ _ h => h) (by rfl) (by assumption) ?_ ?_
            rotate_left
            · intro y hSw
              have e1 := hSw.1; have e2 := hSw.2.1; have e7 := conv_back hSw.2.2 k; rw [← hS.out] at e7
              go_simp
              try with_reducible rfl
            try simp only [Act.put, zpa, zpb, zpc]
            refine zit 1 ?_ rfl (by kernel_rfl) (fun _ _ _ h => h) (by rfl) (by assumption) ?_ ?_
            rotate_left
            · intro y hSw
              have e1 := hSw.1; have e2 := hSw.2.1; have e7 := conv_back hSw.2.2 k; rw [← hS.out] at e7
              go_simp
              try with_reducible rfl
            try simp only [Act.put, zpa, zpb, zpc]
            refine zit 2 ?_ rfl (by kernel_rfl) (fun _ _ _ h => h) (by rfl) (by assumption) ?_ ?_
            rotate_left
            · intro y hSw
              have e1 := hSw.1; have e2 := hSw.2.1; have e7 := conv_back hSw.2.2 k; rw [← hS.out] at e7
              go_simp
              try with_reducible rfl
            try simp only [Act.put, zpa, zpb, zpc]
            refine zit 3 ?_ rfl (by kernel_rfl) (fun _ _ _ h => h) (by rfl) (by assumption) ?_ ?_
            rotate_left
            · intro y hSw
              have e1 := hSw.1; have e2 := hSw.2.1; have e7 := conv_back hSw.2.2 k; rw [← hS.out] at e7
              go_simp
              try with_reducible rfl
            try simp only [Act.put, zpa, zpb, zpc]
            refine zit 4 ?_ rfl (by kernel_rfl) (fun _ _ _ h => h) (by rfl) (by assumption) ?_ ?_
            rotate_left
            · intro y hSw
              have e1 := hSw.1; have e2 := hSw.2.1; have e7 := conv_back hSw.2.2 k; rw [← hS.out] at e7
              go_simp
              try with_reducible rfl
            try simp only [Act.put, zpa, zpb, zpc]
            refine zit 5 ?_ rfl (by kernel_rfl) (fun _ _ _ h => h) (by rfl) (by assumption) ?_ ?_
            rotate_left
            · intro y hSw
              have e1 := hSw.1; have e2 := hSw.2.1; have e7 := conv_back hSw.2.2 k; rw [← hS.out] at e7
              go_simp
              try with_reducible rfl
            try simp only [Act.put, zpa, zpb, zpc]
            refine zit 6 ?_ rfl (by kernel_rfl) (fun _ _ _ h => h) (by rfl) (by assumption) ?_ ?_
            rotate_left
            · intro y hSw
              have e1 := hSw.1; have e2 := hSw.2.1; have e7 := conv_back hSw.2.2 k; rw [← hS.out] at e7
              go_simp
              try with_reducible rfl
            try simp only [Act.put, zpa, zpb, zpc]
            refine zit 7 ?_ rfl (by kernel_rfl) (fun _ _ _ h => h) (by rfl) (by assumption) ?_ ?_
            rotate_left
            · intro y hSw
              have e1 := hSw.1; have e2 := hSw.2.1; have e7 := conv_back hSw.2.2 k; rw [← hS.out] at e7
              go_simp
              try with_reducible rfl
            try simp only [Act.put, zpa, zpb, zpc]
            refine zit 8 ?_ rfl (by kernel_rfl) (fun _ _ _ h => h) (by rfl) (by assumption) ?_ ?_
            rotate_left
            · intro y hSw
              have e1 := hSw.1; have e2 := hSw.2.1; have e7 := conv_back hSw.2.2 k; rw [← hS.out] at e7
              go_simp
              try with_reducible rfl
            try simp only [Act.put, zpa, zpb, zpc]
            refine zib 9 rfl (by kernel_rfl) (fun K hK => ?_)
            have A3 := grow y1 (.cells #[.int .i64 z, .string S] 80)
            go_simp
            refine hK.out _ _ (⟨(BO1.on A3).cell 1, (A3.cell (p := ⟨gb, go + j, none⟩) (World.block_lt_of_cell? _ _ hHeld.2.1)).trans hHeld.2.1, R1.onto A3⟩) (fun hHeld => ?_)
            clear hK K
            try simp only [Act.put, zpa, zpb, zpc]
            refine zib 10 rfl (by kernel_rfl) (fun K hK => ?_)
            refine step_append_told' rfl (.tmp 41) (.tmp 50) 36 rfl (.slice la ll lc) (.slice (some ⟨y1.heap.size, 0, none⟩) 1 1) _ rfl rfl hap ?_
            refine hK.out _ _ (SZ) (fun hHeld => ?_)
            clear hK K
            try simp only [Act.put, zpa, zpb, zpc]
            refine zit 11 ?_ rfl (by kernel_rfl) (fun _ _ _ h => h) (by rfl) (by assumption) ?_ ?_
            rotate_left
            · intro y hSw
              skip
              go_simp
              try with_reducible rfl
            try simp only [Act.put, zpa, zpb, zpc]
            refine zid (by kernel_rfl) ?_ _
            clear hHeld SZ hap A3 R1 BO1
            go_wp2
            go_roundw
            case rel => exact ⟨j + 1, la2, ll2, lc2, _, by omega, by omega, by go_num, rfl, O2, hcl2, T2, BO2, hnum2, hsz2⟩
            case measure => simp [intOf]; omega
      · obtain rfl : j = 18 := by omega
        have fin : Hid (CellsAre w wr ks m (.slice la ll lc) c) := hide ⟨CW.of_own (by rw [hcl.out]; exact O.out) (by rw [hcl.out]; decide) _ (fun g h => by have := hHB.out; omega), T.out, by rw [hcl.out, ← hn.out]; omega, hnum.out, fun p hp => by rw [hsz.out p hp, hZ.out]⟩
        clear O T BO hcl hnum hsz
        go_wp2
        go_ret
        exact ⟨_, _, rfl, fin.out⟩
    · obtain rfl : j = n := by omega
      have fin : Hid (CellsAre w wr ks m (.slice la ll lc) c) := hide ⟨CW.of_own (by rw [hcl.out]; exact O.out) (by rw [hcl.out]; omega) _ (fun g h => by have := hHB.out; omega), T.out, by rw [hcl.out, ← hn.out]; omega, hnum.out, fun p hp => by rw [hsz.out p hp, hZ.out]⟩
      clear O T BO hcl hnum hsz
      go_wp2
      go_ret
      exact ⟨_, _, rfl, fin.out⟩

end Go.Proofs.Ytgffhnggocbjhaa
