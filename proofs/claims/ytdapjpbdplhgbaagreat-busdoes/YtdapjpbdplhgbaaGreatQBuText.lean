/- Layer 12: the devices' state as bytes, the program's. -/
import Derived.Test.YtdapjpbdplhgbaaGreatQBuAll
import Derived.Test.YtdapjpbdplhgbaaGreatQTmAll
import Derived.Test.YtdapjpbdplhgbaaGreatQUaText
import Derived.Test.YtdapjpbdplhgbaaGreatQDmText
import Derived.Deep.RegionHeld3
namespace Go.Proofs.YtdapjpbdplhgbaaGreat
open Go.RowKit
set_option linter.unusedVariables false
set_option maxRecDepth 100000

/-- The rng's parts, the first j of them as bytes. -/
def fourG (g : Rg) : List Int := [g.a, g.b, g.c, g.d]
def quadsG (g : Rg) (j : Nat) : List Int := ((fourG g).take j).flatMap Dm.quad

theorem quadsG_succ (g : Rg) (j : Nat) (x : Int) (h : (fourG g)[j]? = some x) : quadsG g (j + 1) = quadsG g j ++ Dm.quad x := by
  unfold quadsG
  rw [List.take_add_one, h]
  simp

/-- The rng's bytes. -/
def textG (g : Rg) : ByteArray := strOfNums (quadsG g 4)

theorem index4i (a b c d x : Int) (j : Nat) (h : ([a, b, c, d] : List Int)[j]? = some x) (w : World) :
    (Instr.index 145 (.agg #[.int .i64 a, .int .i64 b, .int .i64 c, .int .i64 d]) (.int .i64 (j : Int))).run Tryz.prog w = .ok (.int .i64 x) w := by
  match j, h with
  | 0, h => simp at h; subst h; rfl
  | 1, h => simp at h; subst h; rfl
  | 2, h => simp at h; subst h; rfl
  | 3, h => simp at h; subst h; rfl
  | j + 4, h => simp at h

theorem fourG_w {g : Rg} (hg : Wg g) {j : Nat} {x : Int} (h : (fourG g)[j]? = some x) : 0 ≤ x ∧ x < 4294967296 := by
  unfold fourG at h
  match j, h with
  | 0, h => simp at h; subst h; have := hg.a; omega
  | 1, h => simp at h; subst h; have := hg.b; omega
  | 2, h => simp at h; subst h; have := hg.c; omega
  | 3, h => simp at h; subst h; have := hg.d; omega
  | j + 4, h => simp at h

theorem gParts : (∀ r : Rg, (cellsG r)[0]? = some (.int .i64 r.a)) ∧ (∀ r : Rg, (cellsG r)[1]? = some (.int .i64 r.b)) ∧ (∀ r : Rg, (cellsG r)[2]? = some (.int .i64 r.c)) ∧ (∀ r : Rg, (cellsG r)[3]? = some (.int .i64 r.d)) :=
  ⟨fun _ => rfl, fun _ => rfl, fun _ => rfl, fun _ => rfl⟩

set_option maxHeartbeats 1000000 in
set_option maxRecDepth 100000 in
theorem textG_any {t : Rg} (ht : Wg t) (w : World) :
    Calls Tryz.prog 42 #[.agg (cellsG t)] w fun e w' => e = .returned (.string (textG t)) ∧ Below w.heap.size w w' := by
  obtain ⟨-, -, -, z4, -, -, -, -, z9, -⟩ := sizeRules
  have hi0 : (Tryz.prog.info? 5).map (fun i => (i.zero, i.size, i.bytes)) = some (some (.int .u8 0), 1, 1) := by kernel_rfl
  obtain ⟨i0, hi, hz0, hz1, hz2⟩ := info_parts hi0
  have R := Box.new w (cellsG t) 50
  have B := grow w (.cells (cellsG t) 50)
  obtain ⟨X, hX⟩ : ∃ X, w.alloc (.cells (cellsG t) 50) = X := ⟨_, rfl⟩
  rw [hX] at R B
  have hwx : w.heap.size < X.heap.size := R.2.2
  obtain ⟨w1, hmk, hown, hgr⟩ := run_make_own (P := Tryz.prog) X X.heap.size 55 5 i0 (.int .u8 0) 1 Tryz.underlying55 hi hz0 hz1 .i64 .i64 16 (by rw [hz2]; omega) (by unfold maxLen; omega) (Nat.le_refl _)
  have b1 : Below X.heap.size X w1 := (Below.refl _ X).grown hgr (Nat.le_refl _) (fun k hk => by cases hk)
  replace R := R.on b1
  obtain ⟨l0, l1, l2, l3⟩ := And.intro (R.cell 0) (And.intro (R.cell 1) (And.intro (R.cell 2) (R.cell 3)))
  rw [gParts.1] at l0
  rw [gParts.2.1] at l1
  rw [gParts.2.2.1] at l2
  rw [gParts.2.2.2] at l3
  have O1 := hide hown
  have HB := hide B
  have b1 := hide b1
  clear hown hgr R B
  rw [show ((16 : Nat) : Int) = 16 from rfl] at hmk
  obtain ⟨T, hT⟩ : ∃ T, Hid (T = textG t) := ⟨_, hide rfl⟩
  rw [← hT.out]
  go_enter Tryz.func42, Tryz.ntmps42
  go_wp2
  go_loopw [3, 16] (fun v i wr => ∃ k : Nat, k ≤ 4 ∧ i = .int .i64 k ∧ Hid (wr.ownsRow X.heap.size 5 1 v (4 * k) (Dm.asU8 (quadsG t k))) ∧ Hid (Below X.heap.size X wr)) (fun _ i _ => 4 - (intOf i).toNat)
  case atStart => exact ⟨0, by omega, rfl, O1, b1⟩
  case round =>
    clear hmk O1 b1 l0 l1 l2 l3
    obtain ⟨k, hk, rfl, O, G⟩ := hrel
    by_cases h : k < 4
    · have hl : k < ([t.a, t.b, t.c, t.d] : List Int).length := h
      obtain ⟨x, hq⟩ : ∃ x, ([t.a, t.b, t.c, t.d] : List Int)[k] = x := ⟨_, rfl⟩
      have hx : (fourG t)[k]? = some x := by rw [← hq]; exact List.getElem?_eq_getElem hl
      have hix := fun w => index4i t.a t.b t.c t.d x k hx w
      clear hq
      obtain ⟨x0, x1⟩ := fourG_w ht hx
      have HS := hide (quadsG_succ t k x hx)
      have hsz := G.out.size
      have hc := Dm.asU8_new wr (Dm.quad x)
      have h1 := Dm.asU8_one (Dm.quad x)
      clear hx
      unfold Dm.asU8 Dm.quad at hc h1
      simp only [List.map_cons, List.map_nil] at hc h1
      have hc := hide hc
      have h1 := hide h1
      go_wp2_with (at_builtin; refine wpList_append_own _ rfl _ _ 55 rfl X.heap.size 5 i0 (.int .u8 0) 1 1 Tryz.underlying55 hi hz0 hz1 hz2 rfl (by decide) _ _ _ rfl (O.out.alloc _) ⟨wr.heap.size, 0, none⟩ 4 4 [.int .u8 (x / 16777216), .int .u8 (x / 65536 % 256), .int .u8 (x / 256 % 256), .int .u8 (x % 256)] rfl rfl hc.out h1.out (by unfold maxLen; omega) (by omega) (by simp; omega) ?_)
      intro v' w4 hown' hgrow _
      have b4 : Below X.heap.size X w4 := by
        refine (G.out.alloc hsz _).grown hgrow (by simp; omega) (fun k hk => ?_)
        rcases O.out.2 with ⟨rfl, -⟩ | ⟨g, cap, cur, rfl, hg, -⟩
        · cases hk
        · cases hk; exact hg
      have O4 : Hid (w4.ownsRow X.heap.size 5 1 v' (4 * (k + 1)) (Dm.asU8 (quadsG t (k + 1)))) := hide (by
        rw [HS.out]
        unfold Dm.asU8
        rw [List.map_append]
        exact hown')
      have b4 := hide b4
      clear hown' hgrow O G hc h1
      go_wp2
      go_roundw
      case rel => exact ⟨k + 1, by omega, by go_num, O4, b4⟩
      case measure => simp [intOf]; omega
    · have : k = 4 := by omega
      subst this
      have hcv : (convert 55 9 u3).run Tryz.prog wr = .ok (.string T) wr := by
        rw [hT.out]
        exact Dm.own_nums (base := X.heap.size) (n := 16) O.out rfl (by omega)
      have hb := hide (onto HB.out (Nat.le_refl _) G.out)
      clear hT G O
      go_wp2
      go_ret
      exact ⟨rfl, hb.out⟩

end Go.Proofs.YtdapjpbdplhgbaaGreat
