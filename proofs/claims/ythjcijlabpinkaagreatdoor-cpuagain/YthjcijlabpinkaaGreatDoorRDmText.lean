/- Layer 11: contracts of a state's bytes, the program's. -/
import Derived.Test.YthjcijlabpinkaaGreatDoorRDmTwo
import Derived.Laws.AppendOwn
import Derived.RegionTactic
import Derived.Deep.RegionLaw
namespace Go.Proofs.YthjcijlabpinkaaGreatDoor.Dm
open Go.RowKit
set_option linter.unusedVariables false
set_option maxRecDepth 100000

def quad (v : Int) : List Int := [v / 16777216, v / 65536 % 256, v / 256 % 256, v % 256]

def four (d : Dm) : List Int := [d.a, d.n, d.b, d.y]

def quads (d : Dm) (j : Nat) : List Int := ((four d).take j).flatMap quad

theorem quads_succ (d : Dm) (j : Nat) (x : Int) (h : (four d)[j]? = some x) : quads d (j + 1) = quads d j ++ quad x := by
  unfold quads
  rw [List.take_add_one, h, List.flatMap_append]
  simp

def one (b : Bool) : Int := if b then 1 else 0

def textV (d : Dm) : ByteArray := strOfNums (quads d 4 ++ [one d.r])

def asU8 (ns : List Int) : List Value := ns.map (Value.int .u8)

theorem asU8_one (ns : List Int) : ∀ v ∈ asU8 ns, v.oneCell' = true := by
  intro v hv
  unfold asU8 at hv
  rw [List.mem_map] at hv
  obtain ⟨j, -, rfl⟩ := hv
  rfl

theorem asU8_new (w : World) (ns : List Int) : ∀ (j : Nat) u, (asU8 ns)[j]? = some u → (w.alloc (.cells (asU8 ns).toArray 5)).cell? ((⟨w.heap.size, 0, none⟩ : Addr).add j) = some u := by
  intro j u h
  rw [Addr.add_lit, World.cell?_alloc_new]
  simpa using h

theorem own_nums {w : World} {base n : Nat} {v : Value} {ns : List Int} (O : w.ownsRow base 5 1 v n (asU8 ns)) (hn : ns.length = n) (h0 : 0 < n) :
    (convert 56 9 v).run Tryz.prog w = .ok (.string (strOfNums ns)) w := by
  rcases O.2 with ⟨-, rfl⟩ | ⟨g, cap, cur, rfl, -⟩
  · omega
  · refine run_convert_bytes_arg w 56 5 Tryz.underlying56 Tryz.underlying5 g 0 n cap ns hn ?_ 9 Tryz.underlying9
    intro i hi
    have hi' : i < ns.length := by omega
    have := O.cells (g := g) rfl i (.int .u8 ns[i]) (by unfold asU8; rw [List.getElem?_map, List.getElem?_eq_getElem hi']; rfl)
    rw [Addr.add_lit] at this
    rw [this, List.getD_eq_getElem?_getD, List.getElem?_eq_getElem hi']
    rfl

theorem index4 (a b c d x : Int) (j : Nat) (h : ([a, b, c, d] : List Int)[j]? = some x) (w : World) :
    (Instr.index 215 (.agg #[.int .u32 a, .int .u32 b, .int .u32 c, .int .u32 d]) (.int .i64 (j : Int))).run Tryz.prog w = .ok (.int .u32 x) w := by
  match j, h with
  | 0, h => simp at h; subst h; rfl
  | 1, h => simp at h; subst h; rfl
  | 2, h => simp at h; subst h; rfl
  | 3, h => simp at h; subst h; rfl
  | j + 4, h => simp at h

theorem four_w {d : Dm} (hd : Wd d) {j : Nat} {x : Int} (h : (four d)[j]? = some x) : W32 x := by
  unfold four at h
  match j, h with
  | 0, h => simp at h; subst h; exact hd.a
  | 1, h => simp at h; subst h; exact hd.n
  | 2, h => simp at h; subst h; exact hd.b
  | 3, h => simp at h; subst h; exact hd.y
  | j + 4, h => simp at h

set_option maxHeartbeats 1000000 in
set_option maxRecDepth 100000 in
theorem text_any {t : Dm} (ht : Wd t) (w : World) :
    Calls Tryz.prog 75 #[.agg (cellsD t)] w fun e w' => e = .returned (.string (textV t)) ∧ Below w.heap.size w w' := by
  obtain ⟨t1, t2, t3, t4, t5, t6, t7, t8, t9⟩ := dmRules
  obtain ⟨p0, p1, p2, p3, p4⟩ := dmParts
  have hi0 : (Tryz.prog.info? 5).map (fun i => (i.zero, i.size, i.bytes)) = some (some (.int .u8 0), 1, 1) := by kernel_rfl
  obtain ⟨i0, hi, hz0, hz1, hz2⟩ := info_parts hi0
  have R := Rat.new w t 66
  have B := grow w (.cells (cellsD t) 66)
  obtain ⟨X, hX⟩ : ∃ X, w.alloc (.cells (cellsD t) 66) = X := ⟨_, rfl⟩
  rw [hX] at R B
  have hwx : w.heap.size < X.heap.size := R.2.2
  obtain ⟨w1, hmk, hown, hgr⟩ := run_make_own (P := Tryz.prog) X X.heap.size 56 5 i0 (.int .u8 0) 1 Tryz.underlying56 hi hz0 hz1 .i64 .i64 17 (by rw [hz2]; omega) (by unfold maxLen; omega) (Nat.le_refl _)
  have b1 : Below X.heap.size X w1 := (Below.refl _ X).grown hgr (Nat.le_refl _) (fun k hk => by cases hk)
  replace R := R.on b1
  obtain ⟨l0, l1, l2, l3, l4⟩ := R.five
  have O1 := hide hown
  have HR := hide R
  have HB := hide B
  have b1 := hide b1
  clear hown hgr R B
  rw [show ((17 : Nat) : Int) = 17 from rfl] at hmk
  obtain ⟨T, hT⟩ : ∃ T, Hid (T = textV t) := ⟨_, hide rfl⟩
  rw [← hT.out]
  go_enter Tryz.func75, Tryz.ntmps75
  go_wp2
  go_loopw [3, 17] (fun v i wr => ∃ k : Nat, k ≤ 4 ∧ i = .int .i64 k ∧ Hid (wr.ownsRow X.heap.size 5 1 v (4 * k) (asU8 (quads t k))) ∧ Hid (Below X.heap.size X wr) ∧ Hid (Rat wr w.heap.size t)) (fun _ i _ => 4 - (intOf i).toNat)
  case atStart => exact ⟨0, by omega, rfl, O1, b1, HR⟩
  case round =>
    clear hmk O1 b1 HR l0 l1 l2 l3 l4
    obtain ⟨k, hk, rfl, O, G, R⟩ := hrel
    by_cases h : k < 4
    · have hl : k < ([t.a, t.n, t.b, t.y] : List Int).length := h
      obtain ⟨x, hq⟩ : ∃ x, ([t.a, t.n, t.b, t.y] : List Int)[k] = x := ⟨_, rfl⟩
      have hx : (four t)[k]? = some x := by rw [← hq]; exact List.getElem?_eq_getElem hl
      have hix := fun w => index4 t.a t.n t.b t.y x k hx w
      clear hq
      obtain ⟨x0, x1⟩ := four_w ht hx
      have HS := hide (quads_succ t k x hx)
      have hsz := G.out.size
      have hc := asU8_new wr (quad x)
      have h1 := asU8_one (quad x)
      clear hx
      unfold asU8 quad at hc h1
      simp only [List.map_cons, List.map_nil] at hc h1
      have hc := hide hc
      have h1 := hide h1
      go_wp2_with (at_builtin; refine wpList_append_own _ rfl _ _ 56 rfl X.heap.size 5 i0 (.int .u8 0) 1 1 Tryz.underlying56 hi hz0 hz1 hz2 rfl (by decide) _ _ _ rfl (O.out.alloc _) ⟨wr.heap.size, 0, none⟩ 4 4 [.int .u8 (x / 16777216), .int .u8 (x / 65536 % 256), .int .u8 (x / 256 % 256), .int .u8 (x % 256)] rfl rfl hc.out h1.out (by unfold maxLen; omega) (by omega) (by simp; omega) ?_)
      intro v' w4 hown' hgrow _
      have b4 : Below X.heap.size X w4 := by
        refine (G.out.alloc hsz _).grown hgrow (by simp; omega) (fun k hk => ?_)
        rcases O.out.2 with ⟨rfl, -⟩ | ⟨g, cap, cur, rfl, hg, -⟩
        · cases hk
        · cases hk; exact hg
      have O4 : Hid (w4.ownsRow X.heap.size 5 1 v' (4 * (k + 1)) (asU8 (quads t (k + 1)))) := hide (by
        rw [HS.out]
        unfold asU8
        rw [List.map_append]
        exact hown')
      have R4 : Hid (Rat w4 w.heap.size t) := hide (R.out.of_heap (by rw [b4.block _ hwx, G.out.block _ hwx]))
      have b4 := hide b4
      clear hown' hgrow O G R hc h1
      go_wp2
      go_roundw
      case rel => exact ⟨k + 1, by omega, by go_num, O4, b4, R4⟩
      case measure => simp [intOf]; omega
    · have : k = 4 := by omega
      subst this
      obtain ⟨l0, l1, l2, l3, l4⟩ := R.out.five
      have hsz := G.out.size
      have fin : ∀ (b : Int) (v' : Value) (w4 : World), one t.r = b → w4.ownsRow X.heap.size 5 1 v' (4 * 4 + 1) (asU8 (quads t 4) ++ [.int .u8 b]) → (convert 56 9 v').run Tryz.prog w4 = .ok (.string T) w4 := by
        intro b v' w4 hb hO
        rw [hT.out]
        unfold textV
        rw [hb]
        refine own_nums (base := X.heap.size) (n := 17) ?_ rfl (by omega)
        unfold asU8
        rw [List.map_append]
        exact hO
      have hb4 : ∀ (o : Obj) (w4 : World), (wr.alloc o).grownBy w4 u3.ownBlock → Below w.heap.size w w4 := by
        intro o w4 hgrow
        have : Below X.heap.size X w4 := by
          refine (G.out.alloc hsz _).grown hgrow (by simp; omega) (fun k hk => ?_)
          rcases O.out.2 with ⟨rfl, -⟩ | ⟨g, cap, cur, rfl, hg, -⟩
          · cases hk
          · cases hk; exact hg
        exact onto HB.out (Nat.le_refl _) this
      have fin := hide fin
      have hb4 := hide hb4
      clear hT R G
      cases hr : t.r
      · rw [hr] at l4 fin
        have hc := hide (asU8_new wr [0])
        have h1 := hide (asU8_one [0])
        go_wp2_with (at_builtin; refine wpList_append_own _ rfl _ _ 56 rfl X.heap.size 5 i0 (.int .u8 0) 1 1 Tryz.underlying56 hi hz0 hz1 hz2 rfl (by decide) _ _ _ rfl (O.out.alloc _) ⟨wr.heap.size, 0, none⟩ 1 1 [.int .u8 0] rfl rfl hc.out h1.out (by unfold maxLen; omega) (by omega) (by simp; omega) ?_)
        intro v' w4 hown' hgrow _
        have hcv := fin.out 0 v' w4 rfl hown'
        have hbl := hide (hb4.out _ _ hgrow)
        clear hown' hgrow O fin hb4 hc h1
        go_wp2
        go_ret
        exact ⟨rfl, hbl.out⟩
      · rw [hr] at l4 fin
        have hc := hide (asU8_new wr [1])
        have h1 := hide (asU8_one [1])
        go_wp2_with (at_builtin; refine wpList_append_own _ rfl _ _ 56 rfl X.heap.size 5 i0 (.int .u8 0) 1 1 Tryz.underlying56 hi hz0 hz1 hz2 rfl (by decide) _ _ _ rfl (O.out.alloc _) ⟨wr.heap.size, 0, none⟩ 1 1 [.int .u8 1] rfl rfl hc.out h1.out (by unfold maxLen; omega) (by omega) (by simp; omega) ?_)
        intro v' w4 hown' hgrow _
        have hcv := fin.out 1 v' w4 rfl hown'
        have hbl := hide (hb4.out _ _ hgrow)
        clear hown' hgrow O fin hb4 hc h1
        go_wp2
        go_ret
        exact ⟨rfl, hbl.out⟩

end Go.Proofs.YthjcijlabpinkaaGreatDoor.Dm
