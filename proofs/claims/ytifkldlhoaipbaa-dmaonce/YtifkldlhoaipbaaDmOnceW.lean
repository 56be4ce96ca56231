/- A move that is begun is done with the tenth step, once, whatever is written to its registers but the way meanwhile. -/
import Derived.Test.YtifkldlhoaipbaaDmIdleW
namespace Go.Proofs.Ytifkldlhoaipbaa
open Go.RowKit
set_option linter.unusedVariables false
set_option linter.unusedSimpArgs false

theorem noise_keeps {d : Dm} (hd : Wd d) {G v : Int} (hG : G = 0 ∨ G = 4 ∨ G = 8 ∨ G = 12) (hv : W32 v) (h4 : 4 ≤ v) : Wd (writeV d G v) ∧ (writeV d G v).b = d.b ∧ (writeV d G v).y = d.y ∧ formV G = 0 := by
  refine ⟨write_w hd G hv, ?_⟩
  rcases hG with rfl | rfl | rfl | rfl
  · exact ⟨rfl, rfl, rfl⟩
  · exact ⟨rfl, rfl, rfl⟩
  · have e : writeV d 8 v = d := by
      unfold writeV
      rw [if_neg (by omega), if_neg (by omega), if_pos rfl, if_neg (by omega)]
    rw [e]
    exact ⟨rfl, rfl, rfl⟩
  · exact ⟨rfl, rfl, rfl⟩

theorem and3 {z : Int} (hz : W32 z) : ∃ r : Nat, bits .and .u32 z 3 = (r : Int) ∧ r < 4 := by
  refine ⟨z.toNat &&& 3, u32_and z 3 hz.1 hz.2 (by decide) (by decide), ?_⟩
  have := Nat.and_two_pow_sub_one_eq_mod z.toNat 2
  simp only [show (2 : Nat) ^ 2 - 1 = 3 from rfl, show (2 : Nat) ^ 2 = 4 from rfl] at this
  rw [this]
  omega

theorem or4 {z : Int} (hz : W32 z) : ∃ v : Int, bits .or .u32 (z / 4) 4 = v ∧ W32 v ∧ 4 ≤ v := by
  have h0 := hz.1
  have h1 := hz.2
  refine ⟨_, u32_or (z / 4) 4 (by omega) (by omega) (by decide) (by decide), ⟨by omega, ?_⟩, ?_⟩
  · have := Nat.or_lt_two_pow (x := (z / 4).toNat) (y := 4) (n := 32) (by omega) (by omega)
    simp only [show (2 : Nat) ^ 32 = 4294967296 from rfl] at this
    rw [show (4 : Int).toNat = 4 from rfl]
    omega
  · have := Nat.right_le_or (n := (z / 4).toNat) (m := 4)
    rw [show (4 : Int).toNat = 4 from rfl]
    omega

theorem reg_at (r : Nat) (h : r < 4) : ∃ G : Int, (#[Value.int .u32 0, .int .u32 4, .int .u32 8, .int .u32 12] : Array Value)[r]? = some (.int .u32 G) ∧ (G = 0 ∨ G = 4 ∨ G = 8 ∨ G = 12) := by
  match r, h with
  | 0, _ => exact ⟨0, rfl, by omega⟩
  | 1, _ => exact ⟨4, rfl, by omega⟩
  | 2, _ => exact ⟨8, rfl, by omega⟩
  | 3, _ => exact ⟨12, rfl, by omega⟩

theorem si3 {w x y : World} {A : Nat} {d : Dm} {b o : Nat} {z : Int} (hb : b < w.heap.size) (h : x.cell? ⟨b, o, none⟩ = some (.int .u32 z) ∧ Rat x A d ∧ Below w.heap.size w x) (hn : Below x.heap.size x y) :
    y.cell? ⟨b, o, none⟩ = some (.int .u32 z) ∧ Rat y A d ∧ Below w.heap.size w y := (si_on hb h hn).2

theorem si4 {w x : World} {A : Nat} {d : Dm} {b o : Nat} {z : Int} (hb : b < w.heap.size) (h : x.cell? ⟨b, o, none⟩ = some (.int .u32 z) ∧ Rat x A d ∧ Below w.heap.size w x) (g : Nat) (c : Array Value) (hg : A < g) (hw : w.heap.size ≤ g) :
    (x.setRow g c).cell? ⟨b, o, none⟩ = some (.int .u32 z) ∧ Rat (x.setRow g c) A d ∧ Below w.heap.size w (x.setRow g c) := (si_far hb h g c hg hw).2

/-- Where a move that is begun stands ahead of step k: what is left, and how many are done. -/
def Stage (m : Int) (k f : Nat) (d : Dm) : Prop := k ≤ 10 ∧ f = 0 ∧ d.b = 11 - (k : Int) ∧ d.y = 1 + m ∨ 11 ≤ k ∧ f = 1 ∧ d.b = 0

theorem Stage.keep {m : Int} {k f : Nat} {d q : Dm} (h : Stage m k f d) (hb : q.b = d.b) (hy : q.y = d.y) : Stage m k f q := by
  unfold Stage at *
  rw [hb, hy]
  exact h

set_option maxRecDepth 100000 in
set_option maxHeartbeats 4000000 in
theorem once_walk (w : World) (t : Dm) (ht : Wd t) (y : Int) (wy : (Lit.int .u32 y).wf = true) (v0 : Value) (zs : List Int) (hv : IsWords w v0 zs) :
    Calls Try.prog 7 #[.agg (cellsD t), .int .u32 y, v0] w fun e w' => e = .returned (.bool true) ∧ Below w.heap.size w w' := by
  obtain ⟨t1, t2, t3, t4, t5, t6, t7, t8, t9⟩ := dmRules
  obtain ⟨p0, p1, p2, p3, p4⟩ := dmParts
  obtain ⟨s0, s1, s2, s3, s4⟩ := dmSets
  obtain ⟨ad, n, cp, rfl, hn, hnl, hx⟩ := hv.open'
  obtain ⟨y0, y1⟩ := wf_u32 wy
  obtain ⟨m, hm⟩ : ∃ m : Int, bits .and .u32 y 1 = m := ⟨_, rfl⟩
  have hm2 : m = 0 ∨ m = 1 := by
    rw [← hm, u32_and y 1 y0 (by omega) (by decide) (by decide)]
    have := Nat.and_two_pow_sub_one_eq_mod y.toNat 1
    simp only [show (2 : Nat) ^ 1 - 1 = 1 from rfl, show (2 : Nat) ^ 1 = 2 from rfl] at this
    rw [show (1 : Int).toNat = 1 from rfl, this]
    omega
  have c1 := hide fun W => write_any ⟨t.a, t.n, 0, t.y, t.r⟩ 8 (1 + m) W
  rw [show formV 8 = 0 from rfl] at c1
  have m0 : 0 ≤ m := by omega
  have m1 : m < 2 := by omega
  have hw : writeV ⟨t.a, t.n, 0, t.y, t.r⟩ 8 (1 + m) = ⟨t.a, t.n, 10, 1 + m, t.r⟩ := by
    unfold writeV
    rw [if_neg (by omega), if_neg (by omega), if_pos rfl, if_pos ⟨rfl, by omega⟩]
  rw [hw] at c1
  clear hw hv
  replace hn := hide hn
  replace hx := hide hx
  unfold maxLen at hnl
  have G0 := grow w (.cells (cellsD ⟨t.a, t.n, 0, t.y, t.r⟩) 24)
  go_enter Try.func7, Try.ntmps7
  go_wp2_with fail
  refine (c1.out _).mono ?_
  rintro e w1 ⟨rfl, b1⟩
  obtain ⟨T, hT⟩ : ∃ T : Dm, (⟨t.a, t.n, 10, 1 + m, t.r⟩ : Dm) = T := ⟨_, rfl⟩
  rw [hT]
  have R := Rat.new w1 T 24
  have B1 := onto G0 (Nat.le_refl _) b1
  have hL := B1.size
  have B := onto B1 (Nat.le_refl _) (grow w1 (.cells (cellsD T) 24))
  clear b1 G0 B1 c1
  go_wp2_with fail
  generalize w1.alloc (.cells (cellsD T) 24) = X at *
  generalize w1.heap.size = L at *
  have hw0 : w.heap.size ≤ L := by have := R.2.2; omega
  have hst := hide (And.intro R B)
  have hT0 : Hid (Wd T ∧ Stage m 1 0 T) := hide ⟨by rw [← hT]; exact ⟨ht.a, ht.n, w_10, ⟨by show 0 ≤ 1 + m; omega, by show 1 + m < 4294967296; omega⟩⟩, by rw [← hT]; exact Or.inl ⟨by omega, rfl, rfl, rfl⟩⟩
  clear R B hT
  go_loopw [9, 10] (fun c i wr => ∃ (k f : Nat) (d : Dm), 1 ≤ k ∧ k ≤ 41 ∧ i = .int .i64 k ∧ c = .int .i64 f ∧ f ≤ 1 ∧ Hid (Wd d ∧ Stage m k f d) ∧ Hid (Rat wr L d ∧ Below w.heap.size w wr)) (fun _ i _ => 41 - (intOf i).toNat)
  case atStart => exact ⟨1, 0, T, by omega, by omega, rfl, rfl, by omega, hT0, hst⟩
  case round =>
    clear hst hT0
    obtain ⟨k, f, d, hk0, hk, rfl, rfl, hf, hd, hR⟩ := hrel
    by_cases hlt : k ≤ 40
    · have hk40 : decide ((k : Int) ≤ 40) = true := by simp; omega
      by_cases hkn : k < n
      · have hkn' : decide ((k : Int) < (n : Int)) = true := by simp; omega
        obtain ⟨z, hz⟩ : ∃ z, zs[k]? = some z := ⟨_, List.getElem?_eq_getElem (by rw [← hn.out]; exact hkn)⟩
        obtain ⟨wz, b, o, rfl, hb, hcell⟩ := hx.out k z hz
        have hc0 : wr.cell? ⟨b, o + k, none⟩ = some (.int .u32 z) := by rw [hR.out.2.cell (p := ⟨b, o + k, none⟩) hb]; exact hcell
        obtain ⟨r, hr, hr4⟩ := and3 wz
        obtain ⟨v, hv, wv, hv4⟩ := or4 wz
        obtain ⟨G, hG, hGG⟩ := reg_at r hr4
        obtain ⟨z0, z1⟩ := wz
        have c1 := hide fun W => write_any d G v W
        obtain ⟨r1, r2, r3, r4⟩ := noise_keeps hd.out.1 hGG wv hv4
        have hq : Wd (writeV d G v) ∧ Stage m k f (writeV d G v) := ⟨r1, hd.out.2.keep r2 r3⟩
        rw [r4] at c1
        generalize writeV d G v = q at *
        replace hq := hide hq
        have i1 : (k : Int) < (n : Int) := by omega
        have i2 : (0 : Int) ≤ (k : Int) := by omega
        have i3 : (r : Int) < 4 := by omega
        have i4 : (0 : Int) ≤ (r : Int) := by omega
        have H0 : Hid (wr.drew.cell? ⟨b, o + k, none⟩ = some (.int .u32 z) ∧ Rat wr.drew L d ∧ Below w.heap.size w wr.drew) := hide ⟨hc0, hR.out.1, hR.out.2.drew⟩
        clear r1 r2 r3 r4 hd hR hc0 hz hcell wv hv4
        go_wp2_with fail
        go_cut [11, 12] from 34 to 52 (fun p e x => ∃ LB : Nat, p = .pointer (some ⟨LB, 0, none⟩) ∧ e = .int .i64 0 ∧ Hid (Rat x LB q ∧ Rat x L d ∧ ¬ L = LB ∧ Below w.heap.size w x))
        case first =>
          refine wp_region_held_drew (S := fun x => x.cell? ⟨b, o + k, none⟩ = some (.int .u32 z) ∧ Rat x L d ∧ Below w.heap.size w x) (by kernel_rfl) H0.out (fun hHeld => ?_)
          clear H0
          generalize wr.drew = x0 at *
          refine wpAnyH_take (i := 0) (oi := { dst := some 35, op := Op.load 24 (Operand.tmp 7), type := 24, pos := "law.go:130", after := #[], guard := none }) (v := ?_) rfl (by kernel_rfl) (by kernel_rfl) (by kernel_rfl) (fun _ _ _ h => h) (Or.inl ⟨by rfl, ?_⟩) (by assumption) ?_
          rotate_left
          · intro y hSw
            obtain ⟨q0, q1⟩ := And.intro hSw.2.1.load hSw.1
            go_simp
            try with_reducible rfl
          try simp only [Act.put, List.setIfInBounds_toArray, List.set_cons_zero, List.set_cons_succ]
          refine wpAnyH_take (i := 2) (oi := { dst := some 37, op := Op.move (Operand.tmp 2), type := 55, pos := "law.go:130", after := #[], guard := none }) (v := ?_) rfl (by kernel_rfl) (by kernel_rfl) (by kernel_rfl) (fun _ _ _ h => h) (Or.inl ⟨by rfl, ?_⟩) (by assumption) ?_
          rotate_left
          · intro y hSw
            obtain ⟨q0, q1⟩ := And.intro hSw.2.1.load hSw.1
            go_simp
            try with_reducible rfl
          try simp only [Act.put, List.setIfInBounds_toArray, List.set_cons_zero, List.set_cons_succ]
          refine wpAnyH_take (i := 3) (oi := { dst := some 38, op := Op.move (Operand.tmp 10), type := 3, pos := "law.go:130", after := #[], guard := none }) (v := ?_) rfl (by kernel_rfl) (by kernel_rfl) (by kernel_rfl) (fun _ _ _ h => h) (Or.inl ⟨by rfl, ?_⟩) (by assumption) ?_
          rotate_left
          · intro y hSw
            obtain ⟨q0, q1⟩ := And.intro hSw.2.1.load hSw.1
            go_simp
            try with_reducible rfl
          try simp only [Act.put, List.setIfInBounds_toArray, List.set_cons_zero, List.set_cons_succ]
          refine wpAnyH_take (i := 4) (oi := { dst := some 39, op := Op.indexAddr 55 (Operand.tmp 37) (Operand.tmp 38), type := 0, pos := "law.go:130", after := #[{ on := 2, ground := Ground.data }, { on := 3, ground := Ground.data }], guard := none }) (v := ?_) rfl (by kernel_rfl) (by kernel_rfl) (by kernel_rfl) (fun _ _ _ h => h) (Or.inl ⟨by rfl, ?_⟩) (by assumption) ?_
          rotate_left
          · intro y hSw
            obtain ⟨q0, q1⟩ := And.intro hSw.2.1.load hSw.1
            go_simp
            try with_reducible rfl
          try simp only [Act.put, List.setIfInBounds_toArray, List.set_cons_zero, List.set_cons_succ]
          refine wpAnyH_take (i := 5) (oi := { dst := some 40, op := Op.load 22 (Operand.tmp 39), type := 22, pos := "law.go:130", after := #[{ on := 4, ground := Ground.data }], guard := none }) (v := ?_) rfl (by kernel_rfl) (by kernel_rfl) (by kernel_rfl) (fun _ _ _ h => h) (Or.inl ⟨by rfl, ?_⟩) (by assumption) ?_
          rotate_left
          · intro y hSw
            obtain ⟨q0, q1⟩ := And.intro hSw.2.1.load hSw.1
            go_simp
            try with_reducible rfl
          try simp only [Act.put, List.setIfInBounds_toArray, List.set_cons_zero, List.set_cons_succ]
          refine wpAnyH_take (i := 6) (oi := { dst := some 41, op := Op.binOp BinOp.and 22 (Operand.tmp 40) (Operand.const (Value.int IntKind.u32 3)) 22, type := 22, pos := "law.go:130", after := #[{ on := 5, ground := Ground.data }], guard := none }) (v := ?_) rfl (by kernel_rfl) (by kernel_rfl) (by kernel_rfl) (fun _ _ _ h => h) (Or.inl ⟨by rfl, ?_⟩) (by assumption) ?_
          rotate_left
          · intro y hSw
            obtain ⟨q0, q1⟩ := And.intro hSw.2.1.load hSw.1
            go_simp
            try with_reducible rfl
          try simp only [Act.put, List.setIfInBounds_toArray, List.set_cons_zero, List.set_cons_succ]
          refine wpAnyH_take (i := 9) (oi := { dst := some 44, op := Op.move (Operand.tmp 2), type := 55, pos := "law.go:130", after := #[], guard := none }) (v := ?_) rfl (by kernel_rfl) (by kernel_rfl) (by kernel_rfl) (fun _ _ _ h => h) (Or.inl ⟨by rfl, ?_⟩) (by assumption) ?_
          rotate_left
          · intro y hSw
            obtain ⟨q0, q1⟩ := And.intro hSw.2.1.load hSw.1
            go_simp
            try with_reducible rfl
          try simp only [Act.put, List.setIfInBounds_toArray, List.set_cons_zero, List.set_cons_succ]
          refine wpAnyH_take (i := 10) (oi := { dst := some 45, op := Op.move (Operand.tmp 10), type := 3, pos := "law.go:130", after := #[], guard := none }) (v := ?_) rfl (by kernel_rfl) (by kernel_rfl) (by kernel_rfl) (fun _ _ _ h => h) (Or.inl ⟨by rfl, ?_⟩) (by assumption) ?_
          rotate_left
          · intro y hSw
            obtain ⟨q0, q1⟩ := And.intro hSw.2.1.load hSw.1
            go_simp
            try with_reducible rfl
          try simp only [Act.put, List.setIfInBounds_toArray, List.set_cons_zero, List.set_cons_succ]
          refine wpAnyH_take (i := 11) (oi := { dst := some 46, op := Op.indexAddr 55 (Operand.tmp 44) (Operand.tmp 45), type := 0, pos := "law.go:130", after := #[{ on := 9, ground := Ground.data }, { on := 10, ground := Ground.data }], guard := none }) (v := ?_) rfl (by kernel_rfl) (by kernel_rfl) (by kernel_rfl) (fun _ _ _ h => h) (Or.inl ⟨by rfl, ?_⟩) (by assumption) ?_
          rotate_left
          · intro y hSw
            obtain ⟨q0, q1⟩ := And.intro hSw.2.1.load hSw.1
            go_simp
            try with_reducible rfl
          try simp only [Act.put, List.setIfInBounds_toArray, List.set_cons_zero, List.set_cons_succ]
          refine wpAnyH_take (i := 12) (oi := { dst := some 47, op := Op.load 22 (Operand.tmp 46), type := 22, pos := "law.go:130", after := #[{ on := 11, ground := Ground.data }], guard := none }) (v := ?_) rfl (by kernel_rfl) (by kernel_rfl) (by kernel_rfl) (fun _ _ _ h => h) (Or.inl ⟨by rfl, ?_⟩) (by assumption) ?_
          rotate_left
          · intro y hSw
            obtain ⟨q0, q1⟩ := And.intro hSw.2.1.load hSw.1
            go_simp
            try with_reducible rfl
          try simp only [Act.put, List.setIfInBounds_toArray, List.set_cons_zero, List.set_cons_succ]
          refine wpAnyH_take (i := 13) (oi := { dst := some 48, op := Op.binOp BinOp.shr 22 (Operand.tmp 47) (Operand.const (Value.int IntKind.u64 2)) 56, type := 22, pos := "law.go:130", after := #[{ on := 12, ground := Ground.data }], guard := none }) (v := ?_) rfl (by kernel_rfl) (by kernel_rfl) (by kernel_rfl) (fun _ _ _ h => h) (Or.inl ⟨by rfl, ?_⟩) (by assumption) ?_
          rotate_left
          · intro y hSw
            obtain ⟨q0, q1⟩ := And.intro hSw.2.1.load hSw.1
            go_simp
            try with_reducible rfl
          try simp only [Act.put, List.setIfInBounds_toArray, List.set_cons_zero, List.set_cons_succ]
          refine wpAnyH_take (i := 14) (oi := { dst := some 49, op := Op.binOp BinOp.or 22 (Operand.tmp 48) (Operand.const (Value.int IntKind.u32 4)) 22, type := 22, pos := "law.go:130", after := #[{ on := 13, ground := Ground.data }], guard := none }) (v := ?_) rfl (by kernel_rfl) (by kernel_rfl) (by kernel_rfl) (fun _ _ _ h => h) (Or.inl ⟨by rfl, ?_⟩) (by assumption) ?_
          rotate_left
          · intro y hSw
            obtain ⟨q0, q1⟩ := And.intro hSw.2.1.load hSw.1
            go_simp
            try with_reducible rfl
          try simp only [Act.put, List.setIfInBounds_toArray, List.set_cons_zero, List.set_cons_succ]
          refine wpAnyH_ready (rs := [1, 19]) (by kernel_rfl) (by simp) ?_
          refine AllReadyH.cons (o := { dst := some 36, op := Op.buildSlice 55 4 #[(0, Operand.const (Value.int IntKind.u32 0)), (1, Operand.const (Value.int IntKind.u32 4)), (2, Operand.const (Value.int IntKind.u32 8)), (3, Operand.const (Value.int IntKind.u32 12))], type := 55, pos := "law.go:130", after := #[], guard := none }) rfl (fun K hK => ?_) ?_
          · have gB := grow x0 (.cells #[.int .u32 0, .int .u32 4, .int .u32 8, .int .u32 12] 22)
            have CB : (x0.alloc (.cells #[.int .u32 0, .int .u32 4, .int .u32 8, .int .u32 12] 22)).cell? ⟨x0.heap.size, r, none⟩ = some (.int .u32 G) := by rw [World.cell?_alloc_new]; exact hG
            go_simp
            refine hK.out _ _ (si3 hb hHeld gB) (fun hHeld => ?_)
            clear hK K
            try simp only [Act.put, List.setIfInBounds_toArray, List.set_cons_zero, List.set_cons_succ]
            clear gB
            generalize x0.alloc (.cells #[.int .u32 0, .int .u32 4, .int .u32 8, .int .u32 12] 22) = x1 at *
            generalize x0.heap.size = LS at *
            refine wpAnyH_take (i := 7) (oi := { dst := some 42, op := Op.indexAddr 55 (Operand.tmp 36) (Operand.tmp 41), type := 0, pos := "law.go:130", after := #[{ on := 1, ground := Ground.data }, { on := 6, ground := Ground.data }], guard := none }) (v := ?_) rfl (by kernel_rfl) (by kernel_rfl) (by kernel_rfl) (fun _ _ _ h => h) (Or.inl ⟨by rfl, ?_⟩) (by assumption) ?_
            rotate_left
            · intro y hSw
              obtain ⟨q0, q1⟩ := And.intro hSw.2.1.load hSw.1
              go_simp
              try with_reducible rfl
            try simp only [Act.put, List.setIfInBounds_toArray, List.set_cons_zero, List.set_cons_succ]
            refine wpAnyH_ready (rs := [8, 19]) (by kernel_rfl) (by simp) ?_
            refine AllReadyH.cons (o := { dst := some 43, op := Op.load 22 (Operand.tmp 42), type := 22, pos := "law.go:130", after := #[{ on := 7, ground := Ground.data }], guard := none }) rfl (fun K hK => ?_) ?_
            · go_simp
              refine hK.out _ _ (hHeld) (fun hHeld => ?_)
              clear hK K
              try simp only [Act.put, List.setIfInBounds_toArray, List.set_cons_zero, List.set_cons_succ]
              clear CB
              refine wpAnyH_ready (rs := [15, 19]) (by kernel_rfl) (by simp) ?_
              refine AllReadyH.cons (o := { dst := some 50, op := Op.call { callee := Callee.value (Operand.func 11), args := #[Operand.tmp 35, Operand.tmp 43, Operand.tmp 49], argTypes := #[24, 22, 22] }, type := 28, pos := "law.go:130", after := #[{ on := 0, ground := Ground.data }, { on := 8, ground := Ground.data }, { on := 14, ground := Ground.data }], guard := none }) rfl (fun K hK => ?_) ?_
              · go_simp
                refine (c1.out _).mono ?_
                rintro e x3 ⟨rfl, hn⟩
                go_wp2_with fail
                refine hK.out _ _ (si3 hb hHeld hn) (fun hHeld => ?_)
                clear hK K
                try simp only [Act.put, List.setIfInBounds_toArray, List.set_cons_zero, List.set_cons_succ]
                clear hn
                refine wpAnyH_take (i := 16) (oi := { dst := some 34, op := Op.move (Operand.tmp 50), type := 28, pos := "law.go:130", after := #[{ on := 15, ground := Ground.data }], guard := none }) (v := ?_) rfl (by kernel_rfl) (by kernel_rfl) (by kernel_rfl) (fun _ _ _ h => h) (Or.inl ⟨by rfl, ?_⟩) (by assumption) ?_
                rotate_left
                · intro y hSw
                  obtain ⟨q0, q1⟩ := And.intro hSw.2.1.load hSw.1
                  go_simp
                  try with_reducible rfl
                try simp only [Act.put, List.setIfInBounds_toArray, List.set_cons_zero, List.set_cons_succ]
                refine wpAnyH_take (i := 17) (oi := { dst := some 51, op := Op.extract (Operand.tmp 34) 0, type := 24, pos := "law.go:130", after := #[{ on := 16, ground := Ground.data }], guard := none }) (v := ?_) rfl (by kernel_rfl) (by kernel_rfl) (by kernel_rfl) (fun _ _ _ h => h) (Or.inl ⟨by rfl, ?_⟩) (by assumption) ?_
                rotate_left
                · intro y hSw
                  obtain ⟨q0, q1⟩ := And.intro hSw.2.1.load hSw.1
                  go_simp
                  try with_reducible rfl
                try simp only [Act.put, List.setIfInBounds_toArray, List.set_cons_zero, List.set_cons_succ]
                refine wpAnyH_take (i := 18) (oi := { dst := some 52, op := Op.extract (Operand.tmp 34) 1, type := 25, pos := "law.go:130", after := #[{ on := 16, ground := Ground.data }, { on := 20, ground := Ground.gcOnly Departure.lateStores }], guard := none }) (v := ?_) rfl (by kernel_rfl) (by kernel_rfl) (by kernel_rfl) (fun _ _ _ h => h) (Or.inl ⟨by rfl, ?_⟩) (by assumption) ?_
                rotate_left
                · intro y hSw
                  obtain ⟨q0, q1⟩ := And.intro hSw.2.1.load hSw.1
                  go_simp
                  try with_reducible rfl
                try simp only [Act.put, List.setIfInBounds_toArray, List.set_cons_zero, List.set_cons_succ]
                refine wpAnyH_ready (rs := [19]) (by kernel_rfl) (by simp) ?_
                refine AllReadyH.cons (o := { dst := some 11, op := Op.alloc 24, type := 0, pos := "law.go:130", after := #[], guard := none }) rfl (fun K hK => ?_) AllReadyH.nil
                have gA := grow x3 (.cells (cellsD D0) 24)
                have RB := Rat.new x3 D0 24
                have hLB : L < x3.heap.size := hHeld.2.1.2.2
                have hwB : w.heap.size ≤ x3.heap.size := hHeld.2.2.size
                go_simp
                refine hK.out _ _ (si3 hb hHeld gA) (fun hHeld => ?_)
                clear hK K
                try simp only [Act.put, List.setIfInBounds_toArray, List.set_cons_zero, List.set_cons_succ]
                clear gA
                generalize x3.alloc (.cells (cellsD D0) 24) = x4 at *
                generalize x3.heap.size = LB at *
                refine wpAnyH_ready (rs := [20]) (by kernel_rfl) (by simp) ?_
                refine AllReadyH.cons (o := { dst := none, op := Op.store 24 (Operand.tmp 11) (Operand.tmp 51), type := 0, pos := "law.go:130", after := #[{ on := 19, ground := Ground.data }, { on := 17, ground := Ground.data }, { on := 15, ground := Ground.chain }, { on := 0, ground := Ground.phase }, { on := 1, ground := Ground.phase }, { on := 2, ground := Ground.phase }, { on := 3, ground := Ground.phase }, { on := 4, ground := Ground.phase }, { on := 5, ground := Ground.phase }, { on := 6, ground := Ground.phase }, { on := 7, ground := Ground.phase }, { on := 8, ground := Ground.phase }, { on := 9, ground := Ground.phase }, { on := 10, ground := Ground.phase }, { on := 11, ground := Ground.phase }, { on := 12, ground := Ground.phase }, { on := 13, ground := Ground.phase }, { on := 14, ground := Ground.phase }, { on := 15, ground := Ground.phase }, { on := 16, ground := Ground.phase }, { on := 17, ground := Ground.phase }, { on := 18, ground := Ground.textOnly Departure.lateStores }, { on := 19, ground := Ground.phase }], guard := none }) rfl (fun K hK => ?_) AllReadyH.nil
                have hst := storeD q x4 LB RB.1 (by rw [RB.2.1, size_cellsD])
                have RC := RB.set q
                go_simp
                refine hK.out _ _ (si4 hb hHeld LB (cellsD q) hLB hwB) (fun hHeld => ?_)
                clear hK K
                try simp only [Act.put, List.setIfInBounds_toArray, List.set_cons_zero, List.set_cons_succ]
                generalize x4.setRow LB (cellsD q) = x5 at *
                refine wpAnyH_take (i := 21) (oi := { dst := some 12, op := Op.assign (Operand.tmp 52), type := 25, pos := "law.go:130", after := #[{ on := 18, ground := Ground.data }, { on := 20, ground := Ground.chain }, { on := 0, ground := Ground.phase }, { on := 1, ground := Ground.phase }, { on := 2, ground := Ground.phase }, { on := 3, ground := Ground.phase }, { on := 4, ground := Ground.phase }, { on := 5, ground := Ground.phase }, { on := 6, ground := Ground.phase }, { on := 7, ground := Ground.phase }, { on := 8, ground := Ground.phase }, { on := 9, ground := Ground.phase }, { on := 10, ground := Ground.phase }, { on := 11, ground := Ground.phase }, { on := 12, ground := Ground.phase }, { on := 13, ground := Ground.phase }, { on := 14, ground := Ground.phase }, { on := 15, ground := Ground.phase }, { on := 16, ground := Ground.phase }, { on := 17, ground := Ground.phase }, { on := 18, ground := Ground.phase }, { on := 19, ground := Ground.phase }, { on := 20, ground := Ground.phase }], guard := none }) (v := ?_) rfl (by kernel_rfl) (by kernel_rfl) (by kernel_rfl) (fun _ _ _ h => h) (Or.inl ⟨by rfl, ?_⟩) (by assumption) ?_
                rotate_left
                · intro y hSw
                  obtain ⟨q0, q1⟩ := And.intro hSw.2.1.load hSw.1
                  go_simp
                  try with_reducible rfl
                try simp only [Act.put, List.setIfInBounds_toArray, List.set_cons_zero, List.set_cons_succ]
                refine wpAnyH_done (by kernel_rfl) ?_ _
                clear t6 t7 t8
                go_wp2_with fail
                go_meet
                case rel => exact ⟨LB, rfl, rfl, hide ⟨RC, hHeld.2.1, by omega, hHeld.2.2⟩⟩
              refine AllReadyH.cons (o := { dst := some 11, op := Op.alloc 24, type := 0, pos := "law.go:130", after := #[], guard := none }) rfl (fun K hK => ?_) AllReadyH.nil
              have gA := grow x1 (.cells (cellsD D0) 24)
              have RB := Rat.new x1 D0 24
              have hLB : L < x1.heap.size := hHeld.2.1.2.2
              have hwB : w.heap.size ≤ x1.heap.size := hHeld.2.2.size
              go_simp
              refine hK.out _ _ (si3 hb hHeld gA) (fun hHeld => ?_)
              clear hK K
              try simp only [Act.put, List.setIfInBounds_toArray, List.set_cons_zero, List.set_cons_succ]
              clear gA
              generalize x1.alloc (.cells (cellsD D0) 24) = x3 at *
              generalize x1.heap.size = LB at *
              refine wpAnyH_ready (rs := [15]) (by kernel_rfl) (by simp) ?_
              refine AllReadyH.cons (o := { dst := some 50, op := Op.call { callee := Callee.value (Operand.func 11), args := #[Operand.tmp 35, Operand.tmp 43, Operand.tmp 49], argTypes := #[24, 22, 22] }, type := 28, pos := "law.go:130", after := #[{ on := 0, ground := Ground.data }, { on := 8, ground := Ground.data }, { on := 14, ground := Ground.data }], guard := none }) rfl (fun K hK => ?_) AllReadyH.nil
              go_simp
              refine (c1.out _).mono ?_
              rintro e x4 ⟨rfl, hn⟩
              replace RB := RB.on hn
              go_wp2_with fail
              refine hK.out _ _ (si3 hb hHeld hn) (fun hHeld => ?_)
              clear hK K
              try simp only [Act.put, List.setIfInBounds_toArray, List.set_cons_zero, List.set_cons_succ]
              clear hn
              refine wpAnyH_take (i := 16) (oi := { dst := some 34, op := Op.move (Operand.tmp 50), type := 28, pos := "law.go:130", after := #[{ on := 15, ground := Ground.data }], guard := none }) (v := ?_) rfl (by kernel_rfl) (by kernel_rfl) (by kernel_rfl) (fun _ _ _ h => h) (Or.inl ⟨by rfl, ?_⟩) (by assumption) ?_
              rotate_left
              · intro y hSw
                obtain ⟨q0, q1⟩ := And.intro hSw.2.1.load hSw.1
                go_simp
                try with_reducible rfl
              try simp only [Act.put, List.setIfInBounds_toArray, List.set_cons_zero, List.set_cons_succ]
              refine wpAnyH_take (i := 17) (oi := { dst := some 51, op := Op.extract (Operand.tmp 34) 0, type := 24, pos := "law.go:130", after := #[{ on := 16, ground := Ground.data }], guard := none }) (v := ?_) rfl (by kernel_rfl) (by kernel_rfl) (by kernel_rfl) (fun _ _ _ h => h) (Or.inl ⟨by rfl, ?_⟩) (by assumption) ?_
              rotate_left
              · intro y hSw
                obtain ⟨q0, q1⟩ := And.intro hSw.2.1.load hSw.1
                go_simp
                try with_reducible rfl
              try simp only [Act.put, List.setIfInBounds_toArray, List.set_cons_zero, List.set_cons_succ]
              refine wpAnyH_take (i := 18) (oi := { dst := some 52, op := Op.extract (Operand.tmp 34) 1, type := 25, pos := "law.go:130", after := #[{ on := 16, ground := Ground.data }, { on := 20, ground := Ground.gcOnly Departure.lateStores }], guard := none }) (v := ?_) rfl (by kernel_rfl) (by kernel_rfl) (by kernel_rfl) (fun _ _ _ h => h) (Or.inl ⟨by rfl, ?_⟩) (by assumption) ?_
              rotate_left
              · intro y hSw
                obtain ⟨q0, q1⟩ := And.intro hSw.2.1.load hSw.1
                go_simp
                try with_reducible rfl
              try simp only [Act.put, List.setIfInBounds_toArray, List.set_cons_zero, List.set_cons_succ]
              refine wpAnyH_ready (rs := [20]) (by kernel_rfl) (by simp) ?_
              refine AllReadyH.cons (o := { dst := none, op := Op.store 24 (Operand.tmp 11) (Operand.tmp 51), type := 0, pos := "law.go:130", after := #[{ on := 19, ground := Ground.data }, { on := 17, ground := Ground.data }, { on := 15, ground := Ground.chain }, { on := 0, ground := Ground.phase }, { on := 1, ground := Ground.phase }, { on := 2, ground := Ground.phase }, { on := 3, ground := Ground.phase }, { on := 4, ground := Ground.phase }, { on := 5, ground := Ground.phase }, { on := 6, ground := Ground.phase }, { on := 7, ground := Ground.phase }, { on := 8, ground := Ground.phase }, { on := 9, ground := Ground.phase }, { on := 10, ground := Ground.phase }, { on := 11, ground := Ground.phase }, { on := 12, ground := Ground.phase }, { on := 13, ground := Ground.phase }, { on := 14, ground := Ground.phase }, { on := 15, ground := Ground.phase }, { on := 16, ground := Ground.phase }, { on := 17, ground := Ground.phase }, { on := 18, ground := Ground.textOnly Departure.lateStores }, { on := 19, ground := Ground.phase }], guard := none }) rfl (fun K hK => ?_) AllReadyH.nil
              have hst := storeD q x4 LB RB.1 (by rw [RB.2.1, size_cellsD])
              have RC := RB.set q
              go_simp
              refine hK.out _ _ (si4 hb hHeld LB (cellsD q) hLB hwB) (fun hHeld => ?_)
              clear hK K
              try simp only [Act.put, List.setIfInBounds_toArray, List.set_cons_zero, List.set_cons_succ]
              generalize x4.setRow LB (cellsD q) = x5 at *
              refine wpAnyH_take (i := 21) (oi := { dst := some 12, op := Op.assign (Operand.tmp 52), type := 25, pos := "law.go:130", after := #[{ on := 18, ground := Ground.data }, { on := 20, ground := Ground.chain }, { on := 0, ground := Ground.phase }, { on := 1, ground := Ground.phase }, { on := 2, ground := Ground.phase }, { on := 3, ground := Ground.phase }, { on := 4, ground := Ground.phase }, { on := 5, ground := Ground.phase }, { on := 6, ground := Ground.phase }, { on := 7, ground := Ground.phase }, { on := 8, ground := Ground.phase }, { on := 9, ground := Ground.phase }, { on := 10, ground := Ground.phase }, { on := 11, ground := Ground.phase }, { on := 12, ground := Ground.phase }, { on := 13, ground := Ground.phase }, { on := 14, ground := Ground.phase }, { on := 15, ground := Ground.phase }, { on := 16, ground := Ground.phase }, { on := 17, ground := Ground.phase }, { on := 18, ground := Ground.phase }, { on := 19, ground := Ground.phase }, { on := 20, ground := Ground.phase }], guard := none }) (v := ?_) rfl (by kernel_rfl) (by kernel_rfl) (by kernel_rfl) (fun _ _ _ h => h) (Or.inl ⟨by rfl, ?_⟩) (by assumption) ?_
              rotate_left
              · intro y hSw
                obtain ⟨q0, q1⟩ := And.intro hSw.2.1.load hSw.1
                go_simp
                try with_reducible rfl
              try simp only [Act.put, List.setIfInBounds_toArray, List.set_cons_zero, List.set_cons_succ]
              refine wpAnyH_done (by kernel_rfl) ?_ _
              clear t6 t7 t8
              go_wp2_with fail
              go_meet
              case rel => exact ⟨LB, rfl, rfl, hide ⟨RC, hHeld.2.1, by omega, hHeld.2.2⟩⟩
            refine AllReadyH.cons (o := { dst := some 11, op := Op.alloc 24, type := 0, pos := "law.go:130", after := #[], guard := none }) rfl (fun K hK => ?_) AllReadyH.nil
            have gA := grow x1 (.cells (cellsD D0) 24)
            have RB := Rat.new x1 D0 24
            have hLB : L < x1.heap.size := hHeld.2.1.2.2
            have hwB : w.heap.size ≤ x1.heap.size := hHeld.2.2.size
            replace CB := (gA.cell (p := ⟨LS, r, none⟩) (World.block_lt_of_cell? _ _ CB)).trans CB
            go_simp
            refine hK.out _ _ (si3 hb hHeld gA) (fun hHeld => ?_)
            clear hK K
            try simp only [Act.put, List.setIfInBounds_toArray, List.set_cons_zero, List.set_cons_succ]
            clear gA
            generalize x1.alloc (.cells (cellsD D0) 24) = x2 at *
            generalize x1.heap.size = LB at *
            refine wpAnyH_ready (rs := [8]) (by kernel_rfl) (by simp) ?_
            refine AllReadyH.cons (o := { dst := some 43, op := Op.load 22 (Operand.tmp 42), type := 22, pos := "law.go:130", after := #[{ on := 7, ground := Ground.data }], guard := none }) rfl (fun K hK => ?_) AllReadyH.nil
            go_simp
            refine hK.out _ _ (hHeld) (fun hHeld => ?_)
            clear hK K
            try simp only [Act.put, List.setIfInBounds_toArray, List.set_cons_zero, List.set_cons_succ]
            clear CB
            refine wpAnyH_ready (rs := [15]) (by kernel_rfl) (by simp) ?_
            refine AllReadyH.cons (o := { dst := some 50, op := Op.call { callee := Callee.value (Operand.func 11), args := #[Operand.tmp 35, Operand.tmp 43, Operand.tmp 49], argTypes := #[24, 22, 22] }, type := 28, pos := "law.go:130", after := #[{ on := 0, ground := Ground.data }, { on := 8, ground := Ground.data }, { on := 14, ground := Ground.data }], guard := none }) rfl (fun K hK => ?_) AllReadyH.nil
            go_simp
            refine (c1.out _).mono ?_
            rintro e x4 ⟨rfl, hn⟩
            replace RB := RB.on hn
            go_wp2_with fail
            refine hK.out _ _ (si3 hb hHeld hn) (fun hHeld => ?_)
            clear hK K
            try simp only [Act.put, List.setIfInBounds_toArray, List.set_cons_zero, List.set_cons_succ]
            clear hn
            refine wpAnyH_take (i := 16) (oi := { dst := some 34, op := Op.move (Operand.tmp 50), type := 28, pos := "law.go:130", after := #[{ on := 15, ground := Ground.data }], guard := none }) (v := ?_) rfl (by kernel_rfl) (by kernel_rfl) (by kernel_rfl) (fun _ _ _ h => h) (Or.inl ⟨by rfl, ?_⟩) (by assumption) ?_
            rotate_left
            · intro y hSw
              obtain ⟨q0, q1⟩ := And.intro hSw.2.1.load hSw.1
              go_simp
              try with_reducible rfl
            try simp only [Act.put, List.setIfInBounds_toArray, List.set_cons_zero, List.set_cons_succ]
            refine wpAnyH_take (i := 17) (oi := { dst := some 51, op := Op.extract (Operand.tmp 34) 0, type := 24, pos := "law.go:130", after := #[{ on := 16, ground := Ground.data }], guard := none }) (v := ?_) rfl (by kernel_rfl) (by kernel_rfl) (by kernel_rfl) (fun _ _ _ h => h) (Or.inl ⟨by rfl, ?_⟩) (by assumption) ?_
            rotate_left
            · intro y hSw
              obtain ⟨q0, q1⟩ := And.intro hSw.2.1.load hSw.1
              go_simp
              try with_reducible rfl
            try simp only [Act.put, List.setIfInBounds_toArray, List.set_cons_zero, List.set_cons_succ]
            refine wpAnyH_take (i := 18) (oi := { dst := some 52, op := Op.extract (Operand.tmp 34) 1, type := 25, pos := "law.go:130", after := #[{ on := 16, ground := Ground.data }, { on := 20, ground := Ground.gcOnly Departure.lateStores }], guard := none }) (v := ?_) rfl (by kernel_rfl) (by kernel_rfl) (by kernel_rfl) (fun _ _ _ h => h) (Or.inl ⟨by rfl, ?_⟩) (by assumption) ?_
            rotate_left
            · intro y hSw
              obtain ⟨q0, q1⟩ := And.intro hSw.2.1.load hSw.1
              go_simp
              try with_reducible rfl
            try simp only [Act.put, List.setIfInBounds_toArray, List.set_cons_zero, List.set_cons_succ]
            refine wpAnyH_ready (rs := [20]) (by kernel_rfl) (by simp) ?_
            refine AllReadyH.cons (o := { dst := none, op := Op.store 24 (Operand.tmp 11) (Operand.tmp 51), type := 0, pos := "law.go:130", after := #[{ on := 19, ground := Ground.data }, { on := 17, ground := Ground.data }, { on := 15, ground := Ground.chain }, { on := 0, ground := Ground.phase }, { on := 1, ground := Ground.phase }, { on := 2, ground := Ground.phase }, { on := 3, ground := Ground.phase }, { on := 4, ground := Ground.phase }, { on := 5, ground := Ground.phase }, { on := 6, ground := Ground.phase }, { on := 7, ground := Ground.phase }, { on := 8, ground := Ground.phase }, { on := 9, ground := Ground.phase }, { on := 10, ground := Ground.phase }, { on := 11, ground := Ground.phase }, { on := 12, ground := Ground.phase }, { on := 13, ground := Ground.phase }, { on := 14, ground := Ground.phase }, { on := 15, ground := Ground.phase }, { on := 16, ground := Ground.phase }, { on := 17, ground := Ground.phase }, { on := 18, ground := Ground.textOnly Departure.lateStores }, { on := 19, ground := Ground.phase }], guard := none }) rfl (fun K hK => ?_) AllReadyH.nil
            have hst := storeD q x4 LB RB.1 (by rw [RB.2.1, size_cellsD])
            have RC := RB.set q
            go_simp
            refine hK.out _ _ (si4 hb hHeld LB (cellsD q) hLB hwB) (fun hHeld => ?_)
            clear hK K
            try simp only [Act.put, List.setIfInBounds_toArray, List.set_cons_zero, List.set_cons_succ]
            generalize x4.setRow LB (cellsD q) = x5 at *
            refine wpAnyH_take (i := 21) (oi := { dst := some 12, op := Op.assign (Operand.tmp 52), type := 25, pos := "law.go:130", after := #[{ on := 18, ground := Ground.data }, { on := 20, ground := Ground.chain }, { on := 0, ground := Ground.phase }, { on := 1, ground := Ground.phase }, { on := 2, ground := Ground.phase }, { on := 3, ground := Ground.phase }, { on := 4, ground := Ground.phase }, { on := 5, ground := Ground.phase }, { on := 6, ground := Ground.phase }, { on := 7, ground := Ground.phase }, { on := 8, ground := Ground.phase }, { on := 9, ground := Ground.phase }, { on := 10, ground := Ground.phase }, { on := 11, ground := Ground.phase }, { on := 12, ground := Ground.phase }, { on := 13, ground := Ground.phase }, { on := 14, ground := Ground.phase }, { on := 15, ground := Ground.phase }, { on := 16, ground := Ground.phase }, { on := 17, ground := Ground.phase }, { on := 18, ground := Ground.phase }, { on := 19, ground := Ground.phase }, { on := 20, ground := Ground.phase }], guard := none }) (v := ?_) rfl (by kernel_rfl) (by kernel_rfl) (by kernel_rfl) (fun _ _ _ h => h) (Or.inl ⟨by rfl, ?_⟩) (by assumption) ?_
            rotate_left
            · intro y hSw
              obtain ⟨q0, q1⟩ := And.intro hSw.2.1.load hSw.1
              go_simp
              try with_reducible rfl
            try simp only [Act.put, List.setIfInBounds_toArray, List.set_cons_zero, List.set_cons_succ]
            refine wpAnyH_done (by kernel_rfl) ?_ _
            clear t6 t7 t8
            go_wp2_with fail
            go_meet
            case rel => exact ⟨LB, rfl, rfl, hide ⟨RC, hHeld.2.1, by omega, hHeld.2.2⟩⟩
          refine AllReadyH.cons (o := { dst := some 11, op := Op.alloc 24, type := 0, pos := "law.go:130", after := #[], guard := none }) rfl (fun K hK => ?_) AllReadyH.nil
          have gA := grow x0 (.cells (cellsD D0) 24)
          have RB := Rat.new x0 D0 24
          have hLB : L < x0.heap.size := hHeld.2.1.2.2
          have hwB : w.heap.size ≤ x0.heap.size := hHeld.2.2.size
          go_simp
          refine hK.out _ _ (si3 hb hHeld gA) (fun hHeld => ?_)
          clear hK K
          try simp only [Act.put, List.setIfInBounds_toArray, List.set_cons_zero, List.set_cons_succ]
          clear gA
          generalize x0.alloc (.cells (cellsD D0) 24) = x1 at *
          generalize x0.heap.size = LB at *
          refine wpAnyH_ready (rs := [1]) (by kernel_rfl) (by simp) ?_
          refine AllReadyH.cons (o := { dst := some 36, op := Op.buildSlice 55 4 #[(0, Operand.const (Value.int IntKind.u32 0)), (1, Operand.const (Value.int IntKind.u32 4)), (2, Operand.const (Value.int IntKind.u32 8)), (3, Operand.const (Value.int IntKind.u32 12))], type := 55, pos := "law.go:130", after := #[], guard := none }) rfl (fun K hK => ?_) AllReadyH.nil
          have gB := grow x1 (.cells #[.int .u32 0, .int .u32 4, .int .u32 8, .int .u32 12] 22)
          have CB : (x1.alloc (.cells #[.int .u32 0, .int .u32 4, .int .u32 8, .int .u32 12] 22)).cell? ⟨x1.heap.size, r, none⟩ = some (.int .u32 G) := by rw [World.cell?_alloc_new]; exact hG
          replace RB := RB.on gB
          go_simp
          refine hK.out _ _ (si3 hb hHeld gB) (fun hHeld => ?_)
          clear hK K
          try simp only [Act.put, List.setIfInBounds_toArray, List.set_cons_zero, List.set_cons_succ]
          clear gB
          generalize x1.alloc (.cells #[.int .u32 0, .int .u32 4, .int .u32 8, .int .u32 12] 22) = x2 at *
          generalize x1.heap.size = LS at *
          refine wpAnyH_take (i := 7) (oi := { dst := some 42, op := Op.indexAddr 55 (Operand.tmp 36) (Operand.tmp 41), type := 0, pos := "law.go:130", after := #[{ on := 1, ground := Ground.data }, { on := 6, ground := Ground.data }], guard := none }) (v := ?_) rfl (by kernel_rfl) (by kernel_rfl) (by kernel_rfl) (fun _ _ _ h => h) (Or.inl ⟨by rfl, ?_⟩) (by assumption) ?_
          rotate_left
          · intro y hSw
            obtain ⟨q0, q1⟩ := And.intro hSw.2.1.load hSw.1
            go_simp
            try with_reducible rfl
          try simp only [Act.put, List.setIfInBounds_toArray, List.set_cons_zero, List.set_cons_succ]
          refine wpAnyH_ready (rs := [8]) (by kernel_rfl) (by simp) ?_
          refine AllReadyH.cons (o := { dst := some 43, op := Op.load 22 (Operand.tmp 42), type := 22, pos := "law.go:130", after := #[{ on := 7, ground := Ground.data }], guard := none }) rfl (fun K hK => ?_) AllReadyH.nil
          go_simp
          refine hK.out _ _ (hHeld) (fun hHeld => ?_)
          clear hK K
          try simp only [Act.put, List.setIfInBounds_toArray, List.set_cons_zero, List.set_cons_succ]
          clear CB
          refine wpAnyH_ready (rs := [15]) (by kernel_rfl) (by simp) ?_
          refine AllReadyH.cons (o := { dst := some 50, op := Op.call { callee := Callee.value (Operand.func 11), args := #[Operand.tmp 35, Operand.tmp 43, Operand.tmp 49], argTypes := #[24, 22, 22] }, type := 28, pos := "law.go:130", after := #[{ on := 0, ground := Ground.data }, { on := 8, ground := Ground.data }, { on := 14, ground := Ground.data }], guard := none }) rfl (fun K hK => ?_) AllReadyH.nil
          go_simp
          refine (c1.out _).mono ?_
          rintro e x4 ⟨rfl, hn⟩
          replace RB := RB.on hn
          go_wp2_with fail
          refine hK.out _ _ (si3 hb hHeld hn) (fun hHeld => ?_)
          clear hK K
          try simp only [Act.put, List.setIfInBounds_toArray, List.set_cons_zero, List.set_cons_succ]
          clear hn
          refine wpAnyH_take (i := 16) (oi := { dst := some 34, op := Op.move (Operand.tmp 50), type := 28, pos := "law.go:130", after := #[{ on := 15, ground := Ground.data }], guard := none }) (v := ?_) rfl (by kernel_rfl) (by kernel_rfl) (by kernel_rfl) (fun _ _ _ h => h) (Or.inl ⟨by rfl, ?_⟩) (by assumption) ?_
          rotate_left
          · intro y hSw
            obtain ⟨q0, q1⟩ := And.intro hSw.2.1.load hSw.1
            go_simp
            try with_reducible rfl
          try simp only [Act.put, List.setIfInBounds_toArray, List.set_cons_zero, List.set_cons_succ]
          refine wpAnyH_take (i := 17) (oi := { dst := some 51, op := Op.extract (Operand.tmp 34) 0, type := 24, pos := "law.go:130", after := #[{ on := 16, ground := Ground.data }], guard := none }) (v := ?_) rfl (by kernel_rfl) (by kernel_rfl) (by kernel_rfl) (fun _ _ _ h => h) (Or.inl ⟨by rfl, ?_⟩) (by assumption) ?_
          rotate_left
          · intro y hSw
            obtain ⟨q0, q1⟩ := And.intro hSw.2.1.load hSw.1
            go_simp
            try with_reducible rfl
          try simp only [Act.put, List.setIfInBounds_toArray, List.set_cons_zero, List.set_cons_succ]
          refine wpAnyH_take (i := 18) (oi := { dst := some 52, op := Op.extract (Operand.tmp 34) 1, type := 25, pos := "law.go:130", after := #[{ on := 16, ground := Ground.data }, { on := 20, ground := Ground.gcOnly Departure.lateStores }], guard := none }) (v := ?_) rfl (by kernel_rfl) (by kernel_rfl) (by kernel_rfl) (fun _ _ _ h => h) (Or.inl ⟨by rfl, ?_⟩) (by assumption) ?_
          rotate_left
          · intro y hSw
            obtain ⟨q0, q1⟩ := And.intro hSw.2.1.load hSw.1
            go_simp
            try with_reducible rfl
          try simp only [Act.put, List.setIfInBounds_toArray, List.set_cons_zero, List.set_cons_succ]
          refine wpAnyH_ready (rs := [20]) (by kernel_rfl) (by simp) ?_
          refine AllReadyH.cons (o := { dst := none, op := Op.store 24 (Operand.tmp 11) (Operand.tmp 51), type := 0, pos := "law.go:130", after := #[{ on := 19, ground := Ground.data }, { on := 17, ground := Ground.data }, { on := 15, ground := Ground.chain }, { on := 0, ground := Ground.phase }, { on := 1, ground := Ground.phase }, { on := 2, ground := Ground.phase }, { on := 3, ground := Ground.phase }, { on := 4, ground := Ground.phase }, { on := 5, ground := Ground.phase }, { on := 6, ground := Ground.phase }, { on := 7, ground := Ground.phase }, { on := 8, ground := Ground.phase }, { on := 9, ground := Ground.phase }, { on := 10, ground := Ground.phase }, { on := 11, ground := Ground.phase }, { on := 12, ground := Ground.phase }, { on := 13, ground := Ground.phase }, { on := 14, ground := Ground.phase }, { on := 15, ground := Ground.phase }, { on := 16, ground := Ground.phase }, { on := 17, ground := Ground.phase }, { on := 18, ground := Ground.textOnly Departure.lateStores }, { on := 19, ground := Ground.phase }], guard := none }) rfl (fun K hK => ?_) AllReadyH.nil
          have hst := storeD q x4 LB RB.1 (by rw [RB.2.1, size_cellsD])
          have RC := RB.set q
          go_simp
          refine hK.out _ _ (si4 hb hHeld LB (cellsD q) hLB hwB) (fun hHeld => ?_)
          clear hK K
          try simp only [Act.put, List.setIfInBounds_toArray, List.set_cons_zero, List.set_cons_succ]
          generalize x4.setRow LB (cellsD q) = x5 at *
          refine wpAnyH_take (i := 21) (oi := { dst := some 12, op := Op.assign (Operand.tmp 52), type := 25, pos := "law.go:130", after := #[{ on := 18, ground := Ground.data }, { on := 20, ground := Ground.chain }, { on := 0, ground := Ground.phase }, { on := 1, ground := Ground.phase }, { on := 2, ground := Ground.phase }, { on := 3, ground := Ground.phase }, { on := 4, ground := Ground.phase }, { on := 5, ground := Ground.phase }, { on := 6, ground := Ground.phase }, { on := 7, ground := Ground.phase }, { on := 8, ground := Ground.phase }, { on := 9, ground := Ground.phase }, { on := 10, ground := Ground.phase }, { on := 11, ground := Ground.phase }, { on := 12, ground := Ground.phase }, { on := 13, ground := Ground.phase }, { on := 14, ground := Ground.phase }, { on := 15, ground := Ground.phase }, { on := 16, ground := Ground.phase }, { on := 17, ground := Ground.phase }, { on := 18, ground := Ground.phase }, { on := 19, ground := Ground.phase }, { on := 20, ground := Ground.phase }], guard := none }) (v := ?_) rfl (by kernel_rfl) (by kernel_rfl) (by kernel_rfl) (fun _ _ _ h => h) (Or.inl ⟨by rfl, ?_⟩) (by assumption) ?_
          rotate_left
          · intro y hSw
            obtain ⟨q0, q1⟩ := And.intro hSw.2.1.load hSw.1
            go_simp
            try with_reducible rfl
          try simp only [Act.put, List.setIfInBounds_toArray, List.set_cons_zero, List.set_cons_succ]
          refine wpAnyH_done (by kernel_rfl) ?_ _
          clear t6 t7 t8
          go_wp2_with fail
          go_meet
          case rel => exact ⟨LB, rfl, rfl, hide ⟨RC, hHeld.2.1, by omega, hHeld.2.2⟩⟩
        case rest =>
          obtain ⟨LB, rfl, rfl, hX⟩ := hcut
          have z3 := hX.out.1.load
          have z4 := hX.out.2.1.1
          have z5 := hX.out.2.1.2.1
          have hQ := hide (And.intro (hX.out.2.1.set q) (below_setRow hX.out.2.2.2 hw0 (cellsD q)))
          clear hX c1 H0
          have c3 := hide fun W => tick_any hq.out.1 W
          have hy := hq.out.2
          unfold Stage at hy
          have lq := hQ.out.1.load
          by_cases k9 : k ≤ 9
          · have hb : q.b = 11 - (k : Int) := by omega
            have hf0 : f = 0 := by omega
            have e1 : tickV q = { q with b := q.b - 1 } := by unfold tickV; rw [if_neg (by omega), if_pos (by omega)]
            have e2 : wayV q = 0 := by unfold wayV; rw [if_neg (by omega), if_pos (by omega)]
            have hq2 : Wd (tickV q) ∧ Stage m (k + 1) f (tickV q) := ⟨tick_w hq.out.1, by rw [e1]; exact Or.inl ⟨by omega, hf0, by show q.b - 1 = 11 - ((k + 1 : Nat) : Int); omega, by show q.y = 1 + m; omega⟩⟩
            rw [e2] at c3
            generalize tickV q = q2 at *
            replace hq2 := hide hq2
            clear e1 e2 hb hf0 hy hq
            go_wp2_with fail
            refine (c3.out _).mono ?_
            rintro e w6 ⟨rfl, b6⟩
            have g6 := grow w6 (.cells (cellsD q2) 24)
            have y1 := hQ.out.1.on b6
            have y2 := y1.1
            have y3 := y1.2.1
            have y4 := y1.2.2
            have l2 := (Rat.new w6 q2 24).load
            have es : (w6.alloc (.cells (cellsD q2) 24)).setRow L (cellsD q2) = (w6.setRow L (cellsD q2)).alloc (.cells (cellsD q2) 24) := by rw [setRow_alloc, if_neg (by omega)]
            have hF : Rat ((w6.alloc (.cells (cellsD q2) 24)).setRow L (cellsD q2)) L q2 ∧ Below w.heap.size w ((w6.alloc (.cells (cellsD q2) 24)).setRow L (cellsD q2)) :=
              ⟨(y1.on g6).set q2, below_setRow (onto (onto hQ.out.2 (Nat.le_refl _) b6) (Nat.le_refl _) g6) hw0 _⟩
            rw [es] at hF
            replace hF := hide hF
            clear es b6 g6 c3 y1 hQ lq
            go_wp2
            go_roundw
            case rel => exact ⟨k + 1, f, q2, by omega, by omega, by go_num, rfl, hf, hq2, hF⟩
            case measure => simp [intOf]; omega
          · by_cases k10 : k = 10
            · subst k10
              have hb : q.b = 1 := by omega
              have hf0 : f = 0 := by omega
              have e1 : tickV q = ⟨q.a, q.n, 0, 0, true⟩ := by unfold tickV; rw [if_neg (by omega), if_neg (by omega)]
              have e2 : wayV q = 1 + m := by unfold wayV; rw [if_neg (by omega), if_neg (by omega)]; omega
              have hq2 : Wd (tickV q) ∧ Stage m 11 1 (tickV q) := ⟨tick_w hq.out.1, by rw [e1]; exact Or.inr ⟨by omega, rfl, rfl⟩⟩
              have hqb : (tickV q).b = 0 ∧ (tickV q).r = true := by rw [e1]; exact ⟨rfl, rfl⟩
              rw [e2] at c3
              generalize tickV q = q2 at *
              subst hf0
              replace hq2 := hide hq2
              have m2 : ((1 + m) != 0) = true := by simp; omega
              have m3 : ¬ (1 + m = 0) := by omega
              clear e1 e2 hb hy hq
              go_wp2_with fail
              refine (c3.out _).mono ?_
              rintro e w6 ⟨rfl, b6⟩
              have g6 := grow w6 (.cells (cellsD q2) 24)
              have y1 := hQ.out.1.on b6
              have y2 := y1.1
              have y3 := y1.2.1
              have y4 := y1.2.2
              have l2 := (Rat.new w6 q2 24).load
              have es : (w6.alloc (.cells (cellsD q2) 24)).setRow L (cellsD q2) = (w6.setRow L (cellsD q2)).alloc (.cells (cellsD q2) 24) := by rw [setRow_alloc, if_neg (by omega)]
              have hF : Rat ((w6.alloc (.cells (cellsD q2) 24)).setRow L (cellsD q2)) L q2 ∧ Below w.heap.size w ((w6.alloc (.cells (cellsD q2) 24)).setRow L (cellsD q2)) :=
                ⟨(y1.on g6).set q2, below_setRow (onto (onto hQ.out.2 (Nat.le_refl _) b6) (Nat.le_refl _) g6) hw0 _⟩
              rw [es] at hF
              obtain ⟨-, -, f2, -, f4⟩ := hF.1.five
              rw [hqb.1] at f2
              rw [hqb.2] at f4
              replace hF := hide hF
              clear es b6 g6 c3 y1 hQ lq hqb
              go_wp2
              go_roundw
              case rel => exact ⟨11, 1, q2, by omega, by omega, by go_num, by first | rfl | go_num, by omega, hq2, hF⟩
              case measure => simp [intOf]
            · have hb : q.b = 0 := by omega
              have e1 : tickV q = q := by unfold tickV; rw [if_pos hb]
              have e2 : wayV q = 0 := by unfold wayV; rw [if_pos hb]
              have hq2 : Wd q ∧ Stage m (k + 1) f q := ⟨hq.out.1, Or.inr ⟨by omega, by omega, hb⟩⟩
              rw [e1, e2] at c3
              replace hq2 := hide hq2
              clear e1 e2 hb hy hq
              go_wp2_with fail
              refine (c3.out _).mono ?_
              rintro e w6 ⟨rfl, b6⟩
              have g6 := grow w6 (.cells (cellsD q) 24)
              have y1 := hQ.out.1.on b6
              have y2 := y1.1
              have y3 := y1.2.1
              have y4 := y1.2.2
              have l2 := (Rat.new w6 q 24).load
              have es : (w6.alloc (.cells (cellsD q) 24)).setRow L (cellsD q) = (w6.setRow L (cellsD q)).alloc (.cells (cellsD q) 24) := by rw [setRow_alloc, if_neg (by omega)]
              have hF : Rat ((w6.alloc (.cells (cellsD q) 24)).setRow L (cellsD q)) L q ∧ Below w.heap.size w ((w6.alloc (.cells (cellsD q) 24)).setRow L (cellsD q)) :=
                ⟨(y1.on g6).set q, below_setRow (onto (onto hQ.out.2 (Nat.le_refl _) b6) (Nat.le_refl _) g6) hw0 _⟩
              rw [es] at hF
              replace hF := hide hF
              clear es b6 g6 c3 y1 hQ lq
              go_wp2
              go_roundw
              case rel => exact ⟨k + 1, f, q, by omega, by omega, by go_num, rfl, hf, hq2, hF⟩
              case measure => simp [intOf]; omega
      · have hkn' : decide ((k : Int) < (n : Int)) = false := by simp; omega
        have hq := hd
        have hQ := hR
        clear hd hR hx hn
        have c3 := hide fun W => tick_any hq.out.1 W
        have hy := hq.out.2
        unfold Stage at hy
        have lq := hQ.out.1.load
        by_cases k9 : k ≤ 9
        · have hb : d.b = 11 - (k : Int) := by omega
          have hf0 : f = 0 := by omega
          have e1 : tickV d = { d with b := d.b - 1 } := by unfold tickV; rw [if_neg (by omega), if_pos (by omega)]
          have e2 : wayV d = 0 := by unfold wayV; rw [if_neg (by omega), if_pos (by omega)]
          have hq2 : Wd (tickV d) ∧ Stage m (k + 1) f (tickV d) := ⟨tick_w hq.out.1, by rw [e1]; exact Or.inl ⟨by omega, hf0, by show d.b - 1 = 11 - ((k + 1 : Nat) : Int); omega, by show d.y = 1 + m; omega⟩⟩
          rw [e2] at c3
          generalize tickV d = q2 at *
          replace hq2 := hide hq2
          clear e1 e2 hb hf0 hy hq
          go_wp2_with fail
          refine (c3.out _).mono ?_
          rintro e w6 ⟨rfl, b6⟩
          have g6 := grow w6 (.cells (cellsD q2) 24)
          have y1 := hQ.out.1.on b6
          have y2 := y1.1
          have y3 := y1.2.1
          have y4 := y1.2.2
          have l2 := (Rat.new w6 q2 24).load
          have es : (w6.alloc (.cells (cellsD q2) 24)).setRow L (cellsD q2) = (w6.setRow L (cellsD q2)).alloc (.cells (cellsD q2) 24) := by rw [setRow_alloc, if_neg (by omega)]
          have hF : Rat ((w6.alloc (.cells (cellsD q2) 24)).setRow L (cellsD q2)) L q2 ∧ Below w.heap.size w ((w6.alloc (.cells (cellsD q2) 24)).setRow L (cellsD q2)) :=
            ⟨(y1.on g6).set q2, below_setRow (onto (onto hQ.out.2 (Nat.le_refl _) b6) (Nat.le_refl _) g6) hw0 _⟩
          rw [es] at hF
          replace hF := hide hF
          clear es b6 g6 c3 y1 hQ lq
          go_wp2
          go_roundw
          case rel => exact ⟨k + 1, f, q2, by omega, by omega, by go_num, rfl, hf, hq2, hF⟩
          case measure => simp [intOf]; omega
        · by_cases k10 : k = 10
          · subst k10
            have hb : d.b = 1 := by omega
            have hf0 : f = 0 := by omega
            have e1 : tickV d = ⟨d.a, d.n, 0, 0, true⟩ := by unfold tickV; rw [if_neg (by omega), if_neg (by omega)]
            have e2 : wayV d = 1 + m := by unfold wayV; rw [if_neg (by omega), if_neg (by omega)]; omega
            have hq2 : Wd (tickV d) ∧ Stage m 11 1 (tickV d) := ⟨tick_w hq.out.1, by rw [e1]; exact Or.inr ⟨by omega, rfl, rfl⟩⟩
            have hqb : (tickV d).b = 0 ∧ (tickV d).r = true := by rw [e1]; exact ⟨rfl, rfl⟩
            rw [e2] at c3
            generalize tickV d = q2 at *
            subst hf0
            replace hq2 := hide hq2
            have m2 : ((1 + m) != 0) = true := by simp; omega
            have m3 : ¬ (1 + m = 0) := by omega
            clear e1 e2 hb hy hq
            go_wp2_with fail
            refine (c3.out _).mono ?_
            rintro e w6 ⟨rfl, b6⟩
            have g6 := grow w6 (.cells (cellsD q2) 24)
            have y1 := hQ.out.1.on b6
            have y2 := y1.1
            have y3 := y1.2.1
            have y4 := y1.2.2
            have l2 := (Rat.new w6 q2 24).load
            have es : (w6.alloc (.cells (cellsD q2) 24)).setRow L (cellsD q2) = (w6.setRow L (cellsD q2)).alloc (.cells (cellsD q2) 24) := by rw [setRow_alloc, if_neg (by omega)]
            have hF : Rat ((w6.alloc (.cells (cellsD q2) 24)).setRow L (cellsD q2)) L q2 ∧ Below w.heap.size w ((w6.alloc (.cells (cellsD q2) 24)).setRow L (cellsD q2)) :=
              ⟨(y1.on g6).set q2, below_setRow (onto (onto hQ.out.2 (Nat.le_refl _) b6) (Nat.le_refl _) g6) hw0 _⟩
            rw [es] at hF
            obtain ⟨-, -, f2, -, f4⟩ := hF.1.five
            rw [hqb.1] at f2
            rw [hqb.2] at f4
            replace hF := hide hF
            clear es b6 g6 c3 y1 hQ lq hqb
            go_wp2
            go_roundw
            case rel => exact ⟨11, 1, q2, by omega, by omega, by go_num, by first | rfl | go_num, by omega, hq2, hF⟩
            case measure => simp [intOf]
          · have hb : d.b = 0 := by omega
            have e1 : tickV d = d := by unfold tickV; rw [if_pos hb]
            have e2 : wayV d = 0 := by unfold wayV; rw [if_pos hb]
            have hq2 : Wd d ∧ Stage m (k + 1) f d := ⟨hq.out.1, Or.inr ⟨by omega, by omega, hb⟩⟩
            rw [e1, e2] at c3
            replace hq2 := hide hq2
            clear e1 e2 hb hy hq
            go_wp2_with fail
            refine (c3.out _).mono ?_
            rintro e w6 ⟨rfl, b6⟩
            have g6 := grow w6 (.cells (cellsD d) 24)
            have y1 := hQ.out.1.on b6
            have y2 := y1.1
            have y3 := y1.2.1
            have y4 := y1.2.2
            have l2 := (Rat.new w6 d 24).load
            have es : (w6.alloc (.cells (cellsD d) 24)).setRow L (cellsD d) = (w6.setRow L (cellsD d)).alloc (.cells (cellsD d) 24) := by rw [setRow_alloc, if_neg (by omega)]
            have hF : Rat ((w6.alloc (.cells (cellsD d) 24)).setRow L (cellsD d)) L d ∧ Below w.heap.size w ((w6.alloc (.cells (cellsD d) 24)).setRow L (cellsD d)) :=
              ⟨(y1.on g6).set d, below_setRow (onto (onto hQ.out.2 (Nat.le_refl _) b6) (Nat.le_refl _) g6) hw0 _⟩
            rw [es] at hF
            replace hF := hide hF
            clear es b6 g6 c3 y1 hQ lq
            go_wp2
            go_roundw
            case rel => exact ⟨k + 1, f, d, by omega, by omega, by go_num, rfl, hf, hq2, hF⟩
            case measure => simp [intOf]; omega
    · have hk40 : decide ((k : Int) ≤ 40) = false := by simp; omega
      obtain rfl : k = 41 := by omega
      have hy := hd.out.2
      unfold Stage at hy
      obtain rfl : f = 1 := by omega
      clear hd hy hx hn
      go_wp2_with fail
      refine (fixed_any _).mono ?_
      rintro e w7 ⟨rfl, b7⟩
      have B7 := hide (onto hR.out.2 (Nat.le_refl _) b7)
      clear b7
      go_wp2
      go_ret
      exact ⟨rfl, B7.out⟩

end Go.Proofs.Ytifkldlhoaipbaa
