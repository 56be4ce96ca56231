/- The contract of the program's word of an instruction's bits, over letters. -/
import Derived.Test.YtahbbhgoacbejaaGreatDoorDecLayouts
import Derived.Deep.RegionHeld3
import Derived.Deep.QuietTactic
import Derived.BigQuiet
namespace Go.Proofs.YtahbbhgoacbejaaGreatDoor
open Go.RowKit
set_option linter.unusedVariables false

theorem cell_in {W : World} {b o : Nat} {v : Value} (h : W.cell? ⟨b, o, none⟩ = some v) : b < W.heap.size := by
  by_cases hb : b < W.heap.size
  · exact hb
  · simp [World.cell?, Array.getElem?_eq_none (Nat.le_of_not_lt hb)] at h

theorem on1 {W w1 : World} (hb : Below W.heap.size W w1) {b o : Nat} {v : Value} (h : W.cell? ⟨b, o, none⟩ = some v) : w1.cell? ⟨b, o, none⟩ = some v := by
  rw [(bcell hb).1 b o (cell_in h), h]

/-- In a block lie these values. -/
structure Cell4 (x : World) (b : Nat) (v0 v1 v2 v3 : Value) : Prop where
  c0 : x.cell? ⟨b, 0, none⟩ = some v0
  c1 : x.cell? ⟨b, 1, none⟩ = some v1
  c2 : x.cell? ⟨b, 2, none⟩ = some v2
  c3 : x.cell? ⟨b, 3, none⟩ = some v3

structure Cell6 (x : World) (b : Nat) (v0 v1 v2 v3 v4 v5 : Value) : Prop where
  c0 : x.cell? ⟨b, 0, none⟩ = some v0
  c1 : x.cell? ⟨b, 1, none⟩ = some v1
  c2 : x.cell? ⟨b, 2, none⟩ = some v2
  c3 : x.cell? ⟨b, 3, none⟩ = some v3
  c4 : x.cell? ⟨b, 4, none⟩ = some v4
  c5 : x.cell? ⟨b, 5, none⟩ = some v5

structure Cell7 (x : World) (b : Nat) (v0 v1 v2 v3 v4 v5 v6 : Value) : Prop where
  c0 : x.cell? ⟨b, 0, none⟩ = some v0
  c1 : x.cell? ⟨b, 1, none⟩ = some v1
  c2 : x.cell? ⟨b, 2, none⟩ = some v2
  c3 : x.cell? ⟨b, 3, none⟩ = some v3
  c4 : x.cell? ⟨b, 4, none⟩ = some v4
  c5 : x.cell? ⟨b, 5, none⟩ = some v5
  c6 : x.cell? ⟨b, 6, none⟩ = some v6

theorem Cell4.on {x y : World} {b : Nat} {v0 v1 v2 v3 : Value} (h : Cell4 x b v0 v1 v2 v3) (hb : Below x.heap.size x y) : Cell4 y b v0 v1 v2 v3 :=
  ⟨on1 hb h.c0, on1 hb h.c1, on1 hb h.c2, on1 hb h.c3⟩

theorem Cell6.on {x y : World} {b : Nat} {v0 v1 v2 v3 v4 v5 : Value} (h : Cell6 x b v0 v1 v2 v3 v4 v5) (hb : Below x.heap.size x y) : Cell6 y b v0 v1 v2 v3 v4 v5 :=
  ⟨on1 hb h.c0, on1 hb h.c1, on1 hb h.c2, on1 hb h.c3, on1 hb h.c4, on1 hb h.c5⟩

theorem Cell7.on {x y : World} {b : Nat} {v0 v1 v2 v3 v4 v5 v6 : Value} (h : Cell7 x b v0 v1 v2 v3 v4 v5 v6) (hb : Below x.heap.size x y) : Cell7 y b v0 v1 v2 v3 v4 v5 v6 :=
  ⟨on1 hb h.c0, on1 hb h.c1, on1 hb h.c2, on1 hb h.c3, on1 hb h.c4, on1 hb h.c5, on1 hb h.c6⟩

theorem cell4 (x : World) (t : TypeId) (v0 v1 v2 v3 : Value) : Cell4 (x.alloc (.cells #[v0, v1, v2, v3] t)) x.heap.size v0 v1 v2 v3 := by
  constructor <;> simp [go_sem]

theorem cell6 (x : World) (t : TypeId) (v0 v1 v2 v3 v4 v5 : Value) : Cell6 (x.alloc (.cells #[v0, v1, v2, v3, v4, v5] t)) x.heap.size v0 v1 v2 v3 v4 v5 := by
  constructor <;> simp [go_sem]

theorem cell7 (x : World) (t : TypeId) (v0 v1 v2 v3 v4 v5 v6 : Value) : Cell7 (x.alloc (.cells #[v0, v1, v2, v3, v4, v5, v6] t)) x.heap.size v0 v1 v2 v3 v4 v5 v6 := by
  constructor <;> simp [go_sem]

theorem grow (x : World) (o : Obj) : Below x.heap.size x (x.alloc o) := (Below.refl _ _).alloc (Nat.le_refl _) _

theorem onto {w x y : World} (h : Below w.heap.size w x) (hb : Below x.heap.size x y) : Below w.heap.size w y := h.trans (hb.mono h.size)

theorem since_refl (W : World) : (∀ b o, b < W.heap.size → W.drew.cell? ⟨b, o, none⟩ = W.cell? ⟨b, o, none⟩) ∧ Below W.heap.size W W.drew :=
  ⟨fun _ _ _ => rfl, (Below.refl _ W).drew⟩

theorem since_on {W x y : World} (h : (∀ b o, b < W.heap.size → x.cell? ⟨b, o, none⟩ = W.cell? ⟨b, o, none⟩) ∧ Below W.heap.size W x) (hb : Below x.heap.size x y) :
    (∀ b o, b < W.heap.size → y.cell? ⟨b, o, none⟩ = W.cell? ⟨b, o, none⟩) ∧ Below W.heap.size W y := by
  have hz := h.2.size
  obtain ⟨hc, hf⟩ := bcell hb
  exact ⟨fun b o hb' => by rw [hc b o (by omega), h.1 b o hb'], h.2.trans (hb.mono hz)⟩

theorem below_drewN {B : Nat} {a w : World} (h : Below B a w) (n : Nat) : Below B a (w.drewN n) := h.trans ⟨rfl, rfl, rfl, Nat.le_refl _, fun _ _ => rfl⟩

set_option maxHeartbeats 2000000 in
theorem laid_raw {nm ln : ByteArray} {op f j n r i a k m F : Int} {g : Bool} (lw : Int → Int) (s t d x v : Int)
    (hlow : ∀ n w, Calls Tryz.prog 45 #[.int .i64 n] w fun e w' => e = .returned (.int .u32 (lw n)) ∧ w' = w)
    (hrow : ∀ w, Tabs w → Calls Tryz.prog 22 #[.int .i64 op] w fun e w' => e = .returned (.agg #[.string nm, .int .i64 f, .int .u32 j, .int .u32 n]) ∧ Below w.heap.size w w')
    (hlay : ∀ w, Calls Tryz.prog 44 #[.int .i64 f] w fun e w' => e = .returned (.agg #[.string ln, .int .u32 r, .int .u32 i, .bool g, .int .u32 a, .int .i64 k, .int .u32 m]) ∧ Below w.heap.size w w')
    (hfix : ∀ w, Calls Tryz.prog 46 #[.agg #[.string nm, .int .i64 f, .int .u32 j, .int .u32 n], .agg #[.string ln, .int .u32 r, .int .u32 i, .bool g, .int .u32 a, .int .i64 k, .int .u32 m]] w fun e w' => e = .returned (.int .u32 F) ∧ Below w.heap.size w w')
    (w : World) (tb : Tabs w) :
    Calls Tryz.prog 23 #[.agg #[.int .i64 op, .int .i64 s, .int .i64 t, .int .i64 d, .int .i64 x, .int .i64 v]] w fun e w' =>
      e = .returned (.int .u32 (bits .or .u32 (bits .or .u32 (bits .or .u32 F (bits .and .u32 (bits .or .u32 (bits .or .u32 (bits .or .u32 (lw s * 2097152 % 4294967296) (lw t * 65536 % 4294967296)) (lw d * 2048 % 4294967296)) (lw x * 64 % 4294967296)) r))
        (bits .and .u32 (lw d * 65536 % 4294967296) a)) (bits .and .u32 (IntKind.u32.wrap v) i))) ∧ Below w.heap.size w w' := by
  go_enter Tryz.func23, Tryz.ntmps23
  go_wp2_with fail
  have b0 := grow w (.cells #[.int .i64 op, .int .i64 s, .int .i64 t, .int .i64 d, .int .i64 x, .int .i64 v] 23)
  have i0 := cell6 w 23 (.int .i64 op) (.int .i64 s) (.int .i64 t) (.int .i64 d) (.int .i64 x) (.int .i64 v)
  refine (hrow _ (tb.on b0)).mono ?_
  rintro e w1 ⟨rfl, h1⟩
  have i1 := i0.on h1
  have b1 := onto b0 h1
  have z1 := cell_in i1.c0
  clear i0 b0 h1
  go_wp2_with fail
  have r2 := cell4 w1 51 (.string nm) (.int .i64 f) (.int .u32 j) (.int .u32 n)
  have i2 := i1.on (grow w1 (.cells #[.string nm, .int .i64 f, .int .u32 j, .int .u32 n] 51))
  have b2 := onto b1 (grow w1 (.cells #[.string nm, .int .i64 f, .int .u32 j, .int .u32 n] 51))
  refine (hlay _).mono ?_
  rintro e w2 ⟨rfl, h3⟩
  have r3 := r2.on h3
  have i3 := i2.on h3
  have b3 := onto b2 h3
  have z2 := cell_in i3.c0
  have z3 := cell_in r3.c0
  generalize w1.heap.size = R at *
  clear h3 r2 i2 b2 i1 b1 hrow hlay tb z1
  clear w1
  go_wp2_with fail
  have l4 := cell7 w2 84 (.string ln) (.int .u32 r) (.int .u32 i) (.bool g) (.int .u32 a) (.int .i64 k) (.int .u32 m)
  have g4 := grow w2 (.cells #[.string ln, .int .u32 r, .int .u32 i, .bool g, .int .u32 a, .int .i64 k, .int .u32 m] 84)
  have i4 := i3.on g4
  have r4 := r3.on g4
  have b4 := onto b3 g4
  generalize w2.alloc (.cells #[.string ln, .int .u32 r, .int .u32 i, .bool g, .int .u32 a, .int .i64 k, .int .u32 m] 84) = W at *
  generalize w2.heap.size = L at *
  clear g4 i3 r3 b3 z2 z3
  clear w2
  obtain ⟨p0, p1, p2, p3, p4, p5⟩ := i4
  obtain ⟨q0, q1, q2, q3⟩ := r4
  obtain ⟨l0, l1, l2, l3, l4, l5, l6⟩ := l4
  go_quiet (first | (go_at_call 45; exact Calls.quiet_of_same (hlow _ _)))
  go_wp2_with fail
  refine (hlow _ _).mono ?_
  rintro e w' ⟨rfl, rfl⟩
  go_wp2_with fail
  have b5 := below_drewN b4 nq
  generalize hV : W.drewN nq = V at *
  have ec : ∀ y, V.cell? y = W.cell? y := fun y => by rw [← hV]; rfl
  rw [← ec] at p0 p1 p2 p3 p4 p5 q0 q1 q2 q3 l0 l1 l2 l3 l4 l5 l6
  clear ec hV b4
  clear W
  have z0 := cell_in p0
  have z1 := cell_in q0
  have z2 := cell_in l0
  go_region_held3 (fun x => (∀ b o, b < V.heap.size → x.cell? ⟨b, o, none⟩ = V.cell? ⟨b, o, none⟩) ∧ Below V.heap.size V x)
    (first | exact since_refl V | assumption)
    (first | (go_at_call 46; refine (hfix _).mono ?_; rintro e w' ⟨rfl, hn⟩; have hT := since_on (by assumption) hn; clear hn))
  go_wp2
  go_ret
  exact ⟨rfl, onto b5 hT.2⟩

theorem low_lt (x : Int) : Dec.low x < 32 := by unfold Dec.low; omega

theorem low_mul (x : Int) (k : Nat) (hk : k ≤ 134217728) : Dec.low x * k < 4294967296 :=
  Nat.lt_of_le_of_lt (Nat.mul_le_mul (Nat.le_of_lt_succ (low_lt x)) hk) (by decide)

theorem shl_nat (n k : Nat) (h : n * k < 4294967296) : (n : Int) * (k : Int) % 4294967296 = ((n * k : Nat) : Int) := by
  rw [← Int.natCast_mul]; omega

theorem laid_is (op : Nat) (h : op < 69) (s t d x v : Int) :
    bits .or .u32 (bits .or .u32 (bits .or .u32 (Dec.fixed op : Nat) (bits .and .u32 (bits .or .u32 (bits .or .u32 (bits .or .u32 ((Dec.low s : Nat) * 2097152 % 4294967296) ((Dec.low t : Nat) * 65536 % 4294967296)) ((Dec.low d : Nat) * 2048 % 4294967296)) ((Dec.low x : Nat) * 64 % 4294967296)) (Dec.lregs (Dec.fm op) : Nat)))
        (bits .and .u32 ((Dec.low d : Nat) * 65536 % 4294967296) (Dec.lagain (Dec.fm op) : Nat))) (bits .and .u32 (IntKind.u32.wrap v) (Dec.limm (Dec.fm op) : Nat)) = (Dec.laid op s t d x v : Nat) := by
  have ls := low_lt s
  have lt := low_lt t
  have ld := low_lt d
  have lx := low_lt x
  obtain ⟨h1, h2, h3, -⟩ := Dec.masks_lt _ (Dec.fm_lt op h).2
  have hf := (Dec.fixed_shut op h).2.2
  have ev : IntKind.u32.wrap v = (((v % 4294967296).toNat : Nat) : Int) := by rw [IntKind.wrap_u32']; omega
  have hv : (v % 4294967296).toNat < 4294967296 := by omega
  rw [ev, show (2097152 : Int) = ((2097152 : Nat) : Int) from rfl, show (65536 : Int) = ((65536 : Nat) : Int) from rfl, show (2048 : Int) = ((2048 : Nat) : Int) from rfl, show (64 : Int) = ((64 : Nat) : Int) from rfl,
    shl_nat _ _ (low_mul s 2097152 (by decide)), shl_nat _ _ (low_mul t 65536 (by decide)), shl_nat _ _ (low_mul d 2048 (by decide)), shl_nat _ _ (low_mul x 64 (by decide)), shl_nat _ _ (low_mul d 65536 (by decide))]
  have o : ∀ a b : Nat, a < 4294967296 → b < 4294967296 → a ||| b < 4294967296 := fun a b ha hb => Nat.or_lt_two_pow (n := 32) ha hb
  have n1 : ∀ a b : Nat, b < 4294967296 → a &&& b < 4294967296 := fun a b hb => Nat.lt_of_le_of_lt Nat.and_le_right hb
  have a1 : Dec.low s * 2097152 < 4294967296 := low_mul s 2097152 (by decide)
  have a2 : Dec.low t * 65536 < 4294967296 := low_mul t 65536 (by decide)
  have a3 : Dec.low d * 2048 < 4294967296 := low_mul d 2048 (by decide)
  have a4 : Dec.low x * 64 < 4294967296 := low_mul x 64 (by decide)
  have a5 : Dec.low d * 65536 < 4294967296 := low_mul d 65536 (by decide)
  rw [u32_or_nat _ _ a1 a2, u32_or_nat _ _ (o _ _ a1 a2) a3, u32_or_nat _ _ (o _ _ (o _ _ a1 a2) a3) a4, u32_and_nat _ _ (o _ _ (o _ _ (o _ _ a1 a2) a3) a4) h1, u32_or_nat _ _ hf (n1 _ _ h1),
    u32_and_nat _ _ a5 h3, u32_or_nat _ _ (o _ _ hf (n1 _ _ h1)) (n1 _ _ h3), u32_and_nat _ _ hv h2, u32_or_nat _ _ (o _ _ (o _ _ hf (n1 _ _ h1)) (n1 _ _ h3)) (n1 _ _ h2)]
  rfl

theorem laid_any (op : Nat) (h : op < 69) (s t d x v : Int) (w : World) (tb : Tabs w) :
    Calls Tryz.prog 23 #[.agg #[.int .i64 (op : Int), .int .i64 s, .int .i64 t, .int .i64 d, .int .i64 x, .int .i64 v]] w fun e w' =>
      e = .returned (.int .u32 (Dec.laid op s t d x v : Nat)) ∧ Below w.heap.size w w' := by
  have e : idx (op : Int) = op := by unfold idx; rw [if_pos (by omega)]; omega
  have := laid_raw (op := (op : Int)) (fun n => (Dec.low n : Nat)) s t d x v low_any
    (fun w tb => by have := rowOf_any (op : Int) w tb; rw [e] at this; exact this)
    (fun w => layout_any (Dec.fm op) (Dec.fm_lt op h).2 w) (fun w => fixed_any op h w) w tb
  rw [laid_is op h] at this
  exact this

theorem row_name (v0 v1 v2 v3 : Value) (w : World) : (Instr.field 51 (.agg #[v0, v1, v2, v3]) 0).run Tryz.prog w = .ok v0 w := by kernel_rfl

theorem row_form (v0 v1 v2 v3 : Value) (w : World) : (Instr.field 51 (.agg #[v0, v1, v2, v3]) 1).run Tryz.prog w = .ok v1 w := by kernel_rfl

theorem lay_name (v0 v1 v2 v3 v4 v5 v6 : Value) (w : World) : (Instr.field 84 (.agg #[v0, v1, v2, v3, v4, v5, v6]) 0).run Tryz.prog w = .ok v0 w := by kernel_rfl

theorem set6 {n b : Nat} {w W : World} {v0 v1 v2 v3 v4 v5 : Value} (h : Below n w W) (hb : n ≤ b) : Below n w ((((((W.setCell ⟨b, 0, none⟩ v0).setCell ⟨b, 1, none⟩ v1).setCell ⟨b, 2, none⟩ v2).setCell ⟨b, 3, none⟩ v3).setCell ⟨b, 4, none⟩ v4).setCell ⟨b, 5, none⟩ v5) :=
  (((((h.setCell hb _).setCell hb _).setCell hb _).setCell hb _).setCell hb _).setCell hb _

theorem drawn_raw {nm ln : ByteArray} {op wd f j n r i a k m : Int} {g : Bool} (num : Int → Int)
    (hnum : ∀ w, Calls Tryz.prog 47 #[.int .u32 (bits .and .u32 wd i), .bool g] w fun e w' => e = .returned (.int .i64 (num (bits .and .u32 wd i))) ∧ w' = w)
    (hrow : ∀ w, Tabs w → Calls Tryz.prog 22 #[.int .i64 op] w fun e w' => e = .returned (.agg #[.string nm, .int .i64 f, .int .u32 j, .int .u32 n]) ∧ Below w.heap.size w w')
    (hlay : ∀ w, Calls Tryz.prog 44 #[.int .i64 f] w fun e w' => e = .returned (.agg #[.string ln, .int .u32 r, .int .u32 i, .bool g, .int .u32 a, .int .i64 k, .int .u32 m]) ∧ Below w.heap.size w w')
    (w : World) (tb : Tabs w) :
    Calls Tryz.prog 24 #[.int .i64 op, .int .u32 wd] w fun e w' =>
      e = .returned (.agg #[.int .i64 op, .int .i64 (wrap64 (bits .and .u32 (bits .and .u32 wd r / 2097152) 31)), .int .i64 (wrap64 (bits .and .u32 (bits .and .u32 wd r / 65536) 31)), .int .i64 (wrap64 (bits .and .u32 (bits .and .u32 wd r / 2048) 31)), .int .i64 (wrap64 (bits .and .u32 (bits .and .u32 wd r / 64) 31)), .int .i64 (num (bits .and .u32 wd i))]) ∧ Below w.heap.size w w' := by
  have hform := row_form
  go_enter Tryz.func24, Tryz.ntmps24
  go_wp2_with fail
  have b0 := grow w (.cells #[.int .i64 0, .int .i64 0, .int .i64 0, .int .i64 0, .int .i64 0, .int .i64 0] 23)
  have i0 := cell6 w 23 (.int .i64 0) (.int .i64 0) (.int .i64 0) (.int .i64 0) (.int .i64 0) (.int .i64 0)
  have f0 : ∀ o, (w.alloc (.cells #[.int .i64 0, .int .i64 0, .int .i64 0, .int .i64 0, .int .i64 0, .int .i64 0] 23)).frozen? ⟨w.heap.size, o, none⟩ = false := by intro o; simp [go_sem]
  refine (hrow _ (tb.on b0)).mono ?_
  rintro e w1 ⟨rfl, h1⟩
  have f1 : ∀ o, w1.frozen? ⟨w.heap.size, o, none⟩ = false := fun o => by rw [(bcell h1).2 _ _ (by simp), f0]
  have i1 := i0.on h1
  have b1 := onto b0 h1
  clear i0 b0 h1 f0
  go_wp2_with fail
  refine (hlay _).mono ?_
  rintro e w2 ⟨rfl, h2⟩
  have f2 : ∀ o, w2.frozen? ⟨w.heap.size, o, none⟩ = false := fun o => by rw [(bcell h2).2 _ _ (cell_in i1.c0), f1]
  have i2 := i1.on h2
  have b2 := onto b1 h2
  clear i1 b1 h2 f1 hrow hlay tb
  clear w1
  have z2 := cell_in i2.c0
  go_wp2_with fail
  refine (hnum _).mono ?_
  rintro e w' ⟨rfl, rfl⟩
  have g3 := grow w2 (.cells #[.string ln, .int .u32 r, .int .u32 i, .bool g, .int .u32 a, .int .i64 k, .int .u32 m] 84)
  have i3 := i2.on g3
  have b3 := onto b2 g3
  have f3 : ∀ o, (w2.alloc (.cells #[.string ln, .int .u32 r, .int .u32 i, .bool g, .int .u32 a, .int .i64 k, .int .u32 m] 84)).frozen? ⟨w.heap.size, o, none⟩ = false := fun o => by rw [(bcell g3).2 _ _ z2, f2]
  generalize w2.alloc (.cells #[.string ln, .int .u32 r, .int .u32 i, .bool g, .int .u32 a, .int .i64 k, .int .u32 m] 84) = W at *
  clear g3 i2 b2 f2 z2
  obtain ⟨p0, p1, p2, p3, p4, p5⟩ := i3
  go_wp2
  refine bodyPost_ret (v := .agg #[.int .i64 op, .int .i64 (wrap64 (bits .and .u32 (bits .and .u32 wd r / 2097152) 31)), .int .i64 (wrap64 (bits .and .u32 (bits .and .u32 wd r / 65536) 31)), .int .i64 (wrap64 (bits .and .u32 (bits .and .u32 wd r / 2048) 31)), .int .i64 (wrap64 (bits .and .u32 (bits .and .u32 wd r / 64) 31)), .int .i64 (num (bits .and .u32 wd i))])
    (by simp [results, Tryz.results24, go_sem, p0, p1, p2, p3, p4, p5]) rfl ⟨rfl, set6 b3 (Nat.le_refl _)⟩

theorem field_is (n m k : Nat) (hn : n < 4294967296) (hm : m < 4294967296) (hk : 1 ≤ k) : wrap64 (bits .and .u32 (bits .and .u32 (n : Int) (m : Int) / (k : Int)) 31) = (((n &&& m) / k % 32 : Nat) : Int) := by
  have h1 : n &&& m < 4294967296 := Nat.lt_of_le_of_lt Nat.and_le_right hm
  have h2 : (n &&& m) / k ≤ n &&& m := Nat.div_le_self _ _
  rw [u32_and_nat _ _ hn hm, ← Int.natCast_ediv, show (31 : Int) = ((31 : Nat) : Int) from rfl, u32_and_nat _ _ (by omega) (by decide), nat_mask5, wrap64_id _ (by omega) (by omega)]

/-- What the program draws of a word: the struct. -/
def drawnV (op wd : Nat) : Value := .agg #[.int .i64 (op : Nat), .int .i64 (Dec.ds op wd : Nat), .int .i64 (Dec.dt op wd : Nat), .int .i64 (Dec.dd op wd : Nat), .int .i64 (Dec.da op wd : Nat), .int .i64 (Dec.di op wd)]

theorem drawn_any (op : Nat) (h : op < 69) (wd : Nat) (hw : wd < 4294967296) (w : World) (tb : Tabs w) :
    Calls Tryz.prog 24 #[.int .i64 (op : Int), .int .u32 (wd : Int)] w fun e w' => e = .returned (drawnV op wd) ∧ Below w.heap.size w w' := by
  have e : idx (op : Int) = op := by unfold idx; rw [if_pos (by omega)]; omega
  obtain ⟨h1, h2, h3, -⟩ := Dec.masks_lt _ (Dec.fm_lt op h).2
  have hi := u32_and_nat wd (Dec.limm (Dec.fm op)) hw h2
  have := drawn_raw (op := (op : Int)) (wd := (wd : Int)) (i := (Dec.limm (Dec.fm op) : Nat)) (g := Dec.lsigned (Dec.fm op)) (fun _ => Dec.di op wd)
    (fun w => by rw [hi]; exact number_any _ _ (Nat.lt_of_le_of_lt Nat.and_le_right h2) w)
    (fun w tb => by have := rowOf_any (op : Int) w tb; rw [e] at this; exact this)
    (fun w => layout_any (Dec.fm op) (Dec.fm_lt op h).2 w) w tb
  have e1 := field_is wd (Dec.lregs (Dec.fm op)) 2097152 hw h1 (by decide)
  have e2 := field_is wd (Dec.lregs (Dec.fm op)) 65536 hw h1 (by decide)
  have e3 := field_is wd (Dec.lregs (Dec.fm op)) 2048 hw h1 (by decide)
  have e4 := field_is wd (Dec.lregs (Dec.fm op)) 64 hw h1 (by decide)
  simp only [Int.cast_ofNat_Int] at e1 e2 e3 e4
  rw [e1, e2, e3, e4] at this
  exact this

end Go.Proofs.YtahbbhgoacbejaaGreatDoor
