/- Layer 12: what a load and a store make of a bus, as functions of its state; the program's. -/
import Derived.Test.YtdapjpbdplhgbaaGreatQBuWalks3
import Derived.Test.YtdapjpbdplhgbaaGreatQBuFeed
import Derived.Test.YtdapjpbdplhgbaaGreatQBuTick
namespace Go.Proofs.YtdapjpbdplhgbaaGreat
open Go.RowKit
set_option linter.unusedVariables false
set_option maxRecDepth 100000

/-- May a number of s bytes lie at a? -/
def mayI (n : Nat) (a s : Int) : Prop := (s = 1 ∨ s = 2 ∨ s = 4) ∧ a % s = 0 ∧ a + s ≤ 256 * n

instance (n : Nat) (a s : Int) : Decidable (mayI n a s) := by unfold mayI; infer_instance

def memX (n : Nat) (B : Nat → Nat) (a s : Int) : Int := if mayI n a s then (numOf B a.toNat s.toNat : Nat) else 0

theorem may_nat {n : Nat} {a s : Int} (a0 : 0 ≤ a) (h : mayI n a s) : ∃ k z : Nat, a = (k : Int) ∧ s = (z : Int) ∧ may n k z := by
  obtain ⟨h1, h2, h3⟩ := h
  rcases h1 with rfl | rfl | rfl
  · exact ⟨a.toNat, 1, by omega, rfl, Or.inl rfl, by omega, by omega⟩
  · exact ⟨a.toNat, 2, by omega, rfl, Or.inr (Or.inl rfl), by omega, by omega⟩
  · exact ⟨a.toNat, 4, by omega, rfl, Or.inr (Or.inr rfl), by omega, by omega⟩

theorem memLoad {w : World} {p g n c : Nat} {B : Nat → Nat} {D : Nat → Bool} (M : Mem w p g n c B D) (a s : Int) (a0 : 0 ≤ a) (a1 : a < 4294967296) :
    Calls Tryz.prog 66 #[.pointer (some ⟨p, 0, none⟩), .int .u32 a, .int .i64 s] w fun e w' => e = .returned (.tuple #[.int .u32 (memX n B a s), .int .i64 (if mayI n a s then 0 else 61)]) ∧ w' = w := by
  by_cases h : mayI n a s
  · obtain ⟨k, z, rfl, rfl, hm⟩ := may_nat a0 h
    unfold memX
    rw [if_pos h, if_pos h]
    simp only [Int.toNat_natCast]
    exact load_any M k z (by omega) hm
  · unfold memX
    rw [if_neg h, if_neg h]
    exact load_bad M a s a0 a1 h

/-- An answer: a number, an error, the devices then. -/
structure Ans where
  X : Int
  E : Int
  v : Dv

def fin (v : Dv) (X E : Int) (q : Dv) : Ans := if E = 0 then ⟨X, 0, q⟩ else ⟨0, 121, v⟩

theorem fin_ok (v : Dv) (X : Int) (q : Dv) : fin v X 0 q = ⟨X, 0, q⟩ := if_pos rfl
theorem fin_no {E : Int} (h : ¬ E = 0) (v : Dv) (X : Int) (q : Dv) : fin v X E q = ⟨0, 121, v⟩ := if_neg h

/-- A register is read. -/
def rdA (v : Dv) (a : Int) : Ans :=
  if a < 520093952 then fin v (Tm.readV v.t (a - 520093696)) (Tm.formV (a - 520093696)) v
  else if a < 520094208 then fin v (Ua.readV v.u (a - 520093952)) (Ua.formV (a - 520093952)) { v with u := Ua.leftV v.u (a - 520093952) }
  else if a < 520094464 then fin v (Dm.readV v.d (a - 520094208)) (Dm.formV (a - 520094208)) v
  else fin v (nextX v.g) (rgE (a - 520094464)) { v with g := nextG v.g }

/-- A load. -/
def ldA (n : Nat) (v : Dv) (B : Nat → Nat) (a s : Int) : Ans :=
  if 520093696 ≤ a ∧ a < 520094720 then (if s = 4 ∧ a % 4 = 0 then rdA v a else ⟨0, 121, v⟩) else ⟨memX n B a s, (if mayI n a s then 0 else 121), v⟩

theorem left_fits {u : Ua.Ua} (h : Ua.Fits u) (r : Int) : Ua.Fits (Ua.leftV u r) := by
  unfold Ua.leftV
  repeat' split
  · refine ⟨?_, h.o⟩
    show (u.i.extract 1 u.i.size).size ≤ 16
    rw [ByteArray.size_extract]
    have := h.i
    omega
  · exact h
  · exact h
  · exact ⟨by decide, by decide⟩

theorem Wv.setT {v : Dv} (h : Wv v) {r : Tm.Tm} (hr : Tm.Wt r) : Wv { v with t := r } := ⟨hr, h.u, h.d, h.g, h.k⟩
theorem Wv.setU {v : Dv} (h : Wv v) {r : Ua.Ua} (hr : Ua.Fits r) : Wv { v with u := r } := ⟨h.t, hr, h.d, h.g, h.k⟩
theorem Wv.setD {v : Dv} (h : Wv v) {r : Dm.Dm} (hr : Dm.Wd r) : Wv { v with d := r } := ⟨h.t, h.u, hr, h.g, h.k⟩
theorem Wv.setG {v : Dv} (h : Wv v) {r : Rg} (hr : Wg r) : Wv { v with g := r } := ⟨h.t, h.u, h.d, hr, h.k⟩

theorem fin_w {v q : Dv} (hv : Wv v) (hq : Wv q) (X E : Int) : Wv (fin v X E q).v ∧ (¬ (fin v X E q).E = 0 → (fin v X E q).X = 0 ∧ (fin v X E q).v = v) := by
  unfold fin
  split
  · exact ⟨hq, fun h => absurd rfl h⟩
  · exact ⟨hv, fun _ => ⟨rfl, rfl⟩⟩

theorem rdA_w {v : Dv} (hv : Wv v) (a : Int) : Wv (rdA v a).v ∧ (¬ (rdA v a).E = 0 → (rdA v a).X = 0 ∧ (rdA v a).v = v) := by
  unfold rdA
  repeat' split
  · exact fin_w hv hv _ _
  · exact fin_w hv (hv.setU (left_fits hv.u _)) _ _
  · exact fin_w hv hv _ _
  · exact fin_w hv (hv.setG (nextG_w _)) _ _

theorem ldA_w {n : Nat} {v : Dv} (hv : Wv v) (B : Nat → Nat) (a s : Int) : Wv (ldA n v B a s).v ∧ (¬ (ldA n v B a s).E = 0 → (ldA n v B a s).X = 0 ∧ (ldA n v B a s).v = v) := by
  unfold ldA
  split
  · split
    · exact rdA_w hv a
    · exact ⟨hv, fun _ => ⟨rfl, rfl⟩⟩
  · refine ⟨hv, fun h => ⟨?_, rfl⟩⟩
    show memX n B a s = 0
    unfold memX
    split
    next h2 => exact absurd (if_pos h2) h
    · rfl

/-- A register is read, by its bus. -/
theorem loadReg_is {w : World} {b p g n c : Nat} {v : Dv} {B : Nat → Nat} {D : Nat → Bool} (hB : Bus w b p g n c v B D) (a : Int) (a0 : 0 ≤ a) (h : a % 4 = 0) (X E : Int) (Q : Dv) (hQ : Wv Q)
    (cr : ∀ x, Calls Tryz.prog 105 #[.agg (cellsV v), .int .u32 a] x fun e w' => e = .returned (.tuple #[.int .u32 X, .agg (cellsV Q), .int .i64 E]) ∧ Below x.heap.size x w') :
    Calls Tryz.prog 65 #[.pointer (some ⟨b, 0, none⟩), .int .u32 a, .int .i64 4] w fun e w' =>
      e = .returned (.tuple #[.int .u32 (fin v X E Q).X, .int .i64 (fin v X E Q).E]) ∧ Bus w' b p g n c (fin v X E Q).v B D ∧ Kept [b] w w' := by
  by_cases hE : E = 0
  · subst hE
    rw [fin_ok]
    exact loadReg_ok hB a a0 h X Q hQ cr
  · rw [fin_no hE]
    refine (loadReg_err hB a a0 h X E Q hE cr).mono ?_
    rintro e w1 ⟨rfl, b1⟩
    exact ⟨rfl, hB.on b1, Kept.of b1⟩

theorem load_is {w : World} {b p g n c : Nat} {v : Dv} {B : Nat → Nat} {D : Nat → Bool} (hB : Bus w b p g n c v B D) (a s : Int) (a0 : 0 ≤ a) (a1 : a < 4294967296) :
    Calls Tryz.prog 31 #[.pointer (some ⟨b, 0, none⟩), .int .u32 a, .int .i64 s] w fun e w' =>
      e = .returned (.tuple #[.int .u32 (ldA n v B a s).X, .int .i64 (ldA n v B a s).E]) ∧ Bus w' b p g n c (ldA n v B a s).v B D ∧ Kept [b] w w' := by
  have hv := hB.wv
  by_cases hd : 520093696 ≤ a ∧ a < 520094720
  · have key : Calls Tryz.prog 65 #[.pointer (some ⟨b, 0, none⟩), .int .u32 a, .int .i64 s] w fun e w' =>
        e = .returned (.tuple #[.int .u32 (ldA n v B a s).X, .int .i64 (ldA n v B a s).E]) ∧ Bus w' b p g n c (ldA n v B a s).v B D ∧ Kept [b] w w' := by
      unfold ldA
      rw [if_pos hd]
      by_cases hw : s = 4 ∧ a % 4 = 0
      · rw [if_pos hw]
        obtain ⟨rfl, h4⟩ := hw
        unfold rdA
        by_cases h1 : a < 520093952
        · rw [if_pos h1]
          exact loadReg_is hB a a0 h4 _ _ _ hv (read_t v a (a - 520093696) (by omega) (by omega) (by omega) (by omega))
        · rw [if_neg h1]
          by_cases h2 : a < 520094208
          · rw [if_pos h2]
            exact loadReg_is hB a a0 h4 _ _ _ (hv.setU (left_fits hv.u _)) (read_u v hv.u a (a - 520093952) (by omega) (by omega) (by omega) (by omega))
          · rw [if_neg h2]
            by_cases h3 : a < 520094464
            · rw [if_pos h3]
              exact loadReg_is hB a a0 h4 _ _ _ hv (read_d v a (a - 520094208) (by omega) (by omega) (by omega) (by omega))
            · rw [if_neg h3]
              exact loadReg_is hB a a0 h4 _ _ _ (hv.setG (nextG_w _)) (read_g v a (a - 520094464) (by omega) (by omega) (by omega) (by omega))
      · rw [if_neg hw]
        refine (loadReg_no a s a0 hw).mono ?_
        rintro e w1 ⟨rfl, rfl⟩
        exact ⟨rfl, hB, Kept.refl _ _⟩
    refine (load_dev (R := fun X E w' => X = (ldA n v B a s).X ∧ E = (ldA n v B a s).E ∧ Bus w' b p g n c (ldA n v B a s).v B D ∧ Kept [b] w w') a s hd.1 hd.2 (key.mono ?_)).mono ?_
    · rintro e w1 ⟨rfl, h1, h2⟩
      exact ⟨_, _, rfl, rfl, rfl, h1, h2⟩
    · rintro e w1 ⟨X, E, rfl, rfl, rfl, h1, h2⟩
      exact ⟨rfl, h1, h2⟩
  · unfold ldA
    rw [if_neg hd]
    refine (load_mem hB a s a0 a1 (by omega) _ _ (memLoad hB.m a s a0 a1)).mono ?_
    rintro e w1 ⟨rfl, rfl⟩
    refine ⟨?_, hB, Kept.refl _ _⟩
    unfold memX
    by_cases h : mayI n a s
    · simp only [if_pos h]; rfl
    · simp only [if_neg h]; rfl

/-- An answer: an error, the devices, memory and its marks then. -/
structure Aft where
  E : Int
  v : Dv
  B : Nat → Nat
  D : Nat → Bool

def finW (v : Dv) (B : Nat → Nat) (D : Nat → Bool) (E : Int) (q : Dv) : Aft := if E = 0 then ⟨0, q, B, D⟩ else ⟨121, v, B, D⟩

/-- A register is written. -/
def wrA (v : Dv) (B : Nat → Nat) (D : Nat → Bool) (a m : Int) : Aft :=
  if a < 520093952 then finW v B D (Tm.formV (a - 520093696)) { v with t := Tm.writeV v.t (a - 520093696) m }
  else if a < 520094208 then finW v B D (Ua.formV (a - 520093952)) { v with u := Ua.writeV v.u (a - 520093952) m }
  else if a < 520094464 then finW v B D (Dm.formV (a - 520094208)) { v with d := Dm.writeV v.d (a - 520094208) m }
  else finW v B D (rgE (a - 520094464)) { v with g := stirG v.g m }

/-- A store. -/
def stA (n : Nat) (v : Dv) (B : Nat → Nat) (D : Nat → Bool) (a s m : Int) : Aft :=
  if 520093696 ≤ a ∧ a < 520094720 then (if s = 4 ∧ a % 4 = 0 then wrA v B D a m else ⟨121, v, B, D⟩)
  else if mayI n a s then ⟨0, v, putB B a.toNat s.toNat m.toNat, putD D (a.toNat / 256)⟩ else ⟨121, v, B, D⟩

theorem write_t_w {t : Tm.Tm} (h : Tm.Wt t) (r : Int) {m : Int} (m0 : 0 ≤ m) (m1 : m < 4294967296) : Tm.Wt (Tm.writeV t r m) := by
  unfold Tm.writeV
  repeat' split
  all_goals first | exact h | exact ⟨⟨m0, m1⟩, ⟨m0, m1⟩⟩ | exact ⟨h.e, ⟨m0, m1⟩⟩ | exact ⟨h.e, h.l⟩ | exact ⟨⟨by decide, by decide⟩, ⟨by decide, by decide⟩⟩

theorem write_u_w {u : Ua.Ua} (h : Ua.Fits u) (r m : Int) : Ua.Fits (Ua.writeV u r m) := by
  unfold Ua.writeV
  repeat' split
  · refine ⟨h.i, ?_⟩
    show (Ua.lastV (u.o ++ Ua.byteT (m % 256))).size ≤ 64
    have hz : (u.o ++ Ua.byteT (m % 256)).size ≤ 65 := by rw [ByteArray.size_append, Ua.byteT_size]; have := h.o; omega
    unfold Ua.lastV
    split
    · rw [ByteArray.size_extract]; omega
    · omega
  · exact ⟨h.i, h.o⟩
  · exact ⟨h.i, by show (0 : Nat) ≤ 64; omega⟩
  · exact ⟨by decide, by decide⟩

theorem finW_w {v q : Dv} (hv : Wv v) (hq : Wv q) (B : Nat → Nat) (D : Nat → Bool) (E : Int) : Wv (finW v B D E q).v ∧ (¬ (finW v B D E q).E = 0 → (finW v B D E q).v = v ∧ (finW v B D E q).B = B) := by
  unfold finW
  split
  · exact ⟨hq, fun h => absurd rfl h⟩
  · exact ⟨hv, fun _ => ⟨rfl, rfl⟩⟩

theorem stA_w {n : Nat} {v : Dv} (hv : Wv v) (B : Nat → Nat) (D : Nat → Bool) (a s m : Int) (m0 : 0 ≤ m) (m1 : m < 4294967296) :
    Wv (stA n v B D a s m).v ∧ (¬ (stA n v B D a s m).E = 0 → (stA n v B D a s m).v = v ∧ (stA n v B D a s m).B = B) := by
  unfold stA
  split
  · split
    · unfold wrA
      repeat' split
      · exact finW_w hv (hv.setT (write_t_w hv.t _ m0 m1)) _ _ _
      · exact finW_w hv (hv.setU (write_u_w hv.u _ _)) _ _ _
      · exact finW_w hv (hv.setD (Dm.write_w hv.d _ ⟨m0, m1⟩)) _ _ _
      · exact finW_w hv (hv.setG (stirG_w _ _)) _ _ _
    · exact ⟨hv, fun _ => ⟨rfl, rfl⟩⟩
  · split
    · exact ⟨hv, fun h => absurd rfl h⟩
    · exact ⟨hv, fun _ => ⟨rfl, rfl⟩⟩

theorem storeReg_is {w : World} {b p g n c : Nat} {v : Dv} {B : Nat → Nat} {D : Nat → Bool} (hB : Bus w b p g n c v B D) (a m : Int) (a0 : 0 ≤ a) (h : a % 4 = 0) (E : Int) (Q : Dv) (hQ : Wv Q)
    (cr : ∀ x, Calls Tryz.prog 54 #[.agg (cellsV v), .int .u32 a, .int .u32 m] x fun e w' => e = .returned (.tuple #[.agg (cellsV Q), .int .i64 E]) ∧ Below x.heap.size x w') :
    Calls Tryz.prog 23 #[.pointer (some ⟨b, 0, none⟩), .int .u32 a, .int .i64 4, .int .u32 m] w fun e w' =>
      e = .returned (.int .i64 (finW v B D E Q).E) ∧ Bus w' b p g n c (finW v B D E Q).v (finW v B D E Q).B (finW v B D E Q).D ∧ Kept [b, g] w w' := by
  unfold finW
  by_cases hE : E = 0
  · subst hE
    rw [if_pos rfl]
    refine (storeReg_ok hB a m a0 h Q hQ cr).mono ?_
    rintro e w1 ⟨rfl, h1, h2⟩
    exact ⟨rfl, h1, h2.mono (by simp)⟩
  · rw [if_neg hE]
    refine (storeReg_err hB a m a0 h E Q hE cr).mono ?_
    rintro e w1 ⟨rfl, b1⟩
    exact ⟨rfl, hB.on b1, Kept.of b1⟩

theorem memStore {w : World} {p g n c : Nat} {B : Nat → Nat} {D : Nat → Bool} (M : Mem w p g n c B D) (a s m : Int) (a0 : 0 ≤ a) (a1 : a < 4294967296) (m0 : 0 ≤ m) (m1 : m < 4294967296) :
    Calls Tryz.prog 24 #[.pointer (some ⟨p, 0, none⟩), .int .u32 a, .int .i64 s, .int .u32 m] w fun e w' => e = .returned (.int .i64 (if mayI n a s then 0 else 61)) ∧
      (Mem w' p g n c (if mayI n a s then putB B a.toNat s.toNat m.toNat else B) (if mayI n a s then putD D (a.toNat / 256) else D) ∧ w.grownBy w' (some g)) := by
  by_cases h : mayI n a s
  · obtain ⟨k, z, rfl, rfl, hm⟩ := may_nat a0 h
    obtain ⟨j, rfl⟩ : ∃ j : Nat, m = (j : Int) := ⟨m.toNat, by omega⟩
    simp only [if_pos h, Int.toNat_natCast]
    exact store_any M k z j (by omega) (by omega) hm
  · simp only [if_neg h]
    refine (store_bad M a s m a0 a1 h).mono ?_
    rintro e w1 ⟨rfl, rfl⟩
    exact ⟨rfl, M, grownBy_refl _ _⟩

theorem store_is {w : World} {b p g n c : Nat} {v : Dv} {B : Nat → Nat} {D : Nat → Bool} (hB : Bus w b p g n c v B D) (a s m : Int) (a0 : 0 ≤ a) (a1 : a < 4294967296) (m0 : 0 ≤ m) (m1 : m < 4294967296) :
    Calls Tryz.prog 7 #[.pointer (some ⟨b, 0, none⟩), .int .u32 a, .int .i64 s, .int .u32 m] w fun e w' =>
      e = .returned (.int .i64 (stA n v B D a s m).E) ∧ Bus w' b p g n c (stA n v B D a s m).v (stA n v B D a s m).B (stA n v B D a s m).D ∧ Kept [b, g] w w' := by
  have hv := hB.wv
  by_cases hd : 520093696 ≤ a ∧ a < 520094720
  · have key : Calls Tryz.prog 23 #[.pointer (some ⟨b, 0, none⟩), .int .u32 a, .int .i64 s, .int .u32 m] w fun e w' =>
        e = .returned (.int .i64 (stA n v B D a s m).E) ∧ Bus w' b p g n c (stA n v B D a s m).v (stA n v B D a s m).B (stA n v B D a s m).D ∧ Kept [b, g] w w' := by
      unfold stA
      rw [if_pos hd]
      by_cases hw : s = 4 ∧ a % 4 = 0
      · rw [if_pos hw]
        obtain ⟨rfl, h4⟩ := hw
        unfold wrA
        by_cases h1 : a < 520093952
        · rw [if_pos h1]
          exact storeReg_is hB a m a0 h4 _ _ (hv.setT (write_t_w hv.t _ m0 m1)) (write_t v a (a - 520093696) m m0 m1 (by omega) (by omega) (by omega) (by omega))
        · rw [if_neg h1]
          by_cases h2 : a < 520094208
          · rw [if_pos h2]
            exact storeReg_is hB a m a0 h4 _ _ (hv.setU (write_u_w hv.u _ _)) (write_u v hv.u a (a - 520093952) m m0 m1 (by omega) (by omega) (by omega) (by omega))
          · rw [if_neg h2]
            by_cases h3 : a < 520094464
            · rw [if_pos h3]
              exact storeReg_is hB a m a0 h4 _ _ (hv.setD (Dm.write_w hv.d _ ⟨m0, m1⟩)) (write_d v a (a - 520094208) m m0 m1 (by omega) (by omega) (by omega) (by omega))
            · rw [if_neg h3]
              exact storeReg_is hB a m a0 h4 _ _ (hv.setG (stirG_w _ _)) (write_g v a (a - 520094464) m m0 m1 (by omega) (by omega) (by omega) (by omega))
      · rw [if_neg hw]
        refine (storeReg_no a s m a0 hw).mono ?_
        rintro e w1 ⟨rfl, rfl⟩
        exact ⟨rfl, hB, Kept.refl _ _⟩
    refine (store_dev (R := fun E w' => E = (stA n v B D a s m).E ∧ Bus w' b p g n c (stA n v B D a s m).v (stA n v B D a s m).B (stA n v B D a s m).D ∧ Kept [b, g] w w') a s m hd.1 hd.2 (key.mono ?_)).mono ?_
    · rintro e w1 ⟨rfl, h1, h2⟩
      exact ⟨_, rfl, rfl, h1, h2⟩
    · rintro e w1 ⟨E, rfl, rfl, h1, h2⟩
      exact ⟨rfl, h1, h2⟩
  · unfold stA
    rw [if_neg hd]
    refine (store_mem hB a s m a0 a1 (by omega) _ (memStore hB.m a s m a0 a1 m0 m1)).mono ?_
    rintro e w1 ⟨rfl, M1, G1⟩
    by_cases h : mayI n a s
    · simp only [if_pos h] at M1 ⊢
      exact ⟨rfl, hB.mem G1 M1, Kept.grown G1 (by simp)⟩
    · simp only [if_neg h] at M1 ⊢
      exact ⟨rfl, hB.mem G1 M1, Kept.grown G1 (by simp)⟩

theorem peek_is {w : World} {b p g n c : Nat} {v : Dv} {B : Nat → Nat} {D : Nat → Bool} (hB : Bus w b p g n c v B D) (a : Int) (a0 : 0 ≤ a) (a1 : a < 4294967296) :
    Calls Tryz.prog 34 #[.pointer (some ⟨b, 0, none⟩), .int .u32 a] w fun e w' => e = .returned (.tuple #[.int .u32 (memX n B a 4), .bool (decide (mayI n a 4))]) ∧ w' = w := by
  refine (peek_any hB a _ _ (memLoad hB.m a 4 a0 a1)).mono ?_
  rintro e w1 ⟨rfl, rfl⟩
  refine ⟨?_, rfl⟩
  unfold memX
  by_cases h : mayI n a 4
  · simp only [if_pos h, decide_eq_true h]; rfl
  · simp only [if_neg h, decide_eq_false h]; rfl

/-- What an event makes of the devices, and its error. -/
def fdV (v : Dv) (k m : Int) : Dv := if k = 0 then { v with u := Ua.feedV v.u (m % 256) } else if k = 1 then { v with g := stirG v.g m } else v
def fdE (k : Int) : Int := if k = 0 then 0 else if k = 1 then 0 else 120

theorem fdV_w {v : Dv} (hv : Wv v) (k m : Int) : Wv (fdV v k m) ∧ (¬ fdE k = 0 → fdV v k m = v) := by
  unfold fdV fdE
  repeat' split
  · exact ⟨(hv.setU (feed_u hv.u _)), fun h => absurd rfl h⟩
  · exact ⟨(hv.setG (stirG_w _ _)), fun h => absurd rfl h⟩
  · exact ⟨hv, fun _ => rfl⟩

theorem feed_is {w : World} {b p g n c : Nat} {v : Dv} {B : Nat → Nat} {D : Nat → Bool} (hB : Bus w b p g n c v B D) (x k m : Int) (m0 : 0 ≤ m) (m1 : m < 4294967296) :
    Calls Tryz.prog 9 #[.pointer (some ⟨b, 0, none⟩), .agg #[.int .i64 x, .int .i64 k, .int .u32 m]] w fun e w' => e = .returned (.int .i64 (fdE k)) ∧ Bus w' b p g n c (fdV v k m) B D ∧ Kept [b] w w' := by
  have hv := hB.wv
  unfold fdV fdE
  by_cases h0 : k = 0
  · subst h0
    rw [if_pos rfl, if_pos rfl]
    exact feed_byte hB x m m0 m1 (hv.setU (feed_u hv.u _))
  · rw [if_neg h0, if_neg h0]
    by_cases h1 : k = 1
    · subst h1
      rw [if_pos rfl, if_pos rfl]
      exact feed_stir hB x m m0 m1 (hv.setG (stirG_w _ _))
    · rw [if_neg h1, if_neg h1]
      refine (feed_none x k m h0 h1).mono ?_
      rintro e w1 ⟨rfl, b1⟩
      exact ⟨rfl, hB.on b1, Kept.of b1⟩

end Go.Proofs.YtdapjpbdplhgbaaGreat
