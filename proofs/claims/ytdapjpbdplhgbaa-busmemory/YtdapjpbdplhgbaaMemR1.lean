/- The document's memory: where it lies, New, may, Load. -/
import Derived.Test.YtdapjpbdplhgbaaMemW7
namespace Go.Proofs.Ytdapjpbdplhgbaa
open Go.RowKit
set_option linter.unusedVariables false
set_option maxRecDepth 100000
set_option linter.unusedSimpArgs false

/-- In block p lies the document's memory: its bytes in block gb, its marks in block gd. -/
structure RMem (w : World) (p gb gd n : Nat) (B : Nat → Nat) (D : Nat → Bool) : Prop where
  zp : p < w.heap.size
  zb : gb < w.heap.size
  zd : gd < w.heap.size
  n1 : p ≠ gb
  n2 : p ≠ gd
  n3 : gb ≠ gd
  n4 : 4 ≤ n
  n64 : n ≤ 64
  hb : w.cell? ⟨p, 0, none⟩ = some (.slice (some ⟨gb, 0, none⟩) (256 * n) (256 * n))
  hd : w.cell? ⟨p, 1, none⟩ = some (.slice (some ⟨gd, 0, none⟩) n n)
  by' : ∀ j, j < 256 * n → w.cell? ⟨gb, j, none⟩ = some (.int .u8 ((B j : Nat) : Int))
  di : ∀ k, k < n → w.cell? ⟨gd, k, none⟩ = some (.bool (D k))
  fp : ∀ o, w.frozen? ⟨p, o, none⟩ = false
  fb : ∀ o, w.frozen? ⟨gb, o, none⟩ = false
  fd : ∀ o, w.frozen? ⟨gd, o, none⟩ = false
  lt : ∀ j, B j < 256

theorem RMem.keep {w w' : World} {p gb gd n : Nat} {B : Nat → Nat} {D : Nat → Bool} (h : RMem w p gb gd n B D) (hs : w.heap.size ≤ w'.heap.size)
    (hp : w'.heap[p]? = w.heap[p]?) (hb : w'.heap[gb]? = w.heap[gb]?) (hd : w'.heap[gd]? = w.heap[gd]?) : RMem w' p gb gd n B D :=
  ⟨Nat.lt_of_lt_of_le h.zp hs, Nat.lt_of_lt_of_le h.zb hs, Nat.lt_of_lt_of_le h.zd hs, h.n1, h.n2, h.n3, h.n4, h.n64,
    (World.cell?_of_block (a := ⟨p, 0, none⟩) hp).trans h.hb, (World.cell?_of_block (a := ⟨p, 1, none⟩) hp).trans h.hd,
    fun j hj => (World.cell?_of_block (a := ⟨gb, j, none⟩) hb).trans (h.by' j hj), fun k hk => (World.cell?_of_block (a := ⟨gd, k, none⟩) hd).trans (h.di k hk),
    fun o => (World.frozen?_of_block (a := ⟨p, o, none⟩) hp).trans (h.fp o), fun o => (World.frozen?_of_block (a := ⟨gb, o, none⟩) hb).trans (h.fb o),
    fun o => (World.frozen?_of_block (a := ⟨gd, o, none⟩) hd).trans (h.fd o), h.lt⟩

theorem RMem.on {w w' : World} {p gb gd n : Nat} {B : Nat → Nat} {D : Nat → Bool} (h : RMem w p gb gd n B D) (hb : Below w.heap.size w w') : RMem w' p gb gd n B D :=
  h.keep hb.size (hb.block p h.zp) (hb.block gb h.zb) (hb.block gd h.zd)

theorem RMem.far {w w' : World} {p gb gd n r : Nat} {B : Nat → Nat} {D : Nat → Bool} (h : RMem w p gb gd n B D) (hb : w.grownBy w' (some r)) (hp : p ≠ r) (h1 : gb ≠ r) (h2 : gd ≠ r) : RMem w' p gb gd n B D :=
  h.keep hb.size (hb.block p h.zp (by simpa using hp)) (hb.block gb h.zb (by simpa using h1)) (hb.block gd h.zd (by simpa using h2))

theorem made_flat {z : Value} {m o : Nat} (h : o < m) : (madeCells #[z] m)[o]? = some z := by
  unfold madeCells
  rw [Array.getElem?_map, Array.getElem?_range, if_pos h]
  simp [Nat.mod_one]

theorem heap_in {x : World} {b : Nat} {o : Obj} (h : x.heap[b]? = some o) : b < x.heap.size := (Array.getElem?_eq_some_iff.1 h).1

theorem rmem_made {x : World} {p gb gd n : Nat} (h4 : 4 ≤ n) (h64 : n ≤ 64) (n1 : p ≠ gb) (n2 : p ≠ gd) (n3 : gb ≠ gd) (t : TypeId)
    (hp : x.heap[p]? = some (.cells #[.slice (some ⟨gb, 0, none⟩) (256 * n) (256 * n), .slice (some ⟨gd, 0, none⟩) n n] t (0, 0)))
    (hb : x.heap[gb]? = some (.cells (madeCells #[.int .u8 0] (256 * n)) 5 (0, 0))) (hd : x.heap[gd]? = some (.cells (madeCells #[.bool false] n) 4 (0, 0))) :
    RMem x p gb gd n (fun _ => 0) (fun _ => false) := by
  refine ⟨heap_in hp, heap_in hb, heap_in hd, n1, n2, n3, h4, h64, ?_, ?_, ?_, ?_, ?_, ?_, ?_, fun _ => by decide⟩
  · simp [World.cell?, hp]
  · simp [World.cell?, hp]
  · intro j hj
    simp only [World.cell?, hb]
    rw [made_flat hj]
    rfl
  · intro k hk
    simp only [World.cell?, hd]
    rw [made_flat hk]
    rfl
  · intro o; simp [World.frozen?, hp]
  · intro o; simp [World.frozen?, hb]
  · intro o; simp [World.frozen?, hd]

theorem heap3 (w : World) (a b c : Obj) : ((((w.alloc a).alloc b).alloc c).drew).heap[w.heap.size]? = some a ∧ ((((w.alloc a).alloc b).alloc c).drew).heap[w.heap.size + 1]? = some b ∧ ((((w.alloc a).alloc b).alloc c).drew).heap[w.heap.size + 1 + 1]? = some c := by
  refine ⟨?_, ?_, ?_⟩
  · show (((w.alloc a).alloc b).alloc c).heap[w.heap.size]? = some a
    rw [Below.heap_alloc _ _ _ (by simp; omega), Below.heap_alloc _ _ _ (by simp), heap_alloc_new]
  · show (((w.alloc a).alloc b).alloc c).heap[w.heap.size + 1]? = some b
    rw [Below.heap_alloc _ _ _ (by simp), show w.heap.size + 1 = (w.alloc a).heap.size by simp, heap_alloc_new]
  · show (((w.alloc a).alloc b).alloc c).heap[w.heap.size + 1 + 1]? = some c
    rw [show w.heap.size + 1 + 1 = ((w.alloc a).alloc b).heap.size by simp, heap_alloc_new]

theorem below3 (w : World) (a b c : Obj) : Below w.heap.size w (((w.alloc a).alloc b).alloc c).drew :=
  ((((Below.refl _ w).alloc (Nat.le_refl _) _).alloc (by simp) _).alloc (by simp; omega) _).drew

theorem rmake_b (n : Nat) (h : n ≤ 64) (w : World) : (Instr.makeSlice 60 (.int .i64 (256 * (n : Int))) (.int .i64 (256 * (n : Int)))).run Try.prog w
    = .ok (.slice (some ⟨w.heap.size, 0, none⟩) (256 * n) (256 * n)) (w.alloc (.cells (madeCells #[.int .u8 0] (256 * n)) 5)) := by
  have hi0 : (Try.prog.info? 5).map (fun i => (i.zero, i.size, i.bytes)) = some (some (.int .u8 0), 1, 1) := by kernel_rfl
  obtain ⟨i0, hi, hz0, hz1, hz2⟩ := info_parts hi0
  have := run_make (P := Try.prog) w 60 5 i0 (.int .u8 0) Try.underlying60 hi hz0 .i64 .i64 (256 * (n : Int)) (256 * (n : Int)) (by omega) (by omega) (by rw [hz2]; omega) (by omega)
  rw [hz1, show (256 * (n : Int)).toNat = 256 * n by omega, Nat.mul_one] at this
  exact this

theorem rmake_d (n : Nat) (h : n ≤ 64) (w : World) : (Instr.makeSlice 109 (.int .i64 (n : Int)) (.int .i64 (n : Int))).run Try.prog w
    = .ok (.slice (some ⟨w.heap.size, 0, none⟩) n n) (w.alloc (.cells (madeCells #[.bool false] n) 4)) := by
  have hi0 : (Try.prog.info? 4).map (fun i => (i.zero, i.size, i.bytes)) = some (some (.bool false), 1, 1) := by kernel_rfl
  obtain ⟨i0, hi, hz0, hz1, hz2⟩ := info_parts hi0
  have := run_make (P := Try.prog) w 109 4 i0 (.bool false) Try.underlying109 hi hz0 .i64 .i64 (n : Int) (n : Int) (by omega) (by omega) (by rw [hz2]; omega) (by omega)
  rw [hz1, Int.toNat_natCast, Nat.mul_one] at this
  exact this

theorem rnew_bad (n : Int) (h : ¬ (4 ≤ n ∧ n ≤ 64)) (w : World) :
    Calls Try.prog 25 #[.int .i64 n] w fun e w' => e = .returned (.tuple #[.pointer none, .int .i64 60]) ∧ w' = w := by
  by_cases h1 : n < 4
  · go_enter Try.func25, Try.ntmps25
    go_wp2
    go_ret2
    exact ⟨rfl, rfl⟩
  · have h2 : 64 < n := by omega
    go_enter Try.func25, Try.ntmps25
    go_wp2
    go_ret2
    exact ⟨rfl, rfl⟩

set_option maxHeartbeats 1000000 in
set_option maxRecDepth 100000 in
theorem rnew_any (n : Nat) (h4 : 4 ≤ n) (h64 : n ≤ 64) (w : World) :
    Calls Try.prog 25 #[.int .i64 (n : Int)] w fun e w' => ∃ p gb gd, e = .returned (.tuple #[.pointer (some ⟨p, 0, none⟩), .int .i64 0]) ∧ RMem w' p gb gd n (fun _ => 0) (fun _ => false) ∧ w.heap.size ≤ p ∧ w.heap.size ≤ gb ∧ w.heap.size ≤ gd ∧ Below w.heap.size w w' := by
  have mb := rmake_b n h64
  have md := rmake_d n h64
  go_enter Try.func25, Try.ntmps25
  go_wp2
  go_region
  · go_wp2
    go_ret2
    obtain ⟨a1, a2, a3⟩ := heap3 w (.cells (madeCells #[.int .u8 0] (256 * n)) 5) (.cells (madeCells #[.bool false] n) 4) (.cells #[.slice (some ⟨w.heap.size, 0, none⟩) (256 * n) (256 * n), .slice (some ⟨w.heap.size + 1, 0, none⟩) n n] 111)
    exact ⟨_, w.heap.size, w.heap.size + 1, rfl, rmem_made h4 h64 (by omega) (by omega) (by omega) 111 a3 a1 a2, by omega, by omega, by omega, below3 _ _ _ _⟩
  · go_wp2
    go_ret2
    obtain ⟨a1, a2, a3⟩ := heap3 w (.cells (madeCells #[.bool false] n) 4) (.cells (madeCells #[.int .u8 0] (256 * n)) 5) (.cells #[.slice (some ⟨w.heap.size + 1, 0, none⟩) (256 * n) (256 * n), .slice (some ⟨w.heap.size, 0, none⟩) n n] 111)
    exact ⟨_, w.heap.size + 1, w.heap.size, rfl, rmem_made h4 h64 (by omega) (by omega) (by omega) 111 a3 a2 a1, by omega, by omega, by omega, below3 _ _ _ _⟩

theorem rtext {w : World} {p gb gd n : Nat} {B : Nat → Nat} {D : Nat → Bool} (R : RMem w p gb gd n B D) :
    (convert 60 9 (.slice (some ⟨gb, 0, none⟩) (256 * n) (256 * n))).run Try.prog w = .ok (.string (textOf (256 * n) B)) w := by
  refine run_convert_bytes_arg w 60 5 Try.underlying60 Try.underlying5 gb 0 (256 * n) (256 * n) _ (by rw [List.length_map, List.length_range]) ?_ 9 Try.underlying9
  intro i hi
  have := R.by' i hi
  rw [Nat.zero_add, this, List.getD_eq_getElem?_getD, List.getElem?_map, List.getElem?_range hi]
  rfl

end Go.Proofs.Ytdapjpbdplhgbaa
