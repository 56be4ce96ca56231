/- Contracts of the program's Image and Clone. -/
import Derived.Test.YtdapjpbdplhgbaaMemW5
import Derived.Shelf.SlicesE.Clone
namespace Go.Proofs.Ytdapjpbdplhgbaa
open Go.RowKit
set_option linter.unusedVariables false
set_option maxRecDepth 100000
set_option linter.unusedSimpArgs false

theorem bytesAt_add (a b : Nat) (f : Nat → Nat) : bytesAt (a + b) f = bytesAt a f ++ bytesAt b (fun j => f (a + j)) := by
  unfold bytesAt
  rw [List.range_add, List.map_append, List.map_map]
  rfl

/-- A row of bytes of the call's own, as a text. -/
theorem own_text {w : World} {base n : Nat} {v : Value} {f : Nat → Nat} (O : w.ownsRow base 5 1 v n (bytesAt n f)) (h0 : 0 < n) :
    (convert 60 9 v).run Try.prog w = .ok (.string (textOf n f)) w := by
  have hc := O.2
  rcases hc with ⟨-, rfl⟩ | ⟨g, cap, cur, rfl, -⟩
  · omega
  · refine run_convert_bytes_arg w 60 5 Try.underlying60 Try.underlying5 g 0 n cap _ (by rw [List.length_map, List.length_range]) ?_ 9 Try.underlying9
    intro i hi
    have := O.cells (g := g) rfl i _ (bytesAt_at n f i hi)
    rw [Addr.add_lit] at this
    rw [this, List.getD_eq_getElem?_getD, List.getElem?_map, List.getElem?_range hi]
    rfl

set_option maxHeartbeats 1000000 in
set_option maxRecDepth 100000 in
theorem image_any {w : World} {p g n c : Nat} {B : Nat → Nat} {D : Nat → Bool} (M : Mem w p g n c B D) :
    Calls Try.prog 19 #[.pointer (some ⟨p, 0, none⟩)] w fun e w' => e = .returned (.string (textOf (256 * n) B)) ∧ Below w.heap.size w w' := by
  have hd := M.hd
  have n64 := M.n64
  have n4 := M.n4
  have nc := M.nc
  have hi0 : (Try.prog.info? 5).map (fun i => (i.zero, i.size, i.bytes)) = some (some (.int .u8 0), 1, 1) := by kernel_rfl
  obtain ⟨i0, hi, hz0, hz1, hz2⟩ := info_parts hi0
  obtain ⟨w1, hmk, hown, hgr⟩ := run_make_own (P := Try.prog) w w.heap.size 60 5 i0 (.int .u8 0) 1 Try.underlying60 hi hz0 hz1 .i64 .i64 (n * 256) (by rw [hz2]; omega) (by unfold maxLen; omega) (Nat.le_refl _)
  rw [show ((n * 256 : Nat) : Int) = (n : Int) * 256 by omega] at hmk
  have b1 : Below w.heap.size w w1 := (Below.refl _ w).grown hgr (Nat.le_refl _) (fun k hk => by cases hk)
  have M1 := M.on b1
  have hd1 := M1.hd
  have O1 := hide hown
  have b1 := hide b1
  clear hown hgr M1
  obtain ⟨T, hT⟩ : ∃ T, Hid (T = textOf (256 * n) B) := ⟨_, hide rfl⟩
  rw [← hT.out]
  go_enter Try.func19, Try.ntmps19
  go_wp2
  go_loopw [3, 17] (fun v i wr => ∃ k : Nat, k ≤ n ∧ i = .int .i64 k ∧ Hid (wr.ownsRow w.heap.size 5 1 v (256 * k) (bytesAt (256 * k) B)) ∧ Hid (Below w.heap.size w wr)) (fun _ i _ => n - (intOf i).toNat)
  case atStart => exact ⟨0, by omega, rfl, O1, b1⟩
  case round =>
    clear hd hmk O1 b1 hd1
    obtain ⟨k, hk, rfl, O, G⟩ := hrel
    by_cases h : k < n
    · have Mr := M.on G.out
      have hd := Mr.hd
      have hsl := page_all wr g (k * 257)
      have HN : Hid (∀ j u, (bytesAt 256 (fun j => B (256 * k + j)))[j]? = some u → wr.cell? ((⟨g, k * 257, none⟩ : Addr).add j) = some u) := hide (by
        intro j u hj
        have hjs : j < 256 := by
          have := (List.getElem?_eq_some_iff.1 hj).1
          rwa [bytesAt_len] at this
        rw [bytesAt_at _ _ _ hjs] at hj
        rw [Addr.add_lit, ← hj, show k * 257 + j = 256 * k + j + (256 * k + j) / 256 by omega]
        exact Mr.by' _ (by omega))
      have HA := hide (bytesAt_add (256 * k) 256 B)
      have H1 := hide (bytesAt_one 256 (fun j => B (256 * k + j)))
      have HL := hide (bytesAt_len 256 (fun j => B (256 * k + j)))
      have hsz := G.out.size
      obtain ⟨L, hL⟩ : ∃ L, L = bytesAt 256 (fun j => B (256 * k + j)) := ⟨_, rfl⟩
      rw [← hL] at HN HA H1 HL
      clear hL Mr
      go_wp2_with (at_builtin; refine wpList_append_own _ rfl _ _ 60 rfl w.heap.size 5 i0 (.int .u8 0) 1 1 Try.underlying60 hi hz0 hz1 hz2 rfl (by decide) _ _ _ rfl O.out ⟨g, k * 257, none⟩ 256 256 L rfl HL.out HN.out H1.out (by unfold maxLen; omega) (by omega) (by omega) ?_)
      intro v' w4 hown' hgrow _
      have b4 : Below w.heap.size w w4 := by
        refine G.out.grown hgrow (by omega) (fun k hk => ?_)
        rcases O.out.2 with ⟨rfl, -⟩ | ⟨g, cap, cur, rfl, hg, -⟩
        · cases hk
        · cases hk; exact hg
      have O4 : Hid (w4.ownsRow w.heap.size 5 1 v' (256 * (k + 1)) (bytesAt (256 * (k + 1)) B)) := hide (by
        rw [show 256 * (k + 1) = 256 * k + 256 by omega, HA.out]
        exact hown')
      have b4 := hide b4
      clear hown' hgrow O G HN HA H1 HL
      go_wp2
      go_roundw
      case rel => exact ⟨k + 1, by omega, by go_num, O4, b4⟩
      case measure => simp [intOf]; omega
    · have : k = n := by omega
      subst this
      have ht := own_text O.out (by omega)
      rw [← hT.out] at ht
      clear hT O
      go_wp2
      go_ret
      exact ⟨rfl, G.out⟩

/-- All cells of a memory's pages. -/
def pageCells (n : Nat) (B : Nat → Nat) (D : Nat → Bool) : List Value := (List.range (n * 257)).map fun o => if o % 257 = 256 then .bool (D (o / 257)) else .int .u8 ((B (256 * (o / 257) + o % 257) : Nat) : Int)

theorem pageCells_len (n : Nat) (B : Nat → Nat) (D : Nat → Bool) : (pageCells n B D).length = n * 257 := by
  unfold pageCells
  rw [List.length_map, List.length_range]

theorem pageCells_at (n : Nat) (B : Nat → Nat) (D : Nat → Bool) (o : Nat) (h : o < n * 257) :
    (pageCells n B D)[o]? = some (if o % 257 = 256 then .bool (D (o / 257)) else .int .u8 ((B (256 * (o / 257) + o % 257) : Nat) : Int)) := by
  unfold pageCells
  rw [List.getElem?_map, List.getElem?_range h]
  rfl

theorem pageCells_one (n : Nat) (B : Nat → Nat) (D : Nat → Bool) : ∀ v ∈ pageCells n B D, v.oneCell' = true := by
  intro v hv
  unfold pageCells at hv
  rw [List.mem_map] at hv
  obtain ⟨o, -, rfl⟩ := hv
  split <;> rfl

theorem Mem.all {w : World} {p g n c : Nat} {B : Nat → Nat} {D : Nat → Bool} (M : Mem w p g n c B D) (j : Nat) (u : Value) (h : (pageCells n B D)[j]? = some u) : w.cell? ⟨g, 0 + j, none⟩ = some u := by
  have hj : j < n * 257 := by
    have := (List.getElem?_eq_some_iff.1 h).1
    rwa [pageCells_len] at this
  rw [pageCells_at n B D j hj] at h
  rw [← h, Nat.zero_add]
  by_cases e : j % 257 = 256
  · rw [if_pos e]
    have := M.di (j / 257) (by omega)
    rwa [show 257 * (j / 257) + 256 = j by omega] at this
  · rw [if_neg e]
    have := M.by' (256 * (j / 257) + j % 257) (by omega)
    rwa [show 256 * (j / 257) + j % 257 + (256 * (j / 257) + j % 257) / 256 = j by omega] at this

/-- What is a row of the call's own of such cells, and a pointer to it, is a memory. -/
theorem Mem.of_own {w x : World} {base n c g : Nat} {B : Nat → Nat} {D : Nat → Bool} {v : Value} (O : x.ownsRow base 98 257 v n (pageCells n B D)) (h4 : 4 ≤ n) (h64 : n ≤ 64) (hlt : ∀ j, B j < 256) (hb : base ≤ x.heap.size) (t : TypeId) :
    ∃ g c, base ≤ g ∧ v = .slice (some ⟨g, 0, none⟩) n c ∧ Mem (x.alloc (.cells #[v] t)) x.heap.size g n c B D := by
  have hc := O.2
  rcases hc with ⟨-, rfl⟩ | ⟨g, cap, cur, rfl, hbg, hg, hnc, -⟩
  · omega
  · have hgl : g < x.heap.size := by
      by_cases h : g < x.heap.size
      · exact h
      · rw [Array.getElem?_eq_none (by omega)] at hg; cases hg
    have hne : ∀ o, (⟨g, o, none⟩ : Addr).block ≠ x.heap.size := fun o => by show g ≠ _; omega
    refine ⟨g, cap, hbg, rfl, by simp, by simp; omega, by omega, h4, h64, hnc, by rw [World.cell?_alloc_new]; rfl, ?_, ?_, ?_, hlt⟩
    · intro j hj
      rw [World.cell?_alloc_old _ _ _ (hne _)]
      have := O.cells (g := g) rfl (j + j / 256) _ (pageCells_at n B D (j + j / 256) (by omega))
      rw [Addr.add_lit, Nat.zero_add, if_neg (by omega), show 256 * ((j + j / 256) / 257) + (j + j / 256) % 257 = j by omega] at this
      exact this
    · intro k hk
      rw [World.cell?_alloc_old _ _ _ (hne _)]
      have := O.cells (g := g) rfl (257 * k + 256) _ (pageCells_at n B D (257 * k + 256) (by omega))
      rw [Addr.add_lit, Nat.zero_add, if_pos (by omega), show (257 * k + 256) / 257 = k by omega] at this
      exact this
    · intro o
      rw [World.frozen?_alloc_old _ _ _ (hne _)]
      simp [World.frozen?, hg]

end Go.Proofs.Ytdapjpbdplhgbaa
