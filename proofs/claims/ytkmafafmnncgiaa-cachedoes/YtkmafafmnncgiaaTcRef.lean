/- Layer 16: the document's cache: its places; all blocks but one. -/
import Derived.Test.YtkmafafmnncgiaaTcCa
import Derived.Test.YtkmafafmnncgiaaTcBlock
import Derived.Deep.CutRange
import Derived.OwnWalk
namespace Go.Proofs.Ytkmafafmnncgiaa
open Go.RowKit
set_option linter.unusedVariables false
set_option linter.unusedSimpArgs false

/-- The cells of a block's value; of a row of blocks. -/
def vcells : Value → List Value
  | .agg c => c.toList
  | _ => []
def fcells (E : List (Blk × Value)) : List Value := E.flatMap fun p => vcells p.2

theorem fcells_app (E G : List (Blk × Value)) : fcells (E ++ G) = fcells E ++ fcells G := List.flatMap_append

theorem BlkAt.four {w : World} {F : Nat → Prop} {v : Value} {x : Blk} (h : BlkAt w F v x) : (vcells v).length = 4 ∧ (∀ u ∈ vcells v, u.oneCell' = true) ∧ (vcells v)[0]? = some (.int .u32 x.pc) := by
  obtain ⟨v1, v2, v3, rfl, h1, h2, h3, -⟩ := h
  obtain ⟨a1, c1, rfl, -⟩ := h1.shape
  obtain ⟨a2, c2, rfl, -⟩ := h2.shape
  obtain ⟨a3, c3, rfl, -⟩ := h3.shape
  refine ⟨rfl, fun u hu => ?_, rfl⟩
  simp [vcells] at hu
  rcases hu with rfl | rfl | rfl | rfl <;> rfl

theorem fcells_at {w : World} {F : Nat → Prop} : ∀ {E : List (Blk × Value)}, (∀ p ∈ E, BlkAt w F p.2 p.1) → ∀ (i : Nat) p, E[i]? = some p → ∀ j, j < 4 → (fcells E)[i * 4 + j]? = (vcells p.2)[j]?
  | [], _, i, p, h, _, _ => by simp at h
  | q :: E, hE, i, p, h, j, hj => by
    have e : fcells (q :: E) = vcells q.2 ++ fcells E := rfl
    have s := (hE q (by simp)).four.1
    rw [e]
    cases i with
    | zero =>
      simp at h
      subst h
      rw [List.getElem?_append_left (by rw [s]; omega), Nat.zero_mul, Nat.zero_add]
    | succ i =>
      rw [List.getElem?_append_right (by rw [s]; omega), s, show (i + 1) * 4 + j - 4 = i * 4 + j by omega]
      exact fcells_at (fun p hp => hE p (by simp [hp])) i p (by simpa using h) j hj

theorem infoB : ∃ i, Try.prog.info? 38 = some i ∧ i.zero = some Z4 ∧ i.size = 4 ∧ i.bytes = 80 := by
  have h : (Try.prog.info? 38).map (fun i => (i.zero, i.size, i.bytes)) = some (some Z4, 4, 80) := by kernel_rfl
  obtain ⟨i, hi, h1, h2, h3⟩ := info_parts h
  exact ⟨i, hi, h1, h2, h3⟩

/-- A row of blocks: its slice, its blocks with their values. -/
def BRow (w : World) (H : Nat → Prop) (lv : Value) (E : List (Blk × Value)) : Prop :=
  Row w H 38 4 lv E.length (fcells E) ∧ ∀ p ∈ E, BlkAt w H p.2 p.1

theorem BRow.keep {w y : World} {H : Nat → Prop} {lv : Value} {E : List (Blk × Value)} (h : BRow w H lv E) (hk : ∀ k, H k → k < w.heap.size → y.heap[k]? = w.heap[k]?) : BRow y H lv E :=
  ⟨h.1.keep hk, fun p hp => (h.2 p hp).keep hk⟩
theorem BRow.on {w y : World} {H : Nat → Prop} {lv : Value} {E : List (Blk × Value)} (h : BRow w H lv E) (hb : Below w.heap.size w y) : BRow y H lv E := h.keep fun k _ hk => hb.block k hk
theorem BRow.mono {w : World} {H G : Nat → Prop} {lv : Value} {E : List (Blk × Value)} (h : BRow w H lv E) (hG : ∀ k, H k → k < w.heap.size → G k) : BRow w G lv E :=
  ⟨h.1.mono hG, fun p hp => (h.2 p hp).mono hG⟩

/-- A block of a row. -/
theorem BRow.at' {w : World} {H : Nat → Prop} {lv : Value} {E : List (Blk × Value)} (h : BRow w H lv E) {k : Nat} {p : Blk × Value} (hp : E[k]? = some p) :
    ∃ g c u1 n1 u2 n2 u3 n3, lv = .slice (some ⟨g, 0, none⟩) E.length c ∧ E.length ≤ c ∧ g < w.heap.size ∧ p.2 = .agg #[.int .u32 p.1.pc, .slice u1 p.1.ws.length n1, .slice u2 p.1.os.length n2, .slice u3 p.1.ps.length n3] ∧
      w.cell? ⟨g, k * 4, none⟩ = some (.int .u32 p.1.pc) ∧ w.cell? ⟨g, k * 4 + 1, none⟩ = some (.slice u1 p.1.ws.length n1) ∧ w.cell? ⟨g, k * 4 + 2, none⟩ = some (.slice u2 p.1.os.length n2) ∧ w.cell? ⟨g, k * 4 + 3, none⟩ = some (.slice u3 p.1.ps.length n3) := by
  have hpE := h.2 p (List.mem_of_getElem? hp)
  obtain ⟨v1, v2, v3, hv, h1, h2, h3, -⟩ := hpE
  obtain ⟨a1, c1, rfl, -⟩ := h1.shape
  obtain ⟨a2, c2, rfl, -⟩ := h2.shape
  obtain ⟨a3, c3, rfl, -⟩ := h3.shape
  have hk := (List.getElem?_eq_some_iff.1 hp).1
  rcases h.1.1.2 with ⟨rfl, h0⟩ | ⟨g, cap, cur, rfl, -, hg, hc, hm, -⟩
  · omega
  · have cell : ∀ j, j < 4 → w.cell? ⟨g, k * 4 + j, none⟩ = (vcells p.2)[j]? := fun j hj => by
      have h4 := fcells_at h.2 k p hp j hj
      have hlt : j < (vcells p.2).length := by rw [hv]; exact hj
      rw [List.getElem?_eq_getElem hlt] at h4 ⊢
      have := h.1.1.cells (g := g) rfl _ _ h4
      rwa [Addr.add_lit, Nat.zero_add] at this
    have c0 := cell 0 (by decide)
    have c1 := cell 1 (by decide)
    have c2 := cell 2 (by decide)
    have c3 := cell 3 (by decide)
    rw [hv] at c0 c1 c2 c3
    exact ⟨g, cap, _, _, _, _, _, _, rfl, hc, (Array.getElem?_eq_some_iff.1 hg).1, hv, c0, c1, c2, c3⟩

/-- The document's cache in block rb: room r, the blocks L. -/
def RC (w : World) (H : Nat → Prop) (rb r : Nat) (L : List Blk) : Prop :=
  ∃ lv E, Box w rb #[.int .i64 r, lv] ∧ BRow w (fun k => H k ∧ k ≠ rb) lv E ∧ blks E = L ∧ H rb

theorem RC.keep {w y : World} {H : Nat → Prop} {rb r : Nat} {L : List Blk} (h : RC w H rb r L) (hk : ∀ k, H k → k < w.heap.size → y.heap[k]? = w.heap[k]?) : RC y H rb r L := by
  obtain ⟨lv, E, B, R, rfl, hr⟩ := h
  exact ⟨lv, E, B.of_heap (hk rb hr B.2.2), R.keep (fun k h => hk k h.1), rfl, hr⟩
theorem RC.on {w y : World} {H : Nat → Prop} {rb r : Nat} {L : List Blk} (h : RC w H rb r L) (hb : Below w.heap.size w y) : RC y H rb r L := h.keep fun k _ hk => hb.block k hk
theorem RC.mono {w : World} {H G : Nat → Prop} {rb r : Nat} {L : List Blk} (h : RC w H rb r L) (hG : ∀ k, H k → k < w.heap.size → G k) : RC w G rb r L := by
  obtain ⟨lv, E, B, R, rfl, hr⟩ := h
  exact ⟨lv, E, B, R.mono (fun k h hl => ⟨hG k h.1 hl, h.2⟩), rfl, hG rb hr B.2.2⟩

theorem blks_at {E : List (Blk × Value)} {k : Nat} {p : Blk × Value} (h : E[k]? = some p) : (blks E)[k]? = some p.1 := by simp [blks, h]

set_option maxHeartbeats 4000000 in
theorem rplaces_any {w : World} {H : Nat → Prop} {rb r : Nat} {L : List Blk} (h : RC w H rb r L) (hl : L.length ≤ 1000) :
    Calls Try.prog 20 #[.pointer (some ⟨rb, 0, none⟩)] w fun e w' => ∃ v', e = .returned v' ∧ Row w' (fun k => w.heap.size ≤ k) 32 1 v' L.length (ints (pcL L)) ∧ Below w.heap.size w w' := by
  obtain ⟨lv, E, B, R, hL, hr⟩ := h
  obtain ⟨i, hi, hz, hs, hb⟩ := infoW
  obtain ⟨n, hn⟩ : ∃ n, n = E.length := ⟨_, rfl⟩
  have hnL : L.length = n := by rw [← hL, blks_len, hn]
  rw [hnL] at hl ⊢
  have hsh := R.1.shape
  rw [← hn] at hsh
  obtain ⟨a, c, rfl, hc⟩ := hsh
  have g0 := grow w (.cells #[] 32)
  have O0 : Hid ((w.alloc (.cells #[] 32)).ownsRow w.heap.size 32 1 (.slice (some ⟨w.heap.size, 0, none⟩) 0 0) 0 (ints (pcs (E.take 0)))) := hide (World.ownsRow_made w #[] 0 (Nat.le_refl _) (Nat.zero_le _) rfl)
  have hP : Hid (pcL L = pcs E) := hide (by rw [← hL, pcs_blks])
  replace B := hide B
  replace R := hide R
  replace hn := hide hn
  replace g0 := hide g0
  clear hL hnL
  go_enter Try.func20, Try.ntmps20
  go_wp2_with fail
  go_loopw [3, 4] (fun v i wr => ∃ k : Nat, k ≤ n ∧ i = .int .i64 (k : Int) ∧ Hid (wr.ownsRow w.heap.size 32 1 v k (ints (pcs (E.take k)))) ∧ Hid (Below w.heap.size w wr)) (fun _ i _ => n - (intOf i).toNat)
  case atStart => exact ⟨0, Nat.zero_le _, rfl, O0, g0⟩
  case round =>
    clear O0 g0
    obtain ⟨k, hk, rfl, O, hB⟩ := hrel
    have b1 : wr.cell? ⟨rb, 1, none⟩ = some (.slice a n c) := (B.out.on hB.out).cell 1
    by_cases h : k < n
    · obtain ⟨p, hp⟩ : ∃ p, E[k]? = some p := ⟨E[k]'(by have := hn.out; omega), List.getElem?_eq_getElem _⟩
      obtain ⟨g, c', u1, n1, u2, n2, u3, n3, he, -, hg, -, q0, -⟩ := R.out.at' hp
      injection he with he1 he2 he3
      subst he1
      have q0' : wr.cell? ⟨g, k * 4, none⟩ = some (.int .u32 p.1.pc) := (hB.out.cell (p := ⟨g, k * 4, none⟩) hg).trans q0
      have ht : Hid (ints (pcs (E.take (k + 1))) = ints (pcs (E.take k)) ++ [.int .u32 p.1.pc]) := hide (by rw [List.take_add_one, hp, pcs_app, ints_app]; rfl)
      obtain ⟨X, hX⟩ : ∃ X, X = ints (pcs (E.take k)) := ⟨_, rfl⟩
      rw [← hX] at O ht
      have hsz := hB.out.size
      clear he2 he3 q0 hX hp
      go_wp2_with (at_builtin; refine wpList_append_own _ rfl _ _ 35 rfl w.heap.size 32 i _ 1 4 Try.underlying35 hi hz hs hb rfl (by decide) _ k X rfl (O.out.alloc _) ⟨wr.heap.size, 0, none⟩ 1 1 [.int .u32 p.1.pc] rfl rfl (cell_one_new _ _ _) (by simp [Value.oneCell']) (by unfold maxLen; omega) (by omega) (by simp; omega) ?_)
      intro v' w4 hown' hgrow _
      have O4 : Hid (w4.ownsRow w.heap.size 32 1 v' (k + 1) (ints (pcs (E.take (k + 1))))) := hide (by rw [ht.out]; exact hown')
      have hB4 := hide ((hB.out.alloc hsz (.cells #[.int .u32 p.1.pc] 32)).grown hgrow (by simp; omega) (fun j hj => (O.out.lt j hj).1))
      clear hown' hgrow O hB ht
      go_wp2
      go_roundw
      case rel => exact ⟨k + 1, by omega, by go_num, O4, hB4⟩
      case measure => simp [intOf]; omega
    · obtain rfl : k = n := by omega
      rw [show E.take k = E from List.take_of_length_le (by have := hn.out; omega)] at O
      go_wp2
      go_ret
      exact ⟨_, rfl, by rw [hP.out]; exact Row.of_own O.out, hB.out⟩

end Go.Proofs.Ytkmafafmnncgiaa
