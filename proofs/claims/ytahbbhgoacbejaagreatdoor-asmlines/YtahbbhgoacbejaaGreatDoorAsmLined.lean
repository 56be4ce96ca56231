/- Lines: the words of lines. -/
import Derived.Test.YtahbbhgoacbejaaGreatDoorAsmParse
import Derived.Maps.AppendAt
set_option linter.unusedVariables false
set_option linter.unusedSimpArgs false
namespace Go.Proofs.YtahbbhgoacbejaaGreatDoor
open Go.RowKit Go.Shelf Go.Joins

/-- A text, cut at each byte 10. -/
def Asm.rows (s : List UInt8) : List (List UInt8) :=
  if h : s = [] then [] else s.takeWhile (· != 10) :: Asm.rows (s.drop ((s.takeWhile (· != 10)).length + 1))
termination_by s.length
decreasing_by
  have : 0 < s.length := List.length_pos_iff.mpr h
  simp
  omega

theorem Asm.rows_nil : Asm.rows [] = [] := by rw [Asm.rows]; simp
theorem Asm.rows_cons {s : List UInt8} (h : s ≠ []) : Asm.rows s = s.takeWhile (· != 10) :: Asm.rows (s.drop ((s.takeWhile (· != 10)).length + 1)) := by rw [Asm.rows]; simp [h]

/-- A line's word. -/
def Asm.Line (x : List UInt8) (v : Int) : Prop := ∃ (op : Nat) (s t d a i : Int), op < 69 ∧ Good op s t d a i ∧ x = Asm.text op [s, t, d, a, i] ∧ v = (Dec.laid op s t d a i : Nat)

theorem Asm.Line.one {x : List UInt8} {v v' : Int} (h : Asm.Line x v) (h' : Asm.Line x v') : v = v' := by
  obtain ⟨op, s, t, d, a, i, ho, hg, hx, rfl⟩ := h
  obtain ⟨op', s', t', d', a', i', ho', hg', hx', rfl⟩ := h'
  obtain ⟨rfl, rfl, rfl, rfl, rfl, rfl⟩ := Asm.text_once ho ho' hg hg' (hx.symm.trans hx')
  rfl

/-- The words of lines; or that a line is none. -/
inductive Asm.Words : List (List UInt8) → List Int → Prop
  | nil : Asm.Words [] []
  | cons {x : List UInt8} {v : Int} {xs : List (List UInt8)} {vs : List Int} : Asm.Line x v → Asm.Words xs vs → Asm.Words (x :: xs) (v :: vs)

theorem Asm.Words.append {a b : List (List UInt8)} {u v : List Int} (h : Asm.Words a u) (h' : Asm.Words b v) : Asm.Words (a ++ b) (u ++ v) := by
  induction h with
  | nil => exact h'
  | cons hl _ ih => exact Asm.Words.cons hl ih

theorem Asm.Words.one {a : List (List UInt8)} {u v : List Int} (h : Asm.Words a u) (h' : Asm.Words a v) : u = v := by
  induction h generalizing v with
  | nil => cases h'; rfl
  | cons hl _ ih =>
    cases h' with
    | cons hl' hw' => rw [hl.one hl', ih hw']

theorem Asm.Words.length {a : List (List UInt8)} {u : List Int} (h : Asm.Words a u) : a.length = u.length := by
  induction h with
  | nil => rfl
  | cons _ _ ih => simp [ih]

theorem Asm.Words.all {a : List (List UInt8)} {u : List Int} (h : Asm.Words a u) : ∀ x ∈ a, ∃ v, Asm.Line x v := by
  induction h with
  | nil => intro x hx; cases hx
  | cons hl _ ih =>
    intro x hx
    rcases List.mem_cons.mp hx with rfl | hx
    · exact ⟨_, hl⟩
    · exact ih x hx

def Asm.Lined (s : List UInt8) (ws : List Int) (e : Int) : Prop :=
  (Asm.Words (Asm.rows s) ws ∧ e = 0) ∨ ((∃ x ∈ Asm.rows s, ∀ v, ¬ Asm.Line x v) ∧ ws = [] ∧ e = 50)

theorem Asm.Lined.one {s : List UInt8} {u v : List Int} {e f : Int} (h : Asm.Lined s u e) (h' : Asm.Lined s v f) : u = v ∧ e = f := by
  rcases h with ⟨h, rfl⟩ | ⟨⟨x, hx, hn⟩, rfl, rfl⟩
  · rcases h' with ⟨h', rfl⟩ | ⟨⟨x, hx, hn⟩, -⟩
    · exact ⟨h.one h', rfl⟩
    · obtain ⟨v, hv⟩ := h.all x hx
      exact absurd hv (hn v)
  · rcases h' with ⟨h', -⟩ | ⟨-, rfl, rfl⟩
    · obtain ⟨v, hv⟩ := h'.all x hx
      exact absurd hv (hn v)
    · exact ⟨rfl, rfl⟩

set_option maxHeartbeats 4000000 in
set_option maxRecDepth 100000 in
theorem lines_any (s : ByteArray) (hs : s.size ≤ 1000000) (w : World) (L : Lay5 w) :
    Calls Tryz.prog 12 #[.string s] w fun e' w' => (∃ ws e v, e' = .returned (.tuple #[v, .int .i64 e]) ∧ Asm.Lined s.data.toList ws e ∧ w'.ownsRow w.heap.size 36 1 v ws.length (ws.map (.int .u32 ·))) ∧ Below w.heap.size w w' := by
  have hi0 : (Tryz.prog.info? 36).map (fun i => (i.zero, i.size, i.bytes)) = some (some (.int .u32 0), 1, 4) := by kernel_rfl
  obtain ⟨i0, hi, hz0, hz1, hz2⟩ := info_parts hi0
  go_enter Tryz.func12, Tryz.ntmps12
  go_wp2_with fail
  go_loopw [0, 4] (fun a v wr => ∃ (rest : List UInt8) (don : List (List UInt8)) (ws : List Int), a = .string ⟨rest.toArray⟩ ∧ Hid (Asm.rows s.data.toList = don ++ Asm.rows rest) ∧ Hid (Asm.Words don ws) ∧ don.length + rest.length ≤ s.size ∧
      Hid (wr.ownsRow w.heap.size 36 1 v ws.length (ws.map (.int .u32 ·))) ∧ Hid (Below w.heap.size w wr) ∧ Lay5 wr) (fun a _ _ => Asm.len a)
  case atStart => exact ⟨s.data.toList, [], [], rfl, hide rfl, hide .nil, by simp, hide (World.ownsRow_nil _ _ _ _), hide (Below.refl _ _), L⟩
  case round =>
    obtain ⟨rest, don, ws, rfl, hrows, hwords, hlen, hown, hb, Lr⟩ := hrel
    match rest, hrows, hlen with
    | [], hrows, hlen =>
      go_wp2_with fail
      go_ret2
      refine ⟨⟨ws, 0, _, rfl, Or.inl ⟨?_, rfl⟩, hown.out⟩, hb.out⟩
      have := hrows.out
      rw [Asm.rows_nil, List.append_nil] at this
      rw [this]
      exact hwords.out
    | c :: r, hrows, hlen =>
      have hC := fun W => cut_any ⟨(c :: r).toArray⟩ 10 (show (c :: r).length ≤ 140737488355328 by omega) W
      have hcons := Asm.rows_cons (s := c :: r) (by simp)
      obtain ⟨ln, hln⟩ : ∃ l, (c :: r).takeWhile (· != 10) = l := ⟨_, rfl⟩
      obtain ⟨nx, hnx⟩ : ∃ l, (c :: r).drop (ln.length + 1) = l := ⟨_, rfl⟩
      obtain ⟨fd, hfd⟩ : ∃ f, (c :: r).contains 10 = f := ⟨_, rfl⟩
      have hC2 : ∀ W, Calls Tryz.prog 21 #[.string ⟨(c :: r).toArray⟩, .string ⟨#[10]⟩] W fun e w' => e = .returned (.tuple #[.string ⟨ln.toArray⟩, .string ⟨nx.toArray⟩, .bool fd]) ∧ Below W.heap.size W w' := by
        rw [← hfd, ← hnx, ← hln]
        exact hC
      rw [hln, hnx] at hcons
      have hll : ln.length ≤ (c :: r).length := by rw [← hln]; exact (List.takeWhile_prefix _).length_le
      have hnl : nx.length + 1 ≤ (c :: r).length := by rw [← hnx]; simp
      obtain ⟨o, a0, a1, a2, a3, a4, e, hgot, hP⟩ := parse_any ⟨ln.toArray⟩ (show ln.length ≤ 140737488355328 by omega)
      have hrows2 : Hid (Asm.rows s.data.toList = don ++ ln :: Asm.rows nx) := hide (by rw [← hcons]; exact hrows.out)
      clear hC hfd hln hnx hcons hrows
      go_wp2_with fail
      refine (hC2 _).mono ?_
      rintro e1 w1 ⟨rfl, h1⟩
      have L1 := Lr.on h1
      have b1 := onto hb.out h1
      have hown1 := hown.out.kept (grown_of h1) (by cases hv : Value.ownBlock u4 <;> simp)
      clear hC2 Lr hb h1 hown
      go_wp2_with fail
      refine (hP _ L1).mono ?_
      rintro e2 w2 ⟨rfl, h2⟩
      have g2 := grow w2 (.cells #[.int .i64 o, .int .i64 a0, .int .i64 a1, .int .i64 a2, .int .i64 a3, .int .i64 a4] 23)
      have c2 := cell6 w2 23 (.int .i64 o) (.int .i64 a0) (.int .i64 a1) (.int .i64 a2) (.int .i64 a3) (.int .i64 a4)
      obtain ⟨k0, k1, k2, k3, k4, k5⟩ := c2
      have L2 := (L1.on h2).on g2
      have b2 := onto (onto b1 h2) g2
      have hown2 := (hown1.kept (grown_of h2) (by cases hv : Value.ownBlock u4 <;> simp)).kept (grown_of g2) (by cases hv : Value.ownBlock u4 <;> simp)
      clear hP L1 b1 h2 hown1 g2
      replace hown2 := hide hown2
      replace b2 := hide b2
      rcases hgot with ⟨op, ho, rfl, hg, hx, rfl⟩ | ⟨hno, rfl, rfl, rfl, rfl, rfl, rfl, rfl⟩
      · obtain ⟨v, e, hw, hE⟩ := encode_any (op : Int) a0 a1 a2 a3 a4
        obtain ⟨rfl, rfl⟩ : v = (Dec.laid op a0 a1 a2 a3 a4 : Nat) ∧ e = 0 := by
          rcases hw with ⟨op', ho', he, hg', rfl, rfl⟩ | ⟨hn, -⟩
          · obtain rfl : op = op' := by omega
            exact ⟨rfl, rfl⟩
          · exact absurd hg (hn op ho rfl)
        have hline : Hid (Asm.Line ln (Dec.laid op a0 a1 a2 a3 a4 : Nat)) := hide ⟨op, a0, a1, a2, a3, a4, ho, hg, hx, rfl⟩
        clear hx hg hw
        generalize ((Dec.laid op a0 a1 a2 a3 a4 : Nat) : Int) = v at *
        go_wp2_with fail
        refine (hE _ L2.tabs).mono ?_
        rintro e3 w3 ⟨rfl, h3⟩
        have L3 := L2.on h3
        have b3 := onto b2.out h3
        have hown3 := hown2.out.kept (grown_of h3) (by cases hv : Value.ownBlock u4 <;> simp)
        clear hE L2 b2 h3 hown2 k0 k1 k2 k3 k4 k5
        have hwl := hwords.out.length
        go_wp2_with (at_builtin; refine wpList_append_own _ rfl _ _ 32 rfl w.heap.size 36 i0 (.int .u32 0) 1 4 Tryz.underlying32 hi hz0 hz1 hz2 rfl (by decide) _ _ _ rfl (hown3.alloc _) ⟨w3.heap.size, 0, none⟩ 1 1 [.int .u32 v] rfl rfl (cell_one_new _ _ _) (by simp [Value.oneCell']) (by unfold maxLen; simp at hlen; omega) (by simp at hlen; omega) (by have := b3.size; simp; omega) ?_)
        intro v' w4 hown' hgrow _
        have b4 : Below w.heap.size w w4 := by
          refine (b3.alloc b3.size _).grown hgrow (by have := b3.size; simp; omega) (fun k hk => ?_)
          rcases hown3.2 with ⟨rfl, -⟩ | ⟨g, cap, cur, rfl, hg, -⟩
          · cases hk
          · cases hk; exact hg
        have L4 := L.on b4
        obtain ⟨g', cap', rfl⟩ := ownsRow_succ hown'
        have hown4 : Hid (w4.ownsRow w.heap.size 36 1 (.slice (some ⟨g', 0, none⟩) (ws.length + 1) cap') (ws ++ [v]).length ((ws ++ [v]).map (.int .u32 ·))) := hide (by
          rw [List.map_append, List.length_append]
          exact hown')
        have hw4 : Hid (Asm.Words (don ++ [ln]) (ws ++ [v])) := hide (hwords.out.append (.cons hline.out .nil))
        have hr4 : Hid (Asm.rows s.data.toList = (don ++ [ln]) ++ Asm.rows nx) := hide (by rw [hrows2.out]; simp)
        have hl4 : (don ++ [ln]).length + nx.length ≤ s.size := by simp at hlen hnl ⊢; omega
        replace b4 := hide b4
        clear hown' hgrow hown3 b3 L3 hrows2 hwords hline hwl hlen
        go_wp2
        go_roundw
        case rel => exact ⟨nx, _, _, rfl, hr4, hw4, hl4, hown4, b4, L4⟩
        case measure => exact hnl
      · have hbad : Hid (∃ x ∈ Asm.rows s.data.toList, ∀ v, ¬ Asm.Line x v) := hide (by
          refine ⟨ln, by rw [hrows2.out]; simp, fun v hv => ?_⟩
          obtain ⟨op, s', t, d, a, i, ho, hg, hx, -⟩ := hv
          exact hno op s' t d a i ho hg hx)
        clear hno
        go_wp2_with fail
        go_ret2
        exact ⟨⟨[], 50, _, rfl, Or.inr ⟨hbad.out, rfl, rfl⟩, World.ownsRow_nil _ _ _ _⟩, b2.out⟩

end Go.Proofs.YtahbbhgoacbejaaGreatDoor
