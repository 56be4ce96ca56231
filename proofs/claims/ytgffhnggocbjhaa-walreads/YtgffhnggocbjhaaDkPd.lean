/- Layer 18: the program's disk: a copy into its row; what stays of the loose writes. -/
import Derived.Test.YtgffhnggocbjhaaDkPc
namespace Go.Proofs.Ytgffhnggocbjhaa
open Go.RowKit
set_option linter.unusedVariables false
set_option maxRecDepth 100000
set_option linter.unusedSimpArgs false

theorem strCells_len (s : ByteArray) : (Go.Lib.strCells s).length = s.size := by
  unfold Go.Lib.strCells
  rw [List.length_map, Array.length_toList]
  rfl

theorem strCells_cut (s : ByteArray) (a b : Nat) : Go.Lib.strCells (s.extract a b) = ((Go.Lib.strCells s).drop a).take (b - a) := by
  unfold Go.Lib.strCells
  rw [extract_list, List.map_take, List.map_drop]

/-- A text is copied into a row of bytes. -/
theorem own_copy {w : World} {B n g cap : Nat} {xs : List Value} (O : w.ownsRow B 5 1 (.slice (some ⟨g, 0, none⟩) n cap) n xs) (o dLen dCap : Nat) (s : ByteArray) (hle : s.size ≤ dLen) (hfit : o + s.size ≤ n) :
    ∃ y, (Builtin.copy_ #[57, 9] 3 #[.slice (some ⟨g, o, none⟩) dLen dCap, .string s]).run Try.prog w = .ok (goInt s.size) y ∧
      y.ownsRow B 5 1 (.slice (some ⟨g, 0, none⟩) n cap) n (xs.take o ++ Go.Lib.strCells s ++ xs.drop (o + s.size)) ∧ w.grownBy y (some g) ∧ y.heap.size = w.heap.size := by
  rcases O.2 with ⟨h, -⟩ | ⟨g', cap', cur, h, hB, hg, hnc, hcm, hcs, htk⟩
  · simp at h
  · simp only [Value.slice.injEq, Option.some.injEq, Addr.mk.injEq, and_true, true_and] at h
    obtain ⟨rfl, rfl⟩ := h
    rw [Nat.mul_one] at hcs htk
    have hz : cur.toList.length = cap := by rw [Array.length_toList, hcs]
    have hs1 : (Try.prog.info? 5).map (·.size) = some 1 := by kernel_rfl
    have R := Go.Lib.run_copy_row_string (P := Try.prog) w 57 9 3 5 g o dLen dCap s cur 5 Try.underlying57 hs1 hg hle (by omega)
    have hb : Go.Lib.byteCells s.data.toList = Go.Lib.strCells s := rfl
    rw [hb] at R
    have hsl := strCells_len s
    generalize Go.Lib.strCells s = b at *
    refine ⟨_, R, ⟨?_, .inr ⟨g, cap, _, rfl, hB, setRow_heap w g cur _ 5 (0, 0) hg, hnc, hcm, ?_, ?_⟩⟩, ⟨by simp, by simp, by simp, by simp, fun k hk hn => setRow_other w g k _ (by intro e; exact hn (by rw [e]))⟩, by simp⟩
    · rw [← htk]
      simp [hsl]
      omega
    · simp [hsl, hcs]
      omega
    · rw [← htk, Nat.mul_one]
      show List.take n (List.take o cur.toList ++ b ++ List.drop (o + s.size) cur.toList) = _
      apply List.ext_getElem?
      intro j
      simp only [List.getElem?_take, List.getElem?_append, List.length_append, List.length_take, List.getElem?_drop, hsl, hz]
      repeat' split
      all_goals first | rfl | omega | (congr 1; omega) | skip

/-- A piece of a sector is another one. -/
theorem cat_put : ∀ {S : List ByteArray} (hS : ∀ s ∈ S, s.size = 64) (p k : Nat) (x : ByteArray) (hp : p < S.length) (hk : k ≤ 64) (hx : x.size = 64),
    (Go.Lib.strCells (catT S)).take (64 * p) ++ Go.Lib.strCells (x.extract 0 k) ++ (Go.Lib.strCells (catT S)).drop (64 * p + k) = Go.Lib.strCells (catT (S.set p (tornT k x (S.getD p T0))))
  | [], _, p, k, x, hp, _, _ => by simp at hp
  | s :: l, hS, 0, k, x, _, hk, hx => by
    have hs : (Go.Lib.strCells s).length = 64 := by rw [strCells_len]; exact hS s (by simp)
    rw [List.set_cons_zero, catT, catT, strCells_app, strCells_app, Nat.mul_zero, List.take_zero, Nat.zero_add, List.nil_append, List.drop_append_of_le_length (by omega), ← List.append_assoc]
    congr 1
    show _ = Go.Lib.strCells (tornT k x s)
    rw [tornT, strCells_app, strCells_cut s k 64, List.take_of_length_le (by rw [List.length_drop]; omega)]
  | s :: l, hS, p + 1, k, x, hp, hk, hx => by
    have hs : (Go.Lib.strCells s).length = 64 := by rw [strCells_len]; exact hS s (by simp)
    have ih := cat_put (S := l) (fun y hy => hS y (by simp [hy])) p k x (by simpa using hp) hk hx
    rw [List.set_cons_succ, catT, catT, strCells_app, strCells_app, show 64 * (p + 1) = 64 + 64 * p by omega, List.take_append, hs, List.take_of_length_le (by omega), show 64 + 64 * p - 64 = 64 * p by omega,
      List.drop_append, hs, List.drop_eq_nil_of_le (by omega), show 64 + 64 * p + k - 64 = 64 * p + k by omega, List.nil_append, List.append_assoc, List.append_assoc, ← List.append_assoc (List.take _ _), ih]
    rfl

/-- What is sure behind the first k loose writes, of each of which so many bytes stay. -/
def settleK (f : Nat → Nat) (L : List (Nat × ByteArray)) (S : List ByteArray) : Nat → List ByteArray
  | 0 => S
  | k + 1 => (settleK f L S k).set (L.getD k (0, T0)).1 (tornT (f k) (L.getD k (0, T0)).2 ((settleK f L S k).getD (L.getD k (0, T0)).1 T0))

theorem settleK_at {f : Nat → Nat} {L : List (Nat × ByteArray)} {S : List ByteArray} {k : Nat} {p : Nat × ByteArray} (h : L[k]? = some p) :
    settleK f L S (k + 1) = (settleK f L S k).set p.1 (tornT (f k) p.2 ((settleK f L S k).getD p.1 T0)) := by
  rw [settleK, getD_some h]

theorem getD_64 {S : List ByteArray} (h : ∀ s ∈ S, s.size = 64) (n : Nat) : (S.getD n T0).size = 64 := by
  rw [List.getD_eq_getElem?_getD]
  cases e : S[n]? with
  | none => exact T0_size
  | some x => exact h x (List.mem_of_getElem? e)

theorem settleK_good {f : Nat → Nat} (hf : ∀ k, f k ≤ 64) {L : List (Nat × ByteArray)} {S : List ByteArray} (h : ∀ s ∈ S, s.size = 64) (hL : ∀ p ∈ L, p.2.size = 64) : ∀ k, k ≤ L.length → (settleK f L S k).length = S.length ∧ ∀ s ∈ settleK f L S k, s.size = 64
  | 0, _ => ⟨rfl, h⟩
  | k + 1, hk => by
    obtain ⟨e, g⟩ := settleK_good hf h hL k (by omega)
    exact ⟨by simp [settleK, e], set_64 g (tornT_size (hf k) (hL _ (getD_mem (d := (0, T0)) (show k < L.length by omega))) (getD_64 g _))⟩

theorem set_getD {α : Type} {l : List α} {n : Nat} {d : α} (h : n < l.length) : l.set n (l.getD n d) = l := by
  rw [List.getD_eq_getElem?_getD, List.getElem?_eq_getElem h]
  simp

theorem tornT_all {x o : ByteArray} (hx : x.size = 64) (ho : o.size = 64) : tornT 64 x o = x := by
  apply text_ext
  have h1 : x.data.toList.length = 64 := by rw [Array.length_toList]; exact hx
  have h2 : o.data.toList.length = 64 := by rw [Array.length_toList]; exact ho
  rw [tornT, ByteArray.data_append, Array.toList_append, extract_list, extract_list]
  simp [h1, h2, List.take_of_length_le]
theorem tornT_none {x o : ByteArray} (hx : x.size = 64) (ho : o.size = 64) : tornT 0 x o = o := by
  apply text_ext
  have h2 : o.data.toList.length = 64 := by rw [Array.length_toList]; exact ho
  rw [tornT, ByteArray.data_append, Array.toList_append, extract_list, extract_list]
  simp [h2, List.take_of_length_le]

theorem settle_flush {L : List (Nat × ByteArray)} {S : List ByteArray} (h : ∀ s ∈ S, s.size = 64) (hL : ∀ p ∈ L, p.2.size = 64) : ∀ k, k ≤ L.length → settleK (fun _ => 64) L S k = flushK L S k
  | 0, _ => rfl
  | k + 1, hk => by
    obtain ⟨e, g⟩ := settleK_good (f := fun _ => 64) (fun _ => Nat.le_refl _) h hL k (by omega)
    have hp := hL _ (getD_mem (d := (0, T0)) (show k < L.length by omega))
    rw [settleK, flushK, tornT_all hp (getD_64 g _), settle_flush h hL k (by omega)]

theorem settle_crash {c : Crs} {L : List (Nat × ByteArray)} {S : List ByteArray} (h : ∀ s ∈ S, s.size = 64) (hL : ∀ p ∈ L, p.1 < S.length ∧ p.2.size = 64) : ∀ k, k ≤ L.length → settleK (stayN c) L S k = crashK c L S k
  | 0, _ => rfl
  | k + 1, hk => by
    obtain ⟨e, g⟩ := settleK_good (f := stayN c) (stayN_le c) h (fun p hp => (hL p hp).2) k (by omega)
    obtain ⟨h1, hp⟩ := hL _ (getD_mem (d := (0, T0)) (show k < L.length by omega))
    rw [settleK, crashK, oneC, stayN, ← settle_crash h hL k (by omega)]
    split
    · rfl
    · split
      · rw [tornT_all hp (getD_64 g _)]
      · rw [tornT_none hp (getD_64 g _), set_getD (by omega)]

/-- The loop's state: the first k loose writes are done. -/
def Dk.midS (d : Dk) (f : Nat → Nat) (k : Nat) : Dk := { d with S := settleK f d.L d.S k }

/-- What a function value of the disk tells. -/
inductive IsStay : Value → (Nat → Nat) → Prop
  | whole : IsStay (.func (.func 94) #[] #[]) (fun _ => 64)
  | of (c : Crs) : IsStay (.func (.func 58) #[crashV c] #[]) (stayN c)

theorem IsStay.le {v : Value} {f : Nat → Nat} (h : IsStay v f) (k : Nat) : f k ≤ 64 := by
  cases h with
  | whole => exact Nat.le_refl _
  | of c => exact stayN_le c k

/-- A piece of a sector is another one, in the disk's row. -/
theorem PS.put {w : World} {H : Nat → Prop} {db g cap : Nat} {lv gv : Value} {d : Dk} (P : PS w H db (.slice (some ⟨g, 0, none⟩) (64 * d.S.length) cap) lv gv d) (p k : Nat) (x : ByteArray) (hp : p < d.S.length) (hk : k ≤ 64) (hx : x.size = 64) (c : Nat) :
    ∃ y, (Builtin.copy_ #[57, 9] 3 #[.slice (some ⟨g, 64 * p, none⟩) 64 c, .string (x.extract 0 k)]).run Try.prog w = .ok (goInt k) y ∧
      PS y H db (.slice (some ⟨g, 0, none⟩) (64 * d.S.length) cap) lv gv { d with S := d.S.set p (tornT k x (d.S.getD p T0)) } ∧ Turn H w y := by
  obtain ⟨g', cap', hsv, hgH, hgdb, hgl, -, -, hap⟩ := P.open
  injection hsv with e1 _ e3
  injection e1 with e1
  injection e1 with e1
  subst e1 e3
  have hxs : (x.extract 0 k).size = k := by rw [ByteArray.size_extract]; omega
  obtain ⟨y, R, O, G, hsz⟩ := own_copy P.s.1 (64 * p) 64 c (x.extract 0 k) (by omega) (by omega)
  rw [hxs] at R O
  rw [cat_put P.g.s64 p k x hp hk hx] at O
  have hg : Dk.Good { d with S := d.S.set p (tornT k x (d.S.getD p T0)) } := ⟨by simpa using P.g.s1, by simpa using P.g.s2, set_64 P.g.s64 (tornT_size hk hx (getD_64 P.g.s64 _)), fun q hq => by simpa using P.g.l64 q hq, P.g.a63⟩
  refine ⟨y, R, ⟨P.box.of_heap (G.block db P.box.2.2 (by simp; omega)), ⟨?_, P.s.2⟩, ?_, P.h, hg, P.l6, P.m6, P.v⟩, ⟨G.os, G.tape, G.output, G.size, fun j hj hn => G.block j hj (by intro e; injection e with e; subst e; exact hn hgH)⟩⟩
  · rw [show ({ d with S := d.S.set p (tornT k x (d.S.getD p T0)) } : Dk).S.length = d.S.length by simp]
    exact O
  · have hl2 := P.l.2
    refine ⟨?_, hl2⟩
    rcases P.l.1.2 with ⟨hn, h0⟩ | ⟨g2, cap2, cur2, hv, hb, hg2, rest⟩
    · exact ⟨P.l.1.1, .inl ⟨hn, h0⟩⟩
    · refine ⟨P.l.1.1, .inr ⟨g2, cap2, cur2, hv, hb, ?_, rest⟩⟩
      rw [G.block g2 (Array.getElem?_eq_some_iff.1 hg2).1 (by intro e; injection e with e; apply hap; rw [hv, e]; rfl)]
      exact hg2

end Go.Proofs.Ytgffhnggocbjhaa
