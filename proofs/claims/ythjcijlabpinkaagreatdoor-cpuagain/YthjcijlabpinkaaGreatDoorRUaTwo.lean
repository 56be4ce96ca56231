/- Layer 10: contracts of counted bytes that are taken, the program's. -/
import Derived.Test.YthjcijlabpinkaaGreatDoorRUaAll
import Derived.Shelf.Pu.Clone
import Derived.Deep.RegionHeld3
import Derived.Test.YthjcijlabpinkaaGreatDoorRUaText
import Derived.WalkMore
import Derived.ScopeJumps
import Derived.Test.YthjcijlabpinkaaGreatDoorRUaRText
namespace Go.Proofs.YthjcijlabpinkaaGreatDoor.Ua
open Go.RowKit
set_option linter.unusedVariables false
set_option maxRecDepth 100000
set_option linter.unusedSimpArgs false

def ren : Go.Shelf.Ren := ⟨fun | 25 => 238 | n => n, fun | 37 => 56 | 47 => 284 | n => n, fun n => n⟩

theorem lays25 : LaysPu.n25 Tryz.prog ren :=
  { mixed := by kernel_rfl, f25 := by kernel_rfl,
    t0 := by kernel_rfl, a0 := fun _ => by kernel_rfl, z0 := fun _ => by kernel_rfl, v0 := fun _ => by kernel_rfl, i0 := by kernel_rfl,
    t3 := by kernel_rfl, a3 := fun _ => by kernel_rfl, z3 := fun _ => by kernel_rfl, v3 := fun _ => by kernel_rfl, i3 := by kernel_rfl,
    t4 := by kernel_rfl, a4 := fun _ => by kernel_rfl, z4 := fun _ => by kernel_rfl, v4 := fun _ => by kernel_rfl, i4 := by kernel_rfl,
    t5 := by kernel_rfl, a5 := fun _ => by kernel_rfl, z5 := fun _ => by kernel_rfl, v5 := fun _ => by kernel_rfl, i5 := by kernel_rfl,
    t9 := by kernel_rfl, a9 := fun _ => by kernel_rfl, z9 := fun _ => by kernel_rfl, v9 := fun _ => by kernel_rfl, i9 := by kernel_rfl,
    t37 := by kernel_rfl, a37 := fun _ => by kernel_rfl, z37 := fun _ => by kernel_rfl, v37 := fun _ => by kernel_rfl, i37 := by kernel_rfl,
    t47 := by kernel_rfl, a47 := fun _ => by kernel_rfl, z47 := fun _ => by kernel_rfl, v47 := fun _ => by kernel_rfl, i47 := by kernel_rfl }

theorem slClone_any (s : ByteArray) (w : World) (hlim : s.size ≤ 281474976710656) :
    Calls Tryz.prog 238 #[.string s] w fun e w' => e = .returned (.string s) ∧ Below w.heap.size w w' :=
  AnyPu.stringslite_Clone lays25 s w hlim

theorem clone_any (s : ByteArray) (w : World) (hlim : s.size ≤ 281474976710656) :
    Calls Tryz.prog 188 #[.string s] w fun e w' => e = .returned (.string s) ∧ Below w.heap.size w w' := by
  go_enter Tryz.func188, Tryz.ntmps188
  go_wp2_with fail
  refine (slClone_any s w hlim).mono ?_
  rintro e w' ⟨rfl, hb⟩
  go_wp2
  go_ret
  exact ⟨rfl, hb⟩

def May (s : ByteArray) (m : Nat) : Prop := 0 < s.size ∧ byteN s 0 ≤ m ∧ 1 + byteN s 0 ≤ s.size

def headT (s : ByteArray) : ByteArray := (s.extract 1 s.size).extract 0 (byteN s 0)
def tailT (s : ByteArray) : ByteArray := (s.extract 1 s.size).extract (byteN s 0) (s.size - 1)

set_option maxHeartbeats 1000000 in
theorem taken_no {s : ByteArray} {m : Nat} (hs : s.size ≤ maxLen) (hm : m ≤ 1000) (h : ¬ May s m) (w : World) :
    Calls Tryz.prog 239 #[.string s, .int .i64 m] w fun e w' => e = .returned (.tuple #[.string ⟨#[]⟩, .string ⟨#[]⟩, .bool false]) ∧ Below w.heap.size w w' := by
  unfold maxLen at hs
  have he := empty_iff s
  by_cases hz : s.size = 0
  · have hd : s.toList.isEmpty = true := by rw [he]; simpa using hz
    clear he
    go_enter Tryz.func239, Tryz.ntmps239
    go_wp2
    exact bodyPost_ret (v := .tuple #[.string ⟨#[]⟩, .string ⟨#[]⟩, .bool false]) (by simp [results, Tryz.results239, go_sem]) rfl ⟨rfl, Below.refl _ _⟩
  · have hd : s.toList.isEmpty = false := by rw [he]; simpa using hz
    clear he
    have hb : byteN s 0 = (s[0]'(by omega)).toNat := byteN_in s 0 (by omega)
    have hlt : (s[0]'(by omega)).toNat < 256 := (s[0]'(by omega)).toNat_lt
    have hx : (s.extract 1 s.size).size = s.size - 1 := by rw [ByteArray.size_extract]; omega
    by_cases h1 : m < (s[0]'(by omega)).toNat
    · go_enter Tryz.func239, Tryz.ntmps239
      go_wp2
      exact bodyPost_ret (v := .tuple #[.string ⟨#[]⟩, .string ⟨#[]⟩, .bool false]) (by simp [results, Tryz.results239, go_sem]) rfl ⟨rfl, Below.refl _ _⟩
    · have h2 : s.size - 1 < (s[0]'(by omega)).toNat := by
        apply Nat.lt_of_not_le
        intro hc
        exact h ⟨by omega, by omega, by omega⟩
      go_enter Tryz.func239, Tryz.ntmps239
      go_wp2
      exact bodyPost_ret (v := .tuple #[.string ⟨#[]⟩, .string ⟨#[]⟩, .bool false]) (by simp [results, Tryz.results239, go_sem]) rfl ⟨rfl, Below.refl _ _⟩

set_option maxHeartbeats 1000000 in
theorem taken_yes {s : ByteArray} {m : Nat} (hs : s.size ≤ maxLen) (hm : m ≤ 1000) (h : May s m) (w : World) :
    Calls Tryz.prog 239 #[.string s, .int .i64 m] w fun e w' => e = .returned (.tuple #[.string (headT s), .string (tailT s), .bool true]) ∧ Below w.heap.size w w' := by
  obtain ⟨hz, hn, hl⟩ := h
  have hb : byteN s 0 = (s[0]'(by omega)).toNat := byteN_in s 0 (by omega)
  unfold headT tailT
  rw [hb] at hn hl ⊢
  have hd : s.toList.isEmpty = false := by rw [empty_iff s]; simpa using (show ¬ s.size = 0 by omega)
  have hlt : (s[0]'(by omega)).toNat < 256 := (s[0]'(by omega)).toNat_lt
  have hx : (s.extract 1 s.size).size = s.size - 1 := by rw [ByteArray.size_extract]; omega
  have hle : (s[0]'(by omega)).toNat ≤ s.size - 1 := by omega
  have h1 : ¬ m < (s[0]'(by omega)).toNat := by omega
  have h2 : ¬ s.size - 1 < (s[0]'(by omega)).toNat := by omega
  have hc : ((s.extract 1 s.size).extract 0 (s[0]'(by omega)).toNat).size ≤ 281474976710656 := by rw [ByteArray.size_extract]; omega
  have c := hide fun W => clone_any ((s.extract 1 s.size).extract 0 (s[0]'(by omega)).toNat) W hc
  unfold maxLen at hs
  clear hb hn hl hc
  go_enter Tryz.func239, Tryz.ntmps239
  go_wp2_with fail
  go_region_held3 (fun x => Below w.heap.size w x) (first | exact (Below.refl _ w).drew | assumption | exact onto (by assumption) (Nat.le_refl _) (by assumption)) (first | (go_at_call 188; refine (c.out _).mono ?_; rintro e w' ⟨rfl, hn⟩))
  all_goals
    go_wp2
    exact bodyPost_ret (v := .tuple #[.string ((s.extract 1 s.size).extract 0 (s[0]'(by omega)).toNat), .string ((s.extract 1 s.size).extract (s[0]'(by omega)).toNat (s.size - 1)), .bool true]) (by simp [results, Tryz.results239, go_sem]) rfl ⟨rfl, by assumption⟩

end Go.Proofs.YthjcijlabpinkaaGreatDoor.Ua

/- Layer 10: a uart's bytes, and the uart of bytes, there and back. -/
namespace Go.Proofs.YthjcijlabpinkaaGreatDoor.Ua
open Go.RowKit
set_option linter.unusedVariables false
set_option maxRecDepth 100000

def lst (s : ByteArray) : List UInt8 := s.data.toList

theorem lst_ext {a b : ByteArray} (h : lst a = lst b) : a = b := by
  apply ByteArray.ext
  exact Array.toList_inj.1 h

theorem lst_append (a b : ByteArray) : lst (a ++ b) = lst a ++ lst b := by
  unfold lst
  simp

theorem lst_extract (s : ByteArray) (a b : Nat) : lst (s.extract a b) = ((lst s).drop a).take (b - a) := by
  unfold lst
  simp [ByteArray.data_extract]

theorem lst_length (s : ByteArray) : (lst s).length = s.size := by
  unfold lst
  simp

theorem byteN_lst (s : ByteArray) (k : Nat) : byteN s k = ((lst s).map UInt8.toNat).getD k 0 := rfl

theorem lst_byteT (n : Nat) : lst (byteT n) = [UInt8.ofNat n] := rfl

theorem byteT_cons (s : ByteArray) (h : 0 < s.size) : byteT (byteN s 0) ++ s.extract 1 s.size = s := by
  apply lst_ext
  rw [lst_append, lst_extract, lst_byteT, byteN_lst]
  have hl := lst_length s
  cases e : lst s with
  | nil => rw [e] at hl; simp at hl; omega
  | cons a l =>
    rw [e] at hl
    simp at hl
    simp
    rw [List.take_of_length_le (by omega)]

theorem tail_of (n : Nat) (t : ByteArray) : (byteT n ++ t).extract 1 (byteT n ++ t).size = t := by
  apply lst_ext
  rw [lst_extract, lst_append, lst_byteT, ByteArray.size_append, byteT_size]
  have hl := lst_length t
  simp
  rw [List.take_of_length_le (by omega)]

theorem head_of (n : Nat) (h : n < 256) (t : ByteArray) : byteN (byteT n ++ t) 0 = n := by
  rw [byteN_lst, lst_append, lst_byteT]
  simp
  omega

theorem cat_size (n : Nat) (t : ByteArray) : (byteT n ++ t).size = 1 + t.size := by rw [ByteArray.size_append, byteT_size]

theorem take_count (a t : ByteArray) (m : Nat) (hm : m < 256) (h : a.size ≤ m) : May (countV a ++ t) m ∧ headT (countV a ++ t) = a ∧ tailT (countV a ++ t) = t := by
  unfold countV
  rw [ByteArray.append_assoc]
  have hx := tail_of a.size (a ++ t)
  have hh := head_of a.size (by omega) (a ++ t)
  have hz := cat_size a.size (a ++ t)
  have ha := ByteArray.size_append (a := a) (b := t)
  refine ⟨⟨by omega, by omega, by omega⟩, ?_, ?_⟩
  · unfold headT
    rw [hx, hh]
    apply lst_ext
    rw [lst_extract, lst_append, ← lst_length a]
    simp
  · unfold tailT
    rw [hx, hh, hz]
    apply lst_ext
    have hl := lst_length a
    have hl2 := lst_length t
    rw [lst_extract, lst_append, ← lst_length a]
    simp
    rw [List.take_of_length_le (by omega)]

theorem count_take {s : ByteArray} {m : Nat} (h : May s m) : s = countV (headT s) ++ tailT s ∧ (headT s).size = byteN s 0 ∧ (tailT s).size + byteN s 0 + 1 = s.size := by
  obtain ⟨h0, h1, h2⟩ := h
  have hz : (s.extract 1 s.size).size = s.size - 1 := by rw [ByteArray.size_extract]; omega
  have hs : (headT s).size = byteN s 0 := by
    unfold headT
    rw [ByteArray.size_extract, hz]
    omega
  have ht : (tailT s).size + byteN s 0 + 1 = s.size := by
    unfold tailT
    rw [ByteArray.size_extract, hz]
    omega
  refine ⟨?_, hs, ht⟩
  unfold countV
  rw [hs, ByteArray.append_assoc]
  have hc : headT s ++ tailT s = s.extract 1 s.size := by
    unfold headT tailT
    apply lst_ext
    rw [← hz]
    generalize s.extract 1 s.size = r
    have hl := lst_length r
    rw [lst_append, lst_extract, lst_extract]
    simp only [List.drop_zero, Nat.sub_zero]
    rw [List.take_of_length_le (l := List.drop _ _) (by simp; omega), List.take_append_drop]
  rw [hc, byteT_cons s h0]

def Good (s : ByteArray) : Prop := 0 < s.size ∧ byteN s 0 ≤ 1 ∧ May (s.extract 1 s.size) 16 ∧ May (tailT (s.extract 1 s.size)) 64 ∧ (tailT (tailT (s.extract 1 s.size))).size = 0

def uaOf (s : ByteArray) : Ua := ⟨headT (s.extract 1 s.size), headT (tailT (s.extract 1 s.size)), (byteN s 0 : Int) == 1⟩

theorem no_bytes {s : ByteArray} (h : s.size = 0) : s = ByteArray.empty := ByteArray.size_eq_zero_iff.1 h

theorem one_nat (b : Bool) : ∃ n : Nat, one b = (n : Int) ∧ n ≤ 1 ∧ ((n : Int) == 1) = b := by
  cases b
  · exact ⟨0, rfl, by decide, rfl⟩
  · exact ⟨1, rfl, by decide, rfl⟩

theorem good_text {s : ByteArray} (h : Good s) : Fits (uaOf s) ∧ textV (uaOf s) = s := by
  obtain ⟨h0, h1, h2, h3, h4⟩ := h
  obtain ⟨e1, z1, -⟩ := count_take h2
  obtain ⟨e2, z2, -⟩ := count_take h3
  rw [no_bytes h4] at e2
  refine ⟨⟨?_, ?_⟩, ?_⟩
  · show (headT (s.extract 1 s.size)).size ≤ 16
    rw [z1]
    exact h2.2.1
  · show (headT (tailT (s.extract 1 s.size))).size ≤ 64
    rw [z2]
    exact h3.2.1
  · unfold textV uaOf
    simp only
    have hb : one ((byteN s 0 : Int) == 1) = (byteN s 0 : Int) := by
      rcases (show byteN s 0 = 0 ∨ byteN s 0 = 1 by omega) with h | h <;> rw [h] <;> rfl
    rw [hb]
    rw [ByteArray.append_empty] at e2
    rw [ByteArray.append_assoc, ← e2, ← e1, byteT_cons s h0]

theorem text_good {u : Ua} (hu : Fits u) : Good (textV u) ∧ uaOf (textV u) = u ∧ (textV u).size = 3 + u.i.size + u.o.size := by
  obtain ⟨n, e, hn, hb⟩ := one_nat u.n
  have ht : textV u = byteT n ++ (countV u.i ++ countV u.o) := by
    unfold textV
    rw [e, ByteArray.append_assoc]
  have hx := tail_of n (countV u.i ++ countV u.o)
  have hh := head_of n (by omega) (countV u.i ++ countV u.o)
  have hz := cat_size n (countV u.i ++ countV u.o)
  obtain ⟨m1, d1, l1⟩ := take_count u.i (countV u.o) 16 (by decide) hu.i
  have hempty : countV u.o ++ ByteArray.empty = countV u.o := ByteArray.append_empty
  obtain ⟨m2, d2, l2⟩ := take_count u.o ByteArray.empty 64 (by decide) hu.o
  rw [hempty] at m2 d2 l2
  rw [ht]
  unfold Good uaOf
  rw [hx, hh, l1, d1, d2, l2]
  refine ⟨⟨by omega, hn, m1, m2, rfl⟩, ?_, ?_⟩
  · rw [hb]
  · rw [hz, ByteArray.size_append]
    unfold countV
    rw [cat_size, cat_size]
    omega

def cand (s : ByteArray) (n : Nat) : Ua := ⟨s.extract 2 (2 + n), s.extract (3 + n) s.size, (byteN s 0 : Int) == 1⟩

theorem cand_of {u : Ua} (hu : Fits u) : cand (textV u) u.i.size = u := by
  obtain ⟨n, e, hn, hb⟩ := one_nat u.n
  have ht : textV u = byteT n ++ (countV u.i ++ countV u.o) := by
    unfold textV
    rw [e, ByteArray.append_assoc]
  have hh := head_of n (by omega) (countV u.i ++ countV u.o)
  have hz := (text_good hu).2.2
  have h3 : (cand (textV u) u.i.size).n = u.n := by
    show ((byteN (textV u) 0 : Int) == 1) = u.n
    rw [ht, hh, hb]
  have hl1 := lst_length u.i
  have hl2 := lst_length u.o
  have hL : lst (textV u) = UInt8.ofNat n :: UInt8.ofNat u.i.size :: (lst u.i ++ UInt8.ofNat u.o.size :: lst u.o) := by
    rw [ht, lst_append, lst_append, lst_byteT]
    unfold countV
    rw [lst_append, lst_append, lst_byteT, lst_byteT]
    simp
  have h1 : (cand (textV u) u.i.size).i = u.i := by
    apply lst_ext
    show lst ((textV u).extract 2 (2 + u.i.size)) = _
    rw [lst_extract, hL, show 2 + u.i.size - 2 = (lst u.i).length by omega]
    simp
  have h2 : (cand (textV u) u.i.size).o = u.o := by
    apply lst_ext
    show lst ((textV u).extract (3 + u.i.size) (textV u).size) = _
    rw [lst_extract, hL, hz, show 3 + u.i.size = (lst u.i).length + 1 + 2 by omega]
    simp
    rw [List.take_of_length_le (by omega)]
  obtain ⟨i, o, n⟩ := u
  simp only at h1 h2 h3
  generalize cand (textV ⟨i, o, n⟩) i.size = c at *
  obtain ⟨ci, co, cn⟩ := c
  simp only at h1 h2 h3
  rw [h1, h2, h3]

end Go.Proofs.YthjcijlabpinkaaGreatDoor.Ua

/- Layer 10: contracts of the uart of bytes, the program's. -/
namespace Go.Proofs.YthjcijlabpinkaaGreatDoor.Ua
open Go.RowKit
set_option linter.unusedVariables false
set_option maxRecDepth 100000
set_option linter.unusedSimpArgs false

theorem tail_size (s : ByteArray) : (tailT s).size ≤ s.size := by
  unfold tailT
  rw [ByteArray.size_extract, ByteArray.size_extract]
  omega

theorem Rat.farCell {w : World} {b : Nat} {r : Ua} (h : Rat w b r) (g i : Nat) (v : Value) (hg : ¬ b = g) : Rat (w.setCell ⟨g, i, none⟩ v) b r :=
  ⟨by rw [isRow_setCell]; exact h.1, by rw [rowAt_of (Below.heap_setCell w _ v b (by show b ≠ g; exact hg))]; exact h.2.1, by rw [World.size_setCell]; exact h.2.2⟩

theorem Rat.putI {w : World} {b : Nat} {r : Ua} (h : Rat w b r) (x : ByteArray) : Rat (w.setCell ⟨b, 0, none⟩ (.string x)) b { r with i := x } :=
  ⟨by rw [isRow_setCell]; exact h.1, by rw [rowAt_setCell, h.2.1]; rfl, by rw [World.size_setCell]; exact h.2.2⟩

theorem Rat.putO {w : World} {b : Nat} {r : Ua} (h : Rat w b r) (x : ByteArray) : Rat (w.setCell ⟨b, 1, none⟩ (.string x)) b { r with o := x } :=
  ⟨by rw [isRow_setCell]; exact h.1, by rw [rowAt_setCell, h.2.1]; rfl, by rw [World.size_setCell]; exact h.2.2⟩

theorem Rat.open_ {w : World} {b : Nat} {r : Ua} (h : Rat w b r) : w.cell? ⟨b, 0, none⟩ = some (.string r.i) ∧ w.cell? ⟨b, 1, none⟩ = some (.string r.o) ∧ w.frozen? ⟨b, 0, none⟩ = false ∧ w.frozen? ⟨b, 1, none⟩ = false :=
  ⟨h.cell 0, h.cell 1, frozen_rowAt w b 0 h.1, frozen_rowAt w b 1 h.1⟩

theorem jump_ret {l : Nat} {J : Act → World → Prop} {Q : Exit → Act → World → Prop} {a : Act} {w : World} : Exit.jump l J Q .ret a w = Q .ret a w := rfl

theorem pair_on {w x y : World} {r : Ua} (h : Rat x w.heap.size U0 ∧ Rat x (w.heap.size + 1) r ∧ Below w.heap.size w x) (hb : Below x.heap.size x y) :
    Rat y w.heap.size U0 ∧ Rat y (w.heap.size + 1) r ∧ Below w.heap.size w y := ⟨h.1.on hb, h.2.1.on hb, onto h.2.2 (Nat.le_refl _) hb⟩

theorem pair_i {w x : World} {r : Ua} (h : Rat x w.heap.size U0 ∧ Rat x (w.heap.size + 1) r ∧ Below w.heap.size w x) (s : ByteArray) :
    Rat (x.setCell ⟨w.heap.size + 1, 0, none⟩ (.string s)) w.heap.size U0 ∧ Rat (x.setCell ⟨w.heap.size + 1, 0, none⟩ (.string s)) (w.heap.size + 1) { r with i := s } ∧ Below w.heap.size w (x.setCell ⟨w.heap.size + 1, 0, none⟩ (.string s)) :=
  ⟨h.1.farCell _ _ _ (by omega), h.2.1.putI s, h.2.2.setCell (by show w.heap.size ≤ w.heap.size + 1; omega) _⟩

theorem pair_o {w x : World} {r : Ua} (h : Rat x w.heap.size U0 ∧ Rat x (w.heap.size + 1) r ∧ Below w.heap.size w x) (s : ByteArray) :
    Rat (x.setCell ⟨w.heap.size + 1, 1, none⟩ (.string s)) w.heap.size U0 ∧ Rat (x.setCell ⟨w.heap.size + 1, 1, none⟩ (.string s)) (w.heap.size + 1) { r with o := s } ∧ Below w.heap.size w (x.setCell ⟨w.heap.size + 1, 1, none⟩ (.string s)) :=
  ⟨h.1.farCell _ _ _ (by omega), h.2.1.putO s, h.2.2.setCell (by show w.heap.size ≤ w.heap.size + 1; omega) _⟩

theorem pair_new (w : World) (r : Ua) : Rat ((w.alloc (.cells (cellsU U0) 64)).alloc (.cells (cellsU r) 64)) w.heap.size U0 ∧
    Rat ((w.alloc (.cells (cellsU U0) 64)).alloc (.cells (cellsU r) 64)) (w.heap.size + 1) r ∧
    Below w.heap.size w ((w.alloc (.cells (cellsU U0) 64)).alloc (.cells (cellsU r) 64)) := by
  refine ⟨(Rat.new w U0 _).on (grow _ _), ?_, (grow _ _).alloc (by simp) _⟩
  have h := Rat.new (w.alloc (.cells (cellsU U0) 64)) r 64
  rw [show (w.alloc (.cells (cellsU U0) 64)).heap.size = w.heap.size + 1 by simp] at h
  exact h

set_option maxRecDepth 100000 in
set_option maxHeartbeats 2000000 in
theorem parse_no {s : ByteArray} (hl : s.size ≤ maxLen) (hg : ¬ Good s) (w : World) :
    Calls Tryz.prog 189 #[.string s] w fun e w' => e = .returned (.tuple #[.agg (cellsU U0), .int .i64 100]) ∧ Below w.heap.size w w' := by
  obtain ⟨t1, t2, t3, t4, t5, t6, t7, t8, t9⟩ := uaRules
  obtain ⟨p0, p1, p2⟩ := uaParts
  obtain ⟨s0, s1, s2⟩ := uaSets
  obtain ⟨d1, d2, d3⟩ := uaDrew
  have he := empty_iff s
  replace he := hide he
  replace hg := hide hg
  replace hl := hide hl
  go_enter Tryz.func189, Tryz.ntmps189
  go_wp2
  refine wp_scope_jumps 0 (fun a' w' => (∃ u0 u1 u3 u4 u5 u6 u7 u8 u9 u10 u11 u12 u13 u14 u15 u16 u17 u18 u19 u20 u21 u22 u23 u24 u25 u26 u27 u28 u29 u30 u31 u32 u33 u34 u35 u36 u37 u38 u39 u40 u41 : Value, a' = { tmps := #[u0, u1, .pointer (some ⟨w.heap.size, 0, none⟩), u3, u4, u5, u6, u7, u8, u9, u10, u11, u12, u13, u14, u15, u16, u17, u18, u19, u20, u21, u22, u23, u24, u25, u26, u27, u28, u29, u30, u31, u32, u33, u34, u35, u36, u37, u38, u39, u40, u41], defers := [] }) ∧ Rat w' w.heap.size U0 ∧ Below w.heap.size w w') (fun _ _ => 0) rfl ?_ ?_
  case refine_2 =>
    rintro a' w' ⟨⟨u0, u1, u3, u4, u5, u6, u7, u8, u9, u10, u11, u12, u13, u14, u15, u16, u17, u18, u19, u20, u21, u22, u23, u24, u25, u26, u27, u28, u29, u30, u31, u32, u33, u34, u35, u36, u37, u38, u39, u40, u41, rfl⟩, R, B⟩
    have x1 := R.1
    have x2 := R.2.1
    clear hg hl he
    replace R := hide R
    replace B := hide B
    go_wp2
    rw [jump_ret]
    exact bodyPost_ret (v := .tuple #[.agg (cellsU U0), .int .i64 100]) (by simp [results, Tryz.results189, go_sem, t1, t9, x1]) rfl ⟨rfl, below_setRow B.out (Nat.le_refl _) _⟩
  case refine_1 =>
    have P0 := hide fun r => pair_new w r
    by_cases hz : s.size = 0
    · have hd : s.toList.isEmpty = true := by rw [he.out]; simpa using hz
      clear he hg hl
      go_wp2
      go_step3
      exact ⟨rfl, ⟨_, _, _, _, _, _, _, _, _, _, _, _, _, _, _, _, _, _, _, _, _, _, _, _, _, _, _, _, _, _, _, _, _, _, _, _, _, _, _, _, _, rfl⟩, (P0.out _).1, (P0.out _).2.2⟩
    · have hd : s.toList.isEmpty = false := by rw [he.out]; simpa using hz
      have hb : byteN s 0 = (s[0]'(by omega)).toNat := byteN_in s 0 (by omega)
      have hlt : (s[0]'(by omega)).toNat < 256 := (s[0]'(by omega)).toNat_lt
      clear he
      by_cases h1 : 1 < (s[0]'(by omega)).toNat
      · clear hg
        replace hl := hl.out
        unfold maxLen at hl
        go_wp2
        go_step3
        exact ⟨rfl, ⟨_, _, _, _, _, _, _, _, _, _, _, _, _, _, _, _, _, _, _, _, _, _, _, _, _, _, _, _, _, _, _, _, _, _, _, _, _, _, _, _, _, rfl⟩, (P0.out _).1, (P0.out _).2.2⟩
      · have hr : (s.extract 1 s.size).size ≤ maxLen := by rw [ByteArray.size_extract]; have := hl.out; omega
        by_cases m1 : May (s.extract 1 s.size) 16
        · have c1 := hide fun W => taken_yes hr (by decide) m1 W
          have hr2 : (tailT (s.extract 1 s.size)).size ≤ maxLen := Nat.le_trans (tail_size _) hr
          by_cases m2 : May (tailT (s.extract 1 s.size)) 64
          · have c2 := hide fun W => taken_yes hr2 (by decide) m2 W
            have hne : ¬ (tailT (tailT (s.extract 1 s.size))).size = 0 := fun h => hg.out ⟨by omega, by omega, m1, m2, h⟩
            have hd2 : (tailT (tailT (s.extract 1 s.size))).toList.isEmpty = false := by rw [empty_iff]; simpa using hne
            clear hg m1 m2 hr hr2 hb hne
            replace hl := hl.out
            unfold maxLen at hl
            generalize headT (tailT (s.extract 1 s.size)) = o at *
            generalize tailT (tailT (s.extract 1 s.size)) = z at *
            generalize headT (s.extract 1 s.size) = i at *
            generalize tailT (s.extract 1 s.size) = t at *
            go_wp2_with fail
            refine (c1.out _).mono ?_
            rintro e w1 ⟨rfl, b1⟩
            have P1 := pair_on (P0.out _) b1
            obtain ⟨x1, x2, x3, x4⟩ := P1.2.1.open_
            replace P1 := hide P1
            clear b1
            go_wp2_with fail
            have P2 := pair_i P1.out i
            clear x1 x2 x3 x4
            obtain ⟨x1, x2, x3, x4⟩ := P2.2.1.open_
            generalize w1.setCell ⟨w.heap.size + 1, 0, none⟩ (.string i) = v1 at *
            clear P1
            refine (c2.out _).mono ?_
            rintro e w2 ⟨rfl, b2⟩
            have P3 := pair_on P2 b2
            clear x1 x2 x3 x4 P2 b2
            obtain ⟨x1, x2, x3, x4⟩ := P3.2.1.open_
            replace P3 := hide P3
            go_wp2
            have P4 := pair_o P3.out o
            go_step3
            exact ⟨rfl, ⟨_, _, _, _, _, _, _, _, _, _, _, _, _, _, _, _, _, _, _, _, _, _, _, _, _, _, _, _, _, _, _, _, _, _, _, _, _, _, _, _, _, rfl⟩, P4.1, P4.2.2⟩
          · have c2 := hide fun W => taken_no hr2 (m := 64) (by decide) m2 W
            clear hg m1 m2 hr hr2 hb
            replace hl := hl.out
            unfold maxLen at hl
            generalize headT (s.extract 1 s.size) = i at *
            generalize tailT (s.extract 1 s.size) = t at *
            go_wp2_with fail
            refine (c1.out _).mono ?_
            rintro e w1 ⟨rfl, b1⟩
            have P1 := pair_on (P0.out _) b1
            obtain ⟨x1, x2, x3, x4⟩ := P1.2.1.open_
            replace P1 := hide P1
            clear b1
            go_wp2_with fail
            have P2 := pair_i P1.out i
            clear x1 x2 x3 x4
            generalize w1.setCell ⟨w.heap.size + 1, 0, none⟩ (.string i) = v1 at *
            clear P1
            refine (c2.out _).mono ?_
            rintro e w2 ⟨rfl, b2⟩
            have P3 := pair_on P2 b2
            clear P2 b2
            obtain ⟨x1, x2, x3, x4⟩ := P3.2.1.open_
            replace P3 := hide P3
            go_wp2
            have P4 := pair_o P3.out ⟨#[]⟩
            go_step3
            exact ⟨rfl, ⟨_, _, _, _, _, _, _, _, _, _, _, _, _, _, _, _, _, _, _, _, _, _, _, _, _, _, _, _, _, _, _, _, _, _, _, _, _, _, _, _, _, rfl⟩, P4.1, P4.2.2⟩
        · have c1 := hide fun W => taken_no hr (m := 16) (by decide) m1 W
          clear hg m1
          replace hl := hl.out
          unfold maxLen at hl
          clear hr
          go_wp2_with fail
          refine (c1.out _).mono ?_
          rintro e w1 ⟨rfl, b1⟩
          have P1 := pair_on (P0.out _) b1
          obtain ⟨x1, x2, x3, x4⟩ := P1.2.1.open_
          replace P1 := hide P1
          clear b1
          go_wp2
          have P2 := pair_i P1.out ⟨#[]⟩
          go_step3
          exact ⟨rfl, ⟨_, _, _, _, _, _, _, _, _, _, _, _, _, _, _, _, _, _, _, _, _, _, _, _, _, _, _, _, _, _, _, _, _, _, _, _, _, _, _, _, _, rfl⟩, P2.1, P2.2.2⟩

end Go.Proofs.YthjcijlabpinkaaGreatDoor.Ua

/- Layer 10: contracts of the uart of bytes, the program's (a uart's bytes) and the document's. -/
namespace Go.Proofs.YthjcijlabpinkaaGreatDoor.Ua
open Go.RowKit
set_option linter.unusedVariables false
set_option maxRecDepth 100000
set_option linter.unusedSimpArgs false

set_option maxRecDepth 100000 in
set_option maxHeartbeats 2000000 in
theorem parse_yes {s : ByteArray} (hl : s.size ≤ maxLen) (hg : Good s) (w : World) :
    Calls Tryz.prog 189 #[.string s] w fun e w' => e = .returned (.tuple #[.agg (cellsU (uaOf s)), .int .i64 0]) ∧ Below w.heap.size w w' := by
  obtain ⟨t1, t2, t3, t4, t5, t6, t7, t8, t9⟩ := uaRules
  obtain ⟨p0, p1, p2⟩ := uaParts
  obtain ⟨s0, s1, s2⟩ := uaSets
  obtain ⟨d1, d2, d3⟩ := uaDrew
  obtain ⟨hz, h1, m1, m2, h4⟩ := hg
  have hd : s.toList.isEmpty = false := by rw [empty_iff]; simpa using (show ¬ s.size = 0 by omega)
  have hb : byteN s 0 = (s[0]'(by omega)).toNat := byteN_in s 0 (by omega)
  have hlt : (s[0]'(by omega)).toNat < 256 := (s[0]'(by omega)).toNat_lt
  have hd2 : (tailT (tailT (s.extract 1 s.size))).toList.isEmpty = true := by rw [empty_iff]; simp [h4]
  have hr : (s.extract 1 s.size).size ≤ maxLen := by rw [ByteArray.size_extract]; omega
  have hr2 : (tailT (s.extract 1 s.size)).size ≤ maxLen := Nat.le_trans (tail_size _) hr
  have c1 := hide fun W => taken_yes hr (by decide) m1 W
  have c2 := hide fun W => taken_yes hr2 (by decide) m2 W
  unfold uaOf
  rw [hb] at h1 ⊢
  have h1' : ¬ 1 < (s[0]'(by omega)).toNat := by omega
  clear m1 m2 h4 hr hr2 hb h1
  unfold maxLen at hl
  generalize headT (tailT (s.extract 1 s.size)) = o at *
  generalize tailT (tailT (s.extract 1 s.size)) = z at *
  generalize headT (s.extract 1 s.size) = i at *
  generalize tailT (s.extract 1 s.size) = t at *
  have P0 := hide fun r => pair_new w r
  go_enter Tryz.func189, Tryz.ntmps189
  go_wp2
  go_step3
  go_wp2_with fail
  refine (c1.out _).mono ?_
  rintro e w1 ⟨rfl, b1⟩
  have P1 := pair_on (P0.out _) b1
  obtain ⟨x1, x2, x3, x4⟩ := P1.2.1.open_
  replace P1 := hide P1
  clear b1
  go_wp2_with fail
  have P2 := pair_i P1.out i
  clear x1 x2 x3 x4
  generalize w1.setCell ⟨w.heap.size + 1, 0, none⟩ (.string i) = v1 at *
  clear P1
  refine (c2.out _).mono ?_
  rintro e w2 ⟨rfl, b2⟩
  have P3 := pair_on P2 b2
  clear P2 b2
  obtain ⟨x1, x2, x3, x4⟩ := P3.2.1.open_
  have P4 := pair_o P3 o
  have l4 := P4.2.1.load
  have y1 := P4.1.1
  have y2 := P4.1.2.1
  replace P3 := hide P3
  replace P4 := hide P4
  go_wp2
  rw [Exit.noGoto_ret]
  exact bodyPost_ret (v := .tuple #[.agg (cellsU ⟨i, o, ((s[0]'(by omega)).toNat : Int) == 1⟩), .int .i64 0]) (by simp [results, Tryz.results189, go_sem, t1, t9, y1]) rfl ⟨rfl, below_setRow P4.out.2.2 (Nat.le_refl _) _⟩

theorem bytes_ne {a b : ByteArray} (h : ¬ a = b) : (a.toList == b.toList) = false := by
  rw [ByteArray.toList_eq, ByteArray.toList_eq]
  simp only [beq_eq_false_iff_ne]
  intro c
  apply h
  apply ByteArray.ext
  exact Array.toList_inj.1 c

def NoneTill (s : ByteArray) (n : Nat) : Prop := ∀ j, j < n → j + 3 ≤ s.size → (cand s j).o.size ≤ 64 → ¬ textV (cand s j) = s

theorem cand_sizes {s : ByteArray} {n : Nat} (h : n + 3 ≤ s.size) : (cand s n).i.size = n ∧ (cand s n).o.size = s.size - (3 + n) := by
  constructor
  · show (s.extract 2 (2 + n)).size = n
    rw [ByteArray.size_extract]
    omega
  · show (s.extract (3 + n) s.size).size = _
    rw [ByteArray.size_extract]
    omega

theorem none_good {s : ByteArray} {n : Nat} (h : NoneTill s n) (he : 16 < n ∨ s.size < n + 3) : ¬ Good s := by
  intro hg
  obtain ⟨hf, ht⟩ := good_text hg
  have hz := (text_good hf).2.2
  have hc := cand_of hf
  rw [ht] at hz hc
  have hi := hf.i
  have ho := hf.o
  refine h (uaOf s).i.size (by omega) (by omega) ?_ ?_
  · rw [hc]; exact ho
  · rw [hc]; exact ht

set_option maxRecDepth 100000 in
set_option maxHeartbeats 2000000 in
theorem rparse_any (s : ByteArray) (hl : s.size ≤ maxLen) (q : Ua) (f : Int) (hq : Good s ∧ q = uaOf s ∧ f = 0 ∨ ¬ Good s ∧ q = U0 ∧ f = 100) (w : World) :
    Calls Tryz.prog 119 #[.string s] w fun e w' => e = .returned (.tuple #[.agg (cellsU q), .int .i64 f]) ∧ Below w.heap.size w w' := by
  obtain ⟨t1, t2, t3, t4, t5, t6, t7, t8, t9⟩ := uaRules
  obtain ⟨p0, p1, p2⟩ := uaParts
  obtain ⟨s0, s1, s2⟩ := uaSets
  obtain ⟨d1, d2, d3⟩ := uaDrew
  have n1 : ¬ N3 < 1 := by decide
  have n2 : ¬ N3 < 2 := by decide
  have n3 : ¬ N3 < 3 := by decide
  have n0 : ¬ cellsU U0 = #[] := by unfold cellsU; simp
  unfold maxLen at hl
  replace hq := hide hq
  go_enter Tryz.func119, Tryz.ntmps119
  go_wp2
  go_loopw [4] (fun i wr => ∃ n : Nat, n ≤ 17 ∧ i = .int .i64 n ∧ Hid (NoneTill s n) ∧ Hid (Rat wr w.heap.size U0 ∧ Below w.heap.size w wr)) (fun i _ => 17 - (intOf i).toNat)
  case atStart => exact ⟨0, by omega, rfl, fun j hj => absurd hj (by omega), Rat.new w U0 _, grow _ _⟩
  case round =>
    obtain ⟨n, hn, rfl, hN, hR⟩ := hrel
    by_cases h16 : n ≤ 16
    · by_cases h3 : n + 3 ≤ s.size
      · have hd : decide ((n : Int) ≤ (s.size : Int) - 3) = true := by simp; omega
        have hi : byteN s 0 = (s[0]'(by omega)).toNat := byteN_in s 0 (by omega)
        have hlt : (s[0]'(by omega)).toNat < 256 := (s[0]'(by omega)).toNat_lt
        have q1 : 0 < s.size := by omega
        have q2 : 2 + n ≤ s.size := by omega
        have q3 : 3 + n ≤ s.size := by omega
        go_wp2
        go_region
        have hcand : (⟨s.extract 2 (2 + n), s.extract (3 + n) s.size, ((s[0]'(by omega)).toNat : Int) == 1⟩ : Ua) = cand s n := by unfold cand; rw [hi]
        obtain ⟨z1, z2⟩ := cand_sizes h3
        simp only [hcand]
        have hnew := Rat.new wr (cand s n) 64
        have hfit : (cand s n).o.size ≤ 64 → Fits (cand s n) := fun h => ⟨by omega, h⟩
        have hyes : textV (cand s n) = s → (cand s n).o.size ≤ 64 → q = cand s n ∧ f = 0 := by
          intro e h
          obtain ⟨g1, g2, -⟩ := text_good (hfit h)
          rw [e] at g1 g2
          rcases hq.out with h | h
          · exact ⟨h.2.1.trans g2, h.2.2⟩
          · exact absurd g1 h.1
        have hnext : ¬ ((cand s n).o.size ≤ 64 ∧ textV (cand s n) = s) → NoneTill s (n + 1) := by
          intro h j hj k1 k2 k3
          rcases Nat.lt_or_ge j n with hlt | hge
          · exact hN.out j hlt k1 k2 k3
          · rw [show j = n by omega] at k2 k3
            exact h ⟨k2, k3⟩
        have hbig : (cand s n).o.size ≤ 9223372036854775807 := by omega
        clear hcand hi hlt z1 z2 hd q2 q3 hN
        generalize cand s n = c at *
        have R0 := hR.out.1.on (grow wr (.cells (cellsU c) 64)).drew
        have B0 := onto hR.out.2 (Nat.le_refl _) (grow wr (.cells (cellsU c) 64)).drew
        have R1 : Rat (wr.alloc (.cells (cellsU c) 64)).drew wr.heap.size c := hnew
        clear hnew hR
        have l1 := R1.load
        have l2 := R1.cell 1
        rw [p1] at l2
        generalize (wr.alloc (.cells (cellsU c) 64)).drew = v1 at *
        generalize wr.heap.size = L at *
        replace R1 := hide R1
        replace R0 := hide R0
        replace B0 := hide B0
        replace hnext := hide hnext
        replace hyes := hide hyes
        by_cases ho : c.o.size ≤ 64
        · have c1 := hide fun W => rtext_any c (hfit ho) W
          clear hfit
          have hd : decide ((c.o.size : Int) ≤ 64) = true := by simp; omega
          go_wp2_with fail
          refine (c1.out _).mono ?_
          rintro e w1 ⟨rfl, b1⟩
          have l3 := (R1.out.on b1).load
          have R2 := R0.out.on b1
          have B2 := hide (onto B0.out (Nat.le_refl _) b1)
          clear b1 l1 l2 R1 R0 B0 c1
          by_cases hT : textV c = s
          · have he : ((textV c).toList == s.toList) = true := by rw [hT]; simp
            obtain ⟨rfl, rfl⟩ := hyes.out hT ho
            have x1 := R2.1
            have x2 := R2.2.1
            clear hnext hyes hT
            generalize textV q = T at *
            go_wp2
            exact bodyPost_ret (v := .tuple #[.agg (cellsU q), .int .i64 0]) (by simp [results, Tryz.results119, go_sem, t1, t9, x1]) rfl ⟨rfl, below_setRow B2.out (Nat.le_refl _) _⟩
          · have he := bytes_ne hT
            have hN := hide (hnext.out fun h => hT h.2)
            clear hnext hyes hT
            generalize textV c = T at *
            go_wp2
            go_roundw
            case rel => exact ⟨n + 1, by omega, by go_num, hN, R2, B2.out⟩
            case measure => simp [intOf]; omega
        · have hd : decide ((c.o.size : Int) ≤ 64) = false := by simp; omega
          have hN := hide (hnext.out fun h => ho h.1)
          clear hnext hyes hfit
          go_wp2
          go_roundw
          case rel => exact ⟨n + 1, by omega, by go_num, hN, R0.out, B0.out⟩
          case measure => simp [intOf]; omega
      · have hd : decide ((n : Int) ≤ (s.size : Int) - 3) = false := by simp; omega
        obtain ⟨rfl, rfl⟩ : q = U0 ∧ f = 100 := by
          rcases hq.out with h | h
          · exact absurd h.1 (none_good hN.out (Or.inr (by omega)))
          · exact h.2
        have x1 := hR.out.1.1
        have x2 := hR.out.1.2.1
        clear hq hN
        go_wp2
        exact bodyPost_ret (v := .tuple #[.agg (cellsU U0), .int .i64 100]) (by simp [results, Tryz.results119, go_sem, t1, t9, x1]) rfl ⟨rfl, below_setRow hR.out.2 (Nat.le_refl _) _⟩
    · obtain ⟨rfl, rfl⟩ : q = U0 ∧ f = 100 := by
        rcases hq.out with h | h
        · exact absurd h.1 (none_good hN.out (Or.inl (by omega)))
        · exact h.2
      have x1 := hR.out.1.1
      have x2 := hR.out.1.2.1
      clear hq hN
      go_wp2
      exact bodyPost_ret (v := .tuple #[.agg (cellsU U0), .int .i64 100]) (by simp [results, Tryz.results119, go_sem, t1, t9, x1]) rfl ⟨rfl, below_setRow hR.out.2 (Nat.le_refl _) _⟩

end Go.Proofs.YthjcijlabpinkaaGreatDoor.Ua
