/- What is printed is parsed as it was; what is parsed is printed as it was; a word that is an instruction is the word of its text. -/
import Derived.Test.YtahbbhgoacbejaaGreatDoorAsmFixed
set_option linter.unusedVariables false
set_option linter.unusedSimpArgs false
namespace Go.Proofs.YtahbbhgoacbejaaGreatDoor
open Go.RowKit Go.Shelf Go.Joins

theorem told_good {n : Nat} {o s t d a i : Int} (h : Told n o s t d a i 0) : ∃ op, op < 69 ∧ o = ((op : Nat) : Int) ∧ Good op s t d a i ∧ Dec.laid op s t d a i = n := by
  rcases h with ⟨op, ho, hi, rfl, rfl, rfl, rfl, rfl, rfl, -⟩ | ⟨-, -, -, -, -, -, -, h0⟩
  · have hl := eq_of_beq hi
    refine ⟨op, ho, rfl, ?_, hl⟩
    unfold Good
    rw [hl]
    exact ⟨rfl, rfl, rfl, rfl, rfl⟩
  · cases h0

theorem Asm.itoa_plain (n : Int) : ∀ c ∈ Lib.itoa n, (c != 10) = true := by
  intro c hc
  have h := Asm.itoa_nums n c hc
  have : ∀ k : Nat, k < 256 → Asm.nums.contains (UInt8.ofNat k) = true → (UInt8.ofNat k != 10) = true := by decide +kernel
  have h2 := this c.toNat (UInt8.toNat_lt c)
  rw [UInt8.ofNat_toNat] at h2
  exact h2 h

theorem Asm.say_plain : ∀ (r : List (List UInt8 × Option Nat)), (∀ p ∈ r, ∀ c ∈ p.1, (c != 10) = true) → ∀ g : List Int, ∀ c ∈ Asm.say r g, (c != 10) = true
  | [], _, g => by intro c hc; cases hc
  | (m, k) :: r, h, g => by
    intro c hc
    have e : Asm.say ((m, k) :: r) g = Asm.one (m, k) g ++ Asm.say r g := by unfold Asm.say; rw [List.flatMap_cons]
    rw [e] at hc
    rcases List.mem_append.mp hc with hc | hc
    · unfold Asm.one at hc
      rcases List.mem_append.mp hc with hc | hc
      · exact h (m, k) List.mem_cons_self c hc
      · cases k with
        | none => cases hc
        | some k => exact Asm.itoa_plain _ c hc
    · exact Asm.say_plain r (fun p hp => h p (List.mem_cons_of_mem _ hp)) g c hc

theorem Asm.text_plain (op : Nat) (ho : op < 69) (g : List Int) : ∀ c ∈ Asm.text op g, (c != 10) = true := by
  have h1 : ∀ op < 69, ∀ c ∈ (Dec.name op).data.toList, (c != 10) = true := by decide +kernel
  have h2 : ∀ f < 20, ∀ p ∈ Asm.rounds f, ∀ c ∈ p.1, (c != 10) = true := by decide +kernel
  intro c hc
  unfold Asm.text at hc
  rcases List.mem_append.mp hc with hc | hc
  · exact h1 op ho c hc
  · exact Asm.say_plain _ (h2 _ (Dec.fm_lt op ho).2) g c hc

theorem Asm.text_some (op : Nat) (ho : op < 69) (g : List Int) : Asm.text op g ≠ [] := by
  have h1 : ∀ op < 69, (Dec.name op).data.toList ≠ [] := by decide +kernel
  intro e
  unfold Asm.text at e
  exact h1 op ho (List.append_eq_nil_iff.mp e).1

theorem Asm.text_short (op : Nat) (ho : op < 69) (g : List Int) (hg : ∀ k, Asm.small (g.getD k 0)) : (Asm.text op g).length ≤ 99 := by
  unfold Asm.text
  have h1 := Asm.name_short op ho
  have h2 := Asm.say_short (Asm.rounds (Dec.fm op)) (fun p hp => (Asm.okR_of (Asm.rounds_ok _ (Dec.fm_lt op ho).2 p hp)).1) g hg
  have h3 := Asm.rounds_few _ (Dec.fm_lt op ho).2
  have h4 : (Dec.name op).data.toList.length = (Dec.name op).size := rfl
  rw [List.length_append]
  omega

theorem Asm.take_plain : ∀ (u x : List UInt8), (∀ c ∈ u, (c != 10) = true) → (u ++ 10 :: x).takeWhile (· != 10) = u
  | [], x, _ => rfl
  | b :: u, x, h => by
    have hb := h b List.mem_cons_self
    rw [List.cons_append, List.takeWhile_cons, hb, if_pos rfl, Asm.take_plain u x (fun c hc => h c (List.mem_cons_of_mem _ hc))]

theorem Asm.take_all : ∀ (u : List UInt8), (∀ c ∈ u, (c != 10) = true) → u.takeWhile (· != 10) = u
  | [], _ => rfl
  | b :: u, h => by
    have hb := h b List.mem_cons_self
    rw [List.takeWhile_cons, hb, if_pos rfl, Asm.take_all u (fun c hc => h c (List.mem_cons_of_mem _ hc))]

theorem Asm.rows_line (u x : List UInt8) (h : ∀ c ∈ u, (c != 10) = true) : Asm.rows (u ++ 10 :: x) = u :: Asm.rows x := by
  rw [Asm.rows_cons (by simp), Asm.take_plain u x h]
  congr 2
  rw [List.drop_append]
  simp

theorem Asm.rows_last (u : List UInt8) (h : ∀ c ∈ u, (c != 10) = true) (hu : u ≠ []) : Asm.rows u = [u] := by
  rw [Asm.rows_cons hu, Asm.take_all u h, List.drop_of_length_le (by omega), Asm.rows_nil]

theorem lines_back (op : Nat) (ho : op < 69) (s t d a i : Int) (hg : Good op s t d a i) (n : Nat) (hl : Dec.laid op s t d a i = n) (w : World) (L : Lay5 w) :
    Calls Tryz.prog 12 #[.string ((⟨(Asm.text op [s, t, d, a, i]).toArray⟩ : ByteArray) ++ (⟨#[10]⟩ : ByteArray) ++ (⟨(Asm.text op [s, t, d, a, i]).toArray⟩ : ByteArray))] w fun e' w' =>
      (∃ v, e' = .returned (.tuple #[v, .int .i64 0]) ∧ RowAt w' v [(n : Int), (n : Int)]) ∧ Below w.heap.size w w' := by
  have hp := Asm.text_plain op ho [s, t, d, a, i]
  have hn := Asm.text_some op ho [s, t, d, a, i]
  have hsh := Asm.text_short op ho [s, t, d, a, i] (Asm.full_good ho hg).2
  have hline : Asm.Line (Asm.text op [s, t, d, a, i]) (n : Int) := ⟨op, s, t, d, a, i, ho, hg, rfl, by rw [hl]⟩
  generalize Asm.text op [s, t, d, a, i] = u at *
  have hdata : ((⟨u.toArray⟩ : ByteArray) ++ (⟨#[10]⟩ : ByteArray) ++ (⟨u.toArray⟩ : ByteArray)).data.toList = u ++ 10 :: u := by simp
  have hsz : ((⟨u.toArray⟩ : ByteArray) ++ (⟨#[10]⟩ : ByteArray) ++ (⟨u.toArray⟩ : ByteArray)).size ≤ 1000000 := by
    show ((⟨u.toArray⟩ : ByteArray) ++ (⟨#[10]⟩ : ByteArray) ++ (⟨u.toArray⟩ : ByteArray)).data.toList.length ≤ _
    rw [hdata]; simp; omega
  refine (lines_any _ hsz w L).mono ?_
  rintro e' w' ⟨⟨ws, e, v, rfl, hl, ho⟩, hb⟩
  rw [hdata] at hl
  have h2 : Asm.Lined (u ++ 10 :: u) [(n : Int), (n : Int)] 0 := Or.inl ⟨by rw [Asm.rows_line u u hp, Asm.rows_last u hp hn]; exact .cons hline (.cons hline .nil), rfl⟩
  obtain ⟨rfl, rfl⟩ := hl.one h2
  exact ⟨⟨v, rfl, RowAt.of ho⟩, hb⟩

theorem row_two (w : World) (x y : Int) : RowAt (w.alloc (.cells #[.int .u32 x, .int .u32 y] 36)) (.slice (some ⟨w.heap.size, 0, none⟩) 2 2) [x, y] := by
  refine Or.inr ⟨_, _, rfl, fun j u hj => ?_⟩
  have := World.alloc_heap_new w (.cells #[.int .u32 x, .int .u32 y] 36)
  simp only [World.cell?, this]
  match j, hj with
  | 0, hj => cases hj; rfl
  | 1, hj => cases hj; rfl

end Go.Proofs.YtahbbhgoacbejaaGreatDoor
