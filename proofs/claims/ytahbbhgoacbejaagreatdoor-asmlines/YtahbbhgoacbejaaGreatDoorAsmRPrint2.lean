/- The document's Print, and the law: the text of any instruction, or that it may not be, is as the document says. -/
import Derived.Test.YtahbbhgoacbejaaGreatDoorAsmFldB
import Derived.Test.YtahbbhgoacbejaaGreatDoorAsmFldD
import Derived.Test.YtahbbhgoacbejaaGreatDoorAsmFixed
import Derived.Test.YtahbbhgoacbejaaGreatDoorDecEnc
import Derived.Test.YtahbbhgoacbejaaGreatDoorAsmBackM
set_option linter.unusedVariables false
set_option linter.unusedSimpArgs false
namespace Go.Proofs.YtahbbhgoacbejaaGreatDoor
open Go.RowKit Go.Shelf Go.Joins

/-- A number's text, and a register's; bounded whatever the number. -/
def Asm.nt (x : Int) : ByteArray := if -1000000000 ≤ x ∧ x ≤ 1000000000 then ⟨(Lib.itoa x).toArray⟩ else ⟨#[]⟩
def Asm.rt (x : Int) : ByteArray := (⟨#[36]⟩ : ByteArray) ++ Asm.nt x

theorem Asm.nt_size (x : Int) : (Asm.nt x).size ≤ 99 := by
  unfold Asm.nt
  split
  · rename_i h
    have := Lib.itoa_length_le x (by omega) (by omega)
    show (Lib.itoa x).length ≤ 99
    omega
  · show 0 ≤ 99; omega
theorem Asm.rt_size (x : Int) : (Asm.rt x).size ≤ 100 := by
  unfold Asm.rt
  have := Asm.nt_size x
  rw [ByteArray.size_append, sz_one]
  omega

theorem num_nt (x : Int) (w : World) (h0 : -1000000000 ≤ x) (h1 : x ≤ 1000000000) :
    Calls Tryz.prog 36 #[.int .i64 x] w fun e w' => e = .returned (.string (Asm.nt x)) ∧ Below w.heap.size w w' := by
  unfold Asm.nt
  rw [if_pos ⟨h0, h1⟩]
  exact num_any x w h0 h1
theorem reg_rt (x : Int) (w : World) (h0 : -1000000000 ≤ x) (h1 : x ≤ 1000000000) :
    Calls Tryz.prog 35 #[.int .i64 x] w fun e w' => e = .returned (.string (Asm.rt x)) ∧ Below w.heap.size w w' :=
  reg_raw x (Asm.nt x) (by have := Asm.nt_size x; omega) (fun w => num_nt x w h0 h1) w

/-- The document's fields of a form, as text. -/
def Asm.flds (f : Nat) (s t d a i : Int) : ByteArray :=
  let c : ByteArray := ⟨#[44]⟩
  [⟨#[]⟩, Asm.rt d ++ c ++ Asm.rt t ++ c ++ Asm.nt a, Asm.rt d ++ c ++ Asm.rt t ++ c ++ Asm.rt s, Asm.rt s, Asm.rt d ++ c ++ Asm.rt s, Asm.rt d ++ c ++ Asm.rt s ++ c ++ Asm.rt t, ⟨#[]⟩, Asm.rt d, Asm.rt s, Asm.rt s ++ c ++ Asm.rt t, Asm.rt d ++ c ++ Asm.rt s,
    Asm.rt s ++ c ++ Asm.nt i, Asm.nt i, Asm.rt s ++ c ++ Asm.rt t ++ c ++ Asm.nt i, Asm.rt t ++ c ++ Asm.rt s ++ c ++ Asm.nt i, Asm.rt t ++ c ++ Asm.rt s ++ c ++ Asm.nt i, Asm.rt t ++ c ++ Asm.nt i, Asm.rt t ++ c ++ Asm.rt d, ⟨#[]⟩,
    Asm.rt t ++ c ++ Asm.nt i ++ (⟨#[40]⟩ : ByteArray) ++ Asm.rt s ++ (⟨#[41]⟩ : ByteArray)].getD f ⟨#[]⟩

/-- What the document's fields are, where the numbers are within bounds. -/
theorem flds_any (op : Nat) (ho : op < 69) (s t d a i : Int) (s0 : -1000000000 ≤ s) (s1 : s ≤ 1000000000) (t0 : -1000000000 ≤ t) (t1 : t ≤ 1000000000) (d0 : -1000000000 ≤ d) (d1 : d ≤ 1000000000) (a0 : -1000000000 ≤ a) (a1 : a ≤ 1000000000) (i0 : -1000000000 ≤ i) (i1 : i ≤ 1000000000) (w : World) :
    Calls Tryz.prog 17 #[.agg #[.int .i64 (op : Int), .int .i64 s, .int .i64 t, .int .i64 d, .int .i64 a, .int .i64 i]] w fun e w' => e = .returned (.string (Asm.flds (Dec.fm op) s t d a i)) ∧ Below w.heap.size w w' := by
  have hA : ∀ w, Calls Tryz.prog 18 #[.int .i64 (op : Int)] w fun e w' => e = .returned (.agg #[.string (Dec.name op), .string (Dec.lname (Dec.fm op)), .int .i64 (Dec.mj op : Nat), .int .i64 (Dec.mn op : Nat)]) ∧ Below w.heap.size w w' := fun w => by
    have := at_any (op : Int) w
    rwa [show idx (op : Int) = op from by unfold idx; rw [if_pos (by omega)]; simp] at this
  have hr := Dec.fm_lt op ho
  have zR := Asm.rt_size
  have zN : ∀ x, (Asm.nt x).size ≤ 100 := fun x => by have := Asm.nt_size x; omega
  generalize (Dec.mj op : Nat) = j at *
  generalize (Dec.mn op : Nat) = n at *
  generalize Dec.name op = nm at *
  generalize Dec.fm op = f at *
  have hcases : f = 1 ∨ f = 2 ∨ f = 3 ∨ f = 4 ∨ f = 5 ∨ f = 6 ∨ f = 7 ∨ f = 8 ∨ f = 9 ∨ f = 10 ∨ f = 11 ∨ f = 12 ∨ f = 13 ∨ f = 14 ∨ f = 15 ∨ f = 16 ∨ f = 17 ∨ f = 18 ∨ f = 19 := by omega
  rcases hcases with rfl | rfl | rfl | rfl | rfl | rfl | rfl | rfl | rfl | rfl | rfl | rfl | rfl | rfl | rfl | rfl | rfl | rfl | rfl
  · exact rfld_1 (by decide +kernel) hA reg_rt num_nt zR zN s0 s1 t0 t1 d0 d1 a0 a1 i0 i1 w
  · exact rfld_2 (by decide +kernel) hA reg_rt num_nt zR zN s0 s1 t0 t1 d0 d1 a0 a1 i0 i1 w
  · exact rfld_3 (by decide +kernel) hA reg_rt num_nt zR zN s0 s1 t0 t1 d0 d1 a0 a1 i0 i1 w
  · exact rfld_4 (by decide +kernel) hA reg_rt num_nt zR zN s0 s1 t0 t1 d0 d1 a0 a1 i0 i1 w
  · exact rfld_5 (by decide +kernel) hA reg_rt num_nt zR zN s0 s1 t0 t1 d0 d1 a0 a1 i0 i1 w
  · exact rfld_6 (by decide +kernel) hA reg_rt num_nt zR zN s0 s1 t0 t1 d0 d1 a0 a1 i0 i1 w
  · exact rfld_7 (by decide +kernel) hA reg_rt num_nt zR zN s0 s1 t0 t1 d0 d1 a0 a1 i0 i1 w
  · exact rfld_8 (by decide +kernel) hA reg_rt num_nt zR zN s0 s1 t0 t1 d0 d1 a0 a1 i0 i1 w
  · exact rfld_9 (by decide +kernel) hA reg_rt num_nt zR zN s0 s1 t0 t1 d0 d1 a0 a1 i0 i1 w
  · exact rfld_10 (by decide +kernel) hA reg_rt num_nt zR zN s0 s1 t0 t1 d0 d1 a0 a1 i0 i1 w
  · exact rfld_11 (by decide +kernel) hA reg_rt num_nt zR zN s0 s1 t0 t1 d0 d1 a0 a1 i0 i1 w
  · exact rfld_12 (by decide +kernel) hA reg_rt num_nt zR zN s0 s1 t0 t1 d0 d1 a0 a1 i0 i1 w
  · exact rfld_13 (by decide +kernel) hA reg_rt num_nt zR zN s0 s1 t0 t1 d0 d1 a0 a1 i0 i1 w
  · exact rfld_14 (by decide +kernel) hA reg_rt num_nt zR zN s0 s1 t0 t1 d0 d1 a0 a1 i0 i1 w
  · exact rfld_15 (by decide +kernel) hA reg_rt num_nt zR zN s0 s1 t0 t1 d0 d1 a0 a1 i0 i1 w
  · exact rfld_16 (by decide +kernel) hA reg_rt num_nt zR zN s0 s1 t0 t1 d0 d1 a0 a1 i0 i1 w
  · exact rfld_17 (by decide +kernel) hA reg_rt num_nt zR zN s0 s1 t0 t1 d0 d1 a0 a1 i0 i1 w
  · exact rfld_18 (by decide +kernel) hA reg_rt num_nt zR zN s0 s1 t0 t1 d0 d1 a0 a1 i0 i1 w
  · exact rfld_19 (by decide +kernel) hA reg_rt num_nt zR zN s0 s1 t0 t1 d0 d1 a0 a1 i0 i1 w


theorem Asm.nt_in {x : Int} (h0 : -1000000000 ≤ x) (h1 : x ≤ 1000000000) : (Asm.nt x).data.toList = Lib.itoa x := by
  unfold Asm.nt
  rw [if_pos ⟨h0, h1⟩]
theorem Asm.rt_in {x : Int} (h0 : -1000000000 ≤ x) (h1 : x ≤ 1000000000) : (Asm.rt x).data.toList = 36 :: Lib.itoa x := by
  have := Asm.nt_in h0 h1
  unfold Asm.rt
  simp [this]

/-- A form's fields as text, with a blank ahead of them, if there are any. -/
theorem Asm.flds_say (f : Nat) (hf : 1 ≤ f ∧ f < 20) (s t d a i : Int) (s0 : -1000000000 ≤ s) (s1 : s ≤ 1000000000) (t0 : -1000000000 ≤ t) (t1 : t ≤ 1000000000) (d0 : -1000000000 ≤ d) (d1 : d ≤ 1000000000) (a0 : -1000000000 ≤ a) (a1 : a ≤ 1000000000) (i0 : -1000000000 ≤ i) (i1 : i ≤ 1000000000) :
    ((Asm.flds f s t d a i).data.toList = [] ∧ Asm.say (Asm.rounds f) [s, t, d, a, i] = []) ∨
    (¬ (Asm.flds f s t d a i).data.toList = [] ∧ Asm.say (Asm.rounds f) [s, t, d, a, i] = 32 :: (Asm.flds f s t d a i).data.toList) := by
  have es := Asm.rt_in s0 s1
  have et := Asm.rt_in t0 t1
  have ed := Asm.rt_in d0 d1
  have ea := Asm.nt_in a0 a1
  have ei := Asm.nt_in i0 i1
  have hi : ¬ Lib.itoa i = [] := by
    unfold Lib.itoa
    split
    · simp
    · obtain ⟨c, r, e, -⟩ := Asm.digits_cons i.toNat
      rw [e]; simp
  have hcases : f = 1 ∨ f = 2 ∨ f = 3 ∨ f = 4 ∨ f = 5 ∨ f = 6 ∨ f = 7 ∨ f = 8 ∨ f = 9 ∨ f = 10 ∨ f = 11 ∨ f = 12 ∨ f = 13 ∨ f = 14 ∨ f = 15 ∨ f = 16 ∨ f = 17 ∨ f = 18 ∨ f = 19 := by omega
  rcases hcases with rfl | rfl | rfl | rfl | rfl | rfl | rfl | rfl | rfl | rfl | rfl | rfl | rfl | rfl | rfl | rfl | rfl | rfl | rfl
  all_goals
    simp [Asm.flds, Asm.say, Asm.rounds, Asm.one, es, et, ed, ea, ei, hi]

set_option maxRecDepth 100000 in
set_option maxHeartbeats 2000000 in
theorem rprint_raw {o s t d a i v e : Int} {q : Bool} (hq : (e != 0) = q) {nm fm F : ByteArray} {j n : Int}
    (hE : ∀ w, Calls Tryz.prog 16 #[.agg #[.int .i64 o, .int .i64 s, .int .i64 t, .int .i64 d, .int .i64 a, .int .i64 i]] w fun e' w' => e' = .returned (.tuple #[.int .u32 v, .int .i64 e]) ∧ Below w.heap.size w w')
    (hF : q = false → ∀ w, Calls Tryz.prog 17 #[.agg #[.int .i64 o, .int .i64 s, .int .i64 t, .int .i64 d, .int .i64 a, .int .i64 i]] w fun e' w' => e' = .returned (.string F) ∧ Below w.heap.size w w')
    (hA : ∀ w, Calls Tryz.prog 18 #[.int .i64 o] w fun e w' => e = .returned (.agg #[.string nm, .string fm, .int .i64 j, .int .i64 n]) ∧ Below w.heap.size w w')
    (zn : nm.size ≤ 100) (zf : F.size ≤ 1000) (b : Bool) (hb : F.toList.isEmpty = b) (w : World) :
    Calls Tryz.prog 7 #[.agg #[.int .i64 o, .int .i64 s, .int .i64 t, .int .i64 d, .int .i64 a, .int .i64 i]] w fun e' w' =>
      e' = .returned (if q then .tuple #[.string ⟨#[]⟩, .int .i64 50] else if b then .tuple #[.string nm, .int .i64 0] else .tuple #[.string (nm ++ (⟨#[32]⟩ : ByteArray) ++ F), .int .i64 0]) ∧ Below w.heap.size w w' := by
  have hnm : ∀ (v0 v1 v2 v3 : Value) (w : World), (Instr.field 41 (.agg #[v0, v1, v2, v3]) 0).run Tryz.prog w = .ok v0 w := by intros; kernel_rfl
  have e1 : ¬ 9223372036854775807 < nm.size + 1 := by omega
  have e2 : ¬ 9223372036854775807 < nm.size + 1 + F.size := by omega
  go_enter Tryz.func7, Tryz.ntmps7
  go_wp2_with fail
  have g0 := grow w (.cells #[.int .i64 o, .int .i64 s, .int .i64 t, .int .i64 d, .int .i64 a, .int .i64 i] 23)
  have c0 := cell6 w 23 (.int .i64 o) (.int .i64 s) (.int .i64 t) (.int .i64 d) (.int .i64 a) (.int .i64 i)
  generalize (w.alloc (.cells #[.int .i64 o, .int .i64 s, .int .i64 t, .int .i64 d, .int .i64 a, .int .i64 i] 23)) = w0 at *
  refine (hE _).mono ?_
  rintro e1 w1 ⟨rfl, h1⟩
  have c1 := c0.on h1
  have b1 := onto g0 h1
  obtain ⟨k0, k1, k2, k3, k4, k5⟩ := c1
  clear hE c0 h1 g0
  cases q with
  | true =>
    go_wp2_with fail
    go_ret2
    exact ⟨rfl, b1⟩
  | false =>
    replace hF := hF rfl
    go_wp2_with fail
    refine (hF _).mono ?_
    rintro e2 w2 ⟨rfl, h2⟩
    obtain ⟨p0, p1, p2, p3, p4, p5⟩ := Cell6.on ⟨k0, k1, k2, k3, k4, k5⟩ h2
    have b2 := onto b1 h2
    clear hF h2 b1 k0 k1 k2 k3 k4 k5
    cases b with
    | true =>
      go_wp2_with fail
      refine (hA _).mono ?_
      rintro e2 w3 ⟨rfl, h3⟩
      go_wp2_with fail
      go_ret2
      exact ⟨rfl, onto b2 h3⟩
    | false =>
      go_wp2_with fail
      refine (hA _).mono ?_
      rintro e2 w3 ⟨rfl, h3⟩
      go_wp2_with fail
      go_ret2
      exact ⟨rfl, onto b2 h3⟩

theorem bytes_ext {s t : ByteArray} (h : s.data.toList = t.data.toList) : s = t := by
  cases s; cases t; simp at h; rw [h]

/-- What the document's Print tells. -/
theorem rprint_any (o s t d a i : Int) : ∃ (x : List UInt8) (e : Int), Asm.Said o s t d a i x e ∧ ∀ w,
    Calls Tryz.prog 7 #[.agg #[.int .i64 o, .int .i64 s, .int .i64 t, .int .i64 d, .int .i64 a, .int .i64 i]] w fun e' w' => e' = .returned (.tuple #[.string ⟨x.toArray⟩, .int .i64 e]) ∧ Below w.heap.size w w' := by
  obtain ⟨v, e, hw, hE⟩ := renc_any o s t d a i
  have hns : ∀ op < 70, (Dec.name op).size ≤ 100 := by decide +kernel
  have hA := fun w => at_any o w
  have hxl : idx o < 70 := by unfold idx; split <;> omega
  rcases hw with ⟨op, ho, rfl, hg, rfl, rfl⟩ | ⟨hn, rfl, rfl⟩
  · obtain ⟨⟨s0, s1, -⟩, ⟨t0, t1, -⟩, ⟨d0, d1, -⟩, ⟨a0, a1, -⟩, hi⟩ := Asm.good_in ho hg
    have hi := Asm.imm_in hi
    have hx : idx (op : Int) = op := by unfold idx; rw [if_pos (by omega)]; simp
    rw [hx] at hA
    have hsay := Asm.flds_say (Dec.fm op) (Dec.fm_lt op ho) s t d a i (by omega) (by omega) (by omega) (by omega) (by omega) (by omega) (by omega) (by omega) (by omega) (by omega)
    have hsh := Asm.text_short op ho [s, t, d, a, i] (Asm.full_good ho hg).2
    have hF := fun w => flds_any op ho s t d a i (by omega) (by omega) (by omega) (by omega) (by omega) (by omega) (by omega) (by omega) (by omega) (by omega) w
    refine ⟨_, _, Or.inl ⟨op, ho, rfl, hg, rfl, rfl⟩, fun w => ?_⟩
    have hzF : (Asm.flds (Dec.fm op) s t d a i).size ≤ 1000 := by
      have e1 : (Asm.flds (Dec.fm op) s t d a i).data.toList.length = (Asm.flds (Dec.fm op) s t d a i).size := rfl
      unfold Asm.text at hsh
      rw [List.length_append] at hsh
      rcases hsay with ⟨h1, -⟩ | ⟨-, h2⟩
      · rw [h1] at e1; simp at e1; omega
      · rw [h2] at hsh; simp at hsh; omega
    rcases hsay with ⟨h1, h2⟩ | ⟨h1, h2⟩
    · have := rprint_raw (q := false) rfl hE (fun _ => hF) hA (hns op (by omega)) hzF true (by rw [ByteArray.toList_eq, h1]; rfl) w
      have hx : Dec.name op = ⟨(Asm.text op [s, t, d, a, i]).toArray⟩ := bytes_ext (by unfold Asm.text; rw [h2]; simp)
      rw [← hx]
      exact this
    · have := rprint_raw (q := false) rfl hE (fun _ => hF) hA (hns op (by omega)) hzF false (by rw [ByteArray.toList_eq]; simpa using h1) w
      have hx : Dec.name op ++ (⟨#[32]⟩ : ByteArray) ++ Asm.flds (Dec.fm op) s t d a i = ⟨(Asm.text op [s, t, d, a, i]).toArray⟩ := bytes_ext (by unfold Asm.text; rw [h2]; simp)
      rw [← hx]
      exact this
  · refine ⟨_, _, Or.inr ⟨hn, rfl, rfl⟩, fun w => ?_⟩
    exact rprint_raw (q := true) (F := ⟨#[]⟩) (b := true) rfl hE (fun h => by cases h) hA (hns _ hxl) (by decide) (by rw [ByteArray.toList_eq]; rfl) w

theorem Asm.Said.one {o s t d a i : Int} {x y : List UInt8} {e f : Int} (h : Asm.Said o s t d a i x e) (h' : Asm.Said o s t d a i y f) : x = y ∧ e = f := by
  rcases h with ⟨op, ho, rfl, hg, rfl, rfl⟩ | ⟨hn, rfl, rfl⟩
  · rcases h' with ⟨op', ho', eo, hg', rfl, rfl⟩ | ⟨hn', -, -⟩
    · obtain rfl : op = op' := by omega
      exact ⟨rfl, rfl⟩
    · exact absurd hg (hn' op ho rfl)
  · rcases h' with ⟨op', ho', rfl, hg', rfl, rfl⟩ | ⟨-, rfl, rfl⟩
    · exact absurd hg' (hn op' ho' rfl)
    · exact ⟨rfl, rfl⟩

set_option maxHeartbeats 2000000 in
theorem prints_walk (o s t d a i : Int) (w : World) (L : Lay5 w) :
    Calls Tryz.prog 3 #[.agg #[.int .i64 o, .int .i64 s, .int .i64 t, .int .i64 d, .int .i64 a, .int .i64 i]] w fun e w' => e = .returned (.bool true) ∧ Below w.heap.size w w' := by
  obtain ⟨x, e, hx, hp⟩ := print_any o s t d a i
  obtain ⟨y, f, hy, hr⟩ := rprint_any o s t d a i
  obtain ⟨rfl, rfl⟩ := Asm.Said.one hx hy
  clear hx hy
  have hq : ((⟨x.toArray⟩ : ByteArray).toList == (⟨x.toArray⟩ : ByteArray).toList) = true := by simp
  have hq2 : (e == e) = true := by simp
  generalize (⟨x.toArray⟩ : ByteArray) = X at *
  go_enter Tryz.func3, Tryz.ntmps3
  go_wp2_with fail
  have g0 := grow w (.cells #[.int .i64 o, .int .i64 s, .int .i64 t, .int .i64 d, .int .i64 a, .int .i64 i] 23)
  have c0 := cell6 w 23 (.int .i64 o) (.int .i64 s) (.int .i64 t) (.int .i64 d) (.int .i64 a) (.int .i64 i)
  generalize (w.alloc (.cells #[.int .i64 o, .int .i64 s, .int .i64 t, .int .i64 d, .int .i64 a, .int .i64 i] 23)) = w0 at *
  have L0 := L.on g0
  refine (hp _ L0).mono ?_
  rintro e1 w1 ⟨rfl, h1⟩
  obtain ⟨k0, k1, k2, k3, k4, k5⟩ := c0.on h1
  have b1 := onto g0 h1
  have L1 := L0.on h1
  clear g0 c0 L0 h1 hp
  go_wp2_with fail
  refine (hr _).mono ?_
  rintro e1 w2 ⟨rfl, h2⟩
  have b2 := onto b1 h2
  have L2 := L1.on h2
  clear b1 L1 h2 hr k0 k1 k2 k3 k4 k5
  go_wp2_with fail
  refine (facts5 _ L2).mono ?_
  rintro e1 w3 ⟨rfl, h3⟩
  go_wp2_with fail
  go_ret
  exact ⟨rfl, onto b2 h3⟩

end Go.Proofs.YtahbbhgoacbejaaGreatDoor
