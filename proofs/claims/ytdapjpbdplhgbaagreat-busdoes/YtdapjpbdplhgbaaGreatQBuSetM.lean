/- Layer 12: which bytes are the devices' state. -/
import Derived.Test.YtdapjpbdplhgbaaGreatQBuParse
import Derived.Test.YtdapjpbdplhgbaaGreatQBuDevs
import Derived.Test.YtdapjpbdplhgbaaGreatQTmRef2
import Derived.Test.YtdapjpbdplhgbaaGreatQDmRef2
namespace Go.Proofs.YtdapjpbdplhgbaaGreat
open Go.RowKit
set_option linter.unusedVariables false
set_option maxRecDepth 100000

theorem cut_cut (s : ByteArray) (a n : Nat) (h : a + n ≤ s.size) : (s.extract a s.size).extract 0 n = s.extract a (a + n) := by
  apply Ua.lst_ext
  rw [Ua.lst_extract, Ua.lst_extract, Ua.lst_extract]
  rw [List.drop_zero, Nat.sub_zero, List.take_take]
  congr 1
  omega

theorem cut_rest (s : ByteArray) (a n : Nat) (h : a + n ≤ s.size) : (s.extract a s.size).extract n (s.extract a s.size).size = s.extract (a + n) s.size := by
  apply Ua.lst_ext
  have hl : (Ua.lst s).length = s.size := Ua.lst_length s
  have hz : (s.extract a s.size).size = s.size - a := by rw [ByteArray.size_extract]; omega
  rw [hz, Ua.lst_extract, Ua.lst_extract, Ua.lst_extract, List.take_of_length_le (l := (Ua.lst s).drop a) (by rw [List.length_drop]; omega), List.drop_drop, Nat.sub_sub]

theorem cut_size (s : ByteArray) (a b : Nat) (h : a ≤ b) (hb : b ≤ s.size) : (s.extract a b).size = b - a := by rw [ByteArray.size_extract]; omega

theorem cut_first (a b : ByteArray) (n : Nat) (h : a.size = n) : (a ++ b).extract 0 n = a := by
  apply Ua.lst_ext
  rw [Ua.lst_extract, Ua.lst_append, List.drop_zero, Nat.sub_zero, List.take_append_of_le_length (by rw [Ua.lst_length]; omega), List.take_of_length_le (by rw [Ua.lst_length]; omega)]

theorem cut_after (a b : ByteArray) (n m : Nat) (h : a.size = n) : (a ++ b).extract (n + m) (a ++ b).size = b.extract m b.size := by
  apply Ua.lst_ext
  have hb : (Ua.lst b).length = b.size := Ua.lst_length b
  have ha : (Ua.lst a).length = n := by rw [Ua.lst_length]; exact h
  rw [Ua.lst_extract, Ua.lst_extract, Ua.lst_append, ByteArray.size_append, List.drop_append, ha]
  rw [List.drop_of_length_le (by omega), List.nil_append]
  rw [show n + m - n = m by omega, h, show n + b.size - (n + m) = b.size - m by omega]

theorem cut_mid (a b : ByteArray) (n m k : Nat) (h : a.size = n) : (a ++ b).extract (n + m) (n + k) = b.extract m k := by
  apply Ua.lst_ext
  have ha : (Ua.lst a).length = n := by rw [Ua.lst_length]; exact h
  rw [Ua.lst_extract, Ua.lst_extract, Ua.lst_append, List.drop_append, ha]
  rw [List.drop_of_length_le (by omega), List.nil_append]
  rw [show n + m - n = m by omega, show n + k - (n + m) = k - m by omega]

theorem cut_whole (a : ByteArray) : a.extract 0 a.size = a := by
  apply Ua.lst_ext
  rw [Ua.lst_extract, List.drop_zero, List.take_of_length_le (by rw [Ua.lst_length]; omega)]

theorem cat_assoc (a b c d e : ByteArray) : a ++ b ++ c ++ d ++ e = a ++ (b ++ (c ++ (d ++ e))) := by
  rw [ByteArray.append_assoc, ByteArray.append_assoc, ByteArray.append_assoc]

/-- Such bytes are the devices' state. -/
def IsDev (s : ByteArray) (v : Dv) : Prop := Wv v ∧ devV v = s

theorem dev_cut {s : ByteArray} {v : Dv} (h : IsDev s v) :
    1066 ≤ s.size ∧ s.extract 0 9 = Tm.textV v.t ∧ s.extract 9 26 = Dm.textV v.d ∧ s.extract 26 42 = textG v.g ∧ s.extract 42 1066 = v.k ∧ s.extract 1066 s.size = Ua.textV v.u := by
  obtain ⟨hw, rfl⟩ := h
  have hz := devV_size v hw
  obtain ⟨h1, h2, h3, h4⟩ := sizes_v v hw
  have hk := hw.k
  refine ⟨by omega, ?_⟩
  unfold devV
  rw [cat_assoc]
  generalize Tm.textV v.t = A at *
  generalize Dm.textV v.d = B at *
  generalize textG v.g = C at *
  generalize v.k = D at *
  generalize Ua.textV v.u = E at *
  refine ⟨cut_first A _ 9 h1, ?_, ?_, ?_, ?_⟩
  · rw [show (9 : Nat) = 9 + 0 from rfl, show 26 = 9 + 17 from rfl, cut_mid A _ 9 0 17 h1]; exact cut_first B _ 17 h2
  · rw [show 26 = 9 + 17 from rfl, show 42 = 9 + 33 from rfl, cut_mid A _ 9 17 33 h1, show 17 = 17 + 0 from rfl, show 33 = 17 + 16 from rfl, cut_mid B _ 17 0 16 h2]; exact cut_first C _ 16 h3
  · rw [show 42 = 9 + 33 from rfl, show 1066 = 9 + 1057 from rfl, cut_mid A _ 9 33 1057 h1, show 33 = 17 + 16 from rfl, show 1057 = 17 + 1040 from rfl, cut_mid B _ 17 16 1040 h2,
      show 16 = 16 + 0 from rfl, show 1040 = 16 + 1024 from rfl, cut_mid C _ 16 0 1024 h3]
    exact cut_first D _ 1024 hk
  · rw [show 1066 = 9 + 1057 from rfl, cut_after A _ 9 1057 h1, show 1057 = 17 + 1040 from rfl, cut_after B _ 17 1040 h2, show 1040 = 16 + 1024 from rfl, cut_after C _ 16 1024 h3,
      show 1024 = 1024 + 0 from rfl, cut_after D _ 1024 0 hk, cut_whole]

theorem cut_dev (s : ByteArray) (h : 1066 ≤ s.size) : s.extract 0 9 ++ s.extract 9 26 ++ s.extract 26 42 ++ s.extract 42 1066 ++ s.extract 1066 s.size = s := by
  apply Ua.lst_ext
  have hl : (Ua.lst s).length = s.size := Ua.lst_length s
  rw [Ua.lst_append, Ua.lst_append, Ua.lst_append, Ua.lst_append, Ua.lst_extract, Ua.lst_extract, Ua.lst_extract, Ua.lst_extract, Ua.lst_extract]
  generalize Ua.lst s = l at *
  rw [List.drop_zero, show 9 - 0 = 9 from rfl, show 26 - 9 = 17 from rfl, show 42 - 26 = 16 from rfl, show 1066 - 42 = 1024 from rfl]
  rw [← List.take_add, ← List.take_add, ← List.take_add, ← List.take_add, show 9 + 17 + 16 + 1024 + (s.size - 1066) = s.size by omega, List.take_of_length_le (by omega)]

theorem tm_both (s : ByteArray) (hs : s.size = 9) : ∃ (T : Tm.Tm) (E : Int),
    (∀ w, Calls Tryz.prog 107 #[.string s] w fun e w' => e = .returned (.tuple #[.agg (Tm.cellsT T), .int .i64 E]) ∧ Below w.heap.size w w') ∧
    (∀ w, Calls Tryz.prog 86 #[.string s] w fun e w' => e = .returned (.tuple #[.agg (Tm.cellsT T), .int .i64 E]) ∧ Below w.heap.size w w') ∧
    (E = 0 ∧ Tm.Wt T ∧ Tm.textV T = s ∨ ¬ E = 0 ∧ ∀ T', Tm.Wt T' → ¬ Tm.textV T' = s) := by
  by_cases h8 : Tm.byteN s 8 ≤ 1
  · exact ⟨Tm.tmOf s, 0, fun W => Tm.parse_yes hs h8 W, fun W => Tm.rparse_nine hs s (Tm.tmOf_text hs h8) _ _ (Or.inl ⟨by simp, rfl, rfl⟩) W, Or.inl ⟨rfl, Tm.tmOf_w s, Tm.tmOf_text hs h8⟩⟩
  · refine ⟨Tm.T0, 90, fun W => Tm.parse_no (by rw [hs]; decide) (fun h => h8 h.2) W, fun W => Tm.rparse_nine hs _ rfl _ _ (Or.inr ⟨Ua.bytes_ne (Tm.tmOf_none h8), rfl, rfl⟩) W, Or.inr ⟨by decide, fun T' hT e => ?_⟩⟩
    have := Tm.text_back hT
    rw [e] at this
    exact Tm.tmOf_none h8 (by rw [show Tm.tmOf s = T' from this]; exact e)

theorem dm_both (s : ByteArray) (hs : s.size = 17) : ∃ (T : Dm.Dm) (E : Int),
    (∀ w, Calls Tryz.prog 108 #[.string s] w fun e w' => e = .returned (.tuple #[.agg (Dm.cellsD T), .int .i64 E]) ∧ Below w.heap.size w w') ∧
    (∀ w, Calls Tryz.prog 87 #[.string s] w fun e w' => e = .returned (.tuple #[.agg (Dm.cellsD T), .int .i64 E]) ∧ Below w.heap.size w w') ∧
    (E = 0 ∧ Dm.Wd T ∧ Dm.textV T = s ∨ ¬ E = 0 ∧ ∀ T', Dm.Wd T' → ¬ Dm.textV T' = s) := by
  by_cases h8 : byteAt s 16 ≤ 1
  · exact ⟨Dm.dmOf s, 0, fun W => Dm.parse_yes hs h8 W, fun W => Dm.rparse_all hs s (Dm.dmOf_text hs h8) _ _ (Or.inl ⟨by simp, rfl, rfl⟩) W, Or.inl ⟨rfl, Dm.dmOf_w s, Dm.dmOf_text hs h8⟩⟩
  · refine ⟨Dm.D0, 110, fun W => Dm.parse_no (by rw [hs]; decide) (fun h => h8 h.2) W, fun W => Dm.rparse_all hs _ rfl _ _ (Or.inr ⟨Ua.bytes_ne (Dm.dmOf_none h8), rfl, rfl⟩) W, Or.inr ⟨by decide, fun T' hT e => ?_⟩⟩
    have := Dm.text_back hT
    rw [e] at this
    exact Dm.dmOf_none h8 (by rw [this]; exact e)

theorem ua_both (s : ByteArray) (hl : s.size ≤ maxLen) : ∃ (T : Ua.Ua) (E : Int),
    (∀ w, Calls Tryz.prog 111 #[.string s] w fun e w' => e = .returned (.tuple #[.agg (Ua.cellsU T), .int .i64 E]) ∧ Below w.heap.size w w') ∧
    (∀ w, Calls Tryz.prog 88 #[.string s] w fun e w' => e = .returned (.tuple #[.agg (Ua.cellsU T), .int .i64 E]) ∧ Below w.heap.size w w') ∧
    (E = 0 ∧ Ua.Fits T ∧ Ua.textV T = s ∨ ¬ E = 0 ∧ ∀ T', Ua.Fits T' → ¬ Ua.textV T' = s) := by
  by_cases h : Ua.Good s
  · exact ⟨Ua.uaOf s, 0, fun W => Ua.parse_yes hl h W, fun W => Ua.rparse_any s hl _ _ (Or.inl ⟨h, rfl, rfl⟩) W, Or.inl ⟨rfl, (Ua.good_text h).1, (Ua.good_text h).2⟩⟩
  · refine ⟨Ua.U0, 100, fun W => Ua.parse_no hl h W, fun W => Ua.rparse_any s hl _ _ (Or.inr ⟨h, rfl, rfl⟩) W, Or.inr ⟨by decide, fun T' hT e => ?_⟩⟩
    have := (Ua.text_good hT).1
    rw [e] at this
    exact h this

/-- The rng's place that bytes tell, as it stands. -/
def rawG (s : ByteArray) : Rg := ⟨partsG s 0, partsG s 1, partsG s 2, partsG s 3⟩

theorem four_bytes {x : Int} (h0 : 0 ≤ x) (h1 : x < 4294967296) : ((Dm.be ((x / 16777216).toNat % 256) ((x / 65536 % 256).toNat % 256) ((x / 256 % 256).toNat % 256) ((x % 256).toNat % 256) : Nat) : Int) = x := Dm.be4_int ⟨h0, h1⟩

theorem rawG_text {g : Rg} (hg : Wg g) : rawG (textG g) = g := by
  obtain ⟨a, b, c, d⟩ := g
  obtain ⟨ha, hb, hc, hd⟩ := hg
  simp only at ha hb hc hd
  have e0 := four_bytes (x := a) ha.1 (by omega)
  have e1 := four_bytes (x := b) hb.1 (by omega)
  have e2 := four_bytes (x := c) hc.1 (by omega)
  have e3 := four_bytes (x := d) hd.1 (by omega)
  unfold rawG partsG
  rw [Dm.num4, Dm.num4, Dm.num4, Dm.num4]
  unfold textG quadsG fourG
  simp only [Dm.byteAt_nums, Dm.quad, List.take, List.flatMap_cons, List.flatMap_nil, List.cons_append, List.nil_append, List.map_cons, List.map_nil, List.append_nil, Nat.mul_zero, Nat.mul_one, Nat.reduceMul, Nat.reduceAdd, Nat.zero_add, List.getD_eq_getElem?_getD]
  simp only [List.getElem?_cons_zero, List.getElem?_cons_succ, Option.getD_some]
  rw [e0, e1, e2, e3]

theorem text_rawG {s : ByteArray} (hs : s.size = 16) : textG (rawG s) = s := by
  obtain ⟨⟨l⟩⟩ := s
  have hl : l.length = 16 := by simpa [ByteArray.size] using hs
  match l, hl with
  | [x0, x1, x2, x3, x4, x5, x6, x7, x8, x9, x10, x11, x12, x13, x14, x15], _ =>
    apply Ua.lst_ext
    have h1 := Dm.quad_be x0 x1 x2 x3
    have h2 := Dm.quad_be x4 x5 x6 x7
    have h3 := Dm.quad_be x8 x9 x10 x11
    have h4 := Dm.quad_be x12 x13 x14 x15
    show (strOfNums (quadsG (rawG _) 4)).data.toList = _
    have e : quadsG (rawG ⟨⟨[x0, x1, x2, x3, x4, x5, x6, x7, x8, x9, x10, x11, x12, x13, x14, x15]⟩⟩) 4 =
        Dm.quad ((Dm.be x0.toNat x1.toNat x2.toNat x3.toNat : Nat) : Int) ++ Dm.quad ((Dm.be x4.toNat x5.toNat x6.toNat x7.toNat : Nat) : Int) ++ Dm.quad ((Dm.be x8.toNat x9.toNat x10.toNat x11.toNat : Nat) : Int) ++ Dm.quad ((Dm.be x12.toNat x13.toNat x14.toNat x15.toNat : Nat) : Int) := by
      unfold quadsG fourG rawG partsG
      rw [Dm.num4, Dm.num4, Dm.num4, Dm.num4]
      rfl
    rw [e]
    have f : ∀ ns : List Int, (strOfNums ns).data.toList = ns.map fun n => UInt8.ofNat n.toNat := fun ns => rfl
    rw [f, List.map_append, List.map_append, List.map_append, h1, h2, h3, h4]
    rfl

theorem rg_both (s : ByteArray) (hs : s.size = 16) : ∃ (G : Rg) (ok : Bool),
    (∀ w, Calls Tryz.prog 109 #[.string s] w fun e w' => e = .returned (.tuple #[.agg (cellsG G), .bool ok]) ∧ Below w.heap.size w w') ∧
    (ok = true ∧ G = rawG s ∧ Wg G ∧ textG G = s ∨ ok = false ∧ (∃ j, j < 4 ∧ 65520 < partsG s j) ∧ ∀ G', Wg G' → ¬ textG G' = s) := by
  by_cases h : ∃ j, j < 4 ∧ 65520 < partsG s j
  · refine ⟨GZ, false, fun w => parseRng_any s hs _ _ (Or.inr ⟨h, rfl, rfl⟩) w, Or.inr ⟨rfl, h, fun G' hG e => ?_⟩⟩
    have := rawG_text hG
    rw [e] at this
    obtain ⟨j, hj, hlt⟩ := h
    have ha := hG.a
    have hb := hG.b
    have hc := hG.c
    have hd := hG.d
    rw [← this] at ha hb hc hd
    have k : ∀ i, i < 4 → partsG s i ≤ 65520 := fun i hi => by
      have : i = 0 ∨ i = 1 ∨ i = 2 ∨ i = 3 := by omega
      rcases this with rfl | rfl | rfl | rfl
      · exact ha.2
      · exact hb.2
      · exact hc.2
      · exact hd.2
    exact absurd hlt (Int.not_lt.2 (k j hj))
  · have h' : ∀ j, j < 4 → partsG s j ≤ 65520 := fun j hj => by
      by_cases e : partsG s j ≤ 65520
      · exact e
      · exact absurd ⟨j, hj, by omega⟩ h
    exact ⟨rawG s, true, fun w => parseRng_any s hs _ _ (Or.inl ⟨h', rfl, rfl⟩) w, Or.inl ⟨rfl, rfl,
      ⟨⟨(partsG_w s 0).1, h' 0 (by omega)⟩, ⟨(partsG_w s 1).1, h' 1 (by omega)⟩, ⟨(partsG_w s 2).1, h' 2 (by omega)⟩, ⟨(partsG_w s 3).1, h' 3 (by omega)⟩⟩, text_rawG hs⟩⟩

end Go.Proofs.YtdapjpbdplhgbaaGreat
