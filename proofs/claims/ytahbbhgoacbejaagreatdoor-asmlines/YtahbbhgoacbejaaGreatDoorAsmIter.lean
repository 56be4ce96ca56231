/- Going over an instruction's fields: what is handed out, in which order. -/
import Derived.Test.YtahbbhgoacbejaaGreatDoorAsmWalks2
set_option linter.unusedVariables false
set_option linter.unusedSimpArgs false
namespace Go.Proofs.YtahbbhgoacbejaaGreatDoor
open Go.RowKit Go.Shelf Go.Joins
attribute [local go_sem] Oper.semAt_some

/-- One handing out: the marks, and which number. -/
abbrev Asm.Rd := { p : List UInt8 × Option Nat // p.1.length ≤ 2 ∧ ∀ k, p.2 = some k → k < 5 }
def Asm.encs (Bi : Nat) (x : Asm.Rd) : Array Value := #[.string ⟨x.1.1.toArray⟩, .pointer (x.1.2.map fun k => ⟨Bi, k + 1, none⟩)]

def Asm.okR (p : List UInt8 × Option Nat) : Bool := decide (p.1.length ≤ 2) && (match p.2 with | some k => decide (k < 5) | none => true)
theorem Asm.okR_of {p : List UInt8 × Option Nat} (h : Asm.okR p = true) : p.1.length ≤ 2 ∧ ∀ k, p.2 = some k → k < 5 := by
  obtain ⟨m, k⟩ := p
  cases k with
  | none => simp [Asm.okR] at h; exact ⟨h, fun k e => by cases e⟩
  | some k => simp [Asm.okR] at h; exact ⟨h.1, fun k' e => by cases e; exact h.2⟩
theorem Asm.rounds_ok : ∀ f < 20, ∀ p ∈ Asm.rounds f, Asm.okR p = true := by decide +kernel
theorem Asm.rounds_few : ∀ f < 20, (Asm.rounds f).length ≤ 4 := by decide +kernel

theorem Asm.rs (f : Nat) (hf : f < 20) : ∃ xs : List Asm.Rd, xs.map (·.1) = Asm.rounds f :=
  ⟨(Asm.rounds f).attachWith _ fun p hp => Asm.okR_of (Asm.rounds_ok f hf p hp), List.attachWith_map_subtype_val _⟩

def Asm.parted : List UInt8 → List (List UInt8 × Option Nat) → Bool
  | left, [] => left.isEmpty
  | left, (m, none) :: r => r.isEmpty && left == m && !m.isEmpty && (Lib.indexAny left Asm.letters == -1)
  | left, (m, some k) :: r => (Lib.indexAny left Asm.letters == (m.length : Int)) && left.take m.length == m && left[m.length]? == Asm.letters[k]? && decide (k < 5) && Asm.parted (left.drop (m.length + 1)) r

theorem Asm.pic_parted : ∀ f < 20, Asm.parted (Asm.pic f) (Asm.rounds f) = true := by decide +kernel
theorem Asm.pic_small : ∀ f < 20, (Asm.pic f).length ≤ 10 ∧ (Asm.pic f).all (fun b => decide (b.toNat < 128)) = true := by decide +kernel

theorem grown_of {w w' : World} (h : Below w.heap.size w w') : w.grownBy w' none := ⟨h.os, h.tape, h.output, h.size, fun k hk _ => h.block k hk⟩
theorem abides {β : Type} {B : Nat} {J : β → World → Prop} (hJ : AbidesFrom B J) {s : β} {w w' : World} (h : J s w) (hb : Below w.heap.size w w') : J s w' :=
  hJ s w w' none h (grown_of hb) (fun r e => by cases e)

/-- A text of few plain bytes. -/
def Asm.few (l : List UInt8) : Prop := l.length ≤ 10 ∧ l.all (fun b => decide (b.toNat < 128)) = true

theorem Asm.few.drop {l : List UInt8} (h : Asm.few l) (k : Nat) : Asm.few (l.drop k) := by
  refine ⟨by have := h.1; simp; omega, ?_⟩
  have h2 := h.2
  rw [List.all_eq_true] at h2 ⊢
  exact fun b hb => h2 b (List.mem_of_mem_drop hb)

theorem index_any (l : List UInt8) (h : Asm.few l) (w : World) :
    Calls Tryz.prog 52 #[.string ⟨l.toArray⟩, .string ⟨#[115, 116, 100, 97, 105]⟩] w fun e w' => e = .returned (.int .i64 (Lib.indexAny l Asm.letters)) ∧ Below w.heap.size w w' := by
  have hz : (⟨l.toArray⟩ : ByteArray).size = l.length := rfl
  refine Tryz.strings_IndexAny_laid ⟨l.toArray⟩ _ w ?_ (by decide) (ascii_of_all h.2) (ascii_of_all (by decide))
  have := h.1
  omega

theorem wrap_few (x : Int) (h0 : 0 ≤ x) (h1 : x ≤ 1000) : wrap64 x = x := wrap64_id x (by omega) (by omega)

/-- Behind a stretch of code that ends as it should. -/
def Asm.QN (R : Act → World → Prop) : Exit → Act → World → Prop
  | .normal, a, w => R a w
  | _, _, _ => False

def Asm.len : Value → Nat
  | .string s => s.size
  | _ => 0

theorem iter_more (left m nx : List UInt8) (hlt : m.length < left.length) (hfew : Asm.few left) (hnx : left.drop (m.length + 1) = nx) :
    Hid (Asm.few nx) ∧ Hid (nx.length < left.length) ∧ Hid ((⟨left.toArray⟩ : ByteArray).extract (wrap64 ((m.length : Int) + 1)).toNat left.length = ⟨nx.toArray⟩) ∧ (0 : Int) ≤ wrap64 ((m.length : Int) + 1) ∧ wrap64 ((m.length : Int) + 1) ≤ (left.length : Int) ∧
    ∀ W, Calls Tryz.prog 52 #[.string ((⟨left.toArray⟩ : ByteArray).extract (wrap64 ((m.length : Int) + 1)).toNat left.length), .string ⟨#[115, 116, 100, 97, 105]⟩] W fun e w' => e = .returned (.int .i64 (Lib.indexAny nx Asm.letters)) ∧ Below W.heap.size W w' := by
  have h10 := hfew.1
  have ew := wrap_few ((m.length : Int) + 1) (by omega) (by omega)
  have hfn : Asm.few nx := by rw [← hnx]; exact hfew.drop _
  have hdrop : (⟨left.toArray⟩ : ByteArray).extract (wrap64 ((m.length : Int) + 1)).toNat left.length = ⟨nx.toArray⟩ := by
    rw [ew, ← hnx, show ((m.length : Int) + 1).toNat = m.length + 1 by omega]
    apply ByteArray.ext
    apply Array.ext'
    simp [ByteArray.data_extract]
    exact List.take_of_length_le (by simp)
  refine ⟨hide hfn, hide (by rw [← hnx]; simp; omega), hide hdrop, by rw [ew]; omega, by rw [ew]; omega, ?_⟩
  rw [hdrop]
  exact fun W => index_any nx hfn W

set_option maxHeartbeats 4000000 in
set_option maxRecDepth 100000 in
theorem iter_stops (n : Nat) (hn : 1 ≤ n) (Bx Bi op : Nat) (ho : op < 69) (xs : List Asm.Rd) (hxs : xs.map (·.1) = Asm.rounds (Dec.fm op)) (w : World) (tb : Tabs w)
    (hx : w.cell? ⟨Bx, 0, none⟩ = some (.pointer (some ⟨Bi, 0, none⟩))) (hi : w.cell? ⟨Bi, 0, none⟩ = some (.int .i64 (op : Int))) (hBx : Bx < w.heap.size) (hBi : Bi < w.heap.size) :
    SeqStopsK Fence.wide n Tryz.prog 49 #[.pointer (some ⟨Bx, 0, none⟩)] (Asm.encs Bi) (fun W W' => W'.cell? ⟨Bx, 0, none⟩ = W.cell? ⟨Bx, 0, none⟩) (fun ys => ys = xs) (fun pre => pre <+: xs) 4 w := fun l J Jx W hW hJ hJx hY h0 => by
  have hF : ∀ W, Tabs W → Calls Tryz.prog 51 #[.int .i64 (op : Int)] W fun e w' => e = .returned (.string (Dec.lname (Dec.fm op))) ∧ Below W.heap.size W w' := fun W tb => by
    have := form_any (op : Int) W tb
    rwa [show idx (op : Int) = op from by unfold idx; rw [if_pos (by omega)]; simp] at this
  have hP := fun W => picture_any (Dec.fm op) (Dec.fm_lt op ho).2 W
  have tbW := tb.on hW
  have hxW : W.cell? ⟨Bx, 0, none⟩ = some (.pointer (some ⟨Bi, 0, none⟩)) := (hW.cell (p := ⟨Bx, 0, none⟩) hBx).trans hx
  have hiW : W.cell? ⟨Bi, 0, none⟩ = some (.int .i64 (op : Int)) := (hW.cell (p := ⟨Bi, 0, none⟩) hBi).trans hi
  have hpt := Asm.pic_parted _ (Dec.fm_lt op ho).2
  have hfew : Asm.few (Asm.pic (Dec.fm op)) := Asm.pic_small _ (Dec.fm_lt op ho).2
  rw [← hxs] at hpt
  have hlen : xs.length ≤ 4 := by
    have := Asm.rounds_few _ (Dec.fm_lt op ho).2
    rw [← hxs] at this
    simpa using this
  generalize Dec.lname (Dec.fm op) = nm at *
  generalize Asm.pic (Dec.fm op) = pc at *
  clear hxs
  refine callsIn_of_wp Tryz.func49 rfl trivial ?_ rfl
  simp only [Tryz.ntmps49, List.size_toArray, List.length_cons, List.length_nil, Nat.reduceAdd, Nat.reduceSub, Array.replicate_succ, Array.replicate_zero, List.push_toArray, List.append_toArray, List.nil_append, List.cons_append]
  gi_wp2_with fail
  refine ⟨trivial, ?_⟩
  refine (callsIn_wide.2 (hF _ tbW)).mono ?_
  rintro e w1 ⟨rfl, hb1⟩
  gi_wp2_with fail
  refine ⟨trivial, ?_⟩
  refine (callsIn_wide.2 (hP _)).mono ?_
  rintro e w2 ⟨rfl, rfl⟩
  gi_wp2_with fail
  refine ⟨trivial, ?_⟩
  refine (callsIn_wide.2 (index_any pc hfew _)).mono ?_
  rintro e w3 ⟨rfl, hb3⟩
  have hJ3 := abides hJ h0 (onto hb1 hb3)
  have hx3 : w3.cell? ⟨Bx, 0, none⟩ = some (.pointer (some ⟨Bi, 0, none⟩)) := ((onto hb1 hb3).cell (p := ⟨Bx, 0, none⟩) (show Bx < W.heap.size by have := hW.size; omega)).trans hxW
  clear hF hP h0 hxW hiW tbW hx hi hb1 hb3 hBx hBi hW tb
  gi_wp2_with fail
  gi_loopw [3, 4] (fun s a wr => ∃ (pre rest : List Asm.Rd) (left : List UInt8), s = .string ⟨left.toArray⟩ ∧ a = .int .i64 (Lib.indexAny left Asm.letters) ∧ Hid (xs = pre ++ rest) ∧ Hid (Asm.parted left (rest.map (·.1)) = true) ∧ Hid (Asm.few left) ∧
      wr.cell? ⟨Bx, 0, none⟩ = some (.pointer (some ⟨Bi, 0, none⟩)) ∧ Hid (J pre wr)) (fun s _ _ => Asm.len s)
  case atStart => exact ⟨[], xs, pc, rfl, rfl, hide rfl, hide hpt, hide hfew, hx3, hide hJ3⟩
  case round =>
    obtain ⟨pre, rest, left, rfl, rfl, hxe, hpt, hfew, hx3, hJ3⟩ := hrel
    have hpre : pre.length + rest.length ≤ 4 := by have := hxe.out; rw [this] at hlen; simpa using hlen
    match rest, hxe, hpt, hpre with
    | [], hxe, hpt, hpre =>
      have hl : left = [] := by have := hpt.out; simpa [Asm.parted] using this
      subst hl
      have hxp : xs = pre := by have := hxe.out; simpa using this
      have e1 : Lib.indexAny [] Asm.letters = -1 := rfl
      rw [e1]
      gi_wp2_with fail
      go_end0
      exact ⟨⟨_, rfl⟩, .inl ⟨pre, hxp.symm, hJ3.out⟩⟩
    | ⟨(m, none), hx⟩ :: r, hxe, hpt, hpre =>
      have hp := hpt.out
      simp [Asm.parted] at hp
      obtain ⟨⟨⟨rfl, rfl⟩, hne⟩, hix⟩ := hp
      rw [hix]
      have hq : left.isEmpty = false := by simpa using hne
      obtain ⟨fn, tmps, assign, body, hy, hR⟩ := hY pre ⟨(left, none), hx⟩ wr hJ3.out (by simp at hpre; omega)
      dsimp only [Asm.encs, Option.map_none] at hy
      have hxp : pre ++ [⟨(left, none), hx⟩] = xs := by have := hxe.out; simpa using this.symm
      gi_wp2_with fail
      refine hR.mono ?_
      rintro e W' (⟨rfl, hJ', hk⟩ | ⟨rfl, hJx'⟩)
      · gi_wp2
        go_end0
        exact ⟨⟨_, rfl⟩, .inl ⟨_, hxp, hJ'⟩⟩
      · gi_wp2
        go_end0
        exact ⟨⟨_, rfl⟩, .inr ⟨_, by rw [hxp]; exact List.prefix_refl _, hJx'⟩⟩
    | ⟨(m, some k), hx⟩ :: r, hxe, hpt, hpre =>
      have hp := hpt.out
      simp [Asm.parted] at hp
      obtain ⟨⟨⟨⟨hix, htk⟩, hlet⟩, hk5⟩, hpr⟩ := hp
      rw [hix]
      obtain ⟨c, hc⟩ : ∃ c, Asm.letters[k]? = some c := ⟨_, List.getElem?_eq_getElem (by simp [Asm.letters]; omega)⟩
      rw [hc] at hlet
      obtain ⟨hlt, hget⟩ := List.getElem?_eq_some_iff.mp hlet
      have hz : (⟨left.toArray⟩ : ByteArray).size = left.length := rfl
      have c1 : (m.length : Int) ≤ ((⟨left.toArray⟩ : ByteArray).size : Int) := by rw [hz]; omega
      have c2 : (m.length : Int) < ((⟨left.toArray⟩ : ByteArray).size : Int) := by rw [hz]; omega
      have hmix : Tryz.prog.follows .mixedOrders = true := by kernel_rfl
      have hJd : J pre wr.drew := abides hJ hJ3.out (Below.refl _ _).drew
      obtain ⟨fn, tmps, assign, body, hy, hR⟩ := hY pre ⟨(m, some k), hx⟩ wr.drew hJd (by simp at hpre; omega)
      dsimp only [Asm.encs, Option.map_some] at hy
      have hR2 := hR.mono (R' := fun e W' => ∃ b, e = .returned (.bool b) ∧ ((b = true ∧ J (pre ++ [⟨(m, some k), hx⟩]) W' ∧ W'.cell? ⟨Bx, 0, none⟩ = wr.drew.cell? ⟨Bx, 0, none⟩) ∨ (b = false ∧ Jx (pre ++ [⟨(m, some k), hx⟩]) W'))) (by
        rintro e W' (⟨rfl, a, b⟩ | ⟨rfl, a⟩)
        · exact ⟨true, rfl, .inl ⟨rfl, a, b⟩⟩
        · exact ⟨false, rfl, .inr ⟨rfl, a⟩⟩)
      clear hR
      have hcd : (⟨left.toArray⟩ : ByteArray)[m.length]'(by rw [hz]; omega) = c := hget
      have hpl : ∀ W, Calls Tryz.prog 53 #[.pointer (some ⟨Bi, 0, none⟩), .int .u8 ((⟨left.toArray⟩ : ByteArray)[m.length]'(by rw [hz]; omega)).toNat] W fun e w' => e = .returned (.pointer (some ⟨Bi, k + 1, none⟩)) ∧ w' = W := fun W => by
        rw [hcd]
        exact place_any Bi k hk5 c hc W
      have hmark : (⟨left.toArray⟩ : ByteArray).extract 0 m.length = ⟨m.toArray⟩ := by
        rw [bytes_of]
        show (⟨(left.take m.length).toArray⟩ : ByteArray) = _
        rw [htk]
      clear hcd hget hlet
      have hxn : Hid (xs = (pre ++ [⟨(m, some k), hx⟩]) ++ r) := hide (by have := hxe.out; simpa using this)
      gi_wp2_with fail
      obtain ⟨RR, hRR⟩ : ∃ RR : Act → World → Prop, Hid (RR = fun a' W' => ∃ b v24, a' = { tmps := #[.func (.yield l) #[] #[], .pointer (some ⟨Bx, 0, none⟩), undef, .string ⟨left.toArray⟩, .int .i64 (m.length : Int), .pointer (some ⟨Bi, 0, none⟩), .pointer (some ⟨Bi, 0, none⟩), .pointer (some ⟨Bi, 0, none⟩), .int .i64 (op : Int), .string nm, .string ⟨pc.toArray⟩, .string ⟨pc.toArray⟩, .int .i64 (Lib.indexAny pc Asm.letters), .int .i64 (m.length : Int), .bool true, u15, u16, .func (.yield l) #[] #[], .string ⟨left.toArray⟩, .int .i64 (m.length : Int), .string ⟨m.toArray⟩, .pointer (some ⟨Bi, 0, none⟩), .string ⟨left.toArray⟩, .int .i64 (m.length : Int), v24, .pointer (some ⟨Bi, k + 1, none⟩), .bool b, .bool (!b), u28, u29, u30, u31, undef, undef, undef, undef, undef], defers := [] } ∧ ((b = true ∧ J (pre ++ [⟨(m, some k), hx⟩]) W' ∧ W'.cell? ⟨Bx, 0, none⟩ = wr.drew.cell? ⟨Bx, 0, none⟩) ∨ (b = false ∧ Jx (pre ++ [⟨(m, some k), hx⟩]) W'))) := ⟨_, hide rfl⟩
      refine wpIn_mono (Q := Asm.QN RR) ?reg ?rest
      case reg =>
        gi_region_with_o (first | (refine ⟨trivial, ?_⟩; gi_at_call 53; refine (callsIn_wide.2 (hpl _)).mono ?_; rintro e w' ⟨rfl, rfl⟩) | (refine hR2.mono ?_; rintro e W' ⟨b, rfl, hbb⟩))
        all_goals (show RR _ _; rw [hRR.out]; exact ⟨_, _, rfl, hbb⟩)
      case rest =>
        intro ex a' W' hq
        cases ex
        case normal =>
          have hq : RR a' W' := hq
          rw [hRR.out] at hq
          obtain ⟨b, v24, rfl, hbb⟩ := hq
          clear hRR
          rcases hbb with ⟨rfl, hJ', hk'⟩ | ⟨rfl, hJx'⟩
          · have hx' : W'.cell? ⟨Bx, 0, none⟩ = some (.pointer (some ⟨Bi, 0, none⟩)) := hk'.trans hx3
            replace hJ' := hide hJ'
            obtain ⟨nx, hnx⟩ : ∃ nx, left.drop (m.length + 1) = nx := ⟨_, rfl⟩
            obtain ⟨hfn, hln, hdrop, c4, c5, hidx⟩ := iter_more left m nx hlt hfew.out hnx
            rw [hnx] at hpr
            replace hpr := hide hpr
            clear hk' hR2 hy hpl hmark hJ3 hJd hY hnx hfew hpt htk hlt c1 c2 hix hk5 hc hz hpre hlen hxe
            gi_wp2_with fail
            refine ⟨trivial, ?_⟩
            refine (callsIn_wide.2 (hidx _)).mono ?_
            rintro e w4 ⟨rfl, hb4⟩
            have hx4 : w4.cell? ⟨Bx, 0, none⟩ = some (.pointer (some ⟨Bi, 0, none⟩)) := (hb4.cell (p := ⟨Bx, 0, none⟩) (cell_in hx')).trans hx'
            have hJ4 := hide (abides hJ hJ'.out hb4)
            clear hJ' hx' hb4
            gi_wp2
            go_roundw
            case rel => exact ⟨_, r, nx, by rw [hdrop.out], rfl, hxn, hpr, hfn, hx4, hJ4⟩
            case measure =>
              rw [hdrop.out]
              exact hln.out
          · gi_wp2
            refine bodyPost_ret (results_none rfl _ _ _) rfl ?_
            exact ⟨⟨_, rfl⟩, .inr ⟨_, ⟨r, hxn.out.symm⟩, hJx'⟩⟩
        all_goals exact (show False from hq).elim

end Go.Proofs.YtahbbhgoacbejaaGreatDoor
