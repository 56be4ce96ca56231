/- The plain arithmetic of words as instructions: the table, the word that fields are laid to, the fields that are drawn of a word, and that no word is that of two ops. -/
import Derived.Laws.BitsAllLaws
import Derived.WalkKit
import Derived.RowKit3
set_option linter.unusedVariables false
namespace Go.Proofs.YtahbbhgoacbejaaGreatDoor
open Go

def Dec.forms : List Nat := [1, 1, 1, 2, 2, 2, 3, 4, 5, 5, 6, 6, 7, 8, 7, 8, 9, 9, 9, 9, 5, 5, 5, 5, 5, 5, 5, 5, 5, 5, 9, 9, 5, 10, 10, 11, 11, 11, 11, 12, 12, 13, 13, 11, 11, 14, 14, 14, 14, 15, 15, 15, 16, 17, 17, 18, 18, 18, 18, 19, 19, 19, 19, 19, 19, 19, 19, 19, 19]

def Dec.majors : List Nat := [0, 0, 0, 0, 0, 0, 0, 0, 0, 0, 0, 0, 0, 0, 0, 0, 0, 0, 0, 0, 0, 0, 0, 0, 0, 0, 0, 0, 0, 0, 0, 0, 28, 28, 28, 1, 1, 1, 1, 2, 3, 4, 5, 6, 7, 8, 9, 10, 11, 12, 13, 14, 15, 16, 16, 16, 16, 16, 16, 32, 33, 35, 36, 37, 40, 41, 43, 48, 56]

def Dec.minors : List Nat := [0, 2, 3, 4, 6, 7, 8, 9, 10, 11, 12, 13, 16, 17, 18, 19, 24, 25, 26, 27, 32, 33, 34, 35, 36, 37, 38, 39, 42, 43, 52, 54, 2, 32, 33, 0, 1, 16, 17, 0, 0, 0, 0, 0, 0, 0, 0, 0, 0, 0, 0, 0, 0, 0, 4, 1, 2, 8, 24, 0, 0, 0, 0, 0, 0, 0, 0, 0, 0]

def Dec.names : List ByteArray := [⟨#[115, 108, 108]⟩, ⟨#[115, 114, 108]⟩, ⟨#[115, 114, 97]⟩, ⟨#[115, 108, 108, 118]⟩, ⟨#[115, 114, 108, 118]⟩, ⟨#[115, 114, 97, 118]⟩, ⟨#[106, 114]⟩, ⟨#[106, 97, 108, 114]⟩, ⟨#[109, 111, 118, 122]⟩, ⟨#[109, 111, 118, 110]⟩, ⟨#[115, 121, 115, 99, 97, 108, 108]⟩, ⟨#[98, 114, 101, 97, 107]⟩, ⟨#[109, 102, 104, 105]⟩, ⟨#[109, 116, 104, 105]⟩, ⟨#[109, 102, 108, 111]⟩, ⟨#[109, 116, 108, 111]⟩, ⟨#[109, 117, 108, 116]⟩, ⟨#[109, 117, 108, 116, 117]⟩, ⟨#[100, 105, 118]⟩, ⟨#[100, 105, 118, 117]⟩, ⟨#[97, 100, 100]⟩, ⟨#[97, 100, 100, 117]⟩, ⟨#[115, 117, 98]⟩, ⟨#[115, 117, 98, 117]⟩, ⟨#[97, 110, 100]⟩, ⟨#[111, 114]⟩, ⟨#[120, 111, 114]⟩, ⟨#[110, 111, 114]⟩, ⟨#[115, 108, 116]⟩, ⟨#[115, 108, 116, 117]⟩, ⟨#[116, 101, 113]⟩, ⟨#[116, 110, 101]⟩, ⟨#[109, 117, 108]⟩, ⟨#[99, 108, 122]⟩, ⟨#[99, 108, 111]⟩, ⟨#[98, 108, 116, 122]⟩, ⟨#[98, 103, 101, 122]⟩, ⟨#[98, 108, 116, 122, 97, 108]⟩, ⟨#[98, 103, 101, 122, 97, 108]⟩, ⟨#[106]⟩, ⟨#[106, 97, 108]⟩, ⟨#[98, 101, 113]⟩, ⟨#[98, 110, 101]⟩, ⟨#[98, 108, 101, 122]⟩, ⟨#[98, 103, 116, 122]⟩, ⟨#[97, 100, 100, 105]⟩, ⟨#[97, 100, 100, 105, 117]⟩, ⟨#[115, 108, 116, 105]⟩, ⟨#[115, 108, 116, 105, 117]⟩, ⟨#[97, 110, 100, 105]⟩, ⟨#[111, 114, 105]⟩, ⟨#[120, 111, 114, 105]⟩, ⟨#[108, 117, 105]⟩, ⟨#[109, 102, 99, 48]⟩, ⟨#[109, 116, 99, 48]⟩, ⟨#[116, 108, 98, 114]⟩, ⟨#[116, 108, 98, 119, 105]⟩, ⟨#[116, 108, 98, 112]⟩, ⟨#[101, 114, 101, 116]⟩, ⟨#[108, 98]⟩, ⟨#[108, 104]⟩, ⟨#[108, 119]⟩, ⟨#[108, 98, 117]⟩, ⟨#[108, 104, 117]⟩, ⟨#[115, 98]⟩, ⟨#[115, 104]⟩, ⟨#[115, 119]⟩, ⟨#[108, 108]⟩, ⟨#[115, 99]⟩]

def Dec.fnames : List ByteArray := [⟨#[]⟩, ⟨#[83, 72]⟩, ⟨#[83, 86]⟩, ⟨#[74, 82]⟩, ⟨#[74, 65, 76, 82]⟩, ⟨#[82]⟩, ⟨#[78]⟩, ⟨#[77, 70]⟩, ⟨#[77, 84]⟩, ⟨#[77, 68]⟩, ⟨#[67, 76]⟩, ⟨#[66, 90]⟩, ⟨#[74]⟩, ⟨#[66, 50]⟩, ⟨#[73]⟩, ⟨#[73, 85]⟩, ⟨#[76, 85, 73]⟩, ⟨#[67, 48]⟩, ⟨#[67, 79]⟩, ⟨#[77]⟩]

def Dec.name (op : Nat) : ByteArray := Dec.names.getD op ⟨#[]⟩
def Dec.lname (f : Nat) : ByteArray := Dec.fnames.getD f ⟨#[]⟩

def Dec.fm (op : Nat) : Nat := Dec.forms.getD op 0
def Dec.mj (op : Nat) : Nat := Dec.majors.getD op 0
def Dec.mn (op : Nat) : Nat := Dec.minors.getD op 0

def Dec.lregs (f : Nat) : Nat := [0, 2097088, 67106816, 65011712, 65075200, 67106816, 0, 63488, 65011712, 67043328, 65075200, 65011712, 0, 67043328, 67043328, 67043328, 2031616, 2095104, 0, 67043328].getD f 0
def Dec.limm (f : Nat) : Nat := [0, 0, 0, 0, 0, 0, 0, 0, 0, 0, 0, 65535, 67108863, 65535, 65535, 65535, 65535, 0, 0, 65535].getD f 0
def Dec.lsigned (f : Nat) : Bool := [false, false, false, false, false, false, false, false, false, false, false, true, false, true, true, false, false, false, false, true].getD f false
def Dec.lagain (f : Nat) : Nat := [0, 0, 0, 0, 0, 0, 0, 0, 0, 0, 2031616, 0, 0, 0, 0, 0, 0, 0, 0, 0].getD f 0
def Dec.lat (f : Nat) : Nat := [0, 0, 0, 0, 0, 0, 0, 0, 0, 0, 0, 16, 0, 0, 0, 0, 0, 21, 0, 0].getD f 0
def Dec.lmark (f : Nat) : Nat := [0, 0, 0, 0, 0, 0, 0, 0, 0, 0, 0, 0, 0, 0, 0, 0, 0, 0, 33554432, 0].getD f 0

def Dec.opened (f : Nat) : Nat := Dec.lregs f ||| Dec.limm f ||| Dec.lagain f
def Dec.shut (f : Nat) : Nat := 4294967295 - Dec.opened f
def Dec.fixed (op : Nat) : Nat := Dec.mj op * 67108864 ||| Dec.mn op * 2 ^ Dec.lat (Dec.fm op) ||| Dec.lmark (Dec.fm op)
def Dec.low (x : Int) : Nat := (x % 32).toNat
def Dec.regs (s t d a : Int) : Nat := Dec.low s * 2097152 ||| Dec.low t * 65536 ||| Dec.low d * 2048 ||| Dec.low a * 64
def Dec.laid (op : Nat) (s t d a i : Int) : Nat :=
  Dec.fixed op ||| (Dec.regs s t d a &&& Dec.lregs (Dec.fm op)) ||| (Dec.low d * 65536 &&& Dec.lagain (Dec.fm op)) ||| ((i % 4294967296).toNat &&& Dec.limm (Dec.fm op))

def Dec.sign (n : Nat) : Int := if n % 65536 < 32768 then ((n % 65536 : Nat) : Int) else ((n % 65536 : Nat) : Int) - 65536
def Dec.ds (op w : Nat) : Nat := (w &&& Dec.lregs (Dec.fm op)) / 2097152 % 32
def Dec.dt (op w : Nat) : Nat := (w &&& Dec.lregs (Dec.fm op)) / 65536 % 32
def Dec.dd (op w : Nat) : Nat := (w &&& Dec.lregs (Dec.fm op)) / 2048 % 32
def Dec.da (op w : Nat) : Nat := (w &&& Dec.lregs (Dec.fm op)) / 64 % 32
def Dec.di (op w : Nat) : Int := if Dec.lsigned (Dec.fm op) then Dec.sign (w &&& Dec.limm (Dec.fm op)) else ((w &&& Dec.limm (Dec.fm op) : Nat) : Int)

/-- Is the word the one that its own fields are laid to, read as the op's? -/
def Dec.is (w op : Nat) : Bool := Dec.laid op (Dec.ds op w) (Dec.dt op w) (Dec.dd op w) (Dec.da op w) (Dec.di op w) == w

theorem Dec.fm_lt : ∀ op < 69, 1 ≤ Dec.fm op ∧ Dec.fm op < 20 := by decide +kernel

theorem Dec.regs_shut : ∀ f < 20, Dec.lregs f &&& Dec.shut f = 0 := by decide +kernel
theorem Dec.imm_shut : ∀ f < 20, Dec.limm f &&& Dec.shut f = 0 := by decide +kernel
theorem Dec.again_shut : ∀ f < 20, Dec.lagain f &&& Dec.shut f = 0 := by decide +kernel
theorem Dec.shut_lt : ∀ f < 20, Dec.shut f < 4294967296 ∧ Dec.shut f / 67108864 = 63 := by decide +kernel
theorem Dec.fixed_shut : ∀ op < 69, Dec.fixed op &&& Dec.shut (Dec.fm op) = Dec.fixed op ∧ Dec.fixed op / 67108864 = Dec.mj op ∧ Dec.fixed op < 4294967296 := by decide +kernel
theorem Dec.masks_lt : ∀ f < 20, Dec.lregs f < 4294967296 ∧ Dec.limm f < 4294967296 ∧ Dec.lagain f < 4294967296 ∧ Dec.opened f < 4294967296 := by decide +kernel

theorem Dec.apart : ∀ a < 69, ∀ b < 69, (Dec.fixed a &&& Dec.shut (Dec.fm b) == Dec.fixed b &&& Dec.shut (Dec.fm a)) = true → a = b := by decide +kernel

theorem Dec.under (x m s : Nat) (h : m &&& s = 0) : (x &&& m) &&& s = 0 := by rw [Nat.and_assoc, h, Nat.and_zero]

theorem Dec.laid_shut (op : Nat) (h : op < 69) (s t d a i : Int) : Dec.laid op s t d a i &&& Dec.shut (Dec.fm op) = Dec.fixed op := by
  have hf := (Dec.fm_lt op h).2
  unfold Dec.laid
  rw [Nat.and_or_distrib_right, Nat.and_or_distrib_right, Nat.and_or_distrib_right, (Dec.fixed_shut op h).1,
    Dec.under _ _ _ (Dec.regs_shut _ hf), Dec.under _ _ _ (Dec.again_shut _ hf), Dec.under _ _ _ (Dec.imm_shut _ hf)]
  simp

theorem Dec.laid_lt (op : Nat) (h : op < 69) (s t d a i : Int) : Dec.laid op s t d a i < 4294967296 := by
  obtain ⟨h1, h2, h3, -⟩ := Dec.masks_lt _ (Dec.fm_lt op h).2
  exact Nat.or_lt_two_pow (n := 32) (Nat.or_lt_two_pow (Nat.or_lt_two_pow (Dec.fixed_shut op h).2.2 (Nat.lt_of_le_of_lt Nat.and_le_right h1)) (Nat.lt_of_le_of_lt Nat.and_le_right h3)) (Nat.lt_of_le_of_lt Nat.and_le_right h2)

theorem Dec.major_of_shut (op w : Nat) (h : op < 69) (hw : w < 4294967296) (e : w &&& Dec.shut (Dec.fm op) = Dec.fixed op) : w / 67108864 = Dec.mj op := by
  have hs := (Dec.shut_lt _ (Dec.fm_lt op h).2).2
  have hm := (Dec.fixed_shut op h).2.1
  rw [← e] at hm
  have e2 : (w &&& Dec.shut (Dec.fm op)) / 67108864 = (w / 67108864) &&& (Dec.shut (Dec.fm op) / 67108864) := by
    have := Nat.shiftRight_and_distrib (a := w) (b := Dec.shut (Dec.fm op)) (i := 26)
    simpa [Nat.shiftRight_eq_div_pow] using this
  rw [e2, hs] at hm
  rw [← hm, nat_mask6]
  omega

/-- What tells an op in a word: a word that is laid to has it. -/
theorem Dec.is_shut {w op : Nat} (h : op < 69) (e : Dec.is w op = true) : w &&& Dec.shut (Dec.fm op) = Dec.fixed op := by
  have e := eq_of_beq e
  have := Dec.laid_shut op h (Dec.ds op w) (Dec.dt op w) (Dec.dd op w) (Dec.da op w) (Dec.di op w)
  rw [e] at this
  exact this

theorem Dec.one {w a b : Nat} (ha : a < 69) (hb : b < 69) (ea : w &&& Dec.shut (Dec.fm a) = Dec.fixed a) (eb : w &&& Dec.shut (Dec.fm b) = Dec.fixed b) : a = b := by
  refine Dec.apart a ha b hb ?_
  rw [← ea, ← eb, Nat.and_assoc, Nat.and_assoc, Nat.and_comm (Dec.shut (Dec.fm a))]
  simp

/-- The op whose word a word is. -/
def Dec.find (w : Nat) : Option Nat := (List.range 69).find? (Dec.is w)

theorem Dec.find_some {w op : Nat} (h : op < 69) (e : Dec.is w op = true) : Dec.find w = some op := by
  unfold Dec.find
  cases hf : (List.range 69).find? (Dec.is w) with
  | none =>
    have := List.find?_eq_none.mp hf op (List.mem_range.mpr h)
    exact absurd e this
  | some b =>
    have hb := List.find?_some hf
    have hm := List.mem_range.mp (List.mem_of_find?_eq_some hf)
    rw [Dec.one hm h (Dec.is_shut hm hb) (Dec.is_shut h e)]

theorem Dec.of_find {w op : Nat} (e : Dec.find w = some op) : op < 69 ∧ Dec.is w op = true :=
  ⟨List.mem_range.mp (List.mem_of_find?_eq_some e), List.find?_some e⟩

theorem Dec.find_none {w : Nat} (h : ∀ op < 69, Dec.is w op = false) : Dec.find w = none := by
  refine List.find?_eq_none.mpr fun op ho => ?_
  rw [h op (List.mem_range.mp ho)]
  decide

end Go.Proofs.YtahbbhgoacbejaaGreatDoor
