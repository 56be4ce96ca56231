/- The plain arithmetic of words as instructions: the table, the word that fields are laid to, the fields that are drawn of a word, and that no word is that of two ops. -/
import Derived.Laws.BitsAllLaws
import Derived.WalkKit
import Derived.RowKit3
import Derived.Test.YtmegghgjllbamaaGreatDoorRows
import Derived.WalkSpells
import Derived.WalkLawsBesides
import Derived.Deep.RegionHeld3
import Derived.Deep.QuietTactic
import Derived.BigQuiet
set_option linter.unusedVariables false
set_option maxRecDepth 100000
namespace Go.Proofs.YtmegghgjllbamaaGreatDoor.De
open Go

def Dec.forms : List Nat := [1, 1, 1, 2, 2, 2, 3, 4, 5, 5, 6, 6, 7, 8, 7, 8, 9, 9, 9, 9, 5, 5, 5, 5, 5, 5, 5, 5, 5, 5, 9, 9, 5, 10, 10, 11, 11, 11, 11, 12, 12, 13, 13, 11, 11, 14, 14, 14, 14, 15, 15, 15, 16, 17, 17, 18, 18, 18, 18, 19, 19, 19, 19, 19, 19, 19, 19, 19, 19]

def Dec.majors : List Nat := [0, 0, 0, 0, 0, 0, 0, 0, 0, 0, 0, 0, 0, 0, 0, 0, 0, 0, 0, 0, 0, 0, 0, 0, 0, 0, 0, 0, 0, 0, 0, 0, 28, 28, 28, 1, 1, 1, 1, 2, 3, 4, 5, 6, 7, 8, 9, 10, 11, 12, 13, 14, 15, 16, 16, 16, 16, 16, 16, 32, 33, 35, 36, 37, 40, 41, 43, 48, 56]

def Dec.minors : List Nat := [0, 2, 3, 4, 6, 7, 8, 9, 10, 11, 12, 13, 16, 17, 18, 19, 24, 25, 26, 27, 32, 33, 34, 35, 36, 37, 38, 39, 42, 43, 52, 54, 2, 32, 33, 0, 1, 16, 17, 0, 0, 0, 0, 0, 0, 0, 0, 0, 0, 0, 0, 0, 0, 0, 4, 1, 2, 8, 24, 0, 0, 0, 0, 0, 0, 0, 0, 0, 0]

def Dec.names : List ByteArray := [⟨#[115, 108, 108]⟩, ⟨#[115, 114, 108]⟩, ⟨#[115, 114, 97]⟩, ⟨#[115, 108, 108, 118]⟩, ⟨#[115, 114, 108, 118]⟩, ⟨#[115, 114, 97, 118]⟩, ⟨#[106, 114]⟩, ⟨#[106, 97, 108, 114]⟩, ⟨#[109, 111, 118, 122]⟩, ⟨#[109, 111, 118, 110]⟩, ⟨#[115, 121, 115, 99, 97, 108, 108]⟩, ⟨#[98, 114, 101, 97, 107]⟩, ⟨#[109, 102, 104, 105]⟩, ⟨#[109, 116, 104, 105]⟩, ⟨#[109, 102, 108, 111]⟩, ⟨#[109, 116, 108, 111]⟩, ⟨#[109, 117, 108, 116]⟩, ⟨#[109, 117, 108, 116, 117]⟩, ⟨#[100, 105, 118]⟩, ⟨#[100, 105, 118, 117]⟩, ⟨#[97, 100, 100]⟩, ⟨#[97, 100, 100, 117]⟩, ⟨#[115, 117, 98]⟩, ⟨#[115, 117, 98, 117]⟩, ⟨#[97, 110, 100]⟩, ⟨#[111, 114]⟩, ⟨#[120, 111, 114]⟩, ⟨#[110, 111, 114]⟩, ⟨#[115, 108, 116]⟩, ⟨#[115, 108, 116, 117]⟩, ⟨#[116, 101, 113]⟩, ⟨#[116, 110, 101]⟩, ⟨#[109, 117, 108]⟩, ⟨#[99, 108, 122]⟩, ⟨#[99, 108, 111]⟩, ⟨#[98, 108, 116, 122]⟩, ⟨#[98, 103, 101, 122]⟩, ⟨#[98, 108, 116, 122, 97, 108]⟩, ⟨#[98, 103, 101, 122, 97, 108]⟩, ⟨#[106]⟩, ⟨#[106, 97, 108]⟩, ⟨#[98, 101, 113]⟩, ⟨#[98, 110, 101]⟩, ⟨#[98, 108, 101, 122]⟩, ⟨#[98, 103, 116, 122]⟩, ⟨#[97, 100, 100, 105]⟩, ⟨#[97, 100, 100, 105, 117]⟩, ⟨#[115, 108, 116, 105]⟩, ⟨#[115, 108, 116, 105, 117]⟩, ⟨#[97, 110, 100, 105]⟩, ⟨#[111, 114, 105]⟩, ⟨#[120, 111, 114, 105]⟩, ⟨#[108, 117, 105]⟩, ⟨#[109, 102, 99, 48]⟩, ⟨#[109, 116, 99, 48]⟩, ⟨#[116, 108, 98, 114]⟩, ⟨#[116, 108, 98, 119, 105]⟩, ⟨#[116, 108, 98, 112]⟩, ⟨#[101, 114, 101, 116]⟩, ⟨#[108, 98]⟩, ⟨#[108, 104]⟩, ⟨#[108, 119]⟩, ⟨#[108, 98, 117]⟩, ⟨#[108, 104, 117]⟩, ⟨#[115, 98]⟩, ⟨#[115, 104]⟩, ⟨#[115, 119]⟩, ⟨#[108, 108]⟩, ⟨#[115, 99]⟩]

def Dec.fnames : List ByteArray := [⟨#[]⟩, ⟨#[83, 72]⟩, ⟨#[83, 86]⟩, ⟨#[74, 82]⟩, ⟨#[74, 65, 76, 82]⟩, ⟨#[82]⟩, ⟨#[78]⟩, ⟨#[77, 70]⟩, ⟨#[77, 84]⟩, ⟨#[77, 68]⟩, ⟨#[67, 76]⟩, ⟨#[66, 90]⟩, ⟨#[74]⟩, ⟨#[66, 50]⟩, ⟨#[73]⟩, ⟨#[73, 85]⟩, ⟨#[76, 85, 73]⟩, ⟨#[67, 48]⟩, ⟨#[67, 79]⟩, ⟨#[77]⟩]

def Dec.name (op : Nat) : ByteArray := Dec.names.getD op ⟨#[]⟩
def Dec.lname (f : Nat) : ByteArray := Dec.fnames.getD f ⟨#[]⟩

def Dec.fm (op : Nat) : Nat := Dec.forms.getD op 0
def Dec.mj (op : Nat) : Nat := Dec.majors.getD op 0
def Dec.mn (op : Nat) : Nat := Dec.minors.getD op 0

def Dec.lregs (f : Nat) : Nat := [0, 2097088, 67106816, 65011712, 65075200, 67106816, 0, 63488, 65011712, 67043328, 65075200, 65011712, 0, 67043328, 67043328, 67043328, 2031616, 2095104, 0, 67043328].getD f 0
def Dec.limm (f : Nat) : Nat := [0, 0, 0, 0, 0, 0, 0, 0, 0, 0, 0, 65535, 67108863, 65535, 65535, 65535, 65535, 0, 0, 65535].getD f 0
def Dec.lsigned (f : Nat) : Bool := [false, false, false, false, false, false, false, false, false, false, false, true, false, true, true, false, false, false, false, true].getD f false
def Dec.lagain (f : Nat) : Nat := [0, 0, 0, 0, 0, 0, 0, 0, 0, 0, 2031616, 0, 0, 0, 0, 0, 0, 0, 0, 0].getD f 0
def Dec.lat (f : Nat) : Nat := [0, 0, 0, 0, 0, 0, 0, 0, 0, 0, 0, 16, 0, 0, 0, 0, 0, 21, 0, 0].getD f 0
def Dec.lmark (f : Nat) : Nat := [0, 0, 0, 0, 0, 0, 0, 0, 0, 0, 0, 0, 0, 0, 0, 0, 0, 0, 33554432, 0].getD f 0

def Dec.opened (f : Nat) : Nat := Dec.lregs f ||| Dec.limm f ||| Dec.lagain f
def Dec.shut (f : Nat) : Nat := 4294967295 - Dec.opened f
def Dec.fixed (op : Nat) : Nat := Dec.mj op * 67108864 ||| Dec.mn op * 2 ^ Dec.lat (Dec.fm op) ||| Dec.lmark (Dec.fm op)
def Dec.low (x : Int) : Nat := (x % 32).toNat
def Dec.regs (s t d a : Int) : Nat := Dec.low s * 2097152 ||| Dec.low t * 65536 ||| Dec.low d * 2048 ||| Dec.low a * 64
def Dec.laid (op : Nat) (s t d a i : Int) : Nat :=
  Dec.fixed op ||| (Dec.regs s t d a &&& Dec.lregs (Dec.fm op)) ||| (Dec.low d * 65536 &&& Dec.lagain (Dec.fm op)) ||| ((i % 4294967296).toNat &&& Dec.limm (Dec.fm op))

def Dec.sign (n : Nat) : Int := if n % 65536 < 32768 then ((n % 65536 : Nat) : Int) else ((n % 65536 : Nat) : Int) - 65536
def Dec.ds (op w : Nat) : Nat := (w &&& Dec.lregs (Dec.fm op)) / 2097152 % 32
def Dec.dt (op w : Nat) : Nat := (w &&& Dec.lregs (Dec.fm op)) / 65536 % 32
def Dec.dd (op w : Nat) : Nat := (w &&& Dec.lregs (Dec.fm op)) / 2048 % 32
def Dec.da (op w : Nat) : Nat := (w &&& Dec.lregs (Dec.fm op)) / 64 % 32
def Dec.di (op w : Nat) : Int := if Dec.lsigned (Dec.fm op) then Dec.sign (w &&& Dec.limm (Dec.fm op)) else ((w &&& Dec.limm (Dec.fm op) : Nat) : Int)

/-- Is the word the one that its own fields are laid to, read as the op's? -/
def Dec.is (w op : Nat) : Bool := Dec.laid op (Dec.ds op w) (Dec.dt op w) (Dec.dd op w) (Dec.da op w) (Dec.di op w) == w

theorem Dec.fm_lt : ∀ op < 69, 1 ≤ Dec.fm op ∧ Dec.fm op < 20 := by decide +kernel

theorem Dec.regs_shut : ∀ f < 20, Dec.lregs f &&& Dec.shut f = 0 := by decide +kernel
theorem Dec.imm_shut : ∀ f < 20, Dec.limm f &&& Dec.shut f = 0 := by decide +kernel
theorem Dec.again_shut : ∀ f < 20, Dec.lagain f &&& Dec.shut f = 0 := by decide +kernel
theorem Dec.shut_lt : ∀ f < 20, Dec.shut f < 4294967296 ∧ Dec.shut f / 67108864 = 63 := by decide +kernel
theorem Dec.fixed_shut : ∀ op < 69, Dec.fixed op &&& Dec.shut (Dec.fm op) = Dec.fixed op ∧ Dec.fixed op / 67108864 = Dec.mj op ∧ Dec.fixed op < 4294967296 := by decide +kernel
theorem Dec.masks_lt : ∀ f < 20, Dec.lregs f < 4294967296 ∧ Dec.limm f < 4294967296 ∧ Dec.lagain f < 4294967296 ∧ Dec.opened f < 4294967296 := by decide +kernel

theorem Dec.apart : ∀ a < 69, ∀ b < 69, (Dec.fixed a &&& Dec.shut (Dec.fm b) == Dec.fixed b &&& Dec.shut (Dec.fm a)) = true → a = b := by decide +kernel

theorem Dec.under (x m s : Nat) (h : m &&& s = 0) : (x &&& m) &&& s = 0 := by rw [Nat.and_assoc, h, Nat.and_zero]

theorem Dec.laid_shut (op : Nat) (h : op < 69) (s t d a i : Int) : Dec.laid op s t d a i &&& Dec.shut (Dec.fm op) = Dec.fixed op := by
  have hf := (Dec.fm_lt op h).2
  unfold Dec.laid
  rw [Nat.and_or_distrib_right, Nat.and_or_distrib_right, Nat.and_or_distrib_right, (Dec.fixed_shut op h).1,
    Dec.under _ _ _ (Dec.regs_shut _ hf), Dec.under _ _ _ (Dec.again_shut _ hf), Dec.under _ _ _ (Dec.imm_shut _ hf)]
  simp

theorem Dec.laid_lt (op : Nat) (h : op < 69) (s t d a i : Int) : Dec.laid op s t d a i < 4294967296 := by
  obtain ⟨h1, h2, h3, -⟩ := Dec.masks_lt _ (Dec.fm_lt op h).2
  exact Nat.or_lt_two_pow (n := 32) (Nat.or_lt_two_pow (Nat.or_lt_two_pow (Dec.fixed_shut op h).2.2 (Nat.lt_of_le_of_lt Nat.and_le_right h1)) (Nat.lt_of_le_of_lt Nat.and_le_right h3)) (Nat.lt_of_le_of_lt Nat.and_le_right h2)

theorem Dec.major_of_shut (op w : Nat) (h : op < 69) (hw : w < 4294967296) (e : w &&& Dec.shut (Dec.fm op) = Dec.fixed op) : w / 67108864 = Dec.mj op := by
  have hs := (Dec.shut_lt _ (Dec.fm_lt op h).2).2
  have hm := (Dec.fixed_shut op h).2.1
  rw [← e] at hm
  have e2 : (w &&& Dec.shut (Dec.fm op)) / 67108864 = (w / 67108864) &&& (Dec.shut (Dec.fm op) / 67108864) := by
    have := Nat.shiftRight_and_distrib (a := w) (b := Dec.shut (Dec.fm op)) (i := 26)
    simpa [Nat.shiftRight_eq_div_pow] using this
  rw [e2, hs] at hm
  rw [← hm, nat_mask6]
  omega

/-- What tells an op in a word: a word that is laid to has it. -/
theorem Dec.is_shut {w op : Nat} (h : op < 69) (e : Dec.is w op = true) : w &&& Dec.shut (Dec.fm op) = Dec.fixed op := by
  have e := eq_of_beq e
  have := Dec.laid_shut op h (Dec.ds op w) (Dec.dt op w) (Dec.dd op w) (Dec.da op w) (Dec.di op w)
  rw [e] at this
  exact this

theorem Dec.one {w a b : Nat} (ha : a < 69) (hb : b < 69) (ea : w &&& Dec.shut (Dec.fm a) = Dec.fixed a) (eb : w &&& Dec.shut (Dec.fm b) = Dec.fixed b) : a = b := by
  refine Dec.apart a ha b hb ?_
  rw [← ea, ← eb, Nat.and_assoc, Nat.and_assoc, Nat.and_comm (Dec.shut (Dec.fm a))]
  simp

/-- The op whose word a word is. -/
def Dec.find (w : Nat) : Option Nat := (List.range 69).find? (Dec.is w)

theorem Dec.find_some {w op : Nat} (h : op < 69) (e : Dec.is w op = true) : Dec.find w = some op := by
  unfold Dec.find
  cases hf : (List.range 69).find? (Dec.is w) with
  | none =>
    have := List.find?_eq_none.mp hf op (List.mem_range.mpr h)
    exact absurd e this
  | some b =>
    have hb := List.find?_some hf
    have hm := List.mem_range.mp (List.mem_of_find?_eq_some hf)
    rw [Dec.one hm h (Dec.is_shut hm hb) (Dec.is_shut h e)]

theorem Dec.of_find {w op : Nat} (e : Dec.find w = some op) : op < 69 ∧ Dec.is w op = true :=
  ⟨List.mem_range.mp (List.mem_of_find?_eq_some e), List.find?_some e⟩

theorem Dec.find_none {w : Nat} (h : ∀ op < 69, Dec.is w op = false) : Dec.find w = none := by
  refine List.find?_eq_none.mpr fun op ho => ?_
  rw [h op (List.mem_range.mp ho)]
  decide

end Go.Proofs.YtmegghgjllbamaaGreatDoor.De

/- Contracts of what the program reads off its tables of words as instructions. -/
namespace Go.Proofs.YtmegghgjllbamaaGreatDoor.De
open Go.RowKit
set_option linter.unusedVariables false
set_option maxRecDepth 100000

theorem hide {p : Prop} (h : p) : Hid p := h

theorem ret_int {k : IntKind} {a b : Int} (h : a = b) : Ending.returned (.int k a) = .returned (.int k b) := by rw [h]

theorem wrap64_id (n : Int) (h : -9223372036854775808 ≤ n) (h2 : n ≤ 9223372036854775807) : wrap64 n = n := by
  unfold wrap64; omega

theorem low_any (n : Int) (w : World) :
    Calls Tryz.prog 112 #[.int .i64 n] w fun e w' => e = .returned (.int .u32 (Dec.low n : Nat)) ∧ w' = w := by
  go_enter Tryz.func112, Tryz.ntmps112
  go_wp2
  go_ret
  refine ⟨ret_int ?_, rfl⟩
  rw [u32_and _ _ (by omega) (by omega) (by decide) (by decide)]
  show (((n % 4294967296).toNat &&& 31 : Nat) : Int) = _
  rw [nat_mask5]
  unfold Dec.low
  congr 1
  omega

theorem number_any (n : Nat) (b : Bool) (hn : n < 4294967296) (w : World) :
    Calls Tryz.prog 111 #[.int .u32 (n : Int), .bool b] w fun e w' => e = .returned (.int .i64 (if b then Dec.sign n else (n : Int))) ∧ w' = w := by
  cases b
  · go_enter Tryz.func111, Tryz.ntmps111
    go_wp2
    go_ret
    exact ⟨ret_int (by first | rfl | (rw [wrap64_id _ (by omega) (by omega)]; rfl)), rfl⟩
  · go_enter Tryz.func111, Tryz.ntmps111
    go_wp2
    go_ret
    refine ⟨ret_int ?_, rfl⟩
    have e0 : IntKind.i16.wrap (n : Int) = if 32768 ≤ (n : Int) % 65536 then (n : Int) % 65536 - 65536 else (n : Int) % 65536 := by simp [IntKind.wrap, IntKind.bits, IntKind.signed]
    have e : IntKind.i16.wrap (n : Int) = Dec.sign n := by
      rw [e0]
      unfold Dec.sign
      split <;> split <;> omega
    have h1 : -32768 ≤ Dec.sign n ∧ Dec.sign n ≤ 32767 := by unfold Dec.sign; split <;> omega
    rw [e, wrap64_id _ (by omega) (by omega)]
    first | done | rfl | simp

/-- What the program holds of a form, and of an op. -/
def layV (f : Nat) : Value := .agg #[.string (Dec.lname f), .int .u32 (Dec.lregs f : Nat), .int .u32 (Dec.limm f : Nat), .bool (Dec.lsigned f), .int .u32 (Dec.lagain f : Nat), .int .i64 (Dec.lat f : Nat), .int .u32 (Dec.lmark f : Nat)]

def rowV (op : Nat) : Value := .agg #[.string (Dec.name op), .int .i64 (Dec.fm op : Nat), .int .u32 (Dec.mj op : Nat), .int .u32 (Dec.mn op : Nat)]

theorem open_raw (s : ByteArray) (r i a m : Int) (g : Bool) (k : Int) (w : World) :
    Calls Tryz.prog 109 #[.agg #[.string s, .int .u32 r, .int .u32 i, .bool g, .int .u32 a, .int .i64 k, .int .u32 m]] w fun e w' =>
      e = .returned (.int .u32 (bits .or .u32 (bits .or .u32 r i) a)) ∧ Below w.heap.size w w' := by
  go_enter Tryz.func109, Tryz.ntmps109
  go_wp2
  go_ret
  exact ⟨rfl, (Below.refl _ _).alloc (Nat.le_refl _) _⟩

theorem fixed_raw (s t : ByteArray) (f j n r i a m : Int) (g : Bool) (k : Int) (hk : 0 ≤ k) (w : World) :
    Calls Tryz.prog 110 #[.agg #[.string s, .int .i64 f, .int .u32 j, .int .u32 n], .agg #[.string t, .int .u32 r, .int .u32 i, .bool g, .int .u32 a, .int .i64 k, .int .u32 m]] w fun e w' =>
      e = .returned (.int .u32 (bits .or .u32 (bits .or .u32 (j * 67108864 % 4294967296) (n * 2 ^ min k.toNat 32 % 4294967296)) m)) ∧ Below w.heap.size w w' := by
  go_enter Tryz.func110, Tryz.ntmps110
  go_wp2_with fail
  go_region
  all_goals go_wp2
  all_goals go_ret
  exact ⟨rfl, (((Below.refl _ _).alloc (Nat.le_refl _) _).alloc (by simp) _).drew⟩

theorem fixed_is : ∀ op < 69, bits .or .u32 (bits .or .u32 ((Dec.mj op : Int) * 67108864 % 4294967296) ((Dec.mn op : Int) * 2 ^ min (Dec.lat (Dec.fm op) : Int).toNat 32 % 4294967296)) (Dec.lmark (Dec.fm op) : Int) = (Dec.fixed op : Int) := by
  decide +kernel

theorem opened_is : ∀ f < 20, bits .or .u32 (bits .or .u32 (Dec.lregs f : Int) (Dec.limm f : Int)) (Dec.lagain f : Int) = (Dec.opened f : Int) := by
  decide +kernel

theorem open_any (f : Nat) (hf : f < 20) (w : World) :
    Calls Tryz.prog 109 #[layV f] w fun e w' => e = .returned (.int .u32 (Dec.opened f : Nat)) ∧ Below w.heap.size w w' := by
  have h := open_raw (Dec.lname f) (Dec.lregs f : Nat) (Dec.limm f : Nat) (Dec.lagain f : Nat) (Dec.lmark f : Nat) (Dec.lsigned f) (Dec.lat f : Nat) w
  rw [opened_is f hf] at h
  exact h

theorem fixed_any (op : Nat) (ho : op < 69) (w : World) :
    Calls Tryz.prog 110 #[rowV op, layV (Dec.fm op)] w fun e w' => e = .returned (.int .u32 (Dec.fixed op : Nat)) ∧ Below w.heap.size w w' := by
  have h := fixed_raw (Dec.name op) (Dec.lname (Dec.fm op)) (Dec.fm op : Nat) (Dec.mj op : Nat) (Dec.mn op : Nat) (Dec.lregs (Dec.fm op) : Nat) (Dec.limm (Dec.fm op) : Nat) (Dec.lagain (Dec.fm op) : Nat) (Dec.lmark (Dec.fm op) : Nat) (Dec.lsigned (Dec.fm op)) (Dec.lat (Dec.fm op) : Nat) (Int.natCast_nonneg _) w
  rw [fixed_is op ho] at h
  exact h

/-- The place of an op in the tables: 69 of what is none. -/
def idx (op : Int) : Nat := if 0 ≤ op ∧ op < 69 then op.toNat else 69

/-- The program's two tables lie where they were laid. -/
structure Tabs (w : World) : Prop where
  z : ∀ i < 32, w.cell? ⟨0, i * 4, none⟩ = some (.string (Dec.name i)) ∧ w.cell? ⟨0, i * 4 + 1, none⟩ = some (.int .i64 (Dec.fm i : Nat)) ∧
    w.cell? ⟨0, i * 4 + 2, none⟩ = some (.int .u32 (Dec.mj i : Nat)) ∧ w.cell? ⟨0, i * 4 + 3, none⟩ = some (.int .u32 (Dec.mn i : Nat))
  o : ∀ i < 37, w.cell? ⟨1, i * 4, none⟩ = some (.string (Dec.name (32 + i))) ∧ w.cell? ⟨1, i * 4 + 1, none⟩ = some (.int .i64 (Dec.fm (32 + i) : Nat)) ∧
    w.cell? ⟨1, i * 4 + 2, none⟩ = some (.int .u32 (Dec.mj (32 + i) : Nat)) ∧ w.cell? ⟨1, i * 4 + 3, none⟩ = some (.int .u32 (Dec.mn (32 + i) : Nat))
  n : 2 ≤ w.heap.size

theorem bcell {W w1 : World} (hb : Below W.heap.size W w1) : (∀ b o, b < W.heap.size → w1.cell? ⟨b, o, none⟩ = W.cell? ⟨b, o, none⟩) ∧ (∀ b o, b < W.heap.size → w1.frozen? ⟨b, o, none⟩ = W.frozen? ⟨b, o, none⟩) :=
  ⟨fun b o h => hb.cell (p := ⟨b, o, none⟩) h, fun b o h => hb.frozen (p := ⟨b, o, none⟩) h⟩

theorem Tabs.on {x y : World} (t : Tabs x) (hb : Below x.heap.size x y) : Tabs y := by
  obtain ⟨hc, -⟩ := bcell hb
  have hz := hb.size
  have n := t.n
  refine ⟨fun i hi => ?_, fun i hi => ?_, by omega⟩
  · rw [hc _ _ (by omega), hc _ _ (by omega), hc _ _ (by omega), hc _ _ (by omega)]; exact t.z i hi
  · rw [hc _ _ (by omega), hc _ _ (by omega), hc _ _ (by omega), hc _ _ (by omega)]; exact t.o i hi

theorem Tabs.drew {x : World} (t : Tabs x) : Tabs x.drew := ⟨t.z, t.o, t.n⟩

theorem rowOf_low (op : Nat) (h : op < 32) (w : World) (t : Tabs w) :
    Calls Tryz.prog 55 #[.int .i64 (op : Int)] w fun e w' => e = .returned (rowV op) ∧ Below w.heap.size w w' := by
  have b1 : decide ((op : Int) < 0) = false := by simp
  have b2 : decide ((op : Int) ≥ 69) = false := by simp; omega
  have b3 : decide ((op : Int) < 32) = true := by simp; omega
  obtain ⟨c0, c1, c2, c3⟩ := t.z op h
  have hz : 0 < w.heap.size := by have := t.n; omega
  go_enter Tryz.func55, Tryz.ntmps55
  go_wp2
  refine bodyPost_ret (v := rowV op) (by simp [results, Tryz.results55, go_sem, rowV]) rfl ⟨rfl, (Below.refl _ _).alloc (Nat.le_refl _) _⟩

theorem rowOf_high (i : Nat) (h : i < 37) (w : World) (t : Tabs w) :
    Calls Tryz.prog 55 #[.int .i64 (32 + (i : Int))] w fun e w' => e = .returned (rowV (32 + i)) ∧ Below w.heap.size w w' := by
  have b1 : decide (32 + (i : Int) < 0) = false := by simp; omega
  have b2 : decide (32 + (i : Int) ≥ 69) = false := by simp; omega
  have b3 : decide (32 + (i : Int) < 32) = false := by simp; omega
  obtain ⟨c0, c1, c2, c3⟩ := t.o i h
  have hz : 1 < w.heap.size := by have := t.n; omega
  have e : wrap64 (32 + (i : Int) - 32) = (i : Int) := by unfold wrap64; omega
  go_enter Tryz.func55, Tryz.ntmps55
  go_wp2
  refine bodyPost_ret (v := rowV (32 + i)) (by simp [results, Tryz.results55, go_sem, rowV]) rfl ⟨rfl, (Below.refl _ _).alloc (Nat.le_refl _) _⟩

theorem rowOf_none (op : Int) (h : op < 0 ∨ 69 ≤ op) (w : World) :
    Calls Tryz.prog 55 #[.int .i64 op] w fun e w' => e = .returned (rowV 69) ∧ Below w.heap.size w w' := by
  rcases Int.lt_or_le op 0 with h0 | h0
  · have b1 : decide (op < 0) = true := by simp; omega
    go_enter Tryz.func55, Tryz.ntmps55
    go_wp2
    refine bodyPost_ret (v := rowV 69) ?_ rfl ⟨rfl, (Below.refl _ _).alloc (Nat.le_refl _) _⟩
    simp [results, Tryz.results55, go_sem]
    rfl
  · have b1 : decide (op < 0) = false := by simp; omega
    have b2 : decide (op ≥ 69) = true := by simp; omega
    go_enter Tryz.func55, Tryz.ntmps55
    go_wp2
    refine bodyPost_ret (v := rowV 69) ?_ rfl ⟨rfl, (Below.refl _ _).alloc (Nat.le_refl _) _⟩
    simp [results, Tryz.results55, go_sem]
    rfl

theorem rowOf_any (op : Int) (w : World) (t : Tabs w) :
    Calls Tryz.prog 55 #[.int .i64 op] w fun e w' => e = .returned (rowV (idx op)) ∧ Below w.heap.size w w' := by
  unfold idx
  split
  · rename_i h
    rcases Int.lt_or_le op 32 with h2 | h2
    · have e : op = ((op.toNat : Nat) : Int) := by omega
      have := rowOf_low op.toNat (by omega) w t
      rw [← e] at this
      exact this
    · have e : op = 32 + (((op.toNat - 32 : Nat)) : Int) := by omega
      have e2 : op.toNat = 32 + (op.toNat - 32) := by omega
      have := rowOf_high (op.toNat - 32) (by omega) w t
      rw [← e, ← e2] at this
      exact this
  · exact rowOf_none op (by omega) w

theorem idx_lt (op : Int) : Dec.fm (idx op) < 20 := by
  unfold idx
  split
  · exact (Dec.fm_lt _ (by omega)).2
  · decide

end Go.Proofs.YtmegghgjllbamaaGreatDoor.De

/- The contract of the program's layouts, one form after another. -/
namespace Go.Proofs.YtmegghgjllbamaaGreatDoor.De
open Go.RowKit
set_option linter.unusedVariables false
set_option maxRecDepth 100000

theorem layout_0 (w : World) :
    Calls Tryz.prog 108 #[.int .i64 0] w fun e w' => e = .returned (layV 0) ∧ Below w.heap.size w w' := by
  go_enter Tryz.func108, Tryz.ntmps108
  go_wp2
  refine bodyPost_ret (v := layV 0) ?_ rfl ⟨rfl, (Below.refl _ _).alloc (Nat.le_refl _) _⟩
  simp [results, Tryz.results108, go_sem]
  rfl

theorem layout_1 (w : World) :
    Calls Tryz.prog 108 #[.int .i64 1] w fun e w' => e = .returned (layV 1) ∧ Below w.heap.size w w' := by
  go_enter Tryz.func108, Tryz.ntmps108
  go_wp2
  refine bodyPost_ret (v := layV 1) ?_ rfl ⟨rfl, (Below.refl _ _).alloc (Nat.le_refl _) _⟩
  simp [results, Tryz.results108, go_sem]
  rfl

theorem layout_2 (w : World) :
    Calls Tryz.prog 108 #[.int .i64 2] w fun e w' => e = .returned (layV 2) ∧ Below w.heap.size w w' := by
  go_enter Tryz.func108, Tryz.ntmps108
  go_wp2
  refine bodyPost_ret (v := layV 2) ?_ rfl ⟨rfl, (Below.refl _ _).alloc (Nat.le_refl _) _⟩
  simp [results, Tryz.results108, go_sem]
  rfl

theorem layout_3 (w : World) :
    Calls Tryz.prog 108 #[.int .i64 3] w fun e w' => e = .returned (layV 3) ∧ Below w.heap.size w w' := by
  go_enter Tryz.func108, Tryz.ntmps108
  go_wp2
  refine bodyPost_ret (v := layV 3) ?_ rfl ⟨rfl, (Below.refl _ _).alloc (Nat.le_refl _) _⟩
  simp [results, Tryz.results108, go_sem]
  rfl

theorem layout_4 (w : World) :
    Calls Tryz.prog 108 #[.int .i64 4] w fun e w' => e = .returned (layV 4) ∧ Below w.heap.size w w' := by
  go_enter Tryz.func108, Tryz.ntmps108
  go_wp2
  refine bodyPost_ret (v := layV 4) ?_ rfl ⟨rfl, (Below.refl _ _).alloc (Nat.le_refl _) _⟩
  simp [results, Tryz.results108, go_sem]
  rfl

theorem layout_5 (w : World) :
    Calls Tryz.prog 108 #[.int .i64 5] w fun e w' => e = .returned (layV 5) ∧ Below w.heap.size w w' := by
  go_enter Tryz.func108, Tryz.ntmps108
  go_wp2
  refine bodyPost_ret (v := layV 5) ?_ rfl ⟨rfl, (Below.refl _ _).alloc (Nat.le_refl _) _⟩
  simp [results, Tryz.results108, go_sem]
  rfl

theorem layout_6 (w : World) :
    Calls Tryz.prog 108 #[.int .i64 6] w fun e w' => e = .returned (layV 6) ∧ Below w.heap.size w w' := by
  go_enter Tryz.func108, Tryz.ntmps108
  go_wp2
  refine bodyPost_ret (v := layV 6) ?_ rfl ⟨rfl, (Below.refl _ _).alloc (Nat.le_refl _) _⟩
  simp [results, Tryz.results108, go_sem]
  rfl

theorem layout_7 (w : World) :
    Calls Tryz.prog 108 #[.int .i64 7] w fun e w' => e = .returned (layV 7) ∧ Below w.heap.size w w' := by
  go_enter Tryz.func108, Tryz.ntmps108
  go_wp2
  refine bodyPost_ret (v := layV 7) ?_ rfl ⟨rfl, (Below.refl _ _).alloc (Nat.le_refl _) _⟩
  simp [results, Tryz.results108, go_sem]
  rfl

theorem layout_8 (w : World) :
    Calls Tryz.prog 108 #[.int .i64 8] w fun e w' => e = .returned (layV 8) ∧ Below w.heap.size w w' := by
  go_enter Tryz.func108, Tryz.ntmps108
  go_wp2
  refine bodyPost_ret (v := layV 8) ?_ rfl ⟨rfl, (Below.refl _ _).alloc (Nat.le_refl _) _⟩
  simp [results, Tryz.results108, go_sem]
  rfl

theorem layout_9 (w : World) :
    Calls Tryz.prog 108 #[.int .i64 9] w fun e w' => e = .returned (layV 9) ∧ Below w.heap.size w w' := by
  go_enter Tryz.func108, Tryz.ntmps108
  go_wp2
  refine bodyPost_ret (v := layV 9) ?_ rfl ⟨rfl, (Below.refl _ _).alloc (Nat.le_refl _) _⟩
  simp [results, Tryz.results108, go_sem]
  rfl

theorem layout_10 (w : World) :
    Calls Tryz.prog 108 #[.int .i64 10] w fun e w' => e = .returned (layV 10) ∧ Below w.heap.size w w' := by
  go_enter Tryz.func108, Tryz.ntmps108
  go_wp2
  refine bodyPost_ret (v := layV 10) ?_ rfl ⟨rfl, (Below.refl _ _).alloc (Nat.le_refl _) _⟩
  simp [results, Tryz.results108, go_sem]
  rfl

theorem layout_11 (w : World) :
    Calls Tryz.prog 108 #[.int .i64 11] w fun e w' => e = .returned (layV 11) ∧ Below w.heap.size w w' := by
  go_enter Tryz.func108, Tryz.ntmps108
  go_wp2
  refine bodyPost_ret (v := layV 11) ?_ rfl ⟨rfl, (Below.refl _ _).alloc (Nat.le_refl _) _⟩
  simp [results, Tryz.results108, go_sem]
  rfl

theorem layout_12 (w : World) :
    Calls Tryz.prog 108 #[.int .i64 12] w fun e w' => e = .returned (layV 12) ∧ Below w.heap.size w w' := by
  go_enter Tryz.func108, Tryz.ntmps108
  go_wp2
  refine bodyPost_ret (v := layV 12) ?_ rfl ⟨rfl, (Below.refl _ _).alloc (Nat.le_refl _) _⟩
  simp [results, Tryz.results108, go_sem]
  rfl

theorem layout_13 (w : World) :
    Calls Tryz.prog 108 #[.int .i64 13] w fun e w' => e = .returned (layV 13) ∧ Below w.heap.size w w' := by
  go_enter Tryz.func108, Tryz.ntmps108
  go_wp2
  refine bodyPost_ret (v := layV 13) ?_ rfl ⟨rfl, (Below.refl _ _).alloc (Nat.le_refl _) _⟩
  simp [results, Tryz.results108, go_sem]
  rfl

theorem layout_14 (w : World) :
    Calls Tryz.prog 108 #[.int .i64 14] w fun e w' => e = .returned (layV 14) ∧ Below w.heap.size w w' := by
  go_enter Tryz.func108, Tryz.ntmps108
  go_wp2
  refine bodyPost_ret (v := layV 14) ?_ rfl ⟨rfl, (Below.refl _ _).alloc (Nat.le_refl _) _⟩
  simp [results, Tryz.results108, go_sem]
  rfl

theorem layout_15 (w : World) :
    Calls Tryz.prog 108 #[.int .i64 15] w fun e w' => e = .returned (layV 15) ∧ Below w.heap.size w w' := by
  go_enter Tryz.func108, Tryz.ntmps108
  go_wp2
  refine bodyPost_ret (v := layV 15) ?_ rfl ⟨rfl, (Below.refl _ _).alloc (Nat.le_refl _) _⟩
  simp [results, Tryz.results108, go_sem]
  rfl

theorem layout_16 (w : World) :
    Calls Tryz.prog 108 #[.int .i64 16] w fun e w' => e = .returned (layV 16) ∧ Below w.heap.size w w' := by
  go_enter Tryz.func108, Tryz.ntmps108
  go_wp2
  refine bodyPost_ret (v := layV 16) ?_ rfl ⟨rfl, (Below.refl _ _).alloc (Nat.le_refl _) _⟩
  simp [results, Tryz.results108, go_sem]
  rfl

theorem layout_17 (w : World) :
    Calls Tryz.prog 108 #[.int .i64 17] w fun e w' => e = .returned (layV 17) ∧ Below w.heap.size w w' := by
  go_enter Tryz.func108, Tryz.ntmps108
  go_wp2
  refine bodyPost_ret (v := layV 17) ?_ rfl ⟨rfl, (Below.refl _ _).alloc (Nat.le_refl _) _⟩
  simp [results, Tryz.results108, go_sem]
  rfl

theorem layout_18 (w : World) :
    Calls Tryz.prog 108 #[.int .i64 18] w fun e w' => e = .returned (layV 18) ∧ Below w.heap.size w w' := by
  go_enter Tryz.func108, Tryz.ntmps108
  go_wp2
  refine bodyPost_ret (v := layV 18) ?_ rfl ⟨rfl, (Below.refl _ _).alloc (Nat.le_refl _) _⟩
  simp [results, Tryz.results108, go_sem]
  rfl

theorem layout_19 (w : World) :
    Calls Tryz.prog 108 #[.int .i64 19] w fun e w' => e = .returned (layV 19) ∧ Below w.heap.size w w' := by
  go_enter Tryz.func108, Tryz.ntmps108
  go_wp2
  refine bodyPost_ret (v := layV 19) ?_ rfl ⟨rfl, (Below.refl _ _).alloc (Nat.le_refl _) _⟩
  simp [results, Tryz.results108, go_sem]
  rfl

theorem layout_any (f : Nat) (hf : f < 20) (w : World) :
    Calls Tryz.prog 108 #[.int .i64 (f : Int)] w fun e w' => e = .returned (layV f) ∧ Below w.heap.size w w' := by
  match f, hf with
  | 0, _ => exact layout_0 w
  | 1, _ => exact layout_1 w
  | 2, _ => exact layout_2 w
  | 3, _ => exact layout_3 w
  | 4, _ => exact layout_4 w
  | 5, _ => exact layout_5 w
  | 6, _ => exact layout_6 w
  | 7, _ => exact layout_7 w
  | 8, _ => exact layout_8 w
  | 9, _ => exact layout_9 w
  | 10, _ => exact layout_10 w
  | 11, _ => exact layout_11 w
  | 12, _ => exact layout_12 w
  | 13, _ => exact layout_13 w
  | 14, _ => exact layout_14 w
  | 15, _ => exact layout_15 w
  | 16, _ => exact layout_16 w
  | 17, _ => exact layout_17 w
  | 18, _ => exact layout_18 w
  | 19, _ => exact layout_19 w
  | n + 20, h => exact absurd h (by omega)

end Go.Proofs.YtmegghgjllbamaaGreatDoor.De

/- The contract of the program's word of an instruction's bits, over letters. -/
namespace Go.Proofs.YtmegghgjllbamaaGreatDoor.De
open Go.RowKit
set_option linter.unusedVariables false
set_option maxRecDepth 100000

theorem cell_in {W : World} {b o : Nat} {v : Value} (h : W.cell? ⟨b, o, none⟩ = some v) : b < W.heap.size := by
  by_cases hb : b < W.heap.size
  · exact hb
  · simp [World.cell?, Array.getElem?_eq_none (Nat.le_of_not_lt hb)] at h

theorem on1 {W w1 : World} (hb : Below W.heap.size W w1) {b o : Nat} {v : Value} (h : W.cell? ⟨b, o, none⟩ = some v) : w1.cell? ⟨b, o, none⟩ = some v := by
  rw [(bcell hb).1 b o (cell_in h), h]

/-- In a block lie these values. -/
structure Cell4 (x : World) (b : Nat) (v0 v1 v2 v3 : Value) : Prop where
  c0 : x.cell? ⟨b, 0, none⟩ = some v0
  c1 : x.cell? ⟨b, 1, none⟩ = some v1
  c2 : x.cell? ⟨b, 2, none⟩ = some v2
  c3 : x.cell? ⟨b, 3, none⟩ = some v3

structure Cell6 (x : World) (b : Nat) (v0 v1 v2 v3 v4 v5 : Value) : Prop where
  c0 : x.cell? ⟨b, 0, none⟩ = some v0
  c1 : x.cell? ⟨b, 1, none⟩ = some v1
  c2 : x.cell? ⟨b, 2, none⟩ = some v2
  c3 : x.cell? ⟨b, 3, none⟩ = some v3
  c4 : x.cell? ⟨b, 4, none⟩ = some v4
  c5 : x.cell? ⟨b, 5, none⟩ = some v5

structure Cell7 (x : World) (b : Nat) (v0 v1 v2 v3 v4 v5 v6 : Value) : Prop where
  c0 : x.cell? ⟨b, 0, none⟩ = some v0
  c1 : x.cell? ⟨b, 1, none⟩ = some v1
  c2 : x.cell? ⟨b, 2, none⟩ = some v2
  c3 : x.cell? ⟨b, 3, none⟩ = some v3
  c4 : x.cell? ⟨b, 4, none⟩ = some v4
  c5 : x.cell? ⟨b, 5, none⟩ = some v5
  c6 : x.cell? ⟨b, 6, none⟩ = some v6

theorem Cell4.on {x y : World} {b : Nat} {v0 v1 v2 v3 : Value} (h : Cell4 x b v0 v1 v2 v3) (hb : Below x.heap.size x y) : Cell4 y b v0 v1 v2 v3 :=
  ⟨on1 hb h.c0, on1 hb h.c1, on1 hb h.c2, on1 hb h.c3⟩

theorem Cell6.on {x y : World} {b : Nat} {v0 v1 v2 v3 v4 v5 : Value} (h : Cell6 x b v0 v1 v2 v3 v4 v5) (hb : Below x.heap.size x y) : Cell6 y b v0 v1 v2 v3 v4 v5 :=
  ⟨on1 hb h.c0, on1 hb h.c1, on1 hb h.c2, on1 hb h.c3, on1 hb h.c4, on1 hb h.c5⟩

theorem Cell7.on {x y : World} {b : Nat} {v0 v1 v2 v3 v4 v5 v6 : Value} (h : Cell7 x b v0 v1 v2 v3 v4 v5 v6) (hb : Below x.heap.size x y) : Cell7 y b v0 v1 v2 v3 v4 v5 v6 :=
  ⟨on1 hb h.c0, on1 hb h.c1, on1 hb h.c2, on1 hb h.c3, on1 hb h.c4, on1 hb h.c5, on1 hb h.c6⟩

theorem cell4 (x : World) (t : TypeId) (v0 v1 v2 v3 : Value) : Cell4 (x.alloc (.cells #[v0, v1, v2, v3] t)) x.heap.size v0 v1 v2 v3 := by
  constructor <;> simp [go_sem]

theorem cell6 (x : World) (t : TypeId) (v0 v1 v2 v3 v4 v5 : Value) : Cell6 (x.alloc (.cells #[v0, v1, v2, v3, v4, v5] t)) x.heap.size v0 v1 v2 v3 v4 v5 := by
  constructor <;> simp [go_sem]

theorem cell7 (x : World) (t : TypeId) (v0 v1 v2 v3 v4 v5 v6 : Value) : Cell7 (x.alloc (.cells #[v0, v1, v2, v3, v4, v5, v6] t)) x.heap.size v0 v1 v2 v3 v4 v5 v6 := by
  constructor <;> simp [go_sem]

theorem grow (x : World) (o : Obj) : Below x.heap.size x (x.alloc o) := (Below.refl _ _).alloc (Nat.le_refl _) _

theorem onto {w x y : World} (h : Below w.heap.size w x) (hb : Below x.heap.size x y) : Below w.heap.size w y := h.trans (hb.mono h.size)

theorem since_refl (W : World) : (∀ b o, b < W.heap.size → W.drew.cell? ⟨b, o, none⟩ = W.cell? ⟨b, o, none⟩) ∧ Below W.heap.size W W.drew :=
  ⟨fun _ _ _ => rfl, (Below.refl _ W).drew⟩

theorem since_on {W x y : World} (h : (∀ b o, b < W.heap.size → x.cell? ⟨b, o, none⟩ = W.cell? ⟨b, o, none⟩) ∧ Below W.heap.size W x) (hb : Below x.heap.size x y) :
    (∀ b o, b < W.heap.size → y.cell? ⟨b, o, none⟩ = W.cell? ⟨b, o, none⟩) ∧ Below W.heap.size W y := by
  have hz := h.2.size
  obtain ⟨hc, hf⟩ := bcell hb
  exact ⟨fun b o hb' => by rw [hc b o (by omega), h.1 b o hb'], h.2.trans (hb.mono hz)⟩

theorem below_drewN {B : Nat} {a w : World} (h : Below B a w) (n : Nat) : Below B a (w.drewN n) := h.trans ⟨rfl, rfl, rfl, Nat.le_refl _, fun _ _ => rfl⟩

set_option maxHeartbeats 2000000 in
theorem laid_raw {nm ln : ByteArray} {op f j n r i a k m F : Int} {g : Bool} (lw : Int → Int) (s t d x v : Int)
    (hlow : ∀ n w, Calls Tryz.prog 112 #[.int .i64 n] w fun e w' => e = .returned (.int .u32 (lw n)) ∧ w' = w)
    (hrow : ∀ w, Tabs w → Calls Tryz.prog 55 #[.int .i64 op] w fun e w' => e = .returned (.agg #[.string nm, .int .i64 f, .int .u32 j, .int .u32 n]) ∧ Below w.heap.size w w')
    (hlay : ∀ w, Calls Tryz.prog 108 #[.int .i64 f] w fun e w' => e = .returned (.agg #[.string ln, .int .u32 r, .int .u32 i, .bool g, .int .u32 a, .int .i64 k, .int .u32 m]) ∧ Below w.heap.size w w')
    (hfix : ∀ w, Calls Tryz.prog 110 #[.agg #[.string nm, .int .i64 f, .int .u32 j, .int .u32 n], .agg #[.string ln, .int .u32 r, .int .u32 i, .bool g, .int .u32 a, .int .i64 k, .int .u32 m]] w fun e w' => e = .returned (.int .u32 F) ∧ Below w.heap.size w w')
    (w : World) (tb : Tabs w) :
    Calls Tryz.prog 74 #[.agg #[.int .i64 op, .int .i64 s, .int .i64 t, .int .i64 d, .int .i64 x, .int .i64 v]] w fun e w' =>
      e = .returned (.int .u32 (bits .or .u32 (bits .or .u32 (bits .or .u32 F (bits .and .u32 (bits .or .u32 (bits .or .u32 (bits .or .u32 (lw s * 2097152 % 4294967296) (lw t * 65536 % 4294967296)) (lw d * 2048 % 4294967296)) (lw x * 64 % 4294967296)) r))
        (bits .and .u32 (lw d * 65536 % 4294967296) a)) (bits .and .u32 (IntKind.u32.wrap v) i))) ∧ Below w.heap.size w w' := by
  go_enter Tryz.func74, Tryz.ntmps74
  go_wp2_with fail
  have b0 := grow w (.cells #[.int .i64 op, .int .i64 s, .int .i64 t, .int .i64 d, .int .i64 x, .int .i64 v] 73)
  have i0 := cell6 w 73 (.int .i64 op) (.int .i64 s) (.int .i64 t) (.int .i64 d) (.int .i64 x) (.int .i64 v)
  refine (hrow _ (tb.on b0)).mono ?_
  rintro e w1 ⟨rfl, h1⟩
  have i1 := i0.on h1
  have b1 := onto b0 h1
  have z1 := cell_in i1.c0
  clear i0 b0 h1
  go_wp2_with fail
  have r2 := cell4 w1 128 (.string nm) (.int .i64 f) (.int .u32 j) (.int .u32 n)
  have i2 := i1.on (grow w1 (.cells #[.string nm, .int .i64 f, .int .u32 j, .int .u32 n] 128))
  have b2 := onto b1 (grow w1 (.cells #[.string nm, .int .i64 f, .int .u32 j, .int .u32 n] 128))
  refine (hlay _).mono ?_
  rintro e w2 ⟨rfl, h3⟩
  have r3 := r2.on h3
  have i3 := i2.on h3
  have b3 := onto b2 h3
  have z2 := cell_in i3.c0
  have z3 := cell_in r3.c0
  generalize w1.heap.size = R at *
  clear h3 r2 i2 b2 i1 b1 hrow hlay tb z1
  clear w1
  go_wp2_with fail
  have l4 := cell7 w2 186 (.string ln) (.int .u32 r) (.int .u32 i) (.bool g) (.int .u32 a) (.int .i64 k) (.int .u32 m)
  have g4 := grow w2 (.cells #[.string ln, .int .u32 r, .int .u32 i, .bool g, .int .u32 a, .int .i64 k, .int .u32 m] 186)
  have i4 := i3.on g4
  have r4 := r3.on g4
  have b4 := onto b3 g4
  generalize w2.alloc (.cells #[.string ln, .int .u32 r, .int .u32 i, .bool g, .int .u32 a, .int .i64 k, .int .u32 m] 186) = W at *
  generalize w2.heap.size = L at *
  clear g4 i3 r3 b3 z2 z3
  clear w2
  obtain ⟨p0, p1, p2, p3, p4, p5⟩ := i4
  obtain ⟨q0, q1, q2, q3⟩ := r4
  obtain ⟨l0, l1, l2, l3, l4, l5, l6⟩ := l4
  go_quiet (first | (go_at_call 112; exact Calls.quiet_of_same (hlow _ _)))
  go_wp2_with fail
  refine (hlow _ _).mono ?_
  rintro e w' ⟨rfl, rfl⟩
  go_wp2_with fail
  have b5 := below_drewN b4 nq
  generalize hV : W.drewN nq = V at *
  have ec : ∀ y, V.cell? y = W.cell? y := fun y => by rw [← hV]; rfl
  rw [← ec] at p0 p1 p2 p3 p4 p5 q0 q1 q2 q3 l0 l1 l2 l3 l4 l5 l6
  clear ec hV b4
  clear W
  have z0 := cell_in p0
  have z1 := cell_in q0
  have z2 := cell_in l0
  go_region_held3 (fun x => (∀ b o, b < V.heap.size → x.cell? ⟨b, o, none⟩ = V.cell? ⟨b, o, none⟩) ∧ Below V.heap.size V x)
    (first | exact since_refl V | assumption)
    (first | (go_at_call 110; refine (hfix _).mono ?_; rintro e w' ⟨rfl, hn⟩; have hT := since_on (by assumption) hn; clear hn))
  go_wp2
  go_ret
  exact ⟨rfl, onto b5 hT.2⟩

theorem low_lt (x : Int) : Dec.low x < 32 := by unfold Dec.low; omega

theorem low_mul (x : Int) (k : Nat) (hk : k ≤ 134217728) : Dec.low x * k < 4294967296 :=
  Nat.lt_of_le_of_lt (Nat.mul_le_mul (Nat.le_of_lt_succ (low_lt x)) hk) (by decide)

theorem shl_nat (n k : Nat) (h : n * k < 4294967296) : (n : Int) * (k : Int) % 4294967296 = ((n * k : Nat) : Int) := by
  rw [← Int.natCast_mul]; omega

theorem laid_is (op : Nat) (h : op < 69) (s t d x v : Int) :
    bits .or .u32 (bits .or .u32 (bits .or .u32 (Dec.fixed op : Nat) (bits .and .u32 (bits .or .u32 (bits .or .u32 (bits .or .u32 ((Dec.low s : Nat) * 2097152 % 4294967296) ((Dec.low t : Nat) * 65536 % 4294967296)) ((Dec.low d : Nat) * 2048 % 4294967296)) ((Dec.low x : Nat) * 64 % 4294967296)) (Dec.lregs (Dec.fm op) : Nat)))
        (bits .and .u32 ((Dec.low d : Nat) * 65536 % 4294967296) (Dec.lagain (Dec.fm op) : Nat))) (bits .and .u32 (IntKind.u32.wrap v) (Dec.limm (Dec.fm op) : Nat)) = (Dec.laid op s t d x v : Nat) := by
  have ls := low_lt s
  have lt := low_lt t
  have ld := low_lt d
  have lx := low_lt x
  obtain ⟨h1, h2, h3, -⟩ := Dec.masks_lt _ (Dec.fm_lt op h).2
  have hf := (Dec.fixed_shut op h).2.2
  have ev : IntKind.u32.wrap v = (((v % 4294967296).toNat : Nat) : Int) := by rw [IntKind.wrap_u32']; omega
  have hv : (v % 4294967296).toNat < 4294967296 := by omega
  rw [ev, show (2097152 : Int) = ((2097152 : Nat) : Int) from rfl, show (65536 : Int) = ((65536 : Nat) : Int) from rfl, show (2048 : Int) = ((2048 : Nat) : Int) from rfl, show (64 : Int) = ((64 : Nat) : Int) from rfl,
    shl_nat _ _ (low_mul s 2097152 (by decide)), shl_nat _ _ (low_mul t 65536 (by decide)), shl_nat _ _ (low_mul d 2048 (by decide)), shl_nat _ _ (low_mul x 64 (by decide)), shl_nat _ _ (low_mul d 65536 (by decide))]
  have o : ∀ a b : Nat, a < 4294967296 → b < 4294967296 → a ||| b < 4294967296 := fun a b ha hb => Nat.or_lt_two_pow (n := 32) ha hb
  have n1 : ∀ a b : Nat, b < 4294967296 → a &&& b < 4294967296 := fun a b hb => Nat.lt_of_le_of_lt Nat.and_le_right hb
  have a1 : Dec.low s * 2097152 < 4294967296 := low_mul s 2097152 (by decide)
  have a2 : Dec.low t * 65536 < 4294967296 := low_mul t 65536 (by decide)
  have a3 : Dec.low d * 2048 < 4294967296 := low_mul d 2048 (by decide)
  have a4 : Dec.low x * 64 < 4294967296 := low_mul x 64 (by decide)
  have a5 : Dec.low d * 65536 < 4294967296 := low_mul d 65536 (by decide)
  rw [u32_or_nat _ _ a1 a2, u32_or_nat _ _ (o _ _ a1 a2) a3, u32_or_nat _ _ (o _ _ (o _ _ a1 a2) a3) a4, u32_and_nat _ _ (o _ _ (o _ _ (o _ _ a1 a2) a3) a4) h1, u32_or_nat _ _ hf (n1 _ _ h1),
    u32_and_nat _ _ a5 h3, u32_or_nat _ _ (o _ _ hf (n1 _ _ h1)) (n1 _ _ h3), u32_and_nat _ _ hv h2, u32_or_nat _ _ (o _ _ (o _ _ hf (n1 _ _ h1)) (n1 _ _ h3)) (n1 _ _ h2)]
  rfl

theorem laid_any (op : Nat) (h : op < 69) (s t d x v : Int) (w : World) (tb : Tabs w) :
    Calls Tryz.prog 74 #[.agg #[.int .i64 (op : Int), .int .i64 s, .int .i64 t, .int .i64 d, .int .i64 x, .int .i64 v]] w fun e w' =>
      e = .returned (.int .u32 (Dec.laid op s t d x v : Nat)) ∧ Below w.heap.size w w' := by
  have e : idx (op : Int) = op := by unfold idx; rw [if_pos (by omega)]; omega
  have := laid_raw (op := (op : Int)) (fun n => (Dec.low n : Nat)) s t d x v low_any
    (fun w tb => by have := rowOf_any (op : Int) w tb; rw [e] at this; exact this)
    (fun w => layout_any (Dec.fm op) (Dec.fm_lt op h).2 w) (fun w => fixed_any op h w) w tb
  rw [laid_is op h] at this
  exact this

theorem row_name (v0 v1 v2 v3 : Value) (w : World) : (Instr.field 128 (.agg #[v0, v1, v2, v3]) 0).run Tryz.prog w = .ok v0 w := by kernel_rfl

theorem row_form (v0 v1 v2 v3 : Value) (w : World) : (Instr.field 128 (.agg #[v0, v1, v2, v3]) 1).run Tryz.prog w = .ok v1 w := by kernel_rfl

theorem lay_name (v0 v1 v2 v3 v4 v5 v6 : Value) (w : World) : (Instr.field 186 (.agg #[v0, v1, v2, v3, v4, v5, v6]) 0).run Tryz.prog w = .ok v0 w := by kernel_rfl

theorem set6 {n b : Nat} {w W : World} {v0 v1 v2 v3 v4 v5 : Value} (h : Below n w W) (hb : n ≤ b) : Below n w ((((((W.setCell ⟨b, 0, none⟩ v0).setCell ⟨b, 1, none⟩ v1).setCell ⟨b, 2, none⟩ v2).setCell ⟨b, 3, none⟩ v3).setCell ⟨b, 4, none⟩ v4).setCell ⟨b, 5, none⟩ v5) :=
  (((((h.setCell hb _).setCell hb _).setCell hb _).setCell hb _).setCell hb _).setCell hb _

theorem drawn_raw {nm ln : ByteArray} {op wd f j n r i a k m : Int} {g : Bool} (num : Int → Int)
    (hnum : ∀ w, Calls Tryz.prog 111 #[.int .u32 (bits .and .u32 wd i), .bool g] w fun e w' => e = .returned (.int .i64 (num (bits .and .u32 wd i))) ∧ w' = w)
    (hrow : ∀ w, Tabs w → Calls Tryz.prog 55 #[.int .i64 op] w fun e w' => e = .returned (.agg #[.string nm, .int .i64 f, .int .u32 j, .int .u32 n]) ∧ Below w.heap.size w w')
    (hlay : ∀ w, Calls Tryz.prog 108 #[.int .i64 f] w fun e w' => e = .returned (.agg #[.string ln, .int .u32 r, .int .u32 i, .bool g, .int .u32 a, .int .i64 k, .int .u32 m]) ∧ Below w.heap.size w w')
    (w : World) (tb : Tabs w) :
    Calls Tryz.prog 73 #[.int .i64 op, .int .u32 wd] w fun e w' =>
      e = .returned (.agg #[.int .i64 op, .int .i64 (wrap64 (bits .and .u32 (bits .and .u32 wd r / 2097152) 31)), .int .i64 (wrap64 (bits .and .u32 (bits .and .u32 wd r / 65536) 31)), .int .i64 (wrap64 (bits .and .u32 (bits .and .u32 wd r / 2048) 31)), .int .i64 (wrap64 (bits .and .u32 (bits .and .u32 wd r / 64) 31)), .int .i64 (num (bits .and .u32 wd i))]) ∧ Below w.heap.size w w' := by
  have hform := row_form
  go_enter Tryz.func73, Tryz.ntmps73
  go_wp2_with fail
  have b0 := grow w (.cells #[.int .i64 0, .int .i64 0, .int .i64 0, .int .i64 0, .int .i64 0, .int .i64 0] 73)
  have i0 := cell6 w 73 (.int .i64 0) (.int .i64 0) (.int .i64 0) (.int .i64 0) (.int .i64 0) (.int .i64 0)
  have f0 : ∀ o, (w.alloc (.cells #[.int .i64 0, .int .i64 0, .int .i64 0, .int .i64 0, .int .i64 0, .int .i64 0] 73)).frozen? ⟨w.heap.size, o, none⟩ = false := by intro o; simp [go_sem]
  refine (hrow _ (tb.on b0)).mono ?_
  rintro e w1 ⟨rfl, h1⟩
  have f1 : ∀ o, w1.frozen? ⟨w.heap.size, o, none⟩ = false := fun o => by rw [(bcell h1).2 _ _ (by simp), f0]
  have i1 := i0.on h1
  have b1 := onto b0 h1
  clear i0 b0 h1 f0
  go_wp2_with fail
  refine (hlay _).mono ?_
  rintro e w2 ⟨rfl, h2⟩
  have f2 : ∀ o, w2.frozen? ⟨w.heap.size, o, none⟩ = false := fun o => by rw [(bcell h2).2 _ _ (cell_in i1.c0), f1]
  have i2 := i1.on h2
  have b2 := onto b1 h2
  clear i1 b1 h2 f1 hrow hlay tb
  clear w1
  have z2 := cell_in i2.c0
  go_wp2_with fail
  refine (hnum _).mono ?_
  rintro e w' ⟨rfl, rfl⟩
  have g3 := grow w2 (.cells #[.string ln, .int .u32 r, .int .u32 i, .bool g, .int .u32 a, .int .i64 k, .int .u32 m] 186)
  have i3 := i2.on g3
  have b3 := onto b2 g3
  have f3 : ∀ o, (w2.alloc (.cells #[.string ln, .int .u32 r, .int .u32 i, .bool g, .int .u32 a, .int .i64 k, .int .u32 m] 186)).frozen? ⟨w.heap.size, o, none⟩ = false := fun o => by rw [(bcell g3).2 _ _ z2, f2]
  generalize w2.alloc (.cells #[.string ln, .int .u32 r, .int .u32 i, .bool g, .int .u32 a, .int .i64 k, .int .u32 m] 186) = W at *
  clear g3 i2 b2 f2 z2
  obtain ⟨p0, p1, p2, p3, p4, p5⟩ := i3
  go_wp2
  refine bodyPost_ret (v := .agg #[.int .i64 op, .int .i64 (wrap64 (bits .and .u32 (bits .and .u32 wd r / 2097152) 31)), .int .i64 (wrap64 (bits .and .u32 (bits .and .u32 wd r / 65536) 31)), .int .i64 (wrap64 (bits .and .u32 (bits .and .u32 wd r / 2048) 31)), .int .i64 (wrap64 (bits .and .u32 (bits .and .u32 wd r / 64) 31)), .int .i64 (num (bits .and .u32 wd i))])
    (by simp [results, Tryz.results73, go_sem, p0, p1, p2, p3, p4, p5]) rfl ⟨rfl, set6 b3 (Nat.le_refl _)⟩

theorem field_is (n m k : Nat) (hn : n < 4294967296) (hm : m < 4294967296) (hk : 1 ≤ k) : wrap64 (bits .and .u32 (bits .and .u32 (n : Int) (m : Int) / (k : Int)) 31) = (((n &&& m) / k % 32 : Nat) : Int) := by
  have h1 : n &&& m < 4294967296 := Nat.lt_of_le_of_lt Nat.and_le_right hm
  have h2 : (n &&& m) / k ≤ n &&& m := Nat.div_le_self _ _
  rw [u32_and_nat _ _ hn hm, ← Int.natCast_ediv, show (31 : Int) = ((31 : Nat) : Int) from rfl, u32_and_nat _ _ (by omega) (by decide), nat_mask5, wrap64_id _ (by omega) (by omega)]

/-- What the program draws of a word: the struct. -/
def drawnV (op wd : Nat) : Value := .agg #[.int .i64 (op : Nat), .int .i64 (Dec.ds op wd : Nat), .int .i64 (Dec.dt op wd : Nat), .int .i64 (Dec.dd op wd : Nat), .int .i64 (Dec.da op wd : Nat), .int .i64 (Dec.di op wd)]

theorem drawn_any (op : Nat) (h : op < 69) (wd : Nat) (hw : wd < 4294967296) (w : World) (tb : Tabs w) :
    Calls Tryz.prog 73 #[.int .i64 (op : Int), .int .u32 (wd : Int)] w fun e w' => e = .returned (drawnV op wd) ∧ Below w.heap.size w w' := by
  have e : idx (op : Int) = op := by unfold idx; rw [if_pos (by omega)]; omega
  obtain ⟨h1, h2, h3, -⟩ := Dec.masks_lt _ (Dec.fm_lt op h).2
  have hi := u32_and_nat wd (Dec.limm (Dec.fm op)) hw h2
  have := drawn_raw (op := (op : Int)) (wd := (wd : Int)) (i := (Dec.limm (Dec.fm op) : Nat)) (g := Dec.lsigned (Dec.fm op)) (fun _ => Dec.di op wd)
    (fun w => by rw [hi]; exact number_any _ _ (Nat.lt_of_le_of_lt Nat.and_le_right h2) w)
    (fun w tb => by have := rowOf_any (op : Int) w tb; rw [e] at this; exact this)
    (fun w => layout_any (Dec.fm op) (Dec.fm_lt op h).2 w) w tb
  have e1 := field_is wd (Dec.lregs (Dec.fm op)) 2097152 hw h1 (by decide)
  have e2 := field_is wd (Dec.lregs (Dec.fm op)) 65536 hw h1 (by decide)
  have e3 := field_is wd (Dec.lregs (Dec.fm op)) 2048 hw h1 (by decide)
  have e4 := field_is wd (Dec.lregs (Dec.fm op)) 64 hw h1 (by decide)
  simp only [Int.cast_ofNat_Int] at e1 e2 e3 e4
  rw [e1, e2, e3, e4] at this
  exact this

end Go.Proofs.YtmegghgjllbamaaGreatDoor.De

/- The contract of the program's search for the op whose own bits a word has. -/
namespace Go.Proofs.YtmegghgjllbamaaGreatDoor.De
open Go.RowKit
set_option linter.unusedVariables false
set_option maxRecDepth 100000

theorem rowOf_at (op : Nat) (h : op < 69) (w : World) (tb : Tabs w) :
    Calls Tryz.prog 55 #[.int .i64 (op : Int)] w fun e w' => e = .returned (.agg #[.string (Dec.name op), .int .i64 (Dec.fm op : Nat), .int .u32 (Dec.mj op : Nat), .int .u32 (Dec.mn op : Nat)]) ∧ Below w.heap.size w w' := by
  have e : idx (op : Int) = op := by unfold idx; rw [if_pos (by omega)]; omega
  have := rowOf_any (op : Int) w tb
  rw [e] at this
  exact this

theorem andNot_is (wd f : Nat) (hw : wd < 4294967296) (hf : f < 20) : bits .andNot .u32 (wd : Int) (Dec.opened f : Nat) = ((wd &&& Dec.shut f : Nat) : Int) :=
  u32_andNot_nat wd (Dec.opened f) hw (Dec.masks_lt f hf).2.2.2

def sends (wd : Nat) (w : World) (e : Ending) (w' : World) : Prop :=
  ((∃ op, op < 69 ∧ wd &&& Dec.shut (Dec.fm op) = Dec.fixed op ∧ e = .returned (.tuple #[.int .i64 (op : Int), .bool true])) ∨
    ((∀ op < 69, wd &&& Dec.shut (Dec.fm op) ≠ Dec.fixed op) ∧ e = .returned (.tuple #[.int .i64 0, .bool false]))) ∧ Below w.heap.size w w'

theorem more {wd k : Nat} (h : ∀ op < k, wd &&& Dec.shut (Dec.fm op) ≠ Dec.fixed op) (hk : wd &&& Dec.shut (Dec.fm k) ≠ Dec.fixed k) : ∀ op < k + 1, wd &&& Dec.shut (Dec.fm op) ≠ Dec.fixed op := by
  intro op ho
  rcases Nat.lt_succ_iff_lt_or_eq.mp ho with h1 | h1
  · exact h op h1
  · rw [h1]; exact hk

set_option maxHeartbeats 2000000 in
theorem sought_any (wd : Nat) (hw : wd < 4294967296) (w : World) (tb : Tabs w) :
    Calls Tryz.prog 72 #[.int .u32 (wd : Int)] w (sends wd w) := by
  go_enter Tryz.func72, Tryz.ntmps72
  go_wp2
  go_loopw [7] (fun i x => ∃ k : Nat, k ≤ 69 ∧ i = .int .i64 k ∧ Hid (∀ op < k, wd &&& Dec.shut (Dec.fm op) ≠ Dec.fixed op) ∧ Hid (Below w.heap.size w x) ∧ Tabs x) (fun i _ => 69 - (intOf i).toNat)
  case atStart => exact ⟨0, Nat.zero_le _, rfl, hide (by intro op h; omega), hide (Below.refl _ _), tb⟩
  case round =>
    obtain ⟨k, hk, rfl, hno, hb, ht⟩ := hrel
    by_cases hlt : k < 69
    · have h1 : (k : Int) < 69 := by omega
      go_wp2_with fail
      refine (rowOf_at k hlt _ ht).mono ?_
      rintro e w1 ⟨rfl, hb1⟩
      have b1 := onto hb.out hb1
      have t1 := ht.on hb1
      clear hb ht hb1
      have r1 := cell4 w1 128 (.string (Dec.name k)) (.int .i64 (Dec.fm k : Nat)) (.int .u32 (Dec.mj k : Nat)) (.int .u32 (Dec.mn k : Nat))
      have g1 := grow w1 (.cells #[.string (Dec.name k), .int .i64 (Dec.fm k : Nat), .int .u32 (Dec.mj k : Nat), .int .u32 (Dec.mn k : Nat)] 128)
      have b2 := hide (onto b1 g1)
      have t2 := t1.on g1
      by_cases hm : Dec.mj k = wd / 67108864
      · have hq : (((Dec.mj k : Nat) : Int) != (wd : Int) / 67108864) = false := by rw [hm]; simp
        clear hm
        go_wp2_with fail
        refine (layout_any (Dec.fm k) (Dec.fm_lt k hlt).2 _).mono ?_
        rintro e w2 ⟨rfl, h2⟩
        have r2 := r1.on h2
        have b3 := onto b2.out h2
        have t3 := t2.on h2
        clear h2 b2 t2 g1 b1 t1 r1
        generalize w1.heap.size = R at *
        clear w1
        have l4 := cell7 w2 186 (.string (Dec.lname (Dec.fm k))) (.int .u32 (Dec.lregs (Dec.fm k) : Nat)) (.int .u32 (Dec.limm (Dec.fm k) : Nat)) (.bool (Dec.lsigned (Dec.fm k))) (.int .u32 (Dec.lagain (Dec.fm k) : Nat)) (.int .i64 (Dec.lat (Dec.fm k) : Nat)) (.int .u32 (Dec.lmark (Dec.fm k) : Nat))
        have g4 := grow w2 (.cells #[.string (Dec.lname (Dec.fm k)), .int .u32 (Dec.lregs (Dec.fm k) : Nat), .int .u32 (Dec.limm (Dec.fm k) : Nat), .bool (Dec.lsigned (Dec.fm k)), .int .u32 (Dec.lagain (Dec.fm k) : Nat), .int .i64 (Dec.lat (Dec.fm k) : Nat), .int .u32 (Dec.lmark (Dec.fm k) : Nat)] 186)
        have r4 := r2.on g4
        have b4 := hide (onto b3 g4)
        have t4 := t3.on g4
        have z2 := cell_in r2.c0
        clear b3 t3
        unfold layV
        go_wp2_with fail
        have hop := fun w => open_any (Dec.fm k) (Dec.fm_lt k hlt).2 w
        have hfx := fun w => fixed_any k hlt w
        unfold layV at hop hfx
        unfold rowV at hfx
        generalize w2.alloc (.cells #[.string (Dec.lname (Dec.fm k)), .int .u32 (Dec.lregs (Dec.fm k) : Nat), .int .u32 (Dec.limm (Dec.fm k) : Nat), .bool (Dec.lsigned (Dec.fm k)), .int .u32 (Dec.lagain (Dec.fm k) : Nat), .int .i64 (Dec.lat (Dec.fm k) : Nat), .int .u32 (Dec.lmark (Dec.fm k) : Nat)] 186) = V at *
        generalize w2.heap.size = L at *
        clear g4 r2 z2
        clear w2
        obtain ⟨q0, q1, q2, q3⟩ := r4
        obtain ⟨l0, l1, l2, l3, l4, l5, l6⟩ := l4
        have z1 := cell_in q0
        have z2 := cell_in l0
        go_region_held3 (fun x => (∀ b o, b < V.heap.size → x.cell? ⟨b, o, none⟩ = V.cell? ⟨b, o, none⟩) ∧ Below V.heap.size V x)
          (first | exact since_refl V | assumption)
          (first
            | (go_at_call 109; refine (hop _).mono ?_; rintro e w' ⟨rfl, hn⟩; have hT := since_on (by assumption) hn; clear hn)
            | (go_at_call 110; refine (hfx _).mono ?_; rintro e w' ⟨rfl, hn⟩; have hT := since_on (by assumption) hn; clear hn))
        have b5 := hide (onto b4.out hT.2)
        have t5 := t4.on hT.2
        rw [andNot_is wd _ hw (Dec.fm_lt k hlt).2]
        by_cases he : wd &&& Dec.shut (Dec.fm k) = Dec.fixed k
        · have hq2 : (((wd &&& Dec.shut (Dec.fm k) : Nat) : Int) == (Dec.fixed k : Nat)) = true := by rw [he]; simp
          have he := hide he
          go_wp2
          go_ret2
          exact ⟨Or.inl ⟨k, hlt, he.out, rfl⟩, b5.out⟩
        · have hq2 : (((wd &&& Dec.shut (Dec.fm k) : Nat) : Int) == (Dec.fixed k : Nat)) = false := by simp; omega
          have hn := hide (more hno.out he)
          clear hno he
          go_wp2
          go_roundw
          case rel => exact ⟨k + 1, by omega, by go_num, hn, b5, t5⟩
          case measure => simp [intOf]; omega
      · have hq : (((Dec.mj k : Nat) : Int) != (wd : Int) / 67108864) = true := by simp; omega
        have hn := more hno.out fun e => hm (Dec.major_of_shut k wd hlt hw e).symm
        clear hno hm
        have hn := hide hn
        go_wp2
        go_roundw
        case rel => exact ⟨k + 1, by omega, by go_num, hn, b2, t2⟩
        case measure => simp [intOf]; omega
    · have hx : k = 69 := by omega
      subst hx
      go_wp2
      go_ret2
      exact ⟨Or.inr ⟨hno.out, rfl⟩, hb.out⟩

end Go.Proofs.YtmegghgjllbamaaGreatDoor.De

/- What the program's Decode and Encode answer. -/
namespace Go.Proofs.YtmegghgjllbamaaGreatDoor.De
open Go.RowKit
set_option linter.unusedVariables false
set_option maxRecDepth 100000

/-- The instruction whose word a word is, field by field, and 0; or all 0 and 40, where there is none. -/
def Told (w : Nat) (o s t d a i e : Int) : Prop :=
  (∃ op, op < 69 ∧ Dec.is w op = true ∧ o = (op : Int) ∧ s = (Dec.ds op w : Nat) ∧ t = (Dec.dt op w : Nat) ∧ d = (Dec.dd op w : Nat) ∧ a = (Dec.da op w : Nat) ∧ i = Dec.di op w ∧ e = 0) ∨
    ((∀ op < 69, Dec.is w op = false) ∧ o = 0 ∧ s = 0 ∧ t = 0 ∧ d = 0 ∧ a = 0 ∧ i = 0 ∧ e = 40)

theorem sought_yes (wd op : Nat) (hw : wd < 4294967296) (ho : op < 69) (he : wd &&& Dec.shut (Dec.fm op) = Dec.fixed op) (w : World) (tb : Tabs w) :
    Calls Tryz.prog 72 #[.int .u32 (wd : Int)] w fun e w' => e = .returned (.tuple #[.int .i64 (op : Int), .bool true]) ∧ Below w.heap.size w w' := by
  refine (sought_any wd hw w tb).mono ?_
  rintro e w1 ⟨⟨o2, h2, e2, rfl⟩ | ⟨hno, rfl⟩, hb⟩
  · rw [Dec.one h2 ho e2 he]; exact ⟨rfl, hb⟩
  · exact absurd he (hno op ho)

theorem sought_no (wd : Nat) (hw : wd < 4294967296) (hn : ∀ op < 69, wd &&& Dec.shut (Dec.fm op) ≠ Dec.fixed op) (w : World) (tb : Tabs w) :
    Calls Tryz.prog 72 #[.int .u32 (wd : Int)] w fun e w' => e = .returned (.tuple #[.int .i64 0, .bool false]) ∧ Below w.heap.size w w' := by
  refine (sought_any wd hw w tb).mono ?_
  rintro e w1 ⟨⟨o2, h2, e2, rfl⟩ | ⟨hno, rfl⟩, hb⟩
  · exact absurd e2 (hn o2 h2)
  · exact ⟨rfl, hb⟩

theorem decode_raw_no {wd : Int} (hsought : ∀ w, Tabs w → Calls Tryz.prog 72 #[.int .u32 wd] w fun e w' => e = .returned (.tuple #[.int .i64 0, .bool false]) ∧ Below w.heap.size w w') (w : World) (tb : Tabs w) :
    Calls Tryz.prog 39 #[.int .u32 wd] w fun e w' => e = .returned (.tuple #[.agg #[.int .i64 0, .int .i64 0, .int .i64 0, .int .i64 0, .int .i64 0, .int .i64 0], .int .i64 40]) ∧ Below w.heap.size w w' := by
  go_enter Tryz.func39, Tryz.ntmps39
  go_wp2_with fail
  have b0 := grow w (.cells #[.int .i64 0, .int .i64 0, .int .i64 0, .int .i64 0, .int .i64 0, .int .i64 0] 73)
  have i0 := cell6 w 73 (.int .i64 0) (.int .i64 0) (.int .i64 0) (.int .i64 0) (.int .i64 0) (.int .i64 0)
  have f0 : ∀ o, (w.alloc (.cells #[.int .i64 0, .int .i64 0, .int .i64 0, .int .i64 0, .int .i64 0, .int .i64 0] 73)).frozen? ⟨w.heap.size, o, none⟩ = false := by intro o; simp [go_sem]
  refine (hsought _ (tb.on b0)).mono ?_
  rintro e w1 ⟨rfl, h1⟩
  have f1 : ∀ o, w1.frozen? ⟨w.heap.size, o, none⟩ = false := fun o => by rw [(bcell h1).2 _ _ (by simp), f0]
  obtain ⟨p0, p1, p2, p3, p4, p5⟩ := i0.on h1
  have b1 := onto b0 h1
  clear i0 b0 h1 f0 tb hsought
  go_wp2
  refine bodyPost_ret (v := .tuple #[.agg #[.int .i64 0, .int .i64 0, .int .i64 0, .int .i64 0, .int .i64 0, .int .i64 0], .int .i64 40]) (by simp [results, Tryz.results39, go_sem, p0, p1, p2, p3, p4, p5]) rfl ⟨rfl, set6 b1 (Nat.le_refl _)⟩

set_option maxHeartbeats 2000000 in
theorem decode_raw {wd op s t d a i L : Int} {b : Bool} (hq : (L != wd) = b)
    (hsought : ∀ w, Tabs w → Calls Tryz.prog 72 #[.int .u32 wd] w fun e w' => e = .returned (.tuple #[.int .i64 op, .bool true]) ∧ Below w.heap.size w w')
    (hdrawn : ∀ w, Tabs w → Calls Tryz.prog 73 #[.int .i64 op, .int .u32 wd] w fun e w' => e = .returned (.agg #[.int .i64 op, .int .i64 s, .int .i64 t, .int .i64 d, .int .i64 a, .int .i64 i]) ∧ Below w.heap.size w w')
    (hlaid : ∀ w, Tabs w → Calls Tryz.prog 74 #[.agg #[.int .i64 op, .int .i64 s, .int .i64 t, .int .i64 d, .int .i64 a, .int .i64 i]] w fun e w' => e = .returned (.int .u32 L) ∧ Below w.heap.size w w')
    (w : World) (tb : Tabs w) :
    Calls Tryz.prog 39 #[.int .u32 wd] w fun e w' => e = .returned (if b then .tuple #[.agg #[.int .i64 0, .int .i64 0, .int .i64 0, .int .i64 0, .int .i64 0, .int .i64 0], .int .i64 40] else .tuple #[.agg #[.int .i64 op, .int .i64 s, .int .i64 t, .int .i64 d, .int .i64 a, .int .i64 i], .int .i64 0]) ∧ Below w.heap.size w w' := by
  go_enter Tryz.func39, Tryz.ntmps39
  go_wp2_with fail
  have b0 := grow w (.cells #[.int .i64 0, .int .i64 0, .int .i64 0, .int .i64 0, .int .i64 0, .int .i64 0] 73)
  have i0 := cell6 w 73 (.int .i64 0) (.int .i64 0) (.int .i64 0) (.int .i64 0) (.int .i64 0) (.int .i64 0)
  have f0 : ∀ o, (w.alloc (.cells #[.int .i64 0, .int .i64 0, .int .i64 0, .int .i64 0, .int .i64 0, .int .i64 0] 73)).frozen? ⟨w.heap.size, o, none⟩ = false := by intro o; simp [go_sem]
  refine (hsought _ (tb.on b0)).mono ?_
  rintro e w1 ⟨rfl, h1⟩
  have f1 : ∀ o, w1.frozen? ⟨w.heap.size, o, none⟩ = false := fun o => by rw [(bcell h1).2 _ _ (by simp), f0]
  have i1 := i0.on h1
  have b1 := onto b0 h1
  have t1 := (tb.on b0).on h1
  clear i0 b0 h1 f0 tb hsought
  go_wp2_with fail
  refine (hdrawn _ t1).mono ?_
  rintro e w2 ⟨rfl, h2⟩
  have f2 : ∀ o, w2.frozen? ⟨w.heap.size, o, none⟩ = false := fun o => by rw [(bcell h2).2 _ _ (cell_in i1.c0), f1]
  have i2 := i1.on h2
  have b2 := onto b1 h2
  have t2 := t1.on h2
  clear i1 b1 h2 f1 t1 hdrawn
  clear w1
  have z2 := cell_in i2.c0
  go_wp2_with fail
  have g3 := grow w2 (.cells #[.int .i64 op, .int .i64 s, .int .i64 t, .int .i64 d, .int .i64 a, .int .i64 i] 73)
  have k3 := cell6 w2 73 (.int .i64 op) (.int .i64 s) (.int .i64 t) (.int .i64 d) (.int .i64 a) (.int .i64 i)
  refine (hlaid _ (t2.on g3)).mono ?_
  rintro e w3 ⟨rfl, h3⟩
  have i3 := (i2.on g3).on h3
  have k4 := k3.on h3
  have b3 := onto (onto b2 g3) h3
  have f3 : ∀ o, w3.frozen? ⟨w.heap.size, o, none⟩ = false := fun o => by rw [(bcell h3).2 _ _ (by simp; omega), (bcell g3).2 _ _ z2, f2]
  clear k3 g3 i2 b2 f2 h3 t2 hlaid
  have ne : w.heap.size ≠ w2.heap.size := by omega
  generalize w2.heap.size = K at *
  clear w2
  clear z2
  obtain ⟨p0, p1, p2, p3, p4, p5⟩ := i3
  obtain ⟨q0, q1, q2, q3, q4, q5⟩ := k4
  cases b
  · go_wp2
    refine bodyPost_ret (v := .tuple #[.agg #[.int .i64 op, .int .i64 s, .int .i64 t, .int .i64 d, .int .i64 a, .int .i64 i], .int .i64 0]) (by simp [results, Tryz.results39, go_sem, p0, p1, p2, p3, p4, p5]) rfl ⟨rfl, set6 b3 (Nat.le_refl _)⟩
  · go_wp2
    refine bodyPost_ret (v := .tuple #[.agg #[.int .i64 0, .int .i64 0, .int .i64 0, .int .i64 0, .int .i64 0, .int .i64 0], .int .i64 40]) (by simp [results, Tryz.results39, go_sem, p0, p1, p2, p3, p4, p5]) rfl ⟨rfl, set6 b3 (Nat.le_refl _)⟩

theorem decode_any (wd : Nat) (hw : wd < 4294967296) : ∃ o s t d a i e : Int, Told wd o s t d a i e ∧ ∀ w, Tabs w →
    Calls Tryz.prog 39 #[.int .u32 (wd : Int)] w fun e' w' => e' = .returned (.tuple #[.agg #[.int .i64 o, .int .i64 s, .int .i64 t, .int .i64 d, .int .i64 a, .int .i64 i], .int .i64 e]) ∧ Below w.heap.size w w' := by
  by_cases hx : ∃ op, op < 69 ∧ wd &&& Dec.shut (Dec.fm op) = Dec.fixed op
  · obtain ⟨op, ho, he⟩ := hx
    cases hi : Dec.is wd op with
    | true =>
      have hl := eq_of_beq hi
      exact ⟨_, _, _, _, _, _, _, Or.inl ⟨op, ho, hi, rfl, rfl, rfl, rfl, rfl, rfl, rfl⟩, fun w tb => decode_raw (b := false) (L := (Dec.laid op (Dec.ds op wd) (Dec.dt op wd) (Dec.dd op wd) (Dec.da op wd) (Dec.di op wd) : Nat)) (by rw [hl]; simp)
        (fun w tb => sought_yes wd op hw ho he w tb) (fun w tb => drawn_any op ho wd hw w tb) (fun w tb => laid_any op ho _ _ _ _ _ w tb) w tb⟩
    | false =>
      have hl : Dec.laid op (Dec.ds op wd) (Dec.dt op wd) (Dec.dd op wd) (Dec.da op wd) (Dec.di op wd) ≠ wd := ne_of_beq_false hi
      have hn : ∀ o2 < 69, Dec.is wd o2 = false := fun o2 h2 => by
        cases h3 : Dec.is wd o2 with
        | false => rfl
        | true => rw [Dec.one h2 ho (Dec.is_shut h2 h3) he] at h3; rw [h3] at hi; exact hi
      exact ⟨_, _, _, _, _, _, _, Or.inr ⟨hn, rfl, rfl, rfl, rfl, rfl, rfl, rfl⟩, fun w tb => decode_raw (b := true) (L := (Dec.laid op (Dec.ds op wd) (Dec.dt op wd) (Dec.dd op wd) (Dec.da op wd) (Dec.di op wd) : Nat)) (by simp only [bne_iff_ne, ne_eq, Int.natCast_inj]; exact hl)
        (fun w tb => sought_yes wd op hw ho he w tb) (fun w tb => drawn_any op ho wd hw w tb) (fun w tb => laid_any op ho _ _ _ _ _ w tb) w tb⟩
  · have hn : ∀ op < 69, wd &&& Dec.shut (Dec.fm op) ≠ Dec.fixed op := fun op ho he => hx ⟨op, ho, he⟩
    have hf : ∀ o2 < 69, Dec.is wd o2 = false := fun o2 h2 => by
      cases h3 : Dec.is wd o2 with
      | false => rfl
      | true => exact absurd (Dec.is_shut h2 h3) (hn o2 h2)
    exact ⟨_, _, _, _, _, _, _, Or.inr ⟨hf, rfl, rfl, rfl, rfl, rfl, rfl, rfl⟩, fun w tb => decode_raw_no (fun w tb => sought_no wd hw hn w tb) w tb⟩

end Go.Proofs.YtmegghgjllbamaaGreatDoor.De

/- What the program's Encode answers. -/
namespace Go.Proofs.YtmegghgjllbamaaGreatDoor.De
open Go.RowKit
set_option linter.unusedVariables false
set_option maxRecDepth 100000

/-- Are two instructions the same? -/
def same6 (o s t d a i o' s' t' d' a' i' : Int) : Bool := o == o' && (s == s' && (t == t' && (d == d' && (a == a' && i == i'))))

theorem same6_iff {o s t d a i o' s' t' d' a' i' : Int} : same6 o s t d a i o' s' t' d' a' i' = true ↔ o = o' ∧ s = s' ∧ t = t' ∧ d = d' ∧ a = a' ∧ i = i' := by
  simp [same6]

theorem eq24 (o s t d a i o' s' t' d' a' i' : Int) (w : World) : (Op.equalIn 10000 73 (.agg #[.int .i64 o, .int .i64 s, .int .i64 t, .int .i64 d, .int .i64 a, .int .i64 i]) (.agg #[.int .i64 o', .int .i64 s', .int .i64 t', .int .i64 d', .int .i64 a', .int .i64 i'])).run Tryz.prog w = .ok (same6 o s t d a i o' s' t' d' a' i') w := by
  have hu : Tryz.prog.underlying 73 = some (.struct (Tryz.prog.fieldsOf 73)) := by kernel_rfl
  have hp : Tryz.prog.stoodInHeld 73 = false := by kernel_rfl
  rw [run_equalIn_agg w 9999 73 _ _ hu hp]
  simp [go_sem, same6]
  repeat' split
  all_goals simp_all

theorem eql24 (o s t d a i o' s' t' d' a' i' : Int) (w : World) : (binOp .eql 73 (.agg #[.int .i64 o, .int .i64 s, .int .i64 t, .int .i64 d, .int .i64 a, .int .i64 i]) (.agg #[.int .i64 o', .int .i64 s', .int .i64 t', .int .i64 d', .int .i64 a', .int .i64 i'])).run Tryz.prog w = .ok (.bool (same6 o s t d a i o' s' t' d' a' i')) w := by
  rw [run_eql_struct, eq24]; rfl

theorem neq24 (o s t d a i o' s' t' d' a' i' : Int) (w : World) : (binOp .neq 73 (.agg #[.int .i64 o, .int .i64 s, .int .i64 t, .int .i64 d, .int .i64 a, .int .i64 i]) (.agg #[.int .i64 o', .int .i64 s', .int .i64 t', .int .i64 d', .int .i64 a', .int .i64 i'])).run Tryz.prog w = .ok (.bool (!same6 o s t d a i o' s' t' d' a' i')) w := by
  rw [run_neq_struct, eq24]; rfl

/-- May an instruction be? Its fields are those that are drawn of the word that they are laid to. -/
def Good (op : Nat) (s t d a i : Int) : Prop :=
  ((Dec.ds op (Dec.laid op s t d a i) : Nat) : Int) = s ∧ ((Dec.dt op (Dec.laid op s t d a i) : Nat) : Int) = t ∧ ((Dec.dd op (Dec.laid op s t d a i) : Nat) : Int) = d ∧
    ((Dec.da op (Dec.laid op s t d a i) : Nat) : Int) = a ∧ Dec.di op (Dec.laid op s t d a i) = i

/-- An instruction's word and 0; or 0 and 40, where it may not be. -/
def Word (o s t d a i v e : Int) : Prop :=
  (∃ op, op < 69 ∧ o = ((op : Nat) : Int) ∧ Good op s t d a i ∧ v = (Dec.laid op s t d a i : Nat) ∧ e = 0) ∨
    ((∀ op, op < 69 → o = ((op : Nat) : Int) → ¬ Good op s t d a i) ∧ v = 0 ∧ e = 40)

end Go.Proofs.YtmegghgjllbamaaGreatDoor.De

/- Name, Form and Branch, and the calls of layer 4 whose answers the document fixes. -/
namespace Go.Proofs.YtmegghgjllbamaaGreatDoor.De
open Go.RowKit
set_option linter.unusedVariables false
set_option maxRecDepth 100000

theorem form_any (op : Int) (w : World) (tb : Tabs w) :
    Calls Tryz.prog 75 #[.int .i64 op] w fun e w' => e = .returned (.string (Dec.lname (Dec.fm (idx op)))) ∧ Below w.heap.size w w' := by
  have hr := fun w tb => rowOf_any op w tb
  have hl := fun w => layout_any (Dec.fm (idx op)) (idx_lt op) w
  unfold rowV at hr
  unfold layV at hl
  have hf := row_form
  have hn := lay_name
  generalize Dec.lname (Dec.fm (idx op)) = nm at *
  go_enter Tryz.func75, Tryz.ntmps75
  go_wp2_with fail
  refine (hr _ tb).mono ?_
  rintro e w1 ⟨rfl, h1⟩
  go_wp2_with fail
  refine (hl _).mono ?_
  rintro e w2 ⟨rfl, h2⟩
  go_wp2
  go_ret
  exact ⟨rfl, onto h1 h2⟩

/-- Is a form one of a branch or a jump? -/
def goes (f : Nat) : Bool := f == 3 || f == 4 || f == 11 || f == 12 || f == 13

theorem branch_any (op : Int) (w : World) (tb : Tabs w) :
    Calls Tryz.prog 25 #[.int .i64 op] w fun e w' => e = .returned (.bool (goes (Dec.fm (idx op)))) ∧ Below w.heap.size w w' := by
  have hr := fun w tb => rowOf_any op w tb
  unfold rowV at hr
  have hf := row_form
  have hx := idx_lt op
  generalize Dec.fm (idx op) = f at *
  rcases (by omega : f = 3 ∨ f = 4 ∨ f = 11 ∨ f = 12 ∨ f = 13 ∨ (f ≠ 3 ∧ f ≠ 4 ∧ f ≠ 11 ∧ f ≠ 12 ∧ f ≠ 13)) with rfl | rfl | rfl | rfl | rfl | ⟨h3, h4, h11, h12, h13⟩
  case inr.inr.inr.inr.inr =>
    have e3 : ((f : Int) == 3) = false := by simp; omega
    have e4 : ((f : Int) == 4) = false := by simp; omega
    have e11 : ((f : Int) == 11) = false := by simp; omega
    have e12 : ((f : Int) == 12) = false := by simp; omega
    have e13 : ((f : Int) == 13) = false := by simp; omega
    have eg : goes f = false := by simp [goes, h3, h4, h11, h12, h13]
    rw [eg]
    clear h3 h4 h11 h12 h13 eg
    go_enter Tryz.func25, Tryz.ntmps25
    go_wp2_with fail
    refine (hr _ tb).mono ?_
    rintro e w1 ⟨rfl, h1⟩
    go_wp2
    go_ret
    exact ⟨rfl, h1⟩
  all_goals
    clear hx
    go_enter Tryz.func25, Tryz.ntmps25
    go_wp2_with fail
    refine (hr _ tb).mono ?_
    rintro e w1 ⟨rfl, h1⟩
    go_wp2
    go_ret
    exact ⟨rfl, h1⟩

theorem told_of {w op : Nat} {o s t d a i e : Int} (ho : op < 69) (hi : Dec.is w op = true) (h : Told w o s t d a i e) :
    o = (op : Int) ∧ s = (Dec.ds op w : Nat) ∧ t = (Dec.dt op w : Nat) ∧ d = (Dec.dd op w : Nat) ∧ a = (Dec.da op w : Nat) ∧ i = Dec.di op w ∧ e = 0 := by
  rcases h with ⟨o2, h2, i2, hr⟩ | ⟨hn, -⟩
  · rw [Dec.one h2 ho (Dec.is_shut h2 i2) (Dec.is_shut ho hi)] at hr; exact hr
  · rw [hn op ho] at hi; cases hi

theorem told_no {w : Nat} {o s t d a i e : Int} (hn : ∀ op < 69, Dec.is w op = false) (h : Told w o s t d a i e) :
    o = 0 ∧ s = 0 ∧ t = 0 ∧ d = 0 ∧ a = 0 ∧ i = 0 ∧ e = 40 := by
  rcases h with ⟨o2, h2, i2, hr⟩ | ⟨-, hr⟩
  · rw [hn o2 h2] at i2; cases i2
  · exact hr

theorem dec0 (w : World) (tb : Tabs w) :
    Calls Tryz.prog 39 #[.int .u32 0] w fun e' w' => e' = .returned (.tuple #[.agg #[.int .i64 0, .int .i64 0, .int .i64 0, .int .i64 0, .int .i64 0, .int .i64 0], .int .i64 0]) ∧ Below w.heap.size w w' := by
  obtain ⟨o, s, t, d, a, i, e, h, hc⟩ := decode_any 0 (by decide)
  obtain ⟨rfl, rfl, rfl, rfl, rfl, rfl, rfl⟩ := told_of (op := 0) (by decide) (by decide +kernel) h
  have := hc w tb
  rw [show Dec.ds 0 0 = 0 by decide +kernel, show Dec.dt 0 0 = 0 by decide +kernel, show Dec.dd 0 0 = 0 by decide +kernel, show Dec.da 0 0 = 0 by decide +kernel, show Dec.di 0 0 = 0 by decide +kernel] at this
  exact this

theorem decF (w : World) (tb : Tabs w) :
    Calls Tryz.prog 39 #[.int .u32 4294967295] w fun e' w' => e' = .returned (.tuple #[.agg #[.int .i64 0, .int .i64 0, .int .i64 0, .int .i64 0, .int .i64 0, .int .i64 0], .int .i64 40]) ∧ Below w.heap.size w w' := by
  obtain ⟨o, s, t, d, a, i, e, h, hc⟩ := decode_any 4294967295 (by decide)
  obtain ⟨rfl, rfl, rfl, rfl, rfl, rfl, rfl⟩ := told_no (by decide +kernel) h
  exact hc w tb

theorem good_addiu : Good 46 29 2 0 0 (-4) := by unfold Good; decide +kernel

theorem good_jr : ¬ Good 6 1 1 0 0 0 := by unfold Good; decide +kernel

theorem form_61 (w : World) (tb : Tabs w) : Calls Tryz.prog 75 #[.int .i64 61] w fun e w' => e = .returned (.string ⟨#[77]⟩) ∧ Below w.heap.size w w' := form_any 61 w tb

theorem branch_39 (w : World) (tb : Tabs w) : Calls Tryz.prog 25 #[.int .i64 39] w fun e w' => e = .returned (.bool true) ∧ Below w.heap.size w w' := branch_any 39 w tb

theorem branch_20 (w : World) (tb : Tabs w) : Calls Tryz.prog 25 #[.int .i64 20] w fun e w' => e = .returned (.bool false) ∧ Below w.heap.size w w' := branch_any 20 w tb

end Go.Proofs.YtmegghgjllbamaaGreatDoor.De
