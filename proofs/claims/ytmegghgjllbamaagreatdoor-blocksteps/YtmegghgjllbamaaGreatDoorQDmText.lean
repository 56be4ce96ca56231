/- Layer 11: contracts of a state's bytes, the program's. -/
import Derived.Test.YtmegghgjllbamaaGreatDoorQDmTwo
import Derived.Laws.AppendOwn
import Derived.RegionTactic
import Derived.Deep.RegionLaw
namespace Go.Proofs.YtmegghgjllbamaaGreatDoor.Dm
open Go.RowKit
set_option linter.unusedVariables false
set_option maxRecDepth 100000

/-- A number as four bytes. -/
def quad (v : Int) : List Int := [v / 16777216, v / 65536 % 256, v / 256 % 256, v % 256]

/-- The four numbers of a state, in the order of its bytes. -/
def four (d : Dm) : List Int := [d.a, d.n, d.b, d.y]

/-- The bytes of the first j numbers. -/
def quads (d : Dm) (j : Nat) : List Int := ((four d).take j).flatMap quad

theorem quads_len (d : Dm) (j : Nat) (h : j ≤ 4) : (quads d j).length = 4 * j := by
  match j, h with
  | 0, _ => rfl
  | 1, _ => rfl
  | 2, _ => rfl
  | 3, _ => rfl
  | 4, _ => rfl

theorem quads_succ (d : Dm) (j : Nat) (x : Int) (h : (four d)[j]? = some x) : quads d (j + 1) = quads d j ++ quad x := by
  unfold quads
  rw [List.take_add_one, h, List.flatMap_append]
  simp

/-- One, if it is so. -/
def one (b : Bool) : Int := if b then 1 else 0

/-- A state's bytes. -/
def textV (d : Dm) : ByteArray := strOfNums (quads d 4 ++ [one d.r])

/-- Numbers as bytes in cells. -/
def asU8 (ns : List Int) : List Value := ns.map (Value.int .u8)

theorem asU8_one (ns : List Int) : ∀ v ∈ asU8 ns, v.oneCell' = true := by
  intro v hv
  unfold asU8 at hv
  rw [List.mem_map] at hv
  obtain ⟨j, -, rfl⟩ := hv
  rfl

theorem asU8_new (w : World) (ns : List Int) : ∀ (j : Nat) u, (asU8 ns)[j]? = some u → (w.alloc (.cells (asU8 ns).toArray 5)).cell? ((⟨w.heap.size, 0, none⟩ : Addr).add j) = some u := by
  intro j u h
  rw [Addr.add_lit, World.cell?_alloc_new]
  simpa using h

/-- A row of bytes of the call's own, as a text. -/
theorem own_nums {w : World} {base n : Nat} {v : Value} {ns : List Int} (O : w.ownsRow base 5 1 v n (asU8 ns)) (hn : ns.length = n) (h0 : 0 < n) :
    (convert 53 9 v).run Tryz.prog w = .ok (.string (strOfNums ns)) w := by
  rcases O.2 with ⟨-, rfl⟩ | ⟨g, cap, cur, rfl, -⟩
  · omega
  · refine run_convert_bytes_arg w 53 5 Tryz.underlying53 Tryz.underlying5 g 0 n cap ns hn ?_ 9 Tryz.underlying9
    intro i hi
    have hi' : i < ns.length := by omega
    have := O.cells (g := g) rfl i (.int .u8 ns[i]) (by unfold asU8; rw [List.getElem?_map, List.getElem?_eq_getElem hi']; rfl)
    rw [Addr.add_lit] at this
    rw [this, List.getD_eq_getElem?_getD, List.getElem?_eq_getElem hi']
    rfl

theorem four_w {d : Dm} (hd : Wd d) {j : Nat} {x : Int} (h : (four d)[j]? = some x) : W32 x := by
  unfold four at h
  match j, h with
  | 0, h => simp at h; subst h; exact hd.a
  | 1, h => simp at h; subst h; exact hd.n
  | 2, h => simp at h; subst h; exact hd.b
  | 3, h => simp at h; subst h; exact hd.y
  | j + 4, h => simp at h

end Go.Proofs.YtmegghgjllbamaaGreatDoor.Dm
