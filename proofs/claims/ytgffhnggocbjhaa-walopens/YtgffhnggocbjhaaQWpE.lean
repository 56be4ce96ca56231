/- Layer 19: the program's log: a head's bytes. -/
import Derived.Test.YtgffhnggocbjhaaQWpD
import Derived.Test.YtgffhnggocbjhaaQWlRead
import Derived.Laws.Shifts
import Derived.Laws.AppendOwn
import Derived.ArgAppend
import Derived.Lib.SmallJoins
namespace Go.Proofs.Ytgffhnggocbjhaa
open Go.RowKit
set_option linter.unusedVariables false
set_option maxRecDepth 100000
set_option linter.unusedSimpArgs false

/-- Bytes in a row of the call's own, the slice in a box. -/
def Row8 (y : World) (base : Nat) (v : Value) (s : ByteArray) (P : Prop) : Prop :=
  y.ownsRow base 5 1 v s.size (Go.Lib.strCells s) ∨ (¬ P ∧ ∃ g, v = .slice (some ⟨g, 0, none⟩) s.size s.size ∧ base ≤ g ∧ g < y.heap.size ∧ ∀ j u, (Go.Lib.strCells s)[j]? = some u → y.cell? ⟨g, j, none⟩ = some u)
def Buf (y : World) (base bb : Nat) (s : ByteArray) (P : Prop) : Prop :=
  ∃ v, Box y bb #[v] ∧ Row8 y base v s P ∧ v.ownBlock ≠ some bb ∧ base ≤ bb
theorem Row8.on {w y : World} {base : Nat} {v : Value} {s : ByteArray} {P : Prop} (h : Row8 w base v s P) (hb : Below w.heap.size w y) : Row8 y base v s P := by
  rcases h with h | ⟨n, g, e, hg, hl, hc⟩
  · exact .inl (own_keep h (fun g _ hg => hb.block g hg))
  · exact .inr ⟨n, g, e, hg, Nat.lt_of_lt_of_le hl hb.size, fun j u hj => (hb.cell (p := ⟨g, j, none⟩) hl).trans (hc j u hj)⟩

def byte1 (x : Nat) : ByteArray := textOf 1 fun _ => x

theorem strCells_byte1 (x : Nat) (h : x < 256) : Go.Lib.strCells (byte1 x) = [.int .u8 (x : Int)] := by
  unfold byte1 Go.Lib.strCells
  rw [textOf_data]
  simp
  omega

theorem put_byte {y : World} {base bb : Nat} {s : ByteArray} {v : Value} {P : Prop} (BB : Box y bb #[v]) (O : Row8 y base v s P) (hv : v.ownBlock ≠ some bb) (hbb : base ≤ bb) (x : Nat) (hx : x < 256) (hs : s.size ≤ 1000) :
    ∃ v' z, (Builtin.append_ #[57, 57] 57 #[v, .slice (some ⟨y.heap.size, 0, none⟩) 1 1]).run Try.prog (y.alloc (.cells #[.int .u8 (x : Int)] 5)) = .ok v' z ∧ (∃ a n c, v' = .slice a n c) ∧ Box z bb #[v] ∧
      Hid (Buf (z.setCell ⟨bb, 0, none⟩ v') base bb (s ++ byte1 x) True) ∧ Hid (Below base y (z.setCell ⟨bb, 0, none⟩ v')) := by
  obtain ⟨i, hi, hz, hsz, hb⟩ := infoB
  have BL := Box.new y #[.int .u8 (x : Int)] 5
  have hBy : base ≤ y.heap.size := by have := BB.2.2; omega
  have g1 := grow y (.cells #[.int .u8 (x : Int)] 5)
  have g1' : Below base y (y.alloc (.cells #[.int .u8 (x : Int)] 5)) := g1.mono hBy
  have B1 := BB.on g1
  have hgo : ∃ v' z, (Builtin.append_ #[57, 57] 57 #[v, .slice (some ⟨y.heap.size, 0, none⟩) 1 1]).run Try.prog (y.alloc (.cells #[.int .u8 (x : Int)] 5)) = .ok v' z ∧
      z.ownsRow base 5 1 v' (s.size + 1) (Go.Lib.strCells s ++ [.int .u8 (x : Int)]) ∧ Box z bb #[v] ∧ Below base y z ∧ (v'.ownBlock = v.ownBlock ∨ ∃ j, v'.ownBlock = some j ∧ y.heap.size < j) := by
    rcases O with O | ⟨-, g, rfl, hg, hgl, hgc⟩
    · have O2 := O.alloc (.cells #[.int .u8 (x : Int)] 5)
      obtain ⟨v', z, h1, h2, h3, -, h5⟩ := run_append_own_at (P := Try.prog) _ base 57 57 5 i _ 1 1 Try.underlying57 hi hz hsz hb rfl (by decide) v s.size _ O2 ⟨y.heap.size, 0, none⟩ 1 1 [.int .u8 (x : Int)] rfl (fun j u hj => by rw [Addr.add_lit, Nat.zero_add, BL.cell]; simpa using hj) (by simp [Value.oneCell']) (by unfold maxLen; omega) (by omega) (Nat.le_trans hBy g1.size)
      refine ⟨v', z, h1, h2, B1.of_heap (h3.block bb B1.2.2 (fun e => hv e.symm)), g1'.grown h3 (Nat.le_trans hBy g1.size) (fun j hj => (O2.lt j hj).1), ?_⟩
      rcases h5 with h5 | h5
      · exact .inl h5
      · exact .inr ⟨_, h5, by rw [World.size_alloc]; omega⟩
    · have hl1 : (Go.Lib.strCells s).length = s.size * 1 := by rw [strCells_len]; omega
      obtain ⟨v', z, h1, h2, h3⟩ := run_append_arg_grows (P := Try.prog) (w := y.alloc (.cells #[.int .u8 (x : Int)] 5)) 57 57 5 i _ 1 1 Try.underlying57 hi hz hsz hb rfl (by decide) ⟨g, 0, none⟩ s.size s.size (Go.Lib.strCells s) hl1 (fun j u hj => by rw [Addr.add_lit, Nat.zero_add]; exact (g1.cell (p := ⟨g, j, none⟩) hgl).trans (hgc j u hj)) ⟨y.heap.size, 0, none⟩ 1 1 [.int .u8 (x : Int)] rfl (fun j u hj => by rw [Addr.add_lit, Nat.zero_add, BL.cell]; simpa using hj) (by omega) (by unfold maxLen; omega) (by omega)
      have hob : ∃ j, v'.ownBlock = some j ∧ y.heap.size < j := by
        rcases h2.2 with ⟨e, h0⟩ | ⟨g2, cap, cur, e, hb2, -⟩
        · omega
        · exact ⟨g2, by rw [e]; rfl, by rw [World.size_alloc] at hb2; omega⟩
      refine ⟨v', z, h1, ?_, B1.of_heap (h3.block bb B1.2.2 (by simp)), g1'.grown h3 (Nat.le_trans hBy g1.size) (fun j hj => by simp at hj), .inr hob⟩
      exact ⟨h2.1, h2.2.elim .inl (fun ⟨g2, cap, cur, e, hg2, r⟩ => .inr ⟨g2, cap, cur, e, Nat.le_trans (Nat.le_trans hBy g1.size) hg2, r⟩)⟩
  obtain ⟨v', z, h1, h2, B2, g2, h5⟩ := hgo
  have hlt := BB.2.2
  have hv' : v'.ownBlock ≠ some bb := by
    rcases h5 with h5 | h5
    · rw [h5]; exact hv
    · obtain ⟨j, hj, hj2⟩ := h5
      rw [hj]; intro e; injection e with e; omega
  have e1 : Go.Lib.strCells s ++ [.int .u8 (x : Int)] = Go.Lib.strCells (s ++ byte1 x) := by rw [strCells_app, strCells_byte1 x hx]
  have e2 : (s ++ byte1 x).size = s.size + 1 := by rw [ByteArray.size_append]; unfold byte1; rw [textOf_size]
  rw [e1] at h2
  have hsh : ∃ a n c, v' = .slice a n c := by
    rcases h2.2 with ⟨e, -⟩ | ⟨g, cap, cur, e, -⟩
    · exact ⟨_, _, _, e⟩
    · exact ⟨_, _, _, e⟩
  refine ⟨v', z, h1, hsh, B2, hide ⟨v', B2.set 0 v', .inl ?_, hv', hbb⟩, hide (g2.setCell (p := ⟨bb, 0, none⟩) hbb v')⟩
  rw [e2]
  exact own_keep h2 (fun g hg _ => Below.heap_setCell _ _ _ _ (fun e => hv' (by rw [hg]; exact congrArg some e)))

/-- A number's bytes, the higher first. -/
def bytesF (v n j : Nat) : Nat := v / 256 ^ (n - 1 - j) % 256
def bytesT (v n : Nat) : ByteArray := textOf n (bytesF v n)

theorem bytesF_lt (v n j : Nat) : bytesF v n j < 256 := Nat.mod_lt _ (by decide)

theorem shr_is (v : Nat) (hv : v < 9223372036854775808) (k : Nat) : (v : Int) / 2 ^ min (8 * (k : Int)).toNat 64 = ((v / 256 ^ k : Nat) : Int) := by
  have e : (8 * (k : Int)).toNat = 8 * k := by omega
  rw [e]
  rcases Nat.lt_or_ge 64 (8 * k) with h | h
  · rw [Nat.min_eq_right (by omega)]
    have h1 : v / 256 ^ k = 0 := by
      refine Nat.div_eq_of_lt (Nat.lt_of_lt_of_le hv ?_)
      exact Nat.le_trans (by decide : 9223372036854775808 ≤ 256 ^ 9) (Nat.pow_le_pow_right (by decide) (by omega))
    rw [h1]
    omega
  · rw [Nat.min_eq_left h, show (256 : Nat) ^ k = 2 ^ (8 * k) by rw [Nat.pow_mul]]
    push_cast
    rfl

set_option maxHeartbeats 1000000 in
theorem wput_any {y : World} {base bb : Nat} {s : ByteArray} {P : Prop} (B : Buf y base bb s P) (v : Nat) (hv : v < 9223372036854775808) (n : Nat) (hn : n ≤ 40) (hs : s.size ≤ 900) :
    Calls Try.prog 71 #[.int .i64 (v : Int), .int .i64 (n : Int), .pointer (some ⟨bb, 0, none⟩)] y fun e w' => e = .returned (.tuple #[]) ∧ Buf w' base bb (s ++ bytesT v n) (P ∨ 0 < n) ∧ Below base y w' := by
  have hB0 := hide B
  obtain ⟨v0, BB, -⟩ := B
  have hby : base ≤ y.heap.size := by have := BB.2.2; obtain ⟨_, _, _, _, h⟩ := hB0.out; omega
  clear BB
  go_enter Try.func71, Try.ntmps71
  go_wp2
  go_loopw [7] (fun i x => ∃ (k : Nat), k ≤ n ∧ i = .int .i64 (k : Int) ∧ Hid (Buf x base bb (s ++ textOf k (bytesF v n)) (P ∨ 0 < k)) ∧ Hid (Below base y x)) (fun i _ => n - (intOf i).toNat)
  case atStart => exact ⟨0, Nat.zero_le _, rfl, hide (by rw [show textOf 0 (bytesF v n) = ByteArray.empty from rfl, ByteArray.append_empty, show (P ∨ 0 < 0) = P by simp]; exact hB0.out), hide (Below.refl _ _)⟩
  case round =>
    clear hB0
    obtain ⟨k, hkn, rfl, hB, hT⟩ := hrel
    by_cases h : k < n
    · obtain ⟨u, BB, O, hu, hbb⟩ := hB.out
      obtain ⟨x, hx⟩ : ∃ x, x = bytesF v n k := ⟨_, rfl⟩
      obtain ⟨Q, hQ⟩ : ∃ Q, Q = v / 256 ^ (n - 1 - k) := ⟨_, rfl⟩
      have hx256 : x < 256 := by rw [hx]; exact bytesF_lt _ _ _
      have hxQ : IntKind.u8.wrap (Q : Int) = (x : Int) := by rw [hx, bytesF, ← hQ]; simp [IntKind.wrap, IntKind.bits, IntKind.signed]
      have hsh : Op.shift .shr .i64 (v : Int) .i64 (8 * ((n : Int) - 1 - (k : Int))) = pure (.int .i64 (Q : Int)) := by
        rw [shift_shr_any _ _ _ _ (by omega), show (n : Int) - 1 - (k : Int) = ((n - 1 - k : Nat) : Int) by omega]
        show pure (Value.int .i64 ((v : Int) / 2 ^ min (8 * ((n - 1 - k : Nat) : Int)).toNat 64)) = _
        rw [shr_is v hv, hQ]
      have hsz : (s ++ textOf k (bytesF v n)).size ≤ 1000 := by rw [ByteArray.size_append, textOf_size]; omega
      have e2 : Hid (s ++ textOf k (bytesF v n) ++ byte1 x = s ++ textOf (k + 1) (bytesF v n)) := hide (by
        rw [ByteArray.append_assoc, ← textOf_add k 1, hx]; rfl)
      generalize s ++ textOf k (bytesF v n) = s1 at *
      have hq : Q < 9223372036854775808 := by rw [hQ]; exact Nat.lt_of_le_of_lt (Nat.div_le_self _ _) hv
      have hw1 : IntKind.i64.wrap ((n : Int) - 1) = (n : Int) - 1 := by simp [IntKind.wrap, IntKind.bits, IntKind.signed]; omega
      have hw2 : IntKind.i64.wrap ((n : Int) - 1 - (k : Int)) = (n : Int) - 1 - (k : Int) := by simp [IntKind.wrap, IntKind.bits, IntKind.signed]; omega
      have hw3 : IntKind.i64.wrap (8 * ((n : Int) - 1 - (k : Int))) = 8 * ((n : Int) - 1 - (k : Int)) := by simp [IntKind.wrap, IntKind.bits, IntKind.signed]; omega
      clear hx hQ hB
      replace O := hide O
      go_wp2_with fail
      refine zir [11] (fun z => Box z bb #[u]) (by kernel_rfl) BB.drew (fun hHeld => ?_)
      have O1 := hide (O.out.on (Below.refl wr.heap.size wr).drew)
      have T1 := hide (onto hT.out (by omega) (Below.refl wr.heap.size wr).drew)
      clear BB O hT
      generalize wr.drew = y1 at *
      refine zit 0 ?_ rfl (by kernel_rfl) (fun _ _ _ h => h) (by rfl) (by assumption) ?_ ?_
      rotate_left
      · intro y hSw
        have e0 := hSw.cell 0
        go_simp
        try with_reducible rfl
      try simp only [Act.put, zpa, zpb, zpc]
      refine zit 1 ?_ rfl (by kernel_rfl) (fun _ _ _ h => h) (by rfl) (by assumption) ?_ ?_
      rotate_left
      · intro y hSw
        have e0 := hSw.cell 0
        go_simp
        try with_reducible rfl
      try simp only [Act.put, zpa, zpb, zpc]
      refine zit 2 ?_ rfl (by kernel_rfl) (fun _ _ _ h => h) (by rfl) (by assumption) ?_ ?_
      rotate_left
      · intro y hSw
        have e0 := hSw.cell 0
        go_simp
        try with_reducible rfl
      try simp only [Act.put, zpa, zpb, zpc]
      refine zit 3 ?_ rfl (by kernel_rfl) (fun _ _ _ h => h) (by rfl) (by assumption) ?_ ?_
      rotate_left
      · intro y hSw
        have e0 := hSw.cell 0
        go_simp
        try with_reducible rfl
      try simp only [Act.put, zpa, zpb, zpc]
      refine zit 4 ?_ rfl (by kernel_rfl) (fun _ _ _ h => h) (by rfl) (by assumption) ?_ ?_
      rotate_left
      · intro y hSw
        have e0 := hSw.cell 0
        go_simp
        try with_reducible rfl
      try simp only [Act.put, zpa, zpb, zpc]
      refine zit 5 ?_ rfl (by kernel_rfl) (fun _ _ _ h => h) (by rfl) (by assumption) ?_ ?_
      rotate_left
      · intro y hSw
        have e0 := hSw.cell 0
        go_simp
        try with_reducible rfl
      try simp only [Act.put, zpa, zpb, zpc]
      refine zit 6 ?_ rfl (by kernel_rfl) (fun _ _ _ h => h) (by rfl) (by assumption) ?_ ?_
      rotate_left
      · intro y hSw
        have e0 := hSw.cell 0
        go_simp
        try with_reducible rfl
      try simp only [Act.put, zpa, zpb, zpc]
      refine zit 7 ?_ rfl (by kernel_rfl) (fun _ _ _ h => h) (by rfl) (by assumption) ?_ ?_
      rotate_left
      · intro y hSw
        have e0 := hSw.cell 0
        go_simp
        try with_reducible rfl
      try simp only [Act.put, zpa, zpb, zpc]
      refine zit 8 ?_ rfl (by kernel_rfl) (fun _ _ _ h => h) (by rfl) (by assumption) ?_ ?_
      rotate_left
      · intro y hSw
        have e0 := hSw.cell 0
        go_simp
        try with_reducible rfl
      try simp only [Act.put, zpa, zpb, zpc]
      refine zib 9 rfl (by kernel_rfl) (fun K hK => ?_)
      obtain ⟨_, z, hap, ⟨a', n', c', rfl⟩, Bz, M, T⟩ := put_byte (hHeld : Box y1 bb #[u]) O1.out hu hbb x hx256 hsz
      have A3 := grow y1 (.cells #[.int .u8 (x : Int)] 5)
      go_simp
      refine hK.out _ _ (hHeld.on A3) (fun hHeld => ?_)
      clear hK K
      try simp only [Act.put, zpa, zpb, zpc]
      refine zib 10 rfl (by kernel_rfl) (fun K hK => ?_)
      refine step_append_told' rfl (.tmp 10) (.tmp 19) 57 rfl u (.slice (some ⟨y1.heap.size, 0, none⟩) 1 1) _ rfl rfl hap ?_
      refine hK.out _ _ (Bz) (fun hHeld => ?_)
      clear hK K
      try simp only [Act.put, zpa, zpb, zpc]
      refine zil 11 rfl (by kernel_rfl) (by kernel_rfl) (fun K hK => ?_)
      have c1 : z.cell? ⟨bb, 0, none⟩ = some u := Bz.cell 0
      have f1 := Bz.free 0
      go_simp
      refine hK.out _ _ ?_
      clear hK K
      try simp only [Act.put, zpa, zpb, zpc]
      refine zid (by kernel_rfl) ?_ _
      have T2 := hide (T1.out.trans T.out)
      clear hHeld c1 f1 O1 T1 T hap A3 Bz
      go_wp2
      go_roundw
      case rel => exact ⟨k + 1, by omega, by go_num, by rw [← e2.out, show (P ∨ 0 < k + 1) = True by simp]; exact M, T2⟩
      case measure => simp [intOf]; omega
    · obtain rfl : k = n := by omega
      go_wp2
      go_end0
      exact ⟨rfl, hB.out, hT.out⟩

end Go.Proofs.Ytgffhnggocbjhaa
