/- Layer 18: the document's Open. -/
import Derived.Test.YtgffhnggocbjhaaQDkRefA
import Derived.Test.YtgffhnggocbjhaaQDkBas
namespace Go.Proofs.Ytgffhnggocbjhaa
open Go.RowKit
set_option linter.unusedVariables false
set_option maxRecDepth 100000
set_option linter.unusedSimpArgs false

theorem ropen_bad (s : ByteArray) (h : ¬ (s.size % 64 = 0 ∧ 64 ≤ s.size ∧ s.size ≤ 262144)) (w : World) : Calls Try.prog 31 #[.string s] w fun e w' => e = .returned (.tuple #[.pointer none, .int .i64 180]) ∧ w' = w := by
  by_cases h1 : s.size % 64 = 0
  · have t1 : (s.size : Int).tmod 64 = 0 := by rw [Int.tmod_eq_emod_of_nonneg (by omega)]; omega
    by_cases h2 : s.size < 64
    · go_enter Try.func31, Try.ntmps31
      go_wp2
      go_ret2
      exact ⟨rfl, rfl⟩
    · have h3 : 262144 < s.size := by omega
      go_enter Try.func31, Try.ntmps31
      go_wp2
      go_ret2
      exact ⟨rfl, rfl⟩
  · have t1 : ¬ (s.size : Int).tmod 64 = 0 := by rw [Int.tmod_eq_emod_of_nonneg (by omega)]; omega
    have t2 : ¬ (s.size : Int) % 64 = 0 := by omega
    go_enter Try.func31, Try.ntmps31
    go_wp2
    go_ret2
    exact ⟨rfl, rfl⟩

set_option maxHeartbeats 4000000 in
set_option maxRecDepth 100000 in
theorem ropen_any (s : ByteArray) (h : s.size % 64 = 0) (h1 : 64 ≤ s.size) (h2 : s.size ≤ 262144) (w : World) :
    Calls Try.prog 31 #[.string s] w fun e w' => ∃ rb, e = .returned (.tuple #[.pointer (some ⟨rb, 0, none⟩), .int .i64 0]) ∧ Below w.heap.size w w' := by
  obtain ⟨i, hi, hz, hs, hb⟩ := infoS
  have t1 : (s.size : Int).tmod 64 = 0 := by rw [Int.tmod_eq_emod_of_nonneg (by omega)]; omega
  have t2 : (s.size : Int) % 64 = 0 := by omega
  obtain ⟨n, hn⟩ : ∃ n, s.size = 64 * n := ⟨s.size / 64, by omega⟩
  have hT : ∀ k, strs (cutT s (k + 1)) = strs (cutT s k) ++ [.string (s.extract (64 * k) (64 * k + 64))] := fun k => by
    have : cutT s (k + 1) = cutT s k ++ [s.extract (64 * k) (64 * k + 64)] := by simp [cutT, List.range_succ]
    rw [this, strs_app]
    rfl
  replace hn := hide hn
  replace hT := hide hT
  go_enter Try.func31, Try.ntmps31
  go_wp2_with fail
  have g0 := hide (grow w (.cells #[.slice none 0 0, .slice none 0 0, .int .i64 0, .string { data := #[] }, .int .i64 0, .int .i64 0, .bool false, .int .i64 0] 52))
  have B0 := hide (Box.new w #[.slice none 0 0, .slice none 0 0, .int .i64 0, .string { data := #[] }, .int .i64 0, .int .i64 0, .bool false, .int .i64 0] 52)
  generalize w.alloc (.cells #[.slice none 0 0, .slice none 0 0, .int .i64 0, .string { data := #[] }, .int .i64 0, .int .i64 0, .bool false, .int .i64 0] 52) = w1 at *
  have hsz : w.heap.size + 1 ≤ w1.heap.size := B0.out.2.2
  go_loopw [5] (fun i wr => ∃ (k : Nat) (v : Value), k ≤ n ∧ i = .int .i64 (64 * (k : Int)) ∧ Hid (Box wr w.heap.size #[v, .slice none 0 0, .int .i64 0, .string { data := #[] }, .int .i64 0, .int .i64 0, .bool false, .int .i64 0]) ∧ Hid (wr.ownsRow (w.heap.size + 1) 9 1 v k (strs (cutT s k))) ∧ Hid (Below w.heap.size w wr) ∧ w.heap.size + 1 ≤ wr.heap.size) (fun i _ => s.size - (intOf i).toNat)
  case atStart => exact ⟨0, .slice none 0 0, Nat.zero_le _, rfl, B0, hide (World.ownsRow_nil _ _ _ _), g0, hsz⟩
  case round =>
    clear B0 g0 hsz
    obtain ⟨k, v, hk, rfl, B, O, G, hsz⟩ := hrel
    by_cases h : k < n
    · have hlt : 64 * k + 64 ≤ s.size := by have := hn.out; omega
      have hlt1 : 64 * k < s.size := by omega
      have hli : 64 * (k : Int) + 64 ≤ (s.size : Int) := by omega
      have hli1 : 64 * (k : Int) < (s.size : Int) := by omega
      have hp0 : 0 ≤ 64 * (k : Int) := by omega
      have hp1 : 0 ≤ 64 * (k : Int) + 64 := by omega
      have hp2 : 64 * (k : Int) ≤ 64 * (k : Int) + 64 := by omega
      have hwp : IntKind.i64.wrap (64 * (k : Int) + 64) = 64 * (k : Int) + 64 := by simp [IntKind.wrap, IntKind.bits, IntKind.signed]; omega
      have e1 : (64 * (k : Int)).toNat = 64 * k := by omega
      have e2 : (64 * (k : Int) + 64).toNat = 64 * k + 64 := by omega
      go_wp2_with fail
      obtain ⟨x, hxe⟩ : ∃ x, Hid (x = s.extract (64 * k) (64 * k + 64)) := ⟨_, hide rfl⟩
      refine zir [14] (fun y => Box y w.heap.size #[v, .slice none 0 0, .int .i64 0, .string { data := #[] }, .int .i64 0, .int .i64 0, .bool false, .int .i64 0]) (by kernel_rfl) B.out.drew (fun hHeld => ?_)
      replace O := hide O.out.drew
      replace G := hide G.out.drew
      replace hsz : w.heap.size + 1 ≤ wr.drew.heap.size := hsz
      clear B
      generalize wr.drew = x1 at *
      refine zit 0 ?_ rfl (by kernel_rfl) (fun _ _ _ h => h) (by rfl) (by assumption) ?_ ?_
      rotate_left
      · intro y hSw
        have e0 := hSw.cell 0
        go_simp
        try with_reducible rfl
      try simp only [Act.put, zpa, zpb, zpc]
      refine zit 1 ?_ rfl (by kernel_rfl) (fun _ _ _ h => h) (by rfl) (by assumption) ?_ ?_
      rotate_left
      · intro y hSw
        have e0 := hSw.cell 0
        go_simp
        try with_reducible rfl
      try simp only [Act.put, zpa, zpb, zpc]
      refine zit 2 ?_ rfl (by kernel_rfl) (fun _ _ _ h => h) (by rfl) (by assumption) ?_ ?_
      rotate_left
      · intro y hSw
        have e0 := hSw.cell 0
        go_simp
        try with_reducible rfl
      try simp only [Act.put, zpa, zpb, zpc]
      refine zit 3 ?_ rfl (by kernel_rfl) (fun _ _ _ h => h) (by rfl) (by assumption) ?_ ?_
      rotate_left
      · intro y hSw
        have e0 := hSw.cell 0
        go_simp
        try with_reducible rfl
      try simp only [Act.put, zpa, zpb, zpc]
      refine zit 4 ?_ rfl (by kernel_rfl) (fun _ _ _ h => h) (by rfl) (by assumption) ?_ ?_
      rotate_left
      · intro y hSw
        have e0 := hSw.cell 0
        go_simp
        try with_reducible rfl
      try simp only [Act.put, zpa, zpb, zpc]
      refine zit 5 ?_ rfl (by kernel_rfl) (fun _ _ _ h => h) (by rfl) (by assumption) ?_ ?_
      rotate_left
      · intro y hSw
        have e0 := hSw.cell 0
        go_simp
        try with_reducible rfl
      try simp only [Act.put, zpa, zpb, zpc]
      refine zit 6 ?_ rfl (by kernel_rfl) (fun _ _ _ h => h) (by rfl) (by assumption) ?_ ?_
      rotate_left
      · intro y hSw
        have e0 := hSw.cell 0
        go_simp
        try with_reducible rfl
      try simp only [Act.put, zpa, zpb, zpc]
      refine zit 7 ?_ rfl (by kernel_rfl) (fun _ _ _ h => h) (by rfl) (by assumption) ?_ ?_
      rotate_left
      · intro y hSw
        have e0 := hSw.cell 0
        go_simp
        try with_reducible rfl
      try simp only [Act.put, zpa, zpb, zpc]
      refine zit 8 ?_ rfl (by kernel_rfl) (fun _ _ _ h => h) (by rfl) (by assumption) ?_ ?_
      rotate_left
      · intro y hSw
        have e0 := hSw.cell 0
        go_simp
        try with_reducible rfl
      try simp only [Act.put, zpa, zpb, zpc]
      refine zit 9 ?_ rfl (by kernel_rfl) (fun _ _ _ h => h) (by rfl) (by assumption) ?_ ?_
      rotate_left
      · intro y hSw
        have e0 := hSw.cell 0
        go_simp
        try with_reducible rfl
      try simp only [Act.put, zpa, zpb, zpc]
      refine zib 10 rfl (by kernel_rfl) (fun K hK => ?_)
      have A2 := grow x1 (.cells #[.string (s.extract (64 * k) (64 * k + 64))] 9)
      have BL := Box.new x1 #[.string (s.extract (64 * k) (64 * k + 64))] 9
      go_simp
      refine hK.out _ _ (hHeld.on A2) (fun hHeld => ?_)
      clear hK K
      try simp only [Act.put, zpa, zpb, zpc]
      replace O := hide (O.out.alloc (.cells #[.string (s.extract (64 * k) (64 * k + 64))] 9))
      replace G := hide (onto G.out (Nat.le_refl _) A2)
      replace hsz := Nat.le_trans hsz A2.size
      clear A2
      generalize x1.alloc (.cells #[.string (s.extract (64 * k) (64 * k + 64))] 9) = x3 at *
      generalize x1.heap.size = LB at *
      refine zib 11 rfl (by kernel_rfl) (fun K hK => ?_)
      obtain ⟨v', x4, hap, O4, G4, -, -⟩ := run_append_own_at (P := Try.prog) x3 (w.heap.size + 1) 50 50 9 i _ 1 16 Try.underlying50 hi hz hs hb rfl (by decide) v k _ O.out ⟨LB, 0, none⟩ 1 1 [.string (s.extract (64 * k) (64 * k + 64))] rfl (fun j u hj => by rw [Addr.add_lit, Nat.zero_add, BL.cell]; simpa using hj) (by simp [Value.oneCell']) (by unfold maxLen; omega) (by omega) hsz
      rw [← hT.out] at O4
      obtain ⟨a4, c4', rfl, -⟩ := (Row.of_own O4).shape
      have hlt4 : ∀ j, v.ownBlock = some j → w.heap.size + 1 ≤ j := fun j hj => (O.out.lt j hj).1
      have F4 := G4.block w.heap.size (by omega) (fun e => by have := hlt4 _ e.symm; omega)
      replace G := hide (G.out.grown G4 (by omega) (fun j hj => by have := hlt4 _ hj; omega))
      replace hsz := Nat.le_trans hsz G4.size
      refine step_append_told' rfl (.tmp 32) (.tmp 38) 50 rfl v (.slice (some ⟨LB, 0, none⟩) 1 1) _ rfl rfl hap ?_
      refine hK.out _ _ (hHeld.of_heap F4) (fun hHeld => ?_)
      clear hK K
      try simp only [Act.put, zpa, zpb, zpc]
      replace O := hide O4
      clear hap G4 O4 F4 hlt4 BL
      refine zit 12 ?_ rfl (by kernel_rfl) (fun _ _ _ h => h) (by rfl) (by assumption) ?_ ?_
      rotate_left
      · intro y hSw
        have e0 := hSw.cell 0
        go_simp
        try with_reducible rfl
      try simp only [Act.put, zpa, zpb, zpc]
      refine zit 13 ?_ rfl (by kernel_rfl) (fun _ _ _ h => h) (by rfl) (by assumption) ?_ ?_
      rotate_left
      · intro y hSw
        have e0 := hSw.cell 0
        go_simp
        try with_reducible rfl
      try simp only [Act.put, zpa, zpb, zpc]
      refine zil 14 rfl (by kernel_rfl) (by kernel_rfl) (fun K hK => ?_)
      have c0 := hHeld.cell 0
      have f0 := hHeld.free 0
      have B5 := hHeld.set 0 (.slice a4 (k + 1) c4')
      replace O := hide (ownsRow_setCell_below O.out (a := ⟨w.heap.size, 0, none⟩) (by show w.heap.size < w.heap.size + 1; omega) (.slice a4 (k + 1) c4'))
      replace G := hide (G.out.setCell (p := ⟨w.heap.size, 0, none⟩) (Nat.le_refl _) (.slice a4 (k + 1) c4'))
      replace hsz : w.heap.size + 1 ≤ (x4.setCell ⟨w.heap.size, 0, none⟩ (.slice a4 (k + 1) c4')).heap.size := by simpa [World.setCell] using hsz
      go_simp
      refine hK.out _ _ ?_
      clear hK K
      try simp only [Act.put, zpa, zpb, zpc]
      refine zid (by kernel_rfl) ?_ _
      clear hHeld c0 f0
      replace B5 := hide B5
      have hnext : 64 * (k : Int) + 64 = 64 * ((k : Int) + 1) := by omega
      go_wp2
      go_roundw
      case rel => exact ⟨k + 1, _, by omega, by simp, B5, O, G, hsz⟩
      case measure => simp [intOf]; omega
    · obtain rfl : k = n := by omega
      have hni : (s.size : Int) = 64 * (k : Int) := by have := hn.out; omega
      have hnl : ¬ 64 * (k : Int) < (s.size : Int) := by omega
      go_wp2
      go_ret2
      exact ⟨⟨_, rfl⟩, G.out⟩

end Go.Proofs.Ytgffhnggocbjhaa
