/- The contract of a voter's listens. -/
import Derived.Test.YtaablbmgagiajabGreatDoorVtSmall
import Derived.Test.YtaablbmgagiajabGreatDoorFrSum
namespace Go.Proofs.YtaablbmgagiajabGreatDoor
open Go.RowKit Go.Deep

theorem shr_zero (m r : Nat) (hm : m < 8) (hr : r < 3) : (bits BinOp.and IntKind.i64 ((m : Int) / 2 ^ r) 1 == 0) = !m.testBit r := by
  rw [shr_bit (m : Int) r (by omega), u64_nat m (by omega), testBit_eq]
  cases m.testBit r <;> rfl

set_option maxHeartbeats 1000000 in
set_option maxRecDepth 20000 in
theorem listens_any (N p win : Nat) (tv : Value) (S : VS) (w : World) (F : FR) (h : VIs w N p win tv S) (hok : VOk win S) :
    Calls Tryz.prog 191 #[.pointer (some ⟨p, 0, none⟩), .agg (fCells F)] w fun e w' => e = .returned (.bool (hearB S F)) ∧ Below w.heap.size w w' := by
  have c0 := fCells_at F 0 (by omega)
  have c1 := fCells_at F 1 (by omega)
  have c2 := fCells_at F 2 (by omega)
  have hp := h.lt
  have k15 : w.cell? ⟨p, 15, none⟩ = some (.int .i64 (S.out : Int)) := (h.at 15).trans rfl
  obtain ⟨m, hm⟩ : ∃ m, Hid (S.out = m) := ⟨_, hide rfl⟩
  have ho := hok.out
  rw [hm.out] at k15 ho
  obtain ⟨R, hR⟩ : ∃ R, Hid (hearB S F = R) := ⟨_, hide rfl⟩
  rw [hR.out]
  clear h hok
  obtain ⟨f0, hf0⟩ : ∃ z, Hid (F 0 = z) := ⟨_, hide rfl⟩
  obtain ⟨f1, hf1⟩ : ∃ z, Hid (F 1 = z) := ⟨_, hide rfl⟩
  obtain ⟨f2, hf2⟩ : ∃ z, Hid (F 2 = z) := ⟨_, hide rfl⟩
  rw [hf0.out] at c0
  rw [hf1.out] at c1
  rw [hf2.out] at c2
  have HB : Hid (hearB S F = ((f0 == 2 || f0 == 4) && ((decide (0 ≤ f1) && decide (f1 < 3)) && (!m.testBit f1.toNat && decide (0 ≤ f2))))) := hide (by unfold hearB kindB fromB; rw [hf0.out, hf1.out, hf2.out, hm.out])
  by_cases hk : f0 = 2 ∨ f0 = 4
  · by_cases h1 : 0 ≤ f1
    · by_cases h3 : f1 < 3
      · obtain ⟨r, rfl⟩ := Int.eq_ofNat_of_zero_le h1
        have hr : r < 3 := by omega
        have hz := shr_zero m r ho hr
        have q1 : decide ((r : Int) < 3) = true := decide_eq_true h3
        cases hb : m.testBit r
        · rw [hb, Bool.not_false] at hz
          have HRR : Hid (R = decide (0 ≤ f2)) := hide (by rw [← hR.out, HB.out, Int.toNat_natCast, hb]; rcases hk with rfl | rfl <;> simp; all_goals omega)
          clear HB hR hb hf0 hf1 hf2 h1 h3 hm
          rcases hk with rfl | rfl
          · go_enter Tryz.func191, Tryz.ntmps191
            go_wp2_with fail
            go_quiet (fail)
            go_wp2
            go_ret
            exact ⟨ret_bool (by rw [HRR.out]), ⟨rfl, rfl, rfl, by simp [World.drewN], fun k hk => Below.heap_alloc _ _ _ hk⟩⟩
          · go_enter Tryz.func191, Tryz.ntmps191
            go_wp2_with fail
            go_quiet (fail)
            go_wp2
            go_ret
            exact ⟨ret_bool (by rw [HRR.out]), ⟨rfl, rfl, rfl, by simp [World.drewN], fun k hk => Below.heap_alloc _ _ _ hk⟩⟩
        · rw [hb, Bool.not_true] at hz
          have HRR : Hid (R = false) := hide (by rw [← hR.out, HB.out, Int.toNat_natCast, hb]; simp)
          clear HB hR hb hf0 hf1 hf2 h1 h3 hm
          rcases hk with rfl | rfl
          · go_enter Tryz.func191, Tryz.ntmps191
            go_wp2_with fail
            go_quiet (fail)
            go_wp2
            go_ret
            exact ⟨ret_bool (by rw [HRR.out]), ⟨rfl, rfl, rfl, by simp [World.drewN], fun k hk => Below.heap_alloc _ _ _ hk⟩⟩
          · go_enter Tryz.func191, Tryz.ntmps191
            go_wp2_with fail
            go_quiet (fail)
            go_wp2
            go_ret
            exact ⟨ret_bool (by rw [HRR.out]), ⟨rfl, rfl, rfl, by simp [World.drewN], fun k hk => Below.heap_alloc _ _ _ hk⟩⟩
      · have HRR : Hid (R = false) := hide (by rw [← hR.out, HB.out, decide_eq_false h3]; simp)
        have q0 : decide (0 ≤ f1) = true := decide_eq_true h1
        have q1 : decide (f1 < 3) = false := decide_eq_false h3
        clear HB hR hf0 hf1 hf2 hm
        rcases hk with rfl | rfl
        · go_enter Tryz.func191, Tryz.ntmps191
          go_wp2_with fail
          go_quiet (fail)
          go_wp2
          go_ret
          exact ⟨ret_bool (by rw [HRR.out]), ⟨rfl, rfl, rfl, by simp [World.drewN], fun k hk => Below.heap_alloc _ _ _ hk⟩⟩
        · go_enter Tryz.func191, Tryz.ntmps191
          go_wp2_with fail
          go_quiet (fail)
          go_wp2
          go_ret
          exact ⟨ret_bool (by rw [HRR.out]), ⟨rfl, rfl, rfl, by simp [World.drewN], fun k hk => Below.heap_alloc _ _ _ hk⟩⟩
    · have HRR : Hid (R = false) := hide (by rw [← hR.out, HB.out, decide_eq_false h1]; simp)
      have q0 : decide (0 ≤ f1) = false := decide_eq_false h1
      clear HB hR hf0 hf1 hf2 hm
      rcases hk with rfl | rfl
      · go_enter Tryz.func191, Tryz.ntmps191
        go_wp2_with fail
        go_quiet (fail)
        go_wp2
        go_ret
        exact ⟨ret_bool (by rw [HRR.out]), ⟨rfl, rfl, rfl, by simp [World.drewN], fun k hk => Below.heap_alloc _ _ _ hk⟩⟩
      · go_enter Tryz.func191, Tryz.ntmps191
        go_wp2_with fail
        go_quiet (fail)
        go_wp2
        go_ret
        exact ⟨ret_bool (by rw [HRR.out]), ⟨rfl, rfl, rfl, by simp [World.drewN], fun k hk => Below.heap_alloc _ _ _ hk⟩⟩
  · have q2 : ¬ f0 = 2 := fun e => hk (.inl e)
    have q4 : ¬ f0 = 4 := fun e => hk (.inr e)
    have HRR : Hid (R = false) := hide (by rw [← hR.out, HB.out]; simp [q2, q4])
    have b2 : (f0 != 2) = true := by simpa using q2
    have b4 : (f0 != 4) = true := by simpa using q4
    clear HB hR hf0 hf1 hf2 hm hk q2 q4
    go_enter Tryz.func191, Tryz.ntmps191
    go_wp2_with fail
    go_ret
    exact ⟨ret_bool (by rw [HRR.out]), ⟨rfl, rfl, rfl, by simp, fun k hk => Below.heap_alloc _ _ _ hk⟩⟩
end Go.Proofs.YtaablbmgagiajabGreatDoor
