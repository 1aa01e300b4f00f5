/- The contract of the reference's Take: where it says nothing, and what was committed. -/
import Derived.Test.YtbiacknbaefccaaDoorVrDone
import Derived.Test.YtbiacknbaefccaaDoorRfList
import Derived.Test.YtbiacknbaefccaaDoorVtPast
import Derived.Test.YtbiacknbaefccaaDoorVtTake
namespace Go.Proofs.YtbiacknbaefccaaDoor
open Go.RowKit Go.Deep Go.Maps

/-- What the reference's Take leaves. -/
def RTakeEnd (N q win : Nat) (tv : Value) (mv mo : Nat) (w : World) (R : VS × List FR × Bool) (e : Ending) (w' : World) : Prop :=
  ∃ v tv' mv', e = .returned (.tuple #[v, .bool R.2.2]) ∧ FRow w' 67 v R.2.1 ∧ RIs w' N q win tv' mv' mo R.1 ∧ Moved w tv tv' ∧ (mv' = mv ∨ w.heap.size ≤ mv') ∧ Mod w w' (RB q tv mv mo)
theorem box_below (w : World) (o : Obj) (n : Nat) : Below w.heap.size w ((w.alloc o).drewN n) := ⟨rfl, rfl, rfl, by simp [World.drewN], fun k hk => Below.heap_alloc _ _ _ hk⟩

set_option maxHeartbeats 1000000 in
set_option maxRecDepth 20000 in
theorem rtake_a (N q win : Nat) (tv : Value) (mv mo : Nat) (S : VS) (w : World) (F : FR) (h : RIs w N q win tv mv mo S) (h2 : F 0 ≠ 2) (h4 : F 0 ≠ 4) :
    Calls Tryd.prog 41 #[.pointer (some ⟨q, 0, none⟩), .agg (fCells F)] w (RTakeEnd N q win tv mv mo w (takeF win S F)) := by
  have g0 := fCells_at F 0 (by omega)
  have g1 := fCells_at F 1 (by omega)
  have g2 := fCells_at F 2 (by omega)
  have hq := h.lt
  have k4 : w.cell? ⟨q, 4, none⟩ = some (.map (some mo)) := (h.at 4).trans rfl
  have HRI := hide h
  rw [take_no (by unfold hearB kindB; simp [h2, h4])]
  generalize F 0 = f0 at *
  have b2 : (f0 != 2) = true := by simpa using h2
  have b4 : (f0 != 4) = true := by simpa using h4
  clear h2 h4
  clear h
  go_enter Tryd.func41, Tryd.ntmps41
  go_wp2_with fail
  go_quiet ((go_at_call 53; exact Calls.quiet_of_same (in_any _ _ _ _)))
  go_wp2
  go_ret2
  exact ⟨_, _, _, rfl, .inl ⟨rfl, rfl⟩, HRI.out.below (box_below _ _ _), Moved.refl _ _, .inl rfl, Mod.ofBelow (box_below _ _ _) _⟩

set_option maxHeartbeats 1000000 in
set_option maxRecDepth 20000 in
theorem rtake_b2 (N q win : Nat) (tv : Value) (mv mo : Nat) (S : VS) (w : World) (F : FR) (h : RIs w N q win tv mv mo S) (hk : F 0 = 2) (h1 : ¬ (0 ≤ F 1 ∧ F 1 < 3)) :
    Calls Tryd.prog 41 #[.pointer (some ⟨q, 0, none⟩), .agg (fCells F)] w (RTakeEnd N q win tv mv mo w (takeF win S F)) := by
  have g0 := fCells_at F 0 (by omega)
  have g1 := fCells_at F 1 (by omega)
  have g2 := fCells_at F 2 (by omega)
  have hq := h.lt
  have k4 : w.cell? ⟨q, 4, none⟩ = some (.map (some mo)) := (h.at 4).trans rfl
  have HRI := hide h
  rw [take_no (by unfold hearB fromB; rw [show (decide (0 ≤ F 1) && decide (F 1 < 3)) = false by simp; omega]; simp)]
  rw [hk] at g0
  generalize F 1 = f1 at *
  have hin : inB f1 0 2 = false := by unfold inB; simp; omega
  clear h1 hk
  clear h
  go_enter Tryd.func41, Tryd.ntmps41
  go_wp2_with fail
  go_quiet ((go_at_call 53; exact Calls.quiet_of_same (in_any _ _ _ _)))
  go_wp2
  go_ret2
  exact ⟨_, _, _, rfl, .inl ⟨rfl, rfl⟩, HRI.out.below (box_below _ _ _), Moved.refl _ _, .inl rfl, Mod.ofBelow (box_below _ _ _) _⟩

set_option maxHeartbeats 1000000 in
set_option maxRecDepth 20000 in
theorem rtake_c2 (N q win : Nat) (tv : Value) (mv mo : Nat) (S : VS) (w : World) (F : FR) (h : RIs w N q win tv mv mo S) (hk : F 0 = 2) (r : Nat) (hr : F 1 = (r : Int)) (hr3 : r < 3) (hz : S.out.testBit r = true) :
    Calls Tryd.prog 41 #[.pointer (some ⟨q, 0, none⟩), .agg (fCells F)] w (RTakeEnd N q win tv mv mo w (takeF win S F)) := by
  have g0 := fCells_at F 0 (by omega)
  have g1 := fCells_at F 1 (by omega)
  have g2 := fCells_at F 2 (by omega)
  have hq := h.lt
  have k4 : w.cell? ⟨q, 4, none⟩ = some (.map (some mo)) := (h.at 4).trans rfl
  have HRI := hide h
  rw [take_no (by unfold hearB; rw [hr, Int.toNat_natCast, hz]; simp)]
  rw [hk] at g0
  rw [hr] at g1
  have hin : inB (r : Int) 0 2 = true := by unfold inB; simp; omega
  have hlk : ∀ n, (Instr.lookup 103 (.map (some mo)) (.int .i64 (r : Int)) false).run Tryd.prog ((w.alloc (.cells (fCells F) 67)).drewN n) = .ok (.bool true) ((w.alloc (.cells (fCells F) 67)).drewN n) := fun n => by
    have := ((h.below (box_below w (.cells (fCells F) 67) n)).outs).look (k := r) (by omega)
    rw [hz] at this
    exact this
  clear hk hr hz
  clear h
  go_enter Tryd.func41, Tryd.ntmps41
  go_wp2_with fail
  go_quiet ((go_at_call 53; exact Calls.quiet_of_same (in_any _ _ _ _)))
  go_wp2
  go_ret2
  exact ⟨_, _, _, rfl, .inl ⟨rfl, rfl⟩, HRI.out.below (box_below _ _ _), Moved.refl _ _, .inl rfl, Mod.ofBelow (box_below _ _ _) _⟩

set_option maxHeartbeats 1000000 in
set_option maxRecDepth 20000 in
theorem rtake_d2 (N q win : Nat) (tv : Value) (mv mo : Nat) (S : VS) (w : World) (F : FR) (h : RIs w N q win tv mv mo S) (hk : F 0 = 2) (r : Nat) (hr : F 1 = (r : Int)) (hr3 : r < 3) (hz : S.out.testBit r = false) (hc : F 2 < 0) :
    Calls Tryd.prog 41 #[.pointer (some ⟨q, 0, none⟩), .agg (fCells F)] w (RTakeEnd N q win tv mv mo w (takeF win S F)) := by
  have g0 := fCells_at F 0 (by omega)
  have g1 := fCells_at F 1 (by omega)
  have g2 := fCells_at F 2 (by omega)
  have hq := h.lt
  have k4 : w.cell? ⟨q, 4, none⟩ = some (.map (some mo)) := (h.at 4).trans rfl
  have HRI := hide h
  rw [take_no (by unfold hearB; rw [decide_eq_false (by omega : ¬ 0 ≤ F 2)]; simp)]
  rw [hk] at g0
  rw [hr] at g1
  generalize F 2 = f2 at *
  have hcb : decide (f2 < 0) = true := decide_eq_true hc
  have hin : inB (r : Int) 0 2 = true := by unfold inB; simp; omega
  have hlk : ∀ n, (Instr.lookup 103 (.map (some mo)) (.int .i64 (r : Int)) false).run Tryd.prog ((w.alloc (.cells (fCells F) 67)).drewN n) = .ok (.bool false) ((w.alloc (.cells (fCells F) 67)).drewN n) := fun n => by
    have := ((h.below (box_below w (.cells (fCells F) 67) n)).outs).look (k := r) (by omega)
    rw [hz] at this
    exact this
  clear hk hr hz
  clear h
  go_enter Tryd.func41, Tryd.ntmps41
  go_wp2_with fail
  go_quiet ((go_at_call 53; exact Calls.quiet_of_same (in_any _ _ _ _)))
  go_wp2
  go_ret2
  exact ⟨_, _, _, rfl, .inl ⟨rfl, rfl⟩, HRI.out.below (box_below _ _ _), Moved.refl _ _, .inl rfl, Mod.ofBelow (box_below _ _ _) _⟩

set_option maxHeartbeats 1000000 in
set_option maxRecDepth 20000 in
theorem rtake_b4 (N q win : Nat) (tv : Value) (mv mo : Nat) (S : VS) (w : World) (F : FR) (h : RIs w N q win tv mv mo S) (hk : F 0 = 4) (h1 : ¬ (0 ≤ F 1 ∧ F 1 < 3)) :
    Calls Tryd.prog 41 #[.pointer (some ⟨q, 0, none⟩), .agg (fCells F)] w (RTakeEnd N q win tv mv mo w (takeF win S F)) := by
  have g0 := fCells_at F 0 (by omega)
  have g1 := fCells_at F 1 (by omega)
  have g2 := fCells_at F 2 (by omega)
  have hq := h.lt
  have k4 : w.cell? ⟨q, 4, none⟩ = some (.map (some mo)) := (h.at 4).trans rfl
  have HRI := hide h
  rw [take_no (by unfold hearB fromB; rw [show (decide (0 ≤ F 1) && decide (F 1 < 3)) = false by simp; omega]; simp)]
  rw [hk] at g0
  generalize F 1 = f1 at *
  have hin : inB f1 0 2 = false := by unfold inB; simp; omega
  clear h1 hk
  clear h
  go_enter Tryd.func41, Tryd.ntmps41
  go_wp2_with fail
  go_quiet ((go_at_call 53; exact Calls.quiet_of_same (in_any _ _ _ _)))
  go_wp2
  go_ret2
  exact ⟨_, _, _, rfl, .inl ⟨rfl, rfl⟩, HRI.out.below (box_below _ _ _), Moved.refl _ _, .inl rfl, Mod.ofBelow (box_below _ _ _) _⟩

set_option maxHeartbeats 1000000 in
set_option maxRecDepth 20000 in
theorem rtake_c4 (N q win : Nat) (tv : Value) (mv mo : Nat) (S : VS) (w : World) (F : FR) (h : RIs w N q win tv mv mo S) (hk : F 0 = 4) (r : Nat) (hr : F 1 = (r : Int)) (hr3 : r < 3) (hz : S.out.testBit r = true) :
    Calls Tryd.prog 41 #[.pointer (some ⟨q, 0, none⟩), .agg (fCells F)] w (RTakeEnd N q win tv mv mo w (takeF win S F)) := by
  have g0 := fCells_at F 0 (by omega)
  have g1 := fCells_at F 1 (by omega)
  have g2 := fCells_at F 2 (by omega)
  have hq := h.lt
  have k4 : w.cell? ⟨q, 4, none⟩ = some (.map (some mo)) := (h.at 4).trans rfl
  have HRI := hide h
  rw [take_no (by unfold hearB; rw [hr, Int.toNat_natCast, hz]; simp)]
  rw [hk] at g0
  rw [hr] at g1
  have hin : inB (r : Int) 0 2 = true := by unfold inB; simp; omega
  have hlk : ∀ n, (Instr.lookup 103 (.map (some mo)) (.int .i64 (r : Int)) false).run Tryd.prog ((w.alloc (.cells (fCells F) 67)).drewN n) = .ok (.bool true) ((w.alloc (.cells (fCells F) 67)).drewN n) := fun n => by
    have := ((h.below (box_below w (.cells (fCells F) 67) n)).outs).look (k := r) (by omega)
    rw [hz] at this
    exact this
  clear hk hr hz
  clear h
  go_enter Tryd.func41, Tryd.ntmps41
  go_wp2_with fail
  go_quiet ((go_at_call 53; exact Calls.quiet_of_same (in_any _ _ _ _)))
  go_wp2
  go_ret2
  exact ⟨_, _, _, rfl, .inl ⟨rfl, rfl⟩, HRI.out.below (box_below _ _ _), Moved.refl _ _, .inl rfl, Mod.ofBelow (box_below _ _ _) _⟩

set_option maxHeartbeats 1000000 in
set_option maxRecDepth 20000 in
theorem rtake_d4 (N q win : Nat) (tv : Value) (mv mo : Nat) (S : VS) (w : World) (F : FR) (h : RIs w N q win tv mv mo S) (hk : F 0 = 4) (r : Nat) (hr : F 1 = (r : Int)) (hr3 : r < 3) (hz : S.out.testBit r = false) (hc : F 2 < 0) :
    Calls Tryd.prog 41 #[.pointer (some ⟨q, 0, none⟩), .agg (fCells F)] w (RTakeEnd N q win tv mv mo w (takeF win S F)) := by
  have g0 := fCells_at F 0 (by omega)
  have g1 := fCells_at F 1 (by omega)
  have g2 := fCells_at F 2 (by omega)
  have hq := h.lt
  have k4 : w.cell? ⟨q, 4, none⟩ = some (.map (some mo)) := (h.at 4).trans rfl
  have HRI := hide h
  rw [take_no (by unfold hearB; rw [decide_eq_false (by omega : ¬ 0 ≤ F 2)]; simp)]
  rw [hk] at g0
  rw [hr] at g1
  generalize F 2 = f2 at *
  have hcb : decide (f2 < 0) = true := decide_eq_true hc
  have hin : inB (r : Int) 0 2 = true := by unfold inB; simp; omega
  have hlk : ∀ n, (Instr.lookup 103 (.map (some mo)) (.int .i64 (r : Int)) false).run Tryd.prog ((w.alloc (.cells (fCells F) 67)).drewN n) = .ok (.bool false) ((w.alloc (.cells (fCells F) 67)).drewN n) := fun n => by
    have := ((h.below (box_below w (.cells (fCells F) 67) n)).outs).look (k := r) (by omega)
    rw [hz] at this
    exact this
  clear hk hr hz
  clear h
  go_enter Tryd.func41, Tryd.ntmps41
  go_wp2_with fail
  go_quiet ((go_at_call 53; exact Calls.quiet_of_same (in_any _ _ _ _)))
  go_wp2
  go_ret2
  exact ⟨_, _, _, rfl, .inl ⟨rfl, rfl⟩, HRI.out.below (box_below _ _ _), Moved.refl _ _, .inl rfl, Mod.ofBelow (box_below _ _ _) _⟩

theorem rtake_no (N q win : Nat) (tv : Value) (mv mo : Nat) (S : VS) (w : World) (F : FR) (h : RIs w N q win tv mv mo S) (hh : hearB S F = false) :
    Calls Tryd.prog 41 #[.pointer (some ⟨q, 0, none⟩), .agg (fCells F)] w (RTakeEnd N q win tv mv mo w (takeF win S F)) := by
  by_cases hk : F 0 = 2 ∨ F 0 = 4
  · by_cases h1 : 0 ≤ F 1 ∧ F 1 < 3
    · obtain ⟨r, hr⟩ := Int.eq_ofNat_of_zero_le h1.1
      have hr3 : r < 3 := by omega
      cases hz : S.out.testBit r
      · have hc : F 2 < 0 := by
          unfold hearB kindB fromB at hh
          rw [hr, Int.toNat_natCast, hz] at hh
          rcases hk with hk | hk <;> rw [hk] at hh <;> simp at hh <;> have := hh (by omega) <;> omega
        rcases hk with hk | hk
        · exact rtake_d2 N q win tv mv mo S w F h hk r hr hr3 hz hc
        · exact rtake_d4 N q win tv mv mo S w F h hk r hr hr3 hz hc
      · rcases hk with hk | hk
        · exact rtake_c2 N q win tv mv mo S w F h hk r hr hr3 hz
        · exact rtake_c4 N q win tv mv mo S w F h hk r hr hr3 hz
    · rcases hk with hk | hk
      · exact rtake_b2 N q win tv mv mo S w F h hk h1
      · exact rtake_b4 N q win tv mv mo S w F h hk h1
  · exact rtake_a N q win tv mv mo S w F h (fun e => hk (.inl e)) (fun e => hk (.inr e))
end Go.Proofs.YtbiacknbaefccaaDoor
