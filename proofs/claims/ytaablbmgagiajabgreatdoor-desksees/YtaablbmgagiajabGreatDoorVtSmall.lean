/- The contracts of voter.New, and of a voter's Tick, Latch, Latched, Out and Shown; of spent. -/
import Derived.Test.YtaablbmgagiajabGreatDoorVtMem
import Derived.Test.YtaablbmgagiajabGreatDoorLeaf
import Derived.Deep.MidRow
import Derived.Deep.QuietTactic
import Derived.BigQuiet
namespace Go.Proofs.YtaablbmgagiajabGreatDoor
open Go.RowKit Go.Deep

set_option maxHeartbeats 1000000 in
theorem latch_any (N p win : Nat) (tv : Value) (S : VS) (w : World) (h : VIs w N p win tv S) :
    Calls Tryz.prog 85 #[.pointer (some ⟨p, 0, none⟩)] w fun e w' => e = .returned (.tuple #[]) ∧ VIs w' N p win tv (latchF S) ∧ Mod w w' (VB p tv) := by
  have R := hide (h.put (S' := latchF S) 16 (.bool true) rfl rfl)
  have M := hide ((Mod.refl w (VB p tv)).set ⟨p, 16, none⟩ (.bool true) (fun _ => .inl rfl))
  have hf := h.free 16
  have hc := h.at 16
  rw [show (vCells tv win S)[16]? = some (.bool S.lat) from rfl] at hc
  clear h
  go_enter Tryz.func85, Tryz.ntmps85
  go_wp2
  go_end0
  exact ⟨rfl, R.out, M.out⟩

set_option maxHeartbeats 1000000 in
theorem latched_any (N p win : Nat) (tv : Value) (S : VS) (w : World) (h : VIs w N p win tv S) :
    Calls Tryz.prog 43 #[.pointer (some ⟨p, 0, none⟩)] w fun e w' => e = .returned (.bool S.lat) ∧ w' = w := by
  have hc := h.at 16
  rw [show (vCells tv win S)[16]? = some (.bool S.lat) from rfl] at hc
  clear h
  go_enter Tryz.func43, Tryz.ntmps43
  go_wp2
  go_ret
  exact ⟨rfl, rfl⟩

set_option maxHeartbeats 1000000 in
theorem out_any (N p win : Nat) (tv : Value) (S : VS) (w : World) (h : VIs w N p win tv S) :
    Calls Tryz.prog 48 #[.pointer (some ⟨p, 0, none⟩)] w fun e w' => e = .returned (.int .i64 (S.out : Int)) ∧ w' = w := by
  have hc := h.at 15
  rw [show (vCells tv win S)[15]? = some (.int .i64 (S.out : Int)) from rfl] at hc
  clear h
  go_enter Tryz.func48, Tryz.ntmps48
  go_wp2
  go_ret
  exact ⟨rfl, rfl⟩

set_option maxHeartbeats 1000000 in
theorem tick_any (N p win : Nat) (tv : Value) (S : VS) (w : World) (h : VIs w N p win tv S) (hok : VOk win S) :
    Calls Tryz.prog 47 #[.pointer (some ⟨p, 0, none⟩)] w fun e w' => e = .returned (.tuple #[]) ∧ VIs w' N p win tv (tickF S) ∧ Mod w w' (VB p tv) := by
  have hc := h.at 16
  rw [show (vCells tv win S)[16]? = some (.bool S.lat) from rfl] at hc
  cases hl : S.lat
  · have hp := hok.pos hl
    have hf := hok.left
    have h1 := h.put (S' := ⟨S.tr, S.b, S.x, S.left - 1, S.out, S.lat⟩) 14 (.int .i64 ((S.left - 1 : Nat) : Int)) rfl rfl
    have h2 := h1.put (S' := tickF S) 16 (.bool (S.left - 1 == 0)) (by unfold tickF; rw [hl]; rfl) (by unfold tickF; split <;> rfl)
    have M := hide (((Mod.refl w (VB p tv)).set ⟨p, 14, none⟩ (.int .i64 ((S.left - 1 : Nat) : Int)) (fun _ => .inl rfl)).set ⟨p, 16, none⟩ (.bool (S.left - 1 == 0)) (fun _ => .inl rfl))
    have c3 := h.at 14
    rw [show (vCells tv win S)[14]? = some (.int .i64 (S.left : Int)) from rfl] at c3
    have f3 := h.free 14
    have f6 := h.free 16
    obtain ⟨m, hm⟩ : ∃ m : Nat, S.left = m + 1 := ⟨S.left - 1, by omega⟩
    rw [hm] at c3 h2 M hf
    rw [hl] at hc
    simp only [Nat.add_sub_cancel] at h2 M
    have H2 := hide h2
    clear h h1 h2 hok hp hm hl
    have hz : (m == 0) = ((m : Int) == 0) := by rw [Bool.eq_iff_iff]; simp
    rw [hz] at H2 M
    clear hz
    go_enter Tryz.func47, Tryz.ntmps47
    go_wp2
    go_end0
    exact ⟨rfl, H2.out, M.out⟩
  · rw [hl] at hc
    have e : tickF S = S := by unfold tickF; rw [hl]; rfl
    rw [e]
    have H := hide h
    clear h hl hok e
    go_enter Tryz.func47, Tryz.ntmps47
    go_wp2
    refine bodyPost_ret (results_none rfl _ _ _) rfl ?_
    exact ⟨rfl, H.out, Mod.refl _ _⟩

set_option maxHeartbeats 1000000 in
theorem shown_any (N p win : Nat) (tv : Value) (S : VS) (w : World) (h : VIs w N p win tv S) (hok : VOk win S) :
    Calls Tryz.prog 44 #[.pointer (some ⟨p, 0, none⟩)] w fun e w' => e = .returned (.int .i64 (shownF S)) ∧ Below w.heap.size w w' := by
  have hc := h.at 16
  rw [show (vCells tv win S)[16]? = some (.bool S.lat) from rfl] at hc
  have c0 := h.at 0
  rw [show (vCells tv win S)[0]? = some tv from rfl] at c0
  cases hl : S.lat
  · rw [hl] at hc
    have hf := hok.few
    by_cases h0 : S.tr.length = 0
    · have e : shownF S = 0 := by unfold shownF; rw [hl, h0]; rfl
      rw [e]
      obtain ⟨a, cap, rfl⟩ := h.row.shape
      rw [h0] at c0
      clear h hl hok e
      go_enter Tryz.func44, Tryz.ntmps44
      go_wp2
      go_ret
      exact ⟨rfl, Below.refl _ _⟩
    · obtain ⟨g, cap, rfl, _, _, hcap⟩ := h.row.has (by omega)
      obtain ⟨m, hm⟩ : ∃ m, S.tr.length = m + 1 := ⟨S.tr.length - 1, by omega⟩
      have c1 := h.row.range (k := m) (by omega) 2 _ rfl
      have e : shownF S = (cmAt S.tr m).o := by unfold shownF; rw [hl, hm]; rfl
      rw [e]
      rw [hm] at c0 hcap hf
      generalize (cmAt S.tr m).o = z at c1
      clear h hl hok e hm h0
      go_enter Tryz.func44, Tryz.ntmps44
      go_wp2_with fail
      go_quiet (fail)
      go_wp2
      go_ret
      exact ⟨rfl, ⟨rfl, rfl, rfl, Nat.le_refl _, fun _ _ => rfl⟩⟩
  · have e : shownF S = 0 := by unfold shownF; rw [hl]; rfl
    rw [e]
    rw [hl] at hc
    clear h hl hok e c0
    go_enter Tryz.func44, Tryz.ntmps44
    go_wp2
    go_ret
    exact ⟨rfl, Below.refl _ _⟩

set_option maxHeartbeats 1000000 in
theorem spent_any (m n : Nat) (w : World) (hm : m < 256) :
    Calls Tryz.prog 217 #[.int .i64 (m : Int), .int .i64 (n : Int)] w fun e w' => e = .returned (.bool (decide (2 ≤ pop 8 m) || decide (1000 ≤ n))) ∧ w' = w := by
  have HO := hide (ones_any m w hm)
  have hp := pop_le 8 m
  go_enter Tryz.func217, Tryz.ntmps217
  go_wp2_with (go_at_call 21; refine HO.out.mono ?_; rintro e w' ⟨rfl, rfl⟩)
  all_goals
    go_ret
    refine ⟨ret_bool ?_, rfl⟩
    rw [Bool.eq_iff_iff]
    simp
    try omega

set_option maxHeartbeats 1000000 in
theorem vnew_ok (win : Nat) (w : World) (h1 : 1 ≤ win) (h2 : win ≤ 20) :
    Calls Tryz.prog 65 #[.int .i64 (win : Int)] w fun e w' => e = .returned (.tuple #[.pointer (some ⟨w.heap.size, 0, none⟩), .nilIface]) ∧ VIs w' w.heap.size w.heap.size win (.slice none 0 0) (vs0 win) ∧ w'.heap.size = w.heap.size + 1 ∧ Below w.heap.size w w' := by
  go_enter Tryz.func65, Tryz.ntmps65
  go_wp2
  go_ret2
  exact ⟨rfl, ⟨blk_new _ _, World.ownsRow_nil _ _ _ _, Nat.le_refl _⟩, by simp, (Below.refl _ _).alloc (Nat.le_refl _) _⟩
set_option maxHeartbeats 1000000 in
theorem vnew_bad (n : Int) (w : World) (h : n < 1 ∨ 20 < n) :
    Calls Tryz.prog 65 #[.int .i64 n] w fun e w' => e = .returned (.tuple #[.pointer none, .iface 74 (.int .i64 2)]) ∧ Below w.heap.size w w' := by
  by_cases h1 : n < 1
  · go_enter Tryz.func65, Tryz.ntmps65
    go_wp2
    go_ret2
    exact ⟨rfl, Below.refl _ _⟩
  · have h2 : 20 < n := by omega
    go_enter Tryz.func65, Tryz.ntmps65
    go_wp2
    go_ret2
    exact ⟨rfl, Below.refl _ _⟩
end Go.Proofs.YtaablbmgagiajabGreatDoor
