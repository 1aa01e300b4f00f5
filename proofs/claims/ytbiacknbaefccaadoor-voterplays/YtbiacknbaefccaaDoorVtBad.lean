/- triumvirlaw.VoterPlays where too much is said, or the window is wrong. -/
import Derived.Test.YtbiacknbaefccaaDoorVtJ
import Derived.Test.YtbiacknbaefccaaDoorTell
namespace Go.Proofs.YtbiacknbaefccaaDoor
open Go.RowKit Go.Deep Go.Extern.Stop Go.Stop Go.Extern

set_option maxHeartbeats 1000000 in
set_option maxRecDepth 20000 in
theorem vplays_many (win many : Int) (al : Option Addr) (ll cl : Nat) (w : World) (h : 120 < ll) (hm : ll ≤ maxLen) :
    Calls Tryd.prog 9 #[.int .i64 win, .slice al ll cl, .int .i64 many] w fun e w' => e = .returned (.bool true) ∧ Below w.heap.size w w' := by
  have hm' : ll ≤ 9223372036854775807 := by unfold maxLen at hm; omega
  clear hm
  go_enter Tryd.func9, Tryd.ntmps9
  go_wp2
  go_ret
  exact ⟨rfl, Below.refl _ _⟩

set_option maxHeartbeats 1000000 in
set_option maxRecDepth 20000 in
theorem vplays_bad (win many : Int) (al : Option Addr) (ll cl : Nat) (w : World) (h : ll ≤ 120) (hb : win < 1 ∨ 20 < win) (hg : HasErrT w) :
    Calls Tryd.prog 9 #[.int .i64 win, .slice al ll cl, .int .i64 many] w fun e w' => e = .returned (.bool true) ∧ Below w.heap.size w w' := by
  have HN := hide (new_bad win w hb)
  have hba : ∀ wx, Below w.heap.size w wx → Calls Tryd.prog 31 #[.iface 27 (.int .i64 2), .int .i64 2] wx fun e w' => e = .returned (.bool true) ∧ Hid (Below w.heap.size w w') := fun wx hx =>
    (bare_any 2 (.iface 27 (.int .i64 2)) wx rfl (hg.below hx hg.pos)).mono fun e w' ⟨he, hB⟩ => ⟨he, hx.trans (hB.mono hx.size)⟩
  have HBA := hide hba
  clear hba hg
  rcases hb with hb | hb
  · go_enter Tryd.func9, Tryd.ntmps9
    go_wp2_with (first
      | (go_at_call 38; refine HN.out.mono ?_; rintro e w1 ⟨rfl, hB1⟩)
      | (go_at_call 31; refine (unhide HBA _ hB1).mono ?_; rintro e w2 ⟨rfl, HB2⟩))
    go_ret
    exact ⟨rfl, HB2.out⟩
  · have hb1 : ¬ win < 1 := by omega
    go_enter Tryd.func9, Tryd.ntmps9
    go_wp2_with (first
      | (go_at_call 38; refine HN.out.mono ?_; rintro e w1 ⟨rfl, hB1⟩)
      | (go_at_call 31; refine (unhide HBA _ hB1).mono ?_; rintro e w2 ⟨rfl, HB2⟩))
    go_ret
    exact ⟨rfl, HB2.out⟩
set_option maxHeartbeats 1000000 in
theorem shown_q (N p win : Nat) (tv : Value) (S : VS) (w : World) (h : VIs w N p win tv S) (hok : VOk win S) :
    Calls Tryd.prog 48 #[.pointer (some ⟨p, 0, none⟩)] w fun e w' => e = .returned (.int .i64 (shownF S)) ∧ ∃ n, w' = w.drewN n := by
  have hc := h.at 16
  rw [show (vCells tv win S)[16]? = some (.bool S.lat) from rfl] at hc
  have c0 := h.at 0
  rw [show (vCells tv win S)[0]? = some tv from rfl] at c0
  cases hl : S.lat
  · rw [hl] at hc
    have hf := hok.few
    by_cases h0 : S.tr.length = 0
    · have e : shownF S = 0 := by unfold shownF; rw [hl, h0]; rfl
      rw [e]
      obtain ⟨a, cap, rfl⟩ := h.row.shape
      rw [h0] at c0
      clear h hl hok e
      go_enter Tryd.func48, Tryd.ntmps48
      go_wp2
      go_ret
      exact ⟨rfl, 0, rfl⟩
    · obtain ⟨g, cap, rfl, _, _, hcap⟩ := h.row.has (by omega)
      obtain ⟨m, hm⟩ : ∃ m, S.tr.length = m + 1 := ⟨S.tr.length - 1, by omega⟩
      have c1 := h.row.range (k := m) (by omega) 2 _ rfl
      have e : shownF S = (cmAt S.tr m).o := by unfold shownF; rw [hl, hm]; rfl
      rw [e]
      rw [hm] at c0 hcap hf
      generalize (cmAt S.tr m).o = z at c1
      clear h hl hok e hm h0
      go_enter Tryd.func48, Tryd.ntmps48
      go_wp2_with fail
      go_quiet (fail)
      go_wp2
      go_ret
      exact ⟨rfl, _, rfl⟩
  · have e : shownF S = 0 := by unfold shownF; rw [hl]; rfl
    rw [e]
    rw [hl] at hc
    clear h hl hok e c0
    go_enter Tryd.func48, Tryd.ntmps48
    go_wp2
    go_ret
    exact ⟨rfl, 0, rfl⟩

end Go.Proofs.YtbiacknbaefccaaDoor
