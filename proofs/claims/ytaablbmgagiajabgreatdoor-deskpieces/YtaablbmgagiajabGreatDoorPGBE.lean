import Derived.Deep.QuietTactic
import Derived.BigQuiet
import Derived.Test.YtaablbmgagiajabGreatDoorPGBD
import Derived.Test.YtaablbmgagiajabGreatDoorPGBB
namespace Go.Proofs.YtaablbmgagiajabGreatDoor
open Go.RowKit Go.Extern.Stop Go.Stop Go.Extern
set_option maxHeartbeats 1000000 in
theorem tell_any (w : World) (lo : Nat) (f : Nat × Int) (v : Value) (he : IsErr w lo f v) (hg : HasErrT w) :
    Calls Tryz.prog 28 #[v] w fun e w' => e = .returned (.int .i64 (f.1 : Int)) ∧ Below w.heap.size w w' := by
  obtain ⟨c, pl⟩ := f
  rcases he with ⟨h0, rfl⟩ | ⟨h0, _, rfl⟩ | ⟨h0, _, nb, _, hnb, rfl, hc0, _⟩
  · obtain ⟨rfl, rfl⟩ := Prod.mk.inj h0
    go_enter Tryz.func28, Tryz.ntmps28
    go_wp2
    go_ret
    exact ⟨rfl, Below.refl _ _⟩
  · have hB : Below w.heap.size w (w.alloc (.cells #[.int .i64 0] 74)) := (Below.refl _ _).alloc (Nat.le_refl _) _
    have hg' := hg.below hB hg.pos
    have HG := hide hg'
    clear hg'
    go_enter Tryz.func28, Tryz.ntmps28
    go_wp2_with fail
    refine (as_errno (c : Int) ⟨w.heap.size, 0, none⟩ (.int .i64 0) _ HG.out (by simp) (by simp)).mono ?_
    rintro e w1 ⟨rfl, hb1, hc1⟩
    have HB := hide (hB.trans hb1)
    clear hB hb1
    go_wp2
    go_ret
    exact ⟨rfl, HB.out⟩
  · have hB : Below w.heap.size w (w.alloc (.cells #[.int .i64 0] 74)) := (Below.refl _ _).alloc (Nat.le_refl _) _
    have hg' := hg.below hB hg.pos
    have HG := hide hg'
    have HC := hide ((hB.cell (p := ⟨nb, 0, none⟩) hnb).trans hc0)
    clear hg'
    go_enter Tryz.func28, Tryz.ntmps28
    go_wp2_with fail
    refine (as_at (c : Int) ⟨nb, 0, none⟩ ⟨w.heap.size, 0, none⟩ (.int .i64 0) _ HG.out (by simp) (by simp) HC.out).mono ?_
    rintro e w1 ⟨rfl, hb1, hc1⟩
    have HB := hide (hB.trans hb1)
    clear hB hb1
    go_wp2
    go_ret
    exact ⟨rfl, HB.out⟩
end Go.Proofs.YtaablbmgagiajabGreatDoor
namespace Go.Proofs.YtaablbmgagiajabGreatDoor
open Go.RowKit Go.Deep
theorem sshown_any (N : Nat) (D : SC) (L : RC) (win : Nat) (S : SY) (w : World) (h : SyIs w N D L win S) (hok : VOk win S.v) :
    Calls Tryz.prog 15 #[.pointer (some ⟨D.p, 0, none⟩)] w fun e w' => e = .returned (.int .i64 (shownF S.v)) ∧ Below w.heap.size w w' := by
  have c6 := h.vt6
  have HC := hide (shown_any N D.vp win D.tv S.v w h.vt hok)
  clear h hok
  go_enter Tryz.func15, Tryz.ntmps15
  go_wp2_with fail
  refine HC.out.mono ?_
  rintro e w2 ⟨rfl, hB⟩
  go_wp2
  go_ret
  exact ⟨rfl, hB⟩
abbrev WT : Seen := fun _ _ _ _ => True
end Go.Proofs.YtaablbmgagiajabGreatDoor
