/- The contracts of api.Tell, plain.Place and triumvirlaw.is: an error of the program is taken apart. -/
import Derived.Test.YtaablbmgagiajabGreatDoorAs
import Derived.Test.YtaablbmgagiajabGreatDoorCheck
import Derived.Deep.QuietTactic
import Derived.BigQuiet
namespace Go.Proofs.YtaablbmgagiajabGreatDoor
open Go.RowKit Go.Extern.Stop Go.Stop Go.Extern

set_option maxHeartbeats 1000000 in
theorem tell_any (w : World) (lo : Nat) (f : Nat × Int) (v : Value) (he : IsErr w lo f v) (hg : HasErrT w) :
    Calls Tryz.prog 28 #[v] w fun e w' => e = .returned (.int .i64 (f.1 : Int)) ∧ Below w.heap.size w w' := by
  obtain ⟨c, pl⟩ := f
  rcases he with ⟨h0, rfl⟩ | ⟨h0, _, rfl⟩ | ⟨h0, _, nb, _, hnb, rfl, hc0, _⟩
  · obtain ⟨rfl, rfl⟩ := Prod.mk.inj h0
    go_enter Tryz.func28, Tryz.ntmps28
    go_wp2
    go_ret
    exact ⟨rfl, Below.refl _ _⟩
  · have hB : Below w.heap.size w (w.alloc (.cells #[.int .i64 0] 74)) := (Below.refl _ _).alloc (Nat.le_refl _) _
    have hg' := hg.below hB hg.pos
    have HG := hide hg'
    clear hg'
    go_enter Tryz.func28, Tryz.ntmps28
    go_wp2_with fail
    refine (as_errno (c : Int) ⟨w.heap.size, 0, none⟩ (.int .i64 0) _ HG.out (by simp) (by simp)).mono ?_
    rintro e w1 ⟨rfl, hb1, hc1⟩
    have HB := hide (hB.trans hb1)
    clear hB hb1
    go_wp2
    go_ret
    exact ⟨rfl, HB.out⟩
  · have hB : Below w.heap.size w (w.alloc (.cells #[.int .i64 0] 74)) := (Below.refl _ _).alloc (Nat.le_refl _) _
    have hg' := hg.below hB hg.pos
    have HG := hide hg'
    have HC := hide ((hB.cell (p := ⟨nb, 0, none⟩) hnb).trans hc0)
    clear hg'
    go_enter Tryz.func28, Tryz.ntmps28
    go_wp2_with fail
    refine (as_at (c : Int) ⟨nb, 0, none⟩ ⟨w.heap.size, 0, none⟩ (.int .i64 0) _ HG.out (by simp) (by simp) HC.out).mono ?_
    rintro e w1 ⟨rfl, hb1, hc1⟩
    have HB := hide (hB.trans hb1)
    clear hB hb1
    go_wp2
    go_ret
    exact ⟨rfl, HB.out⟩

theorem Tryz.noUnwrapE (v : Value) (w : World) : (Instr.typeAssert (.iface 74 v) 54 245 true).run Tryz.prog w = .ok (.tuple #[.nilIface, .bool false]) w := run_typeAssert_lacksB Tryz.underlying245 (by kernel_rfl) (by kernel_rfl) v _ w

theorem Tryz.assertE (v : Value) (w : World) : (Instr.typeAssert (.iface 74 v) 54 161 true).run Tryz.prog w = .ok (.tuple #[.pointer none, .bool false]) w := by kernel_rfl
theorem Tryz.assertAt (v : Value) (w : World) : (Instr.typeAssert (.iface 161 v) 54 161 true).run Tryz.prog w = .ok (.tuple #[v, .bool true]) w := by kernel_rfl

end Go.Proofs.YtaablbmgagiajabGreatDoor
