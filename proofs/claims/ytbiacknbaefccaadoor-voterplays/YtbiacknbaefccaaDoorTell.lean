/- The contracts of api.Tell, plain.Place and triumvirlaw.is: an error of the program is taken apart. -/
import Derived.Test.YtbiacknbaefccaaDoorAs
import Derived.Test.YtbiacknbaefccaaDoorCheck
import Derived.Deep.QuietTactic
import Derived.BigQuiet
namespace Go.Proofs.YtbiacknbaefccaaDoor
open Go.RowKit Go.Extern.Stop Go.Stop Go.Extern

set_option maxHeartbeats 1000000 in
theorem tell_any (w : World) (lo : Nat) (f : Nat × Int) (v : Value) (he : IsErr w lo f v) (hg : HasErrT w) :
    Calls Tryd.prog 84 #[v] w fun e w' => e = .returned (.int .i64 (f.1 : Int)) ∧ Below w.heap.size w w' := by
  obtain ⟨c, pl⟩ := f
  rcases he with ⟨h0, rfl⟩ | ⟨h0, _, rfl⟩ | ⟨h0, _, nb, _, hnb, rfl, hc0, _⟩
  · obtain ⟨rfl, rfl⟩ := Prod.mk.inj h0
    go_enter Tryd.func84, Tryd.ntmps84
    go_wp2
    go_ret
    exact ⟨rfl, Below.refl _ _⟩
  · have hB : Below w.heap.size w (w.alloc (.cells #[.int .i64 0] 27)) := (Below.refl _ _).alloc (Nat.le_refl _) _
    have hg' := hg.below hB hg.pos
    have HG := hide hg'
    clear hg'
    go_enter Tryd.func84, Tryd.ntmps84
    go_wp2_with fail
    refine (as_errno (c : Int) ⟨w.heap.size, 0, none⟩ (.int .i64 0) _ HG.out (by simp) (by simp)).mono ?_
    rintro e w1 ⟨rfl, hb1, hc1⟩
    have HB := hide (hB.trans hb1)
    clear hB hb1
    go_wp2
    go_ret
    exact ⟨rfl, HB.out⟩
  · have hB : Below w.heap.size w (w.alloc (.cells #[.int .i64 0] 27)) := (Below.refl _ _).alloc (Nat.le_refl _) _
    have hg' := hg.below hB hg.pos
    have HG := hide hg'
    have HC := hide ((hB.cell (p := ⟨nb, 0, none⟩) hnb).trans hc0)
    clear hg'
    go_enter Tryd.func84, Tryd.ntmps84
    go_wp2_with fail
    refine (as_at (c : Int) ⟨nb, 0, none⟩ ⟨w.heap.size, 0, none⟩ (.int .i64 0) _ HG.out (by simp) (by simp) HC.out).mono ?_
    rintro e w1 ⟨rfl, hb1, hc1⟩
    have HB := hide (hB.trans hb1)
    clear hB hb1
    go_wp2
    go_ret
    exact ⟨rfl, HB.out⟩

theorem Tryd.noUnwrapE (v : Value) (w : World) : (Instr.typeAssert (.iface 27 v) 32 166 true).run Tryd.prog w = .ok (.tuple #[.nilIface, .bool false]) w := run_typeAssert_lacksB Tryd.underlying166 (by kernel_rfl) (by kernel_rfl) v _ w

theorem Tryd.assertE (v : Value) (w : World) : (Instr.typeAssert (.iface 27 v) 32 120 true).run Tryd.prog w = .ok (.tuple #[.pointer none, .bool false]) w := by kernel_rfl
theorem Tryd.assertAt (v : Value) (w : World) : (Instr.typeAssert (.iface 120 v) 32 120 true).run Tryd.prog w = .ok (.tuple #[v, .bool true]) w := by kernel_rfl

set_option maxRecDepth 20000 in
set_option maxHeartbeats 1000000 in
theorem place_any (w : World) (lo : Nat) (f : Nat × Int) (v : Value) (he : IsErr w lo f v) (hg : HasErrT w) :
    Calls Tryd.prog 58 #[v] w fun e w' => e = .returned (.tuple #[.int .i64 (f.1 : Int), .int .i64 f.2]) ∧ Below w.heap.size w w' := by
  have htl := tell_any w lo f v he hg
  have HT := hide htl
  clear htl
  obtain ⟨c, pl⟩ := f
  rcases he with ⟨h0, rfl⟩ | ⟨h0, h1, rfl⟩ | ⟨h0, _, nb, _, hnb, rfl, hc0, hc1⟩
  · obtain ⟨rfl, rfl⟩ := Prod.mk.inj h0
    go_enter Tryd.func58, Tryd.ntmps58
    go_wp2_with fail
    refine HT.out.mono ?_
    rintro e w1 ⟨rfl, hb⟩
    have HB := hide hb
    clear hb HT
    go_wp2
    refine wp_loop_rounds 1 ?_
    rw [rounds_succ]
    go_wp2
    go_ret2
    exact ⟨rfl, HB.out⟩
  · have nU := Tryd.noUnwrapE
    have nA := Tryd.assertE
    have h1' : pl = -1 := h1
    subst h1'
    go_enter Tryd.func58, Tryd.ntmps58
    go_wp2_with fail
    refine HT.out.mono ?_
    rintro e w1 ⟨rfl, hb⟩
    have HB := hide hb
    clear hb HT
    go_wp2
    refine wp_loop_rounds 1 ?_
    rw [rounds_succ]
    go_wp2
    go_ret2
    exact ⟨rfl, HB.out⟩
  · have nA := Tryd.assertAt
    go_enter Tryd.func58, Tryd.ntmps58
    go_wp2_with fail
    refine HT.out.mono ?_
    rintro e w1 ⟨rfl, hb⟩
    have HB := hide hb
    have hc : w1.cell? ⟨nb, 1, none⟩ = some (.int .i64 pl) := (hb.cell (p := ⟨nb, 1, none⟩) hnb).trans hc1
    clear hb HT hc0 hc1
    go_wp2
    refine wp_loop_rounds 1 ?_
    rw [rounds_succ]
    go_wp2
    go_quiet (fail)
    go_wp2
    go_ret2
    exact ⟨rfl, below_drewN HB.out _⟩

set_option maxHeartbeats 1000000 in
theorem is_any (w : World) (lo : Nat) (f : Nat × Int) (v : Value) (he : IsErr w lo f v) (hg : HasErrT w) :
    Calls Tryd.prog 14 #[v, .agg #[.int .i64 (f.1 : Int), .int .i64 f.2]] w fun e w' => e = .returned (.bool true) ∧ Below w.heap.size w w' := by
  have hB : Below w.heap.size w (w.alloc (.cells #[.int .i64 (f.1 : Int), .int .i64 f.2] 29)) := (Below.refl _ _).alloc (Nat.le_refl _) _
  have he' : IsErr (w.alloc (.cells #[.int .i64 (f.1 : Int), .int .i64 f.2] 29)) lo f v := he.below hB
  have hpl := place_any _ lo f v he' (hg.below hB hg.pos)
  have HP := hide hpl
  clear hpl he' he
  go_enter Tryd.func14, Tryd.ntmps14
  go_wp2_with fail
  refine HP.out.mono ?_
  rintro e w1 ⟨rfl, hb⟩
  have c0 : w1.cell? ⟨w.heap.size, 0, none⟩ = some (.int .i64 (f.1 : Int)) := (hb.cell (p := ⟨w.heap.size, 0, none⟩) (by simp)).trans (by simp)
  have c1 : w1.cell? ⟨w.heap.size, 1, none⟩ = some (.int .i64 f.2) := (hb.cell (p := ⟨w.heap.size, 1, none⟩) (by simp)).trans (by simp)
  have HB := hide (hB.trans (hb.mono (by simp)))
  clear hB hb HP
  go_wp2
  go_ret
  exact ⟨rfl, HB.out⟩

end Go.Proofs.YtbiacknbaefccaaDoor
