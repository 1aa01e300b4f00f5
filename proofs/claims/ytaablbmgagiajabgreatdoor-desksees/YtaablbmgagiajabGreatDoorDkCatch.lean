/- What is thrown, and where it is caught: the contracts of throw, of answer's deferred function, and of isBlank. -/
import Derived.Test.YtaablbmgagiajabGreatDoorDkNum
import Derived.Tactics
import Derived.Tactics2
import Derived.Defers
import Derived.Recover
import Derived.Laws.Pointers
namespace Go.Proofs.YtaablbmgagiajabGreatDoor
open Go.RowKit Go.Deep Go.Shelf

set_option maxHeartbeats 1000000 in
theorem throw_nil (w : World) : Calls Tryz.prog 159 #[.nilIface] w fun e w' => e = .returned (.tuple #[]) ∧ w' = w := by
  go_enter Tryz.func159, Tryz.ntmps159
  go_wp2
  go_end0
  exact ⟨rfl, rfl⟩
set_option maxHeartbeats 1000000 in
theorem throw_err (w : World) (lo : Nat) (f : Nat × Int) (v : Value) (he : IsErr w lo f v) (h0 : f.1 ≠ 0) (hg : HasErrT w) :
    Calls Tryz.prog 159 #[v] w fun e w' => e = thrown (f.1 : Int) ∧ Below w.heap.size w w' := by
  have HT := hide (tell_any w lo f v he hg)
  have hv : ∃ t x, v = .iface t x := by
    rcases he with ⟨e, rfl⟩ | ⟨_, _, rfl⟩ | ⟨_, _, nb, _, _, rfl, _⟩
    · rw [e] at h0; exact absurd rfl h0
    · exact ⟨_, _, rfl⟩
    · exact ⟨_, _, rfl⟩
  clear he hg
  obtain ⟨t, x, rfl⟩ := hv
  go_enter Tryz.func159, Tryz.ntmps159
  go_wp2_with fail
  go_at_call 28
  refine HT.out.mono ?_
  rintro e w1 ⟨rfl, hB⟩
  go_wp2
  exact ⟨rfl, rfl, hB⟩

/-- What stands between words. -/
def isB (r : Nat) : Bool := decide ((r : Int) = 32)
set_option maxHeartbeats 1000000 in
theorem isBlank_at (w : World) : PredAt Tryz.prog 100 #[] encR isB w := fun W r _ => by
  unfold FnGives
  go_enter Tryz.func100, Tryz.ntmps100
  go_wp2
  go_ret
  exact ⟨rfl, 0, rfl⟩

theorem assertErrno (v : Value) (w : World) : (Instr.typeAssert (.iface 74 v) 20 74 true).run Tryz.prog w = .ok (.tuple #[v, .bool true]) w := by kernel_rfl
theorem assertNil (w : World) : (Instr.typeAssert .nilIface 20 74 true).run Tryz.prog w = .ok (.tuple #[.int .i64 0, .bool false]) w := by kernel_rfl

set_option maxHeartbeats 1000000 in
theorem catch_idle (p : Addr) (w : World) :
    CallsD Tryz.prog 98 #[.pointer (some p)] .returning w fun e u' w' => e = .returned (.tuple #[]) ∧ u' = .returning ∧ w' = w := by
  refine callsD_of_wpS Tryz.func98 rfl fun c₀ cs hu => ?_
  apply wpS_seq
  apply wpS_region
  simp [wpOpsS, go_sem, recoverD, hu, Tryz.ntmps98, Exit.thenS, assertNil]
  refine wpS_of_wp ?_
  simp only [Array.replicate_succ, Array.replicate_zero, List.push_toArray, List.append_toArray, List.nil_append, List.cons_append, List.setIfInBounds_toArray, List.set_cons_succ, List.set_cons_zero]
  go_wp2
  cases c₀
  simp_all [bodyPostS, results, Tryz.results98]
set_option maxHeartbeats 1000000 in
theorem catch_thrown (p : Addr) (z : Int) (v : Value) (w : World) (hz : IntIn z) (hp : HasPow w) (hb : p.block < w.heap.size) (hc : w.cell? p = some v) (hf : w.frozen? p = false) :
    CallsD Tryz.prog 98 #[.pointer (some p)] (.panicking [{ v := .iface 74 (.int .i64 z), recovered := false }]) w fun e u' w' =>
      e = .returned (.tuple #[]) ∧ u' = .panicking [{ v := .iface 74 (.int .i64 z), recovered := true }] ∧ ∃ w1, Below w.heap.size w w1 ∧ w' = w1.setCell p (.string (txt (errF z))) := by
  refine callsD_of_wpS Tryz.func98 rfl fun c₀ cs hu => ?_
  apply wpS_seq
  apply wpS_region
  simp [wpOpsS, go_sem, recoverD, hu, Tryz.ntmps98, Exit.thenS, assertErrno]
  have HW := hide (wrong_any z w hz hp)
  clear hz hp
  have hbl : ∀ w1, Below w.heap.size w w1 → w1.cell? p = some v ∧ w1.frozen? p = false := fun w1 h => ⟨(h.cell hb).trans hc, (World.frozen?_of_block (h.block _ hb)).trans hf⟩
  have HBL := hide hbl
  clear hbl hc hf
  refine wpS_of_wp ?_
  simp only [Array.replicate_succ, Array.replicate_zero, List.push_toArray, List.append_toArray, List.nil_append, List.cons_append, List.setIfInBounds_toArray, List.set_cons_succ, List.set_cons_zero]
  go_wp2_with fail
  go_at_call 57
  refine HW.out.mono ?_
  rintro e w1 ⟨rfl, hB⟩
  obtain ⟨g0, g1⟩ := HBL.out w1 hB
  go_wp2
  simp only [bodyPostS]
  simp [results, Tryz.results98]
  exact ⟨w1, hB, rfl⟩
end Go.Proofs.YtaablbmgagiajabGreatDoor
