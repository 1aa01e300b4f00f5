/- The contract of triumvirkeep.laid: it says yes. -/
import Derived.Test.YtpkfgpagkgmpcaaMost
namespace Go.Proofs.Ytpkfgpagkgmpcaa
open Go.RowKit Go.Deep

theorem laid_check : checkF 4 [3, 12, 6] 0 = (0, -1) := by decide +kernel
theorem laid_most : most (confs [3, 12, 6]) = 2 := by decide +kernel
theorem laid_conf0 : conf [3, 12, 6] 0 = 4 := by decide +kernel
theorem laid_conf1 : conf [3, 12, 6] 1 = 4 := by decide +kernel
theorem laid_conf2 : conf [3, 12, 6] 2 = 3 := by decide +kernel

theorem laid_row {w wx : World} (h : Below (w.heap.size + 1) (w.alloc (.cells #[.int .i64 3, .int .i64 12, .int .i64 6] 3)) wx) : Row wx w.heap.size 0 [3, 12, 6] := by
  intro k hk
  rw [h.cell (p := ⟨w.heap.size, 0 + k, none⟩) (Nat.lt_succ_self _)]
  match k, hk with
  | 0, _ => simp
  | 1, _ => simp
  | 2, _ => simp

set_option maxHeartbeats 1000000 in
theorem laid_any (w : World) :
    Calls Try.prog 5 #[] w fun e w' => e = .returned (.bool true) ∧ Below w.heap.size w w' := by
  go_enter Try.func5, Try.ntmps5
  go_wp2_with fail
  have hb0 : Below (w.heap.size + 1) (w.alloc (.cells #[.int .i64 3, .int .i64 12, .int .i64 6] 3)) ((w.alloc (.cells #[.int .i64 3, .int .i64 12, .int .i64 6] 3)).alloc (.cells #[.int .i64 4, .slice (some ⟨w.heap.size, 0, none⟩) 3 3, .int .i64 0] 25)) := (Below.refl _ _).alloc (by simp) _
  refine (conf_n 4 0 w.heap.size 0 3 3 [3, 12, 6] _ rfl laid_check (by simp; omega) (laid_row hb0) (by decide)).mono ?_
  rintro e w1 ⟨⟨M, hM, rfl, hrow⟩, hB⟩
  have hb1 : Below (w.heap.size + 1) (w.alloc (.cells #[.int .i64 3, .int .i64 12, .int .i64 6] 3)) w1 := hb0.trans (hB.mono (by simp))
  have hbx : ∀ i, w1.cell? ⟨w.heap.size + 1, i, none⟩ = (#[.int .i64 4, .slice (some ⟨w.heap.size, 0, none⟩) 3 3, .int .i64 0] : Array Value)[i]? := fun i => (hB.cell (p := ⟨w.heap.size + 1, i, none⟩) (by simp)).trans (World.cell?_alloc_at _ _ _ _ (by simp))
  have e0 : w1.cell? ⟨w.heap.size + 1, 0, none⟩ = some (.int .i64 4) := hbx 0
  have e1 : w1.cell? ⟨w.heap.size + 1, 1, none⟩ = some (.slice (some ⟨w.heap.size, 0, none⟩) 3 3) := hbx 1
  have e2 : w1.cell? ⟨w.heap.size + 1, 2, none⟩ = some (.int .i64 0) := hbx 2
  have hN : w.heap.size + 2 ≤ w1.heap.size := by have := hB.size; simp at this; omega
  have HROW := hide hrow
  have HB1 := hide hb1
  clear hbx hb1 hrow hB hb0
  go_wp2_with fail
  refine (most_n 4 0 w.heap.size 0 3 3 [3, 12, 6] _ rfl laid_check (by omega) (laid_row HB1.out) (by decide)).mono ?_
  rintro e w2 ⟨rfl, hB2⟩
  rw [laid_most]
  have hlt : M < w1.heap.size := HROW.out.lt
  have c0 : w2.cell? ⟨M, 0, none⟩ = some (.int .i64 4) := (hB2.cell (p := ⟨M, 0, none⟩) hlt).trans ((HROW.out.cell (i := 0) (by decide)).trans (by rw [laid_conf0]; rfl))
  have c1 : w2.cell? ⟨M, 1, none⟩ = some (.int .i64 4) := (hB2.cell (p := ⟨M, 1, none⟩) hlt).trans ((HROW.out.cell (i := 1) (by decide)).trans (by rw [laid_conf1]; rfl))
  have c2 : w2.cell? ⟨M, 2, none⟩ = some (.int .i64 3) := (hB2.cell (p := ⟨M, 2, none⟩) hlt).trans ((HROW.out.cell (i := 2) (by decide)).trans (by rw [laid_conf2]; rfl))
  have hfin : Below w.heap.size w w2 := (((Below.refl _ _).alloc (Nat.le_refl _) _).trans (HB1.out.mono (by omega))).trans (hB2.mono (by omega))
  have HFIN := hide hfin
  clear hfin HB1 HROW hB2 e0 e1 e2
  go_wp2
  go_ret
  exact ⟨rfl, HFIN.out⟩

end Go.Proofs.Ytpkfgpagkgmpcaa
