/- The walk of triumvirlaw.CorePlays where there is too much, or where the layout may not be: it says yes. -/
import Derived.Test.YtpkfgpagkgmpcaaDoorCoreNew
import Derived.Test.YtpkfgpagkgmpcaaDoorRefCheck
import Derived.Test.YtpkfgpagkgmpcaaDoorTell
import Derived.Test.YtpkfgpagkgmpcaaDoorPlayRight
namespace Go.Proofs.YtpkfgpagkgmpcaaDoor
open Go.RowKit Go.Deep

set_option maxHeartbeats 1000000 in
set_option maxRecDepth 20000 in
theorem plays_many (s d : Int) (a : Option Addr) (len cap : Nat) (ai : Option Addr) (li ci : Nat) (G : GS) (w : World) (hl : 20 < len ∨ 100 < li) (hm : len ≤ maxLen) (hmi : li ≤ maxLen) :
    Calls Tryd.prog 4 #[.agg #[.int .i64 s, .slice a len cap, .int .i64 d], .slice ai li ci, .agg (gCells G)] w fun e w' => e = .returned (.bool true) ∧ Below w.heap.size w w' := by
  unfold maxLen at hm hmi
  by_cases h1 : 20 < len
  · clear hl
    go_enter Tryd.func4, Tryd.ntmps4
    go_wp2
    go_ret
    exact ⟨rfl, ((Below.refl _ _).alloc (Nat.le_refl _) _).alloc (by simp) _⟩
  · have h2 : 100 < li := by omega
    clear hl
    go_enter Tryd.func4, Tryd.ntmps4
    go_wp2
    go_ret
    exact ⟨rfl, ((Below.refl _ _).alloc (Nat.le_refl _) _).alloc (by simp) _⟩

theorem bad_first {s : Int} {zs : List Int} {d : Int} (hbad : checkF s zs d ≠ (0, -1)) : (checkF s zs d).1 ≠ 0 := by
  unfold checkF at hbad ⊢
  split
  · rename_i hr
    rw [if_pos hr] at hbad
    split
    · simp
    · rename_i h1
      rw [h1] at hbad
      split
      · simp
      · rename_i h2
        rw [h2] at hbad
        exact absurd rfl hbad
  · simp

set_option maxHeartbeats 2000000 in
set_option maxRecDepth 20000 in
theorem plays_bad (s d : Int) (a : Option Addr) (len cap : Nat) (zs : List Int) (ai : Option Addr) (li ci : Nat) (G : GS) (w : World) (hl : ¬ 20 < len) (hli : ¬ 100 < li) (h : IsSl w a len cap zs) (hg : HasErrT w) (hbad : checkF s zs d ≠ (0, -1)) :
    Calls Tryd.prog 4 #[.agg #[.int .i64 s, .slice a len cap, .int .i64 d], .slice ai li ci, .agg (gCells G)] w fun e w' => e = .returned (.bool true) ∧ Below w.heap.size w w' := by
  have hf1 := bad_first hbad
  have hB0 : Below w.heap.size w ((w.alloc (.cells #[.int .i64 s, .slice a len cap, .int .i64 d] 24)).alloc (.cells (gCells G) 49)) := ((Below.refl _ _).alloc (Nat.le_refl _) _).alloc (by simp) _
  have hc2 := fun (wx : World) (hB : Below w.heap.size w wx) => new_bad s d a len cap zs wx (h.below hB) hbad
  have hc1 := fun (wx : World) (hB : Below w.heap.size w wx) => refCheck_any s d a len cap zs wx (h.below hB)
  have hc6 := fun (wx : World) (v : Value) (lo : Nat) (hB : Below w.heap.size w wx) (hv : IsErr wx lo (checkF s zs d) v) => is_any wx lo (checkF s zs d) v hv (hg.below hB hg.pos)
  obtain ⟨f, hf⟩ : ∃ f, Hid (checkF s zs d = f) := ⟨_, hide rfl⟩
  rw [hf.out] at hc1 hc2 hc6 hf1
  have H1 := hide hc1
  have H2 := hide hc2
  have H6 := hide hc6
  have HB0 := hide hB0
  clear hc1 hc2 hc6 hbad hf h hg hB0
  obtain ⟨c, p⟩ := f
  have hcne : ((c : Int) != 0) = true := by simp at hf1 ⊢; omega
  clear hf1
  go_enter Tryd.func4, Tryd.ntmps4
  go_wp2_with fail
  refine (unhide H2 _ HB0.out).mono ?_
  rintro e w1 ⟨⟨v, rfl, hv⟩, hB1⟩
  have hq : w1.heap[w.heap.size]? = some (.cells #[.int .i64 s, .slice a len cap, .int .i64 d] 24 (0, 0)) := (hB1.block _ (by simp; omega)).trans ((Below.heap_alloc _ _ _ (by simp)).trans (blk_new _ _))
  have l0 : w1.cell? ⟨w.heap.size, 0, none⟩ = some (.int .i64 s) := (blk_cell hq 0).trans rfl
  have l1 : w1.cell? ⟨w.heap.size, 1, none⟩ = some (.slice a len cap) := (blk_cell hq 1).trans rfl
  have l2 : w1.cell? ⟨w.heap.size, 2, none⟩ = some (.int .i64 d) := (blk_cell hq 2).trans rfl
  have HB1 := hide (HB0.out.trans (hB1.mono (by simp; omega)))
  have HV := hide hv
  clear hB1 hv hq H2
  go_wp2_with fail
  refine (unhide H1 _ HB1.out).mono ?_
  rintro e w2 ⟨rfl, hB2⟩
  have HB2 := hide (HB1.out.trans (hB2.mono HB1.out.size))
  have HV2 := hide (HV.out.below hB2)
  clear hB2 l0 l1 l2 H1 HV
  go_wp2_with fail
  have hB3 : Below w2.heap.size w2 (w2.alloc (.cells #[.int .i64 (c : Int), .int .i64 p] 29)) := (Below.refl _ _).alloc (Nat.le_refl _) _
  refine (unhide H6 _ _ _ (HB2.out.trans (hB3.mono HB2.out.size)) (HV2.out.below hB3)).mono ?_
  rintro e w3 ⟨rfl, hB4⟩
  have HB4 := hide ((HB2.out.trans (hB3.mono HB2.out.size)).trans (hB4.mono (HB2.out.trans (hB3.mono HB2.out.size)).size))
  clear hB3 hB4 H6
  go_wp2
  go_ret
  exact ⟨rfl, HB4.out⟩

end Go.Proofs.YtpkfgpagkgmpcaaDoor
