/- The walk of triumvirlaw.LayoutChecks at a layout with which something is wrong. -/
import Derived.Test.YtihiagjlpkjpeaaDoorFit
import Derived.Test.YtihiagjlpkjpeaaDoorTell
import Derived.Test.YtihiagjlpkjpeaaDoorRefCheck
import Derived.Deep.RegionWith
namespace Go.Proofs.YtihiagjlpkjpeaaDoor
open Go.RowKit

/-- What was there is there. -/
structure Keeps (w0 wx : World) : Prop where
  below : Below w0.heap.size w0 wx
theorem Keeps.refl (w : World) : Keeps w w := ⟨Below.refl _ _⟩
theorem Keeps.drew {w0 wx : World} (h : Keeps w0 wx) : Keeps w0 wx.drew := ⟨h.below.drew⟩
theorem Keeps.trans {w0 wx wy : World} (h : Keeps w0 wx) (hB : Below wx.heap.size wx wy) : Keeps w0 wy := ⟨h.below.trans (hB.mono h.below.size)⟩
theorem Keeps.cell {w0 wx : World} (h : Keeps w0 wx) {b i : Nat} {v : Value} (hc : w0.cell? ⟨b, i, none⟩ = some v) : wx.cell? ⟨b, i, none⟩ = some v := (h.below.cell (p := ⟨b, i, none⟩) (World.block_lt_of_cell? _ _ hc)).trans hc
theorem Keeps.err {w0 wx : World} {lo : Nat} {f : Nat × Int} {v : Value} (h : Keeps w0 wx) (he : IsErr w0 lo f v) : IsErr wx lo f v := he.below h.below

/-- The two arguments in their boxes. -/
structure Boxes (w wx : World) (x y z u v : Value) : Prop where
  old : Below w.heap.size w wx
  lay : wx.heap[w.heap.size]? = some (.cells #[x, y, z] 24 (0, 0))
  inp : wx.heap[w.heap.size + 1]? = some (.cells #[u, v] 26 (0, 0))
theorem boxes_start (w : World) (x y z u v : Value) : Boxes w ((w.alloc (.cells #[x, y, z] 24)).alloc (.cells #[u, v] 26)) x y z u v := by
  refine ⟨((Below.refl _ _).alloc (Nat.le_refl _) _).alloc (by simp) _, ?_, ?_⟩
  · rw [Below.heap_alloc _ _ _ (by simp)]
    exact heap_alloc_new _ _
  · have := heap_alloc_new (w.alloc (.cells #[x, y, z] 24)) (.cells #[u, v] 26)
    rw [show (w.alloc (.cells #[x, y, z] 24)).heap.size = w.heap.size + 1 by simp] at this
    exact this
theorem Boxes.below {w wx wy : World} {x y z u v : Value} (h : Boxes w wx x y z u v) (hB : Below wx.heap.size wx wy) : Boxes w wy x y z u v := by
  have h1 := lt_block h.lay
  have h2 := lt_block h.inp
  exact ⟨h.old.trans (hB.mono h.old.size), (hB.block _ h1).trans h.lay, (hB.block _ h2).trans h.inp⟩
theorem Boxes.alloc {w wx : World} {x y z u v : Value} (h : Boxes w wx x y z u v) (o : Obj) : Boxes w (wx.alloc o) x y z u v := h.below ((Below.refl _ _).alloc (Nat.le_refl _) _)
theorem Boxes.cells {w wx : World} {x y z u v : Value} (h : Boxes w wx x y z u v) : wx.cell? ⟨w.heap.size, 0, none⟩ = some x ∧ wx.cell? ⟨w.heap.size, 1, none⟩ = some y ∧ wx.cell? ⟨w.heap.size, 2, none⟩ = some z ∧ wx.cell? ⟨w.heap.size + 1, 0, none⟩ = some u ∧ wx.cell? ⟨w.heap.size + 1, 1, none⟩ = some v :=
  ⟨by rw [cell_block h.lay]; rfl, by rw [cell_block h.lay]; rfl, by rw [cell_block h.lay]; rfl, by rw [cell_block h.inp]; rfl, by rw [cell_block h.inp]; rfl⟩

theorem new_cells {w wx : World} {x y : Value} {t : TypeId} (h : Below (w.alloc (.cells #[x, y] t)).heap.size (w.alloc (.cells #[x, y] t)) wx) : wx.cell? ⟨w.heap.size, 0, none⟩ = some x ∧ wx.cell? ⟨w.heap.size, 1, none⟩ = some y :=
  ⟨(h.cell (p := ⟨w.heap.size, 0, none⟩) (by simp)).trans (World.cell?_alloc_at _ _ _ _ rfl), (h.cell (p := ⟨w.heap.size, 1, none⟩) (by simp)).trans (World.cell?_alloc_at _ _ _ _ rfl)⟩

set_option maxHeartbeats 1000000 in
theorem checks_many (s d x0 x1 : Int) (a : Option Addr) (len cap : Nat) (w : World) (hl : 20 < len) (hm : len ≤ maxLen) :
    Calls Tryd.prog 3 #[.agg #[.int .i64 s, .slice a len cap, .int .i64 d], .agg #[.int .i64 x0, .int .i64 x1]] w fun e w' => e = .returned (.bool true) ∧ Below w.heap.size w w' := by
  unfold maxLen at hm
  go_enter Tryd.func3, Tryd.ntmps3
  go_wp2
  go_ret
  exact ⟨rfl, ((Below.refl _ _).alloc (Nat.le_refl _) _).alloc (by simp) _⟩

set_option maxRecDepth 20000 in
set_option maxHeartbeats 4000000 in
theorem checks_bad (s d x0 x1 : Int) (a : Option Addr) (len cap : Nat) (zs : List Int) (w : World) (hl : ¬ 20 < len) (h : IsSl w a len cap zs) (hg : HasErrT w) (hbad : checkF s zs d ≠ (0, -1)) :
    Calls Tryd.prog 3 #[.agg #[.int .i64 s, .slice a len cap, .int .i64 d], .agg #[.int .i64 x0, .int .i64 x1]] w fun e w' => e = .returned (.bool true) ∧ Below w.heap.size w w' := by
  have hf1 : (checkF s zs d).1 ≠ 0 := by
    unfold checkF at hbad ⊢
    split
    · rename_i hr
      rw [if_pos hr] at hbad
      split
      · simp
      · rename_i h1
        rw [h1] at hbad
        split
        · simp
        · rename_i h2
          rw [h2] at hbad
          exact absurd rfl hbad
    · simp
  have hc1 := fun (wx : World) (hB : Below w.heap.size w wx) => refCheck_any s d a len cap zs wx (h.below hB)
  have hc2 := fun (wx : World) (hB : Below w.heap.size w wx) => conf_bad s d a len cap zs wx (h.below hB) hbad
  have hc3 := fun (wx : World) (hB : Below w.heap.size w wx) => most_bad s d a len cap zs wx (h.below hB) hbad
  have hc4 := fun (wx : World) (hB : Below w.heap.size w wx) => fit_bad s d x0 x1 a len cap zs wx (h.below hB) hbad
  have hc5 := fun (wx : World) (hB : Below w.heap.size w wx) => check_any s d a len cap zs wx (h.below hB)
  have hc6 := fun (wx : World) (v : Value) (lo : Nat) (hB : Below w.heap.size w wx) (hv : IsErr wx lo (checkF s zs d) v) => is_any wx lo (checkF s zs d) v hv (hg.below hB hg.pos)
  obtain ⟨f, hf⟩ : ∃ f, Hid (checkF s zs d = f) := ⟨_, hide rfl⟩
  rw [hf.out] at hc1 hc2 hc3 hc4 hc5 hc6 hf1
  have H1 := hide hc1
  have H2 := hide hc2
  have H3 := hide hc3
  have H4 := hide hc4
  have H5 := hide hc5
  have H6 := hide hc6
  clear hc1 hc2 hc3 hc4 hc5 hc6 hbad hf h hg
  obtain ⟨c, p⟩ := f
  have hcne : ((c : Int) != 0) = true := by simp at hf1 ⊢; omega
  have hb0 := boxes_start w (.int .i64 s) (.slice a len cap) (.int .i64 d) (.int .i64 x0) (.int .i64 x1)
  have HB0 := hide hb0
  clear hb0 hf1
  go_enter Tryd.func3, Tryd.ntmps3
  go_wp2_with fail
  refine (unhide H1 _ HB0.out.old).mono ?_
  rintro e w1 ⟨rfl, hB1⟩
  have HB1 := hide (HB0.out.below hB1)
  obtain ⟨l0, l1, l2, _, _⟩ := HB1.out.cells
  have hN1 : w.heap.size < w1.heap.size := lt_block HB1.out.lay
  clear hB1 HB0 H1
  go_wp2_with fail
  have HB1a := hide (HB1.out.alloc (.cells #[.int .i64 (c : Int), .int .i64 p] 29))
  refine (unhide H2 _ HB1a.out.old).mono ?_
  rintro e w2 ⟨⟨v1, rfl, hv1⟩, hB2⟩
  clear l0 l1 l2
  have HB2 := hide (HB1a.out.below hB2)
  obtain ⟨l0, l1, l2, _, _⟩ := HB2.out.cells
  obtain ⟨F0, F1⟩ := new_cells hB2
  have HF0 := hide F0
  have HF1 := hide F1
  have HV1 := hide hv1
  generalize w1.heap.size = F at *
  clear hB2 hv1 HB1 HB1a H2 F0 F1
  go_wp2_with fail
  refine (unhide H3 _ HB2.out.old).mono ?_
  rintro e w3 ⟨⟨v2, rfl, hv2⟩, hB3⟩
  clear l0 l1 l2
  have HB3 := hide (HB2.out.below hB3)
  obtain ⟨l0, l1, l2, y0, y1⟩ := HB3.out.cells
  have HF0' := hide ((Keeps.mk hB3).cell HF0.out)
  have HF1' := hide ((Keeps.mk hB3).cell HF1.out)
  have HV1' := hide ((Keeps.mk hB3).err HV1.out)
  have HV2 := hide hv2
  clear hB3 hv2 HB2 H3 HF0 HF1 HV1
  go_wp2_with fail
  refine (unhide H4 _ HB3.out.old).mono ?_
  rintro e w4 ⟨⟨v3, rfl, hv3⟩, hB4⟩
  clear l0 l1 l2 y0 y1
  have HB4 := hide ((HB3.out.below hB4).alloc (.cells #[.int .i64 0, .int .i64 0] 26))
  have hk4 : Keeps w3 (w4.alloc (.cells #[.int .i64 0, .int .i64 0] 26)) := ⟨hB4.alloc hB4.size _⟩
  have HF0 := hide (hk4.cell HF0'.out)
  have HF1 := hide (hk4.cell HF1'.out)
  have HV1 := hide (hk4.err HV1'.out)
  have HV2' := hide (hk4.err HV2.out)
  have HV3 := hide (hv3.below ((Below.refl _ _).alloc (Nat.le_refl _) (.cells #[.int .i64 0, .int .i64 0] 26)))
  have HX0 : Hid ((w4.alloc (.cells #[.int .i64 0, .int .i64 0] 26)).cell? ⟨w4.heap.size, 0, none⟩ = some (.int .i64 0)) := World.cell?_alloc_at _ _ _ _ rfl
  have HX1 : Hid ((w4.alloc (.cells #[.int .i64 0, .int .i64 0] 26)).cell? ⟨w4.heap.size, 1, none⟩ = some (.int .i64 0)) := World.cell?_alloc_at _ _ _ _ rfl
  clear hv3 hk4 hB4 HB3 H4 HF0' HF1' HV1' HV2
  go_wp2_with fail
  generalize w4.alloc (.cells #[.int .i64 0, .int .i64 0] 26) = w5 at *
  generalize w4.heap.size = X at *
  have hk0 : Keeps w5 w5.drew := (Keeps.refl w5).drew
  have CELLS : Hid (∀ wx, Keeps w5 wx → wx.cell? ⟨w.heap.size, 0, none⟩ = some (.int .i64 s) ∧ wx.cell? ⟨w.heap.size, 1, none⟩ = some (.slice a len cap) ∧ wx.cell? ⟨w.heap.size, 2, none⟩ = some (.int .i64 d) ∧ wx.cell? ⟨F, 0, none⟩ = some (.int .i64 (c : Int)) ∧ wx.cell? ⟨F, 1, none⟩ = some (.int .i64 p) ∧ wx.cell? ⟨X, 0, none⟩ = some (.int .i64 0) ∧ wx.cell? ⟨X, 1, none⟩ = some (.int .i64 0)) := by
    intro wx hk
    obtain ⟨l0, l1, l2, _, _⟩ := (HB4.out.below hk.below).cells
    exact ⟨l0, l1, l2, hk.cell HF0.out, hk.cell HF1.out, hk.cell HX0.out, hk.cell HX1.out⟩
  have K5 : Hid (∀ wx, Keeps w5 wx → Calls Tryd.prog 9 #[.agg #[.int .i64 s, .slice a len cap, .int .i64 d]] wx fun e w' => (∃ v, e = .returned v ∧ IsErr w' wx.heap.size (c, p) v) ∧ Keeps w5 w') := by
    intro wx hk
    refine (unhide H5 wx (HB4.out.below hk.below).old).mono ?_
    rintro e w' ⟨hv, hB⟩
    exact ⟨hv, hk.trans hB⟩
  have K6 : Hid (∀ wx v, Keeps w5 wx → (∃ lo, IsErr wx lo (c, p) v) → Calls Tryd.prog 8 #[v, .agg #[.int .i64 (c : Int), .int .i64 p]] wx fun e w' => e = .returned (.bool true) ∧ Keeps w5 w') := by
    intro wx v hk hv
    obtain ⟨lo, hv⟩ := hv
    refine (unhide H6 wx v lo (HB4.out.below hk.below).old hv).mono ?_
    rintro e w' ⟨rfl, hB⟩
    exact ⟨rfl, hk.trans hB⟩
  have HFIN : Hid (∀ wx, Keeps w5 wx → Below w.heap.size w wx) := fun wx hk => (HB4.out.below hk.below).old
  obtain ⟨l0, l1, l2, F0, F1, X0, X1⟩ := CELLS.out w5 (Keeps.refl w5)
  clear HB4 HF0 HF1 HX0 HX1 H5 H6
  go_region_with (first | (go_at_call 9; refine (unhide K5 _ ?_).mono ?_; assumption; rintro e w' ⟨⟨v, rfl, hv⟩, hk⟩; obtain ⟨m0, m1, m2, G0, G1, Y0, Y1⟩ := unhide CELLS _ hk) | (go_at_call 8; refine (unhide K6 _ _ ?_ ?_).mono ?_; assumption; (first | exact ⟨_, by assumption⟩ | exact ⟨_, Keeps.err (by assumption) HV1.out⟩ | exact ⟨_, Keeps.err (by assumption) HV2'.out⟩ | exact ⟨_, Keeps.err (by assumption) HV3.out⟩); rintro e w' ⟨rfl, hk⟩; obtain ⟨m0, m1, m2, G0, G1, Y0, Y1⟩ := unhide CELLS _ hk))
  all_goals go_wp2
  all_goals go_ret
  all_goals exact ⟨rfl, HFIN.out _ (by assumption)⟩

end Go.Proofs.YtihiagjlpkjpeaaDoor
