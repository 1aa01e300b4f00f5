import Derived.Test.YtaablbmgagiajaaGreatDoorRGBB
namespace Go.Proofs.YtaablbmgagiajaaGreatDoor
open Go.RowKit Go.Deep
theorem VIs.cells {w : World} {N p win : Nat} {tv : Value} {S : VS} (h : VIs w N p win tv S) : w.cell? ⟨p, 0, none⟩ = some tv ∧ w.cell? ⟨p, 16, none⟩ = some (.bool S.lat) := ⟨(h.at 0).trans rfl, (h.at 16).trans rfl⟩
def TakeEnd (N p win : Nat) (tv : Value) (w : World) (R : VS × List FR × Bool) (e : Ending) (w' : World) : Prop :=
  ∃ v tv', e = .returned (.tuple #[v, .bool R.2.2]) ∧ FRow w' 35 v R.2.1 ∧ VIs w' N p win tv' R.1 ∧ Moved w tv tv' ∧ Mod w w' (VB p tv)
theorem take_no {win : Nat} {S : VS} {F : FR} (h : hearB S F = false) : takeF win S F = (S, [], false) := by unfold takeF; rw [if_pos h]
theorem take_past {win : Nat} {S : VS} {F : FR} (h : hearB S F = true) (h2 : F 2 < S.tr.length) : takeF win S F = (S, pastF S.tr (F 2).toNat, false) := by unfold takeF; rw [if_neg (by rw [h]; decide), if_pos h2]
theorem take_pass {win : Nat} {S : VS} {F : FR} (h : hearB S F = true) (h2 : ¬ F 2 < S.tr.length) (h3 : passB S F = true) : takeF win S F = (S, [], false) := by unfold takeF; rw [if_neg (by rw [h]; decide), if_neg h2, if_pos h3]
theorem take_cast {win : Nat} {S : VS} {F : FR} (h : hearB S F = true) (h2 : ¬ F 2 < S.tr.length) (h3 : passB S F = false) (h4 : secTo (castS S (F 1).toNat (cmF F)).b (castS S (F 1).toNat (cmF F)).x (cmF F) (F 1).toNat 3 = false) : takeF win S F = (castS S (F 1).toNat (cmF F), [], false) := by
  unfold takeF; rw [if_neg (by rw [h]; decide), if_neg h2, if_neg (by rw [h3]; decide), if_pos h4]
theorem take_commit {win : Nat} {S : VS} {F : FR} (h : hearB S F = true) (h2 : ¬ F 2 < S.tr.length) (h3 : passB S F = false) (h4 : secTo (castS S (F 1).toNat (cmF F)).b (castS S (F 1).toNat (cmF F)).x (cmF F) (F 1).toNat 3 = true) : takeF win S F = (commitS win (castS S (F 1).toNat (cmF F)) (cmF F), [doneF S.tr.length (cmF F)], true) := by
  unfold takeF; rw [if_neg (by rw [h]; decide), if_neg h2, if_neg (by rw [h3]; decide), if_neg (by rw [h4]; decide)]
theorem hear_parts {S : VS} {F : FR} (h : hearB S F = true) : (F 0 = 2 ∨ F 0 = 4) ∧ (0 ≤ F 1 ∧ F 1 < 3) ∧ 0 ≤ F 2 := by
  unfold hearB kindB fromB at h
  simp at h
  exact ⟨h.1, h.2.1, h.2.2.2⟩
set_option maxHeartbeats 1000000 in
set_option maxRecDepth 20000 in
theorem take_1 (N p win : Nat) (tv : Value) (S : VS) (w : World) (F : FR) (h : VIs w N p win tv S) (hok : VOk win S) (_ : N ≤ w.heap.size) (hh : hearB S F = false) :
    Calls Tryz.prog 92 #[.pointer (some ⟨p, 0, none⟩), .agg (fCells F)] w (TakeEnd N p win tv w (takeF win S F)) := by
  obtain ⟨W, hW⟩ : ∃ W, Hid (w.alloc (.cells (fCells F) 35) = W) := ⟨_, hide rfl⟩
  have hBW : Below w.heap.size w W := by rw [← hW.out]; exact (Below.refl _ _).alloc (Nat.le_refl _) _
  have hbx : FIs W w.heap.size 35 F := by rw [← hW.out]; exact blk_new _ _
  have hV := h.below hBW
  have HC := hide (listens_any N p win tv S W F hV hok)
  obtain ⟨c0, _⟩ := h.cells
  have hp := h.lt
  have hf := hok.few
  obtain ⟨a, cap, rfl⟩ := h.row.shape
  have HBX := hide hbx
  have HBW := hide hBW
  have HV := hide hV
  have HOK := hide hok
  have HWs : Hid (W.heap.size = w.heap.size + 1) := hide (by rw [← hW.out]; simp)
  obtain ⟨n, hn⟩ : ∃ n, Hid (S.tr.length = n) := ⟨_, hide rfl⟩
  have hbx' : FIs (w.alloc (.cells (fCells F) 35)) w.heap.size 35 F := blk_new _ _
  have HBX' := hide hbx'
  rw [take_no hh]
  rw [hh] at HC
  rw [hn.out] at c0 hf
  clear h hV hok hbx hbx' hBW
  go_enter Tryz.func92, Tryz.ntmps92
  go_wp2_with (first
    | (refine wpList_load_f rfl _ rfl w.heap.size rfl F HBX'.out ?_)
    | (go_at_call 99; rw [hW.out]; refine HC.out.mono ?_))
  rintro e w1 ⟨rfl, hB1⟩
  have HB1 := hide hB1
  have hB := HBW.out.trans (hB1.mono HBW.out.size)
  have HB := hide hB
  have hV1 := HV.out.below hB1
  have HV1 := hide hV1
  have hbx1 : FIs w1 w.heap.size 35 F := (hB1.block _ (by rw [HWs.out]; omega)).trans HBX.out
  have hs1 : w.heap.size < w1.heap.size := hbx1.lt
  have c1 := hbx1.at (k := 1) (by omega)
  have c2 := hbx1.at (k := 2) (by omega)
  have c00 := hbx1.at (k := 0) (by omega)
  have c3 := hbx1.at (k := 3) (by omega)
  have c4 := hbx1.at (k := 4) (by omega)
  have c5 := hbx1.at (k := 5) (by omega)
  obtain ⟨k0, k16⟩ := hV1.cells
  rw [hn.out] at k0
  have hp1 := hV1.lt
  clear hB1 hV1 hbx1 hB HC HBX HBX' HV hW
  go_wp2
  go_ret2
  exact ⟨_, _, rfl, .inl ⟨rfl, rfl⟩, HV1.out, Moved.refl _ _, Mod.ofBelow HB.out _⟩
set_option maxHeartbeats 1000000 in
set_option maxRecDepth 20000 in
theorem take_2 (N p win : Nat) (tv : Value) (S : VS) (w : World) (F : FR) (h : VIs w N p win tv S) (hok : VOk win S) (_ : N ≤ w.heap.size) (hh : hearB S F = true) (c : Nat) (hc : F 2 = (c : Int)) (hlt : c < S.tr.length) :
    Calls Tryz.prog 92 #[.pointer (some ⟨p, 0, none⟩), .agg (fCells F)] w (TakeEnd N p win tv w (takeF win S F)) := by
  obtain ⟨W, hW⟩ : ∃ W, Hid (w.alloc (.cells (fCells F) 35) = W) := ⟨_, hide rfl⟩
  have hBW : Below w.heap.size w W := by rw [← hW.out]; exact (Below.refl _ _).alloc (Nat.le_refl _) _
  have hbx : FIs W w.heap.size 35 F := by rw [← hW.out]; exact blk_new _ _
  have hV := h.below hBW
  have HC := hide (listens_any N p win tv S W F hV hok)
  obtain ⟨c0, _⟩ := h.cells
  have hp := h.lt
  have hf := hok.few
  obtain ⟨a, cap, rfl⟩ := h.row.shape
  have HBX := hide hbx
  have HBW := hide hBW
  have HV := hide hV
  have HOK := hide hok
  have HWs : Hid (W.heap.size = w.heap.size + 1) := hide (by rw [← hW.out]; simp)
  obtain ⟨n, hn⟩ : ∃ n, Hid (S.tr.length = n) := ⟨_, hide rfl⟩
  have hbx' : FIs (w.alloc (.cells (fCells F) 35)) w.heap.size 35 F := blk_new _ _
  have HBX' := hide hbx'
  rw [take_past hh (by rw [hc]; exact Int.ofNat_lt.2 hlt), hc, Int.toNat_natCast]
  rw [hh] at HC
  have hlt' := hlt
  rw [hn.out] at hlt'
  have HLT := hide hlt
  rw [hn.out] at c0 hf
  clear h hV hok hbx hbx' hBW
  go_enter Tryz.func92, Tryz.ntmps92
  go_wp2_with (first
    | (refine wpList_load_f rfl _ rfl w.heap.size rfl F HBX'.out ?_)
    | (go_at_call 99; rw [hW.out]; refine HC.out.mono ?_))
  rintro e w1 ⟨rfl, hB1⟩
  have HB1 := hide hB1
  have hB := HBW.out.trans (hB1.mono HBW.out.size)
  have HB := hide hB
  have hV1 := HV.out.below hB1
  have HV1 := hide hV1
  have hbx1 : FIs w1 w.heap.size 35 F := (hB1.block _ (by rw [HWs.out]; omega)).trans HBX.out
  have hs1 : w.heap.size < w1.heap.size := hbx1.lt
  have c1 := hbx1.at (k := 1) (by omega)
  have c2 := hbx1.at (k := 2) (by omega)
  have c00 := hbx1.at (k := 0) (by omega)
  have c3 := hbx1.at (k := 3) (by omega)
  have c4 := hbx1.at (k := 4) (by omega)
  have c5 := hbx1.at (k := 5) (by omega)
  obtain ⟨k0, k16⟩ := hV1.cells
  rw [hn.out] at k0
  have hp1 := hV1.lt
  clear hB1 hV1 hbx1 hB HC HBX HBX' HV hW
  rw [hc] at c2
  have HPA := hide (past_any N p win _ S w1 c HV1.out HOK.out HLT.out)
  clear c00 c1 c3 c4 c5 k16
  go_wp2_with (go_at_call 100; refine HPA.out.mono ?_; rintro e w2 ⟨⟨v, rfl, hfr⟩, hB2⟩)
  go_ret2
  exact ⟨_, _, rfl, hfr, HV1.out.below hB2, Moved.refl _ _, Mod.ofBelow (HB.out.trans (hB2.mono HB.out.size)) _⟩
set_option maxHeartbeats 1000000 in
set_option maxRecDepth 20000 in
theorem take_3 (N p win : Nat) (tv : Value) (S : VS) (w : World) (F : FR) (h : VIs w N p win tv S) (hok : VOk win S) (_ : N ≤ w.heap.size) (hh : hearB S F = true) (c : Nat) (hc : F 2 = (c : Int)) (hlt : S.tr.length < c) :
    Calls Tryz.prog 92 #[.pointer (some ⟨p, 0, none⟩), .agg (fCells F)] w (TakeEnd N p win tv w (takeF win S F)) := by
  obtain ⟨W, hW⟩ : ∃ W, Hid (w.alloc (.cells (fCells F) 35) = W) := ⟨_, hide rfl⟩
  have hBW : Below w.heap.size w W := by rw [← hW.out]; exact (Below.refl _ _).alloc (Nat.le_refl _) _
  have hbx : FIs W w.heap.size 35 F := by rw [← hW.out]; exact blk_new _ _
  have hV := h.below hBW
  have HC := hide (listens_any N p win tv S W F hV hok)
  obtain ⟨c0, _⟩ := h.cells
  have hp := h.lt
  have hf := hok.few
  obtain ⟨a, cap, rfl⟩ := h.row.shape
  have HBX := hide hbx
  have HBW := hide hBW
  have HV := hide hV
  have HOK := hide hok
  have HWs : Hid (W.heap.size = w.heap.size + 1) := hide (by rw [← hW.out]; simp)
  obtain ⟨n, hn⟩ : ∃ n, Hid (S.tr.length = n) := ⟨_, hide rfl⟩
  have hbx' : FIs (w.alloc (.cells (fCells F) 35)) w.heap.size 35 F := blk_new _ _
  have HBX' := hide hbx'
  rw [take_pass hh (by rw [hc]; omega) (by unfold passB; rw [hc, decide_eq_true (by omega : (S.tr.length : Int) < (c : Int))]; rfl)]
  rw [hh] at HC
  rw [hn.out] at hlt
  rw [hn.out] at c0 hf
  clear h hV hok hbx hbx' hBW
  go_enter Tryz.func92, Tryz.ntmps92
  go_wp2_with (first
    | (refine wpList_load_f rfl _ rfl w.heap.size rfl F HBX'.out ?_)
    | (go_at_call 99; rw [hW.out]; refine HC.out.mono ?_))
  rintro e w1 ⟨rfl, hB1⟩
  have HB1 := hide hB1
  have hB := HBW.out.trans (hB1.mono HBW.out.size)
  have HB := hide hB
  have hV1 := HV.out.below hB1
  have HV1 := hide hV1
  have hbx1 : FIs w1 w.heap.size 35 F := (hB1.block _ (by rw [HWs.out]; omega)).trans HBX.out
  have hs1 : w.heap.size < w1.heap.size := hbx1.lt
  have c1 := hbx1.at (k := 1) (by omega)
  have c2 := hbx1.at (k := 2) (by omega)
  have c00 := hbx1.at (k := 0) (by omega)
  have c3 := hbx1.at (k := 3) (by omega)
  have c4 := hbx1.at (k := 4) (by omega)
  have c5 := hbx1.at (k := 5) (by omega)
  obtain ⟨k0, k16⟩ := hV1.cells
  rw [hn.out] at k0
  have hp1 := hV1.lt
  clear hB1 hV1 hbx1 hB HC HBX HBX' HV hW
  rw [hc] at c2
  clear c00 c1 c3 c4 c5 k16
  go_wp2
  go_ret2
  exact ⟨_, _, rfl, .inl ⟨rfl, rfl⟩, HV1.out, Moved.refl _ _, Mod.ofBelow HB.out _⟩
set_option maxHeartbeats 1000000 in
set_option maxRecDepth 20000 in
theorem take_4 (N p win : Nat) (tv : Value) (S : VS) (w : World) (F : FR) (h : VIs w N p win tv S) (hok : VOk win S) (_ : N ≤ w.heap.size) (hh : hearB S F = true) (hc : F 2 = (S.tr.length : Int)) (hk : F 0 = 4) :
    Calls Tryz.prog 92 #[.pointer (some ⟨p, 0, none⟩), .agg (fCells F)] w (TakeEnd N p win tv w (takeF win S F)) := by
  obtain ⟨W, hW⟩ : ∃ W, Hid (w.alloc (.cells (fCells F) 35) = W) := ⟨_, hide rfl⟩
  have hBW : Below w.heap.size w W := by rw [← hW.out]; exact (Below.refl _ _).alloc (Nat.le_refl _) _
  have hbx : FIs W w.heap.size 35 F := by rw [← hW.out]; exact blk_new _ _
  have hV := h.below hBW
  have HC := hide (listens_any N p win tv S W F hV hok)
  obtain ⟨c0, _⟩ := h.cells
  have hp := h.lt
  have hf := hok.few
  obtain ⟨a, cap, rfl⟩ := h.row.shape
  have HBX := hide hbx
  have HBW := hide hBW
  have HV := hide hV
  have HOK := hide hok
  have HWs : Hid (W.heap.size = w.heap.size + 1) := hide (by rw [← hW.out]; simp)
  obtain ⟨n, hn⟩ : ∃ n, Hid (S.tr.length = n) := ⟨_, hide rfl⟩
  have hbx' : FIs (w.alloc (.cells (fCells F) 35)) w.heap.size 35 F := blk_new _ _
  have HBX' := hide hbx'
  rw [take_pass hh (by rw [hc]; omega) (by unfold passB; rw [hk]; simp)]
  rw [hh] at HC
  rw [hn.out] at hc
  rw [hn.out] at c0 hf
  clear h hV hok hbx hbx' hBW
  go_enter Tryz.func92, Tryz.ntmps92
  go_wp2_with (first
    | (refine wpList_load_f rfl _ rfl w.heap.size rfl F HBX'.out ?_)
    | (go_at_call 99; rw [hW.out]; refine HC.out.mono ?_))
  rintro e w1 ⟨rfl, hB1⟩
  have HB1 := hide hB1
  have hB := HBW.out.trans (hB1.mono HBW.out.size)
  have HB := hide hB
  have hV1 := HV.out.below hB1
  have HV1 := hide hV1
  have hbx1 : FIs w1 w.heap.size 35 F := (hB1.block _ (by rw [HWs.out]; omega)).trans HBX.out
  have hs1 : w.heap.size < w1.heap.size := hbx1.lt
  have c1 := hbx1.at (k := 1) (by omega)
  have c2 := hbx1.at (k := 2) (by omega)
  have c00 := hbx1.at (k := 0) (by omega)
  have c3 := hbx1.at (k := 3) (by omega)
  have c4 := hbx1.at (k := 4) (by omega)
  have c5 := hbx1.at (k := 5) (by omega)
  obtain ⟨k0, k16⟩ := hV1.cells
  rw [hn.out] at k0
  have hp1 := hV1.lt
  clear hB1 hV1 hbx1 hB HC HBX HBX' HV hW
  rw [hc] at c2
  rw [hk] at c00
  clear c1 c3 c4 c5 k16
  go_wp2
  go_ret2
  exact ⟨_, _, rfl, .inl ⟨rfl, rfl⟩, HV1.out, Moved.refl _ _, Mod.ofBelow HB.out _⟩
set_option maxHeartbeats 1000000 in
set_option maxRecDepth 20000 in
theorem take_5 (N p win : Nat) (tv : Value) (S : VS) (w : World) (F : FR) (h : VIs w N p win tv S) (hok : VOk win S) (_ : N ≤ w.heap.size) (hh : hearB S F = true) (hc : F 2 = (S.tr.length : Int)) (hk : F 0 = 2) (hl : S.lat = true) :
    Calls Tryz.prog 92 #[.pointer (some ⟨p, 0, none⟩), .agg (fCells F)] w (TakeEnd N p win tv w (takeF win S F)) := by
  obtain ⟨W, hW⟩ : ∃ W, Hid (w.alloc (.cells (fCells F) 35) = W) := ⟨_, hide rfl⟩
  have hBW : Below w.heap.size w W := by rw [← hW.out]; exact (Below.refl _ _).alloc (Nat.le_refl _) _
  have hbx : FIs W w.heap.size 35 F := by rw [← hW.out]; exact blk_new _ _
  have hV := h.below hBW
  have HC := hide (listens_any N p win tv S W F hV hok)
  obtain ⟨c0, _⟩ := h.cells
  have hp := h.lt
  have hf := hok.few
  obtain ⟨a, cap, rfl⟩ := h.row.shape
  have HBX := hide hbx
  have HBW := hide hBW
  have HV := hide hV
  have HOK := hide hok
  have HWs : Hid (W.heap.size = w.heap.size + 1) := hide (by rw [← hW.out]; simp)
  obtain ⟨n, hn⟩ : ∃ n, Hid (S.tr.length = n) := ⟨_, hide rfl⟩
  have hbx' : FIs (w.alloc (.cells (fCells F) 35)) w.heap.size 35 F := blk_new _ _
  have HBX' := hide hbx'
  rw [take_pass hh (by rw [hc]; omega) (by unfold passB; rw [hl]; simp)]
  rw [hh] at HC
  rw [hn.out] at hc
  rw [hn.out] at c0 hf
  clear h hV hok hbx hbx' hBW
  go_enter Tryz.func92, Tryz.ntmps92
  go_wp2_with (first
    | (refine wpList_load_f rfl _ rfl w.heap.size rfl F HBX'.out ?_)
    | (go_at_call 99; rw [hW.out]; refine HC.out.mono ?_))
  rintro e w1 ⟨rfl, hB1⟩
  have HB1 := hide hB1
  have hB := HBW.out.trans (hB1.mono HBW.out.size)
  have HB := hide hB
  have hV1 := HV.out.below hB1
  have HV1 := hide hV1
  have hbx1 : FIs w1 w.heap.size 35 F := (hB1.block _ (by rw [HWs.out]; omega)).trans HBX.out
  have hs1 : w.heap.size < w1.heap.size := hbx1.lt
  have c1 := hbx1.at (k := 1) (by omega)
  have c2 := hbx1.at (k := 2) (by omega)
  have c00 := hbx1.at (k := 0) (by omega)
  have c3 := hbx1.at (k := 3) (by omega)
  have c4 := hbx1.at (k := 4) (by omega)
  have c5 := hbx1.at (k := 5) (by omega)
  obtain ⟨k0, k16⟩ := hV1.cells
  rw [hn.out] at k0
  have hp1 := hV1.lt
  clear hB1 hV1 hbx1 hB HC HBX HBX' HV hW
  rw [hc] at c2
  rw [hk] at c00
  rw [hl] at k16
  clear c1 c3 c4 c5
  go_wp2
  go_ret2
  exact ⟨_, _, rfl, .inl ⟨rfl, rfl⟩, HV1.out, Moved.refl _ _, Mod.ofBelow HB.out _⟩
set_option maxHeartbeats 1000000 in
set_option maxRecDepth 20000 in
theorem take_6 (N p win : Nat) (tv : Value) (S : VS) (w : World) (F : FR) (h : VIs w N p win tv S) (hok : VOk win S) (hN : N ≤ w.heap.size) (hh : hearB S F = true) (hc : F 2 = (S.tr.length : Int)) (hk : F 0 = 2) (hl : S.lat = false) (hr : F 1 = 0 ∨ F 1 = 1 ∨ F 1 = 2) :
    Calls Tryz.prog 92 #[.pointer (some ⟨p, 0, none⟩), .agg (fCells F)] w (TakeEnd N p win tv w (takeF win S F)) := by
  rcases hr with hr | hr | hr
  all_goals
    obtain ⟨W, hW⟩ : ∃ W, Hid (w.alloc (.cells (fCells F) 35) = W) := ⟨_, hide rfl⟩
    have hBW : Below w.heap.size w W := by rw [← hW.out]; exact (Below.refl _ _).alloc (Nat.le_refl _) _
    have hbx : FIs W w.heap.size 35 F := by rw [← hW.out]; exact blk_new _ _
    have hV := h.below hBW
    have HC := hide (listens_any N p win tv S W F hV hok)
    obtain ⟨c0, _⟩ := h.cells
    have hp := h.lt
    have hf := hok.few
    obtain ⟨a, cap, rfl⟩ := h.row.shape
    have HBX := hide hbx
    have HBW := hide hBW
    have HV := hide hV
    have HOK := hide hok
    have HWs : Hid (W.heap.size = w.heap.size + 1) := hide (by rw [← hW.out]; simp)
    obtain ⟨n, hn⟩ : ∃ n, Hid (S.tr.length = n) := ⟨_, hide rfl⟩
    have hbx' : FIs (w.alloc (.cells (fCells F) 35)) w.heap.size 35 F := blk_new _ _
    have HBX' := hide hbx'
    rw [hh] at HC
    have hR1 := fun h4 => take_cast (win := win) hh (by rw [hc]; omega) (by unfold passB; rw [hc, hk, hl]; simp) h4
    have hR2 := fun h4 => take_commit (win := win) hh (by rw [hc]; omega) (by unfold passB; rw [hc, hk, hl]; simp) h4
    rw [hr] at hR1 hR2
    obtain ⟨R, hR⟩ : ∃ R, Hid (takeF win S F = R) := ⟨_, hide rfl⟩
    rw [hR.out] at hR1 hR2 ⊢
    have HR1 := hide hR1
    have HR2 := hide hR2
    clear hR1 hR2 hR
    rw [hn.out] at hc
    rw [hn.out] at c0 hf
    clear h hV hok hbx hbx' hBW
    go_enter Tryz.func92, Tryz.ntmps92
    go_wp2_with (first
      | (refine wpList_load_f rfl _ rfl w.heap.size rfl F HBX'.out ?_)
      | (go_at_call 99; rw [hW.out]; refine HC.out.mono ?_))
    rintro e w1 ⟨rfl, hB1⟩
    have HB1 := hide hB1
    have hB := HBW.out.trans (hB1.mono HBW.out.size)
    have HB := hide hB
    have hV1 := HV.out.below hB1
    have HV1 := hide hV1
    have hbx1 : FIs w1 w.heap.size 35 F := (hB1.block _ (by rw [HWs.out]; omega)).trans HBX.out
    have hs1 : w.heap.size < w1.heap.size := hbx1.lt
    have c1 := hbx1.at (k := 1) (by omega)
    have c2 := hbx1.at (k := 2) (by omega)
    have c00 := hbx1.at (k := 0) (by omega)
    have c3 := hbx1.at (k := 3) (by omega)
    have c4 := hbx1.at (k := 4) (by omega)
    have c5 := hbx1.at (k := 5) (by omega)
    obtain ⟨k0, k16⟩ := hV1.cells
    rw [hn.out] at k0
    have hp1 := hV1.lt
    clear hB1 hV1 hbx1 hB HC HBX HBX' HV hW
    rw [hc] at c2
    rw [hk] at c00
    rw [hl] at k16
    rw [hr] at c1
  · have f1 := HV1.out.free 1
    have f2 := HV1.out.free 2
    have f3 := HV1.out.free 3
    have f4 := HV1.out.free 4
    have e1 : w1.cell? ⟨p, 1, none⟩ = some (.bool (S.b 0)) := (HV1.out.at 1).trans rfl
    have e2 : w1.cell? ⟨p, 2, none⟩ = some (.int .i64 (S.x 0).c) := (HV1.out.at 2).trans rfl
    have e3 : w1.cell? ⟨p, 3, none⟩ = some (.int .i64 (S.x 0).v) := (HV1.out.at 3).trans rfl
    have e4 : w1.cell? ⟨p, 4, none⟩ = some (.int .i64 (S.x 0).o) := (HV1.out.at 4).trans rfl
    go_wp2_with fail
    go_region
    obtain ⟨W2, hW2⟩ : ∃ W2, Hid ((((((w1.setCell ⟨p, 1, none⟩ (.bool true)).setCell ⟨p, 2, none⟩ (.int .i64 (F 3))).setCell ⟨p, 3, none⟩ (.int .i64 (F 4))).setCell ⟨p, 4, none⟩ (.int .i64 (F 5))).alloc (.cells #[.bool true, .int .i64 (F 3), .int .i64 (F 4), .int .i64 (F 5)] 113)).drew = W2) := ⟨_, hide rfl⟩
    have hV2 : VIs W2 N p win (.slice a S.tr.length cap) (castS S 0 (cmF F)) := by
      rw [← hW2.out]
      have h4 := (((HV1.out.put (S' := ⟨S.tr, upd S.b 0 true, S.x, S.left, S.out, S.lat⟩) 1 (.bool true) rfl rfl).put (S' := ⟨S.tr, upd S.b 0 true, upd S.x 0 ⟨F 3, (S.x 0).v, (S.x 0).o⟩, S.left, S.out, S.lat⟩) 2 (.int .i64 (F 3)) rfl rfl).put (S' := ⟨S.tr, upd S.b 0 true, upd S.x 0 ⟨F 3, F 4, (S.x 0).o⟩, S.left, S.out, S.lat⟩) 3 (.int .i64 (F 4)) rfl rfl).put (S' := castS S 0 (cmF F)) 4 (.int .i64 (F 5)) rfl rfl
      exact (h4.below ((Below.refl _ _).alloc (Nat.le_refl _) _)).drewN 1
    have hM2 : Mod w W2 (VB p (.slice a S.tr.length cap)) := by
      rw [← hW2.out]
      have m4 := ((((Mod.ofBelow HB.out (VB p (.slice a S.tr.length cap))).set ⟨p, 1, none⟩ (.bool true) (fun _ => .inl rfl)).set ⟨p, 2, none⟩ (.int .i64 (F 3)) (fun _ => .inl rfl)).set ⟨p, 3, none⟩ (.int .i64 (F 4)) (fun _ => .inl rfl)).set ⟨p, 4, none⟩ (.int .i64 (F 5)) (fun _ => .inl rfl)
      exact (m4.below ((Below.refl _ _).alloc (Nat.le_refl _) _)).drewN 1
    have hs2 : W2.heap.size = w1.heap.size + 1 := by rw [← hW2.out]; simp [World.drew, World.setCell]
    have hb2 : W2.heap[w1.heap.size]? = some (.cells #[.bool true, .int .i64 (F 3), .int .i64 (F 4), .int .i64 (F 5)] 113 (0, 0)) := by
      rw [← hW2.out]
      have := blk_new ((((w1.setCell ⟨p, 1, none⟩ (.bool true)).setCell ⟨p, 2, none⟩ (.int .i64 (F 3))).setCell ⟨p, 3, none⟩ (.int .i64 (F 4))).setCell ⟨p, 4, none⟩ (.int .i64 (F 5))) (.cells #[.bool true, .int .i64 (F 3), .int .i64 (F 4), .int .i64 (F 5)] 113)
      rw [show ((((w1.setCell ⟨p, 1, none⟩ (.bool true)).setCell ⟨p, 2, none⟩ (.int .i64 (F 3))).setCell ⟨p, 3, none⟩ (.int .i64 (F 4))).setCell ⟨p, 4, none⟩ (.int .i64 (F 5))).heap.size = w1.heap.size by simp [World.setCell]] at this
      exact this
    have hx2 : W2.heap[w.heap.size]? = w1.heap[w.heap.size]? := by
      rw [← hW2.out]
      refine (Below.heap_alloc _ _ _ (by simp [World.setCell]; omega)).trans ?_
      rw [Below.heap_setCell _ _ _ _ (by show _ ≠ p; omega), Below.heap_setCell _ _ _ _ (by show _ ≠ p; omega), Below.heap_setCell _ _ _ _ (by show _ ≠ p; omega), Below.heap_setCell _ _ _ _ (by show _ ≠ p; omega)]
    have y1 : W2.cell? ⟨w.heap.size, 1, none⟩ = some (.int .i64 0) := (World.cell?_of_block (w := w1) hx2).trans c1
    have v0 : W2.cell? ⟨w1.heap.size, 0, none⟩ = some (.bool true) := (blk_cell hb2 0).trans rfl
    have v1 : W2.cell? ⟨w1.heap.size, 1, none⟩ = some (.int .i64 (F 3)) := (blk_cell hb2 1).trans rfl
    have v2 : W2.cell? ⟨w1.heap.size, 2, none⟩ = some (.int .i64 (F 4)) := (blk_cell hb2 2).trans rfl
    have v3 : W2.cell? ⟨w1.heap.size, 3, none⟩ = some (.int .i64 (F 5)) := (blk_cell hb2 3).trans rfl
    have HSE := hide (seconded_any N p win _ (castS S 0 (cmF F)) W2 0 0 (hide rfl) (cmF F) hV2 (by decide))
    rw [hW2.out]
    have HV2 := hide hV2
    have HM2 := hide hM2
    have HN : Hid (N ≤ W2.heap.size) := hide (by omega)
    have HOK2 := hide (HOK.out.cast 0 (cmF F))
    have HBL := hide hb2
    clear f1 f2 f3 f4 e1 e2 e3 e4 c00 c1 c2 c3 c4 c5 k0 k16 hV2 hM2 hW2 hx2 HV1 HB1 HB HBW HWs c0 hb2
    generalize hd : cmF F = d at *
    have d1 : F 3 = d.c := by rw [← hd]; rfl
    have d2 : F 4 = d.v := by rw [← hd]; rfl
    have d3 : F 5 = d.o := by rw [← hd]; rfl
    rw [d1] at v1
    rw [d2] at v2
    rw [d3] at v3
    rw [d1, d2, d3] at HBL ⊢
    clear d1 d2 d3
    cases hz : secTo (castS S 0 d).b (castS S 0 d).x d 0 3
    · rw [hz] at HSE
      have HRR := hide (unhide HR1 hz)
      clear HR1 HR2 hz
      go_wp2_with (go_at_call 101; refine HSE.out.mono ?_; rintro e w3 ⟨rfl, hB3⟩)
      go_ret2
      rw [HRR.out]
      exact ⟨_, _, rfl, .inl ⟨rfl, rfl⟩, HV2.out.below hB3, Moved.refl _ _, HM2.out.below hB3⟩
    · rw [hz] at HSE
      have HRR := hide (unhide HR2 hz)
      clear HR1 HR2 hz
      go_wp2_with (go_at_call 101; refine HSE.out.mono ?_)
      rintro e w3 ⟨rfl, hB3⟩
      have hV3 := HV2.out.below hB3
      have hb3 := (hB3.block _ (by omega)).trans HBL.out
      have HM3 := hide (HM2.out.below hB3)
      have s3 := hB3.size
      have u1 : w3.cell? ⟨w1.heap.size, 1, none⟩ = some (.int .i64 d.c) := (blk_cell hb3 1).trans rfl
      have u2 : w3.cell? ⟨w1.heap.size, 2, none⟩ = some (.int .i64 d.v) := (blk_cell hb3 2).trans rfl
      have u3 : w3.cell? ⟨w1.heap.size, 3, none⟩ = some (.int .i64 d.o) := (blk_cell hb3 3).trans rfl
      have HCO := hide (commit_any N p win _ (castS S 0 d) w3 d hV3 HOK2.out hl (by have := HN.out; omega))
      have HOK3 := hide (HOK2.out.commit hl d)
      have HS3 := hide (show w.heap.size ≤ w3.heap.size by omega)
      clear v0 v1 v2 v3 y1 HSE hV3 hb3 hB3 HBL HV2 HM2 HOK2
      go_wp2_with (go_at_call 102; refine HCO.out.mono ?_)
      rintro e w4 ⟨rfl, tv4, hV4, hmv4, hM4⟩
      have hlen : (commitS win (castS S 0 d) d).tr.length = n + 1 := by show (S.tr ++ [d]).length = n + 1; rw [List.length_append, hn.out]; rfl
      have hat : cmAt (commitS win (castS S 0 d) d).tr n = d := by
        show ((S.tr ++ [d])[n]?).getD cm0 = d
        rw [List.getElem?_append_right (by rw [hn.out]; exact Nat.le_refl _), hn.out, Nat.sub_self]
        rfl
      have hdn := done_any N p win tv4 _ w4 n hV4 HOK3.out (by omega)
      rw [hat] at hdn
      have HDN := hide hdn
      have HV4 := hide hV4
      have HMV : Hid (Moved w (.slice a S.tr.length cap) tv4) := hide fun g hg => (hmv4 g hg).imp id (fun h => Nat.le_trans HS3.out h)
      have HM4 := hide (HM3.out.then hM4 (fun _ _ h => h))
      clear hdn hat hlen hV4 hmv4 hM4 HM3 HCO u1 u2 u3 HOK3 HN
      go_wp2_with (first
        | (go_at_call 103; refine HDN.out.mono ?_; rintro e w5 ⟨rfl, hB5⟩)
        | (refine wpList_one_f rfl _ rfl (doneF n d) rfl _ rfl ?_))
      intro w6 HW6
      obtain ⟨hb6, _, hB6⟩ := HW6.out
      have hB46 : Below w4.heap.size w4 w6 := hB5.trans (hB6.mono hB5.size)
      have HFI := hide (FRow.one hb6)
      have HB46 := hide hB46
      clear hb6 hB6 hB46 hB5 HDN HW6
      go_wp2
      go_ret2
      rw [HRR.out, hn.out]
      rw [hn.out] at HM4 HMV
      exact ⟨_, _, rfl, HFI.out, HV4.out.below HB46.out, HMV.out, HM4.out.below HB46.out⟩
  · have f1 := HV1.out.free 5
    have f2 := HV1.out.free 6
    have f3 := HV1.out.free 7
    have f4 := HV1.out.free 8
    have e1 : w1.cell? ⟨p, 5, none⟩ = some (.bool (S.b 1)) := (HV1.out.at 5).trans rfl
    have e2 : w1.cell? ⟨p, 6, none⟩ = some (.int .i64 (S.x 1).c) := (HV1.out.at 6).trans rfl
    have e3 : w1.cell? ⟨p, 7, none⟩ = some (.int .i64 (S.x 1).v) := (HV1.out.at 7).trans rfl
    have e4 : w1.cell? ⟨p, 8, none⟩ = some (.int .i64 (S.x 1).o) := (HV1.out.at 8).trans rfl
    go_wp2_with fail
    go_region
    obtain ⟨W2, hW2⟩ : ∃ W2, Hid ((((((w1.setCell ⟨p, 5, none⟩ (.bool true)).setCell ⟨p, 6, none⟩ (.int .i64 (F 3))).setCell ⟨p, 7, none⟩ (.int .i64 (F 4))).setCell ⟨p, 8, none⟩ (.int .i64 (F 5))).alloc (.cells #[.bool true, .int .i64 (F 3), .int .i64 (F 4), .int .i64 (F 5)] 113)).drew = W2) := ⟨_, hide rfl⟩
    have hV2 : VIs W2 N p win (.slice a S.tr.length cap) (castS S 1 (cmF F)) := by
      rw [← hW2.out]
      have h4 := (((HV1.out.put (S' := ⟨S.tr, upd S.b 1 true, S.x, S.left, S.out, S.lat⟩) 5 (.bool true) rfl rfl).put (S' := ⟨S.tr, upd S.b 1 true, upd S.x 1 ⟨F 3, (S.x 1).v, (S.x 1).o⟩, S.left, S.out, S.lat⟩) 6 (.int .i64 (F 3)) rfl rfl).put (S' := ⟨S.tr, upd S.b 1 true, upd S.x 1 ⟨F 3, F 4, (S.x 1).o⟩, S.left, S.out, S.lat⟩) 7 (.int .i64 (F 4)) rfl rfl).put (S' := castS S 1 (cmF F)) 8 (.int .i64 (F 5)) rfl rfl
      exact (h4.below ((Below.refl _ _).alloc (Nat.le_refl _) _)).drewN 1
    have hM2 : Mod w W2 (VB p (.slice a S.tr.length cap)) := by
      rw [← hW2.out]
      have m4 := ((((Mod.ofBelow HB.out (VB p (.slice a S.tr.length cap))).set ⟨p, 5, none⟩ (.bool true) (fun _ => .inl rfl)).set ⟨p, 6, none⟩ (.int .i64 (F 3)) (fun _ => .inl rfl)).set ⟨p, 7, none⟩ (.int .i64 (F 4)) (fun _ => .inl rfl)).set ⟨p, 8, none⟩ (.int .i64 (F 5)) (fun _ => .inl rfl)
      exact (m4.below ((Below.refl _ _).alloc (Nat.le_refl _) _)).drewN 1
    have hs2 : W2.heap.size = w1.heap.size + 1 := by rw [← hW2.out]; simp [World.drew, World.setCell]
    have hb2 : W2.heap[w1.heap.size]? = some (.cells #[.bool true, .int .i64 (F 3), .int .i64 (F 4), .int .i64 (F 5)] 113 (0, 0)) := by
      rw [← hW2.out]
      have := blk_new ((((w1.setCell ⟨p, 5, none⟩ (.bool true)).setCell ⟨p, 6, none⟩ (.int .i64 (F 3))).setCell ⟨p, 7, none⟩ (.int .i64 (F 4))).setCell ⟨p, 8, none⟩ (.int .i64 (F 5))) (.cells #[.bool true, .int .i64 (F 3), .int .i64 (F 4), .int .i64 (F 5)] 113)
      rw [show ((((w1.setCell ⟨p, 5, none⟩ (.bool true)).setCell ⟨p, 6, none⟩ (.int .i64 (F 3))).setCell ⟨p, 7, none⟩ (.int .i64 (F 4))).setCell ⟨p, 8, none⟩ (.int .i64 (F 5))).heap.size = w1.heap.size by simp [World.setCell]] at this
      exact this
    have hx2 : W2.heap[w.heap.size]? = w1.heap[w.heap.size]? := by
      rw [← hW2.out]
      refine (Below.heap_alloc _ _ _ (by simp [World.setCell]; omega)).trans ?_
      rw [Below.heap_setCell _ _ _ _ (by show _ ≠ p; omega), Below.heap_setCell _ _ _ _ (by show _ ≠ p; omega), Below.heap_setCell _ _ _ _ (by show _ ≠ p; omega), Below.heap_setCell _ _ _ _ (by show _ ≠ p; omega)]
    have y1 : W2.cell? ⟨w.heap.size, 1, none⟩ = some (.int .i64 1) := (World.cell?_of_block (w := w1) hx2).trans c1
    have v0 : W2.cell? ⟨w1.heap.size, 0, none⟩ = some (.bool true) := (blk_cell hb2 0).trans rfl
    have v1 : W2.cell? ⟨w1.heap.size, 1, none⟩ = some (.int .i64 (F 3)) := (blk_cell hb2 1).trans rfl
    have v2 : W2.cell? ⟨w1.heap.size, 2, none⟩ = some (.int .i64 (F 4)) := (blk_cell hb2 2).trans rfl
    have v3 : W2.cell? ⟨w1.heap.size, 3, none⟩ = some (.int .i64 (F 5)) := (blk_cell hb2 3).trans rfl
    have HSE := hide (seconded_any N p win _ (castS S 1 (cmF F)) W2 1 1 (hide rfl) (cmF F) hV2 (by decide))
    rw [hW2.out]
    have HV2 := hide hV2
    have HM2 := hide hM2
    have HN : Hid (N ≤ W2.heap.size) := hide (by omega)
    have HOK2 := hide (HOK.out.cast 1 (cmF F))
    have HBL := hide hb2
    clear f1 f2 f3 f4 e1 e2 e3 e4 c00 c1 c2 c3 c4 c5 k0 k16 hV2 hM2 hW2 hx2 HV1 HB1 HB HBW HWs c0 hb2
    generalize hd : cmF F = d at *
    have d1 : F 3 = d.c := by rw [← hd]; rfl
    have d2 : F 4 = d.v := by rw [← hd]; rfl
    have d3 : F 5 = d.o := by rw [← hd]; rfl
    rw [d1] at v1
    rw [d2] at v2
    rw [d3] at v3
    rw [d1, d2, d3] at HBL ⊢
    clear d1 d2 d3
    cases hz : secTo (castS S 1 d).b (castS S 1 d).x d 1 3
    · rw [hz] at HSE
      have HRR := hide (unhide HR1 hz)
      clear HR1 HR2 hz
      go_wp2_with (go_at_call 101; refine HSE.out.mono ?_; rintro e w3 ⟨rfl, hB3⟩)
      go_ret2
      rw [HRR.out]
      exact ⟨_, _, rfl, .inl ⟨rfl, rfl⟩, HV2.out.below hB3, Moved.refl _ _, HM2.out.below hB3⟩
    · rw [hz] at HSE
      have HRR := hide (unhide HR2 hz)
      clear HR1 HR2 hz
      go_wp2_with (go_at_call 101; refine HSE.out.mono ?_)
      rintro e w3 ⟨rfl, hB3⟩
      have hV3 := HV2.out.below hB3
      have hb3 := (hB3.block _ (by omega)).trans HBL.out
      have HM3 := hide (HM2.out.below hB3)
      have s3 := hB3.size
      have u1 : w3.cell? ⟨w1.heap.size, 1, none⟩ = some (.int .i64 d.c) := (blk_cell hb3 1).trans rfl
      have u2 : w3.cell? ⟨w1.heap.size, 2, none⟩ = some (.int .i64 d.v) := (blk_cell hb3 2).trans rfl
      have u3 : w3.cell? ⟨w1.heap.size, 3, none⟩ = some (.int .i64 d.o) := (blk_cell hb3 3).trans rfl
      have HCO := hide (commit_any N p win _ (castS S 1 d) w3 d hV3 HOK2.out hl (by have := HN.out; omega))
      have HOK3 := hide (HOK2.out.commit hl d)
      have HS3 := hide (show w.heap.size ≤ w3.heap.size by omega)
      clear v0 v1 v2 v3 y1 HSE hV3 hb3 hB3 HBL HV2 HM2 HOK2
      go_wp2_with (go_at_call 102; refine HCO.out.mono ?_)
      rintro e w4 ⟨rfl, tv4, hV4, hmv4, hM4⟩
      have hlen : (commitS win (castS S 1 d) d).tr.length = n + 1 := by show (S.tr ++ [d]).length = n + 1; rw [List.length_append, hn.out]; rfl
      have hat : cmAt (commitS win (castS S 1 d) d).tr n = d := by
        show ((S.tr ++ [d])[n]?).getD cm0 = d
        rw [List.getElem?_append_right (by rw [hn.out]; exact Nat.le_refl _), hn.out, Nat.sub_self]
        rfl
      have hdn := done_any N p win tv4 _ w4 n hV4 HOK3.out (by omega)
      rw [hat] at hdn
      have HDN := hide hdn
      have HV4 := hide hV4
      have HMV : Hid (Moved w (.slice a S.tr.length cap) tv4) := hide fun g hg => (hmv4 g hg).imp id (fun h => Nat.le_trans HS3.out h)
      have HM4 := hide (HM3.out.then hM4 (fun _ _ h => h))
      clear hdn hat hlen hV4 hmv4 hM4 HM3 HCO u1 u2 u3 HOK3 HN
      go_wp2_with (first
        | (go_at_call 103; refine HDN.out.mono ?_; rintro e w5 ⟨rfl, hB5⟩)
        | (refine wpList_one_f rfl _ rfl (doneF n d) rfl _ rfl ?_))
      intro w6 HW6
      obtain ⟨hb6, _, hB6⟩ := HW6.out
      have hB46 : Below w4.heap.size w4 w6 := hB5.trans (hB6.mono hB5.size)
      have HFI := hide (FRow.one hb6)
      have HB46 := hide hB46
      clear hb6 hB6 hB46 hB5 HDN HW6
      go_wp2
      go_ret2
      rw [HRR.out, hn.out]
      rw [hn.out] at HM4 HMV
      exact ⟨_, _, rfl, HFI.out, HV4.out.below HB46.out, HMV.out, HM4.out.below HB46.out⟩
  · have f1 := HV1.out.free 9
    have f2 := HV1.out.free 10
    have f3 := HV1.out.free 11
    have f4 := HV1.out.free 12
    have e1 : w1.cell? ⟨p, 9, none⟩ = some (.bool (S.b 2)) := (HV1.out.at 9).trans rfl
    have e2 : w1.cell? ⟨p, 10, none⟩ = some (.int .i64 (S.x 2).c) := (HV1.out.at 10).trans rfl
    have e3 : w1.cell? ⟨p, 11, none⟩ = some (.int .i64 (S.x 2).v) := (HV1.out.at 11).trans rfl
    have e4 : w1.cell? ⟨p, 12, none⟩ = some (.int .i64 (S.x 2).o) := (HV1.out.at 12).trans rfl
    go_wp2_with fail
    go_region
    obtain ⟨W2, hW2⟩ : ∃ W2, Hid ((((((w1.setCell ⟨p, 9, none⟩ (.bool true)).setCell ⟨p, 10, none⟩ (.int .i64 (F 3))).setCell ⟨p, 11, none⟩ (.int .i64 (F 4))).setCell ⟨p, 12, none⟩ (.int .i64 (F 5))).alloc (.cells #[.bool true, .int .i64 (F 3), .int .i64 (F 4), .int .i64 (F 5)] 113)).drew = W2) := ⟨_, hide rfl⟩
    have hV2 : VIs W2 N p win (.slice a S.tr.length cap) (castS S 2 (cmF F)) := by
      rw [← hW2.out]
      have h4 := (((HV1.out.put (S' := ⟨S.tr, upd S.b 2 true, S.x, S.left, S.out, S.lat⟩) 9 (.bool true) rfl rfl).put (S' := ⟨S.tr, upd S.b 2 true, upd S.x 2 ⟨F 3, (S.x 2).v, (S.x 2).o⟩, S.left, S.out, S.lat⟩) 10 (.int .i64 (F 3)) rfl rfl).put (S' := ⟨S.tr, upd S.b 2 true, upd S.x 2 ⟨F 3, F 4, (S.x 2).o⟩, S.left, S.out, S.lat⟩) 11 (.int .i64 (F 4)) rfl rfl).put (S' := castS S 2 (cmF F)) 12 (.int .i64 (F 5)) rfl rfl
      exact (h4.below ((Below.refl _ _).alloc (Nat.le_refl _) _)).drewN 1
    have hM2 : Mod w W2 (VB p (.slice a S.tr.length cap)) := by
      rw [← hW2.out]
      have m4 := ((((Mod.ofBelow HB.out (VB p (.slice a S.tr.length cap))).set ⟨p, 9, none⟩ (.bool true) (fun _ => .inl rfl)).set ⟨p, 10, none⟩ (.int .i64 (F 3)) (fun _ => .inl rfl)).set ⟨p, 11, none⟩ (.int .i64 (F 4)) (fun _ => .inl rfl)).set ⟨p, 12, none⟩ (.int .i64 (F 5)) (fun _ => .inl rfl)
      exact (m4.below ((Below.refl _ _).alloc (Nat.le_refl _) _)).drewN 1
    have hs2 : W2.heap.size = w1.heap.size + 1 := by rw [← hW2.out]; simp [World.drew, World.setCell]
    have hb2 : W2.heap[w1.heap.size]? = some (.cells #[.bool true, .int .i64 (F 3), .int .i64 (F 4), .int .i64 (F 5)] 113 (0, 0)) := by
      rw [← hW2.out]
      have := blk_new ((((w1.setCell ⟨p, 9, none⟩ (.bool true)).setCell ⟨p, 10, none⟩ (.int .i64 (F 3))).setCell ⟨p, 11, none⟩ (.int .i64 (F 4))).setCell ⟨p, 12, none⟩ (.int .i64 (F 5))) (.cells #[.bool true, .int .i64 (F 3), .int .i64 (F 4), .int .i64 (F 5)] 113)
      rw [show ((((w1.setCell ⟨p, 9, none⟩ (.bool true)).setCell ⟨p, 10, none⟩ (.int .i64 (F 3))).setCell ⟨p, 11, none⟩ (.int .i64 (F 4))).setCell ⟨p, 12, none⟩ (.int .i64 (F 5))).heap.size = w1.heap.size by simp [World.setCell]] at this
      exact this
    have hx2 : W2.heap[w.heap.size]? = w1.heap[w.heap.size]? := by
      rw [← hW2.out]
      refine (Below.heap_alloc _ _ _ (by simp [World.setCell]; omega)).trans ?_
      rw [Below.heap_setCell _ _ _ _ (by show _ ≠ p; omega), Below.heap_setCell _ _ _ _ (by show _ ≠ p; omega), Below.heap_setCell _ _ _ _ (by show _ ≠ p; omega), Below.heap_setCell _ _ _ _ (by show _ ≠ p; omega)]
    have y1 : W2.cell? ⟨w.heap.size, 1, none⟩ = some (.int .i64 2) := (World.cell?_of_block (w := w1) hx2).trans c1
    have v0 : W2.cell? ⟨w1.heap.size, 0, none⟩ = some (.bool true) := (blk_cell hb2 0).trans rfl
    have v1 : W2.cell? ⟨w1.heap.size, 1, none⟩ = some (.int .i64 (F 3)) := (blk_cell hb2 1).trans rfl
    have v2 : W2.cell? ⟨w1.heap.size, 2, none⟩ = some (.int .i64 (F 4)) := (blk_cell hb2 2).trans rfl
    have v3 : W2.cell? ⟨w1.heap.size, 3, none⟩ = some (.int .i64 (F 5)) := (blk_cell hb2 3).trans rfl
    have HSE := hide (seconded_any N p win _ (castS S 2 (cmF F)) W2 2 2 (hide rfl) (cmF F) hV2 (by decide))
    rw [hW2.out]
    have HV2 := hide hV2
    have HM2 := hide hM2
    have HN : Hid (N ≤ W2.heap.size) := hide (by omega)
    have HOK2 := hide (HOK.out.cast 2 (cmF F))
    have HBL := hide hb2
    clear f1 f2 f3 f4 e1 e2 e3 e4 c00 c1 c2 c3 c4 c5 k0 k16 hV2 hM2 hW2 hx2 HV1 HB1 HB HBW HWs c0 hb2
    generalize hd : cmF F = d at *
    have d1 : F 3 = d.c := by rw [← hd]; rfl
    have d2 : F 4 = d.v := by rw [← hd]; rfl
    have d3 : F 5 = d.o := by rw [← hd]; rfl
    rw [d1] at v1
    rw [d2] at v2
    rw [d3] at v3
    rw [d1, d2, d3] at HBL ⊢
    clear d1 d2 d3
    cases hz : secTo (castS S 2 d).b (castS S 2 d).x d 2 3
    · rw [hz] at HSE
      have HRR := hide (unhide HR1 hz)
      clear HR1 HR2 hz
      go_wp2_with (go_at_call 101; refine HSE.out.mono ?_; rintro e w3 ⟨rfl, hB3⟩)
      go_ret2
      rw [HRR.out]
      exact ⟨_, _, rfl, .inl ⟨rfl, rfl⟩, HV2.out.below hB3, Moved.refl _ _, HM2.out.below hB3⟩
    · rw [hz] at HSE
      have HRR := hide (unhide HR2 hz)
      clear HR1 HR2 hz
      go_wp2_with (go_at_call 101; refine HSE.out.mono ?_)
      rintro e w3 ⟨rfl, hB3⟩
      have hV3 := HV2.out.below hB3
      have hb3 := (hB3.block _ (by omega)).trans HBL.out
      have HM3 := hide (HM2.out.below hB3)
      have s3 := hB3.size
      have u1 : w3.cell? ⟨w1.heap.size, 1, none⟩ = some (.int .i64 d.c) := (blk_cell hb3 1).trans rfl
      have u2 : w3.cell? ⟨w1.heap.size, 2, none⟩ = some (.int .i64 d.v) := (blk_cell hb3 2).trans rfl
      have u3 : w3.cell? ⟨w1.heap.size, 3, none⟩ = some (.int .i64 d.o) := (blk_cell hb3 3).trans rfl
      have HCO := hide (commit_any N p win _ (castS S 2 d) w3 d hV3 HOK2.out hl (by have := HN.out; omega))
      have HOK3 := hide (HOK2.out.commit hl d)
      have HS3 := hide (show w.heap.size ≤ w3.heap.size by omega)
      clear v0 v1 v2 v3 y1 HSE hV3 hb3 hB3 HBL HV2 HM2 HOK2
      go_wp2_with (go_at_call 102; refine HCO.out.mono ?_)
      rintro e w4 ⟨rfl, tv4, hV4, hmv4, hM4⟩
      have hlen : (commitS win (castS S 2 d) d).tr.length = n + 1 := by show (S.tr ++ [d]).length = n + 1; rw [List.length_append, hn.out]; rfl
      have hat : cmAt (commitS win (castS S 2 d) d).tr n = d := by
        show ((S.tr ++ [d])[n]?).getD cm0 = d
        rw [List.getElem?_append_right (by rw [hn.out]; exact Nat.le_refl _), hn.out, Nat.sub_self]
        rfl
      have hdn := done_any N p win tv4 _ w4 n hV4 HOK3.out (by omega)
      rw [hat] at hdn
      have HDN := hide hdn
      have HV4 := hide hV4
      have HMV : Hid (Moved w (.slice a S.tr.length cap) tv4) := hide fun g hg => (hmv4 g hg).imp id (fun h => Nat.le_trans HS3.out h)
      have HM4 := hide (HM3.out.then hM4 (fun _ _ h => h))
      clear hdn hat hlen hV4 hmv4 hM4 HM3 HCO u1 u2 u3 HOK3 HN
      go_wp2_with (first
        | (go_at_call 103; refine HDN.out.mono ?_; rintro e w5 ⟨rfl, hB5⟩)
        | (refine wpList_one_f rfl _ rfl (doneF n d) rfl _ rfl ?_))
      intro w6 HW6
      obtain ⟨hb6, _, hB6⟩ := HW6.out
      have hB46 : Below w4.heap.size w4 w6 := hB5.trans (hB6.mono hB5.size)
      have HFI := hide (FRow.one hb6)
      have HB46 := hide hB46
      clear hb6 hB6 hB46 hB5 HDN HW6
      go_wp2
      go_ret2
      rw [HRR.out, hn.out]
      rw [hn.out] at HM4 HMV
      exact ⟨_, _, rfl, HFI.out, HV4.out.below HB46.out, HMV.out, HM4.out.below HB46.out⟩
theorem take_any (N p win : Nat) (tv : Value) (S : VS) (w : World) (F : FR) (h : VIs w N p win tv S) (hok : VOk win S) (hN : N ≤ w.heap.size) :
    Calls Tryz.prog 92 #[.pointer (some ⟨p, 0, none⟩), .agg (fCells F)] w (TakeEnd N p win tv w (takeF win S F)) := by
  cases hh : hearB S F
  · exact take_1 N p win tv S w F h hok hN hh
  · obtain ⟨hk, ⟨h1, h3⟩, h2⟩ := hear_parts hh
    obtain ⟨c, hc⟩ := Int.eq_ofNat_of_zero_le h2
    rcases Nat.lt_trichotomy c S.tr.length with hlt | he | hgt
    · exact take_2 N p win tv S w F h hok hN hh c hc hlt
    · rw [he] at hc
      rcases hk with hk | hk
      · cases hl : S.lat
        · exact take_6 N p win tv S w F h hok hN hh hc hk hl (by omega)
        · exact take_5 N p win tv S w F h hok hN hh hc hk hl
      · exact take_4 N p win tv S w F h hok hN hh hc hk
    · exact take_3 N p win tv S w F h hok hN hh c hc hgt
end Go.Proofs.YtaablbmgagiajaaGreatDoor
