import Derived.Test.YtaablbmgagiajabGreatDoorSGAO
import Derived.Test.YtaablbmgagiajabGreatDoorSGAR
import Derived.Test.YtaablbmgagiajabGreatDoorSGAN
namespace Go.Proofs.YtaablbmgagiajabGreatDoor
open Go.RowKit Go.Deep
theorem VIs.cells {w : World} {N p win : Nat} {tv : Value} {S : VS} (h : VIs w N p win tv S) : w.cell? ⟨p, 0, none⟩ = some tv ∧ w.cell? ⟨p, 16, none⟩ = some (.bool S.lat) := ⟨(h.at 0).trans rfl, (h.at 16).trans rfl⟩
def TakeEnd (N p win : Nat) (tv : Value) (w : World) (R : VS × List FR × Bool) (e : Ending) (w' : World) : Prop :=
  ∃ v tv', e = .returned (.tuple #[v, .bool R.2.2]) ∧ FRow w' 36 v R.2.1 ∧ VIs w' N p win tv' R.1 ∧ Moved w tv tv' ∧ Mod w w' (VB p tv)
theorem take_no {win : Nat} {S : VS} {F : FR} (h : hearB S F = false) : takeF win S F = (S, [], false) := by unfold takeF; rw [if_pos h]
theorem take_past {win : Nat} {S : VS} {F : FR} (h : hearB S F = true) (h2 : F 2 < S.tr.length) : takeF win S F = (S, pastF S.tr (F 2).toNat, false) := by unfold takeF; rw [if_neg (by rw [h]; decide), if_pos h2]
theorem take_pass {win : Nat} {S : VS} {F : FR} (h : hearB S F = true) (h2 : ¬ F 2 < S.tr.length) (h3 : passB S F = true) : takeF win S F = (S, [], false) := by unfold takeF; rw [if_neg (by rw [h]; decide), if_neg h2, if_pos h3]
theorem take_cast {win : Nat} {S : VS} {F : FR} (h : hearB S F = true) (h2 : ¬ F 2 < S.tr.length) (h3 : passB S F = false) (h4 : secTo (castS S (F 1).toNat (cmF F)).b (castS S (F 1).toNat (cmF F)).x (cmF F) (F 1).toNat 3 = false) : takeF win S F = (castS S (F 1).toNat (cmF F), [], false) := by
  unfold takeF; rw [if_neg (by rw [h]; decide), if_neg h2, if_neg (by rw [h3]; decide), if_pos h4]
theorem take_commit {win : Nat} {S : VS} {F : FR} (h : hearB S F = true) (h2 : ¬ F 2 < S.tr.length) (h3 : passB S F = false) (h4 : secTo (castS S (F 1).toNat (cmF F)).b (castS S (F 1).toNat (cmF F)).x (cmF F) (F 1).toNat 3 = true) : takeF win S F = (commitS win (castS S (F 1).toNat (cmF F)) (cmF F), [doneF S.tr.length (cmF F)], true) := by
  unfold takeF; rw [if_neg (by rw [h]; decide), if_neg h2, if_neg (by rw [h3]; decide), if_neg (by rw [h4]; decide)]
theorem hear_parts {S : VS} {F : FR} (h : hearB S F = true) : (F 0 = 2 ∨ F 0 = 4) ∧ (0 ≤ F 1 ∧ F 1 < 3) ∧ 0 ≤ F 2 := by
  unfold hearB kindB fromB at h
  simp at h
  exact ⟨h.1, h.2.1, h.2.2.2⟩
set_option maxHeartbeats 1000000 in
set_option maxRecDepth 20000 in
theorem take_1 (N p win : Nat) (tv : Value) (S : VS) (w : World) (F : FR) (h : VIs w N p win tv S) (hok : VOk win S) (_ : N ≤ w.heap.size) (hh : hearB S F = false) :
    Calls Tryz.prog 173 #[.pointer (some ⟨p, 0, none⟩), .agg (fCells F)] w (TakeEnd N p win tv w (takeF win S F)) := by
  obtain ⟨W, hW⟩ : ∃ W, Hid (w.alloc (.cells (fCells F) 36) = W) := ⟨_, hide rfl⟩
  have hBW : Below w.heap.size w W := by rw [← hW.out]; exact (Below.refl _ _).alloc (Nat.le_refl _) _
  have hbx : FIs W w.heap.size 36 F := by rw [← hW.out]; exact blk_new _ _
  have hV := h.below hBW
  have HC := hide (listens_any N p win tv S W F hV hok)
  obtain ⟨c0, _⟩ := h.cells
  have hp := h.lt
  have hf := hok.few
  obtain ⟨a, cap, rfl⟩ := h.row.shape
  have HBX := hide hbx
  have HBW := hide hBW
  have HV := hide hV
  have HOK := hide hok
  have HWs : Hid (W.heap.size = w.heap.size + 1) := hide (by rw [← hW.out]; simp)
  obtain ⟨n, hn⟩ : ∃ n, Hid (S.tr.length = n) := ⟨_, hide rfl⟩
  have hbx' : FIs (w.alloc (.cells (fCells F) 36)) w.heap.size 36 F := blk_new _ _
  have HBX' := hide hbx'
  rw [take_no hh]
  rw [hh] at HC
  rw [hn.out] at c0 hf
  clear h hV hok hbx hbx' hBW
  go_enter Tryz.func173, Tryz.ntmps173
  go_wp2_with (first
    | (refine wpList_load_f rfl _ rfl w.heap.size rfl F HBX'.out ?_)
    | (go_at_call 191; rw [hW.out]; refine HC.out.mono ?_))
  rintro e w1 ⟨rfl, hB1⟩
  have HB1 := hide hB1
  have hB := HBW.out.trans (hB1.mono HBW.out.size)
  have HB := hide hB
  have hV1 := HV.out.below hB1
  have HV1 := hide hV1
  have hbx1 : FIs w1 w.heap.size 36 F := (hB1.block _ (by rw [HWs.out]; omega)).trans HBX.out
  have hs1 : w.heap.size < w1.heap.size := hbx1.lt
  have c1 := hbx1.at (k := 1) (by omega)
  have c2 := hbx1.at (k := 2) (by omega)
  have c00 := hbx1.at (k := 0) (by omega)
  have c3 := hbx1.at (k := 3) (by omega)
  have c4 := hbx1.at (k := 4) (by omega)
  have c5 := hbx1.at (k := 5) (by omega)
  obtain ⟨k0, k16⟩ := hV1.cells
  rw [hn.out] at k0
  have hp1 := hV1.lt
  clear hB1 hV1 hbx1 hB HC HBX HBX' HV hW
  go_wp2
  go_ret2
  exact ⟨_, _, rfl, .inl ⟨rfl, rfl⟩, HV1.out, Moved.refl _ _, Mod.ofBelow HB.out _⟩
set_option maxHeartbeats 1000000 in
set_option maxRecDepth 20000 in
theorem take_2 (N p win : Nat) (tv : Value) (S : VS) (w : World) (F : FR) (h : VIs w N p win tv S) (hok : VOk win S) (_ : N ≤ w.heap.size) (hh : hearB S F = true) (c : Nat) (hc : F 2 = (c : Int)) (hlt : c < S.tr.length) :
    Calls Tryz.prog 173 #[.pointer (some ⟨p, 0, none⟩), .agg (fCells F)] w (TakeEnd N p win tv w (takeF win S F)) := by
  obtain ⟨W, hW⟩ : ∃ W, Hid (w.alloc (.cells (fCells F) 36) = W) := ⟨_, hide rfl⟩
  have hBW : Below w.heap.size w W := by rw [← hW.out]; exact (Below.refl _ _).alloc (Nat.le_refl _) _
  have hbx : FIs W w.heap.size 36 F := by rw [← hW.out]; exact blk_new _ _
  have hV := h.below hBW
  have HC := hide (listens_any N p win tv S W F hV hok)
  obtain ⟨c0, _⟩ := h.cells
  have hp := h.lt
  have hf := hok.few
  obtain ⟨a, cap, rfl⟩ := h.row.shape
  have HBX := hide hbx
  have HBW := hide hBW
  have HV := hide hV
  have HOK := hide hok
  have HWs : Hid (W.heap.size = w.heap.size + 1) := hide (by rw [← hW.out]; simp)
  obtain ⟨n, hn⟩ : ∃ n, Hid (S.tr.length = n) := ⟨_, hide rfl⟩
  have hbx' : FIs (w.alloc (.cells (fCells F) 36)) w.heap.size 36 F := blk_new _ _
  have HBX' := hide hbx'
  rw [take_past hh (by rw [hc]; exact Int.ofNat_lt.2 hlt), hc, Int.toNat_natCast]
  rw [hh] at HC
  have hlt' := hlt
  rw [hn.out] at hlt'
  have HLT := hide hlt
  rw [hn.out] at c0 hf
  clear h hV hok hbx hbx' hBW
  go_enter Tryz.func173, Tryz.ntmps173
  go_wp2_with (first
    | (refine wpList_load_f rfl _ rfl w.heap.size rfl F HBX'.out ?_)
    | (go_at_call 191; rw [hW.out]; refine HC.out.mono ?_))
  rintro e w1 ⟨rfl, hB1⟩
  have HB1 := hide hB1
  have hB := HBW.out.trans (hB1.mono HBW.out.size)
  have HB := hide hB
  have hV1 := HV.out.below hB1
  have HV1 := hide hV1
  have hbx1 : FIs w1 w.heap.size 36 F := (hB1.block _ (by rw [HWs.out]; omega)).trans HBX.out
  have hs1 : w.heap.size < w1.heap.size := hbx1.lt
  have c1 := hbx1.at (k := 1) (by omega)
  have c2 := hbx1.at (k := 2) (by omega)
  have c00 := hbx1.at (k := 0) (by omega)
  have c3 := hbx1.at (k := 3) (by omega)
  have c4 := hbx1.at (k := 4) (by omega)
  have c5 := hbx1.at (k := 5) (by omega)
  obtain ⟨k0, k16⟩ := hV1.cells
  rw [hn.out] at k0
  have hp1 := hV1.lt
  clear hB1 hV1 hbx1 hB HC HBX HBX' HV hW
  rw [hc] at c2
  have HPA := hide (past_any N p win _ S w1 c HV1.out HOK.out HLT.out)
  clear c00 c1 c3 c4 c5 k16
  go_wp2_with (go_at_call 192; refine HPA.out.mono ?_; rintro e w2 ⟨⟨v, rfl, hfr⟩, hB2⟩)
  go_ret2
  exact ⟨_, _, rfl, hfr, HV1.out.below hB2, Moved.refl _ _, Mod.ofBelow (HB.out.trans (hB2.mono HB.out.size)) _⟩
set_option maxHeartbeats 1000000 in
set_option maxRecDepth 20000 in
theorem take_3 (N p win : Nat) (tv : Value) (S : VS) (w : World) (F : FR) (h : VIs w N p win tv S) (hok : VOk win S) (_ : N ≤ w.heap.size) (hh : hearB S F = true) (c : Nat) (hc : F 2 = (c : Int)) (hlt : S.tr.length < c) :
    Calls Tryz.prog 173 #[.pointer (some ⟨p, 0, none⟩), .agg (fCells F)] w (TakeEnd N p win tv w (takeF win S F)) := by
  obtain ⟨W, hW⟩ : ∃ W, Hid (w.alloc (.cells (fCells F) 36) = W) := ⟨_, hide rfl⟩
  have hBW : Below w.heap.size w W := by rw [← hW.out]; exact (Below.refl _ _).alloc (Nat.le_refl _) _
  have hbx : FIs W w.heap.size 36 F := by rw [← hW.out]; exact blk_new _ _
  have hV := h.below hBW
  have HC := hide (listens_any N p win tv S W F hV hok)
  obtain ⟨c0, _⟩ := h.cells
  have hp := h.lt
  have hf := hok.few
  obtain ⟨a, cap, rfl⟩ := h.row.shape
  have HBX := hide hbx
  have HBW := hide hBW
  have HV := hide hV
  have HOK := hide hok
  have HWs : Hid (W.heap.size = w.heap.size + 1) := hide (by rw [← hW.out]; simp)
  obtain ⟨n, hn⟩ : ∃ n, Hid (S.tr.length = n) := ⟨_, hide rfl⟩
  have hbx' : FIs (w.alloc (.cells (fCells F) 36)) w.heap.size 36 F := blk_new _ _
  have HBX' := hide hbx'
  rw [take_pass hh (by rw [hc]; omega) (by unfold passB; rw [hc, decide_eq_true (by omega : (S.tr.length : Int) < (c : Int))]; rfl)]
  rw [hh] at HC
  rw [hn.out] at hlt
  rw [hn.out] at c0 hf
  clear h hV hok hbx hbx' hBW
  go_enter Tryz.func173, Tryz.ntmps173
  go_wp2_with (first
    | (refine wpList_load_f rfl _ rfl w.heap.size rfl F HBX'.out ?_)
    | (go_at_call 191; rw [hW.out]; refine HC.out.mono ?_))
  rintro e w1 ⟨rfl, hB1⟩
  have HB1 := hide hB1
  have hB := HBW.out.trans (hB1.mono HBW.out.size)
  have HB := hide hB
  have hV1 := HV.out.below hB1
  have HV1 := hide hV1
  have hbx1 : FIs w1 w.heap.size 36 F := (hB1.block _ (by rw [HWs.out]; omega)).trans HBX.out
  have hs1 : w.heap.size < w1.heap.size := hbx1.lt
  have c1 := hbx1.at (k := 1) (by omega)
  have c2 := hbx1.at (k := 2) (by omega)
  have c00 := hbx1.at (k := 0) (by omega)
  have c3 := hbx1.at (k := 3) (by omega)
  have c4 := hbx1.at (k := 4) (by omega)
  have c5 := hbx1.at (k := 5) (by omega)
  obtain ⟨k0, k16⟩ := hV1.cells
  rw [hn.out] at k0
  have hp1 := hV1.lt
  clear hB1 hV1 hbx1 hB HC HBX HBX' HV hW
  rw [hc] at c2
  clear c00 c1 c3 c4 c5 k16
  go_wp2
  go_ret2
  exact ⟨_, _, rfl, .inl ⟨rfl, rfl⟩, HV1.out, Moved.refl _ _, Mod.ofBelow HB.out _⟩
set_option maxHeartbeats 1000000 in
set_option maxRecDepth 20000 in
theorem take_4 (N p win : Nat) (tv : Value) (S : VS) (w : World) (F : FR) (h : VIs w N p win tv S) (hok : VOk win S) (_ : N ≤ w.heap.size) (hh : hearB S F = true) (hc : F 2 = (S.tr.length : Int)) (hk : F 0 = 4) :
    Calls Tryz.prog 173 #[.pointer (some ⟨p, 0, none⟩), .agg (fCells F)] w (TakeEnd N p win tv w (takeF win S F)) := by
  obtain ⟨W, hW⟩ : ∃ W, Hid (w.alloc (.cells (fCells F) 36) = W) := ⟨_, hide rfl⟩
  have hBW : Below w.heap.size w W := by rw [← hW.out]; exact (Below.refl _ _).alloc (Nat.le_refl _) _
  have hbx : FIs W w.heap.size 36 F := by rw [← hW.out]; exact blk_new _ _
  have hV := h.below hBW
  have HC := hide (listens_any N p win tv S W F hV hok)
  obtain ⟨c0, _⟩ := h.cells
  have hp := h.lt
  have hf := hok.few
  obtain ⟨a, cap, rfl⟩ := h.row.shape
  have HBX := hide hbx
  have HBW := hide hBW
  have HV := hide hV
  have HOK := hide hok
  have HWs : Hid (W.heap.size = w.heap.size + 1) := hide (by rw [← hW.out]; simp)
  obtain ⟨n, hn⟩ : ∃ n, Hid (S.tr.length = n) := ⟨_, hide rfl⟩
  have hbx' : FIs (w.alloc (.cells (fCells F) 36)) w.heap.size 36 F := blk_new _ _
  have HBX' := hide hbx'
  rw [take_pass hh (by rw [hc]; omega) (by unfold passB; rw [hk]; simp)]
  rw [hh] at HC
  rw [hn.out] at hc
  rw [hn.out] at c0 hf
  clear h hV hok hbx hbx' hBW
  go_enter Tryz.func173, Tryz.ntmps173
  go_wp2_with (first
    | (refine wpList_load_f rfl _ rfl w.heap.size rfl F HBX'.out ?_)
    | (go_at_call 191; rw [hW.out]; refine HC.out.mono ?_))
  rintro e w1 ⟨rfl, hB1⟩
  have HB1 := hide hB1
  have hB := HBW.out.trans (hB1.mono HBW.out.size)
  have HB := hide hB
  have hV1 := HV.out.below hB1
  have HV1 := hide hV1
  have hbx1 : FIs w1 w.heap.size 36 F := (hB1.block _ (by rw [HWs.out]; omega)).trans HBX.out
  have hs1 : w.heap.size < w1.heap.size := hbx1.lt
  have c1 := hbx1.at (k := 1) (by omega)
  have c2 := hbx1.at (k := 2) (by omega)
  have c00 := hbx1.at (k := 0) (by omega)
  have c3 := hbx1.at (k := 3) (by omega)
  have c4 := hbx1.at (k := 4) (by omega)
  have c5 := hbx1.at (k := 5) (by omega)
  obtain ⟨k0, k16⟩ := hV1.cells
  rw [hn.out] at k0
  have hp1 := hV1.lt
  clear hB1 hV1 hbx1 hB HC HBX HBX' HV hW
  rw [hc] at c2
  rw [hk] at c00
  clear c1 c3 c4 c5 k16
  go_wp2
  go_ret2
  exact ⟨_, _, rfl, .inl ⟨rfl, rfl⟩, HV1.out, Moved.refl _ _, Mod.ofBelow HB.out _⟩
set_option maxHeartbeats 1000000 in
set_option maxRecDepth 20000 in
theorem take_5 (N p win : Nat) (tv : Value) (S : VS) (w : World) (F : FR) (h : VIs w N p win tv S) (hok : VOk win S) (_ : N ≤ w.heap.size) (hh : hearB S F = true) (hc : F 2 = (S.tr.length : Int)) (hk : F 0 = 2) (hl : S.lat = true) :
    Calls Tryz.prog 173 #[.pointer (some ⟨p, 0, none⟩), .agg (fCells F)] w (TakeEnd N p win tv w (takeF win S F)) := by
  obtain ⟨W, hW⟩ : ∃ W, Hid (w.alloc (.cells (fCells F) 36) = W) := ⟨_, hide rfl⟩
  have hBW : Below w.heap.size w W := by rw [← hW.out]; exact (Below.refl _ _).alloc (Nat.le_refl _) _
  have hbx : FIs W w.heap.size 36 F := by rw [← hW.out]; exact blk_new _ _
  have hV := h.below hBW
  have HC := hide (listens_any N p win tv S W F hV hok)
  obtain ⟨c0, _⟩ := h.cells
  have hp := h.lt
  have hf := hok.few
  obtain ⟨a, cap, rfl⟩ := h.row.shape
  have HBX := hide hbx
  have HBW := hide hBW
  have HV := hide hV
  have HOK := hide hok
  have HWs : Hid (W.heap.size = w.heap.size + 1) := hide (by rw [← hW.out]; simp)
  obtain ⟨n, hn⟩ : ∃ n, Hid (S.tr.length = n) := ⟨_, hide rfl⟩
  have hbx' : FIs (w.alloc (.cells (fCells F) 36)) w.heap.size 36 F := blk_new _ _
  have HBX' := hide hbx'
  rw [take_pass hh (by rw [hc]; omega) (by unfold passB; rw [hl]; simp)]
  rw [hh] at HC
  rw [hn.out] at hc
  rw [hn.out] at c0 hf
  clear h hV hok hbx hbx' hBW
  go_enter Tryz.func173, Tryz.ntmps173
  go_wp2_with (first
    | (refine wpList_load_f rfl _ rfl w.heap.size rfl F HBX'.out ?_)
    | (go_at_call 191; rw [hW.out]; refine HC.out.mono ?_))
  rintro e w1 ⟨rfl, hB1⟩
  have HB1 := hide hB1
  have hB := HBW.out.trans (hB1.mono HBW.out.size)
  have HB := hide hB
  have hV1 := HV.out.below hB1
  have HV1 := hide hV1
  have hbx1 : FIs w1 w.heap.size 36 F := (hB1.block _ (by rw [HWs.out]; omega)).trans HBX.out
  have hs1 : w.heap.size < w1.heap.size := hbx1.lt
  have c1 := hbx1.at (k := 1) (by omega)
  have c2 := hbx1.at (k := 2) (by omega)
  have c00 := hbx1.at (k := 0) (by omega)
  have c3 := hbx1.at (k := 3) (by omega)
  have c4 := hbx1.at (k := 4) (by omega)
  have c5 := hbx1.at (k := 5) (by omega)
  obtain ⟨k0, k16⟩ := hV1.cells
  rw [hn.out] at k0
  have hp1 := hV1.lt
  clear hB1 hV1 hbx1 hB HC HBX HBX' HV hW
  rw [hc] at c2
  rw [hk] at c00
  rw [hl] at k16
  clear c1 c3 c4 c5
  go_wp2
  go_ret2
  exact ⟨_, _, rfl, .inl ⟨rfl, rfl⟩, HV1.out, Moved.refl _ _, Mod.ofBelow HB.out _⟩
set_option maxHeartbeats 1000000 in
set_option maxRecDepth 20000 in
theorem take_60 (N p win : Nat) (tv : Value) (S : VS) (w : World) (F : FR) (h : VIs w N p win tv S) (hok : VOk win S) (hN : N ≤ w.heap.size) (hh : hearB S F = true) (hc : F 2 = (S.tr.length : Int)) (hk : F 0 = 2) (hl : S.lat = false) (hr : F 1 = 0) :
    Calls Tryz.prog 173 #[.pointer (some ⟨p, 0, none⟩), .agg (fCells F)] w (TakeEnd N p win tv w (takeF win S F)) := by
  obtain ⟨W, hW⟩ : ∃ W, Hid (w.alloc (.cells (fCells F) 36) = W) := ⟨_, hide rfl⟩
  have hBW : Below w.heap.size w W := by rw [← hW.out]; exact (Below.refl _ _).alloc (Nat.le_refl _) _
  have hbx : FIs W w.heap.size 36 F := by rw [← hW.out]; exact blk_new _ _
  have hV := h.below hBW
  have HC := hide (listens_any N p win tv S W F hV hok)
  obtain ⟨c0, _⟩ := h.cells
  have hp := h.lt
  have hf := hok.few
  obtain ⟨a, cap, rfl⟩ := h.row.shape
  have HBX := hide hbx
  have HBW := hide hBW
  have HV := hide hV
  have HOK := hide hok
  have HWs : Hid (W.heap.size = w.heap.size + 1) := hide (by rw [← hW.out]; simp)
  obtain ⟨n, hn⟩ : ∃ n, Hid (S.tr.length = n) := ⟨_, hide rfl⟩
  have hbx' : FIs (w.alloc (.cells (fCells F) 36)) w.heap.size 36 F := blk_new _ _
  have HBX' := hide hbx'
  rw [hh] at HC
  have hR1 := fun h4 => take_cast (win := win) hh (by rw [hc]; omega) (by unfold passB; rw [hc, hk, hl]; simp) h4
  have hR2 := fun h4 => take_commit (win := win) hh (by rw [hc]; omega) (by unfold passB; rw [hc, hk, hl]; simp) h4
  rw [hr] at hR1 hR2
  obtain ⟨R, hR⟩ : ∃ R, Hid (takeF win S F = R) := ⟨_, hide rfl⟩
  rw [hR.out] at hR1 hR2 ⊢
  have HR1 := hide hR1
  have HR2 := hide hR2
  clear hR1 hR2 hR
  rw [hn.out] at hc
  rw [hn.out] at c0 hf
  clear h hV hok hbx hbx' hBW
  go_enter Tryz.func173, Tryz.ntmps173
  go_wp2_with (first
    | (refine wpList_load_f rfl _ rfl w.heap.size rfl F HBX'.out ?_)
    | (go_at_call 191; rw [hW.out]; refine HC.out.mono ?_))
  rintro e w1 ⟨rfl, hB1⟩
  have HB1 := hide hB1
  have hB := HBW.out.trans (hB1.mono HBW.out.size)
  have HB := hide hB
  have hV1 := HV.out.below hB1
  have HV1 := hide hV1
  have hbx1 : FIs w1 w.heap.size 36 F := (hB1.block _ (by rw [HWs.out]; omega)).trans HBX.out
  have hs1 : w.heap.size < w1.heap.size := hbx1.lt
  have c1 := hbx1.at (k := 1) (by omega)
  have c2 := hbx1.at (k := 2) (by omega)
  have c00 := hbx1.at (k := 0) (by omega)
  have c3 := hbx1.at (k := 3) (by omega)
  have c4 := hbx1.at (k := 4) (by omega)
  have c5 := hbx1.at (k := 5) (by omega)
  obtain ⟨k0, k16⟩ := hV1.cells
  rw [hn.out] at k0
  have hp1 := hV1.lt
  clear hB1 hV1 hbx1 hB HC HBX HBX' HV hW
  rw [hc] at c2
  rw [hk] at c00
  rw [hl] at k16
  rw [hr] at c1
  have f1 := HV1.out.free 1
  have f2 := HV1.out.free 2
  have f3 := HV1.out.free 3
  have f4 := HV1.out.free 4
  have e1 : w1.cell? ⟨p, 1, none⟩ = some (.bool (S.b 0)) := (HV1.out.at 1).trans rfl
  have e2 : w1.cell? ⟨p, 2, none⟩ = some (.int .i64 (S.x 0).c) := (HV1.out.at 2).trans rfl
  have e3 : w1.cell? ⟨p, 3, none⟩ = some (.int .i64 (S.x 0).v) := (HV1.out.at 3).trans rfl
  have e4 : w1.cell? ⟨p, 4, none⟩ = some (.int .i64 (S.x 0).o) := (HV1.out.at 4).trans rfl
  go_wp2_with fail
  go_region
  obtain ⟨W2, hW2⟩ : ∃ W2, Hid ((((((w1.setCell ⟨p, 1, none⟩ (.bool true)).setCell ⟨p, 2, none⟩ (.int .i64 (F 3))).setCell ⟨p, 3, none⟩ (.int .i64 (F 4))).setCell ⟨p, 4, none⟩ (.int .i64 (F 5))).alloc (.cells #[.bool true, .int .i64 (F 3), .int .i64 (F 4), .int .i64 (F 5)] 145)).drew = W2) := ⟨_, hide rfl⟩
  have hV2 : VIs W2 N p win (.slice a S.tr.length cap) (castS S 0 (cmF F)) := by
    rw [← hW2.out]
    have h4 := (((HV1.out.put (S' := ⟨S.tr, upd S.b 0 true, S.x, S.left, S.out, S.lat⟩) 1 (.bool true) rfl rfl).put (S' := ⟨S.tr, upd S.b 0 true, upd S.x 0 ⟨F 3, (S.x 0).v, (S.x 0).o⟩, S.left, S.out, S.lat⟩) 2 (.int .i64 (F 3)) rfl rfl).put (S' := ⟨S.tr, upd S.b 0 true, upd S.x 0 ⟨F 3, F 4, (S.x 0).o⟩, S.left, S.out, S.lat⟩) 3 (.int .i64 (F 4)) rfl rfl).put (S' := castS S 0 (cmF F)) 4 (.int .i64 (F 5)) rfl rfl
    exact (h4.below ((Below.refl _ _).alloc (Nat.le_refl _) _)).drewN 1
  have hM2 : Mod w W2 (VB p (.slice a S.tr.length cap)) := by
    rw [← hW2.out]
    have m4 := ((((Mod.ofBelow HB.out (VB p (.slice a S.tr.length cap))).set ⟨p, 1, none⟩ (.bool true) (fun _ => .inl rfl)).set ⟨p, 2, none⟩ (.int .i64 (F 3)) (fun _ => .inl rfl)).set ⟨p, 3, none⟩ (.int .i64 (F 4)) (fun _ => .inl rfl)).set ⟨p, 4, none⟩ (.int .i64 (F 5)) (fun _ => .inl rfl)
    exact (m4.below ((Below.refl _ _).alloc (Nat.le_refl _) _)).drewN 1
  have hs2 : W2.heap.size = w1.heap.size + 1 := by rw [← hW2.out]; simp [World.drew, World.setCell]
  have hb2 : W2.heap[w1.heap.size]? = some (.cells #[.bool true, .int .i64 (F 3), .int .i64 (F 4), .int .i64 (F 5)] 145 (0, 0)) := by
    rw [← hW2.out]
    have := blk_new ((((w1.setCell ⟨p, 1, none⟩ (.bool true)).setCell ⟨p, 2, none⟩ (.int .i64 (F 3))).setCell ⟨p, 3, none⟩ (.int .i64 (F 4))).setCell ⟨p, 4, none⟩ (.int .i64 (F 5))) (.cells #[.bool true, .int .i64 (F 3), .int .i64 (F 4), .int .i64 (F 5)] 145)
    rw [show ((((w1.setCell ⟨p, 1, none⟩ (.bool true)).setCell ⟨p, 2, none⟩ (.int .i64 (F 3))).setCell ⟨p, 3, none⟩ (.int .i64 (F 4))).setCell ⟨p, 4, none⟩ (.int .i64 (F 5))).heap.size = w1.heap.size by simp [World.setCell]] at this
    exact this
  have hx2 : W2.heap[w.heap.size]? = w1.heap[w.heap.size]? := by
    rw [← hW2.out]
    refine (Below.heap_alloc _ _ _ (by simp [World.setCell]; omega)).trans ?_
    rw [Below.heap_setCell _ _ _ _ (by show _ ≠ p; omega), Below.heap_setCell _ _ _ _ (by show _ ≠ p; omega), Below.heap_setCell _ _ _ _ (by show _ ≠ p; omega), Below.heap_setCell _ _ _ _ (by show _ ≠ p; omega)]
  have y1 : W2.cell? ⟨w.heap.size, 1, none⟩ = some (.int .i64 0) := (World.cell?_of_block (w := w1) hx2).trans c1
  have v0 : W2.cell? ⟨w1.heap.size, 0, none⟩ = some (.bool true) := (blk_cell hb2 0).trans rfl
  have v1 : W2.cell? ⟨w1.heap.size, 1, none⟩ = some (.int .i64 (F 3)) := (blk_cell hb2 1).trans rfl
  have v2 : W2.cell? ⟨w1.heap.size, 2, none⟩ = some (.int .i64 (F 4)) := (blk_cell hb2 2).trans rfl
  have v3 : W2.cell? ⟨w1.heap.size, 3, none⟩ = some (.int .i64 (F 5)) := (blk_cell hb2 3).trans rfl
  have HSE := hide (seconded_0 N p win _ (castS S 0 (cmF F)) W2 (cmF F) hV2)
  rw [hW2.out]
  have HV2 := hide hV2
  have HM2 := hide hM2
  have HN : Hid (N ≤ W2.heap.size) := hide (by omega)
  have HOK2 := hide (HOK.out.cast 0 (cmF F))
  have HBL := hide hb2
  clear f1 f2 f3 f4 e1 e2 e3 e4 c00 c1 c2 c3 c4 c5 k0 k16 hV2 hM2 hW2 hx2 HV1 HB1 HB HBW HWs c0 hb2
  generalize hd : cmF F = d at *
  have d1 : F 3 = d.c := by rw [← hd]; rfl
  have d2 : F 4 = d.v := by rw [← hd]; rfl
  have d3 : F 5 = d.o := by rw [← hd]; rfl
  rw [d1] at v1
  rw [d2] at v2
  rw [d3] at v3
  rw [d1, d2, d3] at HBL ⊢
  clear d1 d2 d3
  cases hz : secTo (castS S 0 d).b (castS S 0 d).x d 0 3
  · rw [hz] at HSE
    have HRR := hide (unhide HR1 hz)
    clear HR1 HR2 hz
    go_wp2_with (go_at_call 193; refine HSE.out.mono ?_; rintro e w3 ⟨rfl, hB3⟩)
    go_ret2
    rw [HRR.out]
    exact ⟨_, _, rfl, .inl ⟨rfl, rfl⟩, HV2.out.below hB3, Moved.refl _ _, HM2.out.below hB3⟩
  · rw [hz] at HSE
    have HRR := hide (unhide HR2 hz)
    clear HR1 HR2 hz
    go_wp2_with (go_at_call 193; refine HSE.out.mono ?_)
    rintro e w3 ⟨rfl, hB3⟩
    have hV3 := HV2.out.below hB3
    have hb3 := (hB3.block _ (by omega)).trans HBL.out
    have HM3 := hide (HM2.out.below hB3)
    have s3 := hB3.size
    have u1 : w3.cell? ⟨w1.heap.size, 1, none⟩ = some (.int .i64 d.c) := (blk_cell hb3 1).trans rfl
    have u2 : w3.cell? ⟨w1.heap.size, 2, none⟩ = some (.int .i64 d.v) := (blk_cell hb3 2).trans rfl
    have u3 : w3.cell? ⟨w1.heap.size, 3, none⟩ = some (.int .i64 d.o) := (blk_cell hb3 3).trans rfl
    have HCO := hide (commit_any N p win _ (castS S 0 d) w3 d hV3 HOK2.out hl (by have := HN.out; omega))
    have HOK3 := hide (HOK2.out.commit hl d)
    have HS3 := hide (show w.heap.size ≤ w3.heap.size by omega)
    clear v0 v1 v2 v3 y1 HSE hV3 hb3 hB3 HBL HV2 HM2 HOK2
    go_wp2_with (go_at_call 194; refine HCO.out.mono ?_)
    rintro e w4 ⟨rfl, tv4, hV4, hmv4, hM4⟩
    have hlen : (commitS win (castS S 0 d) d).tr.length = n + 1 := by show (S.tr ++ [d]).length = n + 1; rw [List.length_append, hn.out]; rfl
    have hat : cmAt (commitS win (castS S 0 d) d).tr n = d := by
      show ((S.tr ++ [d])[n]?).getD cm0 = d
      rw [List.getElem?_append_right (by rw [hn.out]; exact Nat.le_refl _), hn.out, Nat.sub_self]
      rfl
    have hdn := done_any N p win tv4 _ w4 n hV4 HOK3.out (by omega)
    rw [hat] at hdn
    have HDN := hide hdn
    have HV4 := hide hV4
    have HMV : Hid (Moved w (.slice a S.tr.length cap) tv4) := hide fun g hg => (hmv4 g hg).imp id (fun h => Nat.le_trans HS3.out h)
    have HM4 := hide (HM3.out.then hM4 (fun _ _ h => h))
    clear hdn hat hlen hV4 hmv4 hM4 HM3 HCO u1 u2 u3 HOK3 HN
    go_wp2_with (first
      | (go_at_call 195; refine HDN.out.mono ?_; rintro e w5 ⟨rfl, hB5⟩)
      | (refine wpList_one_f rfl _ rfl (doneF n d) rfl _ rfl ?_))
    intro w6 HW6
    obtain ⟨hb6, _, hB6⟩ := HW6.out
    have hB46 : Below w4.heap.size w4 w6 := hB5.trans (hB6.mono hB5.size)
    have HFI := hide (FRow.one hb6)
    have HB46 := hide hB46
    clear hb6 hB6 hB46 hB5 HDN HW6
    go_wp2
    go_ret2
    rw [HRR.out, hn.out]
    rw [hn.out] at HM4 HMV
    exact ⟨_, _, rfl, HFI.out, HV4.out.below HB46.out, HMV.out, HM4.out.below HB46.out⟩
set_option maxHeartbeats 1000000 in
set_option maxRecDepth 20000 in
theorem take_61 (N p win : Nat) (tv : Value) (S : VS) (w : World) (F : FR) (h : VIs w N p win tv S) (hok : VOk win S) (hN : N ≤ w.heap.size) (hh : hearB S F = true) (hc : F 2 = (S.tr.length : Int)) (hk : F 0 = 2) (hl : S.lat = false) (hr : F 1 = 1) :
    Calls Tryz.prog 173 #[.pointer (some ⟨p, 0, none⟩), .agg (fCells F)] w (TakeEnd N p win tv w (takeF win S F)) := by
  obtain ⟨W, hW⟩ : ∃ W, Hid (w.alloc (.cells (fCells F) 36) = W) := ⟨_, hide rfl⟩
  have hBW : Below w.heap.size w W := by rw [← hW.out]; exact (Below.refl _ _).alloc (Nat.le_refl _) _
  have hbx : FIs W w.heap.size 36 F := by rw [← hW.out]; exact blk_new _ _
  have hV := h.below hBW
  have HC := hide (listens_any N p win tv S W F hV hok)
  obtain ⟨c0, _⟩ := h.cells
  have hp := h.lt
  have hf := hok.few
  obtain ⟨a, cap, rfl⟩ := h.row.shape
  have HBX := hide hbx
  have HBW := hide hBW
  have HV := hide hV
  have HOK := hide hok
  have HWs : Hid (W.heap.size = w.heap.size + 1) := hide (by rw [← hW.out]; simp)
  obtain ⟨n, hn⟩ : ∃ n, Hid (S.tr.length = n) := ⟨_, hide rfl⟩
  have hbx' : FIs (w.alloc (.cells (fCells F) 36)) w.heap.size 36 F := blk_new _ _
  have HBX' := hide hbx'
  rw [hh] at HC
  have hR1 := fun h4 => take_cast (win := win) hh (by rw [hc]; omega) (by unfold passB; rw [hc, hk, hl]; simp) h4
  have hR2 := fun h4 => take_commit (win := win) hh (by rw [hc]; omega) (by unfold passB; rw [hc, hk, hl]; simp) h4
  rw [hr] at hR1 hR2
  obtain ⟨R, hR⟩ : ∃ R, Hid (takeF win S F = R) := ⟨_, hide rfl⟩
  rw [hR.out] at hR1 hR2 ⊢
  have HR1 := hide hR1
  have HR2 := hide hR2
  clear hR1 hR2 hR
  rw [hn.out] at hc
  rw [hn.out] at c0 hf
  clear h hV hok hbx hbx' hBW
  go_enter Tryz.func173, Tryz.ntmps173
  go_wp2_with (first
    | (refine wpList_load_f rfl _ rfl w.heap.size rfl F HBX'.out ?_)
    | (go_at_call 191; rw [hW.out]; refine HC.out.mono ?_))
  rintro e w1 ⟨rfl, hB1⟩
  have HB1 := hide hB1
  have hB := HBW.out.trans (hB1.mono HBW.out.size)
  have HB := hide hB
  have hV1 := HV.out.below hB1
  have HV1 := hide hV1
  have hbx1 : FIs w1 w.heap.size 36 F := (hB1.block _ (by rw [HWs.out]; omega)).trans HBX.out
  have hs1 : w.heap.size < w1.heap.size := hbx1.lt
  have c1 := hbx1.at (k := 1) (by omega)
  have c2 := hbx1.at (k := 2) (by omega)
  have c00 := hbx1.at (k := 0) (by omega)
  have c3 := hbx1.at (k := 3) (by omega)
  have c4 := hbx1.at (k := 4) (by omega)
  have c5 := hbx1.at (k := 5) (by omega)
  obtain ⟨k0, k16⟩ := hV1.cells
  rw [hn.out] at k0
  have hp1 := hV1.lt
  clear hB1 hV1 hbx1 hB HC HBX HBX' HV hW
  rw [hc] at c2
  rw [hk] at c00
  rw [hl] at k16
  rw [hr] at c1
  have f1 := HV1.out.free 5
  have f2 := HV1.out.free 6
  have f3 := HV1.out.free 7
  have f4 := HV1.out.free 8
  have e1 : w1.cell? ⟨p, 5, none⟩ = some (.bool (S.b 1)) := (HV1.out.at 5).trans rfl
  have e2 : w1.cell? ⟨p, 6, none⟩ = some (.int .i64 (S.x 1).c) := (HV1.out.at 6).trans rfl
  have e3 : w1.cell? ⟨p, 7, none⟩ = some (.int .i64 (S.x 1).v) := (HV1.out.at 7).trans rfl
  have e4 : w1.cell? ⟨p, 8, none⟩ = some (.int .i64 (S.x 1).o) := (HV1.out.at 8).trans rfl
  go_wp2_with fail
  go_region
  obtain ⟨W2, hW2⟩ : ∃ W2, Hid ((((((w1.setCell ⟨p, 5, none⟩ (.bool true)).setCell ⟨p, 6, none⟩ (.int .i64 (F 3))).setCell ⟨p, 7, none⟩ (.int .i64 (F 4))).setCell ⟨p, 8, none⟩ (.int .i64 (F 5))).alloc (.cells #[.bool true, .int .i64 (F 3), .int .i64 (F 4), .int .i64 (F 5)] 145)).drew = W2) := ⟨_, hide rfl⟩
  have hV2 : VIs W2 N p win (.slice a S.tr.length cap) (castS S 1 (cmF F)) := by
    rw [← hW2.out]
    have h4 := (((HV1.out.put (S' := ⟨S.tr, upd S.b 1 true, S.x, S.left, S.out, S.lat⟩) 5 (.bool true) rfl rfl).put (S' := ⟨S.tr, upd S.b 1 true, upd S.x 1 ⟨F 3, (S.x 1).v, (S.x 1).o⟩, S.left, S.out, S.lat⟩) 6 (.int .i64 (F 3)) rfl rfl).put (S' := ⟨S.tr, upd S.b 1 true, upd S.x 1 ⟨F 3, F 4, (S.x 1).o⟩, S.left, S.out, S.lat⟩) 7 (.int .i64 (F 4)) rfl rfl).put (S' := castS S 1 (cmF F)) 8 (.int .i64 (F 5)) rfl rfl
    exact (h4.below ((Below.refl _ _).alloc (Nat.le_refl _) _)).drewN 1
  have hM2 : Mod w W2 (VB p (.slice a S.tr.length cap)) := by
    rw [← hW2.out]
    have m4 := ((((Mod.ofBelow HB.out (VB p (.slice a S.tr.length cap))).set ⟨p, 5, none⟩ (.bool true) (fun _ => .inl rfl)).set ⟨p, 6, none⟩ (.int .i64 (F 3)) (fun _ => .inl rfl)).set ⟨p, 7, none⟩ (.int .i64 (F 4)) (fun _ => .inl rfl)).set ⟨p, 8, none⟩ (.int .i64 (F 5)) (fun _ => .inl rfl)
    exact (m4.below ((Below.refl _ _).alloc (Nat.le_refl _) _)).drewN 1
  have hs2 : W2.heap.size = w1.heap.size + 1 := by rw [← hW2.out]; simp [World.drew, World.setCell]
  have hb2 : W2.heap[w1.heap.size]? = some (.cells #[.bool true, .int .i64 (F 3), .int .i64 (F 4), .int .i64 (F 5)] 145 (0, 0)) := by
    rw [← hW2.out]
    have := blk_new ((((w1.setCell ⟨p, 5, none⟩ (.bool true)).setCell ⟨p, 6, none⟩ (.int .i64 (F 3))).setCell ⟨p, 7, none⟩ (.int .i64 (F 4))).setCell ⟨p, 8, none⟩ (.int .i64 (F 5))) (.cells #[.bool true, .int .i64 (F 3), .int .i64 (F 4), .int .i64 (F 5)] 145)
    rw [show ((((w1.setCell ⟨p, 5, none⟩ (.bool true)).setCell ⟨p, 6, none⟩ (.int .i64 (F 3))).setCell ⟨p, 7, none⟩ (.int .i64 (F 4))).setCell ⟨p, 8, none⟩ (.int .i64 (F 5))).heap.size = w1.heap.size by simp [World.setCell]] at this
    exact this
  have hx2 : W2.heap[w.heap.size]? = w1.heap[w.heap.size]? := by
    rw [← hW2.out]
    refine (Below.heap_alloc _ _ _ (by simp [World.setCell]; omega)).trans ?_
    rw [Below.heap_setCell _ _ _ _ (by show _ ≠ p; omega), Below.heap_setCell _ _ _ _ (by show _ ≠ p; omega), Below.heap_setCell _ _ _ _ (by show _ ≠ p; omega), Below.heap_setCell _ _ _ _ (by show _ ≠ p; omega)]
  have y1 : W2.cell? ⟨w.heap.size, 1, none⟩ = some (.int .i64 1) := (World.cell?_of_block (w := w1) hx2).trans c1
  have v0 : W2.cell? ⟨w1.heap.size, 0, none⟩ = some (.bool true) := (blk_cell hb2 0).trans rfl
  have v1 : W2.cell? ⟨w1.heap.size, 1, none⟩ = some (.int .i64 (F 3)) := (blk_cell hb2 1).trans rfl
  have v2 : W2.cell? ⟨w1.heap.size, 2, none⟩ = some (.int .i64 (F 4)) := (blk_cell hb2 2).trans rfl
  have v3 : W2.cell? ⟨w1.heap.size, 3, none⟩ = some (.int .i64 (F 5)) := (blk_cell hb2 3).trans rfl
  have HSE := hide (seconded_1 N p win _ (castS S 1 (cmF F)) W2 (cmF F) hV2)
  rw [hW2.out]
  have HV2 := hide hV2
  have HM2 := hide hM2
  have HN : Hid (N ≤ W2.heap.size) := hide (by omega)
  have HOK2 := hide (HOK.out.cast 1 (cmF F))
  have HBL := hide hb2
  clear f1 f2 f3 f4 e1 e2 e3 e4 c00 c1 c2 c3 c4 c5 k0 k16 hV2 hM2 hW2 hx2 HV1 HB1 HB HBW HWs c0 hb2
  generalize hd : cmF F = d at *
  have d1 : F 3 = d.c := by rw [← hd]; rfl
  have d2 : F 4 = d.v := by rw [← hd]; rfl
  have d3 : F 5 = d.o := by rw [← hd]; rfl
  rw [d1] at v1
  rw [d2] at v2
  rw [d3] at v3
  rw [d1, d2, d3] at HBL ⊢
  clear d1 d2 d3
  cases hz : secTo (castS S 1 d).b (castS S 1 d).x d 1 3
  · rw [hz] at HSE
    have HRR := hide (unhide HR1 hz)
    clear HR1 HR2 hz
    go_wp2_with (go_at_call 193; refine HSE.out.mono ?_; rintro e w3 ⟨rfl, hB3⟩)
    go_ret2
    rw [HRR.out]
    exact ⟨_, _, rfl, .inl ⟨rfl, rfl⟩, HV2.out.below hB3, Moved.refl _ _, HM2.out.below hB3⟩
  · rw [hz] at HSE
    have HRR := hide (unhide HR2 hz)
    clear HR1 HR2 hz
    go_wp2_with (go_at_call 193; refine HSE.out.mono ?_)
    rintro e w3 ⟨rfl, hB3⟩
    have hV3 := HV2.out.below hB3
    have hb3 := (hB3.block _ (by omega)).trans HBL.out
    have HM3 := hide (HM2.out.below hB3)
    have s3 := hB3.size
    have u1 : w3.cell? ⟨w1.heap.size, 1, none⟩ = some (.int .i64 d.c) := (blk_cell hb3 1).trans rfl
    have u2 : w3.cell? ⟨w1.heap.size, 2, none⟩ = some (.int .i64 d.v) := (blk_cell hb3 2).trans rfl
    have u3 : w3.cell? ⟨w1.heap.size, 3, none⟩ = some (.int .i64 d.o) := (blk_cell hb3 3).trans rfl
    have HCO := hide (commit_any N p win _ (castS S 1 d) w3 d hV3 HOK2.out hl (by have := HN.out; omega))
    have HOK3 := hide (HOK2.out.commit hl d)
    have HS3 := hide (show w.heap.size ≤ w3.heap.size by omega)
    clear v0 v1 v2 v3 y1 HSE hV3 hb3 hB3 HBL HV2 HM2 HOK2
    go_wp2_with (go_at_call 194; refine HCO.out.mono ?_)
    rintro e w4 ⟨rfl, tv4, hV4, hmv4, hM4⟩
    have hlen : (commitS win (castS S 1 d) d).tr.length = n + 1 := by show (S.tr ++ [d]).length = n + 1; rw [List.length_append, hn.out]; rfl
    have hat : cmAt (commitS win (castS S 1 d) d).tr n = d := by
      show ((S.tr ++ [d])[n]?).getD cm0 = d
      rw [List.getElem?_append_right (by rw [hn.out]; exact Nat.le_refl _), hn.out, Nat.sub_self]
      rfl
    have hdn := done_any N p win tv4 _ w4 n hV4 HOK3.out (by omega)
    rw [hat] at hdn
    have HDN := hide hdn
    have HV4 := hide hV4
    have HMV : Hid (Moved w (.slice a S.tr.length cap) tv4) := hide fun g hg => (hmv4 g hg).imp id (fun h => Nat.le_trans HS3.out h)
    have HM4 := hide (HM3.out.then hM4 (fun _ _ h => h))
    clear hdn hat hlen hV4 hmv4 hM4 HM3 HCO u1 u2 u3 HOK3 HN
    go_wp2_with (first
      | (go_at_call 195; refine HDN.out.mono ?_; rintro e w5 ⟨rfl, hB5⟩)
      | (refine wpList_one_f rfl _ rfl (doneF n d) rfl _ rfl ?_))
    intro w6 HW6
    obtain ⟨hb6, _, hB6⟩ := HW6.out
    have hB46 : Below w4.heap.size w4 w6 := hB5.trans (hB6.mono hB5.size)
    have HFI := hide (FRow.one hb6)
    have HB46 := hide hB46
    clear hb6 hB6 hB46 hB5 HDN HW6
    go_wp2
    go_ret2
    rw [HRR.out, hn.out]
    rw [hn.out] at HM4 HMV
    exact ⟨_, _, rfl, HFI.out, HV4.out.below HB46.out, HMV.out, HM4.out.below HB46.out⟩
set_option maxHeartbeats 1000000 in
set_option maxRecDepth 20000 in
theorem take_62 (N p win : Nat) (tv : Value) (S : VS) (w : World) (F : FR) (h : VIs w N p win tv S) (hok : VOk win S) (hN : N ≤ w.heap.size) (hh : hearB S F = true) (hc : F 2 = (S.tr.length : Int)) (hk : F 0 = 2) (hl : S.lat = false) (hr : F 1 = 2) :
    Calls Tryz.prog 173 #[.pointer (some ⟨p, 0, none⟩), .agg (fCells F)] w (TakeEnd N p win tv w (takeF win S F)) := by
  obtain ⟨W, hW⟩ : ∃ W, Hid (w.alloc (.cells (fCells F) 36) = W) := ⟨_, hide rfl⟩
  have hBW : Below w.heap.size w W := by rw [← hW.out]; exact (Below.refl _ _).alloc (Nat.le_refl _) _
  have hbx : FIs W w.heap.size 36 F := by rw [← hW.out]; exact blk_new _ _
  have hV := h.below hBW
  have HC := hide (listens_any N p win tv S W F hV hok)
  obtain ⟨c0, _⟩ := h.cells
  have hp := h.lt
  have hf := hok.few
  obtain ⟨a, cap, rfl⟩ := h.row.shape
  have HBX := hide hbx
  have HBW := hide hBW
  have HV := hide hV
  have HOK := hide hok
  have HWs : Hid (W.heap.size = w.heap.size + 1) := hide (by rw [← hW.out]; simp)
  obtain ⟨n, hn⟩ : ∃ n, Hid (S.tr.length = n) := ⟨_, hide rfl⟩
  have hbx' : FIs (w.alloc (.cells (fCells F) 36)) w.heap.size 36 F := blk_new _ _
  have HBX' := hide hbx'
  rw [hh] at HC
  have hR1 := fun h4 => take_cast (win := win) hh (by rw [hc]; omega) (by unfold passB; rw [hc, hk, hl]; simp) h4
  have hR2 := fun h4 => take_commit (win := win) hh (by rw [hc]; omega) (by unfold passB; rw [hc, hk, hl]; simp) h4
  rw [hr] at hR1 hR2
  obtain ⟨R, hR⟩ : ∃ R, Hid (takeF win S F = R) := ⟨_, hide rfl⟩
  rw [hR.out] at hR1 hR2 ⊢
  have HR1 := hide hR1
  have HR2 := hide hR2
  clear hR1 hR2 hR
  rw [hn.out] at hc
  rw [hn.out] at c0 hf
  clear h hV hok hbx hbx' hBW
  go_enter Tryz.func173, Tryz.ntmps173
  go_wp2_with (first
    | (refine wpList_load_f rfl _ rfl w.heap.size rfl F HBX'.out ?_)
    | (go_at_call 191; rw [hW.out]; refine HC.out.mono ?_))
  rintro e w1 ⟨rfl, hB1⟩
  have HB1 := hide hB1
  have hB := HBW.out.trans (hB1.mono HBW.out.size)
  have HB := hide hB
  have hV1 := HV.out.below hB1
  have HV1 := hide hV1
  have hbx1 : FIs w1 w.heap.size 36 F := (hB1.block _ (by rw [HWs.out]; omega)).trans HBX.out
  have hs1 : w.heap.size < w1.heap.size := hbx1.lt
  have c1 := hbx1.at (k := 1) (by omega)
  have c2 := hbx1.at (k := 2) (by omega)
  have c00 := hbx1.at (k := 0) (by omega)
  have c3 := hbx1.at (k := 3) (by omega)
  have c4 := hbx1.at (k := 4) (by omega)
  have c5 := hbx1.at (k := 5) (by omega)
  obtain ⟨k0, k16⟩ := hV1.cells
  rw [hn.out] at k0
  have hp1 := hV1.lt
  clear hB1 hV1 hbx1 hB HC HBX HBX' HV hW
  rw [hc] at c2
  rw [hk] at c00
  rw [hl] at k16
  rw [hr] at c1
  have f1 := HV1.out.free 9
  have f2 := HV1.out.free 10
  have f3 := HV1.out.free 11
  have f4 := HV1.out.free 12
  have e1 : w1.cell? ⟨p, 9, none⟩ = some (.bool (S.b 2)) := (HV1.out.at 9).trans rfl
  have e2 : w1.cell? ⟨p, 10, none⟩ = some (.int .i64 (S.x 2).c) := (HV1.out.at 10).trans rfl
  have e3 : w1.cell? ⟨p, 11, none⟩ = some (.int .i64 (S.x 2).v) := (HV1.out.at 11).trans rfl
  have e4 : w1.cell? ⟨p, 12, none⟩ = some (.int .i64 (S.x 2).o) := (HV1.out.at 12).trans rfl
  go_wp2_with fail
  go_region
  obtain ⟨W2, hW2⟩ : ∃ W2, Hid ((((((w1.setCell ⟨p, 9, none⟩ (.bool true)).setCell ⟨p, 10, none⟩ (.int .i64 (F 3))).setCell ⟨p, 11, none⟩ (.int .i64 (F 4))).setCell ⟨p, 12, none⟩ (.int .i64 (F 5))).alloc (.cells #[.bool true, .int .i64 (F 3), .int .i64 (F 4), .int .i64 (F 5)] 145)).drew = W2) := ⟨_, hide rfl⟩
  have hV2 : VIs W2 N p win (.slice a S.tr.length cap) (castS S 2 (cmF F)) := by
    rw [← hW2.out]
    have h4 := (((HV1.out.put (S' := ⟨S.tr, upd S.b 2 true, S.x, S.left, S.out, S.lat⟩) 9 (.bool true) rfl rfl).put (S' := ⟨S.tr, upd S.b 2 true, upd S.x 2 ⟨F 3, (S.x 2).v, (S.x 2).o⟩, S.left, S.out, S.lat⟩) 10 (.int .i64 (F 3)) rfl rfl).put (S' := ⟨S.tr, upd S.b 2 true, upd S.x 2 ⟨F 3, F 4, (S.x 2).o⟩, S.left, S.out, S.lat⟩) 11 (.int .i64 (F 4)) rfl rfl).put (S' := castS S 2 (cmF F)) 12 (.int .i64 (F 5)) rfl rfl
    exact (h4.below ((Below.refl _ _).alloc (Nat.le_refl _) _)).drewN 1
  have hM2 : Mod w W2 (VB p (.slice a S.tr.length cap)) := by
    rw [← hW2.out]
    have m4 := ((((Mod.ofBelow HB.out (VB p (.slice a S.tr.length cap))).set ⟨p, 9, none⟩ (.bool true) (fun _ => .inl rfl)).set ⟨p, 10, none⟩ (.int .i64 (F 3)) (fun _ => .inl rfl)).set ⟨p, 11, none⟩ (.int .i64 (F 4)) (fun _ => .inl rfl)).set ⟨p, 12, none⟩ (.int .i64 (F 5)) (fun _ => .inl rfl)
    exact (m4.below ((Below.refl _ _).alloc (Nat.le_refl _) _)).drewN 1
  have hs2 : W2.heap.size = w1.heap.size + 1 := by rw [← hW2.out]; simp [World.drew, World.setCell]
  have hb2 : W2.heap[w1.heap.size]? = some (.cells #[.bool true, .int .i64 (F 3), .int .i64 (F 4), .int .i64 (F 5)] 145 (0, 0)) := by
    rw [← hW2.out]
    have := blk_new ((((w1.setCell ⟨p, 9, none⟩ (.bool true)).setCell ⟨p, 10, none⟩ (.int .i64 (F 3))).setCell ⟨p, 11, none⟩ (.int .i64 (F 4))).setCell ⟨p, 12, none⟩ (.int .i64 (F 5))) (.cells #[.bool true, .int .i64 (F 3), .int .i64 (F 4), .int .i64 (F 5)] 145)
    rw [show ((((w1.setCell ⟨p, 9, none⟩ (.bool true)).setCell ⟨p, 10, none⟩ (.int .i64 (F 3))).setCell ⟨p, 11, none⟩ (.int .i64 (F 4))).setCell ⟨p, 12, none⟩ (.int .i64 (F 5))).heap.size = w1.heap.size by simp [World.setCell]] at this
    exact this
  have hx2 : W2.heap[w.heap.size]? = w1.heap[w.heap.size]? := by
    rw [← hW2.out]
    refine (Below.heap_alloc _ _ _ (by simp [World.setCell]; omega)).trans ?_
    rw [Below.heap_setCell _ _ _ _ (by show _ ≠ p; omega), Below.heap_setCell _ _ _ _ (by show _ ≠ p; omega), Below.heap_setCell _ _ _ _ (by show _ ≠ p; omega), Below.heap_setCell _ _ _ _ (by show _ ≠ p; omega)]
  have y1 : W2.cell? ⟨w.heap.size, 1, none⟩ = some (.int .i64 2) := (World.cell?_of_block (w := w1) hx2).trans c1
  have v0 : W2.cell? ⟨w1.heap.size, 0, none⟩ = some (.bool true) := (blk_cell hb2 0).trans rfl
  have v1 : W2.cell? ⟨w1.heap.size, 1, none⟩ = some (.int .i64 (F 3)) := (blk_cell hb2 1).trans rfl
  have v2 : W2.cell? ⟨w1.heap.size, 2, none⟩ = some (.int .i64 (F 4)) := (blk_cell hb2 2).trans rfl
  have v3 : W2.cell? ⟨w1.heap.size, 3, none⟩ = some (.int .i64 (F 5)) := (blk_cell hb2 3).trans rfl
  have HSE := hide (seconded_2 N p win _ (castS S 2 (cmF F)) W2 (cmF F) hV2)
  rw [hW2.out]
  have HV2 := hide hV2
  have HM2 := hide hM2
  have HN : Hid (N ≤ W2.heap.size) := hide (by omega)
  have HOK2 := hide (HOK.out.cast 2 (cmF F))
  have HBL := hide hb2
  clear f1 f2 f3 f4 e1 e2 e3 e4 c00 c1 c2 c3 c4 c5 k0 k16 hV2 hM2 hW2 hx2 HV1 HB1 HB HBW HWs c0 hb2
  generalize hd : cmF F = d at *
  have d1 : F 3 = d.c := by rw [← hd]; rfl
  have d2 : F 4 = d.v := by rw [← hd]; rfl
  have d3 : F 5 = d.o := by rw [← hd]; rfl
  rw [d1] at v1
  rw [d2] at v2
  rw [d3] at v3
  rw [d1, d2, d3] at HBL ⊢
  clear d1 d2 d3
  cases hz : secTo (castS S 2 d).b (castS S 2 d).x d 2 3
  · rw [hz] at HSE
    have HRR := hide (unhide HR1 hz)
    clear HR1 HR2 hz
    go_wp2_with (go_at_call 193; refine HSE.out.mono ?_; rintro e w3 ⟨rfl, hB3⟩)
    go_ret2
    rw [HRR.out]
    exact ⟨_, _, rfl, .inl ⟨rfl, rfl⟩, HV2.out.below hB3, Moved.refl _ _, HM2.out.below hB3⟩
  · rw [hz] at HSE
    have HRR := hide (unhide HR2 hz)
    clear HR1 HR2 hz
    go_wp2_with (go_at_call 193; refine HSE.out.mono ?_)
    rintro e w3 ⟨rfl, hB3⟩
    have hV3 := HV2.out.below hB3
    have hb3 := (hB3.block _ (by omega)).trans HBL.out
    have HM3 := hide (HM2.out.below hB3)
    have s3 := hB3.size
    have u1 : w3.cell? ⟨w1.heap.size, 1, none⟩ = some (.int .i64 d.c) := (blk_cell hb3 1).trans rfl
    have u2 : w3.cell? ⟨w1.heap.size, 2, none⟩ = some (.int .i64 d.v) := (blk_cell hb3 2).trans rfl
    have u3 : w3.cell? ⟨w1.heap.size, 3, none⟩ = some (.int .i64 d.o) := (blk_cell hb3 3).trans rfl
    have HCO := hide (commit_any N p win _ (castS S 2 d) w3 d hV3 HOK2.out hl (by have := HN.out; omega))
    have HOK3 := hide (HOK2.out.commit hl d)
    have HS3 := hide (show w.heap.size ≤ w3.heap.size by omega)
    clear v0 v1 v2 v3 y1 HSE hV3 hb3 hB3 HBL HV2 HM2 HOK2
    go_wp2_with (go_at_call 194; refine HCO.out.mono ?_)
    rintro e w4 ⟨rfl, tv4, hV4, hmv4, hM4⟩
    have hlen : (commitS win (castS S 2 d) d).tr.length = n + 1 := by show (S.tr ++ [d]).length = n + 1; rw [List.length_append, hn.out]; rfl
    have hat : cmAt (commitS win (castS S 2 d) d).tr n = d := by
      show ((S.tr ++ [d])[n]?).getD cm0 = d
      rw [List.getElem?_append_right (by rw [hn.out]; exact Nat.le_refl _), hn.out, Nat.sub_self]
      rfl
    have hdn := done_any N p win tv4 _ w4 n hV4 HOK3.out (by omega)
    rw [hat] at hdn
    have HDN := hide hdn
    have HV4 := hide hV4
    have HMV : Hid (Moved w (.slice a S.tr.length cap) tv4) := hide fun g hg => (hmv4 g hg).imp id (fun h => Nat.le_trans HS3.out h)
    have HM4 := hide (HM3.out.then hM4 (fun _ _ h => h))
    clear hdn hat hlen hV4 hmv4 hM4 HM3 HCO u1 u2 u3 HOK3 HN
    go_wp2_with (first
      | (go_at_call 195; refine HDN.out.mono ?_; rintro e w5 ⟨rfl, hB5⟩)
      | (refine wpList_one_f rfl _ rfl (doneF n d) rfl _ rfl ?_))
    intro w6 HW6
    obtain ⟨hb6, _, hB6⟩ := HW6.out
    have hB46 : Below w4.heap.size w4 w6 := hB5.trans (hB6.mono hB5.size)
    have HFI := hide (FRow.one hb6)
    have HB46 := hide hB46
    clear hb6 hB6 hB46 hB5 HDN HW6
    go_wp2
    go_ret2
    rw [HRR.out, hn.out]
    rw [hn.out] at HM4 HMV
    exact ⟨_, _, rfl, HFI.out, HV4.out.below HB46.out, HMV.out, HM4.out.below HB46.out⟩
theorem take_any (N p win : Nat) (tv : Value) (S : VS) (w : World) (F : FR) (h : VIs w N p win tv S) (hok : VOk win S) (hN : N ≤ w.heap.size) :
    Calls Tryz.prog 173 #[.pointer (some ⟨p, 0, none⟩), .agg (fCells F)] w (TakeEnd N p win tv w (takeF win S F)) := by
  cases hh : hearB S F
  · exact take_1 N p win tv S w F h hok hN hh
  · obtain ⟨hk, ⟨h1, h3⟩, h2⟩ := hear_parts hh
    obtain ⟨c, hc⟩ := Int.eq_ofNat_of_zero_le h2
    rcases Nat.lt_trichotomy c S.tr.length with hlt | he | hgt
    · exact take_2 N p win tv S w F h hok hN hh c hc hlt
    · rw [he] at hc
      rcases hk with hk | hk
      · cases hl : S.lat
        · rcases (by omega : F 1 = 0 ∨ F 1 = 1 ∨ F 1 = 2) with hr | hr | hr
          · exact take_60 N p win tv S w F h hok hN hh hc hk hl hr
          · exact take_61 N p win tv S w F h hok hN hh hc hk hl hr
          · exact take_62 N p win tv S w F h hok hN hh hc hk hl hr
        · exact take_5 N p win tv S w F h hok hN hh hc hk hl
      · exact take_4 N p win tv S w F h hok hN hh hc hk
    · exact take_3 N p win tv S w F h hok hN hh c hc hgt
end Go.Proofs.YtaablbmgagiajabGreatDoor
namespace Go.Proofs.YtaablbmgagiajabGreatDoor
open Go.RowKit Go.Deep
def BytesIs (w : World) (u : Value) (l : List Nat) : Prop := (∀ x ∈ l, x < 256) ∧ ∃ a cap, u = .slice a l.length cap ∧ l.length ≤ cap ∧ (l = [] ∨ ∃ g off cs, a = some ⟨g, off, none⟩ ∧ w.heap[g]? = some (.cells cs 5 (0, 0)) ∧ ∀ i, i < l.length → cs[off + i]? = some (.int .u8 ((l[i]?.getD 0 : Nat) : Int)))
def TyAt (w : World) (k t : Nat) : Prop := ∃ cs f, w.heap[k]? = some (.cells cs t f)
theorem TyAt.ne {w : World} {a b s t : Nat} (h1 : TyAt w a s) (h2 : TyAt w b t) (h : s ≠ t) : a ≠ b := by
  obtain ⟨_, _, h1⟩ := h1
  obtain ⟨_, _, h2⟩ := h2
  exact type_ne h1 h2 h
theorem TyAt.lt {w : World} {a s : Nat} (h : TyAt w a s) : a < w.heap.size := by obtain ⟨_, _, h⟩ := h; exact blk_lt h
theorem BytesIs.isB {w : World} {u : Value} {l : List Nat} (h : BytesIs w u l) : ∃ a cap, u = .slice a l.length cap ∧ IsB w a l.length cap l := by
  obtain ⟨h1, a, cap, rfl, h2, h3⟩ := h
  refine ⟨a, cap, rfl, rfl, h2, h1, ?_⟩
  rcases h3 with h3 | ⟨g, off, cs, rfl, h4, h5⟩
  · exact .inl h3
  · exact .inr ⟨g, off, rfl, blk_lt h4, fun i hi => by rw [blk_cell h4]; exact h5 i hi⟩
theorem BytesIs.mod {w w' : World} {u : Value} {l : List Nat} {T : Nat → Prop} (h : BytesIs w u l) (hm : Mod w w' T) (hT : ∀ k, T k → ¬ TyAt w k 5) : BytesIs w' u l := by
  obtain ⟨h1, a, cap, rfl, h2, h3⟩ := h
  refine ⟨h1, a, cap, rfl, h2, ?_⟩
  rcases h3 with h3 | ⟨g, off, cs, rfl, h4, h5⟩
  · exact .inl h3
  · exact .inr ⟨g, off, cs, rfl, (hm.block g (blk_lt h4) (fun ht => hT g ht ⟨_, _, h4⟩)).trans h4, h5⟩
theorem BytesIs.below {w w' : World} {u : Value} {l : List Nat} (h : BytesIs w u l) (hB : Below w.heap.size w w') : BytesIs w' u l := h.mod (Mod.ofBelow hB (fun _ => False)) (fun _ hf => hf.elim)
theorem bytes_own {w : World} {N : Nat} {u : Value} {l : List Nat} (hb : ∀ x ∈ l, x < 256) (h : w.ownsRow N 5 1 u l.length (u8s l)) : BytesIs w u l := by
  refine ⟨hb, ?_⟩
  rcases h.2 with ⟨rfl, h0⟩ | ⟨g, cap, cur, rfl, h1, h2, h3, h4, h5, h6⟩
  · have : l = [] := List.length_eq_zero_iff.1 h0
    subst this
    exact ⟨none, 0, rfl, Nat.le_refl _, .inl rfl⟩
  · refine ⟨_, cap, rfl, h3, .inr ⟨g, 0, cur, rfl, h2, fun i hi => ?_⟩⟩
    rw [Nat.zero_add, ← Array.getElem?_toList]
    have e : (cur.toList.take (l.length * 1))[i]? = (u8s l)[i]? := by rw [h6]
    rw [List.getElem?_take, if_pos (by omega)] at e
    rw [e]
    unfold u8s
    rw [List.getElem?_map, List.getElem?_eq_getElem hi]
    rfl
theorem bytes_nil (w : World) (a : Option Addr) (cap : Nat) : BytesIs w (.slice a 0 cap) [] := ⟨fun _ hx => by simp at hx, a, cap, rfl, Nat.zero_le _, .inl rfl⟩
def pkC (p : Pk) (u : Value) : List Value := [.int .i64 (p.src : Int), .int .i64 (p.dst : Int), u]
def pkL : List Pk → List Value → List Value
  | [], _ => []
  | p :: r, us => pkC p (us.headD undef) ++ pkL r us.tail
theorem pkL_length : ∀ (l : List Pk) (us : List Value), (pkL l us).length = l.length * 3
  | [], _ => rfl
  | p :: r, us => by rw [pkL, List.length_append, pkL_length r]; simp [pkC]; omega
theorem pkL_app : ∀ (l m : List Pk) (us vs : List Value), us.length = l.length → pkL (l ++ m) (us ++ vs) = pkL l us ++ pkL m vs
  | [], m, us, vs, h => by
    have : us = [] := List.length_eq_zero_iff.1 (by simpa using h)
    subst this; rfl
  | p :: r, m, us, vs, h => by
    cases us with
    | nil => simp at h
    | cons u us => rw [List.cons_append, List.cons_append, pkL, pkL, List.append_assoc]; simp only [List.headD_cons, List.tail_cons]; rw [pkL_app r m us vs (by simpa using h)]
theorem pkL_at : ∀ (l : List Pk) (us : List Value) (k j : Nat), us.length = l.length → k < l.length → j < 3 → (pkL l us)[k * 3 + j]? = (pkC (pkAt l k) (us[k]?.getD undef))[j]?
  | [], _, k, _, _, hk, _ => by simp at hk
  | p :: r, us, k, j, h, hk, hj => by
    cases us with
    | nil => simp at h
    | cons u us =>
      cases k with
      | zero =>
        rw [pkL, List.getElem?_append_left (by simp [pkC]; omega), Nat.zero_mul, Nat.zero_add]
        rfl
      | succ k =>
        rw [pkL, List.getElem?_append_right (by simp [pkC]; omega), show (k + 1) * 3 + j - (pkC p ((u :: us).headD undef)).length = k * 3 + j by simp [pkC]; omega]
        simp only [List.tail_cons]
        rw [pkL_at r us k j (by simpa using h) (by simpa using hk) hj]
        rfl
theorem pkL_erase : ∀ (l : List Pk) (us : List Value) (i : Nat), us.length = l.length → i < l.length → pkL (l.eraseIdx i) (us.eraseIdx i) = (pkL l us).take (i * 3) ++ (pkL l us).drop ((i + 1) * 3)
  | [], _, i, _, hi => by simp at hi
  | p :: r, us, i, h, hi => by
    cases us with
    | nil => simp at h
    | cons u us =>
      cases i with
      | zero =>
        rw [List.eraseIdx_cons_zero, List.eraseIdx_cons_zero, pkL]
        simp [pkC]
      | succ i =>
        rw [List.eraseIdx_cons_succ, List.eraseIdx_cons_succ, pkL, pkL]
        simp only [List.headD_cons, List.tail_cons]
        rw [pkL_erase r us i (by simpa using h) (by simpa using hi)]
        have e1 : (pkC p u).length = 3 := rfl
        have e2 : List.take ((i + 1) * 3) (pkC p u) = pkC p u := List.take_of_length_le (by rw [e1]; omega)
        have e3 : List.drop ((i + 1 + 1) * 3) (pkC p u) = [] := List.drop_eq_nil_of_le (by rw [e1]; omega)
        rw [List.take_append, List.drop_append, e1, e2, e3, show (i + 1) * 3 - 3 = i * 3 by omega, show (i + 1 + 1) * 3 - 3 = (i + 1) * 3 by omega, List.nil_append, List.append_assoc]
structure NetIs (w : World) (N : Nat) (nv : Value) (l : List Pk) (us : List Value) : Prop where
  row : w.ownsRow N 134 3 nv l.length (pkL l us)
  len : us.length = l.length
  byt : ∀ i, i < l.length → BytesIs w (us[i]?.getD undef) (pkAt l i).b
theorem pk_one {w : World} {l : List Pk} {us : List Value} (h : us.length = l.length) (hb : ∀ i, i < l.length → BytesIs w (us[i]?.getD undef) (pkAt l i).b) : ∀ u ∈ pkL l us, u.oneCell' = true := by
  intro u hu
  obtain ⟨i, hi, rfl⟩ := List.getElem_of_mem hu
  rw [pkL_length] at hi
  have e := pkL_at l us (i / 3) (i % 3) h (by omega) (by omega)
  rw [show i / 3 * 3 + i % 3 = i by omega, List.getElem?_eq_getElem (by rw [pkL_length]; exact hi)] at e
  obtain ⟨_, a, cap, hv, _⟩ := hb (i / 3) (by omega)
  rw [hv] at e
  have hm : i % 3 = 0 ∨ i % 3 = 1 ∨ i % 3 = 2 := by omega
  rcases hm with m | m | m <;> rw [m] at e <;> simp [pkC] at e <;> rw [e] <;> rfl
structure SC where
  p : Nat
  g0 : Nat
  c0 : Nat
  rp : Nat → Nat
  C : Nat → RC
  vp : Nat
  tv : Value
  nv : Value
  us : List Value
  lost : Int
def syCells (D : SC) (L : RC) : Array Value := #[.int .i64 (L.s : Int), .slice (some ⟨D.g0, 0, none⟩) L.n D.c0, .int .i64 (L.d : Int), .pointer (some ⟨D.rp 0, 0, none⟩), .pointer (some ⟨D.rp 1, 0, none⟩), .pointer (some ⟨D.rp 2, 0, none⟩), .pointer (some ⟨D.vp, 0, none⟩), D.nv, .int .i64 D.lost]
def Wr (D : SC) (k : Nat) : Prop := k = D.p ∨ D.nv.ownBlock = some k ∨ (∃ j, j < 3 ∧ k = D.rp j) ∨ k = D.vp ∨ D.tv.ownBlock = some k
def Sta (D : SC) (k : Nat) : Prop := k = D.g0 ∨ ∃ j, j < 3 ∧ (k = (D.C j).pc ∨ k = (D.C j).g ∨ k = (D.C j).M ∨ k = (D.C j).g2)
structure LineIs (C L : RC) : Prop where
  s : C.s = L.s
  d : C.d = L.d
  n : C.n = L.n
  zs : C.zs = L.zs
structure SyIs (w : World) (N : Nat) (D : SC) (L : RC) (win : Nat) (S : SY) : Prop where
  blk : w.heap[D.p]? = some (.cells (syCells D L) 90 (0, 0))
  row : Row w D.g0 0 L.zs
  lt0 : D.g0 < w.heap.size
  cap0 : L.n ≤ D.c0
  rp : ∀ k, k < 3 → RpIs w (D.rp k) (D.C k) (S.rp k)
  ln : ∀ k, k < 3 → LineIs (D.C k) L
  ne : ∀ i j, i < 3 → j < 3 → i ≠ j → D.rp i ≠ D.rp j
  vt : VIs w N D.vp win D.tv S.v
  net : NetIs w N D.nv S.net D.us
  sep : ∀ x y, Wr D x → Sta D y → x ≠ y
  base : ∀ x, Wr D x → N ≤ x
  sbase : ∀ y, Sta D y → N ≤ y
section
variable {w w' : World} {N win : Nat} {D : SC} {L : RC} {S : SY}
theorem SyIs.lt (h : SyIs w N D L win S) : D.p < w.heap.size := blk_lt h.blk
theorem NetIs.own {nv : Value} {l : List Pk} {us : List Value} (h : NetIs w N nv l us) {g : Nat} (hg : nv.ownBlock = some g) : ∃ cur, w.heap[g]? = some (.cells cur 134 (0, 0)) := by
  rcases h.row.2 with ⟨rfl, h1⟩ | ⟨g', cap, cur, rfl, h1, h2, _⟩
  · simp [Value.ownBlock] at hg
  · simp only [Value.ownBlock, Option.some.injEq] at hg
    subst hg
    exact ⟨cur, h2⟩
theorem SyIs.tyP (h : SyIs w N D L win S) : TyAt w D.p 90 := ⟨_, _, h.blk⟩
theorem SyIs.tyN (h : SyIs w N D L win S) {g : Nat} (hg : D.nv.ownBlock = some g) : TyAt w g 134 := by obtain ⟨c, e⟩ := h.net.own hg; exact ⟨_, _, e⟩
theorem SyIs.tyR (h : SyIs w N D L win S) {j : Nat} (hj : j < 3) : TyAt w (D.rp j) 160 := by obtain ⟨cs, e, _⟩ := (h.rp j hj).blk; exact ⟨_, _, e⟩
theorem SyIs.tyV (h : SyIs w N D L win S) : TyAt w D.vp 148 := ⟨_, _, h.vt.blk⟩
theorem SyIs.tyT (h : SyIs w N D L win S) {g : Nat} (hg : D.tv.ownBlock = some g) : TyAt w g 49 := by obtain ⟨_, c, e⟩ := h.vt.row.own hg; exact ⟨_, _, e⟩
theorem SyIs.wrLt (h : SyIs w N D L win S) {k : Nat} (hk : Wr D k) : k < w.heap.size := by
  rcases hk with rfl | hk | ⟨j, hj, rfl⟩ | rfl | hk
  · exact h.tyP.lt
  · exact (h.tyN hk).lt
  · exact (h.tyR hj).lt
  · exact h.tyV.lt
  · exact (h.tyT hk).lt
theorem SyIs.wrByte (h : SyIs w N D L win S) {k : Nat} (hk : Wr D k) : ¬ TyAt w k 5 := by
  intro hb
  rcases hk with rfl | hk | ⟨j, hj, rfl⟩ | rfl | hk
  · exact h.tyP.ne hb (by decide) rfl
  · exact (h.tyN hk).ne hb (by decide) rfl
  · exact (h.tyR hj).ne hb (by decide) rfl
  · exact h.tyV.ne hb (by decide) rfl
  · exact (h.tyT hk).ne hb (by decide) rfl
theorem SyIs.staLt (h : SyIs w N D L win S) {k : Nat} (hk : Sta D k) : k < w.heap.size := by
  rcases hk with rfl | ⟨j, hj, rfl | rfl | rfl | rfl⟩
  · exact h.lt0
  · exact (h.rp j hj).core.plt
  · exact (h.rp j hj).core.glt
  · exact (h.rp j hj).core.mlt
  · exact (h.rp j hj).lt2
theorem SyIs.bytes (h : SyIs w N D L win S) {i : Nat} (hi : i < S.net.length) : BytesIs w (D.us[i]?.getD undef) (pkAt S.net i).b := h.net.byt i hi
theorem RpIs.staged {p : Nat} {C : RC} {R : RS} (h : RpIs w p C R) {T : Nat → Prop} (hm : Mod w w' T) (hp : ¬ T p) (hT : ∀ k, k = C.pc ∨ k = C.g ∨ k = C.M ∨ k = C.g2 → ¬ T k) : RpIs w' p C R := by
  have e : ∀ k, k < w.heap.size → ¬ T k → w'.heap[k]? = w.heap[k]? := fun k hk hp => hm.block k hk hp
  refine ⟨h.blk.same (e _ h.lt hp), h.core.blocks hm.size ?_, fun k hk => (World.cell?_of_block (w := w) (e _ h.lt2 (hT _ (.inr (.inr (.inr rfl)))))).trans (h.row k hk), Nat.lt_of_lt_of_le h.lt2 hm.size, h.cap2, h.ap⟩
  rintro k (rfl | rfl | rfl)
  · exact e _ h.core.plt (hT _ (.inl rfl))
  · exact e _ h.core.glt (hT _ (.inr (.inl rfl)))
  · exact e _ h.core.mlt (hT _ (.inr (.inr (.inl rfl))))
theorem NetIs.mod {nv : Value} {l : List Pk} {us : List Value} (h : NetIs w N nv l us) {T : Nat → Prop} (hm : Mod w w' T) (hn : ∀ g, nv.ownBlock = some g → ¬ T g) (hb : ∀ k, T k → ¬ TyAt w k 5) : NetIs w' N nv l us := by
  refine ⟨⟨h.row.1, ?_⟩, h.len, fun i hi => (h.byt i hi).mod hm hb⟩
  rcases h.row.2 with h2 | ⟨g, cap, cur, rfl, h3, h4, h5⟩
  · exact .inl h2
  · exact .inr ⟨g, cap, cur, rfl, h3, (hm.block g (blk_lt h4) (hn g rfl)).trans h4, h5⟩
theorem SyIs.part (h : SyIs w N D L win S) {T : Nat → Prop} (hm : Mod w w' T) (hT : ∀ k, T k → Wr D k) :
    (¬ T D.p → w'.heap[D.p]? = some (.cells (syCells D L) 90 (0, 0))) ∧ (Row w' D.g0 0 L.zs ∧ D.g0 < w'.heap.size) ∧ (∀ k, k < 3 → ¬ T (D.rp k) → RpIs w' (D.rp k) (D.C k) (S.rp k)) ∧
    ((∀ k, VB D.vp D.tv k → ¬ T k) → VIs w' N D.vp win D.tv S.v) ∧ ((∀ g, D.nv.ownBlock = some g → ¬ T g) → NetIs w' N D.nv S.net D.us) := by
  have hst : ∀ k, Sta D k → ¬ T k := fun k hk ht => h.sep k k (hT k ht) hk rfl
  refine ⟨fun hp => (hm.block _ h.lt hp).trans h.blk, ⟨fun k hk => (World.cell?_of_block (w := w) (hm.block _ h.lt0 (hst _ (.inl rfl)))).trans (h.row k hk), Nat.lt_of_lt_of_le h.lt0 hm.size⟩, fun k hk hp => (h.rp k hk).staged hm hp fun j hj => hst j (.inr ⟨k, hk, hj⟩), fun hv => h.vt.move hm hv, fun hn => h.net.mod hm hn fun k hk => h.wrByte (hT k hk)⟩
theorem SyIs.below (h : SyIs w N D L win S) (hB : Below w.heap.size w w') : SyIs w' N D L win S := by
  obtain ⟨h1, ⟨h2, h3⟩, h4, h5, h6⟩ := h.part (Mod.ofBelow hB (fun _ => False)) (fun _ hf => hf.elim)
  exact ⟨h1 (fun x => x), h2, h3, h.cap0, fun k hk => h4 k hk (fun x => x), h.ln, h.ne, h5 (fun _ _ x => x), h6 (fun _ _ x => x), h.sep, h.base, h.sbase⟩
structure Gr (n : Nat) (D D' : SC) : Prop where
  wr : ∀ k, Wr D' k → Wr D k ∨ n ≤ k
  st : ∀ k, Sta D' k → Sta D k ∨ n ≤ k
theorem Gr.refl (n : Nat) (D : SC) : Gr n D D := ⟨fun _ x => .inl x, fun _ x => .inl x⟩
theorem Gr.le {n m : Nat} {D D' : SC} (h : Gr n D D') (hm : m ≤ n) : Gr m D D' := ⟨fun k hk => (h.wr k hk).imp id fun x => Nat.le_trans hm x, fun k hk => (h.st k hk).imp id fun x => Nat.le_trans hm x⟩
theorem Gr.trans {n m : Nat} {D D1 D2 : SC} (h : Gr n D D1) (g : Gr m D1 D2) (hm : n ≤ m) : Gr n D D2 := by
  refine ⟨fun k hk => ?_, fun k hk => ?_⟩
  · rcases g.wr k hk with x | x
    · exact h.wr k x
    · exact .inr (Nat.le_trans hm x)
  · rcases g.st k hk with x | x
    · exact h.st k x
    · exact .inr (Nat.le_trans hm x)
def SyGo (w w' : World) (N : Nat) (D : SC) (L : RC) (win : Nat) (S' : SY) : Prop := ∃ D', D'.p = D.p ∧ SyIs w' N D' L win S' ∧ Mod w w' (Wr D) ∧ Gr w.heap.size D D'
theorem SyIs.goes (h : SyIs w N D L win S) : SyGo w w N D L win S := ⟨D, rfl, h, Mod.refl _ _, Gr.refl _ _⟩
theorem SyGo.pre {w0 : World} {S' : SY} (h : SyGo w w' N D L win S') (hB : Below w0.heap.size w0 w) : SyGo w0 w' N D L win S' := by
  obtain ⟨D', e, h1, h2, h3⟩ := h
  exact ⟨D', e, h1, (Mod.ofBelow hB (Wr D)).then h2 (fun _ _ x => x), h3.le hB.size⟩
theorem SyGo.below {w2 : World} {S' : SY} (h : SyGo w w' N D L win S') (hB : Below w'.heap.size w' w2) : SyGo w w2 N D L win S' := by
  obtain ⟨D', e, h1, h2, h3⟩ := h
  exact ⟨D', e, h1.below hB, h2.below hB, h3⟩
theorem SyGo.then {w2 : World} {S2 : SY} {D1 : SC} (hp : D1.p = D.p) (hm : Mod w w' (Wr D)) (hg : Gr w.heap.size D D1) (h : SyGo w' w2 N D1 L win S2) : SyGo w w2 N D L win S2 := by
  obtain ⟨D', e, h1, h2, h3⟩ := h
  refine ⟨D', e.trans hp, h1, hm.then h2 (fun i hi hw => ?_), hg.trans h3 hm.size⟩
  rcases hg.wr i hw with x | x
  · exact x
  · omega
theorem SyIs.putR (h : SyIs w N D L win S) {k : Nat} (hk : k < 3) {R : RS} (hm : Mod w w' (· = D.rp k)) (hR : RpIs w' (D.rp k) (D.C k) R) : SyIs w' N D L win ⟨upd S.rp k R, S.v, S.net⟩ ∧ Mod w w' (Wr D) := by
  have hT : ∀ j, j = D.rp k → Wr D j := fun j hj => .inr (.inr (.inl ⟨k, hk, hj⟩))
  obtain ⟨h1, ⟨h2, h3⟩, h4, h5, h6⟩ := h.part hm hT
  refine ⟨⟨h1 (fun e => h.tyP.ne (h.tyR hk) (by decide) e), h2, h3, h.cap0, fun j hj => ?_, h.ln, h.ne, h5 fun j hj e => ?_, h6 fun g hg e => (h.tyN hg).ne (h.tyR hk) (by decide) e, h.sep, h.base, h.sbase⟩, hm.mono fun i _ hi => hT i hi⟩
  · show RpIs w' (D.rp j) (D.C j) (upd S.rp k R j)
    by_cases e : j = k
    · subst e; rw [upd_same]; exact hR
    · rw [upd_other _ _ e]; exact h4 j hj (h.ne j k hj hk e)
  · rcases hj with rfl | hj
    · exact h.tyV.ne (h.tyR hk) (by decide) e
    · exact (h.tyT hj).ne (h.tyR hk) (by decide) e
theorem SyIs.putV (h : SyIs w N D L win S) {V : VS} {tv' : Value} (hm : Mod w w' (VB D.vp D.tv)) (hV : VIs w' N D.vp win tv' V) (hmv : Moved w D.tv tv') : SyGo w w' N D L win ⟨S.rp, V, S.net⟩ := by
  have hT : ∀ j, VB D.vp D.tv j → Wr D j := fun j hj => .inr (.inr (.inr hj))
  obtain ⟨h1, ⟨h2, h3⟩, h4, h5, h6⟩ := h.part hm hT
  have hw : ∀ k, Wr ⟨D.p, D.g0, D.c0, D.rp, D.C, D.vp, tv', D.nv, D.us, D.lost⟩ k → Wr D k ∨ w.heap.size ≤ k := fun k hk => by
    rcases hk with x | x | x | x | x
    · exact .inl (.inl x)
    · exact .inl (.inr (.inl x))
    · exact .inl (.inr (.inr (.inl x)))
    · exact .inl (.inr (.inr (.inr (.inl x))))
    · rcases hmv k x with y | y
      · exact .inl (.inr (.inr (.inr (.inr y))))
      · exact .inr y
  refine ⟨⟨D.p, D.g0, D.c0, D.rp, D.C, D.vp, tv', D.nv, D.us, D.lost⟩, rfl, ⟨h1 fun e => ?_, h2, h3, h.cap0, fun k hk => h4 k hk fun e => ?_, h.ln, h.ne, hV, h6 fun g hg e => ?_, fun x y hx hy e => ?_, fun x hx => ?_, fun y hy => h.sbase y hy⟩, hm.mono fun i _ hi => hT i hi, hw, fun _ x => .inl x⟩
  · rcases e with e | e
    · exact h.tyP.ne h.tyV (by decide) e
    · exact h.tyP.ne (h.tyT e) (by decide) rfl
  · rcases e with e | e
    · exact (h.tyR hk).ne h.tyV (by decide) e
    · exact (h.tyR hk).ne (h.tyT e) (by decide) rfl
  · rcases e with e | e
    · exact (h.tyN hg).ne h.tyV (by decide) e
    · exact (h.tyN hg).ne (h.tyT e) (by decide) rfl
  · rcases hw x hx with z | z
    · exact h.sep x y z hy e
    · have := h.staLt (k := y) hy
      omega
  · rcases hx with x' | x' | x' | x' | x'
    · exact h.base x (.inl x')
    · exact h.base x (.inr (.inl x'))
    · exact h.base x (.inr (.inr (.inl x')))
    · exact h.base x (.inr (.inr (.inr (.inl x'))))
    · exact (hV.row.own x').1
def NB (D : SC) (k : Nat) : Prop := k = D.p ∨ D.nv.ownBlock = some k
theorem SyIs.putN (h : SyIs w N D L win S) {l : List Pk} {nv' : Value} {us' : List Value} {lost' : Int} (hm : Mod w w' (NB D)) (hb : w'.heap[D.p]? = some (.cells (syCells ⟨D.p, D.g0, D.c0, D.rp, D.C, D.vp, D.tv, nv', us', lost'⟩ L) 90 (0, 0)))
    (hN : NetIs w' N nv' l us') (hmv : ∀ g, nv'.ownBlock = some g → D.nv.ownBlock = some g ∨ w.heap.size ≤ g) : SyGo w w' N D L win ⟨S.rp, S.v, l⟩ := by
  have hT : ∀ j, NB D j → Wr D j := fun j hj => hj.imp id .inl
  obtain ⟨_, ⟨h2, h3⟩, h4, h5, _⟩ := h.part hm hT
  have hw : ∀ k, Wr ⟨D.p, D.g0, D.c0, D.rp, D.C, D.vp, D.tv, nv', us', lost'⟩ k → Wr D k ∨ w.heap.size ≤ k := fun k hk => by
    rcases hk with x | x | x | x | x
    · exact .inl (.inl x)
    · rcases hmv k x with y | y
      · exact .inl (.inr (.inl y))
      · exact .inr y
    · exact .inl (.inr (.inr (.inl x)))
    · exact .inl (.inr (.inr (.inr (.inl x))))
    · exact .inl (.inr (.inr (.inr (.inr x))))
  refine ⟨⟨D.p, D.g0, D.c0, D.rp, D.C, D.vp, D.tv, nv', us', lost'⟩, rfl, ⟨hb, h2, h3, h.cap0, fun k hk => h4 k hk fun e => ?_, h.ln, h.ne, h5 fun k hk e => ?_, hN, fun x y hx hy e => ?_, fun x hx => ?_, fun y hy => h.sbase y hy⟩, hm.mono fun i _ hi => hT i hi, hw, fun _ x => .inl x⟩
  · rcases e with e | e
    · exact (h.tyR hk).ne h.tyP (by decide) e
    · exact (h.tyR hk).ne (h.tyN e) (by decide) rfl
  · rcases e with e | e
    · rcases hk with hk | hk
      · exact h.tyV.ne h.tyP (by decide) (hk.symm.trans e)
      · exact (h.tyT hk).ne h.tyP (by decide) e
    · rcases hk with hk | hk
      · exact h.tyV.ne (h.tyN e) (by decide) hk.symm
      · exact (h.tyT hk).ne (h.tyN e) (by decide) rfl
  · rcases hw x hx with z | z
    · exact h.sep x y z hy e
    · have := h.staLt (k := y) hy
      omega
  · rcases hx with x' | x' | x' | x' | x'
    · exact h.base x (.inl x')
    · have := hN.row.2
      rcases this with ⟨e, _⟩ | ⟨g, cap, cur, e, h1, _⟩
      · have e' : nv' = .slice none 0 0 := e
        rw [show (⟨D.p, D.g0, D.c0, D.rp, D.C, D.vp, D.tv, nv', us', lost'⟩ : SC).nv = nv' from rfl, e'] at x'
        simp [Value.ownBlock] at x'
      · rw [show (⟨D.p, D.g0, D.c0, D.rp, D.C, D.vp, D.tv, nv', us', lost'⟩ : SC).nv = nv' from rfl, e] at x'
        simp only [Value.ownBlock, Option.some.injEq] at x'
        omega
    · exact h.base x (.inr (.inr (.inl x')))
    · exact h.base x (.inr (.inr (.inr (.inl x'))))
    · exact h.base x (.inr (.inr (.inr (.inr x'))))
theorem SyIs.at (h : SyIs w N D L win S) (k : Nat) : w.cell? ⟨D.p, k, none⟩ = (syCells D L)[k]? := blk_cell h.blk k
theorem SyIs.free (h : SyIs w N D L win S) (k : Nat) : w.frozen? ⟨D.p, k, none⟩ = false := blk_free h.blk k
theorem SyIs.drewN (h : SyIs w N D L win S) (n : Nat) : SyIs (w.drewN n) N D L win S := h.below ⟨rfl, rfl, rfl, Nat.le_refl _, fun _ _ => rfl⟩
theorem SyIs.drew (h : SyIs w N D L win S) : SyIs w.drew N D L win S := h.below (Below.refl _ _).drew
end
end Go.Proofs.YtaablbmgagiajabGreatDoor
