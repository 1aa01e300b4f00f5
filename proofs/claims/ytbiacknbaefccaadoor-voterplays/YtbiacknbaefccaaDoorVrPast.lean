/- The contract of the reference's Take: what was committed is told; what is passed by. -/
import Derived.Test.YtbiacknbaefccaaDoorVrNo
namespace Go.Proofs.YtbiacknbaefccaaDoor
open Go.RowKit Go.Deep Go.Maps

set_option maxHeartbeats 1000000 in
set_option maxRecDepth 20000 in
theorem rtake_p2 (N q win : Nat) (tv : Value) (mv mo : Nat) (S : VS) (w : World) (F : FR) (h : RIs w N q win tv mv mo S) (hok : VOk win S) (_ : N ≤ w.heap.size) (hh : hearB S F = true) (hk : F 0 = 2) (r : Nat) (hr : F 1 = (r : Int)) (hr3 : r < 3) (c : Nat) (hc : F 2 = (c : Int)) (hlt : c < S.tr.length) :
    Calls Tryd.prog 41 #[.pointer (some ⟨q, 0, none⟩), .agg (fCells F)] w (RTakeEnd N q win tv mv mo w (takeF win S F)) := by
  have hz : S.out.testBit r = false := by
    unfold hearB at hh
    rw [hr, Int.toNat_natCast] at hh
    simp at hh
    exact hh.2.2.1
  have g0 := fCells_at F 0 (by omega)
  have g1 := fCells_at F 1 (by omega)
  have g2 := fCells_at F 2 (by omega)
  have hq := h.lt
  have hf := hok.few
  have k4 : w.cell? ⟨q, 4, none⟩ = some (.map (some mo)) := (h.at 4).trans rfl
  have HRI := hide h
  have HOK := hide hok
  obtain ⟨a, cap, rfl⟩ := h.row.shape
  obtain ⟨n, hn⟩ : ∃ n, Hid (S.tr.length = n) := ⟨_, hide rfl⟩
  rw [take_past hh (by rw [hc]; exact Int.ofNat_lt.2 hlt), hc, Int.toNat_natCast]
  have HLT := hide hlt
  rw [hn.out] at hlt
  rw [hn.out] at hf
  rw [hk] at g0
  rw [hr] at g1
  rw [hc] at g2
  have hin : inB (r : Int) 0 2 = true := by unfold inB; simp; omega
  have hlk : ∀ n, (Instr.lookup 103 (.map (some mo)) (.int .i64 (r : Int)) false).run Tryd.prog ((w.alloc (.cells (fCells F) 67)).drewN n) = .ok (.bool false) ((w.alloc (.cells (fCells F) 67)).drewN n) := fun n => by
    have := ((h.below (box_below w (.cells (fCells F) 67) n)).outs).look (k := r) (by omega)
    rw [hz] at this
    exact this
  clear hz h hok hh
  go_enter Tryd.func41, Tryd.ntmps41
  go_wp2_with fail
  go_quiet ((go_at_call 53; exact Calls.quiet_of_same (in_any _ _ _ _)))
  have hB1 := box_below w (.cells (fCells F) 67) nq
  have hbx1 : FIs ((w.alloc (.cells (fCells F) 67)).drewN nq) w.heap.size 67 F := blk_new _ _
  clear hlk k4
  generalize ((w.alloc (.cells (fCells F) 67)).drewN nq) = w1 at hB1 hbx1 ⊢
  have hI1 := HRI.out.below hB1
  have HI1 := hide hI1
  have HB1 := hide hB1
  have HBX := hide hbx1
  have hs1 : w.heap.size < w1.heap.size := hbx1.lt
  have c0 := hbx1.at (k := 0) (by omega)
  have c1 := hbx1.at (k := 1) (by omega)
  have c2 := hbx1.at (k := 2) (by omega)
  rw [hk] at c0
  rw [hr] at c1
  rw [hc] at c2
  have k2 : w1.cell? ⟨q, 2, none⟩ = some (.slice a n cap) := (hI1.at 2).trans (by rw [← hn.out]; rfl)
  have k5 : w1.cell? ⟨q, 5, none⟩ = some (.bool S.lat) := (hI1.at 5).trans rfl
  have hq1 := hI1.lt
  have HRI0 := HRI
  clear hB1 hbx1 hI1 g0 g1 g2 HRI hin
  obtain ⟨L, hL⟩ : ∃ L, Hid (pastF S.tr c = L) := ⟨_, hide rfl⟩
  obtain ⟨m, hm⟩ : ∃ m, n = m + 1 := ⟨n - 1, by omega⟩
  subst hm
  have HD := hide (refDone_any N q win _ mv mo S w1 c HI1.out HOK.out HLT.out)
  obtain ⟨G, hG⟩ : ∃ G, Hid (doneF c (cmAt S.tr c) = G) := ⟨_, hide rfl⟩
  rw [hG.out] at HD
  clear k5 c0 c1
  go_wp2_with (first
    | (go_at_call 90; refine HD.out.mono ?_; rintro e w2 ⟨rfl, hB2⟩)
    | (refine wpList_one_r rfl _ rfl G rfl _ rfl ?_))
  intro w3 HW3
  obtain ⟨hblk, hsz3, hB3⟩ := HW3.out
  have h13 : Below w1.heap.size w1 w3 := hB2.trans (hB3.mono hB2.size)
  have HI3 := hide (HI1.out.below h13)
  have c32 : w3.cell? ⟨w.heap.size, 2, none⟩ = some (.int .i64 (c : Int)) := (h13.cell (p := ⟨w.heap.size, 2, none⟩) hs1).trans c2
  have HB3 := hide (HB1.out.trans (h13.mono HB1.out.size))
  have HBLK := hide hblk
  obtain ⟨z, hz⟩ : ∃ z, Hid (w2.heap.size = z) := ⟨_, hide rfl⟩
  rw [hz.out] at hsz3 HBLK ⊢
  have hwz : Hid (w.heap.size ≤ z) := hide (by rw [← hz.out]; have := hB2.size; omega)
  clear hblk hB3 h13 HW3 c2 k2 HB1 HI1 HBX hB2 hz HD
  by_cases he : c = m
  · have hP : pastF S.tr c = [G] := by unfold pastF; rw [if_pos (by rw [hn.out]; omega), hG.out]
    have HL := hide hP
    subst he
    clear hP hL
    go_wp2
    go_ret2
    refine ⟨_, _, mv, rfl, ?_, HI3.out, Moved.refl _ _, .inl rfl, Mod.ofBelow HB3.out _⟩
    show FRow w3 _ _ (pastF S.tr c)
    rw [HL.out]
    exact FRow.one HBLK.out
  · have hP : pastF S.tr c = [G, doneF m (cmAt S.tr m)] := by unfold pastF; rw [if_neg (by rw [hn.out]; omega), hG.out, hn.out, Nat.add_sub_cancel]
    have HL := hide hP
    have HD := hide (refDone_any N q win _ mv mo S w3 m HI3.out HOK.out (by rw [hn.out]; omega))
    generalize doneF m (cmAt S.tr m) = G2 at HD HL
    obtain ⟨i0, hi, hz0, hz1, hz2⟩ := info_parts infoRefZ
    have HI := hide hi
    have HZ0 := hide hz0
    have HZ1 := hide hz1
    have HZ2 := hide hz2
    clear hP hL hi hz0 hz1 hz2
    go_wp2_with (first
      | (go_at_call 90; refine HD.out.mono ?_; rintro e w4 ⟨rfl, hB4⟩)
      | (refine wpList_one_r rfl _ rfl G2 rfl _ rfl ?_))
    intro w5 HW5
    obtain ⟨hblk5, hsz5, hB5⟩ := HW5.out
    have h35 : Below w3.heap.size w3 w5 := hB4.trans (hB5.mono hB4.size)
    have HO := hide (own_one (base := w.heap.size) ((h35.block z (by omega)).trans HBLK.out) hwz.out)
    have HB5 := hide (HB3.out.trans (h35.mono HB3.out.size))
    have HI5 := hide (HI3.out.below h35)
    have HN5 := hide hblk5
    have hzl : z < w5.heap.size := by have := h35.size; omega
    have hs3 := hB4.size
    have hnz : Hid (∀ k, RB q (.slice a S.tr.length cap) mv mo k → k < w.heap.size → k ≠ z) := hide fun k _ hk => by have := hwz.out; omega
    clear hblk5 hB4 hB5 h35 HW5 HD
    go_wp2_with (at_builtin; refine wpList_append_lies _ rfl _ _ 95 rfl w.heap.size 67 i0 (.agg (fCells fr0)) 23 184 Tryd.underlying95 HI.out HZ0.out HZ1.out HZ2.out rfl (by decide) _ _ _ rfl HO.out ⟨w4.heap.size, 0, none⟩ 1 1 (fCells G2).toList rfl (by simp [fCells_size]) (World.news_of_block HN5.out) (fCells_oneCell G2) (by decide) (by unfold maxLen; omega) (by omega) HB5.out.size _ rfl ?_)
    intro g cap' w6 hown hgrow hat hlt6
    have HO6 := hide hown
    have HB6 := hide (HB5.out.grown hgrow HB5.out.size (fun j hj => by
      have : z = j := by simpa [Value.ownBlock] using hj
      have := hwz.out
      omega))
    clear hown hgrow hat hlt6
    go_wp2
    go_ret2
    refine ⟨_, _, mv, rfl, ?_, HRI0.out.below HB6.out, Moved.refl _ _, .inl rfl, Mod.ofBelow HB6.out _⟩
    show FRow w6 _ _ (pastF S.tr c)
    rw [HL.out]
    exact FRow.two HO6.out

set_option maxHeartbeats 1000000 in
set_option maxRecDepth 20000 in
theorem rtake_q2 (N q win : Nat) (tv : Value) (mv mo : Nat) (S : VS) (w : World) (F : FR) (h : RIs w N q win tv mv mo S) (hok : VOk win S) (_ : N ≤ w.heap.size) (hh : hearB S F = true) (hk : F 0 = 2) (r : Nat) (hr : F 1 = (r : Int)) (hr3 : r < 3) (c : Nat) (hc : F 2 = (c : Int)) (hlt : S.tr.length < c) :
    Calls Tryd.prog 41 #[.pointer (some ⟨q, 0, none⟩), .agg (fCells F)] w (RTakeEnd N q win tv mv mo w (takeF win S F)) := by
  have hz : S.out.testBit r = false := by
    unfold hearB at hh
    rw [hr, Int.toNat_natCast] at hh
    simp at hh
    exact hh.2.2.1
  have g0 := fCells_at F 0 (by omega)
  have g1 := fCells_at F 1 (by omega)
  have g2 := fCells_at F 2 (by omega)
  have hq := h.lt
  have hf := hok.few
  have k4 : w.cell? ⟨q, 4, none⟩ = some (.map (some mo)) := (h.at 4).trans rfl
  have HRI := hide h
  have HOK := hide hok
  obtain ⟨a, cap, rfl⟩ := h.row.shape
  obtain ⟨n, hn⟩ : ∃ n, Hid (S.tr.length = n) := ⟨_, hide rfl⟩
  rw [take_pass hh (by rw [hc]; omega) (by unfold passB; rw [hc, decide_eq_true (by omega : (S.tr.length : Int) < (c : Int))]; rfl)]
  rw [hn.out] at hlt
  rw [hn.out] at hf
  rw [hk] at g0
  rw [hr] at g1
  rw [hc] at g2
  have hin : inB (r : Int) 0 2 = true := by unfold inB; simp; omega
  have hlk : ∀ n, (Instr.lookup 103 (.map (some mo)) (.int .i64 (r : Int)) false).run Tryd.prog ((w.alloc (.cells (fCells F) 67)).drewN n) = .ok (.bool false) ((w.alloc (.cells (fCells F) 67)).drewN n) := fun n => by
    have := ((h.below (box_below w (.cells (fCells F) 67) n)).outs).look (k := r) (by omega)
    rw [hz] at this
    exact this
  clear hz h hok hh
  go_enter Tryd.func41, Tryd.ntmps41
  go_wp2_with fail
  go_quiet ((go_at_call 53; exact Calls.quiet_of_same (in_any _ _ _ _)))
  have hB1 := box_below w (.cells (fCells F) 67) nq
  have hbx1 : FIs ((w.alloc (.cells (fCells F) 67)).drewN nq) w.heap.size 67 F := blk_new _ _
  clear hlk k4
  generalize ((w.alloc (.cells (fCells F) 67)).drewN nq) = w1 at hB1 hbx1 ⊢
  have hI1 := HRI.out.below hB1
  have HI1 := hide hI1
  have HB1 := hide hB1
  have HBX := hide hbx1
  have hs1 : w.heap.size < w1.heap.size := hbx1.lt
  have c0 := hbx1.at (k := 0) (by omega)
  have c1 := hbx1.at (k := 1) (by omega)
  have c2 := hbx1.at (k := 2) (by omega)
  rw [hk] at c0
  rw [hr] at c1
  rw [hc] at c2
  have k2 : w1.cell? ⟨q, 2, none⟩ = some (.slice a n cap) := (hI1.at 2).trans (by rw [← hn.out]; rfl)
  have k5 : w1.cell? ⟨q, 5, none⟩ = some (.bool S.lat) := (hI1.at 5).trans rfl
  have hq1 := hI1.lt
  clear hB1 hbx1 hI1 g0 g1 g2 HRI hin
  clear k5 c0 c1
  go_wp2
  go_ret2
  exact ⟨_, _, mv, rfl, .inl ⟨rfl, rfl⟩, HI1.out, Moved.refl _ _, .inl rfl, Mod.ofBelow HB1.out _⟩

set_option maxHeartbeats 1000000 in
set_option maxRecDepth 20000 in
theorem rtake_p4 (N q win : Nat) (tv : Value) (mv mo : Nat) (S : VS) (w : World) (F : FR) (h : RIs w N q win tv mv mo S) (hok : VOk win S) (_ : N ≤ w.heap.size) (hh : hearB S F = true) (hk : F 0 = 4) (r : Nat) (hr : F 1 = (r : Int)) (hr3 : r < 3) (c : Nat) (hc : F 2 = (c : Int)) (hlt : c < S.tr.length) :
    Calls Tryd.prog 41 #[.pointer (some ⟨q, 0, none⟩), .agg (fCells F)] w (RTakeEnd N q win tv mv mo w (takeF win S F)) := by
  have hz : S.out.testBit r = false := by
    unfold hearB at hh
    rw [hr, Int.toNat_natCast] at hh
    simp at hh
    exact hh.2.2.1
  have g0 := fCells_at F 0 (by omega)
  have g1 := fCells_at F 1 (by omega)
  have g2 := fCells_at F 2 (by omega)
  have hq := h.lt
  have hf := hok.few
  have k4 : w.cell? ⟨q, 4, none⟩ = some (.map (some mo)) := (h.at 4).trans rfl
  have HRI := hide h
  have HOK := hide hok
  obtain ⟨a, cap, rfl⟩ := h.row.shape
  obtain ⟨n, hn⟩ : ∃ n, Hid (S.tr.length = n) := ⟨_, hide rfl⟩
  rw [take_past hh (by rw [hc]; exact Int.ofNat_lt.2 hlt), hc, Int.toNat_natCast]
  have HLT := hide hlt
  rw [hn.out] at hlt
  rw [hn.out] at hf
  rw [hk] at g0
  rw [hr] at g1
  rw [hc] at g2
  have hin : inB (r : Int) 0 2 = true := by unfold inB; simp; omega
  have hlk : ∀ n, (Instr.lookup 103 (.map (some mo)) (.int .i64 (r : Int)) false).run Tryd.prog ((w.alloc (.cells (fCells F) 67)).drewN n) = .ok (.bool false) ((w.alloc (.cells (fCells F) 67)).drewN n) := fun n => by
    have := ((h.below (box_below w (.cells (fCells F) 67) n)).outs).look (k := r) (by omega)
    rw [hz] at this
    exact this
  clear hz h hok hh
  go_enter Tryd.func41, Tryd.ntmps41
  go_wp2_with fail
  go_quiet ((go_at_call 53; exact Calls.quiet_of_same (in_any _ _ _ _)))
  have hB1 := box_below w (.cells (fCells F) 67) nq
  have hbx1 : FIs ((w.alloc (.cells (fCells F) 67)).drewN nq) w.heap.size 67 F := blk_new _ _
  clear hlk k4
  generalize ((w.alloc (.cells (fCells F) 67)).drewN nq) = w1 at hB1 hbx1 ⊢
  have hI1 := HRI.out.below hB1
  have HI1 := hide hI1
  have HB1 := hide hB1
  have HBX := hide hbx1
  have hs1 : w.heap.size < w1.heap.size := hbx1.lt
  have c0 := hbx1.at (k := 0) (by omega)
  have c1 := hbx1.at (k := 1) (by omega)
  have c2 := hbx1.at (k := 2) (by omega)
  rw [hk] at c0
  rw [hr] at c1
  rw [hc] at c2
  have k2 : w1.cell? ⟨q, 2, none⟩ = some (.slice a n cap) := (hI1.at 2).trans (by rw [← hn.out]; rfl)
  have k5 : w1.cell? ⟨q, 5, none⟩ = some (.bool S.lat) := (hI1.at 5).trans rfl
  have hq1 := hI1.lt
  have HRI0 := HRI
  clear hB1 hbx1 hI1 g0 g1 g2 HRI hin
  obtain ⟨L, hL⟩ : ∃ L, Hid (pastF S.tr c = L) := ⟨_, hide rfl⟩
  obtain ⟨m, hm⟩ : ∃ m, n = m + 1 := ⟨n - 1, by omega⟩
  subst hm
  have HD := hide (refDone_any N q win _ mv mo S w1 c HI1.out HOK.out HLT.out)
  obtain ⟨G, hG⟩ : ∃ G, Hid (doneF c (cmAt S.tr c) = G) := ⟨_, hide rfl⟩
  rw [hG.out] at HD
  clear k5 c0 c1
  go_wp2_with (first
    | (go_at_call 90; refine HD.out.mono ?_; rintro e w2 ⟨rfl, hB2⟩)
    | (refine wpList_one_r rfl _ rfl G rfl _ rfl ?_))
  intro w3 HW3
  obtain ⟨hblk, hsz3, hB3⟩ := HW3.out
  have h13 : Below w1.heap.size w1 w3 := hB2.trans (hB3.mono hB2.size)
  have HI3 := hide (HI1.out.below h13)
  have c32 : w3.cell? ⟨w.heap.size, 2, none⟩ = some (.int .i64 (c : Int)) := (h13.cell (p := ⟨w.heap.size, 2, none⟩) hs1).trans c2
  have HB3 := hide (HB1.out.trans (h13.mono HB1.out.size))
  have HBLK := hide hblk
  obtain ⟨z, hz⟩ : ∃ z, Hid (w2.heap.size = z) := ⟨_, hide rfl⟩
  rw [hz.out] at hsz3 HBLK ⊢
  have hwz : Hid (w.heap.size ≤ z) := hide (by rw [← hz.out]; have := hB2.size; omega)
  clear hblk hB3 h13 HW3 c2 k2 HB1 HI1 HBX hB2 hz HD
  by_cases he : c = m
  · have hP : pastF S.tr c = [G] := by unfold pastF; rw [if_pos (by rw [hn.out]; omega), hG.out]
    have HL := hide hP
    subst he
    clear hP hL
    go_wp2
    go_ret2
    refine ⟨_, _, mv, rfl, ?_, HI3.out, Moved.refl _ _, .inl rfl, Mod.ofBelow HB3.out _⟩
    show FRow w3 _ _ (pastF S.tr c)
    rw [HL.out]
    exact FRow.one HBLK.out
  · have hP : pastF S.tr c = [G, doneF m (cmAt S.tr m)] := by unfold pastF; rw [if_neg (by rw [hn.out]; omega), hG.out, hn.out, Nat.add_sub_cancel]
    have HL := hide hP
    have HD := hide (refDone_any N q win _ mv mo S w3 m HI3.out HOK.out (by rw [hn.out]; omega))
    generalize doneF m (cmAt S.tr m) = G2 at HD HL
    obtain ⟨i0, hi, hz0, hz1, hz2⟩ := info_parts infoRefZ
    have HI := hide hi
    have HZ0 := hide hz0
    have HZ1 := hide hz1
    have HZ2 := hide hz2
    clear hP hL hi hz0 hz1 hz2
    go_wp2_with (first
      | (go_at_call 90; refine HD.out.mono ?_; rintro e w4 ⟨rfl, hB4⟩)
      | (refine wpList_one_r rfl _ rfl G2 rfl _ rfl ?_))
    intro w5 HW5
    obtain ⟨hblk5, hsz5, hB5⟩ := HW5.out
    have h35 : Below w3.heap.size w3 w5 := hB4.trans (hB5.mono hB4.size)
    have HO := hide (own_one (base := w.heap.size) ((h35.block z (by omega)).trans HBLK.out) hwz.out)
    have HB5 := hide (HB3.out.trans (h35.mono HB3.out.size))
    have HI5 := hide (HI3.out.below h35)
    have HN5 := hide hblk5
    have hzl : z < w5.heap.size := by have := h35.size; omega
    have hs3 := hB4.size
    have hnz : Hid (∀ k, RB q (.slice a S.tr.length cap) mv mo k → k < w.heap.size → k ≠ z) := hide fun k _ hk => by have := hwz.out; omega
    clear hblk5 hB4 hB5 h35 HW5 HD
    go_wp2_with (at_builtin; refine wpList_append_lies _ rfl _ _ 95 rfl w.heap.size 67 i0 (.agg (fCells fr0)) 23 184 Tryd.underlying95 HI.out HZ0.out HZ1.out HZ2.out rfl (by decide) _ _ _ rfl HO.out ⟨w4.heap.size, 0, none⟩ 1 1 (fCells G2).toList rfl (by simp [fCells_size]) (World.news_of_block HN5.out) (fCells_oneCell G2) (by decide) (by unfold maxLen; omega) (by omega) HB5.out.size _ rfl ?_)
    intro g cap' w6 hown hgrow hat hlt6
    have HO6 := hide hown
    have HB6 := hide (HB5.out.grown hgrow HB5.out.size (fun j hj => by
      have : z = j := by simpa [Value.ownBlock] using hj
      have := hwz.out
      omega))
    clear hown hgrow hat hlt6
    go_wp2
    go_ret2
    refine ⟨_, _, mv, rfl, ?_, HRI0.out.below HB6.out, Moved.refl _ _, .inl rfl, Mod.ofBelow HB6.out _⟩
    show FRow w6 _ _ (pastF S.tr c)
    rw [HL.out]
    exact FRow.two HO6.out

set_option maxHeartbeats 1000000 in
set_option maxRecDepth 20000 in
theorem rtake_q4 (N q win : Nat) (tv : Value) (mv mo : Nat) (S : VS) (w : World) (F : FR) (h : RIs w N q win tv mv mo S) (hok : VOk win S) (_ : N ≤ w.heap.size) (hh : hearB S F = true) (hk : F 0 = 4) (r : Nat) (hr : F 1 = (r : Int)) (hr3 : r < 3) (c : Nat) (hc : F 2 = (c : Int)) (hlt : S.tr.length < c) :
    Calls Tryd.prog 41 #[.pointer (some ⟨q, 0, none⟩), .agg (fCells F)] w (RTakeEnd N q win tv mv mo w (takeF win S F)) := by
  have hz : S.out.testBit r = false := by
    unfold hearB at hh
    rw [hr, Int.toNat_natCast] at hh
    simp at hh
    exact hh.2.2.1
  have g0 := fCells_at F 0 (by omega)
  have g1 := fCells_at F 1 (by omega)
  have g2 := fCells_at F 2 (by omega)
  have hq := h.lt
  have hf := hok.few
  have k4 : w.cell? ⟨q, 4, none⟩ = some (.map (some mo)) := (h.at 4).trans rfl
  have HRI := hide h
  have HOK := hide hok
  obtain ⟨a, cap, rfl⟩ := h.row.shape
  obtain ⟨n, hn⟩ : ∃ n, Hid (S.tr.length = n) := ⟨_, hide rfl⟩
  rw [take_pass hh (by rw [hc]; omega) (by unfold passB; rw [hc, decide_eq_true (by omega : (S.tr.length : Int) < (c : Int))]; rfl)]
  rw [hn.out] at hlt
  rw [hn.out] at hf
  rw [hk] at g0
  rw [hr] at g1
  rw [hc] at g2
  have hin : inB (r : Int) 0 2 = true := by unfold inB; simp; omega
  have hlk : ∀ n, (Instr.lookup 103 (.map (some mo)) (.int .i64 (r : Int)) false).run Tryd.prog ((w.alloc (.cells (fCells F) 67)).drewN n) = .ok (.bool false) ((w.alloc (.cells (fCells F) 67)).drewN n) := fun n => by
    have := ((h.below (box_below w (.cells (fCells F) 67) n)).outs).look (k := r) (by omega)
    rw [hz] at this
    exact this
  clear hz h hok hh
  go_enter Tryd.func41, Tryd.ntmps41
  go_wp2_with fail
  go_quiet ((go_at_call 53; exact Calls.quiet_of_same (in_any _ _ _ _)))
  have hB1 := box_below w (.cells (fCells F) 67) nq
  have hbx1 : FIs ((w.alloc (.cells (fCells F) 67)).drewN nq) w.heap.size 67 F := blk_new _ _
  clear hlk k4
  generalize ((w.alloc (.cells (fCells F) 67)).drewN nq) = w1 at hB1 hbx1 ⊢
  have hI1 := HRI.out.below hB1
  have HI1 := hide hI1
  have HB1 := hide hB1
  have HBX := hide hbx1
  have hs1 : w.heap.size < w1.heap.size := hbx1.lt
  have c0 := hbx1.at (k := 0) (by omega)
  have c1 := hbx1.at (k := 1) (by omega)
  have c2 := hbx1.at (k := 2) (by omega)
  rw [hk] at c0
  rw [hr] at c1
  rw [hc] at c2
  have k2 : w1.cell? ⟨q, 2, none⟩ = some (.slice a n cap) := (hI1.at 2).trans (by rw [← hn.out]; rfl)
  have k5 : w1.cell? ⟨q, 5, none⟩ = some (.bool S.lat) := (hI1.at 5).trans rfl
  have hq1 := hI1.lt
  clear hB1 hbx1 hI1 g0 g1 g2 HRI hin
  clear k5 c0 c1
  go_wp2
  go_ret2
  exact ⟨_, _, mv, rfl, .inl ⟨rfl, rfl⟩, HI1.out, Moved.refl _ _, .inl rfl, Mod.ofBelow HB1.out _⟩

set_option maxHeartbeats 1000000 in
set_option maxRecDepth 20000 in
theorem rtake_r4 (N q win : Nat) (tv : Value) (mv mo : Nat) (S : VS) (w : World) (F : FR) (h : RIs w N q win tv mv mo S) (hok : VOk win S) (_ : N ≤ w.heap.size) (hh : hearB S F = true) (hk : F 0 = 4) (r : Nat) (hr : F 1 = (r : Int)) (hr3 : r < 3) (c : Nat) (hc : F 2 = (c : Int)) (he : c = S.tr.length) :
    Calls Tryd.prog 41 #[.pointer (some ⟨q, 0, none⟩), .agg (fCells F)] w (RTakeEnd N q win tv mv mo w (takeF win S F)) := by
  have hz : S.out.testBit r = false := by
    unfold hearB at hh
    rw [hr, Int.toNat_natCast] at hh
    simp at hh
    exact hh.2.2.1
  have g0 := fCells_at F 0 (by omega)
  have g1 := fCells_at F 1 (by omega)
  have g2 := fCells_at F 2 (by omega)
  have hq := h.lt
  have hf := hok.few
  have k4 : w.cell? ⟨q, 4, none⟩ = some (.map (some mo)) := (h.at 4).trans rfl
  have HRI := hide h
  have HOK := hide hok
  obtain ⟨a, cap, rfl⟩ := h.row.shape
  obtain ⟨n, hn⟩ : ∃ n, Hid (S.tr.length = n) := ⟨_, hide rfl⟩
  rw [take_pass hh (by rw [hc]; omega) (by unfold passB; rw [hk]; simp)]
  rw [he, hn.out] at hc
  rw [hn.out] at hf
  rw [hk] at g0
  rw [hr] at g1
  rw [hc] at g2
  have hin : inB (r : Int) 0 2 = true := by unfold inB; simp; omega
  have hlk : ∀ n, (Instr.lookup 103 (.map (some mo)) (.int .i64 (r : Int)) false).run Tryd.prog ((w.alloc (.cells (fCells F) 67)).drewN n) = .ok (.bool false) ((w.alloc (.cells (fCells F) 67)).drewN n) := fun n => by
    have := ((h.below (box_below w (.cells (fCells F) 67) n)).outs).look (k := r) (by omega)
    rw [hz] at this
    exact this
  clear hz h hok hh
  go_enter Tryd.func41, Tryd.ntmps41
  go_wp2_with fail
  go_quiet ((go_at_call 53; exact Calls.quiet_of_same (in_any _ _ _ _)))
  have hB1 := box_below w (.cells (fCells F) 67) nq
  have hbx1 : FIs ((w.alloc (.cells (fCells F) 67)).drewN nq) w.heap.size 67 F := blk_new _ _
  clear hlk k4
  generalize ((w.alloc (.cells (fCells F) 67)).drewN nq) = w1 at hB1 hbx1 ⊢
  have hI1 := HRI.out.below hB1
  have HI1 := hide hI1
  have HB1 := hide hB1
  have HBX := hide hbx1
  have hs1 : w.heap.size < w1.heap.size := hbx1.lt
  have c0 := hbx1.at (k := 0) (by omega)
  have c1 := hbx1.at (k := 1) (by omega)
  have c2 := hbx1.at (k := 2) (by omega)
  rw [hk] at c0
  rw [hr] at c1
  rw [hc] at c2
  have k2 : w1.cell? ⟨q, 2, none⟩ = some (.slice a n cap) := (hI1.at 2).trans (by rw [← hn.out]; rfl)
  have k5 : w1.cell? ⟨q, 5, none⟩ = some (.bool S.lat) := (hI1.at 5).trans rfl
  have hq1 := hI1.lt
  clear hB1 hbx1 hI1 g0 g1 g2 HRI hin
  clear k5 c1
  go_wp2
  go_ret2
  exact ⟨_, _, mv, rfl, .inl ⟨rfl, rfl⟩, HI1.out, Moved.refl _ _, .inl rfl, Mod.ofBelow HB1.out _⟩

set_option maxHeartbeats 1000000 in
set_option maxRecDepth 20000 in
theorem rtake_s2 (N q win : Nat) (tv : Value) (mv mo : Nat) (S : VS) (w : World) (F : FR) (h : RIs w N q win tv mv mo S) (hok : VOk win S) (_ : N ≤ w.heap.size) (hh : hearB S F = true) (hk : F 0 = 2) (r : Nat) (hr : F 1 = (r : Int)) (hr3 : r < 3) (c : Nat) (hc : F 2 = (c : Int)) (he : c = S.tr.length) (hl : S.lat = true) :
    Calls Tryd.prog 41 #[.pointer (some ⟨q, 0, none⟩), .agg (fCells F)] w (RTakeEnd N q win tv mv mo w (takeF win S F)) := by
  have hz : S.out.testBit r = false := by
    unfold hearB at hh
    rw [hr, Int.toNat_natCast] at hh
    simp at hh
    exact hh.2.2.1
  have g0 := fCells_at F 0 (by omega)
  have g1 := fCells_at F 1 (by omega)
  have g2 := fCells_at F 2 (by omega)
  have hq := h.lt
  have hf := hok.few
  have k4 : w.cell? ⟨q, 4, none⟩ = some (.map (some mo)) := (h.at 4).trans rfl
  have HRI := hide h
  have HOK := hide hok
  obtain ⟨a, cap, rfl⟩ := h.row.shape
  obtain ⟨n, hn⟩ : ∃ n, Hid (S.tr.length = n) := ⟨_, hide rfl⟩
  rw [take_pass hh (by rw [hc]; omega) (by unfold passB; rw [hl]; simp)]
  rw [he, hn.out] at hc
  rw [hn.out] at hf
  rw [hk] at g0
  rw [hr] at g1
  rw [hc] at g2
  have hin : inB (r : Int) 0 2 = true := by unfold inB; simp; omega
  have hlk : ∀ n, (Instr.lookup 103 (.map (some mo)) (.int .i64 (r : Int)) false).run Tryd.prog ((w.alloc (.cells (fCells F) 67)).drewN n) = .ok (.bool false) ((w.alloc (.cells (fCells F) 67)).drewN n) := fun n => by
    have := ((h.below (box_below w (.cells (fCells F) 67) n)).outs).look (k := r) (by omega)
    rw [hz] at this
    exact this
  clear hz h hok hh
  go_enter Tryd.func41, Tryd.ntmps41
  go_wp2_with fail
  go_quiet ((go_at_call 53; exact Calls.quiet_of_same (in_any _ _ _ _)))
  have hB1 := box_below w (.cells (fCells F) 67) nq
  have hbx1 : FIs ((w.alloc (.cells (fCells F) 67)).drewN nq) w.heap.size 67 F := blk_new _ _
  clear hlk k4
  generalize ((w.alloc (.cells (fCells F) 67)).drewN nq) = w1 at hB1 hbx1 ⊢
  have hI1 := HRI.out.below hB1
  have HI1 := hide hI1
  have HB1 := hide hB1
  have HBX := hide hbx1
  have hs1 : w.heap.size < w1.heap.size := hbx1.lt
  have c0 := hbx1.at (k := 0) (by omega)
  have c1 := hbx1.at (k := 1) (by omega)
  have c2 := hbx1.at (k := 2) (by omega)
  rw [hk] at c0
  rw [hr] at c1
  rw [hc] at c2
  have k2 : w1.cell? ⟨q, 2, none⟩ = some (.slice a n cap) := (hI1.at 2).trans (by rw [← hn.out]; rfl)
  have k5 : w1.cell? ⟨q, 5, none⟩ = some (.bool S.lat) := (hI1.at 5).trans rfl
  have hq1 := hI1.lt
  clear hB1 hbx1 hI1 g0 g1 g2 HRI hin
  rw [hl] at k5
  clear c1
  go_wp2
  go_ret2
  exact ⟨_, _, mv, rfl, .inl ⟨rfl, rfl⟩, HI1.out, Moved.refl _ _, .inl rfl, Mod.ofBelow HB1.out _⟩

end Go.Proofs.YtbiacknbaefccaaDoor
