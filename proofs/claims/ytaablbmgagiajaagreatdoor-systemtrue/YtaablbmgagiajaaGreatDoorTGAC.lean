import Derived.Laws.CopyOwn
import Derived.Deep.RegionHeld3
import Derived.BigRegion
import Derived.Test.YtaablbmgagiajaaGreatDoorTGAB
namespace Go.Proofs.YtaablbmgagiajaaGreatDoor
open Go.RowKit Go.Deep
def zeros20 : List Value := [.int .i64 0, .int .i64 0, .int .i64 0, .int .i64 0, .int .i64 0, .int .i64 0, .int .i64 0, .int .i64 0, .int .i64 0, .int .i64 0, .int .i64 0, .int .i64 0, .int .i64 0, .int .i64 0, .int .i64 0, .int .i64 0, .int .i64 0, .int .i64 0, .int .i64 0, .int .i64 0]
theorem zeros20_at (k : Nat) (h : k < 20) : zeros20[k]? = some (.int .i64 0) := by
  match k, h with
  | 0, _ => rfl | 1, _ => rfl | 2, _ => rfl | 3, _ => rfl | 4, _ => rfl | 5, _ => rfl | 6, _ => rfl | 7, _ => rfl | 8, _ => rfl | 9, _ => rfl | 10, _ => rfl | 11, _ => rfl | 12, _ => rfl | 13, _ => rfl | 14, _ => rfl | 15, _ => rfl | 16, _ => rfl | 17, _ => rfl | 18, _ => rfl | 19, _ => rfl | n + 20, h => omega
def copied (l : List Int) : List Value := ints (l.take 20)
theorem copied_length (l : List Int) : (copied l).length = Nat.min l.length 20 := by simp [copied, ints, Nat.min_comm]
theorem splice_at (l : List Int) (k : Nat) (h : k < 20) : (splice zeros20 0 (copied l))[k]? = some (.int .i64 (at0 l k)) := by
  unfold splice
  rw [List.take_zero, List.nil_append, Nat.zero_add, copied_length]
  by_cases hk : k < l.length
  · rw [List.getElem?_append_left (by rw [copied_length]; exact Nat.lt_min.2 ⟨hk, h⟩)]
    simp [copied, ints, at0, hk, h]
  · have hle : Nat.min l.length 20 ≤ k := Nat.le_trans (Nat.min_le_left _ _) (by omega)
    rw [List.getElem?_append_right (by rw [copied_length]; exact hle), List.getElem?_drop, copied_length, Nat.add_sub_cancel' hle, zeros20_at k h]
    simp [at0, List.getElem?_eq_none (show l.length ≤ k by omega)]
theorem results_cell1 {P : Program} {f : Func} {tmps : Array Value} {w : World} {a : Tmp} {t : TypeId} {ad : Addr} {v : Value} (hf : f.results = #[.cell a t]) (ha : tmps.getD a undef = .pointer (some ad)) (hl : (loadVar t ad).run P w = .ok v w) :
    (results f tmps).run P w = .ok v w := by
  have ha' : tmps[a]?.getD undef = .pointer (some ad) := by simpa using ha
  simp only [results, hf]
  simp [asAddr, ha', hl]
theorem results_cell2F {P : Program} {f : Func} {tmps : Array Value} {w : World} {a k : Tmp} {t : TypeId} {ad : Addr} {v : Value} (hf : f.results = #[.cell a t, .tmp k]) (ha : tmps.getD a undef = .pointer (some ad)) (hl : (loadVar t ad).run P w = .ok v w) :
    (results f tmps).run P w = .ok (.tuple #[v, tmps.getD k undef]) w := by
  have ha' : tmps[a]?.getD undef = .pointer (some ad) := by simpa using ha
  simp only [results, hf]
  simp [asAddr, ha', hl]
structure PInv (w wr : World) (N Q : Nat) (l : List Int) (F : FR) : Prop where
  old : Below N w wr
  res : FIs wr N 35 fr0
  arr : wr.heap[N + 1]? = some (.cells (splice zeros20 0 (copied l)).toArray 154 (0, 0))
  frm : FIs wr Q 35 F
  far : N + 1 < Q
theorem PInv.num {w wr : World} {N Q : Nat} {l : List Int} {F : FR} (h : PInv w wr N Q l F) {k : Nat} (hk : k < 20) : wr.cell? ⟨N + 1, k, none⟩ = some (.int .i64 (at0 l k)) := by
  rw [blk_cell h.arr]
  have := splice_at l k hk
  simpa using this
theorem PInv.put {w wr : World} {N Q : Nat} {l : List Int} {F : FR} (h : PInv w wr N Q l F) {k : Nat} (hk : k < 23) (v : Int) : PInv w (wr.setCell ⟨Q, k, none⟩ (.int .i64 v)) N Q l (upd F k v) := by
  have hf := h.far
  exact ⟨h.old.setCell (by show N ≤ Q; omega) _, (Below.heap_setCell _ _ _ _ (by show N ≠ Q; omega)).trans h.res, (Below.heap_setCell _ _ _ _ (by show N + 1 ≠ Q; omega)).trans h.arr, h.frm.put hk v, hf⟩
theorem PInv.drew {w wr : World} {N Q : Nat} {l : List Int} {F : FR} (h : PInv w wr N Q l F) : PInv w wr.drew N Q l F := ⟨h.old.drew, h.res, h.arr, h.frm, h.far⟩
set_option maxHeartbeats 2000000 in
set_option maxRecDepth 20000 in
theorem framed_any (b off n cap : Nat) (l : List Int) (w : World) (hn : l.length = n) (hb : b < w.heap.size) (hr : Row w b off l) :
    Calls Tryz.prog 80 #[.slice (some ⟨b, off, none⟩) n cap] w fun e w' => e = .returned (.agg (fCells (framedF l))) ∧ Below w.heap.size w w' := by
  have hB : Below w.heap.size w ((w.alloc (.cells (fCells fr0) 35)).alloc (.cells zeros20.toArray 154)) := ((Below.refl _ _).alloc (Nat.le_refl _) _).alloc (by simp) _
  have hres : FIs ((w.alloc (.cells (fCells fr0) 35)).alloc (.cells zeros20.toArray 154)) w.heap.size 35 fr0 := (Below.heap_alloc _ _ _ (by simp)).trans (blk_new _ _)
  have harr : ((w.alloc (.cells (fCells fr0) 35)).alloc (.cells zeros20.toArray 154)).heap[w.heap.size + 1]? = some (.cells zeros20.toArray 154 (0, 0)) := by
    have := blk_new (w.alloc (.cells (fCells fr0) 35)) (.cells zeros20.toArray 154)
    simpa using this
  have hsrc : ∀ j v, (copied l)[j]? = some v → ((w.alloc (.cells (fCells fr0) 35)).alloc (.cells zeros20.toArray 154)).cell? ((⟨b, off, none⟩ : Addr).add j) = some v := by
    intro j v hj
    have hj2 : j < l.length ∧ j < 20 := by
      have := (List.getElem?_eq_some_iff.1 hj).1
      rw [copied_length] at this
      exact Nat.lt_min.1 this
    have e : (⟨b, off, none⟩ : Addr).add j = ⟨b, off + j, none⟩ := by unfold Addr.add; split <;> simp_all
    rw [e, hB.cell (p := ⟨b, off + j, none⟩) hb, hr j hj2.1, ← hj]
    simp [copied, ints, hj2.1, hj2.2]
  have HB := hide hB
  have HRES := hide hres
  have HARR := hide harr
  have HSRC := hide hsrc
  have hlen := copied_length l
  rw [hn] at hlen
  have HLEN := hide hlen
  have hsz : (Tryz.prog.info? 3).map (·.size) = some 1 := by kernel_rfl
  have HSZ := hide hsz
  clear hB hres harr hsrc hlen hsz hr
  go_enter Tryz.func80, Tryz.ntmps80
  go_wp2_with (refine wpList_copy_splice rfl _ _ 22 22 rfl 3 Tryz.underlying22 HSZ.out _ _ _ _ _ _ rfl rfl (w.heap.size + 1) 0 zeros20 154 HARR.out (copied l) HLEN.out (fun _ => ⟨rfl, _, rfl, HSRC.out⟩) ?g1 (ints_one _) (w.heap.size + 1) _ (Below.refl _ _) (Nat.le_refl _) ?_)
  case g1 => rw [HLEN.out]; exact Nat.le_trans (Nat.le_of_eq (Nat.zero_add _)) (Nat.min_le_right _ _)
  intro w2 HG2 hB2
  have hold : Below w.heap.size w w2 := HB.out.trans (hB2.mono (Nat.le_succ _))
  have hr2 : FIs w2 w.heap.size 35 fr0 := (hB2.block _ (Nat.lt_succ_self _)).trans HRES.out
  have hs2 : w.heap.size + 1 < w2.heap.size := blk_lt HG2.out
  have hnum : ∀ k, k < 20 → w2.cell? ⟨w.heap.size + 1, k, none⟩ = some (.int .i64 (at0 l k)) := fun k hk => by
    rw [blk_cell HG2.out]
    simpa using splice_at l k hk
  have a0 := hnum 0 (by omega)
  have a1 := hnum 1 (by omega)
  have a2 := hnum 2 (by omega)
  obtain ⟨x0, hx0⟩ : ∃ x, Hid (at0 l 0 = x) := ⟨_, hide rfl⟩
  obtain ⟨x1, hx1⟩ : ∃ x, Hid (at0 l 1 = x) := ⟨_, hide rfl⟩
  obtain ⟨x2, hx2⟩ : ∃ x, Hid (at0 l 2 = x) := ⟨_, hide rfl⟩
  rw [hx0.out] at a0
  rw [hx1.out] at a1
  rw [hx2.out] at a2
  have HOLD := hide hold
  have HR2 := hide hr2
  clear hnum hold hr2 hB2 HB HRES HARR HSRC HLEN HSZ
  go_wp2_with (refine wpList_store_fl rfl _ _ rfl w2.heap.size (startF x0 x1 x2) rfl rfl fr0 (blk_new _ _) ?_)
  intro w3 HF3
  have P3 : PInv w w3 w.heap.size w2.heap.size l (startF x0 x1 x2) := by
    refine ⟨HOLD.out.trans ?_, (HF3.out.2.1 _ (by omega)).trans ((Below.heap_alloc _ _ _ (by omega)).trans HR2.out), (HF3.out.2.1 _ (by omega)).trans ((Below.heap_alloc _ _ _ (by omega)).trans HG2.out), HF3.out.1, hs2⟩
    exact ((Below.refl _ _).alloc (by omega) _).trans (HF3.out.2.2 _ (by omega))
  clear HF3 HR2 HG2 HOLD a0 a1 a2
  generalize w2.heap.size = Q at P3 hs2 ⊢
  have k0 : w3.cell? ⟨Q, 0, none⟩ = some (.int .i64 x0) := (P3.frm.at (k := 0) (by omega)).trans rfl
  by_cases e1 : x0 = 1
  · subst e1
    have a3 := P3.num (k := 3) (by omega)
    have a4 := P3.num (k := 4) (by omega)
    obtain ⟨x3, hx3⟩ : ∃ x, Hid (at0 l 3 = x) := ⟨_, hide rfl⟩
    obtain ⟨x4, hx4⟩ : ∃ x, Hid (at0 l 4 = x) := ⟨_, hide rfl⟩
    rw [hx3.out] at a3
    rw [hx4.out] at a4
    have k3 := P3.frm.at (k := 3) (by omega)
    have k4 := P3.frm.at (k := 4) (by omega)
    have f3 := P3.frm.free 3
    have f4 := P3.frm.free 4
    have PF := hide ((P3.put (k := 3) (by omega) x3).put (k := 4) (by omega) x4)
    rw [startF_in] at PF
    have HE : Hid (framedF l = inF 1 x1 x2 x3 x4) := by rw [Hid, framed_one hx0.out, hx0.out, hx1.out, hx2.out, hx3.out, hx4.out]
    clear P3
    go_wp2_with (first
      | (refine wpList_load_f rfl _ rfl Q rfl _ PF.out.frm ?_)
      | (refine wpList_store_fl rfl _ _ rfl w.heap.size (inF 1 x1 x2 x3 x4) rfl rfl fr0 PF.out.res ?_))
    intro w9 HF9
    go_wp2
    refine bodyPost_ret (v := .agg (fCells (inF 1 x1 x2 x3 x4))) ?_ rfl ⟨by rw [HE.out], PF.out.old.trans (HF9.out.2.2 _ (Nat.le_refl _))⟩
    exact results_cell1 Tryz.results80 rfl (load_f HF9.out.1)
  by_cases e2 : x0 = 2
  · subst e2
    have a3 := P3.num (k := 3) (by omega)
    have a4 := P3.num (k := 4) (by omega)
    have a5 := P3.num (k := 5) (by omega)
    obtain ⟨x3, hx3⟩ : ∃ x, Hid (at0 l 3 = x) := ⟨_, hide rfl⟩
    obtain ⟨x4, hx4⟩ : ∃ x, Hid (at0 l 4 = x) := ⟨_, hide rfl⟩
    obtain ⟨x5, hx5⟩ : ∃ x, Hid (at0 l 5 = x) := ⟨_, hide rfl⟩
    rw [hx3.out] at a3
    rw [hx4.out] at a4
    rw [hx5.out] at a5
    have k3 := P3.frm.at (k := 3) (by omega)
    have k4 := P3.frm.at (k := 4) (by omega)
    have k5 := P3.frm.at (k := 5) (by omega)
    have f3 := P3.frm.free 3
    have f4 := P3.frm.free 4
    have f5 := P3.frm.free 5
    have PF := hide (((P3.put (k := 3) (by omega) x3).put (k := 4) (by omega) x4).put (k := 5) (by omega) x5).drew
    rw [startF_in, inF_out] at PF
    have HE : Hid (framedF l = votF 2 x1 x2 x3 x4 x5) := by rw [Hid, framed_mid (.inl hx0.out), hx0.out, hx1.out, hx2.out, hx3.out, hx4.out, hx5.out]
    clear P3
    go_wp2_with fail
    go_region
    go_wp2_with (first
      | (refine wpList_load_f rfl _ rfl Q rfl _ PF.out.frm ?_)
      | (refine wpList_store_fl rfl _ _ rfl w.heap.size (votF 2 x1 x2 x3 x4 x5) rfl rfl fr0 PF.out.res ?_))
    intro w9 HF9
    go_wp2
    refine bodyPost_ret (v := .agg (fCells (votF 2 x1 x2 x3 x4 x5))) ?_ rfl ⟨by rw [HE.out], PF.out.old.trans (HF9.out.2.2 _ (Nat.le_refl _))⟩
    exact results_cell1 Tryz.results80 rfl (load_f HF9.out.1)
  by_cases e3 : x0 = 3
  · subst e3
    have a3 := P3.num (k := 3) (by omega)
    have a4 := P3.num (k := 4) (by omega)
    have a5 := P3.num (k := 5) (by omega)
    obtain ⟨x3, hx3⟩ : ∃ x, Hid (at0 l 3 = x) := ⟨_, hide rfl⟩
    obtain ⟨x4, hx4⟩ : ∃ x, Hid (at0 l 4 = x) := ⟨_, hide rfl⟩
    obtain ⟨x5, hx5⟩ : ∃ x, Hid (at0 l 5 = x) := ⟨_, hide rfl⟩
    rw [hx3.out] at a3
    rw [hx4.out] at a4
    rw [hx5.out] at a5
    have k3 := P3.frm.at (k := 3) (by omega)
    have k4 := P3.frm.at (k := 4) (by omega)
    have k5 := P3.frm.at (k := 5) (by omega)
    have f3 := P3.frm.free 3
    have f4 := P3.frm.free 4
    have f5 := P3.frm.free 5
    have PF := hide (((P3.put (k := 3) (by omega) x3).put (k := 4) (by omega) x4).put (k := 5) (by omega) x5).drew
    rw [startF_in, inF_out] at PF
    have HE : Hid (framedF l = votF 3 x1 x2 x3 x4 x5) := by rw [Hid, framed_mid (.inr hx0.out), hx0.out, hx1.out, hx2.out, hx3.out, hx4.out, hx5.out]
    clear P3
    go_wp2_with fail
    go_region
    go_wp2_with (first
      | (refine wpList_load_f rfl _ rfl Q rfl _ PF.out.frm ?_)
      | (refine wpList_store_fl rfl _ _ rfl w.heap.size (votF 3 x1 x2 x3 x4 x5) rfl rfl fr0 PF.out.res ?_))
    intro w9 HF9
    go_wp2
    refine bodyPost_ret (v := .agg (fCells (votF 3 x1 x2 x3 x4 x5))) ?_ rfl ⟨by rw [HE.out], PF.out.old.trans (HF9.out.2.2 _ (Nat.le_refl _))⟩
    exact results_cell1 Tryz.results80 rfl (load_f HF9.out.1)
  by_cases e5 : x0 = 5
  · subst e5
    have a3 := P3.num (k := 3) (by omega)
    obtain ⟨x3, hx3⟩ : ∃ x, Hid (at0 l 3 = x) := ⟨_, hide rfl⟩
    rw [hx3.out] at a3
    have k6 := P3.frm.at (k := 6) (by omega)
    have f6 := P3.frm.free 6
    have P4 := P3.put (k := 6) (by omega) x3
    have hks := known_start l
    rw [hx0.out, hx1.out, hx2.out, hx3.out] at hks
    rw [hks] at P4
    have HP4 := hide P4
    clear P3 P4 hks
    go_wp2
    clear a3 k6 f6 k0
    go_loopw [44] (fun i wr => ∃ k : Nat, k ≤ 8 ∧ i = .int .i64 k ∧ PInv w wr w.heap.size Q l (knownF l k)) (fun i _ => 8 - (intOf i).toNat)
    case atStart => exact ⟨0, Nat.zero_le _, rfl, HP4.out⟩
    case round =>
      clear HP4
      obtain ⟨k, hk, rfl, hI⟩ := hrel
      by_cases hlt : k < 8
      · have n1 := hI.num (k := 4 + 2 * k) (by omega)
        have n2 := hI.num (k := 5 + 2 * k) (by omega)
        have u1 := hI.frm.at (k := 7 + k) (by omega)
        have u2 := hI.frm.at (k := 15 + k) (by omega)
        have g1 := hI.frm.free (7 + k)
        have g2 := hI.frm.free (15 + k)
        obtain ⟨y1, hy1⟩ : ∃ x, Hid (at0 l (4 + 2 * k) = x) := ⟨_, hide rfl⟩
        obtain ⟨y2, hy2⟩ : ∃ x, Hid (at0 l (5 + 2 * k) = x) := ⟨_, hide rfl⟩
        rw [hy1.out] at n1
        rw [hy2.out] at n2
        obtain ⟨z1, hz1⟩ : ∃ x, Hid (knownF l k (7 + k) = x) := ⟨_, hide rfl⟩
        obtain ⟨z2, hz2⟩ : ∃ x, Hid (knownF l k (15 + k) = x) := ⟨_, hide rfl⟩
        rw [hz1.out] at u1
        rw [hz2.out] at u2
        have PA := hide ((hI.put (k := 7 + k) (by omega) y1).put (k := 15 + k) (by omega) y2).drew
        rw [← hy1.out, ← hy2.out, known_next l k hlt] at PA
        rw [hy1.out, hy2.out] at PA
        clear hI
        go_wp2_with fail
        go_region
        clear n1 n2 u1 u2 g1 g2
        go_wp2
        go_roundw
        case rel => exact ⟨k + 1, by omega, by go_num, PA.out⟩
        case measure => simp [intOf]; omega
      · have hk8 : k = 8 := by omega
        subst hk8
        have PF := hide hI
        have HE : Hid (framedF l = knownF l 8) := framed_known hx0.out
        clear hI
        go_wp2_with (first
          | (refine wpList_load_f rfl _ rfl Q rfl _ PF.out.frm ?_)
          | (refine wpList_store_fl rfl _ _ rfl w.heap.size (knownF l 8) rfl rfl fr0 PF.out.res ?_))
        intro w9 HF9
        go_wp2
        refine bodyPost_ret (v := .agg (fCells (knownF l 8))) ?_ rfl ⟨by rw [HE.out], PF.out.old.trans (HF9.out.2.2 _ (Nat.le_refl _))⟩
        exact results_cell1 Tryz.results80 rfl (load_f HF9.out.1)
  have t1 : (x0 == 1) = false := by simpa using e1
  have t2 : (x0 == 2) = false := by simpa using e2
  have t3 : (x0 == 3) = false := by simpa using e3
  have t5 : (x0 == 5) = false := by simpa using e5
  have PF := hide P3
  have HE : Hid (framedF l = startF x0 x1 x2) := by
    have h := framed_else (l := l) (by rw [hx0.out]; exact e1) (by rw [hx0.out]; exact e2) (by rw [hx0.out]; exact e3) (by rw [hx0.out]; exact e5)
    rw [hx0.out, hx1.out, hx2.out] at h
    exact h
  clear P3 e1 e2 e3 e5
  go_wp2_with (first
    | (refine wpList_load_f rfl _ rfl Q rfl _ PF.out.frm ?_)
    | (refine wpList_store_fl rfl _ _ rfl w.heap.size (startF x0 x1 x2) rfl rfl fr0 PF.out.res ?_))
  intro w9 HF9
  go_wp2
  refine bodyPost_ret (v := .agg (fCells (startF x0 x1 x2))) ?_ rfl ⟨by rw [HE.out], PF.out.old.trans (HF9.out.2.2 _ (Nat.le_refl _))⟩
  exact results_cell1 Tryz.results80 rfl (load_f HF9.out.1)
end Go.Proofs.YtaablbmgagiajaaGreatDoor
