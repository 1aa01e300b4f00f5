/- The contracts of triumvirref.in and triumvirref.list. -/
import Derived.Test.YtbiacknbaefccaaDoorFrNums
import Derived.Deep.AppendLies
import Derived.Deep.RegionHeld3
namespace Go.Proofs.YtbiacknbaefccaaDoor
open Go.RowKit Go.Deep

set_option maxHeartbeats 400000 in
theorem in_any (n a b : Int) (w : World) :
    Calls Tryd.prog 53 #[.int .i64 n, .int .i64 a, .int .i64 b] w fun e w' => e = .returned (.bool (inB n a b)) ∧ w' = w := by
  by_cases h : a ≤ n
  · go_enter Tryd.func53, Tryd.ntmps53
    go_wp2
    go_ret
    exact ⟨ret_bool (by simp [inB, h]), rfl⟩
  · go_enter Tryd.func53, Tryd.ntmps53
    go_wp2
    go_ret
    exact ⟨ret_bool (by simp [inB]; omega), rfl⟩

set_option maxHeartbeats 4000000 in
set_option maxRecDepth 100000 in
theorem list_sample (F : FR) (w : World) (h0 : F 0 = 1) :
    Calls Tryd.prog 76 #[.agg (fCells F)] w fun e w' => (∃ v, e = .returned v ∧ IsNums w w' (numsF F) v) ∧ Below w.heap.size w w' := by
  have c0 := fCells_at F 0 (by omega)
  have c1 := fCells_at F 1 (by omega)
  have c2 := fCells_at F 2 (by omega)
  have c3 := fCells_at F 3 (by omega)
  have c4 := fCells_at F 4 (by omega)
  obtain ⟨i0, hi, hz0, hz1, hz2⟩ := info_parts infoInt
  have HI := hide hi
  have HZ0 := hide hz0
  have HZ1 := hide hz1
  have HZ2 := hide hz2
  clear hi hz0 hz1 hz2
  have HN := hide (nums_one h0)
  have HS := hide (nInv_start w 67 F (F 0) (F 1) (F 2))
  rw [h0] at c0 HN HS
  have b1 : inB 1 1 3 = true := by decide
  have b2 : inB 1 2 3 = false := by decide
  go_enter Tryd.func76, Tryd.ntmps76
  go_wp2_with (first
    | (go_at_call 53; refine (in_any _ _ _ _).mono ?_; rintro e w' ⟨rfl, rfl⟩)
    | (at_builtin; refine wpList_append_own _ rfl _ _ 22 rfl (w.heap.size + 1) 3 i0 (.int .i64 0) 1 8 Tryd.underlying22 HI.out HZ0.out HZ1.out HZ2.out rfl (by decide) _ _ _ rfl (HS.out.own.alloc _) ⟨_, 0, none⟩ 2 2 (ints [F 3, F 4]) rfl rfl ?c1 (ints_one _) ?c3 ?c4 ?c5 ?_))
  case c1 => exact app_cells _ _ _ _ (by simp)
  case c3 => unfold maxLen; simp
  case c4 => simp
  case c5 => simp
  intro v1 w1 hown hgrow _
  have HR := hide (NInv.put HS.out (ms := [F 3, F 4]) rfl hown hgrow)
  clear hown hgrow HS
  have k0 : w1.cell? ⟨w.heap.size, 0, none⟩ = some (.int .i64 (1)) := by have := HR.out.box.at (k := 0) (by omega); rw [h0] at this; exact this
  clear c0 c1 c2 c3 c4
  go_wp2_with (go_at_call 53; refine (in_any _ _ _ _).mono ?_; rintro e w' ⟨rfl, rfl⟩)
  go_ret
  exact ⟨⟨_, rfl, by rw [HN.out]; exact HR.out.done (by simp)⟩, HR.out.old⟩

set_option maxHeartbeats 4000000 in
set_option maxRecDepth 100000 in
theorem list_vote (F : FR) (w : World) (h0 : F 0 = 2) :
    Calls Tryd.prog 76 #[.agg (fCells F)] w fun e w' => (∃ v, e = .returned v ∧ IsNums w w' (numsF F) v) ∧ Below w.heap.size w w' := by
  have c0 := fCells_at F 0 (by omega)
  have c1 := fCells_at F 1 (by omega)
  have c2 := fCells_at F 2 (by omega)
  have c3 := fCells_at F 3 (by omega)
  have c4 := fCells_at F 4 (by omega)
  obtain ⟨i0, hi, hz0, hz1, hz2⟩ := info_parts infoInt
  have HI := hide hi
  have HZ0 := hide hz0
  have HZ1 := hide hz1
  have HZ2 := hide hz2
  clear hi hz0 hz1 hz2
  have HN := hide (nums_mid (.inl h0))
  have HS := hide (nInv_start w 67 F (F 0) (F 1) (F 2))
  rw [h0] at c0 HN HS
  have b1 : inB 2 1 3 = true := by decide
  have b2 : inB 2 2 3 = true := by decide
  go_enter Tryd.func76, Tryd.ntmps76
  go_wp2_with (first
    | (go_at_call 53; refine (in_any _ _ _ _).mono ?_; rintro e w' ⟨rfl, rfl⟩)
    | (at_builtin; refine wpList_append_own _ rfl _ _ 22 rfl (w.heap.size + 1) 3 i0 (.int .i64 0) 1 8 Tryd.underlying22 HI.out HZ0.out HZ1.out HZ2.out rfl (by decide) _ _ _ rfl (HS.out.own.alloc _) ⟨_, 0, none⟩ 2 2 (ints [F 3, F 4]) rfl rfl ?c1 (ints_one _) ?c3 ?c4 ?c5 ?_))
  case c1 => exact app_cells _ _ _ _ (by simp)
  case c3 => unfold maxLen; simp
  case c4 => simp
  case c5 => simp
  intro v1 w1 hown hgrow _
  have HR := hide (NInv.put HS.out (ms := [F 3, F 4]) rfl hown hgrow)
  clear hown hgrow HS
  have k0 : w1.cell? ⟨w.heap.size, 0, none⟩ = some (.int .i64 (2)) := by have := HR.out.box.at (k := 0) (by omega); rw [h0] at this; exact this
  have k5 : w1.cell? ⟨w.heap.size, 5, none⟩ = some (.int .i64 (F 5)) := by have := HR.out.box.at (k := 5) (by omega); exact this
  have hN := HR.out.box.lt
  clear c0 c1 c2 c3 c4
  go_wp2_with (first
    | (go_at_call 53; refine (in_any _ _ _ _).mono ?_; rintro e w' ⟨rfl, rfl⟩)
    | (at_builtin; refine wpList_append_own _ rfl _ _ 22 rfl (w.heap.size + 1) 3 i0 (.int .i64 0) 1 8 Tryd.underlying22 HI.out HZ0.out HZ1.out HZ2.out rfl (by decide) _ _ _ rfl (HR.out.own.alloc _) ⟨_, 0, none⟩ 1 1 (ints [F 5]) rfl rfl ?c1b (ints_one _) ?c3b ?c4b ?c5b ?_))
  case c1b => exact app_cells _ _ _ _ (by simp)
  case c3b => unfold maxLen; simp
  case c4b => simp
  case c5b => simp; omega
  intro v2 w2 hown hgrow _
  have HR2 := hide (NInv.put HR.out (ms := [F 5]) rfl hown hgrow)
  clear hown hgrow k0 k5
  have k0 : w2.cell? ⟨w.heap.size, 0, none⟩ = some (.int .i64 2) := by have := HR2.out.box.at (k := 0) (by omega); rw [h0] at this; exact this
  clear HR
  go_wp2_with (go_at_call 53; refine (in_any _ _ _ _).mono ?_; rintro e w' ⟨rfl, rfl⟩)
  go_ret
  exact ⟨⟨_, rfl, by rw [HN.out]; exact HR2.out.done (by simp)⟩, HR2.out.old⟩

set_option maxHeartbeats 4000000 in
set_option maxRecDepth 100000 in
theorem list_done (F : FR) (w : World) (h0 : F 0 = 3) :
    Calls Tryd.prog 76 #[.agg (fCells F)] w fun e w' => (∃ v, e = .returned v ∧ IsNums w w' (numsF F) v) ∧ Below w.heap.size w w' := by
  have c0 := fCells_at F 0 (by omega)
  have c1 := fCells_at F 1 (by omega)
  have c2 := fCells_at F 2 (by omega)
  have c3 := fCells_at F 3 (by omega)
  have c4 := fCells_at F 4 (by omega)
  obtain ⟨i0, hi, hz0, hz1, hz2⟩ := info_parts infoInt
  have HI := hide hi
  have HZ0 := hide hz0
  have HZ1 := hide hz1
  have HZ2 := hide hz2
  clear hi hz0 hz1 hz2
  have HN := hide (nums_mid (.inr h0))
  have HS := hide (nInv_start w 67 F (F 0) (F 1) (F 2))
  rw [h0] at c0 HN HS
  have b1 : inB 3 1 3 = true := by decide
  have b2 : inB 3 2 3 = true := by decide
  go_enter Tryd.func76, Tryd.ntmps76
  go_wp2_with (first
    | (go_at_call 53; refine (in_any _ _ _ _).mono ?_; rintro e w' ⟨rfl, rfl⟩)
    | (at_builtin; refine wpList_append_own _ rfl _ _ 22 rfl (w.heap.size + 1) 3 i0 (.int .i64 0) 1 8 Tryd.underlying22 HI.out HZ0.out HZ1.out HZ2.out rfl (by decide) _ _ _ rfl (HS.out.own.alloc _) ⟨_, 0, none⟩ 2 2 (ints [F 3, F 4]) rfl rfl ?c1 (ints_one _) ?c3 ?c4 ?c5 ?_))
  case c1 => exact app_cells _ _ _ _ (by simp)
  case c3 => unfold maxLen; simp
  case c4 => simp
  case c5 => simp
  intro v1 w1 hown hgrow _
  have HR := hide (NInv.put HS.out (ms := [F 3, F 4]) rfl hown hgrow)
  clear hown hgrow HS
  have k0 : w1.cell? ⟨w.heap.size, 0, none⟩ = some (.int .i64 (3)) := by have := HR.out.box.at (k := 0) (by omega); rw [h0] at this; exact this
  have k5 : w1.cell? ⟨w.heap.size, 5, none⟩ = some (.int .i64 (F 5)) := by have := HR.out.box.at (k := 5) (by omega); exact this
  have hN := HR.out.box.lt
  clear c0 c1 c2 c3 c4
  go_wp2_with (first
    | (go_at_call 53; refine (in_any _ _ _ _).mono ?_; rintro e w' ⟨rfl, rfl⟩)
    | (at_builtin; refine wpList_append_own _ rfl _ _ 22 rfl (w.heap.size + 1) 3 i0 (.int .i64 0) 1 8 Tryd.underlying22 HI.out HZ0.out HZ1.out HZ2.out rfl (by decide) _ _ _ rfl (HR.out.own.alloc _) ⟨_, 0, none⟩ 1 1 (ints [F 5]) rfl rfl ?c1b (ints_one _) ?c3b ?c4b ?c5b ?_))
  case c1b => exact app_cells _ _ _ _ (by simp)
  case c3b => unfold maxLen; simp
  case c4b => simp
  case c5b => simp; omega
  intro v2 w2 hown hgrow _
  have HR2 := hide (NInv.put HR.out (ms := [F 5]) rfl hown hgrow)
  clear hown hgrow k0 k5
  have k0 : w2.cell? ⟨w.heap.size, 0, none⟩ = some (.int .i64 3) := by have := HR2.out.box.at (k := 0) (by omega); rw [h0] at this; exact this
  clear HR
  go_wp2_with (go_at_call 53; refine (in_any _ _ _ _).mono ?_; rintro e w' ⟨rfl, rfl⟩)
  go_ret
  exact ⟨⟨_, rfl, by rw [HN.out]; exact HR2.out.done (by simp)⟩, HR2.out.old⟩

set_option maxHeartbeats 4000000 in
set_option maxRecDepth 100000 in
theorem list_else (F : FR) (w : World) (h1 : F 0 ≠ 1) (h2 : F 0 ≠ 2) (h3 : F 0 ≠ 3) (h5 : F 0 ≠ 5) :
    Calls Tryd.prog 76 #[.agg (fCells F)] w fun e w' => (∃ v, e = .returned v ∧ IsNums w w' (numsF F) v) ∧ Below w.heap.size w w' := by
  have c0 := fCells_at F 0 (by omega)
  have c1 := fCells_at F 1 (by omega)
  have c2 := fCells_at F 2 (by omega)
  obtain ⟨i0, hi, hz0, hz1, hz2⟩ := info_parts infoInt
  have HI := hide hi
  have HZ0 := hide hz0
  have HZ1 := hide hz1
  have HZ2 := hide hz2
  clear hi hz0 hz1 hz2
  have HN := hide (nums_else h1 h2 h3 h5)
  have HS := hide (nInv_start w 67 F (F 0) (F 1) (F 2))
  obtain ⟨q, hq⟩ : ∃ q, Hid (F 0 = q) := ⟨_, hide rfl⟩
  rw [hq.out] at c0 HN HS h1 h2 h3 h5
  have b1 : inB q 1 3 = false := by unfold inB; simp; omega
  have b2 : inB q 2 3 = false := by unfold inB; simp; omega
  have t5 : (q == 5) = false := by simpa using h5
  clear h1 h2 h3 h5
  go_enter Tryd.func76, Tryd.ntmps76
  go_wp2_with (go_at_call 53; refine (in_any _ _ _ _).mono ?_; rintro e w' ⟨rfl, rfl⟩)
  go_ret
  exact ⟨⟨_, rfl, by rw [HN.out]; exact HS.out.done (by simp)⟩, HS.out.old⟩

set_option maxHeartbeats 4000000 in
set_option maxRecDepth 100000 in
theorem list_known5 (F : FR) (w : World) (h0 : F 0 = 5) :
    Calls Tryd.prog 76 #[.agg (fCells F)] w fun e w' => (∃ v, e = .returned v ∧ IsNums w w' (numsF F) v) ∧ Below w.heap.size w w' := by
  have c0 := fCells_at F 0 (by omega)
  have c1 := fCells_at F 1 (by omega)
  have c2 := fCells_at F 2 (by omega)
  have c6 := fCells_at F 6 (by omega)
  obtain ⟨i0, hi, hz0, hz1, hz2⟩ := info_parts infoInt
  have HI := hide hi
  have HZ0 := hide hz0
  have HZ1 := hide hz1
  have HZ2 := hide hz2
  clear hi hz0 hz1 hz2
  have HN := hide (nums_known h0)
  have HS := hide (nInv_start w 67 F (F 0) (F 1) (F 2))
  rw [h0] at c0 HN HS
  have b1 : inB 5 1 3 = false := by decide
  have b2 : inB 5 2 3 = false := by decide
  go_enter Tryd.func76, Tryd.ntmps76
  go_wp2_with (first
    | (go_at_call 53; refine (in_any _ _ _ _).mono ?_; rintro e w' ⟨rfl, rfl⟩)
    | (at_builtin; refine wpList_append_own _ rfl _ _ 22 rfl (w.heap.size + 1) 3 i0 (.int .i64 0) 1 8 Tryd.underlying22 HI.out HZ0.out HZ1.out HZ2.out rfl (by decide) _ _ _ rfl (HS.out.own.alloc _) ⟨_, 0, none⟩ 1 1 (ints [F 6]) rfl rfl ?c1 (ints_one _) ?c3 ?c4 ?c5 ?_))
  case c1 => exact app_cells _ _ _ _ (by simp)
  case c3 => unfold maxLen; simp
  case c4 => simp
  case c5 => simp
  intro v1 w1 hown hgrow _
  have HR := hide (NInv.put HS.out (ms := [F 6]) rfl hown hgrow)
  clear hown hgrow HS c0 c1 c2 c6 h0 b1 b2
  go_wp2
  go_loopw [3, 41] (fun v i wr => ∃ k : Nat, k ≤ 8 ∧ i = .int .i64 k ∧ NInv w wr 67 F v ([5, F 1, F 2, F 6] ++ stNums F k)) (fun _ i _ => 8 - (intOf i).toNat)
  case atStart => exact ⟨0, Nat.zero_le _, rfl, by simpa [stNums] using HR.out⟩
  case round =>
    clear HR
    obtain ⟨k, hk, rfl, hI⟩ := hrel
    by_cases hlt : k < 8
    · have hu := hI.box.at (k := 7 + k) (by omega)
      have hid := hI.box.at (k := 15 + k) (by omega)
      obtain ⟨x, hx⟩ : ∃ x, Hid (F (7 + k) = x) := ⟨_, hide rfl⟩
      obtain ⟨y, hy⟩ : ∃ y, Hid (F (15 + k) = y) := ⟨_, hide rfl⟩
      rw [hx.out] at hu
      rw [hy.out] at hid
      have hlen : ([5, F 1, F 2, F 6] ++ stNums F k).length = 4 + 2 * k := by rw [List.length_append, stNums_length]; rfl
      have hown0 := hI.own
      rw [hlen] at hown0
      have hN := hI.box.lt
      have hne : some w.heap.size ≠ u3.ownBlock := fun e => by have := (hown0.lt _ e.symm).1; omega
      have HOWN := hide hown0
      have HK1 : Hid (4 + 2 * k + 2 ≤ maxLen) := by rw [Hid]; unfold maxLen; omega
      have HK2 : Hid ((4 + 2 * k + 2) * 8 ≤ 140737488355328) := by rw [Hid]; omega
      have HK3 : Hid (w.heap.size + 1 ≤ (wr.alloc (.cells #[.int .i64 x, .int .i64 y] 3)).drew.heap.size) := by rw [Hid]; simp; omega
      have HL := hide hlen
      have d0 : (0 : Int) ≤ (k : Int) := by omega
      have d1 : (k : Int) < 8 := by omega
      clear hown0 hlen
      go_wp2_with fail
      go_region_held3 (fun w' => w'.cell? ⟨w.heap.size, 7 + k, none⟩ = some (.int .i64 x) ∧ w'.cell? ⟨w.heap.size, 15 + k, none⟩ = some (.int .i64 y))
        (first
          | go_keep
          | (go_split_ands
             refine ⟨?_, ?_⟩
             · (rw [hgrow.cell_far _ (by simp; omega) hne]; assumption)
             · (rw [hgrow.cell_far _ (by simp; omega) hne]; assumption)))
        ((refine step_append_lies _ (by rfl) _ _ _ (by rfl) (w.heap.size + 1) 3 i0 _ 1 8 Tryd.underlying22 HI.out HZ0.out HZ1.out HZ2.out rfl (by omega) u3 (4 + 2 * k) (ints ([5, F 1, F 2, F 6] ++ stNums F k)) (by rfl) ((HOWN.out.alloc _).drew)
            ⟨wr.heap.size, 0, none⟩ 2 2 (ints [x, y]) (by rfl) (by rfl) (World.news_of_block (cs := #[.int .i64 x, .int .i64 y]) (t := 3) (fr := (0, 0)) (heap_alloc_new wr _)) (ints_one _)
            (by omega) HK1.out HK2.out HK3.out (wr.heap.size + 1) (by simp) ?_; intro gg cap' w1 hown1 hgrow hat hlt))
      have R := NInv.put hI (ms := [x, y]) rfl (by rw [HL.out]; exact hown1) (show (wr.alloc (.cells #[.int .i64 x, .int .i64 y] 3)).grownBy w1 u3.ownBlock from ⟨hgrow.os, hgrow.tape, hgrow.output, hgrow.size, hgrow.block⟩)
      have HR := hide R
      clear R hgrow hown1 hat hlt hu hid HOWN HK1 HK2 HK3 hI
      go_wp2
      go_roundw
      case rel => exact ⟨k + 1, by omega, by go_num, by rw [stNums, hx.out, hy.out, ← List.append_assoc]; exact HR.out⟩
      case measure => simp [intOf]; omega
    · have hk8 : k = 8 := by omega
      subst hk8
      have HD := hide hI
      clear hI
      go_wp2
      go_ret
      exact ⟨⟨_, rfl, by rw [HN.out]; exact HD.out.done (by simp)⟩, HD.out.old⟩

theorem list_any (F : FR) (w : World) :
    Calls Tryd.prog 76 #[.agg (fCells F)] w fun e w' => (∃ v, e = .returned v ∧ IsNums w w' (numsF F) v) ∧ Below w.heap.size w w' := by
  by_cases h1 : F 0 = 1
  · exact list_sample F w h1
  by_cases h2 : F 0 = 2
  · exact list_vote F w h2
  by_cases h3 : F 0 = 3
  · exact list_done F w h3
  by_cases h5 : F 0 = 5
  · exact list_known5 F w h5
  exact list_else F w h1 h2 h3 h5
end Go.Proofs.YtbiacknbaefccaaDoor
