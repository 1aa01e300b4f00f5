import Derived.OwnWalk
import Derived.Laws.OwnMore
import Derived.Test.YtaablbmgagiajaaGreatDoorTGAA
namespace Go.Proofs.YtaablbmgagiajaaGreatDoor
open Go.RowKit Go.Deep
def ints (l : List Int) : List Value := l.map (Value.int .i64)
structure NInv (w wr : World) (t : Nat) (F : FR) (v : Value) (l : List Int) : Prop where
  old : Below w.heap.size w wr
  box : FIs wr w.heap.size t F
  own : wr.ownsRow (w.heap.size + 1) 3 1 v l.length (ints l)
theorem NInv.put {w wr w3 : World} {t : Nat} {F : FR} {v v' : Value} {l ms : List Int} {m : Nat} {p : Obj} (h : NInv w wr t F v l) (hm : ms.length = m)
    (hown : w3.ownsRow (w.heap.size + 1) 3 1 v' (l.length + m) (ints l ++ ints ms)) (hg : (wr.alloc p).grownBy w3 v.ownBlock) : NInv w w3 t F v' (l ++ ms) := by
  have hN : w.heap.size < wr.heap.size := h.box.lt
  have hb2 : Below wr.heap.size wr (wr.alloc p) := (Below.refl _ _).alloc (Nat.le_refl _) _
  refine ⟨(h.old.trans (hb2.mono (by omega))).grown hg (by simp; omega) (fun k hk => by have := (h.own.lt k hk).1; omega), ?_, ?_⟩
  · unfold FIs
    rw [hg.block w.heap.size (by simp; omega) (fun e => by have := (h.own.lt _ e.symm).1; omega), hb2.block _ hN]
    exact h.box
  · rw [List.length_append, hm]
    simpa [ints] using hown
def IsNums (w w' : World) (l : List Int) (v : Value) : Prop := ∃ g cp, v = .slice (some ⟨g, 0, none⟩) l.length cp ∧ w.heap.size ≤ g ∧ g < w'.heap.size ∧ l.length ≤ cp ∧ Row w' g 0 l
theorem NInv.done {w wr : World} {t : Nat} {F : FR} {v : Value} {l : List Int} (h : NInv w wr t F v l) (hl : l ≠ []) : IsNums w wr l v := by
  have ho := h.own
  obtain ⟨_, ho2⟩ := h.own
  rcases ho2 with ⟨_, h0⟩ | ⟨g, cp, cur, rfl, hg, hh, hcc, hm, hsz, ht⟩
  · exact absurd (List.length_eq_zero_iff.1 h0) hl
  · refine ⟨g, cp, rfl, by omega, blk_lt hh, hcc, fun k hk => ?_⟩
    rw [Nat.zero_add, ho.cellAt k (by omega)]
    simp [ints, hk]
theorem nInv_start (w : World) (t : Nat) (F : FR) (x y z : Int) : NInv w ((w.alloc (.cells (fCells F) t)).alloc (.cells #[.int .i64 x, .int .i64 y, .int .i64 z] 3)) t F (.slice (some ⟨w.heap.size + 1, 0, none⟩) 3 3) [x, y, z] := by
  refine ⟨((Below.refl _ _).alloc (Nat.le_refl _) _).alloc (by simp) _, (Below.heap_alloc _ _ _ (by simp)).trans (blk_new _ _), ?_⟩
  have := World.ownsRow_lit (base := w.heap.size + 1) (e := 3) (size := 1) (w.alloc (.cells (fCells F) t)) #[.int .i64 x, .int .i64 y, .int .i64 z] 3 (by simp) (by unfold maxLen; omega) rfl
  simpa [ints] using this
def usedCells (F : FR) : List Value := [.int .i64 (F 7), .int .i64 (F 8), .int .i64 (F 9), .int .i64 (F 10), .int .i64 (F 11), .int .i64 (F 12), .int .i64 (F 13), .int .i64 (F 14)]
theorem FIs.usedAt {w : World} {q t : Nat} {F : FR} (h : FIs w q t F) : w.rangeAt q 7 (usedCells F) := fun j v hv => by
  have hj : j < 8 := (List.getElem?_eq_some_iff.1 hv).1
  rw [h.at (by omega), ← hv]
  match j, hj with
  | 0, _ => rfl | 1, _ => rfl | 2, _ => rfl | 3, _ => rfl | 4, _ => rfl | 5, _ => rfl | 6, _ => rfl | 7, _ => rfl
theorem idxUsed (F : FR) (k : Nat) (hk : k < 8) (w : World) : (Instr.index 31 (.agg (usedCells F).toArray) (.int .i64 (k : Int))).run Tryz.prog w = .ok (.int .i64 (F (7 + k))) w := by
  rcases (by omega : k = 0 ∨ k = 1 ∨ k = 2 ∨ k = 3 ∨ k = 4 ∨ k = 5 ∨ k = 6 ∨ k = 7) with rfl | rfl | rfl | rfl | rfl | rfl | rfl | rfl <;> kernel_rfl
theorem infoArr : (Tryz.prog.info? 31).map (·.size) = some 8 := by kernel_rfl
theorem app_cells (w : World) (l : List Value) (t : TypeId) (B : Nat) (hB : w.heap.size = B) : ∀ j u, l[j]? = some u → (w.alloc (.cells l.toArray t)).cell? ((⟨B, 0, none⟩ : Addr).add j) = some u := by
  subst hB
  intro j u hj
  have e : (⟨w.heap.size, 0, none⟩ : Addr).add j = ⟨w.heap.size, j, none⟩ := by unfold Addr.add; split <;> simp_all
  rw [e, blk_cell (blk_new _ _)]
  simpa using hj
theorem ints_one (l : List Int) : ∀ u ∈ ints l, u.oneCell' = true := ints_oneCell _ _
set_option maxHeartbeats 2000000 in
set_option maxRecDepth 20000 in
theorem nums_sample (F : FR) (w : World) (h0 : F 0 = 1) :
    Calls Tryz.prog 63 #[.agg (fCells F)] w fun e w' => (∃ v, e = .returned v ∧ IsNums w w' (numsF F) v) ∧ Below w.heap.size w w' := by
  have c0 := fCells_at F 0 (by omega)
  have c1 := fCells_at F 1 (by omega)
  have c2 := fCells_at F 2 (by omega)
  have c3 := fCells_at F 3 (by omega)
  have c4 := fCells_at F 4 (by omega)
  obtain ⟨i0, hi, hz0, hz1, hz2⟩ := info_parts infoIntF
  have HI := hide hi
  have HZ0 := hide hz0
  have HZ1 := hide hz1
  have HZ2 := hide hz2
  clear hi hz0 hz1 hz2
  have HN := hide (nums_one h0)
  have HS := hide (nInv_start w 35 F (F 0) (F 1) (F 2))
  rw [h0] at c0 HN HS
  go_enter Tryz.func63, Tryz.ntmps63
  go_wp2_with (at_builtin; refine wpList_append_own _ rfl _ _ 22 rfl (w.heap.size + 1) 3 i0 (.int .i64 0) 1 8 Tryz.underlying22 HI.out HZ0.out HZ1.out HZ2.out rfl (by decide) _ _ _ rfl (HS.out.own.alloc _) ⟨_, 0, none⟩ 2 2 (ints [F 3, F 4]) rfl rfl ?c1 (ints_one _) ?c3 ?c4 ?c5 ?_)
  case c1 => exact app_cells _ _ _ _ (by simp)
  case c3 => unfold maxLen; simp
  case c4 => simp
  case c5 => simp
  intro v1 w1 hown hgrow _
  have R := NInv.put HS.out (ms := [F 3, F 4]) rfl hown hgrow
  clear hown hgrow HS
  go_wp2
  go_ret
  exact ⟨⟨_, rfl, by rw [HN.out]; exact R.done (by simp)⟩, R.old⟩
set_option maxHeartbeats 2000000 in
set_option maxRecDepth 20000 in
theorem nums_vote (F : FR) (w : World) (h0 : F 0 = 2) :
    Calls Tryz.prog 63 #[.agg (fCells F)] w fun e w' => (∃ v, e = .returned v ∧ IsNums w w' (numsF F) v) ∧ Below w.heap.size w w' := by
  have c0 := fCells_at F 0 (by omega)
  have c1 := fCells_at F 1 (by omega)
  have c2 := fCells_at F 2 (by omega)
  have c3 := fCells_at F 3 (by omega)
  have c4 := fCells_at F 4 (by omega)
  have c5 := fCells_at F 5 (by omega)
  obtain ⟨i0, hi, hz0, hz1, hz2⟩ := info_parts infoIntF
  have HI := hide hi
  have HZ0 := hide hz0
  have HZ1 := hide hz1
  have HZ2 := hide hz2
  clear hi hz0 hz1 hz2
  have HN := hide (nums_mid (.inl h0))
  have HS := hide (nInv_start w 35 F (F 0) (F 1) (F 2))
  rw [h0] at c0 HN HS
  go_enter Tryz.func63, Tryz.ntmps63
  go_wp2_with (at_builtin; refine wpList_append_own _ rfl _ _ 22 rfl (w.heap.size + 1) 3 i0 (.int .i64 0) 1 8 Tryz.underlying22 HI.out HZ0.out HZ1.out HZ2.out rfl (by decide) _ _ _ rfl (HS.out.own.alloc _) ⟨_, 0, none⟩ 3 3 (ints [F 3, F 4, F 5]) rfl rfl ?c1 (ints_one _) ?c3 ?c4 ?c5 ?_)
  case c1 => exact app_cells _ _ _ _ (by simp)
  case c3 => unfold maxLen; simp
  case c4 => simp
  case c5 => simp
  intro v1 w1 hown hgrow _
  have R := NInv.put HS.out (ms := [F 3, F 4, F 5]) rfl hown hgrow
  clear hown hgrow HS
  go_wp2
  go_ret
  exact ⟨⟨_, rfl, by rw [HN.out]; exact R.done (by simp)⟩, R.old⟩
set_option maxHeartbeats 2000000 in
set_option maxRecDepth 20000 in
theorem nums_done (F : FR) (w : World) (h0 : F 0 = 3) :
    Calls Tryz.prog 63 #[.agg (fCells F)] w fun e w' => (∃ v, e = .returned v ∧ IsNums w w' (numsF F) v) ∧ Below w.heap.size w w' := by
  have c0 := fCells_at F 0 (by omega)
  have c1 := fCells_at F 1 (by omega)
  have c2 := fCells_at F 2 (by omega)
  have c3 := fCells_at F 3 (by omega)
  have c4 := fCells_at F 4 (by omega)
  have c5 := fCells_at F 5 (by omega)
  obtain ⟨i0, hi, hz0, hz1, hz2⟩ := info_parts infoIntF
  have HI := hide hi
  have HZ0 := hide hz0
  have HZ1 := hide hz1
  have HZ2 := hide hz2
  clear hi hz0 hz1 hz2
  have HN := hide (nums_mid (.inr h0))
  have HS := hide (nInv_start w 35 F (F 0) (F 1) (F 2))
  rw [h0] at c0 HN HS
  go_enter Tryz.func63, Tryz.ntmps63
  go_wp2_with (at_builtin; refine wpList_append_own _ rfl _ _ 22 rfl (w.heap.size + 1) 3 i0 (.int .i64 0) 1 8 Tryz.underlying22 HI.out HZ0.out HZ1.out HZ2.out rfl (by decide) _ _ _ rfl (HS.out.own.alloc _) ⟨_, 0, none⟩ 3 3 (ints [F 3, F 4, F 5]) rfl rfl ?c1 (ints_one _) ?c3 ?c4 ?c5 ?_)
  case c1 => exact app_cells _ _ _ _ (by simp)
  case c3 => unfold maxLen; simp
  case c4 => simp
  case c5 => simp
  intro v1 w1 hown hgrow _
  have R := NInv.put HS.out (ms := [F 3, F 4, F 5]) rfl hown hgrow
  clear hown hgrow HS
  go_wp2
  go_ret
  exact ⟨⟨_, rfl, by rw [HN.out]; exact R.done (by simp)⟩, R.old⟩
set_option maxHeartbeats 2000000 in
set_option maxRecDepth 20000 in
theorem nums_any (F : FR) (w : World) (h1 : F 0 ≠ 1) (h2 : F 0 ≠ 2) (h3 : F 0 ≠ 3) (h5 : F 0 ≠ 5) :
    Calls Tryz.prog 63 #[.agg (fCells F)] w fun e w' => (∃ v, e = .returned v ∧ IsNums w w' (numsF F) v) ∧ Below w.heap.size w w' := by
  have c0 := fCells_at F 0 (by omega)
  have c1 := fCells_at F 1 (by omega)
  have c2 := fCells_at F 2 (by omega)
  obtain ⟨i0, hi, hz0, hz1, hz2⟩ := info_parts infoIntF
  have HI := hide hi
  have HZ0 := hide hz0
  have HZ1 := hide hz1
  have HZ2 := hide hz2
  clear hi hz0 hz1 hz2
  have HN := hide (nums_else h1 h2 h3 h5)
  have HS := hide (nInv_start w 35 F (F 0) (F 1) (F 2))
  obtain ⟨q, hq⟩ : ∃ q, Hid (F 0 = q) := ⟨_, hide rfl⟩
  rw [hq.out] at c0 HN HS
  have t1 : (q == 1) = false := by rw [← hq.out]; simpa using h1
  have t2 : (q == 2) = false := by rw [← hq.out]; simpa using h2
  have t3 : (q == 3) = false := by rw [← hq.out]; simpa using h3
  have t5 : (q == 5) = false := by rw [← hq.out]; simpa using h5
  clear h1 h2 h3 h5
  go_enter Tryz.func63, Tryz.ntmps63
  go_wp2
  go_ret
  exact ⟨⟨_, rfl, by rw [HN.out]; exact HS.out.done (by simp)⟩, HS.out.old⟩
set_option maxHeartbeats 2000000 in
set_option maxRecDepth 20000 in
theorem nums_known5 (F : FR) (w : World) (h0 : F 0 = 5) :
    Calls Tryz.prog 63 #[.agg (fCells F)] w fun e w' => (∃ v, e = .returned v ∧ IsNums w w' (numsF F) v) ∧ Below w.heap.size w w' := by
  have c0 := fCells_at F 0 (by omega)
  have c1 := fCells_at F 1 (by omega)
  have c2 := fCells_at F 2 (by omega)
  have c6 := fCells_at F 6 (by omega)
  obtain ⟨i0, hi, hz0, hz1, hz2⟩ := info_parts infoIntF
  have HI := hide hi
  have HZ0 := hide hz0
  have HZ1 := hide hz1
  have HZ2 := hide hz2
  clear hi hz0 hz1 hz2
  have HN := hide (nums_known h0)
  have HS := hide (nInv_start w 35 F (F 0) (F 1) (F 2))
  rw [h0] at c0 HN HS
  go_enter Tryz.func63, Tryz.ntmps63
  go_wp2_with (at_builtin; refine wpList_append_own _ rfl _ _ 22 rfl (w.heap.size + 1) 3 i0 (.int .i64 0) 1 8 Tryz.underlying22 HI.out HZ0.out HZ1.out HZ2.out rfl (by decide) _ _ _ rfl (HS.out.own.alloc _) ⟨_, 0, none⟩ 1 1 (ints [F 6]) rfl rfl ?c1 (ints_one _) ?c3 ?c4 ?c5 ?_)
  case c1 => exact app_cells _ _ _ _ (by simp)
  case c3 => unfold maxLen; simp
  case c4 => simp
  case c5 => simp
  intro v1 w1 hown hgrow _
  have R := NInv.put HS.out (ms := [F 6]) rfl hown hgrow
  have HR := hide R
  clear hown hgrow HS R
  have hus := HR.out.box.usedAt
  have HU := hide hus
  clear hus c0 c1 c2 c6 h0
  go_wp2_with (refine wpList_load_mid rfl 31 _ rfl w.heap.size 7 rfl (usedCells F) _ HU.out Tryz.underlying31 rfl (by rw [infoArr]; rfl) ?_)
  go_loopw [3, 51] (fun v i wr => ∃ k : Nat, k ≤ 8 ∧ i = .int .i64 k ∧ NInv w wr 35 F v ([5, F 1, F 2, F 6] ++ stNums F k)) (fun _ i _ => 8 - (intOf i).toNat)
  case atStart => exact ⟨0, Nat.zero_le _, rfl, by simpa [stNums] using HR.out⟩
  case round =>
    clear HR HU
    obtain ⟨k, hk, rfl, hI⟩ := hrel
    by_cases hlt : k < 8
    · have hix := idxUsed F k hlt
      have hid := hI.box.at (k := 15 + k) (by omega)
      obtain ⟨x, hx⟩ : ∃ x, Hid (F (7 + k) = x) := ⟨_, hide rfl⟩
      obtain ⟨y, hy⟩ : ∃ y, Hid (F (15 + k) = y) := ⟨_, hide rfl⟩
      rw [hx.out] at hix
      rw [hy.out] at hid
      have hlen : ([5, F 1, F 2, F 6] ++ stNums F k).length = 4 + 2 * k := by rw [List.length_append, stNums_length]; rfl
      have HL := hide hlen
      have hN := hI.box.lt
      clear hlen
      go_wp2_with (at_builtin; refine wpList_append_own _ rfl _ _ 22 rfl (w.heap.size + 1) 3 i0 (.int .i64 0) 1 8 Tryz.underlying22 HI.out HZ0.out HZ1.out HZ2.out rfl (by decide) _ _ _ rfl (hI.own.alloc _) ⟨_, 0, none⟩ 2 2 (ints [x, y]) rfl rfl ?c1 (ints_one _) ?c3 ?c4 ?c5 ?_)
      case c1 => exact app_cells _ _ _ _ (by simp)
      case c3 => have := HL.out; unfold maxLen; omega
      case c4 => have := HL.out; omega
      case c5 => simp; omega
      intro v1 w1 hown hgrow _
      have R := NInv.put hI (ms := [x, y]) rfl hown hgrow
      clear hown hgrow hix hid
      go_wp2
      go_roundw
      case rel => exact ⟨k + 1, by omega, by go_num, by rw [stNums, hx.out, hy.out, ← List.append_assoc]; exact R⟩
      case measure => simp [intOf]; omega
    · have hk8 : k = 8 := by omega
      subst hk8
      have HD := hide hI
      clear hI
      go_wp2
      go_ret
      exact ⟨⟨_, rfl, by rw [HN.out]; exact HD.out.done (by simp)⟩, HD.out.old⟩
theorem numbers_any (F : FR) (w : World) :
    Calls Tryz.prog 63 #[.agg (fCells F)] w fun e w' => (∃ v, e = .returned v ∧ IsNums w w' (numsF F) v) ∧ Below w.heap.size w w' := by
  by_cases h1 : F 0 = 1
  · exact nums_sample F w h1
  by_cases h2 : F 0 = 2
  · exact nums_vote F w h2
  by_cases h3 : F 0 = 3
  · exact nums_done F w h3
  by_cases h5 : F 0 = 5
  · exact nums_known5 F w h5
  exact nums_any F w h1 h2 h3 h5
end Go.Proofs.YtaablbmgagiajaaGreatDoor
