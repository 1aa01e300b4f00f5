/- The contracts of a voter's done and past. -/
import Derived.Test.YtonkapgbcnkjcaaGreatDoorVtSmall
import Derived.Test.YtonkapgbcnkjcaaGreatDoorVtRow
import Derived.Test.YtonkapgbcnkjcaaGreatDoorFrDec
namespace Go.Proofs.YtonkapgbcnkjcaaGreatDoor
open Go.RowKit Go.Deep

theorem infoCommit : (Tryz.prog.info? 59).map (fun i => (i.zero, i.size, i.bytes)) = some (some (.agg #[.int .i64 0, .int .i64 0, .int .i64 0]), 3, 24) := by kernel_rfl
theorem infoCommit3 : (Tryz.prog.info? 59).map (·.size) = some 3 := by kernel_rfl

set_option maxHeartbeats 1000000 in
set_option maxRecDepth 20000 in
theorem done_any (N p win : Nat) (tv : Value) (S : VS) (w : World) (k : Nat) (h : VIs w N p win tv S) (hok : VOk win S) (hk : k < S.tr.length) :
    Calls Tryz.prog 103 #[.pointer (some ⟨p, 0, none⟩), .int .i64 (k : Int)] w fun e w' => e = .returned (.agg (fCells (doneF k (cmAt S.tr k)))) ∧ Below w.heap.size w w' := by
  have hf := hok.few
  obtain ⟨g, cap, rfl, _, hg, hcap⟩ := h.row.has (by omega)
  have c0 := h.at 0
  rw [show (vCells (.slice (some ⟨g, 0, none⟩) S.tr.length cap) win S)[0]? = some (.slice (some ⟨g, 0, none⟩) S.tr.length cap) from rfl] at c0
  have hW : FIs (w.alloc (.cells (fCells fr0) 35)) w.heap.size 35 fr0 := blk_new _ _
  have hrow := (h.below ((Below.refl _ _).alloc (Nat.le_refl _) (.cells (fCells fr0) 35))).row.range hk
  have HROW := hide hrow
  obtain ⟨n, hn⟩ : ∃ n, S.tr.length = n := ⟨_, rfl⟩
  rw [hn] at c0 hk hf hcap
  generalize cmAt S.tr k = d at HROW hrow ⊢
  obtain ⟨d1, d2, d3⟩ := d
  have hres : FIs ((w.alloc (.cells (fCells fr0) 35)).alloc (.cells #[.int .i64 d1, .int .i64 d2, .int .i64 d3] 59)) w.heap.size 35 fr0 := (Below.heap_alloc _ _ _ (by simp)).trans hW
  have HRES := hide hres
  have HB := hide (((Below.refl w.heap.size w).alloc (Nat.le_refl _) (.cells (fCells fr0) 35)).alloc (by simp) (.cells #[.int .i64 d1, .int .i64 d2, .int .i64 d3] 59))
  have hN : fCells (doneF k ⟨d1, d2, d3⟩) = #[.int .i64 3, .int .i64 3, .int .i64 (k : Int), .int .i64 d1, .int .i64 d2, .int .i64 d3, .int .i64 0, .int .i64 0, .int .i64 0, .int .i64 0, .int .i64 0, .int .i64 0, .int .i64 0, .int .i64 0, .int .i64 0, .int .i64 0, .int .i64 0, .int .i64 0, .int .i64 0, .int .i64 0, .int .i64 0, .int .i64 0, .int .i64 0] := by
    simp [fCells, doneF, votF]
  have HN := hide hN
  have hpl := h.lt
  clear h hok hn hW hrow hres hN
  go_enter Tryz.func103, Tryz.ntmps103
  go_wp2_with (first
    | (refine wpList_load_mid rfl 59 _ rfl g (k * 3) rfl _ _ HROW.out Tryz.underlying59 rfl (by rw [infoCommit3]; rfl) ?_)
    | (refine wpList_store_fl rfl _ _ rfl w.heap.size (doneF k ⟨d1, d2, d3⟩) rfl (by rw [HN.out]; rfl) fr0 HRES.out ?_))
  intro w9 HF9
  go_wp2
  refine bodyPost_ret (v := .agg (fCells (doneF k ⟨d1, d2, d3⟩))) ?_ rfl ⟨rfl, HB.out.trans (HF9.out.2.2 _ (Nat.le_refl _))⟩
  exact results_cell1 Tryz.results103 rfl (load_f HF9.out.1)
end Go.Proofs.YtonkapgbcnkjcaaGreatDoor
