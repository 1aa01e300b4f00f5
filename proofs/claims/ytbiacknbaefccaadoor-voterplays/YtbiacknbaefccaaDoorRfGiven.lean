/- The contracts of triumvirlaw.given, triumvirref.Bare, triumvirlaw.bare, triumvirlaw.FrameEncodes. -/
import Derived.Test.YtbiacknbaefccaaDoorRfEnc
import Derived.Test.YtbiacknbaefccaaDoorFrDec
import Derived.Test.YtbiacknbaefccaaDoorTell
namespace Go.Proofs.YtbiacknbaefccaaDoor
open Go.RowKit Go.Deep Go.Extern.Stop Go.Stop Go.Extern

theorem range_in {w : World} {q t : Nat} {F : FR} (h : FIs w q t F) : w.rangeAt q 3 [.int .i64 (F 3), .int .i64 (F 4)] := fun j v hv => by
  have hj : j < 2 := (List.getElem?_eq_some_iff.1 hv).1
  rw [h.at (by omega), ← hv]
  match j, hj with
  | 0, _ => rfl | 1, _ => rfl
theorem range_st {w : World} {q t : Nat} {F : FR} (h : FIs w q t F) : w.rangeAt q 6 [.int .i64 (F 6), .int .i64 (F 7), .int .i64 (F 8), .int .i64 (F 9), .int .i64 (F 10), .int .i64 (F 11), .int .i64 (F 12), .int .i64 (F 13), .int .i64 (F 14), .int .i64 (F 15), .int .i64 (F 16), .int .i64 (F 17), .int .i64 (F 18), .int .i64 (F 19), .int .i64 (F 20), .int .i64 (F 21), .int .i64 (F 22)] := fun j v hv => by
  have hj : j < 17 := (List.getElem?_eq_some_iff.1 hv).1
  rw [h.at (by omega), ← hv]
  match j, hj with
  | 0, _ => rfl | 1, _ => rfl | 2, _ => rfl | 3, _ => rfl | 4, _ => rfl | 5, _ => rfl | 6, _ => rfl | 7, _ => rfl | 8, _ => rfl | 9, _ => rfl | 10, _ => rfl | 11, _ => rfl | 12, _ => rfl | 13, _ => rfl | 14, _ => rfl | 15, _ => rfl | 16, _ => rfl | n + 17, h => omega
theorem infoInput : (Tryd.prog.info? 26).map (·.size) = some 2 := by kernel_rfl
theorem infoState : (Tryd.prog.info? 49).map (·.size) = some 17 := by kernel_rfl

set_option maxHeartbeats 1000000 in
set_option maxRecDepth 20000 in
theorem given_any (F : FR) (w : World) :
    Calls Tryd.prog 29 #[.agg (fCells F)] w fun e w' => e = .returned (.agg (fCells F)) ∧ Below w.heap.size w w' := by
  have hbox : FIs ((w.alloc (.cells (fCells F) 63)).alloc (.cells (fCells fr0) 67)) w.heap.size 63 F := (Below.heap_alloc _ _ _ (by simp)).trans (blk_new _ _)
  have hres : FIs ((w.alloc (.cells (fCells F) 63)).alloc (.cells (fCells fr0) 67)) (w.heap.size + 1) 67 fr0 := by
    have := blk_new (w.alloc (.cells (fCells F) 63)) (.cells (fCells fr0) 67)
    unfold FIs
    simpa using this
  have HB := hide (((Below.refl w.heap.size w).alloc (Nat.le_refl _) (.cells (fCells F) 63)).alloc (by simp) (.cells (fCells fr0) 67))
  have HIN := hide (range_in hbox)
  have HST := hide (range_st hbox)
  have HRES := hide hres
  have c0 := fCells_at F 0 (by omega)
  have c1 := fCells_at F 1 (by omega)
  have c2 := fCells_at F 2 (by omega)
  have c5 := fCells_at F 5 (by omega)
  clear hbox hres
  go_enter Tryd.func29, Tryd.ntmps29
  go_wp2_with (first
    | (refine wpList_load_mid rfl 26 _ rfl w.heap.size 3 rfl _ _ HIN.out Tryd.underlying26 rfl (by rw [infoInput]; rfl) ?_)
    | (refine wpList_load_mid rfl 49 _ rfl w.heap.size 6 rfl _ _ HST.out Tryd.underlying49 rfl (by rw [infoState]; rfl) ?_)
    | (refine wpList_store_rl rfl _ _ rfl (w.heap.size + 1) F rfl rfl fr0 HRES.out ?_))
  intro w9 HF9
  go_wp2
  refine bodyPost_ret (v := .agg (fCells F)) ?_ rfl ⟨rfl, HB.out.trans (HF9.out.2.2 _ (Nat.le_succ _))⟩
  exact results_cell1 Tryd.results29 rfl (load_r HF9.out.1)

set_option maxHeartbeats 400000 in
theorem Bare_any (c : Int) (w : World) :
    Calls Tryd.prog 54 #[.int .i64 c] w fun e w' => e = .returned (.agg #[.int .i64 c, .int .i64 (-1)]) ∧ Below w.heap.size w w' := by
  go_enter Tryd.func54, Tryd.ntmps54
  go_wp2
  exact bodyPost_ret (v := .agg #[.int .i64 c, .int .i64 (-1)]) (by simp [results, Tryd.results54, go_sem]) rfl ⟨rfl, (Below.refl _ _).alloc (Nat.le_refl _) _⟩

set_option maxHeartbeats 400000 in
theorem bare_any (c : Nat) (v : Value) (w : World) (hv : v = errV c) (hg : HasErrT w) :
    Calls Tryd.prog 31 #[v, .int .i64 (c : Int)] w fun e w' => e = .returned (.bool true) ∧ Below w.heap.size w w' := by
  subst hv
  have hie : ∀ wx, IsErr wx 0 (c, -1) (errV c) := fun wx => by
    by_cases h : c = 0
    · subst h; exact .inl ⟨rfl, rfl⟩
    · exact .inr (.inl ⟨h, rfl, if_neg h⟩)
  have HBA := hide (Bare_any (c : Int) w)
  obtain ⟨v, hv⟩ : ∃ v, Hid (errV c = v) := ⟨_, hide rfl⟩
  rw [hv.out] at hie ⊢
  have HIE := hide hie
  clear hie
  go_enter Tryd.func31, Tryd.ntmps31
  go_wp2_with (go_at_call 54; refine HBA.out.mono ?_)
  rintro e w1 ⟨rfl, hB1⟩
  have HIS := hide (is_any w1 0 (c, -1) v (unhide HIE _) (hg.below hB1 hg.pos))
  have HB1 := hide hB1
  clear hB1 HBA HIE
  go_wp2_with (go_at_call 14; refine HIS.out.mono ?_; rintro e w2 ⟨rfl, hB2⟩)
  go_ret
  exact ⟨rfl, HB1.out.trans (hB2.mono HB1.out.size)⟩
end Go.Proofs.YtbiacknbaefccaaDoor
