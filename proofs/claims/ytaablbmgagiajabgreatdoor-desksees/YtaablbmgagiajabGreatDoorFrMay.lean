/- The contract of frame.mayBe. -/
import Derived.Test.YtaablbmgagiajabGreatDoorFrFramed
import Derived.OrdersHeld
namespace Go.Proofs.YtaablbmgagiajabGreatDoor
open Go.RowKit Go.Deep

/-- A whole frame that is read, in a region that draws its order. -/
theorem yields_f {ops : Array Oper} {S : World → Prop} {op : Oper} {a : Act} (hw : Region.wanted op (yielded ops a.tmps) = true) (x : Operand) (ho : op.op = .load 36 x)
    (b : Nat) (hx : a.eval x = .pointer (some ⟨b, 0, none⟩)) (F : FR) (hS : ∀ w, S w → FIs w b 36 F) : YieldsIf Tryz.prog ops S op (.agg (fCells F)) a :=
  .inl ⟨hw, fun w h => by
    unfold execOp
    simp only [ho, hx, Instr.loadAt, Instr.sureAddr, Sem.run_bind, Sem.run_pure, Result.andThen_ok, load_f (hS w h)]⟩
theorem yields_eql {ops : Array Oper} {S : World → Prop} {op : Oper} {a : Act} (hw : Region.wanted op (yielded ops a.tmps) = true) (x y : Operand) (ho : op.op = .binOp .eql 36 x y 36)
    (F G : FR) (hx : a.eval x = .agg (fCells F)) (hy : a.eval y = .agg (fCells G)) : YieldsIf Tryz.prog ops S op (.bool (eqB F G)) a :=
  .inl ⟨hw, fun w _ => by
    have h := eql_f w F G
    unfold execOp
    simp only [ho, hx, hy]
    have hq : (eqGuard BinOp.eql 36 x y (.agg (fCells F)) (.agg (fCells G))).run Tryz.prog w = .ok () w := run_eqGuard_agg w _ _ _ _ _ _ (by kernel_rfl)
    (simp only [Sem.run_bind, hq, h, Result.andThen_ok, Sem.run_pure])⟩

theorem head_false {F : FR} (h : headB F = false) : mayB F = false := by unfold mayB; rw [h]; rfl

set_option maxHeartbeats 2000000 in
set_option maxRecDepth 20000 in
theorem mayBe_head (F : FR) (w : World) (h : headB F = false) :
    Calls Tryz.prog 81 #[.agg (fCells F)] w fun e w' => e = .returned (.bool (mayB F)) ∧ Below w.heap.size w w' := by
  have HM := hide (head_false h)
  have c0 := fCells_at F 0 (by omega)
  have c1 := fCells_at F 1 (by omega)
  unfold headB at h
  obtain ⟨x, hx⟩ : ∃ x, Hid (F 0 = x) := ⟨_, hide rfl⟩
  obtain ⟨y, hy⟩ : ∃ y, Hid (F 1 = y) := ⟨_, hide rfl⟩
  rw [hx.out] at c0 h
  rw [hy.out] at c1 h
  have HB := hide ((Below.refl w.heap.size w).alloc (Nat.le_refl _) (.cells (fCells F) 36))
  by_cases h1 : x < 1
  · clear h
    go_enter Tryz.func81, Tryz.ntmps81
    go_wp2
    go_ret
    exact ⟨ret_bool HM.out.symm, HB.out⟩
  · by_cases h2 : 5 < x
    · clear h
      go_enter Tryz.func81, Tryz.ntmps81
      go_wp2
      go_ret
      exact ⟨ret_bool HM.out.symm, HB.out⟩
    · by_cases h3 : y < 0
      · clear h
        go_enter Tryz.func81, Tryz.ntmps81
        go_wp2
        go_ret
        exact ⟨ret_bool HM.out.symm, HB.out⟩
      · have h4 : 3 < y := by
          simp only [Bool.and_eq_false_iff, decide_eq_false_iff_not] at h
          omega
        clear h
        go_enter Tryz.func81, Tryz.ntmps81
        go_wp2
        go_ret
        exact ⟨ret_bool HM.out.symm, HB.out⟩

set_option maxHeartbeats 4000000 in
set_option maxRecDepth 20000 in
theorem mayBe_main (F : FR) (w : World) (h : headB F = true) :
    Calls Tryz.prog 81 #[.agg (fCells F)] w fun e w' => e = .returned (.bool (mayB F)) ∧ Below w.heap.size w w' := by
  have hm : mayB F = ((numsF F).all fitsB && eqB F (framedF (numsF F))) := by unfold mayB; rw [h]; rfl
  rw [hm]
  have c0 := fCells_at F 0 (by omega)
  have c1 := fCells_at F 1 (by omega)
  unfold headB at h
  obtain ⟨x, hx⟩ : ∃ x, Hid (F 0 = x) := ⟨_, hide rfl⟩
  obtain ⟨y, hy⟩ : ∃ y, Hid (F 1 = y) := ⟨_, hide rfl⟩
  rw [hx.out] at c0 h
  rw [hy.out] at c1 h
  simp only [Bool.and_eq_true, decide_eq_true_eq] at h
  obtain ⟨⟨h1, h2⟩, h3, h4⟩ := h
  have hB : Below w.heap.size w (w.alloc (.cells (fCells F) 36)) := (Below.refl w.heap.size w).alloc (Nat.le_refl _) _
  have hbox : FIs (w.alloc (.cells (fCells F) 36)) w.heap.size 36 F := blk_new _ _
  have HB := hide hB
  have HBOX := hide hbox
  have HNUM := hide (numbers_any F (w.alloc (.cells (fCells F) 36)))
  obtain ⟨l, hl⟩ : ∃ l, Hid (numsF F = l) := ⟨_, hide rfl⟩
  have hlen := nums_length_le F
  rw [hl.out] at HNUM hlen ⊢
  clear hB hbox hm
  go_enter Tryz.func81, Tryz.ntmps81
  go_wp2_with (first
    | (refine wpList_load_f rfl _ rfl w.heap.size rfl F HBOX.out ?_)
    | (go_at_call 82; refine HNUM.out.mono ?_))
  rintro e w1 ⟨⟨v, rfl, g, cp, rfl, hg1, hg2, hcp, hrow⟩, hB1⟩
  have hN : w.heap.size < w1.heap.size := by have := hB1.size; simp at this; omega
  have hbox1 : FIs w1 w.heap.size 36 F := HBOX.out.below (by simp) hB1
  have hold1 : Below w.heap.size w w1 := HB.out.trans (hB1.mono (by simp))
  have HBOX1 := hide hbox1
  have HOLD1 := hide hold1
  have HROW := hide hrow
  clear hbox1 hold1 hrow hB1 HB HBOX HNUM hg1 c0 c1
  obtain ⟨n, hn⟩ : ∃ n, Hid (l.length = n) := ⟨_, hide rfl⟩
  rw [hn.out] at hlen hcp ⊢
  go_wp2
  go_loop [28] (fun i => ∃ k : Nat, k ≤ n ∧ i = .int .i64 k ∧ Hid ((l.take k).all fitsB = true)) (fun i => n - (intOf i).toNat)
  case atStart => exact ⟨0, Nat.zero_le _, rfl, by simp [Hid]⟩
  case round =>
    obtain ⟨k, hk, rfl, HT⟩ := hrel
    by_cases hlt : k < n
    · have hkl : k < l.length := by rw [hn.out]; exact hlt
      obtain ⟨z, hz, hcell⟩ := HROW.out.at hkl
      rw [Nat.zero_add] at hcell
      by_cases q1 : z < 0
      · have hf : l.all fitsB = false := all_take_false hkl (by rw [hz.out]; unfold fitsB; simp; omega)
        have HF := hide hf
        clear hf hkl
        go_wp2
        go_ret
        exact ⟨ret_bool (by rw [HF.out]; rfl), HOLD1.out⟩
      · by_cases q2 : 1048576 < z
        · have hf : l.all fitsB = false := all_take_false hkl (by rw [hz.out]; unfold fitsB; simp; omega)
          have HF := hide hf
          clear hf hkl
          go_wp2
          go_ret
          exact ⟨ret_bool (by rw [HF.out]; rfl), HOLD1.out⟩
        · have hf : (l.take (k + 1)).all fitsB = true := all_take_next hkl HT.out (by rw [hz.out]; unfold fitsB; simp; omega)
          have HF := hide hf
          clear hf hkl
          go_wp2
          go_round
          case rel => exact ⟨k + 1, by omega, by go_num, HF.out⟩
          case measure => simp [intOf]; omega
    · have hkn : k = n := by omega
      subst hkn
      have hall : l.all fitsB = true := by
        have := HT.out
        rwa [List.take_of_length_le (by rw [hn.out]; omega)] at this
      have HALL := hide hall
      have hfr : ∀ wx, Below w1.heap.size w1 wx → Calls Tryz.prog 131 #[.slice (some ⟨g, 0, none⟩) k cp] wx fun e w' => e = .returned (.agg (fCells (framedF l))) ∧ Hid (Below w1.heap.size w1 w') := by
        intro wx hx
        refine (framed_any g 0 k cp l wx hn.out (Nat.lt_of_lt_of_le hg2 hx.size) (HROW.out.below hg2 hx)).mono ?_
        rintro e w' ⟨he, hB⟩
        exact ⟨he, hx.trans (hB.mono hx.size)⟩
      have HFR := hide hfr
      obtain ⟨G, hG⟩ : ∃ G, Hid (framedF l = G) := ⟨_, hide rfl⟩
      rw [hG.out] at HFR
      have hss : ∀ wx, Below w1.heap.size w1 wx → FIs wx w.heap.size 36 F := fun wx hx => HBOX1.out.below hN hx
      clear hall hfr
      go_wp2_with fail
      refine wp_region_held_drew (S := fun w' => FIs w' w.heap.size 36 F) (by kernel_rfl) (hss _ (Below.refl _ _).drew) (fun hHeld => ?_)
      refine wpAnyH_take (i := 0) (oi := _) (v := _) rfl (by kernel_rfl) (by kernel_rfl) (by kernel_rfl) (fun _ _ _ h => h) (yields_f (by rfl) _ rfl _ rfl F (fun w h => h)) hHeld ?_
      simp only [Act.put]
      refine wpAnyH_take (i := 1) (oi := _) (v := .slice (some ⟨g, 0, none⟩) k cp) rfl (by kernel_rfl) (by kernel_rfl) (by kernel_rfl) (fun _ _ _ h => h) (Or.inl ⟨by rfl, fun w _ => by go_simp⟩) hHeld ?_
      simp only [Act.put]
      refine wpAnyH_ready (rs := [2]) (by kernel_rfl) (by simp) ?_
      refine AllReadyH.cons (o := _) rfl (fun K hK => ?_) AllReadyH.nil
      rw [if_pos (by rfl)]
      go_simp
      go_at_call 131
      refine (unhide HFR _ (Below.refl _ _).drew).mono ?_
      rintro e w5 ⟨rfl, HB5⟩
      dsimp only
      refine hK.out _ _ (hss _ HB5.out) (fun hHeld => ?_)
      clear hK K
      refine wpAnyH_take (i := 3) (oi := _) (v := .bool (eqB F G)) rfl (by kernel_rfl) (by kernel_rfl) (by kernel_rfl) (fun _ _ _ h => h) (yields_eql (by rfl) _ _ rfl F G rfl rfl) hHeld ?_
      simp only [Act.put, List.getElem_toArray, List.getElem_cons_succ, List.getElem_cons_zero, List.setIfInBounds_toArray, List.set_cons_succ, List.set_cons_zero]
      refine wpAnyH_take (i := 4) (oi := _) (v := .bool (eqB F G)) rfl (by kernel_rfl) (by kernel_rfl) (by kernel_rfl) (fun _ _ _ h => h) (Or.inl ⟨by rfl, fun w _ => by go_simp⟩) hHeld ?_
      simp only [Act.put, List.getElem_toArray, List.getElem_cons_succ, List.getElem_cons_zero, List.setIfInBounds_toArray, List.set_cons_succ, List.set_cons_zero]
      refine wpAnyH_done (by kernel_rfl) ?_ _
      clear hHeld
      go_wp2
      go_ret
      exact ⟨ret_bool (by rw [HALL.out, hG.out]; rfl), HOLD1.out.trans (HB5.out.mono (by omega))⟩

theorem mayBe_any (F : FR) (w : World) :
    Calls Tryz.prog 81 #[.agg (fCells F)] w fun e w' => e = .returned (.bool (mayB F)) ∧ Below w.heap.size w w' := by
  cases h : headB F
  · exact mayBe_head F w h
  · exact mayBe_main F w h
end Go.Proofs.YtaablbmgagiajabGreatDoor
