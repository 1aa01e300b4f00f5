/- The contract of triumvirref.May. -/
import Derived.Test.YtbiacknbaefccaaDoorRfMade
namespace Go.Proofs.YtbiacknbaefccaaDoor
open Go.RowKit Go.Deep

section
variable {ops : Array Oper} {rest : List Oper} {op : Oper} {a : Act} {w : World} {Q : Exit → Act → World → Prop}
theorem wpList_loadWr (hw : Region.wanted op (yielded ops a.tmps) = true) (x : Operand) (ho : op.op = .load 67 x) (b : Nat) (hx : a.eval x = .pointer (some ⟨b, 0, none⟩)) (F : FR) (hS : FIs w b 67 F)
    (h : wpList Tryd.prog ops Q rest (a.put op.dst (.agg (fCells F))) w) : wpList Tryd.prog ops Q (op :: rest) a w := by
  unfold wpList
  rw [if_pos hw]
  exact .inl (wp_load_row _ x ho b hx _ _ _ _ hS Tryd.underlying67 rfl (by rw [infoRef]; rfl) h)
theorem wpList_eqlWr (hw : Region.wanted op (yielded ops a.tmps) = true) (x y : Operand) (ho : op.op = .binOp .eql 67 x y 67) (F G : FR) (hx : a.eval x = .agg (fCells F)) (hy : a.eval y = .agg (fCells G))
    (h : wpList Tryd.prog ops Q rest (a.put op.dst (.bool (eqB F G))) w) : wpList Tryd.prog ops Q (op :: rest) a w := by
  unfold wpList
  rw [if_pos hw]
  refine .inl ?_
  have h1 := eql_r w F G
  have hq : (eqGuard BinOp.eql 67 x y (.agg (fCells F)) (.agg (fCells G))).run Tryd.prog w = .ok () w := run_eqGuard_agg w _ _ _ _ _ _ (by kernel_rfl)
  unfold Oper.wp execOp
  simp only [ho, hx, hy, Sem.run_bind, hq, h1, Result.andThen_ok, Sem.run_pure]
  exact h
end

theorem eqB_symm (F G : FR) : eqB F G = eqB G F := by
  rw [Bool.eq_iff_iff, eqB_iff, eqB_iff]
  exact ⟨fun h k hk => (h k hk).symm, fun h k hk => (h k hk).symm⟩
theorem headB_in (F : FR) : headB F = (inB (F 0) 1 5 && inB (F 1) 0 3) := rfl
theorem fitsB_in (n : Int) : fitsB n = inB n 0 1048576 := rfl
theorem nums_ok {F : FR} (h : headB F = true) : okLen (numsF F) = true := by
  unfold headB at h
  simp only [Bool.and_eq_true, decide_eq_true_eq] at h
  obtain ⟨⟨h1, h2⟩, _⟩ := h
  unfold okLen
  rcases (by omega : F 0 = 1 ∨ F 0 = 2 ∨ F 0 = 3 ∨ F 0 = 4 ∨ F 0 = 5) with q | q | q | q | q
  · rw [nums_one q]; simp [at0, q]
  · rw [nums_mid (.inl q)]; simp [at0, q]
  · rw [nums_mid (.inr q)]; simp [at0, q]
  · rw [nums_else (by omega) (by omega) (by omega) (by omega)]; simp [at0, q]
  · rw [nums_known q]; simp [at0, q, stNums_length]

set_option maxHeartbeats 2000000 in
set_option maxRecDepth 20000 in
theorem refMay_head (F : FR) (w : World) (h : headB F = false) :
    Calls Tryd.prog 75 #[.agg (fCells F)] w fun e w' => e = .returned (.bool (mayB F)) ∧ Below w.heap.size w w' := by
  have hm : mayB F = false := by unfold mayB; rw [h]; rfl
  rw [hm]
  have c0 := fCells_at F 0 (by omega)
  have c1 := fCells_at F 1 (by omega)
  rw [headB_in] at h
  obtain ⟨x, hx⟩ : ∃ x, Hid (F 0 = x) := ⟨_, hide rfl⟩
  obtain ⟨y, hy⟩ : ∃ y, Hid (F 1 = y) := ⟨_, hide rfl⟩
  rw [hx.out] at c0 h
  rw [hy.out] at c1 h
  have HB := hide ((Below.refl w.heap.size w).alloc (Nat.le_refl _) (.cells (fCells F) 67))
  cases h1 : inB x 1 5
  · clear h
    go_enter Tryd.func75, Tryd.ntmps75
    go_wp2_with (go_at_call 53; refine (in_any _ _ _ _).mono ?_; rintro e w' ⟨rfl, rfl⟩)
    go_ret
    exact ⟨rfl, HB.out⟩
  · have h2 : inB y 0 3 = false := by rw [h1] at h; simpa using h
    clear h
    go_enter Tryd.func75, Tryd.ntmps75
    go_wp2_with (go_at_call 53; refine (in_any _ _ _ _).mono ?_; rintro e w' ⟨rfl, rfl⟩)
    go_ret
    exact ⟨rfl, HB.out⟩

set_option maxHeartbeats 4000000 in
set_option maxRecDepth 20000 in
theorem refMay_main (F : FR) (w : World) (h : headB F = true) :
    Calls Tryd.prog 75 #[.agg (fCells F)] w fun e w' => e = .returned (.bool (mayB F)) ∧ Below w.heap.size w w' := by
  have hm : mayB F = ((numsF F).all fitsB && eqB F (framedF (numsF F))) := by unfold mayB; rw [h]; rfl
  rw [hm]
  have hok := nums_ok h
  have c0 := fCells_at F 0 (by omega)
  have c1 := fCells_at F 1 (by omega)
  rw [headB_in] at h
  obtain ⟨x, hx⟩ : ∃ x, Hid (F 0 = x) := ⟨_, hide rfl⟩
  obtain ⟨y, hy⟩ : ∃ y, Hid (F 1 = y) := ⟨_, hide rfl⟩
  rw [hx.out] at c0 h
  rw [hy.out] at c1 h
  simp only [Bool.and_eq_true] at h
  obtain ⟨h1, h2⟩ := h
  have hB : Below w.heap.size w (w.alloc (.cells (fCells F) 67)) := (Below.refl w.heap.size w).alloc (Nat.le_refl _) _
  have hbox : FIs (w.alloc (.cells (fCells F) 67)) w.heap.size 67 F := blk_new _ _
  have HB := hide hB
  have HBOX := hide hbox
  have HNUM := hide (list_any F (w.alloc (.cells (fCells F) 67)))
  obtain ⟨l, hl⟩ : ∃ l, Hid (numsF F = l) := ⟨_, hide rfl⟩
  have hlen := nums_length_le F
  rw [hl.out] at HNUM hlen hok ⊢
  have HOK := hide hok
  clear hB hbox hm hok
  go_enter Tryd.func75, Tryd.ntmps75
  go_wp2_with (first
    | (go_at_call 53; refine (in_any _ _ _ _).mono ?_; rintro e w' ⟨rfl, rfl⟩)
    | (refine wpList_load_r rfl _ rfl w.heap.size rfl F HBOX.out ?_)
    | (go_at_call 76; refine HNUM.out.mono ?_))
  rintro e w1 ⟨⟨v, rfl, g, cp, rfl, hg1, hg2, hcp, hrow⟩, hB1⟩
  have hN : w.heap.size < w1.heap.size := by have := hB1.size; simp at this; omega
  have hbox1 : FIs w1 w.heap.size 67 F := HBOX.out.below (by simp) hB1
  have hold1 : Below w.heap.size w w1 := HB.out.trans (hB1.mono (by simp))
  have HBOX1 := hide hbox1
  have HOLD1 := hide hold1
  have HROW := hide hrow
  clear hbox1 hold1 hrow hB1 HB HBOX HNUM hg1 c0 c1 h1 h2
  obtain ⟨n, hn⟩ : ∃ n, Hid (l.length = n) := ⟨_, hide rfl⟩
  rw [hn.out] at hlen hcp ⊢
  go_wp2
  go_loop [22] (fun i => ∃ k : Nat, k ≤ n ∧ i = .int .i64 k ∧ Hid ((l.take k).all fitsB = true)) (fun i => n - (intOf i).toNat)
  case atStart => exact ⟨0, Nat.zero_le _, rfl, by simp [Hid]⟩
  case round =>
    obtain ⟨k, hk, rfl, HT⟩ := hrel
    by_cases hlt : k < n
    · have hkl : k < l.length := by rw [hn.out]; exact hlt
      obtain ⟨z, hz, hcell⟩ := HROW.out.at hkl
      rw [Nat.zero_add] at hcell
      cases hq : inB z 0 1048576
      · have hf : l.all fitsB = false := all_take_false hkl (by rw [hz.out, fitsB_in]; exact hq)
        have HF := hide hf
        clear hf hkl
        go_wp2_with (go_at_call 53; refine (in_any _ _ _ _).mono ?_; rintro e w' ⟨rfl, rfl⟩)
        go_ret
        exact ⟨ret_bool (by rw [HF.out]; rfl), HOLD1.out⟩
      · have hf : (l.take (k + 1)).all fitsB = true := all_take_next hkl HT.out (by rw [hz.out, fitsB_in]; exact hq)
        have HF := hide hf
        clear hf hkl
        go_wp2_with (go_at_call 53; refine (in_any _ _ _ _).mono ?_; rintro e w' ⟨rfl, rfl⟩)
        go_round
        case rel => exact ⟨k + 1, by omega, by go_num, HF.out⟩
        case measure => simp [intOf]; omega
    · have hkn : k = n := by omega
      subst hkn
      have hall : l.all fitsB = true := by
        have := HT.out
        rwa [List.take_of_length_le (by rw [hn.out]; omega)] at this
      have HALL := hide hall
      have hmd := made_any g 0 k cp l w1 hn.out (by omega) hg2 HROW.out
      rw [made_yes HOK.out, HOK.out] at hmd
      have HMD := hide hmd
      obtain ⟨G, hG⟩ : ∃ G, Hid (framedF l = G) := ⟨_, hide rfl⟩
      rw [hG.out] at HMD
      clear hall hmd
      go_wp2_with (first
        | (go_at_call 80; refine HMD.out.mono ?_; rintro e w2 ⟨rfl, hB2⟩)
        | (refine wpList_store_rl rfl _ _ rfl w2.heap.size G rfl rfl fr0 (blk_new _ _) ?_))
      intro w3 HF3
      have hs2 := hB2.size
      have hB3 : Below w2.heap.size w2 w3 := ((Below.refl _ _).alloc (Nat.le_refl _) _).trans (HF3.out.2.2 _ (Nat.le_refl _))
      have hB13 : Below w1.heap.size w1 w3 := hB2.trans (hB3.mono hs2)
      have HG3 := hide HF3.out.1
      have HBOX3 := hide (HBOX1.out.below hN hB13)
      have HOLD3 := hide (HOLD1.out.trans (hB13.mono (by omega)))
      clear hB2 hB3 hB13 HF3 HMD HBOX1 HOLD1
      go_wp2_with (first
        | (refine wpList_loadWr (by rfl) _ rfl w2.heap.size rfl G HG3.out ?_)
        | (refine wpList_loadWr (by rfl) _ rfl w.heap.size rfl F HBOX3.out ?_)
        | (refine wpList_eqlWr (by rfl) _ _ rfl G F rfl rfl ?_))
      go_ret
      exact ⟨ret_bool (by rw [HALL.out, hG.out, eqB_symm]; rfl), HOLD3.out⟩

theorem refMay_any (F : FR) (w : World) :
    Calls Tryd.prog 75 #[.agg (fCells F)] w fun e w' => e = .returned (.bool (mayB F)) ∧ Below w.heap.size w w' := by
  cases h : headB F
  · exact refMay_head F w h
  · exact refMay_main F w h
end Go.Proofs.YtbiacknbaefccaaDoor
