/- The contract of triumvirlaw.told: the same frames. -/
import Derived.Test.YtbiacknbaefccaaDoorVtRow
import Derived.Test.YtbiacknbaefccaaDoorRfGiven
namespace Go.Proofs.YtbiacknbaefccaaDoor
open Go.RowKit Go.Deep

theorem yields_same {ops : Array Oper} {S : World → Prop} {op : Oper} {a : Act} (hw : Region.wanted op (yielded ops a.tmps) = true) (x y : Operand) (ho : op.op = .binOp .neq 67 x y 67)
    (F : FR) (hx : a.eval x = .agg (fCells F)) (hy : a.eval y = .agg (fCells F)) : YieldsIf Tryd.prog ops S op (.bool false) a :=
  .inl ⟨hw, fun w _ => by
    have h := neq_r w F F
    rw [show eqB F F = true from (eqB_iff _ _).2 fun _ _ => rfl] at h
    unfold execOp
    simp only [ho, hx, hy]
    have hq : (eqGuard BinOp.neq 67 x y (.agg (fCells F)) (.agg (fCells F))).run Tryd.prog w = .ok () w := run_eqGuard_agg w _ _ _ _ _ _ (by kernel_rfl)
    (simp only [Sem.run_bind, hq, h, Result.andThen_ok, Sem.run_pure, Bool.not_true])⟩

set_option maxHeartbeats 1000000 in
set_option maxRecDepth 20000 in
theorem told_some (g1 c1 g2 c2 n : Nat) (L : List FR) (w : World) (hn : L.length = n) (h2 : n ≤ 2) (h1 : FRow w 63 (.slice (some ⟨g1, 0, none⟩) n c1) L) (h3 : FRow w 67 (.slice (some ⟨g2, 0, none⟩) n c2) L) (b1 : g1 < w.heap.size) (b2 : g2 < w.heap.size) :
    Calls Tryd.prog 42 #[.slice (some ⟨g1, 0, none⟩) n c1, .slice (some ⟨g2, 0, none⟩) n c2] w fun e w' => e = .returned (.bool true) ∧ Below w.heap.size w w' := by
  have H1 := hide h1
  have H3 := hide h3
  clear h1 h3
  go_enter Tryd.func42, Tryd.ntmps42
  go_wp2
  go_loopw [5] (fun i wr => Below w.heap.size w wr ∧ ∃ k : Nat, k ≤ n ∧ i = .int .i64 k) (fun i _ => n - (intOf i).toNat)
  case atStart => exact ⟨Below.refl _ _, 0, Nat.zero_le _, rfl⟩
  case round =>
    obtain ⟨hB, k, hk, rfl⟩ := hrel
    have HB := hide hB
    clear hB
    by_cases hlt : k < n
    · obtain ⟨G, hG⟩ : ∃ G, Hid (L[k]?.getD fr0 = G) := ⟨_, hide rfl⟩
      have r1 := H1.out.range (i := k) (by omega)
      have r2 := H3.out.range (i := k) (by omega)
      rw [hG.out] at r1 r2
      have hss : ∀ wx, Below w.heap.size w wx → wx.rangeAt g1 (k * 23) (fCells G).toList ∧ wx.rangeAt g2 (k * 23) (fCells G).toList := fun wx hx =>
        ⟨fun j v hv => (hx.cell (p := ⟨g1, k * 23 + j, none⟩) b1).trans (r1 j v hv), fun j v hv => (hx.cell (p := ⟨g2, k * 23 + j, none⟩) b2).trans (r2 j v hv)⟩
      have HSS := hide hss
      have hgv : ∀ wx, Below w.heap.size w wx → Calls Tryd.prog 29 #[.agg (fCells G)] wx fun e w' => e = .returned (.agg (fCells G)) ∧ Hid (Below w.heap.size w w') := by
        intro wx hx
        refine (given_any G wx).mono ?_
        rintro e w' ⟨he, hB⟩
        exact ⟨he, hx.trans (hB.mono hx.size)⟩
      have HGV := hide hgv
      have k1 : (0 : Int) ≤ (k : Int) := by omega
      have k2 : (k : Int) < (n : Int) := by omega
      clear hss hgv r1 r2
      go_wp2_with fail
      refine wp_region_held_drew (S := fun w' => w'.rangeAt g1 (k * 23) (fCells G).toList ∧ w'.rangeAt g2 (k * 23) (fCells G).toList) (by kernel_rfl) (unhide HSS _ HB.out.drew) (fun hHeld => ?_)
      refine wpAnyH_take (i := 0) (oi := _) (v := .slice (some ⟨g1, 0, none⟩) n c1) rfl (by kernel_rfl) (by kernel_rfl) (by kernel_rfl) (fun _ _ _ h => h) (Or.inl ⟨by rfl, fun w _ => by go_simp⟩) hHeld ?_
      simp only [Act.put, List.getElem_toArray, List.getElem_cons_zero, List.setIfInBounds_toArray, List.set_cons_succ, List.set_cons_zero]
      refine wpAnyH_take (i := 1) (oi := _) (v := .int .i64 (k : Int)) rfl (by kernel_rfl) (by kernel_rfl) (by kernel_rfl) (fun _ _ _ h => h) (Or.inl ⟨by rfl, fun w _ => by go_simp⟩) hHeld ?_
      simp only [Act.put, List.getElem_toArray, List.getElem_cons_succ, List.getElem_cons_zero, List.setIfInBounds_toArray, List.set_cons_succ, List.set_cons_zero]
      refine wpAnyH_take (i := 2) (oi := _) (v := .pointer (some ⟨g1, k * 23, none⟩)) rfl (by kernel_rfl) (by kernel_rfl) (by kernel_rfl) (fun _ _ _ h => h) (Or.inl ⟨by rfl, fun w _ => by go_simp⟩) hHeld ?_
      simp only [Act.put, List.getElem_toArray, List.getElem_cons_succ, List.getElem_cons_zero, List.setIfInBounds_toArray, List.set_cons_succ, List.set_cons_zero]
      refine wpAnyH_take (i := 3) (oi := _) (v := .agg (fCells G)) rfl (by kernel_rfl) (by kernel_rfl) (by kernel_rfl) (fun _ _ _ h => h) (yieldsIf_load_mid (by rfl) 63 _ rfl g1 (k * 23) rfl (fCells G).toList _ (fun w h => h.1) Tryd.underlying63 rfl (by rw [infoFrame]; rfl)) hHeld ?_
      simp only [Act.put, List.getElem_toArray, List.getElem_cons_succ, List.getElem_cons_zero, List.setIfInBounds_toArray, List.set_cons_succ, List.set_cons_zero]
      refine wpAnyH_take (i := 5) (oi := _) (v := .slice (some ⟨g2, 0, none⟩) n c2) rfl (by kernel_rfl) (by kernel_rfl) (by kernel_rfl) (fun _ _ _ h => h) (Or.inl ⟨by rfl, fun w _ => by go_simp⟩) hHeld ?_
      simp only [Act.put, List.getElem_toArray, List.getElem_cons_succ, List.getElem_cons_zero, List.setIfInBounds_toArray, List.set_cons_succ, List.set_cons_zero]
      refine wpAnyH_take (i := 6) (oi := _) (v := .int .i64 (k : Int)) rfl (by kernel_rfl) (by kernel_rfl) (by kernel_rfl) (fun _ _ _ h => h) (Or.inl ⟨by rfl, fun w _ => by go_simp⟩) hHeld ?_
      simp only [Act.put, List.getElem_toArray, List.getElem_cons_succ, List.getElem_cons_zero, List.setIfInBounds_toArray, List.set_cons_succ, List.set_cons_zero]
      refine wpAnyH_take (i := 7) (oi := _) (v := .pointer (some ⟨g2, k * 23, none⟩)) rfl (by kernel_rfl) (by kernel_rfl) (by kernel_rfl) (fun _ _ _ h => h) (Or.inl ⟨by rfl, fun w _ => by go_simp⟩) hHeld ?_
      simp only [Act.put, List.getElem_toArray, List.getElem_cons_succ, List.getElem_cons_zero, List.setIfInBounds_toArray, List.set_cons_succ, List.set_cons_zero]
      refine wpAnyH_take (i := 8) (oi := _) (v := .agg (fCells G)) rfl (by kernel_rfl) (by kernel_rfl) (by kernel_rfl) (fun _ _ _ h => h) (yieldsIf_load_mid (by rfl) 67 _ rfl g2 (k * 23) rfl (fCells G).toList _ (fun w h => h.2) Tryd.underlying67 rfl (by rw [infoRef]; rfl)) hHeld ?_
      simp only [Act.put, List.getElem_toArray, List.getElem_cons_succ, List.getElem_cons_zero, List.setIfInBounds_toArray, List.set_cons_succ, List.set_cons_zero]
      refine wpAnyH_ready (rs := [4]) (by kernel_rfl) (by simp) ?_
      refine AllReadyH.cons (o := _) rfl (fun K hK => ?_) AllReadyH.nil
      rw [if_pos (by rfl)]
      go_simp
      go_at_call 29
      refine (unhide HGV _ HB.out.drew).mono ?_
      rintro e w5 ⟨rfl, HB5⟩
      dsimp only
      refine hK.out _ _ (unhide HSS _ HB5.out) (fun hHeld => ?_)
      clear hK K
      refine wpAnyH_take (i := 9) (oi := _) (v := .bool false) rfl (by kernel_rfl) (by kernel_rfl) (by kernel_rfl) (fun _ _ _ h => h) (yields_same (by rfl) _ _ rfl G rfl rfl) hHeld ?_
      simp only [Act.put, List.getElem_toArray, List.getElem_cons_succ, List.getElem_cons_zero, List.setIfInBounds_toArray, List.set_cons_succ, List.set_cons_zero]
      refine wpAnyH_done (by kernel_rfl) ?_ _
      clear hHeld
      go_wp2
      go_roundw
      case rel => exact ⟨HB5.out, k + 1, by omega, by go_num⟩
      case measure => simp [intOf]; omega
    · go_wp2
      go_ret
      exact ⟨rfl, HB.out⟩

set_option maxHeartbeats 400000 in
theorem told_none (a1 a2 : Option Addr) (c1 c2 : Nat) (w : World) :
    Calls Tryd.prog 42 #[.slice a1 0 c1, .slice a2 0 c2] w fun e w' => e = .returned (.bool true) ∧ Below w.heap.size w w' := by
  go_enter Tryd.func42, Tryd.ntmps42
  go_wp2
  go_loopw [5] (fun i wr => wr = w ∧ i = .int .i64 0) (fun _ _ => 0)
  case atStart => exact ⟨rfl, rfl⟩
  case round =>
    obtain ⟨rfl, rfl⟩ := hrel
    go_wp2
    go_ret
    exact ⟨rfl, Below.refl _ _⟩
theorem told_any (v1 v2 : Value) (L : List FR) (w : World) (hL : L.length ≤ 2) (h1 : FRow w 63 v1 L) (h2 : FRow w 67 v2 L) :
    Calls Tryd.prog 42 #[v1, v2] w fun e w' => e = .returned (.bool true) ∧ Below w.heap.size w w' := by
  have h1' := h1
  have h2' := h2
  rcases h1 with ⟨rfl, rfl⟩ | ⟨g1, c1, rfl, hc1, cs1, hb1, _⟩
  · rcases h2 with ⟨_, rfl⟩ | ⟨g2, c2, rfl, hc2, cs2, hb2, _⟩
    · exact told_none _ _ _ _ w
    · exact told_none _ _ _ _ w
  · rcases h2 with ⟨rfl, rfl⟩ | ⟨g2, c2, rfl, hc2, cs2, hb2, _⟩
    · exact told_none _ _ _ _ w
    · exact told_some g1 c1 g2 c2 L.length L w rfl hL h1' h2' (blk_lt hb1) (blk_lt hb2)
end Go.Proofs.YtbiacknbaefccaaDoor
