/- triumvirlaw.VoterPlays: the walk. -/
import Derived.Test.YtbiacknbaefccaaDoorVtBad
import Derived.Deep.CutRange
import Derived.Test.YtbiacknbaefccaaDoorFrMay
namespace Go.Proofs.YtbiacknbaefccaaDoor
open Go.RowKit Go.Deep Go.Extern.Stop Go.Stop Go.Extern

/-- What is said, in memory. -/
def SayAt (w : World) (al : Option Addr) (ll : Nat) : Prop := ∀ i, i < ll → ∃ (b off : Nat) (x : Int) (F : FR), al = some ⟨b, off, none⟩ ∧ b < w.heap.size ∧ w.cell? ⟨b, off + i * 24, none⟩ = some (.int .i64 x) ∧ w.rangeAt b (off + i * 24 + 1) (fCells F).toList

def manyN (many : Int) : Int := wrap64 ((IntKind.u64.wrap many).tmod 1001)
theorem manyN_in (many : Int) : 0 ≤ manyN many ∧ manyN many < 1001 := by
  unfold manyN
  have h0 : 0 ≤ IntKind.u64.wrap many := by simp [IntKind.wrap, IntKind.bits, IntKind.signed]; omega
  rw [Int.tmod_eq_emod_of_nonneg h0]
  have h1 := Int.emod_nonneg (IntKind.u64.wrap many) (show (1001 : Int) ≠ 0 by omega)
  have h2 := Int.emod_lt_of_pos (IntKind.u64.wrap many) (show (0 : Int) < 1001 by omega)
  rw [IntWalk.wrap64_in _ ⟨by omega, by omega⟩]
  exact ⟨h1, h2⟩
theorem Js.start {w w1 w2 : World} {win : Nat} (h1 : 1 ≤ win) (h2 : win ≤ 20) (hv : VIs w1 w.heap.size w.heap.size win (.slice none 0 0) (vs0 win)) (hs1 : w1.heap.size = w.heap.size + 1) (hB1 : Below w.heap.size w w1)
    (hr : RIs w2 w1.heap.size (w1.heap.size + 2) win (.slice none 0 0) w1.heap.size (w1.heap.size + 1) (vs0 win)) (hB2 : Below w1.heap.size w1 w2) :
    Js w (w2.alloc (.cells #[.pointer (some ⟨w1.heap.size + 2, 0, none⟩)] 90)) w.heap.size w.heap.size (w.heap.size + 1 + 2) w2.heap.size (w.heap.size + 1 + 1) win := by
  rw [hs1] at hr
  have hs2 : w1.heap.size ≤ w2.heap.size := hB2.size
  have hj : Below w2.heap.size w2 (w2.alloc (.cells #[.pointer (some ⟨w1.heap.size + 2, 0, none⟩)] 90)) := (Below.refl _ _).alloc (Nat.le_refl _) _
  have hr' : RIs w2 w.heap.size (w.heap.size + 1 + 2) win (.slice none 0 0) (w.heap.size + 1) (w.heap.size + 1 + 1) (vs0 win) := ⟨hr.blk, World.ownsRow_nil _ _ _ _, hr.votes, hr.outs, hr.ne, by omega, by omega, by omega⟩
  refine ⟨_, _, _, vs0 win, (hv.below hB2).below hj, hr'.below hj, fun g hg => by simp [Value.ownBlock] at hg, ?_, VOk.new h1 h2, VOk.new h1 h2, (hB1.trans (hB2.mono hB1.size)).alloc (by omega) _, by omega, rfl⟩
  have := blk_new w2 (.cells #[.pointer (some ⟨w1.heap.size + 2, 0, none⟩)] 90)
  rw [hs1] at this
  rw [hs1]
  exact this

set_option maxHeartbeats 1000000 in
set_option maxRecDepth 20000 in
theorem vplays_ok (win : Nat) (many : Int) (al : Option Addr) (ll cl : Nat) (w : World) (h1 : 1 ≤ win) (h2 : win ≤ 20) (hl : ll ≤ 120) (hs : SayAt w al ll) :
    Calls Tryd.prog 9 #[.int .i64 (win : Int), .slice al ll cl, .int .i64 many] w fun e w' => e = .returned (.bool true) ∧ Below w.heap.size w w' := by
  have HSA := hide hs
  have HNW := hide (new_ok win w h1 h2)
  have HW1 := hide h1
  clear hs
  go_enter Tryd.func9, Tryd.ntmps9
  go_wp2_with (go_at_call 38; refine HNW.out.mono ?_)
  rintro e w1 ⟨rfl, hv1, hs1, hB1⟩
  have HRV := hide (newVoter_any win w1 h2)
  have HV1 := hide hv1
  have HS1 := hide hs1
  have HB1 := hide hB1
  clear hv1 hs1 hB1 HNW
  go_wp2_with (go_at_call 39; refine HRV.out.mono ?_)
  rintro e w2 ⟨rfl, hr2, hB2⟩
  have HJ := hide (Js.start HW1.out h2 HV1.out HS1.out HB1.out hr2 hB2)
  clear hr2 hB2 HRV HV1 HB1
  go_wp2_with fail
  obtain ⟨q, hq⟩ : ∃ q, Hid (w.heap.size + 1 + 2 = q) := ⟨_, hide rfl⟩
  obtain ⟨mo, hmo⟩ : ∃ mo, Hid (w.heap.size + 1 + 1 = mo) := ⟨_, hide rfl⟩
  rw [hq.out, hmo.out] at HJ
  clear hq hmo
  obtain ⟨M, hM⟩ := Int.eq_ofNat_of_zero_le (manyN_in many).1
  have hM1 : M ≤ 1000 := by have := (manyN_in many).2; omega
  have HMM := hide hM
  clear hM
  generalize w2.alloc (.cells #[.pointer (some ⟨w1.heap.size + 2, 0, none⟩)] 90) = W0 at HJ ⊢
  generalize w2.heap.size = bq at HJ ⊢
  clear HS1
  go_loopw [10] (fun i wr => Js w wr w.heap.size w.heap.size q bq mo win ∧ ∃ k : Nat, k ≤ M ∧ i = .int .i64 k) (fun i _ => M - (intOf i).toNat)
  case atStart => exact ⟨HJ.out, 0, Nat.zero_le _, rfl⟩
  case round =>
    clear HJ
    obtain ⟨hj, k, hk, rfl⟩ := hrel
    have HJ := hide hj
    clear hj
    go_upto_region 12 with fail
    · rename _ < wrap64 _ => hx
      have hlt : k < M := by
        have := HMM.out
        unfold manyN at this
        omega
      clear hx
      go_cut [11] from 53 to 95 (fun v11 wc => ∃ bf F, v11 = .pointer (some ⟨bf, 0, none⟩) ∧ w.heap.size ≤ bf ∧ Js w wc w.heap.size w.heap.size q bq mo win ∧ FIs wc bf 63 F)
      case first =>
        have HRES := hide (show FIs (wr.alloc (.cells (fCells fr0) 63)) wr.heap.size 63 fr0 from blk_new _ _)
        have hNF : fCells (votF 2 0 (k : Int) ((k : Int) % 5) 0 ((k : Int) % 3)) = #[.int .i64 2, .int .i64 0, .int .i64 (k : Int), .int .i64 ((k : Int) % 5), .int .i64 0, .int .i64 ((k : Int) % 3), .int .i64 0, .int .i64 0, .int .i64 0, .int .i64 0, .int .i64 0, .int .i64 0, .int .i64 0, .int .i64 0, .int .i64 0, .int .i64 0, .int .i64 0, .int .i64 0, .int .i64 0, .int .i64 0, .int .i64 0, .int .i64 0, .int .i64 0] := by
          simp [fCells, votF]
        have HNF := hide hNF
        have HJ1 := hide (HJ.out.below ((Below.refl _ _).alloc (Nat.le_refl _) (.cells (fCells fr0) 63)))
        have HWN : Hid (w.heap.size ≤ wr.heap.size) := hide HJ.out.old.size
        clear hNF HJ
        go_wp2_with (refine wpList_store_fl rfl _ _ rfl wr.heap.size (votF 2 0 (k : Int) ((k : Int) % 5) 0 ((k : Int) % 3)) rfl (by rw [HNF.out]; rfl) fr0 HRES.out ?_)
        intro w9 HF9
        go_wp2_with fail
        go_meet
        exact ⟨wr.heap.size, _, rfl, HWN.out, HJ1.out.far HRES.out ⟨(HF9.out.2.2 0 (Nat.zero_le _)).os, (HF9.out.2.2 0 (Nat.zero_le _)).tape, (HF9.out.2.2 0 (Nat.zero_le _)).output, (HF9.out.2.2 0 (Nat.zero_le _)).size, fun j _ hj => HF9.out.2.1 j hj⟩ HWN.out, HF9.out.1⟩
      case rest =>
        obtain ⟨bf, F, rfl, hbf, hj, hf⟩ := hcut
        have HJ0 := hide hj
        have HF0 := hide hf
        clear hj hf HJ
        go_wp2_with fail
        go_loopw [12] (fun j wr => Js w wr w.heap.size w.heap.size q bq mo win ∧ (∃ F, FIs wr bf 63 F) ∧ ∃ i : Nat, i ≤ 2 ∧ j = .int .i64 i) (fun j _ => 2 - (intOf j).toNat)
        case atStart => exact ⟨HJ0.out, ⟨F, HF0.out⟩, 0, by omega, rfl⟩
        case round =>
          clear HJ0 HF0 F
          obtain ⟨hj, ⟨F, hf⟩, i, hi, rfl⟩ := hrel
          have HJ := hide hj
          have HF := hide hf
          clear hj hf
          by_cases hi2 : i < 2
          · have c1 := HF.out.at (k := 1) (by omega)
            have f1 := HF.out.free 1
            have hJ1 := HJ.out.far HF.out ((Mod.refl wr (fun k => k = bf)).set ⟨bf, 1, none⟩ (.int .i64 (i : Int)) (fun _ => rfl)) hbf
            have hF1 := HF.out.put (k := 1) (by omega) (i : Int)
            go_upto_region 17 with fail
            generalize wr.setCell ⟨bf, 1, none⟩ (.int .i64 (i : Int)) = w3 at hJ1 hF1 ⊢
            generalize upd F 1 (i : Int) = G at hF1
            have HJ3 := hide hJ1
            have HF3 := hide hF1
            have HTK := hide (hJ1.take G)
            clear hJ1 hF1 c1 f1 HJ HF
            go_wp2_with (first
              | (refine wpList_load_f rfl _ rfl bf rfl G HF3.out ?_)
              | (go_at_call 40; refine HTK.out.mono ?_))
            rintro e w4 ⟨v, z, rfl, hjm, hold4, hsz4, hfar4⟩
            have HJ4 := hide hjm
            have HF4 := hide (show FIs w4 bf 63 G from (hfar4 bf _ _ HF3.out).trans HF3.out)
            clear hjm hold4 hsz4 hfar4 HTK HJ3 HF3
            go_wp2_with fail
            have hss : ∀ wx, Below w4.heap.size w4 wx → wx.cell? ⟨bq, 0, none⟩ = some (.pointer (some ⟨q, 0, none⟩)) ∧ FIs wx bf 63 G := fun wx hx =>
              ⟨(hx.cell (p := ⟨bq, 0, none⟩) (blk_lt HJ4.out.bc)).trans ((blk_cell HJ4.out.bc 0).trans rfl), HF4.out.below HF4.out.lt hx⟩
            have HSS := hide hss
            have hgv : ∀ wx, Below w4.heap.size w4 wx → Calls Tryd.prog 29 #[.agg (fCells G)] wx fun e w' => e = .returned (.agg (fCells G)) ∧ Hid (Below w4.heap.size w4 w') := by
              intro wx hx
              refine (given_any G wx).mono ?_
              rintro e w' ⟨he, hB⟩
              exact ⟨he, hx.trans (hB.mono hx.size)⟩
            have HGV := hide hgv
            clear hss hgv
            refine wp_region_held_drew (S := fun w' => w'.cell? ⟨bq, 0, none⟩ = some (.pointer (some ⟨q, 0, none⟩)) ∧ FIs w' bf 63 G) (by kernel_rfl) (unhide HSS _ (Below.refl _ _).drew) (fun hHeld => ?_)
            refine wpAnyH_take (i := 0) (oi := _) (v := .pointer (some ⟨q, 0, none⟩)) rfl (by kernel_rfl) (by kernel_rfl) (by kernel_rfl) (fun _ _ _ h => h) (Or.inl ⟨by rfl, fun w h => by obtain ⟨h1, _⟩ := h; go_simp⟩) hHeld ?_
            simp only [Act.put, List.getElem_toArray, List.getElem_cons_zero, List.setIfInBounds_toArray, List.set_cons_succ, List.set_cons_zero]
            refine wpAnyH_take (i := 1) (oi := _) (v := .agg (fCells G)) rfl (by kernel_rfl) (by kernel_rfl) (by kernel_rfl) (fun _ _ _ h => h) (yields_f (by rfl) _ rfl _ rfl G (fun w h => h.2)) hHeld ?_
            simp only [Act.put, List.getElem_toArray, List.getElem_cons_succ, List.getElem_cons_zero, List.setIfInBounds_toArray, List.set_cons_succ, List.set_cons_zero]
            refine wpAnyH_ready (rs := [2]) (by kernel_rfl) (by simp) ?_
            refine AllReadyH.cons (o := _) rfl (fun K hK => ?_) AllReadyH.nil
            rw [if_pos (by rfl)]
            go_simp
            go_at_call 29
            refine (unhide HGV _ (Below.refl _ _).drew).mono ?_
            rintro e w5 ⟨rfl, HB5⟩
            dsimp only
            refine hK.out _ _ (unhide HSS _ HB5.out) (fun hHeld => ?_)
            clear hK K
            refine wpAnyH_ready (rs := [3]) (by kernel_rfl) (by simp) ?_
            refine AllReadyH.cons (o := _) rfl (fun K hK => ?_) AllReadyH.nil
            rw [if_pos (by rfl)]
            go_simp
            go_at_call 41
            refine ((HJ4.out.below HB5.out).take).mono ?_
            rintro e w6 ⟨v', rfl, hj6, ⟨Lf, hLf, hfa, hfb⟩, hsz6, hfar6⟩
            dsimp only
            have HJ6 := hide hj6
            have HF6 := hide (show FIs w6 bf 63 G from (hfar6 bf _ _ (HF4.out.below HF4.out.lt HB5.out)).trans (HF4.out.below HF4.out.lt HB5.out))
            have HTO := hide (told_any v v' Lf w6 hLf hfa hfb)
            refine hK.out _ _ ⟨(blk_cell hj6.bc 0).trans rfl, HF6.out⟩ (fun hHeld => ?_)
            clear hK K hj6 hLf hfa hfb hsz6 hfar6
            refine wpAnyH_take (i := 4) (oi := _) (v := .tuple #[v', .bool z]) rfl (by kernel_rfl) (by kernel_rfl) (by kernel_rfl) (fun _ _ _ h => h) (Or.inl ⟨by rfl, fun w _ => by go_simp⟩) hHeld ?_
            simp only [Act.put, List.getElem_toArray, List.getElem_cons_succ, List.getElem_cons_zero, List.setIfInBounds_toArray, List.set_cons_succ, List.set_cons_zero]
            refine wpAnyH_take (i := 5) (oi := _) (v := v') rfl (by kernel_rfl) (by kernel_rfl) (by kernel_rfl) (fun _ _ _ h => h) (Or.inl ⟨by rfl, fun w _ => by go_simp⟩) hHeld ?_
            simp only [Act.put, List.getElem_toArray, List.getElem_cons_succ, List.getElem_cons_zero, List.setIfInBounds_toArray, List.set_cons_succ, List.set_cons_zero]
            refine wpAnyH_take (i := 6) (oi := _) (v := .bool z) rfl (by kernel_rfl) (by kernel_rfl) (by kernel_rfl) (fun _ _ _ h => h) (Or.inl ⟨by rfl, fun w _ => by go_simp⟩) hHeld ?_
            simp only [Act.put, List.getElem_toArray, List.getElem_cons_succ, List.getElem_cons_zero, List.setIfInBounds_toArray, List.set_cons_succ, List.set_cons_zero]
            refine wpAnyH_take (i := 7) (oi := _) (v := v') rfl (by kernel_rfl) (by kernel_rfl) (by kernel_rfl) (fun _ _ _ h => h) (Or.inl ⟨by rfl, fun w _ => by go_simp⟩) hHeld ?_
            simp only [Act.put, List.getElem_toArray, List.getElem_cons_succ, List.getElem_cons_zero, List.setIfInBounds_toArray, List.set_cons_succ, List.set_cons_zero]
            refine wpAnyH_take (i := 8) (oi := _) (v := .bool z) rfl (by kernel_rfl) (by kernel_rfl) (by kernel_rfl) (fun _ _ _ h => h) (Or.inl ⟨by rfl, fun w _ => by go_simp⟩) hHeld ?_
            simp only [Act.put, List.getElem_toArray, List.getElem_cons_succ, List.getElem_cons_zero, List.setIfInBounds_toArray, List.set_cons_succ, List.set_cons_zero]
            refine wpAnyH_done (by kernel_rfl) ?_ _
            clear hHeld HSS HGV HJ4 HF4 HB5
            cases z
            all_goals
              go_wp2_with (go_at_call 42; refine HTO.out.mono ?_; rintro e w7 ⟨rfl, hB7⟩)
              go_roundw
              case rel => exact ⟨HJ6.out.below hB7, ⟨G, HF6.out.below HF6.out.lt hB7⟩, i + 1, by omega, by go_num⟩
              case measure => simp [intOf]; omega
          · have he : i = 2 := by omega
            subst he
            go_wp2
            go_roundw
            case rel => exact ⟨HJ.out, k + 1, by omega, by go_num⟩
            case measure => simp [intOf]; omega
    · rename wrap64 _ ≤ _ => hx
      clear hx HMM hM1 hk
      rename World => W1
      rename Nat => k1
      go_loopw [17] (fun i wr => Js w wr w.heap.size w.heap.size q bq mo win ∧ ∃ k : Nat, k ≤ ll ∧ i = .int .i64 k) (fun i _ => ll - (intOf i).toNat)
      case atStart => exact ⟨HJ.out, 0, Nat.zero_le _, rfl⟩
      case round =>
        clear HJ
        obtain ⟨hj, k, hk, rfl⟩ := hrel
        have HJ := hide hj
        clear hj
        by_cases hlt : k < ll
        · obtain ⟨b, off, x, F, rfl, hb, hx, hF⟩ := HSA.out k hlt
          have cx : wr.cell? ⟨b, off + k * 24, none⟩ = some (.int .i64 x) := (HJ.out.old.cell (p := ⟨b, off + k * 24, none⟩) hb).trans hx
          have HRA : Hid (w.rangeAt b (off + k * 24 + 1) (fCells F).toList) := hide hF
          have hr0 : ∀ wx, Below w.heap.size w wx → wx.rangeAt b (off + k * 24 + 1) (fCells F).toList := fun wx hx j v hv => (hx.cell (p := ⟨b, off + k * 24 + 1 + j, none⟩) hb).trans (HRA.out j v hv)
          have HR0 := hide hr0
          have k1 : (0 : Int) ≤ (k : Int) := by omega
          have k2 : (k : Int) < (ll : Int) := by omega
          clear hx hF hr0
          by_cases x0 : x = 0
          · subst x0
            have HTK := hide (HJ.out.take F)
            have HRR := hide (unhide HR0 wr HJ.out.old)
            go_wp2_with (first
              | (refine wpList_load_mid rfl 63 _ rfl b (off + k * 24 + 1) rfl _ _ HRR.out Tryd.underlying63 rfl (by rw [infoFrame]; rfl) ?_)
              | (go_at_call 40; refine HTK.out.mono ?_))
            rintro e w4 ⟨v, z, rfl, hjm, hold4, hsz4, hfar4⟩
            have HJ4 := hide hjm
            clear hjm hold4 hsz4 hfar4 HTK HRR HJ cx
            go_wp2_with fail
            have hss : ∀ wx, Below w4.heap.size w4 wx → wx.cell? ⟨bq, 0, none⟩ = some (.pointer (some ⟨q, 0, none⟩)) ∧ wx.rangeAt b (off + k * 24 + 1) (fCells F).toList := fun wx hx =>
              ⟨(hx.cell (p := ⟨bq, 0, none⟩) (blk_lt HJ4.out.bc)).trans ((blk_cell HJ4.out.bc 0).trans rfl), unhide HR0 wx (HJ4.out.old.trans (hx.mono HJ4.out.old.size))⟩
            have HSS := hide hss
            have hgv : ∀ wx, Below w4.heap.size w4 wx → Calls Tryd.prog 29 #[.agg (fCells F)] wx fun e w' => e = .returned (.agg (fCells F)) ∧ Hid (Below w4.heap.size w4 w') := by
              intro wx hx
              refine (given_any F wx).mono ?_
              rintro e w' ⟨he, hB⟩
              exact ⟨he, hx.trans (hB.mono hx.size)⟩
            have HGV := hide hgv
            clear hss hgv
            refine wp_region_held_drew (S := fun w' => w'.cell? ⟨bq, 0, none⟩ = some (.pointer (some ⟨q, 0, none⟩)) ∧ w'.rangeAt b (off + k * 24 + 1) (fCells F).toList) (by kernel_rfl) (unhide HSS _ (Below.refl _ _).drew) (fun hHeld => ?_)
            refine wpAnyH_take (i := 0) (oi := _) (v := .pointer (some ⟨q, 0, none⟩)) rfl (by kernel_rfl) (by kernel_rfl) (by kernel_rfl) (fun _ _ _ h => h) (Or.inl ⟨by rfl, fun w h => by obtain ⟨h1, _⟩ := h; go_simp⟩) hHeld ?_
            simp only [Act.put, List.getElem_toArray, List.getElem_cons_zero, List.setIfInBounds_toArray, List.set_cons_succ, List.set_cons_zero]
            refine wpAnyH_take (i := 1) (oi := _) (v := .slice (some ⟨b, off, none⟩) ll cl) rfl (by kernel_rfl) (by kernel_rfl) (by kernel_rfl) (fun _ _ _ h => h) (Or.inl ⟨by rfl, fun w _ => by go_simp⟩) hHeld ?_
            simp only [Act.put, List.getElem_toArray, List.getElem_cons_succ, List.getElem_cons_zero, List.setIfInBounds_toArray, List.set_cons_succ, List.set_cons_zero]
            refine wpAnyH_take (i := 2) (oi := _) (v := .int .i64 (k : Int)) rfl (by kernel_rfl) (by kernel_rfl) (by kernel_rfl) (fun _ _ _ h => h) (Or.inl ⟨by rfl, fun w _ => by go_simp⟩) hHeld ?_
            simp only [Act.put, List.getElem_toArray, List.getElem_cons_succ, List.getElem_cons_zero, List.setIfInBounds_toArray, List.set_cons_succ, List.set_cons_zero]
            refine wpAnyH_take (i := 3) (oi := _) (v := .pointer (some ⟨b, off + k * 24, none⟩)) rfl (by kernel_rfl) (by kernel_rfl) (by kernel_rfl) (fun _ _ _ h => h) (Or.inl ⟨by rfl, fun w _ => by go_simp⟩) hHeld ?_
            simp only [Act.put, List.getElem_toArray, List.getElem_cons_succ, List.getElem_cons_zero, List.setIfInBounds_toArray, List.set_cons_succ, List.set_cons_zero]
            refine wpAnyH_take (i := 4) (oi := _) (v := .pointer (some ⟨b, off + k * 24 + 1, none⟩)) rfl (by kernel_rfl) (by kernel_rfl) (by kernel_rfl) (fun _ _ _ h => h) (Or.inl ⟨by rfl, fun w _ => by go_simp⟩) hHeld ?_
            simp only [Act.put, List.getElem_toArray, List.getElem_cons_succ, List.getElem_cons_zero, List.setIfInBounds_toArray, List.set_cons_succ, List.set_cons_zero]
            refine wpAnyH_take (i := 5) (oi := _) (v := .agg (fCells F)) rfl (by kernel_rfl) (by kernel_rfl) (by kernel_rfl) (fun _ _ _ h => h) (yieldsIf_load_mid (by rfl) 63 _ rfl b (off + k * 24 + 1) rfl (fCells F).toList _ (fun w h => h.2) Tryd.underlying63 rfl (by rw [infoFrame]; rfl)) hHeld ?_
            simp only [Act.put, List.getElem_toArray, List.getElem_cons_succ, List.getElem_cons_zero, List.setIfInBounds_toArray, List.set_cons_succ, List.set_cons_zero]
            refine wpAnyH_ready (rs := [6]) (by kernel_rfl) (by simp) ?_
            refine AllReadyH.cons (o := _) rfl (fun K hK => ?_) AllReadyH.nil
            rw [if_pos (by rfl)]
            go_simp
            go_at_call 29
            refine (unhide HGV _ (Below.refl _ _).drew).mono ?_
            rintro e w5 ⟨rfl, HB5⟩
            dsimp only
            refine hK.out _ _ (unhide HSS _ HB5.out) (fun hHeld => ?_)
            clear hK K
            refine wpAnyH_ready (rs := [7]) (by kernel_rfl) (by simp) ?_
            refine AllReadyH.cons (o := _) rfl (fun K hK => ?_) AllReadyH.nil
            rw [if_pos (by rfl)]
            go_simp
            go_at_call 41
            refine ((HJ4.out.below HB5.out).take).mono ?_
            rintro e w6 ⟨v', rfl, hj6, ⟨Lf, hLf, hfa, hfb⟩, hsz6, hfar6⟩
            dsimp only
            have HJ6 := hide hj6
            have HTO := hide (told_any v v' Lf w6 hLf hfa hfb)
            refine hK.out _ _ ⟨(blk_cell hj6.bc 0).trans rfl, unhide HR0 w6 hj6.old⟩ (fun hHeld => ?_)
            clear hK K hj6 hLf hfa hfb hsz6 hfar6
            refine wpAnyH_take (i := 8) (oi := _) (v := .tuple #[v', .bool z]) rfl (by kernel_rfl) (by kernel_rfl) (by kernel_rfl) (fun _ _ _ h => h) (Or.inl ⟨by rfl, fun w _ => by go_simp⟩) hHeld ?_
            simp only [Act.put, List.getElem_toArray, List.getElem_cons_succ, List.getElem_cons_zero, List.setIfInBounds_toArray, List.set_cons_succ, List.set_cons_zero]
            refine wpAnyH_take (i := 9) (oi := _) (v := v') rfl (by kernel_rfl) (by kernel_rfl) (by kernel_rfl) (fun _ _ _ h => h) (Or.inl ⟨by rfl, fun w _ => by go_simp⟩) hHeld ?_
            simp only [Act.put, List.getElem_toArray, List.getElem_cons_succ, List.getElem_cons_zero, List.setIfInBounds_toArray, List.set_cons_succ, List.set_cons_zero]
            refine wpAnyH_take (i := 10) (oi := _) (v := .bool z) rfl (by kernel_rfl) (by kernel_rfl) (by kernel_rfl) (fun _ _ _ h => h) (Or.inl ⟨by rfl, fun w _ => by go_simp⟩) hHeld ?_
            simp only [Act.put, List.getElem_toArray, List.getElem_cons_succ, List.getElem_cons_zero, List.setIfInBounds_toArray, List.set_cons_succ, List.set_cons_zero]
            refine wpAnyH_take (i := 11) (oi := _) (v := v') rfl (by kernel_rfl) (by kernel_rfl) (by kernel_rfl) (fun _ _ _ h => h) (Or.inl ⟨by rfl, fun w _ => by go_simp⟩) hHeld ?_
            simp only [Act.put, List.getElem_toArray, List.getElem_cons_succ, List.getElem_cons_zero, List.setIfInBounds_toArray, List.set_cons_succ, List.set_cons_zero]
            refine wpAnyH_take (i := 12) (oi := _) (v := .bool z) rfl (by kernel_rfl) (by kernel_rfl) (by kernel_rfl) (fun _ _ _ h => h) (Or.inl ⟨by rfl, fun w _ => by go_simp⟩) hHeld ?_
            simp only [Act.put, List.getElem_toArray, List.getElem_cons_succ, List.getElem_cons_zero, List.setIfInBounds_toArray, List.set_cons_succ, List.set_cons_zero]
            refine wpAnyH_done (by kernel_rfl) ?_ _
            clear hHeld HSS HGV HJ4 HB5
            cases z
            all_goals
              go_upto_region 36 with (go_at_call 42; refine HTO.out.mono ?_; rintro e w7 ⟨rfl, hB7⟩)
              have HJ7 := hide (HJ6.out.below hB7)
              clear HJ6 hB7 HTO
              obtain ⟨tv, tvr, mv, S, hjn⟩ := HJ7.out
              have HJN := hide hjn
              have hbc : w7.cell? ⟨bq, 0, none⟩ = some (.pointer (some ⟨q, 0, none⟩)) := (blk_cell hjn.bc 0).trans rfl
              have hq5 : w7.cell? ⟨q, 5, none⟩ = some (.bool S.lat) := (hjn.r.at 5).trans rfl
              have HST := hide (outs_any bq q mo S.out w7 hjn.okS.out hbc ((hjn.r.at 4).trans rfl) hjn.r.outs)
              have HSA1 : Hid (∀ m, Calls Tryd.prog 48 #[.pointer (some ⟨w.heap.size, 0, none⟩)] (w7.drewN m) fun e w' => e = .returned (.int .i64 (shownF S)) ∧ ∃ n, w' = (w7.drewN m).drewN n) := hide fun m => shown_q _ _ win tv S _ (hjn.drewN m).v hjn.okS
              have HSA2 : Hid (∀ m, Calls Tryd.prog 49 #[.pointer (some ⟨q, 0, none⟩)] (w7.drewN m) fun e w' => e = .returned (.int .i64 (shownF S)) ∧ w' = w7.drewN m) := hide fun m => refShown_any _ q win tvr mv mo S _ (hjn.drewN m).r hjn.okR
              have HSA3 : Hid (∀ m, Calls Tryd.prog 50 #[.pointer (some ⟨w.heap.size, 0, none⟩)] (w7.drewN m) fun e w' => e = .returned (.bool S.lat) ∧ w' = w7.drewN m) := hide fun m => latched_any _ _ win tv S _ (hjn.drewN m).v
              have HSA4 : Hid (∀ m, Calls Tryd.prog 51 #[.pointer (some ⟨w.heap.size, 0, none⟩)] (w7.drewN m) fun e w' => e = .returned (.int .i64 (S.out : Int)) ∧ w' = w7.drewN m) := hide fun m => out_any _ _ win tv S _ (hjn.drewN m).v
              generalize shownF S = sh at HSA1 HSA2
              generalize S.out = ou at HSA4 HST
              generalize S.lat = la at HSA3 hq5
              clear hjn
              go_wp2_with (go_at_call 46; refine HST.out.mono ?_; rintro e wS ⟨rfl, hwS⟩; subst wS)
              go_quiet ((first
                | (go_at_call 48; exact Calls.quiet_of (unhide HSA1 _))
                | (go_at_call 49; exact Calls.quiet_of_same (unhide HSA2 _))
                | (go_at_call 50; exact Calls.quiet_of_same (unhide HSA3 _))
                | (go_at_call 51; exact Calls.quiet_of_same (unhide HSA4 _))))
              go_wp2
              go_roundw
              case rel => exact ⟨⟨tv, tvr, mv, S, HJN.out.drewN _⟩, k + 1, by omega, by go_num⟩
              case measure => simp [intOf]; omega
          · by_cases x1 : x = 1
            · subst x1
              obtain ⟨tv0, tvr0, mv0, S0, hjn0⟩ := HJ.out
              have HJ0 := hide hjn0
              have HT1 := hide (tick_any _ _ win tv0 S0 wr hjn0.v hjn0.okS)
              clear hjn0 HJ
              go_wp2_with (go_at_call 43; refine HT1.out.mono ?_)
              rintro e w4 ⟨rfl, hv4, hm4⟩
              have hj4 := HJ0.out.turn_v hv4 (Moved.refl _ _) hm4 HJ0.out.okS.tick
              have bc4 : w4.cell? ⟨bq, 0, none⟩ = some (.pointer (some ⟨q, 0, none⟩)) := (blk_cell hj4.bc 0).trans rfl
              have HT2 := hide (refTick_any _ q win tvr0 mv0 mo S0 w4 hj4.r hj4.okR)
              have HJ4 := hide hj4
              clear hj4 hv4 hm4 HT1 HJ0 cx
              go_wp2_with (go_at_call 44; refine HT2.out.mono ?_)
              rintro e w7 ⟨rfl, hr7, hm7⟩
              have HJ7 : Hid (Js w w7 w.heap.size w.heap.size q bq mo win) := hide ⟨_, _, _, _, HJ4.out.turn_r hr7 (Moved.refl _ _) hm7 HJ4.out.okR.tick⟩
              clear hr7 hm7 HT2 HJ4 bc4
              go_upto_region 36 with fail
              obtain ⟨tv, tvr, mv, S, hjn⟩ := HJ7.out
              have HJN := hide hjn
              have hbc : w7.cell? ⟨bq, 0, none⟩ = some (.pointer (some ⟨q, 0, none⟩)) := (blk_cell hjn.bc 0).trans rfl
              have hq5 : w7.cell? ⟨q, 5, none⟩ = some (.bool S.lat) := (hjn.r.at 5).trans rfl
              have HST := hide (outs_any bq q mo S.out w7 hjn.okS.out hbc ((hjn.r.at 4).trans rfl) hjn.r.outs)
              have HSA1 : Hid (∀ m, Calls Tryd.prog 48 #[.pointer (some ⟨w.heap.size, 0, none⟩)] (w7.drewN m) fun e w' => e = .returned (.int .i64 (shownF S)) ∧ ∃ n, w' = (w7.drewN m).drewN n) := hide fun m => shown_q _ _ win tv S _ (hjn.drewN m).v hjn.okS
              have HSA2 : Hid (∀ m, Calls Tryd.prog 49 #[.pointer (some ⟨q, 0, none⟩)] (w7.drewN m) fun e w' => e = .returned (.int .i64 (shownF S)) ∧ w' = w7.drewN m) := hide fun m => refShown_any _ q win tvr mv mo S _ (hjn.drewN m).r hjn.okR
              have HSA3 : Hid (∀ m, Calls Tryd.prog 50 #[.pointer (some ⟨w.heap.size, 0, none⟩)] (w7.drewN m) fun e w' => e = .returned (.bool S.lat) ∧ w' = w7.drewN m) := hide fun m => latched_any _ _ win tv S _ (hjn.drewN m).v
              have HSA4 : Hid (∀ m, Calls Tryd.prog 51 #[.pointer (some ⟨w.heap.size, 0, none⟩)] (w7.drewN m) fun e w' => e = .returned (.int .i64 (S.out : Int)) ∧ w' = w7.drewN m) := hide fun m => out_any _ _ win tv S _ (hjn.drewN m).v
              generalize shownF S = sh at HSA1 HSA2
              generalize S.out = ou at HSA4 HST
              generalize S.lat = la at HSA3 hq5
              clear hjn
              go_wp2_with (go_at_call 46; refine HST.out.mono ?_; rintro e wS ⟨rfl, hwS⟩; subst wS)
              go_quiet ((first
                | (go_at_call 48; exact Calls.quiet_of (unhide HSA1 _))
                | (go_at_call 49; exact Calls.quiet_of_same (unhide HSA2 _))
                | (go_at_call 50; exact Calls.quiet_of_same (unhide HSA3 _))
                | (go_at_call 51; exact Calls.quiet_of_same (unhide HSA4 _))))
              go_wp2
              go_roundw
              case rel => exact ⟨⟨tv, tvr, mv, S, HJN.out.drewN _⟩, k + 1, by omega, by go_num⟩
              case measure => simp [intOf]; omega
            · by_cases x2 : x = 2
              · subst x2
                obtain ⟨tv0, tvr0, mv0, S0, hjn0⟩ := HJ.out
                have HJ0 := hide hjn0
                have HT1 := hide (latch_any _ _ win tv0 S0 wr hjn0.v)
                clear hjn0 HJ
                go_wp2_with (go_at_call 45; refine HT1.out.mono ?_)
                rintro e w4 ⟨rfl, hv4, hm4⟩
                have hj4 := HJ0.out.turn_v hv4 (Moved.refl _ _) hm4 HJ0.out.okS.latch
                have bc4 : w4.cell? ⟨bq, 0, none⟩ = some (.pointer (some ⟨q, 0, none⟩)) := (blk_cell hj4.bc 0).trans rfl
                have q54 : w4.cell? ⟨q, 5, none⟩ = some (.bool S0.lat) := (hj4.r.at 5).trans rfl
                have qf4 := hj4.r.free 5
                have hr7 := hj4.r.put (S' := latchF S0) 5 (.bool true) rfl rfl rfl rfl rfl
                have HJ7 : Hid (Js w (w4.setCell ⟨q, 5, none⟩ (.bool true)) w.heap.size w.heap.size q bq mo win) := hide ⟨_, _, _, _, hj4.turn_r hr7 (Moved.refl _ _) ((Mod.refl w4 _).set ⟨q, 5, none⟩ (.bool true) (fun _ => .inl rfl)) hj4.okR.latch⟩
                clear hj4 hv4 hm4 hr7 HT1 HJ0 cx
                go_upto_region 36 with fail
                generalize w4.setCell ⟨q, 5, none⟩ (.bool true) = w7 at HJ7 ⊢
                clear bc4 q54 qf4
                obtain ⟨tv, tvr, mv, S, hjn⟩ := HJ7.out
                have HJN := hide hjn
                have hbc : w7.cell? ⟨bq, 0, none⟩ = some (.pointer (some ⟨q, 0, none⟩)) := (blk_cell hjn.bc 0).trans rfl
                have hq5 : w7.cell? ⟨q, 5, none⟩ = some (.bool S.lat) := (hjn.r.at 5).trans rfl
                have HST := hide (outs_any bq q mo S.out w7 hjn.okS.out hbc ((hjn.r.at 4).trans rfl) hjn.r.outs)
                have HSA1 : Hid (∀ m, Calls Tryd.prog 48 #[.pointer (some ⟨w.heap.size, 0, none⟩)] (w7.drewN m) fun e w' => e = .returned (.int .i64 (shownF S)) ∧ ∃ n, w' = (w7.drewN m).drewN n) := hide fun m => shown_q _ _ win tv S _ (hjn.drewN m).v hjn.okS
                have HSA2 : Hid (∀ m, Calls Tryd.prog 49 #[.pointer (some ⟨q, 0, none⟩)] (w7.drewN m) fun e w' => e = .returned (.int .i64 (shownF S)) ∧ w' = w7.drewN m) := hide fun m => refShown_any _ q win tvr mv mo S _ (hjn.drewN m).r hjn.okR
                have HSA3 : Hid (∀ m, Calls Tryd.prog 50 #[.pointer (some ⟨w.heap.size, 0, none⟩)] (w7.drewN m) fun e w' => e = .returned (.bool S.lat) ∧ w' = w7.drewN m) := hide fun m => latched_any _ _ win tv S _ (hjn.drewN m).v
                have HSA4 : Hid (∀ m, Calls Tryd.prog 51 #[.pointer (some ⟨w.heap.size, 0, none⟩)] (w7.drewN m) fun e w' => e = .returned (.int .i64 (S.out : Int)) ∧ w' = w7.drewN m) := hide fun m => out_any _ _ win tv S _ (hjn.drewN m).v
                generalize shownF S = sh at HSA1 HSA2
                generalize S.out = ou at HSA4 HST
                generalize S.lat = la at HSA3 hq5
                clear hjn
                go_wp2_with (go_at_call 46; refine HST.out.mono ?_; rintro e wS ⟨rfl, hwS⟩; subst wS)
                go_quiet ((first
                  | (go_at_call 48; exact Calls.quiet_of (unhide HSA1 _))
                  | (go_at_call 49; exact Calls.quiet_of_same (unhide HSA2 _))
                  | (go_at_call 50; exact Calls.quiet_of_same (unhide HSA3 _))
                  | (go_at_call 51; exact Calls.quiet_of_same (unhide HSA4 _))))
                go_wp2
                go_roundw
                case rel => exact ⟨⟨tv, tvr, mv, S, HJN.out.drewN _⟩, k + 1, by omega, by go_num⟩
                case measure => simp [intOf]; omega
              · have n0 : (x == 0) = false := by simpa using x0
                have n1 : (x == 1) = false := by simpa using x1
                have n2 : (x == 2) = false := by simpa using x2
                go_upto_region 36 with fail
                clear cx n0 n1 n2
                obtain ⟨tv, tvr, mv, S, hjn⟩ := HJ.out
                have HJN := hide hjn
                have hbc : wr.cell? ⟨bq, 0, none⟩ = some (.pointer (some ⟨q, 0, none⟩)) := (blk_cell hjn.bc 0).trans rfl
                have hq5 : wr.cell? ⟨q, 5, none⟩ = some (.bool S.lat) := (hjn.r.at 5).trans rfl
                have HST := hide (outs_any bq q mo S.out wr hjn.okS.out hbc ((hjn.r.at 4).trans rfl) hjn.r.outs)
                have HSA1 : Hid (∀ m, Calls Tryd.prog 48 #[.pointer (some ⟨w.heap.size, 0, none⟩)] (wr.drewN m) fun e w' => e = .returned (.int .i64 (shownF S)) ∧ ∃ n, w' = (wr.drewN m).drewN n) := hide fun m => shown_q _ _ win tv S _ (hjn.drewN m).v hjn.okS
                have HSA2 : Hid (∀ m, Calls Tryd.prog 49 #[.pointer (some ⟨q, 0, none⟩)] (wr.drewN m) fun e w' => e = .returned (.int .i64 (shownF S)) ∧ w' = wr.drewN m) := hide fun m => refShown_any _ q win tvr mv mo S _ (hjn.drewN m).r hjn.okR
                have HSA3 : Hid (∀ m, Calls Tryd.prog 50 #[.pointer (some ⟨w.heap.size, 0, none⟩)] (wr.drewN m) fun e w' => e = .returned (.bool S.lat) ∧ w' = wr.drewN m) := hide fun m => latched_any _ _ win tv S _ (hjn.drewN m).v
                have HSA4 : Hid (∀ m, Calls Tryd.prog 51 #[.pointer (some ⟨w.heap.size, 0, none⟩)] (wr.drewN m) fun e w' => e = .returned (.int .i64 (S.out : Int)) ∧ w' = wr.drewN m) := hide fun m => out_any _ _ win tv S _ (hjn.drewN m).v
                generalize shownF S = sh at HSA1 HSA2
                generalize S.out = ou at HSA4 HST
                generalize S.lat = la at HSA3 hq5
                clear hjn
                go_wp2_with (go_at_call 46; refine HST.out.mono ?_; rintro e wS ⟨rfl, hwS⟩; subst wS)
                go_quiet ((first
                  | (go_at_call 48; exact Calls.quiet_of (unhide HSA1 _))
                  | (go_at_call 49; exact Calls.quiet_of_same (unhide HSA2 _))
                  | (go_at_call 50; exact Calls.quiet_of_same (unhide HSA3 _))
                  | (go_at_call 51; exact Calls.quiet_of_same (unhide HSA4 _))))
                go_wp2
                go_roundw
                case rel => exact ⟨⟨tv, tvr, mv, S, HJN.out.drewN _⟩, k + 1, by omega, by go_num⟩
                case measure => simp [intOf]; omega
        · have he : k = ll := by omega
          obtain ⟨tv, tvr, mv, S, hjn⟩ := HJ.out
          have HJN := hide hjn
          have HTR := hide (trace_any _ _ win tv S wr hjn.v hjn.okS)
          clear hjn HJ
          go_wp2_with (go_at_call 52; refine HTR.out.mono ?_)
          rintro e w5 ⟨⟨v, rfl, ht⟩, hB5⟩
          have hj5 := HJN.out.below hB5
          have hf5 := hj5.okS.few
          obtain ⟨a5, cap5, rfl⟩ := ht.shape
          obtain ⟨ar, cr, hr⟩ := hj5.r.row.shape
          subst hr
          have bc5 : w5.cell? ⟨bq, 0, none⟩ = some (.pointer (some ⟨q, 0, none⟩)) := (blk_cell hj5.bc 0).trans rfl
          have q25 : w5.cell? ⟨q, 2, none⟩ = some (.slice ar S.tr.length cr) := (hj5.r.at 2).trans rfl
          have HTI := hide ht
          have HJ5 := hide hj5
          obtain ⟨n, hn⟩ : ∃ n, Hid (S.tr.length = n) := ⟨_, hide rfl⟩
          rw [hn.out] at hf5 q25 ⊢
          clear ht hj5 hB5 HJN HTR
          go_wp2_with fail
          go_loopw [24] (fun i wx => (∃ m, wx = w5.drewN m) ∧ ∃ j : Nat, j ≤ n ∧ i = .int .i64 j) (fun i _ => n - (intOf i).toNat)
          case atStart => exact ⟨⟨0, rfl⟩, 0, Nat.zero_le _, rfl⟩
          case round =>
            obtain ⟨⟨m, rfl⟩, j, hj, rfl⟩ := hrel
            by_cases hjn : j < n
            · obtain ⟨g5, c5, e5, _, hg5, hc5⟩ := HTI.out.has (by rw [hn.out]; omega)
              obtain ⟨gr, cr', er, _, hgr, hcr⟩ := HJ5.out.r.row.has (by rw [hn.out]; omega)
              simp only [Value.slice.injEq] at e5 er
              obtain ⟨rfl, _, rfl⟩ := e5
              obtain ⟨rfl, _, rfl⟩ := er
              have t1 := HTI.out
              have r1 := HJ5.out.r.row
              have t2 := t1.range (k := j) (by rw [hn.out]; omega)
              have r2 := r1.range (k := j) (by rw [hn.out]; omega)
              rw [hn.out] at hc5 hcr
              generalize cmAt S.tr j = d at t2 r2
              obtain ⟨d1, d2, d3⟩ := d
              obtain ⟨wx, hwx⟩ : ∃ wx, Hid (w5.drewN m = wx) := ⟨_, hide rfl⟩
              have s0 : wx.cell? ⟨g5, j * 3, none⟩ = some (.int .i64 d1) := by rw [← hwx.out]; exact t2 0 _ rfl
              have s1 : wx.cell? ⟨g5, j * 3 + 1, none⟩ = some (.int .i64 d2) := by rw [← hwx.out]; exact t2 1 _ rfl
              have s2 : wx.cell? ⟨g5, j * 3 + 2, none⟩ = some (.int .i64 d3) := by rw [← hwx.out]; exact t2 2 _ rfl
              have p0 : wx.cell? ⟨gr, j * 3, none⟩ = some (.int .i64 d1) := by rw [← hwx.out]; exact r2 0 _ rfl
              have p1 : wx.cell? ⟨gr, j * 3 + 1, none⟩ = some (.int .i64 d2) := by rw [← hwx.out]; exact r2 1 _ rfl
              have p2 : wx.cell? ⟨gr, j * 3 + 2, none⟩ = some (.int .i64 d3) := by rw [← hwx.out]; exact r2 2 _ rfl
              have bcx : wx.cell? ⟨bq, 0, none⟩ = some (.pointer (some ⟨q, 0, none⟩)) := by rw [← hwx.out]; exact bc5
              have q2x : wx.cell? ⟨q, 2, none⟩ = some (.slice (some ⟨gr, 0, none⟩) n cr) := by rw [← hwx.out]; exact q25
              have hne := neq_commit
              have hself : eqCm ⟨d1, d2, d3⟩ ⟨d1, d2, d3⟩ = true := eqCm_self _
              have j1 : (0 : Int) ≤ (j : Int) := by omega
              have j2 : (j : Int) < (n : Int) := by omega
              rw [hwx.out]
              clear t1 r1 t2 r2 bc5 q25 HTI HJ5 hg5 hgr
              go_wp2_with fail
              go_quiet (fail)
              go_wp2
              go_roundw
              case rel => exact ⟨⟨m + nq, by rw [← hwx.out, World.drewN_drewN]⟩, j + 1, by omega, by go_num⟩
              case measure => simp [intOf]; omega
            · have hold := HJ5.out.old
              have HOLD := hide hold
              clear hold bc5 q25 HTI HJ5
              go_wp2
              go_ret
              exact ⟨rfl, ⟨HOLD.out.os, HOLD.out.tape, HOLD.out.output, HOLD.out.size, HOLD.out.block⟩⟩
end Go.Proofs.YtbiacknbaefccaaDoor
