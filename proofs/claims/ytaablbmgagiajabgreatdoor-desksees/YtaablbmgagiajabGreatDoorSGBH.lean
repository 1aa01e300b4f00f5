import Derived.Deep.CutRange
import Derived.Great.BuildSlice
import Derived.Deep.RegionHeld3
import Derived.Test.YtaablbmgagiajabGreatDoorSGBG
namespace Go.Proofs.YtaablbmgagiajabGreatDoor
open Go.RowKit Go.Deep
set_option maxRecDepth 100000 in
set_option maxHeartbeats 4000000 in
theorem sees_true (x y z : Int) (w : World) (hn : HasNum w) (h7 : 7 ≤ w.heap.size) :
    Calls Tryz.prog 6 #[.agg #[.int .i64 x, .int .i64 y], .int .i64 z] w fun e w' => e = .returned (.bool true) ∧ Below w.heap.size w w' := by
  obtain ⟨W, hW⟩ : ∃ W, Hid (w.alloc (.cells #[.int .i64 x, .int .i64 y] 31) = W) := ⟨_, hide rfl⟩
  have hB0 : Below w.heap.size w W := by rw [← hW.out]; exact (Below.refl _ _).alloc (Nat.le_refl _) _
  have hbx : W.heap[w.heap.size]? = some (.cells #[.int .i64 x, .int .i64 y] 31 (0, 0)) := by rw [← hW.out]; exact blk_new _ _
  have HTK := hide (talks_any W (hn.below hB0) (Nat.le_trans h7 hB0.size))
  have HN := hide hn
  have HB0 := hide hB0
  have HX := hide hbx
  clear hn hB0 hbx
  go_enter Tryz.func6, Tryz.ntmps6
  go_wp2_with fail
  rw [hW.out]
  refine HTK.out.mono ?_
  rintro e w1 ⟨rfl, hB1⟩
  have HB1 := hide (HB0.out.trans (hB1.mono HB0.out.size))
  have HX1 := hide ((hB1.block _ (blk_lt HX.out)).trans HX.out)
  clear hB1 HTK
  obtain ⟨X, hX⟩ : ∃ X, Hid ((w1.alloc (.cells #[.int .i64 3, .int .i64 12, .int .i64 6] 3)).alloc (.cells #[.int .i64 4, .slice (some ⟨w1.heap.size, 0, none⟩) 3 3, .int .i64 2] 42) = X) := ⟨_, hide rfl⟩
  have HNW : Hid (Calls Tryz.prog 24 #[.agg #[.int .i64 4, .slice (some ⟨w1.heap.size, 0, none⟩) 3 3, .int .i64 2], .int .i64 10] X fun e w' => ∃ p, e = .returned (.tuple #[.pointer (some ⟨p, 0, none⟩), .nilIface]) ∧ Hid (LwAt w p x y (sy0 10) w')) := hide (by
    have hb1 : Below w1.heap.size w1 (w1.alloc (.cells #[.int .i64 3, .int .i64 12, .int .i64 6] 3)) := (Below.refl _ _).alloc (Nat.le_refl _) _
    have hsl := (isSl_new w1 [3, 12, 6] 3 rfl).2.2
    have hs1 : (w1.alloc (.cells #[.int .i64 3, .int .i64 12, .int .i64 6] 3)).heap.size = w1.heap.size + 1 := World.size_alloc _ _
    have hrow : Row (w1.alloc (.cells #[.int .i64 3, .int .i64 12, .int .i64 6] 3)) w1.heap.size 0 L0.zs := by
      rcases hsl with e | ⟨b, o, e1, _, hr⟩
      · cases e
      · simp only [Option.some.injEq, Addr.mk.injEq] at e1
        obtain ⟨rfl, rfl, _⟩ := e1
        exact hr
    generalize w1.alloc (.cells #[.int .i64 3, .int .i64 12, .int .i64 6] 3) = y1 at hb1 hs1 hrow hX
    have hb2 : Below y1.heap.size y1 X := by rw [← hX.out]; exact (Below.refl _ _).alloc (Nat.le_refl _) _
    have hB1X : Below w1.heap.size w1 X := hb1.trans (hb2.mono hb1.size)
    have hxl : w.heap.size < w1.heap.size := blk_lt HX1.out
    have hXs := hB1X.size
    have hy := hb2.size
    refine (synew_any X.heap.size L0 10 w1.heap.size 0 3 X L0_ok (by omega) (by omega) (by omega) (hrow.below (by omega) hb2) (Nat.le_refl _)).mono ?_
    rintro e w' ⟨⟨D, rfl, _, hS⟩, hB⟩
    have hBa : Below w1.heap.size w1 w' := hB1X.trans (hB.mono hXs)
    have hblk := (hBa.block _ hxl).trans HX1.out
    exact ⟨D.p, rfl, hide ⟨X.heap.size, D, rfl, hS, by omega, hB.size, HB1.out.trans (hBa.mono HB1.out.size), hblk⟩⟩)
  go_wp2_with fail
  rw [hX.out]
  refine HNW.out.mono ?_
  rintro e w2 ⟨p, rfl, HS2⟩
  clear HNW
  go_wp2_with fail
  obtain ⟨c, hc, hc16⟩ : ∃ c : Nat, Hid (pickF x 16 = (c : Int)) ∧ c < 16 := by
    have := pickF_in x 16 (by decide) (by decide)
    exact ⟨(pickF x 16).toNat, hide (by omega), by omega⟩
  obtain ⟨v, hv, hv8⟩ : ∃ c : Nat, Hid (pickF y 8 = (c : Int)) ∧ c < 8 := by
    have := pickF_in y 8 (by decide) (by decide)
    exact ⟨(pickF y 8).toNat, hide (by omega), by omega⟩
  obtain ⟨r, hr, hr8⟩ : ∃ c : Nat, Hid (pickF z 8 = (c : Int)) ∧ c < 8 := by
    have := pickF_in z 8 (by decide) (by decide)
    exact ⟨(pickF z 8).toNat, hide (by omega), by omega⟩
  have P1 : Hid (∀ Y, Calls Tryz.prog 25 #[.int .i64 x, .int .i64 16] Y fun e w' => e = .returned (.int .i64 (c : Int)) ∧ w' = Y) := hide fun Y => by rw [← hc.out]; exact pick_any x 16 Y (by decide) (by decide)
  have P2 : Hid (∀ Y, Calls Tryz.prog 25 #[.int .i64 y, .int .i64 8] Y fun e w' => e = .returned (.int .i64 (v : Int)) ∧ w' = Y) := hide fun Y => by rw [← hv.out]; exact pick_any y 8 Y (by decide) (by decide)
  have P3 : Hid (∀ Y, Calls Tryz.prog 25 #[.int .i64 z, .int .i64 8] Y fun e w' => e = .returned (.int .i64 (r : Int)) ∧ w' = Y) := hide fun Y => by rw [← hr.out]; exact pick_any z 8 Y (by decide) (by decide)
  have HV := hide HS2.out.drew
  go_cut [1] from 28 to 36 (fun s1 wc => s1 = .int .i64 (r : Int) ∧ LwAt w p (c : Int) (v : Int) (sy0 10) wc)
  case first =>
    refine wp_region_held_drew (S := fun _ => True) (by kernel_rfl) trivial (fun hHeld => ?_)
    generalize w2.drew = V at HV ⊢
    obtain ⟨i0, i1⟩ := HV.out.cells
    obtain ⟨z0, z1⟩ := HV.out.free
    refine wpAnyH_take (i := 0) (oi := _) (v := .pointer (some ⟨w.heap.size, 0, none⟩)) rfl (by kernel_rfl) (by kernel_rfl) (by kernel_rfl) (fun _ _ _ h => h) (Or.inl ⟨by rfl, fun w _ => by go_simp⟩) hHeld ?_
    simp only [Act.put, List.getElem_toArray, List.getElem_cons_zero, List.setIfInBounds_toArray, List.set_cons_succ, List.set_cons_zero]
    refine wpAnyH_take (i := 3) (oi := _) (v := .pointer (some ⟨w.heap.size, 1, none⟩)) rfl (by kernel_rfl) (by kernel_rfl) (by kernel_rfl) (fun _ _ _ h => h) (Or.inl ⟨by rfl, fun w _ => by go_simp⟩) hHeld ?_
    simp only [Act.put, List.getElem_toArray, List.getElem_cons_succ, List.getElem_cons_zero, List.setIfInBounds_toArray, List.set_cons_succ, List.set_cons_zero]
    refine wpAnyH_take (i := 7) (oi := _) (v := .int .i64 z) rfl (by kernel_rfl) (by kernel_rfl) (by kernel_rfl) (fun _ _ _ h => h) (Or.inl ⟨by rfl, fun w _ => by go_simp⟩) hHeld ?_
    simp only [Act.put, List.getElem_toArray, List.getElem_cons_succ, List.getElem_cons_zero, List.setIfInBounds_toArray, List.set_cons_succ, List.set_cons_zero]
    refine wpAnyH_ready (rs := [1, 4]) (by kernel_rfl) (by simp) ?_
    refine AllReadyH.cons (o := _) rfl (fun K hK => ?_) (AllReadyH.cons (o := _) rfl (fun K hK => ?_) AllReadyH.nil)
    · rw [if_pos (by rfl)]
      go_simp
      refine hK.out _ _ trivial (fun hHeld => ?_)
      clear hK K
      refine wpAnyH_ready (rs := [2, 4]) (by kernel_rfl) (by simp) ?_
      refine AllReadyH.cons (o := _) rfl (fun K hK => ?_) (AllReadyH.cons (o := _) rfl (fun K hK => ?_) AllReadyH.nil)
      · rw [if_pos (by rfl)]
        go_simp
        go_at_call 25
        refine (P1.out _).mono ?_
        rintro e w9 ⟨rfl, rfl⟩
        dsimp only
        refine hK.out _ _ trivial (fun hHeld => ?_)
        clear hK K
        refine wpAnyH_ready (rs := [4]) (by kernel_rfl) (by simp) ?_
        refine AllReadyH.cons (o := _) rfl (fun K hK => ?_) AllReadyH.nil
        rw [if_pos (by rfl)]
        go_simp
        refine hK.out _ _ trivial (fun hHeld => ?_)
        clear hK K
        refine wpAnyH_ready (rs := [5]) (by kernel_rfl) (by simp) ?_
        refine AllReadyH.cons (o := _) rfl (fun K hK => ?_) AllReadyH.nil
        rw [if_pos (by rfl)]
        go_simp
        go_at_call 25
        refine (P2.out _).mono ?_
        rintro e w9 ⟨rfl, rfl⟩
        dsimp only
        refine hK.out _ _ trivial (fun hHeld => ?_)
        clear hK K
        refine wpAnyH_take (i := 6) (oi := _) (v := .agg #[.int .i64 (c : Int), .int .i64 (v : Int)]) rfl (by kernel_rfl) (by kernel_rfl) (by kernel_rfl) (fun _ _ _ h => h) (Or.inl ⟨by rfl, fun w _ => by go_simp⟩) hHeld ?_
        simp only [Act.put, List.getElem_toArray, List.getElem_cons_succ, List.getElem_cons_zero, List.setIfInBounds_toArray, List.set_cons_succ, List.set_cons_zero]
        refine wpAnyH_ready (rs := [8]) (by kernel_rfl) (by simp) ?_
        refine AllReadyH.cons (o := _) rfl (fun K hK => ?_) AllReadyH.nil
        rw [if_pos (by rfl)]
        go_simp
        go_at_call 25
        refine (P3.out _).mono ?_
        rintro e w9 ⟨rfl, rfl⟩
        dsimp only
        refine hK.out _ _ trivial (fun hHeld => ?_)
        clear hK K
        refine wpAnyH_ready (rs := [9]) (by kernel_rfl) (by simp) ?_
        refine AllReadyH.cons (o := _) rfl (fun K hK => ?_) AllReadyH.nil
        rw [if_pos (by rfl)]
        go_simp
        refine hK.out _ _ trivial (fun hHeld => ?_)
        clear hK K
        refine wpAnyH_ready (rs := [10]) (by kernel_rfl) (by simp) ?_
        refine AllReadyH.cons (o := _) rfl (fun K hK => ?_) AllReadyH.nil
        rw [if_pos (by rfl)]
        go_simp
        refine hK.out _ _ trivial (fun hHeld => ?_)
        clear hK K
        refine wpAnyH_done (by kernel_rfl) ?_ _
        go_wp2_with fail
        go_meet
        exact ⟨rfl, HV.out.put rfl (c : Int) (v : Int)⟩
      · rw [if_pos (by rfl)]
        go_simp
        refine hK.out _ _ trivial (fun hHeld => ?_)
        clear hK K
        refine wpAnyH_ready (rs := [2]) (by kernel_rfl) (by simp) ?_
        refine AllReadyH.cons (o := _) rfl (fun K hK => ?_) AllReadyH.nil
        rw [if_pos (by rfl)]
        go_simp
        go_at_call 25
        refine (P1.out _).mono ?_
        rintro e w9 ⟨rfl, rfl⟩
        dsimp only
        refine hK.out _ _ trivial (fun hHeld => ?_)
        clear hK K
        refine wpAnyH_ready (rs := [5]) (by kernel_rfl) (by simp) ?_
        refine AllReadyH.cons (o := _) rfl (fun K hK => ?_) AllReadyH.nil
        rw [if_pos (by rfl)]
        go_simp
        go_at_call 25
        refine (P2.out _).mono ?_
        rintro e w9 ⟨rfl, rfl⟩
        dsimp only
        refine hK.out _ _ trivial (fun hHeld => ?_)
        clear hK K
        refine wpAnyH_take (i := 6) (oi := _) (v := .agg #[.int .i64 (c : Int), .int .i64 (v : Int)]) rfl (by kernel_rfl) (by kernel_rfl) (by kernel_rfl) (fun _ _ _ h => h) (Or.inl ⟨by rfl, fun w _ => by go_simp⟩) hHeld ?_
        simp only [Act.put, List.getElem_toArray, List.getElem_cons_succ, List.getElem_cons_zero, List.setIfInBounds_toArray, List.set_cons_succ, List.set_cons_zero]
        refine wpAnyH_ready (rs := [8]) (by kernel_rfl) (by simp) ?_
        refine AllReadyH.cons (o := _) rfl (fun K hK => ?_) AllReadyH.nil
        rw [if_pos (by rfl)]
        go_simp
        go_at_call 25
        refine (P3.out _).mono ?_
        rintro e w9 ⟨rfl, rfl⟩
        dsimp only
        refine hK.out _ _ trivial (fun hHeld => ?_)
        clear hK K
        refine wpAnyH_ready (rs := [9]) (by kernel_rfl) (by simp) ?_
        refine AllReadyH.cons (o := _) rfl (fun K hK => ?_) AllReadyH.nil
        rw [if_pos (by rfl)]
        go_simp
        refine hK.out _ _ trivial (fun hHeld => ?_)
        clear hK K
        refine wpAnyH_ready (rs := [10]) (by kernel_rfl) (by simp) ?_
        refine AllReadyH.cons (o := _) rfl (fun K hK => ?_) AllReadyH.nil
        rw [if_pos (by rfl)]
        go_simp
        refine hK.out _ _ trivial (fun hHeld => ?_)
        clear hK K
        refine wpAnyH_done (by kernel_rfl) ?_ _
        go_wp2_with fail
        go_meet
        exact ⟨rfl, HV.out.put rfl (c : Int) (v : Int)⟩
    · rw [if_pos (by rfl)]
      go_simp
      refine hK.out _ _ trivial (fun hHeld => ?_)
      clear hK K
      refine wpAnyH_ready (rs := [1]) (by kernel_rfl) (by simp) ?_
      refine AllReadyH.cons (o := _) rfl (fun K hK => ?_) AllReadyH.nil
      rw [if_pos (by rfl)]
      go_simp
      refine hK.out _ _ trivial (fun hHeld => ?_)
      clear hK K
      refine wpAnyH_ready (rs := [2]) (by kernel_rfl) (by simp) ?_
      refine AllReadyH.cons (o := _) rfl (fun K hK => ?_) AllReadyH.nil
      rw [if_pos (by rfl)]
      go_simp
      go_at_call 25
      refine (P1.out _).mono ?_
      rintro e w9 ⟨rfl, rfl⟩
      dsimp only
      refine hK.out _ _ trivial (fun hHeld => ?_)
      clear hK K
      refine wpAnyH_ready (rs := [5]) (by kernel_rfl) (by simp) ?_
      refine AllReadyH.cons (o := _) rfl (fun K hK => ?_) AllReadyH.nil
      rw [if_pos (by rfl)]
      go_simp
      go_at_call 25
      refine (P2.out _).mono ?_
      rintro e w9 ⟨rfl, rfl⟩
      dsimp only
      refine hK.out _ _ trivial (fun hHeld => ?_)
      clear hK K
      refine wpAnyH_take (i := 6) (oi := _) (v := .agg #[.int .i64 (c : Int), .int .i64 (v : Int)]) rfl (by kernel_rfl) (by kernel_rfl) (by kernel_rfl) (fun _ _ _ h => h) (Or.inl ⟨by rfl, fun w _ => by go_simp⟩) hHeld ?_
      simp only [Act.put, List.getElem_toArray, List.getElem_cons_succ, List.getElem_cons_zero, List.setIfInBounds_toArray, List.set_cons_succ, List.set_cons_zero]
      refine wpAnyH_ready (rs := [8]) (by kernel_rfl) (by simp) ?_
      refine AllReadyH.cons (o := _) rfl (fun K hK => ?_) AllReadyH.nil
      rw [if_pos (by rfl)]
      go_simp
      go_at_call 25
      refine (P3.out _).mono ?_
      rintro e w9 ⟨rfl, rfl⟩
      dsimp only
      refine hK.out _ _ trivial (fun hHeld => ?_)
      clear hK K
      refine wpAnyH_ready (rs := [9]) (by kernel_rfl) (by simp) ?_
      refine AllReadyH.cons (o := _) rfl (fun K hK => ?_) AllReadyH.nil
      rw [if_pos (by rfl)]
      go_simp
      refine hK.out _ _ trivial (fun hHeld => ?_)
      clear hK K
      refine wpAnyH_ready (rs := [10]) (by kernel_rfl) (by simp) ?_
      refine AllReadyH.cons (o := _) rfl (fun K hK => ?_) AllReadyH.nil
      rw [if_pos (by rfl)]
      go_simp
      refine hK.out _ _ trivial (fun hHeld => ?_)
      clear hK K
      refine wpAnyH_done (by kernel_rfl) ?_ _
      go_wp2_with fail
      go_meet
      exact ⟨rfl, HV.out.put rfl (c : Int) (v : Int)⟩
  case rest =>
    obtain ⟨rfl, hL⟩ := hcut
    have HST : Hid (LwAt w p (c : Int) (v : Int) (seesSy c v 0) wc) := hide hL
    clear hL HV P1 P2 P3 HS2 hc hv hr HB1 HX1 hX HX HB0 hW
    have HDG : Hid (∀ (n : Nat), n < 16 → ∀ (s : List UInt8), Lib.itoa (n : Int) = s → ∀ Y, Calls Tryz.prog 26 #[.int .i64 (n : Int)] Y fun e w' => e = .returned (.string (txt s)) ∧ Below Y.heap.size Y w') := hide fun n hn s hs Y => by rw [← hs]; exact digits_any n hn Y
    go_wp2
    go_loopw [8, 9] (fun t i wr => ∃ k : Nat, k ≤ 3 ∧ i = .int .i64 k ∧ t = .string (txt (seesT c v k)) ∧ LwAt w p (c : Int) (v : Int) (seesSy c v k) wr) (fun _ i _ => 3 - (intOf i).toNat)
    case atStart => exact ⟨0, by omega, rfl, rfl, HST.out⟩
    case round =>
      obtain ⟨k, hk, rfl, rfl, hL⟩ := hrel
      clear HST
      by_cases hlt : k < 3
      · have t1 : (k : Int) < 3 := by omega
        obtain ⟨i0, i1⟩ := hL.cells
        have HC := hide (lw_see hL hlt (c : Int) (v : Int))
        have lT := seesT_len hc16 hv8 k (by omega)
        have lk := itoa_le (k := k) (by omega)
        have lc := itoa_le (k := c) (by omega)
        have lv := itoa_le (k := v) (by omega)
        have HT := hide (seesT_txt c v k)
        obtain ⟨sT, hsT⟩ : ∃ s, Hid (seesT c v k = s) := ⟨_, hide rfl⟩
        obtain ⟨sk, hsk⟩ : ∃ s, Hid (Lib.itoa (k : Int) = s) := ⟨_, hide rfl⟩
        obtain ⟨sc, hsc⟩ : ∃ s, Hid (Lib.itoa (c : Int) = s) := ⟨_, hide rfl⟩
        obtain ⟨sv, hsv⟩ : ∃ s, Hid (Lib.itoa (v : Int) = s) := ⟨_, hide rfl⟩
        rw [hsT.out] at lT HT ⊢
        rw [hsk.out] at lk HT
        rw [hsc.out] at lc HT
        rw [hsv.out] at lv HT
        have D1 : Hid (∀ Y, LwAt w p (c : Int) (v : Int) (seesSy c v (k + 1)) Y → Calls Tryz.prog 26 #[.int .i64 (k : Int)] Y fun e w' => e = .returned (.string (txt sk)) ∧ LwAt w p (c : Int) (v : Int) (seesSy c v (k + 1)) w') := hide fun Y hY => (HDG.out k (by omega) sk hsk.out Y).mono fun e w' h => ⟨h.1, hY.below h.2⟩
        have D2 : Hid (∀ Y, LwAt w p (c : Int) (v : Int) (seesSy c v (k + 1)) Y → Calls Tryz.prog 26 #[.int .i64 (c : Int)] Y fun e w' => e = .returned (.string (txt sc)) ∧ LwAt w p (c : Int) (v : Int) (seesSy c v (k + 1)) w') := hide fun Y hY => (HDG.out c (by omega) sc hsc.out Y).mono fun e w' h => ⟨h.1, hY.below h.2⟩
        have D3 : Hid (∀ Y, LwAt w p (c : Int) (v : Int) (seesSy c v (k + 1)) Y → Calls Tryz.prog 26 #[.int .i64 (v : Int)] Y fun e w' => e = .returned (.string (txt sv)) ∧ LwAt w p (c : Int) (v : Int) (seesSy c v (k + 1)) w') := hide fun Y hY => (HDG.out v (by omega) sv hsv.out Y).mono fun e w' h => ⟨h.1, hY.below h.2⟩
        have l3 : ¬ 9223372036854775807 < 4 + sk.length := by omega
        have l4 : ¬ 9223372036854775807 < 4 + sk.length + 1 := by omega
        have l8 : ¬ 9223372036854775807 < 4 + sk.length + 1 + sc.length := by omega
        have l9 : ¬ 9223372036854775807 < 4 + sk.length + 1 + sc.length + 1 := by omega
        have l13 : ¬ 9223372036854775807 < 4 + sk.length + 1 + sc.length + 1 + sv.length := by omega
        have l14 : ¬ 9223372036854775807 < 4 + sk.length + 1 + sc.length + 1 + sv.length + 1 := by omega
        have l15 : ¬ 9223372036854775807 < sT.length + (4 + sk.length + 1 + sc.length + 1 + sv.length + 1) := by omega
        clear hL hsk hsc hsv hsT lT lk lc lv HDG
        go_wp2_with fail
        refine HC.out.mono ?_
        rintro e w3 ⟨rfl, hL3⟩
        have HL3 : Hid (LwAt w p (c : Int) (v : Int) (seesSy c v (k + 1)) w3) := hide hL3
        clear hL3 HC i0 i1
        go_wp2_with fail
        refine wp_region_held_drew (S := fun Y => LwAt w p (c : Int) (v : Int) (seesSy c v (k + 1)) Y) (by kernel_rfl) HL3.out.drew (fun hHeld => ?_)
        refine wpAnyH_take (i := 0) (oi := _) (v := .string (txt sT)) rfl (by kernel_rfl) (by kernel_rfl) (by kernel_rfl) (fun _ _ _ h => h) (Or.inl ⟨by rfl, fun w _ => by go_simp⟩) hHeld ?_
        simp only [Act.put, List.getElem_toArray, List.getElem_cons_zero, List.setIfInBounds_toArray, List.set_cons_succ, List.set_cons_zero]
        refine wpAnyH_take (i := 1) (oi := _) (v := .int .i64 (k : Int)) rfl (by kernel_rfl) (by kernel_rfl) (by kernel_rfl) (fun _ _ _ h => h) (Or.inl ⟨by rfl, fun w _ => by go_simp⟩) hHeld ?_
        simp only [Act.put, List.getElem_toArray, List.getElem_cons_succ, List.getElem_cons_zero, List.setIfInBounds_toArray, List.set_cons_succ, List.set_cons_zero]
        refine wpAnyH_take (i := 5) (oi := _) (v := .pointer (some ⟨w.heap.size, 0, none⟩)) rfl (by kernel_rfl) (by kernel_rfl) (by kernel_rfl) (fun _ _ _ h => h) (Or.inl ⟨by rfl, fun w _ => by go_simp⟩) hHeld ?_
        simp only [Act.put, List.getElem_toArray, List.getElem_cons_succ, List.getElem_cons_zero, List.setIfInBounds_toArray, List.set_cons_succ, List.set_cons_zero]
        refine wpAnyH_take (i := 6) (oi := _) (v := .int .i64 (c : Int)) rfl (by kernel_rfl) (by kernel_rfl) (by kernel_rfl) (fun _ _ _ h => h) (Or.inl ⟨by rfl, fun w h => by obtain ⟨h1, h2⟩ := LwAt.cells h; go_simp⟩) hHeld ?_
        simp only [Act.put, List.getElem_toArray, List.getElem_cons_succ, List.getElem_cons_zero, List.setIfInBounds_toArray, List.set_cons_succ, List.set_cons_zero]
        refine wpAnyH_take (i := 10) (oi := _) (v := .pointer (some ⟨w.heap.size, 1, none⟩)) rfl (by kernel_rfl) (by kernel_rfl) (by kernel_rfl) (fun _ _ _ h => h) (Or.inl ⟨by rfl, fun w _ => by go_simp⟩) hHeld ?_
        simp only [Act.put, List.getElem_toArray, List.getElem_cons_succ, List.getElem_cons_zero, List.setIfInBounds_toArray, List.set_cons_succ, List.set_cons_zero]
        refine wpAnyH_take (i := 11) (oi := _) (v := .int .i64 (v : Int)) rfl (by kernel_rfl) (by kernel_rfl) (by kernel_rfl) (fun _ _ _ h => h) (Or.inl ⟨by rfl, fun w h => by obtain ⟨h1, h2⟩ := LwAt.cells h; go_simp⟩) hHeld ?_
        simp only [Act.put, List.getElem_toArray, List.getElem_cons_succ, List.getElem_cons_zero, List.setIfInBounds_toArray, List.set_cons_succ, List.set_cons_zero]
        refine wpAnyH_ready (rs := [2]) (by kernel_rfl) (by simp) ?_
        refine AllReadyH.cons (o := _) rfl (fun K hK => ?_) AllReadyH.nil
        rw [if_pos (by rfl)]
        go_simp
        go_at_call 26
        refine (D1.out _ hHeld).mono ?_
        rintro e w9 ⟨rfl, hS9⟩
        dsimp only
        refine hK.out _ _ hS9 (fun hHeld => ?_)
        clear hK K
        refine wpAnyH_take (i := 3) (oi := _) (v := .string (⟨#[115, 101, 101, 32]⟩ ++ txt sk)) rfl (by kernel_rfl) (by kernel_rfl) (by kernel_rfl) (fun _ _ _ h => h) (Or.inl ⟨by rfl, fun w _ => by go_simp⟩) hHeld ?_
        simp only [Act.put, List.getElem_toArray, List.getElem_cons_succ, List.getElem_cons_zero, List.setIfInBounds_toArray, List.set_cons_succ, List.set_cons_zero]
        refine wpAnyH_take (i := 4) (oi := _) (v := .string (⟨#[115, 101, 101, 32]⟩ ++ txt sk ++ ⟨#[32]⟩)) rfl (by kernel_rfl) (by kernel_rfl) (by kernel_rfl) (fun _ _ _ h => h) (Or.inl ⟨by rfl, fun w _ => by go_simp⟩) hHeld ?_
        simp only [Act.put, List.getElem_toArray, List.getElem_cons_succ, List.getElem_cons_zero, List.setIfInBounds_toArray, List.set_cons_succ, List.set_cons_zero]
        refine wpAnyH_ready (rs := [7]) (by kernel_rfl) (by simp) ?_
        refine AllReadyH.cons (o := _) rfl (fun K hK => ?_) AllReadyH.nil
        rw [if_pos (by rfl)]
        go_simp
        go_at_call 26
        refine (D2.out _ hHeld).mono ?_
        rintro e w9 ⟨rfl, hS9⟩
        dsimp only
        refine hK.out _ _ hS9 (fun hHeld => ?_)
        clear hK K
        refine wpAnyH_take (i := 8) (oi := _) (v := .string (⟨#[115, 101, 101, 32]⟩ ++ txt sk ++ ⟨#[32]⟩ ++ txt sc)) rfl (by kernel_rfl) (by kernel_rfl) (by kernel_rfl) (fun _ _ _ h => h) (Or.inl ⟨by rfl, fun w _ => by go_simp⟩) hHeld ?_
        simp only [Act.put, List.getElem_toArray, List.getElem_cons_succ, List.getElem_cons_zero, List.setIfInBounds_toArray, List.set_cons_succ, List.set_cons_zero]
        refine wpAnyH_take (i := 9) (oi := _) (v := .string (⟨#[115, 101, 101, 32]⟩ ++ txt sk ++ ⟨#[32]⟩ ++ txt sc ++ ⟨#[32]⟩)) rfl (by kernel_rfl) (by kernel_rfl) (by kernel_rfl) (fun _ _ _ h => h) (Or.inl ⟨by rfl, fun w _ => by go_simp⟩) hHeld ?_
        simp only [Act.put, List.getElem_toArray, List.getElem_cons_succ, List.getElem_cons_zero, List.setIfInBounds_toArray, List.set_cons_succ, List.set_cons_zero]
        refine wpAnyH_ready (rs := [12]) (by kernel_rfl) (by simp) ?_
        refine AllReadyH.cons (o := _) rfl (fun K hK => ?_) AllReadyH.nil
        rw [if_pos (by rfl)]
        go_simp
        go_at_call 26
        refine (D3.out _ hHeld).mono ?_
        rintro e w9 ⟨rfl, hS9⟩
        dsimp only
        refine hK.out _ _ hS9 (fun hHeld => ?_)
        clear hK K
        refine wpAnyH_take (i := 13) (oi := _) (v := .string (⟨#[115, 101, 101, 32]⟩ ++ txt sk ++ ⟨#[32]⟩ ++ txt sc ++ ⟨#[32]⟩ ++ txt sv)) rfl (by kernel_rfl) (by kernel_rfl) (by kernel_rfl) (fun _ _ _ h => h) (Or.inl ⟨by rfl, fun w _ => by go_simp⟩) hHeld ?_
        simp only [Act.put, List.getElem_toArray, List.getElem_cons_succ, List.getElem_cons_zero, List.setIfInBounds_toArray, List.set_cons_succ, List.set_cons_zero]
        refine wpAnyH_take (i := 14) (oi := _) (v := .string (⟨#[115, 101, 101, 32]⟩ ++ txt sk ++ ⟨#[32]⟩ ++ txt sc ++ ⟨#[32]⟩ ++ txt sv ++ ⟨#[10]⟩)) rfl (by kernel_rfl) (by kernel_rfl) (by kernel_rfl) (fun _ _ _ h => h) (Or.inl ⟨by rfl, fun w _ => by go_simp⟩) hHeld ?_
        simp only [Act.put, List.getElem_toArray, List.getElem_cons_succ, List.getElem_cons_zero, List.setIfInBounds_toArray, List.set_cons_succ, List.set_cons_zero]
        refine wpAnyH_take (i := 15) (oi := _) (v := .string (txt sT ++ (⟨#[115, 101, 101, 32]⟩ ++ txt sk ++ ⟨#[32]⟩ ++ txt sc ++ ⟨#[32]⟩ ++ txt sv ++ ⟨#[10]⟩))) rfl (by kernel_rfl) (by kernel_rfl) (by kernel_rfl) (fun _ _ _ h => h) (Or.inl ⟨by rfl, fun w _ => by go_simp⟩) hHeld ?_
        simp only [Act.put, List.getElem_toArray, List.getElem_cons_succ, List.getElem_cons_zero, List.setIfInBounds_toArray, List.set_cons_succ, List.set_cons_zero]
        refine wpAnyH_ready (rs := [16]) (by kernel_rfl) (by simp) ?_
        refine AllReadyH.cons (o := _) rfl (fun K hK => ?_) AllReadyH.nil
        rw [if_pos (by rfl)]
        go_simp
        refine hK.out _ _ hHeld (fun hHeld => ?_)
        clear hK K
        refine wpAnyH_done (by kernel_rfl) ?_ _
        have HL4 := hide hHeld
        clear hHeld HL3 D1 D2 D3
        go_wp2
        go_roundw
        case rel => exact ⟨k + 1, by omega, by go_num, by rw [HT.out], HL4.out⟩
        case measure => simp [intOf]; omega
      · have e3 : k = 3 := by omega
        subst e3
        have HC := hide (lw_calm hL (InS.sees c v 3 (by omega)) r (by omega) (by omega))
        have HTX := hide (t1_txt c v r)
        have lT := seesT_len hc16 hv8 3 (by omega)
        have lr := itoa_le (k := r) (by omega)
        obtain ⟨sT, hsT⟩ : ∃ s, Hid (seesT c v 3 = s) := ⟨_, hide rfl⟩
        obtain ⟨sr, hsr⟩ : ∃ s, Hid (Lib.itoa (r : Int) = s) := ⟨_, hide rfl⟩
        rw [hsT.out] at HTX lT ⊢
        rw [hsr.out] at HTX lr
        have DR := hide (HDG.out r (by omega) sr hsr.out)
        clear hL hsT hsr hlt hk
        go_wp2_with fail
        refine HC.out.mono ?_
        rintro e w4 ⟨rfl, Z, hcalm, hIZ, hL4⟩
        have HTR := hide (lw_trace hL4 hIZ)
        have HSS : Hid (∀ Y, Below w.heap.size w Y → Calls Tryz.prog 23 #[.string (txt sT ++ ⟨#[99, 97, 108, 109, 32]⟩ ++ txt sr ++ ⟨#[10, 116, 114, 97, 99, 101]⟩)] Y fun e w' => e = .returned (.string (⟨#[115, 101, 101, 10, 115, 101, 101, 10, 115, 101, 101, 10, 99, 97, 108, 109, 10]⟩ ++ txt (traceF Z.v.tr) ++ ⟨#[10]⟩)) ∧ Below Y.heap.size Y w') := hide fun Y hY => by
          rw [HTX.out, ← said_txt]
          exact sees_session hc16 hv8 hr8 hcalm Y (HN.out.below hY) (Nat.le_trans h7 hY.size)
        have HSM := hide hIZ.small
        have HLN := hide hIZ.takeLen
        have hfew := hIZ.few.1
        have HO4 := hide hL4.old
        clear hL4 hIZ hcalm HC HTX
        obtain ⟨tr, htr⟩ : ∃ tr, Z.v.tr = tr := ⟨_, rfl⟩
        rw [htr] at HTR HSS HSM HLN hfew
        clear htr
        go_wp2_with fail
        go_at_call 13
        refine HTR.out.mono ?_
        rintro e w5 ⟨⟨tv, rfl, hTI⟩, hB5⟩
        obtain ⟨ta, tc, rfl⟩ := hTI.shape
        have HTI := hide hTI
        have HB := hide (HO4.out.trans (hB5.mono HO4.out.size))
        clear hTI hB5 HTR HO4
        go_wp2
        go_loopw [10, 12] (fun ov i wr => ∃ k : Nat, k ≤ tr.length ∧ i = .int .i64 k ∧ ov = .string (txt (traceF (tr.take k))) ∧ Below w5.heap.size w5 wr) (fun _ i _ => tr.length - (intOf i).toNat)
        case atStart => exact ⟨0, Nat.zero_le _, rfl, rfl, Below.refl _ _⟩
        case round =>
          obtain ⟨k, hk, rfl, rfl, hB⟩ := hrel
          have HB5 := hide hB
          clear hB
          by_cases hlt2 : k < tr.length
          · obtain ⟨g, cap, he, hg1, hg2, hcap⟩ := HTI.out.has (by omega)
            simp only [Value.slice.injEq] at he
            obtain ⟨rfl, _, rfl⟩ := he
            obtain ⟨a, d, o, ha, hd, ho, hcm⟩ := HSM.out k hlt2
            have HSC : Hid (∀ Y, Below w5.heap.size w5 Y → (Y.cell? ⟨g, k * 3, none⟩ = some (.int .i64 (a : Int)) ∧ Y.cell? ⟨g, k * 3 + 1, none⟩ = some (.int .i64 (d : Int)) ∧ Y.cell? ⟨g, k * 3 + 2, none⟩ = some (.int .i64 (o : Int))) ∧ Below w5.heap.size w5 Y) := hide fun Y hY => by
              have hr := (HTI.out.same (w' := Y) fun g' hg' => by cases hg'; exact hY.block _ hg2).range hlt2
              rw [hcm] at hr
              exact ⟨⟨hr 0 _ rfl, hr 1 _ rfl, hr 2 _ rfl⟩, hY⟩
            have l0 := HLN.out k
            have la := itoa_le (k := a) (by omega)
            have ld := itoa_le (k := d) (by omega)
            have lo := itoa_le (k := o) (by omega)
            have HT0 := hide fun h0 => trace_txt0 tr k hlt2 h0 hcm
            have HTk := hide fun h0 => trace_txt tr k hlt2 h0 hcm
            obtain ⟨s0, hs0⟩ : ∃ s, Hid (traceF (tr.take k) = s) := ⟨_, hide rfl⟩
            obtain ⟨sa, hsa⟩ : ∃ s, Hid (Lib.itoa (a : Int) = s) := ⟨_, hide rfl⟩
            obtain ⟨sd, hsd⟩ : ∃ s, Hid (Lib.itoa (d : Int) = s) := ⟨_, hide rfl⟩
            obtain ⟨so, hso⟩ : ∃ s, Hid (Lib.itoa (o : Int) = s) := ⟨_, hide rfl⟩
            rw [hs0.out] at l0 HT0 HTk ⊢
            rw [hsa.out] at la HT0 HTk
            rw [hsd.out] at ld HT0 HTk
            rw [hso.out] at lo HT0 HTk
            have D1 : Hid (∀ Y, (Y.cell? ⟨g, k * 3, none⟩ = some (.int .i64 (a : Int)) ∧ Y.cell? ⟨g, k * 3 + 1, none⟩ = some (.int .i64 (d : Int)) ∧ Y.cell? ⟨g, k * 3 + 2, none⟩ = some (.int .i64 (o : Int))) ∧ Below w5.heap.size w5 Y → Calls Tryz.prog 26 #[.int .i64 (a : Int)] Y fun e w' => e = .returned (.string (txt sa)) ∧ (w'.cell? ⟨g, k * 3, none⟩ = some (.int .i64 (a : Int)) ∧ w'.cell? ⟨g, k * 3 + 1, none⟩ = some (.int .i64 (d : Int)) ∧ w'.cell? ⟨g, k * 3 + 2, none⟩ = some (.int .i64 (o : Int))) ∧ Below w5.heap.size w5 w') := hide fun Y hY => (HDG.out a (by omega) sa hsa.out Y).mono fun e w' h => ⟨h.1, unhide HSC _ (hY.2.trans (h.2.mono hY.2.size))⟩
            have D2 : Hid (∀ Y, (Y.cell? ⟨g, k * 3, none⟩ = some (.int .i64 (a : Int)) ∧ Y.cell? ⟨g, k * 3 + 1, none⟩ = some (.int .i64 (d : Int)) ∧ Y.cell? ⟨g, k * 3 + 2, none⟩ = some (.int .i64 (o : Int))) ∧ Below w5.heap.size w5 Y → Calls Tryz.prog 26 #[.int .i64 (d : Int)] Y fun e w' => e = .returned (.string (txt sd)) ∧ (w'.cell? ⟨g, k * 3, none⟩ = some (.int .i64 (a : Int)) ∧ w'.cell? ⟨g, k * 3 + 1, none⟩ = some (.int .i64 (d : Int)) ∧ w'.cell? ⟨g, k * 3 + 2, none⟩ = some (.int .i64 (o : Int))) ∧ Below w5.heap.size w5 w') := hide fun Y hY => (HDG.out d (by omega) sd hsd.out Y).mono fun e w' h => ⟨h.1, unhide HSC _ (hY.2.trans (h.2.mono hY.2.size))⟩
            have D3 : Hid (∀ Y, (Y.cell? ⟨g, k * 3, none⟩ = some (.int .i64 (a : Int)) ∧ Y.cell? ⟨g, k * 3 + 1, none⟩ = some (.int .i64 (d : Int)) ∧ Y.cell? ⟨g, k * 3 + 2, none⟩ = some (.int .i64 (o : Int))) ∧ Below w5.heap.size w5 Y → Calls Tryz.prog 26 #[.int .i64 (o : Int)] Y fun e w' => e = .returned (.string (txt so)) ∧ (w'.cell? ⟨g, k * 3, none⟩ = some (.int .i64 (a : Int)) ∧ w'.cell? ⟨g, k * 3 + 1, none⟩ = some (.int .i64 (d : Int)) ∧ w'.cell? ⟨g, k * 3 + 2, none⟩ = some (.int .i64 (o : Int))) ∧ Below w5.heap.size w5 w') := hide fun Y hY => (HDG.out o (by omega) so hso.out Y).mono fun e w' h => ⟨h.1, unhide HSC _ (hY.2.trans (h.2.mono hY.2.size))⟩
            have l8 : ¬ 9223372036854775807 < sa.length + 1 := by omega
            have l16 : ¬ 9223372036854775807 < sa.length + 1 + sd.length := by omega
            have l17 : ¬ 9223372036854775807 < sa.length + 1 + sd.length + 1 := by omega
            have l24 : ¬ 9223372036854775807 < sa.length + 1 + sd.length + 1 + so.length := by omega
            have l21 : ¬ 9223372036854775807 < s0.length + 2 := by omega
            have l25 : ¬ 9223372036854775807 < s0.length + (sa.length + 1 + sd.length + 1 + so.length) := by omega
            have l26 : ¬ 9223372036854775807 < s0.length + 2 + (sa.length + 1 + sd.length + 1 + so.length) := by omega
            have t1 : (k : Int) < (tr.length : Int) := by omega
            have t2 : (0 : Int) ≤ (k : Int) := by omega
            have t3 : decide ((k : Int) < (tr.length : Int)) = true := decide_eq_true t1
            clear hcm hs0 hsa hsd hso l0 la ld lo HLN HSM HDG hcap hg1 hg2 hk
            obtain ⟨bz, hbz⟩ : ∃ b, decide ((0 : Int) < (k : Int)) = b := ⟨_, rfl⟩
            cases bz
            · have HT := hide (HT0.out (by have := of_decide_eq_false hbz; omega))
              have n0 : ¬ 0 < k := by have := of_decide_eq_false hbz; omega
              clear HT0 HTk
              go_wp2_with fail
              refine wp_region_held_drew (S := fun Y => (Y.cell? ⟨g, k * 3, none⟩ = some (.int .i64 (a : Int)) ∧ Y.cell? ⟨g, k * 3 + 1, none⟩ = some (.int .i64 (d : Int)) ∧ Y.cell? ⟨g, k * 3 + 2, none⟩ = some (.int .i64 (o : Int))) ∧ Below w5.heap.size w5 Y) (by kernel_rfl) (unhide HSC _ (HB5.out.drew)) (fun hHeld => ?_)
              refine wpAnyH_take (i := 0) (oi := _) (v := .string (txt s0)) rfl (by kernel_rfl) (by kernel_rfl) (by kernel_rfl) (fun _ _ _ h => h) (Or.inl ⟨by rfl, fun w _ => by go_simp⟩) hHeld ?_
              simp only [Act.put, List.getElem_toArray, List.getElem_cons_zero, List.setIfInBounds_toArray, List.set_cons_succ, List.set_cons_zero]
              refine wpAnyH_take (i := 1) (oi := _) (v := .slice (some ⟨g, 0, none⟩) tr.length tc) rfl (by kernel_rfl) (by kernel_rfl) (by kernel_rfl) (fun _ _ _ h => h) (Or.inl ⟨by rfl, fun w _ => by go_simp⟩) hHeld ?_
              simp only [Act.put, List.getElem_toArray, List.getElem_cons_succ, List.getElem_cons_zero, List.setIfInBounds_toArray, List.set_cons_succ, List.set_cons_zero]
              refine wpAnyH_take (i := 2) (oi := _) (v := .int .i64 (k : Int)) rfl (by kernel_rfl) (by kernel_rfl) (by kernel_rfl) (fun _ _ _ h => h) (Or.inl ⟨by rfl, fun w _ => by go_simp⟩) hHeld ?_
              simp only [Act.put, List.getElem_toArray, List.getElem_cons_succ, List.getElem_cons_zero, List.setIfInBounds_toArray, List.set_cons_succ, List.set_cons_zero]
              refine wpAnyH_take (i := 3) (oi := _) (v := .pointer (some ⟨g, k * 3, none⟩)) rfl (by kernel_rfl) (by kernel_rfl) (by kernel_rfl) (fun _ _ _ h => h) (Or.inl ⟨by rfl, fun w _ => by go_simp⟩) hHeld ?_
              simp only [Act.put, List.getElem_toArray, List.getElem_cons_succ, List.getElem_cons_zero, List.setIfInBounds_toArray, List.set_cons_succ, List.set_cons_zero]
              refine wpAnyH_take (i := 4) (oi := _) (v := .pointer (some ⟨g, k * 3, none⟩)) rfl (by kernel_rfl) (by kernel_rfl) (by kernel_rfl) (fun _ _ _ h => h) (Or.inl ⟨by rfl, fun w _ => by go_simp⟩) hHeld ?_
              simp only [Act.put, List.getElem_toArray, List.getElem_cons_succ, List.getElem_cons_zero, List.setIfInBounds_toArray, List.set_cons_succ, List.set_cons_zero]
              refine wpAnyH_take (i := 5) (oi := _) (v := .pointer (some ⟨g, k * 3, none⟩)) rfl (by kernel_rfl) (by kernel_rfl) (by kernel_rfl) (fun _ _ _ h => h) (Or.inl ⟨by rfl, fun w _ => by go_simp⟩) hHeld ?_
              simp only [Act.put, List.getElem_toArray, List.getElem_cons_succ, List.getElem_cons_zero, List.setIfInBounds_toArray, List.set_cons_succ, List.set_cons_zero]
              refine wpAnyH_take (i := 6) (oi := _) (v := .int .i64 (a : Int)) rfl (by kernel_rfl) (by kernel_rfl) (by kernel_rfl) (fun _ _ _ h => h) (Or.inl ⟨by rfl, fun w h => by obtain ⟨⟨h1, h2, h3⟩, _⟩ := h; go_simp⟩) hHeld ?_
              simp only [Act.put, List.getElem_toArray, List.getElem_cons_succ, List.getElem_cons_zero, List.setIfInBounds_toArray, List.set_cons_succ, List.set_cons_zero]
              refine wpAnyH_take (i := 9) (oi := _) (v := .slice (some ⟨g, 0, none⟩) tr.length tc) rfl (by kernel_rfl) (by kernel_rfl) (by kernel_rfl) (fun _ _ _ h => h) (Or.inl ⟨by rfl, fun w _ => by go_simp⟩) hHeld ?_
              simp only [Act.put, List.getElem_toArray, List.getElem_cons_succ, List.getElem_cons_zero, List.setIfInBounds_toArray, List.set_cons_succ, List.set_cons_zero]
              refine wpAnyH_take (i := 10) (oi := _) (v := .int .i64 (k : Int)) rfl (by kernel_rfl) (by kernel_rfl) (by kernel_rfl) (fun _ _ _ h => h) (Or.inl ⟨by rfl, fun w _ => by go_simp⟩) hHeld ?_
              simp only [Act.put, List.getElem_toArray, List.getElem_cons_succ, List.getElem_cons_zero, List.setIfInBounds_toArray, List.set_cons_succ, List.set_cons_zero]
              refine wpAnyH_take (i := 11) (oi := _) (v := .pointer (some ⟨g, k * 3, none⟩)) rfl (by kernel_rfl) (by kernel_rfl) (by kernel_rfl) (fun _ _ _ h => h) (Or.inl ⟨by rfl, fun w _ => by go_simp⟩) hHeld ?_
              simp only [Act.put, List.getElem_toArray, List.getElem_cons_succ, List.getElem_cons_zero, List.setIfInBounds_toArray, List.set_cons_succ, List.set_cons_zero]
              refine wpAnyH_take (i := 12) (oi := _) (v := .pointer (some ⟨g, k * 3, none⟩)) rfl (by kernel_rfl) (by kernel_rfl) (by kernel_rfl) (fun _ _ _ h => h) (Or.inl ⟨by rfl, fun w _ => by go_simp⟩) hHeld ?_
              simp only [Act.put, List.getElem_toArray, List.getElem_cons_succ, List.getElem_cons_zero, List.setIfInBounds_toArray, List.set_cons_succ, List.set_cons_zero]
              refine wpAnyH_take (i := 13) (oi := _) (v := .pointer (some ⟨g, k * 3 + 1, none⟩)) rfl (by kernel_rfl) (by kernel_rfl) (by kernel_rfl) (fun _ _ _ h => h) (Or.inl ⟨by rfl, fun w _ => by go_simp⟩) hHeld ?_
              simp only [Act.put, List.getElem_toArray, List.getElem_cons_succ, List.getElem_cons_zero, List.setIfInBounds_toArray, List.set_cons_succ, List.set_cons_zero]
              refine wpAnyH_take (i := 14) (oi := _) (v := .int .i64 (d : Int)) rfl (by kernel_rfl) (by kernel_rfl) (by kernel_rfl) (fun _ _ _ h => h) (Or.inl ⟨by rfl, fun w h => by obtain ⟨⟨h1, h2, h3⟩, _⟩ := h; go_simp⟩) hHeld ?_
              simp only [Act.put, List.getElem_toArray, List.getElem_cons_succ, List.getElem_cons_zero, List.setIfInBounds_toArray, List.set_cons_succ, List.set_cons_zero]
              refine wpAnyH_take (i := 18) (oi := _) (v := .slice (some ⟨g, 0, none⟩) tr.length tc) rfl (by kernel_rfl) (by kernel_rfl) (by kernel_rfl) (fun _ _ _ h => h) (Or.inl ⟨by rfl, fun w _ => by go_simp⟩) hHeld ?_
              simp only [Act.put, List.getElem_toArray, List.getElem_cons_succ, List.getElem_cons_zero, List.setIfInBounds_toArray, List.set_cons_succ, List.set_cons_zero]
              refine wpAnyH_take (i := 19) (oi := _) (v := .int .i64 (k : Int)) rfl (by kernel_rfl) (by kernel_rfl) (by kernel_rfl) (fun _ _ _ h => h) (Or.inl ⟨by rfl, fun w _ => by go_simp⟩) hHeld ?_
              simp only [Act.put, List.getElem_toArray, List.getElem_cons_succ, List.getElem_cons_zero, List.setIfInBounds_toArray, List.set_cons_succ, List.set_cons_zero]
              refine wpAnyH_take (i := 20) (oi := _) (v := .pointer (some ⟨g, k * 3, none⟩)) rfl (by kernel_rfl) (by kernel_rfl) (by kernel_rfl) (fun _ _ _ h => h) (Or.inl ⟨by rfl, fun w _ => by go_simp⟩) hHeld ?_
              simp only [Act.put, List.getElem_toArray, List.getElem_cons_succ, List.getElem_cons_zero, List.setIfInBounds_toArray, List.set_cons_succ, List.set_cons_zero]
              refine wpAnyH_take (i := 21) (oi := _) (v := .pointer (some ⟨g, k * 3 + 2, none⟩)) rfl (by kernel_rfl) (by kernel_rfl) (by kernel_rfl) (fun _ _ _ h => h) (Or.inl ⟨by rfl, fun w _ => by go_simp⟩) hHeld ?_
              simp only [Act.put, List.getElem_toArray, List.getElem_cons_succ, List.getElem_cons_zero, List.setIfInBounds_toArray, List.set_cons_succ, List.set_cons_zero]
              refine wpAnyH_take (i := 22) (oi := _) (v := .int .i64 (o : Int)) rfl (by kernel_rfl) (by kernel_rfl) (by kernel_rfl) (fun _ _ _ h => h) (Or.inl ⟨by rfl, fun w h => by obtain ⟨⟨h1, h2, h3⟩, _⟩ := h; go_simp⟩) hHeld ?_
              simp only [Act.put, List.getElem_toArray, List.getElem_cons_succ, List.getElem_cons_zero, List.setIfInBounds_toArray, List.set_cons_succ, List.set_cons_zero]
              refine wpAnyH_ready (rs := [7]) (by kernel_rfl) (by simp) ?_
              refine AllReadyH.cons (o := _) rfl (fun K hK => ?_) AllReadyH.nil
              rw [if_pos (by rfl)]
              go_simp
              go_at_call 26
              refine (D1.out _ hHeld).mono ?_
              rintro e w9 ⟨rfl, hS9⟩
              dsimp only
              refine hK.out _ _ hS9 (fun hHeld => ?_)
              clear hK K
              refine wpAnyH_take (i := 8) (oi := _) (v := .string (txt sa ++ ⟨#[32]⟩)) rfl (by kernel_rfl) (by kernel_rfl) (by kernel_rfl) (fun _ _ _ h => h) (Or.inl ⟨by rfl, fun w _ => by go_simp⟩) hHeld ?_
              simp only [Act.put, List.getElem_toArray, List.getElem_cons_succ, List.getElem_cons_zero, List.setIfInBounds_toArray, List.set_cons_succ, List.set_cons_zero]
              refine wpAnyH_ready (rs := [15]) (by kernel_rfl) (by simp) ?_
              refine AllReadyH.cons (o := _) rfl (fun K hK => ?_) AllReadyH.nil
              rw [if_pos (by rfl)]
              go_simp
              go_at_call 26
              refine (D2.out _ hHeld).mono ?_
              rintro e w9 ⟨rfl, hS9⟩
              dsimp only
              refine hK.out _ _ hS9 (fun hHeld => ?_)
              clear hK K
              refine wpAnyH_take (i := 16) (oi := _) (v := .string (txt sa ++ ⟨#[32]⟩ ++ txt sd)) rfl (by kernel_rfl) (by kernel_rfl) (by kernel_rfl) (fun _ _ _ h => h) (Or.inl ⟨by rfl, fun w _ => by go_simp⟩) hHeld ?_
              simp only [Act.put, List.getElem_toArray, List.getElem_cons_succ, List.getElem_cons_zero, List.setIfInBounds_toArray, List.set_cons_succ, List.set_cons_zero]
              refine wpAnyH_take (i := 17) (oi := _) (v := .string (txt sa ++ ⟨#[32]⟩ ++ txt sd ++ ⟨#[32]⟩)) rfl (by kernel_rfl) (by kernel_rfl) (by kernel_rfl) (fun _ _ _ h => h) (Or.inl ⟨by rfl, fun w _ => by go_simp⟩) hHeld ?_
              simp only [Act.put, List.getElem_toArray, List.getElem_cons_succ, List.getElem_cons_zero, List.setIfInBounds_toArray, List.set_cons_succ, List.set_cons_zero]
              refine wpAnyH_ready (rs := [23]) (by kernel_rfl) (by simp) ?_
              refine AllReadyH.cons (o := _) rfl (fun K hK => ?_) AllReadyH.nil
              rw [if_pos (by rfl)]
              go_simp
              go_at_call 26
              refine (D3.out _ hHeld).mono ?_
              rintro e w9 ⟨rfl, hS9⟩
              dsimp only
              refine hK.out _ _ hS9 (fun hHeld => ?_)
              clear hK K
              refine wpAnyH_take (i := 24) (oi := _) (v := .string (txt sa ++ ⟨#[32]⟩ ++ txt sd ++ ⟨#[32]⟩ ++ txt so)) rfl (by kernel_rfl) (by kernel_rfl) (by kernel_rfl) (fun _ _ _ h => h) (Or.inl ⟨by rfl, fun w _ => by go_simp⟩) hHeld ?_
              simp only [Act.put, List.getElem_toArray, List.getElem_cons_succ, List.getElem_cons_zero, List.setIfInBounds_toArray, List.set_cons_succ, List.set_cons_zero]
              refine wpAnyH_take (i := 25) (oi := _) (v := .string (txt s0 ++ (txt sa ++ ⟨#[32]⟩ ++ txt sd ++ ⟨#[32]⟩ ++ txt so))) rfl (by kernel_rfl) (by kernel_rfl) (by kernel_rfl) (fun _ _ _ h => h) (Or.inl ⟨by rfl, fun w _ => by go_simp⟩) hHeld ?_
              simp only [Act.put, List.getElem_toArray, List.getElem_cons_succ, List.getElem_cons_zero, List.setIfInBounds_toArray, List.set_cons_succ, List.set_cons_zero]
              refine wpAnyH_ready (rs := [26]) (by kernel_rfl) (by simp) ?_
              refine AllReadyH.cons (o := _) rfl (fun K hK => ?_) AllReadyH.nil
              rw [if_pos (by rfl)]
              go_simp
              refine hK.out _ _ hHeld (fun hHeld => ?_)
              clear hK K
              refine wpAnyH_done (by kernel_rfl) ?_ _
              have HL6 := hide hHeld.2
              clear hHeld HB5 D1 D2 D3 HSC
              go_wp2
              go_roundw
              case rel => exact ⟨k + 1, by omega, by go_num, by rw [HT.out], HL6.out⟩
              case measure => simp [intOf]; omega
            · have HT := hide (HTk.out (by have := of_decide_eq_true hbz; omega))
              have n0 : 0 < k := by have := of_decide_eq_true hbz; omega
              clear HT0 HTk
              go_wp2_with fail
              refine wp_region_held_drew (S := fun Y => (Y.cell? ⟨g, k * 3, none⟩ = some (.int .i64 (a : Int)) ∧ Y.cell? ⟨g, k * 3 + 1, none⟩ = some (.int .i64 (d : Int)) ∧ Y.cell? ⟨g, k * 3 + 2, none⟩ = some (.int .i64 (o : Int))) ∧ Below w5.heap.size w5 Y) (by kernel_rfl) (unhide HSC _ (HB5.out.drew)) (fun hHeld => ?_)
              refine wpAnyH_take (i := 0) (oi := _) (v := .string (txt s0 ++ ⟨#[44, 32]⟩)) rfl (by kernel_rfl) (by kernel_rfl) (by kernel_rfl) (fun _ _ _ h => h) (Or.inl ⟨by rfl, fun w _ => by go_simp⟩) hHeld ?_
              simp only [Act.put, List.getElem_toArray, List.getElem_cons_zero, List.setIfInBounds_toArray, List.set_cons_succ, List.set_cons_zero]
              refine wpAnyH_take (i := 1) (oi := _) (v := .slice (some ⟨g, 0, none⟩) tr.length tc) rfl (by kernel_rfl) (by kernel_rfl) (by kernel_rfl) (fun _ _ _ h => h) (Or.inl ⟨by rfl, fun w _ => by go_simp⟩) hHeld ?_
              simp only [Act.put, List.getElem_toArray, List.getElem_cons_succ, List.getElem_cons_zero, List.setIfInBounds_toArray, List.set_cons_succ, List.set_cons_zero]
              refine wpAnyH_take (i := 2) (oi := _) (v := .int .i64 (k : Int)) rfl (by kernel_rfl) (by kernel_rfl) (by kernel_rfl) (fun _ _ _ h => h) (Or.inl ⟨by rfl, fun w _ => by go_simp⟩) hHeld ?_
              simp only [Act.put, List.getElem_toArray, List.getElem_cons_succ, List.getElem_cons_zero, List.setIfInBounds_toArray, List.set_cons_succ, List.set_cons_zero]
              refine wpAnyH_take (i := 3) (oi := _) (v := .pointer (some ⟨g, k * 3, none⟩)) rfl (by kernel_rfl) (by kernel_rfl) (by kernel_rfl) (fun _ _ _ h => h) (Or.inl ⟨by rfl, fun w _ => by go_simp⟩) hHeld ?_
              simp only [Act.put, List.getElem_toArray, List.getElem_cons_succ, List.getElem_cons_zero, List.setIfInBounds_toArray, List.set_cons_succ, List.set_cons_zero]
              refine wpAnyH_take (i := 4) (oi := _) (v := .pointer (some ⟨g, k * 3, none⟩)) rfl (by kernel_rfl) (by kernel_rfl) (by kernel_rfl) (fun _ _ _ h => h) (Or.inl ⟨by rfl, fun w _ => by go_simp⟩) hHeld ?_
              simp only [Act.put, List.getElem_toArray, List.getElem_cons_succ, List.getElem_cons_zero, List.setIfInBounds_toArray, List.set_cons_succ, List.set_cons_zero]
              refine wpAnyH_take (i := 5) (oi := _) (v := .pointer (some ⟨g, k * 3, none⟩)) rfl (by kernel_rfl) (by kernel_rfl) (by kernel_rfl) (fun _ _ _ h => h) (Or.inl ⟨by rfl, fun w _ => by go_simp⟩) hHeld ?_
              simp only [Act.put, List.getElem_toArray, List.getElem_cons_succ, List.getElem_cons_zero, List.setIfInBounds_toArray, List.set_cons_succ, List.set_cons_zero]
              refine wpAnyH_take (i := 6) (oi := _) (v := .int .i64 (a : Int)) rfl (by kernel_rfl) (by kernel_rfl) (by kernel_rfl) (fun _ _ _ h => h) (Or.inl ⟨by rfl, fun w h => by obtain ⟨⟨h1, h2, h3⟩, _⟩ := h; go_simp⟩) hHeld ?_
              simp only [Act.put, List.getElem_toArray, List.getElem_cons_succ, List.getElem_cons_zero, List.setIfInBounds_toArray, List.set_cons_succ, List.set_cons_zero]
              refine wpAnyH_take (i := 9) (oi := _) (v := .slice (some ⟨g, 0, none⟩) tr.length tc) rfl (by kernel_rfl) (by kernel_rfl) (by kernel_rfl) (fun _ _ _ h => h) (Or.inl ⟨by rfl, fun w _ => by go_simp⟩) hHeld ?_
              simp only [Act.put, List.getElem_toArray, List.getElem_cons_succ, List.getElem_cons_zero, List.setIfInBounds_toArray, List.set_cons_succ, List.set_cons_zero]
              refine wpAnyH_take (i := 10) (oi := _) (v := .int .i64 (k : Int)) rfl (by kernel_rfl) (by kernel_rfl) (by kernel_rfl) (fun _ _ _ h => h) (Or.inl ⟨by rfl, fun w _ => by go_simp⟩) hHeld ?_
              simp only [Act.put, List.getElem_toArray, List.getElem_cons_succ, List.getElem_cons_zero, List.setIfInBounds_toArray, List.set_cons_succ, List.set_cons_zero]
              refine wpAnyH_take (i := 11) (oi := _) (v := .pointer (some ⟨g, k * 3, none⟩)) rfl (by kernel_rfl) (by kernel_rfl) (by kernel_rfl) (fun _ _ _ h => h) (Or.inl ⟨by rfl, fun w _ => by go_simp⟩) hHeld ?_
              simp only [Act.put, List.getElem_toArray, List.getElem_cons_succ, List.getElem_cons_zero, List.setIfInBounds_toArray, List.set_cons_succ, List.set_cons_zero]
              refine wpAnyH_take (i := 12) (oi := _) (v := .pointer (some ⟨g, k * 3, none⟩)) rfl (by kernel_rfl) (by kernel_rfl) (by kernel_rfl) (fun _ _ _ h => h) (Or.inl ⟨by rfl, fun w _ => by go_simp⟩) hHeld ?_
              simp only [Act.put, List.getElem_toArray, List.getElem_cons_succ, List.getElem_cons_zero, List.setIfInBounds_toArray, List.set_cons_succ, List.set_cons_zero]
              refine wpAnyH_take (i := 13) (oi := _) (v := .pointer (some ⟨g, k * 3 + 1, none⟩)) rfl (by kernel_rfl) (by kernel_rfl) (by kernel_rfl) (fun _ _ _ h => h) (Or.inl ⟨by rfl, fun w _ => by go_simp⟩) hHeld ?_
              simp only [Act.put, List.getElem_toArray, List.getElem_cons_succ, List.getElem_cons_zero, List.setIfInBounds_toArray, List.set_cons_succ, List.set_cons_zero]
              refine wpAnyH_take (i := 14) (oi := _) (v := .int .i64 (d : Int)) rfl (by kernel_rfl) (by kernel_rfl) (by kernel_rfl) (fun _ _ _ h => h) (Or.inl ⟨by rfl, fun w h => by obtain ⟨⟨h1, h2, h3⟩, _⟩ := h; go_simp⟩) hHeld ?_
              simp only [Act.put, List.getElem_toArray, List.getElem_cons_succ, List.getElem_cons_zero, List.setIfInBounds_toArray, List.set_cons_succ, List.set_cons_zero]
              refine wpAnyH_take (i := 18) (oi := _) (v := .slice (some ⟨g, 0, none⟩) tr.length tc) rfl (by kernel_rfl) (by kernel_rfl) (by kernel_rfl) (fun _ _ _ h => h) (Or.inl ⟨by rfl, fun w _ => by go_simp⟩) hHeld ?_
              simp only [Act.put, List.getElem_toArray, List.getElem_cons_succ, List.getElem_cons_zero, List.setIfInBounds_toArray, List.set_cons_succ, List.set_cons_zero]
              refine wpAnyH_take (i := 19) (oi := _) (v := .int .i64 (k : Int)) rfl (by kernel_rfl) (by kernel_rfl) (by kernel_rfl) (fun _ _ _ h => h) (Or.inl ⟨by rfl, fun w _ => by go_simp⟩) hHeld ?_
              simp only [Act.put, List.getElem_toArray, List.getElem_cons_succ, List.getElem_cons_zero, List.setIfInBounds_toArray, List.set_cons_succ, List.set_cons_zero]
              refine wpAnyH_take (i := 20) (oi := _) (v := .pointer (some ⟨g, k * 3, none⟩)) rfl (by kernel_rfl) (by kernel_rfl) (by kernel_rfl) (fun _ _ _ h => h) (Or.inl ⟨by rfl, fun w _ => by go_simp⟩) hHeld ?_
              simp only [Act.put, List.getElem_toArray, List.getElem_cons_succ, List.getElem_cons_zero, List.setIfInBounds_toArray, List.set_cons_succ, List.set_cons_zero]
              refine wpAnyH_take (i := 21) (oi := _) (v := .pointer (some ⟨g, k * 3 + 2, none⟩)) rfl (by kernel_rfl) (by kernel_rfl) (by kernel_rfl) (fun _ _ _ h => h) (Or.inl ⟨by rfl, fun w _ => by go_simp⟩) hHeld ?_
              simp only [Act.put, List.getElem_toArray, List.getElem_cons_succ, List.getElem_cons_zero, List.setIfInBounds_toArray, List.set_cons_succ, List.set_cons_zero]
              refine wpAnyH_take (i := 22) (oi := _) (v := .int .i64 (o : Int)) rfl (by kernel_rfl) (by kernel_rfl) (by kernel_rfl) (fun _ _ _ h => h) (Or.inl ⟨by rfl, fun w h => by obtain ⟨⟨h1, h2, h3⟩, _⟩ := h; go_simp⟩) hHeld ?_
              simp only [Act.put, List.getElem_toArray, List.getElem_cons_succ, List.getElem_cons_zero, List.setIfInBounds_toArray, List.set_cons_succ, List.set_cons_zero]
              refine wpAnyH_ready (rs := [7]) (by kernel_rfl) (by simp) ?_
              refine AllReadyH.cons (o := _) rfl (fun K hK => ?_) AllReadyH.nil
              rw [if_pos (by rfl)]
              go_simp
              go_at_call 26
              refine (D1.out _ hHeld).mono ?_
              rintro e w9 ⟨rfl, hS9⟩
              dsimp only
              refine hK.out _ _ hS9 (fun hHeld => ?_)
              clear hK K
              refine wpAnyH_take (i := 8) (oi := _) (v := .string (txt sa ++ ⟨#[32]⟩)) rfl (by kernel_rfl) (by kernel_rfl) (by kernel_rfl) (fun _ _ _ h => h) (Or.inl ⟨by rfl, fun w _ => by go_simp⟩) hHeld ?_
              simp only [Act.put, List.getElem_toArray, List.getElem_cons_succ, List.getElem_cons_zero, List.setIfInBounds_toArray, List.set_cons_succ, List.set_cons_zero]
              refine wpAnyH_ready (rs := [15]) (by kernel_rfl) (by simp) ?_
              refine AllReadyH.cons (o := _) rfl (fun K hK => ?_) AllReadyH.nil
              rw [if_pos (by rfl)]
              go_simp
              go_at_call 26
              refine (D2.out _ hHeld).mono ?_
              rintro e w9 ⟨rfl, hS9⟩
              dsimp only
              refine hK.out _ _ hS9 (fun hHeld => ?_)
              clear hK K
              refine wpAnyH_take (i := 16) (oi := _) (v := .string (txt sa ++ ⟨#[32]⟩ ++ txt sd)) rfl (by kernel_rfl) (by kernel_rfl) (by kernel_rfl) (fun _ _ _ h => h) (Or.inl ⟨by rfl, fun w _ => by go_simp⟩) hHeld ?_
              simp only [Act.put, List.getElem_toArray, List.getElem_cons_succ, List.getElem_cons_zero, List.setIfInBounds_toArray, List.set_cons_succ, List.set_cons_zero]
              refine wpAnyH_take (i := 17) (oi := _) (v := .string (txt sa ++ ⟨#[32]⟩ ++ txt sd ++ ⟨#[32]⟩)) rfl (by kernel_rfl) (by kernel_rfl) (by kernel_rfl) (fun _ _ _ h => h) (Or.inl ⟨by rfl, fun w _ => by go_simp⟩) hHeld ?_
              simp only [Act.put, List.getElem_toArray, List.getElem_cons_succ, List.getElem_cons_zero, List.setIfInBounds_toArray, List.set_cons_succ, List.set_cons_zero]
              refine wpAnyH_ready (rs := [23]) (by kernel_rfl) (by simp) ?_
              refine AllReadyH.cons (o := _) rfl (fun K hK => ?_) AllReadyH.nil
              rw [if_pos (by rfl)]
              go_simp
              go_at_call 26
              refine (D3.out _ hHeld).mono ?_
              rintro e w9 ⟨rfl, hS9⟩
              dsimp only
              refine hK.out _ _ hS9 (fun hHeld => ?_)
              clear hK K
              refine wpAnyH_take (i := 24) (oi := _) (v := .string (txt sa ++ ⟨#[32]⟩ ++ txt sd ++ ⟨#[32]⟩ ++ txt so)) rfl (by kernel_rfl) (by kernel_rfl) (by kernel_rfl) (fun _ _ _ h => h) (Or.inl ⟨by rfl, fun w _ => by go_simp⟩) hHeld ?_
              simp only [Act.put, List.getElem_toArray, List.getElem_cons_succ, List.getElem_cons_zero, List.setIfInBounds_toArray, List.set_cons_succ, List.set_cons_zero]
              refine wpAnyH_take (i := 25) (oi := _) (v := .string (txt s0 ++ ⟨#[44, 32]⟩ ++ (txt sa ++ ⟨#[32]⟩ ++ txt sd ++ ⟨#[32]⟩ ++ txt so))) rfl (by kernel_rfl) (by kernel_rfl) (by kernel_rfl) (fun _ _ _ h => h) (Or.inl ⟨by rfl, fun w _ => by go_simp⟩) hHeld ?_
              simp only [Act.put, List.getElem_toArray, List.getElem_cons_succ, List.getElem_cons_zero, List.setIfInBounds_toArray, List.set_cons_succ, List.set_cons_zero]
              refine wpAnyH_ready (rs := [26]) (by kernel_rfl) (by simp) ?_
              refine AllReadyH.cons (o := _) rfl (fun K hK => ?_) AllReadyH.nil
              rw [if_pos (by rfl)]
              go_simp
              refine hK.out _ _ hHeld (fun hHeld => ?_)
              clear hK K
              refine wpAnyH_done (by kernel_rfl) ?_ _
              have HL6 := hide hHeld.2
              clear hHeld HB5 D1 D2 D3 HSC
              go_wp2
              go_roundw
              case rel => exact ⟨k + 1, by omega, by go_num, by rw [HT.out], HL6.out⟩
              case measure => simp [intOf]; omega
          · have ek : k = tr.length := by omega
            subst ek
            have t3 : decide ((tr.length : Int) < (tr.length : Int)) = false := decide_eq_false (by omega)
            have lO := HLN.out tr.length
            rw [List.take_length] at lO ⊢
            obtain ⟨sO, hsO⟩ : ∃ s, Hid (traceF tr = s) := ⟨_, hide rfl⟩
            rw [hsO.out] at lO HSS ⊢
            have m1 : ¬ 9223372036854775807 < sT.length + 5 := by omega
            have m2 : ¬ 9223372036854775807 < sT.length + 5 + sr.length := by omega
            have m3 : ¬ 9223372036854775807 < sT.length + 5 + sr.length + 6 := by omega
            have m4 : ¬ 9223372036854775807 < 17 + sO.length := by omega
            have m5 : ¬ 9223372036854775807 < 17 + sO.length + 1 := by omega
            have HBw := hide (HB.out.trans (HB5.out.mono HB.out.size))
            clear hsO lO lT lr HLN HSM HTI HB HB5 hk hlt2 HDG HN hc16 hv8 hr8 h7 hfew
            go_wp2_with fail
            refine (DR.out _).mono ?_
            rintro e w7 ⟨rfl, hB7⟩
            have HB7 := hide (HBw.out.trans (hB7.mono HBw.out.size))
            clear hB7 HBw DR
            go_wp2_with fail
            refine (HSS.out _ HB7.out).mono ?_
            rintro e w8 ⟨rfl, hB8⟩
            have HB8 := hide (HB7.out.trans (hB8.mono HB7.out.size))
            clear hB8 HB7 HSS
            go_wp2
            go_ret
            exact ⟨rfl, HB8.out⟩
end Go.Proofs.YtaablbmgagiajabGreatDoor
