import Derived.Test.YtaablbmgagiajabGreatDoorGAP
import Derived.Deep.CutRange
import Derived.Great.BuildSlice
import Derived.Deep.RegionHeld3
import Derived.Test.YtaablbmgagiajabGreatDoorFrF
import Derived.OpenShut
import Derived.ChangeSame
import Derived.ChangeArms
import Derived.WideShapes
import Derived.Test.YtaablbmgagiajabGreatDoorGAN
import Derived.Deep.SlicePairs
/- The walk of DeskSees: what all three see is committed by a session as it is by a system. -/
namespace Go.Proofs.YtaablbmgagiajabGreatDoor
open Go.RowKit Go.Deep

set_option maxRecDepth 100000 in
set_option maxHeartbeats 4000000 in
theorem sees_true (x y z : Int) (w : World) (hn : HasNum w) (h7 : 7 ≤ w.heap.size) :
    Calls Tryz.prog 6 #[.agg #[.int .i64 x, .int .i64 y], .int .i64 z] w fun e w' => e = .returned (.bool true) ∧ Below w.heap.size w w' := by
  obtain ⟨W, hW⟩ : ∃ W, Hid (w.alloc (.cells #[.int .i64 x, .int .i64 y] 31) = W) := ⟨_, hide rfl⟩
  have hB0 : Below w.heap.size w W := by rw [← hW.out]; exact (Below.refl _ _).alloc (Nat.le_refl _) _
  have hbx : W.heap[w.heap.size]? = some (.cells #[.int .i64 x, .int .i64 y] 31 (0, 0)) := by rw [← hW.out]; exact blk_new _ _
  have HTK := hide (talks_any W (hn.below hB0) (Nat.le_trans h7 hB0.size))
  have HN := hide hn
  have HB0 := hide hB0
  have HX := hide hbx
  clear hn hB0 hbx
  go_enter Tryz.func6, Tryz.ntmps6
  go_wp2_with fail
  rw [hW.out]
  refine HTK.out.mono ?_
  rintro e w1 ⟨rfl, hB1⟩
  have HB1 := hide (HB0.out.trans (hB1.mono HB0.out.size))
  have HX1 := hide ((hB1.block _ (blk_lt HX.out)).trans HX.out)
  clear hB1 HTK
  obtain ⟨X, hX⟩ : ∃ X, Hid ((w1.alloc (.cells #[.int .i64 3, .int .i64 12, .int .i64 6] 3)).alloc (.cells #[.int .i64 4, .slice (some ⟨w1.heap.size, 0, none⟩) 3 3, .int .i64 2] 42) = X) := ⟨_, hide rfl⟩
  have HNW : Hid (Calls Tryz.prog 24 #[.agg #[.int .i64 4, .slice (some ⟨w1.heap.size, 0, none⟩) 3 3, .int .i64 2], .int .i64 10] X fun e w' => ∃ p, e = .returned (.tuple #[.pointer (some ⟨p, 0, none⟩), .nilIface]) ∧ Hid (LwAt w p x y (sy0 10) w')) := hide (by
    have hb1 : Below w1.heap.size w1 (w1.alloc (.cells #[.int .i64 3, .int .i64 12, .int .i64 6] 3)) := (Below.refl _ _).alloc (Nat.le_refl _) _
    have hsl := (isSl_new w1 [3, 12, 6] 3 rfl).2.2
    have hs1 : (w1.alloc (.cells #[.int .i64 3, .int .i64 12, .int .i64 6] 3)).heap.size = w1.heap.size + 1 := World.size_alloc _ _
    have hrow : Row (w1.alloc (.cells #[.int .i64 3, .int .i64 12, .int .i64 6] 3)) w1.heap.size 0 L0.zs := by
      rcases hsl with e | ⟨b, o, e1, _, hr⟩
      · cases e
      · simp only [Option.some.injEq, Addr.mk.injEq] at e1
        obtain ⟨rfl, rfl, _⟩ := e1
        exact hr
    generalize w1.alloc (.cells #[.int .i64 3, .int .i64 12, .int .i64 6] 3) = y1 at hb1 hs1 hrow hX
    have hb2 : Below y1.heap.size y1 X := by rw [← hX.out]; exact (Below.refl _ _).alloc (Nat.le_refl _) _
    have hB1X : Below w1.heap.size w1 X := hb1.trans (hb2.mono hb1.size)
    have hxl : w.heap.size < w1.heap.size := blk_lt HX1.out
    have hXs := hB1X.size
    have hy := hb2.size
    refine (synew_any X.heap.size L0 10 w1.heap.size 0 3 X L0_ok (by omega) (by omega) (by omega) (hrow.below (by omega) hb2) (Nat.le_refl _)).mono ?_
    rintro e w' ⟨⟨D, rfl, _, hS⟩, hB⟩
    have hBa : Below w1.heap.size w1 w' := hB1X.trans (hB.mono hXs)
    have hblk := (hBa.block _ hxl).trans HX1.out
    exact ⟨D.p, rfl, hide ⟨X.heap.size, D, rfl, hS, by omega, hB.size, HB1.out.trans (hBa.mono HB1.out.size), hblk⟩⟩)
  go_wp2_with fail
  rw [hX.out]
  refine HNW.out.mono ?_
  rintro e w2 ⟨p, rfl, HS2⟩
  clear HNW
  go_wp2_with fail
  obtain ⟨c, hc, hc16⟩ : ∃ c : Nat, Hid (pickF x 16 = (c : Int)) ∧ c < 16 := by
    have := pickF_in x 16 (by decide) (by decide)
    exact ⟨(pickF x 16).toNat, hide (by omega), by omega⟩
  obtain ⟨v, hv, hv8⟩ : ∃ c : Nat, Hid (pickF y 8 = (c : Int)) ∧ c < 8 := by
    have := pickF_in y 8 (by decide) (by decide)
    exact ⟨(pickF y 8).toNat, hide (by omega), by omega⟩
  obtain ⟨r, hr, hr8⟩ : ∃ c : Nat, Hid (pickF z 8 = (c : Int)) ∧ c < 8 := by
    have := pickF_in z 8 (by decide) (by decide)
    exact ⟨(pickF z 8).toNat, hide (by omega), by omega⟩
  have P1 : Hid (∀ Y, Calls Tryz.prog 25 #[.int .i64 x, .int .i64 16] Y fun e w' => e = .returned (.int .i64 (c : Int)) ∧ w' = Y) := hide fun Y => by rw [← hc.out]; exact pick_any x 16 Y (by decide) (by decide)
  have P2 : Hid (∀ Y, Calls Tryz.prog 25 #[.int .i64 y, .int .i64 8] Y fun e w' => e = .returned (.int .i64 (v : Int)) ∧ w' = Y) := hide fun Y => by rw [← hv.out]; exact pick_any y 8 Y (by decide) (by decide)
  have P3 : Hid (∀ Y, Calls Tryz.prog 25 #[.int .i64 z, .int .i64 8] Y fun e w' => e = .returned (.int .i64 (r : Int)) ∧ w' = Y) := hide fun Y => by rw [← hr.out]; exact pick_any z 8 Y (by decide) (by decide)
  have HV := hide HS2.out.drew
  go_cut [1] from 28 to 36 (fun s1 wc => s1 = .int .i64 (r : Int) ∧ LwAt w p (c : Int) (v : Int) (sy0 10) wc)
  case first =>
    refine wp_region_held_drew (S := fun _ => True) (by kernel_rfl) trivial (fun hHeld => ?_)
    generalize w2.drew = V at HV ⊢
    obtain ⟨i0, i1⟩ := HV.out.cells
    obtain ⟨z0, z1⟩ := HV.out.free
    refine wpAnyH_take (i := 0) (oi := _) (v := .pointer (some ⟨w.heap.size, 0, none⟩)) rfl (by kernel_rfl) (by kernel_rfl) (by kernel_rfl) (fun _ _ _ h => h) (Or.inl ⟨by rfl, fun w _ => by go_simp⟩) hHeld ?_
    simp only [Act.put, List.getElem_toArray, List.getElem_cons_zero, List.setIfInBounds_toArray, List.set_cons_succ, List.set_cons_zero]
    refine wpAnyH_take (i := 3) (oi := _) (v := .pointer (some ⟨w.heap.size, 1, none⟩)) rfl (by kernel_rfl) (by kernel_rfl) (by kernel_rfl) (fun _ _ _ h => h) (Or.inl ⟨by rfl, fun w _ => by go_simp⟩) hHeld ?_
    simp only [Act.put, List.getElem_toArray, List.getElem_cons_succ, List.getElem_cons_zero, List.setIfInBounds_toArray, List.set_cons_succ, List.set_cons_zero]
    refine wpAnyH_take (i := 7) (oi := _) (v := .int .i64 z) rfl (by kernel_rfl) (by kernel_rfl) (by kernel_rfl) (fun _ _ _ h => h) (Or.inl ⟨by rfl, fun w _ => by go_simp⟩) hHeld ?_
    simp only [Act.put, List.getElem_toArray, List.getElem_cons_succ, List.getElem_cons_zero, List.setIfInBounds_toArray, List.set_cons_succ, List.set_cons_zero]
    refine wpAnyH_ready (rs := [1, 4]) (by kernel_rfl) (by simp) ?_
    refine AllReadyH.cons (o := _) rfl (fun K hK => ?_) (AllReadyH.cons (o := _) rfl (fun K hK => ?_) AllReadyH.nil)
    · rw [if_pos (by rfl)]
      go_simp
      refine hK.out _ _ trivial (fun hHeld => ?_)
      clear hK K
      refine wpAnyH_ready (rs := [2, 4]) (by kernel_rfl) (by simp) ?_
      refine AllReadyH.cons (o := _) rfl (fun K hK => ?_) (AllReadyH.cons (o := _) rfl (fun K hK => ?_) AllReadyH.nil)
      · rw [if_pos (by rfl)]
        go_simp
        go_at_call 25
        refine (P1.out _).mono ?_
        rintro e w9 ⟨rfl, rfl⟩
        dsimp only
        refine hK.out _ _ trivial (fun hHeld => ?_)
        clear hK K
        refine wpAnyH_ready (rs := [4]) (by kernel_rfl) (by simp) ?_
        refine AllReadyH.cons (o := _) rfl (fun K hK => ?_) AllReadyH.nil
        rw [if_pos (by rfl)]
        go_simp
        refine hK.out _ _ trivial (fun hHeld => ?_)
        clear hK K
        refine wpAnyH_ready (rs := [5]) (by kernel_rfl) (by simp) ?_
        refine AllReadyH.cons (o := _) rfl (fun K hK => ?_) AllReadyH.nil
        rw [if_pos (by rfl)]
        go_simp
        go_at_call 25
        refine (P2.out _).mono ?_
        rintro e w9 ⟨rfl, rfl⟩
        dsimp only
        refine hK.out _ _ trivial (fun hHeld => ?_)
        clear hK K
        refine wpAnyH_take (i := 6) (oi := _) (v := .agg #[.int .i64 (c : Int), .int .i64 (v : Int)]) rfl (by kernel_rfl) (by kernel_rfl) (by kernel_rfl) (fun _ _ _ h => h) (Or.inl ⟨by rfl, fun w _ => by go_simp⟩) hHeld ?_
        simp only [Act.put, List.getElem_toArray, List.getElem_cons_succ, List.getElem_cons_zero, List.setIfInBounds_toArray, List.set_cons_succ, List.set_cons_zero]
        refine wpAnyH_ready (rs := [8]) (by kernel_rfl) (by simp) ?_
        refine AllReadyH.cons (o := _) rfl (fun K hK => ?_) AllReadyH.nil
        rw [if_pos (by rfl)]
        go_simp
        go_at_call 25
        refine (P3.out _).mono ?_
        rintro e w9 ⟨rfl, rfl⟩
        dsimp only
        refine hK.out _ _ trivial (fun hHeld => ?_)
        clear hK K
        refine wpAnyH_ready (rs := [9]) (by kernel_rfl) (by simp) ?_
        refine AllReadyH.cons (o := _) rfl (fun K hK => ?_) AllReadyH.nil
        rw [if_pos (by rfl)]
        go_simp
        refine hK.out _ _ trivial (fun hHeld => ?_)
        clear hK K
        refine wpAnyH_ready (rs := [10]) (by kernel_rfl) (by simp) ?_
        refine AllReadyH.cons (o := _) rfl (fun K hK => ?_) AllReadyH.nil
        rw [if_pos (by rfl)]
        go_simp
        refine hK.out _ _ trivial (fun hHeld => ?_)
        clear hK K
        refine wpAnyH_done (by kernel_rfl) ?_ _
        go_wp2_with fail
        go_meet
        exact ⟨rfl, HV.out.put rfl (c : Int) (v : Int)⟩
      · rw [if_pos (by rfl)]
        go_simp
        refine hK.out _ _ trivial (fun hHeld => ?_)
        clear hK K
        refine wpAnyH_ready (rs := [2]) (by kernel_rfl) (by simp) ?_
        refine AllReadyH.cons (o := _) rfl (fun K hK => ?_) AllReadyH.nil
        rw [if_pos (by rfl)]
        go_simp
        go_at_call 25
        refine (P1.out _).mono ?_
        rintro e w9 ⟨rfl, rfl⟩
        dsimp only
        refine hK.out _ _ trivial (fun hHeld => ?_)
        clear hK K
        refine wpAnyH_ready (rs := [5]) (by kernel_rfl) (by simp) ?_
        refine AllReadyH.cons (o := _) rfl (fun K hK => ?_) AllReadyH.nil
        rw [if_pos (by rfl)]
        go_simp
        go_at_call 25
        refine (P2.out _).mono ?_
        rintro e w9 ⟨rfl, rfl⟩
        dsimp only
        refine hK.out _ _ trivial (fun hHeld => ?_)
        clear hK K
        refine wpAnyH_take (i := 6) (oi := _) (v := .agg #[.int .i64 (c : Int), .int .i64 (v : Int)]) rfl (by kernel_rfl) (by kernel_rfl) (by kernel_rfl) (fun _ _ _ h => h) (Or.inl ⟨by rfl, fun w _ => by go_simp⟩) hHeld ?_
        simp only [Act.put, List.getElem_toArray, List.getElem_cons_succ, List.getElem_cons_zero, List.setIfInBounds_toArray, List.set_cons_succ, List.set_cons_zero]
        refine wpAnyH_ready (rs := [8]) (by kernel_rfl) (by simp) ?_
        refine AllReadyH.cons (o := _) rfl (fun K hK => ?_) AllReadyH.nil
        rw [if_pos (by rfl)]
        go_simp
        go_at_call 25
        refine (P3.out _).mono ?_
        rintro e w9 ⟨rfl, rfl⟩
        dsimp only
        refine hK.out _ _ trivial (fun hHeld => ?_)
        clear hK K
        refine wpAnyH_ready (rs := [9]) (by kernel_rfl) (by simp) ?_
        refine AllReadyH.cons (o := _) rfl (fun K hK => ?_) AllReadyH.nil
        rw [if_pos (by rfl)]
        go_simp
        refine hK.out _ _ trivial (fun hHeld => ?_)
        clear hK K
        refine wpAnyH_ready (rs := [10]) (by kernel_rfl) (by simp) ?_
        refine AllReadyH.cons (o := _) rfl (fun K hK => ?_) AllReadyH.nil
        rw [if_pos (by rfl)]
        go_simp
        refine hK.out _ _ trivial (fun hHeld => ?_)
        clear hK K
        refine wpAnyH_done (by kernel_rfl) ?_ _
        go_wp2_with fail
        go_meet
        exact ⟨rfl, HV.out.put rfl (c : Int) (v : Int)⟩
    · rw [if_pos (by rfl)]
      go_simp
      refine hK.out _ _ trivial (fun hHeld => ?_)
      clear hK K
      refine wpAnyH_ready (rs := [1]) (by kernel_rfl) (by simp) ?_
      refine AllReadyH.cons (o := _) rfl (fun K hK => ?_) AllReadyH.nil
      rw [if_pos (by rfl)]
      go_simp
      refine hK.out _ _ trivial (fun hHeld => ?_)
      clear hK K
      refine wpAnyH_ready (rs := [2]) (by kernel_rfl) (by simp) ?_
      refine AllReadyH.cons (o := _) rfl (fun K hK => ?_) AllReadyH.nil
      rw [if_pos (by rfl)]
      go_simp
      go_at_call 25
      refine (P1.out _).mono ?_
      rintro e w9 ⟨rfl, rfl⟩
      dsimp only
      refine hK.out _ _ trivial (fun hHeld => ?_)
      clear hK K
      refine wpAnyH_ready (rs := [5]) (by kernel_rfl) (by simp) ?_
      refine AllReadyH.cons (o := _) rfl (fun K hK => ?_) AllReadyH.nil
      rw [if_pos (by rfl)]
      go_simp
      go_at_call 25
      refine (P2.out _).mono ?_
      rintro e w9 ⟨rfl, rfl⟩
      dsimp only
      refine hK.out _ _ trivial (fun hHeld => ?_)
      clear hK K
      refine wpAnyH_take (i := 6) (oi := _) (v := .agg #[.int .i64 (c : Int), .int .i64 (v : Int)]) rfl (by kernel_rfl) (by kernel_rfl) (by kernel_rfl) (fun _ _ _ h => h) (Or.inl ⟨by rfl, fun w _ => by go_simp⟩) hHeld ?_
      simp only [Act.put, List.getElem_toArray, List.getElem_cons_succ, List.getElem_cons_zero, List.setIfInBounds_toArray, List.set_cons_succ, List.set_cons_zero]
      refine wpAnyH_ready (rs := [8]) (by kernel_rfl) (by simp) ?_
      refine AllReadyH.cons (o := _) rfl (fun K hK => ?_) AllReadyH.nil
      rw [if_pos (by rfl)]
      go_simp
      go_at_call 25
      refine (P3.out _).mono ?_
      rintro e w9 ⟨rfl, rfl⟩
      dsimp only
      refine hK.out _ _ trivial (fun hHeld => ?_)
      clear hK K
      refine wpAnyH_ready (rs := [9]) (by kernel_rfl) (by simp) ?_
      refine AllReadyH.cons (o := _) rfl (fun K hK => ?_) AllReadyH.nil
      rw [if_pos (by rfl)]
      go_simp
      refine hK.out _ _ trivial (fun hHeld => ?_)
      clear hK K
      refine wpAnyH_ready (rs := [10]) (by kernel_rfl) (by simp) ?_
      refine AllReadyH.cons (o := _) rfl (fun K hK => ?_) AllReadyH.nil
      rw [if_pos (by rfl)]
      go_simp
      refine hK.out _ _ trivial (fun hHeld => ?_)
      clear hK K
      refine wpAnyH_done (by kernel_rfl) ?_ _
      go_wp2_with fail
      go_meet
      exact ⟨rfl, HV.out.put rfl (c : Int) (v : Int)⟩
  case rest =>
    obtain ⟨rfl, hL⟩ := hcut
    have HST : Hid (LwAt w p (c : Int) (v : Int) (seesSy c v 0) wc) := hide hL
    clear hL HV P1 P2 P3 HS2 hc hv hr HB1 HX1 hX HX HB0 hW
    have HDG : Hid (∀ (n : Nat), n < 16 → ∀ (s : List UInt8), Lib.itoa (n : Int) = s → ∀ Y, Calls Tryz.prog 26 #[.int .i64 (n : Int)] Y fun e w' => e = .returned (.string (txt s)) ∧ Below Y.heap.size Y w') := hide fun n hn s hs Y => by rw [← hs]; exact digits_any n hn Y
    go_wp2
    go_loopw [8, 9] (fun t i wr => ∃ k : Nat, k ≤ 3 ∧ i = .int .i64 k ∧ t = .string (txt (seesT c v k)) ∧ LwAt w p (c : Int) (v : Int) (seesSy c v k) wr) (fun _ i _ => 3 - (intOf i).toNat)
    case atStart => exact ⟨0, by omega, rfl, rfl, HST.out⟩
    case round =>
      obtain ⟨k, hk, rfl, rfl, hL⟩ := hrel
      clear HST
      by_cases hlt : k < 3
      · have t1 : (k : Int) < 3 := by omega
        obtain ⟨i0, i1⟩ := hL.cells
        have HC := hide (lw_see hL hlt (c : Int) (v : Int))
        have lT := seesT_len hc16 hv8 k (by omega)
        have lk := itoa_le (k := k) (by omega)
        have lc := itoa_le (k := c) (by omega)
        have lv := itoa_le (k := v) (by omega)
        have HT := hide (seesT_txt c v k)
        obtain ⟨sT, hsT⟩ : ∃ s, Hid (seesT c v k = s) := ⟨_, hide rfl⟩
        obtain ⟨sk, hsk⟩ : ∃ s, Hid (Lib.itoa (k : Int) = s) := ⟨_, hide rfl⟩
        obtain ⟨sc, hsc⟩ : ∃ s, Hid (Lib.itoa (c : Int) = s) := ⟨_, hide rfl⟩
        obtain ⟨sv, hsv⟩ : ∃ s, Hid (Lib.itoa (v : Int) = s) := ⟨_, hide rfl⟩
        rw [hsT.out] at lT HT ⊢
        rw [hsk.out] at lk HT
        rw [hsc.out] at lc HT
        rw [hsv.out] at lv HT
        have D1 : Hid (∀ Y, LwAt w p (c : Int) (v : Int) (seesSy c v (k + 1)) Y → Calls Tryz.prog 26 #[.int .i64 (k : Int)] Y fun e w' => e = .returned (.string (txt sk)) ∧ LwAt w p (c : Int) (v : Int) (seesSy c v (k + 1)) w') := hide fun Y hY => (HDG.out k (by omega) sk hsk.out Y).mono fun e w' h => ⟨h.1, hY.below h.2⟩
        have D2 : Hid (∀ Y, LwAt w p (c : Int) (v : Int) (seesSy c v (k + 1)) Y → Calls Tryz.prog 26 #[.int .i64 (c : Int)] Y fun e w' => e = .returned (.string (txt sc)) ∧ LwAt w p (c : Int) (v : Int) (seesSy c v (k + 1)) w') := hide fun Y hY => (HDG.out c (by omega) sc hsc.out Y).mono fun e w' h => ⟨h.1, hY.below h.2⟩
        have D3 : Hid (∀ Y, LwAt w p (c : Int) (v : Int) (seesSy c v (k + 1)) Y → Calls Tryz.prog 26 #[.int .i64 (v : Int)] Y fun e w' => e = .returned (.string (txt sv)) ∧ LwAt w p (c : Int) (v : Int) (seesSy c v (k + 1)) w') := hide fun Y hY => (HDG.out v (by omega) sv hsv.out Y).mono fun e w' h => ⟨h.1, hY.below h.2⟩
        have l3 : ¬ 9223372036854775807 < 4 + sk.length := by omega
        have l4 : ¬ 9223372036854775807 < 4 + sk.length + 1 := by omega
        have l8 : ¬ 9223372036854775807 < 4 + sk.length + 1 + sc.length := by omega
        have l9 : ¬ 9223372036854775807 < 4 + sk.length + 1 + sc.length + 1 := by omega
        have l13 : ¬ 9223372036854775807 < 4 + sk.length + 1 + sc.length + 1 + sv.length := by omega
        have l14 : ¬ 9223372036854775807 < 4 + sk.length + 1 + sc.length + 1 + sv.length + 1 := by omega
        have l15 : ¬ 9223372036854775807 < sT.length + (4 + sk.length + 1 + sc.length + 1 + sv.length + 1) := by omega
        clear hL hsk hsc hsv hsT lT lk lc lv HDG
        go_wp2_with fail
        refine HC.out.mono ?_
        rintro e w3 ⟨rfl, hL3⟩
        have HL3 : Hid (LwAt w p (c : Int) (v : Int) (seesSy c v (k + 1)) w3) := hide hL3
        clear hL3 HC i0 i1
        go_wp2_with fail
        refine wp_region_held_drew (S := fun Y => LwAt w p (c : Int) (v : Int) (seesSy c v (k + 1)) Y) (by kernel_rfl) HL3.out.drew (fun hHeld => ?_)
        refine wpAnyH_take (i := 0) (oi := _) (v := .string (txt sT)) rfl (by kernel_rfl) (by kernel_rfl) (by kernel_rfl) (fun _ _ _ h => h) (Or.inl ⟨by rfl, fun w _ => by go_simp⟩) hHeld ?_
        simp only [Act.put, List.getElem_toArray, List.getElem_cons_zero, List.setIfInBounds_toArray, List.set_cons_succ, List.set_cons_zero]
        refine wpAnyH_take (i := 1) (oi := _) (v := .int .i64 (k : Int)) rfl (by kernel_rfl) (by kernel_rfl) (by kernel_rfl) (fun _ _ _ h => h) (Or.inl ⟨by rfl, fun w _ => by go_simp⟩) hHeld ?_
        simp only [Act.put, List.getElem_toArray, List.getElem_cons_succ, List.getElem_cons_zero, List.setIfInBounds_toArray, List.set_cons_succ, List.set_cons_zero]
        refine wpAnyH_take (i := 5) (oi := _) (v := .pointer (some ⟨w.heap.size, 0, none⟩)) rfl (by kernel_rfl) (by kernel_rfl) (by kernel_rfl) (fun _ _ _ h => h) (Or.inl ⟨by rfl, fun w _ => by go_simp⟩) hHeld ?_
        simp only [Act.put, List.getElem_toArray, List.getElem_cons_succ, List.getElem_cons_zero, List.setIfInBounds_toArray, List.set_cons_succ, List.set_cons_zero]
        refine wpAnyH_take (i := 6) (oi := _) (v := .int .i64 (c : Int)) rfl (by kernel_rfl) (by kernel_rfl) (by kernel_rfl) (fun _ _ _ h => h) (Or.inl ⟨by rfl, fun w h => by obtain ⟨h1, h2⟩ := LwAt.cells h; go_simp⟩) hHeld ?_
        simp only [Act.put, List.getElem_toArray, List.getElem_cons_succ, List.getElem_cons_zero, List.setIfInBounds_toArray, List.set_cons_succ, List.set_cons_zero]
        refine wpAnyH_take (i := 10) (oi := _) (v := .pointer (some ⟨w.heap.size, 1, none⟩)) rfl (by kernel_rfl) (by kernel_rfl) (by kernel_rfl) (fun _ _ _ h => h) (Or.inl ⟨by rfl, fun w _ => by go_simp⟩) hHeld ?_
        simp only [Act.put, List.getElem_toArray, List.getElem_cons_succ, List.getElem_cons_zero, List.setIfInBounds_toArray, List.set_cons_succ, List.set_cons_zero]
        refine wpAnyH_take (i := 11) (oi := _) (v := .int .i64 (v : Int)) rfl (by kernel_rfl) (by kernel_rfl) (by kernel_rfl) (fun _ _ _ h => h) (Or.inl ⟨by rfl, fun w h => by obtain ⟨h1, h2⟩ := LwAt.cells h; go_simp⟩) hHeld ?_
        simp only [Act.put, List.getElem_toArray, List.getElem_cons_succ, List.getElem_cons_zero, List.setIfInBounds_toArray, List.set_cons_succ, List.set_cons_zero]
        refine wpAnyH_ready (rs := [2]) (by kernel_rfl) (by simp) ?_
        refine AllReadyH.cons (o := _) rfl (fun K hK => ?_) AllReadyH.nil
        rw [if_pos (by rfl)]
        go_simp
        go_at_call 26
        refine (D1.out _ hHeld).mono ?_
        rintro e w9 ⟨rfl, hS9⟩
        dsimp only
        refine hK.out _ _ hS9 (fun hHeld => ?_)
        clear hK K
        refine wpAnyH_take (i := 3) (oi := _) (v := .string (⟨#[115, 101, 101, 32]⟩ ++ txt sk)) rfl (by kernel_rfl) (by kernel_rfl) (by kernel_rfl) (fun _ _ _ h => h) (Or.inl ⟨by rfl, fun w _ => by go_simp⟩) hHeld ?_
        simp only [Act.put, List.getElem_toArray, List.getElem_cons_succ, List.getElem_cons_zero, List.setIfInBounds_toArray, List.set_cons_succ, List.set_cons_zero]
        refine wpAnyH_take (i := 4) (oi := _) (v := .string (⟨#[115, 101, 101, 32]⟩ ++ txt sk ++ ⟨#[32]⟩)) rfl (by kernel_rfl) (by kernel_rfl) (by kernel_rfl) (fun _ _ _ h => h) (Or.inl ⟨by rfl, fun w _ => by go_simp⟩) hHeld ?_
        simp only [Act.put, List.getElem_toArray, List.getElem_cons_succ, List.getElem_cons_zero, List.setIfInBounds_toArray, List.set_cons_succ, List.set_cons_zero]
        refine wpAnyH_ready (rs := [7]) (by kernel_rfl) (by simp) ?_
        refine AllReadyH.cons (o := _) rfl (fun K hK => ?_) AllReadyH.nil
        rw [if_pos (by rfl)]
        go_simp
        go_at_call 26
        refine (D2.out _ hHeld).mono ?_
        rintro e w9 ⟨rfl, hS9⟩
        dsimp only
        refine hK.out _ _ hS9 (fun hHeld => ?_)
        clear hK K
        refine wpAnyH_take (i := 8) (oi := _) (v := .string (⟨#[115, 101, 101, 32]⟩ ++ txt sk ++ ⟨#[32]⟩ ++ txt sc)) rfl (by kernel_rfl) (by kernel_rfl) (by kernel_rfl) (fun _ _ _ h => h) (Or.inl ⟨by rfl, fun w _ => by go_simp⟩) hHeld ?_
        simp only [Act.put, List.getElem_toArray, List.getElem_cons_succ, List.getElem_cons_zero, List.setIfInBounds_toArray, List.set_cons_succ, List.set_cons_zero]
        refine wpAnyH_take (i := 9) (oi := _) (v := .string (⟨#[115, 101, 101, 32]⟩ ++ txt sk ++ ⟨#[32]⟩ ++ txt sc ++ ⟨#[32]⟩)) rfl (by kernel_rfl) (by kernel_rfl) (by kernel_rfl) (fun _ _ _ h => h) (Or.inl ⟨by rfl, fun w _ => by go_simp⟩) hHeld ?_
        simp only [Act.put, List.getElem_toArray, List.getElem_cons_succ, List.getElem_cons_zero, List.setIfInBounds_toArray, List.set_cons_succ, List.set_cons_zero]
        refine wpAnyH_ready (rs := [12]) (by kernel_rfl) (by simp) ?_
        refine AllReadyH.cons (o := _) rfl (fun K hK => ?_) AllReadyH.nil
        rw [if_pos (by rfl)]
        go_simp
        go_at_call 26
        refine (D3.out _ hHeld).mono ?_
        rintro e w9 ⟨rfl, hS9⟩
        dsimp only
        refine hK.out _ _ hS9 (fun hHeld => ?_)
        clear hK K
        refine wpAnyH_take (i := 13) (oi := _) (v := .string (⟨#[115, 101, 101, 32]⟩ ++ txt sk ++ ⟨#[32]⟩ ++ txt sc ++ ⟨#[32]⟩ ++ txt sv)) rfl (by kernel_rfl) (by kernel_rfl) (by kernel_rfl) (fun _ _ _ h => h) (Or.inl ⟨by rfl, fun w _ => by go_simp⟩) hHeld ?_
        simp only [Act.put, List.getElem_toArray, List.getElem_cons_succ, List.getElem_cons_zero, List.setIfInBounds_toArray, List.set_cons_succ, List.set_cons_zero]
        refine wpAnyH_take (i := 14) (oi := _) (v := .string (⟨#[115, 101, 101, 32]⟩ ++ txt sk ++ ⟨#[32]⟩ ++ txt sc ++ ⟨#[32]⟩ ++ txt sv ++ ⟨#[10]⟩)) rfl (by kernel_rfl) (by kernel_rfl) (by kernel_rfl) (fun _ _ _ h => h) (Or.inl ⟨by rfl, fun w _ => by go_simp⟩) hHeld ?_
        simp only [Act.put, List.getElem_toArray, List.getElem_cons_succ, List.getElem_cons_zero, List.setIfInBounds_toArray, List.set_cons_succ, List.set_cons_zero]
        refine wpAnyH_take (i := 15) (oi := _) (v := .string (txt sT ++ (⟨#[115, 101, 101, 32]⟩ ++ txt sk ++ ⟨#[32]⟩ ++ txt sc ++ ⟨#[32]⟩ ++ txt sv ++ ⟨#[10]⟩))) rfl (by kernel_rfl) (by kernel_rfl) (by kernel_rfl) (fun _ _ _ h => h) (Or.inl ⟨by rfl, fun w _ => by go_simp⟩) hHeld ?_
        simp only [Act.put, List.getElem_toArray, List.getElem_cons_succ, List.getElem_cons_zero, List.setIfInBounds_toArray, List.set_cons_succ, List.set_cons_zero]
        refine wpAnyH_ready (rs := [16]) (by kernel_rfl) (by simp) ?_
        refine AllReadyH.cons (o := _) rfl (fun K hK => ?_) AllReadyH.nil
        rw [if_pos (by rfl)]
        go_simp
        refine hK.out _ _ hHeld (fun hHeld => ?_)
        clear hK K
        refine wpAnyH_done (by kernel_rfl) ?_ _
        have HL4 := hide hHeld
        clear hHeld HL3 D1 D2 D3
        go_wp2
        go_roundw
        case rel => exact ⟨k + 1, by omega, by go_num, by rw [HT.out], HL4.out⟩
        case measure => simp [intOf]; omega
      · have e3 : k = 3 := by omega
        subst e3
        have HC := hide (lw_calm hL (InS.sees c v 3 (by omega)) r (by omega) (by omega))
        have HTX := hide (t1_txt c v r)
        have lT := seesT_len hc16 hv8 3 (by omega)
        have lr := itoa_le (k := r) (by omega)
        obtain ⟨sT, hsT⟩ : ∃ s, Hid (seesT c v 3 = s) := ⟨_, hide rfl⟩
        obtain ⟨sr, hsr⟩ : ∃ s, Hid (Lib.itoa (r : Int) = s) := ⟨_, hide rfl⟩
        rw [hsT.out] at HTX lT ⊢
        rw [hsr.out] at HTX lr
        have DR := hide (HDG.out r (by omega) sr hsr.out)
        clear hL hsT hsr hlt hk
        go_wp2_with fail
        refine HC.out.mono ?_
        rintro e w4 ⟨rfl, Z, hcalm, hIZ, hL4⟩
        have HTR := hide (lw_trace hL4 hIZ)
        have HSS : Hid (∀ Y, Below w.heap.size w Y → Calls Tryz.prog 23 #[.string (txt sT ++ ⟨#[99, 97, 108, 109, 32]⟩ ++ txt sr ++ ⟨#[10, 116, 114, 97, 99, 101]⟩)] Y fun e w' => e = .returned (.string (⟨#[115, 101, 101, 10, 115, 101, 101, 10, 115, 101, 101, 10, 99, 97, 108, 109, 10]⟩ ++ txt (traceF Z.v.tr) ++ ⟨#[10]⟩)) ∧ Below Y.heap.size Y w') := hide fun Y hY => by
          rw [HTX.out, ← said_txt]
          exact sees_session hc16 hv8 hr8 hcalm Y (HN.out.below hY) (Nat.le_trans h7 hY.size)
        have HSM := hide hIZ.small
        have HLN := hide hIZ.takeLen
        have hfew := hIZ.few.1
        have HO4 := hide hL4.old
        clear hL4 hIZ hcalm HC HTX
        obtain ⟨tr, htr⟩ : ∃ tr, Z.v.tr = tr := ⟨_, rfl⟩
        rw [htr] at HTR HSS HSM HLN hfew
        clear htr
        go_wp2_with fail
        go_at_call 13
        refine HTR.out.mono ?_
        rintro e w5 ⟨⟨tv, rfl, hTI⟩, hB5⟩
        obtain ⟨ta, tc, rfl⟩ := hTI.shape
        have HTI := hide hTI
        have HB := hide (HO4.out.trans (hB5.mono HO4.out.size))
        clear hTI hB5 HTR HO4
        go_wp2
        go_loopw [10, 12] (fun ov i wr => ∃ k : Nat, k ≤ tr.length ∧ i = .int .i64 k ∧ ov = .string (txt (traceF (tr.take k))) ∧ Below w5.heap.size w5 wr) (fun _ i _ => tr.length - (intOf i).toNat)
        case atStart => exact ⟨0, Nat.zero_le _, rfl, rfl, Below.refl _ _⟩
        case round =>
          obtain ⟨k, hk, rfl, rfl, hB⟩ := hrel
          have HB5 := hide hB
          clear hB
          by_cases hlt2 : k < tr.length
          · obtain ⟨g, cap, he, hg1, hg2, hcap⟩ := HTI.out.has (by omega)
            simp only [Value.slice.injEq] at he
            obtain ⟨rfl, _, rfl⟩ := he
            obtain ⟨a, d, o, ha, hd, ho, hcm⟩ := HSM.out k hlt2
            have HSC : Hid (∀ Y, Below w5.heap.size w5 Y → (Y.cell? ⟨g, k * 3, none⟩ = some (.int .i64 (a : Int)) ∧ Y.cell? ⟨g, k * 3 + 1, none⟩ = some (.int .i64 (d : Int)) ∧ Y.cell? ⟨g, k * 3 + 2, none⟩ = some (.int .i64 (o : Int))) ∧ Below w5.heap.size w5 Y) := hide fun Y hY => by
              have hr := (HTI.out.same (w' := Y) fun g' hg' => by cases hg'; exact hY.block _ hg2).range hlt2
              rw [hcm] at hr
              exact ⟨⟨hr 0 _ rfl, hr 1 _ rfl, hr 2 _ rfl⟩, hY⟩
            have l0 := HLN.out k
            have la := itoa_le (k := a) (by omega)
            have ld := itoa_le (k := d) (by omega)
            have lo := itoa_le (k := o) (by omega)
            have HT0 := hide fun h0 => trace_txt0 tr k hlt2 h0 hcm
            have HTk := hide fun h0 => trace_txt tr k hlt2 h0 hcm
            obtain ⟨s0, hs0⟩ : ∃ s, Hid (traceF (tr.take k) = s) := ⟨_, hide rfl⟩
            obtain ⟨sa, hsa⟩ : ∃ s, Hid (Lib.itoa (a : Int) = s) := ⟨_, hide rfl⟩
            obtain ⟨sd, hsd⟩ : ∃ s, Hid (Lib.itoa (d : Int) = s) := ⟨_, hide rfl⟩
            obtain ⟨so, hso⟩ : ∃ s, Hid (Lib.itoa (o : Int) = s) := ⟨_, hide rfl⟩
            rw [hs0.out] at l0 HT0 HTk ⊢
            rw [hsa.out] at la HT0 HTk
            rw [hsd.out] at ld HT0 HTk
            rw [hso.out] at lo HT0 HTk
            have D1 : Hid (∀ Y, (Y.cell? ⟨g, k * 3, none⟩ = some (.int .i64 (a : Int)) ∧ Y.cell? ⟨g, k * 3 + 1, none⟩ = some (.int .i64 (d : Int)) ∧ Y.cell? ⟨g, k * 3 + 2, none⟩ = some (.int .i64 (o : Int))) ∧ Below w5.heap.size w5 Y → Calls Tryz.prog 26 #[.int .i64 (a : Int)] Y fun e w' => e = .returned (.string (txt sa)) ∧ (w'.cell? ⟨g, k * 3, none⟩ = some (.int .i64 (a : Int)) ∧ w'.cell? ⟨g, k * 3 + 1, none⟩ = some (.int .i64 (d : Int)) ∧ w'.cell? ⟨g, k * 3 + 2, none⟩ = some (.int .i64 (o : Int))) ∧ Below w5.heap.size w5 w') := hide fun Y hY => (HDG.out a (by omega) sa hsa.out Y).mono fun e w' h => ⟨h.1, unhide HSC _ (hY.2.trans (h.2.mono hY.2.size))⟩
            have D2 : Hid (∀ Y, (Y.cell? ⟨g, k * 3, none⟩ = some (.int .i64 (a : Int)) ∧ Y.cell? ⟨g, k * 3 + 1, none⟩ = some (.int .i64 (d : Int)) ∧ Y.cell? ⟨g, k * 3 + 2, none⟩ = some (.int .i64 (o : Int))) ∧ Below w5.heap.size w5 Y → Calls Tryz.prog 26 #[.int .i64 (d : Int)] Y fun e w' => e = .returned (.string (txt sd)) ∧ (w'.cell? ⟨g, k * 3, none⟩ = some (.int .i64 (a : Int)) ∧ w'.cell? ⟨g, k * 3 + 1, none⟩ = some (.int .i64 (d : Int)) ∧ w'.cell? ⟨g, k * 3 + 2, none⟩ = some (.int .i64 (o : Int))) ∧ Below w5.heap.size w5 w') := hide fun Y hY => (HDG.out d (by omega) sd hsd.out Y).mono fun e w' h => ⟨h.1, unhide HSC _ (hY.2.trans (h.2.mono hY.2.size))⟩
            have D3 : Hid (∀ Y, (Y.cell? ⟨g, k * 3, none⟩ = some (.int .i64 (a : Int)) ∧ Y.cell? ⟨g, k * 3 + 1, none⟩ = some (.int .i64 (d : Int)) ∧ Y.cell? ⟨g, k * 3 + 2, none⟩ = some (.int .i64 (o : Int))) ∧ Below w5.heap.size w5 Y → Calls Tryz.prog 26 #[.int .i64 (o : Int)] Y fun e w' => e = .returned (.string (txt so)) ∧ (w'.cell? ⟨g, k * 3, none⟩ = some (.int .i64 (a : Int)) ∧ w'.cell? ⟨g, k * 3 + 1, none⟩ = some (.int .i64 (d : Int)) ∧ w'.cell? ⟨g, k * 3 + 2, none⟩ = some (.int .i64 (o : Int))) ∧ Below w5.heap.size w5 w') := hide fun Y hY => (HDG.out o (by omega) so hso.out Y).mono fun e w' h => ⟨h.1, unhide HSC _ (hY.2.trans (h.2.mono hY.2.size))⟩
            have l8 : ¬ 9223372036854775807 < sa.length + 1 := by omega
            have l16 : ¬ 9223372036854775807 < sa.length + 1 + sd.length := by omega
            have l17 : ¬ 9223372036854775807 < sa.length + 1 + sd.length + 1 := by omega
            have l24 : ¬ 9223372036854775807 < sa.length + 1 + sd.length + 1 + so.length := by omega
            have l21 : ¬ 9223372036854775807 < s0.length + 2 := by omega
            have l25 : ¬ 9223372036854775807 < s0.length + (sa.length + 1 + sd.length + 1 + so.length) := by omega
            have l26 : ¬ 9223372036854775807 < s0.length + 2 + (sa.length + 1 + sd.length + 1 + so.length) := by omega
            have t1 : (k : Int) < (tr.length : Int) := by omega
            have t2 : (0 : Int) ≤ (k : Int) := by omega
            have t3 : decide ((k : Int) < (tr.length : Int)) = true := decide_eq_true t1
            clear hcm hs0 hsa hsd hso l0 la ld lo HLN HSM HDG hcap hg1 hg2 hk
            obtain ⟨bz, hbz⟩ : ∃ b, decide ((0 : Int) < (k : Int)) = b := ⟨_, rfl⟩
            cases bz
            · have HT := hide (HT0.out (by have := of_decide_eq_false hbz; omega))
              have n0 : ¬ 0 < k := by have := of_decide_eq_false hbz; omega
              clear HT0 HTk
              go_wp2_with fail
              refine wp_region_held_drew (S := fun Y => (Y.cell? ⟨g, k * 3, none⟩ = some (.int .i64 (a : Int)) ∧ Y.cell? ⟨g, k * 3 + 1, none⟩ = some (.int .i64 (d : Int)) ∧ Y.cell? ⟨g, k * 3 + 2, none⟩ = some (.int .i64 (o : Int))) ∧ Below w5.heap.size w5 Y) (by kernel_rfl) (unhide HSC _ (HB5.out.drew)) (fun hHeld => ?_)
              refine wpAnyH_take (i := 0) (oi := _) (v := .string (txt s0)) rfl (by kernel_rfl) (by kernel_rfl) (by kernel_rfl) (fun _ _ _ h => h) (Or.inl ⟨by rfl, fun w _ => by go_simp⟩) hHeld ?_
              simp only [Act.put, List.getElem_toArray, List.getElem_cons_zero, List.setIfInBounds_toArray, List.set_cons_succ, List.set_cons_zero]
              refine wpAnyH_take (i := 1) (oi := _) (v := .slice (some ⟨g, 0, none⟩) tr.length tc) rfl (by kernel_rfl) (by kernel_rfl) (by kernel_rfl) (fun _ _ _ h => h) (Or.inl ⟨by rfl, fun w _ => by go_simp⟩) hHeld ?_
              simp only [Act.put, List.getElem_toArray, List.getElem_cons_succ, List.getElem_cons_zero, List.setIfInBounds_toArray, List.set_cons_succ, List.set_cons_zero]
              refine wpAnyH_take (i := 2) (oi := _) (v := .int .i64 (k : Int)) rfl (by kernel_rfl) (by kernel_rfl) (by kernel_rfl) (fun _ _ _ h => h) (Or.inl ⟨by rfl, fun w _ => by go_simp⟩) hHeld ?_
              simp only [Act.put, List.getElem_toArray, List.getElem_cons_succ, List.getElem_cons_zero, List.setIfInBounds_toArray, List.set_cons_succ, List.set_cons_zero]
              refine wpAnyH_take (i := 3) (oi := _) (v := .pointer (some ⟨g, k * 3, none⟩)) rfl (by kernel_rfl) (by kernel_rfl) (by kernel_rfl) (fun _ _ _ h => h) (Or.inl ⟨by rfl, fun w _ => by go_simp⟩) hHeld ?_
              simp only [Act.put, List.getElem_toArray, List.getElem_cons_succ, List.getElem_cons_zero, List.setIfInBounds_toArray, List.set_cons_succ, List.set_cons_zero]
              refine wpAnyH_take (i := 4) (oi := _) (v := .pointer (some ⟨g, k * 3, none⟩)) rfl (by kernel_rfl) (by kernel_rfl) (by kernel_rfl) (fun _ _ _ h => h) (Or.inl ⟨by rfl, fun w _ => by go_simp⟩) hHeld ?_
              simp only [Act.put, List.getElem_toArray, List.getElem_cons_succ, List.getElem_cons_zero, List.setIfInBounds_toArray, List.set_cons_succ, List.set_cons_zero]
              refine wpAnyH_take (i := 5) (oi := _) (v := .pointer (some ⟨g, k * 3, none⟩)) rfl (by kernel_rfl) (by kernel_rfl) (by kernel_rfl) (fun _ _ _ h => h) (Or.inl ⟨by rfl, fun w _ => by go_simp⟩) hHeld ?_
              simp only [Act.put, List.getElem_toArray, List.getElem_cons_succ, List.getElem_cons_zero, List.setIfInBounds_toArray, List.set_cons_succ, List.set_cons_zero]
              refine wpAnyH_take (i := 6) (oi := _) (v := .int .i64 (a : Int)) rfl (by kernel_rfl) (by kernel_rfl) (by kernel_rfl) (fun _ _ _ h => h) (Or.inl ⟨by rfl, fun w h => by obtain ⟨⟨h1, h2, h3⟩, _⟩ := h; go_simp⟩) hHeld ?_
              simp only [Act.put, List.getElem_toArray, List.getElem_cons_succ, List.getElem_cons_zero, List.setIfInBounds_toArray, List.set_cons_succ, List.set_cons_zero]
              refine wpAnyH_take (i := 9) (oi := _) (v := .slice (some ⟨g, 0, none⟩) tr.length tc) rfl (by kernel_rfl) (by kernel_rfl) (by kernel_rfl) (fun _ _ _ h => h) (Or.inl ⟨by rfl, fun w _ => by go_simp⟩) hHeld ?_
              simp only [Act.put, List.getElem_toArray, List.getElem_cons_succ, List.getElem_cons_zero, List.setIfInBounds_toArray, List.set_cons_succ, List.set_cons_zero]
              refine wpAnyH_take (i := 10) (oi := _) (v := .int .i64 (k : Int)) rfl (by kernel_rfl) (by kernel_rfl) (by kernel_rfl) (fun _ _ _ h => h) (Or.inl ⟨by rfl, fun w _ => by go_simp⟩) hHeld ?_
              simp only [Act.put, List.getElem_toArray, List.getElem_cons_succ, List.getElem_cons_zero, List.setIfInBounds_toArray, List.set_cons_succ, List.set_cons_zero]
              refine wpAnyH_take (i := 11) (oi := _) (v := .pointer (some ⟨g, k * 3, none⟩)) rfl (by kernel_rfl) (by kernel_rfl) (by kernel_rfl) (fun _ _ _ h => h) (Or.inl ⟨by rfl, fun w _ => by go_simp⟩) hHeld ?_
              simp only [Act.put, List.getElem_toArray, List.getElem_cons_succ, List.getElem_cons_zero, List.setIfInBounds_toArray, List.set_cons_succ, List.set_cons_zero]
              refine wpAnyH_take (i := 12) (oi := _) (v := .pointer (some ⟨g, k * 3, none⟩)) rfl (by kernel_rfl) (by kernel_rfl) (by kernel_rfl) (fun _ _ _ h => h) (Or.inl ⟨by rfl, fun w _ => by go_simp⟩) hHeld ?_
              simp only [Act.put, List.getElem_toArray, List.getElem_cons_succ, List.getElem_cons_zero, List.setIfInBounds_toArray, List.set_cons_succ, List.set_cons_zero]
              refine wpAnyH_take (i := 13) (oi := _) (v := .pointer (some ⟨g, k * 3 + 1, none⟩)) rfl (by kernel_rfl) (by kernel_rfl) (by kernel_rfl) (fun _ _ _ h => h) (Or.inl ⟨by rfl, fun w _ => by go_simp⟩) hHeld ?_
              simp only [Act.put, List.getElem_toArray, List.getElem_cons_succ, List.getElem_cons_zero, List.setIfInBounds_toArray, List.set_cons_succ, List.set_cons_zero]
              refine wpAnyH_take (i := 14) (oi := _) (v := .int .i64 (d : Int)) rfl (by kernel_rfl) (by kernel_rfl) (by kernel_rfl) (fun _ _ _ h => h) (Or.inl ⟨by rfl, fun w h => by obtain ⟨⟨h1, h2, h3⟩, _⟩ := h; go_simp⟩) hHeld ?_
              simp only [Act.put, List.getElem_toArray, List.getElem_cons_succ, List.getElem_cons_zero, List.setIfInBounds_toArray, List.set_cons_succ, List.set_cons_zero]
              refine wpAnyH_take (i := 18) (oi := _) (v := .slice (some ⟨g, 0, none⟩) tr.length tc) rfl (by kernel_rfl) (by kernel_rfl) (by kernel_rfl) (fun _ _ _ h => h) (Or.inl ⟨by rfl, fun w _ => by go_simp⟩) hHeld ?_
              simp only [Act.put, List.getElem_toArray, List.getElem_cons_succ, List.getElem_cons_zero, List.setIfInBounds_toArray, List.set_cons_succ, List.set_cons_zero]
              refine wpAnyH_take (i := 19) (oi := _) (v := .int .i64 (k : Int)) rfl (by kernel_rfl) (by kernel_rfl) (by kernel_rfl) (fun _ _ _ h => h) (Or.inl ⟨by rfl, fun w _ => by go_simp⟩) hHeld ?_
              simp only [Act.put, List.getElem_toArray, List.getElem_cons_succ, List.getElem_cons_zero, List.setIfInBounds_toArray, List.set_cons_succ, List.set_cons_zero]
              refine wpAnyH_take (i := 20) (oi := _) (v := .pointer (some ⟨g, k * 3, none⟩)) rfl (by kernel_rfl) (by kernel_rfl) (by kernel_rfl) (fun _ _ _ h => h) (Or.inl ⟨by rfl, fun w _ => by go_simp⟩) hHeld ?_
              simp only [Act.put, List.getElem_toArray, List.getElem_cons_succ, List.getElem_cons_zero, List.setIfInBounds_toArray, List.set_cons_succ, List.set_cons_zero]
              refine wpAnyH_take (i := 21) (oi := _) (v := .pointer (some ⟨g, k * 3 + 2, none⟩)) rfl (by kernel_rfl) (by kernel_rfl) (by kernel_rfl) (fun _ _ _ h => h) (Or.inl ⟨by rfl, fun w _ => by go_simp⟩) hHeld ?_
              simp only [Act.put, List.getElem_toArray, List.getElem_cons_succ, List.getElem_cons_zero, List.setIfInBounds_toArray, List.set_cons_succ, List.set_cons_zero]
              refine wpAnyH_take (i := 22) (oi := _) (v := .int .i64 (o : Int)) rfl (by kernel_rfl) (by kernel_rfl) (by kernel_rfl) (fun _ _ _ h => h) (Or.inl ⟨by rfl, fun w h => by obtain ⟨⟨h1, h2, h3⟩, _⟩ := h; go_simp⟩) hHeld ?_
              simp only [Act.put, List.getElem_toArray, List.getElem_cons_succ, List.getElem_cons_zero, List.setIfInBounds_toArray, List.set_cons_succ, List.set_cons_zero]
              refine wpAnyH_ready (rs := [7]) (by kernel_rfl) (by simp) ?_
              refine AllReadyH.cons (o := _) rfl (fun K hK => ?_) AllReadyH.nil
              rw [if_pos (by rfl)]
              go_simp
              go_at_call 26
              refine (D1.out _ hHeld).mono ?_
              rintro e w9 ⟨rfl, hS9⟩
              dsimp only
              refine hK.out _ _ hS9 (fun hHeld => ?_)
              clear hK K
              refine wpAnyH_take (i := 8) (oi := _) (v := .string (txt sa ++ ⟨#[32]⟩)) rfl (by kernel_rfl) (by kernel_rfl) (by kernel_rfl) (fun _ _ _ h => h) (Or.inl ⟨by rfl, fun w _ => by go_simp⟩) hHeld ?_
              simp only [Act.put, List.getElem_toArray, List.getElem_cons_succ, List.getElem_cons_zero, List.setIfInBounds_toArray, List.set_cons_succ, List.set_cons_zero]
              refine wpAnyH_ready (rs := [15]) (by kernel_rfl) (by simp) ?_
              refine AllReadyH.cons (o := _) rfl (fun K hK => ?_) AllReadyH.nil
              rw [if_pos (by rfl)]
              go_simp
              go_at_call 26
              refine (D2.out _ hHeld).mono ?_
              rintro e w9 ⟨rfl, hS9⟩
              dsimp only
              refine hK.out _ _ hS9 (fun hHeld => ?_)
              clear hK K
              refine wpAnyH_take (i := 16) (oi := _) (v := .string (txt sa ++ ⟨#[32]⟩ ++ txt sd)) rfl (by kernel_rfl) (by kernel_rfl) (by kernel_rfl) (fun _ _ _ h => h) (Or.inl ⟨by rfl, fun w _ => by go_simp⟩) hHeld ?_
              simp only [Act.put, List.getElem_toArray, List.getElem_cons_succ, List.getElem_cons_zero, List.setIfInBounds_toArray, List.set_cons_succ, List.set_cons_zero]
              refine wpAnyH_take (i := 17) (oi := _) (v := .string (txt sa ++ ⟨#[32]⟩ ++ txt sd ++ ⟨#[32]⟩)) rfl (by kernel_rfl) (by kernel_rfl) (by kernel_rfl) (fun _ _ _ h => h) (Or.inl ⟨by rfl, fun w _ => by go_simp⟩) hHeld ?_
              simp only [Act.put, List.getElem_toArray, List.getElem_cons_succ, List.getElem_cons_zero, List.setIfInBounds_toArray, List.set_cons_succ, List.set_cons_zero]
              refine wpAnyH_ready (rs := [23]) (by kernel_rfl) (by simp) ?_
              refine AllReadyH.cons (o := _) rfl (fun K hK => ?_) AllReadyH.nil
              rw [if_pos (by rfl)]
              go_simp
              go_at_call 26
              refine (D3.out _ hHeld).mono ?_
              rintro e w9 ⟨rfl, hS9⟩
              dsimp only
              refine hK.out _ _ hS9 (fun hHeld => ?_)
              clear hK K
              refine wpAnyH_take (i := 24) (oi := _) (v := .string (txt sa ++ ⟨#[32]⟩ ++ txt sd ++ ⟨#[32]⟩ ++ txt so)) rfl (by kernel_rfl) (by kernel_rfl) (by kernel_rfl) (fun _ _ _ h => h) (Or.inl ⟨by rfl, fun w _ => by go_simp⟩) hHeld ?_
              simp only [Act.put, List.getElem_toArray, List.getElem_cons_succ, List.getElem_cons_zero, List.setIfInBounds_toArray, List.set_cons_succ, List.set_cons_zero]
              refine wpAnyH_take (i := 25) (oi := _) (v := .string (txt s0 ++ (txt sa ++ ⟨#[32]⟩ ++ txt sd ++ ⟨#[32]⟩ ++ txt so))) rfl (by kernel_rfl) (by kernel_rfl) (by kernel_rfl) (fun _ _ _ h => h) (Or.inl ⟨by rfl, fun w _ => by go_simp⟩) hHeld ?_
              simp only [Act.put, List.getElem_toArray, List.getElem_cons_succ, List.getElem_cons_zero, List.setIfInBounds_toArray, List.set_cons_succ, List.set_cons_zero]
              refine wpAnyH_ready (rs := [26]) (by kernel_rfl) (by simp) ?_
              refine AllReadyH.cons (o := _) rfl (fun K hK => ?_) AllReadyH.nil
              rw [if_pos (by rfl)]
              go_simp
              refine hK.out _ _ hHeld (fun hHeld => ?_)
              clear hK K
              refine wpAnyH_done (by kernel_rfl) ?_ _
              have HL6 := hide hHeld.2
              clear hHeld HB5 D1 D2 D3 HSC
              go_wp2
              go_roundw
              case rel => exact ⟨k + 1, by omega, by go_num, by rw [HT.out], HL6.out⟩
              case measure => simp [intOf]; omega
            · have HT := hide (HTk.out (by have := of_decide_eq_true hbz; omega))
              have n0 : 0 < k := by have := of_decide_eq_true hbz; omega
              clear HT0 HTk
              go_wp2_with fail
              refine wp_region_held_drew (S := fun Y => (Y.cell? ⟨g, k * 3, none⟩ = some (.int .i64 (a : Int)) ∧ Y.cell? ⟨g, k * 3 + 1, none⟩ = some (.int .i64 (d : Int)) ∧ Y.cell? ⟨g, k * 3 + 2, none⟩ = some (.int .i64 (o : Int))) ∧ Below w5.heap.size w5 Y) (by kernel_rfl) (unhide HSC _ (HB5.out.drew)) (fun hHeld => ?_)
              refine wpAnyH_take (i := 0) (oi := _) (v := .string (txt s0 ++ ⟨#[44, 32]⟩)) rfl (by kernel_rfl) (by kernel_rfl) (by kernel_rfl) (fun _ _ _ h => h) (Or.inl ⟨by rfl, fun w _ => by go_simp⟩) hHeld ?_
              simp only [Act.put, List.getElem_toArray, List.getElem_cons_zero, List.setIfInBounds_toArray, List.set_cons_succ, List.set_cons_zero]
              refine wpAnyH_take (i := 1) (oi := _) (v := .slice (some ⟨g, 0, none⟩) tr.length tc) rfl (by kernel_rfl) (by kernel_rfl) (by kernel_rfl) (fun _ _ _ h => h) (Or.inl ⟨by rfl, fun w _ => by go_simp⟩) hHeld ?_
              simp only [Act.put, List.getElem_toArray, List.getElem_cons_succ, List.getElem_cons_zero, List.setIfInBounds_toArray, List.set_cons_succ, List.set_cons_zero]
              refine wpAnyH_take (i := 2) (oi := _) (v := .int .i64 (k : Int)) rfl (by kernel_rfl) (by kernel_rfl) (by kernel_rfl) (fun _ _ _ h => h) (Or.inl ⟨by rfl, fun w _ => by go_simp⟩) hHeld ?_
              simp only [Act.put, List.getElem_toArray, List.getElem_cons_succ, List.getElem_cons_zero, List.setIfInBounds_toArray, List.set_cons_succ, List.set_cons_zero]
              refine wpAnyH_take (i := 3) (oi := _) (v := .pointer (some ⟨g, k * 3, none⟩)) rfl (by kernel_rfl) (by kernel_rfl) (by kernel_rfl) (fun _ _ _ h => h) (Or.inl ⟨by rfl, fun w _ => by go_simp⟩) hHeld ?_
              simp only [Act.put, List.getElem_toArray, List.getElem_cons_succ, List.getElem_cons_zero, List.setIfInBounds_toArray, List.set_cons_succ, List.set_cons_zero]
              refine wpAnyH_take (i := 4) (oi := _) (v := .pointer (some ⟨g, k * 3, none⟩)) rfl (by kernel_rfl) (by kernel_rfl) (by kernel_rfl) (fun _ _ _ h => h) (Or.inl ⟨by rfl, fun w _ => by go_simp⟩) hHeld ?_
              simp only [Act.put, List.getElem_toArray, List.getElem_cons_succ, List.getElem_cons_zero, List.setIfInBounds_toArray, List.set_cons_succ, List.set_cons_zero]
              refine wpAnyH_take (i := 5) (oi := _) (v := .pointer (some ⟨g, k * 3, none⟩)) rfl (by kernel_rfl) (by kernel_rfl) (by kernel_rfl) (fun _ _ _ h => h) (Or.inl ⟨by rfl, fun w _ => by go_simp⟩) hHeld ?_
              simp only [Act.put, List.getElem_toArray, List.getElem_cons_succ, List.getElem_cons_zero, List.setIfInBounds_toArray, List.set_cons_succ, List.set_cons_zero]
              refine wpAnyH_take (i := 6) (oi := _) (v := .int .i64 (a : Int)) rfl (by kernel_rfl) (by kernel_rfl) (by kernel_rfl) (fun _ _ _ h => h) (Or.inl ⟨by rfl, fun w h => by obtain ⟨⟨h1, h2, h3⟩, _⟩ := h; go_simp⟩) hHeld ?_
              simp only [Act.put, List.getElem_toArray, List.getElem_cons_succ, List.getElem_cons_zero, List.setIfInBounds_toArray, List.set_cons_succ, List.set_cons_zero]
              refine wpAnyH_take (i := 9) (oi := _) (v := .slice (some ⟨g, 0, none⟩) tr.length tc) rfl (by kernel_rfl) (by kernel_rfl) (by kernel_rfl) (fun _ _ _ h => h) (Or.inl ⟨by rfl, fun w _ => by go_simp⟩) hHeld ?_
              simp only [Act.put, List.getElem_toArray, List.getElem_cons_succ, List.getElem_cons_zero, List.setIfInBounds_toArray, List.set_cons_succ, List.set_cons_zero]
              refine wpAnyH_take (i := 10) (oi := _) (v := .int .i64 (k : Int)) rfl (by kernel_rfl) (by kernel_rfl) (by kernel_rfl) (fun _ _ _ h => h) (Or.inl ⟨by rfl, fun w _ => by go_simp⟩) hHeld ?_
              simp only [Act.put, List.getElem_toArray, List.getElem_cons_succ, List.getElem_cons_zero, List.setIfInBounds_toArray, List.set_cons_succ, List.set_cons_zero]
              refine wpAnyH_take (i := 11) (oi := _) (v := .pointer (some ⟨g, k * 3, none⟩)) rfl (by kernel_rfl) (by kernel_rfl) (by kernel_rfl) (fun _ _ _ h => h) (Or.inl ⟨by rfl, fun w _ => by go_simp⟩) hHeld ?_
              simp only [Act.put, List.getElem_toArray, List.getElem_cons_succ, List.getElem_cons_zero, List.setIfInBounds_toArray, List.set_cons_succ, List.set_cons_zero]
              refine wpAnyH_take (i := 12) (oi := _) (v := .pointer (some ⟨g, k * 3, none⟩)) rfl (by kernel_rfl) (by kernel_rfl) (by kernel_rfl) (fun _ _ _ h => h) (Or.inl ⟨by rfl, fun w _ => by go_simp⟩) hHeld ?_
              simp only [Act.put, List.getElem_toArray, List.getElem_cons_succ, List.getElem_cons_zero, List.setIfInBounds_toArray, List.set_cons_succ, List.set_cons_zero]
              refine wpAnyH_take (i := 13) (oi := _) (v := .pointer (some ⟨g, k * 3 + 1, none⟩)) rfl (by kernel_rfl) (by kernel_rfl) (by kernel_rfl) (fun _ _ _ h => h) (Or.inl ⟨by rfl, fun w _ => by go_simp⟩) hHeld ?_
              simp only [Act.put, List.getElem_toArray, List.getElem_cons_succ, List.getElem_cons_zero, List.setIfInBounds_toArray, List.set_cons_succ, List.set_cons_zero]
              refine wpAnyH_take (i := 14) (oi := _) (v := .int .i64 (d : Int)) rfl (by kernel_rfl) (by kernel_rfl) (by kernel_rfl) (fun _ _ _ h => h) (Or.inl ⟨by rfl, fun w h => by obtain ⟨⟨h1, h2, h3⟩, _⟩ := h; go_simp⟩) hHeld ?_
              simp only [Act.put, List.getElem_toArray, List.getElem_cons_succ, List.getElem_cons_zero, List.setIfInBounds_toArray, List.set_cons_succ, List.set_cons_zero]
              refine wpAnyH_take (i := 18) (oi := _) (v := .slice (some ⟨g, 0, none⟩) tr.length tc) rfl (by kernel_rfl) (by kernel_rfl) (by kernel_rfl) (fun _ _ _ h => h) (Or.inl ⟨by rfl, fun w _ => by go_simp⟩) hHeld ?_
              simp only [Act.put, List.getElem_toArray, List.getElem_cons_succ, List.getElem_cons_zero, List.setIfInBounds_toArray, List.set_cons_succ, List.set_cons_zero]
              refine wpAnyH_take (i := 19) (oi := _) (v := .int .i64 (k : Int)) rfl (by kernel_rfl) (by kernel_rfl) (by kernel_rfl) (fun _ _ _ h => h) (Or.inl ⟨by rfl, fun w _ => by go_simp⟩) hHeld ?_
              simp only [Act.put, List.getElem_toArray, List.getElem_cons_succ, List.getElem_cons_zero, List.setIfInBounds_toArray, List.set_cons_succ, List.set_cons_zero]
              refine wpAnyH_take (i := 20) (oi := _) (v := .pointer (some ⟨g, k * 3, none⟩)) rfl (by kernel_rfl) (by kernel_rfl) (by kernel_rfl) (fun _ _ _ h => h) (Or.inl ⟨by rfl, fun w _ => by go_simp⟩) hHeld ?_
              simp only [Act.put, List.getElem_toArray, List.getElem_cons_succ, List.getElem_cons_zero, List.setIfInBounds_toArray, List.set_cons_succ, List.set_cons_zero]
              refine wpAnyH_take (i := 21) (oi := _) (v := .pointer (some ⟨g, k * 3 + 2, none⟩)) rfl (by kernel_rfl) (by kernel_rfl) (by kernel_rfl) (fun _ _ _ h => h) (Or.inl ⟨by rfl, fun w _ => by go_simp⟩) hHeld ?_
              simp only [Act.put, List.getElem_toArray, List.getElem_cons_succ, List.getElem_cons_zero, List.setIfInBounds_toArray, List.set_cons_succ, List.set_cons_zero]
              refine wpAnyH_take (i := 22) (oi := _) (v := .int .i64 (o : Int)) rfl (by kernel_rfl) (by kernel_rfl) (by kernel_rfl) (fun _ _ _ h => h) (Or.inl ⟨by rfl, fun w h => by obtain ⟨⟨h1, h2, h3⟩, _⟩ := h; go_simp⟩) hHeld ?_
              simp only [Act.put, List.getElem_toArray, List.getElem_cons_succ, List.getElem_cons_zero, List.setIfInBounds_toArray, List.set_cons_succ, List.set_cons_zero]
              refine wpAnyH_ready (rs := [7]) (by kernel_rfl) (by simp) ?_
              refine AllReadyH.cons (o := _) rfl (fun K hK => ?_) AllReadyH.nil
              rw [if_pos (by rfl)]
              go_simp
              go_at_call 26
              refine (D1.out _ hHeld).mono ?_
              rintro e w9 ⟨rfl, hS9⟩
              dsimp only
              refine hK.out _ _ hS9 (fun hHeld => ?_)
              clear hK K
              refine wpAnyH_take (i := 8) (oi := _) (v := .string (txt sa ++ ⟨#[32]⟩)) rfl (by kernel_rfl) (by kernel_rfl) (by kernel_rfl) (fun _ _ _ h => h) (Or.inl ⟨by rfl, fun w _ => by go_simp⟩) hHeld ?_
              simp only [Act.put, List.getElem_toArray, List.getElem_cons_succ, List.getElem_cons_zero, List.setIfInBounds_toArray, List.set_cons_succ, List.set_cons_zero]
              refine wpAnyH_ready (rs := [15]) (by kernel_rfl) (by simp) ?_
              refine AllReadyH.cons (o := _) rfl (fun K hK => ?_) AllReadyH.nil
              rw [if_pos (by rfl)]
              go_simp
              go_at_call 26
              refine (D2.out _ hHeld).mono ?_
              rintro e w9 ⟨rfl, hS9⟩
              dsimp only
              refine hK.out _ _ hS9 (fun hHeld => ?_)
              clear hK K
              refine wpAnyH_take (i := 16) (oi := _) (v := .string (txt sa ++ ⟨#[32]⟩ ++ txt sd)) rfl (by kernel_rfl) (by kernel_rfl) (by kernel_rfl) (fun _ _ _ h => h) (Or.inl ⟨by rfl, fun w _ => by go_simp⟩) hHeld ?_
              simp only [Act.put, List.getElem_toArray, List.getElem_cons_succ, List.getElem_cons_zero, List.setIfInBounds_toArray, List.set_cons_succ, List.set_cons_zero]
              refine wpAnyH_take (i := 17) (oi := _) (v := .string (txt sa ++ ⟨#[32]⟩ ++ txt sd ++ ⟨#[32]⟩)) rfl (by kernel_rfl) (by kernel_rfl) (by kernel_rfl) (fun _ _ _ h => h) (Or.inl ⟨by rfl, fun w _ => by go_simp⟩) hHeld ?_
              simp only [Act.put, List.getElem_toArray, List.getElem_cons_succ, List.getElem_cons_zero, List.setIfInBounds_toArray, List.set_cons_succ, List.set_cons_zero]
              refine wpAnyH_ready (rs := [23]) (by kernel_rfl) (by simp) ?_
              refine AllReadyH.cons (o := _) rfl (fun K hK => ?_) AllReadyH.nil
              rw [if_pos (by rfl)]
              go_simp
              go_at_call 26
              refine (D3.out _ hHeld).mono ?_
              rintro e w9 ⟨rfl, hS9⟩
              dsimp only
              refine hK.out _ _ hS9 (fun hHeld => ?_)
              clear hK K
              refine wpAnyH_take (i := 24) (oi := _) (v := .string (txt sa ++ ⟨#[32]⟩ ++ txt sd ++ ⟨#[32]⟩ ++ txt so)) rfl (by kernel_rfl) (by kernel_rfl) (by kernel_rfl) (fun _ _ _ h => h) (Or.inl ⟨by rfl, fun w _ => by go_simp⟩) hHeld ?_
              simp only [Act.put, List.getElem_toArray, List.getElem_cons_succ, List.getElem_cons_zero, List.setIfInBounds_toArray, List.set_cons_succ, List.set_cons_zero]
              refine wpAnyH_take (i := 25) (oi := _) (v := .string (txt s0 ++ ⟨#[44, 32]⟩ ++ (txt sa ++ ⟨#[32]⟩ ++ txt sd ++ ⟨#[32]⟩ ++ txt so))) rfl (by kernel_rfl) (by kernel_rfl) (by kernel_rfl) (fun _ _ _ h => h) (Or.inl ⟨by rfl, fun w _ => by go_simp⟩) hHeld ?_
              simp only [Act.put, List.getElem_toArray, List.getElem_cons_succ, List.getElem_cons_zero, List.setIfInBounds_toArray, List.set_cons_succ, List.set_cons_zero]
              refine wpAnyH_ready (rs := [26]) (by kernel_rfl) (by simp) ?_
              refine AllReadyH.cons (o := _) rfl (fun K hK => ?_) AllReadyH.nil
              rw [if_pos (by rfl)]
              go_simp
              refine hK.out _ _ hHeld (fun hHeld => ?_)
              clear hK K
              refine wpAnyH_done (by kernel_rfl) ?_ _
              have HL6 := hide hHeld.2
              clear hHeld HB5 D1 D2 D3 HSC
              go_wp2
              go_roundw
              case rel => exact ⟨k + 1, by omega, by go_num, by rw [HT.out], HL6.out⟩
              case measure => simp [intOf]; omega
          · have ek : k = tr.length := by omega
            subst ek
            have t3 : decide ((tr.length : Int) < (tr.length : Int)) = false := decide_eq_false (by omega)
            have lO := HLN.out tr.length
            rw [List.take_length] at lO ⊢
            obtain ⟨sO, hsO⟩ : ∃ s, Hid (traceF tr = s) := ⟨_, hide rfl⟩
            rw [hsO.out] at lO HSS ⊢
            have m1 : ¬ 9223372036854775807 < sT.length + 5 := by omega
            have m2 : ¬ 9223372036854775807 < sT.length + 5 + sr.length := by omega
            have m3 : ¬ 9223372036854775807 < sT.length + 5 + sr.length + 6 := by omega
            have m4 : ¬ 9223372036854775807 < 17 + sO.length := by omega
            have m5 : ¬ 9223372036854775807 < 17 + sO.length + 1 := by omega
            have HBw := hide (HB.out.trans (HB5.out.mono HB.out.size))
            clear hsO lO lT lr HLN HSM HTI HB HB5 hk hlt2 HDG HN hc16 hv8 hr8 h7 hfew
            go_wp2_with fail
            refine (DR.out _).mono ?_
            rintro e w7 ⟨rfl, hB7⟩
            have HB7 := hide (HBw.out.trans (hB7.mono HBw.out.size))
            clear hB7 HBw DR
            go_wp2_with fail
            refine (HSS.out _ HB7.out).mono ?_
            rintro e w8 ⟨rfl, hB8⟩
            have HB8 := hide (HB7.out.trans (hB8.mono HB7.out.size))
            clear hB8 HB7 HSS
            go_wp2
            go_ret
            exact ⟨rfl, HB8.out⟩
end Go.Proofs.YtaablbmgagiajabGreatDoor

/- A frame that is handed in is 23 numbers. -/
namespace Go.Proofs.YtaablbmgagiajabGreatDoor
open Go.ChangeShapes Go.WideShapes Go.RowKit

/-- The number that a list of cells holds at a place. -/
def numAt (cs : Array Value) (i : Nat) : Int :=
  match cs[i]? with
  | some (.int _ z) => z
  | _ => 0
theorem fOf_cells (cs : Array Value) (hs : cs.size = 23) (h : ∀ i, i < 23 → ∃ z : Int, cs[i]? = some (.int .i64 z)) : cs = fCells (numAt cs) := by
  apply Array.ext_getElem?
  intro i
  by_cases hi : i < 23
  · obtain ⟨z, hz⟩ := h i hi
    rw [fCells_at _ i hi, hz]
    unfold numAt
    rw [hz]
  · rw [Array.getElem?_eq_none (by omega), Array.getElem?_eq_none (by rw [fCells_size]; omega)]

theorem cut_mid (l : List Value) (a b k n : Nat) (hk : k + n ≤ b) : ((((l.drop a).take b).drop k).take n) = (l.drop (a + k)).take n := by
  rw [List.drop_take, List.drop_drop, List.take_take, show min n (b - k) = n by omega]

section
variable {H : Type} {enc : TypeId × Value → H} {W : World} {base : Nat} {spare : Nat → Bool} {held : Bool}
theorem one_at {cs : Array Value} {i : Nat} {z : Int} (h : (cs.toList.drop i).take 1 = [.int .i64 z]) : cs[i]? = some (.int .i64 z) := by
  have := congrArg (fun l => l[0]?) h
  simpa [List.getElem?_take, List.getElem?_drop] using this
theorem int_at {cs : Array Value} {fuel i : Nat} {y : DataW H × List MemPlace} (h : DataW.trod enc Tryz.prog W base spare held fuel 3 ((cs.toList.drop i).take 1) = some y) : ∃ z : Int, cs[i]? = some (.int .i64 z) := by
  obtain ⟨z, e, _, _⟩ := DataW.trod_int Tryz.underlying3 h
  exact ⟨z, one_at e⟩
theorem ints_at8 {cs : Array Value} {fuel i : Nat} {y : DataW H × List MemPlace} (h : DataW.trod enc Tryz.prog W base spare held fuel 32 ((cs.toList.drop i).take 8) = some y) (k : Nat) (hk : k < 8) : ∃ z : Int, cs[i + k]? = some (.int .i64 z) := by
  have c1 : Tryz.prog.cellsOf 3 = 1 := by kernel_rfl
  obtain ⟨ys, m, _, _, _, hy, hz⟩ := DataW.trod_array Tryz.underlying32 h
  have hk' := hz k (by omega)
  obtain ⟨y, hy'⟩ : ∃ y, ys[k]? = some y := ⟨_, List.getElem?_eq_getElem (by omega)⟩
  rw [hy', c1, Nat.mul_one, cut_mid _ _ _ _ _ (by omega)] at hk'
  exact int_at hk'
end

set_option maxRecDepth 10000 in
theorem open_frame {H : Type} {enc : TypeId × Value → H} {W : World} {base b0 : Nat} {spare : Nat → Bool} {held : Bool} {r : Reach} {v : Value} {d : DataW H} {p : List MemPlace} (hv : Value.okWide Tryz.prog W r b0 36 v)
    (h : DataW.Trod enc Tryz.prog W base spare held 36 v d p) : ∃ F : FR, v = .agg (fCells F) := by
  have c23 : Tryz.prog.cellsOf 36 = 23 := by kernel_rfl
  have c17 : Tryz.prog.cellsOf 34 = 17 := by kernel_rfl
  have c2 : Tryz.prog.cellsOf 31 = 2 := by kernel_rfl
  have c8 : Tryz.prog.cellsOf 32 = 8 := by kernel_rfl
  have c1 : Tryz.prog.cellsOf 3 = 1 := by kernel_rfl
  obtain ⟨cs, rfl, hsz⟩ := okWide_struct Tryz.underlying36 hv
  rw [c23] at hsz
  obtain ⟨fuel, hf⟩ := h
  obtain ⟨xs, n, _, _, _, hlen, hx⟩ := DataW.trod_struct Tryz.underlying36 hf
  have hl6 : xs.length = 6 := hlen
  obtain ⟨y0, y1, y2, y3, y4, y5, rfl⟩ := six hl6
  have h0 : DataW.trod enc Tryz.prog W base spare held n 3 ((cs.toList.drop 0).take (Tryz.prog.cellsOf 3)) = some y0 := hx 0 _ rfl
  have h1 : DataW.trod enc Tryz.prog W base spare held n 3 ((cs.toList.drop 1).take (Tryz.prog.cellsOf 3)) = some y1 := hx 1 _ rfl
  have h2 : DataW.trod enc Tryz.prog W base spare held n 3 ((cs.toList.drop 2).take (Tryz.prog.cellsOf 3)) = some y2 := hx 2 _ rfl
  have h3 : DataW.trod enc Tryz.prog W base spare held n 31 ((cs.toList.drop 3).take (Tryz.prog.cellsOf 31)) = some y3 := hx 3 _ rfl
  have h4 : DataW.trod enc Tryz.prog W base spare held n 3 ((cs.toList.drop 5).take (Tryz.prog.cellsOf 3)) = some y4 := hx 4 _ rfl
  have h5 : DataW.trod enc Tryz.prog W base spare held n 34 ((cs.toList.drop 6).take (Tryz.prog.cellsOf 34)) = some y5 := hx 5 _ rfl
  clear hx
  rw [c1] at h0 h1 h2 h4
  rw [c2] at h3
  rw [c17] at h5
  obtain ⟨xi, ni, _, _, _, hleni, hxi⟩ := DataW.trod_struct Tryz.underlying31 h3
  have hl2 : xi.length = 2 := hleni
  obtain ⟨i0, i1, rfl⟩ := two hl2
  have g0 : DataW.trod enc Tryz.prog W base spare held ni 3 ((((cs.toList.drop 3).take 2).drop 0).take (Tryz.prog.cellsOf 3)) = some i0 := hxi 0 _ rfl
  have g1 : DataW.trod enc Tryz.prog W base spare held ni 3 ((((cs.toList.drop 3).take 2).drop 1).take (Tryz.prog.cellsOf 3)) = some i1 := hxi 1 _ rfl
  rw [c1, cut_mid _ _ _ _ _ (by omega)] at g0 g1
  clear hxi
  obtain ⟨xt, nt, _, _, _, hlent, hxt⟩ := DataW.trod_struct Tryz.underlying34 h5
  have hl3 : xt.length = 3 := hlent
  obtain ⟨s0, s1, s2, rfl⟩ := three hl3
  have q0 : DataW.trod enc Tryz.prog W base spare held nt 3 ((((cs.toList.drop 6).take 17).drop 0).take (Tryz.prog.cellsOf 3)) = some s0 := hxt 0 _ rfl
  have q1 : DataW.trod enc Tryz.prog W base spare held nt 32 ((((cs.toList.drop 6).take 17).drop 1).take (Tryz.prog.cellsOf 32)) = some s1 := hxt 1 _ rfl
  have q2 : DataW.trod enc Tryz.prog W base spare held nt 32 ((((cs.toList.drop 6).take 17).drop 9).take (Tryz.prog.cellsOf 32)) = some s2 := hxt 2 _ rfl
  rw [c1, cut_mid _ _ _ _ _ (by omega)] at q0
  rw [c8, cut_mid _ _ _ _ _ (by omega)] at q1 q2
  clear hxt
  refine ⟨numAt cs, congrArg _ (fOf_cells cs hsz fun i hi => ?_)⟩
  rcases (by omega : i = 0 ∨ i = 1 ∨ i = 2 ∨ i = 3 ∨ i = 4 ∨ i = 5 ∨ i = 6 ∨ (7 ≤ i ∧ i < 15) ∨ 15 ≤ i) with rfl | rfl | rfl | rfl | rfl | rfl | rfl | hj | hj
  · exact int_at h0
  · exact int_at h1
  · exact int_at h2
  · exact int_at g0
  · exact int_at g1
  · exact int_at h4
  · exact int_at q0
  · have := ints_at8 q1 (i - 7) (by omega)
    rwa [show 6 + 1 + (i - 7) = i by omega] at this
  · have := ints_at8 q2 (i - 15) (by omega)
    rwa [show 6 + 9 + (i - 15) = i by omega] at this
end Go.Proofs.YtaablbmgagiajabGreatDoor

/- A tale in memory: a system, and what was seen in it. -/
namespace Go.Proofs.YtaablbmgagiajabGreatDoor
open Go.RowKit Go.Deep

def sgC (s : Sg) : List Value := [.int .i64 (s.who : Int), .int .i64 s.cyc, .bool s.on, .int .i64 s.x, .int .i64 s.y]
def sgL : List Sg → List Value
  | [] => []
  | s :: r => sgC s ++ sgL r
theorem sgL_append (l m : List Sg) : sgL (l ++ m) = sgL l ++ sgL m := by
  induction l with
  | nil => rfl
  | cons s r ih => rw [List.cons_append, sgL, sgL, ih, List.append_assoc]
def sgAt (l : List Sg) (k : Nat) : Sg := l[k]?.getD ⟨0, 0, false, 0, 0⟩
theorem sgL_at (l : List Sg) (k : Nat) (hk : k < l.length) (j : Nat) (hj : j < 5) : (sgL l)[k * 5 + j]? = (sgC (sgAt l k))[j]? := by
  induction l generalizing k with
  | nil => simp at hk
  | cons d r ih =>
    cases k with
    | zero =>
      rw [sgL, List.getElem?_append_left (by simp [sgC]; omega), Nat.zero_mul, Nat.zero_add]
      rfl
    | succ k =>
      rw [sgL, List.getElem?_append_right (by simp [sgC]; omega), show (k + 1) * 5 + j - (sgC d).length = k * 5 + j by simp [sgC]; omega, ih k (by simpa using hk)]
      rfl
theorem sgC_one (s : Sg) : ∀ u ∈ sgC s, u.oneCell' = true := by
  intro u hu
  simp [sgC] at hu
  rcases hu with rfl | rfl | rfl | rfl | rfl <;> rfl

structure TC where
  D : SC
  b : Nat
  off : Nat
  cap : Nat
  sv : Value
  z : Nat
def taC (E : TC) (L : RC) (liar : Nat) (A : TS) : Array Value := #[.pointer (some ⟨E.D.p, 0, none⟩), .int .i64 (L.s : Int), .slice (some ⟨E.b, E.off, none⟩) L.n E.cap, .int .i64 (L.d : Int), .int .i64 (liar : Int), .int .i64 (A.fx 0), .int .i64 (A.fy 0), .int .i64 (A.fx 1), .int .i64 (A.fy 1), .int .i64 (A.fx 2), .int .i64 (A.fy 2), E.sv]
structure TaIs (w : World) (N q : Nat) (E : TC) (L : RC) (win liar : Nat) (A : TS) : Prop where
  blk : w.heap[q]? = some (.cells (taC E L liar A) 46 (0, 0))
  row : Row w E.b E.off L.zs
  sy : SyIs w N E.D L win A.S
  seen : w.ownsRow N 129 5 E.sv A.seen.length (sgL A.seen)
  lb : E.b < N ∧ E.b ≠ q
  lq : q < N
  far : ∀ y, Sta E.D y → E.sv.ownBlock ≠ some y
  cap : L.n ≤ E.cap
  size : N ≤ w.heap.size
  zz : (¬ Wr E.D E.z ∧ E.z ≠ q) ∧ E.sv.ownBlock ≠ some E.z ∧ E.z < w.heap.size
/-- What a step may write: never the block z. -/
def TaW (N q z k : Nat) : Prop := k = q ∨ N ≤ k ∧ k ≠ z
/-- What is left behind a step. -/
def TaGo (w w' : World) (N q : Nat) (E : TC) (L : RC) (win liar : Nat) (A' : TS) : Prop := ∃ E', E'.b = E.b ∧ E'.off = E.off ∧ (E'.cap, E'.z) = (E.cap, E.z) ∧ E'.D.p = E.D.p ∧ TaIs w' N q E' L win liar A' ∧ Mod w w' (TaW N q E.z)
section
variable {w w' : World} {N q win liar : Nat} {E : TC} {L : RC} {A : TS}
theorem TaIs.at (h : TaIs w N q E L win liar A) (k : Nat) : w.cell? ⟨q, k, none⟩ = (taC E L liar A)[k]? := blk_cell h.blk k
theorem TaIs.free (h : TaIs w N q E L win liar A) (k : Nat) : w.frozen? ⟨q, k, none⟩ = false := blk_free h.blk k
theorem TaIs.lt (h : TaIs w N q E L win liar A) : q < w.heap.size := blk_lt h.blk
theorem TaIs.own (h : TaIs w N q E L win liar A) {g : Nat} (hg : E.sv.ownBlock = some g) : TyAt w g 129 := by
  rcases h.seen.2 with ⟨e, _⟩ | ⟨g', cap, cur, e, _, hc, _⟩
  · rw [e] at hg; simp [Value.ownBlock] at hg
  · rw [e] at hg
    have : g' = g := by simpa [Value.ownBlock] using hg
    subst this
    exact ⟨_, _, hc⟩
theorem TaIs.shape (h : TaIs w N q E L win liar A) : ∃ a cap, E.sv = .slice a A.seen.length cap := by
  rcases h.seen.2 with ⟨e, h0⟩ | ⟨g, cap, cur, e, _⟩
  · exact ⟨none, 0, by rw [e, h0]⟩
  · exact ⟨_, _, e⟩
theorem ownsRow_mod {w w' : World} {B : Nat} {t : TypeId} {m : Nat} {v : Value} {n : Nat} {xs : List Value} {T : Nat → Prop} (h : w.ownsRow B t m v n xs) (hm : Mod w w' T) (hT : ∀ g, v.ownBlock = some g → ¬ T g) : w'.ownsRow B t m v n xs := by
  refine ⟨h.1, ?_⟩
  rcases h.2 with h2 | ⟨g, cap, cur, e, h3, hc, h5⟩
  · exact .inl h2
  · exact .inr ⟨g, cap, cur, e, h3, (hm.block g (blk_lt hc) (hT g (by rw [e]; rfl))).trans hc, h5⟩
theorem TaIs.below (h : TaIs w N q E L win liar A) (hB : Below w.heap.size w w') : TaIs w' N q E L win liar A := by
  have hm := Mod.ofBelow hB (fun _ => False)
  exact ⟨(hB.block _ h.lt).trans h.blk, h.row.below (B := w.heap.size) (Nat.lt_of_lt_of_le h.lb.1 h.size) hB, h.sy.below hB, ownsRow_mod h.seen hm (fun _ _ hf => hf), h.lb, h.lq, h.far, h.cap, Nat.le_trans h.size hB.size, h.zz.1, h.zz.2.1, Nat.lt_of_lt_of_le h.zz.2.2 hB.size⟩
/-- A call of the system's. -/
theorem TaIs.went (h : TaIs w N q E L win liar A) {S' : SY} (hg : SyGo w w' N E.D L win S') : TaGo w w' N q E L win liar ⟨S', A.fx, A.fy, A.seen⟩ := by
  obtain ⟨D', hp, hS, hm, hgr⟩ := hg
  have hb : ∀ k, k < N → ¬ Wr E.D k := fun k hk hw => by have := h.sy.base k hw; omega
  have hns : ∀ g, E.sv.ownBlock = some g → ¬ Wr E.D g := fun g hg hw => by
    have t := h.own hg
    rcases hw with rfl | hw | ⟨j, hj, rfl⟩ | rfl | hw
    · exact t.ne h.sy.tyP (by decide) rfl
    · exact t.ne (h.sy.tyN hw) (by decide) rfl
    · exact t.ne (h.sy.tyR hj) (by decide) rfl
    · exact t.ne h.sy.tyV (by decide) rfl
    · exact t.ne (h.sy.tyT hw) (by decide) rfl
  refine ⟨⟨D', E.b, E.off, E.cap, E.sv, E.z⟩, rfl, rfl, rfl, hp, ⟨?_, ?_, hS, ownsRow_mod h.seen hm hns, h.lb, h.lq, fun y hy e => ?_, h.cap, Nat.le_trans h.size hm.size, ⟨fun x => ?_, h.zz.1.2⟩, h.zz.2.1, Nat.lt_of_lt_of_le h.zz.2.2 hm.size⟩, hm.mono fun k _ hw => .inr ⟨h.sy.base k hw, fun e => h.zz.1.1 (e ▸ hw)⟩⟩
  · rw [hm.block q h.lt (hb q h.lq), h.blk]
    unfold taC
    rw [hp]
  · intro k hk
    rw [World.cell?_of_block (w := w) (hm.block E.b (Nat.lt_of_lt_of_le h.lb.1 h.size) (hb _ h.lb.1))]
    exact h.row k hk
  · rcases hgr.st y hy with z | z
    · exact h.far y z e
    · have := (h.own e).lt
      omega
  · have hz := h.zz.2.2
    rcases hgr.wr _ x with y | y
    · exact h.zz.1.1 y
    · have y' : w.heap.size ≤ E.z := y
      omega
theorem TaGo.then {w2 : World} {A2 : TS} {E1 : TC} (he : E1.b = E.b ∧ E1.off = E.off ∧ (E1.cap, E1.z) = (E.cap, E.z) ∧ E1.D.p = E.D.p) (hm : Mod w w' (TaW N q E.z)) (h : TaGo w' w2 N q E1 L win liar A2) : TaGo w w2 N q E L win liar A2 := by
  obtain ⟨E2, e1, e2, e3, e4, hT, hm2⟩ := h
  exact ⟨E2, e1.trans he.1, e2.trans he.2.1, e3.trans he.2.2.1, e4.trans he.2.2.2, hT, hm.then hm2 fun _ _ h => by rw [← show E1.z = E.z from congrArg Prod.snd he.2.2.1]; exact h⟩
theorem TaGo.pre {w0 : World} {A' : TS} (h : TaGo w w' N q E L win liar A') (hB : Below w0.heap.size w0 w) : TaGo w0 w' N q E L win liar A' := by
  obtain ⟨E2, e1, e2, e3, e4, hT, hm2⟩ := h
  exact ⟨E2, e1, e2, e3, e4, hT, (Mod.ofBelow hB _).then hm2 fun _ _ h => h⟩
theorem TaGo.after {w2 : World} {A' : TS} (h : TaGo w w' N q E L win liar A') (hB : Below w'.heap.size w' w2) : TaGo w w2 N q E L win liar A' := by
  obtain ⟨E2, e1, e2, e3, e4, hT, hm2⟩ := h
  exact ⟨E2, e1, e2, e3, e4, hT.below hB, hm2.below hB⟩
theorem TaIs.goes (h : TaIs w N q E L win liar A) : TaGo w w N q E L win liar A := ⟨E, rfl, rfl, rfl, rfl, h, Mod.refl _ _⟩
/-- What is none of its blocks is written. -/
theorem SyIs.far {D : SC} {S : SY} (h : SyIs w N D L win S) {T : Nat → Prop} (hm : Mod w w' T) (hw : ∀ k, T k → ¬ Wr D k) (hs : ∀ k, T k → ¬ Sta D k) (hb : ∀ k, T k → ¬ TyAt w k 5) : SyIs w' N D L win S := by
  refine ⟨(hm.block _ h.lt fun x => hw _ x (.inl rfl)).trans h.blk, fun k hk => (World.cell?_of_block (w := w) (hm.block _ h.lt0 fun x => hs _ x (.inl rfl))).trans (h.row k hk), Nat.lt_of_lt_of_le h.lt0 hm.size, h.cap0, fun k hk => ?_, h.ln, h.ne, ?_, ?_, h.sep, h.base, h.sbase⟩
  · exact (h.rp k hk).staged hm (fun x => hw _ x (.inr (.inr (.inl ⟨k, hk, rfl⟩)))) fun j hj x => hs j x (.inr ⟨k, hk, hj⟩)
  · exact h.vt.move hm fun k hk x => hw k x (.inr (.inr (.inr hk)))
  · exact h.net.mod hm (fun g hg x => hw g x (.inr (.inl hg))) hb
/-- Its own block is written. -/
theorem TaIs.put (h : TaIs w N q E L win liar A) (hm : Mod w w' (· = q)) {A' : TS} (hS : A'.S = A.S) (hs : A'.seen = A.seen) (hb : w'.heap[q]? = some (.cells (taC E L liar A') 46 (0, 0))) : TaGo w w' N q E L win liar A' := by
  have lq := h.lq
  refine ⟨E, rfl, rfl, rfl, rfl, ⟨hb, ?_, ?_, ?_, h.lb, h.lq, h.far, h.cap, Nat.le_trans h.size hm.size, h.zz.1, h.zz.2.1, Nat.lt_of_lt_of_le h.zz.2.2 hm.size⟩, hm.mono fun k _ e => .inl e⟩
  · intro k hk
    rw [World.cell?_of_block (w := w) (hm.block E.b (Nat.lt_of_lt_of_le h.lb.1 h.size) h.lb.2)]
    exact h.row k hk
  · rw [hS]
    refine h.sy.far hm (fun k e x => ?_) (fun k e x => ?_) (fun k e x => ?_)
    · have := h.sy.base k x; omega
    · have := h.sy.sbase k x; omega
    · subst e
      exact TyAt.ne ⟨_, _, h.blk⟩ x (by decide) rfl
  · rw [hs]
    exact ownsRow_mod h.seen hm fun g hg e => by have := (h.seen.lt g hg).1; omega
/-- One more was seen. -/
theorem TaIs.grown (h : TaIs w N q E L win liar A) {o : Obj} {w3 : World} {g cap' n : Nat} {s : Sg} (hn : A.seen.length = n) (hown : w3.ownsRow N 129 5 (.slice (some ⟨g, 0, none⟩) (n + 1) cap') (n + 1) (sgL A.seen ++ sgC s)) (hg : (w.alloc o).drew.grownBy w3 E.sv.ownBlock) (hat : E.sv.ownBlock = some g ∨ w.heap.size ≤ g) :
    TaGo w (w3.setCell ⟨q, 11, none⟩ (.slice (some ⟨g, 0, none⟩) (n + 1) cap')) N q E L win liar ⟨A.S, A.fx, A.fy, A.seen ++ [s]⟩ := by
  have hBo : Below w.heap.size w (w.alloc o).drew := ((Below.refl _ _).alloc (Nat.le_refl _) _).drew
  have lq := h.lq
  have hmg : Mod (w.alloc o).drew w3 (fun k => E.sv.ownBlock = some k) := (Mod.refl _ _).grown hg (fun k _ e => e)
  have hm1 : Mod w w3 (fun k => E.sv.ownBlock = some k) := (Mod.ofBelow hBo _).then hmg fun _ _ x => x
  have hm4 : Mod w3 (w3.setCell ⟨q, 11, none⟩ (.slice (some ⟨g, 0, none⟩) (n + 1) cap')) (· = q) := (Mod.refl _ _).set _ _ (fun _ => rfl)
  have hm : Mod w (w3.setCell ⟨q, 11, none⟩ (.slice (some ⟨g, 0, none⟩) (n + 1) cap')) (fun k => k = q ∨ E.sv.ownBlock = some k) := (hm1.mono fun _ _ x => .inr x).then hm4 fun _ _ x => .inl x
  have hge : ∀ k, E.sv.ownBlock = some k → N ≤ k := fun k hk => (h.seen.lt k hk).1
  have hb3 : w3.heap[q]? = some (.cells (taC E L liar A) 46 (0, 0)) := (hm1.block q h.lt fun e => by have := hge q e; omega).trans h.blk
  refine ⟨⟨E.D, E.b, E.off, E.cap, .slice (some ⟨g, 0, none⟩) (n + 1) cap', E.z⟩, rfl, rfl, rfl, rfl, ⟨(blk_set hb3 11 _).trans rfl, ?_, ?_, ?_, h.lb, h.lq, fun y hy e => ?_, h.cap, Nat.le_trans h.size hm.size, h.zz.1, fun e => ?_, Nat.lt_of_lt_of_le h.zz.2.2 hm.size⟩, hm.mono fun k _ x => x.imp id fun y => ⟨hge k y, fun e => h.zz.2.1 (e ▸ y)⟩⟩
  · intro k hk
    have hlb := h.lb
    rw [World.cell?_of_block (w := w) (hm.block E.b (Nat.lt_of_lt_of_le h.lb.1 h.size) fun x => x.elim hlb.2 fun x => absurd (hge _ x) (by omega))]
    exact h.row k hk
  · refine h.sy.far hm (fun k e x => ?_) (fun k e x => ?_) (fun k e x => ?_)
    · rcases e with e | e
      · have := h.sy.base k x; omega
      · exact h.sy.notWr (h.own e) (by decide) x
    · rcases e with e | e
      · have := h.sy.sbase k x; omega
      · exact h.far k x e
    · rcases e with e | e
      · subst e
        exact TyAt.ne ⟨_, _, h.blk⟩ x (by decide) rfl
      · exact (h.own e).ne x (by decide) rfl
  · rw [sgL_append, List.length_append, hn]
    have e0 : sgL [s] = sgC s := List.append_nil _
    rw [e0]
    refine ownsRow_mod hown hm4 fun k hk e => ?_
    have : g = k := by simpa [Value.ownBlock] using hk
    rcases hat with hat | hat
    · have := hge g hat; omega
    · have := h.size; omega
  · have : g = y := by simpa [Value.ownBlock] using e
    subst this
    rcases hat with hat | hat
    · exact h.far g hy hat
    · have := h.sy.staLt hy; omega
  · have e' : g = E.z := by simpa [Value.ownBlock] using e
    have hz := h.zz.2.2
    rcases hat with hat | hat
    · exact h.zz.2.1 (e' ▸ hat)
    · omega
end
end Go.Proofs.YtaablbmgagiajabGreatDoor

/- The contract of triumvirkeep.fits. -/
namespace Go.Proofs.YtaablbmgagiajabGreatDoor
open Go.RowKit Go.Deep

/-- A step, as it is handed in. -/
structure SD where
  wh : Int
  k : Int
  n : Int
  x : Int
  y : Int
  F : FR
  ba : Option Addr
  bl : Nat
  bc : Nat
  bs : List Nat
def sdL (X : SD) : List Value := [.int .i64 X.wh, .int .i64 X.k, .int .i64 X.n, .int .i64 X.x, .int .i64 X.y] ++ (fCells X.F).toList ++ [.slice X.ba X.bl X.bc]
theorem sdL_len (X : SD) : (sdL X).length = 29 := by simp [sdL, fCells_size]
theorem sdL_bytes (X : SD) : (sdL X)[28]? = some (.slice X.ba X.bl X.bc) := by
  unfold sdL
  rw [List.getElem?_append_right (by simp [fCells_size])]
  simp [fCells_size]
def StepAt (w : World) (al : Option Addr) (ll : Nat) : Prop := ∀ i, i < ll → ∃ (b off : Nat) (X : SD), al = some ⟨b, off, none⟩ ∧ b < w.heap.size ∧ w.rangeAt b (off + i * 29) (sdL X) ∧ IsB w X.ba X.bl X.bc X.bs ∧ X.bl ≤ maxLen
theorem StepAt.below {w wx : World} {al : Option Addr} {ll : Nat} (h : StepAt w al ll) (hB : Below w.heap.size w wx) : StepAt wx al ll := fun i hi => by
  obtain ⟨b, off, X, h1, h2, h3, h4, h5⟩ := h i hi
  exact ⟨b, off, X, h1, Nat.lt_of_lt_of_le h2 hB.size, fun j v hv => (hB.cell (p := ⟨b, off + i * 29 + j, none⟩) h2).trans (h3 j v hv), h4.below hB, h5⟩

set_option maxHeartbeats 2000000 in
set_option maxRecDepth 20000 in
theorem fits_any (al : Option Addr) (ll cl : Nat) (w : World) (h : StepAt w al ll) (hm : ll ≤ maxLen) :
    Calls Tryz.prog 9 #[.slice al ll cl] w fun e w' => (∃ r : Bool, e = .returned (.bool r) ∧ (r = true → ll ≤ 120 ∧ ∀ i b off X, i < ll → al = some ⟨b, off, none⟩ → w.rangeAt b (off + i * 29) (sdL X) → X.bl ≤ 200)) ∧ w' = w := by
  unfold maxLen at hm
  by_cases hl : 120 < ll
  · clear h
    go_enter Tryz.func9, Tryz.ntmps9
    go_wp2
    go_ret
    exact ⟨⟨false, rfl, fun h => Bool.noConfusion h⟩, rfl⟩
  · have HS := hide h
    clear h
    go_enter Tryz.func9, Tryz.ntmps9
    go_wp2
    go_loopw [3] (fun i wr => ∃ k : Nat, k ≤ ll ∧ i = .int .i64 k ∧ wr = w ∧ ∀ i b off X, i < k → al = some ⟨b, off, none⟩ → w.rangeAt b (off + i * 29) (sdL X) → X.bl ≤ 200) (fun i _ => ll - (intOf i).toNat)
    case atStart => exact ⟨0, Nat.zero_le _, rfl, rfl, fun i b off X hi => absurd hi (Nat.not_lt_zero _)⟩
    case round =>
      obtain ⟨k, hk, rfl, rfl, hall⟩ := hrel
      have HA := hide hall
      clear hall
      by_cases hlt : k < ll
      · obtain ⟨b, off, X, rfl, hb, hr, hB, hX⟩ := HS.out k hlt
        have c28 : wr.cell? ⟨b, off + k * 29 + 28, none⟩ = some (.slice X.ba X.bl X.bc) := hr 28 _ (sdL_bytes X)
        have HR := hide hr
        unfold maxLen at hX
        obtain ⟨bl, hbl⟩ : ∃ bl, Hid (X.bl = bl) := ⟨_, hide rfl⟩
        rw [hbl.out] at c28 hX
        clear hr hB
        by_cases h2 : 200 < bl
        · go_wp2
          go_ret
          exact ⟨⟨false, rfl, fun h => Bool.noConfusion h⟩, rfl⟩
        · go_wp2
          go_roundw
          case rel =>
            refine ⟨k + 1, by omega, by go_num, by first | rfl | trivial, fun i b' off' X' hi he hr' => ?_⟩
            by_cases e : i < k
            · exact HA.out i b' off' X' e he hr'
            · have ei : i = k := by omega
              subst ei
              simp at he
              obtain ⟨rfl, rfl⟩ := he
              have c1 := hr' 28 _ (sdL_bytes X')
              rw [c28] at c1
              simp at c1
              omega
          case measure => simp [intOf]; omega
      · have hke : k = ll := by omega
        subst hke
        go_wp2
        go_ret
        exact ⟨⟨true, rfl, fun _ => ⟨by omega, HA.out⟩⟩, rfl⟩
end Go.Proofs.YtaablbmgagiajabGreatDoor

/- Steps, as they are handed in. -/
namespace Go.Proofs.YtaablbmgagiajabGreatDoor
open Go.ChangeShapes Go.WideShapes Go.RowKit Go.Deep

section
variable {H : Type} {enc : TypeId × Value → H} {W : World} {base : Nat} {spare : Nat → Bool} {held : Bool}
set_option maxRecDepth 10000 in
theorem frame_of_trod {cs : Array Value} {fuel : Nat} {x : DataW H × List MemPlace} (hsz : cs.size = 23) (hf : DataW.trod enc Tryz.prog W base spare held fuel 36 cs.toList = some x) : cs = fCells (numAt cs) := by
  have c17 : Tryz.prog.cellsOf 34 = 17 := by kernel_rfl
  have c2 : Tryz.prog.cellsOf 31 = 2 := by kernel_rfl
  have c8 : Tryz.prog.cellsOf 32 = 8 := by kernel_rfl
  have c1 : Tryz.prog.cellsOf 3 = 1 := by kernel_rfl
  obtain ⟨xs, n, _, _, _, hlen, hx⟩ := DataW.trod_struct Tryz.underlying36 hf
  have hl6 : xs.length = 6 := hlen
  obtain ⟨y0, y1, y2, y3, y4, y5, rfl⟩ := six hl6
  have h0 : DataW.trod enc Tryz.prog W base spare held n 3 ((cs.toList.drop 0).take (Tryz.prog.cellsOf 3)) = some y0 := hx 0 _ rfl
  have h1 : DataW.trod enc Tryz.prog W base spare held n 3 ((cs.toList.drop 1).take (Tryz.prog.cellsOf 3)) = some y1 := hx 1 _ rfl
  have h2 : DataW.trod enc Tryz.prog W base spare held n 3 ((cs.toList.drop 2).take (Tryz.prog.cellsOf 3)) = some y2 := hx 2 _ rfl
  have h3 : DataW.trod enc Tryz.prog W base spare held n 31 ((cs.toList.drop 3).take (Tryz.prog.cellsOf 31)) = some y3 := hx 3 _ rfl
  have h4 : DataW.trod enc Tryz.prog W base spare held n 3 ((cs.toList.drop 5).take (Tryz.prog.cellsOf 3)) = some y4 := hx 4 _ rfl
  have h5 : DataW.trod enc Tryz.prog W base spare held n 34 ((cs.toList.drop 6).take (Tryz.prog.cellsOf 34)) = some y5 := hx 5 _ rfl
  clear hx
  rw [c1] at h0 h1 h2 h4
  rw [c2] at h3
  rw [c17] at h5
  obtain ⟨xi, ni, _, _, _, hleni, hxi⟩ := DataW.trod_struct Tryz.underlying31 h3
  have hl2 : xi.length = 2 := hleni
  obtain ⟨i0, i1, rfl⟩ := two hl2
  have g0 : DataW.trod enc Tryz.prog W base spare held ni 3 ((((cs.toList.drop 3).take 2).drop 0).take (Tryz.prog.cellsOf 3)) = some i0 := hxi 0 _ rfl
  have g1 : DataW.trod enc Tryz.prog W base spare held ni 3 ((((cs.toList.drop 3).take 2).drop 1).take (Tryz.prog.cellsOf 3)) = some i1 := hxi 1 _ rfl
  rw [c1, cut_mid _ _ _ _ _ (by omega)] at g0 g1
  clear hxi
  obtain ⟨xt, nt, _, _, _, hlent, hxt⟩ := DataW.trod_struct Tryz.underlying34 h5
  have hl3 : xt.length = 3 := hlent
  obtain ⟨s0, s1, s2, rfl⟩ := three hl3
  have q0 : DataW.trod enc Tryz.prog W base spare held nt 3 ((((cs.toList.drop 6).take 17).drop 0).take (Tryz.prog.cellsOf 3)) = some s0 := hxt 0 _ rfl
  have q1 : DataW.trod enc Tryz.prog W base spare held nt 32 ((((cs.toList.drop 6).take 17).drop 1).take (Tryz.prog.cellsOf 32)) = some s1 := hxt 1 _ rfl
  have q2 : DataW.trod enc Tryz.prog W base spare held nt 32 ((((cs.toList.drop 6).take 17).drop 9).take (Tryz.prog.cellsOf 32)) = some s2 := hxt 2 _ rfl
  rw [c1, cut_mid _ _ _ _ _ (by omega)] at q0
  rw [c8, cut_mid _ _ _ _ _ (by omega)] at q1 q2
  clear hxt
  refine fOf_cells cs hsz fun i hi => ?_
  rcases (by omega : i = 0 ∨ i = 1 ∨ i = 2 ∨ i = 3 ∨ i = 4 ∨ i = 5 ∨ i = 6 ∨ (7 ≤ i ∧ i < 15) ∨ 15 ≤ i) with rfl | rfl | rfl | rfl | rfl | rfl | rfl | hj | hj
  · exact int_at h0
  · exact int_at h1
  · exact int_at h2
  · exact int_at g0
  · exact int_at g1
  · exact int_at h4
  · exact int_at q0
  · have := ints_at8 q1 (i - 7) (by omega)
    rwa [show 6 + 1 + (i - 7) = i by omega] at this
  · have := ints_at8 q2 (i - 15) (by omega)
    rwa [show 6 + 9 + (i - 15) = i by omega] at this

theorem bytes_of_trod {cs : List Value} {fuel : Nat} {x : DataW H × List MemPlace} (hf : DataW.trod enc Tryz.prog W base spare held fuel 37 cs = some x) : ∃ (a : Option Addr) (len cap : Nat) (l : List Nat), cs = [.slice a len cap] ∧ len ≤ maxLen ∧ IsB W a len cap l := by
  rcases open_ints Tryz.underlying37 Tryz.underlying5 (by kernel_rfl) hf with ⟨hcs, _⟩ | ⟨ad, n, c, zs, hcs, _, hl, hm, hz, _, hcell, hwz⟩
  · exact ⟨none, 0, 0, [], hcs, by unfold maxLen; omega, ⟨rfl, Nat.le_refl _, fun _ h => by simp at h, .inl rfl⟩⟩
  · have hzl : n ≤ zs.length := by rw [hz]; split <;> omega
    have hb : ∀ z ∈ zs, 0 ≤ z ∧ z ≤ 255 := fun z hz => bounds_u8 (hwz z hz)
    refine ⟨some ad, n, c, (zs.take n).map Int.toNat, hcs, by omega, ⟨by simp; omega, hl, fun c hc => ?_, ?_⟩⟩
    · obtain ⟨z, hz1, rfl⟩ := List.mem_map.1 hc
      have := hb z (List.mem_of_mem_take hz1)
      omega
    · by_cases h0 : n = 0
      · subst h0; exact .inl (by simp)
      · obtain ⟨b, off, rfl, hc⟩ := ints_at hcell (by omega)
        refine .inr ⟨b, off, rfl, World.block_lt_of_cell? _ _ (hc 0 (by omega)), fun k hk => ?_⟩
        have hk' : k < n := by simp at hk; omega
        have hkz : k < zs.length := by omega
        rw [hc k hkz]
        have hbk := hb _ (List.getElem_mem hkz)
        simp [List.getD, hk', hkz, Int.toNat_of_nonneg hbk.1]

theorem open_steps {a : Option Addr} {len cap : Nat} {fuel : Nat} {x : DataW H × List MemPlace} (hf : DataW.trod enc Tryz.prog W base spare held fuel 23 [.slice a len cap] = some x) : len ≤ maxLen ∧ StepAt W a len := by
  have c29 : Tryz.prog.cellsOf 39 = 29 := by kernel_rfl
  have c23 : Tryz.prog.cellsOf 36 = 23 := by kernel_rfl
  have c2 : Tryz.prog.cellsOf 31 = 2 := by kernel_rfl
  have c1 : Tryz.prog.cellsOf 3 = 1 := by kernel_rfl
  have cb : Tryz.prog.cellsOf 37 = 1 := by kernel_rfl
  rcases open_slice Tryz.underlying23 hf with ⟨hcs, _⟩ | ⟨ad, l, c, m, n, D, Pl, hcs, hb, hl, hm, hmm, _, hx⟩
  · simp at hcs
    obtain ⟨rfl, rfl, rfl⟩ := hcs
    exact ⟨by unfold maxLen; omega, fun i hi => by omega⟩
  · simp at hcs
    obtain ⟨rfl, rfl, rfl⟩ := hcs
    refine ⟨by omega, fun i hi => ?_⟩
    have each : ∀ j, j < len → ∃ (cs : List Value) (X : SD), cs.length = 29 ∧ (∀ k, k < 29 → W.cell? (ad.add (j * 29 + k)) = cs[k]?) ∧ cs = sdL X ∧ IsB W X.ba X.bl X.bc X.bs ∧ X.bl ≤ maxLen := fun j hj => by
      obtain ⟨cs, e1, e2⟩ := hx j (by rw [hmm]; split <;> omega)
      rw [c29] at e1
      obtain ⟨_, hlen, hcell⟩ := World.cells?_some e1
      obtain ⟨xs, k, _, _, _, hxl, hfi⟩ := DataW.trod_struct Tryz.underlying39 e2
      have hl6 : xs.length = 6 := hxl
      obtain ⟨y0, y1, y2, y3, y4, y5, rfl⟩ := six hl6
      have g0 : DataW.trod enc Tryz.prog W base spare held k 3 ((cs.drop 0).take (Tryz.prog.cellsOf 3)) = some y0 := hfi 0 _ rfl
      have g1 : DataW.trod enc Tryz.prog W base spare held k 3 ((cs.drop 1).take (Tryz.prog.cellsOf 3)) = some y1 := hfi 1 _ rfl
      have g2 : DataW.trod enc Tryz.prog W base spare held k 3 ((cs.drop 2).take (Tryz.prog.cellsOf 3)) = some y2 := hfi 2 _ rfl
      have g3 : DataW.trod enc Tryz.prog W base spare held k 31 ((cs.drop 3).take (Tryz.prog.cellsOf 31)) = some y3 := hfi 3 _ rfl
      have g4 : DataW.trod enc Tryz.prog W base spare held k 36 ((cs.drop 5).take (Tryz.prog.cellsOf 36)) = some y4 := hfi 4 _ rfl
      have g5 : DataW.trod enc Tryz.prog W base spare held k 37 ((cs.drop 28).take (Tryz.prog.cellsOf 37)) = some y5 := hfi 5 _ rfl
      rw [c1] at g0 g1 g2
      rw [c2] at g3
      rw [c23] at g4
      rw [cb] at g5
      clear hfi
      obtain ⟨z0, e0, _, _⟩ := DataW.trod_int Tryz.underlying3 g0
      obtain ⟨z1, e1', _, _⟩ := DataW.trod_int Tryz.underlying3 g1
      obtain ⟨z2, e2', _, _⟩ := DataW.trod_int Tryz.underlying3 g2
      obtain ⟨xi, ni, _, _, _, hleni, hxi⟩ := DataW.trod_struct Tryz.underlying31 g3
      have hl2 : xi.length = 2 := hleni
      obtain ⟨i0, i1, rfl⟩ := two hl2
      have f0 : DataW.trod enc Tryz.prog W base spare held ni 3 ((((cs.drop 3).take 2).drop 0).take (Tryz.prog.cellsOf 3)) = some i0 := hxi 0 _ rfl
      have f1 : DataW.trod enc Tryz.prog W base spare held ni 3 ((((cs.drop 3).take 2).drop 1).take (Tryz.prog.cellsOf 3)) = some i1 := hxi 1 _ rfl
      rw [c1, cut_mid _ _ _ _ _ (by omega)] at f0 f1
      obtain ⟨z3, e3, _, _⟩ := DataW.trod_int Tryz.underlying3 f0
      obtain ⟨z4, e4, _, _⟩ := DataW.trod_int Tryz.underlying3 f1
      have h23 : ((cs.drop 5).take 23).toArray.size = 23 := by simp; omega
      have hfr := frame_of_trod (cs := ((cs.drop 5).take 23).toArray) h23 (by simpa using g4)
      have e5 : (cs.drop 5).take 23 = (fCells (numAt ((cs.drop 5).take 23).toArray)).toList := by
        have := congrArg Array.toList hfr
        simpa using this
      obtain ⟨ba, bl, bc, bs, e6, hbl, hib⟩ := bytes_of_trod g5
      refine ⟨cs, ⟨z0, z1, z2, z3, z4, numAt ((cs.drop 5).take 23).toArray, ba, bl, bc, bs⟩, hlen, fun k hk => by rw [← hcell k hk, add_add], ?_, hib, hbl⟩
      have part : ∀ (i : Nat) (v : Value), (cs.drop i).take 1 = [v] → cs.drop i = v :: cs.drop (i + 1) := fun i v h => by
        cases hd : cs.drop i with
        | nil => rw [hd] at h; simp at h
        | cons u r =>
          rw [hd] at h
          simp at h
          rw [h, show cs.drop (i + 1) = r by rw [← List.drop_drop, hd]; rfl]
      have p0 := part 0 _ e0
      have p1 := part 1 _ e1'
      have p2 := part 2 _ e2'
      have p3 := part 3 _ e3
      have p4 := part 4 _ e4
      have p28 := part 28 _ e6
      have p5 : cs.drop 5 = (cs.drop 5).take 23 ++ cs.drop 28 := by
        have h := (List.take_append_drop 23 (cs.drop 5)).symm
        rw [List.drop_drop] at h
        exact h
      have p29 : cs.drop 29 = [] := List.drop_eq_nil_of_le (by omega)
      have hcs : cs = cs.drop 0 := rfl
      unfold sdL
      conv => lhs; rw [hcs, p0, p1, p2, p3, p4, p5, p28, p29, e5]
      simp
    obtain ⟨cs, X, hlen, hcell, rfl, hib, hbl⟩ := each i hi
    obtain ⟨cs0, X0, hlen0, hcell0, rfl, _, _⟩ := each 0 (by omega)
    obtain ⟨b, off, spot⟩ := ad
    have hspot : spot = none := by
      have := hcell0 0 (by omega)
      simpa [Addr.add] using World.cell?_spot this
    subst hspot
    have hc : ∀ k, k < 29 → W.cell? ⟨b, off + (i * 29 + k), none⟩ = (sdL X)[k]? := fun k hk => by rw [← hcell k hk, add_plain]
    refine ⟨b, off, X, rfl, World.block_lt_of_cell? _ _ (hc 0 (by omega)), fun j v hv => ?_, hib, hbl⟩
    have hj : j < 29 := by have := (List.getElem?_eq_some_iff.1 hv).1; rw [sdL_len] at this; exact this
    rw [show off + i * 29 + j = off + (i * 29 + j) by omega, hc j hj, hv]
end
end Go.Proofs.YtaablbmgagiajabGreatDoor
