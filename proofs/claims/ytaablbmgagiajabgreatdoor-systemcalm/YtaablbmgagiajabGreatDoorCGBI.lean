import Derived.Test.YtaablbmgagiajabGreatDoorCGBF
namespace Go.Proofs.YtaablbmgagiajabGreatDoor
open Go.RowKit Go.Deep
set_option maxHeartbeats 1000000 in
set_option maxRecDepth 20000 in
theorem does_9 (N q : Nat) (E : TC) (L : RC) (win liar T : Nat) (A : TS) (w : World) (X : SD) (h : TaIs w N q E L win liar A) (hI : TlInv L liar win T A) (hL : LOk L) (hby : IsB w X.ba X.bl X.bc X.bs) (hbl : X.bl ≤ 200) (hwh : X.wh = 9) :
    Calls Tryz.prog 12 #[.pointer (some ⟨q, 0, none⟩), .agg (sdL X).toArray] w fun e w' => e = .returned (.tuple #[]) ∧ ∃ A', StepTo L win liar X.wh A A' ∧ TaGo w w' N q E L win liar A' := by
  obtain ⟨W, hW⟩ : ∃ W, Hid (w.alloc (.cells (sdL X).toArray 39) = W) := ⟨_, hide rfl⟩
  have hBW : Below w.heap.size w W := by rw [← hW.out]; exact (Below.refl _ _).alloc (Nat.le_refl _) _
  have HDO : Hid (DoIn W w N q E L win liar A X) := hide ⟨hBW, h.below hBW, by rw [← hW.out]; exact blk_new _ _⟩
  have x1 := HDO.out.x1
  have c0 := HDO.out.c0
  have HPK := hide fun wx => pick_any X.k 3 wx (by decide) (by decide)
  obtain ⟨k1, k2⟩ := pickF_in X.k 3 (by decide) (by decide)
  obtain ⟨k, hk⟩ := Int.eq_ofNat_of_zero_le k1
  rw [hk] at HPK k2
  have hk3 : k < 3 := by omega
  obtain ⟨cs, hcs⟩ : ∃ cs, Hid ((sdL X).toArray = cs) := ⟨_, hide rfl⟩
  rw [hcs.out] at hW ⊢
  have hle := hI.inv.many
  have HI := hide hI
  have HL := hide hL
  have HWH := hide hwh
  clear h hBW hk k1 hwh hI hL
  go_enter Tryz.func12, Tryz.ntmps12
  go_wp2_with fail
  rw [show w.alloc (.cells cs 39) = W from hW.out]
  clear hW hcs
  go_quiet ((go_at_call 25; exact Calls.quiet_of_same (unhide HPK _)))
  have HV : Hid (DoIn (W.drewN nq) w N q E L win liar A X) := hide (HDO.out.below (below_drewN (Below.refl _ _) nq))
  generalize W.drewN nq = V at HV ⊢
  clear HDO x1 c0 HPK
  have x2 := HV.out.x2
  have x0 := HV.out.x0
  have hVl : w.heap.size < V.heap.size := blk_lt HV.out.box
  rw [HWH.out] at x0
  have HMN := hide (many_any N E.D L win A.S V HV.out.ta.sy)
  have HPN := hide fun wx (hp : 0 < (A.S.net.length : Int)) => pick_any X.n (A.S.net.length : Int) wx hp (by omega)
  have hpin := fun hp => pickF_in X.n (A.S.net.length : Int) hp (by omega)
  obtain ⟨m, hm⟩ : ∃ m, Hid (A.S.net.length = m) := ⟨_, hide rfl⟩
  rw [hm.out] at HMN HPN hpin hle
  have hql := HV.out.ta.lt
  go_wp2_with fail
  refine HMN.out.mono ?_
  rintro e wz ⟨rfl, hwz⟩
  subst wz
  by_cases hm0 : m = 0
  · have hm0' : ¬ (0 : Int) < (m : Int) := by omega
    clear HPN hpin
    have c4 := HV.out.c4
    have x28 := HV.out.x28
    by_cases hll : liar < 3
    · have hll' : (liar : Int) < 3 := by omega
      obtain ⟨a1, a2⟩ := pickF_in X.n 3 (by decide) (by decide)
      obtain ⟨j, hj⟩ := Int.eq_ofNat_of_zero_le a1
      have HPA := hide fun wx => pick_any X.n 3 wx (by decide) (by decide)
      rw [hj] at HPA a2
      have hj3 : j < 3 := by omega
      obtain ⟨dst, hds⟩ : ∃ dst, Hid ((liar + 1 + j) % 4 = dst) := ⟨_, hide rfl⟩
      have hd3 : dst ≤ 3 := by rw [← hds.out]; omega
      have hdl : liar ≠ dst := by rw [← hds.out]; omega
      have e14 := dst_rem liar j hll hj3
      rw [hds.out] at e14
      obtain ⟨S', hS'⟩ : ∃ S', Hid ((if X.bl ≤ 80 then putSy ⟨liar, dst, X.bs⟩ A.S else A.S) = S') := ⟨_, hide rfl⟩
      have HC : Hid (Calls Tryz.prog 40 #[.pointer (some ⟨E.D.p, 0, none⟩), .int .i64 (liar : Int), .int .i64 (dst : Int), .slice X.ba X.bl X.bc] V.drew fun e w2 => (∃ v, e = .returned v) ∧ (w2.cell? ⟨q, 4, none⟩ = some (.int .i64 (liar : Int)) ∧ w2.cell? ⟨w.heap.size, 2, none⟩ = some (.int .i64 X.n) ∧ w2.cell? ⟨w.heap.size, 28, none⟩ = some (.slice X.ba X.bl X.bc)) ∧ ∃ A', StepTo L win liar X.wh A A' ∧ TaGo w w2 N q E L win liar A') := hide (by
        have hD := HV.out.below (Below.refl _ _).drew
        refine (says_any N E.D L win A.S V.drew liar dst X.ba X.bl X.bc X.bs hll hd3 hdl hD.ta.sy (hby.below hD.old) (by omega) HI.out.inv.many hD.ta.size).mono ?_
        rintro e w2 ⟨he, hg⟩
        obtain ⟨E2, _, _, _, _, hT2, _⟩ := hD.ta.went hg
        refine ⟨he, ⟨(hT2.at 4).trans rfl, hD.stay hg 2, (hD.stay hg 28).trans (sdL_bytes X)⟩, ?_⟩
        by_cases hx : X.bl ≤ 80
        · rw [if_pos hx] at hg
          exact ⟨_, StepTo.says A dst X.bs hll hd3 hby.2.2.1 (by rw [hby.1]; exact hx), hD.went hg⟩
        · rw [if_neg hx] at hg
          exact ⟨_, StepTo.same A, hD.went hg⟩)
      clear hS' hby
      go_wp2_with fail
      refine wp_region_held_drew (S := fun w' => w'.cell? ⟨q, 4, none⟩ = some (.int .i64 (liar : Int)) ∧ w'.cell? ⟨w.heap.size, 2, none⟩ = some (.int .i64 X.n) ∧ w'.cell? ⟨w.heap.size, 28, none⟩ = some (.slice X.ba X.bl X.bc)) (by kernel_rfl) ⟨c4, x2, x28⟩ (fun hHeld => ?_)
      refine wpAnyH_take (i := 0) (oi := _) (v := .pointer (some ⟨E.D.p, 0, none⟩)) rfl (by kernel_rfl) (by kernel_rfl) (by kernel_rfl) (fun _ _ _ h => h) (Or.inl ⟨by rfl, fun w _ => by go_simp⟩) hHeld ?_
      refine wpAnyH_take (i := 1) (oi := _) (v := .pointer (some ⟨q, 0, none⟩)) rfl (by kernel_rfl) (by kernel_rfl) (by kernel_rfl) (fun _ _ _ h => h) (Or.inl ⟨by rfl, fun w _ => by go_simp⟩) hHeld ?_
      refine wpAnyH_take (i := 2) (oi := _) (v := .pointer (some ⟨q, 0, none⟩)) rfl (by kernel_rfl) (by kernel_rfl) (by kernel_rfl) (fun _ _ _ h => h) (Or.inl ⟨by rfl, fun w _ => by go_simp⟩) hHeld ?_
      refine wpAnyH_take (i := 3) (oi := _) (v := .pointer (some ⟨q, 4, none⟩)) rfl (by kernel_rfl) (by kernel_rfl) (by kernel_rfl) (fun _ _ _ h => h) (Or.inl ⟨by rfl, fun w _ => by go_simp⟩) hHeld ?_
      refine wpAnyH_take (i := 4) (oi := _) (v := .int .i64 (liar : Int)) rfl (by kernel_rfl) (by kernel_rfl) (by kernel_rfl) (fun _ _ _ h => h) (Or.inl ⟨by rfl, fun w h => by obtain ⟨h1, h2, h3⟩ := h; go_simp⟩) hHeld ?_
      refine wpAnyH_take (i := 5) (oi := _) (v := .pointer (some ⟨q, 0, none⟩)) rfl (by kernel_rfl) (by kernel_rfl) (by kernel_rfl) (fun _ _ _ h => h) (Or.inl ⟨by rfl, fun w _ => by go_simp⟩) hHeld ?_
      refine wpAnyH_take (i := 6) (oi := _) (v := .pointer (some ⟨q, 0, none⟩)) rfl (by kernel_rfl) (by kernel_rfl) (by kernel_rfl) (fun _ _ _ h => h) (Or.inl ⟨by rfl, fun w _ => by go_simp⟩) hHeld ?_
      refine wpAnyH_take (i := 7) (oi := _) (v := .pointer (some ⟨q, 4, none⟩)) rfl (by kernel_rfl) (by kernel_rfl) (by kernel_rfl) (fun _ _ _ h => h) (Or.inl ⟨by rfl, fun w _ => by go_simp⟩) hHeld ?_
      refine wpAnyH_take (i := 8) (oi := _) (v := .int .i64 (liar : Int)) rfl (by kernel_rfl) (by kernel_rfl) (by kernel_rfl) (fun _ _ _ h => h) (Or.inl ⟨by rfl, fun w h => by obtain ⟨h1, h2, h3⟩ := h; go_simp⟩) hHeld ?_
      refine wpAnyH_take (i := 9) (oi := _) (v := .int .i64 ((liar : Int) + 1)) rfl (by kernel_rfl) (by kernel_rfl) (by kernel_rfl) (fun _ _ _ h => h) (Or.inl ⟨by rfl, fun w _ => by go_simp; simp [IntKind.wrap, IntKind.bits, IntKind.signed]; omega⟩) hHeld ?_
      refine wpAnyH_take (i := 10) (oi := _) (v := .pointer (some ⟨w.heap.size, 2, none⟩)) rfl (by kernel_rfl) (by kernel_rfl) (by kernel_rfl) (fun _ _ _ h => h) (Or.inl ⟨by rfl, fun w _ => by go_simp⟩) hHeld ?_
      refine wpAnyH_take (i := 11) (oi := _) (v := .int .i64 X.n) rfl (by kernel_rfl) (by kernel_rfl) (by kernel_rfl) (fun _ _ _ h => h) (Or.inl ⟨by rfl, fun w h => by obtain ⟨h1, h2, h3⟩ := h; go_simp⟩) hHeld ?_
      refine wpAnyH_take (i := 15) (oi := _) (v := .pointer (some ⟨w.heap.size, 28, none⟩)) rfl (by kernel_rfl) (by kernel_rfl) (by kernel_rfl) (fun _ _ _ h => h) (Or.inl ⟨by rfl, fun w _ => by go_simp⟩) hHeld ?_
      refine wpAnyH_take (i := 16) (oi := _) (v := .slice X.ba X.bl X.bc) rfl (by kernel_rfl) (by kernel_rfl) (by kernel_rfl) (fun _ _ _ h => h) (Or.inl ⟨by rfl, fun w h => by obtain ⟨h1, h2, h3⟩ := h; go_simp⟩) hHeld ?_
      refine wpAnyH_ready (rs := [12]) (by kernel_rfl) (by simp) ?_
      refine AllReadyH.cons (o := _) rfl (fun K hK => ?_) AllReadyH.nil
      rw [if_pos (by rfl)]
      go_simp
      go_at_call 25
      refine (unhide HPA _).mono ?_
      rintro e w5 ⟨rfl, rfl⟩
      dsimp only
      refine hK.out _ _ ⟨c4, x2, x28⟩ (fun hHeld => ?_)
      clear hK K
      refine wpAnyH_take (i := 13) (oi := _) (v := .int .i64 ((liar : Int) + 1 + (j : Int))) rfl (by kernel_rfl) (by kernel_rfl) (by kernel_rfl) (fun _ _ _ h => h) (Or.inl ⟨by rfl, fun w _ => by go_simp; simp [IntKind.wrap, IntKind.bits, IntKind.signed]; omega⟩) hHeld ?_
      refine wpAnyH_take (i := 14) (oi := _) (v := .int .i64 (dst : Int)) rfl (by kernel_rfl) (by kernel_rfl) (by kernel_rfl) (fun _ _ _ h => h) (Or.inl ⟨by rfl, fun w _ => by go_simp⟩) hHeld ?_
      refine wpAnyH_ready (rs := [17]) (by kernel_rfl) (by simp) ?_
      refine AllReadyH.cons (o := _) rfl (fun K hK => ?_) AllReadyH.nil
      rw [if_pos (by rfl)]
      go_simp
      go_at_call 40
      refine HC.out.mono ?_
      rintro e w6 ⟨⟨ev, rfl⟩, hx6, HS6⟩
      dsimp only
      have HG := hide HS6
      clear HS6
      refine hK.out _ _ hx6 (fun hHeld => ?_)
      clear hK K
      refine wpAnyH_done (by kernel_rfl) ?_ _
      go_wp2_with fail
      go_end0
      exact ⟨rfl, HG.out⟩
    · have hll' : ¬ (liar : Int) < 3 := by omega
      go_wp2_with fail
      go_end0
      exact ⟨rfl, A, StepTo.same A, HV.out.ta.goes.pre HV.out.old⟩
  · have hm0' : (0 : Int) < (m : Int) := by omega
    obtain ⟨j1, j2⟩ := hpin hm0'
    obtain ⟨i, hi⟩ := Int.eq_ofNat_of_zero_le j1
    have HPI := hide fun wx => HPN.out wx hm0'
    rw [hi] at HPI j2
    have hil : i < m := by omega
    clear HPN hpin j1 hi
    go_wp2_with (go_at_call 25; refine (unhide HPI _).mono ?_)
    rintro e wz ⟨rfl, hwz⟩
    subst wz
    have c4 := HV.out.c4
    have x28 := HV.out.x28
    by_cases hll : liar < 3
    · have hll' : (liar : Int) < 3 := by omega
      obtain ⟨a1, a2⟩ := pickF_in X.n 3 (by decide) (by decide)
      obtain ⟨j, hj⟩ := Int.eq_ofNat_of_zero_le a1
      have HPA := hide fun wx => pick_any X.n 3 wx (by decide) (by decide)
      rw [hj] at HPA a2
      have hj3 : j < 3 := by omega
      obtain ⟨dst, hds⟩ : ∃ dst, Hid ((liar + 1 + j) % 4 = dst) := ⟨_, hide rfl⟩
      have hd3 : dst ≤ 3 := by rw [← hds.out]; omega
      have hdl : liar ≠ dst := by rw [← hds.out]; omega
      have e14 := dst_rem liar j hll hj3
      rw [hds.out] at e14
      obtain ⟨S', hS'⟩ : ∃ S', Hid ((if X.bl ≤ 80 then putSy ⟨liar, dst, X.bs⟩ A.S else A.S) = S') := ⟨_, hide rfl⟩
      have HC : Hid (Calls Tryz.prog 40 #[.pointer (some ⟨E.D.p, 0, none⟩), .int .i64 (liar : Int), .int .i64 (dst : Int), .slice X.ba X.bl X.bc] V.drew fun e w2 => (∃ v, e = .returned v) ∧ (w2.cell? ⟨q, 4, none⟩ = some (.int .i64 (liar : Int)) ∧ w2.cell? ⟨w.heap.size, 2, none⟩ = some (.int .i64 X.n) ∧ w2.cell? ⟨w.heap.size, 28, none⟩ = some (.slice X.ba X.bl X.bc)) ∧ ∃ A', StepTo L win liar X.wh A A' ∧ TaGo w w2 N q E L win liar A') := hide (by
        have hD := HV.out.below (Below.refl _ _).drew
        refine (says_any N E.D L win A.S V.drew liar dst X.ba X.bl X.bc X.bs hll hd3 hdl hD.ta.sy (hby.below hD.old) (by omega) HI.out.inv.many hD.ta.size).mono ?_
        rintro e w2 ⟨he, hg⟩
        obtain ⟨E2, _, _, _, _, hT2, _⟩ := hD.ta.went hg
        refine ⟨he, ⟨(hT2.at 4).trans rfl, hD.stay hg 2, (hD.stay hg 28).trans (sdL_bytes X)⟩, ?_⟩
        by_cases hx : X.bl ≤ 80
        · rw [if_pos hx] at hg
          exact ⟨_, StepTo.says A dst X.bs hll hd3 hby.2.2.1 (by rw [hby.1]; exact hx), hD.went hg⟩
        · rw [if_neg hx] at hg
          exact ⟨_, StepTo.same A, hD.went hg⟩)
      clear hS' hby
      go_wp2_with fail
      refine wp_region_held_drew (S := fun w' => w'.cell? ⟨q, 4, none⟩ = some (.int .i64 (liar : Int)) ∧ w'.cell? ⟨w.heap.size, 2, none⟩ = some (.int .i64 X.n) ∧ w'.cell? ⟨w.heap.size, 28, none⟩ = some (.slice X.ba X.bl X.bc)) (by kernel_rfl) ⟨c4, x2, x28⟩ (fun hHeld => ?_)
      refine wpAnyH_take (i := 0) (oi := _) (v := .pointer (some ⟨E.D.p, 0, none⟩)) rfl (by kernel_rfl) (by kernel_rfl) (by kernel_rfl) (fun _ _ _ h => h) (Or.inl ⟨by rfl, fun w _ => by go_simp⟩) hHeld ?_
      refine wpAnyH_take (i := 1) (oi := _) (v := .pointer (some ⟨q, 0, none⟩)) rfl (by kernel_rfl) (by kernel_rfl) (by kernel_rfl) (fun _ _ _ h => h) (Or.inl ⟨by rfl, fun w _ => by go_simp⟩) hHeld ?_
      refine wpAnyH_take (i := 2) (oi := _) (v := .pointer (some ⟨q, 0, none⟩)) rfl (by kernel_rfl) (by kernel_rfl) (by kernel_rfl) (fun _ _ _ h => h) (Or.inl ⟨by rfl, fun w _ => by go_simp⟩) hHeld ?_
      refine wpAnyH_take (i := 3) (oi := _) (v := .pointer (some ⟨q, 4, none⟩)) rfl (by kernel_rfl) (by kernel_rfl) (by kernel_rfl) (fun _ _ _ h => h) (Or.inl ⟨by rfl, fun w _ => by go_simp⟩) hHeld ?_
      refine wpAnyH_take (i := 4) (oi := _) (v := .int .i64 (liar : Int)) rfl (by kernel_rfl) (by kernel_rfl) (by kernel_rfl) (fun _ _ _ h => h) (Or.inl ⟨by rfl, fun w h => by obtain ⟨h1, h2, h3⟩ := h; go_simp⟩) hHeld ?_
      refine wpAnyH_take (i := 5) (oi := _) (v := .pointer (some ⟨q, 0, none⟩)) rfl (by kernel_rfl) (by kernel_rfl) (by kernel_rfl) (fun _ _ _ h => h) (Or.inl ⟨by rfl, fun w _ => by go_simp⟩) hHeld ?_
      refine wpAnyH_take (i := 6) (oi := _) (v := .pointer (some ⟨q, 0, none⟩)) rfl (by kernel_rfl) (by kernel_rfl) (by kernel_rfl) (fun _ _ _ h => h) (Or.inl ⟨by rfl, fun w _ => by go_simp⟩) hHeld ?_
      refine wpAnyH_take (i := 7) (oi := _) (v := .pointer (some ⟨q, 4, none⟩)) rfl (by kernel_rfl) (by kernel_rfl) (by kernel_rfl) (fun _ _ _ h => h) (Or.inl ⟨by rfl, fun w _ => by go_simp⟩) hHeld ?_
      refine wpAnyH_take (i := 8) (oi := _) (v := .int .i64 (liar : Int)) rfl (by kernel_rfl) (by kernel_rfl) (by kernel_rfl) (fun _ _ _ h => h) (Or.inl ⟨by rfl, fun w h => by obtain ⟨h1, h2, h3⟩ := h; go_simp⟩) hHeld ?_
      refine wpAnyH_take (i := 9) (oi := _) (v := .int .i64 ((liar : Int) + 1)) rfl (by kernel_rfl) (by kernel_rfl) (by kernel_rfl) (fun _ _ _ h => h) (Or.inl ⟨by rfl, fun w _ => by go_simp; simp [IntKind.wrap, IntKind.bits, IntKind.signed]; omega⟩) hHeld ?_
      refine wpAnyH_take (i := 10) (oi := _) (v := .pointer (some ⟨w.heap.size, 2, none⟩)) rfl (by kernel_rfl) (by kernel_rfl) (by kernel_rfl) (fun _ _ _ h => h) (Or.inl ⟨by rfl, fun w _ => by go_simp⟩) hHeld ?_
      refine wpAnyH_take (i := 11) (oi := _) (v := .int .i64 X.n) rfl (by kernel_rfl) (by kernel_rfl) (by kernel_rfl) (fun _ _ _ h => h) (Or.inl ⟨by rfl, fun w h => by obtain ⟨h1, h2, h3⟩ := h; go_simp⟩) hHeld ?_
      refine wpAnyH_take (i := 15) (oi := _) (v := .pointer (some ⟨w.heap.size, 28, none⟩)) rfl (by kernel_rfl) (by kernel_rfl) (by kernel_rfl) (fun _ _ _ h => h) (Or.inl ⟨by rfl, fun w _ => by go_simp⟩) hHeld ?_
      refine wpAnyH_take (i := 16) (oi := _) (v := .slice X.ba X.bl X.bc) rfl (by kernel_rfl) (by kernel_rfl) (by kernel_rfl) (fun _ _ _ h => h) (Or.inl ⟨by rfl, fun w h => by obtain ⟨h1, h2, h3⟩ := h; go_simp⟩) hHeld ?_
      refine wpAnyH_ready (rs := [12]) (by kernel_rfl) (by simp) ?_
      refine AllReadyH.cons (o := _) rfl (fun K hK => ?_) AllReadyH.nil
      rw [if_pos (by rfl)]
      go_simp
      go_at_call 25
      refine (unhide HPA _).mono ?_
      rintro e w5 ⟨rfl, rfl⟩
      dsimp only
      refine hK.out _ _ ⟨c4, x2, x28⟩ (fun hHeld => ?_)
      clear hK K
      refine wpAnyH_take (i := 13) (oi := _) (v := .int .i64 ((liar : Int) + 1 + (j : Int))) rfl (by kernel_rfl) (by kernel_rfl) (by kernel_rfl) (fun _ _ _ h => h) (Or.inl ⟨by rfl, fun w _ => by go_simp; simp [IntKind.wrap, IntKind.bits, IntKind.signed]; omega⟩) hHeld ?_
      refine wpAnyH_take (i := 14) (oi := _) (v := .int .i64 (dst : Int)) rfl (by kernel_rfl) (by kernel_rfl) (by kernel_rfl) (fun _ _ _ h => h) (Or.inl ⟨by rfl, fun w _ => by go_simp⟩) hHeld ?_
      refine wpAnyH_ready (rs := [17]) (by kernel_rfl) (by simp) ?_
      refine AllReadyH.cons (o := _) rfl (fun K hK => ?_) AllReadyH.nil
      rw [if_pos (by rfl)]
      go_simp
      go_at_call 40
      refine HC.out.mono ?_
      rintro e w6 ⟨⟨ev, rfl⟩, hx6, HS6⟩
      dsimp only
      have HG := hide HS6
      clear HS6
      refine hK.out _ _ hx6 (fun hHeld => ?_)
      clear hK K
      refine wpAnyH_done (by kernel_rfl) ?_ _
      go_wp2_with fail
      go_end0
      exact ⟨rfl, HG.out⟩
    · have hll' : ¬ (liar : Int) < 3 := by omega
      go_wp2_with fail
      go_end0
      exact ⟨rfl, A, StepTo.same A, HV.out.ta.goes.pre HV.out.old⟩
end Go.Proofs.YtaablbmgagiajabGreatDoor
