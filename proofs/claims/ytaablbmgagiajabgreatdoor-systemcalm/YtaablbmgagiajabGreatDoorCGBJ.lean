import Derived.Test.YtaablbmgagiajabGreatDoorCGBF
namespace Go.Proofs.YtaablbmgagiajabGreatDoor
open Go.RowKit Go.Deep
theorem enc_few (F : FR) : (bytesF F).length ≤ 80 := (pk_sent (L := ⟨0, 0, 0, [], 0, 0, 0, 0, 0, 0⟩) (W := fun _ _ _ _ => True) (liar := 0) (tr := []) (src := 0) (dst := 0) (F := F) (by omega) (by omega) (.inl ⟨rfl, by omega⟩)).len
set_option maxHeartbeats 1000000 in
set_option maxRecDepth 20000 in
theorem does_8 (N q : Nat) (E : TC) (L : RC) (win liar T : Nat) (A : TS) (w : World) (X : SD) (h : TaIs w N q E L win liar A) (hI : TlInv L liar win T A) (hL : LOk L)  (hwh : X.wh = 8) :
    Calls Tryz.prog 12 #[.pointer (some ⟨q, 0, none⟩), .agg (sdL X).toArray] w fun e w' => e = .returned (.tuple #[]) ∧ ∃ A', StepTo L win liar X.wh A A' ∧ TaGo w w' N q E L win liar A' := by
  obtain ⟨W, hW⟩ : ∃ W, Hid (w.alloc (.cells (sdL X).toArray 39) = W) := ⟨_, hide rfl⟩
  have hBW : Below w.heap.size w W := by rw [← hW.out]; exact (Below.refl _ _).alloc (Nat.le_refl _) _
  have HDO : Hid (DoIn W w N q E L win liar A X) := hide ⟨hBW, h.below hBW, by rw [← hW.out]; exact blk_new _ _⟩
  have x1 := HDO.out.x1
  have c0 := HDO.out.c0
  have HPK := hide fun wx => pick_any X.k 3 wx (by decide) (by decide)
  obtain ⟨k1, k2⟩ := pickF_in X.k 3 (by decide) (by decide)
  obtain ⟨k, hk⟩ := Int.eq_ofNat_of_zero_le k1
  rw [hk] at HPK k2
  have hk3 : k < 3 := by omega
  obtain ⟨cs, hcs⟩ : ∃ cs, Hid ((sdL X).toArray = cs) := ⟨_, hide rfl⟩
  rw [hcs.out] at hW ⊢
  have hle := hI.inv.many
  have HI := hide hI
  have HL := hide hL
  have HWH := hide hwh
  clear h hBW hk k1 hwh hI hL
  go_enter Tryz.func12, Tryz.ntmps12
  go_wp2_with fail
  rw [show w.alloc (.cells cs 39) = W from hW.out]
  clear hW hcs
  go_quiet ((go_at_call 25; exact Calls.quiet_of_same (unhide HPK _)))
  have HV : Hid (DoIn (W.drewN nq) w N q E L win liar A X) := hide (HDO.out.below (below_drewN (Below.refl _ _) nq))
  generalize W.drewN nq = V at HV ⊢
  clear HDO x1 c0 HPK
  have x2 := HV.out.x2
  have x0 := HV.out.x0
  have hVl : w.heap.size < V.heap.size := blk_lt HV.out.box
  rw [HWH.out] at x0
  have HMN := hide (many_any N E.D L win A.S V HV.out.ta.sy)
  have HPN := hide fun wx (hp : 0 < (A.S.net.length : Int)) => pick_any X.n (A.S.net.length : Int) wx hp (by omega)
  have hpin := fun hp => pickF_in X.n (A.S.net.length : Int) hp (by omega)
  obtain ⟨m, hm⟩ : ∃ m, Hid (A.S.net.length = m) := ⟨_, hide rfl⟩
  rw [hm.out] at HMN HPN hpin hle
  have hql := HV.out.ta.lt
  go_wp2_with fail
  refine HMN.out.mono ?_
  rintro e wz ⟨rfl, hwz⟩
  subst wz
  by_cases hm0 : m = 0
  · have hm0' : ¬ (0 : Int) < (m : Int) := by omega
    clear HPN hpin
    have c4 := HV.out.c4
    by_cases hll : liar < 3
    · have hll' : (liar : Int) < 3 := by omega
      have HR := hide HV.out.frame
      have HF0 : Hid (FIs (V.alloc (.cells (fCells fr0) 36)) V.heap.size 36 fr0) := hide (blk_new _ _)
      go_wp2_with (first
        | (refine wpList_load_mid rfl 36 _ rfl w.heap.size 5 rfl (fCells X.F).toList _ HR.out Tryz.underlying36 rfl (by rw [infoFrame]; rfl) ?_)
        | (refine wpList_store_fl rfl _ _ rfl V.heap.size X.F rfl rfl fr0 HF0.out ?_))
      intro w1 HF1
      have hB1 : Below V.heap.size V w1 := ((Below.refl _ _).alloc (Nat.le_refl _) _).trans (HF1.out.2.2 V.heap.size (Nat.le_refl _))
      have hD1 := HV.out.below hB1
      have z4 := hD1.c4
      have hf1 := HF1.out.1.at (k := 1) (by decide)
      have hf2 := HF1.out.1.free 1
      have HF2 := hide (HF1.out.1.put (k := 1) (by decide) (liar : Int))
      have hB2 : Below V.heap.size V (w1.setCell ⟨V.heap.size, 1, none⟩ (.int .i64 (liar : Int))) := hB1.setCell (Nat.le_refl _) _
      have HD2 := hide (HV.out.below hB2)
      have HEN := hide (enc_any (upd X.F 1 (liar : Int)) (w1.setCell ⟨V.heap.size, 1, none⟩ (.int .i64 (liar : Int))))
      have hblen := enc_few (upd X.F 1 (liar : Int))
      clear HF0 HR hB1 hD1 hB2 HF1
      go_wp2_with (first
        | (refine wpList_load_f rfl _ rfl V.heap.size rfl (upd X.F 1 (liar : Int)) HF2.out ?_)
        | (go_at_call 39; refine HEN.out.mono ?_))
      rintro e w3 ⟨⟨v, ev, rfl, hby, hy, hn⟩, hB3⟩
      have hD3 := HD2.out.below hB3
      clear HF2 HD2 HEN
      cases hmb : mayB (upd X.F 1 (liar : Int))
      · have he := hn hmb
        subst he
        have HD3 := hide hD3
        clear hby hy hn hB3 hD3
        go_wp2_with fail
        go_end0
        exact ⟨rfl, A, StepTo.same A, HD3.out.ta.goes.pre HD3.out.old⟩
      · have he := hy hmb
        subst he
        clear hy hn
        obtain ⟨a1, a2⟩ := pickF_in X.n 3 (by decide) (by decide)
        obtain ⟨j, hj⟩ := Int.eq_ofNat_of_zero_le a1
        have HPA := hide fun wx => pick_any X.n 3 wx (by decide) (by decide)
        rw [hj] at HPA a2
        have hj3 : j < 3 := by omega
        obtain ⟨dst, hds⟩ : ∃ dst, Hid ((liar + 1 + j) % 4 = dst) := ⟨_, hide rfl⟩
        have hd3 : dst ≤ 3 := by rw [← hds.out]; omega
        have hdl : liar ≠ dst := by rw [← hds.out]; omega
        have e14 := dst_rem liar j hll hj3
        rw [hds.out] at e14
        obtain ⟨ua, uc, rfl, hib⟩ := hby.isB
        obtain ⟨bs, hbs⟩ : ∃ bs, Hid (bytesF (upd X.F 1 (liar : Int)) = bs) := ⟨_, hide rfl⟩
        rw [hbs.out] at hib hblen
        have HC : Hid (Calls Tryz.prog 40 #[.pointer (some ⟨E.D.p, 0, none⟩), .int .i64 (liar : Int), .int .i64 (dst : Int), .slice ua bs.length uc] w3.drew fun e w2 => (∃ v, e = .returned v) ∧ (w2.cell? ⟨q, 4, none⟩ = some (.int .i64 (liar : Int)) ∧ w2.cell? ⟨w.heap.size, 2, none⟩ = some (.int .i64 X.n)) ∧ ∃ A', StepTo L win liar X.wh A A' ∧ TaGo w w2 N q E L win liar A') := hide (by
          have hD := hD3.below (Below.refl _ _).drew
          refine (says_any N E.D L win A.S w3.drew liar dst ua bs.length uc bs hll hd3 hdl hD.ta.sy (hib.below (Below.refl _ _).drew) (by omega) HI.out.inv.many hD.ta.size).mono ?_
          rintro e w2 ⟨he, hg⟩
          obtain ⟨E2, _, _, _, _, hT2, _⟩ := hD.ta.went hg
          refine ⟨he, ⟨(hT2.at 4).trans rfl, hD.stay hg 2⟩, ?_⟩
          rw [if_pos hblen] at hg
          exact ⟨_, StepTo.says A dst bs hll hd3 hib.2.2.1 hblen, hD.went hg⟩)
        have y4 := hD3.c4
        have y2 := hD3.x2
        rw [hbs.out]
        clear hby hib hD3 hB3 hbs
        go_wp2_with fail
        refine wp_region_held_drew (S := fun w' => w'.cell? ⟨q, 4, none⟩ = some (.int .i64 (liar : Int)) ∧ w'.cell? ⟨w.heap.size, 2, none⟩ = some (.int .i64 X.n)) (by kernel_rfl) ⟨y4, y2⟩ (fun hHeld => ?_)
        refine wpAnyH_take (i := 0) (oi := _) (v := .pointer (some ⟨E.D.p, 0, none⟩)) rfl (by kernel_rfl) (by kernel_rfl) (by kernel_rfl) (fun _ _ _ h => h) (Or.inl ⟨by rfl, fun w _ => by go_simp⟩) hHeld ?_
        refine wpAnyH_take (i := 1) (oi := _) (v := .pointer (some ⟨q, 0, none⟩)) rfl (by kernel_rfl) (by kernel_rfl) (by kernel_rfl) (fun _ _ _ h => h) (Or.inl ⟨by rfl, fun w _ => by go_simp⟩) hHeld ?_
        refine wpAnyH_take (i := 2) (oi := _) (v := .pointer (some ⟨q, 0, none⟩)) rfl (by kernel_rfl) (by kernel_rfl) (by kernel_rfl) (fun _ _ _ h => h) (Or.inl ⟨by rfl, fun w _ => by go_simp⟩) hHeld ?_
        refine wpAnyH_take (i := 3) (oi := _) (v := .pointer (some ⟨q, 4, none⟩)) rfl (by kernel_rfl) (by kernel_rfl) (by kernel_rfl) (fun _ _ _ h => h) (Or.inl ⟨by rfl, fun w _ => by go_simp⟩) hHeld ?_
        refine wpAnyH_take (i := 4) (oi := _) (v := .int .i64 (liar : Int)) rfl (by kernel_rfl) (by kernel_rfl) (by kernel_rfl) (fun _ _ _ h => h) (Or.inl ⟨by rfl, fun w h => by obtain ⟨h1, h2⟩ := h; go_simp⟩) hHeld ?_
        refine wpAnyH_take (i := 5) (oi := _) (v := .pointer (some ⟨q, 0, none⟩)) rfl (by kernel_rfl) (by kernel_rfl) (by kernel_rfl) (fun _ _ _ h => h) (Or.inl ⟨by rfl, fun w _ => by go_simp⟩) hHeld ?_
        refine wpAnyH_take (i := 6) (oi := _) (v := .pointer (some ⟨q, 0, none⟩)) rfl (by kernel_rfl) (by kernel_rfl) (by kernel_rfl) (fun _ _ _ h => h) (Or.inl ⟨by rfl, fun w _ => by go_simp⟩) hHeld ?_
        refine wpAnyH_take (i := 7) (oi := _) (v := .pointer (some ⟨q, 4, none⟩)) rfl (by kernel_rfl) (by kernel_rfl) (by kernel_rfl) (fun _ _ _ h => h) (Or.inl ⟨by rfl, fun w _ => by go_simp⟩) hHeld ?_
        refine wpAnyH_take (i := 8) (oi := _) (v := .int .i64 (liar : Int)) rfl (by kernel_rfl) (by kernel_rfl) (by kernel_rfl) (fun _ _ _ h => h) (Or.inl ⟨by rfl, fun w h => by obtain ⟨h1, h2⟩ := h; go_simp⟩) hHeld ?_
        refine wpAnyH_take (i := 9) (oi := _) (v := .int .i64 ((liar : Int) + 1)) rfl (by kernel_rfl) (by kernel_rfl) (by kernel_rfl) (fun _ _ _ h => h) (Or.inl ⟨by rfl, fun w _ => by go_simp; simp [IntKind.wrap, IntKind.bits, IntKind.signed]; omega⟩) hHeld ?_
        refine wpAnyH_take (i := 10) (oi := _) (v := .pointer (some ⟨w.heap.size, 2, none⟩)) rfl (by kernel_rfl) (by kernel_rfl) (by kernel_rfl) (fun _ _ _ h => h) (Or.inl ⟨by rfl, fun w _ => by go_simp⟩) hHeld ?_
        refine wpAnyH_take (i := 11) (oi := _) (v := .int .i64 X.n) rfl (by kernel_rfl) (by kernel_rfl) (by kernel_rfl) (fun _ _ _ h => h) (Or.inl ⟨by rfl, fun w h => by obtain ⟨h1, h2⟩ := h; go_simp⟩) hHeld ?_
        refine wpAnyH_take (i := 15) (oi := _) (v := .slice ua bs.length uc) rfl (by kernel_rfl) (by kernel_rfl) (by kernel_rfl) (fun _ _ _ h => h) (Or.inl ⟨by rfl, fun w _ => by go_simp⟩) hHeld ?_
        refine wpAnyH_ready (rs := [12]) (by kernel_rfl) (by simp) ?_
        refine AllReadyH.cons (o := _) rfl (fun K hK => ?_) AllReadyH.nil
        rw [if_pos (by rfl)]
        go_simp
        go_at_call 25
        refine (unhide HPA _).mono ?_
        rintro e w5 ⟨rfl, rfl⟩
        dsimp only
        refine hK.out _ _ ⟨y4, y2⟩ (fun hHeld => ?_)
        clear hK K
        refine wpAnyH_take (i := 13) (oi := _) (v := .int .i64 ((liar : Int) + 1 + (j : Int))) rfl (by kernel_rfl) (by kernel_rfl) (by kernel_rfl) (fun _ _ _ h => h) (Or.inl ⟨by rfl, fun w _ => by go_simp; simp [IntKind.wrap, IntKind.bits, IntKind.signed]; omega⟩) hHeld ?_
        refine wpAnyH_take (i := 14) (oi := _) (v := .int .i64 (dst : Int)) rfl (by kernel_rfl) (by kernel_rfl) (by kernel_rfl) (fun _ _ _ h => h) (Or.inl ⟨by rfl, fun w _ => by go_simp⟩) hHeld ?_
        refine wpAnyH_ready (rs := [16]) (by kernel_rfl) (by simp) ?_
        refine AllReadyH.cons (o := _) rfl (fun K hK => ?_) AllReadyH.nil
        rw [if_pos (by rfl)]
        go_simp
        go_at_call 40
        refine HC.out.mono ?_
        rintro e w6 ⟨⟨ev, rfl⟩, hx6, HS6⟩
        dsimp only
        have HG := hide HS6
        clear HS6
        refine hK.out _ _ hx6 (fun hHeld => ?_)
        clear hK K
        refine wpAnyH_done (by kernel_rfl) ?_ _
        go_wp2_with fail
        go_end0
        exact ⟨rfl, HG.out⟩
    · have hll' : ¬ (liar : Int) < 3 := by omega
      go_wp2_with fail
      go_end0
      exact ⟨rfl, A, StepTo.same A, HV.out.ta.goes.pre HV.out.old⟩
  · have hm0' : (0 : Int) < (m : Int) := by omega
    obtain ⟨j1, j2⟩ := hpin hm0'
    obtain ⟨i, hi⟩ := Int.eq_ofNat_of_zero_le j1
    have HPI := hide fun wx => HPN.out wx hm0'
    rw [hi] at HPI j2
    have hil : i < m := by omega
    clear HPN hpin j1 hi
    go_wp2_with (go_at_call 25; refine (unhide HPI _).mono ?_)
    rintro e wz ⟨rfl, hwz⟩
    subst wz
    have c4 := HV.out.c4
    by_cases hll : liar < 3
    · have hll' : (liar : Int) < 3 := by omega
      have HR := hide HV.out.frame
      have HF0 : Hid (FIs (V.alloc (.cells (fCells fr0) 36)) V.heap.size 36 fr0) := hide (blk_new _ _)
      go_wp2_with (first
        | (refine wpList_load_mid rfl 36 _ rfl w.heap.size 5 rfl (fCells X.F).toList _ HR.out Tryz.underlying36 rfl (by rw [infoFrame]; rfl) ?_)
        | (refine wpList_store_fl rfl _ _ rfl V.heap.size X.F rfl rfl fr0 HF0.out ?_))
      intro w1 HF1
      have hB1 : Below V.heap.size V w1 := ((Below.refl _ _).alloc (Nat.le_refl _) _).trans (HF1.out.2.2 V.heap.size (Nat.le_refl _))
      have hD1 := HV.out.below hB1
      have z4 := hD1.c4
      have hf1 := HF1.out.1.at (k := 1) (by decide)
      have hf2 := HF1.out.1.free 1
      have HF2 := hide (HF1.out.1.put (k := 1) (by decide) (liar : Int))
      have hB2 : Below V.heap.size V (w1.setCell ⟨V.heap.size, 1, none⟩ (.int .i64 (liar : Int))) := hB1.setCell (Nat.le_refl _) _
      have HD2 := hide (HV.out.below hB2)
      have HEN := hide (enc_any (upd X.F 1 (liar : Int)) (w1.setCell ⟨V.heap.size, 1, none⟩ (.int .i64 (liar : Int))))
      have hblen := enc_few (upd X.F 1 (liar : Int))
      clear HF0 HR hB1 hD1 hB2 HF1
      go_wp2_with (first
        | (refine wpList_load_f rfl _ rfl V.heap.size rfl (upd X.F 1 (liar : Int)) HF2.out ?_)
        | (go_at_call 39; refine HEN.out.mono ?_))
      rintro e w3 ⟨⟨v, ev, rfl, hby, hy, hn⟩, hB3⟩
      have hD3 := HD2.out.below hB3
      clear HF2 HD2 HEN
      cases hmb : mayB (upd X.F 1 (liar : Int))
      · have he := hn hmb
        subst he
        have HD3 := hide hD3
        clear hby hy hn hB3 hD3
        go_wp2_with fail
        go_end0
        exact ⟨rfl, A, StepTo.same A, HD3.out.ta.goes.pre HD3.out.old⟩
      · have he := hy hmb
        subst he
        clear hy hn
        obtain ⟨a1, a2⟩ := pickF_in X.n 3 (by decide) (by decide)
        obtain ⟨j, hj⟩ := Int.eq_ofNat_of_zero_le a1
        have HPA := hide fun wx => pick_any X.n 3 wx (by decide) (by decide)
        rw [hj] at HPA a2
        have hj3 : j < 3 := by omega
        obtain ⟨dst, hds⟩ : ∃ dst, Hid ((liar + 1 + j) % 4 = dst) := ⟨_, hide rfl⟩
        have hd3 : dst ≤ 3 := by rw [← hds.out]; omega
        have hdl : liar ≠ dst := by rw [← hds.out]; omega
        have e14 := dst_rem liar j hll hj3
        rw [hds.out] at e14
        obtain ⟨ua, uc, rfl, hib⟩ := hby.isB
        obtain ⟨bs, hbs⟩ : ∃ bs, Hid (bytesF (upd X.F 1 (liar : Int)) = bs) := ⟨_, hide rfl⟩
        rw [hbs.out] at hib hblen
        have HC : Hid (Calls Tryz.prog 40 #[.pointer (some ⟨E.D.p, 0, none⟩), .int .i64 (liar : Int), .int .i64 (dst : Int), .slice ua bs.length uc] w3.drew fun e w2 => (∃ v, e = .returned v) ∧ (w2.cell? ⟨q, 4, none⟩ = some (.int .i64 (liar : Int)) ∧ w2.cell? ⟨w.heap.size, 2, none⟩ = some (.int .i64 X.n)) ∧ ∃ A', StepTo L win liar X.wh A A' ∧ TaGo w w2 N q E L win liar A') := hide (by
          have hD := hD3.below (Below.refl _ _).drew
          refine (says_any N E.D L win A.S w3.drew liar dst ua bs.length uc bs hll hd3 hdl hD.ta.sy (hib.below (Below.refl _ _).drew) (by omega) HI.out.inv.many hD.ta.size).mono ?_
          rintro e w2 ⟨he, hg⟩
          obtain ⟨E2, _, _, _, _, hT2, _⟩ := hD.ta.went hg
          refine ⟨he, ⟨(hT2.at 4).trans rfl, hD.stay hg 2⟩, ?_⟩
          rw [if_pos hblen] at hg
          exact ⟨_, StepTo.says A dst bs hll hd3 hib.2.2.1 hblen, hD.went hg⟩)
        have y4 := hD3.c4
        have y2 := hD3.x2
        rw [hbs.out]
        clear hby hib hD3 hB3 hbs
        go_wp2_with fail
        refine wp_region_held_drew (S := fun w' => w'.cell? ⟨q, 4, none⟩ = some (.int .i64 (liar : Int)) ∧ w'.cell? ⟨w.heap.size, 2, none⟩ = some (.int .i64 X.n)) (by kernel_rfl) ⟨y4, y2⟩ (fun hHeld => ?_)
        refine wpAnyH_take (i := 0) (oi := _) (v := .pointer (some ⟨E.D.p, 0, none⟩)) rfl (by kernel_rfl) (by kernel_rfl) (by kernel_rfl) (fun _ _ _ h => h) (Or.inl ⟨by rfl, fun w _ => by go_simp⟩) hHeld ?_
        refine wpAnyH_take (i := 1) (oi := _) (v := .pointer (some ⟨q, 0, none⟩)) rfl (by kernel_rfl) (by kernel_rfl) (by kernel_rfl) (fun _ _ _ h => h) (Or.inl ⟨by rfl, fun w _ => by go_simp⟩) hHeld ?_
        refine wpAnyH_take (i := 2) (oi := _) (v := .pointer (some ⟨q, 0, none⟩)) rfl (by kernel_rfl) (by kernel_rfl) (by kernel_rfl) (fun _ _ _ h => h) (Or.inl ⟨by rfl, fun w _ => by go_simp⟩) hHeld ?_
        refine wpAnyH_take (i := 3) (oi := _) (v := .pointer (some ⟨q, 4, none⟩)) rfl (by kernel_rfl) (by kernel_rfl) (by kernel_rfl) (fun _ _ _ h => h) (Or.inl ⟨by rfl, fun w _ => by go_simp⟩) hHeld ?_
        refine wpAnyH_take (i := 4) (oi := _) (v := .int .i64 (liar : Int)) rfl (by kernel_rfl) (by kernel_rfl) (by kernel_rfl) (fun _ _ _ h => h) (Or.inl ⟨by rfl, fun w h => by obtain ⟨h1, h2⟩ := h; go_simp⟩) hHeld ?_
        refine wpAnyH_take (i := 5) (oi := _) (v := .pointer (some ⟨q, 0, none⟩)) rfl (by kernel_rfl) (by kernel_rfl) (by kernel_rfl) (fun _ _ _ h => h) (Or.inl ⟨by rfl, fun w _ => by go_simp⟩) hHeld ?_
        refine wpAnyH_take (i := 6) (oi := _) (v := .pointer (some ⟨q, 0, none⟩)) rfl (by kernel_rfl) (by kernel_rfl) (by kernel_rfl) (fun _ _ _ h => h) (Or.inl ⟨by rfl, fun w _ => by go_simp⟩) hHeld ?_
        refine wpAnyH_take (i := 7) (oi := _) (v := .pointer (some ⟨q, 4, none⟩)) rfl (by kernel_rfl) (by kernel_rfl) (by kernel_rfl) (fun _ _ _ h => h) (Or.inl ⟨by rfl, fun w _ => by go_simp⟩) hHeld ?_
        refine wpAnyH_take (i := 8) (oi := _) (v := .int .i64 (liar : Int)) rfl (by kernel_rfl) (by kernel_rfl) (by kernel_rfl) (fun _ _ _ h => h) (Or.inl ⟨by rfl, fun w h => by obtain ⟨h1, h2⟩ := h; go_simp⟩) hHeld ?_
        refine wpAnyH_take (i := 9) (oi := _) (v := .int .i64 ((liar : Int) + 1)) rfl (by kernel_rfl) (by kernel_rfl) (by kernel_rfl) (fun _ _ _ h => h) (Or.inl ⟨by rfl, fun w _ => by go_simp; simp [IntKind.wrap, IntKind.bits, IntKind.signed]; omega⟩) hHeld ?_
        refine wpAnyH_take (i := 10) (oi := _) (v := .pointer (some ⟨w.heap.size, 2, none⟩)) rfl (by kernel_rfl) (by kernel_rfl) (by kernel_rfl) (fun _ _ _ h => h) (Or.inl ⟨by rfl, fun w _ => by go_simp⟩) hHeld ?_
        refine wpAnyH_take (i := 11) (oi := _) (v := .int .i64 X.n) rfl (by kernel_rfl) (by kernel_rfl) (by kernel_rfl) (fun _ _ _ h => h) (Or.inl ⟨by rfl, fun w h => by obtain ⟨h1, h2⟩ := h; go_simp⟩) hHeld ?_
        refine wpAnyH_take (i := 15) (oi := _) (v := .slice ua bs.length uc) rfl (by kernel_rfl) (by kernel_rfl) (by kernel_rfl) (fun _ _ _ h => h) (Or.inl ⟨by rfl, fun w _ => by go_simp⟩) hHeld ?_
        refine wpAnyH_ready (rs := [12]) (by kernel_rfl) (by simp) ?_
        refine AllReadyH.cons (o := _) rfl (fun K hK => ?_) AllReadyH.nil
        rw [if_pos (by rfl)]
        go_simp
        go_at_call 25
        refine (unhide HPA _).mono ?_
        rintro e w5 ⟨rfl, rfl⟩
        dsimp only
        refine hK.out _ _ ⟨y4, y2⟩ (fun hHeld => ?_)
        clear hK K
        refine wpAnyH_take (i := 13) (oi := _) (v := .int .i64 ((liar : Int) + 1 + (j : Int))) rfl (by kernel_rfl) (by kernel_rfl) (by kernel_rfl) (fun _ _ _ h => h) (Or.inl ⟨by rfl, fun w _ => by go_simp; simp [IntKind.wrap, IntKind.bits, IntKind.signed]; omega⟩) hHeld ?_
        refine wpAnyH_take (i := 14) (oi := _) (v := .int .i64 (dst : Int)) rfl (by kernel_rfl) (by kernel_rfl) (by kernel_rfl) (fun _ _ _ h => h) (Or.inl ⟨by rfl, fun w _ => by go_simp⟩) hHeld ?_
        refine wpAnyH_ready (rs := [16]) (by kernel_rfl) (by simp) ?_
        refine AllReadyH.cons (o := _) rfl (fun K hK => ?_) AllReadyH.nil
        rw [if_pos (by rfl)]
        go_simp
        go_at_call 40
        refine HC.out.mono ?_
        rintro e w6 ⟨⟨ev, rfl⟩, hx6, HS6⟩
        dsimp only
        have HG := hide HS6
        clear HS6
        refine hK.out _ _ hx6 (fun hHeld => ?_)
        clear hK K
        refine wpAnyH_done (by kernel_rfl) ?_ _
        go_wp2_with fail
        go_end0
        exact ⟨rfl, HG.out⟩
    · have hll' : ¬ (liar : Int) < 3 := by omega
      go_wp2_with fail
      go_end0
      exact ⟨rfl, A, StepTo.same A, HV.out.ta.goes.pre HV.out.old⟩
end Go.Proofs.YtaablbmgagiajabGreatDoor
