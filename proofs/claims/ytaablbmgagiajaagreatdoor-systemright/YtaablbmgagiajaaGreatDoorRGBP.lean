import Derived.Test.YtaablbmgagiajaaGreatDoorRGBN
namespace Go.Proofs.YtaablbmgagiajaaGreatDoor
open Go.RowKit Go.Deep
set_option maxHeartbeats 1000000 in
set_option maxRecDepth 20000 in
theorem does_3 (N q : Nat) (E : TC) (L : RC) (win liar T : Nat) (A : TS) (w : World) (X : SD) (h : TaIs w N q E L win liar A) (hI : TlInv L liar win T A) (hL : LOk L) (hT : T < 600000)  (hwh : X.wh = 3) :
    Calls Tryz.prog 8 #[.pointer (some ⟨q, 0, none⟩), .agg (sdL X).toArray] w fun e w' => e = .returned (.tuple #[]) ∧ ∃ A', StepTo L win liar X.wh A A' ∧ TaGo w w' N q E L win liar A' := by
  obtain ⟨W, hW⟩ : ∃ W, Hid (w.alloc (.cells (sdL X).toArray 38) = W) := ⟨_, hide rfl⟩
  have hBW : Below w.heap.size w W := by rw [← hW.out]; exact (Below.refl _ _).alloc (Nat.le_refl _) _
  have HDO : Hid (DoIn W w N q E L win liar A X) := hide ⟨hBW, h.below hBW, by rw [← hW.out]; exact blk_new _ _⟩
  have x1 := HDO.out.x1
  have c0 := HDO.out.c0
  have HPK := hide fun wx => pick_any X.k 3 wx (by decide) (by decide)
  obtain ⟨k1, k2⟩ := pickF_in X.k 3 (by decide) (by decide)
  obtain ⟨k, hk⟩ := Int.eq_ofNat_of_zero_le k1
  rw [hk] at HPK k2
  have hk3 : k < 3 := by omega
  obtain ⟨cs, hcs⟩ : ∃ cs, Hid ((sdL X).toArray = cs) := ⟨_, hide rfl⟩
  rw [hcs.out] at hW ⊢
  have hle := hI.inv.many
  have HI := hide hI
  have HL := hide hL
  have HWH := hide hwh
  clear h hBW hk k1 hwh hI hL
  go_enter Tryz.func8, Tryz.ntmps8
  go_wp2_with fail
  rw [show w.alloc (.cells cs 38) = W from hW.out]
  clear hW hcs
  go_quiet ((go_at_call 22; exact Calls.quiet_of_same (unhide HPK _)))
  have HV : Hid (DoIn (W.drewN nq) w N q E L win liar A X) := hide (HDO.out.below (below_drewN (Below.refl _ _) nq))
  generalize W.drewN nq = V at HV ⊢
  clear HDO x1 c0 HPK
  have x2 := HV.out.x2
  have x0 := HV.out.x0
  have hVl : w.heap.size < V.heap.size := blk_lt HV.out.box
  rw [HWH.out] at x0
  have HMN := hide (many_any N E.D L win A.S V HV.out.ta.sy)
  have HPN := hide fun wx (hp : 0 < (A.S.net.length : Int)) => pick_any X.n (A.S.net.length : Int) wx hp (by omega)
  have hpin := fun hp => pickF_in X.n (A.S.net.length : Int) hp (by omega)
  obtain ⟨m, hm⟩ : ∃ m, Hid (A.S.net.length = m) := ⟨_, hide rfl⟩
  rw [hm.out] at HMN HPN hpin hle
  go_wp2_with fail
  refine HMN.out.mono ?_
  rintro e wz ⟨rfl, hwz⟩
  subst wz
  by_cases hm0 : m = 0
  · have hm0' : ¬ (0 : Int) < (m : Int) := by omega
    clear HPN hpin
    have HC := hide (deliver_any N E.D L win A.S V 0 HV.out.ta.sy HI.out.inv HL.out (by omega) HV.out.ta.size)
    obtain ⟨S', hS'⟩ : ∃ S', Hid ((if 0 < A.S.net.length then arriveSy L win 0 A.S else A.S) = S') := ⟨_, hide rfl⟩
    rw [hS'.out] at HC
    go_wp2_with (go_at_call 27; refine HC.out.mono ?_)
    rintro e w2 ⟨he, hg⟩
    have HG := hide (HV.out.went hg)
    obtain ⟨ev, rfl⟩ := he
    clear hg
    go_wp2_with fail
    go_end0
    by_cases hx : 0 < A.S.net.length
    · rw [if_pos hx] at hS'
      rw [← hS'.out] at HG
      exact ⟨rfl, _, StepTo.arrive A 0 hx, HG.out⟩
    · rw [if_neg hx] at hS'
      rw [← hS'.out] at HG
      exact ⟨rfl, _, StepTo.same A, HG.out⟩
  · have hm0' : (0 : Int) < (m : Int) := by omega
    obtain ⟨j1, j2⟩ := hpin hm0'
    obtain ⟨i, hi⟩ := Int.eq_ofNat_of_zero_le j1
    have HPI := hide fun wx => HPN.out wx hm0'
    rw [hi] at HPI j2
    have hil : i < m := by omega
    clear HPN hpin j1 hi
    go_wp2_with (go_at_call 22; refine (unhide HPI _).mono ?_)
    rintro e wz ⟨rfl, hwz⟩
    subst wz
    have HC := hide (deliver_any N E.D L win A.S V i HV.out.ta.sy HI.out.inv HL.out (by omega) HV.out.ta.size)
    obtain ⟨S', hS'⟩ : ∃ S', Hid ((if i < A.S.net.length then arriveSy L win i A.S else A.S) = S') := ⟨_, hide rfl⟩
    rw [hS'.out] at HC
    go_wp2_with (go_at_call 27; refine HC.out.mono ?_)
    rintro e w2 ⟨he, hg⟩
    have HG := hide (HV.out.went hg)
    obtain ⟨ev, rfl⟩ := he
    clear hg
    go_wp2_with fail
    go_end0
    by_cases hx : i < A.S.net.length
    · rw [if_pos hx] at hS'
      rw [← hS'.out] at HG
      exact ⟨rfl, _, StepTo.arrive A i hx, HG.out⟩
    · rw [if_neg hx] at hS'
      rw [← hS'.out] at HG
      exact ⟨rfl, _, StepTo.same A, HG.out⟩
set_option maxHeartbeats 1000000 in
set_option maxRecDepth 20000 in
theorem does_4 (N q : Nat) (E : TC) (L : RC) (win liar T : Nat) (A : TS) (w : World) (X : SD) (h : TaIs w N q E L win liar A) (hI : TlInv L liar win T A) (hL : LOk L)  (hwh : X.wh = 4) :
    Calls Tryz.prog 8 #[.pointer (some ⟨q, 0, none⟩), .agg (sdL X).toArray] w fun e w' => e = .returned (.tuple #[]) ∧ ∃ A', StepTo L win liar X.wh A A' ∧ TaGo w w' N q E L win liar A' := by
  obtain ⟨W, hW⟩ : ∃ W, Hid (w.alloc (.cells (sdL X).toArray 38) = W) := ⟨_, hide rfl⟩
  have hBW : Below w.heap.size w W := by rw [← hW.out]; exact (Below.refl _ _).alloc (Nat.le_refl _) _
  have HDO : Hid (DoIn W w N q E L win liar A X) := hide ⟨hBW, h.below hBW, by rw [← hW.out]; exact blk_new _ _⟩
  have x1 := HDO.out.x1
  have c0 := HDO.out.c0
  have HPK := hide fun wx => pick_any X.k 3 wx (by decide) (by decide)
  obtain ⟨k1, k2⟩ := pickF_in X.k 3 (by decide) (by decide)
  obtain ⟨k, hk⟩ := Int.eq_ofNat_of_zero_le k1
  rw [hk] at HPK k2
  have hk3 : k < 3 := by omega
  obtain ⟨cs, hcs⟩ : ∃ cs, Hid ((sdL X).toArray = cs) := ⟨_, hide rfl⟩
  rw [hcs.out] at hW ⊢
  have hle := hI.inv.many
  have HI := hide hI
  have HL := hide hL
  have HWH := hide hwh
  clear h hBW hk k1 hwh hI hL
  go_enter Tryz.func8, Tryz.ntmps8
  go_wp2_with fail
  rw [show w.alloc (.cells cs 38) = W from hW.out]
  clear hW hcs
  go_quiet ((go_at_call 22; exact Calls.quiet_of_same (unhide HPK _)))
  have HV : Hid (DoIn (W.drewN nq) w N q E L win liar A X) := hide (HDO.out.below (below_drewN (Below.refl _ _) nq))
  generalize W.drewN nq = V at HV ⊢
  clear HDO x1 c0 HPK
  have x2 := HV.out.x2
  have x0 := HV.out.x0
  have hVl : w.heap.size < V.heap.size := blk_lt HV.out.box
  rw [HWH.out] at x0
  have HMN := hide (many_any N E.D L win A.S V HV.out.ta.sy)
  have HPN := hide fun wx (hp : 0 < (A.S.net.length : Int)) => pick_any X.n (A.S.net.length : Int) wx hp (by omega)
  have hpin := fun hp => pickF_in X.n (A.S.net.length : Int) hp (by omega)
  obtain ⟨m, hm⟩ : ∃ m, Hid (A.S.net.length = m) := ⟨_, hide rfl⟩
  rw [hm.out] at HMN HPN hpin hle
  go_wp2_with fail
  refine HMN.out.mono ?_
  rintro e wz ⟨rfl, hwz⟩
  subst wz
  by_cases hm0 : m = 0
  · have hm0' : ¬ (0 : Int) < (m : Int) := by omega
    clear HPN hpin
    have HC := hide (lose_any N E.D L win A.S V 0 HV.out.ta.sy HI.out.inv.many)
    obtain ⟨S', hS'⟩ : ∃ S', Hid ((if 0 < A.S.net.length then outSy 0 A.S else A.S) = S') := ⟨_, hide rfl⟩
    rw [hS'.out] at HC
    go_wp2_with (go_at_call 28; refine HC.out.mono ?_)
    rintro e w2 ⟨he, hg⟩
    have HG := hide (HV.out.went hg)
    obtain ⟨ev, rfl⟩ := he
    clear hg
    go_wp2_with fail
    go_end0
    by_cases hx : 0 < A.S.net.length
    · rw [if_pos hx] at hS'
      rw [← hS'.out] at HG
      exact ⟨rfl, _, StepTo.lose A 0, HG.out⟩
    · rw [if_neg hx] at hS'
      rw [← hS'.out] at HG
      exact ⟨rfl, _, StepTo.same A, HG.out⟩
  · have hm0' : (0 : Int) < (m : Int) := by omega
    obtain ⟨j1, j2⟩ := hpin hm0'
    obtain ⟨i, hi⟩ := Int.eq_ofNat_of_zero_le j1
    have HPI := hide fun wx => HPN.out wx hm0'
    rw [hi] at HPI j2
    have hil : i < m := by omega
    clear HPN hpin j1 hi
    go_wp2_with (go_at_call 22; refine (unhide HPI _).mono ?_)
    rintro e wz ⟨rfl, hwz⟩
    subst wz
    have HC := hide (lose_any N E.D L win A.S V i HV.out.ta.sy HI.out.inv.many)
    obtain ⟨S', hS'⟩ : ∃ S', Hid ((if i < A.S.net.length then outSy i A.S else A.S) = S') := ⟨_, hide rfl⟩
    rw [hS'.out] at HC
    go_wp2_with (go_at_call 28; refine HC.out.mono ?_)
    rintro e w2 ⟨he, hg⟩
    have HG := hide (HV.out.went hg)
    obtain ⟨ev, rfl⟩ := he
    clear hg
    go_wp2_with fail
    go_end0
    by_cases hx : i < A.S.net.length
    · rw [if_pos hx] at hS'
      rw [← hS'.out] at HG
      exact ⟨rfl, _, StepTo.lose A i, HG.out⟩
    · rw [if_neg hx] at hS'
      rw [← hS'.out] at HG
      exact ⟨rfl, _, StepTo.same A, HG.out⟩
set_option maxHeartbeats 1000000 in
set_option maxRecDepth 20000 in
theorem does_5 (N q : Nat) (E : TC) (L : RC) (win liar T : Nat) (A : TS) (w : World) (X : SD) (h : TaIs w N q E L win liar A) (hI : TlInv L liar win T A) (hL : LOk L)  (hwh : X.wh = 5) :
    Calls Tryz.prog 8 #[.pointer (some ⟨q, 0, none⟩), .agg (sdL X).toArray] w fun e w' => e = .returned (.tuple #[]) ∧ ∃ A', StepTo L win liar X.wh A A' ∧ TaGo w w' N q E L win liar A' := by
  obtain ⟨W, hW⟩ : ∃ W, Hid (w.alloc (.cells (sdL X).toArray 38) = W) := ⟨_, hide rfl⟩
  have hBW : Below w.heap.size w W := by rw [← hW.out]; exact (Below.refl _ _).alloc (Nat.le_refl _) _
  have HDO : Hid (DoIn W w N q E L win liar A X) := hide ⟨hBW, h.below hBW, by rw [← hW.out]; exact blk_new _ _⟩
  have x1 := HDO.out.x1
  have c0 := HDO.out.c0
  have HPK := hide fun wx => pick_any X.k 3 wx (by decide) (by decide)
  obtain ⟨k1, k2⟩ := pickF_in X.k 3 (by decide) (by decide)
  obtain ⟨k, hk⟩ := Int.eq_ofNat_of_zero_le k1
  rw [hk] at HPK k2
  have hk3 : k < 3 := by omega
  obtain ⟨cs, hcs⟩ : ∃ cs, Hid ((sdL X).toArray = cs) := ⟨_, hide rfl⟩
  rw [hcs.out] at hW ⊢
  have hle := hI.inv.many
  have HI := hide hI
  have HL := hide hL
  have HWH := hide hwh
  clear h hBW hk k1 hwh hI hL
  go_enter Tryz.func8, Tryz.ntmps8
  go_wp2_with fail
  rw [show w.alloc (.cells cs 38) = W from hW.out]
  clear hW hcs
  go_quiet ((go_at_call 22; exact Calls.quiet_of_same (unhide HPK _)))
  have HV : Hid (DoIn (W.drewN nq) w N q E L win liar A X) := hide (HDO.out.below (below_drewN (Below.refl _ _) nq))
  generalize W.drewN nq = V at HV ⊢
  clear HDO x1 c0 HPK
  have x2 := HV.out.x2
  have x0 := HV.out.x0
  have hVl : w.heap.size < V.heap.size := blk_lt HV.out.box
  rw [HWH.out] at x0
  have HMN := hide (many_any N E.D L win A.S V HV.out.ta.sy)
  have HPN := hide fun wx (hp : 0 < (A.S.net.length : Int)) => pick_any X.n (A.S.net.length : Int) wx hp (by omega)
  have hpin := fun hp => pickF_in X.n (A.S.net.length : Int) hp (by omega)
  obtain ⟨m, hm⟩ : ∃ m, Hid (A.S.net.length = m) := ⟨_, hide rfl⟩
  rw [hm.out] at HMN HPN hpin hle
  go_wp2_with fail
  refine HMN.out.mono ?_
  rintro e wz ⟨rfl, hwz⟩
  subst wz
  by_cases hm0 : m = 0
  · have hm0' : ¬ (0 : Int) < (m : Int) := by omega
    clear HPN hpin
    have HC := hide (twice_any N E.D L win A.S V 0 HV.out.ta.sy HI.out.inv.many HV.out.ta.size)
    obtain ⟨S', hS'⟩ : ∃ S', Hid ((if 0 < A.S.net.length then putSy (pkAt A.S.net 0) A.S else A.S) = S') := ⟨_, hide rfl⟩
    rw [hS'.out] at HC
    go_wp2_with (go_at_call 29; refine HC.out.mono ?_)
    rintro e w2 ⟨he, hg⟩
    have HG := hide (HV.out.went hg)
    obtain ⟨ev, rfl⟩ := he
    clear hg
    go_wp2_with fail
    go_end0
    by_cases hx : 0 < A.S.net.length
    · rw [if_pos hx] at hS'
      rw [← hS'.out] at HG
      exact ⟨rfl, _, StepTo.twice A 0 hx, HG.out⟩
    · rw [if_neg hx] at hS'
      rw [← hS'.out] at HG
      exact ⟨rfl, _, StepTo.same A, HG.out⟩
  · have hm0' : (0 : Int) < (m : Int) := by omega
    obtain ⟨j1, j2⟩ := hpin hm0'
    obtain ⟨i, hi⟩ := Int.eq_ofNat_of_zero_le j1
    have HPI := hide fun wx => HPN.out wx hm0'
    rw [hi] at HPI j2
    have hil : i < m := by omega
    clear HPN hpin j1 hi
    go_wp2_with (go_at_call 22; refine (unhide HPI _).mono ?_)
    rintro e wz ⟨rfl, hwz⟩
    subst wz
    have HC := hide (twice_any N E.D L win A.S V i HV.out.ta.sy HI.out.inv.many HV.out.ta.size)
    obtain ⟨S', hS'⟩ : ∃ S', Hid ((if i < A.S.net.length then putSy (pkAt A.S.net i) A.S else A.S) = S') := ⟨_, hide rfl⟩
    rw [hS'.out] at HC
    go_wp2_with (go_at_call 29; refine HC.out.mono ?_)
    rintro e w2 ⟨he, hg⟩
    have HG := hide (HV.out.went hg)
    obtain ⟨ev, rfl⟩ := he
    clear hg
    go_wp2_with fail
    go_end0
    by_cases hx : i < A.S.net.length
    · rw [if_pos hx] at hS'
      rw [← hS'.out] at HG
      exact ⟨rfl, _, StepTo.twice A i hx, HG.out⟩
    · rw [if_neg hx] at hS'
      rw [← hS'.out] at HG
      exact ⟨rfl, _, StepTo.same A, HG.out⟩
set_option maxHeartbeats 1000000 in
set_option maxRecDepth 20000 in
theorem does_0 (N q : Nat) (E : TC) (L : RC) (win liar T : Nat) (A : TS) (w : World) (X : SD) (h : TaIs w N q E L win liar A) (hI : TlInv L liar win T A) (hL : LOk L)  (hwh : X.wh = 0) :
    Calls Tryz.prog 8 #[.pointer (some ⟨q, 0, none⟩), .agg (sdL X).toArray] w fun e w' => e = .returned (.tuple #[]) ∧ ∃ A', StepTo L win liar X.wh A A' ∧ TaGo w w' N q E L win liar A' := by
  obtain ⟨W, hW⟩ : ∃ W, Hid (w.alloc (.cells (sdL X).toArray 38) = W) := ⟨_, hide rfl⟩
  have hBW : Below w.heap.size w W := by rw [← hW.out]; exact (Below.refl _ _).alloc (Nat.le_refl _) _
  have HDO : Hid (DoIn W w N q E L win liar A X) := hide ⟨hBW, h.below hBW, by rw [← hW.out]; exact blk_new _ _⟩
  have x1 := HDO.out.x1
  have c0 := HDO.out.c0
  have HPK := hide fun wx => pick_any X.k 3 wx (by decide) (by decide)
  obtain ⟨k1, k2⟩ := pickF_in X.k 3 (by decide) (by decide)
  obtain ⟨k, hk⟩ := Int.eq_ofNat_of_zero_le k1
  rw [hk] at HPK k2
  have hk3 : k < 3 := by omega
  obtain ⟨cs, hcs⟩ : ∃ cs, Hid ((sdL X).toArray = cs) := ⟨_, hide rfl⟩
  rw [hcs.out] at hW ⊢
  have hle := hI.inv.many
  have HI := hide hI
  have HL := hide hL
  have HWH := hide hwh
  have hq0 := h.lt
  clear h hBW hk k1 hwh hI hL
  go_enter Tryz.func8, Tryz.ntmps8
  go_wp2_with fail
  rw [show w.alloc (.cells cs 38) = W from hW.out]
  clear hW hcs
  go_quiet ((go_at_call 22; exact Calls.quiet_of_same (unhide HPK _)))
  have HV : Hid (DoIn (W.drewN nq) w N q E L win liar A X) := hide (HDO.out.below (below_drewN (Below.refl _ _) nq))
  generalize W.drewN nq = V at HV ⊢
  clear HDO x1 c0 HPK
  have x2 := HV.out.x2
  have x0 := HV.out.x0
  have hVl : w.heap.size < V.heap.size := blk_lt HV.out.box
  rw [HWH.out] at x0
  have HMN := hide (many_any N E.D L win A.S V HV.out.ta.sy)
  have HPN := hide fun wx (hp : 0 < (A.S.net.length : Int)) => pick_any X.n (A.S.net.length : Int) wx hp (by omega)
  have hpin := fun hp => pickF_in X.n (A.S.net.length : Int) hp (by omega)
  obtain ⟨m, hm⟩ : ∃ m, Hid (A.S.net.length = m) := ⟨_, hide rfl⟩
  rw [hm.out] at HMN HPN hpin hle
  have hql : q < w.heap.size := hq0
  go_wp2_with fail
  refine HMN.out.mono ?_
  rintro e wz ⟨rfl, hwz⟩
  subst wz
  by_cases hm0 : m = 0
  · have hm0' : ¬ (0 : Int) < (m : Int) := by omega
    clear HPN hpin
    obtain ⟨f0, f1⟩ := HV.out.ta.fld hk3
    have g0 := HV.out.ta.free (5 + k * 2)
    have g1 := HV.out.ta.free (5 + k * 2 + 1)
    have x3 := HV.out.x3
    have x4 := HV.out.x4
    have hne : w.heap.size ≠ q := by omega
    have HC : Hid (∀ wx, Below (fldW V q k X.x X.y).heap.size (fldW V q k X.x X.y) wx → Calls Tryz.prog 17 #[.pointer (some ⟨E.D.p, 0, none⟩), .int .i64 (k : Int), .agg #[.int .i64 X.x, .int .i64 X.y]] wx fun e w2 => e = .returned .nilIface ∧ TaGo w w2 N q E L win liar ⟨seeSy k X.x X.y A.S, upd A.fx k X.x, upd A.fy k X.y, A.seen⟩) := hide fun wx hx => by
      have hTx := (HV.out.ta.fields hk3 X.x X.y).below hx
      refine (sysee_any N E.D L win A.S wx k X.x X.y hk3 hTx.sy).mono ?_
      rintro e w2 ⟨he, hg⟩
      exact ⟨he, TaGo.mod ((HV.out.fmod k X.x X.y).below hx) (hTx.went hg)⟩
    unfold fldW at HC
    go_wp2_with fail
    go_region
    all_goals
      go_wp2_with (go_at_call 17; refine (unhide HC _ (by first | exact Below.refl _ _ | exact (Below.refl _ _).drew | exact below_drewN (Below.refl _ _) _)).mono ?_)
      rintro e w2 ⟨he, hg⟩
      have HG := hide hg
      subst he
      clear hg
      go_wp2_with fail
      go_end0
      exact ⟨rfl, _, StepTo.see A k X.x X.y hk3, HG.out⟩
  · have hm0' : (0 : Int) < (m : Int) := by omega
    obtain ⟨j1, j2⟩ := hpin hm0'
    obtain ⟨i, hi⟩ := Int.eq_ofNat_of_zero_le j1
    have HPI := hide fun wx => HPN.out wx hm0'
    rw [hi] at HPI j2
    have hil : i < m := by omega
    clear HPN hpin j1 hi
    go_wp2_with (go_at_call 22; refine (unhide HPI _).mono ?_)
    rintro e wz ⟨rfl, hwz⟩
    subst wz
    obtain ⟨f0, f1⟩ := HV.out.ta.fld hk3
    have g0 := HV.out.ta.free (5 + k * 2)
    have g1 := HV.out.ta.free (5 + k * 2 + 1)
    have x3 := HV.out.x3
    have x4 := HV.out.x4
    have hne : w.heap.size ≠ q := by omega
    have HC : Hid (∀ wx, Below (fldW V q k X.x X.y).heap.size (fldW V q k X.x X.y) wx → Calls Tryz.prog 17 #[.pointer (some ⟨E.D.p, 0, none⟩), .int .i64 (k : Int), .agg #[.int .i64 X.x, .int .i64 X.y]] wx fun e w2 => e = .returned .nilIface ∧ TaGo w w2 N q E L win liar ⟨seeSy k X.x X.y A.S, upd A.fx k X.x, upd A.fy k X.y, A.seen⟩) := hide fun wx hx => by
      have hTx := (HV.out.ta.fields hk3 X.x X.y).below hx
      refine (sysee_any N E.D L win A.S wx k X.x X.y hk3 hTx.sy).mono ?_
      rintro e w2 ⟨he, hg⟩
      exact ⟨he, TaGo.mod ((HV.out.fmod k X.x X.y).below hx) (hTx.went hg)⟩
    unfold fldW at HC
    go_wp2_with fail
    go_region
    all_goals
      go_wp2_with (go_at_call 17; refine (unhide HC _ (by first | exact Below.refl _ _ | exact (Below.refl _ _).drew | exact below_drewN (Below.refl _ _) _)).mono ?_)
      rintro e w2 ⟨he, hg⟩
      have HG := hide hg
      subst he
      clear hg
      go_wp2_with fail
      go_end0
      exact ⟨rfl, _, StepTo.see A k X.x X.y hk3, HG.out⟩
set_option maxHeartbeats 1000000 in
set_option maxRecDepth 20000 in
theorem does_1 (N q : Nat) (E : TC) (L : RC) (win liar T : Nat) (A : TS) (w : World) (X : SD) (h : TaIs w N q E L win liar A) (hI : TlInv L liar win T A) (hL : LOk L) (hT : T < 600000) (hsl : A.seen.length ≤ 1000) (hwh : X.wh = 1) :
    Calls Tryz.prog 8 #[.pointer (some ⟨q, 0, none⟩), .agg (sdL X).toArray] w fun e w' => e = .returned (.tuple #[]) ∧ ∃ A', StepTo L win liar X.wh A A' ∧ TaGo w w' N q E L win liar A' := by
  obtain ⟨W, hW⟩ : ∃ W, Hid (w.alloc (.cells (sdL X).toArray 38) = W) := ⟨_, hide rfl⟩
  have hBW : Below w.heap.size w W := by rw [← hW.out]; exact (Below.refl _ _).alloc (Nat.le_refl _) _
  have HDO : Hid (DoIn W w N q E L win liar A X) := hide ⟨hBW, h.below hBW, by rw [← hW.out]; exact blk_new _ _⟩
  have x1 := HDO.out.x1
  have c0 := HDO.out.c0
  have HPK := hide fun wx => pick_any X.k 3 wx (by decide) (by decide)
  obtain ⟨k1, k2⟩ := pickF_in X.k 3 (by decide) (by decide)
  obtain ⟨k, hk⟩ := Int.eq_ofNat_of_zero_le k1
  rw [hk] at HPK k2
  have hk3 : k < 3 := by omega
  obtain ⟨cs, hcs⟩ : ∃ cs, Hid ((sdL X).toArray = cs) := ⟨_, hide rfl⟩
  rw [hcs.out] at hW ⊢
  have hle := hI.inv.many
  have HI := hide hI
  have HL := hide hL
  have HWH := hide hwh
  clear h hBW hk k1 hwh hI hL
  go_enter Tryz.func8, Tryz.ntmps8
  go_wp2_with fail
  rw [show w.alloc (.cells cs 38) = W from hW.out]
  clear hW hcs
  go_quiet ((go_at_call 22; exact Calls.quiet_of_same (unhide HPK _)))
  have HV : Hid (DoIn (W.drewN nq) w N q E L win liar A X) := hide (HDO.out.below (below_drewN (Below.refl _ _) nq))
  generalize W.drewN nq = V at HV ⊢
  clear HDO x1 c0 HPK
  have x2 := HV.out.x2
  have x0 := HV.out.x0
  have hVl : w.heap.size < V.heap.size := blk_lt HV.out.box
  rw [HWH.out] at x0
  have HMN := hide (many_any N E.D L win A.S V HV.out.ta.sy)
  have HPN := hide fun wx (hp : 0 < (A.S.net.length : Int)) => pick_any X.n (A.S.net.length : Int) wx hp (by omega)
  have hpin := fun hp => pickF_in X.n (A.S.net.length : Int) hp (by omega)
  obtain ⟨m, hm⟩ : ∃ m, Hid (A.S.net.length = m) := ⟨_, hide rfl⟩
  rw [hm.out] at HMN HPN hpin hle
  go_wp2_with fail
  refine HMN.out.mono ?_
  rintro e wz ⟨rfl, hwz⟩
  subst wz
  by_cases hm0 : m = 0
  · have hm0' : ¬ (0 : Int) < (m : Int) := by omega
    clear HPN hpin
    have HLK := hide (looks_any N q E L win liar A V k false hk3 HV.out.ta hsl)
    go_wp2_with (go_at_call 24; refine HLK.out.mono ?_)
    rintro e w2 ⟨he, hg, _⟩
    subst he
    obtain ⟨E', e1, e2, e3, e4, hT2, hm2⟩ := hg
    have hI2 : SInv L (WOf L A.seen) liar win T A.S := HI.out.inv
    have HC := hide (sytick_any N E'.D L win A.S w2 k hk3 hT2.sy hI2 HL.out (by omega) hT2.size)
    rw [e4] at HC
    have HE : Hid (∀ w3, SyGo w2 w3 N E'.D L win (tickSy L k A.S) → TaGo w w3 N q E L win liar ⟨tickSy L k A.S, A.fx, A.fy, A.seen ++ [sgOf A k false]⟩) := hide fun w3 hg => TaGo.mod ((Mod.ofBelow HV.out.old _).then hm2 fun _ _ x => x) ((hT2.went hg).then ⟨e1, e2, e3, e4⟩ (Mod.refl _ _))
    clear hT2 hm2 e1 e2 e3 hI2 e4
    go_wp2_with (go_at_call 25; refine HC.out.mono ?_)
    rintro e w3 ⟨he, hg⟩
    have HG := hide (HE.out w3 hg)
    subst he
    clear hg
    go_wp2_with fail
    go_end0
    exact ⟨rfl, _, StepTo.tick A k hk3, HG.out⟩
  · have hm0' : (0 : Int) < (m : Int) := by omega
    obtain ⟨j1, j2⟩ := hpin hm0'
    obtain ⟨i, hi⟩ := Int.eq_ofNat_of_zero_le j1
    have HPI := hide fun wx => HPN.out wx hm0'
    rw [hi] at HPI j2
    have hil : i < m := by omega
    clear HPN hpin j1 hi
    go_wp2_with (go_at_call 22; refine (unhide HPI _).mono ?_)
    rintro e wz ⟨rfl, hwz⟩
    subst wz
    have HLK := hide (looks_any N q E L win liar A V k false hk3 HV.out.ta hsl)
    go_wp2_with (go_at_call 24; refine HLK.out.mono ?_)
    rintro e w2 ⟨he, hg, _⟩
    subst he
    obtain ⟨E', e1, e2, e3, e4, hT2, hm2⟩ := hg
    have hI2 : SInv L (WOf L A.seen) liar win T A.S := HI.out.inv
    have HC := hide (sytick_any N E'.D L win A.S w2 k hk3 hT2.sy hI2 HL.out (by omega) hT2.size)
    rw [e4] at HC
    have HE : Hid (∀ w3, SyGo w2 w3 N E'.D L win (tickSy L k A.S) → TaGo w w3 N q E L win liar ⟨tickSy L k A.S, A.fx, A.fy, A.seen ++ [sgOf A k false]⟩) := hide fun w3 hg => TaGo.mod ((Mod.ofBelow HV.out.old _).then hm2 fun _ _ x => x) ((hT2.went hg).then ⟨e1, e2, e3, e4⟩ (Mod.refl _ _))
    clear hT2 hm2 e1 e2 e3 hI2 e4
    go_wp2_with (go_at_call 25; refine HC.out.mono ?_)
    rintro e w3 ⟨he, hg⟩
    have HG := hide (HE.out w3 hg)
    subst he
    clear hg
    go_wp2_with fail
    go_end0
    exact ⟨rfl, _, StepTo.tick A k hk3, HG.out⟩
set_option maxHeartbeats 1000000 in
set_option maxRecDepth 20000 in
theorem does_7 (N q : Nat) (E : TC) (L : RC) (win liar T : Nat) (A : TS) (w : World) (X : SD) (h : TaIs w N q E L win liar A) (hI : TlInv L liar win T A) (hL : LOk L)  (hwh : X.wh = 7) :
    Calls Tryz.prog 8 #[.pointer (some ⟨q, 0, none⟩), .agg (sdL X).toArray] w fun e w' => e = .returned (.tuple #[]) ∧ ∃ A', StepTo L win liar X.wh A A' ∧ TaGo w w' N q E L win liar A' := by
  obtain ⟨W, hW⟩ : ∃ W, Hid (w.alloc (.cells (sdL X).toArray 38) = W) := ⟨_, hide rfl⟩
  have hBW : Below w.heap.size w W := by rw [← hW.out]; exact (Below.refl _ _).alloc (Nat.le_refl _) _
  have HDO : Hid (DoIn W w N q E L win liar A X) := hide ⟨hBW, h.below hBW, by rw [← hW.out]; exact blk_new _ _⟩
  have x1 := HDO.out.x1
  have c0 := HDO.out.c0
  have HPK := hide fun wx => pick_any X.k 3 wx (by decide) (by decide)
  obtain ⟨k1, k2⟩ := pickF_in X.k 3 (by decide) (by decide)
  obtain ⟨k, hk⟩ := Int.eq_ofNat_of_zero_le k1
  rw [hk] at HPK k2
  have hk3 : k < 3 := by omega
  obtain ⟨cs, hcs⟩ : ∃ cs, Hid ((sdL X).toArray = cs) := ⟨_, hide rfl⟩
  rw [hcs.out] at hW ⊢
  have hle := hI.inv.many
  have HI := hide hI
  have HL := hide hL
  have HWH := hide hwh
  clear h hBW hk k1 hwh hI hL
  go_enter Tryz.func8, Tryz.ntmps8
  go_wp2_with fail
  rw [show w.alloc (.cells cs 38) = W from hW.out]
  clear hW hcs
  go_quiet ((go_at_call 22; exact Calls.quiet_of_same (unhide HPK _)))
  have HV : Hid (DoIn (W.drewN nq) w N q E L win liar A X) := hide (HDO.out.below (below_drewN (Below.refl _ _) nq))
  generalize W.drewN nq = V at HV ⊢
  clear HDO x1 c0 HPK
  have x2 := HV.out.x2
  have x0 := HV.out.x0
  have hVl : w.heap.size < V.heap.size := blk_lt HV.out.box
  rw [HWH.out] at x0
  have HMN := hide (many_any N E.D L win A.S V HV.out.ta.sy)
  have HPN := hide fun wx (hp : 0 < (A.S.net.length : Int)) => pick_any X.n (A.S.net.length : Int) wx hp (by omega)
  have hpin := fun hp => pickF_in X.n (A.S.net.length : Int) hp (by omega)
  obtain ⟨m, hm⟩ : ∃ m, Hid (A.S.net.length = m) := ⟨_, hide rfl⟩
  rw [hm.out] at HMN HPN hpin hle
  go_wp2_with fail
  refine HMN.out.mono ?_
  rintro e wz ⟨rfl, hwz⟩
  subst wz
  by_cases hm0 : m = 0
  · have hm0' : ¬ (0 : Int) < (m : Int) := by omega
    clear HPN hpin
    have HC := hide (crash_any N E.D L win A.S V k hk3 HL.out HV.out.ta.sy HV.out.ta.size)
    go_wp2_with (go_at_call 31; refine HC.out.mono ?_)
    rintro e w2 ⟨he, hg⟩
    subst he
    obtain ⟨E', e1, e2, e3, e4, hT2, hm2⟩ := HV.out.ta.went hg
    obtain ⟨f0, f1⟩ := hT2.fld hk3
    have g0 := hT2.free (5 + k * 2)
    have g1 := hT2.free (5 + k * 2 + 1)
    have HG : Hid (TaGo w (fldW w2 q k 0 0) N q E L win liar ⟨crashSy k A.S, upd A.fx k 0, upd A.fy k 0, A.seen⟩) := hide ⟨E', e1, e2, e3, e4, hT2.fields hk3 0 0, fmod' ((Mod.ofBelow HV.out.old _).then hm2 fun _ _ x => x) k 0 0⟩
    unfold fldW at HG
    clear hg hT2 hm2 e1 e2 e3 e4
    go_wp2_with fail
    go_end0
    exact ⟨rfl, _, StepTo.crash A k hk3, HG.out⟩
  · have hm0' : (0 : Int) < (m : Int) := by omega
    obtain ⟨j1, j2⟩ := hpin hm0'
    obtain ⟨i, hi⟩ := Int.eq_ofNat_of_zero_le j1
    have HPI := hide fun wx => HPN.out wx hm0'
    rw [hi] at HPI j2
    have hil : i < m := by omega
    clear HPN hpin j1 hi
    go_wp2_with (go_at_call 22; refine (unhide HPI _).mono ?_)
    rintro e wz ⟨rfl, hwz⟩
    subst wz
    have HC := hide (crash_any N E.D L win A.S V k hk3 HL.out HV.out.ta.sy HV.out.ta.size)
    go_wp2_with (go_at_call 31; refine HC.out.mono ?_)
    rintro e w2 ⟨he, hg⟩
    subst he
    obtain ⟨E', e1, e2, e3, e4, hT2, hm2⟩ := HV.out.ta.went hg
    obtain ⟨f0, f1⟩ := hT2.fld hk3
    have g0 := hT2.free (5 + k * 2)
    have g1 := hT2.free (5 + k * 2 + 1)
    have HG : Hid (TaGo w (fldW w2 q k 0 0) N q E L win liar ⟨crashSy k A.S, upd A.fx k 0, upd A.fy k 0, A.seen⟩) := hide ⟨E', e1, e2, e3, e4, hT2.fields hk3 0 0, fmod' ((Mod.ofBelow HV.out.old _).then hm2 fun _ _ x => x) k 0 0⟩
    unfold fldW at HG
    clear hg hT2 hm2 e1 e2 e3 e4
    go_wp2_with fail
    go_end0
    exact ⟨rfl, _, StepTo.crash A k hk3, HG.out⟩
end Go.Proofs.YtaablbmgagiajaaGreatDoor
