import Derived.Test.YtaablbmgagiajaaGreatDoorTGBO
namespace Go.Proofs.YtaablbmgagiajaaGreatDoor
open Go.RowKit Go.Deep
set_option maxHeartbeats 1000000 in
set_option maxRecDepth 20000 in
theorem does_no (N q : Nat) (E : TC) (L : RC) (win liar T : Nat) (A : TS) (w : World) (X : SD) (h : TaIs w N q E L win liar A) (hI : TlInv L liar win T A) (hL : LOk L)  (hwh : X.wh < 0 ∨ 12 < X.wh) :
    Calls Tryz.prog 8 #[.pointer (some ⟨q, 0, none⟩), .agg (sdL X).toArray] w fun e w' => e = .returned (.tuple #[]) ∧ ∃ A', StepTo L win liar X.wh A A' ∧ TaGo w w' N q E L win liar A' := by
  obtain ⟨W, hW⟩ : ∃ W, Hid (w.alloc (.cells (sdL X).toArray 38) = W) := ⟨_, hide rfl⟩
  have hBW : Below w.heap.size w W := by rw [← hW.out]; exact (Below.refl _ _).alloc (Nat.le_refl _) _
  have HDO : Hid (DoIn W w N q E L win liar A X) := hide ⟨hBW, h.below hBW, by rw [← hW.out]; exact blk_new _ _⟩
  have x1 := HDO.out.x1
  have c0 := HDO.out.c0
  have HPK := hide fun wx => pick_any X.k 3 wx (by decide) (by decide)
  obtain ⟨k1, k2⟩ := pickF_in X.k 3 (by decide) (by decide)
  obtain ⟨k, hk⟩ := Int.eq_ofNat_of_zero_le k1
  rw [hk] at HPK k2
  have hk3 : k < 3 := by omega
  obtain ⟨cs, hcs⟩ : ∃ cs, Hid ((sdL X).toArray = cs) := ⟨_, hide rfl⟩
  rw [hcs.out] at hW ⊢
  have hle := hI.inv.many
  have HI := hide hI
  have HL := hide hL
  have HWH := hide hwh
  clear h hBW hk k1 hwh hI hL
  go_enter Tryz.func8, Tryz.ntmps8
  go_wp2_with fail
  rw [show w.alloc (.cells cs 38) = W from hW.out]
  clear hW hcs
  go_quiet ((go_at_call 22; exact Calls.quiet_of_same (unhide HPK _)))
  have HV : Hid (DoIn (W.drewN nq) w N q E L win liar A X) := hide (HDO.out.below (below_drewN (Below.refl _ _) nq))
  generalize W.drewN nq = V at HV ⊢
  clear HDO x1 c0 HPK
  have x2 := HV.out.x2
  have x0 := HV.out.x0
  have hVl : w.heap.size < V.heap.size := blk_lt HV.out.box
  obtain ⟨wh, hwh⟩ : ∃ wh, Hid (X.wh = wh) := ⟨_, hide rfl⟩
  have hw := HWH.out
  rw [hwh.out] at x0 hw
  have n0 : ¬ wh = 0 := by omega
  have n1 : ¬ wh = 1 := by omega
  have n2 : ¬ wh = 2 := by omega
  have n3 : ¬ wh = 3 := by omega
  have n4 : ¬ wh = 4 := by omega
  have n5 : ¬ wh = 5 := by omega
  have n6 : ¬ wh = 6 := by omega
  have n7 : ¬ wh = 7 := by omega
  have n8 : ¬ wh = 8 := by omega
  have n9 : ¬ wh = 9 := by omega
  have n10 : ¬ wh = 10 := by omega
  have n11 : ¬ wh = 11 := by omega
  have n12 : ¬ wh = 12 := by omega
  clear hw
  have HMN := hide (many_any N E.D L win A.S V HV.out.ta.sy)
  have HPN := hide fun wx (hp : 0 < (A.S.net.length : Int)) => pick_any X.n (A.S.net.length : Int) wx hp (by omega)
  have hpin := fun hp => pickF_in X.n (A.S.net.length : Int) hp (by omega)
  obtain ⟨m, hm⟩ : ∃ m, Hid (A.S.net.length = m) := ⟨_, hide rfl⟩
  rw [hm.out] at HMN HPN hpin hle
  go_wp2_with fail
  refine HMN.out.mono ?_
  rintro e wz ⟨rfl, hwz⟩
  subst wz
  by_cases hm0 : m = 0
  · have hm0' : ¬ (0 : Int) < (m : Int) := by omega
    clear HPN hpin
    go_wp2_with fail
    go_end0
    exact ⟨rfl, A, StepTo.same A, HV.out.ta.goes.pre HV.out.old⟩
  · have hm0' : (0 : Int) < (m : Int) := by omega
    obtain ⟨j1, j2⟩ := hpin hm0'
    obtain ⟨i, hi⟩ := Int.eq_ofNat_of_zero_le j1
    have HPI := hide fun wx => HPN.out wx hm0'
    rw [hi] at HPI j2
    have hil : i < m := by omega
    clear HPN hpin j1 hi
    go_wp2_with (go_at_call 22; refine (unhide HPI _).mono ?_)
    rintro e wz ⟨rfl, hwz⟩
    subst wz
    go_wp2_with fail
    go_end0
    exact ⟨rfl, A, StepTo.same A, HV.out.ta.goes.pre HV.out.old⟩
set_option maxHeartbeats 1000000 in
set_option maxRecDepth 20000 in
theorem does_2 (N q : Nat) (E : TC) (L : RC) (win liar T : Nat) (A : TS) (w : World) (X : SD) (h : TaIs w N q E L win liar A) (hI : TlInv L liar win T A) (hL : LOk L)  (hwh : X.wh = 2) :
    Calls Tryz.prog 8 #[.pointer (some ⟨q, 0, none⟩), .agg (sdL X).toArray] w fun e w' => e = .returned (.tuple #[]) ∧ ∃ A', StepTo L win liar X.wh A A' ∧ TaGo w w' N q E L win liar A' := by
  obtain ⟨W, hW⟩ : ∃ W, Hid (w.alloc (.cells (sdL X).toArray 38) = W) := ⟨_, hide rfl⟩
  have hBW : Below w.heap.size w W := by rw [← hW.out]; exact (Below.refl _ _).alloc (Nat.le_refl _) _
  have HDO : Hid (DoIn W w N q E L win liar A X) := hide ⟨hBW, h.below hBW, by rw [← hW.out]; exact blk_new _ _⟩
  have x1 := HDO.out.x1
  have c0 := HDO.out.c0
  have HPK := hide fun wx => pick_any X.k 3 wx (by decide) (by decide)
  obtain ⟨k1, k2⟩ := pickF_in X.k 3 (by decide) (by decide)
  obtain ⟨k, hk⟩ := Int.eq_ofNat_of_zero_le k1
  rw [hk] at HPK k2
  have hk3 : k < 3 := by omega
  obtain ⟨cs, hcs⟩ : ∃ cs, Hid ((sdL X).toArray = cs) := ⟨_, hide rfl⟩
  rw [hcs.out] at hW ⊢
  have hle := hI.inv.many
  have HI := hide hI
  have HL := hide hL
  have HWH := hide hwh
  clear h hBW hk k1 hwh hI hL
  go_enter Tryz.func8, Tryz.ntmps8
  go_wp2_with fail
  rw [show w.alloc (.cells cs 38) = W from hW.out]
  clear hW hcs
  go_quiet ((go_at_call 22; exact Calls.quiet_of_same (unhide HPK _)))
  have HV : Hid (DoIn (W.drewN nq) w N q E L win liar A X) := hide (HDO.out.below (below_drewN (Below.refl _ _) nq))
  generalize W.drewN nq = V at HV ⊢
  clear HDO x1 c0 HPK
  have x2 := HV.out.x2
  have x0 := HV.out.x0
  have hVl : w.heap.size < V.heap.size := blk_lt HV.out.box
  rw [HWH.out] at x0
  have HMN := hide (many_any N E.D L win A.S V HV.out.ta.sy)
  have HPN := hide fun wx (hp : 0 < (A.S.net.length : Int)) => pick_any X.n (A.S.net.length : Int) wx hp (by omega)
  have hpin := fun hp => pickF_in X.n (A.S.net.length : Int) hp (by omega)
  obtain ⟨m, hm⟩ : ∃ m, Hid (A.S.net.length = m) := ⟨_, hide rfl⟩
  rw [hm.out] at HMN HPN hpin hle
  go_wp2_with fail
  refine HMN.out.mono ?_
  rintro e wz ⟨rfl, hwz⟩
  subst wz
  by_cases hm0 : m = 0
  · have hm0' : ¬ (0 : Int) < (m : Int) := by omega
    clear HPN hpin
    have HC := hide (syasks_any N E.D L win A.S V k hk3 HV.out.ta.sy HI.out.inv HV.out.ta.size)
    go_wp2_with (go_at_call 26; refine HC.out.mono ?_)
    rintro e w2 ⟨he, hg⟩
    have HG := hide (HV.out.went hg)
    subst he
    clear hg
    go_wp2_with fail
    go_end0
    exact ⟨rfl, _, StepTo.asks A k hk3, HG.out⟩
  · have hm0' : (0 : Int) < (m : Int) := by omega
    obtain ⟨j1, j2⟩ := hpin hm0'
    obtain ⟨i, hi⟩ := Int.eq_ofNat_of_zero_le j1
    have HPI := hide fun wx => HPN.out wx hm0'
    rw [hi] at HPI j2
    have hil : i < m := by omega
    clear HPN hpin j1 hi
    go_wp2_with (go_at_call 22; refine (unhide HPI _).mono ?_)
    rintro e wz ⟨rfl, hwz⟩
    subst wz
    have HC := hide (syasks_any N E.D L win A.S V k hk3 HV.out.ta.sy HI.out.inv HV.out.ta.size)
    go_wp2_with (go_at_call 26; refine HC.out.mono ?_)
    rintro e w2 ⟨he, hg⟩
    have HG := hide (HV.out.went hg)
    subst he
    clear hg
    go_wp2_with fail
    go_end0
    exact ⟨rfl, _, StepTo.asks A k hk3, HG.out⟩
set_option maxHeartbeats 1000000 in
set_option maxRecDepth 20000 in
theorem does_12 (N q : Nat) (E : TC) (L : RC) (win liar T : Nat) (A : TS) (w : World) (X : SD) (h : TaIs w N q E L win liar A) (hI : TlInv L liar win T A) (hL : LOk L)  (hwh : X.wh = 12) :
    Calls Tryz.prog 8 #[.pointer (some ⟨q, 0, none⟩), .agg (sdL X).toArray] w fun e w' => e = .returned (.tuple #[]) ∧ ∃ A', StepTo L win liar X.wh A A' ∧ TaGo w w' N q E L win liar A' := by
  obtain ⟨W, hW⟩ : ∃ W, Hid (w.alloc (.cells (sdL X).toArray 38) = W) := ⟨_, hide rfl⟩
  have hBW : Below w.heap.size w W := by rw [← hW.out]; exact (Below.refl _ _).alloc (Nat.le_refl _) _
  have HDO : Hid (DoIn W w N q E L win liar A X) := hide ⟨hBW, h.below hBW, by rw [← hW.out]; exact blk_new _ _⟩
  have x1 := HDO.out.x1
  have c0 := HDO.out.c0
  have HPK := hide fun wx => pick_any X.k 3 wx (by decide) (by decide)
  obtain ⟨k1, k2⟩ := pickF_in X.k 3 (by decide) (by decide)
  obtain ⟨k, hk⟩ := Int.eq_ofNat_of_zero_le k1
  rw [hk] at HPK k2
  have hk3 : k < 3 := by omega
  obtain ⟨cs, hcs⟩ : ∃ cs, Hid ((sdL X).toArray = cs) := ⟨_, hide rfl⟩
  rw [hcs.out] at hW ⊢
  have hle := hI.inv.many
  have HI := hide hI
  have HL := hide hL
  have HWH := hide hwh
  clear h hBW hk k1 hwh hI hL
  go_enter Tryz.func8, Tryz.ntmps8
  go_wp2_with fail
  rw [show w.alloc (.cells cs 38) = W from hW.out]
  clear hW hcs
  go_quiet ((go_at_call 22; exact Calls.quiet_of_same (unhide HPK _)))
  have HV : Hid (DoIn (W.drewN nq) w N q E L win liar A X) := hide (HDO.out.below (below_drewN (Below.refl _ _) nq))
  generalize W.drewN nq = V at HV ⊢
  clear HDO x1 c0 HPK
  have x2 := HV.out.x2
  have x0 := HV.out.x0
  have hVl : w.heap.size < V.heap.size := blk_lt HV.out.box
  rw [HWH.out] at x0
  have HMN := hide (many_any N E.D L win A.S V HV.out.ta.sy)
  have HPN := hide fun wx (hp : 0 < (A.S.net.length : Int)) => pick_any X.n (A.S.net.length : Int) wx hp (by omega)
  have hpin := fun hp => pickF_in X.n (A.S.net.length : Int) hp (by omega)
  obtain ⟨m, hm⟩ : ∃ m, Hid (A.S.net.length = m) := ⟨_, hide rfl⟩
  rw [hm.out] at HMN HPN hpin hle
  go_wp2_with fail
  refine HMN.out.mono ?_
  rintro e wz ⟨rfl, hwz⟩
  subst wz
  by_cases hm0 : m = 0
  · have hm0' : ¬ (0 : Int) < (m : Int) := by omega
    clear HPN hpin
    have HC := hide (sylatch_any N E.D L win A.S V HV.out.ta.sy)
    go_wp2_with (go_at_call 34; refine HC.out.mono ?_)
    rintro e w2 ⟨he, hg⟩
    have HG := hide (HV.out.went hg)
    subst he
    clear hg
    go_wp2_with fail
    go_end0
    exact ⟨rfl, _, StepTo.latch A (by rw [HWH.out]; decide), HG.out⟩
  · have hm0' : (0 : Int) < (m : Int) := by omega
    obtain ⟨j1, j2⟩ := hpin hm0'
    obtain ⟨i, hi⟩ := Int.eq_ofNat_of_zero_le j1
    have HPI := hide fun wx => HPN.out wx hm0'
    rw [hi] at HPI j2
    have hil : i < m := by omega
    clear HPN hpin j1 hi
    go_wp2_with (go_at_call 22; refine (unhide HPI _).mono ?_)
    rintro e wz ⟨rfl, hwz⟩
    subst wz
    have HC := hide (sylatch_any N E.D L win A.S V HV.out.ta.sy)
    go_wp2_with (go_at_call 34; refine HC.out.mono ?_)
    rintro e w2 ⟨he, hg⟩
    have HG := hide (HV.out.went hg)
    subst he
    clear hg
    go_wp2_with fail
    go_end0
    exact ⟨rfl, _, StepTo.latch A (by rw [HWH.out]; decide), HG.out⟩
set_option maxHeartbeats 1000000 in
set_option maxRecDepth 20000 in
theorem does_11 (N q : Nat) (E : TC) (L : RC) (win liar T : Nat) (A : TS) (w : World) (X : SD) (h : TaIs w N q E L win liar A) (hI : TlInv L liar win T A) (hL : LOk L)  (hwh : X.wh = 11) :
    Calls Tryz.prog 8 #[.pointer (some ⟨q, 0, none⟩), .agg (sdL X).toArray] w fun e w' => e = .returned (.tuple #[]) ∧ ∃ A', StepTo L win liar X.wh A A' ∧ TaGo w w' N q E L win liar A' := by
  obtain ⟨W, hW⟩ : ∃ W, Hid (w.alloc (.cells (sdL X).toArray 38) = W) := ⟨_, hide rfl⟩
  have hBW : Below w.heap.size w W := by rw [← hW.out]; exact (Below.refl _ _).alloc (Nat.le_refl _) _
  have HDO : Hid (DoIn W w N q E L win liar A X) := hide ⟨hBW, h.below hBW, by rw [← hW.out]; exact blk_new _ _⟩
  have x1 := HDO.out.x1
  have c0 := HDO.out.c0
  have HPK := hide fun wx => pick_any X.k 3 wx (by decide) (by decide)
  obtain ⟨k1, k2⟩ := pickF_in X.k 3 (by decide) (by decide)
  obtain ⟨k, hk⟩ := Int.eq_ofNat_of_zero_le k1
  rw [hk] at HPK k2
  have hk3 : k < 3 := by omega
  obtain ⟨cs, hcs⟩ : ∃ cs, Hid ((sdL X).toArray = cs) := ⟨_, hide rfl⟩
  rw [hcs.out] at hW ⊢
  have hle := hI.inv.many
  have HI := hide hI
  have HL := hide hL
  have HWH := hide hwh
  clear h hBW hk k1 hwh hI hL
  go_enter Tryz.func8, Tryz.ntmps8
  go_wp2_with fail
  rw [show w.alloc (.cells cs 38) = W from hW.out]
  clear hW hcs
  go_quiet ((go_at_call 22; exact Calls.quiet_of_same (unhide HPK _)))
  have HV : Hid (DoIn (W.drewN nq) w N q E L win liar A X) := hide (HDO.out.below (below_drewN (Below.refl _ _) nq))
  generalize W.drewN nq = V at HV ⊢
  clear HDO x1 c0 HPK
  have x2 := HV.out.x2
  have x0 := HV.out.x0
  have hVl : w.heap.size < V.heap.size := blk_lt HV.out.box
  rw [HWH.out] at x0
  have HMN := hide (many_any N E.D L win A.S V HV.out.ta.sy)
  have HPN := hide fun wx (hp : 0 < (A.S.net.length : Int)) => pick_any X.n (A.S.net.length : Int) wx hp (by omega)
  have hpin := fun hp => pickF_in X.n (A.S.net.length : Int) hp (by omega)
  obtain ⟨m, hm⟩ : ∃ m, Hid (A.S.net.length = m) := ⟨_, hide rfl⟩
  rw [hm.out] at HMN HPN hpin hle
  go_wp2_with fail
  refine HMN.out.mono ?_
  rintro e wz ⟨rfl, hwz⟩
  subst wz
  by_cases hm0 : m = 0
  · have hm0' : ¬ (0 : Int) < (m : Int) := by omega
    clear HPN hpin
    have HC := hide (sytick3_any N E.D L win A.S V HV.out.ta.sy HI.out.inv.vok)
    go_wp2_with (go_at_call 25; refine HC.out.mono ?_)
    rintro e w2 ⟨he, hg⟩
    have HG := hide (HV.out.went hg)
    subst he
    clear hg
    go_wp2_with fail
    go_end0
    exact ⟨rfl, _, StepTo.vtick A (by rw [HWH.out]; decide), HG.out⟩
  · have hm0' : (0 : Int) < (m : Int) := by omega
    obtain ⟨j1, j2⟩ := hpin hm0'
    obtain ⟨i, hi⟩ := Int.eq_ofNat_of_zero_le j1
    have HPI := hide fun wx => HPN.out wx hm0'
    rw [hi] at HPI j2
    have hil : i < m := by omega
    clear HPN hpin j1 hi
    go_wp2_with (go_at_call 22; refine (unhide HPI _).mono ?_)
    rintro e wz ⟨rfl, hwz⟩
    subst wz
    have HC := hide (sytick3_any N E.D L win A.S V HV.out.ta.sy HI.out.inv.vok)
    go_wp2_with (go_at_call 25; refine HC.out.mono ?_)
    rintro e w2 ⟨he, hg⟩
    have HG := hide (HV.out.went hg)
    subst he
    clear hg
    go_wp2_with fail
    go_end0
    exact ⟨rfl, _, StepTo.vtick A (by rw [HWH.out]; decide), HG.out⟩
end Go.Proofs.YtaablbmgagiajaaGreatDoor
