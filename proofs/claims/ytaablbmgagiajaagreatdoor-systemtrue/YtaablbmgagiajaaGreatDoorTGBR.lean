import Derived.Test.YtaablbmgagiajaaGreatDoorTGBP
import Derived.Test.YtaablbmgagiajaaGreatDoorTGBQ
import Derived.Deep.RegionHeld3
import Derived.OpenShut
import Derived.ChangeSame
import Derived.ChangeArms
import Derived.WideShapes
import Derived.Deep.SlicePairs
namespace Go.Proofs.YtaablbmgagiajaaGreatDoor
open Go.RowKit Go.Deep
theorem or_top (x : Int) : ∃ what : Nat, bits .or .u32 (IntKind.u32.wrap x) 2147483648 = (what : Int) ∧ what < 4294967296 ∧ what ≠ 0 := by
  refine ⟨(BitVec.ofInt 32 (IntKind.u32.wrap x) ||| BitVec.ofInt 32 2147483648).toNat, ?_, (BitVec.ofInt 32 (IntKind.u32.wrap x) ||| BitVec.ofInt 32 2147483648).isLt, fun e => ?_⟩
  · show IntKind.u32.wrap (((BitVec.ofInt 32 _ ||| BitVec.ofInt 32 _).toNat : Nat) : Int) = _
    have := (BitVec.ofInt 32 (IntKind.u32.wrap x) ||| BitVec.ofInt 32 2147483648).isLt
    generalize (BitVec.ofInt 32 (IntKind.u32.wrap x) ||| BitVec.ofInt 32 2147483648).toNat = n at this ⊢
    simp [IntKind.wrap, IntKind.bits, IntKind.signed]
    omega
  · have h : (BitVec.ofInt 32 (IntKind.u32.wrap x) ||| BitVec.ofInt 32 2147483648).toNat.testBit 31 = true := by
      rw [BitVec.toNat_or, Nat.testBit_or]
      have : (BitVec.ofInt 32 2147483648).toNat.testBit 31 = true := by decide
      rw [this, Bool.or_true]
    rw [e] at h
    simp at h
set_option maxHeartbeats 1000000 in
set_option maxRecDepth 20000 in
theorem does_6 (N q : Nat) (E : TC) (L : RC) (win liar T : Nat) (A : TS) (w : World) (X : SD) (h : TaIs w N q E L win liar A) (hI : TlInv L liar win T A) (hL : LOk L) (htab : HasTab w) (hwh : X.wh = 6) :
    Calls Tryz.prog 8 #[.pointer (some ⟨q, 0, none⟩), .agg (sdL X).toArray] w fun e w' => e = .returned (.tuple #[]) ∧ ∃ A', StepTo L win liar X.wh A A' ∧ TaGo w w' N q E L win liar A' := by
  obtain ⟨W, hW⟩ : ∃ W, Hid (w.alloc (.cells (sdL X).toArray 38) = W) := ⟨_, hide rfl⟩
  have hBW : Below w.heap.size w W := by rw [← hW.out]; exact (Below.refl _ _).alloc (Nat.le_refl _) _
  have HDO : Hid (DoIn W w N q E L win liar A X) := hide ⟨hBW, h.below hBW, by rw [← hW.out]; exact blk_new _ _⟩
  have x1 := HDO.out.x1
  have c0 := HDO.out.c0
  have HPK := hide fun wx => pick_any X.k 3 wx (by decide) (by decide)
  obtain ⟨k1, k2⟩ := pickF_in X.k 3 (by decide) (by decide)
  obtain ⟨k, hk⟩ := Int.eq_ofNat_of_zero_le k1
  rw [hk] at HPK k2
  have hk3 : k < 3 := by omega
  obtain ⟨cs, hcs⟩ : ∃ cs, Hid ((sdL X).toArray = cs) := ⟨_, hide rfl⟩
  rw [hcs.out] at hW ⊢
  have hle := hI.inv.many
  have HI := hide hI
  have HL := hide hL
  have HWH := hide hwh
  have hq0 := h.lt
  clear h hBW hk k1 hwh hI hL
  go_enter Tryz.func8, Tryz.ntmps8
  go_wp2_with fail
  rw [show w.alloc (.cells cs 38) = W from hW.out]
  clear hW hcs
  go_quiet ((go_at_call 22; exact Calls.quiet_of_same (unhide HPK _)))
  have HV : Hid (DoIn (W.drewN nq) w N q E L win liar A X) := hide (HDO.out.below (below_drewN (Below.refl _ _) nq))
  generalize W.drewN nq = V at HV ⊢
  clear HDO x1 c0 HPK
  have x2 := HV.out.x2
  have x0 := HV.out.x0
  have hVl : w.heap.size < V.heap.size := blk_lt HV.out.box
  rw [HWH.out] at x0
  have HMN := hide (many_any N E.D L win A.S V HV.out.ta.sy)
  have HPN := hide fun wx (hp : 0 < (A.S.net.length : Int)) => pick_any X.n (A.S.net.length : Int) wx hp (by omega)
  have hpin := fun hp => pickF_in X.n (A.S.net.length : Int) hp (by omega)
  obtain ⟨m, hm⟩ : ∃ m, Hid (A.S.net.length = m) := ⟨_, hide rfl⟩
  rw [hm.out] at HMN HPN hpin hle
  have hql := HV.out.ta.lt
  go_wp2_with fail
  refine HMN.out.mono ?_
  rintro e wz ⟨rfl, hwz⟩
  subst wz
  by_cases hm0 : m = 0
  · have hm0' : ¬ (0 : Int) < (m : Int) := by omega
    clear HPN hpin
    obtain ⟨a1, a2⟩ := pickF_in X.n 700 (by decide) (by decide)
    obtain ⟨a, ha⟩ := Int.eq_ofNat_of_zero_le a1
    have HPA := hide fun wx => pick_any X.n 700 wx (by decide) (by decide)
    rw [ha] at HPA a2
    obtain ⟨what, hwh, hw1, hw2⟩ := or_top X.x
    obtain ⟨t, mm, hwt⟩ := low_bit what hw2
    have HC : Hid (Calls Tryz.prog 30 #[.pointer (some ⟨E.D.p, 0, none⟩), .int .i64 ((0 : Nat) : Int), .int .i64 (a : Int), .int .u32 (what : Int)] V.drew fun e w2 => (∃ v, e = .returned v) ∧ (w2.cell? ⟨w.heap.size, 2, none⟩ = some (.int .i64 X.n) ∧ w2.cell? ⟨w.heap.size, 3, none⟩ = some (.int .i64 X.x)) ∧ ∃ A', StepTo L win liar X.wh A A' ∧ TaGo w w2 N q E L win liar A') := hide (by
      have hD := HV.out.below (Below.refl _ _).drew
      refine (spoil_any N E.D L win A.S V.drew 0 a what t mm hD.ta.sy (fun p hp => (HI.out.inv.net p hp).len) hw1 hwt (by omega) (htab.below hD.old (by omega))).mono ?_
      rintro e w2 ⟨he, S', hg, hS⟩
      refine ⟨he, ⟨hD.stay hg 2, hD.stay hg 3⟩, ?_⟩
      rcases hS with rfl | ⟨s1, s2, s3, rfl⟩
      · exact ⟨_, StepTo.same A, hD.went hg⟩
      · exact ⟨_, StepTo.spoil A 0 a what t mm s1 s2 hw1 hwt s3, hD.went hg⟩)
    rw [show ((0 : Nat) : Int) = 0 from rfl] at HC
    have x3 := HV.out.x3
    clear hwt htab
    go_wp2_with fail
    refine wp_region_held_drew (S := fun w' => w'.cell? ⟨w.heap.size, 2, none⟩ = some (.int .i64 X.n) ∧ w'.cell? ⟨w.heap.size, 3, none⟩ = some (.int .i64 X.x)) (by kernel_rfl) ⟨x2, x3⟩ (fun hHeld => ?_)
    refine wpAnyH_take (i := 0) (oi := _) (v := .pointer (some ⟨E.D.p, 0, none⟩)) rfl (by kernel_rfl) (by kernel_rfl) (by kernel_rfl) (fun _ _ _ h => h) (Or.inl ⟨by rfl, fun w _ => by go_simp⟩) hHeld ?_
    refine wpAnyH_take (i := 1) (oi := _) (v := .int .i64 (0 : Int)) rfl (by kernel_rfl) (by kernel_rfl) (by kernel_rfl) (fun _ _ _ h => h) (Or.inl ⟨by rfl, fun w _ => by go_simp⟩) hHeld ?_
    refine wpAnyH_take (i := 2) (oi := _) (v := .pointer (some ⟨w.heap.size, 2, none⟩)) rfl (by kernel_rfl) (by kernel_rfl) (by kernel_rfl) (fun _ _ _ h => h) (Or.inl ⟨by rfl, fun w _ => by go_simp⟩) hHeld ?_
    refine wpAnyH_take (i := 3) (oi := _) (v := .int .i64 X.n) rfl (by kernel_rfl) (by kernel_rfl) (by kernel_rfl) (fun _ _ _ h => h) (Or.inl ⟨by rfl, fun w h => by obtain ⟨h1, h2⟩ := h; go_simp⟩) hHeld ?_
    refine wpAnyH_take (i := 5) (oi := _) (v := .pointer (some ⟨w.heap.size, 3, none⟩)) rfl (by kernel_rfl) (by kernel_rfl) (by kernel_rfl) (fun _ _ _ h => h) (Or.inl ⟨by rfl, fun w _ => by go_simp⟩) hHeld ?_
    refine wpAnyH_take (i := 6) (oi := _) (v := .pointer (some ⟨w.heap.size, 3, none⟩)) rfl (by kernel_rfl) (by kernel_rfl) (by kernel_rfl) (fun _ _ _ h => h) (Or.inl ⟨by rfl, fun w _ => by go_simp⟩) hHeld ?_
    refine wpAnyH_take (i := 7) (oi := _) (v := .int .i64 X.x) rfl (by kernel_rfl) (by kernel_rfl) (by kernel_rfl) (fun _ _ _ h => h) (Or.inl ⟨by rfl, fun w h => by obtain ⟨h1, h2⟩ := h; go_simp⟩) hHeld ?_
    refine wpAnyH_take (i := 8) (oi := _) (v := .int .u32 (IntKind.u32.wrap X.x)) rfl (by kernel_rfl) (by kernel_rfl) (by kernel_rfl) (fun _ _ _ h => h) (Or.inl ⟨by rfl, fun w _ => by go_simp⟩) hHeld ?_
    refine wpAnyH_take (i := 9) (oi := _) (v := .int .u32 (what : Int)) rfl (by kernel_rfl) (by kernel_rfl) (by kernel_rfl) (fun _ _ _ h => h) (Or.inl ⟨by rfl, fun w _ => by go_simp⟩) hHeld ?_
    refine wpAnyH_ready (rs := [4]) (by kernel_rfl) (by simp) ?_
    refine AllReadyH.cons (o := _) rfl (fun K hK => ?_) AllReadyH.nil
    rw [if_pos (by rfl)]
    go_simp
    go_at_call 22
    refine (unhide HPA _).mono ?_
    rintro e w5 ⟨rfl, rfl⟩
    dsimp only
    refine hK.out _ _ ⟨x2, x3⟩ (fun hHeld => ?_)
    clear hK K
    refine wpAnyH_ready (rs := [10]) (by kernel_rfl) (by simp) ?_
    refine AllReadyH.cons (o := _) rfl (fun K hK => ?_) AllReadyH.nil
    rw [if_pos (by rfl)]
    go_simp
    go_at_call 30
    refine HC.out.mono ?_
    rintro e w6 ⟨⟨ev, rfl⟩, hx6, HS6⟩
    dsimp only
    have HG := hide HS6
    clear HS6
    refine hK.out _ _ hx6 (fun hHeld => ?_)
    clear hK K
    refine wpAnyH_done (by kernel_rfl) ?_ _
    go_wp2_with fail
    go_end0
    exact ⟨rfl, HG.out⟩
  · have hm0' : (0 : Int) < (m : Int) := by omega
    obtain ⟨j1, j2⟩ := hpin hm0'
    obtain ⟨i, hi⟩ := Int.eq_ofNat_of_zero_le j1
    have HPI := hide fun wx => HPN.out wx hm0'
    rw [hi] at HPI j2
    have hil : i < m := by omega
    clear HPN hpin j1 hi
    go_wp2_with (go_at_call 22; refine (unhide HPI _).mono ?_)
    rintro e wz ⟨rfl, hwz⟩
    subst wz
    obtain ⟨a1, a2⟩ := pickF_in X.n 700 (by decide) (by decide)
    obtain ⟨a, ha⟩ := Int.eq_ofNat_of_zero_le a1
    have HPA := hide fun wx => pick_any X.n 700 wx (by decide) (by decide)
    rw [ha] at HPA a2
    obtain ⟨what, hwh, hw1, hw2⟩ := or_top X.x
    obtain ⟨t, mm, hwt⟩ := low_bit what hw2
    have HC : Hid (Calls Tryz.prog 30 #[.pointer (some ⟨E.D.p, 0, none⟩), .int .i64 (i : Int), .int .i64 (a : Int), .int .u32 (what : Int)] V.drew fun e w2 => (∃ v, e = .returned v) ∧ (w2.cell? ⟨w.heap.size, 2, none⟩ = some (.int .i64 X.n) ∧ w2.cell? ⟨w.heap.size, 3, none⟩ = some (.int .i64 X.x)) ∧ ∃ A', StepTo L win liar X.wh A A' ∧ TaGo w w2 N q E L win liar A') := hide (by
      have hD := HV.out.below (Below.refl _ _).drew
      refine (spoil_any N E.D L win A.S V.drew i a what t mm hD.ta.sy (fun p hp => (HI.out.inv.net p hp).len) hw1 hwt (by omega) (htab.below hD.old (by omega))).mono ?_
      rintro e w2 ⟨he, S', hg, hS⟩
      refine ⟨he, ⟨hD.stay hg 2, hD.stay hg 3⟩, ?_⟩
      rcases hS with rfl | ⟨s1, s2, s3, rfl⟩
      · exact ⟨_, StepTo.same A, hD.went hg⟩
      · exact ⟨_, StepTo.spoil A i a what t mm s1 s2 hw1 hwt s3, hD.went hg⟩)
    have x3 := HV.out.x3
    clear hwt htab
    go_wp2_with fail
    refine wp_region_held_drew (S := fun w' => w'.cell? ⟨w.heap.size, 2, none⟩ = some (.int .i64 X.n) ∧ w'.cell? ⟨w.heap.size, 3, none⟩ = some (.int .i64 X.x)) (by kernel_rfl) ⟨x2, x3⟩ (fun hHeld => ?_)
    refine wpAnyH_take (i := 0) (oi := _) (v := .pointer (some ⟨E.D.p, 0, none⟩)) rfl (by kernel_rfl) (by kernel_rfl) (by kernel_rfl) (fun _ _ _ h => h) (Or.inl ⟨by rfl, fun w _ => by go_simp⟩) hHeld ?_
    refine wpAnyH_take (i := 1) (oi := _) (v := .int .i64 (i : Int)) rfl (by kernel_rfl) (by kernel_rfl) (by kernel_rfl) (fun _ _ _ h => h) (Or.inl ⟨by rfl, fun w _ => by go_simp⟩) hHeld ?_
    refine wpAnyH_take (i := 2) (oi := _) (v := .pointer (some ⟨w.heap.size, 2, none⟩)) rfl (by kernel_rfl) (by kernel_rfl) (by kernel_rfl) (fun _ _ _ h => h) (Or.inl ⟨by rfl, fun w _ => by go_simp⟩) hHeld ?_
    refine wpAnyH_take (i := 3) (oi := _) (v := .int .i64 X.n) rfl (by kernel_rfl) (by kernel_rfl) (by kernel_rfl) (fun _ _ _ h => h) (Or.inl ⟨by rfl, fun w h => by obtain ⟨h1, h2⟩ := h; go_simp⟩) hHeld ?_
    refine wpAnyH_take (i := 5) (oi := _) (v := .pointer (some ⟨w.heap.size, 3, none⟩)) rfl (by kernel_rfl) (by kernel_rfl) (by kernel_rfl) (fun _ _ _ h => h) (Or.inl ⟨by rfl, fun w _ => by go_simp⟩) hHeld ?_
    refine wpAnyH_take (i := 6) (oi := _) (v := .pointer (some ⟨w.heap.size, 3, none⟩)) rfl (by kernel_rfl) (by kernel_rfl) (by kernel_rfl) (fun _ _ _ h => h) (Or.inl ⟨by rfl, fun w _ => by go_simp⟩) hHeld ?_
    refine wpAnyH_take (i := 7) (oi := _) (v := .int .i64 X.x) rfl (by kernel_rfl) (by kernel_rfl) (by kernel_rfl) (fun _ _ _ h => h) (Or.inl ⟨by rfl, fun w h => by obtain ⟨h1, h2⟩ := h; go_simp⟩) hHeld ?_
    refine wpAnyH_take (i := 8) (oi := _) (v := .int .u32 (IntKind.u32.wrap X.x)) rfl (by kernel_rfl) (by kernel_rfl) (by kernel_rfl) (fun _ _ _ h => h) (Or.inl ⟨by rfl, fun w _ => by go_simp⟩) hHeld ?_
    refine wpAnyH_take (i := 9) (oi := _) (v := .int .u32 (what : Int)) rfl (by kernel_rfl) (by kernel_rfl) (by kernel_rfl) (fun _ _ _ h => h) (Or.inl ⟨by rfl, fun w _ => by go_simp⟩) hHeld ?_
    refine wpAnyH_ready (rs := [4]) (by kernel_rfl) (by simp) ?_
    refine AllReadyH.cons (o := _) rfl (fun K hK => ?_) AllReadyH.nil
    rw [if_pos (by rfl)]
    go_simp
    go_at_call 22
    refine (unhide HPA _).mono ?_
    rintro e w5 ⟨rfl, rfl⟩
    dsimp only
    refine hK.out _ _ ⟨x2, x3⟩ (fun hHeld => ?_)
    clear hK K
    refine wpAnyH_ready (rs := [10]) (by kernel_rfl) (by simp) ?_
    refine AllReadyH.cons (o := _) rfl (fun K hK => ?_) AllReadyH.nil
    rw [if_pos (by rfl)]
    go_simp
    go_at_call 30
    refine HC.out.mono ?_
    rintro e w6 ⟨⟨ev, rfl⟩, hx6, HS6⟩
    dsimp only
    have HG := hide HS6
    clear HS6
    refine hK.out _ _ hx6 (fun hHeld => ?_)
    clear hK K
    refine wpAnyH_done (by kernel_rfl) ?_ _
    go_wp2_with fail
    go_end0
    exact ⟨rfl, HG.out⟩
set_option maxHeartbeats 1000000 in
set_option maxRecDepth 20000 in
theorem does_9 (N q : Nat) (E : TC) (L : RC) (win liar T : Nat) (A : TS) (w : World) (X : SD) (h : TaIs w N q E L win liar A) (hI : TlInv L liar win T A) (hL : LOk L) (hby : IsB w X.ba X.bl X.bc X.bs) (hbl : X.bl ≤ 200) (hwh : X.wh = 9) :
    Calls Tryz.prog 8 #[.pointer (some ⟨q, 0, none⟩), .agg (sdL X).toArray] w fun e w' => e = .returned (.tuple #[]) ∧ ∃ A', StepTo L win liar X.wh A A' ∧ TaGo w w' N q E L win liar A' := by
  obtain ⟨W, hW⟩ : ∃ W, Hid (w.alloc (.cells (sdL X).toArray 38) = W) := ⟨_, hide rfl⟩
  have hBW : Below w.heap.size w W := by rw [← hW.out]; exact (Below.refl _ _).alloc (Nat.le_refl _) _
  have HDO : Hid (DoIn W w N q E L win liar A X) := hide ⟨hBW, h.below hBW, by rw [← hW.out]; exact blk_new _ _⟩
  have x1 := HDO.out.x1
  have c0 := HDO.out.c0
  have HPK := hide fun wx => pick_any X.k 3 wx (by decide) (by decide)
  obtain ⟨k1, k2⟩ := pickF_in X.k 3 (by decide) (by decide)
  obtain ⟨k, hk⟩ := Int.eq_ofNat_of_zero_le k1
  rw [hk] at HPK k2
  have hk3 : k < 3 := by omega
  obtain ⟨cs, hcs⟩ : ∃ cs, Hid ((sdL X).toArray = cs) := ⟨_, hide rfl⟩
  rw [hcs.out] at hW ⊢
  have hle := hI.inv.many
  have HI := hide hI
  have HL := hide hL
  have HWH := hide hwh
  clear h hBW hk k1 hwh hI hL
  go_enter Tryz.func8, Tryz.ntmps8
  go_wp2_with fail
  rw [show w.alloc (.cells cs 38) = W from hW.out]
  clear hW hcs
  go_quiet ((go_at_call 22; exact Calls.quiet_of_same (unhide HPK _)))
  have HV : Hid (DoIn (W.drewN nq) w N q E L win liar A X) := hide (HDO.out.below (below_drewN (Below.refl _ _) nq))
  generalize W.drewN nq = V at HV ⊢
  clear HDO x1 c0 HPK
  have x2 := HV.out.x2
  have x0 := HV.out.x0
  have hVl : w.heap.size < V.heap.size := blk_lt HV.out.box
  rw [HWH.out] at x0
  have HMN := hide (many_any N E.D L win A.S V HV.out.ta.sy)
  have HPN := hide fun wx (hp : 0 < (A.S.net.length : Int)) => pick_any X.n (A.S.net.length : Int) wx hp (by omega)
  have hpin := fun hp => pickF_in X.n (A.S.net.length : Int) hp (by omega)
  obtain ⟨m, hm⟩ : ∃ m, Hid (A.S.net.length = m) := ⟨_, hide rfl⟩
  rw [hm.out] at HMN HPN hpin hle
  have hql := HV.out.ta.lt
  go_wp2_with fail
  refine HMN.out.mono ?_
  rintro e wz ⟨rfl, hwz⟩
  subst wz
  by_cases hm0 : m = 0
  · have hm0' : ¬ (0 : Int) < (m : Int) := by omega
    clear HPN hpin
    have c4 := HV.out.c4
    have x28 := HV.out.x28
    by_cases hll : liar < 3
    · have hll' : (liar : Int) < 3 := by omega
      obtain ⟨a1, a2⟩ := pickF_in X.n 3 (by decide) (by decide)
      obtain ⟨j, hj⟩ := Int.eq_ofNat_of_zero_le a1
      have HPA := hide fun wx => pick_any X.n 3 wx (by decide) (by decide)
      rw [hj] at HPA a2
      have hj3 : j < 3 := by omega
      obtain ⟨dst, hds⟩ : ∃ dst, Hid ((liar + 1 + j) % 4 = dst) := ⟨_, hide rfl⟩
      have hd3 : dst ≤ 3 := by rw [← hds.out]; omega
      have hdl : liar ≠ dst := by rw [← hds.out]; omega
      have e14 := dst_rem liar j hll hj3
      rw [hds.out] at e14
      obtain ⟨S', hS'⟩ : ∃ S', Hid ((if X.bl ≤ 80 then putSy ⟨liar, dst, X.bs⟩ A.S else A.S) = S') := ⟨_, hide rfl⟩
      have HC : Hid (Calls Tryz.prog 33 #[.pointer (some ⟨E.D.p, 0, none⟩), .int .i64 (liar : Int), .int .i64 (dst : Int), .slice X.ba X.bl X.bc] V.drew fun e w2 => (∃ v, e = .returned v) ∧ (w2.cell? ⟨q, 4, none⟩ = some (.int .i64 (liar : Int)) ∧ w2.cell? ⟨w.heap.size, 2, none⟩ = some (.int .i64 X.n) ∧ w2.cell? ⟨w.heap.size, 28, none⟩ = some (.slice X.ba X.bl X.bc)) ∧ ∃ A', StepTo L win liar X.wh A A' ∧ TaGo w w2 N q E L win liar A') := hide (by
        have hD := HV.out.below (Below.refl _ _).drew
        refine (says_any N E.D L win A.S V.drew liar dst X.ba X.bl X.bc X.bs hll hd3 hdl hD.ta.sy (hby.below hD.old) (by omega) HI.out.inv.many hD.ta.size).mono ?_
        rintro e w2 ⟨he, hg⟩
        obtain ⟨E2, _, _, _, _, hT2, _⟩ := hD.ta.went hg
        refine ⟨he, ⟨(hT2.at 4).trans rfl, hD.stay hg 2, (hD.stay hg 28).trans (sdL_bytes X)⟩, ?_⟩
        by_cases hx : X.bl ≤ 80
        · rw [if_pos hx] at hg
          exact ⟨_, StepTo.says A dst X.bs hll hd3 hby.2.2.1 (by rw [hby.1]; exact hx), hD.went hg⟩
        · rw [if_neg hx] at hg
          exact ⟨_, StepTo.same A, hD.went hg⟩)
      clear hS' hby
      go_wp2_with fail
      refine wp_region_held_drew (S := fun w' => w'.cell? ⟨q, 4, none⟩ = some (.int .i64 (liar : Int)) ∧ w'.cell? ⟨w.heap.size, 2, none⟩ = some (.int .i64 X.n) ∧ w'.cell? ⟨w.heap.size, 28, none⟩ = some (.slice X.ba X.bl X.bc)) (by kernel_rfl) ⟨c4, x2, x28⟩ (fun hHeld => ?_)
      refine wpAnyH_take (i := 0) (oi := _) (v := .pointer (some ⟨E.D.p, 0, none⟩)) rfl (by kernel_rfl) (by kernel_rfl) (by kernel_rfl) (fun _ _ _ h => h) (Or.inl ⟨by rfl, fun w _ => by go_simp⟩) hHeld ?_
      refine wpAnyH_take (i := 1) (oi := _) (v := .pointer (some ⟨q, 0, none⟩)) rfl (by kernel_rfl) (by kernel_rfl) (by kernel_rfl) (fun _ _ _ h => h) (Or.inl ⟨by rfl, fun w _ => by go_simp⟩) hHeld ?_
      refine wpAnyH_take (i := 2) (oi := _) (v := .pointer (some ⟨q, 0, none⟩)) rfl (by kernel_rfl) (by kernel_rfl) (by kernel_rfl) (fun _ _ _ h => h) (Or.inl ⟨by rfl, fun w _ => by go_simp⟩) hHeld ?_
      refine wpAnyH_take (i := 3) (oi := _) (v := .pointer (some ⟨q, 4, none⟩)) rfl (by kernel_rfl) (by kernel_rfl) (by kernel_rfl) (fun _ _ _ h => h) (Or.inl ⟨by rfl, fun w _ => by go_simp⟩) hHeld ?_
      refine wpAnyH_take (i := 4) (oi := _) (v := .int .i64 (liar : Int)) rfl (by kernel_rfl) (by kernel_rfl) (by kernel_rfl) (fun _ _ _ h => h) (Or.inl ⟨by rfl, fun w h => by obtain ⟨h1, h2, h3⟩ := h; go_simp⟩) hHeld ?_
      refine wpAnyH_take (i := 5) (oi := _) (v := .pointer (some ⟨q, 0, none⟩)) rfl (by kernel_rfl) (by kernel_rfl) (by kernel_rfl) (fun _ _ _ h => h) (Or.inl ⟨by rfl, fun w _ => by go_simp⟩) hHeld ?_
      refine wpAnyH_take (i := 6) (oi := _) (v := .pointer (some ⟨q, 0, none⟩)) rfl (by kernel_rfl) (by kernel_rfl) (by kernel_rfl) (fun _ _ _ h => h) (Or.inl ⟨by rfl, fun w _ => by go_simp⟩) hHeld ?_
      refine wpAnyH_take (i := 7) (oi := _) (v := .pointer (some ⟨q, 4, none⟩)) rfl (by kernel_rfl) (by kernel_rfl) (by kernel_rfl) (fun _ _ _ h => h) (Or.inl ⟨by rfl, fun w _ => by go_simp⟩) hHeld ?_
      refine wpAnyH_take (i := 8) (oi := _) (v := .int .i64 (liar : Int)) rfl (by kernel_rfl) (by kernel_rfl) (by kernel_rfl) (fun _ _ _ h => h) (Or.inl ⟨by rfl, fun w h => by obtain ⟨h1, h2, h3⟩ := h; go_simp⟩) hHeld ?_
      refine wpAnyH_take (i := 9) (oi := _) (v := .int .i64 ((liar : Int) + 1)) rfl (by kernel_rfl) (by kernel_rfl) (by kernel_rfl) (fun _ _ _ h => h) (Or.inl ⟨by rfl, fun w _ => by go_simp; simp [IntKind.wrap, IntKind.bits, IntKind.signed]; omega⟩) hHeld ?_
      refine wpAnyH_take (i := 10) (oi := _) (v := .pointer (some ⟨w.heap.size, 2, none⟩)) rfl (by kernel_rfl) (by kernel_rfl) (by kernel_rfl) (fun _ _ _ h => h) (Or.inl ⟨by rfl, fun w _ => by go_simp⟩) hHeld ?_
      refine wpAnyH_take (i := 11) (oi := _) (v := .int .i64 X.n) rfl (by kernel_rfl) (by kernel_rfl) (by kernel_rfl) (fun _ _ _ h => h) (Or.inl ⟨by rfl, fun w h => by obtain ⟨h1, h2, h3⟩ := h; go_simp⟩) hHeld ?_
      refine wpAnyH_take (i := 15) (oi := _) (v := .pointer (some ⟨w.heap.size, 28, none⟩)) rfl (by kernel_rfl) (by kernel_rfl) (by kernel_rfl) (fun _ _ _ h => h) (Or.inl ⟨by rfl, fun w _ => by go_simp⟩) hHeld ?_
      refine wpAnyH_take (i := 16) (oi := _) (v := .slice X.ba X.bl X.bc) rfl (by kernel_rfl) (by kernel_rfl) (by kernel_rfl) (fun _ _ _ h => h) (Or.inl ⟨by rfl, fun w h => by obtain ⟨h1, h2, h3⟩ := h; go_simp⟩) hHeld ?_
      refine wpAnyH_ready (rs := [12]) (by kernel_rfl) (by simp) ?_
      refine AllReadyH.cons (o := _) rfl (fun K hK => ?_) AllReadyH.nil
      rw [if_pos (by rfl)]
      go_simp
      go_at_call 22
      refine (unhide HPA _).mono ?_
      rintro e w5 ⟨rfl, rfl⟩
      dsimp only
      refine hK.out _ _ ⟨c4, x2, x28⟩ (fun hHeld => ?_)
      clear hK K
      refine wpAnyH_take (i := 13) (oi := _) (v := .int .i64 ((liar : Int) + 1 + (j : Int))) rfl (by kernel_rfl) (by kernel_rfl) (by kernel_rfl) (fun _ _ _ h => h) (Or.inl ⟨by rfl, fun w _ => by go_simp; simp [IntKind.wrap, IntKind.bits, IntKind.signed]; omega⟩) hHeld ?_
      refine wpAnyH_take (i := 14) (oi := _) (v := .int .i64 (dst : Int)) rfl (by kernel_rfl) (by kernel_rfl) (by kernel_rfl) (fun _ _ _ h => h) (Or.inl ⟨by rfl, fun w _ => by go_simp⟩) hHeld ?_
      refine wpAnyH_ready (rs := [17]) (by kernel_rfl) (by simp) ?_
      refine AllReadyH.cons (o := _) rfl (fun K hK => ?_) AllReadyH.nil
      rw [if_pos (by rfl)]
      go_simp
      go_at_call 33
      refine HC.out.mono ?_
      rintro e w6 ⟨⟨ev, rfl⟩, hx6, HS6⟩
      dsimp only
      have HG := hide HS6
      clear HS6
      refine hK.out _ _ hx6 (fun hHeld => ?_)
      clear hK K
      refine wpAnyH_done (by kernel_rfl) ?_ _
      go_wp2_with fail
      go_end0
      exact ⟨rfl, HG.out⟩
    · have hll' : ¬ (liar : Int) < 3 := by omega
      go_wp2_with fail
      go_end0
      exact ⟨rfl, A, StepTo.same A, HV.out.ta.goes.pre HV.out.old⟩
  · have hm0' : (0 : Int) < (m : Int) := by omega
    obtain ⟨j1, j2⟩ := hpin hm0'
    obtain ⟨i, hi⟩ := Int.eq_ofNat_of_zero_le j1
    have HPI := hide fun wx => HPN.out wx hm0'
    rw [hi] at HPI j2
    have hil : i < m := by omega
    clear HPN hpin j1 hi
    go_wp2_with (go_at_call 22; refine (unhide HPI _).mono ?_)
    rintro e wz ⟨rfl, hwz⟩
    subst wz
    have c4 := HV.out.c4
    have x28 := HV.out.x28
    by_cases hll : liar < 3
    · have hll' : (liar : Int) < 3 := by omega
      obtain ⟨a1, a2⟩ := pickF_in X.n 3 (by decide) (by decide)
      obtain ⟨j, hj⟩ := Int.eq_ofNat_of_zero_le a1
      have HPA := hide fun wx => pick_any X.n 3 wx (by decide) (by decide)
      rw [hj] at HPA a2
      have hj3 : j < 3 := by omega
      obtain ⟨dst, hds⟩ : ∃ dst, Hid ((liar + 1 + j) % 4 = dst) := ⟨_, hide rfl⟩
      have hd3 : dst ≤ 3 := by rw [← hds.out]; omega
      have hdl : liar ≠ dst := by rw [← hds.out]; omega
      have e14 := dst_rem liar j hll hj3
      rw [hds.out] at e14
      obtain ⟨S', hS'⟩ : ∃ S', Hid ((if X.bl ≤ 80 then putSy ⟨liar, dst, X.bs⟩ A.S else A.S) = S') := ⟨_, hide rfl⟩
      have HC : Hid (Calls Tryz.prog 33 #[.pointer (some ⟨E.D.p, 0, none⟩), .int .i64 (liar : Int), .int .i64 (dst : Int), .slice X.ba X.bl X.bc] V.drew fun e w2 => (∃ v, e = .returned v) ∧ (w2.cell? ⟨q, 4, none⟩ = some (.int .i64 (liar : Int)) ∧ w2.cell? ⟨w.heap.size, 2, none⟩ = some (.int .i64 X.n) ∧ w2.cell? ⟨w.heap.size, 28, none⟩ = some (.slice X.ba X.bl X.bc)) ∧ ∃ A', StepTo L win liar X.wh A A' ∧ TaGo w w2 N q E L win liar A') := hide (by
        have hD := HV.out.below (Below.refl _ _).drew
        refine (says_any N E.D L win A.S V.drew liar dst X.ba X.bl X.bc X.bs hll hd3 hdl hD.ta.sy (hby.below hD.old) (by omega) HI.out.inv.many hD.ta.size).mono ?_
        rintro e w2 ⟨he, hg⟩
        obtain ⟨E2, _, _, _, _, hT2, _⟩ := hD.ta.went hg
        refine ⟨he, ⟨(hT2.at 4).trans rfl, hD.stay hg 2, (hD.stay hg 28).trans (sdL_bytes X)⟩, ?_⟩
        by_cases hx : X.bl ≤ 80
        · rw [if_pos hx] at hg
          exact ⟨_, StepTo.says A dst X.bs hll hd3 hby.2.2.1 (by rw [hby.1]; exact hx), hD.went hg⟩
        · rw [if_neg hx] at hg
          exact ⟨_, StepTo.same A, hD.went hg⟩)
      clear hS' hby
      go_wp2_with fail
      refine wp_region_held_drew (S := fun w' => w'.cell? ⟨q, 4, none⟩ = some (.int .i64 (liar : Int)) ∧ w'.cell? ⟨w.heap.size, 2, none⟩ = some (.int .i64 X.n) ∧ w'.cell? ⟨w.heap.size, 28, none⟩ = some (.slice X.ba X.bl X.bc)) (by kernel_rfl) ⟨c4, x2, x28⟩ (fun hHeld => ?_)
      refine wpAnyH_take (i := 0) (oi := _) (v := .pointer (some ⟨E.D.p, 0, none⟩)) rfl (by kernel_rfl) (by kernel_rfl) (by kernel_rfl) (fun _ _ _ h => h) (Or.inl ⟨by rfl, fun w _ => by go_simp⟩) hHeld ?_
      refine wpAnyH_take (i := 1) (oi := _) (v := .pointer (some ⟨q, 0, none⟩)) rfl (by kernel_rfl) (by kernel_rfl) (by kernel_rfl) (fun _ _ _ h => h) (Or.inl ⟨by rfl, fun w _ => by go_simp⟩) hHeld ?_
      refine wpAnyH_take (i := 2) (oi := _) (v := .pointer (some ⟨q, 0, none⟩)) rfl (by kernel_rfl) (by kernel_rfl) (by kernel_rfl) (fun _ _ _ h => h) (Or.inl ⟨by rfl, fun w _ => by go_simp⟩) hHeld ?_
      refine wpAnyH_take (i := 3) (oi := _) (v := .pointer (some ⟨q, 4, none⟩)) rfl (by kernel_rfl) (by kernel_rfl) (by kernel_rfl) (fun _ _ _ h => h) (Or.inl ⟨by rfl, fun w _ => by go_simp⟩) hHeld ?_
      refine wpAnyH_take (i := 4) (oi := _) (v := .int .i64 (liar : Int)) rfl (by kernel_rfl) (by kernel_rfl) (by kernel_rfl) (fun _ _ _ h => h) (Or.inl ⟨by rfl, fun w h => by obtain ⟨h1, h2, h3⟩ := h; go_simp⟩) hHeld ?_
      refine wpAnyH_take (i := 5) (oi := _) (v := .pointer (some ⟨q, 0, none⟩)) rfl (by kernel_rfl) (by kernel_rfl) (by kernel_rfl) (fun _ _ _ h => h) (Or.inl ⟨by rfl, fun w _ => by go_simp⟩) hHeld ?_
      refine wpAnyH_take (i := 6) (oi := _) (v := .pointer (some ⟨q, 0, none⟩)) rfl (by kernel_rfl) (by kernel_rfl) (by kernel_rfl) (fun _ _ _ h => h) (Or.inl ⟨by rfl, fun w _ => by go_simp⟩) hHeld ?_
      refine wpAnyH_take (i := 7) (oi := _) (v := .pointer (some ⟨q, 4, none⟩)) rfl (by kernel_rfl) (by kernel_rfl) (by kernel_rfl) (fun _ _ _ h => h) (Or.inl ⟨by rfl, fun w _ => by go_simp⟩) hHeld ?_
      refine wpAnyH_take (i := 8) (oi := _) (v := .int .i64 (liar : Int)) rfl (by kernel_rfl) (by kernel_rfl) (by kernel_rfl) (fun _ _ _ h => h) (Or.inl ⟨by rfl, fun w h => by obtain ⟨h1, h2, h3⟩ := h; go_simp⟩) hHeld ?_
      refine wpAnyH_take (i := 9) (oi := _) (v := .int .i64 ((liar : Int) + 1)) rfl (by kernel_rfl) (by kernel_rfl) (by kernel_rfl) (fun _ _ _ h => h) (Or.inl ⟨by rfl, fun w _ => by go_simp; simp [IntKind.wrap, IntKind.bits, IntKind.signed]; omega⟩) hHeld ?_
      refine wpAnyH_take (i := 10) (oi := _) (v := .pointer (some ⟨w.heap.size, 2, none⟩)) rfl (by kernel_rfl) (by kernel_rfl) (by kernel_rfl) (fun _ _ _ h => h) (Or.inl ⟨by rfl, fun w _ => by go_simp⟩) hHeld ?_
      refine wpAnyH_take (i := 11) (oi := _) (v := .int .i64 X.n) rfl (by kernel_rfl) (by kernel_rfl) (by kernel_rfl) (fun _ _ _ h => h) (Or.inl ⟨by rfl, fun w h => by obtain ⟨h1, h2, h3⟩ := h; go_simp⟩) hHeld ?_
      refine wpAnyH_take (i := 15) (oi := _) (v := .pointer (some ⟨w.heap.size, 28, none⟩)) rfl (by kernel_rfl) (by kernel_rfl) (by kernel_rfl) (fun _ _ _ h => h) (Or.inl ⟨by rfl, fun w _ => by go_simp⟩) hHeld ?_
      refine wpAnyH_take (i := 16) (oi := _) (v := .slice X.ba X.bl X.bc) rfl (by kernel_rfl) (by kernel_rfl) (by kernel_rfl) (fun _ _ _ h => h) (Or.inl ⟨by rfl, fun w h => by obtain ⟨h1, h2, h3⟩ := h; go_simp⟩) hHeld ?_
      refine wpAnyH_ready (rs := [12]) (by kernel_rfl) (by simp) ?_
      refine AllReadyH.cons (o := _) rfl (fun K hK => ?_) AllReadyH.nil
      rw [if_pos (by rfl)]
      go_simp
      go_at_call 22
      refine (unhide HPA _).mono ?_
      rintro e w5 ⟨rfl, rfl⟩
      dsimp only
      refine hK.out _ _ ⟨c4, x2, x28⟩ (fun hHeld => ?_)
      clear hK K
      refine wpAnyH_take (i := 13) (oi := _) (v := .int .i64 ((liar : Int) + 1 + (j : Int))) rfl (by kernel_rfl) (by kernel_rfl) (by kernel_rfl) (fun _ _ _ h => h) (Or.inl ⟨by rfl, fun w _ => by go_simp; simp [IntKind.wrap, IntKind.bits, IntKind.signed]; omega⟩) hHeld ?_
      refine wpAnyH_take (i := 14) (oi := _) (v := .int .i64 (dst : Int)) rfl (by kernel_rfl) (by kernel_rfl) (by kernel_rfl) (fun _ _ _ h => h) (Or.inl ⟨by rfl, fun w _ => by go_simp⟩) hHeld ?_
      refine wpAnyH_ready (rs := [17]) (by kernel_rfl) (by simp) ?_
      refine AllReadyH.cons (o := _) rfl (fun K hK => ?_) AllReadyH.nil
      rw [if_pos (by rfl)]
      go_simp
      go_at_call 33
      refine HC.out.mono ?_
      rintro e w6 ⟨⟨ev, rfl⟩, hx6, HS6⟩
      dsimp only
      have HG := hide HS6
      clear HS6
      refine hK.out _ _ hx6 (fun hHeld => ?_)
      clear hK K
      refine wpAnyH_done (by kernel_rfl) ?_ _
      go_wp2_with fail
      go_end0
      exact ⟨rfl, HG.out⟩
    · have hll' : ¬ (liar : Int) < 3 := by omega
      go_wp2_with fail
      go_end0
      exact ⟨rfl, A, StepTo.same A, HV.out.ta.goes.pre HV.out.old⟩
theorem enc_few (F : FR) : (bytesF F).length ≤ 80 := (pk_sent (L := ⟨0, 0, 0, [], 0, 0, 0, 0, 0, 0⟩) (W := fun _ _ _ _ => True) (liar := 0) (tr := []) (src := 0) (dst := 0) (F := F) (by omega) (by omega) (.inl ⟨rfl, by omega⟩)).len
set_option maxHeartbeats 1000000 in
set_option maxRecDepth 20000 in
theorem does_8 (N q : Nat) (E : TC) (L : RC) (win liar T : Nat) (A : TS) (w : World) (X : SD) (h : TaIs w N q E L win liar A) (hI : TlInv L liar win T A) (hL : LOk L)  (hwh : X.wh = 8) :
    Calls Tryz.prog 8 #[.pointer (some ⟨q, 0, none⟩), .agg (sdL X).toArray] w fun e w' => e = .returned (.tuple #[]) ∧ ∃ A', StepTo L win liar X.wh A A' ∧ TaGo w w' N q E L win liar A' := by
  obtain ⟨W, hW⟩ : ∃ W, Hid (w.alloc (.cells (sdL X).toArray 38) = W) := ⟨_, hide rfl⟩
  have hBW : Below w.heap.size w W := by rw [← hW.out]; exact (Below.refl _ _).alloc (Nat.le_refl _) _
  have HDO : Hid (DoIn W w N q E L win liar A X) := hide ⟨hBW, h.below hBW, by rw [← hW.out]; exact blk_new _ _⟩
  have x1 := HDO.out.x1
  have c0 := HDO.out.c0
  have HPK := hide fun wx => pick_any X.k 3 wx (by decide) (by decide)
  obtain ⟨k1, k2⟩ := pickF_in X.k 3 (by decide) (by decide)
  obtain ⟨k, hk⟩ := Int.eq_ofNat_of_zero_le k1
  rw [hk] at HPK k2
  have hk3 : k < 3 := by omega
  obtain ⟨cs, hcs⟩ : ∃ cs, Hid ((sdL X).toArray = cs) := ⟨_, hide rfl⟩
  rw [hcs.out] at hW ⊢
  have hle := hI.inv.many
  have HI := hide hI
  have HL := hide hL
  have HWH := hide hwh
  clear h hBW hk k1 hwh hI hL
  go_enter Tryz.func8, Tryz.ntmps8
  go_wp2_with fail
  rw [show w.alloc (.cells cs 38) = W from hW.out]
  clear hW hcs
  go_quiet ((go_at_call 22; exact Calls.quiet_of_same (unhide HPK _)))
  have HV : Hid (DoIn (W.drewN nq) w N q E L win liar A X) := hide (HDO.out.below (below_drewN (Below.refl _ _) nq))
  generalize W.drewN nq = V at HV ⊢
  clear HDO x1 c0 HPK
  have x2 := HV.out.x2
  have x0 := HV.out.x0
  have hVl : w.heap.size < V.heap.size := blk_lt HV.out.box
  rw [HWH.out] at x0
  have HMN := hide (many_any N E.D L win A.S V HV.out.ta.sy)
  have HPN := hide fun wx (hp : 0 < (A.S.net.length : Int)) => pick_any X.n (A.S.net.length : Int) wx hp (by omega)
  have hpin := fun hp => pickF_in X.n (A.S.net.length : Int) hp (by omega)
  obtain ⟨m, hm⟩ : ∃ m, Hid (A.S.net.length = m) := ⟨_, hide rfl⟩
  rw [hm.out] at HMN HPN hpin hle
  have hql := HV.out.ta.lt
  go_wp2_with fail
  refine HMN.out.mono ?_
  rintro e wz ⟨rfl, hwz⟩
  subst wz
  by_cases hm0 : m = 0
  · have hm0' : ¬ (0 : Int) < (m : Int) := by omega
    clear HPN hpin
    have c4 := HV.out.c4
    by_cases hll : liar < 3
    · have hll' : (liar : Int) < 3 := by omega
      have HR := hide HV.out.frame
      have HF0 : Hid (FIs (V.alloc (.cells (fCells fr0) 35)) V.heap.size 35 fr0) := hide (blk_new _ _)
      go_wp2_with (first
        | (refine wpList_load_mid rfl 35 _ rfl w.heap.size 5 rfl (fCells X.F).toList _ HR.out Tryz.underlying35 rfl (by rw [infoFrame]; rfl) ?_)
        | (refine wpList_store_fl rfl _ _ rfl V.heap.size X.F rfl rfl fr0 HF0.out ?_))
      intro w1 HF1
      have hB1 : Below V.heap.size V w1 := ((Below.refl _ _).alloc (Nat.le_refl _) _).trans (HF1.out.2.2 V.heap.size (Nat.le_refl _))
      have hD1 := HV.out.below hB1
      have z4 := hD1.c4
      have hf1 := HF1.out.1.at (k := 1) (by decide)
      have hf2 := HF1.out.1.free 1
      have HF2 := hide (HF1.out.1.put (k := 1) (by decide) (liar : Int))
      have hB2 : Below V.heap.size V (w1.setCell ⟨V.heap.size, 1, none⟩ (.int .i64 (liar : Int))) := hB1.setCell (Nat.le_refl _) _
      have HD2 := hide (HV.out.below hB2)
      have HEN := hide (enc_any (upd X.F 1 (liar : Int)) (w1.setCell ⟨V.heap.size, 1, none⟩ (.int .i64 (liar : Int))))
      have hblen := enc_few (upd X.F 1 (liar : Int))
      clear HF0 HR hB1 hD1 hB2 HF1
      go_wp2_with (first
        | (refine wpList_load_f rfl _ rfl V.heap.size rfl (upd X.F 1 (liar : Int)) HF2.out ?_)
        | (go_at_call 32; refine HEN.out.mono ?_))
      rintro e w3 ⟨⟨v, ev, rfl, hby, hy, hn⟩, hB3⟩
      have hD3 := HD2.out.below hB3
      clear HF2 HD2 HEN
      cases hmb : mayB (upd X.F 1 (liar : Int))
      · have he := hn hmb
        subst he
        have HD3 := hide hD3
        clear hby hy hn hB3 hD3
        go_wp2_with fail
        go_end0
        exact ⟨rfl, A, StepTo.same A, HD3.out.ta.goes.pre HD3.out.old⟩
      · have he := hy hmb
        subst he
        clear hy hn
        obtain ⟨a1, a2⟩ := pickF_in X.n 3 (by decide) (by decide)
        obtain ⟨j, hj⟩ := Int.eq_ofNat_of_zero_le a1
        have HPA := hide fun wx => pick_any X.n 3 wx (by decide) (by decide)
        rw [hj] at HPA a2
        have hj3 : j < 3 := by omega
        obtain ⟨dst, hds⟩ : ∃ dst, Hid ((liar + 1 + j) % 4 = dst) := ⟨_, hide rfl⟩
        have hd3 : dst ≤ 3 := by rw [← hds.out]; omega
        have hdl : liar ≠ dst := by rw [← hds.out]; omega
        have e14 := dst_rem liar j hll hj3
        rw [hds.out] at e14
        obtain ⟨ua, uc, rfl, hib⟩ := hby.isB
        obtain ⟨bs, hbs⟩ : ∃ bs, Hid (bytesF (upd X.F 1 (liar : Int)) = bs) := ⟨_, hide rfl⟩
        rw [hbs.out] at hib hblen
        have HC : Hid (Calls Tryz.prog 33 #[.pointer (some ⟨E.D.p, 0, none⟩), .int .i64 (liar : Int), .int .i64 (dst : Int), .slice ua bs.length uc] w3.drew fun e w2 => (∃ v, e = .returned v) ∧ (w2.cell? ⟨q, 4, none⟩ = some (.int .i64 (liar : Int)) ∧ w2.cell? ⟨w.heap.size, 2, none⟩ = some (.int .i64 X.n)) ∧ ∃ A', StepTo L win liar X.wh A A' ∧ TaGo w w2 N q E L win liar A') := hide (by
          have hD := hD3.below (Below.refl _ _).drew
          refine (says_any N E.D L win A.S w3.drew liar dst ua bs.length uc bs hll hd3 hdl hD.ta.sy (hib.below (Below.refl _ _).drew) (by omega) HI.out.inv.many hD.ta.size).mono ?_
          rintro e w2 ⟨he, hg⟩
          obtain ⟨E2, _, _, _, _, hT2, _⟩ := hD.ta.went hg
          refine ⟨he, ⟨(hT2.at 4).trans rfl, hD.stay hg 2⟩, ?_⟩
          rw [if_pos hblen] at hg
          exact ⟨_, StepTo.says A dst bs hll hd3 hib.2.2.1 hblen, hD.went hg⟩)
        have y4 := hD3.c4
        have y2 := hD3.x2
        rw [hbs.out]
        clear hby hib hD3 hB3 hbs
        go_wp2_with fail
        refine wp_region_held_drew (S := fun w' => w'.cell? ⟨q, 4, none⟩ = some (.int .i64 (liar : Int)) ∧ w'.cell? ⟨w.heap.size, 2, none⟩ = some (.int .i64 X.n)) (by kernel_rfl) ⟨y4, y2⟩ (fun hHeld => ?_)
        refine wpAnyH_take (i := 0) (oi := _) (v := .pointer (some ⟨E.D.p, 0, none⟩)) rfl (by kernel_rfl) (by kernel_rfl) (by kernel_rfl) (fun _ _ _ h => h) (Or.inl ⟨by rfl, fun w _ => by go_simp⟩) hHeld ?_
        refine wpAnyH_take (i := 1) (oi := _) (v := .pointer (some ⟨q, 0, none⟩)) rfl (by kernel_rfl) (by kernel_rfl) (by kernel_rfl) (fun _ _ _ h => h) (Or.inl ⟨by rfl, fun w _ => by go_simp⟩) hHeld ?_
        refine wpAnyH_take (i := 2) (oi := _) (v := .pointer (some ⟨q, 0, none⟩)) rfl (by kernel_rfl) (by kernel_rfl) (by kernel_rfl) (fun _ _ _ h => h) (Or.inl ⟨by rfl, fun w _ => by go_simp⟩) hHeld ?_
        refine wpAnyH_take (i := 3) (oi := _) (v := .pointer (some ⟨q, 4, none⟩)) rfl (by kernel_rfl) (by kernel_rfl) (by kernel_rfl) (fun _ _ _ h => h) (Or.inl ⟨by rfl, fun w _ => by go_simp⟩) hHeld ?_
        refine wpAnyH_take (i := 4) (oi := _) (v := .int .i64 (liar : Int)) rfl (by kernel_rfl) (by kernel_rfl) (by kernel_rfl) (fun _ _ _ h => h) (Or.inl ⟨by rfl, fun w h => by obtain ⟨h1, h2⟩ := h; go_simp⟩) hHeld ?_
        refine wpAnyH_take (i := 5) (oi := _) (v := .pointer (some ⟨q, 0, none⟩)) rfl (by kernel_rfl) (by kernel_rfl) (by kernel_rfl) (fun _ _ _ h => h) (Or.inl ⟨by rfl, fun w _ => by go_simp⟩) hHeld ?_
        refine wpAnyH_take (i := 6) (oi := _) (v := .pointer (some ⟨q, 0, none⟩)) rfl (by kernel_rfl) (by kernel_rfl) (by kernel_rfl) (fun _ _ _ h => h) (Or.inl ⟨by rfl, fun w _ => by go_simp⟩) hHeld ?_
        refine wpAnyH_take (i := 7) (oi := _) (v := .pointer (some ⟨q, 4, none⟩)) rfl (by kernel_rfl) (by kernel_rfl) (by kernel_rfl) (fun _ _ _ h => h) (Or.inl ⟨by rfl, fun w _ => by go_simp⟩) hHeld ?_
        refine wpAnyH_take (i := 8) (oi := _) (v := .int .i64 (liar : Int)) rfl (by kernel_rfl) (by kernel_rfl) (by kernel_rfl) (fun _ _ _ h => h) (Or.inl ⟨by rfl, fun w h => by obtain ⟨h1, h2⟩ := h; go_simp⟩) hHeld ?_
        refine wpAnyH_take (i := 9) (oi := _) (v := .int .i64 ((liar : Int) + 1)) rfl (by kernel_rfl) (by kernel_rfl) (by kernel_rfl) (fun _ _ _ h => h) (Or.inl ⟨by rfl, fun w _ => by go_simp; simp [IntKind.wrap, IntKind.bits, IntKind.signed]; omega⟩) hHeld ?_
        refine wpAnyH_take (i := 10) (oi := _) (v := .pointer (some ⟨w.heap.size, 2, none⟩)) rfl (by kernel_rfl) (by kernel_rfl) (by kernel_rfl) (fun _ _ _ h => h) (Or.inl ⟨by rfl, fun w _ => by go_simp⟩) hHeld ?_
        refine wpAnyH_take (i := 11) (oi := _) (v := .int .i64 X.n) rfl (by kernel_rfl) (by kernel_rfl) (by kernel_rfl) (fun _ _ _ h => h) (Or.inl ⟨by rfl, fun w h => by obtain ⟨h1, h2⟩ := h; go_simp⟩) hHeld ?_
        refine wpAnyH_take (i := 15) (oi := _) (v := .slice ua bs.length uc) rfl (by kernel_rfl) (by kernel_rfl) (by kernel_rfl) (fun _ _ _ h => h) (Or.inl ⟨by rfl, fun w _ => by go_simp⟩) hHeld ?_
        refine wpAnyH_ready (rs := [12]) (by kernel_rfl) (by simp) ?_
        refine AllReadyH.cons (o := _) rfl (fun K hK => ?_) AllReadyH.nil
        rw [if_pos (by rfl)]
        go_simp
        go_at_call 22
        refine (unhide HPA _).mono ?_
        rintro e w5 ⟨rfl, rfl⟩
        dsimp only
        refine hK.out _ _ ⟨y4, y2⟩ (fun hHeld => ?_)
        clear hK K
        refine wpAnyH_take (i := 13) (oi := _) (v := .int .i64 ((liar : Int) + 1 + (j : Int))) rfl (by kernel_rfl) (by kernel_rfl) (by kernel_rfl) (fun _ _ _ h => h) (Or.inl ⟨by rfl, fun w _ => by go_simp; simp [IntKind.wrap, IntKind.bits, IntKind.signed]; omega⟩) hHeld ?_
        refine wpAnyH_take (i := 14) (oi := _) (v := .int .i64 (dst : Int)) rfl (by kernel_rfl) (by kernel_rfl) (by kernel_rfl) (fun _ _ _ h => h) (Or.inl ⟨by rfl, fun w _ => by go_simp⟩) hHeld ?_
        refine wpAnyH_ready (rs := [16]) (by kernel_rfl) (by simp) ?_
        refine AllReadyH.cons (o := _) rfl (fun K hK => ?_) AllReadyH.nil
        rw [if_pos (by rfl)]
        go_simp
        go_at_call 33
        refine HC.out.mono ?_
        rintro e w6 ⟨⟨ev, rfl⟩, hx6, HS6⟩
        dsimp only
        have HG := hide HS6
        clear HS6
        refine hK.out _ _ hx6 (fun hHeld => ?_)
        clear hK K
        refine wpAnyH_done (by kernel_rfl) ?_ _
        go_wp2_with fail
        go_end0
        exact ⟨rfl, HG.out⟩
    · have hll' : ¬ (liar : Int) < 3 := by omega
      go_wp2_with fail
      go_end0
      exact ⟨rfl, A, StepTo.same A, HV.out.ta.goes.pre HV.out.old⟩
  · have hm0' : (0 : Int) < (m : Int) := by omega
    obtain ⟨j1, j2⟩ := hpin hm0'
    obtain ⟨i, hi⟩ := Int.eq_ofNat_of_zero_le j1
    have HPI := hide fun wx => HPN.out wx hm0'
    rw [hi] at HPI j2
    have hil : i < m := by omega
    clear HPN hpin j1 hi
    go_wp2_with (go_at_call 22; refine (unhide HPI _).mono ?_)
    rintro e wz ⟨rfl, hwz⟩
    subst wz
    have c4 := HV.out.c4
    by_cases hll : liar < 3
    · have hll' : (liar : Int) < 3 := by omega
      have HR := hide HV.out.frame
      have HF0 : Hid (FIs (V.alloc (.cells (fCells fr0) 35)) V.heap.size 35 fr0) := hide (blk_new _ _)
      go_wp2_with (first
        | (refine wpList_load_mid rfl 35 _ rfl w.heap.size 5 rfl (fCells X.F).toList _ HR.out Tryz.underlying35 rfl (by rw [infoFrame]; rfl) ?_)
        | (refine wpList_store_fl rfl _ _ rfl V.heap.size X.F rfl rfl fr0 HF0.out ?_))
      intro w1 HF1
      have hB1 : Below V.heap.size V w1 := ((Below.refl _ _).alloc (Nat.le_refl _) _).trans (HF1.out.2.2 V.heap.size (Nat.le_refl _))
      have hD1 := HV.out.below hB1
      have z4 := hD1.c4
      have hf1 := HF1.out.1.at (k := 1) (by decide)
      have hf2 := HF1.out.1.free 1
      have HF2 := hide (HF1.out.1.put (k := 1) (by decide) (liar : Int))
      have hB2 : Below V.heap.size V (w1.setCell ⟨V.heap.size, 1, none⟩ (.int .i64 (liar : Int))) := hB1.setCell (Nat.le_refl _) _
      have HD2 := hide (HV.out.below hB2)
      have HEN := hide (enc_any (upd X.F 1 (liar : Int)) (w1.setCell ⟨V.heap.size, 1, none⟩ (.int .i64 (liar : Int))))
      have hblen := enc_few (upd X.F 1 (liar : Int))
      clear HF0 HR hB1 hD1 hB2 HF1
      go_wp2_with (first
        | (refine wpList_load_f rfl _ rfl V.heap.size rfl (upd X.F 1 (liar : Int)) HF2.out ?_)
        | (go_at_call 32; refine HEN.out.mono ?_))
      rintro e w3 ⟨⟨v, ev, rfl, hby, hy, hn⟩, hB3⟩
      have hD3 := HD2.out.below hB3
      clear HF2 HD2 HEN
      cases hmb : mayB (upd X.F 1 (liar : Int))
      · have he := hn hmb
        subst he
        have HD3 := hide hD3
        clear hby hy hn hB3 hD3
        go_wp2_with fail
        go_end0
        exact ⟨rfl, A, StepTo.same A, HD3.out.ta.goes.pre HD3.out.old⟩
      · have he := hy hmb
        subst he
        clear hy hn
        obtain ⟨a1, a2⟩ := pickF_in X.n 3 (by decide) (by decide)
        obtain ⟨j, hj⟩ := Int.eq_ofNat_of_zero_le a1
        have HPA := hide fun wx => pick_any X.n 3 wx (by decide) (by decide)
        rw [hj] at HPA a2
        have hj3 : j < 3 := by omega
        obtain ⟨dst, hds⟩ : ∃ dst, Hid ((liar + 1 + j) % 4 = dst) := ⟨_, hide rfl⟩
        have hd3 : dst ≤ 3 := by rw [← hds.out]; omega
        have hdl : liar ≠ dst := by rw [← hds.out]; omega
        have e14 := dst_rem liar j hll hj3
        rw [hds.out] at e14
        obtain ⟨ua, uc, rfl, hib⟩ := hby.isB
        obtain ⟨bs, hbs⟩ : ∃ bs, Hid (bytesF (upd X.F 1 (liar : Int)) = bs) := ⟨_, hide rfl⟩
        rw [hbs.out] at hib hblen
        have HC : Hid (Calls Tryz.prog 33 #[.pointer (some ⟨E.D.p, 0, none⟩), .int .i64 (liar : Int), .int .i64 (dst : Int), .slice ua bs.length uc] w3.drew fun e w2 => (∃ v, e = .returned v) ∧ (w2.cell? ⟨q, 4, none⟩ = some (.int .i64 (liar : Int)) ∧ w2.cell? ⟨w.heap.size, 2, none⟩ = some (.int .i64 X.n)) ∧ ∃ A', StepTo L win liar X.wh A A' ∧ TaGo w w2 N q E L win liar A') := hide (by
          have hD := hD3.below (Below.refl _ _).drew
          refine (says_any N E.D L win A.S w3.drew liar dst ua bs.length uc bs hll hd3 hdl hD.ta.sy (hib.below (Below.refl _ _).drew) (by omega) HI.out.inv.many hD.ta.size).mono ?_
          rintro e w2 ⟨he, hg⟩
          obtain ⟨E2, _, _, _, _, hT2, _⟩ := hD.ta.went hg
          refine ⟨he, ⟨(hT2.at 4).trans rfl, hD.stay hg 2⟩, ?_⟩
          rw [if_pos hblen] at hg
          exact ⟨_, StepTo.says A dst bs hll hd3 hib.2.2.1 hblen, hD.went hg⟩)
        have y4 := hD3.c4
        have y2 := hD3.x2
        rw [hbs.out]
        clear hby hib hD3 hB3 hbs
        go_wp2_with fail
        refine wp_region_held_drew (S := fun w' => w'.cell? ⟨q, 4, none⟩ = some (.int .i64 (liar : Int)) ∧ w'.cell? ⟨w.heap.size, 2, none⟩ = some (.int .i64 X.n)) (by kernel_rfl) ⟨y4, y2⟩ (fun hHeld => ?_)
        refine wpAnyH_take (i := 0) (oi := _) (v := .pointer (some ⟨E.D.p, 0, none⟩)) rfl (by kernel_rfl) (by kernel_rfl) (by kernel_rfl) (fun _ _ _ h => h) (Or.inl ⟨by rfl, fun w _ => by go_simp⟩) hHeld ?_
        refine wpAnyH_take (i := 1) (oi := _) (v := .pointer (some ⟨q, 0, none⟩)) rfl (by kernel_rfl) (by kernel_rfl) (by kernel_rfl) (fun _ _ _ h => h) (Or.inl ⟨by rfl, fun w _ => by go_simp⟩) hHeld ?_
        refine wpAnyH_take (i := 2) (oi := _) (v := .pointer (some ⟨q, 0, none⟩)) rfl (by kernel_rfl) (by kernel_rfl) (by kernel_rfl) (fun _ _ _ h => h) (Or.inl ⟨by rfl, fun w _ => by go_simp⟩) hHeld ?_
        refine wpAnyH_take (i := 3) (oi := _) (v := .pointer (some ⟨q, 4, none⟩)) rfl (by kernel_rfl) (by kernel_rfl) (by kernel_rfl) (fun _ _ _ h => h) (Or.inl ⟨by rfl, fun w _ => by go_simp⟩) hHeld ?_
        refine wpAnyH_take (i := 4) (oi := _) (v := .int .i64 (liar : Int)) rfl (by kernel_rfl) (by kernel_rfl) (by kernel_rfl) (fun _ _ _ h => h) (Or.inl ⟨by rfl, fun w h => by obtain ⟨h1, h2⟩ := h; go_simp⟩) hHeld ?_
        refine wpAnyH_take (i := 5) (oi := _) (v := .pointer (some ⟨q, 0, none⟩)) rfl (by kernel_rfl) (by kernel_rfl) (by kernel_rfl) (fun _ _ _ h => h) (Or.inl ⟨by rfl, fun w _ => by go_simp⟩) hHeld ?_
        refine wpAnyH_take (i := 6) (oi := _) (v := .pointer (some ⟨q, 0, none⟩)) rfl (by kernel_rfl) (by kernel_rfl) (by kernel_rfl) (fun _ _ _ h => h) (Or.inl ⟨by rfl, fun w _ => by go_simp⟩) hHeld ?_
        refine wpAnyH_take (i := 7) (oi := _) (v := .pointer (some ⟨q, 4, none⟩)) rfl (by kernel_rfl) (by kernel_rfl) (by kernel_rfl) (fun _ _ _ h => h) (Or.inl ⟨by rfl, fun w _ => by go_simp⟩) hHeld ?_
        refine wpAnyH_take (i := 8) (oi := _) (v := .int .i64 (liar : Int)) rfl (by kernel_rfl) (by kernel_rfl) (by kernel_rfl) (fun _ _ _ h => h) (Or.inl ⟨by rfl, fun w h => by obtain ⟨h1, h2⟩ := h; go_simp⟩) hHeld ?_
        refine wpAnyH_take (i := 9) (oi := _) (v := .int .i64 ((liar : Int) + 1)) rfl (by kernel_rfl) (by kernel_rfl) (by kernel_rfl) (fun _ _ _ h => h) (Or.inl ⟨by rfl, fun w _ => by go_simp; simp [IntKind.wrap, IntKind.bits, IntKind.signed]; omega⟩) hHeld ?_
        refine wpAnyH_take (i := 10) (oi := _) (v := .pointer (some ⟨w.heap.size, 2, none⟩)) rfl (by kernel_rfl) (by kernel_rfl) (by kernel_rfl) (fun _ _ _ h => h) (Or.inl ⟨by rfl, fun w _ => by go_simp⟩) hHeld ?_
        refine wpAnyH_take (i := 11) (oi := _) (v := .int .i64 X.n) rfl (by kernel_rfl) (by kernel_rfl) (by kernel_rfl) (fun _ _ _ h => h) (Or.inl ⟨by rfl, fun w h => by obtain ⟨h1, h2⟩ := h; go_simp⟩) hHeld ?_
        refine wpAnyH_take (i := 15) (oi := _) (v := .slice ua bs.length uc) rfl (by kernel_rfl) (by kernel_rfl) (by kernel_rfl) (fun _ _ _ h => h) (Or.inl ⟨by rfl, fun w _ => by go_simp⟩) hHeld ?_
        refine wpAnyH_ready (rs := [12]) (by kernel_rfl) (by simp) ?_
        refine AllReadyH.cons (o := _) rfl (fun K hK => ?_) AllReadyH.nil
        rw [if_pos (by rfl)]
        go_simp
        go_at_call 22
        refine (unhide HPA _).mono ?_
        rintro e w5 ⟨rfl, rfl⟩
        dsimp only
        refine hK.out _ _ ⟨y4, y2⟩ (fun hHeld => ?_)
        clear hK K
        refine wpAnyH_take (i := 13) (oi := _) (v := .int .i64 ((liar : Int) + 1 + (j : Int))) rfl (by kernel_rfl) (by kernel_rfl) (by kernel_rfl) (fun _ _ _ h => h) (Or.inl ⟨by rfl, fun w _ => by go_simp; simp [IntKind.wrap, IntKind.bits, IntKind.signed]; omega⟩) hHeld ?_
        refine wpAnyH_take (i := 14) (oi := _) (v := .int .i64 (dst : Int)) rfl (by kernel_rfl) (by kernel_rfl) (by kernel_rfl) (fun _ _ _ h => h) (Or.inl ⟨by rfl, fun w _ => by go_simp⟩) hHeld ?_
        refine wpAnyH_ready (rs := [16]) (by kernel_rfl) (by simp) ?_
        refine AllReadyH.cons (o := _) rfl (fun K hK => ?_) AllReadyH.nil
        rw [if_pos (by rfl)]
        go_simp
        go_at_call 33
        refine HC.out.mono ?_
        rintro e w6 ⟨⟨ev, rfl⟩, hx6, HS6⟩
        dsimp only
        have HG := hide HS6
        clear HS6
        refine hK.out _ _ hx6 (fun hHeld => ?_)
        clear hK K
        refine wpAnyH_done (by kernel_rfl) ?_ _
        go_wp2_with fail
        go_end0
        exact ⟨rfl, HG.out⟩
    · have hll' : ¬ (liar : Int) < 3 := by omega
      go_wp2_with fail
      go_end0
      exact ⟨rfl, A, StepTo.same A, HV.out.ta.goes.pre HV.out.old⟩
def lkA (A : TS) (j : Nat) : TS := ⟨A.S, A.fx, A.fy, A.seen ++ ([sgOf A 0 true, sgOf A 1 true, sgOf A 2 true].take j)⟩
structure LkInv (V wr w : World) (N q : Nat) (E : TC) (L : RC) (win liar : Nat) (A : TS) (X : SD) (j : Nat) : Prop where
  go : TaGo w wr N q E L win liar (lkA A j)
  box : wr.heap[w.heap.size]? = some (.cells (sdL X).toArray 38 (0, 0))
  le : V.heap.size ≤ wr.heap.size
section
variable {V wr w : World} {N q : Nat} {E : TC} {L : RC} {win liar T : Nat} {A : TS} {X : SD} {j : Nat}
theorem DoIn.lk (h : DoIn V w N q E L win liar A X) : LkInv V V w N q E L win liar A X 0 := by
  refine ⟨?_, h.box, Nat.le_refl _⟩
  have e : lkA A 0 = A := by unfold lkA; rw [List.take_zero, List.append_nil]
  rw [e]
  exact h.ta.goes.pre h.old
theorem LkInv.x2 (h : LkInv V wr w N q E L win liar A X j) : wr.cell? ⟨w.heap.size, 2, none⟩ = some (.int .i64 X.n) := (blk_cell h.box 2).trans (by simp [sdL])
theorem lkA_next (A : TS) (hj : j < 3) : lkA A (j + 1) = ⟨(lkA A j).S, (lkA A j).fx, (lkA A j).fy, (lkA A j).seen ++ [sgOf (lkA A j) j true]⟩ := by
  rcases (by omega : j = 0 ∨ j = 1 ∨ j = 2) with rfl | rfl | rfl <;> simp [lkA, sgOf]
theorem LkInv.next (h : LkInv V wr w N q E L win liar A X j) (hj : j < 3) (hsl : A.seen.length ≤ 900) : Calls Tryz.prog 24 #[.pointer (some ⟨q, 0, none⟩), .int .i64 (j : Int), .bool true] wr fun e w2 => e = .returned (.tuple #[]) ∧ Hid (LkInv V w2 w N q E L win liar A X (j + 1)) := by
  obtain ⟨E', e1, e2, e3, e4, hT, hm⟩ := h.go
  refine (looks_any N q E' L win liar (lkA A j) wr j true hj hT ?_).mono ?_
  · show (A.seen ++ _).length ≤ 1000
    rw [List.length_append, List.length_take]
    have : min j [sgOf A 0 true, sgOf A 1 true, sgOf A 2 true].length ≤ j := Nat.min_le_left _ _
    omega
  · rintro e w2 ⟨rfl, hg, hk⟩
    refine ⟨rfl, hide ⟨?_, (hk _ ⟨_, _, h.box⟩).trans h.box, ?_⟩⟩
    · rw [lkA_next A hj]
      exact hg.then ⟨e1, e2, e3, e4⟩ hm
    · obtain ⟨_, _, _, _, _, _, hm2⟩ := hg
      exact Nat.le_trans h.le hm2.size
theorem LkInv.calm (h : LkInv V wr w N q E L win liar A X 3) (n : Nat) (hI : TlInv L liar win T A) (hL : LOk L) (hT : T < 600000) (hn : n ≤ 3) (hw : 10 ≤ X.wh) :
    Calls Tryz.prog 18 #[.pointer (some ⟨E.D.p, 0, none⟩), .int .i64 (n : Int)] wr fun e w2 => e = .returned (.tuple #[]) ∧ ∃ A', StepTo L win liar X.wh A A' ∧ TaGo w w2 N q E L win liar A' := by
  obtain ⟨E', e1, e2, e3, e4, hT3, hm⟩ := h.go
  have key := calm_any (W := WOf L (sees3 A)) (liar := liar) (T := T) N E'.D L win A.S wr n hT3.sy hI.cl hL (by omega) (by omega) hT3.size
  rw [e4] at key
  refine key.mono ?_
  rintro e w2 ⟨rfl, S', hc, _, hg⟩
  refine ⟨rfl, ⟨S', A.fx, A.fy, sees3 A⟩, StepTo.calm A n S' hw hn hc, ?_⟩
  exact (hT3.went hg).then ⟨e1, e2, e3, e4⟩ hm
end
set_option maxHeartbeats 1000000 in
set_option maxRecDepth 20000 in
theorem does_10 (N q : Nat) (E : TC) (L : RC) (win liar T : Nat) (A : TS) (w : World) (X : SD) (h : TaIs w N q E L win liar A) (hI : TlInv L liar win T A) (hL : LOk L) (hT : T < 600000) (hsl : A.seen.length ≤ 900) (hwh : X.wh = 10) :
    Calls Tryz.prog 8 #[.pointer (some ⟨q, 0, none⟩), .agg (sdL X).toArray] w fun e w' => e = .returned (.tuple #[]) ∧ ∃ A', StepTo L win liar X.wh A A' ∧ TaGo w w' N q E L win liar A' := by
  obtain ⟨W, hW⟩ : ∃ W, Hid (w.alloc (.cells (sdL X).toArray 38) = W) := ⟨_, hide rfl⟩
  have hBW : Below w.heap.size w W := by rw [← hW.out]; exact (Below.refl _ _).alloc (Nat.le_refl _) _
  have HDO : Hid (DoIn W w N q E L win liar A X) := hide ⟨hBW, h.below hBW, by rw [← hW.out]; exact blk_new _ _⟩
  have x1 := HDO.out.x1
  have c0 := HDO.out.c0
  have HPK := hide fun wx => pick_any X.k 3 wx (by decide) (by decide)
  obtain ⟨k1, k2⟩ := pickF_in X.k 3 (by decide) (by decide)
  obtain ⟨k, hk⟩ := Int.eq_ofNat_of_zero_le k1
  rw [hk] at HPK k2
  have hk3 : k < 3 := by omega
  obtain ⟨cs, hcs⟩ : ∃ cs, Hid ((sdL X).toArray = cs) := ⟨_, hide rfl⟩
  rw [hcs.out] at hW ⊢
  have hle := hI.inv.many
  have HI := hide hI
  have HL := hide hL
  have HWH := hide hwh
  clear h hBW hk k1 hwh hI hL
  go_enter Tryz.func8, Tryz.ntmps8
  go_wp2_with fail
  rw [show w.alloc (.cells cs 38) = W from hW.out]
  clear hW hcs
  go_quiet ((go_at_call 22; exact Calls.quiet_of_same (unhide HPK _)))
  have HV : Hid (DoIn (W.drewN nq) w N q E L win liar A X) := hide (HDO.out.below (below_drewN (Below.refl _ _) nq))
  generalize W.drewN nq = V at HV ⊢
  clear HDO x1 c0 HPK
  have x2 := HV.out.x2
  have x0 := HV.out.x0
  have hVl : w.heap.size < V.heap.size := blk_lt HV.out.box
  rw [HWH.out] at x0
  have HMN := hide (many_any N E.D L win A.S V HV.out.ta.sy)
  have HPN := hide fun wx (hp : 0 < (A.S.net.length : Int)) => pick_any X.n (A.S.net.length : Int) wx hp (by omega)
  have hpin := fun hp => pickF_in X.n (A.S.net.length : Int) hp (by omega)
  obtain ⟨m, hm⟩ : ∃ m, Hid (A.S.net.length = m) := ⟨_, hide rfl⟩
  rw [hm.out] at HMN HPN hpin hle
  go_wp2_with fail
  refine HMN.out.mono ?_
  rintro e wz ⟨rfl, hwz⟩
  subst wz
  by_cases hm0 : m = 0
  · have hm0' : ¬ (0 : Int) < (m : Int) := by omega
    clear HPN hpin
    have HLK : Hid (∀ (j : Nat) (wr : World), j < 3 → LkInv V wr w N q E L win liar A X j → Calls Tryz.prog 24 #[.pointer (some ⟨q, 0, none⟩), .int .i64 (j : Int), .bool true] wr fun e w2 => e = .returned (.tuple #[]) ∧ Hid (LkInv V w2 w N q E L win liar A X (j + 1))) := hide fun j wr hj h => h.next hj hsl
    have HST := hide (HV.out.lk)
    obtain ⟨a1, a2⟩ := pickF_in X.n 4 (by decide) (by decide)
    obtain ⟨cn, hcn⟩ := Int.eq_ofNat_of_zero_le a1
    have HPA := hide fun wx => pick_any X.n 4 wx (by decide) (by decide)
    rw [hcn] at HPA a2
    clear HV hVl
    go_wp2_with fail
    clear x2 x0
    go_loopw [11] (fun r wr => ∃ j : Nat, j ≤ 3 ∧ r = .int .i64 j ∧ LkInv V wr w N q E L win liar A X j) (fun r _ => 3 - (intOf r).toNat)
    case atStart => exact ⟨0, by omega, rfl, HST.out⟩
    case round =>
      clear HST
      obtain ⟨j, hj, rfl, hLk⟩ := hrel
      by_cases hj3 : j < 3
      · have hj' : (j : Int) < 3 := by omega
        have HC := hide (HLK.out j wr hj3 hLk)
        clear hLk
        go_wp2_with (go_at_call 24; refine HC.out.mono ?_)
        rintro e w2 ⟨he, hg⟩
        subst he
        have HG := hide hg.out
        clear hg
        go_wp2
        go_roundw
        case rel => exact ⟨j + 1, by omega, by go_num, HG.out⟩
        case measure => simp [intOf]; omega
      · have e3 : j = 3 := by omega
        subst e3
        have y2 := hLk.x2
        have HC := hide (hLk.calm cn HI.out HL.out hT (by omega) (show 10 ≤ X.wh by rw [HWH.out]; decide))
        clear hLk HLK
        go_wp2_with (first
          | (go_at_call 22; refine (unhide HPA _).mono ?_)
          | (go_at_call 18; refine HC.out.mono ?_))
        rintro e w5 ⟨rfl, hw5⟩
        subst w5
        go_wp2_with (go_at_call 18; refine HC.out.mono ?_)
        rintro e w6 ⟨he, hg⟩
        subst he
        have HG := hide hg
        clear hg
        go_wp2_with fail
        go_end0
        exact ⟨rfl, HG.out⟩
  · have hm0' : (0 : Int) < (m : Int) := by omega
    obtain ⟨j1, j2⟩ := hpin hm0'
    obtain ⟨i, hi⟩ := Int.eq_ofNat_of_zero_le j1
    have HPI := hide fun wx => HPN.out wx hm0'
    rw [hi] at HPI j2
    have hil : i < m := by omega
    clear HPN hpin j1 hi
    go_wp2_with (go_at_call 22; refine (unhide HPI _).mono ?_)
    rintro e wz ⟨rfl, hwz⟩
    subst wz
    have HLK : Hid (∀ (j : Nat) (wr : World), j < 3 → LkInv V wr w N q E L win liar A X j → Calls Tryz.prog 24 #[.pointer (some ⟨q, 0, none⟩), .int .i64 (j : Int), .bool true] wr fun e w2 => e = .returned (.tuple #[]) ∧ Hid (LkInv V w2 w N q E L win liar A X (j + 1))) := hide fun j wr hj h => h.next hj hsl
    have HST := hide (HV.out.lk)
    obtain ⟨a1, a2⟩ := pickF_in X.n 4 (by decide) (by decide)
    obtain ⟨cn, hcn⟩ := Int.eq_ofNat_of_zero_le a1
    have HPA := hide fun wx => pick_any X.n 4 wx (by decide) (by decide)
    rw [hcn] at HPA a2
    clear HV hVl
    go_wp2_with fail
    clear x2 x0
    go_loopw [11] (fun r wr => ∃ j : Nat, j ≤ 3 ∧ r = .int .i64 j ∧ LkInv V wr w N q E L win liar A X j) (fun r _ => 3 - (intOf r).toNat)
    case atStart => exact ⟨0, by omega, rfl, HST.out⟩
    case round =>
      clear HST
      obtain ⟨j, hj, rfl, hLk⟩ := hrel
      by_cases hj3 : j < 3
      · have hj' : (j : Int) < 3 := by omega
        have HC := hide (HLK.out j wr hj3 hLk)
        clear hLk
        go_wp2_with (go_at_call 24; refine HC.out.mono ?_)
        rintro e w2 ⟨he, hg⟩
        subst he
        have HG := hide hg.out
        clear hg
        go_wp2
        go_roundw
        case rel => exact ⟨j + 1, by omega, by go_num, HG.out⟩
        case measure => simp [intOf]; omega
      · have e3 : j = 3 := by omega
        subst e3
        have y2 := hLk.x2
        have HC := hide (hLk.calm cn HI.out HL.out hT (by omega) (show 10 ≤ X.wh by rw [HWH.out]; decide))
        clear hLk HLK
        go_wp2_with (first
          | (go_at_call 22; refine (unhide HPA _).mono ?_)
          | (go_at_call 18; refine HC.out.mono ?_))
        rintro e w5 ⟨rfl, hw5⟩
        subst w5
        go_wp2_with (go_at_call 18; refine HC.out.mono ?_)
        rintro e w6 ⟨he, hg⟩
        subst he
        have HG := hide hg
        clear hg
        go_wp2_with fail
        go_end0
        exact ⟨rfl, HG.out⟩
theorem does_any (N q : Nat) (E : TC) (L : RC) (win liar T : Nat) (A : TS) (w : World) (X : SD) (h : TaIs w N q E L win liar A) (hI : TlInv L liar win T A) (hL : LOk L) (hT : T < 600000) (hsl : A.seen.length ≤ 900) (htab : HasTab w) (hby : IsB w X.ba X.bl X.bc X.bs) (hbl : X.bl ≤ 200) :
    Calls Tryz.prog 8 #[.pointer (some ⟨q, 0, none⟩), .agg (sdL X).toArray] w fun e w' => e = .returned (.tuple #[]) ∧ ∃ A', StepTo L win liar X.wh A A' ∧ TaGo w w' N q E L win liar A' := by
  by_cases hw : X.wh < 0 ∨ 12 < X.wh
  · exact does_no N q E L win liar T A w X h hI hL hw
  · rcases (by omega : X.wh = 0 ∨ X.wh = 1 ∨ X.wh = 2 ∨ X.wh = 3 ∨ X.wh = 4 ∨ X.wh = 5 ∨ X.wh = 6 ∨ X.wh = 7 ∨ X.wh = 8 ∨ X.wh = 9 ∨ X.wh = 10 ∨ X.wh = 11 ∨ X.wh = 12) with e | e | e | e | e | e | e | e | e | e | e | e | e
    · exact does_0 N q E L win liar T A w X h hI hL e
    · exact does_1 N q E L win liar T A w X h hI hL hT (by omega) e
    · exact does_2 N q E L win liar T A w X h hI hL e
    · exact does_3 N q E L win liar T A w X h hI hL hT e
    · exact does_4 N q E L win liar T A w X h hI hL e
    · exact does_5 N q E L win liar T A w X h hI hL e
    · exact does_6 N q E L win liar T A w X h hI hL htab e
    · exact does_7 N q E L win liar T A w X h hI hL e
    · exact does_8 N q E L win liar T A w X h hI hL e
    · exact does_9 N q E L win liar T A w X h hI hL hby hbl e
    · exact does_10 N q E L win liar T A w X h hI hL hT hsl e
    · exact does_11 N q E L win liar T A w X h hI hL e
    · exact does_12 N q E L win liar T A w X h hI hL e
def rL : RC := ⟨4, 2, 3, [3, 12, 6], 0, 0, 0, 0, 0, 0⟩
theorem rL_ok : LOk rL := ⟨by decide +kernel, rfl⟩
def rD : Cm := ⟨15, 5, 1⟩
theorem ran_out0 : outOf rL st0 15 5 = 1 := by decide +kernel
theorem ran_out1 : outOf rL (inSt rL st0 15 5) 15 5 = 1 := by decide +kernel
def seeTo : Nat → SY
  | 0 => sy0 10
  | k + 1 => seeSy k 15 5 (seeTo k)
abbrev WT : Seen := fun _ _ _ _ => True
theorem seeTo_inv : ∀ k, k ≤ 3 → SInv rL WT 3 10 0 (seeTo k)
  | 0, _ => SInv.new (by decide) (by decide)
  | k + 1, hk => (seeTo_inv k (by omega)).see (by omega) 15 5
theorem seeTo_cl : ClInv rL WT 3 10 0 (seeTo 3) := ⟨seeTo_inv 3 (Nat.le_refl _), fun _ _ _ _ _ => ⟨fun _ _ => trivial, fun _ _ => trivial⟩⟩
def Sees15 (S : SY) : Prop := ∀ r, r < 3 → (S.rp r).sx = 15 ∧ (S.rp r).sy = 5
def RanP (i : Nat) (S : SY) : Prop := Sees15 S ∧ ((i = 0 ∧ AllFresh S ∧ S.v.tr = []) ∨ (i = 1 ∧ Mid rL S ∧ S.v.tr = []) ∨ (i = 2 ∧ AllFresh S ∧ S.v.tr = [rD]) ∨ (i = 3 ∧ Mid rL S ∧ S.v.tr = [rD]) ∨ (i = 4 ∧ S.v.tr = [rD, rD]) ∨ 5 ≤ i)
theorem ran_want {S : SY} (h : Sees15 S) : wantC rL S = 15 ∧ wantV rL S = 5 := by
  unfold wantC wantV
  rw [(h 0 (by omega)).1, (h 1 (by omega)).1, (h 2 (by omega)).1, (h 0 (by omega)).2, (h 1 (by omega)).2, (h 2 (by omega)).2]
  decide
theorem ran_half {i T : Nat} {S S' : SY} (h0 : SInv rL WT 3 10 T S) (hp : RanP i S) (h : Half rL WT 10 (T + 3) (ticksSy rL S) S') : RanP (i + 1) S' := by
  obtain ⟨hs, hp⟩ := hp
  have hw := ran_want hs
  refine ⟨fun r hr => by have := h.want r hr; exact ⟨this.1.trans (hs r hr).1, this.2.trans (hs r hr).2⟩, ?_⟩
  rcases hp with ⟨rfl, hf, ht⟩ | ⟨rfl, hm, ht⟩ | ⟨rfl, hf, ht⟩ | ⟨rfl, hm, ht⟩ | ⟨rfl, _⟩ | h5
  · obtain ⟨e, hm⟩ := h.fresh h0 hf
    exact .inr (.inl ⟨rfl, hm, e.trans ht⟩)
  · obtain ⟨hf, e⟩ := h.mid h0 hm
    refine .inr (.inr (.inl ⟨rfl, hf, ?_⟩))
    rw [e, ht]
    unfold wantD
    rw [hw.1, hw.2, ht, show outOf rL (stAt rL [] [].length) ((15 : Nat) : Int) ((5 : Nat) : Int) = 1 from ran_out0]
    rfl
  · obtain ⟨e, hm⟩ := h.fresh h0 hf
    exact .inr (.inr (.inr (.inl ⟨rfl, hm, e.trans ht⟩)))
  · obtain ⟨_, e⟩ := h.mid h0 hm
    refine .inr (.inr (.inr (.inr (.inl ⟨rfl, ?_⟩))))
    rw [e, ht]
    unfold wantD
    rw [hw.1, hw.2, ht, show outOf rL (stAt rL [rD] [rD].length) ((15 : Nat) : Int) ((5 : Nat) : Int) = 1 from ran_out1]
    rfl
  · exact .inr (.inr (.inr (.inr (.inr (by omega)))))
  · exact .inr (.inr (.inr (.inr (.inr (by omega)))))
theorem ran_tick {i : Nat} {S : SY} (hp : RanP i S) : RanP i (vtickSy S) := by
  obtain ⟨hs, hp⟩ := hp
  have e := vtick_tr S
  have hf : AllFresh S → AllFresh (vtickSy S) := fun h r hr => by
    have := h r hr
    exact ⟨by rw [e]; exact this.cyc, this.ticks, this.smp⟩
  have hm : Mid rL S → Mid rL (vtickSy S) := fun h r hr => by
    have := h r hr
    rw [e]; exact this
  refine ⟨hs, ?_⟩
  rw [e]
  rcases hp with ⟨h1, h2, h3⟩ | ⟨h1, h2, h3⟩ | ⟨h1, h2, h3⟩ | ⟨h1, h2, h3⟩ | h | h
  · exact .inl ⟨h1, hf h2, h3⟩
  · exact .inr (.inl ⟨h1, hm h2, h3⟩)
  · exact .inr (.inr (.inl ⟨h1, hf h2, h3⟩))
  · exact .inr (.inr (.inr (.inl ⟨h1, hm h2, h3⟩)))
  · exact .inr (.inr (.inr (.inr (.inl h))))
  · exact .inr (.inr (.inr (.inr (.inr h))))
theorem ran_calm {S' : SY} (h : calmTo rL 10 2 (seeTo 3) S') : S'.v.tr = [rD, rD] ∧ S'.v.lat = false := by
  have hst : Stand rL WT 10 0 3 (seeTo 3) := ⟨seeTo_inv 3 (Nat.le_refl _), rfl, rfl, by show 3 ≤ 10; omega, by omega⟩
  have hp : RanP 0 (seeTo 3) := by
    refine ⟨fun r hr => ?_, .inl ⟨rfl, fun r hr => ?_, rfl⟩⟩
    · rcases (by omega : r = 0 ∨ r = 1 ∨ r = 2) with rfl | rfl | rfl <;> exact ⟨rfl, rfl⟩
    · rcases (by omega : r = 0 ∨ r = 1 ∨ r = 2) with rfl | rfl | rfl <;> exact ⟨rfl, rfl, rfl⟩
  obtain ⟨⟨_, q⟩, s, _⟩ := rounds rL_ok (fun _ _ _ _ => trivial) (fun i S S' T h0 _ hp h => ran_half h0 hp h) (fun i S hp => ran_tick hp) 2 0 0 (seeTo 3) S' hst (by show 0 + 2 * 2 < 1000; omega) hp h
  refine ⟨?_, s.lat⟩
  rcases q with q | q | q | q | q | q
  · omega
  · omega
  · omega
  · omega
  · exact q.2
  · omega
theorem sshown_any (N : Nat) (D : SC) (L : RC) (win : Nat) (S : SY) (w : World) (h : SyIs w N D L win S) (hok : VOk win S.v) :
    Calls Tryz.prog 20 #[.pointer (some ⟨D.p, 0, none⟩)] w fun e w' => e = .returned (.int .i64 (shownF S.v)) ∧ Below w.heap.size w w' := by
  have c6 := h.vt6
  have HC := hide (shown_any N D.vp win D.tv S.v w h.vt hok)
  clear h hok
  go_enter Tryz.func20, Tryz.ntmps20
  go_wp2_with fail
  refine HC.out.mono ?_
  rintro e w2 ⟨rfl, hB⟩
  go_wp2
  go_ret
  exact ⟨rfl, hB⟩
structure RnInv (w wr : World) (N p k : Nat) : Prop where
  old : Below w.heap.size w wr
  le : w.heap.size ≤ N
  sz : N ≤ wr.heap.size
  sy : ∃ D, D.p = p ∧ SyIs wr N D rL 10 (seeTo k)
theorem syGo_below {w w' : World} {N win B : Nat} {D : SC} {L : RC} {S S' : SY} (h : SyIs w N D L win S) (hg : SyGo w w' N D L win S') (hB : B ≤ N) (hN : N ≤ w.heap.size) : Below B w w' := by
  obtain ⟨_, _, _, hm, _⟩ := hg
  exact hm.toBelow (Nat.le_trans hB hN) fun k hk hw => by have := h.base k hw; omega
theorem RnInv.see {w wr : World} {N p k : Nat} (h : RnInv w wr N p k) (hk : k < 3) : Calls Tryz.prog 17 #[.pointer (some ⟨p, 0, none⟩), .int .i64 (k : Int), .agg #[.int .i64 15, .int .i64 5]] wr fun e w' => e = .returned .nilIface ∧ Hid (RnInv w w' N p (k + 1)) := by
  obtain ⟨D, rfl, hS⟩ := h.sy
  refine (sysee_any N D rL 10 (seeTo k) wr k 15 5 hk hS).mono ?_
  rintro e w' ⟨he, hg⟩
  have hB := syGo_below hS hg h.le h.sz
  obtain ⟨D', hp, hS', hm, _⟩ := hg
  exact ⟨he, hide ⟨h.old.trans hB, h.le, Nat.le_trans h.sz hm.size, D', hp, hS'⟩⟩
structure RnEnd (w wr : World) (N p : Nat) (S : SY) : Prop where
  old : Below w.heap.size w wr
  sy : ∃ D, D.p = p ∧ SyIs wr N D rL 10 S
  tr : S.v.tr = [rD, rD]
  lat : S.v.lat = false
  ok : VOk 10 S.v
theorem RnInv.calm {w wr : World} {N p : Nat} (h : RnInv w wr N p 3) : Calls Tryz.prog 18 #[.pointer (some ⟨p, 0, none⟩), .int .i64 2] wr fun e w' => e = .returned (.tuple #[]) ∧ Hid (∃ S, RnEnd w w' N p S) := by
  obtain ⟨D, rfl, hS⟩ := h.sy
  refine (calm_any (W := WT) (liar := 3) (T := 0) N D rL 10 (seeTo 3) wr 2 hS seeTo_cl rL_ok (by omega) (by omega) h.sz).mono ?_
  rintro e w' ⟨he, S', hc, hI, hg⟩
  have hB := syGo_below hS hg h.le h.sz
  obtain ⟨D', hp, hS', _, _⟩ := hg
  obtain ⟨e1, e2⟩ := ran_calm hc
  exact ⟨he, hide ⟨S', h.old.trans hB, ⟨D', hp, hS'⟩, e1, e2, hI.inv.vok⟩⟩
set_option maxHeartbeats 2000000 in
set_option maxRecDepth 20000 in
theorem ran_any (w : World) : Calls Tryz.prog 6 #[] w fun e w' => e = .returned (.bool true) ∧ Below w.heap.size w w' := by
  obtain ⟨W, hW⟩ : ∃ W, Hid (w.alloc (.cells #[.int .i64 3, .int .i64 12, .int .i64 6] 3) = W) := ⟨_, hide rfl⟩
  have hBW : Below w.heap.size w W := by rw [← hW.out]; exact (Below.refl _ _).alloc (Nat.le_refl _) _
  have hbW : W.heap[w.heap.size]? = some (.cells #[.int .i64 3, .int .i64 12, .int .i64 6] 3 (0, 0)) := by rw [← hW.out]; exact blk_new _ _
  have HNW : Hid (Calls Tryz.prog 16 #[.agg #[.int .i64 4, .slice (some ⟨w.heap.size, 0, none⟩) 3 3, .int .i64 2], .int .i64 10] W fun e w' => ∃ p, e = .returned (.tuple #[.pointer (some ⟨p, 0, none⟩), .nilIface]) ∧ Hid (RnInv w w' W.heap.size p 0)) := hide (by
    have hrow : Row W w.heap.size 0 rL.zs := fun k hk => by
      have hk3 : k < 3 := hk
      rw [blk_cell hbW]
      rcases (by omega : k = 0 ∨ k = 1 ∨ k = 2) with rfl | rfl | rfl <;> rfl
    refine (synew_any W.heap.size rL 10 w.heap.size 0 3 W rL_ok (by decide) (by decide) (blk_lt hbW) hrow (Nat.le_refl _)).mono ?_
    rintro e w' ⟨⟨D, he, _, hS⟩, hB⟩
    exact ⟨D.p, he, hide ⟨hBW.trans (hB.mono hBW.size), hBW.size, hB.size, D, rfl, hS⟩⟩)
  clear hBW hbW
  go_enter Tryz.func6, Tryz.ntmps6
  go_wp2_with fail
  rw [show w.alloc (.cells #[.int .i64 3, .int .i64 12, .int .i64 6] 3) = W from hW.out]
  refine HNW.out.mono ?_
  rintro e w1 ⟨p, rfl, HR0⟩
  clear HNW hW
  go_wp2_with fail
  go_loopw [3] (fun i wr => ∃ k : Nat, k ≤ 3 ∧ i = .int .i64 k ∧ RnInv w wr W.heap.size p k) (fun i _ => 3 - (intOf i).toNat)
  case atStart => exact ⟨0, by omega, rfl, HR0.out⟩
  case round =>
    clear HR0
    obtain ⟨k, hk, rfl, hR⟩ := hrel
    by_cases hk3 : k < 3
    · have hk' : (k : Int) < 3 := by omega
      have HC := hide (hR.see hk3)
      clear hR
      go_wp2_with (go_at_call 17; refine HC.out.mono ?_)
      rintro e w2 ⟨he, HG⟩
      subst he
      go_wp2
      go_roundw
      case rel => exact ⟨k + 1, by omega, by go_num, HG.out⟩
      case measure => simp [intOf]; omega
    · have e3 : k = 3 := by omega
      subst e3
      have HC := hide hR.calm
      clear hR
      go_wp2_with (go_at_call 18; refine HC.out.mono ?_)
      rintro e w2 ⟨he, HG⟩
      subst he
      clear HC
      obtain ⟨S, hE⟩ := HG.out
      obtain ⟨D, hp, hS⟩ := hE.sy
      subst hp
      have HTR := hide (strace_any W.heap.size D rL 10 S w2 hS hE.ok)
      have HE := hide hE
      have HS := hide hS
      clear HG hE hS
      go_wp2_with (go_at_call 11; refine HTR.out.mono ?_)
      rintro e w3 ⟨⟨v, rfl, hTr⟩, hB3⟩
      have HL := hide (slatched_any W.heap.size D rL 10 S w3 (HS.out.below hB3))
      have HSH := hide (sshown_any W.heap.size D rL 10 S w3 (HS.out.below hB3) HE.out.ok)
      rw [HE.out.lat] at HL
      rw [show shownF S.v = 1 by unfold shownF; rw [HE.out.lat, HE.out.tr]; rfl] at HSH
      rw [HE.out.tr] at hTr
      obtain ⟨g, cap, rfl, hg1, hg2, _⟩ := hTr.has (by decide)
      have HT := hide hTr
      have HB3 := hide (HE.out.old.trans (hB3.mono HE.out.old.size))
      have hsz := HE.out.old.size
      have hsz3 := hB3.size
      clear HTR HE hTr hB3 HS
      go_wp2_with (go_at_call 19; refine HL.out.mono ?_)
      rintro e wz ⟨rfl, hwz⟩
      subst wz
      go_wp2_with (go_at_call 20; refine HSH.out.mono ?_)
      rintro e w4 ⟨rfl, hB4⟩
      have HT4 : Hid (∀ k : Nat, k < 2 → w4.cell? ⟨g, k * 3, none⟩ = some (.int .i64 15) ∧ w4.cell? ⟨g, k * 3 + 1, none⟩ = some (.int .i64 5) ∧ w4.cell? ⟨g, k * 3 + 2, none⟩ = some (.int .i64 1)) := hide fun k hk => by
        have hr := (HT.out.same (w' := w4) fun g' hg' => by
          have : g = g' := by simpa [Value.ownBlock] using hg'
          exact hB4.block g' (by omega)).range (k := k) hk
        have e : cmAt [rD, rD] k = rD := by rcases (by omega : k = 0 ∨ k = 1) with rfl | rfl <;> rfl
        rw [e] at hr
        exact ⟨hr 0 _ rfl, hr 1 _ rfl, hr 2 _ rfl⟩
      have HBE : Hid (Below w.heap.size w w4) := hide (HB3.out.trans (hB4.mono (by omega)))
      clear HL HSH HT HB3 hB4
      go_wp2_with fail
      go_loopw [5] (fun i wr => ∃ k : Nat, k ≤ 2 ∧ i = .int .i64 k ∧ wr = w4) (fun i _ => 2 - (intOf i).toNat)
      case atStart => exact ⟨0, by omega, rfl, rfl⟩
      case round =>
        obtain ⟨k, hk, rfl, hwr⟩ := hrel
        subst wr
        by_cases hk2 : k < 2
        · have hk2' : (k : Int) < 2 := by omega
          obtain ⟨t0, t1, t2⟩ := HT4.out k hk2
          go_wp2
          go_roundw
          case rel => exact ⟨k + 1, by omega, by go_num, by first | rfl | trivial⟩
          case measure => simp [intOf]; omega
        · have e2 : k = 2 := by omega
          subst e2
          go_wp2
          go_ret
          exact ⟨rfl, HBE.out⟩
theorem infoStep : (Tryz.prog.info? 38).map (·.size) = some 29 := by kernel_rfl
structure PlInv (w wr : World) (N q : Nat) (L : RC) (win liar : Nat) (k : Nat) : Prop where
  old : Below w.heap.size w wr
  ge : w.heap.size ≤ q
  ok : LOk L
  is : ∃ E' A, TaIs wr N q E' L win liar A ∧ TlInv L liar win (18 * k) A ∧ A.seen.length ≤ 3 * k
theorem TaGo.old {w wr w' : World} {N q : Nat} {E : TC} {L : RC} {win liar : Nat} {A A' : TS} (h : TaIs wr N q E L win liar A) (hB : Below w.heap.size w wr) (hq : w.heap.size ≤ q) (hg : TaGo wr w' N q E L win liar A') : Below w.heap.size w w' := by
  obtain ⟨_, _, _, _, _, _, hm⟩ := hg
  refine hB.trans (hm.toBelow hB.size fun k hk hw => ?_)
  rcases hw with hw | hw
  · omega
  · have := h.lq; omega
theorem StepTo.few {L : RC} {win liar : Nat} {wh : Int} {A B : TS} (h : StepTo L win liar wh A B) : B.seen.length ≤ A.seen.length + 3 := by
  refine h (fun B => B.seen.length ≤ A.seen.length + 3) ?_ ?_ ?_ ?_ ?_ ?_ ?_ ?_ ?_ ?_ ?_ ?_ ?_ <;> (intros; simp [sees3])
theorem PlInv.does {w wr : World} {N q : Nat} {L : RC} {win liar k : Nat} {X : SD} (h : PlInv w wr N q L win liar k) (hk : k ≤ 120) (htab : HasTab w) (h0 : 0 < w.heap.size) (hby : IsB w X.ba X.bl X.bc X.bs) (hbl : X.bl ≤ 200) :
    Calls Tryz.prog 8 #[.pointer (some ⟨q, 0, none⟩), .agg (sdL X).toArray] wr fun e w' => e = .returned (.tuple #[]) ∧ Hid (PlInv w w' N q L win liar (k + 1)) := by
  obtain ⟨E', A, hT, hI, hs⟩ := h.is
  refine (does_any N q E' L win liar (18 * k) A wr X hT hI h.ok (by omega) (by omega) (htab.below h.old h0) (hby.below h.old) hbl).mono ?_
  rintro e w' ⟨he, A', hst, hg⟩
  have hold := TaGo.old hT h.old h.ge hg
  obtain ⟨E2, _, _, _, _, hT2, _⟩ := hg
  refine ⟨he, hide ⟨hold, h.ge, h.ok, E2, A', hT2, ?_, ?_⟩⟩
  · rw [show 18 * (k + 1) = 18 * k + 18 by omega]
    exact (hst.keeps h.ok hI).1
  · have := hst.few; omega
theorem StepAt.load {w wr : World} {al : Option Addr} {ll : Nat} (h : StepAt w al ll) (hB : Below w.heap.size w wr) {i : Nat} (hi : i < ll) : ∃ (b off : Nat) (X : SD), al = some ⟨b, off, none⟩ ∧ b < w.heap.size ∧ w.rangeAt b (off + i * 29) (sdL X) ∧ wr.rangeAt b (off + i * 29) (sdL X) ∧ IsB w X.ba X.bl X.bc X.bs := by
  obtain ⟨b, off, X, h1, h2, h3, h4, _⟩ := h i hi
  exact ⟨b, off, X, h1, h2, h3, fun j v hv => (hB.cell (p := ⟨b, off + i * 29 + j, none⟩) h2).trans (h3 j v hv), h4⟩
theorem u64_wrap (n : Nat) (h : n < 18446744073709551616) : u64 (IntKind.i64.wrap (n : Int)) = n := by
  unfold u64
  simp [IntKind.wrap, IntKind.bits, IntKind.signed]
  omega
theorem u64_or (x y : Int) : u64 (bits .or .i64 x y) = u64 x ||| u64 y := by
  show u64 (IntKind.i64.wrap (((BitVec.ofInt 64 _ ||| BitVec.ofInt 64 _).toNat : Nat) : Int)) = _
  rw [u64_wrap _ (by exact BitVec.isLt _), BitVec.toNat_or, ofInt64, ofInt64]
def hitB (s : Sg) (liar i : Nat) : Bool := (s.who != liar) && (decide (s.cyc = (i : Int)) || (s.on && decide (s.cyc ≤ (i : Int))))
def orX (l : List Sg) (liar i : Nat) (f : Sg → Int) : Nat → Int
  | 0 => 0
  | k + 1 => if hitB (sgAt l k) liar i then bits .or .i64 (orX l liar i f k) (f (sgAt l k)) else orX l liar i f k
theorem orX_bit (l : List Sg) (liar i : Nat) (f : Sg → Int) {b k : Nat} : ∀ {m : Nat}, k < m → hitB (sgAt l k) liar i = true → (u64 (f (sgAt l k))).testBit b = true → (u64 (orX l liar i f m)).testBit b = true
  | 0, h, _, _ => absurd h (Nat.not_lt_zero _)
  | m + 1, h, hh, hb => by
    unfold orX
    by_cases e : k = m
    · subst e
      rw [if_pos hh, u64_or, Nat.testBit_or, hb, Bool.or_true]
    · have ih := orX_bit l liar i f (show k < m by omega) hh hb
      split
      · rw [u64_or, Nat.testBit_or, ih, Bool.true_or]
      · exact ih
theorem sgAt_mem {l : List Sg} {s : Sg} (h : s ∈ l) : ∃ k, k < l.length ∧ sgAt l k = s := by
  obtain ⟨k, hk, e⟩ := List.getElem_of_mem h
  exact ⟨k, hk, by unfold sgAt; rw [List.getElem?_eq_getElem hk, e]; rfl⟩
section
variable {L : RC} {A : TS} {liar win T i : Nat}
theorem hit_of {s : Sg} (h1 : s.who ≠ liar) (h2 : s.cyc = (i : Int) ∨ s.on = true ∧ s.cyc ≤ (i : Int)) : hitB s liar i = true := by
  unfold hitB
  rw [Bool.and_eq_true, Bool.or_eq_true, Bool.and_eq_true]
  exact ⟨by simpa using h1, h2.imp decide_eq_true fun h => ⟨h.1, decide_eq_true h.2⟩⟩
theorem TlInv.saw (h : TlInv L liar win T A) (hL : LOk L) (hi : i < A.S.v.tr.length) : bits .andNot .i64 (cmAt A.S.v.tr i).c (orX A.seen liar i Sg.x A.seen.length) = 0 ∧ bits .andNot .i64 (cmAt A.S.v.tr i).v (orX A.seen liar i Sg.y A.seen.length) = 0 := by
  obtain ⟨c, v, e, hc, hv, hA1, hA2⟩ := h.inv.tr i hi
  have small : ∀ {m x : Nat}, x < 2 ^ m → m ≤ 12 → x < 9223372036854775808 := fun {m x} hx hm => Nat.lt_of_lt_of_le hx (Nat.le_trans (Nat.pow_le_pow_right (by decide) hm) (by decide))
  have hf := hL.few
  rw [e]
  refine ⟨?_, ?_⟩
  · show bits .andNot .i64 (c : Int) _ = 0
    rw [andnot_left c _ (small hc (by omega)), wo_zero.2 fun b hb => ?_]
    · rfl
    · obtain ⟨j, _, hjl, s, hs, hw, hn, hbit⟩ := hA1 b hb
      obtain ⟨k, hk, rfl⟩ := sgAt_mem hs
      refine orX_bit _ _ _ _ hk (hit_of (by rw [hw]; exact hjl) hn) ?_
      have hbit' : (fitN L.s (sgAt A.seen k).x).testBit b = true := hbit
      rw [fitN_bit, Bool.and_eq_true] at hbit'
      exact hbit'.2
  · show bits .andNot .i64 (v : Int) _ = 0
    rw [andnot_left v _ (small hv (by omega)), wo_zero.2 fun b hb => ?_]
    · rfl
    · obtain ⟨j, _, hjl, s, hs, hw, hn, hbit⟩ := hA2 b hb
      obtain ⟨k, hk, rfl⟩ := sgAt_mem hs
      refine orX_bit _ _ _ _ hk (hit_of (by rw [hw]; exact hjl) hn) ?_
      have hbit' : (fitN L.n (sgAt A.seen k).y).testBit b = true := hbit
      rw [fitN_bit, Bool.and_eq_true] at hbit'
      exact hbit'.2
end
set_option maxHeartbeats 4000000 in
set_option maxRecDepth 20000 in
theorem saw_any (N q : Nat) (E : TC) (L : RC) (win liar T : Nat) (A : TS) (w : World) (h : TaIs w N q E L win liar A) (hI : TlInv L liar win T A) (hL : LOk L) (hm : A.seen.length ≤ 1000) :
    Calls Tryz.prog 15 #[.pointer (some ⟨q, 0, none⟩)] w fun e w' => e = .returned (.bool true) ∧ Below w.heap.size w w' := by
  have c0 : w.cell? ⟨q, 0, none⟩ = some (.pointer (some ⟨E.D.p, 0, none⟩)) := (h.at 0).trans rfl
  have HTR := hide (strace_any N E.D L win A.S w h.sy hI.inv.vok)
  have HSW := hide fun i (hi : i < A.S.v.tr.length) => hI.saw hL hi
  have HT := hide h
  have hf := hI.inv.vok.few
  clear h hI
  go_enter Tryz.func15, Tryz.ntmps15
  go_wp2_with (go_at_call 11; refine HTR.out.mono ?_)
  rintro e w2 ⟨⟨v, rfl, hTr⟩, hB2⟩
  obtain ⟨a, cap, rfl⟩ := hTr.shape
  have HTI := hide hTr
  have HB2 := hide hB2
  have hT2 := HT.out.below hB2
  obtain ⟨sa, sc, hsv⟩ := hT2.shape
  obtain ⟨ns, hns⟩ : ∃ ns, Hid (A.seen.length = ns) := ⟨_, hide rfl⟩
  rw [hns.out] at hsv HSW hm
  have HC : Hid (∀ wx, Below w2.heap.size w2 wx → wx.cell? ⟨q, 11, none⟩ = some (.slice sa ns sc) ∧ wx.cell? ⟨q, 4, none⟩ = some (.int .i64 (liar : Int))) := hide fun wx hx => ⟨((hT2.below hx).at 11).trans (by show some E.sv = _; rw [hsv]), ((hT2.below hx).at 4).trans rfl⟩
  have HSE : Hid (∀ wx, Below w2.heap.size w2 wx → ∀ m, m < ns → ∃ gs, sa = some ⟨gs, 0, none⟩ ∧ gs < w2.heap.size ∧ wx.cell? ⟨gs, m * 5, none⟩ = some (.int .i64 ((sgAt A.seen m).who : Int)) ∧ wx.cell? ⟨gs, m * 5 + 1, none⟩ = some (.int .i64 (sgAt A.seen m).cyc) ∧ wx.cell? ⟨gs, m * 5 + 2, none⟩ = some (.bool (sgAt A.seen m).on) ∧ wx.cell? ⟨gs, m * 5 + 3, none⟩ = some (.int .i64 (sgAt A.seen m).x) ∧ wx.cell? ⟨gs, m * 5 + 4, none⟩ = some (.int .i64 (sgAt A.seen m).y)) := hide fun wx hx m hm' => by
    have hTx := hT2.below hx
    have hml : m < A.seen.length := by rw [hns.out]; exact hm'
    have hown := hTx.seen
    rw [hsv, hns.out] at hown
    rcases hTx.seen.2 with ⟨_, h0⟩ | ⟨g, cap, cur, e, hge, hc, _⟩
    · omega
    · rw [hsv] at e
      simp only [Value.slice.injEq] at e
      obtain ⟨rfl, e2, rfl⟩ := e
      have hgl : g < w2.heap.size := (hT2.own (g := g) (by rw [hsv]; rfl)).lt
      have hat : ∀ j, j < 5 → wx.cell? ⟨g, m * 5 + j, none⟩ = (sgC (sgAt A.seen m))[j]? := fun j hj => by
        rw [← sgL_at A.seen m hml j hj]
        exact hown.cellAt (m * 5 + j) (by omega)
      exact ⟨g, rfl, hgl, hat 0 (by omega), hat 1 (by omega), hat 2 (by omega), hat 3 (by omega), hat 4 (by omega)⟩
  obtain ⟨tr, htr⟩ : ∃ tr, Hid (A.S.v.tr = tr) := ⟨_, hide rfl⟩
  rw [htr.out] at hf HTI HSW ⊢
  obtain ⟨n, hnn⟩ : ∃ n, Hid (tr.length = n) := ⟨_, hide rfl⟩
  rw [hnn.out] at hf HTI ⊢
  have hql : q < w2.heap.size := hT2.lt
  clear hTr hB2 c0 HTR HT hT2 hsv
  go_wp2_with fail
  go_loopw [4] (fun i wr => ∃ k : Nat, k ≤ n ∧ i = .int .i64 k ∧ Below w2.heap.size w2 wr) (fun i _ => n - (intOf i).toNat)
  case atStart => exact ⟨0, Nat.zero_le _, rfl, Below.refl _ _⟩
  case round =>
    obtain ⟨i, hi, rfl, hBi⟩ := hrel
    rename World => wA
    by_cases hlt : i < n
    · have hil : i < tr.length := by rw [hnn.out]; exact hlt
      obtain ⟨gt, cap', hsl, hgt, hgl, _⟩ := HTI.out.has (by rw [hnn.out]; omega)
      have ea : a = some ⟨gt, 0, none⟩ := by simp at hsl; exact hsl.1
      subst ea
      have HTX : Hid (∀ wx, Below w2.heap.size w2 wx → wx.cell? ⟨gt, i * 3, none⟩ = some (.int .i64 (cmAt tr i).c) ∧ wx.cell? ⟨gt, i * 3 + 1, none⟩ = some (.int .i64 (cmAt tr i).v)) := hide fun wx hm => by
        have hr := (HTI.out.same (w' := wx) fun g' hg' => by
          have : gt = g' := by simpa [Value.ownBlock] using hg'
          exact hm.block g' (by omega)).range hil
        exact ⟨hr 0 _ rfl, hr 1 _ rfl⟩
      have HS1 := hide (HSW.out i hil)
      have hw2 : w2.heap.size ≤ wA.heap.size := hBi.size
      obtain ⟨W, hW⟩ : ∃ W, Hid (wA.alloc (.cells #[.int .i64 0, .int .i64 0] 30) = W) := ⟨_, hide rfl⟩
      have HST : Hid (Below wA.heap.size wA W ∧ W.heap[wA.heap.size]? = some (.cells #[.int .i64 (orX A.seen liar i Sg.x 0), .int .i64 (orX A.seen liar i Sg.y 0)] 30 (0, 0))) := by rw [← hW.out]; exact hide ⟨(Below.refl _ _).alloc (Nat.le_refl _) _, blk_new _ _⟩
      have HBI := hide hBi
      clear hsl hBi
      go_wp2_with fail
      rw [show wA.alloc (.cells #[.int .i64 0, .int .i64 0] 30) = W from hW.out]
      clear hW
      go_loopw [6] (fun j wi => ∃ m : Nat, m ≤ ns ∧ j = .int .i64 m ∧ Below wA.heap.size wA wi ∧ wi.heap[wA.heap.size]? = some (.cells #[.int .i64 (orX A.seen liar i Sg.x m), .int .i64 (orX A.seen liar i Sg.y m)] 30 (0, 0))) (fun j _ => ns - (intOf j).toNat)
      case atStart => exact ⟨0, Nat.zero_le _, rfl, HST.out⟩
      case round =>
        clear HST
        obtain ⟨m, hm', rfl, hBm, hbk⟩ := hrel
        have hB2m : Below w2.heap.size w2 wr := HBI.out.trans (hBm.mono hw2)
        obtain ⟨d11, d4⟩ := HC.out wr hB2m
        have hPl : wA.heap.size < wr.heap.size := blk_lt hbk
        by_cases hlm : m < ns
        · obtain ⟨gs, hsa, hgs, s0, s1, s2, s3, s4⟩ := HSE.out wr hB2m m hlm
          subst hsa
          obtain ⟨s, hs⟩ : ∃ s, Hid (sgAt A.seen m = s) := ⟨_, hide rfl⟩
          rw [hs.out] at s0 s1 s2 s3 s4
          have HN : ∀ f, Hid (orX A.seen liar i f (m + 1) = if hitB s liar i then bits .or .i64 (orX A.seen liar i f m) (f s) else orX A.seen liar i f m) := fun f => hide (by rw [← hs.out]; rfl)
          obtain ⟨ax, hax⟩ : ∃ ax, Hid (orX A.seen liar i Sg.x m = ax) := ⟨_, hide rfl⟩
          obtain ⟨ay, hay⟩ : ∃ ay, Hid (orX A.seen liar i Sg.y m = ay) := ⟨_, hide rfl⟩
          have HNX := HN Sg.x
          have HNY := HN Sg.y
          rw [hax.out] at HNX hbk
          rw [hay.out] at HNY hbk
          obtain ⟨who, cyc, on, sx, sy⟩ := s
          dsimp only at s0 s1 s2 s3 s4 HNX HNY
          obtain ⟨V, hV⟩ : ∃ V, Hid (wr.alloc (.cells #[.int .i64 (who : Int), .int .i64 cyc, .bool on, .int .i64 sx, .int .i64 sy] 94) = V) := ⟨_, hide rfl⟩
          have hBV : Below wr.heap.size wr V := by rw [← hV.out]; exact (Below.refl _ _).alloc (Nat.le_refl _) _
          have hbx : V.heap[wr.heap.size]? = some (.cells #[.int .i64 (who : Int), .int .i64 cyc, .bool on, .int .i64 sx, .int .i64 sy] 94 (0, 0)) := by rw [← hV.out]; exact blk_new _ _
          have hbP : V.heap[wA.heap.size]? = some (.cells #[.int .i64 ax, .int .i64 ay] 30 (0, 0)) := (hBV.block _ hPl).trans hbk
          have v4 : V.cell? ⟨q, 4, none⟩ = some (.int .i64 (liar : Int)) := (HC.out V (hB2m.trans (hBV.mono hB2m.size))).2
          have x0 : V.cell? ⟨wr.heap.size, 0, none⟩ = some (.int .i64 (who : Int)) := (blk_cell hbx 0).trans rfl
          have x1 : V.cell? ⟨wr.heap.size, 1, none⟩ = some (.int .i64 cyc) := (blk_cell hbx 1).trans rfl
          have x2 : V.cell? ⟨wr.heap.size, 2, none⟩ = some (.bool on) := (blk_cell hbx 2).trans rfl
          have x3 : V.cell? ⟨wr.heap.size, 3, none⟩ = some (.int .i64 sx) := (blk_cell hbx 3).trans rfl
          have x4 : V.cell? ⟨wr.heap.size, 4, none⟩ = some (.int .i64 sy) := (blk_cell hbx 4).trans rfl
          have p0 : V.cell? ⟨wA.heap.size, 0, none⟩ = some (.int .i64 ax) := (blk_cell hbP 0).trans rfl
          have p1 : V.cell? ⟨wA.heap.size, 1, none⟩ = some (.int .i64 ay) := (blk_cell hbP 1).trans rfl
          have pf0 : V.frozen? ⟨wA.heap.size, 0, none⟩ = false := blk_free hbP 0
          have pf1 : V.frozen? ⟨wA.heap.size, 1, none⟩ = false := blk_free hbP 1
          have HBV : Hid (Below wA.heap.size wA V) := hide (hBm.trans (hBV.mono (Nat.le_of_lt hPl)))
          have hne : wr.heap.size ≠ wA.heap.size := by omega
          have HBP := hide hbP
          have no : hitB ⟨who, cyc, on, sx, sy⟩ liar i = false → ∀ n, Below wA.heap.size wA (V.drewN n) ∧ (V.drewN n).heap[wA.heap.size]? = some (.cells #[.int .i64 (orX A.seen liar i Sg.x (m + 1)), .int .i64 (orX A.seen liar i Sg.y (m + 1))] 30 (0, 0)) := fun e n => by
            rw [HNX.out, HNY.out, e]
            exact ⟨below_drewN HBV.out n, HBP.out⟩
          have yes : hitB ⟨who, cyc, on, sx, sy⟩ liar i = true → ∀ n, Below wA.heap.size wA (((V.drewN n).setCell ⟨wA.heap.size, 0, none⟩ (.int .i64 (bits .or .i64 ax sx))).setCell ⟨wA.heap.size, 1, none⟩ (.int .i64 (bits .or .i64 ay sy))) ∧ (((V.drewN n).setCell ⟨wA.heap.size, 0, none⟩ (.int .i64 (bits .or .i64 ax sx))).setCell ⟨wA.heap.size, 1, none⟩ (.int .i64 (bits .or .i64 ay sy))).heap[wA.heap.size]? = some (.cells #[.int .i64 (orX A.seen liar i Sg.x (m + 1)), .int .i64 (orX A.seen liar i Sg.y (m + 1))] 30 (0, 0)) := fun e n => by
            rw [HNX.out, HNY.out, e]
            exact ⟨((below_drewN HBV.out n).setCell (Nat.le_refl _) _).setCell (Nat.le_refl _) _, (blk_set (blk_set (show (V.drewN n).heap[wA.heap.size]? = _ from HBP.out) 0 _) 1 _).trans rfl⟩
          have HNO := hide no
          have HYES := hide yes
          clear hBV hbx hbP hBm hbk hax hay HN HNX HNY HBV HBP no yes hs hB2m
          by_cases q1 : who = liar
          · have e1 : ((who : Int) != (liar : Int)) = false := by simp [q1]
            have HH := hide (HNO.out (by unfold hitB; simp [q1]))
            clear HNO HYES q1
            go_wp2_with fail
            rw [show wr.alloc (.cells #[.int .i64 (who : Int), .int .i64 cyc, .bool on, .int .i64 sx, .int .i64 sy] 94) = V from hV.out]
            clear hV
            go_quiet (fail)
            go_wp2
            go_roundw
            case rel => exact ⟨m + 1, by omega, by go_num, HH.out _⟩
            case measure => simp [intOf]; omega
          · have e1 : ((who : Int) != (liar : Int)) = true := by simp; omega
            have q1' : (who != liar) = true := by simpa using q1
            by_cases q2 : cyc = (i : Int)
            · have e2 : (cyc == (i : Int)) = true := by simp [q2]
              have HH := hide (HYES.out (by unfold hitB; rw [q1', decide_eq_true q2]; rfl))
              clear HNO HYES
              clear q2
              go_wp2_with fail
              rw [show wr.alloc (.cells #[.int .i64 (who : Int), .int .i64 cyc, .bool on, .int .i64 sx, .int .i64 sy] 94) = V from hV.out]
              clear hV
              go_quiet (fail)
              go_wp2
              go_roundw
              case rel => exact ⟨m + 1, by omega, by go_num, HH.out _⟩
              case measure => simp [intOf]; omega
            · have e2 : (cyc == (i : Int)) = false := by simpa using q2
              cases on
              · have HH := hide (HNO.out (by unfold hitB; rw [decide_eq_false q2]; simp))
                clear HNO HYES
                clear q2
                go_wp2_with fail
                rw [show wr.alloc (.cells #[.int .i64 (who : Int), .int .i64 cyc, .bool false, .int .i64 sx, .int .i64 sy] 94) = V from hV.out]
                clear hV
                go_quiet (fail)
                go_wp2
                go_roundw
                case rel => exact ⟨m + 1, by omega, by go_num, HH.out _⟩
                case measure => simp [intOf]; omega
              · by_cases q3 : cyc ≤ (i : Int)
                · have e3 : decide (cyc ≤ (i : Int)) = true := decide_eq_true q3
                  have HH := hide (HYES.out (by unfold hitB; rw [q1', decide_eq_true q3]; simp))
                  clear HNO HYES
                  clear q3
                  go_wp2_with fail
                  rw [show wr.alloc (.cells #[.int .i64 (who : Int), .int .i64 cyc, .bool true, .int .i64 sx, .int .i64 sy] 94) = V from hV.out]
                  clear hV
                  go_quiet (fail)
                  go_wp2
                  go_roundw
                  case rel => exact ⟨m + 1, by omega, by go_num, HH.out _⟩
                  case measure => simp [intOf]; omega
                · have e3 : decide (cyc ≤ (i : Int)) = false := decide_eq_false q3
                  have HH := hide (HNO.out (by unfold hitB; rw [decide_eq_false q2, decide_eq_false q3]; simp))
                  clear HNO HYES
                  clear q2
                  clear q3
                  go_wp2_with fail
                  rw [show wr.alloc (.cells #[.int .i64 (who : Int), .int .i64 cyc, .bool true, .int .i64 sx, .int .i64 sy] 94) = V from hV.out]
                  clear hV
                  go_quiet (fail)
                  go_wp2
                  go_roundw
                  case rel => exact ⟨m + 1, by omega, by go_num, HH.out _⟩
                  case measure => simp [intOf]; omega
        · have hme : m = ns := by omega
          subst hme
          obtain ⟨z1, z2⟩ := HS1.out
          obtain ⟨t0, t1⟩ := HTX.out wr hB2m
          obtain ⟨ax, hax⟩ : ∃ ax, Hid (orX A.seen liar i Sg.x m = ax) := ⟨_, hide rfl⟩
          obtain ⟨ay, hay⟩ : ∃ ay, Hid (orX A.seen liar i Sg.y m = ay) := ⟨_, hide rfl⟩
          rw [hax.out] at hbk z1
          rw [hay.out] at hbk z2
          have p0 : wr.cell? ⟨wA.heap.size, 0, none⟩ = some (.int .i64 ax) := (blk_cell hbk 0).trans rfl
          have p1 : wr.cell? ⟨wA.heap.size, 1, none⟩ = some (.int .i64 ay) := (blk_cell hbk 1).trans rfl
          have HBF := hide hB2m
          clear hB2m hBm hbk hax hay
          go_wp2_with fail
          go_quiet (fail)
          go_wp2
          go_roundw
          case rel => exact ⟨i + 1, by omega, by go_num, below_drewN HBF.out _⟩
          case measure => simp [intOf]; omega
    · have hke : i = n := by omega
      have HBE : Hid (Below w.heap.size w wA) := hide (HB2.out.trans (hBi.mono HB2.out.size))
      clear hBi
      subst hke
      go_wp2
      go_ret
      exact ⟨rfl, HBE.out⟩
set_option maxHeartbeats 2000000 in
set_option maxRecDepth 20000 in
theorem true_any (x0 x1 x2 x3 : Int) (a : Option Addr) (len cap : Nat) (al : Option Addr) (ll cl : Nat) (w : World) (hm : len ≤ maxLen) (hrt : ∀ i, i < len → ∃ b off z, a = some ⟨b, off, none⟩ ∧ b < w.heap.size ∧ w.cell? ⟨b, off + i, none⟩ = some (.int .i64 z)) (hs : StepAt w al ll) (hml : ll ≤ maxLen) (htab : HasTab w) (h0 : 0 < w.heap.size) :
    Calls Tryz.prog 4 #[.int .i64 x0, .int .i64 x1, .slice a len cap, .int .i64 x2, .int .i64 x3, .slice al ll cl] w fun e w' => e = .returned (.bool true) ∧ Below w.heap.size w w' := by
  have HFT := hide (fits_any al ll cl w hs hml)
  unfold maxLen at hm
  by_cases hl : 30 < len
  · clear hrt hs HFT htab
    go_enter Tryz.func4, Tryz.ntmps4
    go_wp2
    go_ret
    exact ⟨rfl, Below.refl _ _⟩
  · have hl' : ¬ (30 : Int) < (len : Int) := by omega
    have HRT := hide hrt
    have HS := hide hs
    have HTB := hide htab
    clear hrt hs htab
    go_enter Tryz.func4, Tryz.ntmps4
    go_wp2_with fail
    refine HFT.out.mono ?_
    rintro e wz ⟨⟨r, rfl, hr⟩, hwz⟩
    subst wz
    clear HFT
    cases r
    · go_wp2
      go_ret
      exact ⟨rfl, Below.refl _ _⟩
    · obtain ⟨hll, hby⟩ := hr rfl
      have HBY := hide hby
      clear hr hby
      have HRN := hide (ran_any w)
      go_wp2_with (go_at_call 6; refine HRN.out.mono ?_)
      rintro e w1 ⟨rfl, hB1⟩
      have hs1 := hB1.size
      have HTL := hide (tells_any x0 x1 x2 x3 a len cap w1 (by omega) fun i hi => by
        obtain ⟨b, off, z, h1, h2, h3⟩ := HRT.out i hi
        exact ⟨b, off, z, h1, Nat.lt_of_lt_of_le h2 hB1.size, (hB1.cell (p := ⟨b, off + i, none⟩) h2).trans h3⟩)
      have HB1 := hide hB1
      clear HRN hB1 HRT
      obtain ⟨w1', w2'⟩ := pickF_in x2 18 (by decide) (by decide)
      obtain ⟨win, hwin⟩ : ∃ win, Hid (3 + (pickF x2 18).toNat = win) := ⟨_, hide rfl⟩
      obtain ⟨liar, hliar⟩ : ∃ liar, Hid ((pickF x3 4).toNat = liar) := ⟨_, hide rfl⟩
      rw [hwin.out, hliar.out] at HTL
      have hw3 : 1 ≤ win ∧ win ≤ 20 := by rw [← hwin.out]; omega
      clear hwin hliar w1' w2'
      go_wp2_with (go_at_call 7; refine HTL.out.mono ?_)
      rintro e w2 ⟨⟨N, q, E, L, rfl, hq, hL, hT⟩, hB2⟩
      have HP : Hid (PlInv w w2 N q L win liar 0) := hide ⟨HB1.out.trans (hB2.mono HB1.out.size), Nat.le_trans hs1 hq, hL, E, _, hT, ⟨SInv.new hw3.1 hw3.2, fun _ _ => ⟨rfl, rfl⟩⟩, Nat.le_refl _⟩
      clear HTL HB1 hB2 hT hq hL
      go_wp2_with fail
      go_loopw [14] (fun i wr => ∃ k : Nat, k ≤ ll ∧ i = .int .i64 k ∧ PlInv w wr N q L win liar k) (fun i _ => ll - (intOf i).toNat)
      case atStart => exact ⟨0, Nat.zero_le _, rfl, HP.out⟩
      case round =>
        clear HP
        obtain ⟨k, hk, rfl, hP⟩ := hrel
        by_cases hlt : k < ll
        · obtain ⟨b, off, X, rfl, hb, hr1, hr2, hby⟩ := HS.out.load hP.old hlt
          have HC := hide (hP.does (X := X) (by omega) HTB.out h0 hby (HBY.out k b off X hlt rfl hr1))
          have HR := hide hr2
          clear hP hr1 hr2 hby
          go_wp2_with (first
            | (refine wpList_load_mid rfl 38 _ rfl b (off + k * 29) rfl (sdL X) _ HR.out Tryz.underlying38 rfl (by rw [infoStep, sdL_len]) ?_)
            | (go_at_call 8; refine HC.out.mono ?_))
          rintro e w3 ⟨rfl, HG⟩
          go_wp2
          go_roundw
          case rel => exact ⟨k + 1, by omega, by go_num, HG.out⟩
          case measure => simp [intOf]; omega
        · have e2 : k = ll := by omega
          subst e2
          have hold := hP.old
          obtain ⟨E', A, hTA, hIA, hsl⟩ := hP.is
          have HSW := hide (saw_any N q E' L win liar (18 * k) A wr hTA hIA hP.ok (by omega))
          have HO := hide hold
          clear hP hold hTA hIA hsl
          go_wp2_with (go_at_call 15; refine HSW.out.mono ?_)
          rintro e w3 ⟨rfl, hB3⟩
          have HE := hide (HO.out.trans (hB3.mono HO.out.size))
          clear hB3
          go_wp2
          go_ret
          exact ⟨rfl, HE.out⟩
end Go.Proofs.YtaablbmgagiajaaGreatDoor
namespace Go.Proofs.YtaablbmgagiajaaGreatDoor
open Go.ChangeShapes Go.WideShapes Go.RowKit
def numAt (cs : Array Value) (i : Nat) : Int :=
  match cs[i]? with
  | some (.int _ z) => z
  | _ => 0
theorem fOf_cells (cs : Array Value) (hs : cs.size = 23) (h : ∀ i, i < 23 → ∃ z : Int, cs[i]? = some (.int .i64 z)) : cs = fCells (numAt cs) := by
  apply Array.ext_getElem?
  intro i
  by_cases hi : i < 23
  · obtain ⟨z, hz⟩ := h i hi
    rw [fCells_at _ i hi, hz]
    unfold numAt
    rw [hz]
  · rw [Array.getElem?_eq_none (by omega), Array.getElem?_eq_none (by rw [fCells_size]; omega)]
theorem cut_mid (l : List Value) (a b k n : Nat) (hk : k + n ≤ b) : ((((l.drop a).take b).drop k).take n) = (l.drop (a + k)).take n := by
  rw [List.drop_take, List.drop_drop, List.take_take, show min n (b - k) = n by omega]
section
variable {H : Type} {enc : TypeId × Value → H} {W : World} {base : Nat} {spare : Nat → Bool} {held : Bool}
theorem one_at {cs : Array Value} {i : Nat} {z : Int} (h : (cs.toList.drop i).take 1 = [.int .i64 z]) : cs[i]? = some (.int .i64 z) := by
  have := congrArg (fun l => l[0]?) h
  simpa [List.getElem?_take, List.getElem?_drop] using this
theorem int_at {cs : Array Value} {fuel i : Nat} {y : DataW H × List MemPlace} (h : DataW.trod enc Tryz.prog W base spare held fuel 3 ((cs.toList.drop i).take 1) = some y) : ∃ z : Int, cs[i]? = some (.int .i64 z) := by
  obtain ⟨z, e, _, _⟩ := DataW.trod_int Tryz.underlying3 h
  exact ⟨z, one_at e⟩
theorem ints_at8 {cs : Array Value} {fuel i : Nat} {y : DataW H × List MemPlace} (h : DataW.trod enc Tryz.prog W base spare held fuel 31 ((cs.toList.drop i).take 8) = some y) (k : Nat) (hk : k < 8) : ∃ z : Int, cs[i + k]? = some (.int .i64 z) := by
  have c1 : Tryz.prog.cellsOf 3 = 1 := by kernel_rfl
  obtain ⟨ys, m, _, _, _, hy, hz⟩ := DataW.trod_array Tryz.underlying31 h
  have hk' := hz k (by omega)
  obtain ⟨y, hy'⟩ : ∃ y, ys[k]? = some y := ⟨_, List.getElem?_eq_getElem (by omega)⟩
  rw [hy', c1, Nat.mul_one, cut_mid _ _ _ _ _ (by omega)] at hk'
  exact int_at hk'
end
end Go.Proofs.YtaablbmgagiajaaGreatDoor
namespace Go.Proofs.YtaablbmgagiajaaGreatDoor
open Go.ChangeShapes Go.WideShapes Go.RowKit Go.Deep
section
variable {H : Type} {enc : TypeId × Value → H} {W : World} {base : Nat} {spare : Nat → Bool} {held : Bool}
set_option maxRecDepth 10000 in
theorem frame_of_trod {cs : Array Value} {fuel : Nat} {x : DataW H × List MemPlace} (hsz : cs.size = 23) (hf : DataW.trod enc Tryz.prog W base spare held fuel 35 cs.toList = some x) : cs = fCells (numAt cs) := by
  have c17 : Tryz.prog.cellsOf 33 = 17 := by kernel_rfl
  have c2 : Tryz.prog.cellsOf 30 = 2 := by kernel_rfl
  have c8 : Tryz.prog.cellsOf 31 = 8 := by kernel_rfl
  have c1 : Tryz.prog.cellsOf 3 = 1 := by kernel_rfl
  obtain ⟨xs, n, _, _, _, hlen, hx⟩ := DataW.trod_struct Tryz.underlying35 hf
  have hl6 : xs.length = 6 := hlen
  obtain ⟨y0, y1, y2, y3, y4, y5, rfl⟩ := six hl6
  have h0 : DataW.trod enc Tryz.prog W base spare held n 3 ((cs.toList.drop 0).take (Tryz.prog.cellsOf 3)) = some y0 := hx 0 _ rfl
  have h1 : DataW.trod enc Tryz.prog W base spare held n 3 ((cs.toList.drop 1).take (Tryz.prog.cellsOf 3)) = some y1 := hx 1 _ rfl
  have h2 : DataW.trod enc Tryz.prog W base spare held n 3 ((cs.toList.drop 2).take (Tryz.prog.cellsOf 3)) = some y2 := hx 2 _ rfl
  have h3 : DataW.trod enc Tryz.prog W base spare held n 30 ((cs.toList.drop 3).take (Tryz.prog.cellsOf 30)) = some y3 := hx 3 _ rfl
  have h4 : DataW.trod enc Tryz.prog W base spare held n 3 ((cs.toList.drop 5).take (Tryz.prog.cellsOf 3)) = some y4 := hx 4 _ rfl
  have h5 : DataW.trod enc Tryz.prog W base spare held n 33 ((cs.toList.drop 6).take (Tryz.prog.cellsOf 33)) = some y5 := hx 5 _ rfl
  clear hx
  rw [c1] at h0 h1 h2 h4
  rw [c2] at h3
  rw [c17] at h5
  obtain ⟨xi, ni, _, _, _, hleni, hxi⟩ := DataW.trod_struct Tryz.underlying30 h3
  have hl2 : xi.length = 2 := hleni
  obtain ⟨i0, i1, rfl⟩ := two hl2
  have g0 : DataW.trod enc Tryz.prog W base spare held ni 3 ((((cs.toList.drop 3).take 2).drop 0).take (Tryz.prog.cellsOf 3)) = some i0 := hxi 0 _ rfl
  have g1 : DataW.trod enc Tryz.prog W base spare held ni 3 ((((cs.toList.drop 3).take 2).drop 1).take (Tryz.prog.cellsOf 3)) = some i1 := hxi 1 _ rfl
  rw [c1, cut_mid _ _ _ _ _ (by omega)] at g0 g1
  clear hxi
  obtain ⟨xt, nt, _, _, _, hlent, hxt⟩ := DataW.trod_struct Tryz.underlying33 h5
  have hl3 : xt.length = 3 := hlent
  obtain ⟨s0, s1, s2, rfl⟩ := three hl3
  have q0 : DataW.trod enc Tryz.prog W base spare held nt 3 ((((cs.toList.drop 6).take 17).drop 0).take (Tryz.prog.cellsOf 3)) = some s0 := hxt 0 _ rfl
  have q1 : DataW.trod enc Tryz.prog W base spare held nt 31 ((((cs.toList.drop 6).take 17).drop 1).take (Tryz.prog.cellsOf 31)) = some s1 := hxt 1 _ rfl
  have q2 : DataW.trod enc Tryz.prog W base spare held nt 31 ((((cs.toList.drop 6).take 17).drop 9).take (Tryz.prog.cellsOf 31)) = some s2 := hxt 2 _ rfl
  rw [c1, cut_mid _ _ _ _ _ (by omega)] at q0
  rw [c8, cut_mid _ _ _ _ _ (by omega)] at q1 q2
  clear hxt
  refine fOf_cells cs hsz fun i hi => ?_
  rcases (by omega : i = 0 ∨ i = 1 ∨ i = 2 ∨ i = 3 ∨ i = 4 ∨ i = 5 ∨ i = 6 ∨ (7 ≤ i ∧ i < 15) ∨ 15 ≤ i) with rfl | rfl | rfl | rfl | rfl | rfl | rfl | hj | hj
  · exact int_at h0
  · exact int_at h1
  · exact int_at h2
  · exact int_at g0
  · exact int_at g1
  · exact int_at h4
  · exact int_at q0
  · have := ints_at8 q1 (i - 7) (by omega)
    rwa [show 6 + 1 + (i - 7) = i by omega] at this
  · have := ints_at8 q2 (i - 15) (by omega)
    rwa [show 6 + 9 + (i - 15) = i by omega] at this
theorem bytes_of_trod {cs : List Value} {fuel : Nat} {x : DataW H × List MemPlace} (hf : DataW.trod enc Tryz.prog W base spare held fuel 36 cs = some x) : ∃ (a : Option Addr) (len cap : Nat) (l : List Nat), cs = [.slice a len cap] ∧ len ≤ maxLen ∧ IsB W a len cap l := by
  rcases open_ints Tryz.underlying36 Tryz.underlying5 (by kernel_rfl) hf with ⟨hcs, _⟩ | ⟨ad, n, c, zs, hcs, _, hl, hm, hz, _, hcell, hwz⟩
  · exact ⟨none, 0, 0, [], hcs, by unfold maxLen; omega, ⟨rfl, Nat.le_refl _, fun _ h => by simp at h, .inl rfl⟩⟩
  · have hzl : n ≤ zs.length := by rw [hz]; split <;> omega
    have hb : ∀ z ∈ zs, 0 ≤ z ∧ z ≤ 255 := fun z hz => bounds_u8 (hwz z hz)
    refine ⟨some ad, n, c, (zs.take n).map Int.toNat, hcs, by omega, ⟨by simp; omega, hl, fun c hc => ?_, ?_⟩⟩
    · obtain ⟨z, hz1, rfl⟩ := List.mem_map.1 hc
      have := hb z (List.mem_of_mem_take hz1)
      omega
    · by_cases h0 : n = 0
      · subst h0; exact .inl (by simp)
      · obtain ⟨b, off, rfl, hc⟩ := ints_at hcell (by omega)
        refine .inr ⟨b, off, rfl, World.block_lt_of_cell? _ _ (hc 0 (by omega)), fun k hk => ?_⟩
        have hk' : k < n := by simp at hk; omega
        have hkz : k < zs.length := by omega
        rw [hc k hkz]
        have hbk := hb _ (List.getElem_mem hkz)
        simp [List.getD, hk', hkz, Int.toNat_of_nonneg hbk.1]
theorem open_steps {a : Option Addr} {len cap : Nat} {fuel : Nat} {x : DataW H × List MemPlace} (hf : DataW.trod enc Tryz.prog W base spare held fuel 23 [.slice a len cap] = some x) : len ≤ maxLen ∧ StepAt W a len := by
  have c29 : Tryz.prog.cellsOf 38 = 29 := by kernel_rfl
  have c23 : Tryz.prog.cellsOf 35 = 23 := by kernel_rfl
  have c2 : Tryz.prog.cellsOf 30 = 2 := by kernel_rfl
  have c1 : Tryz.prog.cellsOf 3 = 1 := by kernel_rfl
  have cb : Tryz.prog.cellsOf 36 = 1 := by kernel_rfl
  rcases open_slice Tryz.underlying23 hf with ⟨hcs, _⟩ | ⟨ad, l, c, m, n, D, Pl, hcs, hb, hl, hm, hmm, _, hx⟩
  · simp at hcs
    obtain ⟨rfl, rfl, rfl⟩ := hcs
    exact ⟨by unfold maxLen; omega, fun i hi => by omega⟩
  · simp at hcs
    obtain ⟨rfl, rfl, rfl⟩ := hcs
    refine ⟨by omega, fun i hi => ?_⟩
    have each : ∀ j, j < len → ∃ (cs : List Value) (X : SD), cs.length = 29 ∧ (∀ k, k < 29 → W.cell? (ad.add (j * 29 + k)) = cs[k]?) ∧ cs = sdL X ∧ IsB W X.ba X.bl X.bc X.bs ∧ X.bl ≤ maxLen := fun j hj => by
      obtain ⟨cs, e1, e2⟩ := hx j (by rw [hmm]; split <;> omega)
      rw [c29] at e1
      obtain ⟨_, hlen, hcell⟩ := World.cells?_some e1
      obtain ⟨xs, k, _, _, _, hxl, hfi⟩ := DataW.trod_struct Tryz.underlying38 e2
      have hl6 : xs.length = 6 := hxl
      obtain ⟨y0, y1, y2, y3, y4, y5, rfl⟩ := six hl6
      have g0 : DataW.trod enc Tryz.prog W base spare held k 3 ((cs.drop 0).take (Tryz.prog.cellsOf 3)) = some y0 := hfi 0 _ rfl
      have g1 : DataW.trod enc Tryz.prog W base spare held k 3 ((cs.drop 1).take (Tryz.prog.cellsOf 3)) = some y1 := hfi 1 _ rfl
      have g2 : DataW.trod enc Tryz.prog W base spare held k 3 ((cs.drop 2).take (Tryz.prog.cellsOf 3)) = some y2 := hfi 2 _ rfl
      have g3 : DataW.trod enc Tryz.prog W base spare held k 30 ((cs.drop 3).take (Tryz.prog.cellsOf 30)) = some y3 := hfi 3 _ rfl
      have g4 : DataW.trod enc Tryz.prog W base spare held k 35 ((cs.drop 5).take (Tryz.prog.cellsOf 35)) = some y4 := hfi 4 _ rfl
      have g5 : DataW.trod enc Tryz.prog W base spare held k 36 ((cs.drop 28).take (Tryz.prog.cellsOf 36)) = some y5 := hfi 5 _ rfl
      rw [c1] at g0 g1 g2
      rw [c2] at g3
      rw [c23] at g4
      rw [cb] at g5
      clear hfi
      obtain ⟨z0, e0, _, _⟩ := DataW.trod_int Tryz.underlying3 g0
      obtain ⟨z1, e1', _, _⟩ := DataW.trod_int Tryz.underlying3 g1
      obtain ⟨z2, e2', _, _⟩ := DataW.trod_int Tryz.underlying3 g2
      obtain ⟨xi, ni, _, _, _, hleni, hxi⟩ := DataW.trod_struct Tryz.underlying30 g3
      have hl2 : xi.length = 2 := hleni
      obtain ⟨i0, i1, rfl⟩ := two hl2
      have f0 : DataW.trod enc Tryz.prog W base spare held ni 3 ((((cs.drop 3).take 2).drop 0).take (Tryz.prog.cellsOf 3)) = some i0 := hxi 0 _ rfl
      have f1 : DataW.trod enc Tryz.prog W base spare held ni 3 ((((cs.drop 3).take 2).drop 1).take (Tryz.prog.cellsOf 3)) = some i1 := hxi 1 _ rfl
      rw [c1, cut_mid _ _ _ _ _ (by omega)] at f0 f1
      obtain ⟨z3, e3, _, _⟩ := DataW.trod_int Tryz.underlying3 f0
      obtain ⟨z4, e4, _, _⟩ := DataW.trod_int Tryz.underlying3 f1
      have h23 : ((cs.drop 5).take 23).toArray.size = 23 := by simp; omega
      have hfr := frame_of_trod (cs := ((cs.drop 5).take 23).toArray) h23 (by simpa using g4)
      have e5 : (cs.drop 5).take 23 = (fCells (numAt ((cs.drop 5).take 23).toArray)).toList := by
        have := congrArg Array.toList hfr
        simpa using this
      obtain ⟨ba, bl, bc, bs, e6, hbl, hib⟩ := bytes_of_trod g5
      refine ⟨cs, ⟨z0, z1, z2, z3, z4, numAt ((cs.drop 5).take 23).toArray, ba, bl, bc, bs⟩, hlen, fun k hk => by rw [← hcell k hk, add_add], ?_, hib, hbl⟩
      have part : ∀ (i : Nat) (v : Value), (cs.drop i).take 1 = [v] → cs.drop i = v :: cs.drop (i + 1) := fun i v h => by
        cases hd : cs.drop i with
        | nil => rw [hd] at h; simp at h
        | cons u r =>
          rw [hd] at h
          simp at h
          rw [h, show cs.drop (i + 1) = r by rw [← List.drop_drop, hd]; rfl]
      have p0 := part 0 _ e0
      have p1 := part 1 _ e1'
      have p2 := part 2 _ e2'
      have p3 := part 3 _ e3
      have p4 := part 4 _ e4
      have p28 := part 28 _ e6
      have p5 : cs.drop 5 = (cs.drop 5).take 23 ++ cs.drop 28 := by
        have h := (List.take_append_drop 23 (cs.drop 5)).symm
        rw [List.drop_drop] at h
        exact h
      have p29 : cs.drop 29 = [] := List.drop_eq_nil_of_le (by omega)
      have hcs : cs = cs.drop 0 := rfl
      unfold sdL
      conv => lhs; rw [hcs, p0, p1, p2, p3, p4, p5, p28, p29, e5]
      simp
    obtain ⟨cs, X, hlen, hcell, rfl, hib, hbl⟩ := each i hi
    obtain ⟨cs0, X0, hlen0, hcell0, rfl, _, _⟩ := each 0 (by omega)
    obtain ⟨b, off, spot⟩ := ad
    have hspot : spot = none := by
      have := hcell0 0 (by omega)
      simpa [Addr.add] using World.cell?_spot this
    subst hspot
    have hc : ∀ k, k < 29 → W.cell? ⟨b, off + (i * 29 + k), none⟩ = (sdL X)[k]? := fun k hk => by rw [← hcell k hk, add_plain]
    refine ⟨b, off, X, rfl, World.block_lt_of_cell? _ _ (hc 0 (by omega)), fun j v hv => ?_, hib, hbl⟩
    have hj : j < 29 := by have := (List.getElem?_eq_some_iff.1 hv).1; rw [sdL_len] at this; exact this
    rw [show off + i * 29 + j = off + (i * 29 + j) by omega, hc j hj, hv]
end
end Go.Proofs.YtaablbmgagiajaaGreatDoor
