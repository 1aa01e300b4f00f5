import Derived.Test.YtaablbmgagiajaaGreatDoorRGBN
namespace Go.Proofs.YtaablbmgagiajaaGreatDoor
open Go.RowKit Go.Deep
theorem or_top (x : Int) : ∃ what : Nat, bits .or .u32 (IntKind.u32.wrap x) 2147483648 = (what : Int) ∧ what < 4294967296 ∧ what ≠ 0 := by
  refine ⟨(BitVec.ofInt 32 (IntKind.u32.wrap x) ||| BitVec.ofInt 32 2147483648).toNat, ?_, (BitVec.ofInt 32 (IntKind.u32.wrap x) ||| BitVec.ofInt 32 2147483648).isLt, fun e => ?_⟩
  · show IntKind.u32.wrap (((BitVec.ofInt 32 _ ||| BitVec.ofInt 32 _).toNat : Nat) : Int) = _
    have := (BitVec.ofInt 32 (IntKind.u32.wrap x) ||| BitVec.ofInt 32 2147483648).isLt
    generalize (BitVec.ofInt 32 (IntKind.u32.wrap x) ||| BitVec.ofInt 32 2147483648).toNat = n at this ⊢
    simp [IntKind.wrap, IntKind.bits, IntKind.signed]
    omega
  · have h : (BitVec.ofInt 32 (IntKind.u32.wrap x) ||| BitVec.ofInt 32 2147483648).toNat.testBit 31 = true := by
      rw [BitVec.toNat_or, Nat.testBit_or]
      have : (BitVec.ofInt 32 2147483648).toNat.testBit 31 = true := by decide
      rw [this, Bool.or_true]
    rw [e] at h
    simp at h
set_option maxHeartbeats 1000000 in
set_option maxRecDepth 20000 in
theorem does_6 (N q : Nat) (E : TC) (L : RC) (win liar T : Nat) (A : TS) (w : World) (X : SD) (h : TaIs w N q E L win liar A) (hI : TlInv L liar win T A) (hL : LOk L) (htab : HasTab w) (hwh : X.wh = 6) :
    Calls Tryz.prog 8 #[.pointer (some ⟨q, 0, none⟩), .agg (sdL X).toArray] w fun e w' => e = .returned (.tuple #[]) ∧ ∃ A', StepTo L win liar X.wh A A' ∧ TaGo w w' N q E L win liar A' := by
  obtain ⟨W, hW⟩ : ∃ W, Hid (w.alloc (.cells (sdL X).toArray 38) = W) := ⟨_, hide rfl⟩
  have hBW : Below w.heap.size w W := by rw [← hW.out]; exact (Below.refl _ _).alloc (Nat.le_refl _) _
  have HDO : Hid (DoIn W w N q E L win liar A X) := hide ⟨hBW, h.below hBW, by rw [← hW.out]; exact blk_new _ _⟩
  have x1 := HDO.out.x1
  have c0 := HDO.out.c0
  have HPK := hide fun wx => pick_any X.k 3 wx (by decide) (by decide)
  obtain ⟨k1, k2⟩ := pickF_in X.k 3 (by decide) (by decide)
  obtain ⟨k, hk⟩ := Int.eq_ofNat_of_zero_le k1
  rw [hk] at HPK k2
  have hk3 : k < 3 := by omega
  obtain ⟨cs, hcs⟩ : ∃ cs, Hid ((sdL X).toArray = cs) := ⟨_, hide rfl⟩
  rw [hcs.out] at hW ⊢
  have hle := hI.inv.many
  have HI := hide hI
  have HL := hide hL
  have HWH := hide hwh
  have hq0 := h.lt
  clear h hBW hk k1 hwh hI hL
  go_enter Tryz.func8, Tryz.ntmps8
  go_wp2_with fail
  rw [show w.alloc (.cells cs 38) = W from hW.out]
  clear hW hcs
  go_quiet ((go_at_call 22; exact Calls.quiet_of_same (unhide HPK _)))
  have HV : Hid (DoIn (W.drewN nq) w N q E L win liar A X) := hide (HDO.out.below (below_drewN (Below.refl _ _) nq))
  generalize W.drewN nq = V at HV ⊢
  clear HDO x1 c0 HPK
  have x2 := HV.out.x2
  have x0 := HV.out.x0
  have hVl : w.heap.size < V.heap.size := blk_lt HV.out.box
  rw [HWH.out] at x0
  have HMN := hide (many_any N E.D L win A.S V HV.out.ta.sy)
  have HPN := hide fun wx (hp : 0 < (A.S.net.length : Int)) => pick_any X.n (A.S.net.length : Int) wx hp (by omega)
  have hpin := fun hp => pickF_in X.n (A.S.net.length : Int) hp (by omega)
  obtain ⟨m, hm⟩ : ∃ m, Hid (A.S.net.length = m) := ⟨_, hide rfl⟩
  rw [hm.out] at HMN HPN hpin hle
  have hql := HV.out.ta.lt
  go_wp2_with fail
  refine HMN.out.mono ?_
  rintro e wz ⟨rfl, hwz⟩
  subst wz
  by_cases hm0 : m = 0
  · have hm0' : ¬ (0 : Int) < (m : Int) := by omega
    clear HPN hpin
    obtain ⟨a1, a2⟩ := pickF_in X.n 700 (by decide) (by decide)
    obtain ⟨a, ha⟩ := Int.eq_ofNat_of_zero_le a1
    have HPA := hide fun wx => pick_any X.n 700 wx (by decide) (by decide)
    rw [ha] at HPA a2
    obtain ⟨what, hwh, hw1, hw2⟩ := or_top X.x
    obtain ⟨t, mm, hwt⟩ := low_bit what hw2
    have HC : Hid (Calls Tryz.prog 30 #[.pointer (some ⟨E.D.p, 0, none⟩), .int .i64 ((0 : Nat) : Int), .int .i64 (a : Int), .int .u32 (what : Int)] V.drew fun e w2 => (∃ v, e = .returned v) ∧ (w2.cell? ⟨w.heap.size, 2, none⟩ = some (.int .i64 X.n) ∧ w2.cell? ⟨w.heap.size, 3, none⟩ = some (.int .i64 X.x)) ∧ ∃ A', StepTo L win liar X.wh A A' ∧ TaGo w w2 N q E L win liar A') := hide (by
      have hD := HV.out.below (Below.refl _ _).drew
      refine (spoil_any N E.D L win A.S V.drew 0 a what t mm hD.ta.sy (fun p hp => (HI.out.inv.net p hp).len) hw1 hwt (by omega) (htab.below hD.old (by omega))).mono ?_
      rintro e w2 ⟨he, S', hg, hS⟩
      refine ⟨he, ⟨hD.stay hg 2, hD.stay hg 3⟩, ?_⟩
      rcases hS with rfl | ⟨s1, s2, s3, rfl⟩
      · exact ⟨_, StepTo.same A, hD.went hg⟩
      · exact ⟨_, StepTo.spoil A 0 a what t mm s1 s2 hw1 hwt s3, hD.went hg⟩)
    rw [show ((0 : Nat) : Int) = 0 from rfl] at HC
    have x3 := HV.out.x3
    clear hwt htab
    go_wp2_with fail
    refine wp_region_held_drew (S := fun w' => w'.cell? ⟨w.heap.size, 2, none⟩ = some (.int .i64 X.n) ∧ w'.cell? ⟨w.heap.size, 3, none⟩ = some (.int .i64 X.x)) (by kernel_rfl) ⟨x2, x3⟩ (fun hHeld => ?_)
    refine wpAnyH_take (i := 0) (oi := _) (v := .pointer (some ⟨E.D.p, 0, none⟩)) rfl (by kernel_rfl) (by kernel_rfl) (by kernel_rfl) (fun _ _ _ h => h) (Or.inl ⟨by rfl, fun w _ => by go_simp⟩) hHeld ?_
    refine wpAnyH_take (i := 1) (oi := _) (v := .int .i64 (0 : Int)) rfl (by kernel_rfl) (by kernel_rfl) (by kernel_rfl) (fun _ _ _ h => h) (Or.inl ⟨by rfl, fun w _ => by go_simp⟩) hHeld ?_
    refine wpAnyH_take (i := 2) (oi := _) (v := .pointer (some ⟨w.heap.size, 2, none⟩)) rfl (by kernel_rfl) (by kernel_rfl) (by kernel_rfl) (fun _ _ _ h => h) (Or.inl ⟨by rfl, fun w _ => by go_simp⟩) hHeld ?_
    refine wpAnyH_take (i := 3) (oi := _) (v := .int .i64 X.n) rfl (by kernel_rfl) (by kernel_rfl) (by kernel_rfl) (fun _ _ _ h => h) (Or.inl ⟨by rfl, fun w h => by obtain ⟨h1, h2⟩ := h; go_simp⟩) hHeld ?_
    refine wpAnyH_take (i := 5) (oi := _) (v := .pointer (some ⟨w.heap.size, 3, none⟩)) rfl (by kernel_rfl) (by kernel_rfl) (by kernel_rfl) (fun _ _ _ h => h) (Or.inl ⟨by rfl, fun w _ => by go_simp⟩) hHeld ?_
    refine wpAnyH_take (i := 6) (oi := _) (v := .pointer (some ⟨w.heap.size, 3, none⟩)) rfl (by kernel_rfl) (by kernel_rfl) (by kernel_rfl) (fun _ _ _ h => h) (Or.inl ⟨by rfl, fun w _ => by go_simp⟩) hHeld ?_
    refine wpAnyH_take (i := 7) (oi := _) (v := .int .i64 X.x) rfl (by kernel_rfl) (by kernel_rfl) (by kernel_rfl) (fun _ _ _ h => h) (Or.inl ⟨by rfl, fun w h => by obtain ⟨h1, h2⟩ := h; go_simp⟩) hHeld ?_
    refine wpAnyH_take (i := 8) (oi := _) (v := .int .u32 (IntKind.u32.wrap X.x)) rfl (by kernel_rfl) (by kernel_rfl) (by kernel_rfl) (fun _ _ _ h => h) (Or.inl ⟨by rfl, fun w _ => by go_simp⟩) hHeld ?_
    refine wpAnyH_take (i := 9) (oi := _) (v := .int .u32 (what : Int)) rfl (by kernel_rfl) (by kernel_rfl) (by kernel_rfl) (fun _ _ _ h => h) (Or.inl ⟨by rfl, fun w _ => by go_simp⟩) hHeld ?_
    refine wpAnyH_ready (rs := [4]) (by kernel_rfl) (by simp) ?_
    refine AllReadyH.cons (o := _) rfl (fun K hK => ?_) AllReadyH.nil
    rw [if_pos (by rfl)]
    go_simp
    go_at_call 22
    refine (unhide HPA _).mono ?_
    rintro e w5 ⟨rfl, rfl⟩
    dsimp only
    refine hK.out _ _ ⟨x2, x3⟩ (fun hHeld => ?_)
    clear hK K
    refine wpAnyH_ready (rs := [10]) (by kernel_rfl) (by simp) ?_
    refine AllReadyH.cons (o := _) rfl (fun K hK => ?_) AllReadyH.nil
    rw [if_pos (by rfl)]
    go_simp
    go_at_call 30
    refine HC.out.mono ?_
    rintro e w6 ⟨⟨ev, rfl⟩, hx6, HS6⟩
    dsimp only
    have HG := hide HS6
    clear HS6
    refine hK.out _ _ hx6 (fun hHeld => ?_)
    clear hK K
    refine wpAnyH_done (by kernel_rfl) ?_ _
    go_wp2_with fail
    go_end0
    exact ⟨rfl, HG.out⟩
  · have hm0' : (0 : Int) < (m : Int) := by omega
    obtain ⟨j1, j2⟩ := hpin hm0'
    obtain ⟨i, hi⟩ := Int.eq_ofNat_of_zero_le j1
    have HPI := hide fun wx => HPN.out wx hm0'
    rw [hi] at HPI j2
    have hil : i < m := by omega
    clear HPN hpin j1 hi
    go_wp2_with (go_at_call 22; refine (unhide HPI _).mono ?_)
    rintro e wz ⟨rfl, hwz⟩
    subst wz
    obtain ⟨a1, a2⟩ := pickF_in X.n 700 (by decide) (by decide)
    obtain ⟨a, ha⟩ := Int.eq_ofNat_of_zero_le a1
    have HPA := hide fun wx => pick_any X.n 700 wx (by decide) (by decide)
    rw [ha] at HPA a2
    obtain ⟨what, hwh, hw1, hw2⟩ := or_top X.x
    obtain ⟨t, mm, hwt⟩ := low_bit what hw2
    have HC : Hid (Calls Tryz.prog 30 #[.pointer (some ⟨E.D.p, 0, none⟩), .int .i64 (i : Int), .int .i64 (a : Int), .int .u32 (what : Int)] V.drew fun e w2 => (∃ v, e = .returned v) ∧ (w2.cell? ⟨w.heap.size, 2, none⟩ = some (.int .i64 X.n) ∧ w2.cell? ⟨w.heap.size, 3, none⟩ = some (.int .i64 X.x)) ∧ ∃ A', StepTo L win liar X.wh A A' ∧ TaGo w w2 N q E L win liar A') := hide (by
      have hD := HV.out.below (Below.refl _ _).drew
      refine (spoil_any N E.D L win A.S V.drew i a what t mm hD.ta.sy (fun p hp => (HI.out.inv.net p hp).len) hw1 hwt (by omega) (htab.below hD.old (by omega))).mono ?_
      rintro e w2 ⟨he, S', hg, hS⟩
      refine ⟨he, ⟨hD.stay hg 2, hD.stay hg 3⟩, ?_⟩
      rcases hS with rfl | ⟨s1, s2, s3, rfl⟩
      · exact ⟨_, StepTo.same A, hD.went hg⟩
      · exact ⟨_, StepTo.spoil A i a what t mm s1 s2 hw1 hwt s3, hD.went hg⟩)
    have x3 := HV.out.x3
    clear hwt htab
    go_wp2_with fail
    refine wp_region_held_drew (S := fun w' => w'.cell? ⟨w.heap.size, 2, none⟩ = some (.int .i64 X.n) ∧ w'.cell? ⟨w.heap.size, 3, none⟩ = some (.int .i64 X.x)) (by kernel_rfl) ⟨x2, x3⟩ (fun hHeld => ?_)
    refine wpAnyH_take (i := 0) (oi := _) (v := .pointer (some ⟨E.D.p, 0, none⟩)) rfl (by kernel_rfl) (by kernel_rfl) (by kernel_rfl) (fun _ _ _ h => h) (Or.inl ⟨by rfl, fun w _ => by go_simp⟩) hHeld ?_
    refine wpAnyH_take (i := 1) (oi := _) (v := .int .i64 (i : Int)) rfl (by kernel_rfl) (by kernel_rfl) (by kernel_rfl) (fun _ _ _ h => h) (Or.inl ⟨by rfl, fun w _ => by go_simp⟩) hHeld ?_
    refine wpAnyH_take (i := 2) (oi := _) (v := .pointer (some ⟨w.heap.size, 2, none⟩)) rfl (by kernel_rfl) (by kernel_rfl) (by kernel_rfl) (fun _ _ _ h => h) (Or.inl ⟨by rfl, fun w _ => by go_simp⟩) hHeld ?_
    refine wpAnyH_take (i := 3) (oi := _) (v := .int .i64 X.n) rfl (by kernel_rfl) (by kernel_rfl) (by kernel_rfl) (fun _ _ _ h => h) (Or.inl ⟨by rfl, fun w h => by obtain ⟨h1, h2⟩ := h; go_simp⟩) hHeld ?_
    refine wpAnyH_take (i := 5) (oi := _) (v := .pointer (some ⟨w.heap.size, 3, none⟩)) rfl (by kernel_rfl) (by kernel_rfl) (by kernel_rfl) (fun _ _ _ h => h) (Or.inl ⟨by rfl, fun w _ => by go_simp⟩) hHeld ?_
    refine wpAnyH_take (i := 6) (oi := _) (v := .pointer (some ⟨w.heap.size, 3, none⟩)) rfl (by kernel_rfl) (by kernel_rfl) (by kernel_rfl) (fun _ _ _ h => h) (Or.inl ⟨by rfl, fun w _ => by go_simp⟩) hHeld ?_
    refine wpAnyH_take (i := 7) (oi := _) (v := .int .i64 X.x) rfl (by kernel_rfl) (by kernel_rfl) (by kernel_rfl) (fun _ _ _ h => h) (Or.inl ⟨by rfl, fun w h => by obtain ⟨h1, h2⟩ := h; go_simp⟩) hHeld ?_
    refine wpAnyH_take (i := 8) (oi := _) (v := .int .u32 (IntKind.u32.wrap X.x)) rfl (by kernel_rfl) (by kernel_rfl) (by kernel_rfl) (fun _ _ _ h => h) (Or.inl ⟨by rfl, fun w _ => by go_simp⟩) hHeld ?_
    refine wpAnyH_take (i := 9) (oi := _) (v := .int .u32 (what : Int)) rfl (by kernel_rfl) (by kernel_rfl) (by kernel_rfl) (fun _ _ _ h => h) (Or.inl ⟨by rfl, fun w _ => by go_simp⟩) hHeld ?_
    refine wpAnyH_ready (rs := [4]) (by kernel_rfl) (by simp) ?_
    refine AllReadyH.cons (o := _) rfl (fun K hK => ?_) AllReadyH.nil
    rw [if_pos (by rfl)]
    go_simp
    go_at_call 22
    refine (unhide HPA _).mono ?_
    rintro e w5 ⟨rfl, rfl⟩
    dsimp only
    refine hK.out _ _ ⟨x2, x3⟩ (fun hHeld => ?_)
    clear hK K
    refine wpAnyH_ready (rs := [10]) (by kernel_rfl) (by simp) ?_
    refine AllReadyH.cons (o := _) rfl (fun K hK => ?_) AllReadyH.nil
    rw [if_pos (by rfl)]
    go_simp
    go_at_call 30
    refine HC.out.mono ?_
    rintro e w6 ⟨⟨ev, rfl⟩, hx6, HS6⟩
    dsimp only
    have HG := hide HS6
    clear HS6
    refine hK.out _ _ hx6 (fun hHeld => ?_)
    clear hK K
    refine wpAnyH_done (by kernel_rfl) ?_ _
    go_wp2_with fail
    go_end0
    exact ⟨rfl, HG.out⟩
end Go.Proofs.YtaablbmgagiajaaGreatDoor
