import Derived.Test.YtaablbmgagiajaaGreatDoorTGAI
namespace Go.Proofs.YtaablbmgagiajaaGreatDoor
open Go.RowKit Go.Deep
set_option maxHeartbeats 4000000 in
set_option maxRecDepth 20000 in
theorem setWanted_any (p q : Nat) (s : Int) (d n : Nat) (zs : List Int) (g cg M : Nat) (c v : Nat) (S : St) (w : World) (hK : CoreIs w p s (d : Int) n zs g cg M) (hS : StIs w q S) (hp : p ≠ q) (hg : g ≠ q) (hM : M ≠ q) (hset : S.set < 256) (hc : c < 4096) (hv : v < 256) :
    Calls Tryz.prog 44 #[.pointer (some ⟨p, 0, none⟩), .pointer (some ⟨q, 0, none⟩), .agg #[.int .i64 (c : Int), .int .i64 (v : Int)]] w fun e w' =>
      e = .returned (.tuple #[]) ∧ StIs w' q ⟨putTo (rt zs) (conf zs) c v S.set n, S.used, S.idle⟩ ∧ w.grownBy w' (some q) := by
  obtain ⟨f1, f8, fs1, fs2, fd1, fd2⟩ := hK.few
  have hpl := hK.plt
  have hgl := hK.glt
  have hql := hS.lt
  have hbox : ∀ i, w.cell? ⟨p, i, none⟩ = _ := fun i => blk_cell hK.blk i
  have k1 : w.cell? ⟨p, 1, none⟩ = some (.slice (some ⟨g, 0, none⟩) n cg) := hbox 1
  have hI0 : GMid w (w.alloc (.cells #[.int .i64 (c : Int), .int .i64 (v : Int)] 30)) q c v S := ⟨World.grownBy_alloc _ _ _, (Below.heap_alloc _ _ _ hql).trans hS, blk_new _ _⟩
  have HK := hide hK
  have HI0 := hide hI0
  clear hbox hK hI0 hS
  go_enter Tryz.func44, Tryz.ntmps44
  go_wp2_with fail
  clear k1
  go_loopw [15] (fun i wr => ∃ k : Nat, k ≤ n ∧ i = .int .i64 k ∧ GMid w wr q c v ⟨putTo (rt zs) (conf zs) c v S.set k, S.used, S.idle⟩) (fun i _ => n - (intOf i).toNat)
  case atStart => exact ⟨0, Nat.zero_le _, rfl, HI0.out⟩
  case round =>
    clear HI0
    obtain ⟨i, hi, rfl, hI⟩ := hrel
    by_cases hlt : i < n
    · have hi8 : i < 8 := by omega
      have hKr := HK.out.grown hp hg hM hI.old
      obtain ⟨r, hr, ⟨hr4, hr0⟩, hcr⟩ := hKr.at hlt
      obtain ⟨cf, hcf, hcf8, hcc⟩ := hKr.conAt hlt
      have k3 : wr.cell? ⟨p, 3, none⟩ = some (.slice (some ⟨M, 0, none⟩) n n) := by rw [blk_cell hKr.blk]; rfl
      clear hKr
      have x0 := hI.x0
      have x1 := hI.x1
      obtain ⟨m, hm⟩ : ∃ m, Hid (putTo (rt zs) (conf zs) c v S.set i = m) := ⟨_, hide rfl⟩
      rw [hm.out] at hI
      have hm8 : m < 256 := by rw [← hm.out]; exact putTo_lt _ _ _ _ _ _ 8 hset (by omega)
      have hhv := fun wx => chas_nat v i wx (by omega) (by omega)
      have s0 := hI.st.set
      have fs := hI.st.free 0
      have hstep : putTo (rt zs) (conf zs) c v S.set (i + 1) = if freeB r cf c v i m then m ||| 2 ^ i else m := by rw [← hm.out, ← hr.out, ← hcf.out]; rfl
      have HSTEP := hide hstep
      clear hstep
      obtain ⟨ac, hac⟩ : ∃ a, Hid (m &&& cf = a) := ⟨_, hide rfl⟩
      have e1 : bits BinOp.and IntKind.i64 (m : Int) (cf : Int) = (ac : Int) := by rw [and_nat _ _ (by omega) (by omega), hac.out]
      obtain ⟨bz, hbz⟩ : ∃ bz, Hid (wo r c = bz) := ⟨_, hide rfl⟩
      have e2 : bits BinOp.andNot IntKind.i64 (r : Int) (c : Int) = (bz : Int) := by rw [andnot_nat r c (by omega) (by omega), hbz.out]
      have hfree : freeB r cf c v i m = (v.testBit i && (ac == 0 && bz == 0)) := by unfold freeB; rw [hac.out, hbz.out]
      have HI := hide hI
      clear hI
      cases hvb : v.testBit i
      · cases hA : (ac == 0)
        · have hfr : freeB r cf c v i m = false := by rw [hfree, hvb, hA]; rfl
          have HFR := hide hfr
          rw [hvb] at hhv
          have HV := hide hhv
          have hA' : ((ac : Int) == 0) = false := by rw [nat_beq]; exact hA
          clear hfr hfree hhv hvb hA
          go_wp2_with fail
          go_quiet (fail)
          go_wp2_with (go_at_call 70; refine (unhide HV _).mono ?_; rintro e w' ⟨rfl, hw⟩; obtain rfl := hw.symm)
          go_roundw
          case rel => exact ⟨i + 1, by omega, by go_num, by rw [HSTEP.out, HFR.out]; exact HI.out.drewN _⟩
          case measure => simp [intOf]; omega
        · cases hB : (bz == 0)
          · have hfr : freeB r cf c v i m = false := by rw [hfree, hvb, hA, hB]; rfl
            have HFR := hide hfr
            rw [hvb] at hhv
            have HV := hide hhv
            have hA' : ((ac : Int) == 0) = true := by rw [nat_beq]; exact hA
            have hB' : ((bz : Int) == 0) = false := by rw [nat_beq]; exact hB
            clear hfr hfree hhv hvb hA hB
            go_wp2_with fail
            go_quiet (fail)
            go_wp2_with (go_at_call 70; refine (unhide HV _).mono ?_; rintro e w' ⟨rfl, hw⟩; obtain rfl := hw.symm)
            go_roundw
            case rel => exact ⟨i + 1, by omega, by go_num, by rw [HSTEP.out, HFR.out]; exact HI.out.drewN _⟩
            case measure => simp [intOf]; omega
          · have hfr : freeB r cf c v i m = false := by rw [hfree, hvb, hA, hB]; rfl
            have HFR := hide hfr
            rw [hvb] at hhv
            have HV := hide hhv
            have hA' : ((ac : Int) == 0) = true := by rw [nat_beq]; exact hA
            have hB' : ((bz : Int) == 0) = true := by rw [nat_beq]; exact hB
            clear hfr hfree hhv hvb hA hB
            go_wp2_with fail
            go_quiet (fail)
            go_wp2_with (go_at_call 70; refine (unhide HV _).mono ?_; rintro e w' ⟨rfl, hw⟩; obtain rfl := hw.symm)
            go_roundw
            case rel => exact ⟨i + 1, by omega, by go_num, by rw [HSTEP.out, HFR.out]; exact HI.out.drewN _⟩
            case measure => simp [intOf]; omega
      · cases hA : (ac == 0)
        · have hfr : freeB r cf c v i m = false := by rw [hfree, hvb, hA]; rfl
          have HFR := hide hfr
          rw [hvb] at hhv
          have HV := hide hhv
          have hA' : ((ac : Int) == 0) = false := by rw [nat_beq]; exact hA
          clear hfr hfree hhv hvb hA
          go_wp2_with fail
          go_quiet (fail)
          go_wp2_with (go_at_call 70; refine (unhide HV _).mono ?_; rintro e w' ⟨rfl, hw⟩; obtain rfl := hw.symm)
          go_roundw
          case rel => exact ⟨i + 1, by omega, by go_num, by rw [HSTEP.out, HFR.out]; exact HI.out.drewN _⟩
          case measure => simp [intOf]; omega
        · cases hB : (bz == 0)
          · have hfr : freeB r cf c v i m = false := by rw [hfree, hvb, hA, hB]; rfl
            have HFR := hide hfr
            rw [hvb] at hhv
            have HV := hide hhv
            have hA' : ((ac : Int) == 0) = true := by rw [nat_beq]; exact hA
            have hB' : ((bz : Int) == 0) = false := by rw [nat_beq]; exact hB
            clear hfr hfree hhv hvb hA hB
            go_wp2_with fail
            go_quiet (fail)
            go_wp2_with (go_at_call 70; refine (unhide HV _).mono ?_; rintro e w' ⟨rfl, hw⟩; obtain rfl := hw.symm)
            go_roundw
            case rel => exact ⟨i + 1, by omega, by go_num, by rw [HSTEP.out, HFR.out]; exact HI.out.drewN _⟩
            case measure => simp [intOf]; omega
          · have hfr : freeB r cf c v i m = true := by rw [hfree, hvb, hA, hB]; rfl
            have HFR := hide hfr
            rw [hvb] at hhv
            have HV := hide hhv
            have hA' : ((ac : Int) == 0) = true := by rw [nat_beq]; exact hA
            have hB' : ((bz : Int) == 0) = true := by rw [nat_beq]; exact hB
            clear hfr hfree hhv hvb hA hB
            go_wp2_with fail
            go_quiet (fail)
            go_wp2_with (go_at_call 70; refine (unhide HV _).mono ?_; rintro e w' ⟨rfl, hw⟩; obtain rfl := hw.symm)
            have hI4 := HI.out.drewN nq
            clear s0 fs x0 x1 k3 hcc hcr e1 e2
            generalize wr.drewN nq = w4 at hI4 ⊢
            have s0 := hI4.st.set
            have fs := hI4.st.free 0
            have e4 : bits BinOp.or IntKind.i64 (m : Int) (wrap64 (2 ^ i)) = ((m ||| 2 ^ i : Nat) : Int) := by rw [wrap_two_pow i (by omega), or_nat _ _ (by omega) (two_pow_lt i (by omega))]
            obtain ⟨m2, hm2⟩ : ∃ m2, Hid (m ||| 2 ^ i = m2) := ⟨_, hide rfl⟩
            rw [hm2.out] at e4
            have HI4 := hide hI4
            clear hI4
            go_region
            all_goals go_wp2
            go_roundw
            case rel => exact ⟨i + 1, by omega, by go_num, by rw [HSTEP.out, HFR.out, if_pos rfl, hm2.out]; exact (HI4.out.putSet hql m2).drew⟩
            case measure => simp [intOf]; omega
    · have hin : i = n := by omega
      subst hin
      clear hlt
      go_wp2
      go_end0
      exact ⟨rfl, hI.st, hI.old⟩
end Go.Proofs.YtaablbmgagiajaaGreatDoor
