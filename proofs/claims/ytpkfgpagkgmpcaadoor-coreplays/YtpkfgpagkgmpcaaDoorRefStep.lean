/- The contract of the reference's Step. -/
import Derived.Test.YtpkfgpagkgmpcaaDoorRefInv
import Derived.Test.YtpkfgpagkgmpcaaDoorRefHit
import Derived.Deep.QuietTactic
import Derived.BigQuiet
import Derived.Laws.EntriesVeiled
namespace Go.Proofs.YtpkfgpagkgmpcaaDoor
open Go.RowKit Go.Deep

theorem PInv.reset2 {w wr : World} {N pr sn d n b off cp gr cr : Nat} {bm0 bm : Nat → Nat} {zs : List Int} {c v : Nat} {X : St} (h : PInv w wr N pr sn d n b off cp gr cr bm0 bm zs c v X) (hN : N = w.heap.size) (hf : Far N gr n b bm0) {i : Nat} (hi : i < n) :
    PInv w ((((wr.setCell ⟨gr, i * 3, none⟩ (.bool false)).setCell ⟨gr, i * 3 + 1, none⟩ (.map (some wr.heap.size))).setCell ⟨gr, i * 3 + 2, none⟩ (.int .i64 0)).alloc (.map #[] 0)) N pr sn d n b off cp gr cr bm0 (upd bm i wr.heap.size) zs c v ⟨wo X.set (2 ^ i), upd X.used i 0, upd X.idle i 0⟩ := by
  have hg := h.ref.glt
  have := h.reset hN hf hi
  rw [World.setCell_alloc_past _ _ _ _ hg, World.setCell_alloc_past _ _ _ _ (by simpa [World.setCell] using hg), World.setCell_alloc_past _ _ _ _ (by simpa [World.setCell] using hg)] at this
  exact this

set_option maxHeartbeats 8000000 in
set_option maxRecDepth 30000 in
theorem refStep_any (pr sn d n b off cp gr cr : Nat) (bm0 : Nat → Nat) (zs : List Int) (c v : Nat) (S : St) (B : Int) (w : World) (h : RefIs w pr (sn : Int) (d : Int) n b off cp gr cr bm0 S) (hrow : Row w b off zs) (hf : Far w.heap.size gr n b bm0) (hG : Good (rt zs) n B S) (hB : B ≤ 1000000) (hn : zs.length = n) (hcp : n ≤ cp) (hok : checkF (sn : Int) zs (d : Int) = (0, -1)) (hc : c < 4096) (hv : v < 256) :
    Calls Tryd.prog 19 #[.pointer (some ⟨pr, 0, none⟩), .agg #[.int .i64 (c : Int), .int .i64 (v : Int)]] w fun e w' =>
      e = .returned (.int .i64 ((outF (rt zs) (conf zs) n d c v S : Nat) : Int)) ∧ Turns w w' gr n bm0 ∧ ∃ bm, RefIs w' pr (sn : Int) (d : Int) n b off cp gr cr bm (nextF (rt zs) (conf zs) n d c v S) ∧ ∀ i, i < n → (∃ j, j < n ∧ bm i = bm0 j) ∨ w.heap.size ≤ bm i := by
  have hr0 := range_pos hok
  unfold rangeB at hr0
  simp only [Bool.and_eq_true, inB_iff] at hr0
  obtain ⟨⟨⟨bs1, bs2⟩, b21, b22⟩, bd1, bd2⟩ := hr0
  have hn8 : n ≤ 8 := by omega
  have hn1 : 1 ≤ n := by omega
  have hsn : sn ≤ 12 := by omega
  clear b21 b22 bs1 bs2 bd1
  have hI0 : PInv w (((w.alloc (.cells #[.pointer (some ⟨pr, 0, none⟩)] 53)).alloc (.cells #[.int .i64 (c : Int), .int .i64 (v : Int)] 26)).alloc (.cells #[.func (Fn.func 40) #[] #[.pointer (some ⟨w.heap.size, 0, none⟩), .pointer (some ⟨w.heap.size + 1, 0, none⟩)]] 87)) w.heap.size pr sn d n b off cp gr cr bm0 bm0 zs c v S := by
    have hBl : Below w.heap.size w (((w.alloc (.cells #[.pointer (some ⟨pr, 0, none⟩)] 53)).alloc (.cells #[.int .i64 (c : Int), .int .i64 (v : Int)] 26)).alloc (.cells #[.func (Fn.func 40) #[] #[.pointer (some ⟨w.heap.size, 0, none⟩), .pointer (some ⟨w.heap.size + 1, 0, none⟩)]] 87)) := (((Below.refl _ _).alloc (Nat.le_refl _) _).alloc (by simp) _).alloc (by simp; omega) _
    refine ⟨(Turns.refl _ _ _ _).below hBl, h.below hBl, fun i hi => .inl ⟨i, hi, rfl⟩, ?_, ?_, ?_, hrow.below hf.bN hBl⟩
    · exact (Below.heap_alloc _ _ _ (by simp; omega)).trans ((Below.heap_alloc _ _ _ (by simp)).trans (blk_new _ _))
    · refine (Below.heap_alloc _ _ _ (by simp)).trans ?_
      have := blk_new (w.alloc (.cells #[.pointer (some ⟨pr, 0, none⟩)] 53)) (.cells #[.int .i64 (c : Int), .int .i64 (v : Int)] 26)
      simpa using this
    · have := blk_new ((w.alloc (.cells #[.pointer (some ⟨pr, 0, none⟩)] 53)).alloc (.cells #[.int .i64 (c : Int), .int .i64 (v : Int)] 26)) (.cells #[.func (Fn.func 40) #[] #[.pointer (some ⟨w.heap.size, 0, none⟩), .pointer (some ⟨w.heap.size + 1, 0, none⟩)]] 87)
      simpa using this
  have p3 : w.cell? ⟨pr, 3, none⟩ = some (.slice (some ⟨gr, 0, none⟩) n cr) := (blk_cell h.blk 3).trans rfl
  have hpl := h.plt
  have hpl1 : pr < w.heap.size + 1 := by omega
  have hpl2 : pr < w.heap.size + 1 + 1 := by omega
  have hcr := h.cap
  have HI0 := hide hI0
  have HG := hide hG
  have HF := hide hf
  have HOK := hide hok
  clear hI0 hG hf h hrow hok
  go_enter Tryd.func19, Tryd.ntmps19
  go_wp2
  clear p3
  go_loopw [22] (fun i wr => ∃ k : Nat, k ≤ n ∧ i = .int .i64 k ∧ ∃ bm, PInv w wr w.heap.size pr sn d n b off cp gr cr bm0 bm zs c v (letTo (rt zs) d c v S k)) (fun i _ => n - (intOf i).toNat)
  case atStart => exact ⟨0, Nat.zero_le _, rfl, _, HI0.out⟩
  case round =>
    clear HI0
    obtain ⟨i, hi, rfl, bm, hI⟩ := hrel
    by_cases hlt : i < n
    · obtain ⟨q0, q1, q2⟩ := hI.ref.at hlt
      have pc : wr.cell? ⟨w.heap.size, 0, none⟩ = some (.pointer (some ⟨pr, 0, none⟩)) := (blk_cell hI.x0 0).trans rfl
      have p3 : wr.cell? ⟨pr, 3, none⟩ = some (.slice (some ⟨gr, 0, none⟩) n cr) := (blk_cell hI.ref.blk 3).trans rfl
      have p0 : wr.cell? ⟨pr, 0, none⟩ = some (.int .i64 (sn : Int)) := (blk_cell hI.ref.blk 0).trans rfl
      obtain ⟨T, hT⟩ : ∃ T, Hid (letTo (rt zs) d c v S i = T) := ⟨_, hide rfl⟩
      rw [hT.out] at hI q0 q2
      have hstep : letTo (rt zs) d c v S (i + 1) = letOne (rt zs i) d c v i T := by rw [← hT.out]; rfl
      have HSTEP := hide hstep
      have HI := hide hI
      clear hstep hI
      cases hb : T.set.testBit i
      · rw [hb] at q0
        have HBB := hide hb
        clear hb
        go_wp2
        go_roundw
        case rel => exact ⟨i + 1, by omega, by go_num, bm, by rw [HSTEP.out, letOne, HBB.out]; exact HI.out⟩
        case measure => simp [intOf]; omega
      · rw [hb] at q0
        have HBB := hide hb
        clear hb
        obtain ⟨hz1, hz2, hz3, hz4⟩ := rt_in HOK.out (show i < zs.length by omega)
        rw [Int.toNat_natCast] at hz2
        obtain ⟨r, hr⟩ : ∃ r, Hid (rt zs i = r) := ⟨_, hide rfl⟩
        rw [hr.out] at hz2 hz3 hz4 HSTEP
        obtain ⟨U, hU⟩ : ∃ U, Hid (T.used i = U) := ⟨_, hide rfl⟩
        go_wp2
        clear q0 q1 pc p3 p0
        go_loopw [41] (fun j wi => ∃ k : Nat, k ≤ sn ∧ j = .int .i64 k ∧ PInv w wi w.heap.size pr sn d n b off cp gr cr bm0 bm zs c v ⟨T.set, upd T.used i (uTo r c U k), T.idle⟩) (fun j _ => sn - (intOf j).toNat)
        case atStart => exact ⟨0, Nat.zero_le _, rfl, by have := HI.out; rw [show uTo r c U 0 = T.used i from hU.out.symm]; rw [show upd T.used i (T.used i) = T.used by funext k; unfold upd; split <;> simp_all]; exact this⟩
        case round =>
          clear HI
          obtain ⟨k, hk, rfl, hI⟩ := hrel
          have pc : wr.cell? ⟨w.heap.size, 0, none⟩ = some (.pointer (some ⟨pr, 0, none⟩)) := (blk_cell hI.x0 0).trans rfl
          by_cases hlk : k < sn
          · have sees := hI.sees HOK.out hn hlt
            rw [hr.out] at sees
            obtain ⟨_, _, p1, rc, xc⟩ := sees
            have q1 := (hI.ref.at hlt).2.1
            have hset := hI.ref.maps i hlt
            rw [show (⟨T.set, upd T.used i (uTo r c U k), T.idle⟩ : St).used i = uTo r c U k from upd_same _ _ _] at hset
            have h1 := fun wx => has_nat r k wx (by omega) (by omega)
            have h2 := fun wx => has_nat c k wx (by omega) (by omega)
            have HSET := hide hset
            have HI := hide hI
            clear hset hI
            cases hrb : r.testBit k
            · have us : uTo r c U (k + 1) = uTo r c U k := by rw [uTo, hrb]; rfl
              rw [hrb] at h1
              have H1 := hide h1
              have H2 := hide h2
              have US := hide us
              clear h1 h2 us hrb
              go_wp2_with (first
              | (go_at_call_of 35 (Value.int IntKind.i64 (r : Int)); refine (unhide H1 _).mono ?_; rintro e w' ⟨rfl, hw⟩; obtain rfl := hw.symm)
              | (go_at_call 35; refine (unhide H2 _).mono ?_; rintro e w' ⟨rfl, hw⟩; obtain rfl := hw.symm))
              go_roundw
              case rel => exact ⟨k + 1, by omega, by go_num, by rw [US.out]; exact HI.out⟩
              case measure => simp [intOf]; omega
            · cases hcb : c.testBit k
              · have us : uTo r c U (k + 1) = uTo r c U k ||| 2 ^ k := by rw [uTo, hrb, hcb]; rfl
                rw [hrb] at h1
                rw [hcb] at h2
                have H1 := hide h1
                have H2 := hide h2
                have US := hide us
                clear h1 h2 us hrb hcb
                go_wp2_with (first
              | (go_at_call_of 35 (Value.int IntKind.i64 (r : Int)); refine (unhide H1 _).mono ?_; rintro e w' ⟨rfl, hw⟩; obtain rfl := hw.symm)
              | (go_at_call 35; refine (unhide H2 _).mono ?_; rintro e w' ⟨rfl, hw⟩; obtain rfl := hw.symm)
              | (at_mapUpdate; refine wpList_put_set rfl _ _ _ rfl (bm i) (uTo r c U k) k (by omega) rfl rfl rfl HSET.out ?_; intro w5 hs5 hg5))
                go_roundw
                case rel => exact ⟨k + 1, by omega, by go_num, by rw [US.out]; have := HI.out.putMap rfl HF.out hlt (uTo r c U k ||| 2 ^ k) hg5 hs5; rw [upd_upd] at this; exact this⟩
                case measure => simp [intOf]; omega
              · have us : uTo r c U (k + 1) = uTo r c U k := by rw [uTo, hrb, hcb]; rfl
                rw [hrb] at h1
                rw [hcb] at h2
                have H1 := hide h1
                have H2 := hide h2
                have US := hide us
                clear h1 h2 us hrb hcb
                go_wp2_with (first
              | (go_at_call_of 35 (Value.int IntKind.i64 (r : Int)); refine (unhide H1 _).mono ?_; rintro e w' ⟨rfl, hw⟩; obtain rfl := hw.symm)
              | (go_at_call 35; refine (unhide H2 _).mono ?_; rintro e w' ⟨rfl, hw⟩; obtain rfl := hw.symm))
                go_roundw
                case rel => exact ⟨k + 1, by omega, by go_num, by rw [US.out]; exact HI.out⟩
                case measure => simp [intOf]; omega
          · have hks : k = sn := by omega
            subst hks
            rw [uTo_all r c U k hz2] at hI
            obtain ⟨u1, hu1⟩ : ∃ u1, Hid (usedOf r c U = u1) := ⟨_, hide rfl⟩
            rw [hu1.out] at hI
            have q2 := (hI.ref.at hlt).2.2
            have fq := hI.ref.free (i * 3 + 2)
            obtain ⟨t0, ht0⟩ : ∃ t0, Hid (T.idle i = t0) := ⟨_, hide rfl⟩
            have hTi : T.idle i = S.idle i := by rw [← hT.out]; exact (letTo_other _ _ _ _ _ _ _ (Nat.le_refl _)).2.2
            have hTi2 := HG.out.idle i
            rw [← hTi, ht0.out] at hTi2
            obtain ⟨hTi3, hTi4⟩ := hTi2
            have hUs : wo U r = 0 := by rw [← hU.out, ← hr.out, ← hT.out, (letTo_other _ _ _ _ _ _ _ (Nat.le_refl _)).2.1]; exact HG.out.used i hlt
            have hus : wo u1 r = 0 := by rw [← hu1.out]; exact or_sub hUs (wo_sub r c)
            have hu14 : u1 < 2 ^ 12 := by
              rw [← hu1.out]
              refine usedOf_lt hz3 ?_
              have e : U &&& r = U := by
                apply Nat.eq_of_testBit_eq
                intro j
                rw [Nat.testBit_and]
                cases hj : U.testBit j
                · rfl
                · rw [wo_zero.1 hUs j hj]; rfl
              rw [← e]
              exact Nat.lt_of_le_of_lt Nat.and_le_right hz3
            rw [show (⟨T.set, upd T.used i u1, T.idle⟩ : St).idle i = t0 from ht0.out] at q2
            have xv : wr.cell? ⟨w.heap.size + 1, 1, none⟩ = some (.int .i64 (v : Int)) := (blk_cell hI.x1 1).trans rfl
            have hgN := HF.out.gN
            have HI := hide hI
            clear hI hTi hlk
            go_wp2_with fail
            refine (has_nat v i _ (by omega) (by omega)).mono ?_
            rintro e w2 ⟨rfl, hw⟩
            subst w2
            have hI2 := HI.out.putIdle HF.out hlt (t0 + 1)
            clear HI q2 fq xv pc
            generalize (wr.setCell ⟨gr, i * 3 + 2, none⟩ (.int .i64 (t0 + 1))) = w3 at hI2 ⊢
            obtain ⟨P, hP⟩ : ∃ P, Hid (pop 12 u1 = P) := ⟨_, hide rfl⟩
            obtain ⟨Pr, hPr⟩ : ∃ P, Hid (pop k r = P) := ⟨_, hide rfl⟩
            obtain ⟨Z, hZ⟩ : ∃ Z, Hid (pop k (wo r c) = Z) := ⟨_, hide rfl⟩
            have tA : (P == Pr) = (wo r u1 == 0) := by rw [← hP.out, ← hPr.out, ← pop_more k 12 r hz2 hsn]; exact pop_full hus hz3
            have tB : (Z == 0) = (wo r c == 0) := by rw [← hZ.out]; exact pop_none (wo_lt _ hz2)
            have tC : (P == 0) = (u1 == 0) := by rw [← hP.out]; exact pop_none hu14
            have hAC : (u1 == 0) = true → (wo r u1 == 0) = false := fun h => by
              rw [beq_iff_eq] at h
              rw [h]; simp [wo]; omega
            have TA := hide tA
            have TB := hide tB
            have TC := hide tC
            have HAC := hide hAC
            clear tA tB tC hAC
            cases hvb : v.testBit i
            · have hid1 : idleOf v i (T.idle i) = (t0 + 1) := by unfold idleOf; rw [hvb, ht0.out]; rfl
              have HID := hide hid1
              have hu1' : usedOf r c (T.used i) = u1 := by rw [hU.out, hu1.out]
              have HU1 := hide hu1'
              clear hid1 hvb hu1'
              have pf : w3.cell? ⟨w.heap.size + 1 + 1, 0, none⟩ = _ := (blk_cell hI2.x2 0).trans rfl
              have HI2 := hide hI2
              clear hI2
              go_wp2_with fail
              have hI4 : PInv w w3 w.heap.size pr k d n b off cp gr cr bm0 bm zs c v ⟨T.set, upd T.used i u1, upd T.idle i (t0 + 1)⟩ := HI2.out
              clear HI2 pf
              generalize w3 = w4 at hI4 ⊢
              have sees := hI4.sees HOK.out hn hlt
              rw [hr.out] at sees
              have hbz := busy_any i w.heap.size (w.heap.size + 1) pr k n b off cp r c w4 sees hlt hsn hz3 hc
              rw [hZ.out, hPr.out] at hbz
              refine hbz.mono ?_
              clear hbz
              rintro e w6 ⟨rfl, hw⟩
              subst w6
              have pc := sees.pc
              have p2 : w4.cell? ⟨pr, 2, none⟩ = some (.int .i64 (d : Int)) := (blk_cell hI4.ref.blk 2).trans rfl
              obtain ⟨_, q1, q2⟩ := hI4.ref.at hlt
              rw [show (⟨T.set, upd T.used i u1, upd T.idle i (t0 + 1)⟩ : St).idle i = (t0 + 1) from upd_same _ _ _] at q2
              have hset := hI4.ref.maps i hlt
              rw [show (⟨T.set, upd T.used i u1, upd T.idle i (t0 + 1)⟩ : St).used i = u1 from upd_same _ _ _] at hset
              have hl : ∀ (m : Nat) (ty : TypeId), (Builtin.len_ #[83] ty #[.map (some (bm i))]).run Tryd.prog (w4.drewN m) = .ok (.int .i64 (P : Int)) (w4.drewN m) := fun m ty => by rw [← hP.out]; exact IsSet.len (hset.same (w' := w4.drewN m) rfl) ty
              have HI4 := hide hI4
              clear sees hset hI4
              cases hC : (u1 == 0)
              · have hC' : ((P : Int) == 0) = false := by rw [nat_beq, TC.out]; exact hC
                cases hA : (wo r u1 == 0)
                · have hA' : ((P : Int) == (Pr : Int)) = false := by rw [nat_beq2, TA.out]; exact hA
                  go_wp2_with fail
                  have hlo := letOne_kept (d := d) HBB.out HU1.out HID.out (by rw [hC, hA]; rfl)
                  have HLO := hide hlo
                  clear hlo
                  go_quiet (fail)
                  go_wp2
                  go_roundw
                  case rel => exact ⟨i + 1, by omega, by go_num, bm, by rw [HSTEP.out, HLO.out]; exact HI4.out.drewN _⟩
                  case measure => simp [intOf]; omega
                · have hA' : ((P : Int) == (Pr : Int)) = true := by rw [nat_beq2, TA.out]; exact hA
                  cases hB2 : (wo r c == 0)
                  · have hB' : ((Z : Int) == 0) = false := by rw [nat_beq, TB.out]; exact hB2
                    go_wp2_with fail
                    have hlo := letOne_kept (d := d) HBB.out HU1.out HID.out (by rw [hC, hA, hB2]; rfl)
                    have HLO := hide hlo
                    clear hlo
                    go_quiet (fail)
                    go_wp2
                    go_roundw
                    case rel => exact ⟨i + 1, by omega, by go_num, bm, by rw [HSTEP.out, HLO.out]; exact HI4.out.drewN _⟩
                    case measure => simp [intOf]; omega
                  · have hB' : ((Z : Int) == 0) = true := by rw [nat_beq, TB.out]; exact hB2
                    go_wp2_with fail
                    have hlo := letOne_gone (d := d) HBB.out HU1.out HID.out (by rw [hC, hA, hB2]; rfl)
                    have HLO := hide hlo
                    clear hlo
                    go_quiet (fail)
                    have hI5 := HI4.out.drewN nq
                    clear HI4 q1 q2 pc p2 hl
                    generalize w4.drewN nq = w5 at hI5 ⊢
                    obtain ⟨q0, q1, q2⟩ := hI5.ref.at hlt
                    have f0 := hI5.ref.free (i * 3)
                    have f1 := hI5.ref.free (i * 3 + 1)
                    have f2 := hI5.ref.free (i * 3 + 2)
                    have hg5 := hI5.ref.glt
                    have HI5 := hide hI5
                    clear hI5
                    have hmm := @run_makeMap Tryd.prog
                    go_wp2
                    go_roundw
                    case rel => exact ⟨i + 1, by omega, by go_num, _, by rw [HSTEP.out, HLO.out]; have := HI5.out.reset2 rfl HF.out hlt; rw [upd_upd, upd_upd] at this; exact this⟩
                    case measure => simp [intOf]; omega
              · have hC' : ((P : Int) == 0) = true := by rw [nat_beq, TC.out]; exact hC
                have hA := HAC.out hC
                have hA' : ((P : Int) == (Pr : Int)) = false := by rw [nat_beq2, TA.out]; exact hA
                cases hD : decide ((d : Int) < (t0 + 1))
                · go_wp2_with fail
                  have hlo := letOne_kept (d := d) HBB.out HU1.out HID.out (by rw [hC, hA, hD]; rfl)
                  have HLO := hide hlo
                  clear hlo
                  go_quiet (fail)
                  go_wp2
                  go_roundw
                  case rel => exact ⟨i + 1, by omega, by go_num, bm, by rw [HSTEP.out, HLO.out]; exact HI4.out.drewN _⟩
                  case measure => simp [intOf]; omega
                · go_wp2_with fail
                  have hlo := letOne_gone (d := d) HBB.out HU1.out HID.out (by rw [hC, hA, hD]; rfl)
                  have HLO := hide hlo
                  clear hlo
                  go_quiet (fail)
                  have hI5 := HI4.out.drewN nq
                  clear HI4 q1 q2 pc p2 hl
                  generalize w4.drewN nq = w5 at hI5 ⊢
                  obtain ⟨q0, q1, q2⟩ := hI5.ref.at hlt
                  have f0 := hI5.ref.free (i * 3)
                  have f1 := hI5.ref.free (i * 3 + 1)
                  have f2 := hI5.ref.free (i * 3 + 2)
                  have hg5 := hI5.ref.glt
                  have HI5 := hide hI5
                  clear hI5
                  have hmm := @run_makeMap Tryd.prog
                  go_wp2
                  go_roundw
                  case rel => exact ⟨i + 1, by omega, by go_num, _, by rw [HSTEP.out, HLO.out]; have := HI5.out.reset2 rfl HF.out hlt; rw [upd_upd, upd_upd] at this; exact this⟩
                  case measure => simp [intOf]; omega
            · have hid1 : idleOf v i (T.idle i) = 0 := by unfold idleOf; rw [hvb, ht0.out]; rfl
              have HID := hide hid1
              have hu1' : usedOf r c (T.used i) = u1 := by rw [hU.out, hu1.out]
              have HU1 := hide hu1'
              clear hid1 hvb hu1'
              have q2 := (hI2.ref.at hlt).2.2
              have fq := hI2.ref.free (i * 3 + 2)
              have pf : w3.cell? ⟨w.heap.size + 1 + 1, 0, none⟩ = _ := (blk_cell hI2.x2 0).trans rfl
              have HI2 := hide hI2
              clear hI2
              go_wp2_with fail
              have hI4 := HI2.out.putIdle HF.out hlt 0
              clear HI2 q2 fq pf
              generalize (w3.setCell ⟨gr, i * 3 + 2, none⟩ (.int .i64 0)) = w4 at hI4 ⊢
              have hI4 : PInv w w4 w.heap.size pr k d n b off cp gr cr bm0 bm zs c v ⟨T.set, upd T.used i u1, upd T.idle i 0⟩ := by rw [← upd_upd T.idle i (t0 + 1) 0]; exact hI4
              have sees := hI4.sees HOK.out hn hlt
              rw [hr.out] at sees
              have hbz := busy_any i w.heap.size (w.heap.size + 1) pr k n b off cp r c w4 sees hlt hsn hz3 hc
              rw [hZ.out, hPr.out] at hbz
              refine hbz.mono ?_
              clear hbz
              rintro e w6 ⟨rfl, hw⟩
              subst w6
              have pc := sees.pc
              have p2 : w4.cell? ⟨pr, 2, none⟩ = some (.int .i64 (d : Int)) := (blk_cell hI4.ref.blk 2).trans rfl
              obtain ⟨_, q1, q2⟩ := hI4.ref.at hlt
              rw [show (⟨T.set, upd T.used i u1, upd T.idle i 0⟩ : St).idle i = 0 from upd_same _ _ _] at q2
              have hset := hI4.ref.maps i hlt
              rw [show (⟨T.set, upd T.used i u1, upd T.idle i 0⟩ : St).used i = u1 from upd_same _ _ _] at hset
              have hl : ∀ (m : Nat) (ty : TypeId), (Builtin.len_ #[83] ty #[.map (some (bm i))]).run Tryd.prog (w4.drewN m) = .ok (.int .i64 (P : Int)) (w4.drewN m) := fun m ty => by rw [← hP.out]; exact IsSet.len (hset.same (w' := w4.drewN m) rfl) ty
              have HI4 := hide hI4
              clear sees hset hI4
              cases hC : (u1 == 0)
              · have hC' : ((P : Int) == 0) = false := by rw [nat_beq, TC.out]; exact hC
                cases hA : (wo r u1 == 0)
                · have hA' : ((P : Int) == (Pr : Int)) = false := by rw [nat_beq2, TA.out]; exact hA
                  go_wp2_with fail
                  have hlo := letOne_kept (d := d) HBB.out HU1.out HID.out (by rw [hC, hA]; rfl)
                  have HLO := hide hlo
                  clear hlo
                  go_quiet (fail)
                  go_wp2
                  go_roundw
                  case rel => exact ⟨i + 1, by omega, by go_num, bm, by rw [HSTEP.out, HLO.out]; exact HI4.out.drewN _⟩
                  case measure => simp [intOf]; omega
                · have hA' : ((P : Int) == (Pr : Int)) = true := by rw [nat_beq2, TA.out]; exact hA
                  cases hB2 : (wo r c == 0)
                  · have hB' : ((Z : Int) == 0) = false := by rw [nat_beq, TB.out]; exact hB2
                    go_wp2_with fail
                    have hlo := letOne_kept (d := d) HBB.out HU1.out HID.out (by rw [hC, hA, hB2]; rfl)
                    have HLO := hide hlo
                    clear hlo
                    go_quiet (fail)
                    go_wp2
                    go_roundw
                    case rel => exact ⟨i + 1, by omega, by go_num, bm, by rw [HSTEP.out, HLO.out]; exact HI4.out.drewN _⟩
                    case measure => simp [intOf]; omega
                  · have hB' : ((Z : Int) == 0) = true := by rw [nat_beq, TB.out]; exact hB2
                    go_wp2_with fail
                    have hlo := letOne_gone (d := d) HBB.out HU1.out HID.out (by rw [hC, hA, hB2]; rfl)
                    have HLO := hide hlo
                    clear hlo
                    go_quiet (fail)
                    have hI5 := HI4.out.drewN nq
                    clear HI4 q1 q2 pc p2 hl
                    generalize w4.drewN nq = w5 at hI5 ⊢
                    obtain ⟨q0, q1, q2⟩ := hI5.ref.at hlt
                    have f0 := hI5.ref.free (i * 3)
                    have f1 := hI5.ref.free (i * 3 + 1)
                    have f2 := hI5.ref.free (i * 3 + 2)
                    have hg5 := hI5.ref.glt
                    have HI5 := hide hI5
                    clear hI5
                    have hmm := @run_makeMap Tryd.prog
                    go_wp2
                    go_roundw
                    case rel => exact ⟨i + 1, by omega, by go_num, _, by rw [HSTEP.out, HLO.out]; have := HI5.out.reset2 rfl HF.out hlt; rw [upd_upd, upd_upd] at this; exact this⟩
                    case measure => simp [intOf]; omega
              · have hC' : ((P : Int) == 0) = true := by rw [nat_beq, TC.out]; exact hC
                have hA := HAC.out hC
                have hA' : ((P : Int) == (Pr : Int)) = false := by rw [nat_beq2, TA.out]; exact hA
                cases hD : decide ((d : Int) < 0)
                · go_wp2_with fail
                  have hlo := letOne_kept (d := d) HBB.out HU1.out HID.out (by rw [hC, hA, hD]; rfl)
                  have HLO := hide hlo
                  clear hlo
                  go_quiet (fail)
                  go_wp2
                  go_roundw
                  case rel => exact ⟨i + 1, by omega, by go_num, bm, by rw [HSTEP.out, HLO.out]; exact HI4.out.drewN _⟩
                  case measure => simp [intOf]; omega
                · go_wp2_with fail
                  have hlo := letOne_gone (d := d) HBB.out HU1.out HID.out (by rw [hC, hA, hD]; rfl)
                  have HLO := hide hlo
                  clear hlo
                  go_quiet (fail)
                  have hI5 := HI4.out.drewN nq
                  clear HI4 q1 q2 pc p2 hl
                  generalize w4.drewN nq = w5 at hI5 ⊢
                  obtain ⟨q0, q1, q2⟩ := hI5.ref.at hlt
                  have f0 := hI5.ref.free (i * 3)
                  have f1 := hI5.ref.free (i * 3 + 1)
                  have f2 := hI5.ref.free (i * 3 + 2)
                  have hg5 := hI5.ref.glt
                  have HI5 := hide hI5
                  clear hI5
                  have hmm := @run_makeMap Tryd.prog
                  go_wp2
                  go_roundw
                  case rel => exact ⟨i + 1, by omega, by go_num, _, by rw [HSTEP.out, HLO.out]; have := HI5.out.reset2 rfl HF.out hlt; rw [upd_upd, upd_upd] at this; exact this⟩
                  case measure => simp [intOf]; omega
    · have hin : i = n := by omega
      subst hin
      obtain ⟨L, hL⟩ : ∃ L, Hid (letTo (rt zs) d c v S i = L) := ⟨_, hide rfl⟩
      rw [hL.out] at hI
      have hLG : Good (rt zs) i (B + 1) L := by rw [← hL.out]; exact let_good HG.out
      have HLG := hide hLG
      have pc : wr.cell? ⟨w.heap.size, 0, none⟩ = some (.pointer (some ⟨pr, 0, none⟩)) := (blk_cell hI.x0 0).trans rfl
      have p3 : wr.cell? ⟨pr, 3, none⟩ = some (.slice (some ⟨gr, 0, none⟩) i cr) := (blk_cell hI.ref.blk 3).trans rfl
      have HI := hide hI
      clear hLG hI hlt hi
      go_wp2
      clear pc p3
      go_loopw [128] (fun j wr => ∃ k : Nat, k ≤ i ∧ j = .int .i64 k ∧ ∃ bm, PInv w wr w.heap.size pr sn d i b off cp gr cr bm0 bm zs c v ⟨putTo (rt zs) (conf zs) c v L.set k, L.used, L.idle⟩) (fun j _ => i - (intOf j).toNat)
      case atStart => exact ⟨0, Nat.zero_le _, rfl, _, HI.out⟩
      case round =>
        clear HI
        obtain ⟨k, hk, rfl, bm, hI⟩ := hrel
        obtain ⟨m, hm⟩ : ∃ m, Hid (putTo (rt zs) (conf zs) c v L.set k = m) := ⟨_, hide rfl⟩
        rw [hm.out] at hI
        have hmi : m < 2 ^ i := by rw [← hm.out]; exact putTo_lt _ _ _ _ _ _ _ HLG.out.set hk
        have pc : wr.cell? ⟨w.heap.size, 0, none⟩ = some (.pointer (some ⟨pr, 0, none⟩)) := (blk_cell hI.x0 0).trans rfl
        have p3 : wr.cell? ⟨pr, 3, none⟩ = some (.slice (some ⟨gr, 0, none⟩) i cr) := (blk_cell hI.ref.blk 3).trans rfl
        by_cases hlt : k < i
        · have hkz : k < zs.length := by omega
          obtain ⟨hz1, hz2, hz3, hz4⟩ := rt_in HOK.out hkz
          rw [Int.toNat_natCast] at hz2
          have hstep : putTo (rt zs) (conf zs) c v L.set (k + 1) = if freeB (rt zs k) (conf zs k) c v k m then m ||| 2 ^ k else m := by rw [← hm.out]; rfl
          have hfs := free_same (c := c) (v := v) (i := k) (m := m) HOK.out hkz (by rw [hn]; exact hmi)
          have sees := hI.sees HOK.out hn hlt
          obtain ⟨r, hr⟩ : ∃ r, Hid (rt zs k = r) := ⟨_, hide rfl⟩
          rw [hr.out] at sees hz2 hz3 hz4 hstep hfs
          have hbz := busy_any k w.heap.size (w.heap.size + 1) pr sn i b off cp r c wr sees hlt hsn hz3 hc
          obtain ⟨Z, hZ⟩ : ∃ Z, Hid (pop sn (wo r c) = Z) := ⟨_, hide rfl⟩
          obtain ⟨Pr, hPr⟩ : ∃ P, Hid (pop sn r = P) := ⟨_, hide rfl⟩
          rw [hZ.out, hPr.out] at hbz
          have tB : (Z == 0) = (wo r c == 0) := by rw [← hZ.out]; exact pop_none (wo_lt _ hz2)
          have pf : wr.cell? ⟨w.heap.size + 1 + 1, 0, none⟩ = _ := (blk_cell hI.x2 0).trans rfl
          have xv : wr.cell? ⟨w.heap.size + 1, 1, none⟩ = some (.int .i64 (v : Int)) := (blk_cell hI.x1 1).trans rfl
          obtain ⟨q0, _, _⟩ := hI.ref.at hlt
          have hh := fun wx => has_nat v k wx (by omega) (by omega)
          have HI := hide hI
          have HBZ := hide hbz
          clear hI hbz sees
          cases hvb : v.testBit k
          · rw [hvb] at hh hfs
            have hfs2 := hfs.trans (if_neg (by simp))
            have HFS := hide hfs2
            have HSTEP := hide hstep
            have HV := hide hh
            clear hh hstep hfs hfs2 tB hvb
            go_wp2_with (first | (go_at_call 40; refine HBZ.out.mono ?_; rintro e w' ⟨rfl, hw⟩; obtain rfl := hw.symm) | (go_at_call 35; refine (unhide HV _).mono ?_; rintro e w' ⟨rfl, hw⟩; obtain rfl := hw.symm))
            clear pc p3 q0 xv pf
            go_loopw [14, 161] (fun f j wi => f = .bool false ∧ ∃ q : Nat, q ≤ i ∧ j = .int .i64 q ∧ PInv w wi w.heap.size pr sn d i b off cp gr cr bm0 bm zs c v ⟨m, L.used, L.idle⟩) (fun _ j _ => i - (intOf j).toNat)
            case atStart => exact ⟨rfl, 0, Nat.zero_le _, rfl, HI.out⟩
            case round =>
              clear HI
              obtain ⟨rfl, q, hq, rfl, hI⟩ := hrel
              have pc : wr.cell? ⟨w.heap.size, 0, none⟩ = some (.pointer (some ⟨pr, 0, none⟩)) := (blk_cell hI.x0 0).trans rfl
              have p3 : wr.cell? ⟨pr, 3, none⟩ = some (.slice (some ⟨gr, 0, none⟩) i cr) := (blk_cell hI.ref.blk 3).trans rfl
              by_cases hlq : q < i
              · go_wp2
                go_roundw
                case rel => exact ⟨rfl, q + 1, by omega, by go_num, hI⟩
                case measure => simp [intOf]; omega
              · go_wp2
                go_roundw
                case rel => exact ⟨k + 1, by omega, by go_num, bm, by rw [HSTEP.out, HFS.out]; exact hI⟩
                case measure => simp [intOf]; omega
          · cases hmb : m.testBit k
            · cases hzb : (wo r c == 0)
              · have tz : ((Z : Int) == 0) = false := by rw [nat_beq, tB]; exact hzb
                rw [show (⟨m, L.used, L.idle⟩ : St).set.testBit k = false from hmb] at q0
                rw [hvb] at hh
                rw [hvb, hmb, hzb] at hfs
                have hfs2 := hfs.trans (if_neg (by simp))
                have HFS := hide hfs2
                have HSTEP := hide hstep
                have HV := hide hh
                clear hh hstep hfs hfs2 tB hvb hmb hzb
                go_wp2_with (first | (go_at_call 40; refine HBZ.out.mono ?_; rintro e w' ⟨rfl, hw⟩; obtain rfl := hw.symm) | (go_at_call 35; refine (unhide HV _).mono ?_; rintro e w' ⟨rfl, hw⟩; obtain rfl := hw.symm))
                clear pc p3 q0 xv pf
                go_loopw [14, 161] (fun f j wi => f = .bool false ∧ ∃ q : Nat, q ≤ i ∧ j = .int .i64 q ∧ PInv w wi w.heap.size pr sn d i b off cp gr cr bm0 bm zs c v ⟨m, L.used, L.idle⟩) (fun _ j _ => i - (intOf j).toNat)
                case atStart => exact ⟨rfl, 0, Nat.zero_le _, rfl, HI.out⟩
                case round =>
                  clear HI
                  obtain ⟨rfl, q, hq, rfl, hI⟩ := hrel
                  have pc : wr.cell? ⟨w.heap.size, 0, none⟩ = some (.pointer (some ⟨pr, 0, none⟩)) := (blk_cell hI.x0 0).trans rfl
                  have p3 : wr.cell? ⟨pr, 3, none⟩ = some (.slice (some ⟨gr, 0, none⟩) i cr) := (blk_cell hI.ref.blk 3).trans rfl
                  by_cases hlq : q < i
                  · go_wp2
                    go_roundw
                    case rel => exact ⟨rfl, q + 1, by omega, by go_num, hI⟩
                    case measure => simp [intOf]; omega
                  · go_wp2
                    go_roundw
                    case rel => exact ⟨k + 1, by omega, by go_num, bm, by rw [HSTEP.out, HFS.out]; exact hI⟩
                    case measure => simp [intOf]; omega
              · have tz : ((Z : Int) == 0) = true := by rw [nat_beq, tB]; exact hzb
                rw [show (⟨m, L.used, L.idle⟩ : St).set.testBit k = false from hmb] at q0
                rw [hvb] at hh
                rw [hvb, hmb, hzb] at hfs
                simp only [Bool.not_false, Bool.true_and, Bool.and_self] at hfs
                have HFS := hide hfs
                have HSTEP := hide hstep
                have HV := hide hh
                clear hh hstep hfs tB hvb hmb hzb
                go_wp2_with (first | (go_at_call 40; refine HBZ.out.mono ?_; rintro e w' ⟨rfl, hw⟩; obtain rfl := hw.symm) | (go_at_call 35; refine (unhide HV _).mono ?_; rintro e w' ⟨rfl, hw⟩; obtain rfl := hw.symm))
                clear pc p3 q0 xv pf
                go_loopw [14, 161] (fun f j wi => ∃ q : Nat, q ≤ i ∧ j = .int .i64 q ∧ ∃ fb, f = .bool fb ∧ Hid ((!hitTo zs m k q) = fb) ∧ PInv w wi w.heap.size pr sn d i b off cp gr cr bm0 bm zs c v ⟨m, L.used, L.idle⟩) (fun _ j _ => i - (intOf j).toNat)
                case atStart => exact ⟨0, Nat.zero_le _, rfl, true, rfl, rfl, HI.out⟩
                case round =>
                  clear HI
                  obtain ⟨q, hq, rfl, fb, rfl, Hf, hI⟩ := hrel
                  have pc : wr.cell? ⟨w.heap.size, 0, none⟩ = some (.pointer (some ⟨pr, 0, none⟩)) := (blk_cell hI.x0 0).trans rfl
                  have p3 : wr.cell? ⟨pr, 3, none⟩ = some (.slice (some ⟨gr, 0, none⟩) i cr) := (blk_cell hI.ref.blk 3).trans rfl
                  by_cases hlq : q < i
                  · obtain ⟨q0, _, _⟩ := hI.ref.at hlq
                    have p0 : wr.cell? ⟨pr, 0, none⟩ = some (.int .i64 (sn : Int)) := (blk_cell hI.ref.blk 0).trans rfl
                    have p1 : wr.cell? ⟨pr, 1, none⟩ = some (.slice (some ⟨b, off, none⟩) i cp) := (blk_cell hI.ref.blk 1).trans rfl
                    have p2 : wr.cell? ⟨pr, 2, none⟩ = some (.int .i64 (d : Int)) := (blk_cell hI.ref.blk 2).trans rfl
                    have hme := meet_core HOK.out hn hlt hlq (Nat.lt_of_lt_of_le (by have := HF.out.bN; omega) hI.tn.size) hI.row (cp := cp)
                    have HME := hide hme
                    have HI := hide hI
                    clear hI hme
                    cases fb
                    · have hf2 : hitTo zs m k q = true := by simpa using Hf.out
                      go_wp2
                      go_roundw
                      case rel => exact ⟨q + 1, by omega, by go_num, _, rfl, by rw [Hid, hitTo, hf2]; rfl, HI.out⟩
                      case measure => simp [intOf]; omega
                    · have hf2 : hitTo zs m k q = false := by simpa using Hf.out
                      cases hmq : m.testBit q
                      · rw [show (⟨m, L.used, L.idle⟩ : St).set.testBit q = false from hmq] at q0
                        go_wp2
                        go_roundw
                        case rel => exact ⟨q + 1, by omega, by go_num, _, rfl, by rw [Hid, hitTo, hf2, hmq]; rfl, HI.out⟩
                        case measure => simp [intOf]; omega
                      · rw [show (⟨m, L.used, L.idle⟩ : St).set.testBit q = true from hmq] at q0
                        cases hqk : (q != k)
                        · have hqk' : ((q : Int) != (k : Int)) = false := by rw [bne, nat_beq2]; exact hqk
                          go_wp2
                          go_roundw
                          case rel => exact ⟨q + 1, by omega, by go_num, _, rfl, by rw [Hid, hitTo, hf2, hmq, hqk]; rfl, HI.out⟩
                          case measure => simp [intOf]; omega
                        · have hqk' : ((q : Int) != (k : Int)) = true := by rw [bne, nat_beq2]; exact hqk
                          cases hcm : (rt zs k &&& rt zs q != 0)
                          · rw [hcm] at HME
                            go_wp2_with (go_at_call 33; refine HME.out.mono ?_; rintro e w6 ⟨rfl, hB6⟩)
                            go_roundw
                            case rel => exact ⟨q + 1, by omega, by go_num, _, rfl, by rw [Hid, hitTo, hf2, hmq, hqk, hcm]; rfl, HI.out.below rfl HF.out hB6⟩
                            case measure => simp [intOf]; omega
                          · rw [hcm] at HME
                            go_wp2_with (go_at_call 33; refine HME.out.mono ?_; rintro e w6 ⟨rfl, hB6⟩)
                            go_roundw
                            case rel => exact ⟨q + 1, by omega, by go_num, _, rfl, by rw [Hid, hitTo, hf2, hmq, hqk, hcm]; rfl, HI.out.below rfl HF.out hB6⟩
                            case measure => simp [intOf]; omega
                  · have hqi : q = i := by omega
                    subst hqi
                    cases fb
                    · have hf2 : hitTo zs m k q = true := by simpa using Hf.out
                      rw [hn, hf2] at HFS
                      go_wp2
                      go_roundw
                      case rel => exact ⟨k + 1, by omega, by go_num, bm, by rw [HSTEP.out, HFS.out]; exact hI⟩
                      case measure => simp [intOf]; omega
                    · have hf2 : hitTo zs m k q = false := by simpa using Hf.out
                      rw [hn, hf2] at HFS
                      obtain ⟨q0, _, _⟩ := hI.ref.at hlt
                      have f0 := hI.ref.free (k * 3)
                      go_wp2
                      go_roundw
                      case rel => exact ⟨k + 1, by omega, by go_num, bm, by rw [HSTEP.out, HFS.out]; exact hI.putBit HF.out hlt⟩
                      case measure => simp [intOf]; omega
            · rw [show (⟨m, L.used, L.idle⟩ : St).set.testBit k = true from hmb] at q0
              rw [hvb] at hh
              rw [hvb, hmb] at hfs
              have hfs2 := hfs.trans (if_neg (by simp))
              have HFS := hide hfs2
              have HSTEP := hide hstep
              have HV := hide hh
              clear hh hstep hfs hfs2 tB hvb hmb
              go_wp2_with (first | (go_at_call 40; refine HBZ.out.mono ?_; rintro e w' ⟨rfl, hw⟩; obtain rfl := hw.symm) | (go_at_call 35; refine (unhide HV _).mono ?_; rintro e w' ⟨rfl, hw⟩; obtain rfl := hw.symm))
              clear pc p3 q0 xv pf
              go_loopw [14, 161] (fun f j wi => f = .bool false ∧ ∃ q : Nat, q ≤ i ∧ j = .int .i64 q ∧ PInv w wi w.heap.size pr sn d i b off cp gr cr bm0 bm zs c v ⟨m, L.used, L.idle⟩) (fun _ j _ => i - (intOf j).toNat)
              case atStart => exact ⟨rfl, 0, Nat.zero_le _, rfl, HI.out⟩
              case round =>
                clear HI
                obtain ⟨rfl, q, hq, rfl, hI⟩ := hrel
                have pc : wr.cell? ⟨w.heap.size, 0, none⟩ = some (.pointer (some ⟨pr, 0, none⟩)) := (blk_cell hI.x0 0).trans rfl
                have p3 : wr.cell? ⟨pr, 3, none⟩ = some (.slice (some ⟨gr, 0, none⟩) i cr) := (blk_cell hI.ref.blk 3).trans rfl
                by_cases hlq : q < i
                · go_wp2
                  go_roundw
                  case rel => exact ⟨rfl, q + 1, by omega, by go_num, hI⟩
                  case measure => simp [intOf]; omega
                · go_wp2
                  go_roundw
                  case rel => exact ⟨k + 1, by omega, by go_num, bm, by rw [HSTEP.out, HFS.out]; exact hI⟩
                  case measure => simp [intOf]; omega
        · have hki : k = i := by omega
          subst hki
          have hnx : nextF (rt zs) (conf zs) k d c v S = ⟨m, L.used, L.idle⟩ := by show (⟨putTo (rt zs) (conf zs) c v (letTo (rt zs) d c v S k).set k, (letTo (rt zs) d c v S k).used, (letTo (rt zs) d c v S k).idle⟩ : St) = _; rw [hL.out, hm.out]
          obtain ⟨X, hX⟩ : ∃ X, Hid ((⟨m, L.used, L.idle⟩ : St) = X) := ⟨_, hide rfl⟩
          rw [hX.out] at hI hnx
          have hXG : Good (rt zs) k (B + 1) X := by rw [← hnx]; exact next_good (by rw [← hn]; exact conf_conf HOK.out) HG.out
          have hpf : wr.cell? ⟨w.heap.size + 1 + 1, 0, none⟩ = _ := (blk_cell hI.x2 0).trans rfl
          have hxv : wr.cell? ⟨w.heap.size + 1, 1, none⟩ = some (.int .i64 (v : Int)) := (blk_cell hI.x1 1).trans rfl
          have hset := set_step k (.pointer (some ⟨w.heap.size + 1 + 1, 0, none⟩)) (.pointer (some ⟨w.heap.size, 0, none⟩)) (.pointer (some ⟨w.heap.size + 1, 0, none⟩)) (fun j => ((X.set.testBit j && v.testBit j) && (((pop 12 (X.used j) : Nat) : Int) == 0)) && (((pop sn (wo (rt zs j) c) : Nat) : Int) == 0)) wr (by omega) (fun j hj => by
            obtain ⟨q0, q1, _⟩ := hI.ref.at hj
            exact proceeds_any j (w.heap.size + 1 + 1) w.heap.size (w.heap.size + 1) pr sn k b off cp gr cr (rt zs j) c v (bm j) (X.used j) (X.set.testBit j) wr (hI.sees HOK.out hn hj) hj hn8 hsn (rt_in HOK.out (by omega)).2.2.1 hc hv hpf p3 q0 q1 hxv (hI.ref.maps j hj))
          rw [show setTo (fun j => ((X.set.testBit j && v.testBit j) && (((pop 12 (X.used j) : Nat) : Int) == 0)) && (((pop sn (wo (rt zs j) c) : Nat) : Int) == 0)) k = outF (rt zs) (conf zs) k d c v S by
            unfold outF
            rw [hnx]
            exact show_same HOK.out hn hXG (by omega)] at hset
          have HSET := hide hset
          have HI := hide hI
          have HNX := hide hnx
          clear hset hI hnx hpf hxv
          go_wp2_with (go_at_call 31; refine HSET.out.mono ?_; rintro e w' ⟨rfl, hw⟩; obtain rfl := hw.symm)
          go_ret
          exact ⟨rfl, HI.out.tn, bm, by rw [HNX.out]; exact HI.out.ref, HI.out.own⟩

end Go.Proofs.YtpkfgpagkgmpcaaDoor
