import Derived.Test.YtaablbmgagiajaaGreatDoorTGBE
namespace Go.Proofs.YtaablbmgagiajaaGreatDoor
open Go.RowKit Go.Deep
set_option maxHeartbeats 1000000 in
set_option maxRecDepth 20000 in
theorem send_any (N : Nat) (D : SC) (L : RC) (win : Nat) (S : SY) (w : World) (F : FR) (src dst : Nat) (h : SyIs w N D L win S) (hF : F 1 = (src : Int)) (hN : N ≤ w.heap.size) (hle : S.net.length ≤ 120) :
    Calls Tryz.prog 72 #[.pointer (some ⟨D.p, 0, none⟩), .agg (fCells F), .int .i64 (dst : Int)] w fun e w' => e = .returned (.tuple #[]) ∧ SyGo w w' N D L win ⟨S.rp, S.v, sendN src F dst S.net⟩ := by
  have hB0 : Below w.heap.size w (w.alloc (.cells (fCells F) 35)) := (Below.refl _ _).alloc (Nat.le_refl _) _
  have hbx : FIs (w.alloc (.cells (fCells F) 35)) w.heap.size 35 F := blk_new _ _
  have hcall : Calls Tryz.prog 32 #[.agg (fCells F)] (w.alloc (.cells (fCells F) 35)) fun e w1 =>
      ∃ va vn vc ev, e = .returned (.tuple #[.slice va vn vc, ev]) ∧ w1.cell? ⟨w.heap.size, 1, none⟩ = some (.int .i64 (src : Int)) ∧
        Hid (Calls Tryz.prog 58 #[.pointer (some ⟨D.p, 0, none⟩), .agg #[.int .i64 (src : Int), .int .i64 (dst : Int), .slice va vn vc]] w1 fun e w' => e = .returned (.tuple #[]) ∧ SyGo w w' N D L win ⟨S.rp, S.v, sendN src F dst S.net⟩) := by
    refine (enc_any F _).mono ?_
    rintro e w1 ⟨⟨v, ev, rfl, hv, _⟩, hB1⟩
    have hbx1 := hbx.below (by simp) hB1
    have hBw : Below w.heap.size w w1 := hB0.trans (hB1.mono (by simp))
    obtain ⟨va, vc, hve⟩ : ∃ va vc, v = .slice va (bytesF F).length vc := by obtain ⟨_, a, c, e, _⟩ := hv; exact ⟨a, c, e⟩
    subst hve
    refine ⟨va, _, vc, ev, rfl, by rw [hbx1.at (by omega), hF], hide ?_⟩
    refine (syput_any N D L win S w1 ⟨src, dst, bytesF F⟩ _ (h.below hBw) hv (Nat.le_trans hN hBw.size) hle).mono ?_
    rintro e w2 ⟨rfl, hg⟩
    exact ⟨rfl, hg.pre hBw⟩
  have HC := hide hcall
  have HBX := hide hbx
  clear hcall hbx hB0 h hF
  go_enter Tryz.func72, Tryz.ntmps72
  go_wp2_with (refine wpList_load_f rfl _ rfl w.heap.size rfl F HBX.out ?_)
  refine HC.out.mono ?_
  rintro e w1 ⟨va, vn, vc, ev, rfl, z1, HP⟩
  clear HC HBX
  go_wp2_with fail
  refine HP.out.mono ?_
  rintro e w2 ⟨rfl, hg⟩
  go_wp2
  go_end0
  exact ⟨rfl, hg⟩
theorem putP_len {p : Pk} {l : List Pk} (h : l.length ≤ 120) : (putP p l).length ≤ 120 := by
  unfold putP
  split
  · exact h
  · rw [List.length_append]; simp; omega
theorem othersN_len {src : Nat} {F : FR} {l : List Pk} (h : l.length ≤ 120) : ∀ k, (othersN src F l k).length ≤ 120
  | 0 => h
  | k + 1 => by
    unfold othersN
    split
    · exact othersN_len h k
    · exact putP_len (othersN_len h k)
theorem sendsN_len {src dst : Nat} : ∀ (Fs : List FR) (l : List Pk), l.length ≤ 120 → (sendsN src dst Fs l).length ≤ 120
  | [], _, h => h
  | _ :: r, _, h => sendsN_len r _ (putP_len h)
theorem allsN_len {src : Nat} : ∀ (Fs : List FR) (l : List Pk), l.length ≤ 120 → (allsN src Fs l).length ≤ 120
  | [], _, h => h
  | _ :: r, _, h => allsN_len r _ (othersN_len h 3)
section
variable {w w' : World} {N win : Nat} {D : SC} {L : RC} {S : SY}
theorem SyIs.notWr (h : SyIs w N D L win S) {k t : Nat} (hk : TyAt w k t) (ht : 79 ≠ t ∧ 103 ≠ t ∧ 125 ≠ t ∧ 116 ≠ t ∧ 59 ≠ t) : ¬ Wr D k := by
  obtain ⟨t1, t2, t3, t4, t5⟩ := ht
  rintro (e | e | ⟨j, hj, e⟩ | e | e)
  · exact h.tyP.ne hk t1 e.symm
  · exact (h.tyN e).ne hk t2 rfl
  · exact (h.tyR hj).ne hk t3 e.symm
  · exact h.tyV.ne hk t4 e.symm
  · exact (h.tyT e).ne hk t5 rfl
theorem SyGo.stays (h : SyGo w w' N D L win S) {S0 : SY} (h0 : SyIs w N D L win S0) {k t : Nat} {cs : Array Value} {f : Nat × Nat} (hk : w.heap[k]? = some (.cells cs t f)) (ht : 79 ≠ t ∧ 103 ≠ t ∧ 125 ≠ t ∧ 116 ≠ t ∧ 59 ≠ t) : w'.heap[k]? = some (.cells cs t f) := by
  obtain ⟨D', _, _, hm, _⟩ := h
  exact (hm.block k (blk_lt hk) (h0.notWr ⟨_, _, hk⟩ ht)).trans hk
end
set_option maxHeartbeats 2000000 in
set_option maxRecDepth 20000 in
theorem sendOthers_any (N : Nat) (D : SC) (L : RC) (win : Nat) (S : SY) (w : World) (F : FR) (src : Nat) (h : SyIs w N D L win S) (hF : F 1 = (src : Int)) (hN : N ≤ w.heap.size) (hle : S.net.length ≤ 120) :
    Calls Tryz.prog 53 #[.pointer (some ⟨D.p, 0, none⟩), .agg (fCells F)] w fun e w' => e = .returned (.tuple #[]) ∧ SyGo w w' N D L win ⟨S.rp, S.v, othersN src F S.net 3⟩ := by
  obtain ⟨W0, hW0⟩ : ∃ W, Hid (w.alloc (.cells (fCells F) 35) = W) := ⟨_, hide rfl⟩
  have hB0 : Below w.heap.size w W0 := by rw [← hW0.out]; exact (Below.refl _ _).alloc (Nat.le_refl _) _
  have hbx : FIs W0 w.heap.size 35 F := by rw [← hW0.out]; exact blk_new _ _
  have hs0 : W0.heap.size = w.heap.size + 1 := by rw [← hW0.out]; simp
  have z1 : (w.alloc (.cells (fCells F) 35)).cell? ⟨w.heap.size, 1, none⟩ = some (.int .i64 (src : Int)) := by rw [hW0.out, hbx.at (by omega), hF]
  have hrep := isNot_any (src : Int) W0
  have HI := hide hrep
  have HZ := hide z1
  have H := hide h
  have HB0 := hide hB0
  have HBX := hide hbx
  clear h hB0 hbx hrep
  go_enter Tryz.func53, Tryz.ntmps53
  go_wp2_with fail
  rw [show w.alloc (.cells (fCells F) 35) = W0 from hW0.out]
  refine HI.out.mono ?_
  rintro e W1 ⟨rfl, hW1⟩
  rw [hs0]
  have hB1 : Below W0.heap.size W0 W1 := by rw [hW1]; exact (Below.refl _ _).alloc (Nat.le_refl _) _
  have hcap : W1.heap[w.heap.size + 1]? = some (.cells #[.int .i64 (src : Int)] 3 (0, 0)) := by rw [hW1, ← hs0]; exact blk_new _ _
  have hBw : Below w.heap.size w W1 := HB0.out.trans (hB1.mono (by omega))
  have HST : Hid (SyGo w W1 N D L win ⟨S.rp, S.v, othersN src F S.net 0⟩ ∧ FIs W1 w.heap.size 35 F ∧ W1.heap[w.heap.size + 1]? = some (.cells #[.int .i64 (src : Int)] 3 (0, 0))) :=
    hide ⟨H.out.goes.below hBw, HBX.out.below (by omega) hB1, hcap⟩
  clear hW1 hB1 hcap hBw HI HZ z1 HBX HB0 hW0
  go_wp2_with fail
  go_loopw [9] (fun j wr => ∃ k : Nat, k ≤ 3 ∧ j = .int .i64 k ∧ SyGo w wr N D L win ⟨S.rp, S.v, othersN src F S.net k⟩ ∧ FIs wr w.heap.size 35 F ∧ wr.heap[w.heap.size + 1]? = some (.cells #[.int .i64 (src : Int)] 3 (0, 0))) (fun j _ => 3 - (intOf j).toNat)
  case atStart => exact ⟨0, by omega, rfl, HST.out⟩
  case round =>
    obtain ⟨k, hk, rfl, hgo, hfr, hcp⟩ := hrel
    clear HST
    by_cases hk3 : k < 3
    · have hk' : (k : Int) < 3 := by omega
      have hcl := isNot1_any (k : Int) (src : Int) (w.heap.size + 1) wr ((blk_cell hcp 0).trans rfl)
      have HCL := hide hcl
      obtain ⟨D1, hp1, hS1, hm1, hg1⟩ := hgo
      have hsz := hm1.size
      by_cases hks : k = src
      · have e1 : ((k : Int) != (src : Int)) = false := by simp; omega
        rw [e1] at HCL
        have HR : Hid (SyGo w wr N D L win ⟨S.rp, S.v, othersN src F S.net (k + 1)⟩ ∧ FIs wr w.heap.size 35 F ∧ wr.heap[w.heap.size + 1]? = some (.cells #[.int .i64 (src : Int)] 3 (0, 0))) := hide ⟨⟨D1, hp1, by show SyIs wr N D1 L win ⟨S.rp, S.v, if k = src then othersN src F S.net k else _⟩; rw [if_pos hks]; exact hS1, hm1, hg1⟩, hfr, hcp⟩
        clear hS1 hm1 hg1 hfr hcp hcl hks e1
        go_wp2_with fail
        refine HCL.out.mono ?_
        rintro e wz ⟨rfl, rfl⟩
        go_wp2
        go_roundw
        case rel => exact ⟨k + 1, by omega, by go_num, HR.out⟩
        case measure => simp [intOf]; omega
      · have e1 : ((k : Int) != (src : Int)) = true := by simp; omega
        rw [e1] at HCL
        have hsnd := send_any N D1 L win ⟨S.rp, S.v, othersN src F S.net k⟩ wr F src k hS1 hF (Nat.le_trans hN hsz) (othersN_len hle k)
        rw [hp1] at hsnd
        have HSN : Hid (Calls Tryz.prog 72 #[.pointer (some ⟨D.p, 0, none⟩), .agg (fCells F), .int .i64 (k : Int)] wr fun e w' => e = .returned (.tuple #[]) ∧ Hid (SyGo w w' N D L win ⟨S.rp, S.v, othersN src F S.net (k + 1)⟩ ∧ FIs w' w.heap.size 35 F ∧ w'.heap[w.heap.size + 1]? = some (.cells #[.int .i64 (src : Int)] 3 (0, 0)))) := hide (by
          refine hsnd.mono ?_
          rintro e w2 ⟨rfl, hg2⟩
          refine ⟨rfl, hide ⟨?_, hg2.stays hS1 hfr (by decide), hg2.stays hS1 hcp (by decide)⟩⟩
          have e2 : othersN src F S.net (k + 1) = sendN src F k (othersN src F S.net k) := if_neg hks
          rw [e2]
          exact SyGo.then hp1 hm1 hg1 hg2)
        have HFR := hide hfr
        clear hS1 hm1 hg1 hfr hcp hcl hks e1 hsnd
        go_wp2_with fail
        refine HCL.out.mono ?_
        rintro e wz ⟨rfl, rfl⟩
        go_wp2_with (refine wpList_load_f rfl _ rfl w.heap.size rfl F HFR.out ?_)
        refine HSN.out.mono ?_
        rintro e w2 ⟨rfl, HR⟩
        go_wp2
        go_roundw
        case rel => exact ⟨k + 1, by omega, by go_num, HR.out⟩
        case measure => simp [intOf]; omega
    · have e3 : k = 3 := by omega
      subst e3
      have HG := hide hgo
      clear hgo hfr hcp
      go_wp2
      go_end0
      exact ⟨rfl, HG.out⟩
theorem LineIs.tick {C L : RC} (h : LineIs C L) (R : RS) : tickS C R = tickS L R := by
  obtain ⟨h1, h2, h3, h4⟩ := h
  unfold tickS
  rw [h1, h3]
theorem LineIs.second {C L : RC} (h : LineIs C L) (R : RS) : secondR C R = secondR L R := by
  obtain ⟨h1, h2, h3, h4⟩ := h
  unfold secondR voteR outR
  rw [h1, h2, h3, h4]
theorem LineIs.takes {C L : RC} (h : LineIs C L) (F : FR) (R : RS) : takeS C F R = takeS L F R ∧ takeT C F R = takeT L F R := by
  obtain ⟨h1, h2, h3, h4⟩ := h
  unfold takeS takeT doneT doneR nextR
  rw [h1, h2, h3, h4]
  exact ⟨rfl, rfl⟩
theorem SyIs.rpAt {w : World} {N win : Nat} {D : SC} {L : RC} {S : SY} (h : SyIs w N D L win S) {k : Nat} (hk : k < 3) : w.cell? ⟨D.p, 3 + k, none⟩ = some (.pointer (some ⟨D.rp k, 0, none⟩)) := by
  rw [h.at]
  rcases (by omega : k = 0 ∨ k = 1 ∨ k = 2) with rfl | rfl | rfl <;> rfl
theorem sampleR_from (R : RS) : sampleR R 1 = (R.id : Int) := rfl
set_option maxHeartbeats 2000000 in
set_option maxRecDepth 20000 in
theorem tickRep_any (N : Nat) (D : SC) (L : RC) (win : Nat) (S : SY) (w : World) (k : Nat) (hk : k < 3) (h : SyIs w N D L win S) (hok : RpOk (S.rp k)) (hid : (S.rp k).id = k) (hN : N ≤ w.heap.size) (hle : S.net.length ≤ 120) :
    Calls Tryz.prog 49 #[.pointer (some ⟨D.p, 0, none⟩), .int .i64 (k : Int)] w fun e w' => e = .returned (.tuple #[]) ∧ SyGo w w' N D L win (tickSy L k S) := by
  have hln := h.ln k hk
  have hcall := rtick_any (D.rp k) (D.C k) (S.rp k) w (h.rp k hk) hok
  rw [hln.tick, hln.second] at hcall
  have cr := h.rpAt hk
  have hk' : (k : Int) < 3 := by omega
  have hpl := h.lt
  have HC := hide hcall
  have H := hide h
  obtain ⟨R1, hR1⟩ : ∃ R, Hid (tickS L (S.rp k) = R) := ⟨_, hide rfl⟩
  have hid1 : R1.id = k := by rw [← hR1.out]; exact hid
  have HEQ : Hid (tickSy L k S = ⟨upd S.rp k R1, S.v, tickNet L k R1 S.net⟩) := by rw [Hid]; unfold tickSy; rw [hR1.out]
  rw [hR1.out] at HC
  clear hcall h hR1 hok
  go_enter Tryz.func49, Tryz.ntmps49
  go_wp2_with fail
  refine HC.out.mono ?_
  rintro e w1 ⟨rfl, hR, hm⟩
  obtain ⟨hS1, hM1⟩ := H.out.putR hk hm hR
  have HS1 := hide hS1
  have HM1 := hide hM1
  have q1 : FIs ((w1.alloc (.cells (fCells fr0) 35)).alloc (.cells (fCells fr0) 35)) w1.heap.size 35 fr0 := (Below.heap_alloc _ _ _ (by simp)).trans (blk_new _ _)
  have q2 : FIs ((w1.alloc (.cells (fCells fr0) 35)).alloc (.cells (fCells fr0) 35)) (w1.heap.size + 1) 35 fr0 := by
    have := blk_new (w1.alloc (.cells (fCells fr0) 35)) (.cells (fCells fr0) 35)
    rwa [show (w1.alloc (.cells (fCells fr0) 35)).heap.size = w1.heap.size + 1 by simp] at this
  have HQ1 := hide q1
  have HQ2 := hide q2
  clear q1 q2 hS1 hM1 hR hm HC
  go_wp2_with (refine wpList_store_fl rfl _ _ rfl w1.heap.size (sampleR R1) rfl rfl fr0 HQ1.out ?_)
  intro w2 HF2
  have HQ3 : Hid (FIs w2 (w1.heap.size + 1) 35 fr0) := hide ((HF2.out.2.1 _ (by omega)).trans HQ2.out)
  go_wp2_with (refine wpList_store_fl rfl _ _ rfl (w1.heap.size + 1) (secondR L R1) rfl rfl fr0 HQ3.out ?_)
  intro w3 HF3
  have HA : Hid (FIs w3 w1.heap.size 35 (sampleR R1)) := hide ((HF3.out.2.1 _ (by omega)).trans HF2.out.1)
  have HB : Hid (FIs w3 (w1.heap.size + 1) 35 (secondR L R1)) := hide HF3.out.1
  have hB3 : Below w1.heap.size w1 w3 := (((Below.refl _ _).alloc (Nat.le_refl _) _).alloc (by simp) _).trans ((HF2.out.2.2 _ (Nat.le_refl _)).trans (HF3.out.2.2 _ (by omega)))
  have hS3 := HS1.out.below hB3
  have hM3 : Mod w w3 (Wr D) := HM1.out.below hB3
  have hso := sendOthers_any N D L win ⟨upd S.rp k R1, S.v, S.net⟩ w3 (sampleR R1) k hS3 (by rw [sampleR_from, hid1]) (Nat.le_trans hN hM3.size) hle
  have HSO : Hid (Calls Tryz.prog 53 #[.pointer (some ⟨D.p, 0, none⟩), .agg (fCells (sampleR R1))] w3 fun e w' => e = .returned (.tuple #[]) ∧ Hid (SyGo w w' N D L win ⟨upd S.rp k R1, S.v, othersN k (sampleR R1) S.net 3⟩ ∧ FIs w' (w1.heap.size + 1) 35 (secondR L R1))) := hide (by
    refine hso.mono ?_
    rintro e w4 ⟨rfl, hg⟩
    exact ⟨rfl, hide ⟨SyGo.then rfl hM3 (Gr.refl _ _) hg, hg.stays hS3 HB.out (by decide)⟩⟩)
  clear hso hS3 hM3 hB3 HB HF3 HF2 HQ3 HQ2 HQ1 HS1 HM1 H
  go_wp2_with (refine wpList_load_f rfl _ rfl w1.heap.size rfl (sampleR R1) HA.out ?_)
  refine HSO.out.mono ?_
  rintro e w4 ⟨rfl, HG4⟩
  clear HSO HA
  cases hs : saysB R1
  · have HE : Hid (tickNet L k R1 S.net = othersN k (sampleR R1) S.net 3) := by rw [Hid]; unfold tickNet; rw [hs]; rfl
    go_wp2
    go_end0
    rw [HEQ.out, HE.out]
    exact ⟨rfl, HG4.out.1⟩
  · have HE : Hid (tickNet L k R1 S.net = sendN k (secondR L R1) 3 (othersN k (sampleR R1) S.net 3)) := by rw [Hid]; unfold tickNet; rw [hs]; rfl
    obtain ⟨⟨D4, hp4, hS4, hm4, hg4⟩, hf4⟩ := HG4.out
    have hF1 : secondR L R1 1 = (k : Int) := by
      have := hs
      unfold saysB at this
      unfold secondR
      split
      · show (R1.id : Int) = _; rw [hid1]
      · rename_i hv
        split
        · show (R1.id : Int) = _; rw [hid1]
        · rename_i ht
          rw [Bool.or_eq_true] at this
          rcases this with x | x
          · exact absurd x hv
          · exact absurd (of_decide_eq_true x) ht
    have hsd := send_any N D4 L win _ w4 (secondR L R1) k 3 hS4 hF1 (Nat.le_trans hN hm4.size) (othersN_len hle 3)
    rw [hp4] at hsd
    have HSD : Hid (Calls Tryz.prog 72 #[.pointer (some ⟨D.p, 0, none⟩), .agg (fCells (secondR L R1)), .int .i64 3] w4 fun e w' => e = .returned (.tuple #[]) ∧ SyGo w w' N D L win ⟨upd S.rp k R1, S.v, tickNet L k R1 S.net⟩) := hide (by
      rw [HE.out]
      refine hsd.mono ?_
      rintro e w5 ⟨rfl, hg⟩
      exact ⟨rfl, SyGo.then hp4 hm4 hg4 hg⟩)
    have HF4 := hide hf4
    clear hsd hS4 hm4 hg4 hf4 HG4 HE
    go_wp2_with (refine wpList_load_f rfl _ rfl (w1.heap.size + 1) rfl (secondR L R1) HF4.out ?_)
    refine HSD.out.mono ?_
    rintro e w5 ⟨rfl, hg5⟩
    go_wp2
    go_end0
    rw [HEQ.out]
    exact ⟨rfl, hg5⟩
end Go.Proofs.YtaablbmgagiajaaGreatDoor
