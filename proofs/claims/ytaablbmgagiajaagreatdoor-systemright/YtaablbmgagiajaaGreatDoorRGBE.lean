import Derived.Test.YtaablbmgagiajaaGreatDoorRGBD
namespace Go.Proofs.YtaablbmgagiajaaGreatDoor
open Go.RowKit Go.Deep
theorem putP_len {p : Pk} {l : List Pk} (h : l.length ≤ 120) : (putP p l).length ≤ 120 := by
  unfold putP
  split
  · exact h
  · rw [List.length_append]; simp; omega
theorem othersN_len {src : Nat} {F : FR} {l : List Pk} (h : l.length ≤ 120) : ∀ k, (othersN src F l k).length ≤ 120
  | 0 => h
  | k + 1 => by
    unfold othersN
    split
    · exact othersN_len h k
    · exact putP_len (othersN_len h k)
theorem sendsN_len {src dst : Nat} : ∀ (Fs : List FR) (l : List Pk), l.length ≤ 120 → (sendsN src dst Fs l).length ≤ 120
  | [], _, h => h
  | _ :: r, _, h => sendsN_len r _ (putP_len h)
theorem allsN_len {src : Nat} : ∀ (Fs : List FR) (l : List Pk), l.length ≤ 120 → (allsN src Fs l).length ≤ 120
  | [], _, h => h
  | _ :: r, _, h => allsN_len r _ (othersN_len h 3)
section
variable {w w' : World} {N win : Nat} {D : SC} {L : RC} {S : SY}
theorem SyIs.notWr (h : SyIs w N D L win S) {k t : Nat} (hk : TyAt w k t) (ht : 79 ≠ t ∧ 103 ≠ t ∧ 125 ≠ t ∧ 116 ≠ t ∧ 59 ≠ t) : ¬ Wr D k := by
  obtain ⟨t1, t2, t3, t4, t5⟩ := ht
  rintro (e | e | ⟨j, hj, e⟩ | e | e)
  · exact h.tyP.ne hk t1 e.symm
  · exact (h.tyN e).ne hk t2 rfl
  · exact (h.tyR hj).ne hk t3 e.symm
  · exact h.tyV.ne hk t4 e.symm
  · exact (h.tyT e).ne hk t5 rfl
theorem SyGo.stays (h : SyGo w w' N D L win S) {S0 : SY} (h0 : SyIs w N D L win S0) {k t : Nat} {cs : Array Value} {f : Nat × Nat} (hk : w.heap[k]? = some (.cells cs t f)) (ht : 79 ≠ t ∧ 103 ≠ t ∧ 125 ≠ t ∧ 116 ≠ t ∧ 59 ≠ t) : w'.heap[k]? = some (.cells cs t f) := by
  obtain ⟨D', _, _, hm, _⟩ := h
  exact (hm.block k (blk_lt hk) (h0.notWr ⟨_, _, hk⟩ ht)).trans hk
end
set_option maxHeartbeats 2000000 in
set_option maxRecDepth 20000 in
theorem sendOthers_any (N : Nat) (D : SC) (L : RC) (win : Nat) (S : SY) (w : World) (F : FR) (src : Nat) (h : SyIs w N D L win S) (hF : F 1 = (src : Int)) (hN : N ≤ w.heap.size) (hle : S.net.length ≤ 120) :
    Calls Tryz.prog 53 #[.pointer (some ⟨D.p, 0, none⟩), .agg (fCells F)] w fun e w' => e = .returned (.tuple #[]) ∧ SyGo w w' N D L win ⟨S.rp, S.v, othersN src F S.net 3⟩ := by
  obtain ⟨W0, hW0⟩ : ∃ W, Hid (w.alloc (.cells (fCells F) 35) = W) := ⟨_, hide rfl⟩
  have hB0 : Below w.heap.size w W0 := by rw [← hW0.out]; exact (Below.refl _ _).alloc (Nat.le_refl _) _
  have hbx : FIs W0 w.heap.size 35 F := by rw [← hW0.out]; exact blk_new _ _
  have hs0 : W0.heap.size = w.heap.size + 1 := by rw [← hW0.out]; simp
  have z1 : (w.alloc (.cells (fCells F) 35)).cell? ⟨w.heap.size, 1, none⟩ = some (.int .i64 (src : Int)) := by rw [hW0.out, hbx.at (by omega), hF]
  have hrep := isNot_any (src : Int) W0
  have HI := hide hrep
  have HZ := hide z1
  have H := hide h
  have HB0 := hide hB0
  have HBX := hide hbx
  clear h hB0 hbx hrep
  go_enter Tryz.func53, Tryz.ntmps53
  go_wp2_with fail
  rw [show w.alloc (.cells (fCells F) 35) = W0 from hW0.out]
  refine HI.out.mono ?_
  rintro e W1 ⟨rfl, hW1⟩
  rw [hs0]
  have hB1 : Below W0.heap.size W0 W1 := by rw [hW1]; exact (Below.refl _ _).alloc (Nat.le_refl _) _
  have hcap : W1.heap[w.heap.size + 1]? = some (.cells #[.int .i64 (src : Int)] 3 (0, 0)) := by rw [hW1, ← hs0]; exact blk_new _ _
  have hBw : Below w.heap.size w W1 := HB0.out.trans (hB1.mono (by omega))
  have HST : Hid (SyGo w W1 N D L win ⟨S.rp, S.v, othersN src F S.net 0⟩ ∧ FIs W1 w.heap.size 35 F ∧ W1.heap[w.heap.size + 1]? = some (.cells #[.int .i64 (src : Int)] 3 (0, 0))) :=
    hide ⟨H.out.goes.below hBw, HBX.out.below (by omega) hB1, hcap⟩
  clear hW1 hB1 hcap hBw HI HZ z1 HBX HB0 hW0
  go_wp2_with fail
  go_loopw [9] (fun j wr => ∃ k : Nat, k ≤ 3 ∧ j = .int .i64 k ∧ SyGo w wr N D L win ⟨S.rp, S.v, othersN src F S.net k⟩ ∧ FIs wr w.heap.size 35 F ∧ wr.heap[w.heap.size + 1]? = some (.cells #[.int .i64 (src : Int)] 3 (0, 0))) (fun j _ => 3 - (intOf j).toNat)
  case atStart => exact ⟨0, by omega, rfl, HST.out⟩
  case round =>
    obtain ⟨k, hk, rfl, hgo, hfr, hcp⟩ := hrel
    clear HST
    by_cases hk3 : k < 3
    · have hk' : (k : Int) < 3 := by omega
      have hcl := isNot1_any (k : Int) (src : Int) (w.heap.size + 1) wr ((blk_cell hcp 0).trans rfl)
      have HCL := hide hcl
      obtain ⟨D1, hp1, hS1, hm1, hg1⟩ := hgo
      have hsz := hm1.size
      by_cases hks : k = src
      · have e1 : ((k : Int) != (src : Int)) = false := by simp; omega
        rw [e1] at HCL
        have HR : Hid (SyGo w wr N D L win ⟨S.rp, S.v, othersN src F S.net (k + 1)⟩ ∧ FIs wr w.heap.size 35 F ∧ wr.heap[w.heap.size + 1]? = some (.cells #[.int .i64 (src : Int)] 3 (0, 0))) := hide ⟨⟨D1, hp1, by show SyIs wr N D1 L win ⟨S.rp, S.v, if k = src then othersN src F S.net k else _⟩; rw [if_pos hks]; exact hS1, hm1, hg1⟩, hfr, hcp⟩
        clear hS1 hm1 hg1 hfr hcp hcl hks e1
        go_wp2_with fail
        refine HCL.out.mono ?_
        rintro e wz ⟨rfl, rfl⟩
        go_wp2
        go_roundw
        case rel => exact ⟨k + 1, by omega, by go_num, HR.out⟩
        case measure => simp [intOf]; omega
      · have e1 : ((k : Int) != (src : Int)) = true := by simp; omega
        rw [e1] at HCL
        have hsnd := send_any N D1 L win ⟨S.rp, S.v, othersN src F S.net k⟩ wr F src k hS1 hF (Nat.le_trans hN hsz) (othersN_len hle k)
        rw [hp1] at hsnd
        have HSN : Hid (Calls Tryz.prog 72 #[.pointer (some ⟨D.p, 0, none⟩), .agg (fCells F), .int .i64 (k : Int)] wr fun e w' => e = .returned (.tuple #[]) ∧ Hid (SyGo w w' N D L win ⟨S.rp, S.v, othersN src F S.net (k + 1)⟩ ∧ FIs w' w.heap.size 35 F ∧ w'.heap[w.heap.size + 1]? = some (.cells #[.int .i64 (src : Int)] 3 (0, 0)))) := hide (by
          refine hsnd.mono ?_
          rintro e w2 ⟨rfl, hg2⟩
          refine ⟨rfl, hide ⟨?_, hg2.stays hS1 hfr (by decide), hg2.stays hS1 hcp (by decide)⟩⟩
          have e2 : othersN src F S.net (k + 1) = sendN src F k (othersN src F S.net k) := if_neg hks
          rw [e2]
          exact SyGo.then hp1 hm1 hg1 hg2)
        have HFR := hide hfr
        clear hS1 hm1 hg1 hfr hcp hcl hks e1 hsnd
        go_wp2_with fail
        refine HCL.out.mono ?_
        rintro e wz ⟨rfl, rfl⟩
        go_wp2_with (refine wpList_load_f rfl _ rfl w.heap.size rfl F HFR.out ?_)
        refine HSN.out.mono ?_
        rintro e w2 ⟨rfl, HR⟩
        go_wp2
        go_roundw
        case rel => exact ⟨k + 1, by omega, by go_num, HR.out⟩
        case measure => simp [intOf]; omega
    · have e3 : k = 3 := by omega
      subst e3
      have HG := hide hgo
      clear hgo hfr hcp
      go_wp2
      go_end0
      exact ⟨rfl, HG.out⟩
theorem LineIs.tick {C L : RC} (h : LineIs C L) (R : RS) : tickS C R = tickS L R := by
  obtain ⟨h1, h2, h3, h4⟩ := h
  unfold tickS
  rw [h1, h3]
theorem LineIs.second {C L : RC} (h : LineIs C L) (R : RS) : secondR C R = secondR L R := by
  obtain ⟨h1, h2, h3, h4⟩ := h
  unfold secondR voteR outR
  rw [h1, h2, h3, h4]
theorem LineIs.takes {C L : RC} (h : LineIs C L) (F : FR) (R : RS) : takeS C F R = takeS L F R ∧ takeT C F R = takeT L F R := by
  obtain ⟨h1, h2, h3, h4⟩ := h
  unfold takeS takeT doneT doneR nextR
  rw [h1, h2, h3, h4]
  exact ⟨rfl, rfl⟩
theorem SyIs.rpAt {w : World} {N win : Nat} {D : SC} {L : RC} {S : SY} (h : SyIs w N D L win S) {k : Nat} (hk : k < 3) : w.cell? ⟨D.p, 3 + k, none⟩ = some (.pointer (some ⟨D.rp k, 0, none⟩)) := by
  rw [h.at]
  rcases (by omega : k = 0 ∨ k = 1 ∨ k = 2) with rfl | rfl | rfl <;> rfl
theorem sampleR_from (R : RS) : sampleR R 1 = (R.id : Int) := rfl
set_option maxHeartbeats 2000000 in
set_option maxRecDepth 20000 in
theorem tickRep_any (N : Nat) (D : SC) (L : RC) (win : Nat) (S : SY) (w : World) (k : Nat) (hk : k < 3) (h : SyIs w N D L win S) (hok : RpOk (S.rp k)) (hid : (S.rp k).id = k) (hN : N ≤ w.heap.size) (hle : S.net.length ≤ 120) :
    Calls Tryz.prog 49 #[.pointer (some ⟨D.p, 0, none⟩), .int .i64 (k : Int)] w fun e w' => e = .returned (.tuple #[]) ∧ SyGo w w' N D L win (tickSy L k S) := by
  have hln := h.ln k hk
  have hcall := rtick_any (D.rp k) (D.C k) (S.rp k) w (h.rp k hk) hok
  rw [hln.tick, hln.second] at hcall
  have cr := h.rpAt hk
  have hk' : (k : Int) < 3 := by omega
  have hpl := h.lt
  have HC := hide hcall
  have H := hide h
  obtain ⟨R1, hR1⟩ : ∃ R, Hid (tickS L (S.rp k) = R) := ⟨_, hide rfl⟩
  have hid1 : R1.id = k := by rw [← hR1.out]; exact hid
  have HEQ : Hid (tickSy L k S = ⟨upd S.rp k R1, S.v, tickNet L k R1 S.net⟩) := by rw [Hid]; unfold tickSy; rw [hR1.out]
  rw [hR1.out] at HC
  clear hcall h hR1 hok
  go_enter Tryz.func49, Tryz.ntmps49
  go_wp2_with fail
  refine HC.out.mono ?_
  rintro e w1 ⟨rfl, hR, hm⟩
  obtain ⟨hS1, hM1⟩ := H.out.putR hk hm hR
  have HS1 := hide hS1
  have HM1 := hide hM1
  have q1 : FIs ((w1.alloc (.cells (fCells fr0) 35)).alloc (.cells (fCells fr0) 35)) w1.heap.size 35 fr0 := (Below.heap_alloc _ _ _ (by simp)).trans (blk_new _ _)
  have q2 : FIs ((w1.alloc (.cells (fCells fr0) 35)).alloc (.cells (fCells fr0) 35)) (w1.heap.size + 1) 35 fr0 := by
    have := blk_new (w1.alloc (.cells (fCells fr0) 35)) (.cells (fCells fr0) 35)
    rwa [show (w1.alloc (.cells (fCells fr0) 35)).heap.size = w1.heap.size + 1 by simp] at this
  have HQ1 := hide q1
  have HQ2 := hide q2
  clear q1 q2 hS1 hM1 hR hm HC
  go_wp2_with (refine wpList_store_fl rfl _ _ rfl w1.heap.size (sampleR R1) rfl rfl fr0 HQ1.out ?_)
  intro w2 HF2
  have HQ3 : Hid (FIs w2 (w1.heap.size + 1) 35 fr0) := hide ((HF2.out.2.1 _ (by omega)).trans HQ2.out)
  go_wp2_with (refine wpList_store_fl rfl _ _ rfl (w1.heap.size + 1) (secondR L R1) rfl rfl fr0 HQ3.out ?_)
  intro w3 HF3
  have HA : Hid (FIs w3 w1.heap.size 35 (sampleR R1)) := hide ((HF3.out.2.1 _ (by omega)).trans HF2.out.1)
  have HB : Hid (FIs w3 (w1.heap.size + 1) 35 (secondR L R1)) := hide HF3.out.1
  have hB3 : Below w1.heap.size w1 w3 := (((Below.refl _ _).alloc (Nat.le_refl _) _).alloc (by simp) _).trans ((HF2.out.2.2 _ (Nat.le_refl _)).trans (HF3.out.2.2 _ (by omega)))
  have hS3 := HS1.out.below hB3
  have hM3 : Mod w w3 (Wr D) := HM1.out.below hB3
  have hso := sendOthers_any N D L win ⟨upd S.rp k R1, S.v, S.net⟩ w3 (sampleR R1) k hS3 (by rw [sampleR_from, hid1]) (Nat.le_trans hN hM3.size) hle
  have HSO : Hid (Calls Tryz.prog 53 #[.pointer (some ⟨D.p, 0, none⟩), .agg (fCells (sampleR R1))] w3 fun e w' => e = .returned (.tuple #[]) ∧ Hid (SyGo w w' N D L win ⟨upd S.rp k R1, S.v, othersN k (sampleR R1) S.net 3⟩ ∧ FIs w' (w1.heap.size + 1) 35 (secondR L R1))) := hide (by
    refine hso.mono ?_
    rintro e w4 ⟨rfl, hg⟩
    exact ⟨rfl, hide ⟨SyGo.then rfl hM3 (Gr.refl _ _) hg, hg.stays hS3 HB.out (by decide)⟩⟩)
  clear hso hS3 hM3 hB3 HB HF3 HF2 HQ3 HQ2 HQ1 HS1 HM1 H
  go_wp2_with (refine wpList_load_f rfl _ rfl w1.heap.size rfl (sampleR R1) HA.out ?_)
  refine HSO.out.mono ?_
  rintro e w4 ⟨rfl, HG4⟩
  clear HSO HA
  cases hs : saysB R1
  · have HE : Hid (tickNet L k R1 S.net = othersN k (sampleR R1) S.net 3) := by rw [Hid]; unfold tickNet; rw [hs]; rfl
    go_wp2
    go_end0
    rw [HEQ.out, HE.out]
    exact ⟨rfl, HG4.out.1⟩
  · have HE : Hid (tickNet L k R1 S.net = sendN k (secondR L R1) 3 (othersN k (sampleR R1) S.net 3)) := by rw [Hid]; unfold tickNet; rw [hs]; rfl
    obtain ⟨⟨D4, hp4, hS4, hm4, hg4⟩, hf4⟩ := HG4.out
    have hF1 : secondR L R1 1 = (k : Int) := by
      have := hs
      unfold saysB at this
      unfold secondR
      split
      · show (R1.id : Int) = _; rw [hid1]
      · rename_i hv
        split
        · show (R1.id : Int) = _; rw [hid1]
        · rename_i ht
          rw [Bool.or_eq_true] at this
          rcases this with x | x
          · exact absurd x hv
          · exact absurd (of_decide_eq_true x) ht
    have hsd := send_any N D4 L win _ w4 (secondR L R1) k 3 hS4 hF1 (Nat.le_trans hN hm4.size) (othersN_len hle 3)
    rw [hp4] at hsd
    have HSD : Hid (Calls Tryz.prog 72 #[.pointer (some ⟨D.p, 0, none⟩), .agg (fCells (secondR L R1)), .int .i64 3] w4 fun e w' => e = .returned (.tuple #[]) ∧ SyGo w w' N D L win ⟨upd S.rp k R1, S.v, tickNet L k R1 S.net⟩) := hide (by
      rw [HE.out]
      refine hsd.mono ?_
      rintro e w5 ⟨rfl, hg⟩
      exact ⟨rfl, SyGo.then hp4 hm4 hg4 hg⟩)
    have HF4 := hide hf4
    clear hsd hS4 hm4 hg4 hf4 HG4 HE
    go_wp2_with (refine wpList_load_f rfl _ rfl (w1.heap.size + 1) rfl (secondR L R1) HF4.out ?_)
    refine HSD.out.mono ?_
    rintro e w5 ⟨rfl, hg5⟩
    go_wp2
    go_end0
    rw [HEQ.out]
    exact ⟨rfl, hg5⟩
theorem take_from (win : Nat) (V : VS) (F : FR) : ∀ G ∈ (takeF win V F).2.1, G 1 = 3 := by
  intro G hG
  unfold takeF at hG
  split at hG
  · simp at hG
  · split at hG
    · have hG' : G ∈ pastF V.tr (F 2).toNat := hG
      unfold pastF at hG'
      split at hG'
      · rw [List.mem_singleton.1 hG']; rfl
      · simp only [List.mem_cons, List.not_mem_nil, or_false] at hG'
        rcases hG' with rfl | rfl <;> rfl
    · split at hG
      · simp at hG
      · split at hG
        · simp at hG
        · rw [List.mem_singleton.1 hG]; rfl
theorem take_few (win : Nat) (V : VS) (F : FR) : (takeF win V F).2.1.length ≤ 2 := by
  unfold takeF
  split
  · simp
  · split
    · show (pastF V.tr (F 2).toNat).length ≤ 2
      unfold pastF
      split <;> simp
    · split
      · simp
      · split <;> simp
theorem sendsN_app (src dst : Nat) (F : FR) : ∀ (a : List FR) (l : List Pk), sendsN src dst (a ++ [F]) l = sendN src F dst (sendsN src dst a l)
  | [], _ => rfl
  | _ :: r, _ => sendsN_app src dst F r _
theorem allsN_app (src : Nat) (F : FR) : ∀ (a : List FR) (l : List Pk), allsN src (a ++ [F]) l = othersN src F (allsN src a l) 3
  | [], _ => rfl
  | _ :: r, _ => allsN_app src F r _
theorem take_next {Fs : List FR} {i : Nat} (hi : i < Fs.length) : Fs.take (i + 1) = Fs.take i ++ [Fs[i]?.getD fr0] := by
  rw [List.take_add_one, List.getElem?_eq_getElem hi]; rfl
theorem FRow.stays {w w' : World} {N win : Nat} {D : SC} {L : RC} {S S0 : SY} {v : Value} {Fs : List FR} (h : FRow w 35 v Fs) (hg : SyGo w w' N D L win S) (h0 : SyIs w N D L win S0) : FRow w' 35 v Fs := by
  rcases h with h | ⟨g, cap, rfl, h1, cs, h2, hc⟩
  · exact .inl h
  · exact .inr ⟨g, cap, rfl, h1, cs, hg.stays h0 h2 (by decide), hc⟩
theorem FRow.shape {w : World} {v : Value} {Fs : List FR} (h : FRow w 35 v Fs) : ∃ a cap, v = .slice a Fs.length cap := by
  rcases h with ⟨rfl, rfl⟩ | ⟨g, cap, rfl, _⟩
  · exact ⟨none, 0, rfl⟩
  · exact ⟨_, _, rfl⟩
theorem FRow.some {w : World} {a : Option Addr} {n cap : Nat} {Fs : List FR} (h : FRow w 35 (.slice a n cap) Fs) (h0 : 0 < Fs.length) : ∃ g, a = some ⟨g, 0, none⟩ := by
  rcases h with ⟨rfl, _⟩ | ⟨g, cap, e, _⟩
  · simp at h0
  · simp only [Value.slice.injEq] at e
    exact ⟨g, e.1⟩
def tellsN (al : Bool) (src : Nat) (Fs : List FR) (l : List Pk) : List Pk := if al then allsN 3 Fs l else sendsN 3 src Fs l
theorem tellsN_len (al : Bool) (src : Nat) (Fs : List FR) {l : List Pk} (h : l.length ≤ 120) : (tellsN al src Fs l).length ≤ 120 := by
  unfold tellsN
  split
  · exact allsN_len _ _ h
  · exact sendsN_len _ _ h
set_option maxHeartbeats 4000000 in
set_option maxRecDepth 20000 in
theorem tellVoter_any (N : Nat) (D : SC) (L : RC) (win : Nat) (S : SY) (w : World) (F : FR) (src : Nat) (h : SyIs w N D L win S) (hF : F 1 = (src : Int)) (hok : VOk win S.v) (hN : N ≤ w.heap.size) (hle : S.net.length ≤ 120) :
    Calls Tryz.prog 75 #[.pointer (some ⟨D.p, 0, none⟩), .agg (fCells F)] w fun e w' => e = .returned (.tuple #[]) ∧ SyGo w w' N D L win ⟨S.rp, (takeF win S.v F).1, voteNet win src S F⟩ := by
  obtain ⟨W, hW⟩ : ∃ W, Hid (w.alloc (.cells (fCells F) 35) = W) := ⟨_, hide rfl⟩
  have hB0 : Below w.heap.size w W := by rw [← hW.out]; exact (Below.refl _ _).alloc (Nat.le_refl _) _
  have hbx : FIs W w.heap.size 35 F := by rw [← hW.out]; exact blk_new _ _
  have hSW := h.below hB0
  have hSd := hSW.drew
  have hbd : FIs W.drew w.heap.size 35 F := hbx
  have hfr := take_from win S.v F
  have hfw := take_few win S.v F
  obtain ⟨T, hT⟩ : ∃ T, Hid (takeF win S.v F = T) := ⟨_, hide rfl⟩
  rw [hT.out] at hfr hfw
  obtain ⟨V1, Fs, al⟩ := T
  have hfw : Fs.length ≤ 2 := hfw
  have HEQ : Hid (voteNet win src S F = tellsN al src Fs S.net) := by rw [Hid]; unfold voteNet tellsN; rw [hT.out]
  have HV : Hid ((takeF win S.v F).1 = V1) := by rw [Hid, hT.out]
  have HSS : Hid (∀ wx, SyIs wx N D L win S → FIs wx w.heap.size 35 F → wx.cell? ⟨D.p, 6, none⟩ = some (.pointer (some ⟨D.vp, 0, none⟩)) ∧ FIs wx w.heap.size 35 F) := hide fun wx hx hf => ⟨(hx.at 6).trans rfl, hf⟩
  have hcall : Calls Tryz.prog 92 #[.pointer (some ⟨D.vp, 0, none⟩), .agg (fCells F)] W.drew fun e w1 => ∃ va vn vc, e = .returned (.tuple #[.slice va vn vc, .bool al]) ∧ vn = Fs.length ∧ (w1.cell? ⟨D.p, 6, none⟩ = some (.pointer (some ⟨D.vp, 0, none⟩)) ∧ FIs w1 w.heap.size 35 F) ∧ Hid (SyGo w w1 N D L win ⟨S.rp, V1, S.net⟩ ∧ FRow w1 35 (.slice va vn vc) Fs) := by
    refine (take_any N D.vp win D.tv S.v W.drew F hSd.vt hok (Nat.le_trans hN hB0.size)).mono ?_
    rw [hT.out]
    rintro e w1 ⟨v, tv', rfl, hr, hV, hmv, hm⟩
    have hgo := hSd.putV hm hV hmv
    obtain ⟨va, vc, hve⟩ := hr.shape
    subst hve
    refine ⟨va, _, vc, rfl, rfl, ⟨?_, hgo.stays hSd hbd (by decide)⟩, hide ⟨?_, hr⟩⟩
    · have : w1.heap[D.p]? = W.drew.heap[D.p]? := hm.block D.p hSd.lt (fun e => by
        rcases e with e | e
        · exact hSd.tyP.ne hSd.tyV (by decide) e
        · exact hSd.tyP.ne (hSd.tyT e) (by decide) rfl)
      rw [World.cell?_of_block (w := W.drew) this]
      exact (hSd.at 6).trans rfl
    · exact (hgo.pre ((Below.refl _ _).drew)).pre hB0
  have HC := hide hcall
  have HS0 : Hid (W.drew.cell? ⟨D.p, 6, none⟩ = some (.pointer (some ⟨D.vp, 0, none⟩)) ∧ FIs W.drew w.heap.size 35 F) := hide (unhide HSS _ hSd hbd)
  clear hcall hSd hbd hSW hbx hB0 h hT hok HSS
  go_enter Tryz.func75, Tryz.ntmps75
  go_wp2_with fail
  rw [show w.alloc (.cells (fCells F) 35) = W from hW.out]
  clear hW
  refine wp_region_held_drew (S := fun w' => w'.cell? ⟨D.p, 6, none⟩ = some (.pointer (some ⟨D.vp, 0, none⟩)) ∧ FIs w' w.heap.size 35 F) (by kernel_rfl) HS0.out (fun hHeld => ?_)
  refine wpAnyH_take (i := 0) (oi := _) (v := .pointer (some ⟨D.p, 0, none⟩)) rfl (by kernel_rfl) (by kernel_rfl) (by kernel_rfl) (fun _ _ _ h => h) (Or.inl ⟨by rfl, fun w _ => by go_simp⟩) hHeld ?_
  simp only [Act.put, List.getElem_toArray, List.getElem_cons_zero, List.setIfInBounds_toArray, List.set_cons_succ, List.set_cons_zero]
  refine wpAnyH_take (i := 1) (oi := _) (v := .pointer (some ⟨D.p, 0, none⟩)) rfl (by kernel_rfl) (by kernel_rfl) (by kernel_rfl) (fun _ _ _ h => h) (Or.inl ⟨by rfl, fun w _ => by go_simp⟩) hHeld ?_
  simp only [Act.put, List.getElem_toArray, List.getElem_cons_succ, List.getElem_cons_zero, List.setIfInBounds_toArray, List.set_cons_succ, List.set_cons_zero]
  refine wpAnyH_take (i := 2) (oi := _) (v := .pointer (some ⟨D.p, 6, none⟩)) rfl (by kernel_rfl) (by kernel_rfl) (by kernel_rfl) (fun _ _ _ h => h) (Or.inl ⟨by rfl, fun w _ => by go_simp⟩) hHeld ?_
  simp only [Act.put, List.getElem_toArray, List.getElem_cons_succ, List.getElem_cons_zero, List.setIfInBounds_toArray, List.set_cons_succ, List.set_cons_zero]
  refine wpAnyH_take (i := 3) (oi := _) (v := .pointer (some ⟨D.vp, 0, none⟩)) rfl (by kernel_rfl) (by kernel_rfl) (by kernel_rfl) (fun _ _ _ h => h) (Or.inl ⟨by rfl, fun w h => by obtain ⟨h1, _⟩ := h; go_simp⟩) hHeld ?_
  simp only [Act.put, List.getElem_toArray, List.getElem_cons_succ, List.getElem_cons_zero, List.setIfInBounds_toArray, List.set_cons_succ, List.set_cons_zero]
  refine wpAnyH_take (i := 4) (oi := _) (v := .agg (fCells F)) rfl (by kernel_rfl) (by kernel_rfl) (by kernel_rfl) (fun _ _ _ h => h) (yields_f (by rfl) _ rfl w.heap.size rfl F (fun w h => h.2)) hHeld ?_
  simp only [Act.put, List.getElem_toArray, List.getElem_cons_succ, List.getElem_cons_zero, List.setIfInBounds_toArray, List.set_cons_succ, List.set_cons_zero]
  refine wpAnyH_ready (rs := [5]) (by kernel_rfl) (by simp) ?_
  refine AllReadyH.cons (o := _) rfl (fun K hK => ?_) AllReadyH.nil
  rw [if_pos (by rfl)]
  go_simp
  go_at_call 92
  refine HC.out.mono ?_
  rintro e w1 ⟨va, vn, vc, rfl, hvn, hS1, HG1⟩
  have hvn2 : vn ≤ 2 := by omega
  have HVN := hide hvn
  clear hvn
  dsimp only
  refine hK.out _ _ hS1 (fun hHeld => ?_)
  clear hK K
  refine wpAnyH_take (i := 6) (oi := _) (v := .tuple #[.slice va vn vc, .bool al]) rfl (by kernel_rfl) (by kernel_rfl) (by kernel_rfl) (fun _ _ _ h => h) (Or.inl ⟨by rfl, fun w _ => by go_simp⟩) hHeld ?_
  simp only [Act.put, List.getElem_toArray, List.getElem_cons_succ, List.getElem_cons_zero, List.setIfInBounds_toArray, List.set_cons_succ, List.set_cons_zero]
  refine wpAnyH_take (i := 7) (oi := _) (v := .slice va vn vc) rfl (by kernel_rfl) (by kernel_rfl) (by kernel_rfl) (fun _ _ _ h => h) (Or.inl ⟨by rfl, fun w _ => by go_simp⟩) hHeld ?_
  simp only [Act.put, List.getElem_toArray, List.getElem_cons_succ, List.getElem_cons_zero, List.setIfInBounds_toArray, List.set_cons_succ, List.set_cons_zero]
  refine wpAnyH_take (i := 8) (oi := _) (v := .bool al) rfl (by kernel_rfl) (by kernel_rfl) (by kernel_rfl) (fun _ _ _ h => h) (Or.inl ⟨by rfl, fun w _ => by go_simp⟩) hHeld ?_
  simp only [Act.put, List.getElem_toArray, List.getElem_cons_succ, List.getElem_cons_zero, List.setIfInBounds_toArray, List.set_cons_succ, List.set_cons_zero]
  refine wpAnyH_take (i := 9) (oi := _) (v := .slice va vn vc) rfl (by kernel_rfl) (by kernel_rfl) (by kernel_rfl) (fun _ _ _ h => h) (Or.inl ⟨by rfl, fun w _ => by go_simp⟩) hHeld ?_
  simp only [Act.put, List.getElem_toArray, List.getElem_cons_succ, List.getElem_cons_zero, List.setIfInBounds_toArray, List.set_cons_succ, List.set_cons_zero]
  refine wpAnyH_take (i := 10) (oi := _) (v := .bool al) rfl (by kernel_rfl) (by kernel_rfl) (by kernel_rfl) (fun _ _ _ h => h) (Or.inl ⟨by rfl, fun w _ => by go_simp⟩) hHeld ?_
  simp only [Act.put, List.getElem_toArray, List.getElem_cons_succ, List.getElem_cons_zero, List.setIfInBounds_toArray, List.set_cons_succ, List.set_cons_zero]
  refine wpAnyH_done (by kernel_rfl) ?_ _
  have HB1 := hide hS1.2
  clear hHeld HS0 HC hS1
  go_wp2_with fail
  have HST : Hid (SyGo w w1 N D L win ⟨S.rp, V1, tellsN al src (Fs.take 0) S.net⟩ ∧ FRow w1 35 (.slice va vn vc) Fs ∧ FIs w1 w.heap.size 35 F) := hide ⟨by unfold tellsN; cases al <;> exact HG1.out.1, HG1.out.2, HB1.out⟩
  go_loopw [19] (fun j wr => ∃ k : Nat, k ≤ vn ∧ j = .int .i64 k ∧ SyGo w wr N D L win ⟨S.rp, V1, tellsN al src (Fs.take k) S.net⟩ ∧ FRow wr 35 (.slice va vn vc) Fs ∧ FIs wr w.heap.size 35 F) (fun j _ => vn - (intOf j).toNat)
  case atStart => exact ⟨0, by omega, rfl, HST.out⟩
  case round =>
    obtain ⟨k, hk, rfl, hgo, hrow, hfb⟩ := hrel
    clear HST HG1 HB1
    by_cases hk3 : k < vn
    · have hk' : (k : Int) < (vn : Int) := by omega
      have hkl : k < Fs.length := by rw [← HVN.out]; exact hk3
      obtain ⟨g, rfl⟩ := hrow.some (by omega)
      have hrg := hrow.range hkl
      have hnx := take_next hkl
      have hG1 : (Fs[k]?.getD fr0) 1 = 3 := by rw [List.getElem?_eq_getElem hkl]; exact hfr _ (List.getElem_mem hkl)
      obtain ⟨G, hG⟩ : ∃ G, Hid (Fs[k]?.getD fr0 = G) := ⟨_, hide rfl⟩
      rw [hG.out] at hrg hnx hG1
      have HRG := hide hrg
      have hB2 : Below wr.heap.size wr (wr.alloc (.cells (fCells fr0) 35)) := (Below.refl _ _).alloc (Nat.le_refl _) _
      have q1 : FIs (wr.alloc (.cells (fCells fr0) 35)) wr.heap.size 35 fr0 := blk_new _ _
      have HQ1 := hide q1
      have HRW := hide hrow
      have HFB := hide hfb
      have HGO := hide hgo
      clear hrg q1 hrow hfb hgo
      go_wp2_with (first
        | (refine wpList_load_mid rfl 35 _ rfl g (k * 23) rfl (fCells G).toList _ HRG.out Tryz.underlying35 rfl (by rw [infoFrame]; rfl) ?_)
        | (refine wpList_store_fl rfl _ _ rfl wr.heap.size G rfl rfl fr0 HQ1.out ?_))
      intro w2 HF2
      have hB3 : Below wr.heap.size wr w2 := hB2.trans (HF2.out.2.2 _ (Nat.le_refl _))
      obtain ⟨D2, hp2, hS2, hm2, hg2⟩ := HGO.out.below hB3
      have HF := hide HF2.out.1
      have z1 : w2.cell? ⟨w.heap.size, 1, none⟩ = some (.int .i64 (src : Int)) := by
        have hb := HFB.out.below HFB.out.lt hB3
        rw [hb.at (by omega), hF]
      have HRW2 := hide (HRW.out.below hB3)
      have HFB2 := hide (HFB.out.below HFB.out.lt hB3)
      clear HRG HQ1 HRW HFB HGO HF2 hB2 hB3
      have HNX : Hid (tellsN al src (Fs.take (k + 1)) S.net = if al then othersN 3 G (tellsN al src (Fs.take k) S.net) 3 else sendN 3 G src (tellsN al src (Fs.take k) S.net)) := by
        rw [Hid]
        unfold tellsN
        rw [hnx]
        cases al
        · exact sendsN_app _ _ _ _ _
        · exact allsN_app _ _ _ _
      have hend : ∀ (w3 : World) (net : List Pk), SyGo w2 w3 N D2 L win ⟨S.rp, V1, net⟩ → net = tellsN al src (Fs.take (k + 1)) S.net → SyGo w w3 N D L win ⟨S.rp, V1, tellsN al src (Fs.take (k + 1)) S.net⟩ ∧ FRow w3 35 (.slice (some ⟨g, 0, none⟩) vn vc) Fs ∧ FIs w3 w.heap.size 35 F := fun w3 net hg e => by
        rw [← e]
        exact ⟨SyGo.then hp2 hm2 hg2 hg, HRW2.out.stays hg hS2, hg.stays hS2 HFB2.out (by decide)⟩
      have hlen := tellsN_len al src (Fs.take k) hle
      cases al
      · have hsd := send_any N D2 L win _ w2 G 3 src hS2 hG1 (Nat.le_trans hN hm2.size) hlen
        rw [hp2] at hsd
        have HSD : Hid (Calls Tryz.prog 72 #[.pointer (some ⟨D.p, 0, none⟩), .agg (fCells G), .int .i64 (src : Int)] w2 fun e w' => e = .returned (.tuple #[]) ∧ Hid (SyGo w w' N D L win ⟨S.rp, V1, tellsN false src (Fs.take (k + 1)) S.net⟩ ∧ FRow w' 35 (.slice (some ⟨g, 0, none⟩) vn vc) Fs ∧ FIs w' w.heap.size 35 F)) := hide (by
          refine hsd.mono ?_
          rintro e w5 ⟨rfl, hg⟩
          exact ⟨rfl, hide (hend _ _ hg (by rw [HNX.out]; rfl))⟩)
        clear hsd hend hS2 hm2 hg2 hnx
        go_wp2_with (refine wpList_load_f rfl _ rfl wr.heap.size rfl G HF.out ?_)
        refine HSD.out.mono ?_
        rintro e w5 ⟨rfl, HR⟩
        go_wp2
        go_roundw
        case rel => exact ⟨k + 1, by omega, by go_num, HR.out⟩
        case measure => simp [intOf]; omega
      · have hsd := sendOthers_any N D2 L win _ w2 G 3 hS2 hG1 (Nat.le_trans hN hm2.size) hlen
        rw [hp2] at hsd
        have HSD : Hid (Calls Tryz.prog 53 #[.pointer (some ⟨D.p, 0, none⟩), .agg (fCells G)] w2 fun e w' => e = .returned (.tuple #[]) ∧ Hid (SyGo w w' N D L win ⟨S.rp, V1, tellsN true src (Fs.take (k + 1)) S.net⟩ ∧ FRow w' 35 (.slice (some ⟨g, 0, none⟩) vn vc) Fs ∧ FIs w' w.heap.size 35 F)) := hide (by
          refine hsd.mono ?_
          rintro e w5 ⟨rfl, hg⟩
          exact ⟨rfl, hide (hend _ _ hg (by rw [HNX.out]; rfl))⟩)
        clear hsd hend hS2 hm2 hg2 hnx
        go_wp2_with (refine wpList_load_f rfl _ rfl wr.heap.size rfl G HF.out ?_)
        refine HSD.out.mono ?_
        rintro e w5 ⟨rfl, HR⟩
        go_wp2
        go_roundw
        case rel => exact ⟨k + 1, by omega, by go_num, HR.out⟩
        case measure => simp [intOf]; omega
    · have hk' : ¬ (k : Int) < (vn : Int) := by omega
      have HG : Hid (SyGo w wr N D L win ⟨S.rp, V1, tellsN al src Fs S.net⟩) := hide (by
        have := hgo
        rw [show k = Fs.length by have := HVN.out; omega, List.take_length] at this
        exact this)
      clear hgo hrow hfb
      go_wp2
      go_end0
      rw [HV.out, HEQ.out]
      exact ⟨rfl, HG.out⟩
abbrev Seen := Nat → Nat → Bool → Nat → Prop
def SeenN (W : Seen) (j n c v : Nat) : Prop := (∀ b, c.testBit b = true → W j n false b) ∧ ∀ b, v.testBit b = true → W j n true b
def SeenA (W : Seen) (liar n c v : Nat) : Prop := (∀ b, c.testBit b = true → ∃ j, j < 3 ∧ j ≠ liar ∧ W j n false b) ∧ ∀ b, v.testBit b = true → ∃ j, j < 3 ∧ j ≠ liar ∧ W j n true b
def VoteOk (L : RC) (W : Seen) (liar : Nat) (tr : List Cm) (n : Nat) (d : Cm) : Prop := ∃ c v : Nat, d = ⟨c, v, (outOf L (stAt L tr n) c v : Nat)⟩ ∧ c < 2 ^ L.s ∧ v < 2 ^ L.n ∧ SeenA W liar n c v
structure HonF (L : RC) (W : Seen) (liar : Nat) (tr : List Cm) (src : Nat) (F : FR) : Prop where
  sample : F 0 = 1 → ∃ n c v : Nat, F 2 = n ∧ F 3 = c ∧ F 4 = v ∧ c < 2 ^ L.s ∧ v < 2 ^ L.n ∧ SeenN W src n c v
  vote : F 0 = 2 → ∃ n : Nat, F 2 = n ∧ n ≤ tr.length ∧ VoteOk L W liar tr n (cmF F)
  done : F 0 = 3 → ∃ n : Nat, F 2 = n ∧ n < tr.length ∧ F 3 = (cmAt tr n).c ∧ F 4 = (cmAt tr n).v
  known : F 0 = 5 → ∃ n : Nat, F 2 = n ∧ n ≤ tr.length ∧ ∀ j, j < 17 → F (6 + j) = stN (stAt L tr n) j
structure PkOk (L : RC) (W : Seen) (liar : Nat) (tr : List Cm) (p : Pk) : Prop where
  src : p.src ≤ 3
  dst : p.dst ≤ 3
  len : p.b.length ≤ 80
  byte : ∀ x ∈ p.b, x < 256
  hon : (p.src = liar ∧ p.src < 3) ∨ (decF p.b).1 ≠ 0 ∨ HonF L W liar tr p.src (decF p.b).2
def ToldOk (L : RC) (tr : List Cm) (T : Nat → Int) : Prop := (∀ i, i < 18 → T i = 0) ∨ ∃ n : Nat, n ≤ tr.length ∧ T 0 = n ∧ ∀ i, i < 17 → T (1 + i) = stN (stAt L tr n) i
structure RpInv (L : RC) (W : Seen) (liar : Nat) (tr : List Cm) (T k : Nat) (R : RS) : Prop where
  id : R.id = k
  ticks : 0 ≤ R.ticks ∧ R.ticks ≤ (T : Int)
  came : ∀ j, j < 3 → 0 ≤ (R.smp j).came ∧ (R.smp j).came ≤ R.ticks
  smp : ∀ j, j < 3 → (R.smp j).c < 2 ^ L.s ∧ (R.smp j).v < 2 ^ L.n
  cyc : ∃ n : Nat, R.cycle = n ∧ n ≤ tr.length ∧ R.st = stAt L tr n ∧ ∀ j, j < 3 → j ≠ liar → SeenN W j n (R.smp j).c (R.smp j).v
  told : ∀ j, j < 3 → j ≠ liar → ToldOk L tr (R.told j)
  me : ∀ i, i < 18 → R.told k i = 0
  ahead : 0 ≤ R.ahead ∧ (R.ahead < (tr.length : Int) ∨ R.ahead = 0)
structure SInv (L : RC) (W : Seen) (liar win T : Nat) (S : SY) : Prop where
  rp : ∀ k, k < 3 → RpInv L W liar S.v.tr T k (S.rp k)
  vok : VOk win S.v
  tr : ∀ i, i < S.v.tr.length → VoteOk L W liar S.v.tr i (cmAt S.v.tr i)
  votes : ∀ k, k < 3 → k ≠ liar → S.v.b k = true → VoteOk L W liar S.v.tr S.v.tr.length (S.v.x k)
  out : ∀ k, k < 3 → k ≠ liar → S.v.out.testBit k = false
  apart : ∀ i j, i ≠ j → S.v.b i = true → S.v.b j = true → S.v.x i ≠ S.v.x j
  few : ∀ i, 3 ≤ i → S.v.b i = false
  many : S.net.length ≤ 120
  net : ∀ p ∈ S.net, PkOk L W liar S.v.tr p
section
variable {L : RC} {W W' : Seen} {liar win T n k : Nat} {tr : List Cm}
theorem VoteOk.app {d : Cm} (h : VoteOk L W liar tr n d) (hn : n ≤ tr.length) (a : List Cm) : VoteOk L W liar (tr ++ a) n d := by
  obtain ⟨c, v, h1, h2⟩ := h
  exact ⟨c, v, by rw [stAt_app hn]; exact h1, h2⟩
theorem HonF.app {src : Nat} {F : FR} (h : HonF L W liar tr src F) (a : List Cm) : HonF L W liar (tr ++ a) src F := by
  refine ⟨h.sample, fun e => ?_, fun e => ?_, fun e => ?_⟩
  · obtain ⟨n, h1, h2, h3⟩ := h.vote e
    exact ⟨n, h1, by rw [List.length_append]; omega, h3.app h2 a⟩
  · obtain ⟨n, h1, h2, h3, h4⟩ := h.done e
    exact ⟨n, h1, by rw [List.length_append]; omega, by rw [cmAt_app h2]; exact h3, by rw [cmAt_app h2]; exact h4⟩
  · obtain ⟨n, h1, h2, h3⟩ := h.known e
    exact ⟨n, h1, by rw [List.length_append]; omega, by rw [stAt_app h2]; exact h3⟩
theorem PkOk.app {p : Pk} (h : PkOk L W liar tr p) (a : List Cm) : PkOk L W liar (tr ++ a) p := by
  refine ⟨h.src, h.dst, h.len, h.byte, ?_⟩
  rcases h.hon with h | h | h
  · exact .inl h
  · exact .inr (.inl h)
  · exact .inr (.inr (h.app a))
theorem ToldOk.app {U : Nat → Int} (h : ToldOk L tr U) (a : List Cm) : ToldOk L (tr ++ a) U := by
  rcases h with h | ⟨n, h1, h2, h3⟩
  · exact .inl h
  · exact .inr ⟨n, by rw [List.length_append]; omega, h2, by rw [stAt_app h1]; exact h3⟩
theorem RpInv.app {R : RS} (h : RpInv L W liar tr T k R) (a : List Cm) : RpInv L W liar (tr ++ a) T k R := by
  obtain ⟨n, c1, c2, c3, c4⟩ := h.cyc
  refine ⟨h.id, h.ticks, h.came, h.smp, ⟨n, c1, by rw [List.length_append]; omega, by rw [stAt_app c2]; exact c3, c4⟩, fun j hj hl => (h.told j hj hl).app a, h.me, h.ahead.1, ?_⟩
  rcases h.ahead.2 with h | h
  · left; rw [List.length_append]; omega
  · exact .inr h
def Seen.le (W W' : Seen) : Prop := ∀ j n x b, W j n x b → W' j n x b
theorem SeenN.le {j c v : Nat} (h : SeenN W j n c v) (hW : W.le W') : SeenN W' j n c v := ⟨fun b hb => hW _ _ _ _ (h.1 b hb), fun b hb => hW _ _ _ _ (h.2 b hb)⟩
theorem SeenA.le {c v : Nat} (h : SeenA W liar n c v) (hW : W.le W') : SeenA W' liar n c v := by
  refine ⟨fun b hb => ?_, fun b hb => ?_⟩
  · obtain ⟨j, h1, h2, h3⟩ := h.1 b hb; exact ⟨j, h1, h2, hW _ _ _ _ h3⟩
  · obtain ⟨j, h1, h2, h3⟩ := h.2 b hb; exact ⟨j, h1, h2, hW _ _ _ _ h3⟩
theorem VoteOk.le {d : Cm} (h : VoteOk L W liar tr n d) (hW : W.le W') : VoteOk L W' liar tr n d := by
  obtain ⟨c, v, h1, h2, h3, h4⟩ := h
  exact ⟨c, v, h1, h2, h3, h4.le hW⟩
theorem PkOk.le {p : Pk} (h : PkOk L W liar tr p) (hW : W.le W') : PkOk L W' liar tr p := by
  refine ⟨h.src, h.dst, h.len, h.byte, ?_⟩
  rcases h.hon with h | h | h
  · exact .inl h
  · exact .inr (.inl h)
  · refine .inr (.inr ⟨fun e => ?_, fun e => ?_, h.done, h.known⟩)
    · obtain ⟨n, c, v, h1, h2, h3, h4, h5, h6⟩ := h.sample e
      exact ⟨n, c, v, h1, h2, h3, h4, h5, h6.le hW⟩
    · obtain ⟨n, h1, h2, h3⟩ := h.vote e
      exact ⟨n, h1, h2, h3.le hW⟩
theorem RpInv.le {R : RS} (h : RpInv L W liar tr T k R) (hW : W.le W') : RpInv L W' liar tr T k R := by
  obtain ⟨n, c1, c2, c3, c4⟩ := h.cyc
  exact ⟨h.id, h.ticks, h.came, h.smp, ⟨n, c1, c2, c3, fun j hj hl => (c4 j hj hl).le hW⟩, h.told, h.me, h.ahead⟩
theorem SInv.le {S : SY} (h : SInv L W liar win T S) (hW : W.le W') : SInv L W' liar win T S :=
  ⟨fun k hk => (h.rp k hk).le hW, h.vok, fun i hi => (h.tr i hi).le hW, fun k hk hl hb => (h.votes k hk hl hb).le hW, h.out, h.apart, h.few, h.many, fun p hp => (h.net p hp).le hW⟩
theorem RpInv.later {R : RS} (h : RpInv L W liar tr T k R) {T' : Nat} (hT : T ≤ T') : RpInv L W liar tr T' k R := ⟨h.id, ⟨h.ticks.1, by have := h.ticks.2; omega⟩, h.came, h.smp, h.cyc, h.told, h.me, h.ahead⟩
theorem SInv.later {S : SY} (h : SInv L W liar win T S) {T' : Nat} (hT : T ≤ T') : SInv L W liar win T' S := ⟨fun k hk => (h.rp k hk).later hT, h.vok, h.tr, h.votes, h.out, h.apart, h.few, h.many, h.net⟩
theorem RpInv.ok {R : RS} (h : RpInv L W liar tr T k R) (hk : k < 3) (hL : LOk L) (hT : T < 8000000) (ht : tr.length ≤ 1000) : RpOk R ∧ 0 ≤ R.cycle ∧ R.cycle < 1000000000 := by
  obtain ⟨n, c1, c2, c3, _⟩ := h.cyc
  have hf := hL.few
  have ht := h.ticks
  refine ⟨⟨by rw [h.id]; exact hk, ⟨ht.1, by omega⟩, fun j hj => ?_, ⟨fun j hj => ?_, fun j hj => ?_⟩, ?_⟩, by omega, by omega⟩
  · have := h.came j hj; omega
  · exact Nat.lt_of_lt_of_le (h.smp j hj).1 (Nat.pow_le_pow_right (n := 2) (by decide) (show L.s ≤ 12 by omega))
  · exact Nat.lt_of_lt_of_le (h.smp j hj).2 (Nat.pow_le_pow_right (n := 2) (by decide) (show L.n ≤ 8 by omega))
  · rw [c3]
    exact good_ok hL.ok (by rw [hL.len]; exact stAt_good hL tr n c2) (by omega)
theorem two3_bit {a b c i : Nat} (h : (two3 a b c).testBit i = true) : (a.testBit i = true ∧ b.testBit i = true) ∨ (b.testBit i = true ∧ c.testBit i = true) ∨ (c.testBit i = true ∧ a.testBit i = true) := by
  unfold two3 at h
  simp only [Nat.testBit_or, Nat.testBit_and, Bool.or_eq_true, Bool.and_eq_true] at h
  rcases h with (h | h) | h
  · exact .inl h
  · exact .inr (.inl h)
  · exact .inr (.inr h)
theorem two_seen {f : Nat → Nat} {i : Nat} {P : Nat → Prop} (h : (two3 (f 0) (f 1) (f 2)).testBit i = true) (hP : ∀ j, j < 3 → j ≠ liar → (f j).testBit i = true → P j) : ∃ j, j < 3 ∧ j ≠ liar ∧ P j := by
  have one : ∀ j, j < 3 → j ≠ liar → (f j).testBit i = true → ∃ j, j < 3 ∧ j ≠ liar ∧ P j := fun j hj hl hb => ⟨j, hj, hl, hP j hj hl hb⟩
  rcases two3_bit h with ⟨h1, h2⟩ | ⟨h1, h2⟩ | ⟨h1, h2⟩
  · by_cases e : 0 = liar
    · exact one 1 (by omega) (by omega) h2
    · exact one 0 (by omega) e h1
  · by_cases e : 1 = liar
    · exact one 2 (by omega) (by omega) h2
    · exact one 1 (by omega) e h1
  · by_cases e : 2 = liar
    · exact one 0 (by omega) (by omega) h2
    · exact one 2 (by omega) e h1
theorem fuse_seen {R : RS} (h : ∀ j, j < 3 → j ≠ liar → SeenN W j n (R.smp j).c (R.smp j).v) : SeenA W liar n (fuseC R) (fuseV R) :=
  ⟨fun b hb => two_seen (f := fun j => (R.smp j).c) hb fun j hj hl hb => (h j hj hl).1 b hb, fun b hb => two_seen (f := fun j => (R.smp j).v) hb fun j hj hl hb => (h j hj hl).2 b hb⟩
theorem dec_bytes (F : FR) : (decF (bytesF F)).1 ≠ 0 ∨ ∀ k, k < 23 → (decF (bytesF F)).2 k = F k := by
  unfold bytesF
  split
  · rename_i h
    obtain ⟨G, h1, h2⟩ := dec_enc h
    right
    rw [h1]
    exact h2
  · left
    rw [dec_form (by left; simp)]
    simp
theorem enc_byte (F : FR) : ∀ x ∈ encF F, x < 256 := withSum_lt (bytesN_lt _)
def SaysF (L : RC) (W : Seen) (liar : Nat) (tr : List Cm) (src : Nat) (F : FR) : Prop := (src = liar ∧ src < 3) ∨ HonF L W liar tr src F
theorem HonF.congr {src : Nat} {F G : FR} (h : HonF L W liar tr src F) (e : ∀ k, k < 23 → G k = F k) : HonF L W liar tr src G := by
  have e0 := e 0 (by omega)
  have e2 := e 2 (by omega)
  have e3 := e 3 (by omega)
  have e4 := e 4 (by omega)
  have e5 := e 5 (by omega)
  have ec : cmF G = cmF F := by unfold cmF; rw [e3, e4, e5]
  refine ⟨fun h0 => ?_, fun h0 => ?_, fun h0 => ?_, fun h0 => ?_⟩
  · rw [e2, e3, e4]; exact h.sample (e0 ▸ h0)
  · rw [e2, ec]; exact h.vote (e0 ▸ h0)
  · rw [e2, e3, e4]; exact h.done (e0 ▸ h0)
  · obtain ⟨n, h1, h2, h3⟩ := h.known (e0 ▸ h0)
    exact ⟨n, by rw [e2]; exact h1, h2, fun j hj => by rw [e _ (by omega)]; exact h3 j hj⟩
theorem pk_sent {src dst : Nat} {F : FR} (h1 : src ≤ 3) (h2 : dst ≤ 3) (h : SaysF L W liar tr src F) : PkOk L W liar tr ⟨src, dst, bytesF F⟩ := by
  refine ⟨h1, h2, ?_, ?_, ?_⟩
  · show (bytesF F).length ≤ 80
    unfold bytesF
    split
    · have := enc_len F; omega
    · simp
  · show ∀ x ∈ bytesF F, x < 256
    unfold bytesF
    split
    · exact enc_byte F
    · simp
  · rcases h with h | h
    · exact .inl h
    · rcases dec_bytes F with e | e
      · exact .inr (.inl e)
      · exact .inr (.inr (h.congr e))
def NetOk (L : RC) (W : Seen) (liar : Nat) (tr : List Cm) (l : List Pk) : Prop := l.length ≤ 120 ∧ ∀ p ∈ l, PkOk L W liar tr p
theorem NetOk.put {l : List Pk} {p : Pk} (h : NetOk L W liar tr l) (hp : PkOk L W liar tr p) : NetOk L W liar tr (putP p l) := by
  unfold putP
  split
  · exact h
  · refine ⟨by rw [List.length_append]; simp; omega, fun q hq => ?_⟩
    rcases List.mem_append.1 hq with hq | hq
    · exact h.2 q hq
    · rw [List.mem_singleton.1 hq]; exact hp
theorem NetOk.send {l : List Pk} {src dst : Nat} {F : FR} (h : NetOk L W liar tr l) (h1 : src ≤ 3) (h2 : dst ≤ 3) (hF : SaysF L W liar tr src F) : NetOk L W liar tr (sendN src F dst l) := h.put (pk_sent h1 h2 hF)
theorem NetOk.others {l : List Pk} {src : Nat} {F : FR} (h : NetOk L W liar tr l) (h1 : src ≤ 3) (hF : SaysF L W liar tr src F) : ∀ k, k ≤ 4 → NetOk L W liar tr (othersN src F l k)
  | 0, _ => h
  | k + 1, hk => by
    unfold othersN
    split
    · exact h.others h1 hF k (by omega)
    · exact (h.others h1 hF k (by omega)).send h1 (by omega) hF
theorem NetOk.sends {src dst : Nat} (h1 : src ≤ 3) (h2 : dst ≤ 3) : ∀ (Fs : List FR) (l : List Pk), NetOk L W liar tr l → (∀ F ∈ Fs, SaysF L W liar tr src F) → NetOk L W liar tr (sendsN src dst Fs l)
  | [], _, h, _ => h
  | F :: r, l, h, hF => NetOk.sends h1 h2 r _ (h.send h1 h2 (hF F (by simp))) fun G hG => hF G (by simp [hG])
theorem NetOk.alls {src : Nat} (h1 : src ≤ 3) : ∀ (Fs : List FR) (l : List Pk), NetOk L W liar tr l → (∀ F ∈ Fs, SaysF L W liar tr src F) → NetOk L W liar tr (allsN src Fs l)
  | [], _, h, _ => h
  | F :: r, l, h, hF => NetOk.alls h1 r _ (h.others h1 (hF F (by simp)) 3 (by omega)) fun G hG => hF G (by simp [hG])
theorem NetOk.erase {l : List Pk} (h : NetOk L W liar tr l) (i : Nat) : NetOk L W liar tr (l.eraseIdx i) :=
  ⟨Nat.le_trans (List.length_eraseIdx_le l i) h.1, fun p hp => h.2 p (List.mem_of_mem_eraseIdx hp)⟩
theorem NetOk.app {l : List Pk} (h : NetOk L W liar tr l) (a : List Cm) : NetOk L W liar (tr ++ a) l := ⟨h.1, fun p hp => (h.2 p hp).app a⟩
theorem hon_ask (src : Nat) (c : Int) (x : Int) : HonF L W liar tr src (startF 4 x c) := ⟨fun h => by simp [startF] at h, fun h => by simp [startF] at h, fun h => by simp [startF] at h, fun h => by simp [startF] at h⟩
theorem hon_sample {src c v : Nat} (x : Int) (hc : c < 2 ^ L.s) (hv : v < 2 ^ L.n) (h : SeenN W src n c v) : HonF L W liar tr src (inF 1 x (n : Int) (c : Int) (v : Int)) :=
  ⟨fun _ => ⟨n, c, v, rfl, rfl, rfl, hc, hv, h⟩, fun h => by simp [inF] at h, fun h => by simp [inF] at h, fun h => by simp [inF] at h⟩
theorem hon_vote {src : Nat} {d : Cm} (x : Int) (hn : n ≤ tr.length) (h : VoteOk L W liar tr n d) : HonF L W liar tr src (votF 2 x (n : Int) d.c d.v d.o) :=
  ⟨fun h => by simp [votF] at h, fun _ => ⟨n, rfl, hn, h⟩, fun h => by simp [votF] at h, fun h => by simp [votF] at h⟩
theorem hon_done {src : Nat} (hn : n < tr.length) : HonF L W liar tr src (doneF n (cmAt tr n)) :=
  ⟨fun h => by simp [doneF, votF] at h, fun h => by simp [doneF, votF] at h, fun _ => ⟨n, rfl, hn, rfl, rfl⟩, fun h => by simp [doneF, votF] at h⟩
theorem hon_known {src : Nat} {R : RS} (hc : R.cycle = n) (hn : n ≤ tr.length) (hs : R.st = stAt L tr n) : HonF L W liar tr src (knownR R) := by
  refine ⟨fun h => by simp [knownR] at h, fun h => by simp [knownR] at h, fun h => by simp [knownR] at h, fun _ => ⟨n, hc, hn, fun j hj => ?_⟩⟩
  unfold knownR
  rw [if_neg (by omega), if_neg (by omega), if_neg (by omega), if_neg (by omega), hs, show 6 + j - 6 = j by omega]
end
end Go.Proofs.YtaablbmgagiajaaGreatDoor
