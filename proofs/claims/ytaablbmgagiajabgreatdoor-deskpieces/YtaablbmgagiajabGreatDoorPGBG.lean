import Derived.Test.YtaablbmgagiajabGreatDoorPGBF
import Derived.Test.YtaablbmgagiajabGreatDoorPGBB
namespace Go.Proofs.YtaablbmgagiajabGreatDoor
open Go.RowKit Go.Deep
def comeC (L : RC) (win : Nat) (p : Pk) (S : SY) : Int :=
  if isNone p then 0 else if p.dst = 3 then voteC win S (decF p.b).2 else ((takeT L (decF p.b).2 (S.rp p.dst)).length : Int)
def arrC (L : RC) (win i : Nat) (S : SY) : Int := comeC L win (pkAt S.net i) (outSy i S) - 1
set_option maxHeartbeats 4000000 in
set_option maxRecDepth 20000 in
theorem arriveC {W : Seen} {liar T : Nat} (N : Nat) (D : SC) (L : RC) (win : Nat) (S : SY) (w : World) (i : Nat) (h : SyIs w N D L win S) (hI : SInv L W liar win T S) (hL : LOk L) (hT : T < 8000000) (hi : i < S.net.length) (hN : N ≤ w.heap.size) (c : Int) (hc : cI D S c) :
    Calls Tryz.prog 75 #[.pointer (some ⟨D.p, 0, none⟩), .int .i64 (i : Int)] w fun e w' => e = .returned (.tuple #[]) ∧ SyGoC w w' N D L win (arriveSy L win i S) (c + arrC L win i S) := by
  obtain ⟨g, cap, hnv⟩ := h.netHas (by omega)
  have hrg := h.pkRange hnv hi
  have hby := h.bytes hi
  have hpk := hI.net _ (pkAt_mem hi)
  obtain ⟨q, hq⟩ : ∃ q, Hid (pkAt S.net i = q) := ⟨_, hide rfl⟩
  obtain ⟨u, hu⟩ : ∃ u, Hid (D.us[i]?.getD undef = u) := ⟨_, hide rfl⟩
  rw [hq.out] at hpk
  rw [hq.out, hu.out] at hrg hby
  obtain ⟨ua, uc, hue, hib⟩ := hby.isB
  subst hue
  have HRG := hide hrg
  have c7 : w.cell? ⟨D.p, 7, none⟩ = some (.slice (some ⟨g, 0, none⟩) S.net.length cap) := (h.at 7).trans (by show some D.nv = _; rw [hnv])
  have hi' : (i : Int) < (S.net.length : Int) := by omega
  have hlenq := hpk.len
  have hle := hI.many
  obtain ⟨W0, hW0⟩ : ∃ W0, Hid (w.alloc (.cells #[.int .i64 (q.src : Int), .int .i64 (q.dst : Int), .slice ua q.b.length uc] 134) = W0) := ⟨_, hide rfl⟩
  have hB0 : Below w.heap.size w W0 := by rw [← hW0.out]; exact (Below.refl _ _).alloc (Nat.le_refl _) _
  have hbx : W0.heap[w.heap.size]? = some (.cells #[.int .i64 (q.src : Int), .int .i64 (q.dst : Int), .slice ua q.b.length uc] 134 (0, 0)) := by rw [← hW0.out]; exact blk_new _ _
  have hnw : ¬ Wr D w.heap.size := fun hw => Nat.lt_irrefl _ (h.wrLt hw)
  have hS0 := h.below hB0
  have hrm := removeC N D L win S W0 i hS0 hi hle c hc
  have hAR : arriveSy L win i S = comeSy L win q (outSy i S) := by unfold arriveSy; rw [hq.out]
  have hI2 := hI.outs i
  have hdec : Calls Tryz.prog 76 #[.pointer (some ⟨D.p, 0, none⟩), .int .i64 (i : Int)] W0 fun e w2 => e = .returned (.tuple #[]) ∧ w2.cell? ⟨w.heap.size, 2, none⟩ = some (.slice ua q.b.length uc) ∧
      Hid (Calls Tryz.prog 79 #[.slice ua q.b.length uc] w2 fun e w3 => e = .returned (.tuple #[.agg (fCells (decF q.b).2), errV (decF q.b).1]) ∧ Hid (SyGoC w w3 N D L win (outSy i S) (c - 1) ∧ w3.heap[w.heap.size]? = some (.cells #[.int .i64 (q.src : Int), .int .i64 (q.dst : Int), .slice ua q.b.length uc] 134 (0, 0)) ∧ ∃ D3, D3.p = D.p ∧ SyIs w3 N D3 L win (outSy i S) ∧ Mod w w3 (Wr D) ∧ GrC w.heap.size D D3 ∧ cI D3 (outSy i S) (c - 1) ∧ ¬ Wr D3 w.heap.size)) := by
    refine hrm.mono ?_
    rintro e w2 ⟨rfl, hg⟩
    have hk : w2.heap[w.heap.size]? = some (.cells #[.int .i64 (q.src : Int), .int .i64 (q.dst : Int), .slice ua q.b.length uc] 134 (0, 0)) := (hg.go.keeps hnw (blk_lt hbx)).trans hbx
    refine ⟨rfl, (blk_cell hk 2).trans rfl, hide ?_⟩
    obtain ⟨D2, hp2, hS2, hm2, hg2, hc2⟩ := hg
    have hb2 : BytesIs w2 (.slice ua q.b.length uc) q.b := (hby.below hB0).mod hm2 fun k hk => hS0.wrByte hk
    obtain ⟨a', c', e', hib2⟩ := hb2.isB
    simp only [Value.slice.injEq, true_and] at e'
    obtain ⟨rfl, rfl⟩ := e'
    refine (decode_any ua _ uc q.b w2 (by omega) hib2).mono ?_
    rintro e w3 ⟨rfl, hB3⟩
    have hm3 : Mod w w3 (Wr D) := ((Mod.ofBelow hB0 (Wr D)).then hm2 (fun _ _ x => x)).below hB3
    have hg3 : GrC w.heap.size D D2 := hg2.le hB0.size
    refine ⟨rfl, hide ⟨⟨D2, hp2, hS2.below hB3, hm3, hg3, hc2⟩, (hB3.block _ (blk_lt hk)).trans hk, D2, hp2, hS2.below hB3, hm3, hg3, hc2, fun x => ?_⟩⟩
    rcases hg2.gr.wr _ x with y | y
    · exact hnw y
    · have := blk_lt hbx; omega
  have HD := hide hdec
  have HPK := hide hpk
  have HI2 := hide hI2
  have HL := hide hL
  have HAR := hide hAR
  clear hdec hrg h hby hib hnv hrm hS0 hB0 hbx hI hI2 hpk hL hAR hnw hle
  go_enter Tryz.func75, Tryz.ntmps75
  go_wp2_with (refine wpList_load_mid rfl 134 _ rfl g (i * 3) rfl _ _ HRG.out Tryz.underlying134 rfl (by rw [infoPacket3]; rfl) ?_)
  rw [show w.alloc (.cells #[.int .i64 (q.src : Int), .int .i64 (q.dst : Int), .slice ua q.b.length uc] 134) = W0 from hW0.out]
  refine HD.out.mono ?_
  rintro e w2 ⟨rfl, z2, HD2⟩
  clear HD hW0 HRG c7 hi'
  go_wp2_with fail
  refine HD2.out.mono ?_
  rintro e w3 ⟨rfl, HG3⟩
  clear HD2 z2
  have q1 : FIs (w3.alloc (.cells (fCells fr0) 36)) w3.heap.size 36 fr0 := blk_new _ _
  have HQ1 := hide q1
  have HIN : Hid ((decF q.b).1 = 0 → FIn (decF q.b).2) := hide dec_in
  have HNO : Hid (isNone q → comeSy L win q (outSy i S) = outSy i S) := hide fun hn => by unfold comeSy; rw [if_pos hn]
  have HN1 : Hid ((decF q.b).1 ≠ 0 → isNone q) := hide .inl
  have HN2 : Hid ((decF q.b).2 1 ≠ (q.src : Int) → isNone q) := hide .inr
  have HVO : Hid ((decF q.b).1 = 0 → (decF q.b).2 1 = (q.src : Int) → q.dst = 3 → comeSy L win q (outSy i S) = ⟨S.rp, (takeF win S.v (decF q.b).2).1, voteNet win q.src (outSy i S) (decF q.b).2⟩) := hide fun a b c => by
    unfold comeSy
    rw [if_neg (by rintro (x | x); exact x a; exact x b), if_pos c]
    rfl
  have HRP : Hid ((decF q.b).1 = 0 → (decF q.b).2 1 = (q.src : Int) → q.dst ≠ 3 → comeSy L win q (outSy i S) = ⟨upd S.rp q.dst (takeS L (decF q.b).2 (S.rp q.dst)), S.v, sendsN q.dst q.src (takeT L (decF q.b).2 (S.rp q.dst)) (S.net.eraseIdx i)⟩) := hide fun a b c => by
    unfold comeSy
    rw [if_neg (by rintro (x | x); exact x a; exact x b), if_neg c]
    rfl
  have HCN : Hid (isNone q → arrC L win i S = -1) := hide fun hn => by
    unfold arrC; rw [hq.out]; unfold comeC; rw [if_pos hn]; rfl
  have HCV : Hid ((decF q.b).1 = 0 → (decF q.b).2 1 = (q.src : Int) → q.dst = 3 → arrC L win i S = voteC win (outSy i S) (decF q.b).2 - 1) := hide fun a b d => by
    unfold arrC; rw [hq.out]; unfold comeC
    rw [if_neg (by rintro (x | x); exact x a; exact x b), if_pos d]
  have HCR : Hid ((decF q.b).1 = 0 → (decF q.b).2 1 = (q.src : Int) → q.dst ≠ 3 → arrC L win i S = ((takeT L (decF q.b).2 (S.rp q.dst)).length : Int) - 1) := hide fun a b d => by
    unfold arrC; rw [hq.out]; unfold comeC
    rw [if_neg (by rintro (x | x); exact x a; exact x b), if_neg d]
    rfl
  clear q1
  generalize (decF q.b).2 = F at HIN HN2 HVO HRP HCV HCR ⊢
  generalize (decF q.b).1 = er at HIN HN1 HVO HRP HCV HCR ⊢
  go_wp2_with (refine wpList_store_fl rfl _ _ rfl w3.heap.size F rfl rfl fr0 HQ1.out ?_)
  intro w4 HF4
  have hB4 : Below w3.heap.size w3 w4 := ((Below.refl _ _).alloc (Nat.le_refl _) _).trans (HF4.out.2.2 _ (Nat.le_refl _))
  obtain ⟨_, hbx3, D3, hp3, hS3, hm3, hg3, hc3, hn3⟩ := HG3.out
  have hbx4 := (hB4.block _ (blk_lt hbx3)).trans hbx3
  have hS4 := hS3.below hB4
  have hm4 : Mod w w4 (Wr D) := hm3.below hB4
  have x0 : w4.cell? ⟨w.heap.size, 0, none⟩ = some (.int .i64 (q.src : Int)) := (blk_cell hbx4 0).trans rfl
  have x1 : w4.cell? ⟨w.heap.size, 1, none⟩ = some (.int .i64 (q.dst : Int)) := (blk_cell hbx4 1).trans rfl
  have y1 : w4.cell? ⟨w3.heap.size, 1, none⟩ = some (.int .i64 (F 1)) := HF4.out.1.at (by omega)
  have HFI := hide HF4.out.1
  have HBX := hide hbx4
  have HS4 := hide hS4
  have HM4 := hide hm4
  have HG : Hid (SyGoC w w4 N D L win (outSy i S) (c - 1)) := hide ⟨D3, hp3, hS4, hm4, hg3, hc3⟩
  have hsz : w.heap.size < w4.heap.size := blk_lt hbx4
  have hsz3 : w.heap.size < w3.heap.size := blk_lt hbx3
  clear HG3 HF4 HQ1 hbx3 hS3 hm3 hB4 hbx4 hS4 hm4
  by_cases her : er = 0
  · subst her
    rw [show errV 0 = .nilIface from rfl]
    by_cases hfr : F 1 = (q.src : Int)
    · have hne : (F 1 != (q.src : Int)) = false := by simp [hfr]
      have HFR := hide hfr
      clear HNO HN1 HN2
      by_cases hd : q.dst = 3
      · have hd' : ((q.dst : Int) == 3) = true := by simp; omega
        have ht := tellVoterC N D3 L win (outSy i S) w4 F q.src HS4.out hfr HI2.out.vok (by have := HM4.out.size; omega) HI2.out.many _ hc3
        rw [hp3] at ht
        have HT : Hid (Calls Tryz.prog 126 #[.pointer (some ⟨D.p, 0, none⟩), .agg (fCells F)] w4 fun e w' => e = .returned (.tuple #[]) ∧ SyGoC w w' N D L win (arriveSy L win i S) (c + arrC L win i S)) := hide (by
          rw [HAR.out, HVO.out rfl hfr hd]
          refine ht.mono ?_
          rintro e w5 ⟨rfl, hg⟩
          exact ⟨rfl, (SyGoC.then hp3 HM4.out hg3 hg).cast (by rw [HCV.out rfl hfr hd]; omega)⟩)
        clear ht hfr hd HRP HVO
        go_wp2_with (refine wpList_load_f rfl _ rfl w3.heap.size rfl F HFI.out ?_)
        refine HT.out.mono ?_
        rintro e w5 ⟨rfl, hg⟩
        go_wp2
        exact bodyPost_ret (results_none rfl _ _ _) rfl ⟨rfl, hg⟩
      · have hd' : ((q.dst : Int) == 3) = false := by simp; omega
        have hd3 : q.dst < 3 := by have := HPK.out.dst; omega
        have hd3' : (q.dst : Int) < 3 := by omega
        have hrp := (HI2.out.rp q.dst hd3)
        obtain ⟨hok, hc0, hc1⟩ := hrp.ok hd3 HL.out hT HI2.out.vok.few
        have hid := hrp.id
        have hln := HS4.out.ln q.dst hd3
        have hrepd := rtake_rep (D3.rp q.dst) (D3.C q.dst) (S.rp q.dst) F w4.drew (HS4.out.drew.rp q.dst hd3) hok ⟨hc0, hc1⟩ (HIN.out rfl)
        rw [(hln.takes F _).1, (hln.takes F _).2] at hrepd
        have hfrm := takeT_from L F (S.rp q.dst)
        have hfew := takeT_few L F (S.rp q.dst)
        rw [show (S.rp q.dst).id = q.dst from hid] at hfrm
        have hEQ := HRP.out rfl hfr hd
        obtain ⟨R1, hR1⟩ : ∃ R1, Hid (takeS L F (S.rp q.dst) = R1) := ⟨_, hide rfl⟩
        obtain ⟨Fs, hFs⟩ : ∃ Fs, Hid (takeT L F (S.rp q.dst) = Fs) := ⟨_, hide rfl⟩
        rw [hR1.out, hFs.out] at hrepd hEQ
        have hCE := HCR.out rfl hfr hd
        rw [hFs.out] at hCE
        have HCE := hide hCE
        clear hCE
        rw [hFs.out] at hfrm hfew
        have HEQ := hide hEQ
        have hb0 : w4.drew.heap[w.heap.size]? = some (.cells #[.int .i64 (q.src : Int), .int .i64 (q.dst : Int), .slice ua q.b.length uc] 134 (0, 0)) := HBX.out
        have HSS : Hid (∀ wx, SyIs wx N D3 L win (outSy i S) ∨ SyIs wx N D3 L win ⟨upd S.rp q.dst R1, S.v, S.net.eraseIdx i⟩ → wx.heap[w.heap.size]? = some (.cells #[.int .i64 (q.src : Int), .int .i64 (q.dst : Int), .slice ua q.b.length uc] 134 (0, 0)) → FIs wx w3.heap.size 36 F → wx.cell? ⟨w.heap.size, 1, none⟩ = some (.int .i64 (q.dst : Int)) ∧ wx.cell? ⟨D.p, 3 + q.dst, none⟩ = some (.pointer (some ⟨D3.rp q.dst, 0, none⟩)) ∧ FIs wx w3.heap.size 36 F) := hide fun wx hx hb hf => ⟨(blk_cell hb 1).trans rfl, by rw [← hp3]; exact hx.elim (fun x => x.rpAt hd3) (fun x => x.rpAt hd3), hf⟩
        have HS0 := hide (unhide HSS w4.drew (.inl HS4.out.drew) hb0 HFI.out)
        have hcall : Calls Tryz.prog 127 #[.pointer (some ⟨D3.rp q.dst, 0, none⟩), .agg (fCells F)] w4.drew fun e w5 => ∃ va vn vc, e = .returned (.slice va vn vc) ∧ Hid (vn = Fs.length) ∧ (w5.cell? ⟨w.heap.size, 1, none⟩ = some (.int .i64 (q.dst : Int)) ∧ w5.cell? ⟨D.p, 3 + q.dst, none⟩ = some (.pointer (some ⟨D3.rp q.dst, 0, none⟩)) ∧ FIs w5 w3.heap.size 36 F) ∧ Hid (SyGoC w w5 N D L win ⟨upd S.rp q.dst R1, S.v, S.net.eraseIdx i⟩ (c - 1) ∧ FRow w5 36 (.slice va vn vc) Fs) := by
          refine hrepd.mono ?_
          rintro e w5 ⟨⟨v, rfl, hr⟩, hR, hm⟩
          obtain ⟨hS5, hM5⟩ := HS4.out.drew.putR hd3 hm hR
          obtain ⟨va, vc, hve⟩ := hr.shape
          subst hve
          have hb5 : w5.heap[w.heap.size]? = some (.cells #[.int .i64 (q.src : Int), .int .i64 (q.dst : Int), .slice ua q.b.length uc] 134 (0, 0)) := (hM5.block _ (blk_lt hb0) hn3).trans hb0
          have hf5 : FIs w5 w3.heap.size 36 F := (hM5.block _ (blk_lt (w := w4.drew) HFI.out) (HS4.out.drew.notWr ⟨_, _, HFI.out⟩ (by decide))).trans HFI.out
          refine ⟨va, _, vc, rfl, hide rfl, unhide HSS w5 (.inr hS5) hb5 hf5, hide ⟨⟨D3, hp3, hS5, ?_, hg3, hc3⟩, hr⟩⟩
          exact (HM4.out.below ((Below.refl _ _).drew)).then hM5 (fun k hk hw => (hg3.gr.wr k hw).elim id (fun x => by omega))
        have HC := hide hcall
        clear hcall hrepd hEQ HSS hb0 hok hrp hln hR1 hFs HRP HVO hd hfr
        go_wp2_with fail
        refine wp_region_held_drew (S := fun w' => w'.cell? ⟨w.heap.size, 1, none⟩ = some (.int .i64 (q.dst : Int)) ∧ w'.cell? ⟨D.p, 3 + q.dst, none⟩ = some (.pointer (some ⟨D3.rp q.dst, 0, none⟩)) ∧ FIs w' w3.heap.size 36 F) (by kernel_rfl) HS0.out (fun hHeld => ?_)
        refine wpAnyH_take (i := 0) (oi := _) (v := .pointer (some ⟨D.p, 0, none⟩)) rfl (by kernel_rfl) (by kernel_rfl) (by kernel_rfl) (fun _ _ _ h => h) (Or.inl ⟨by rfl, fun w _ => by go_simp⟩) hHeld ?_
        simp only [Act.put, List.getElem_toArray, List.getElem_cons_zero, List.setIfInBounds_toArray, List.set_cons_succ, List.set_cons_zero]
        refine wpAnyH_take (i := 1) (oi := _) (v := .pointer (some ⟨w.heap.size, 1, none⟩)) rfl (by kernel_rfl) (by kernel_rfl) (by kernel_rfl) (fun _ _ _ h => h) (Or.inl ⟨by rfl, fun w _ => by go_simp⟩) hHeld ?_
        simp only [Act.put, List.getElem_toArray, List.getElem_cons_succ, List.getElem_cons_zero, List.setIfInBounds_toArray, List.set_cons_succ, List.set_cons_zero]
        refine wpAnyH_take (i := 2) (oi := _) (v := .int .i64 (q.dst : Int)) rfl (by kernel_rfl) (by kernel_rfl) (by kernel_rfl) (fun _ _ _ h => h) (Or.inl ⟨by rfl, fun w h => by obtain ⟨h1, h2, _⟩ := h; go_simp⟩) hHeld ?_
        simp only [Act.put, List.getElem_toArray, List.getElem_cons_succ, List.getElem_cons_zero, List.setIfInBounds_toArray, List.set_cons_succ, List.set_cons_zero]
        refine wpAnyH_take (i := 3) (oi := _) (v := .pointer (some ⟨D.p, 0, none⟩)) rfl (by kernel_rfl) (by kernel_rfl) (by kernel_rfl) (fun _ _ _ h => h) (Or.inl ⟨by rfl, fun w _ => by go_simp⟩) hHeld ?_
        simp only [Act.put, List.getElem_toArray, List.getElem_cons_succ, List.getElem_cons_zero, List.setIfInBounds_toArray, List.set_cons_succ, List.set_cons_zero]
        refine wpAnyH_take (i := 4) (oi := _) (v := .pointer (some ⟨D.p, 3, none⟩)) rfl (by kernel_rfl) (by kernel_rfl) (by kernel_rfl) (fun _ _ _ h => h) (Or.inl ⟨by rfl, fun w _ => by go_simp⟩) hHeld ?_
        simp only [Act.put, List.getElem_toArray, List.getElem_cons_succ, List.getElem_cons_zero, List.setIfInBounds_toArray, List.set_cons_succ, List.set_cons_zero]
        refine wpAnyH_take (i := 5) (oi := _) (v := .pointer (some ⟨D.p, 3 + q.dst, none⟩)) rfl (by kernel_rfl) (by kernel_rfl) (by kernel_rfl) (fun _ _ _ h => h) (Or.inl ⟨by rfl, fun w _ => by go_simp⟩) hHeld ?_
        simp only [Act.put, List.getElem_toArray, List.getElem_cons_succ, List.getElem_cons_zero, List.setIfInBounds_toArray, List.set_cons_succ, List.set_cons_zero]
        refine wpAnyH_take (i := 6) (oi := _) (v := .pointer (some ⟨D3.rp q.dst, 0, none⟩)) rfl (by kernel_rfl) (by kernel_rfl) (by kernel_rfl) (fun _ _ _ h => h) (Or.inl ⟨by rfl, fun w h => by obtain ⟨h1, h2, _⟩ := h; go_simp⟩) hHeld ?_
        simp only [Act.put, List.getElem_toArray, List.getElem_cons_succ, List.getElem_cons_zero, List.setIfInBounds_toArray, List.set_cons_succ, List.set_cons_zero]
        refine wpAnyH_take (i := 7) (oi := _) (v := .agg (fCells F)) rfl (by kernel_rfl) (by kernel_rfl) (by kernel_rfl) (fun _ _ _ h => h) (yields_f (by rfl) _ rfl w3.heap.size rfl F (fun w h => h.2.2)) hHeld ?_
        simp only [Act.put, List.getElem_toArray, List.getElem_cons_succ, List.getElem_cons_zero, List.setIfInBounds_toArray, List.set_cons_succ, List.set_cons_zero]
        refine wpAnyH_take (i := 10) (oi := _) (v := .int .i64 0) rfl (by kernel_rfl) (by kernel_rfl) (by kernel_rfl) (fun _ _ _ h => h) (Or.inl ⟨by rfl, fun w _ => by go_simp⟩) hHeld ?_
        simp only [Act.put, List.getElem_toArray, List.getElem_cons_succ, List.getElem_cons_zero, List.setIfInBounds_toArray, List.set_cons_succ, List.set_cons_zero]
        refine wpAnyH_ready (rs := [8]) (by kernel_rfl) (by simp) ?_
        refine AllReadyH.cons (o := _) rfl (fun K hK => ?_) AllReadyH.nil
        rw [if_pos (by rfl)]
        go_simp
        go_at_call 127
        refine HC.out.mono ?_
        rintro e w5 ⟨va, vn, vc, rfl, HVN, hS5, HG5⟩
        dsimp only
        refine hK.out _ _ hS5 (fun hHeld => ?_)
        clear hK K
        refine wpAnyH_take (i := 9) (oi := _) (v := .int .i64 (vn : Int)) rfl (by kernel_rfl) (by kernel_rfl) (by kernel_rfl) (fun _ _ _ h => h) (Or.inl ⟨by rfl, fun w _ => by go_simp⟩) hHeld ?_
        simp only [Act.put, List.getElem_toArray, List.getElem_cons_succ, List.getElem_cons_zero, List.setIfInBounds_toArray, List.set_cons_succ, List.set_cons_zero]
        refine wpAnyH_done (by kernel_rfl) ?_ _
        have HFI5 := hide hS5.2.2
        have hvn1 : vn ≤ 1 := by have := HVN.out; omega
        clear hHeld HS0 HC hS5 HFI HBX HS4 HM4 HG x0 x1 y1
        go_wp2_with fail
        have HST : Hid (SyGoC w w5 N D L win ⟨upd S.rp q.dst R1, S.v, sendsN q.dst q.src (Fs.take 0) (S.net.eraseIdx i)⟩ (c - 1 + ((0 : Nat) : Int)) ∧ FRow w5 36 (.slice va vn vc) Fs ∧ FIs w5 w3.heap.size 36 F) := hide ⟨HG5.out.1.cast (by simp), HG5.out.2, HFI5.out⟩
        go_loopw [50] (fun j wr => ∃ k : Nat, k ≤ vn ∧ j = .int .i64 k ∧ SyGoC w wr N D L win ⟨upd S.rp q.dst R1, S.v, sendsN q.dst q.src (Fs.take k) (S.net.eraseIdx i)⟩ (c - 1 + (k : Int)) ∧ FRow wr 36 (.slice va vn vc) Fs ∧ FIs wr w3.heap.size 36 F) (fun j _ => vn - (intOf j).toNat)
        case atStart => exact ⟨0, by omega, rfl, HST.out⟩
        case round =>
          obtain ⟨k, hk, rfl, hgo, hrow, hfb⟩ := hrel
          clear HST HG5 HFI5
          by_cases hk3 : k < vn
          · have hk' : (k : Int) < (vn : Int) := by omega
            have hkl : k < Fs.length := by rw [← HVN.out]; exact hk3
            obtain ⟨g5, rfl⟩ := hrow.some (by omega)
            have hrg := hrow.range hkl
            have hnx := take_next hkl
            have hG1 : (Fs[k]?.getD fr0) 1 = (q.dst : Int) := by rw [List.getElem?_eq_getElem hkl]; exact hfrm _ (List.getElem_mem hkl)
            obtain ⟨G, hG⟩ : ∃ G, Hid (Fs[k]?.getD fr0 = G) := ⟨_, hide rfl⟩
            rw [hG.out] at hrg hnx hG1
            have HRG := hide hrg
            have hB2 : Below wr.heap.size wr (wr.alloc (.cells (fCells fr0) 36)) := (Below.refl _ _).alloc (Nat.le_refl _) _
            have q1 : FIs (wr.alloc (.cells (fCells fr0) 36)) wr.heap.size 36 fr0 := blk_new _ _
            have HQ1 := hide q1
            have HRW := hide hrow
            have HFB := hide hfb
            have HGO := hide hgo
            clear hrg q1 hrow hfb hgo
            go_wp2_with (first
              | (refine wpList_load_mid rfl 36 _ rfl g5 (k * 23) rfl (fCells G).toList _ HRG.out Tryz.underlying36 rfl (by rw [infoFrame]; rfl) ?_)
              | (refine wpList_store_fl rfl _ _ rfl wr.heap.size G rfl rfl fr0 HQ1.out ?_))
            intro w6 HF6
            have hB3 : Below wr.heap.size wr w6 := hB2.trans (HF6.out.2.2 _ (Nat.le_refl _))
            obtain ⟨D6, hp6, hS6, hm6, hg6, hc6⟩ := HGO.out.below hB3
            have HF := hide HF6.out.1
            have z1 : w6.cell? ⟨w3.heap.size, 1, none⟩ = some (.int .i64 (q.src : Int)) := by
              have hb := HFB.out.below HFB.out.lt hB3
              rw [hb.at (by omega), HFR.out]
            have HRW2 := hide (HRW.out.below hB3)
            have HFB2 := hide (HFB.out.below HFB.out.lt hB3)
            clear HRG HQ1 HRW HFB HGO HF6 hB2 hB3
            have hlen : (sendsN q.dst q.src (Fs.take k) (S.net.eraseIdx i)).length ≤ 120 := sendsN_len _ _ HI2.out.many
            have hsd := sendC N D6 L win _ w6 G q.dst q.src hS6 hG1 (Nat.le_trans hN hm6.size) hlen _ hc6
            rw [hp6] at hsd
            have HSD : Hid (Calls Tryz.prog 88 #[.pointer (some ⟨D.p, 0, none⟩), .agg (fCells G), .int .i64 (q.src : Int)] w6 fun e w' => e = .returned (.tuple #[]) ∧ Hid (SyGoC w w' N D L win ⟨upd S.rp q.dst R1, S.v, sendsN q.dst q.src (Fs.take (k + 1)) (S.net.eraseIdx i)⟩ (c - 1 + ((k + 1 : Nat) : Int)) ∧ FRow w' 36 (.slice (some ⟨g5, 0, none⟩) vn vc) Fs ∧ FIs w' w3.heap.size 36 F)) := hide (by
              refine hsd.mono ?_
              rintro e w7 ⟨rfl, hg⟩
              rw [hnx, sendsN_app]
              exact ⟨rfl, hide ⟨(SyGoC.then hp6 hm6 hg6 hg).cast (by omega), HRW2.out.stays hg.go hS6, hg.stays hS6 HFB2.out (by decide)⟩⟩)
            clear hsd hS6 hm6 hg6 hc6 hnx
            go_wp2_with (refine wpList_load_f rfl _ rfl wr.heap.size rfl G HF.out ?_)
            refine HSD.out.mono ?_
            rintro e w7 ⟨rfl, HR⟩
            go_wp2
            go_roundw
            case rel => exact ⟨k + 1, by omega, by go_num, HR.out⟩
            case measure => simp [intOf]; omega
          · have hk' : ¬ (k : Int) < (vn : Int) := by omega
            have HGE : Hid (SyGoC w wr N D L win ⟨upd S.rp q.dst R1, S.v, sendsN q.dst q.src Fs (S.net.eraseIdx i)⟩ (c - 1 + (Fs.length : Int))) := hide (by
              have := hgo
              rw [show k = Fs.length by have := HVN.out; omega, List.take_length] at this
              exact this)
            clear hgo hrow hfb
            go_wp2
            go_end0
            rw [HAR.out, HEQ.out]
            exact ⟨rfl, HGE.out.cast (by rw [HCE.out]; omega)⟩
    · have hne : (F 1 != (q.src : Int)) = true := by simp [hfr]
      have HX := hide (HNO.out (HN2.out hfr))
      have HXC := hide (HCN.out (HN2.out hfr))
      clear hfr HNO HN1 HN2 HVO HRP
      go_wp2
      refine bodyPost_ret (results_none rfl _ _ _) rfl ⟨rfl, ?_⟩
      rw [HAR.out, HX.out]
      exact HG.out.cast (by rw [HXC.out]; omega)
  · rw [show errV er = .iface 74 (.int .i64 (er : Int)) from if_neg her]
    have HX := hide (HNO.out (HN1.out her))
    have HXC := hide (HCN.out (HN1.out her))
    clear her HNO HN1 HN2 HVO HRP
    go_wp2
    refine bodyPost_ret (results_none rfl _ _ _) rfl ⟨rfl, ?_⟩
    rw [HAR.out, HX.out]
    exact HG.out.cast (by rw [HXC.out]; omega)
variable {L : RC} {win : Nat} {S S1 S2 : SY}
theorem isNone_nil : isNone ⟨0, 0, []⟩ := .inl (by decide)
theorem arrive_nil (h : S.net = []) : arriveSy L win 0 S = S := by
  obtain ⟨rp, v, net⟩ := S
  subst h
  show comeSy L win ⟨0, 0, []⟩ ⟨rp, v, []⟩ = ⟨rp, v, []⟩
  unfold comeSy
  rw [if_pos isNone_nil]
theorem run_nil : ∀ (m : Nat), S.net = [] → runAll L win m S = S
  | 0, _ => rfl
  | m + 1, h => by
    show runAll L win m (arriveSy L win 0 S) = S
    rw [arrive_nil h]
    exact run_nil m h
theorem run_more : ∀ (m n : Nat) (S : SY), runAll L win (m + n) S = runAll L win n (runAll L win m S)
  | 0, n, S => by rw [Nat.zero_add]; rfl
  | m + 1, n, S => by
    rw [Nat.add_right_comm]
    exact run_more m n _
theorem run_det {m n : Nat} (h1 : (runAll L win m S).net = []) (h2 : (runAll L win n S).net = []) : runAll L win m S = runAll L win n S := by
  rcases Nat.le_total m n with h | h
  · obtain ⟨q, rfl⟩ := Nat.exists_eq_add_of_le h
    rw [run_more, run_nil q h1]
  · obtain ⟨q, rfl⟩ := Nat.exists_eq_add_of_le h
    rw [run_more, run_nil q h2]
def runC (L : RC) (win : Nat) : Nat → SY → Int
  | 0, _ => 0
  | m + 1, S => (if S.net.length = 0 then 0 else arrC L win 0 S) + runC L win m (arriveSy L win 0 S)
theorem runC_nil {L : RC} {win : Nat} {S : SY} (h : S.net.length = 0) : ∀ {m : Nat}, runC L win m S = 0
  | 0 => rfl
  | m + 1 => by
    show (if S.net.length = 0 then 0 else arrC L win 0 S) + runC L win m (arriveSy L win 0 S) = 0
    rw [if_pos h, arrive_nil (List.length_eq_zero_iff.1 h), runC_nil h]
    rfl
theorem runC_more {L : RC} {win : Nat} : ∀ (m n : Nat) (S : SY), runC L win (m + n) S = runC L win m S + runC L win n (runAll L win m S)
  | 0, n, S => by rw [Nat.zero_add]; show _ = 0 + runC L win n S; omega
  | m + 1, n, S => by
    rw [Nat.add_right_comm]
    show (if S.net.length = 0 then 0 else arrC L win 0 S) + runC L win (m + n) (arriveSy L win 0 S) = (if S.net.length = 0 then 0 else arrC L win 0 S) + runC L win m (arriveSy L win 0 S) + runC L win n (runAll L win m (arriveSy L win 0 S))
    rw [runC_more m n]
    omega
theorem runC_det {L : RC} {win m n : Nat} {S : SY} (h1 : (runAll L win m S).net = []) (h2 : (runAll L win n S).net = []) : runC L win m S = runC L win n S := by
  rcases Nat.le_total m n with h | h
  · obtain ⟨q, rfl⟩ := Nat.exists_eq_add_of_le h
    rw [runC_more, runC_nil (m := q) (by rw [h1]; rfl), Int.add_zero]
  · obtain ⟨q, rfl⟩ := Nat.exists_eq_add_of_le h
    rw [runC_more, runC_nil (m := q) (by rw [h2]; rfl), Int.add_zero]
set_option maxHeartbeats 2000000 in
set_option maxRecDepth 20000 in
theorem arriveAllC {W : Seen} {liar T : Nat} (N : Nat) (D : SC) (L : RC) (win : Nat) (S : SY) (w : World) (m : Nat) (h : SyIs w N D L win S) (hI : SInv L W liar win T S) (hL : LOk L) (hT : T < 8000000) (hN : N ≤ w.heap.size) (hm : (runAll L win m S).net = []) (c : Int) (hc : cI D S c) :
    Calls Tryz.prog 45 #[.pointer (some ⟨D.p, 0, none⟩)] w fun e w' => e = .returned (.tuple #[]) ∧ SyGoC w w' N D L win (runAll L win m S) (c + runC L win m S) := by
  obtain ⟨SF, hSF⟩ : ∃ SF, Hid (runAll L win m S = SF) := ⟨_, hide rfl⟩
  obtain ⟨cF, hcF⟩ : ∃ cF, Hid (c + runC L win m S = cF) := ⟨_, hide rfl⟩
  rw [hSF.out] at hm ⊢
  rw [hcF.out]
  have HM := hide hm
  have HST : Hid (∃ S' c', SyGoC w w N D L win S' c' ∧ SInv L W liar win T S' ∧ runAll L win m S' = SF ∧ c' + runC L win m S' = cF) := hide ⟨S, c, h.goesC hc, hI, hSF.out, hcF.out⟩
  have HL := hide hL
  clear hm h hI hSF hL
  go_enter Tryz.func45, Tryz.ntmps45
  go_wp2_with fail
  go_loopg [] m (fun k wr => ∃ S' c', SyGoC w wr N D L win S' c' ∧ SInv L W liar win T S' ∧ runAll L win k S' = SF ∧ c' + runC L win k S' = cF)
  case atStart => exact HST.out
  case round =>
    obtain ⟨S', c', ⟨D1, hp1, hS1, hm1, hg1, hc1⟩, hI1, hr1, hq1⟩ := hrel
    clear HST
    obtain ⟨a, cap, c7⟩ := hS1.net7
    rw [hp1] at c7
    by_cases h0 : S'.net.length = 0
    · have hne : ¬ (0 : Int) < (S'.net.length : Int) := by omega
      have HE : Hid (SyGoC w wr N D L win SF cF) := hide (by
        rw [← hr1, ← hq1, runAll_nil (List.length_eq_zero_iff.1 h0), runC_nil h0, Int.add_zero]
        exact ⟨D1, hp1, hS1, hm1, hg1, hc1⟩)
      clear hS1 hm1 hg1 hI1 hr1 hc1 hq1
      rw [h0] at c7
      go_wp2
      go_end0
      exact ⟨rfl, HE.out⟩
    · have hne : (0 : Int) < (S'.net.length : Int) := by omega
      obtain ⟨k1, rfl⟩ : ∃ k1, gk = k1 + 1 := by
        cases gk with
        | zero =>
          have : S' = SF := hr1
          rw [this, HM.out] at h0
          exact absurd rfl h0
        | succ k1 => exact ⟨k1, rfl⟩
      have hAr := (hI1.arrive HL.out (i := 0) (by omega)).1
      have hcall := arriveC N D1 L win S' wr 0 hS1 hI1 HL.out hT (by omega) (Nat.le_trans hN hm1.size) _ hc1
      rw [hp1] at hcall
      have HC : Hid (Calls Tryz.prog 75 #[.pointer (some ⟨D.p, 0, none⟩), .int .i64 0] wr fun e w' => e = .returned (.tuple #[]) ∧ Hid (∃ S' c', SyGoC w w' N D L win S' c' ∧ SInv L W liar win T S' ∧ runAll L win k1 S' = SF ∧ c' + runC L win k1 S' = cF)) := hide (by
        refine hcall.mono ?_
        rintro e w2 ⟨rfl, hg⟩
        exact ⟨rfl, hide ⟨_, _, SyGoC.then hp1 hm1 hg1 hg, hAr, hr1, by rw [← hq1, show runC L win (k1 + 1) S' = (if S'.net.length = 0 then 0 else arrC L win 0 S') + runC L win k1 (arriveSy L win 0 S') from rfl, if_neg h0]; omega⟩⟩)
      clear hcall hAr hS1 hm1 hg1 hI1 hr1
      go_wp2_with fail
      refine HC.out.mono ?_
      rintro e w2 ⟨rfl, HR⟩
      go_wp2
      go_roundg k1
      case measure => omega
      case rel => exact HR.out
def cT (L : RC) (S : SY) : Nat → Int
  | 0 => 0
  | k + 1 => cT L S k + tickC L k (tickTo L S k)
def halfC (L : RC) (win : Nat) : Nat → SY → Int → SY → Int → Prop
  | 0, S, c, S', c' => S' = S ∧ c' = c
  | j + 1, S, c, S', c' => ∃ S1 c1 m, halfC L win j S c S1 c1 ∧ S' = runAll L win m (tickTo L S1 3) ∧ S'.net = [] ∧ c' = c1 + cT L S1 3 + runC L win m (tickTo L S1 3)
def roundC (L : RC) (win : Nat) (S : SY) (c : Int) (S' : SY) (c' : Int) : Prop := ∃ m S2, (runAll L win m S).net = [] ∧ halfC L win 2 (runAll L win m S) (c + runC L win m S) S2 c' ∧ S' = vtickSy S2
def calmC (L : RC) (win : Nat) : Nat → SY → Int → SY → Int → Prop
  | 0, S, c, S', c' => S' = S ∧ c' = c
  | n + 1, S, c, S', c' => ∃ S1 c1, roundC L win S c S1 c1 ∧ calmC L win n S1 c1 S' c'
section
variable {L : RC} {win : Nat}
theorem calmC_snoc {S' S2 : SY} {c' c2 : Int} : ∀ {k : Nat} {S : SY} {c : Int}, calmC L win k S c S' c' → roundC L win S' c' S2 c2 → calmC L win (k + 1) S c S2 c2
  | 0, S, c, ⟨e1, e2⟩, hr => by
    subst e1 e2
    exact ⟨S2, c2, hr, rfl, rfl⟩
  | k + 1, S, c, ⟨A, a, hA, hk⟩, hr => ⟨A, a, hA, calmC_snoc hk hr⟩
theorem halfC_det : ∀ (j : Nat) {S S1 S2 : SY} {c c1 c2 : Int}, halfC L win j S c S1 c1 → halfC L win j S c S2 c2 → S1 = S2 ∧ c1 = c2
  | 0, _, _, _, _, _, _, ⟨a, b⟩, ⟨d, e⟩ => ⟨a.trans d.symm, b.trans e.symm⟩
  | j + 1, _, _, _, _, _, _, ⟨A, a, m, hA, h1, h2, h3⟩, ⟨B, b, n, hB, g1, g2, g3⟩ => by
    obtain ⟨rfl, rfl⟩ := halfC_det j hA hB
    rw [h1] at h2
    rw [g1] at g2
    exact ⟨by rw [h1, g1, run_det h2 g2], by rw [h3, g3, runC_det h2 g2]⟩
theorem roundC_det {S S1 S2 : SY} {c c1 c2 : Int} (h1 : roundC L win S c S1 c1) (h2 : roundC L win S c S2 c2) : S1 = S2 ∧ c1 = c2 := by
  obtain ⟨m, A, a0, a1, a2⟩ := h1
  obtain ⟨n, B, b0, b1, b2⟩ := h2
  rw [run_det a0 b0, runC_det a0 b0] at a1
  obtain ⟨rfl, rfl⟩ := halfC_det 2 a1 b1
  exact ⟨a2.trans b2.symm, rfl⟩
theorem calmC_det : ∀ (n : Nat) {S S1 S2 : SY} {c c1 c2 : Int}, calmC L win n S c S1 c1 → calmC L win n S c S2 c2 → S1 = S2 ∧ c1 = c2
  | 0, _, _, _, _, _, _, ⟨a, b⟩, ⟨d, e⟩ => ⟨a.trans d.symm, b.trans e.symm⟩
  | n + 1, _, _, _, _, _, _, ⟨A, a, p, p'⟩, ⟨B, b, q, q'⟩ => by
    obtain ⟨rfl, rfl⟩ := roundC_det p q
    exact calmC_det n p' q'
end
set_option maxHeartbeats 4000000 in
set_option maxRecDepth 20000 in
theorem calmC_any {W : Seen} {liar T : Nat} (N : Nat) (D : SC) (L : RC) (win : Nat) (S : SY) (w : World) (n : Nat) (h : SyIs w N D L win S) (hI : ClInv L W liar win T S) (hL : LOk L) (hT : T + 6 * n < 7000000) (hn : n ≤ 1000) (hN : N ≤ w.heap.size) (c : Int) (hc : cI D S c) :
    Calls Tryz.prog 16 #[.pointer (some ⟨D.p, 0, none⟩), .int .i64 (n : Int)] w fun e w' => e = .returned (.tuple #[]) ∧ ∃ S' c', calmC L win n S c S' c' ∧ ClInv L W liar win (T + 6 * n) S' ∧ SyGoC w w' N D L win S' c' := by
  have HST : Hid (∃ S' c', calmC L win 0 S c S' c' ∧ ClInv L W liar win (T + 6 * 0) S' ∧ SyGoC w w N D L win S' c') := hide ⟨S, c, ⟨rfl, rfl⟩, hI, h.goesC hc⟩
  have HL := hide hL
  have hall : ∀ (wr : World) (S' : SY) (c' : Int) (T' : Nat), T' < 8000000 → ClInv L W liar win T' S' → SyGoC w wr N D L win S' c' → Calls Tryz.prog 45 #[.pointer (some ⟨D.p, 0, none⟩)] wr fun e w' => e = .returned (.tuple #[]) ∧ Hid (∃ m, (runAll L win m S').net = [] ∧ ClInv L W liar win T' (runAll L win m S') ∧ SyGoC w w' N D L win (runAll L win m S') (c' + runC L win m S')) := by
    intro wr S' c' T' hT' hI' hg
    obtain ⟨D1, hp1, hS1, hm1, hg1, hc1⟩ := hg
    obtain ⟨m, hm⟩ := hI'.inv.ends HL.out
    have hc := arriveAllC N D1 L win S' wr m hS1 hI'.inv HL.out hT' (Nat.le_trans hN hm1.size) hm _ hc1
    rw [hp1] at hc
    refine hc.mono ?_
    rintro e w2 ⟨rfl, hg⟩
    exact ⟨rfl, hide ⟨m, hm, ClInv.runAll HL.out m S' hI', SyGoC.then hp1 hm1 hg1 hg⟩⟩
  have htick : ∀ (wr : World) (S' : SY) (c' : Int) (T' k : Nat), k < 3 → T' < 8000000 → ClInv L W liar win T' S' → SyGoC w wr N D L win S' c' → Calls Tryz.prog 46 #[.pointer (some ⟨D.p, 0, none⟩), .int .i64 (k : Int)] wr fun e w' => e = .returned (.tuple #[]) ∧ Hid (ClInv L W liar win (T' + 1) (tickSy L k S') ∧ SyGoC w w' N D L win (tickSy L k S') (c' + tickC L k S')) := by
    intro wr S' c' T' k hk hT' hI' hg
    obtain ⟨D1, hp1, hS1, hm1, hg1, hc1⟩ := hg
    obtain ⟨hok, _⟩ := (hI'.inv.rp k hk).ok hk HL.out hT' hI'.inv.vok.few
    have hc := tickRepC N D1 L win S' wr k hk hS1 hok (hI'.inv.rp k hk).id (Nat.le_trans hN hm1.size) hI'.inv.many _ hc1
    rw [hp1] at hc
    refine hc.mono ?_
    rintro e w2 ⟨rfl, hg⟩
    exact ⟨rfl, hide ⟨hI'.tick hk, SyGoC.then hp1 hm1 hg1 hg⟩⟩
  have hvt : ∀ (wr : World) (S' : SY) (c' : Int) (T' : Nat), ClInv L W liar win T' S' → SyGoC w wr N D L win S' c' → ∃ vp : Nat, wr.cell? ⟨D.p, 6, none⟩ = some (.pointer (some ⟨vp, 0, none⟩)) ∧ Hid (Calls Tryz.prog 47 #[.pointer (some ⟨vp, 0, none⟩)] wr fun e w' => e = .returned (.tuple #[]) ∧ SyGoC w w' N D L win (vtickSy S') c') := by
    intro wr S' c' T' hI' hg
    obtain ⟨D1, hp1, hS1, hm1, hg1, hc1⟩ := hg
    refine ⟨D1.vp, by rw [← hp1]; exact hS1.vt6, hide ?_⟩
    refine (tick_any N D1.vp win D1.tv S'.v wr hS1.vt hI'.inv.vok).mono ?_
    rintro e w2 ⟨rfl, hV, hm⟩
    exact ⟨rfl, SyGoC.then hp1 hm1 hg1 (hS1.putVC hm hV hc1 (Moved.refl _ _))⟩
  have HALL := hide hall
  have HTK := hide htick
  have HVT := hide hvt
  clear hall htick hvt h hI hL
  go_enter Tryz.func16, Tryz.ntmps16
  go_wp2_with fail
  go_loopw [6] (fun j wr => ∃ k : Nat, k ≤ n ∧ j = .int .i64 k ∧ ∃ S' c', calmC L win k S c S' c' ∧ ClInv L W liar win (T + 6 * k) S' ∧ SyGoC w wr N D L win S' c') (fun j _ => n - (intOf j).toNat)
  case atStart => exact ⟨0, by omega, rfl, HST.out⟩
  case round =>
    obtain ⟨k, hk, rfl, S', c', hcal, hI', hgo⟩ := hrel
    clear HST
    by_cases hkn : k < n
    · have hk' : (k : Int) < (n : Int) := by omega
      have HC1 := hide (HALL.out wr S' c' (T + 6 * k) (by omega) hI' hgo)
      have HCAL := hide hcal
      clear hcal hI' hgo
      go_wp2_with fail
      refine HC1.out.mono ?_
      rintro e w1 ⟨rfl, HG1⟩
      clear HC1
      obtain ⟨m0, hm0, hI0, hg0⟩ := HG1.out
      obtain ⟨S0, hS0⟩ : ∃ S0, Hid (runAll L win m0 S' = S0) := ⟨_, hide rfl⟩
      obtain ⟨c0, hc0⟩ : ∃ c0, Hid (c' + runC L win m0 S' = c0) := ⟨_, hide rfl⟩
      rw [hS0.out] at hm0 hI0 hg0
      rw [hc0.out] at hg0
      have HM0 := hide hm0
      have HS2 : Hid (∃ S2 c2, halfC L win 0 S0 c0 S2 c2 ∧ ClInv L W liar win (T + 6 * k + 3 * 0) S2 ∧ SyGoC w w1 N D L win S2 c2) := hide ⟨S0, c0, ⟨rfl, rfl⟩, hI0, hg0⟩
      clear HG1 hm0 hI0 hg0
      go_wp2_with fail
      go_loopw [10] (fun j wr => ∃ a : Nat, a ≤ 2 ∧ j = .int .i64 a ∧ ∃ S2 c2, halfC L win a S0 c0 S2 c2 ∧ ClInv L W liar win (T + 6 * k + 3 * a) S2 ∧ SyGoC w wr N D L win S2 c2) (fun j _ => 2 - (intOf j).toNat)
      case atStart => exact ⟨0, by omega, rfl, HS2.out⟩
      case round =>
        obtain ⟨a, ha, rfl, S2, c2, hh, hI2, hg2⟩ := hrel
        clear HS2
        by_cases ha2 : a < 2
        · have ha' : (a : Int) < 2 := by omega
          have HH := hide hh
          have HS3 : Hid (ClInv L W liar win (T + 6 * k + 3 * a + 0) (tickTo L S2 0) ∧ SyGoC w wr N D L win (tickTo L S2 0) (c2 + cT L S2 0)) := hide ⟨hI2, hg2.cast (by simp [cT])⟩
          clear hh hI2 hg2
          go_wp2_with fail
          go_loopw [12] (fun j wr => ∃ b : Nat, b ≤ 3 ∧ j = .int .i64 b ∧ ClInv L W liar win (T + 6 * k + 3 * a + b) (tickTo L S2 b) ∧ SyGoC w wr N D L win (tickTo L S2 b) (c2 + cT L S2 b)) (fun j _ => 3 - (intOf j).toNat)
          case atStart => exact ⟨0, by omega, rfl, HS3.out⟩
          case round =>
            obtain ⟨b, hb, rfl, hI3, hg3⟩ := hrel
            clear HS3
            by_cases hb3 : b < 3
            · have hb' : (b : Int) < 3 := by omega
              have HC3 := hide (HTK.out wr (tickTo L S2 b) _ (T + 6 * k + 3 * a + b) b hb3 (by omega) hI3 hg3)
              clear hI3 hg3
              go_wp2_with fail
              refine HC3.out.mono ?_
              rintro e w3 ⟨rfl, HG3⟩
              clear HC3
              go_wp2
              go_roundw
              case rel => exact ⟨b + 1, by omega, by go_num, HG3.out.1, HG3.out.2.cast (by show _ = c2 + (cT L S2 b + tickC L b (tickTo L S2 b)); omega)⟩
              case measure => simp [intOf]; omega
            · have e3 : b = 3 := by omega
              subst e3
              have HC4 := hide (HALL.out wr (tickTo L S2 3) _ (T + 6 * k + 3 * a + 3) (by omega) hI3 hg3)
              clear hI3 hg3
              go_wp2_with fail
              refine HC4.out.mono ?_
              rintro e w4 ⟨rfl, HG4⟩
              clear HC4
              go_wp2
              go_roundw
              case rel =>
                obtain ⟨m, hm, hI4, hg4⟩ := HG4.out
                exact ⟨a + 1, by omega, by go_num, _, _, ⟨S2, c2, m, HH.out, rfl, hm, rfl⟩, hI4, hg4⟩
              case measure => simp [intOf]; omega
        · have e2 : a = 2 := by omega
          subst e2
          obtain ⟨vp, cv, HV⟩ := HVT.out wr S2 c2 _ hI2 hg2
          have HEND : Hid (calmC L win (k + 1) S c (vtickSy S2) c2 ∧ ClInv L W liar win (T + 6 * k + 3 * 2) (vtickSy S2)) := hide ⟨calmC_snoc HCAL.out ⟨m0, S2, by rw [hS0.out]; exact HM0.out, by rw [hS0.out, hc0.out]; exact hh, rfl⟩, hI2.vtick⟩
          clear hh hI2 hg2
          go_wp2_with fail
          refine HV.out.mono ?_
          rintro e w5 ⟨rfl, hg5⟩
          go_wp2
          go_roundw
          case rel => exact ⟨k + 1, by omega, by go_num, _, _, HEND.out.1, HEND.out.2, hg5⟩
          case measure => simp [intOf]; omega
    · have e3 : k = n := by omega
      have hk' : ¬ (k : Int) < (n : Int) := by omega
      have HE : Hid (∃ S' c', calmC L win n S c S' c' ∧ ClInv L W liar win (T + 6 * n) S' ∧ SyGoC w wr N D L win S' c') := hide (by rw [← e3]; exact ⟨S', c', hcal, hI', hgo⟩)
      clear hcal hI' hgo e3
      go_wp2
      go_end0
      exact ⟨rfl, HE.out⟩
end Go.Proofs.YtaablbmgagiajabGreatDoor
