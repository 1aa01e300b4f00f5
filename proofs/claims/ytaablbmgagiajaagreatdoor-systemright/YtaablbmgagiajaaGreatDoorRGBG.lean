import Derived.Test.YtaablbmgagiajaaGreatDoorRGBF
import Derived.Deep.LoopGhost
namespace Go.Proofs.YtaablbmgagiajaaGreatDoor
open Go.RowKit Go.Deep
theorem at0_in {l : List Int} (h : ∀ x ∈ l, 0 ≤ x ∧ x ≤ 1048576) (k : Nat) : 0 ≤ at0 l k ∧ at0 l k ≤ 1048576 := by
  unfold at0
  cases e : l[k]? with
  | none => show (0 : Int) ≤ 0 ∧ (0 : Int) ≤ 1048576; omega
  | some x => exact h x (List.mem_of_getElem? e)
theorem framed_in {l : List Int} (h : ∀ x ∈ l, 0 ≤ x ∧ x ≤ 1048576) (k : Nat) : 0 ≤ framedF l k ∧ framedF l k ≤ 1048576 := by
  have a := at0_in h
  unfold framedF
  split
  · unfold inF; repeat' split
    all_goals first | exact a _ | omega
  · split
    · unfold votF; repeat' split
      all_goals first | exact a _ | omega
    · split
      · unfold knownF; repeat' split
        all_goals first | exact a _ | omega
      · unfold startF; repeat' split
        all_goals first | exact a _ | omega
theorem may_in {F : FR} (h : mayB F = true) (k : Nat) (hk : k < 23) : 0 ≤ F k ∧ F k ≤ 1048576 := by
  obtain ⟨_, h2, h3⟩ := may_parts h
  rw [h3 k hk]
  exact framed_in h2 k
theorem dec_in {l : List Nat} (h : (decF l).1 = 0) : FIn (decF l).2 := by
  rcases dec_cases l with ⟨h1, _⟩ | ⟨_, h2, _⟩
  · exact absurd h h1
  · intro k hk
    have := may_in h2 k hk
    omega
section
variable {w : World} {N win : Nat} {D : SC} {L : RC} {S : SY}
theorem SyIs.pkRange (h : SyIs w N D L win S) {g n cap i : Nat} (hnv : D.nv = .slice (some ⟨g, 0, none⟩) n cap) (hi : i < S.net.length) : w.rangeAt g (i * 3) [.int .i64 ((pkAt S.net i).src : Int), .int .i64 ((pkAt S.net i).dst : Int), D.us[i]?.getD undef] := by
  intro j v hv
  have hj : j < 3 := (List.getElem?_eq_some_iff.1 hv).1
  rcases h.net.row.2 with ⟨e, _⟩ | ⟨g', cap', cur, e, h1, h2, h3, h4, h5, h6⟩
  · rw [hnv] at e; simp at e
  · rw [hnv] at e
    simp only [Value.slice.injEq, Option.some.injEq, Addr.mk.injEq, and_true] at e
    obtain ⟨rfl, _, rfl⟩ := e
    have e2 := pkL_at S.net D.us i j h.net.len hi hj
    rw [blk_cell h2, ← Array.getElem?_toList]
    rw [← h6, List.getElem?_take, if_pos (by omega)] at e2
    rw [e2]
    exact hv
end
theorem infoPacket3 : (Tryz.prog.info? 103).map (·.size) = some 3 := by kernel_rfl
theorem takeT_from (L : RC) (F : FR) (R : RS) : ∀ G ∈ takeT L F R, G 1 = (R.id : Int) := by
  intro G hG
  unfold takeT at hG
  split at hG
  · unfold doneT at hG
    split at hG
    · simp at hG
    · split at hG
      · rw [List.mem_singleton.1 hG]
        show ((doneR L F R).id : Int) = _
        unfold doneR
        split
        · rfl
        · split <;> rfl
      · simp at hG
  · split at hG
    · simp at hG
    · split at hG
      · rw [List.mem_singleton.1 hG]; rfl
      · simp at hG
theorem takeT_few (L : RC) (F : FR) (R : RS) : (takeT L F R).length ≤ 1 := by
  unfold takeT
  split
  · unfold doneT
    split
    · simp
    · split <;> simp
  · split
    · simp
    · split <;> simp
theorem SyGo.keeps {w w' : World} {N win : Nat} {D : SC} {L : RC} {S : SY} (h : SyGo w w' N D L win S) {k : Nat} (hk : ¬ Wr D k) (hlt : k < w.heap.size) : w'.heap[k]? = w.heap[k]? := by
  obtain ⟨_, _, _, hm, _⟩ := h
  exact hm.block k hlt hk
set_option maxHeartbeats 4000000 in
set_option maxRecDepth 20000 in
theorem arrive_any {W : Seen} {liar T : Nat} (N : Nat) (D : SC) (L : RC) (win : Nat) (S : SY) (w : World) (i : Nat) (h : SyIs w N D L win S) (hI : SInv L W liar win T S) (hL : LOk L) (hT : T < 8000000) (hi : i < S.net.length) (hN : N ≤ w.heap.size) :
    Calls Tryz.prog 56 #[.pointer (some ⟨D.p, 0, none⟩), .int .i64 (i : Int)] w fun e w' => e = .returned (.tuple #[]) ∧ SyGo w w' N D L win (arriveSy L win i S) := by
  obtain ⟨g, cap, hnv⟩ := h.netHas (by omega)
  have hrg := h.pkRange hnv hi
  have hby := h.bytes hi
  have hpk := hI.net _ (pkAt_mem hi)
  obtain ⟨q, hq⟩ : ∃ q, Hid (pkAt S.net i = q) := ⟨_, hide rfl⟩
  obtain ⟨u, hu⟩ : ∃ u, Hid (D.us[i]?.getD undef = u) := ⟨_, hide rfl⟩
  rw [hq.out] at hpk
  rw [hq.out, hu.out] at hrg hby
  obtain ⟨ua, uc, hue, hib⟩ := hby.isB
  subst hue
  have HRG := hide hrg
  have c7 : w.cell? ⟨D.p, 7, none⟩ = some (.slice (some ⟨g, 0, none⟩) S.net.length cap) := (h.at 7).trans (by show some D.nv = _; rw [hnv])
  have hi' : (i : Int) < (S.net.length : Int) := by omega
  have hlenq := hpk.len
  have hle := hI.many
  obtain ⟨W0, hW0⟩ : ∃ W0, Hid (w.alloc (.cells #[.int .i64 (q.src : Int), .int .i64 (q.dst : Int), .slice ua q.b.length uc] 103) = W0) := ⟨_, hide rfl⟩
  have hB0 : Below w.heap.size w W0 := by rw [← hW0.out]; exact (Below.refl _ _).alloc (Nat.le_refl _) _
  have hbx : W0.heap[w.heap.size]? = some (.cells #[.int .i64 (q.src : Int), .int .i64 (q.dst : Int), .slice ua q.b.length uc] 103 (0, 0)) := by rw [← hW0.out]; exact blk_new _ _
  have hnw : ¬ Wr D w.heap.size := fun hw => Nat.lt_irrefl _ (h.wrLt hw)
  have hS0 := h.below hB0
  have hrm := remove_any N D L win S W0 i hS0 hi hle
  have hAR : arriveSy L win i S = comeSy L win q (outSy i S) := by unfold arriveSy; rw [hq.out]
  have hI2 := hI.outs i
  have hdec : Calls Tryz.prog 57 #[.pointer (some ⟨D.p, 0, none⟩), .int .i64 (i : Int)] W0 fun e w2 => e = .returned (.tuple #[]) ∧ w2.cell? ⟨w.heap.size, 2, none⟩ = some (.slice ua q.b.length uc) ∧
      Hid (Calls Tryz.prog 60 #[.slice ua q.b.length uc] w2 fun e w3 => e = .returned (.tuple #[.agg (fCells (decF q.b).2), errV (decF q.b).1]) ∧ Hid (SyGo w w3 N D L win (outSy i S) ∧ w3.heap[w.heap.size]? = some (.cells #[.int .i64 (q.src : Int), .int .i64 (q.dst : Int), .slice ua q.b.length uc] 103 (0, 0)) ∧ ∃ D3, D3.p = D.p ∧ SyIs w3 N D3 L win (outSy i S) ∧ Mod w w3 (Wr D) ∧ Gr w.heap.size D D3 ∧ ¬ Wr D3 w.heap.size)) := by
    refine hrm.mono ?_
    rintro e w2 ⟨rfl, hg⟩
    have hk : w2.heap[w.heap.size]? = some (.cells #[.int .i64 (q.src : Int), .int .i64 (q.dst : Int), .slice ua q.b.length uc] 103 (0, 0)) := (hg.keeps hnw (blk_lt hbx)).trans hbx
    refine ⟨rfl, (blk_cell hk 2).trans rfl, hide ?_⟩
    obtain ⟨D2, hp2, hS2, hm2, hg2⟩ := hg
    have hb2 : BytesIs w2 (.slice ua q.b.length uc) q.b := (hby.below hB0).mod hm2 fun k hk => hS0.wrByte hk
    obtain ⟨a', c', e', hib2⟩ := hb2.isB
    simp only [Value.slice.injEq, true_and] at e'
    obtain ⟨rfl, rfl⟩ := e'
    refine (decode_any ua _ uc q.b w2 (by omega) hib2).mono ?_
    rintro e w3 ⟨rfl, hB3⟩
    have hm3 : Mod w w3 (Wr D) := ((Mod.ofBelow hB0 (Wr D)).then hm2 (fun _ _ x => x)).below hB3
    have hg3 : Gr w.heap.size D D2 := hg2.le hB0.size
    refine ⟨rfl, hide ⟨⟨D2, hp2, hS2.below hB3, hm3, hg3⟩, (hB3.block _ (blk_lt hk)).trans hk, D2, hp2, hS2.below hB3, hm3, hg3, fun x => ?_⟩⟩
    rcases hg2.wr _ x with y | y
    · exact hnw y
    · have := blk_lt hbx; omega
  have HD := hide hdec
  have HPK := hide hpk
  have HI2 := hide hI2
  have HL := hide hL
  have HAR := hide hAR
  clear hdec hrg h hby hib hnv hrm hS0 hB0 hbx hI hI2 hpk hL hAR hnw hle
  go_enter Tryz.func56, Tryz.ntmps56
  go_wp2_with (refine wpList_load_mid rfl 103 _ rfl g (i * 3) rfl _ _ HRG.out Tryz.underlying103 rfl (by rw [infoPacket3]; rfl) ?_)
  rw [show w.alloc (.cells #[.int .i64 (q.src : Int), .int .i64 (q.dst : Int), .slice ua q.b.length uc] 103) = W0 from hW0.out]
  refine HD.out.mono ?_
  rintro e w2 ⟨rfl, z2, HD2⟩
  clear HD hW0 HRG c7 hi'
  go_wp2_with fail
  refine HD2.out.mono ?_
  rintro e w3 ⟨rfl, HG3⟩
  clear HD2 z2
  have q1 : FIs (w3.alloc (.cells (fCells fr0) 35)) w3.heap.size 35 fr0 := blk_new _ _
  have HQ1 := hide q1
  have HIN : Hid ((decF q.b).1 = 0 → FIn (decF q.b).2) := hide dec_in
  have HNO : Hid (isNone q → comeSy L win q (outSy i S) = outSy i S) := hide fun hn => by unfold comeSy; rw [if_pos hn]
  have HN1 : Hid ((decF q.b).1 ≠ 0 → isNone q) := hide .inl
  have HN2 : Hid ((decF q.b).2 1 ≠ (q.src : Int) → isNone q) := hide .inr
  have HVO : Hid ((decF q.b).1 = 0 → (decF q.b).2 1 = (q.src : Int) → q.dst = 3 → comeSy L win q (outSy i S) = ⟨S.rp, (takeF win S.v (decF q.b).2).1, voteNet win q.src (outSy i S) (decF q.b).2⟩) := hide fun a b c => by
    unfold comeSy
    rw [if_neg (by rintro (x | x); exact x a; exact x b), if_pos c]
    rfl
  have HRP : Hid ((decF q.b).1 = 0 → (decF q.b).2 1 = (q.src : Int) → q.dst ≠ 3 → comeSy L win q (outSy i S) = ⟨upd S.rp q.dst (takeS L (decF q.b).2 (S.rp q.dst)), S.v, sendsN q.dst q.src (takeT L (decF q.b).2 (S.rp q.dst)) (S.net.eraseIdx i)⟩) := hide fun a b c => by
    unfold comeSy
    rw [if_neg (by rintro (x | x); exact x a; exact x b), if_neg c]
    rfl
  clear q1
  generalize (decF q.b).2 = F at HIN HN2 HVO HRP ⊢
  generalize (decF q.b).1 = er at HIN HN1 HVO HRP ⊢
  go_wp2_with (refine wpList_store_fl rfl _ _ rfl w3.heap.size F rfl rfl fr0 HQ1.out ?_)
  intro w4 HF4
  have hB4 : Below w3.heap.size w3 w4 := ((Below.refl _ _).alloc (Nat.le_refl _) _).trans (HF4.out.2.2 _ (Nat.le_refl _))
  obtain ⟨_, hbx3, D3, hp3, hS3, hm3, hg3, hn3⟩ := HG3.out
  have hbx4 := (hB4.block _ (blk_lt hbx3)).trans hbx3
  have hS4 := hS3.below hB4
  have hm4 : Mod w w4 (Wr D) := hm3.below hB4
  have x0 : w4.cell? ⟨w.heap.size, 0, none⟩ = some (.int .i64 (q.src : Int)) := (blk_cell hbx4 0).trans rfl
  have x1 : w4.cell? ⟨w.heap.size, 1, none⟩ = some (.int .i64 (q.dst : Int)) := (blk_cell hbx4 1).trans rfl
  have y1 : w4.cell? ⟨w3.heap.size, 1, none⟩ = some (.int .i64 (F 1)) := HF4.out.1.at (by omega)
  have HFI := hide HF4.out.1
  have HBX := hide hbx4
  have HS4 := hide hS4
  have HM4 := hide hm4
  have HG : Hid (SyGo w w4 N D L win (outSy i S)) := hide ⟨D3, hp3, hS4, hm4, hg3⟩
  have hsz : w.heap.size < w4.heap.size := blk_lt hbx4
  have hsz3 : w.heap.size < w3.heap.size := blk_lt hbx3
  clear HG3 HF4 HQ1 hbx3 hS3 hm3 hB4 hbx4 hS4 hm4
  by_cases her : er = 0
  · subst her
    rw [show errV 0 = .nilIface from rfl]
    by_cases hfr : F 1 = (q.src : Int)
    · have hne : (F 1 != (q.src : Int)) = false := by simp [hfr]
      have HFR := hide hfr
      clear HNO HN1 HN2
      by_cases hd : q.dst = 3
      · have hd' : ((q.dst : Int) == 3) = true := by simp; omega
        have ht := tellVoter_any N D3 L win (outSy i S) w4 F q.src HS4.out hfr HI2.out.vok (by have := HM4.out.size; omega) HI2.out.many
        rw [hp3] at ht
        have HT : Hid (Calls Tryz.prog 75 #[.pointer (some ⟨D.p, 0, none⟩), .agg (fCells F)] w4 fun e w' => e = .returned (.tuple #[]) ∧ SyGo w w' N D L win (arriveSy L win i S)) := hide (by
          rw [HAR.out, HVO.out rfl hfr hd]
          refine ht.mono ?_
          rintro e w5 ⟨rfl, hg⟩
          exact ⟨rfl, SyGo.then hp3 HM4.out hg3 hg⟩)
        clear ht hfr hd HRP HVO
        go_wp2_with (refine wpList_load_f rfl _ rfl w3.heap.size rfl F HFI.out ?_)
        refine HT.out.mono ?_
        rintro e w5 ⟨rfl, hg⟩
        go_wp2
        exact bodyPost_ret (results_none rfl _ _ _) rfl ⟨rfl, hg⟩
      · have hd' : ((q.dst : Int) == 3) = false := by simp; omega
        have hd3 : q.dst < 3 := by have := HPK.out.dst; omega
        have hd3' : (q.dst : Int) < 3 := by omega
        have hrp := (HI2.out.rp q.dst hd3)
        obtain ⟨hok, hc0, hc1⟩ := hrp.ok hd3 HL.out hT HI2.out.vok.few
        have hid := hrp.id
        have hln := HS4.out.ln q.dst hd3
        have hrepd := rtake_rep (D3.rp q.dst) (D3.C q.dst) (S.rp q.dst) F w4.drew (HS4.out.drew.rp q.dst hd3) hok ⟨hc0, hc1⟩ (HIN.out rfl)
        rw [(hln.takes F _).1, (hln.takes F _).2] at hrepd
        have hfrm := takeT_from L F (S.rp q.dst)
        have hfew := takeT_few L F (S.rp q.dst)
        rw [show (S.rp q.dst).id = q.dst from hid] at hfrm
        have hEQ := HRP.out rfl hfr hd
        obtain ⟨R1, hR1⟩ : ∃ R1, Hid (takeS L F (S.rp q.dst) = R1) := ⟨_, hide rfl⟩
        obtain ⟨Fs, hFs⟩ : ∃ Fs, Hid (takeT L F (S.rp q.dst) = Fs) := ⟨_, hide rfl⟩
        rw [hR1.out, hFs.out] at hrepd hEQ
        rw [hFs.out] at hfrm hfew
        have HEQ := hide hEQ
        have hb0 : w4.drew.heap[w.heap.size]? = some (.cells #[.int .i64 (q.src : Int), .int .i64 (q.dst : Int), .slice ua q.b.length uc] 103 (0, 0)) := HBX.out
        have HSS : Hid (∀ wx, SyIs wx N D3 L win (outSy i S) ∨ SyIs wx N D3 L win ⟨upd S.rp q.dst R1, S.v, S.net.eraseIdx i⟩ → wx.heap[w.heap.size]? = some (.cells #[.int .i64 (q.src : Int), .int .i64 (q.dst : Int), .slice ua q.b.length uc] 103 (0, 0)) → FIs wx w3.heap.size 35 F → wx.cell? ⟨w.heap.size, 1, none⟩ = some (.int .i64 (q.dst : Int)) ∧ wx.cell? ⟨D.p, 3 + q.dst, none⟩ = some (.pointer (some ⟨D3.rp q.dst, 0, none⟩)) ∧ FIs wx w3.heap.size 35 F) := hide fun wx hx hb hf => ⟨(blk_cell hb 1).trans rfl, by rw [← hp3]; exact hx.elim (fun x => x.rpAt hd3) (fun x => x.rpAt hd3), hf⟩
        have HS0 := hide (unhide HSS w4.drew (.inl HS4.out.drew) hb0 HFI.out)
        have hcall : Calls Tryz.prog 76 #[.pointer (some ⟨D3.rp q.dst, 0, none⟩), .agg (fCells F)] w4.drew fun e w5 => ∃ va vn vc, e = .returned (.slice va vn vc) ∧ Hid (vn = Fs.length) ∧ (w5.cell? ⟨w.heap.size, 1, none⟩ = some (.int .i64 (q.dst : Int)) ∧ w5.cell? ⟨D.p, 3 + q.dst, none⟩ = some (.pointer (some ⟨D3.rp q.dst, 0, none⟩)) ∧ FIs w5 w3.heap.size 35 F) ∧ Hid (SyGo w w5 N D L win ⟨upd S.rp q.dst R1, S.v, S.net.eraseIdx i⟩ ∧ FRow w5 35 (.slice va vn vc) Fs) := by
          refine hrepd.mono ?_
          rintro e w5 ⟨⟨v, rfl, hr⟩, hR, hm⟩
          obtain ⟨hS5, hM5⟩ := HS4.out.drew.putR hd3 hm hR
          obtain ⟨va, vc, hve⟩ := hr.shape
          subst hve
          have hb5 : w5.heap[w.heap.size]? = some (.cells #[.int .i64 (q.src : Int), .int .i64 (q.dst : Int), .slice ua q.b.length uc] 103 (0, 0)) := (hM5.block _ (blk_lt hb0) hn3).trans hb0
          have hf5 : FIs w5 w3.heap.size 35 F := (hM5.block _ (blk_lt (w := w4.drew) HFI.out) (HS4.out.drew.notWr ⟨_, _, HFI.out⟩ (by decide))).trans HFI.out
          refine ⟨va, _, vc, rfl, hide rfl, unhide HSS w5 (.inr hS5) hb5 hf5, hide ⟨⟨D3, hp3, hS5, ?_, hg3⟩, hr⟩⟩
          exact (HM4.out.below ((Below.refl _ _).drew)).then hM5 (fun k hk hw => (hg3.wr k hw).elim id (fun x => by omega))
        have HC := hide hcall
        clear hcall hrepd hEQ HSS hb0 hok hrp hln hR1 hFs HRP HVO hd hfr
        go_wp2_with fail
        refine wp_region_held_drew (S := fun w' => w'.cell? ⟨w.heap.size, 1, none⟩ = some (.int .i64 (q.dst : Int)) ∧ w'.cell? ⟨D.p, 3 + q.dst, none⟩ = some (.pointer (some ⟨D3.rp q.dst, 0, none⟩)) ∧ FIs w' w3.heap.size 35 F) (by kernel_rfl) HS0.out (fun hHeld => ?_)
        refine wpAnyH_take (i := 0) (oi := _) (v := .pointer (some ⟨D.p, 0, none⟩)) rfl (by kernel_rfl) (by kernel_rfl) (by kernel_rfl) (fun _ _ _ h => h) (Or.inl ⟨by rfl, fun w _ => by go_simp⟩) hHeld ?_
        simp only [Act.put, List.getElem_toArray, List.getElem_cons_zero, List.setIfInBounds_toArray, List.set_cons_succ, List.set_cons_zero]
        refine wpAnyH_take (i := 1) (oi := _) (v := .pointer (some ⟨w.heap.size, 1, none⟩)) rfl (by kernel_rfl) (by kernel_rfl) (by kernel_rfl) (fun _ _ _ h => h) (Or.inl ⟨by rfl, fun w _ => by go_simp⟩) hHeld ?_
        simp only [Act.put, List.getElem_toArray, List.getElem_cons_succ, List.getElem_cons_zero, List.setIfInBounds_toArray, List.set_cons_succ, List.set_cons_zero]
        refine wpAnyH_take (i := 2) (oi := _) (v := .int .i64 (q.dst : Int)) rfl (by kernel_rfl) (by kernel_rfl) (by kernel_rfl) (fun _ _ _ h => h) (Or.inl ⟨by rfl, fun w h => by obtain ⟨h1, h2, _⟩ := h; go_simp⟩) hHeld ?_
        simp only [Act.put, List.getElem_toArray, List.getElem_cons_succ, List.getElem_cons_zero, List.setIfInBounds_toArray, List.set_cons_succ, List.set_cons_zero]
        refine wpAnyH_take (i := 3) (oi := _) (v := .pointer (some ⟨D.p, 0, none⟩)) rfl (by kernel_rfl) (by kernel_rfl) (by kernel_rfl) (fun _ _ _ h => h) (Or.inl ⟨by rfl, fun w _ => by go_simp⟩) hHeld ?_
        simp only [Act.put, List.getElem_toArray, List.getElem_cons_succ, List.getElem_cons_zero, List.setIfInBounds_toArray, List.set_cons_succ, List.set_cons_zero]
        refine wpAnyH_take (i := 4) (oi := _) (v := .pointer (some ⟨D.p, 3, none⟩)) rfl (by kernel_rfl) (by kernel_rfl) (by kernel_rfl) (fun _ _ _ h => h) (Or.inl ⟨by rfl, fun w _ => by go_simp⟩) hHeld ?_
        simp only [Act.put, List.getElem_toArray, List.getElem_cons_succ, List.getElem_cons_zero, List.setIfInBounds_toArray, List.set_cons_succ, List.set_cons_zero]
        refine wpAnyH_take (i := 5) (oi := _) (v := .pointer (some ⟨D.p, 3 + q.dst, none⟩)) rfl (by kernel_rfl) (by kernel_rfl) (by kernel_rfl) (fun _ _ _ h => h) (Or.inl ⟨by rfl, fun w _ => by go_simp⟩) hHeld ?_
        simp only [Act.put, List.getElem_toArray, List.getElem_cons_succ, List.getElem_cons_zero, List.setIfInBounds_toArray, List.set_cons_succ, List.set_cons_zero]
        refine wpAnyH_take (i := 6) (oi := _) (v := .pointer (some ⟨D3.rp q.dst, 0, none⟩)) rfl (by kernel_rfl) (by kernel_rfl) (by kernel_rfl) (fun _ _ _ h => h) (Or.inl ⟨by rfl, fun w h => by obtain ⟨h1, h2, _⟩ := h; go_simp⟩) hHeld ?_
        simp only [Act.put, List.getElem_toArray, List.getElem_cons_succ, List.getElem_cons_zero, List.setIfInBounds_toArray, List.set_cons_succ, List.set_cons_zero]
        refine wpAnyH_take (i := 7) (oi := _) (v := .agg (fCells F)) rfl (by kernel_rfl) (by kernel_rfl) (by kernel_rfl) (fun _ _ _ h => h) (yields_f (by rfl) _ rfl w3.heap.size rfl F (fun w h => h.2.2)) hHeld ?_
        simp only [Act.put, List.getElem_toArray, List.getElem_cons_succ, List.getElem_cons_zero, List.setIfInBounds_toArray, List.set_cons_succ, List.set_cons_zero]
        refine wpAnyH_take (i := 10) (oi := _) (v := .int .i64 0) rfl (by kernel_rfl) (by kernel_rfl) (by kernel_rfl) (fun _ _ _ h => h) (Or.inl ⟨by rfl, fun w _ => by go_simp⟩) hHeld ?_
        simp only [Act.put, List.getElem_toArray, List.getElem_cons_succ, List.getElem_cons_zero, List.setIfInBounds_toArray, List.set_cons_succ, List.set_cons_zero]
        refine wpAnyH_ready (rs := [8]) (by kernel_rfl) (by simp) ?_
        refine AllReadyH.cons (o := _) rfl (fun K hK => ?_) AllReadyH.nil
        rw [if_pos (by rfl)]
        go_simp
        go_at_call 76
        refine HC.out.mono ?_
        rintro e w5 ⟨va, vn, vc, rfl, HVN, hS5, HG5⟩
        dsimp only
        refine hK.out _ _ hS5 (fun hHeld => ?_)
        clear hK K
        refine wpAnyH_take (i := 9) (oi := _) (v := .int .i64 (vn : Int)) rfl (by kernel_rfl) (by kernel_rfl) (by kernel_rfl) (fun _ _ _ h => h) (Or.inl ⟨by rfl, fun w _ => by go_simp⟩) hHeld ?_
        simp only [Act.put, List.getElem_toArray, List.getElem_cons_succ, List.getElem_cons_zero, List.setIfInBounds_toArray, List.set_cons_succ, List.set_cons_zero]
        refine wpAnyH_done (by kernel_rfl) ?_ _
        have HFI5 := hide hS5.2.2
        have hvn1 : vn ≤ 1 := by have := HVN.out; omega
        clear hHeld HS0 HC hS5 HFI HBX HS4 HM4 HG x0 x1 y1
        go_wp2_with fail
        have HST : Hid (SyGo w w5 N D L win ⟨upd S.rp q.dst R1, S.v, sendsN q.dst q.src (Fs.take 0) (S.net.eraseIdx i)⟩ ∧ FRow w5 35 (.slice va vn vc) Fs ∧ FIs w5 w3.heap.size 35 F) := hide ⟨HG5.out.1, HG5.out.2, HFI5.out⟩
        go_loopw [50] (fun j wr => ∃ k : Nat, k ≤ vn ∧ j = .int .i64 k ∧ SyGo w wr N D L win ⟨upd S.rp q.dst R1, S.v, sendsN q.dst q.src (Fs.take k) (S.net.eraseIdx i)⟩ ∧ FRow wr 35 (.slice va vn vc) Fs ∧ FIs wr w3.heap.size 35 F) (fun j _ => vn - (intOf j).toNat)
        case atStart => exact ⟨0, by omega, rfl, HST.out⟩
        case round =>
          obtain ⟨k, hk, rfl, hgo, hrow, hfb⟩ := hrel
          clear HST HG5 HFI5
          by_cases hk3 : k < vn
          · have hk' : (k : Int) < (vn : Int) := by omega
            have hkl : k < Fs.length := by rw [← HVN.out]; exact hk3
            obtain ⟨g5, rfl⟩ := hrow.some (by omega)
            have hrg := hrow.range hkl
            have hnx := take_next hkl
            have hG1 : (Fs[k]?.getD fr0) 1 = (q.dst : Int) := by rw [List.getElem?_eq_getElem hkl]; exact hfrm _ (List.getElem_mem hkl)
            obtain ⟨G, hG⟩ : ∃ G, Hid (Fs[k]?.getD fr0 = G) := ⟨_, hide rfl⟩
            rw [hG.out] at hrg hnx hG1
            have HRG := hide hrg
            have hB2 : Below wr.heap.size wr (wr.alloc (.cells (fCells fr0) 35)) := (Below.refl _ _).alloc (Nat.le_refl _) _
            have q1 : FIs (wr.alloc (.cells (fCells fr0) 35)) wr.heap.size 35 fr0 := blk_new _ _
            have HQ1 := hide q1
            have HRW := hide hrow
            have HFB := hide hfb
            have HGO := hide hgo
            clear hrg q1 hrow hfb hgo
            go_wp2_with (first
              | (refine wpList_load_mid rfl 35 _ rfl g5 (k * 23) rfl (fCells G).toList _ HRG.out Tryz.underlying35 rfl (by rw [infoFrame]; rfl) ?_)
              | (refine wpList_store_fl rfl _ _ rfl wr.heap.size G rfl rfl fr0 HQ1.out ?_))
            intro w6 HF6
            have hB3 : Below wr.heap.size wr w6 := hB2.trans (HF6.out.2.2 _ (Nat.le_refl _))
            obtain ⟨D6, hp6, hS6, hm6, hg6⟩ := HGO.out.below hB3
            have HF := hide HF6.out.1
            have z1 : w6.cell? ⟨w3.heap.size, 1, none⟩ = some (.int .i64 (q.src : Int)) := by
              have hb := HFB.out.below HFB.out.lt hB3
              rw [hb.at (by omega), HFR.out]
            have HRW2 := hide (HRW.out.below hB3)
            have HFB2 := hide (HFB.out.below HFB.out.lt hB3)
            clear HRG HQ1 HRW HFB HGO HF6 hB2 hB3
            have hlen : (sendsN q.dst q.src (Fs.take k) (S.net.eraseIdx i)).length ≤ 120 := sendsN_len _ _ HI2.out.many
            have hsd := send_any N D6 L win _ w6 G q.dst q.src hS6 hG1 (Nat.le_trans hN hm6.size) hlen
            rw [hp6] at hsd
            have HSD : Hid (Calls Tryz.prog 72 #[.pointer (some ⟨D.p, 0, none⟩), .agg (fCells G), .int .i64 (q.src : Int)] w6 fun e w' => e = .returned (.tuple #[]) ∧ Hid (SyGo w w' N D L win ⟨upd S.rp q.dst R1, S.v, sendsN q.dst q.src (Fs.take (k + 1)) (S.net.eraseIdx i)⟩ ∧ FRow w' 35 (.slice (some ⟨g5, 0, none⟩) vn vc) Fs ∧ FIs w' w3.heap.size 35 F)) := hide (by
              refine hsd.mono ?_
              rintro e w7 ⟨rfl, hg⟩
              rw [hnx, sendsN_app]
              exact ⟨rfl, hide ⟨SyGo.then hp6 hm6 hg6 hg, HRW2.out.stays hg hS6, hg.stays hS6 HFB2.out (by decide)⟩⟩)
            clear hsd hS6 hm6 hg6 hnx
            go_wp2_with (refine wpList_load_f rfl _ rfl wr.heap.size rfl G HF.out ?_)
            refine HSD.out.mono ?_
            rintro e w7 ⟨rfl, HR⟩
            go_wp2
            go_roundw
            case rel => exact ⟨k + 1, by omega, by go_num, HR.out⟩
            case measure => simp [intOf]; omega
          · have hk' : ¬ (k : Int) < (vn : Int) := by omega
            have HGE : Hid (SyGo w wr N D L win ⟨upd S.rp q.dst R1, S.v, sendsN q.dst q.src Fs (S.net.eraseIdx i)⟩) := hide (by
              have := hgo
              rw [show k = Fs.length by have := HVN.out; omega, List.take_length] at this
              exact this)
            clear hgo hrow hfb
            go_wp2
            go_end0
            rw [HAR.out, HEQ.out]
            exact ⟨rfl, HGE.out⟩
    · have hne : (F 1 != (q.src : Int)) = true := by simp [hfr]
      have HX := hide (HNO.out (HN2.out hfr))
      clear hfr HNO HN1 HN2 HVO HRP
      go_wp2
      refine bodyPost_ret (results_none rfl _ _ _) rfl ⟨rfl, ?_⟩
      rw [HAR.out, HX.out]
      exact HG.out
  · rw [show errV er = .iface 81 (.int .i64 (er : Int)) from if_neg her]
    have HX := hide (HNO.out (HN1.out her))
    clear her HNO HN1 HN2 HVO HRP
    go_wp2
    refine bodyPost_ret (results_none rfl _ _ _) rfl ⟨rfl, ?_⟩
    rw [HAR.out, HX.out]
    exact HG.out
theorem SyIs.net7 {w : World} {N win : Nat} {D : SC} {L : RC} {S : SY} (h : SyIs w N D L win S) : ∃ a cap, w.cell? ⟨D.p, 7, none⟩ = some (.slice a S.net.length cap) := by
  obtain ⟨a, cap, hnv⟩ := h.net.shape
  exact ⟨a, cap, (h.at 7).trans (by show some D.nv = _; rw [hnv])⟩
set_option maxHeartbeats 2000000 in
set_option maxRecDepth 20000 in
theorem arriveAll_any {W : Seen} {liar T : Nat} (N : Nat) (D : SC) (L : RC) (win : Nat) (S : SY) (w : World) (m : Nat) (h : SyIs w N D L win S) (hI : SInv L W liar win T S) (hL : LOk L) (hT : T < 8000000) (hN : N ≤ w.heap.size) (hm : (runAll L win m S).net = []) :
    Calls Tryz.prog 48 #[.pointer (some ⟨D.p, 0, none⟩)] w fun e w' => e = .returned (.tuple #[]) ∧ SyGo w w' N D L win (runAll L win m S) := by
  obtain ⟨SF, hSF⟩ : ∃ SF, Hid (runAll L win m S = SF) := ⟨_, hide rfl⟩
  rw [hSF.out] at hm ⊢
  have HM := hide hm
  have HST : Hid (∃ S', SyGo w w N D L win S' ∧ SInv L W liar win T S' ∧ runAll L win m S' = SF) := hide ⟨S, h.goes, hI, hSF.out⟩
  have HL := hide hL
  clear hm h hI hSF hL
  go_enter Tryz.func48, Tryz.ntmps48
  go_wp2_with fail
  go_loopg [] m (fun k wr => ∃ S', SyGo w wr N D L win S' ∧ SInv L W liar win T S' ∧ runAll L win k S' = SF)
  case atStart => exact HST.out
  case round =>
    obtain ⟨S', ⟨D1, hp1, hS1, hm1, hg1⟩, hI1, hr1⟩ := hrel
    clear HST
    obtain ⟨a, cap, c7⟩ := hS1.net7
    rw [hp1] at c7
    by_cases h0 : S'.net.length = 0
    · have hne : ¬ (0 : Int) < (S'.net.length : Int) := by omega
      have HE : Hid (SyGo w wr N D L win SF) := hide (by
        rw [← hr1, runAll_nil (List.length_eq_zero_iff.1 h0)]
        exact ⟨D1, hp1, hS1, hm1, hg1⟩)
      clear hS1 hm1 hg1 hI1 hr1
      rw [h0] at c7
      go_wp2
      go_end0
      exact ⟨rfl, HE.out⟩
    · have hne : (0 : Int) < (S'.net.length : Int) := by omega
      obtain ⟨k1, rfl⟩ : ∃ k1, gk = k1 + 1 := by
        cases gk with
        | zero =>
          have : S' = SF := hr1
          rw [this, HM.out] at h0
          exact absurd rfl h0
        | succ k1 => exact ⟨k1, rfl⟩
      have hAr := (hI1.arrive HL.out (i := 0) (by omega)).1
      have hcall := arrive_any N D1 L win S' wr 0 hS1 hI1 HL.out hT (by omega) (Nat.le_trans hN hm1.size)
      rw [hp1] at hcall
      have HC : Hid (Calls Tryz.prog 56 #[.pointer (some ⟨D.p, 0, none⟩), .int .i64 0] wr fun e w' => e = .returned (.tuple #[]) ∧ Hid (∃ S', SyGo w w' N D L win S' ∧ SInv L W liar win T S' ∧ runAll L win k1 S' = SF)) := hide (by
        refine hcall.mono ?_
        rintro e w2 ⟨rfl, hg⟩
        exact ⟨rfl, hide ⟨_, SyGo.then hp1 hm1 hg1 hg, hAr, hr1⟩⟩)
      clear hcall hAr hS1 hm1 hg1 hI1 hr1
      go_wp2_with fail
      refine HC.out.mono ?_
      rintro e w2 ⟨rfl, HR⟩
      go_wp2
      go_roundg k1
      case measure => omega
      case rel => exact HR.out
theorem takeF_congr (win : Nat) (V : VS) {F G : FR} (h : ∀ k, k < 6 → F k = G k) : takeF win V F = takeF win V G := by
  have h0 := h 0 (by omega)
  have h1 := h 1 (by omega)
  have h2 := h 2 (by omega)
  have hc : cmF F = cmF G := by unfold cmF; rw [h 3 (by omega), h 4 (by omega), h 5 (by omega)]
  have hh : hearB V F = hearB V G := by unfold hearB kindB fromB; rw [h0, h1, h2]
  have hp : passB V F = passB V G := by unfold passB; rw [h0, h2]
  unfold takeF
  rw [hh, hp, hc, h1, h2]
def doneP (tr : List Cm) (r n : Nat) : Pk := ⟨3, r, bytesF (doneF n (cmAt tr n))⟩
def askP (r : Nat) (c : Nat) : Pk := ⟨r, 3, bytesF (startF 4 (r : Int) (c : Int))⟩
def LateP (tr : List Cm) (p : Pk) : Prop := ∃ r, r < 3 ∧ ((∃ n, n < tr.length ∧ p = doneP tr r n) ∨ ∃ c, c < 1001 ∧ p = askP r c)
theorem ask_may {r c : Nat} (hr : r < 3) (hc : c < 1001) : mayB (startF 4 (r : Int) (c : Int)) = true := by
  have hnum : numsF (startF 4 (r : Int) (c : Int)) = [4, (r : Int), (c : Int)] := nums_else (by show (4 : Int) ≠ 1; decide) (by show (4 : Int) ≠ 2; decide) (by show (4 : Int) ≠ 3; decide) (by show (4 : Int) ≠ 5; decide)
  unfold mayB
  rw [hnum]
  have hfr : framedF [4, (r : Int), (c : Int)] = startF 4 (r : Int) (c : Int) := framed_else (l := [4, (r : Int), (c : Int)]) (by show (4 : Int) ≠ 1; decide) (by show (4 : Int) ≠ 2; decide) (by show (4 : Int) ≠ 3; decide) (by show (4 : Int) ≠ 5; decide)
  rw [hfr]
  have hh : headB (startF 4 (r : Int) (c : Int)) = true := by
    unfold headB
    show ((decide ((1 : Int) ≤ 4) && decide ((4 : Int) ≤ 5)) && (decide (0 ≤ (r : Int)) && decide ((r : Int) ≤ 3))) = true
    simp only [Bool.and_eq_true, decide_eq_true_eq]
    omega
  rw [hh, (eqB_iff _ _).2 fun _ _ => rfl]
  simp only [List.all_cons, List.all_nil, fitsB, Bool.and_eq_true, decide_eq_true_eq, and_true, true_and]
  omega
theorem doneP_inj {tr : List Cm} {r r' n n' : Nat} (h : mayB (doneF n (cmAt tr n)) = true) (h' : mayB (doneF n' (cmAt tr n')) = true) (e : doneP tr r n = doneP tr r' n') : r = r' ∧ n = n' := by
  unfold doneP at e
  simp only [Pk.mk.injEq, true_and] at e
  refine ⟨e.1, ?_⟩
  have h1 := (bytes_may h).2 2 (by omega)
  have h2 := (bytes_may h').2 2 (by omega)
  rw [e.2, h2] at h1
  have : ((n' : Nat) : Int) = ((n : Nat) : Int) := h1
  omega
theorem askP_inj {r r' c c' : Nat} (hr : r < 3) (hr' : r' < 3) (hc : c < 1001) (hc' : c' < 1001) (e : askP r c = askP r' c') : r = r' ∧ c = c' := by
  unfold askP at e
  simp only [Pk.mk.injEq, true_and] at e
  refine ⟨e.1, ?_⟩
  have h1 := (bytes_may (ask_may hr hc)).2 2 (by omega)
  have h2 := (bytes_may (ask_may hr' hc')).2 2 (by omega)
  rw [e.2, h2] at h1
  have : ((c' : Nat) : Int) = ((c : Nat) : Int) := h1
  omega
section
variable {L : RC} {W : Seen} {liar win T n k : Nat} {S : SY}
structure FreshR (tr : List Cm) (R : RS) : Prop where
  cyc : R.cycle = (tr.length : Int)
  ticks : R.ticks = 0
  smp : R.smp = fun _ => smp0
def IdleR (S : SY) (r : Nat) (R0 : RS) : Prop := S.rp r = R0 ∧ (R0.cycle = (S.v.tr.length : Int) ∨ ∀ p ∈ S.net, p.dst ≠ r ∧ p.src ≠ r)
def BusyR (S : SY) (r : Nat) : Prop := ∃ c : Nat, (S.rp r).cycle = c ∧ c < S.v.tr.length ∧
  (((S.rp r).ahead = (S.v.tr.length : Int) - 1 ∧ (askP r c ∈ S.net ∨ doneP S.v.tr r c ∈ S.net)) ∨ doneP S.v.tr r (S.v.tr.length - 1) ∈ S.net)
structure Late (I : Nat → Bool) (S0 S : SY) : Prop where
  v : S.v = S0.v
  net : ∀ p ∈ S.net, LateP S.v.tr p
  sees : ∀ r, r < 3 → (S.rp r).sx = (S0.rp r).sx ∧ (S.rp r).sy = (S0.rp r).sy
  one : ∀ r, r < 3 → (I r = true ∧ IdleR S r (S0.rp r)) ∨ (I r = false ∧ (BusyR S r ∨ FreshR S.v.tr (S.rp r)))
theorem put_mem {p q : Pk} {l : List Pk} (h : p ∈ l) : p ∈ putP q l := by unfold putP; split; exact h; exact List.mem_append_left _ h
theorem put_new {p : Pk} {l : List Pk} (h : l.length < 120) : p ∈ putP p l := by unfold putP; rw [if_neg (by omega)]; simp
theorem put_or {p q : Pk} {l : List Pk} (h : p ∈ putP q l) : p ∈ l ∨ p = q := by
  unfold putP at h
  split at h
  · exact .inl h
  · rcases List.mem_append.1 h with h | h
    · exact .inl h
    · exact .inr (List.mem_singleton.1 h)
theorem Late.comes {I : Nat → Bool} {S0 : SY} (hl : Late I S0 S) (h : SInv L W 3 win T S) (hL : LOk L) {p : Pk} {l : List Pk} (he : S.net = p :: l) : Late I S0 (arriveSy L win 0 S) := by
  have hpk : pkAt S.net 0 = p := by rw [he]; rfl
  have hou : outSy 0 S = ⟨S.rp, S.v, l⟩ := by unfold outSy; rw [he]; rfl
  have hlen : l.length < 120 := by have := h.many; rw [he] at this; simp at this; omega
  have hfew := h.vok.few
  unfold arriveSy
  rw [hpk, hou]
  have hmem : p ∈ S.net := by rw [he]; simp
  have hln : ∀ q ∈ l, LateP S.v.tr q := fun q hq => hl.net q (by rw [he]; simp [hq])
  obtain ⟨r, hr, hp⟩ := hl.net p hmem
  rcases hp with ⟨n, hn, rfl⟩ | ⟨c, hc, rfl⟩
  ·
    obtain ⟨q1, q2⟩ := h.done_dec hL hn
    have hnn : ¬ isNone (doneP S.v.tr r n) := by
      rintro (e | e)
      · exact e q1
      · exact e (q2 1 (by omega))
    have hd3 : (doneP S.v.tr r n).dst ≠ 3 := by show r ≠ 3; omega
    have hcs : comeSy L win (doneP S.v.tr r n) ⟨S.rp, S.v, l⟩ = ⟨upd S.rp r (takeS L (decF (doneP S.v.tr r n).b).2 (S.rp r)), S.v, sendsN r 3 (takeT L (decF (doneP S.v.tr r n).b).2 (S.rp r)) l⟩ := by
      unfold comeSy; rw [if_neg hnn, if_neg hd3]; rfl
    rw [hcs]
    have e0 : (decF (doneP S.v.tr r n).b).2 0 = 3 := q2 0 (by omega)
    have e1 : (decF (doneP S.v.tr r n).b).2 1 = 3 := q2 1 (by omega)
    have e2 : (decF (doneP S.v.tr r n).b).2 2 = (n : Int) := q2 2 (by omega)
    generalize (decF (doneP S.v.tr r n).b).2 = F at e0 e1 e2
    have hts : takeS L F (S.rp r) = doneR L F (S.rp r) := by unfold takeS; rw [if_pos ⟨e0, e1⟩]
    have htt : takeT L F (S.rp r) = doneT L F (S.rp r) := by unfold takeT; rw [if_pos ⟨e0, e1⟩]
    rw [hts, htt]
    obtain ⟨m, c1, c2, _⟩ := (h.rp r hr).cyc
    have hid := (h.rp r hr).id
    have hah := (h.rp r hr).ahead
    have hsee : (doneR L F (S.rp r)).sx = (S.rp r).sx ∧ (doneR L F (S.rp r)).sy = (S.rp r).sy := by unfold doneR; split; exact ⟨rfl, rfl⟩; split <;> exact ⟨rfl, rfl⟩
    have hsees : ∀ j, j < 3 → (upd S.rp r (doneR L F (S.rp r)) j).sx = (S0.rp j).sx ∧ (upd S.rp r (doneR L F (S.rp r)) j).sy = (S0.rp j).sy := fun j hj => by
      by_cases e : j = r
      · subst e; rw [upd_same, hsee.1, hsee.2]; exact hl.sees j hj
      · rw [upd_other _ _ e]; exact hl.sees j hj
    have hother : ∀ (net : List Pk), (∀ q ∈ l, q ∈ net) → (∀ q ∈ net, q ∈ l ∨ q.src = r ∧ q.dst = 3) → ∀ j, j < 3 → j ≠ r → (I j = true ∧ IdleR ⟨upd S.rp r (doneR L F (S.rp r)), S.v, net⟩ j (S0.rp j)) ∨ (I j = false ∧ (BusyR ⟨upd S.rp r (doneR L F (S.rp r)), S.v, net⟩ j ∨ FreshR S.v.tr (upd S.rp r (doneR L F (S.rp r)) j))) := by
      intro net hin hout j hj hjr
      have hu : upd S.rp r (doneR L F (S.rp r)) j = S.rp j := upd_other _ _ hjr
      rcases hl.one j hj with ⟨hI, i1, i2⟩ | ⟨hI, ⟨c, b1, b2, b3⟩ | hf⟩
      · left
        refine ⟨hI, hu.trans i1, ?_⟩
        rcases i2 with i2 | i2
        · exact .inl i2
        · right
          intro q hq
          rcases hout q hq with hq | ⟨hq1, hq2⟩
          · exact i2 q (by rw [he]; simp [hq])
          · exact ⟨by omega, by omega⟩
      · right
        refine ⟨hI, .inl ?_⟩
        have hne : ∀ x, doneP S.v.tr j x ∈ S.net → doneP S.v.tr j x ∈ net := fun x hx => by
          rw [he] at hx
          rcases List.mem_cons.1 hx with e | e
          · have : j = r := by have := congrArg Pk.dst e; exact this
            exact absurd this hjr
          · exact hin _ e
        refine ⟨c, by show (upd S.rp r _ j).cycle = _; rw [hu]; exact b1, b2, ?_⟩
        rcases b3 with ⟨a1, a2⟩ | b3
        · left
          refine ⟨by show (upd S.rp r _ j).ahead = _; rw [hu]; exact a1, ?_⟩
          rcases a2 with a2 | a2
          · left
            rw [he] at a2
            rcases List.mem_cons.1 a2 with e | e
            · have := congrArg Pk.dst e
              have : (3 : Nat) = r := this
              omega
            · exact hin _ e
          · exact .inr (hne _ a2)
        · exact .inr (hne _ b3)
      · right; refine ⟨hI, .inr ?_⟩; rw [hu]; exact hf
    have hnone : ∀ (hT : doneT L F (S.rp r) = []), ((I r = true ∧ IdleR ⟨upd S.rp r (doneR L F (S.rp r)), S.v, l⟩ r (S0.rp r)) ∨ (I r = false ∧ (BusyR ⟨upd S.rp r (doneR L F (S.rp r)), S.v, l⟩ r ∨ FreshR S.v.tr (doneR L F (S.rp r))))) → Late I S0 ⟨upd S.rp r (doneR L F (S.rp r)), S.v, sendsN r 3 (doneT L F (S.rp r)) l⟩ := by
      intro hT hone
      rw [hT]
      refine ⟨hl.v, hln, hsees, fun j hj => ?_⟩
      by_cases e : j = r
      · subst e
        show (_ ∧ IdleR _ _ _) ∨ (_ ∧ (BusyR _ _ ∨ FreshR S.v.tr (upd S.rp j _ j)))
        rw [upd_same]; exact hone
      · exact hother l (fun _ hq => hq) (fun _ hq => .inl hq) j hj e
    have hsome : ∀ (hI : I r = false) (c : Nat) (_ : c < S.v.tr.length) (hc : (doneR L F (S.rp r)).cycle = c) (hT : doneT L F (S.rp r) = [asksR (doneR L F (S.rp r))]) (hB : (doneR L F (S.rp r)).ahead = (S.v.tr.length : Int) - 1 ∨ doneP S.v.tr r (S.v.tr.length - 1) ∈ l ∨ ((doneR L F (S.rp r)).ahead = (S.v.tr.length : Int) - 1 ∧ doneP S.v.tr r c ∈ l)), Late I S0 ⟨upd S.rp r (doneR L F (S.rp r)), S.v, sendsN r 3 (doneT L F (S.rp r)) l⟩ := by
      intro hI c hcl hc hT hB
      have hid' : (doneR L F (S.rp r)).id = r := by unfold doneR; split; exact hid; split <;> exact hid
      have hak : sendsN r 3 (doneT L F (S.rp r)) l = putP (askP r c) l := by
        rw [hT]
        show putP ⟨r, 3, bytesF (asksR (doneR L F (S.rp r)))⟩ l = _
        unfold asksR askP
        rw [hid', hc]
      rw [hak]
      refine ⟨hl.v, fun q hq => ?_, hsees, fun j hj => ?_⟩
      · rcases put_or hq with hq | rfl
        · exact hln q hq
        · exact ⟨r, hr, .inr ⟨c, by omega, rfl⟩⟩
      · by_cases e : j = r
        · subst e
          right
          refine ⟨hI, .inl ⟨c, by show (upd S.rp j _ j).cycle = _; rw [upd_same]; exact hc, hcl, ?_⟩⟩
          rcases hB with hB | hB | hB
          · exact .inl ⟨by show (upd S.rp j _ j).ahead = _; rw [upd_same]; exact hB, .inl (put_new hlen)⟩
          · exact .inr (put_mem hB)
          · exact .inl ⟨by show (upd S.rp j _ j).ahead = _; rw [upd_same]; exact hB.1, .inl (put_new hlen)⟩
        · exact hother _ (fun _ hq => put_mem hq) (fun q hq => (put_or hq).imp id (fun e => by rw [e]; exact ⟨rfl, rfl⟩)) j hj e
    by_cases g1 : F 2 < (S.rp r).cycle
    ·
      have eR : doneR L F (S.rp r) = S.rp r := by unfold doneR; rw [if_pos g1]
      have eT : doneT L F (S.rp r) = [] := by unfold doneT; rw [if_pos g1]
      refine hnone eT ?_
      rw [eR]
      have hu : upd S.rp r (S.rp r) = S.rp := by funext j; unfold upd; split; rename_i e; rw [e]; rfl
      rw [hu]
      rcases hl.one r hr with ⟨hI, i1, i2⟩ | ⟨hI, ⟨c, b1, b2, b3⟩ | hf⟩
      · left
        refine ⟨hI, i1, i2.imp id fun i2 q hq => i2 q (by rw [he]; simp [hq])⟩
      · right
        refine ⟨hI, .inl ?_⟩
        have hne : ∀ x, c ≤ x → x < S.v.tr.length → doneP S.v.tr r x ∈ S.net → doneP S.v.tr r x ∈ l := fun x hx hxl hm => by
          rw [he] at hm
          rcases List.mem_cons.1 hm with e | e
          · have := (doneP_inj (h.done_may hL hxl) (h.done_may hL hn) e).2
            omega
          · exact e
        refine ⟨c, b1, b2, ?_⟩
        rcases b3 with ⟨a1, a2⟩ | b3
        · refine .inl ⟨a1, a2.imp (fun a2 => ?_) (hne c (Nat.le_refl _) b2)⟩
          rw [he] at a2
          rcases List.mem_cons.1 a2 with e | e
          · have := congrArg Pk.dst e
            have : (3 : Nat) = r := this
            omega
          · exact e
        · exact .inr (hne (S.v.tr.length - 1) (by omega) (by omega) b3)
      · exact .inr ⟨hI, .inr hf⟩
    · by_cases g2 : F 2 = (S.rp r).cycle
      ·
        have eR : doneR L F (S.rp r) = goR ((S.rp r).cycle + 1) (nextR L (S.rp r) (F 3) (F 4)) (aheadR (F 2) (S.rp r)) := by unfold doneR; rw [if_neg g1, if_pos g2]
        have eC : (doneR L F (S.rp r)).cycle = ((n + 1 : Nat) : Int) := by rw [eR]; show (S.rp r).cycle + 1 = _; omega
        have eA : (doneR L F (S.rp r)).ahead = if (S.rp r).ahead < F 2 then F 2 else (S.rp r).ahead := by rw [eR]; rfl
        have hbusy : I r = false ∧ BusyR S r := by
          rcases hl.one r hr with ⟨_, i1, i2⟩ | ⟨hI, hb | hf⟩
          · exfalso
            rcases i2 with i2 | i2
            · rw [← i1] at i2; omega
            · exact (i2 _ hmem).1 rfl
          · exact ⟨hI, hb⟩
          · exfalso; have := hf.cyc; omega
        obtain ⟨hI, hbusy⟩ := hbusy
        by_cases g3 : n + 1 = S.v.tr.length
        · have eT : doneT L F (S.rp r) = [] := by
            unfold doneT
            rw [if_neg g1, if_neg ?_]
            rw [eC, eA]
            split <;> omega
          refine hnone eT (.inr ⟨hI, .inr ?_⟩)
          rw [eR]
          exact ⟨by show (S.rp r).cycle + 1 = _; omega, rfl, rfl⟩
        · have hn1 : n + 1 < S.v.tr.length := by omega
          obtain ⟨c, b1, b2, b3⟩ := hbusy
          have hcn : c = n := by omega
          subst hcn
          have hlast : doneP S.v.tr r (S.v.tr.length - 1) ∈ S.net → doneP S.v.tr r (S.v.tr.length - 1) ∈ l := fun hm => by
            rw [he] at hm
            rcases List.mem_cons.1 hm with e | e
            · have := (doneP_inj (h.done_may hL (show S.v.tr.length - 1 < S.v.tr.length by omega)) (h.done_may hL hn) e).2
              omega
            · exact e
          by_cases g4 : (doneR L F (S.rp r)).cycle ≤ (doneR L F (S.rp r)).ahead
          · have eT : doneT L F (S.rp r) = [asksR (doneR L F (S.rp r))] := by unfold doneT; rw [if_neg g1, if_pos g4]
            refine hsome hI (c + 1) hn1 eC eT ?_
            rcases b3 with ⟨a1, _⟩ | b3
            · left; rw [eA]; split <;> omega
            · exact .inr (.inl (hlast b3))
          · have eT : doneT L F (S.rp r) = [] := by unfold doneT; rw [if_neg g1, if_neg g4]
            refine hnone eT (.inr ⟨hI, .inl ⟨c + 1, by show (upd S.rp r _ r).cycle = _; rw [upd_same]; exact eC, hn1, ?_⟩⟩)
            rcases b3 with ⟨a1, _⟩ | b3
            · exfalso
              apply g4
              rw [eC, eA]
              split <;> omega
            · exact .inr (hlast b3)
      ·
        have eR : doneR L F (S.rp r) = aheadR (F 2) (S.rp r) := by unfold doneR; rw [if_neg g1, if_neg g2]
        have eA : (doneR L F (S.rp r)).ahead = if (S.rp r).ahead < F 2 then F 2 else (S.rp r).ahead := by rw [eR]; rfl
        have eC : (doneR L F (S.rp r)).cycle = (m : Int) := by rw [eR]; exact c1
        have hmn : m < n := by omega
        have eT : doneT L F (S.rp r) = [asksR (doneR L F (S.rp r))] := by
          unfold doneT
          rw [if_neg g1, if_pos ?_]
          rw [eC, eA]
          split <;> omega
        have hbusy : I r = false ∧ BusyR S r := by
          rcases hl.one r hr with ⟨_, i1, i2⟩ | ⟨hI, hb | hf⟩
          · exfalso
            rcases i2 with i2 | i2
            · rw [← i1] at i2; omega
            · exact (i2 _ hmem).1 rfl
          · exact ⟨hI, hb⟩
          · exfalso; have := hf.cyc; omega
        obtain ⟨hI, c, b1, b2, b3⟩ := hbusy
        have hcm : c = m := by omega
        subst hcm
        refine hsome hI c b2 eC eT ?_
        by_cases g5 : n = S.v.tr.length - 1
        · left; rw [eA]; split <;> omega
        · rcases b3 with ⟨a1, _⟩ | b3
          · left; rw [eA]; split <;> omega
          · right; left
            rw [he] at b3
            rcases List.mem_cons.1 b3 with e | e
            · have := (doneP_inj (h.done_may hL (show S.v.tr.length - 1 < S.v.tr.length by omega)) (h.done_may hL hn) e).2
              omega
            · exact e
  ·
    obtain ⟨q1, q2⟩ := bytes_may (ask_may hr hc)
    have hnn : ¬ isNone (askP r c) := by
      rintro (e | e)
      · exact e q1
      · exact e (q2 1 (by omega))
    have hcs : comeSy L win (askP r c) ⟨S.rp, S.v, l⟩ = ⟨S.rp, (takeF win S.v (decF (askP r c).b).2).1, voteNet win r ⟨S.rp, S.v, l⟩ (decF (askP r c).b).2⟩ := by
      unfold comeSy; rw [if_neg hnn, if_pos (show (askP r c).dst = 3 from rfl)]; rfl
    rw [hcs]
    have hcg := takeF_congr win S.v (F := (decF (askP r c).b).2) (G := startF 4 (r : Int) (c : Int)) (fun k hk => q2 k (by omega))
    have hvn : voteNet win r ⟨S.rp, S.v, l⟩ (decF (askP r c).b).2 = voteNet win r ⟨S.rp, S.v, l⟩ (startF 4 (r : Int) (c : Int)) := by
      unfold voteNet
      show (if (takeF win S.v _).2.2 then allsN 3 (takeF win S.v _).2.1 l else sendsN 3 r (takeF win S.v _).2.1 l) = _
      rw [hcg]
    rw [hvn, hcg]
    have hou' : S.v.out.testBit r = false := h.out r hr (by omega)
    have hhear : hearB S.v (startF 4 (r : Int) (c : Int)) = true := by
      unfold hearB kindB fromB
      show (((4 : Int) == 2 || (4 : Int) == 4) && ((decide (0 ≤ (r : Int)) && decide ((r : Int) < 3)) && (!S.v.out.testBit ((r : Int)).toNat && decide (0 ≤ (c : Int))))) = true
      rw [Int.toNat_natCast, hou']
      simp
      omega
    by_cases g1 : c < S.v.tr.length
    · have hct : (startF 4 (r : Int) (c : Int)) 2 = (c : Int) := rfl
      have et : takeF win S.v (startF 4 (r : Int) (c : Int)) = (S.v, pastF S.v.tr c, false) := by
        unfold takeF
        rw [if_neg (by rw [hhear]; decide), hct, if_pos (by omega), Int.toNat_natCast]
      have ev : voteNet win r ⟨S.rp, S.v, l⟩ (startF 4 (r : Int) (c : Int)) = sendsN 3 r (pastF S.v.tr c) l := by
        unfold voteNet
        show (if (takeF win S.v _).2.2 then allsN 3 (takeF win S.v _).2.1 l else sendsN 3 r (takeF win S.v _).2.1 l) = _
        rw [et]; simp
      rw [ev, et]
      have hin : ∀ q ∈ l, q ∈ sendsN 3 r (pastF S.v.tr c) l := fun q hq => by
        unfold pastF
        split
        · exact put_mem hq
        · exact put_mem (put_mem hq)
      have hfirst : doneP S.v.tr r c ∈ sendsN 3 r (pastF S.v.tr c) l := by
        unfold pastF
        split
        · exact put_new hlen
        · exact put_mem (put_new hlen)
      have hout : ∀ q ∈ sendsN 3 r (pastF S.v.tr c) l, q ∈ l ∨ q = doneP S.v.tr r c ∨ q = doneP S.v.tr r (S.v.tr.length - 1) := fun q hq => by
        unfold pastF at hq
        split at hq
        · exact (put_or hq).imp id .inl
        · rcases put_or hq with hq | hq
          · exact (put_or hq).imp id .inl
          · exact .inr (.inr hq)
      refine ⟨hl.v, fun q hq => ?_, hl.sees, fun j hj => ?_⟩
      · rcases hout q hq with hq | rfl | rfl
        · exact hln q hq
        · exact ⟨r, hr, .inl ⟨c, g1, rfl⟩⟩
        · exact ⟨r, hr, .inl ⟨S.v.tr.length - 1, by show S.v.tr.length - 1 < S.v.tr.length; omega, rfl⟩⟩
      · rcases hl.one j hj with ⟨hI, i1, i2⟩ | ⟨hI, ⟨x, b1, b2, b3⟩ | hf⟩
        · left
          refine ⟨hI, i1, ?_⟩
          rcases i2 with i2 | i2
          · exact .inl i2
          · by_cases e : j = r
            · exact absurd e.symm (i2 _ hmem).2
            · right
              intro q hq
              rcases hout q hq with hq | rfl | rfl
              · exact i2 q (by rw [he]; simp [hq])
              · exact ⟨fun x => e x.symm, by show (3 : Nat) ≠ j; omega⟩
              · exact ⟨fun x => e x.symm, by show (3 : Nat) ≠ j; omega⟩
        · right
          refine ⟨hI, .inl ?_⟩
          have hdn : ∀ y, doneP S.v.tr j y ∈ S.net → doneP S.v.tr j y ∈ sendsN 3 r (pastF S.v.tr c) l := fun y hy => by
            rw [he] at hy
            rcases List.mem_cons.1 hy with e | e
            · have : j = 3 := congrArg Pk.dst e
              omega
            · exact hin _ e
          refine ⟨x, b1, b2, ?_⟩
          rcases b3 with ⟨a1, a2⟩ | b3
          · left
            refine ⟨a1, ?_⟩
            rcases a2 with a2 | a2
            · rw [he] at a2
              rcases List.mem_cons.1 a2 with e | e
              · obtain ⟨rfl, rfl⟩ := askP_inj hj hr (by omega) hc e
                exact .inr hfirst
              · exact .inl (hin _ e)
            · exact .inr (hdn _ a2)
          · exact .inr (hdn _ b3)
        · exact .inr ⟨hI, .inr hf⟩
    · have hct : (startF 4 (r : Int) (c : Int)) 2 = (c : Int) := rfl
      have et : takeF win S.v (startF 4 (r : Int) (c : Int)) = (S.v, [], false) := by
        unfold takeF
        rw [if_neg (by rw [hhear]; decide), hct, if_neg (by omega), if_pos]
        unfold passB
        show ((_ || (4 : Int) == 4) || _) = true
        simp
      have ev : voteNet win r ⟨S.rp, S.v, l⟩ (startF 4 (r : Int) (c : Int)) = l := by
        unfold voteNet
        show (if (takeF win S.v _).2.2 then allsN 3 (takeF win S.v _).2.1 l else sendsN 3 r (takeF win S.v _).2.1 l) = _
        rw [et]; simp [sendsN]
      rw [ev, et]
      refine ⟨hl.v, hln, hl.sees, fun j hj => ?_⟩
      rcases hl.one j hj with ⟨hI, i1, i2⟩ | ⟨hI, ⟨x, b1, b2, b3⟩ | hf⟩
      · exact .inl ⟨hI, i1, i2.imp id fun i2 q hq => i2 q (by rw [he]; simp [hq])⟩
      · right
        refine ⟨hI, .inl ?_⟩
        have hdn : ∀ y, doneP S.v.tr j y ∈ S.net → doneP S.v.tr j y ∈ l := fun y hy => by
          rw [he] at hy
          rcases List.mem_cons.1 hy with e | e
          · have : j = 3 := congrArg Pk.dst e
            omega
          · exact e
        refine ⟨x, b1, b2, ?_⟩
        rcases b3 with ⟨a1, a2⟩ | b3
        · left
          refine ⟨a1, ?_⟩
          rcases a2 with a2 | a2
          · rw [he] at a2
            rcases List.mem_cons.1 a2 with e | e
            · obtain ⟨_, rfl⟩ := askP_inj hj hr (by omega) hc e
              omega
            · exact .inl e
          · exact .inr (hdn _ a2)
        · exact .inr (hdn _ b3)
      · exact .inr ⟨hI, .inr hf⟩
theorem Late.all {I : Nat → Bool} {S0 : SY} (hL : LOk L) : ∀ (m : Nat) (S : SY), Late I S0 S → SInv L W 3 win T S → (runAll L win m S).net = [] → Late I S0 (runAll L win m S) ∧ SInv L W 3 win T (runAll L win m S)
  | 0, S, hl, h, _ => ⟨hl, h⟩
  | m + 1, S, hl, h, hm => by
    cases hnet : S.net with
    | nil => rw [runAll_nil hnet]; exact ⟨hl, h⟩
    | cons p l =>
      exact Late.all hL m _ (hl.comes h hL hnet) (h.arrive hL (by rw [hnet]; simp)).1 hm
theorem Late.end {I : Nat → Bool} {S0 : SY} (hl : Late I S0 S) (he : S.net = []) {r : Nat} (hr : r < 3) : (I r = true ∧ S.rp r = S0.rp r) ∨ (I r = false ∧ FreshR S.v.tr (S.rp r)) := by
  rcases hl.one r hr with ⟨hI, i1, _⟩ | ⟨hI, ⟨c, _, _, b3⟩ | hf⟩
  · exact .inl ⟨hI, i1⟩
  · rw [he] at b3; simp at b3
  · exact .inr ⟨hI, hf⟩
end
end Go.Proofs.YtaablbmgagiajaaGreatDoor
