import Derived.Test.YtaablbmgagiajabGreatDoorQGAX
namespace Go.Proofs.YtaablbmgagiajabGreatDoor
open Go.RowKit Go.Deep
theorem at0_in {l : List Int} (h : ∀ x ∈ l, 0 ≤ x ∧ x ≤ 1048576) (k : Nat) : 0 ≤ at0 l k ∧ at0 l k ≤ 1048576 := by
  unfold at0
  cases e : l[k]? with
  | none => show (0 : Int) ≤ 0 ∧ (0 : Int) ≤ 1048576; omega
  | some x => exact h x (List.mem_of_getElem? e)
theorem framed_in {l : List Int} (h : ∀ x ∈ l, 0 ≤ x ∧ x ≤ 1048576) (k : Nat) : 0 ≤ framedF l k ∧ framedF l k ≤ 1048576 := by
  have a := at0_in h
  unfold framedF
  split
  · unfold inF; repeat' split
    all_goals first | exact a _ | omega
  · split
    · unfold votF; repeat' split
      all_goals first | exact a _ | omega
    · split
      · unfold knownF; repeat' split
        all_goals first | exact a _ | omega
      · unfold startF; repeat' split
        all_goals first | exact a _ | omega
theorem may_in {F : FR} (h : mayB F = true) (k : Nat) (hk : k < 23) : 0 ≤ F k ∧ F k ≤ 1048576 := by
  obtain ⟨_, h2, h3⟩ := may_parts h
  rw [h3 k hk]
  exact framed_in h2 k
theorem dec_in {l : List Nat} (h : (decF l).1 = 0) : FIn (decF l).2 := by
  rcases dec_cases l with ⟨h1, _⟩ | ⟨_, h2, _⟩
  · exact absurd h h1
  · intro k hk
    have := may_in h2 k hk
    omega
section
variable {w : World} {N win : Nat} {D : SC} {L : RC} {S : SY}
theorem SyIs.pkRange (h : SyIs w N D L win S) {g n cap i : Nat} (hnv : D.nv = .slice (some ⟨g, 0, none⟩) n cap) (hi : i < S.net.length) : w.rangeAt g (i * 3) [.int .i64 ((pkAt S.net i).src : Int), .int .i64 ((pkAt S.net i).dst : Int), D.us[i]?.getD undef] := by
  intro j v hv
  have hj : j < 3 := (List.getElem?_eq_some_iff.1 hv).1
  rcases h.net.row.2 with ⟨e, _⟩ | ⟨g', cap', cur, e, h1, h2, h3, h4, h5, h6⟩
  · rw [hnv] at e; simp at e
  · rw [hnv] at e
    simp only [Value.slice.injEq, Option.some.injEq, Addr.mk.injEq, and_true] at e
    obtain ⟨rfl, _, rfl⟩ := e
    have e2 := pkL_at S.net D.us i j h.net.len hi hj
    rw [blk_cell h2, ← Array.getElem?_toList]
    rw [← h6, List.getElem?_take, if_pos (by omega)] at e2
    rw [e2]
    exact hv
end
theorem infoPacket3 : (Tryz.prog.info? 134).map (·.size) = some 3 := by kernel_rfl
theorem takeT_from (L : RC) (F : FR) (R : RS) : ∀ G ∈ takeT L F R, G 1 = (R.id : Int) := by
  intro G hG
  unfold takeT at hG
  split at hG
  · unfold doneT at hG
    split at hG
    · simp at hG
    · split at hG
      · rw [List.mem_singleton.1 hG]
        show ((doneR L F R).id : Int) = _
        unfold doneR
        split
        · rfl
        · split <;> rfl
      · simp at hG
  · split at hG
    · simp at hG
    · split at hG
      · rw [List.mem_singleton.1 hG]; rfl
      · simp at hG
theorem takeT_few (L : RC) (F : FR) (R : RS) : (takeT L F R).length ≤ 1 := by
  unfold takeT
  split
  · unfold doneT
    split
    · simp
    · split <;> simp
  · split
    · simp
    · split <;> simp
theorem SyGo.keeps {w w' : World} {N win : Nat} {D : SC} {L : RC} {S : SY} (h : SyGo w w' N D L win S) {k : Nat} (hk : ¬ Wr D k) (hlt : k < w.heap.size) : w'.heap[k]? = w.heap[k]? := by
  obtain ⟨_, _, _, hm, _⟩ := h
  exact hm.block k hlt hk
end Go.Proofs.YtaablbmgagiajabGreatDoor
namespace Go.Proofs.YtaablbmgagiajabGreatDoor
open Go.RowKit Go.Deep
def comeC (L : RC) (win : Nat) (p : Pk) (S : SY) : Int :=
  if isNone p then 0 else if p.dst = 3 then voteC win S (decF p.b).2 else ((takeT L (decF p.b).2 (S.rp p.dst)).length : Int)
def arrC (L : RC) (win i : Nat) (S : SY) : Int := comeC L win (pkAt S.net i) (outSy i S) - 1
set_option maxHeartbeats 4000000 in
set_option maxRecDepth 20000 in
theorem arriveC {W : Seen} {liar T : Nat} (N : Nat) (D : SC) (L : RC) (win : Nat) (S : SY) (w : World) (i : Nat) (h : SyIs w N D L win S) (hI : SInv L W liar win T S) (hL : LOk L) (hT : T < 8000000) (hi : i < S.net.length) (hN : N ≤ w.heap.size) (c : Int) (hc : cI D S c) :
    Calls Tryz.prog 75 #[.pointer (some ⟨D.p, 0, none⟩), .int .i64 (i : Int)] w fun e w' => e = .returned (.tuple #[]) ∧ SyGoC w w' N D L win (arriveSy L win i S) (c + arrC L win i S) := by
  obtain ⟨g, cap, hnv⟩ := h.netHas (by omega)
  have hrg := h.pkRange hnv hi
  have hby := h.bytes hi
  have hpk := hI.net _ (pkAt_mem hi)
  obtain ⟨q, hq⟩ : ∃ q, Hid (pkAt S.net i = q) := ⟨_, hide rfl⟩
  obtain ⟨u, hu⟩ : ∃ u, Hid (D.us[i]?.getD undef = u) := ⟨_, hide rfl⟩
  rw [hq.out] at hpk
  rw [hq.out, hu.out] at hrg hby
  obtain ⟨ua, uc, hue, hib⟩ := hby.isB
  subst hue
  have HRG := hide hrg
  have c7 : w.cell? ⟨D.p, 7, none⟩ = some (.slice (some ⟨g, 0, none⟩) S.net.length cap) := (h.at 7).trans (by show some D.nv = _; rw [hnv])
  have hi' : (i : Int) < (S.net.length : Int) := by omega
  have hlenq := hpk.len
  have hle := hI.many
  obtain ⟨W0, hW0⟩ : ∃ W0, Hid (w.alloc (.cells #[.int .i64 (q.src : Int), .int .i64 (q.dst : Int), .slice ua q.b.length uc] 134) = W0) := ⟨_, hide rfl⟩
  have hB0 : Below w.heap.size w W0 := by rw [← hW0.out]; exact (Below.refl _ _).alloc (Nat.le_refl _) _
  have hbx : W0.heap[w.heap.size]? = some (.cells #[.int .i64 (q.src : Int), .int .i64 (q.dst : Int), .slice ua q.b.length uc] 134 (0, 0)) := by rw [← hW0.out]; exact blk_new _ _
  have hnw : ¬ Wr D w.heap.size := fun hw => Nat.lt_irrefl _ (h.wrLt hw)
  have hS0 := h.below hB0
  have hrm := removeC N D L win S W0 i hS0 hi hle c hc
  have hAR : arriveSy L win i S = comeSy L win q (outSy i S) := by unfold arriveSy; rw [hq.out]
  have hI2 := hI.outs i
  have hdec : Calls Tryz.prog 76 #[.pointer (some ⟨D.p, 0, none⟩), .int .i64 (i : Int)] W0 fun e w2 => e = .returned (.tuple #[]) ∧ w2.cell? ⟨w.heap.size, 2, none⟩ = some (.slice ua q.b.length uc) ∧
      Hid (Calls Tryz.prog 79 #[.slice ua q.b.length uc] w2 fun e w3 => e = .returned (.tuple #[.agg (fCells (decF q.b).2), errV (decF q.b).1]) ∧ Hid (SyGoC w w3 N D L win (outSy i S) (c - 1) ∧ w3.heap[w.heap.size]? = some (.cells #[.int .i64 (q.src : Int), .int .i64 (q.dst : Int), .slice ua q.b.length uc] 134 (0, 0)) ∧ ∃ D3, D3.p = D.p ∧ SyIs w3 N D3 L win (outSy i S) ∧ Mod w w3 (Wr D) ∧ GrC w.heap.size D D3 ∧ cI D3 (outSy i S) (c - 1) ∧ ¬ Wr D3 w.heap.size)) := by
    refine hrm.mono ?_
    rintro e w2 ⟨rfl, hg⟩
    have hk : w2.heap[w.heap.size]? = some (.cells #[.int .i64 (q.src : Int), .int .i64 (q.dst : Int), .slice ua q.b.length uc] 134 (0, 0)) := (hg.go.keeps hnw (blk_lt hbx)).trans hbx
    refine ⟨rfl, (blk_cell hk 2).trans rfl, hide ?_⟩
    obtain ⟨D2, hp2, hS2, hm2, hg2, hc2⟩ := hg
    have hb2 : BytesIs w2 (.slice ua q.b.length uc) q.b := (hby.below hB0).mod hm2 fun k hk => hS0.wrByte hk
    obtain ⟨a', c', e', hib2⟩ := hb2.isB
    simp only [Value.slice.injEq, true_and] at e'
    obtain ⟨rfl, rfl⟩ := e'
    refine (decode_any ua _ uc q.b w2 (by omega) hib2).mono ?_
    rintro e w3 ⟨rfl, hB3⟩
    have hm3 : Mod w w3 (Wr D) := ((Mod.ofBelow hB0 (Wr D)).then hm2 (fun _ _ x => x)).below hB3
    have hg3 : GrC w.heap.size D D2 := hg2.le hB0.size
    refine ⟨rfl, hide ⟨⟨D2, hp2, hS2.below hB3, hm3, hg3, hc2⟩, (hB3.block _ (blk_lt hk)).trans hk, D2, hp2, hS2.below hB3, hm3, hg3, hc2, fun x => ?_⟩⟩
    rcases hg2.gr.wr _ x with y | y
    · exact hnw y
    · have := blk_lt hbx; omega
  have HD := hide hdec
  have HPK := hide hpk
  have HI2 := hide hI2
  have HL := hide hL
  have HAR := hide hAR
  clear hdec hrg h hby hib hnv hrm hS0 hB0 hbx hI hI2 hpk hL hAR hnw hle
  go_enter Tryz.func75, Tryz.ntmps75
  go_wp2_with (refine wpList_load_mid rfl 134 _ rfl g (i * 3) rfl _ _ HRG.out Tryz.underlying134 rfl (by rw [infoPacket3]; rfl) ?_)
  rw [show w.alloc (.cells #[.int .i64 (q.src : Int), .int .i64 (q.dst : Int), .slice ua q.b.length uc] 134) = W0 from hW0.out]
  refine HD.out.mono ?_
  rintro e w2 ⟨rfl, z2, HD2⟩
  clear HD hW0 HRG c7 hi'
  go_wp2_with fail
  refine HD2.out.mono ?_
  rintro e w3 ⟨rfl, HG3⟩
  clear HD2 z2
  have q1 : FIs (w3.alloc (.cells (fCells fr0) 36)) w3.heap.size 36 fr0 := blk_new _ _
  have HQ1 := hide q1
  have HIN : Hid ((decF q.b).1 = 0 → FIn (decF q.b).2) := hide dec_in
  have HNO : Hid (isNone q → comeSy L win q (outSy i S) = outSy i S) := hide fun hn => by unfold comeSy; rw [if_pos hn]
  have HN1 : Hid ((decF q.b).1 ≠ 0 → isNone q) := hide .inl
  have HN2 : Hid ((decF q.b).2 1 ≠ (q.src : Int) → isNone q) := hide .inr
  have HVO : Hid ((decF q.b).1 = 0 → (decF q.b).2 1 = (q.src : Int) → q.dst = 3 → comeSy L win q (outSy i S) = ⟨S.rp, (takeF win S.v (decF q.b).2).1, voteNet win q.src (outSy i S) (decF q.b).2⟩) := hide fun a b c => by
    unfold comeSy
    rw [if_neg (by rintro (x | x); exact x a; exact x b), if_pos c]
    rfl
  have HRP : Hid ((decF q.b).1 = 0 → (decF q.b).2 1 = (q.src : Int) → q.dst ≠ 3 → comeSy L win q (outSy i S) = ⟨upd S.rp q.dst (takeS L (decF q.b).2 (S.rp q.dst)), S.v, sendsN q.dst q.src (takeT L (decF q.b).2 (S.rp q.dst)) (S.net.eraseIdx i)⟩) := hide fun a b c => by
    unfold comeSy
    rw [if_neg (by rintro (x | x); exact x a; exact x b), if_neg c]
    rfl
  have HCN : Hid (isNone q → arrC L win i S = -1) := hide fun hn => by
    unfold arrC; rw [hq.out]; unfold comeC; rw [if_pos hn]; rfl
  have HCV : Hid ((decF q.b).1 = 0 → (decF q.b).2 1 = (q.src : Int) → q.dst = 3 → arrC L win i S = voteC win (outSy i S) (decF q.b).2 - 1) := hide fun a b d => by
    unfold arrC; rw [hq.out]; unfold comeC
    rw [if_neg (by rintro (x | x); exact x a; exact x b), if_pos d]
  have HCR : Hid ((decF q.b).1 = 0 → (decF q.b).2 1 = (q.src : Int) → q.dst ≠ 3 → arrC L win i S = ((takeT L (decF q.b).2 (S.rp q.dst)).length : Int) - 1) := hide fun a b d => by
    unfold arrC; rw [hq.out]; unfold comeC
    rw [if_neg (by rintro (x | x); exact x a; exact x b), if_neg d]
    rfl
  clear q1
  generalize (decF q.b).2 = F at HIN HN2 HVO HRP HCV HCR ⊢
  generalize (decF q.b).1 = er at HIN HN1 HVO HRP HCV HCR ⊢
  go_wp2_with (refine wpList_store_fl rfl _ _ rfl w3.heap.size F rfl rfl fr0 HQ1.out ?_)
  intro w4 HF4
  have hB4 : Below w3.heap.size w3 w4 := ((Below.refl _ _).alloc (Nat.le_refl _) _).trans (HF4.out.2.2 _ (Nat.le_refl _))
  obtain ⟨_, hbx3, D3, hp3, hS3, hm3, hg3, hc3, hn3⟩ := HG3.out
  have hbx4 := (hB4.block _ (blk_lt hbx3)).trans hbx3
  have hS4 := hS3.below hB4
  have hm4 : Mod w w4 (Wr D) := hm3.below hB4
  have x0 : w4.cell? ⟨w.heap.size, 0, none⟩ = some (.int .i64 (q.src : Int)) := (blk_cell hbx4 0).trans rfl
  have x1 : w4.cell? ⟨w.heap.size, 1, none⟩ = some (.int .i64 (q.dst : Int)) := (blk_cell hbx4 1).trans rfl
  have y1 : w4.cell? ⟨w3.heap.size, 1, none⟩ = some (.int .i64 (F 1)) := HF4.out.1.at (by omega)
  have HFI := hide HF4.out.1
  have HBX := hide hbx4
  have HS4 := hide hS4
  have HM4 := hide hm4
  have HG : Hid (SyGoC w w4 N D L win (outSy i S) (c - 1)) := hide ⟨D3, hp3, hS4, hm4, hg3, hc3⟩
  have hsz : w.heap.size < w4.heap.size := blk_lt hbx4
  have hsz3 : w.heap.size < w3.heap.size := blk_lt hbx3
  clear HG3 HF4 HQ1 hbx3 hS3 hm3 hB4 hbx4 hS4 hm4
  by_cases her : er = 0
  · subst her
    rw [show errV 0 = .nilIface from rfl]
    by_cases hfr : F 1 = (q.src : Int)
    · have hne : (F 1 != (q.src : Int)) = false := by simp [hfr]
      have HFR := hide hfr
      clear HNO HN1 HN2
      by_cases hd : q.dst = 3
      · have hd' : ((q.dst : Int) == 3) = true := by simp; omega
        have ht := tellVoterC N D3 L win (outSy i S) w4 F q.src HS4.out hfr HI2.out.vok (by have := HM4.out.size; omega) HI2.out.many _ hc3
        rw [hp3] at ht
        have HT : Hid (Calls Tryz.prog 126 #[.pointer (some ⟨D.p, 0, none⟩), .agg (fCells F)] w4 fun e w' => e = .returned (.tuple #[]) ∧ SyGoC w w' N D L win (arriveSy L win i S) (c + arrC L win i S)) := hide (by
          rw [HAR.out, HVO.out rfl hfr hd]
          refine ht.mono ?_
          rintro e w5 ⟨rfl, hg⟩
          exact ⟨rfl, (SyGoC.then hp3 HM4.out hg3 hg).cast (by rw [HCV.out rfl hfr hd]; omega)⟩)
        clear ht hfr hd HRP HVO
        go_wp2_with (refine wpList_load_f rfl _ rfl w3.heap.size rfl F HFI.out ?_)
        refine HT.out.mono ?_
        rintro e w5 ⟨rfl, hg⟩
        go_wp2
        exact bodyPost_ret (results_none rfl _ _ _) rfl ⟨rfl, hg⟩
      · have hd' : ((q.dst : Int) == 3) = false := by simp; omega
        have hd3 : q.dst < 3 := by have := HPK.out.dst; omega
        have hd3' : (q.dst : Int) < 3 := by omega
        have hrp := (HI2.out.rp q.dst hd3)
        obtain ⟨hok, hc0, hc1⟩ := hrp.ok hd3 HL.out hT HI2.out.vok.few
        have hid := hrp.id
        have hln := HS4.out.ln q.dst hd3
        have hrepd := rtake_rep (D3.rp q.dst) (D3.C q.dst) (S.rp q.dst) F w4.drew (HS4.out.drew.rp q.dst hd3) hok ⟨hc0, hc1⟩ (HIN.out rfl)
        rw [(hln.takes F _).1, (hln.takes F _).2] at hrepd
        have hfrm := takeT_from L F (S.rp q.dst)
        have hfew := takeT_few L F (S.rp q.dst)
        rw [show (S.rp q.dst).id = q.dst from hid] at hfrm
        have hEQ := HRP.out rfl hfr hd
        obtain ⟨R1, hR1⟩ : ∃ R1, Hid (takeS L F (S.rp q.dst) = R1) := ⟨_, hide rfl⟩
        obtain ⟨Fs, hFs⟩ : ∃ Fs, Hid (takeT L F (S.rp q.dst) = Fs) := ⟨_, hide rfl⟩
        rw [hR1.out, hFs.out] at hrepd hEQ
        have hCE := HCR.out rfl hfr hd
        rw [hFs.out] at hCE
        have HCE := hide hCE
        clear hCE
        rw [hFs.out] at hfrm hfew
        have HEQ := hide hEQ
        have hb0 : w4.drew.heap[w.heap.size]? = some (.cells #[.int .i64 (q.src : Int), .int .i64 (q.dst : Int), .slice ua q.b.length uc] 134 (0, 0)) := HBX.out
        have HSS : Hid (∀ wx, SyIs wx N D3 L win (outSy i S) ∨ SyIs wx N D3 L win ⟨upd S.rp q.dst R1, S.v, S.net.eraseIdx i⟩ → wx.heap[w.heap.size]? = some (.cells #[.int .i64 (q.src : Int), .int .i64 (q.dst : Int), .slice ua q.b.length uc] 134 (0, 0)) → FIs wx w3.heap.size 36 F → wx.cell? ⟨w.heap.size, 1, none⟩ = some (.int .i64 (q.dst : Int)) ∧ wx.cell? ⟨D.p, 3 + q.dst, none⟩ = some (.pointer (some ⟨D3.rp q.dst, 0, none⟩)) ∧ FIs wx w3.heap.size 36 F) := hide fun wx hx hb hf => ⟨(blk_cell hb 1).trans rfl, by rw [← hp3]; exact hx.elim (fun x => x.rpAt hd3) (fun x => x.rpAt hd3), hf⟩
        have HS0 := hide (unhide HSS w4.drew (.inl HS4.out.drew) hb0 HFI.out)
        have hcall : Calls Tryz.prog 127 #[.pointer (some ⟨D3.rp q.dst, 0, none⟩), .agg (fCells F)] w4.drew fun e w5 => ∃ va vn vc, e = .returned (.slice va vn vc) ∧ Hid (vn = Fs.length) ∧ (w5.cell? ⟨w.heap.size, 1, none⟩ = some (.int .i64 (q.dst : Int)) ∧ w5.cell? ⟨D.p, 3 + q.dst, none⟩ = some (.pointer (some ⟨D3.rp q.dst, 0, none⟩)) ∧ FIs w5 w3.heap.size 36 F) ∧ Hid (SyGoC w w5 N D L win ⟨upd S.rp q.dst R1, S.v, S.net.eraseIdx i⟩ (c - 1) ∧ FRow w5 36 (.slice va vn vc) Fs) := by
          refine hrepd.mono ?_
          rintro e w5 ⟨⟨v, rfl, hr⟩, hR, hm⟩
          obtain ⟨hS5, hM5⟩ := HS4.out.drew.putR hd3 hm hR
          obtain ⟨va, vc, hve⟩ := hr.shape
          subst hve
          have hb5 : w5.heap[w.heap.size]? = some (.cells #[.int .i64 (q.src : Int), .int .i64 (q.dst : Int), .slice ua q.b.length uc] 134 (0, 0)) := (hM5.block _ (blk_lt hb0) hn3).trans hb0
          have hf5 : FIs w5 w3.heap.size 36 F := (hM5.block _ (blk_lt (w := w4.drew) HFI.out) (HS4.out.drew.notWr ⟨_, _, HFI.out⟩ (by decide))).trans HFI.out
          refine ⟨va, _, vc, rfl, hide rfl, unhide HSS w5 (.inr hS5) hb5 hf5, hide ⟨⟨D3, hp3, hS5, ?_, hg3, hc3⟩, hr⟩⟩
          exact (HM4.out.below ((Below.refl _ _).drew)).then hM5 (fun k hk hw => (hg3.gr.wr k hw).elim id (fun x => by omega))
        have HC := hide hcall
        clear hcall hrepd hEQ HSS hb0 hok hrp hln hR1 hFs HRP HVO hd hfr
        go_wp2_with fail
        refine wp_region_held_drew (S := fun w' => w'.cell? ⟨w.heap.size, 1, none⟩ = some (.int .i64 (q.dst : Int)) ∧ w'.cell? ⟨D.p, 3 + q.dst, none⟩ = some (.pointer (some ⟨D3.rp q.dst, 0, none⟩)) ∧ FIs w' w3.heap.size 36 F) (by kernel_rfl) HS0.out (fun hHeld => ?_)
        refine wpAnyH_take (i := 0) (oi := _) (v := .pointer (some ⟨D.p, 0, none⟩)) rfl (by kernel_rfl) (by kernel_rfl) (by kernel_rfl) (fun _ _ _ h => h) (Or.inl ⟨by rfl, fun w _ => by go_simp⟩) hHeld ?_
        simp only [Act.put, List.getElem_toArray, List.getElem_cons_zero, List.setIfInBounds_toArray, List.set_cons_succ, List.set_cons_zero]
        refine wpAnyH_take (i := 1) (oi := _) (v := .pointer (some ⟨w.heap.size, 1, none⟩)) rfl (by kernel_rfl) (by kernel_rfl) (by kernel_rfl) (fun _ _ _ h => h) (Or.inl ⟨by rfl, fun w _ => by go_simp⟩) hHeld ?_
        simp only [Act.put, List.getElem_toArray, List.getElem_cons_succ, List.getElem_cons_zero, List.setIfInBounds_toArray, List.set_cons_succ, List.set_cons_zero]
        refine wpAnyH_take (i := 2) (oi := _) (v := .int .i64 (q.dst : Int)) rfl (by kernel_rfl) (by kernel_rfl) (by kernel_rfl) (fun _ _ _ h => h) (Or.inl ⟨by rfl, fun w h => by obtain ⟨h1, h2, _⟩ := h; go_simp⟩) hHeld ?_
        simp only [Act.put, List.getElem_toArray, List.getElem_cons_succ, List.getElem_cons_zero, List.setIfInBounds_toArray, List.set_cons_succ, List.set_cons_zero]
        refine wpAnyH_take (i := 3) (oi := _) (v := .pointer (some ⟨D.p, 0, none⟩)) rfl (by kernel_rfl) (by kernel_rfl) (by kernel_rfl) (fun _ _ _ h => h) (Or.inl ⟨by rfl, fun w _ => by go_simp⟩) hHeld ?_
        simp only [Act.put, List.getElem_toArray, List.getElem_cons_succ, List.getElem_cons_zero, List.setIfInBounds_toArray, List.set_cons_succ, List.set_cons_zero]
        refine wpAnyH_take (i := 4) (oi := _) (v := .pointer (some ⟨D.p, 3, none⟩)) rfl (by kernel_rfl) (by kernel_rfl) (by kernel_rfl) (fun _ _ _ h => h) (Or.inl ⟨by rfl, fun w _ => by go_simp⟩) hHeld ?_
        simp only [Act.put, List.getElem_toArray, List.getElem_cons_succ, List.getElem_cons_zero, List.setIfInBounds_toArray, List.set_cons_succ, List.set_cons_zero]
        refine wpAnyH_take (i := 5) (oi := _) (v := .pointer (some ⟨D.p, 3 + q.dst, none⟩)) rfl (by kernel_rfl) (by kernel_rfl) (by kernel_rfl) (fun _ _ _ h => h) (Or.inl ⟨by rfl, fun w _ => by go_simp⟩) hHeld ?_
        simp only [Act.put, List.getElem_toArray, List.getElem_cons_succ, List.getElem_cons_zero, List.setIfInBounds_toArray, List.set_cons_succ, List.set_cons_zero]
        refine wpAnyH_take (i := 6) (oi := _) (v := .pointer (some ⟨D3.rp q.dst, 0, none⟩)) rfl (by kernel_rfl) (by kernel_rfl) (by kernel_rfl) (fun _ _ _ h => h) (Or.inl ⟨by rfl, fun w h => by obtain ⟨h1, h2, _⟩ := h; go_simp⟩) hHeld ?_
        simp only [Act.put, List.getElem_toArray, List.getElem_cons_succ, List.getElem_cons_zero, List.setIfInBounds_toArray, List.set_cons_succ, List.set_cons_zero]
        refine wpAnyH_take (i := 7) (oi := _) (v := .agg (fCells F)) rfl (by kernel_rfl) (by kernel_rfl) (by kernel_rfl) (fun _ _ _ h => h) (yields_f (by rfl) _ rfl w3.heap.size rfl F (fun w h => h.2.2)) hHeld ?_
        simp only [Act.put, List.getElem_toArray, List.getElem_cons_succ, List.getElem_cons_zero, List.setIfInBounds_toArray, List.set_cons_succ, List.set_cons_zero]
        refine wpAnyH_take (i := 10) (oi := _) (v := .int .i64 0) rfl (by kernel_rfl) (by kernel_rfl) (by kernel_rfl) (fun _ _ _ h => h) (Or.inl ⟨by rfl, fun w _ => by go_simp⟩) hHeld ?_
        simp only [Act.put, List.getElem_toArray, List.getElem_cons_succ, List.getElem_cons_zero, List.setIfInBounds_toArray, List.set_cons_succ, List.set_cons_zero]
        refine wpAnyH_ready (rs := [8]) (by kernel_rfl) (by simp) ?_
        refine AllReadyH.cons (o := _) rfl (fun K hK => ?_) AllReadyH.nil
        rw [if_pos (by rfl)]
        go_simp
        go_at_call 127
        refine HC.out.mono ?_
        rintro e w5 ⟨va, vn, vc, rfl, HVN, hS5, HG5⟩
        dsimp only
        refine hK.out _ _ hS5 (fun hHeld => ?_)
        clear hK K
        refine wpAnyH_take (i := 9) (oi := _) (v := .int .i64 (vn : Int)) rfl (by kernel_rfl) (by kernel_rfl) (by kernel_rfl) (fun _ _ _ h => h) (Or.inl ⟨by rfl, fun w _ => by go_simp⟩) hHeld ?_
        simp only [Act.put, List.getElem_toArray, List.getElem_cons_succ, List.getElem_cons_zero, List.setIfInBounds_toArray, List.set_cons_succ, List.set_cons_zero]
        refine wpAnyH_done (by kernel_rfl) ?_ _
        have HFI5 := hide hS5.2.2
        have hvn1 : vn ≤ 1 := by have := HVN.out; omega
        clear hHeld HS0 HC hS5 HFI HBX HS4 HM4 HG x0 x1 y1
        go_wp2_with fail
        have HST : Hid (SyGoC w w5 N D L win ⟨upd S.rp q.dst R1, S.v, sendsN q.dst q.src (Fs.take 0) (S.net.eraseIdx i)⟩ (c - 1 + ((0 : Nat) : Int)) ∧ FRow w5 36 (.slice va vn vc) Fs ∧ FIs w5 w3.heap.size 36 F) := hide ⟨HG5.out.1.cast (by simp), HG5.out.2, HFI5.out⟩
        go_loopw [50] (fun j wr => ∃ k : Nat, k ≤ vn ∧ j = .int .i64 k ∧ SyGoC w wr N D L win ⟨upd S.rp q.dst R1, S.v, sendsN q.dst q.src (Fs.take k) (S.net.eraseIdx i)⟩ (c - 1 + (k : Int)) ∧ FRow wr 36 (.slice va vn vc) Fs ∧ FIs wr w3.heap.size 36 F) (fun j _ => vn - (intOf j).toNat)
        case atStart => exact ⟨0, by omega, rfl, HST.out⟩
        case round =>
          obtain ⟨k, hk, rfl, hgo, hrow, hfb⟩ := hrel
          clear HST HG5 HFI5
          by_cases hk3 : k < vn
          · have hk' : (k : Int) < (vn : Int) := by omega
            have hkl : k < Fs.length := by rw [← HVN.out]; exact hk3
            obtain ⟨g5, rfl⟩ := hrow.some (by omega)
            have hrg := hrow.range hkl
            have hnx := take_next hkl
            have hG1 : (Fs[k]?.getD fr0) 1 = (q.dst : Int) := by rw [List.getElem?_eq_getElem hkl]; exact hfrm _ (List.getElem_mem hkl)
            obtain ⟨G, hG⟩ : ∃ G, Hid (Fs[k]?.getD fr0 = G) := ⟨_, hide rfl⟩
            rw [hG.out] at hrg hnx hG1
            have HRG := hide hrg
            have hB2 : Below wr.heap.size wr (wr.alloc (.cells (fCells fr0) 36)) := (Below.refl _ _).alloc (Nat.le_refl _) _
            have q1 : FIs (wr.alloc (.cells (fCells fr0) 36)) wr.heap.size 36 fr0 := blk_new _ _
            have HQ1 := hide q1
            have HRW := hide hrow
            have HFB := hide hfb
            have HGO := hide hgo
            clear hrg q1 hrow hfb hgo
            go_wp2_with (first
              | (refine wpList_load_mid rfl 36 _ rfl g5 (k * 23) rfl (fCells G).toList _ HRG.out Tryz.underlying36 rfl (by rw [infoFrame]; rfl) ?_)
              | (refine wpList_store_fl rfl _ _ rfl wr.heap.size G rfl rfl fr0 HQ1.out ?_))
            intro w6 HF6
            have hB3 : Below wr.heap.size wr w6 := hB2.trans (HF6.out.2.2 _ (Nat.le_refl _))
            obtain ⟨D6, hp6, hS6, hm6, hg6, hc6⟩ := HGO.out.below hB3
            have HF := hide HF6.out.1
            have z1 : w6.cell? ⟨w3.heap.size, 1, none⟩ = some (.int .i64 (q.src : Int)) := by
              have hb := HFB.out.below HFB.out.lt hB3
              rw [hb.at (by omega), HFR.out]
            have HRW2 := hide (HRW.out.below hB3)
            have HFB2 := hide (HFB.out.below HFB.out.lt hB3)
            clear HRG HQ1 HRW HFB HGO HF6 hB2 hB3
            have hlen : (sendsN q.dst q.src (Fs.take k) (S.net.eraseIdx i)).length ≤ 120 := sendsN_len _ _ HI2.out.many
            have hsd := sendC N D6 L win _ w6 G q.dst q.src hS6 hG1 (Nat.le_trans hN hm6.size) hlen _ hc6
            rw [hp6] at hsd
            have HSD : Hid (Calls Tryz.prog 88 #[.pointer (some ⟨D.p, 0, none⟩), .agg (fCells G), .int .i64 (q.src : Int)] w6 fun e w' => e = .returned (.tuple #[]) ∧ Hid (SyGoC w w' N D L win ⟨upd S.rp q.dst R1, S.v, sendsN q.dst q.src (Fs.take (k + 1)) (S.net.eraseIdx i)⟩ (c - 1 + ((k + 1 : Nat) : Int)) ∧ FRow w' 36 (.slice (some ⟨g5, 0, none⟩) vn vc) Fs ∧ FIs w' w3.heap.size 36 F)) := hide (by
              refine hsd.mono ?_
              rintro e w7 ⟨rfl, hg⟩
              rw [hnx, sendsN_app]
              exact ⟨rfl, hide ⟨(SyGoC.then hp6 hm6 hg6 hg).cast (by omega), HRW2.out.stays hg.go hS6, hg.stays hS6 HFB2.out (by decide)⟩⟩)
            clear hsd hS6 hm6 hg6 hc6 hnx
            go_wp2_with (refine wpList_load_f rfl _ rfl wr.heap.size rfl G HF.out ?_)
            refine HSD.out.mono ?_
            rintro e w7 ⟨rfl, HR⟩
            go_wp2
            go_roundw
            case rel => exact ⟨k + 1, by omega, by go_num, HR.out⟩
            case measure => simp [intOf]; omega
          · have hk' : ¬ (k : Int) < (vn : Int) := by omega
            have HGE : Hid (SyGoC w wr N D L win ⟨upd S.rp q.dst R1, S.v, sendsN q.dst q.src Fs (S.net.eraseIdx i)⟩ (c - 1 + (Fs.length : Int))) := hide (by
              have := hgo
              rw [show k = Fs.length by have := HVN.out; omega, List.take_length] at this
              exact this)
            clear hgo hrow hfb
            go_wp2
            go_end0
            rw [HAR.out, HEQ.out]
            exact ⟨rfl, HGE.out.cast (by rw [HCE.out]; omega)⟩
    · have hne : (F 1 != (q.src : Int)) = true := by simp [hfr]
      have HX := hide (HNO.out (HN2.out hfr))
      have HXC := hide (HCN.out (HN2.out hfr))
      clear hfr HNO HN1 HN2 HVO HRP
      go_wp2
      refine bodyPost_ret (results_none rfl _ _ _) rfl ⟨rfl, ?_⟩
      rw [HAR.out, HX.out]
      exact HG.out.cast (by rw [HXC.out]; omega)
  · rw [show errV er = .iface 74 (.int .i64 (er : Int)) from if_neg her]
    have HX := hide (HNO.out (HN1.out her))
    have HXC := hide (HCN.out (HN1.out her))
    clear her HNO HN1 HN2 HVO HRP
    go_wp2
    refine bodyPost_ret (results_none rfl _ _ _) rfl ⟨rfl, ?_⟩
    rw [HAR.out, HX.out]
    exact HG.out.cast (by rw [HXC.out]; omega)
end Go.Proofs.YtaablbmgagiajabGreatDoor
