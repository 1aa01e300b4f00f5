import Derived.Test.YtaablbmgagiajaaGreatDoorTGAX
namespace Go.Proofs.YtaablbmgagiajaaGreatDoor
open Go.RowKit Go.Deep
theorem shr_zero (m r : Nat) (hm : m < 8) (hr : r < 3) : (bits BinOp.and IntKind.i64 ((m : Int) / 2 ^ r) 1 == 0) = !m.testBit r := by
  rw [shr_bit (m : Int) r (by omega), u64_nat m (by omega), testBit_eq]
  cases m.testBit r <;> rfl
set_option maxHeartbeats 1000000 in
set_option maxRecDepth 20000 in
theorem listens_any (N p win : Nat) (tv : Value) (S : VS) (w : World) (F : FR) (h : VIs w N p win tv S) (hok : VOk win S) :
    Calls Tryz.prog 99 #[.pointer (some ⟨p, 0, none⟩), .agg (fCells F)] w fun e w' => e = .returned (.bool (hearB S F)) ∧ Below w.heap.size w w' := by
  have c0 := fCells_at F 0 (by omega)
  have c1 := fCells_at F 1 (by omega)
  have c2 := fCells_at F 2 (by omega)
  have hp := h.lt
  have k15 : w.cell? ⟨p, 15, none⟩ = some (.int .i64 (S.out : Int)) := (h.at 15).trans rfl
  obtain ⟨m, hm⟩ : ∃ m, Hid (S.out = m) := ⟨_, hide rfl⟩
  have ho := hok.out
  rw [hm.out] at k15 ho
  obtain ⟨R, hR⟩ : ∃ R, Hid (hearB S F = R) := ⟨_, hide rfl⟩
  rw [hR.out]
  clear h hok
  obtain ⟨f0, hf0⟩ : ∃ z, Hid (F 0 = z) := ⟨_, hide rfl⟩
  obtain ⟨f1, hf1⟩ : ∃ z, Hid (F 1 = z) := ⟨_, hide rfl⟩
  obtain ⟨f2, hf2⟩ : ∃ z, Hid (F 2 = z) := ⟨_, hide rfl⟩
  rw [hf0.out] at c0
  rw [hf1.out] at c1
  rw [hf2.out] at c2
  have HB : Hid (hearB S F = ((f0 == 2 || f0 == 4) && ((decide (0 ≤ f1) && decide (f1 < 3)) && (!m.testBit f1.toNat && decide (0 ≤ f2))))) := hide (by unfold hearB kindB fromB; rw [hf0.out, hf1.out, hf2.out, hm.out])
  by_cases hk : f0 = 2 ∨ f0 = 4
  · by_cases h1 : 0 ≤ f1
    · by_cases h3 : f1 < 3
      · obtain ⟨r, rfl⟩ := Int.eq_ofNat_of_zero_le h1
        have hr : r < 3 := by omega
        have hz := shr_zero m r ho hr
        have q1 : decide ((r : Int) < 3) = true := decide_eq_true h3
        cases hb : m.testBit r
        · rw [hb, Bool.not_false] at hz
          have HRR : Hid (R = decide (0 ≤ f2)) := hide (by rw [← hR.out, HB.out, Int.toNat_natCast, hb]; rcases hk with rfl | rfl <;> simp; all_goals omega)
          clear HB hR hb hf0 hf1 hf2 h1 h3 hm
          rcases hk with rfl | rfl
          · go_enter Tryz.func99, Tryz.ntmps99
            go_wp2_with fail
            go_quiet (fail)
            go_wp2
            go_ret
            exact ⟨ret_bool (by rw [HRR.out]), ⟨rfl, rfl, rfl, by simp [World.drewN], fun k hk => Below.heap_alloc _ _ _ hk⟩⟩
          · go_enter Tryz.func99, Tryz.ntmps99
            go_wp2_with fail
            go_quiet (fail)
            go_wp2
            go_ret
            exact ⟨ret_bool (by rw [HRR.out]), ⟨rfl, rfl, rfl, by simp [World.drewN], fun k hk => Below.heap_alloc _ _ _ hk⟩⟩
        · rw [hb, Bool.not_true] at hz
          have HRR : Hid (R = false) := hide (by rw [← hR.out, HB.out, Int.toNat_natCast, hb]; simp)
          clear HB hR hb hf0 hf1 hf2 h1 h3 hm
          rcases hk with rfl | rfl
          · go_enter Tryz.func99, Tryz.ntmps99
            go_wp2_with fail
            go_quiet (fail)
            go_wp2
            go_ret
            exact ⟨ret_bool (by rw [HRR.out]), ⟨rfl, rfl, rfl, by simp [World.drewN], fun k hk => Below.heap_alloc _ _ _ hk⟩⟩
          · go_enter Tryz.func99, Tryz.ntmps99
            go_wp2_with fail
            go_quiet (fail)
            go_wp2
            go_ret
            exact ⟨ret_bool (by rw [HRR.out]), ⟨rfl, rfl, rfl, by simp [World.drewN], fun k hk => Below.heap_alloc _ _ _ hk⟩⟩
      · have HRR : Hid (R = false) := hide (by rw [← hR.out, HB.out, decide_eq_false h3]; simp)
        have q0 : decide (0 ≤ f1) = true := decide_eq_true h1
        have q1 : decide (f1 < 3) = false := decide_eq_false h3
        clear HB hR hf0 hf1 hf2 hm
        rcases hk with rfl | rfl
        · go_enter Tryz.func99, Tryz.ntmps99
          go_wp2_with fail
          go_quiet (fail)
          go_wp2
          go_ret
          exact ⟨ret_bool (by rw [HRR.out]), ⟨rfl, rfl, rfl, by simp [World.drewN], fun k hk => Below.heap_alloc _ _ _ hk⟩⟩
        · go_enter Tryz.func99, Tryz.ntmps99
          go_wp2_with fail
          go_quiet (fail)
          go_wp2
          go_ret
          exact ⟨ret_bool (by rw [HRR.out]), ⟨rfl, rfl, rfl, by simp [World.drewN], fun k hk => Below.heap_alloc _ _ _ hk⟩⟩
    · have HRR : Hid (R = false) := hide (by rw [← hR.out, HB.out, decide_eq_false h1]; simp)
      have q0 : decide (0 ≤ f1) = false := decide_eq_false h1
      clear HB hR hf0 hf1 hf2 hm
      rcases hk with rfl | rfl
      · go_enter Tryz.func99, Tryz.ntmps99
        go_wp2_with fail
        go_quiet (fail)
        go_wp2
        go_ret
        exact ⟨ret_bool (by rw [HRR.out]), ⟨rfl, rfl, rfl, by simp [World.drewN], fun k hk => Below.heap_alloc _ _ _ hk⟩⟩
      · go_enter Tryz.func99, Tryz.ntmps99
        go_wp2_with fail
        go_quiet (fail)
        go_wp2
        go_ret
        exact ⟨ret_bool (by rw [HRR.out]), ⟨rfl, rfl, rfl, by simp [World.drewN], fun k hk => Below.heap_alloc _ _ _ hk⟩⟩
  · have q2 : ¬ f0 = 2 := fun e => hk (.inl e)
    have q4 : ¬ f0 = 4 := fun e => hk (.inr e)
    have HRR : Hid (R = false) := hide (by rw [← hR.out, HB.out]; simp [q2, q4])
    have b2 : (f0 != 2) = true := by simpa using q2
    have b4 : (f0 != 4) = true := by simpa using q4
    clear HB hR hf0 hf1 hf2 hm hk q2 q4
    go_enter Tryz.func99, Tryz.ntmps99
    go_wp2_with fail
    go_ret
    exact ⟨ret_bool (by rw [HRR.out]), ⟨rfl, rfl, rfl, by simp, fun k hk => Below.heap_alloc _ _ _ hk⟩⟩
theorem infoCommit : (Tryz.prog.info? 59).map (fun i => (i.zero, i.size, i.bytes)) = some (some (.agg #[.int .i64 0, .int .i64 0, .int .i64 0]), 3, 24) := by kernel_rfl
theorem infoCommit3 : (Tryz.prog.info? 59).map (·.size) = some 3 := by kernel_rfl
set_option maxHeartbeats 1000000 in
set_option maxRecDepth 20000 in
theorem done_any (N p win : Nat) (tv : Value) (S : VS) (w : World) (k : Nat) (h : VIs w N p win tv S) (hok : VOk win S) (hk : k < S.tr.length) :
    Calls Tryz.prog 103 #[.pointer (some ⟨p, 0, none⟩), .int .i64 (k : Int)] w fun e w' => e = .returned (.agg (fCells (doneF k (cmAt S.tr k)))) ∧ Below w.heap.size w w' := by
  have hf := hok.few
  obtain ⟨g, cap, rfl, _, hg, hcap⟩ := h.row.has (by omega)
  have c0 := h.at 0
  rw [show (vCells (.slice (some ⟨g, 0, none⟩) S.tr.length cap) win S)[0]? = some (.slice (some ⟨g, 0, none⟩) S.tr.length cap) from rfl] at c0
  have hW : FIs (w.alloc (.cells (fCells fr0) 35)) w.heap.size 35 fr0 := blk_new _ _
  have hrow := (h.below ((Below.refl _ _).alloc (Nat.le_refl _) (.cells (fCells fr0) 35))).row.range hk
  have HROW := hide hrow
  obtain ⟨n, hn⟩ : ∃ n, S.tr.length = n := ⟨_, rfl⟩
  rw [hn] at c0 hk hf hcap
  generalize cmAt S.tr k = d at HROW hrow ⊢
  obtain ⟨d1, d2, d3⟩ := d
  have hres : FIs ((w.alloc (.cells (fCells fr0) 35)).alloc (.cells #[.int .i64 d1, .int .i64 d2, .int .i64 d3] 59)) w.heap.size 35 fr0 := (Below.heap_alloc _ _ _ (by simp)).trans hW
  have HRES := hide hres
  have HB := hide (((Below.refl w.heap.size w).alloc (Nat.le_refl _) (.cells (fCells fr0) 35)).alloc (by simp) (.cells #[.int .i64 d1, .int .i64 d2, .int .i64 d3] 59))
  have hN : fCells (doneF k ⟨d1, d2, d3⟩) = #[.int .i64 3, .int .i64 3, .int .i64 (k : Int), .int .i64 d1, .int .i64 d2, .int .i64 d3, .int .i64 0, .int .i64 0, .int .i64 0, .int .i64 0, .int .i64 0, .int .i64 0, .int .i64 0, .int .i64 0, .int .i64 0, .int .i64 0, .int .i64 0, .int .i64 0, .int .i64 0, .int .i64 0, .int .i64 0, .int .i64 0, .int .i64 0] := by
    simp [fCells, doneF, votF]
  have HN := hide hN
  have hpl := h.lt
  clear h hok hn hW hrow hres hN
  go_enter Tryz.func103, Tryz.ntmps103
  go_wp2_with (first
    | (refine wpList_load_mid rfl 59 _ rfl g (k * 3) rfl _ _ HROW.out Tryz.underlying59 rfl (by rw [infoCommit3]; rfl) ?_)
    | (refine wpList_store_fl rfl _ _ rfl w.heap.size (doneF k ⟨d1, d2, d3⟩) rfl (by rw [HN.out]; rfl) fr0 HRES.out ?_))
  intro w9 HF9
  go_wp2
  refine bodyPost_ret (v := .agg (fCells (doneF k ⟨d1, d2, d3⟩))) ?_ rfl ⟨rfl, HB.out.trans (HF9.out.2.2 _ (Nat.le_refl _))⟩
  exact results_cell1 Tryz.results103 rfl (load_f HF9.out.1)
theorem own_one {w : World} {g base : Nat} {t : TypeId} {F : FR} (h : w.heap[g]? = some (.cells (fCells F) t (0, 0))) (hb : base ≤ g) : w.ownsRow base t 23 (.slice (some ⟨g, 0, none⟩) 1 1) 1 (fCells F).toList :=
  ⟨by simp [fCells_size], .inr ⟨g, 1, fCells F, rfl, hb, h, Nat.le_refl _, by unfold maxLen; omega, by rw [fCells_size], by rw [List.take_of_length_le (by simp [fCells_size])]⟩⟩
theorem fCells_oneCell (F : FR) : ∀ u ∈ (fCells F).toList, u.oneCell' = true := by
  intro u hu
  have := fOne F
  rw [Array.all_eq_true'] at this
  exact this u (by simpa using hu)
set_option maxHeartbeats 1000000 in
set_option maxRecDepth 20000 in
theorem past_any (N p win : Nat) (tv : Value) (S : VS) (w : World) (k : Nat) (h : VIs w N p win tv S) (hok : VOk win S) (hk : k < S.tr.length) :
    Calls Tryz.prog 100 #[.pointer (some ⟨p, 0, none⟩), .int .i64 (k : Int)] w fun e w' => (∃ v, e = .returned v ∧ FRow w' 35 v (pastF S.tr k)) ∧ Below w.heap.size w w' := by
  have hf := hok.few
  obtain ⟨a, cap, rfl⟩ := h.row.shape
  obtain ⟨n, hn⟩ : ∃ n, S.tr.length = n + 1 := ⟨S.tr.length - 1, by omega⟩
  have HD := hide (done_any N p win _ S w k h hok hk)
  obtain ⟨F, hF⟩ : ∃ F, Hid (doneF k (cmAt S.tr k) = F) := ⟨_, hide rfl⟩
  rw [hF.out] at HD
  have HV := hide h
  obtain ⟨L, hL⟩ : ∃ L, Hid (pastF S.tr k = L) := ⟨_, hide rfl⟩
  rw [hL.out]
  clear h
  go_enter Tryz.func100, Tryz.ntmps100
  go_wp2_with (first
    | (go_at_call 103; refine HD.out.mono ?_; rintro e w1 ⟨rfl, hB1⟩)
    | (refine wpList_one_f rfl _ rfl F rfl _ rfl ?_))
  have hv1 := HV.out.below hB1
  have c0 := hv1.at 0
  rw [show (vCells (.slice a S.tr.length cap) win S)[0]? = some (.slice a S.tr.length cap) from rfl, hn] at c0
  have HV1 := hide hv1
  have HB1 := hide hB1
  have hp := hv1.lt
  clear hv1 hB1 HD
  intro w2 HW2
  obtain ⟨hblk, hsz2, hB2⟩ := HW2.out
  have hv2 := HV1.out.below hB2
  have c02 := hv2.at 0
  rw [show (vCells (.slice a S.tr.length cap) win S)[0]? = some (.slice a S.tr.length cap) from rfl, hn] at c02
  have HV2 := hide hv2
  have HBLK := hide hblk
  have HB2 := hide (HB1.out.trans (hB2.mono HB1.out.size))
  have hp2 := hv2.lt
  obtain ⟨q, hq⟩ : ∃ q, Hid (w1.heap.size = q) := ⟨_, hide rfl⟩
  rw [hq.out] at hsz2 HBLK ⊢
  have hwq : Hid (w.heap.size ≤ q) := hide (hq.out ▸ HB1.out.size)
  clear hblk hB2 hv2 HW2 c0 hp HV1 HV HB1 hq
  by_cases he : k = n
  · have hP : pastF S.tr k = [F] := by unfold pastF; rw [if_pos (by omega), hF.out]
    have HL := hide (hL.out.symm.trans hP)
    subst he
    have hk1 : k ≤ 1000 := by omega
    clear hP hL hn hk hf HV2 hok hF
    go_wp2
    go_ret
    exact ⟨⟨_, rfl, by rw [HL.out]; exact FRow.one HBLK.out⟩, HB2.out⟩
  · have hP : pastF S.tr k = [F, doneF n (cmAt S.tr n)] := by unfold pastF; rw [if_neg (by omega), hF.out, hn, Nat.add_sub_cancel]
    have HL := hide (hL.out.symm.trans hP)
    have HD := hide (done_any N p win _ S w2 n HV2.out hok (by omega))
    generalize doneF n (cmAt S.tr n) = G at HD HL
    obtain ⟨i0, hi, hz0, hz1, hz2⟩ := info_parts infoFrameZ
    have HI := hide hi
    have HZ0 := hide hz0
    have HZ1 := hide hz1
    have HZ2 := hide hz2
    have hk1 : k ≤ 1000 := by omega
    have hn1 : n ≤ 1000 := by omega
    clear hP hL hn hk hf hok hF HV2 hi hz0 hz1 hz2
    go_wp2_with (first
      | (go_at_call 103; refine HD.out.mono ?_; rintro e w3 ⟨rfl, hB3⟩)
      | (refine wpList_one_f rfl _ rfl G rfl _ rfl ?_))
    intro w4 HW4
    obtain ⟨hblk4, hsz4, hB4⟩ := HW4.out
    have h24 : Below w2.heap.size w2 w4 := hB3.trans (hB4.mono hB3.size)
    have HO := hide (own_one (base := w.heap.size) ((h24.block q (by omega)).trans HBLK.out) hwq.out)
    have HB4 := hide (HB2.out.trans (h24.mono HB2.out.size))
    have HN4 := hide hblk4
    have hs3 := hB3.size
    clear hblk4 hB3 hB4 h24 HW4 HD
    go_wp2_with (at_builtin; refine wpList_append_lies _ rfl _ _ 134 rfl w.heap.size 35 i0 (.agg (fCells fr0)) 23 184 Tryz.underlying134 HI.out HZ0.out HZ1.out HZ2.out rfl (by decide) _ _ _ rfl HO.out ⟨w3.heap.size, 0, none⟩ 1 1 (fCells G).toList rfl (by simp [fCells_size]) (World.news_of_block HN4.out) (fCells_oneCell G) (by decide) (by unfold maxLen; omega) (by omega) HB4.out.size _ rfl ?_)
    intro g cap' w5 hown hgrow hat hlt
    have HO5 := hide hown
    have HB5 := hide (HB4.out.grown hgrow HB4.out.size (fun j hj => by
      have : q = j := by simpa [Value.ownBlock] using hj
      have := hwq.out
      omega))
    clear hown hgrow hat hlt
    go_wp2
    go_ret
    exact ⟨⟨_, rfl, by rw [HL.out]; exact FRow.two HO5.out⟩, HB5.out⟩
end Go.Proofs.YtaablbmgagiajaaGreatDoor
