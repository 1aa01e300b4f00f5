/- The contract of a voter's past. -/
import Derived.Test.YtbiacknbaefccaaDoorVtDone
import Derived.Test.YtbiacknbaefccaaDoorVtLit
namespace Go.Proofs.YtbiacknbaefccaaDoor
open Go.RowKit Go.Deep

/-- One frame that is told, in a block that the call owns. -/
theorem own_one {w : World} {g base : Nat} {t : TypeId} {F : FR} (h : w.heap[g]? = some (.cells (fCells F) t (0, 0))) (hb : base ≤ g) : w.ownsRow base t 23 (.slice (some ⟨g, 0, none⟩) 1 1) 1 (fCells F).toList :=
  ⟨by simp [fCells_size], .inr ⟨g, 1, fCells F, rfl, hb, h, Nat.le_refl _, by unfold maxLen; omega, by rw [fCells_size], by rw [List.take_of_length_le (by simp [fCells_size])]⟩⟩
theorem fCells_oneCell (F : FR) : ∀ u ∈ (fCells F).toList, u.oneCell' = true := by
  intro u hu
  have := fOne F
  rw [Array.all_eq_true'] at this
  exact this u (by simpa using hu)

set_option maxHeartbeats 1000000 in
set_option maxRecDepth 20000 in
theorem past_any (N p win : Nat) (tv : Value) (S : VS) (w : World) (k : Nat) (h : VIs w N p win tv S) (hok : VOk win S) (hk : k < S.tr.length) :
    Calls Tryd.prog 86 #[.pointer (some ⟨p, 0, none⟩), .int .i64 (k : Int)] w fun e w' => (∃ v, e = .returned v ∧ FRow w' 63 v (pastF S.tr k)) ∧ Below w.heap.size w w' := by
  have hf := hok.few
  obtain ⟨a, cap, rfl⟩ := h.row.shape
  obtain ⟨n, hn⟩ : ∃ n, S.tr.length = n + 1 := ⟨S.tr.length - 1, by omega⟩
  have HD := hide (done_any N p win _ S w k h hok hk)
  obtain ⟨F, hF⟩ : ∃ F, Hid (doneF k (cmAt S.tr k) = F) := ⟨_, hide rfl⟩
  rw [hF.out] at HD
  have HV := hide h
  obtain ⟨L, hL⟩ : ∃ L, Hid (pastF S.tr k = L) := ⟨_, hide rfl⟩
  rw [hL.out]
  clear h
  go_enter Tryd.func86, Tryd.ntmps86
  go_wp2_with (first
    | (go_at_call 89; refine HD.out.mono ?_; rintro e w1 ⟨rfl, hB1⟩)
    | (refine wpList_one_f rfl _ rfl F rfl _ rfl ?_))
  have hv1 := HV.out.below hB1
  have c0 := hv1.at 0
  rw [show (vCells (.slice a S.tr.length cap) win S)[0]? = some (.slice a S.tr.length cap) from rfl, hn] at c0
  have HV1 := hide hv1
  have HB1 := hide hB1
  have hp := hv1.lt
  clear hv1 hB1 HD
  intro w2 HW2
  obtain ⟨hblk, hsz2, hB2⟩ := HW2.out
  have hv2 := HV1.out.below hB2
  have c02 := hv2.at 0
  rw [show (vCells (.slice a S.tr.length cap) win S)[0]? = some (.slice a S.tr.length cap) from rfl, hn] at c02
  have HV2 := hide hv2
  have HBLK := hide hblk
  have HB2 := hide (HB1.out.trans (hB2.mono HB1.out.size))
  have hp2 := hv2.lt
  obtain ⟨q, hq⟩ : ∃ q, Hid (w1.heap.size = q) := ⟨_, hide rfl⟩
  rw [hq.out] at hsz2 HBLK ⊢
  have hwq : Hid (w.heap.size ≤ q) := hide (hq.out ▸ HB1.out.size)
  clear hblk hB2 hv2 HW2 c0 hp HV1 HV HB1 hq
  by_cases he : k = n
  · have hP : pastF S.tr k = [F] := by unfold pastF; rw [if_pos (by omega), hF.out]
    have HL := hide (hL.out.symm.trans hP)
    subst he
    have hk1 : k ≤ 1000 := by omega
    clear hP hL hn hk hf HV2 hok hF
    go_wp2
    go_ret
    exact ⟨⟨_, rfl, by rw [HL.out]; exact FRow.one HBLK.out⟩, HB2.out⟩
  · have hP : pastF S.tr k = [F, doneF n (cmAt S.tr n)] := by unfold pastF; rw [if_neg (by omega), hF.out, hn, Nat.add_sub_cancel]
    have HL := hide (hL.out.symm.trans hP)
    have HD := hide (done_any N p win _ S w2 n HV2.out hok (by omega))
    generalize doneF n (cmAt S.tr n) = G at HD HL
    obtain ⟨i0, hi, hz0, hz1, hz2⟩ := info_parts infoFrameZ
    have HI := hide hi
    have HZ0 := hide hz0
    have HZ1 := hide hz1
    have HZ2 := hide hz2
    have hk1 : k ≤ 1000 := by omega
    have hn1 : n ≤ 1000 := by omega
    clear hP hL hn hk hf hok hF HV2 hi hz0 hz1 hz2
    go_wp2_with (first
      | (go_at_call 89; refine HD.out.mono ?_; rintro e w3 ⟨rfl, hB3⟩)
      | (refine wpList_one_f rfl _ rfl G rfl _ rfl ?_))
    intro w4 HW4
    obtain ⟨hblk4, hsz4, hB4⟩ := HW4.out
    have h24 : Below w2.heap.size w2 w4 := hB3.trans (hB4.mono hB3.size)
    have HO := hide (own_one (base := w.heap.size) ((h24.block q (by omega)).trans HBLK.out) hwq.out)
    have HB4 := hide (HB2.out.trans (h24.mono HB2.out.size))
    have HN4 := hide hblk4
    have hs3 := hB3.size
    clear hblk4 hB3 hB4 h24 HW4 HD
    go_wp2_with (at_builtin; refine wpList_append_lies _ rfl _ _ 92 rfl w.heap.size 63 i0 (.agg (fCells fr0)) 23 184 Tryd.underlying92 HI.out HZ0.out HZ1.out HZ2.out rfl (by decide) _ _ _ rfl HO.out ⟨w3.heap.size, 0, none⟩ 1 1 (fCells G).toList rfl (by simp [fCells_size]) (World.news_of_block HN4.out) (fCells_oneCell G) (by decide) (by unfold maxLen; omega) (by omega) HB4.out.size _ rfl ?_)
    intro g cap' w5 hown hgrow hat hlt
    have HO5 := hide hown
    have HB5 := hide (HB4.out.grown hgrow HB4.out.size (fun j hj => by
      have : q = j := by simpa [Value.ownBlock] using hj
      have := hwq.out
      omega))
    clear hown hgrow hat hlt
    go_wp2
    go_ret
    exact ⟨⟨_, rfl, by rw [HL.out]; exact FRow.two HO5.out⟩, HB5.out⟩
end Go.Proofs.YtbiacknbaefccaaDoor
