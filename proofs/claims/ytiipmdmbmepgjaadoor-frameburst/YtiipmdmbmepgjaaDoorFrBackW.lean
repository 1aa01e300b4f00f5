/- The contract of triumvirkeep.FrameBack. -/
import Derived.Test.YtiipmdmbmepgjaaDoorFrSent
namespace Go.Proofs.YtiipmdmbmepgjaaDoor
open Go.RowKit Go.Deep Go.Extern.Stop Go.Stop Go.Extern

theorem take_isB {w : World} {base g n cp k : Nat} {l : List Nat} (h : OwnB w base g n cp l) (hk : k < n) : IsB w (some ⟨g, 0, none⟩) k cp (l.take k) := by
  obtain ⟨h1, h2, h3, h4⟩ := h.isB
  have hp := h.parts
  refine ⟨by rw [List.length_take]; omega, by omega, fun c hc => h3 c (List.mem_of_mem_take hc), .inr ⟨g, 0, rfl, hp.2.1, fun j hj => ?_⟩⟩
  rw [List.length_take] at hj
  rw [Nat.zero_add, h.at (by omega), List.getElem?_take, if_pos (by omega)]
theorem errV_pos {e : Nat} (h : e ≠ 0) : errV e = .iface 27 (.int .i64 (e : Int)) := if_neg h

set_option maxHeartbeats 4000000 in
set_option maxRecDepth 20000 in
theorem back_any (F : FR) (x : Int) (w : World) (hg : HasErrT w) :
    Calls Tryd.prog 7 #[.agg (fCells F), .int .i64 x] w fun e w' => e = .returned (.bool true) ∧ Below w.heap.size w w' := by
  have hB0 : Below w.heap.size w (w.alloc (.cells (fCells F) 63)) := (Below.refl w.heap.size w).alloc (Nat.le_refl _) _
  have hbox : FIs (w.alloc (.cells (fCells F) 63)) w.heap.size 63 F := blk_new _ _
  have HS := hide (sent_any _ (hg.below hB0 hg.pos))
  have HB0 := hide hB0
  have HBOX := hide hbox
  clear hB0 hbox
  go_enter Tryd.func7, Tryd.ntmps7
  go_wp2_with (go_at_call 35; refine HS.out.mono ?_)
  rintro e w1 ⟨rfl, hB1⟩
  have HBOX1 := hide (HBOX.out.below (by simp) hB1)
  have HO1 := hide (HB0.out.trans (hB1.mono (by simp)))
  have hN := HBOX1.out.lt
  clear hB1 HS HBOX HB0
  cases hmay : mayB F
  · have HEN := hide (encode_bad F w1 hmay)
    go_wp2_with (first
      | (refine wpList_load_f rfl _ rfl w.heap.size rfl F HBOX1.out ?_)
      | (go_at_call 29; refine HEN.out.mono ?_; rintro e w2 ⟨rfl, hB2⟩))
    go_ret
    exact ⟨rfl, HO1.out.trans (hB2.mono HO1.out.size)⟩
  · have HEN := hide (encode_ok F w1 hmay)
    go_wp2_with (first
      | (refine wpList_load_f rfl _ rfl w.heap.size rfl F HBOX1.out ?_)
      | (go_at_call 29; refine HEN.out.mono ?_))
    rintro e w2 ⟨⟨v, rfl, hown⟩, hB2⟩
    obtain ⟨g, cp, rfl, hO⟩ := ownB_of hown
    have hel := enc_len F
    obtain ⟨n, hn⟩ : ∃ n, Hid ((encF F).length = n) := ⟨_, hide rfl⟩
    rw [hn.out] at hO hel ⊢
    obtain ⟨hel1, hel2⟩ := hel
    have HF2 := hide (HBOX1.out.below hN hB2)
    have HO2 := hide (HO1.out.trans (hB2.mono (by omega)))
    obtain ⟨hg1, hg2, hg3⟩ := hO.parts
    obtain ⟨G, hG, hGF⟩ := dec_enc hmay
    have hdec := decode_any _ n cp (encF F) w2 (by omega) hO.isB
    rw [hG, show errV ((0, G) : Nat × FR).1 = Value.nilIface from rfl] at hdec
    have HDEC := hide hdec
    have HOB := hide hO
    have hs2 := hB2.size
    have HGF := hide hGF
    clear hdec hO hB2 hown HEN HBOX1 HO1 hGF
    go_wp2_with (first
      | (go_at_call 34; refine HDEC.out.mono ?_; rintro e w3 ⟨rfl, hB3⟩)
      | (refine wpList_store_fl rfl _ _ rfl w3.heap.size G rfl rfl fr0 (blk_new _ _) ?_))
    intro w4 HF4
    have hB4 : Below w3.heap.size w3 w4 := ((Below.refl _ _).alloc (Nat.le_refl _) _).trans (HF4.out.2.2 _ (Nat.le_refl _))
    have hB34 : Below w2.heap.size w2 w4 := hB3.trans (hB4.mono hB3.size)
    have HFG := hide HF4.out.1
    have HF5 := hide (HF2.out.below (by omega) hB34)
    have HO5 := hide (HO2.out.trans (hB34.mono (by omega)))
    have HOB5 := hide (HOB.out.below hB34)
    have hs4 := hB34.size
    have hs3 := HFG.out.lt
    clear hB3 hB4 hB34 HF4 HF2 HO2 HOB HDEC
    generalize w3.heap.size = P at HFG hs3 ⊢
    have hEQ : eqB G F = true := (eqB_iff _ _).2 HGF.out
    have hpk := pickF_in x (n : Int) (by omega) (by omega)
    obtain ⟨k, hk⟩ := Int.eq_ofNat_of_zero_le hpk.1
    have HPK := hide (pick_any x (n : Int) w4 (by omega) (by omega))
    rw [hk] at HPK hpk
    have hkn : k < n := by omega
    obtain ⟨hpe, hpf⟩ := dec_prefix hmay (k := k) (by rw [hn.out]; exact hkn)
    have hdec := decode_any _ k cp ((encF F).take k) w4 (by omega) (take_isB HOB5.out hkn)
    rw [hpf, errV_pos hpe] at hdec
    obtain ⟨er, her⟩ : ∃ er, Hid ((decF ((encF F).take k)).1 = er) := ⟨_, hide rfl⟩
    rw [her.out] at hdec
    have HDEC := hide hdec
    have hkc : k ≤ cp := by omega
    clear hdec hpe hpf hk hpk
    go_wp2_with (first
      | (refine wpList_loadW (by rfl) _ rfl P rfl G HFG.out ?_)
      | (refine wpList_loadW (by rfl) _ rfl w.heap.size rfl F HF5.out ?_)
      | (refine wpList_neqW (by rfl) _ _ rfl G F rfl rfl ?_; rw [hEQ])
      | (go_at_call 36; refine HPK.out.mono ?_; rintro e w5 ⟨rfl, rfl⟩)
      | (go_at_call 34; refine HDEC.out.mono ?_; rintro e w6 ⟨rfl, hB6⟩)
      | (refine wpList_store_fl rfl _ _ rfl w6.heap.size fr0 rfl rfl fr0 (blk_new _ _) ?_))
    intro w7 HF7
    have hE0 : eqB fr0 fr0 = true := (eqB_iff _ _).2 fun _ _ => rfl
    have hs6 := hB6.size
    have hB7 : Below w6.heap.size w6 w7 := ((Below.refl _ _).alloc (Nat.le_refl _) _).trans (HF7.out.2.2 _ (Nat.le_refl _))
    have HFZ := hide HF7.out.1
    have HO7 := hide ((HO5.out.trans (hB6.mono (by have := HO5.out.size; omega))).trans (hB7.mono (by have := HO5.out.size; omega)))
    clear hB6 hB7 HF7 HO5 HF5 HFG HOB5 HDEC HPK
    go_wp2_with (first
      | (refine wpList_loadW (by rfl) _ rfl w6.heap.size rfl fr0 HFZ.out ?_)
      | (refine wpList_eqlW (by rfl) _ _ rfl fr0 fr0 rfl rfl ?_; rw [hE0]))
    go_ret
    exact ⟨rfl, HO7.out⟩
end Go.Proofs.YtiipmdmbmepgjaaDoor
