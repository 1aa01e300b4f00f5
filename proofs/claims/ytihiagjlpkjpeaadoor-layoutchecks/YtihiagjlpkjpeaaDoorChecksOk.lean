/- The walk of triumvirlaw.LayoutChecks at a layout with which nothing is wrong. -/
import Derived.Test.YtihiagjlpkjpeaaDoorChecksBad
import Derived.Test.YtihiagjlpkjpeaaDoorFitOk
import Derived.Test.YtihiagjlpkjpeaaDoorRefFit
import Derived.Test.YtihiagjlpkjpeaaDoorRefMath2
import Derived.Deep.DeepCutAuto
namespace Go.Proofs.YtihiagjlpkjpeaaDoor
open Go.RowKit

theorem ok_err (w : World) (lo : Nat) : IsErr w lo (0, -1) .nilIface := .inl ⟨rfl, rfl⟩

theorem nrow_routes {w : World} {b off : Nat} {s : Int} {zs : List Int} {d : Int} (h : checkF s zs d = (0, -1)) (hc : Row w b off zs) : NRow w b off (routes zs) := by
  intro k hk
  rw [routes_length] at hk
  rw [hc k hk, routes_get, Int.toNat_of_nonneg (by have := (good_routes h k hk).1; omega)]

set_option maxRecDepth 20000 in
set_option maxHeartbeats 8000000 in
theorem checks_ok (sn : Nat) (d x0 x1 : Int) (b off cap : Nat) (zs : List Int) (w : World) (hok : checkF sn zs d = (0, -1)) (hcap : zs.length ≤ cap) (hb : b < w.heap.size) (hrow : Row w b off zs) (hg : HasErrT w)
    (h01 : -9223372036854775808 ≤ x0) (h02 : x0 < 9223372036854775808) (h11 : -9223372036854775808 ≤ x1) (h12 : x1 < 9223372036854775808) :
    Calls Tryd.prog 3 #[.agg #[.int .i64 (sn : Int), .slice (some ⟨b, off, none⟩) zs.length cap, .int .i64 d], .agg #[.int .i64 x0, .int .i64 x1]] w fun e w' => e = .returned (.bool true) ∧ Below w.heap.size w w' := by
  have hr := range_pos hok
  unfold rangeB at hr
  simp only [Bool.and_eq_true, inB_iff] at hr
  obtain ⟨⟨⟨b11, b12⟩, b21, b22⟩, _⟩ := hr
  have hs12 : sn ≤ 12 := by omega
  have hl8 : zs.length ≤ 8 := by omega
  have hl1 : 1 ≤ zs.length := by omega
  have hI64 : InI64 zs := fun k hk => by
    have h1 := (good_routes hok k hk)
    rw [top_nat] at h1
    have hp : 2 ^ sn ≤ 2 ^ 12 := Nat.pow_le_pow_right (by decide) hs12
    have hq : 0 < 2 ^ sn := Nat.two_pow_pos sn
    omega
  have hsl : IsSl w (some ⟨b, off, none⟩) zs.length cap zs := ⟨rfl, hcap, .inr ⟨b, off, rfl, hb, hrow⟩⟩
  have hc1 := fun (wx : World) (hB : Below w.heap.size w wx) => refCheck_any (sn : Int) d (some ⟨b, off, none⟩) zs.length cap zs wx (hsl.below hB)
  have hc2 := fun (wx : World) (hB : Below w.heap.size w wx) => conf_ok (sn : Int) d b off cap zs wx hok (Nat.lt_of_lt_of_le hb hB.size) (hrow.below hb hB) hcap
  have hc3 := fun (wx : World) (hB : Below w.heap.size w wx) => most_ok (sn : Int) d b off cap zs wx hok (Nat.lt_of_lt_of_le hb hB.size) (hrow.below hb hB) hcap
  have hc4 := fun (wx : World) (hB : Below w.heap.size w wx) => fit_ok (sn : Int) d x0 x1 b off cap zs wx hok (Nat.lt_of_lt_of_le hb hB.size) (hrow.below hb hB) hcap
  have hc5 := fun (wx : World) (hB : Below w.heap.size w wx) => check_any (sn : Int) d (some ⟨b, off, none⟩) zs.length cap zs wx (hsl.below hB)
  have hc6 := fun (wx : World) (hB : Below w.heap.size w wx) => is_any wx 0 (0, -1) .nilIface (ok_err wx 0) (hg.below hB hg.pos)
  have hc7 := fun (wx : World) (hB : Below w.heap.size w wx) => refConf_any sn d b off cap zs wx hs12 hl1 hl8 (Nat.lt_of_lt_of_le hb hB.size) (hrow.below hb hB) hI64
  have hc8 := fun (wx : World) (hB : Below w.heap.size w wx) => refMost_any (sn : Int) d b off cap zs.length (routes zs) (routes_length zs) hl8 (fun k => by
    by_cases hk : k < zs.length
    · have := (route_u64 hok hs12 k hk).2
      have hp : 2 ^ sn ≤ 2 ^ 12 := Nat.pow_le_pow_right (by decide) hs12
      omega
    · rw [routes_get, List.getElem?_eq_none (by omega)]; decide) zs.length 0 0 wx (by omega) (by decide) (Nat.lt_of_lt_of_le hb hB.size) (nrow_routes hok (hrow.below hb hB))
  have hc9 := fun (wx : World) => refFit_any sn d x0 x1 (some ⟨b, off, none⟩) zs.length cap wx hs12 hl8 h01 h02 h11 h12
  rw [hok] at hc1 hc5
  rw [hitsTo_confs hok hs12] at hc7
  rw [List.drop_zero, rm_most hok hs12 hl8] at hc8
  rw [fit_bits x0 sn hs12, fit_bits x1 zs.length (by omega)] at hc4
  obtain ⟨q0, hq0⟩ : ∃ q, Hid (setTo (fun i => (u64 x0).testBit i) sn = q) := ⟨_, hide rfl⟩
  obtain ⟨q1, hq1⟩ : ∃ q, Hid (setTo (fun i => (u64 x1).testBit i) zs.length = q) := ⟨_, hide rfl⟩
  obtain ⟨mq, hmq⟩ : ∃ q, Hid (most (confs zs) = q) := ⟨_, hide rfl⟩
  rw [hq0.out, hq1.out] at hc4 hc9
  rw [hmq.out] at hc3 hc8
  have hlc := confs_length zs
  obtain ⟨cs, hcs⟩ : ∃ cs, Hid (confs zs = cs) := ⟨_, hide rfl⟩
  have hrc := fun (wx : World) (M : Nat) (h : wx.rowIs M 3 zs.length (fun k => .int .i64 ((conf zs k : Nat) : Int))) => nrow_confs h
  rw [hcs.out] at hc7 hlc hrc
  obtain ⟨n, hn⟩ : ∃ n, Hid (zs.length = n) := ⟨_, hide rfl⟩
  rw [hn.out] at hc1 hc2 hc3 hc4 hc5 hc7 hc8 hc9 hlc hrc hl8 hl1 ⊢
  have H1 := hide hc1
  have H2 := hide hc2
  have H3 := hide hc3
  have H4 := hide hc4
  have H5 := hide hc5
  have H6 := hide hc6
  have H7 := hide hc7
  have H8 := hide hc8
  have H9 := hide hc9
  have HLC := hide hlc
  have HRC := hide hrc
  clear hc1 hc2 hc3 hc4 hc5 hc6 hc7 hc8 hc9 hlc hrc hok hg hsl hrow hI64 hq0 hq1 hmq hcs hcap b11 b12 b21 b22 h01 h02 h11 h12 hs12 hn hb
  have hb0 := boxes_start w (.int .i64 (sn : Int)) (.slice (some ⟨b, off, none⟩) n cap) (.int .i64 d) (.int .i64 x0) (.int .i64 x1)
  have HB0 := hide hb0
  clear hb0
  go_enter Tryd.func3, Tryd.ntmps3
  go_wp2_with fail
  refine (unhide H1 _ HB0.out.old).mono ?_
  rintro e w1 ⟨rfl, hB1⟩
  have HB1 := hide (HB0.out.below hB1)
  obtain ⟨l0, l1, l2, _, _⟩ := HB1.out.cells
  have hN1 : w.heap.size < w1.heap.size := lt_block HB1.out.lay
  clear hB1 HB0 H1
  go_wp2_with fail
  have HB1a := hide (HB1.out.alloc (.cells #[.int .i64 0, .int .i64 (-1)] 29))
  refine (unhide H2 _ HB1a.out.old).mono ?_
  rintro e w2 ⟨⟨M, _, rfl, hrw⟩, hB2⟩
  clear l0 l1 l2
  have HB2 := hide (HB1a.out.below hB2)
  obtain ⟨l0, l1, l2, _, _⟩ := HB2.out.cells
  obtain ⟨F0, F1⟩ := new_cells hB2
  have HF0 := hide F0
  have HF1 := hide F1
  have HRW := hide hrw
  generalize w1.heap.size = F at *
  clear hB2 hrw HB1 HB1a H2 F0 F1
  go_wp2_with fail
  refine (unhide H3 _ HB2.out.old).mono ?_
  rintro e w3 ⟨rfl, hB3⟩
  clear l0 l1 l2
  have HB3 := hide (HB2.out.below hB3)
  obtain ⟨l0, l1, l2, y0, y1⟩ := HB3.out.cells
  have HF0' := hide ((Keeps.mk hB3).cell HF0.out)
  have HF1' := hide ((Keeps.mk hB3).cell HF1.out)
  have HRW' := hide (HRW.out.of_block (hB3.block M HRW.out.lt))
  clear hB3 HB2 H3 HF0 HF1 HRW
  go_wp2_with fail
  refine (unhide H4 _ HB3.out.old).mono ?_
  rintro e w4 ⟨rfl, hB4⟩
  clear l0 l1 l2 y0 y1
  have HB4 := hide ((HB3.out.below hB4).alloc (.cells #[.int .i64 (q0 : Int), .int .i64 (q1 : Int)] 26))
  have hk4 : Keeps w3 (w4.alloc (.cells #[.int .i64 (q0 : Int), .int .i64 (q1 : Int)] 26)) := ⟨hB4.alloc hB4.size _⟩
  have HF0 := hide (hk4.cell HF0'.out)
  have HF1 := hide (hk4.cell HF1'.out)
  have HRW := hide (HRC.out _ M (HRW'.out.of_block (hk4.below.block M HRW'.out.lt)))
  have HML := hide (Nat.lt_of_lt_of_le HRW'.out.lt hk4.below.size)
  have HX0 : Hid ((w4.alloc (.cells #[.int .i64 (q0 : Int), .int .i64 (q1 : Int)] 26)).cell? ⟨w4.heap.size, 0, none⟩ = some (.int .i64 (q0 : Int))) := World.cell?_alloc_at _ _ _ _ rfl
  have HX1 : Hid ((w4.alloc (.cells #[.int .i64 (q0 : Int), .int .i64 (q1 : Int)] 26)).cell? ⟨w4.heap.size, 1, none⟩ = some (.int .i64 (q1 : Int))) := World.cell?_alloc_at _ _ _ _ rfl
  clear hk4 hB4 HB3 H4 HF0' HF1' HRW' HRC
  go_wp2_with fail
  generalize w4.alloc (.cells #[.int .i64 (q0 : Int), .int .i64 (q1 : Int)] 26) = w5 at *
  generalize w4.heap.size = X at *
  have hk0 : Keeps w5 w5.drew := (Keeps.refl w5).drew
  have CELLS : Hid (∀ wx, Keeps w5 wx → wx.cell? ⟨w.heap.size, 0, none⟩ = some (.int .i64 (sn : Int)) ∧ wx.cell? ⟨w.heap.size, 1, none⟩ = some (.slice (some ⟨b, off, none⟩) n cap) ∧ wx.cell? ⟨w.heap.size, 2, none⟩ = some (.int .i64 d) ∧ wx.cell? ⟨F, 0, none⟩ = some (.int .i64 0) ∧ wx.cell? ⟨F, 1, none⟩ = some (.int .i64 (-1)) ∧ wx.cell? ⟨X, 0, none⟩ = some (.int .i64 (q0 : Int)) ∧ wx.cell? ⟨X, 1, none⟩ = some (.int .i64 (q1 : Int)) ∧ wx.cell? ⟨w.heap.size + 1, 0, none⟩ = some (.int .i64 x0) ∧ wx.cell? ⟨w.heap.size + 1, 1, none⟩ = some (.int .i64 x1)) := by
    intro wx hk
    obtain ⟨l0, l1, l2, y0, y1⟩ := (HB4.out.below hk.below).cells
    exact ⟨l0, l1, l2, hk.cell HF0.out, hk.cell HF1.out, hk.cell HX0.out, hk.cell HX1.out, y0, y1⟩
  have K5 : Hid (∀ wx, Keeps w5 wx → Calls Tryd.prog 9 #[.agg #[.int .i64 (sn : Int), .slice (some ⟨b, off, none⟩) n cap, .int .i64 d]] wx fun e w' => e = .returned .nilIface ∧ Keeps w5 w') := by
    intro wx hk
    refine (unhide H5 wx (HB4.out.below hk.below).old).mono ?_
    rintro e w' ⟨⟨v, rfl, hv⟩, hB⟩
    exact ⟨by rw [hv.ok], hk.trans hB⟩
  have K6 : Hid (∀ wx, Keeps w5 wx → Calls Tryd.prog 8 #[.nilIface, .agg #[.int .i64 0, .int .i64 (-1)]] wx fun e w' => e = .returned (.bool true) ∧ Keeps w5 w') := by
    intro wx hk
    refine (unhide H6 wx (HB4.out.below hk.below).old).mono ?_
    rintro e w' ⟨rfl, hB⟩
    exact ⟨rfl, hk.trans hB⟩
  have K7 : Hid (∀ wx, Keeps w5 wx → Calls Tryd.prog 11 #[.agg #[.int .i64 (sn : Int), .slice (some ⟨b, off, none⟩) n cap, .int .i64 d]] wx fun e w' => (∃ g cp, e = .returned (.slice (some ⟨g, 0, none⟩) n cp) ∧ Hid (NRow w' g 0 cs)) ∧ Keeps w5 w') := by
    intro wx hk
    refine (unhide H7 wx (HB4.out.below hk.below).old).mono ?_
    rintro e w' ⟨⟨g, cp, rfl, _, hr⟩, hB⟩
    exact ⟨⟨g, cp, rfl, hr⟩, hk.trans hB⟩
  have K8 : Hid (∀ wx, Keeps w5 wx → Calls Tryd.prog 12 #[.agg #[.int .i64 (sn : Int), .slice (some ⟨b, off, none⟩) n cap, .int .i64 d], .int .i64 0, .int .i64 0] wx fun e w' => e = .returned (.int .i64 (mq : Int)) ∧ Keeps w5 w') := by
    intro wx hk
    refine (unhide H8 wx (HB4.out.below hk.below).old).mono ?_
    rintro e w' ⟨rfl, hB⟩
    exact ⟨rfl, hk.trans hB⟩
  have K9 : Hid (∀ wx, Keeps w5 wx → Calls Tryd.prog 13 #[.agg #[.int .i64 (sn : Int), .slice (some ⟨b, off, none⟩) n cap, .int .i64 d], .agg #[.int .i64 x0, .int .i64 x1]] wx fun e w' => e = .returned (.agg #[.int .i64 (q0 : Int), .int .i64 (q1 : Int)]) ∧ Keeps w5 w') := by
    intro wx hk
    refine (unhide H9 wx).mono ?_
    rintro e w' ⟨rfl, hB⟩
    exact ⟨rfl, hk.trans hB⟩
  have K10 : Hid (∀ wx g cp, Keeps w5 wx → Hid (NRow wx g 0 cs) → Calls Tryd.prog 10 #[.slice (some ⟨M, 0, none⟩) n n, .slice (some ⟨g, 0, none⟩) n cp] wx fun e w' => e = .returned (.bool true) ∧ Keeps w5 w') := by
    intro wx g cp hk hr
    refine (same_any M g n cp n cs wx HLC.out hl8 (HRW.out.below HML.out hk.below) hr.out).mono ?_
    rintro e w' ⟨rfl, hB⟩
    exact ⟨rfl, hk.trans hB⟩
  have HFIN : Hid (∀ wx, Keeps w5 wx → Below w.heap.size w wx) := fun wx hk => (HB4.out.below hk.below).old
  obtain ⟨l0, l1, l2, F0, F1, X0, X1, y0, y1⟩ := CELLS.out w5 (Keeps.refl w5)
  clear HB4 HF0 HF1 HX0 HX1 H5 H6 H7 H8 H9 HLC HRW HML
  clear l0 l1 l2 F0 F1 X0 X1 y0 y1
  go_cut [56] (fun t wc => t = .bool false ∧ Keeps w5 wc)
  case first =>
    obtain ⟨l0, l1, l2, F0, F1, X0, X1, y0, y1⟩ := CELLS.out w5 (Keeps.refl w5)
    go_region_with (first | (go_at_call 9; refine (unhide K5 _ ?_).mono ?_; assumption; rintro e w' ⟨rfl, hk⟩; obtain ⟨m0, m1, m2, G0, G1, Y0, Y1, z0, z1⟩ := unhide CELLS _ hk) | (go_at_call 8; refine (unhide K6 _ ?_).mono ?_; assumption; rintro e w' ⟨rfl, hk⟩; obtain ⟨m0, m1, m2, G0, G1, Y0, Y1, z0, z1⟩ := unhide CELLS _ hk))
    all_goals go_wp2_with fail
    all_goals go_meet
    all_goals exact ⟨rfl, by assumption⟩
  case rest =>
    obtain ⟨rfl, hkc⟩ := hcut
    obtain ⟨l0, l1, l2, F0, F1, X0, X1, y0, y1⟩ := CELLS.out _ hkc
    go_wp2_with fail
    go_region_with (first | (go_at_call 11; refine (unhide K7 _ ?_).mono ?_; (first | assumption | exact Keeps.drew (by assumption)); rintro e w' ⟨⟨g, cp, rfl, hgr⟩, hk⟩; obtain ⟨m0, m1, m2, G0, G1, Y0, Y1, z0, z1⟩ := unhide CELLS _ hk) | (go_at_call 10; refine (unhide K10 _ _ _ ?_ ?_).mono ?_; (first | assumption | exact Keeps.drew (by assumption)); assumption; rintro e w' ⟨rfl, hk⟩; obtain ⟨m0, m1, m2, G0, G1, Y0, Y1, z0, z1⟩ := unhide CELLS _ hk) | (go_at_call 12; refine (unhide K8 _ ?_).mono ?_; (first | assumption | exact Keeps.drew (by assumption)); rintro e w' ⟨rfl, hk⟩; obtain ⟨m0, m1, m2, G0, G1, Y0, Y1, z0, z1⟩ := unhide CELLS _ hk) | (go_at_call 13; refine (unhide K9 _ ?_).mono ?_; (first | assumption | exact Keeps.drew (by assumption)); rintro e w' ⟨rfl, hk⟩; obtain ⟨m0, m1, m2, G0, G1, Y0, Y1, z0, z1⟩ := unhide CELLS _ hk))
    all_goals go_wp2
    all_goals go_ret
    all_goals exact ⟨rfl, HFIN.out _ (by first | assumption | exact Keeps.drew (by assumption))⟩

end Go.Proofs.YtihiagjlpkjpeaaDoor
