/- The contract of triumvirlaw.FrameEncodes. -/
import Derived.Test.YtiipmdmbmepgjaaDoorRfGiven
import Derived.Test.YtiipmdmbmepgjaaDoorFrSent
namespace Go.Proofs.YtiipmdmbmepgjaaDoor
open Go.RowKit Go.Deep Go.Extern.Stop Go.Stop Go.Extern

theorem nil_isB (w : World) : IsB w none 0 0 [] := ⟨rfl, Nat.le_refl _, fun _ h => by simp at h, .inl rfl⟩

set_option maxHeartbeats 2000000 in
set_option maxRecDepth 20000 in
theorem encodes_many (F : FR) (a : Option Addr) (len cap : Nat) (w : World) (hl : 300 < len) :
    Calls Tryd.prog 5 #[.agg (fCells F), .slice a len cap] w fun e w' => e = .returned (.bool true) ∧ Below w.heap.size w w' := by
  have HB := hide ((Below.refl w.heap.size w).alloc (Nat.le_refl _) (.cells (fCells F) 63))
  go_enter Tryd.func5, Tryd.ntmps5
  go_wp2
  go_ret
  exact ⟨rfl, HB.out⟩

set_option maxHeartbeats 4000000 in
set_option maxRecDepth 20000 in
theorem encodes_few (F : FR) (a : Option Addr) (len cap : Nat) (l : List Nat) (w : World) (hl : len ≤ 300) (hb : IsB w a len cap l) (hg : HasErrT w) :
    Calls Tryd.prog 5 #[.agg (fCells F), .slice a len cap] w fun e w' => e = .returned (.bool true) ∧ Below w.heap.size w w' := by
  have hB0 : Below w.heap.size w (w.alloc (.cells (fCells F) 63)) := (Below.refl w.heap.size w).alloc (Nat.le_refl _) _
  have hbox : FIs (w.alloc (.cells (fCells F) 63)) w.heap.size 63 F := blk_new _ _
  have HG := hide (given_any F (w.alloc (.cells (fCells F) 63)))
  have HB0 := hide hB0
  have HBOX := hide hbox
  have HX := hide hb
  clear hB0 hbox hb
  go_enter Tryd.func5, Tryd.ntmps5
  go_wp2_with (first
    | (refine wpList_load_f rfl _ rfl w.heap.size rfl F HBOX.out ?_)
    | (go_at_call 28; refine HG.out.mono ?_))
  rintro e w1 ⟨rfl, hB1⟩
  have HBOX1 := hide (HBOX.out.below (by simp) hB1)
  have HO1 := hide (HB0.out.trans (hB1.mono (by simp)))
  have hN := HBOX1.out.lt
  clear hB1 HG HBOX HB0
  cases hmay : mayB F
  · have HE1 := hide (refEnc_bad F w1 hmay)
    go_wp2_with (go_at_call 27; refine HE1.out.mono ?_)
    rintro e w2 ⟨rfl, hB2⟩
    have HBOX2 := hide (HBOX1.out.below hN hB2)
    have HO2 := hide (HO1.out.trans (hB2.mono HO1.out.size))
    have HE2 := hide (encode_bad F w2 hmay)
    clear hB2 HE1 HBOX1 HO1
    go_wp2_with (first
      | (refine wpList_load_f rfl _ rfl w.heap.size rfl F HBOX2.out ?_)
      | (go_at_call 29; refine HE2.out.mono ?_))
    rintro e w3 ⟨rfl, hB3⟩
    have hO3 := HO2.out.trans (hB3.mono HO2.out.size)
    have HO3 := hide hO3
    have HBA := hide (bare_any 1 (.iface 27 (.int .i64 1)) w3 rfl (hg.below hO3 hg.pos))
    clear hB3 hO3 HE2 HBOX2 HO2
    go_wp2_with (go_at_call 30; refine HBA.out.mono ?_)
    rintro e w4 ⟨rfl, hB4⟩
    have hO4 := HO3.out.trans (hB4.mono HO3.out.size)
    have HO4 := hide hO4
    have q1 := conv_any (nil_isB w4)
    have HS1 := hide (sum_any a len cap l w4 (by omega) (HX.out.below hO4))
    have HS2 := hide (refSum_any a len cap l w4 (by omega) (HX.out.below hO4))
    clear hB4 hO4 HBA HO3
    go_wp2_with (first
      | (go_at_call 31; refine HS1.out.mono ?_; rintro e w5 ⟨rfl, hw5⟩; subst w5)
      | (go_at_call 32; refine HS2.out.mono ?_; rintro e w6 ⟨rfl, hw6⟩; subst w6))
    go_ret
    exact ⟨rfl, HO4.out⟩
  · have HE1 := hide (refEnc_ok F w1 hmay)
    go_wp2_with (go_at_call 27; refine HE1.out.mono ?_)
    rintro e w2 ⟨⟨v2, rfl, hown2⟩, hB2⟩
    obtain ⟨g2, cp2, rfl, hO2b⟩ := ownB_of hown2
    have HBOX2 := hide (HBOX1.out.below hN hB2)
    have HO2 := hide (HO1.out.trans (hB2.mono HO1.out.size))
    have HE2 := hide (encode_ok F w2 hmay)
    have HI2 := hide hO2b.isB
    clear hB2 HE1 HBOX1 HO1 hown2 hO2b
    go_wp2_with (first
      | (refine wpList_load_f rfl _ rfl w.heap.size rfl F HBOX2.out ?_)
      | (go_at_call 29; refine HE2.out.mono ?_))
    rintro e w3 ⟨⟨v3, rfl, hown3⟩, hB3⟩
    obtain ⟨g3, cp3, rfl, hO3b⟩ := ownB_of hown3
    have hO3 := HO2.out.trans (hB3.mono HO2.out.size)
    have HO3 := hide hO3
    have HI3 := hide hO3b.isB
    have HI23 := hide (HI2.out.below hB3)
    have HBA := hide (bare_any 0 .nilIface w3 rfl (hg.below hO3 hg.pos))
    clear hB3 hO3 HE2 HBOX2 HO2 hown3 hO3b HI2
    go_wp2_with (go_at_call 30; refine HBA.out.mono ?_)
    rintro e w4 ⟨rfl, hB4⟩
    have hO4 := HO3.out.trans (hB4.mono HO3.out.size)
    have HO4 := hide hO4
    have q1 := conv_any (HI3.out.below hB4)
    have q2 := conv_any (HI23.out.below hB4)
    have HS1 := hide (sum_any a len cap l w4 (by omega) (HX.out.below hO4))
    have HS2 := hide (refSum_any a len cap l w4 (by omega) (HX.out.below hO4))
    clear hB4 hO4 HBA HO3
    go_wp2_with (first
      | (go_at_call 31; refine HS1.out.mono ?_; rintro e w5 ⟨rfl, hw5⟩; subst w5)
      | (go_at_call 32; refine HS2.out.mono ?_; rintro e w6 ⟨rfl, hw6⟩; subst w6))
    go_ret
    exact ⟨rfl, HO4.out⟩

theorem encodes_any (F : FR) (a : Option Addr) (len cap : Nat) (l : List Nat) (w : World) (_ : len ≤ maxLen) (hb : IsB w a len cap l) (hg : HasErrT w) :
    Calls Tryd.prog 5 #[.agg (fCells F), .slice a len cap] w fun e w' => e = .returned (.bool true) ∧ Below w.heap.size w w' := by
  by_cases hl : 300 < len
  · exact encodes_many F a len cap w hl
  · exact encodes_few F a len cap l w (by omega) hb hg
end Go.Proofs.YtiipmdmbmepgjaaDoor
