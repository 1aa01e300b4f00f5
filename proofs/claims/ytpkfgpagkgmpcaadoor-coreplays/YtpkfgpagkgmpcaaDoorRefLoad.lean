/- The contract of the reference's Load. -/
import Derived.Test.YtpkfgpagkgmpcaaDoorRefLoadInv
import Derived.Test.YtpkfgpagkgmpcaaDoorRefCheck
import Derived.Deep.QuietTactic
import Derived.BigQuiet
namespace Go.Proofs.YtpkfgpagkgmpcaaDoor
open Go.RowKit Go.Deep

/-- A place beyond the routes says nothing. -/
theorem RefIs.beyond {w : World} {pr : Nat} {s d : Int} {n b off cp gr cr : Nat} {bm : Nat → Nat} {S : St} (h : RefIs w pr s d n b off cp gr cr bm S) {i : Nat} (hi : n ≤ i) {U : Nat} {t : Int} : RefIs w pr s d n b off cp gr cr bm ⟨S.set, upd S.used i U, upd S.idle i t⟩ := by
  obtain ⟨cs, h0, h1⟩ := h.row
  refine ⟨h.blk, ⟨cs, h0, fun j hj => ?_⟩, h.cap, fun j hj => ?_, h.inj⟩
  · obtain ⟨e1, e2, e3⟩ := h1 j hj
    exact ⟨e1, e2, by rw [e3]; show _ = some (Value.int .i64 (upd S.idle i t j)); rw [upd_other _ _ (by omega)]⟩
  · show IsSet w (bm j) (upd S.used i U j)
    rw [upd_other _ _ (by omega)]
    exact h.maps j hj
/-- A route of which nothing is known is laid anew. -/
theorem KInv.fresh {w wr : World} {N : Nat} {G : GS} {pr sn d n b off cp gr cr : Nat} {bm0 bm : Nat → Nat} {zs : List Int} {X : St} (h : KInv w wr N G pr sn d n b off cp gr cr bm0 bm zs X) (hN : N = w.heap.size) (hf : Far N gr n b bm0) {i : Nat} (hi : i < n) (hb0 : X.set.testBit i = false) :
    KInv w ((((wr.setCell ⟨gr, i * 3, none⟩ (.bool false)).setCell ⟨gr, i * 3 + 1, none⟩ (.map (some wr.heap.size))).setCell ⟨gr, i * 3 + 2, none⟩ (.int .i64 0)).alloc (.map #[] 0)) N G pr sn d n b off cp gr cr bm0 (upd bm i wr.heap.size) zs ⟨X.set, upd X.used i 0, upd X.idle i 0⟩ := by
  have hg := h.ref.glt
  have hs := h.tn.size
  have h1 := h.below hN hf (show Below wr.heap.size wr (wr.alloc (.map #[] 0)) from (Below.refl _ _).alloc (Nat.le_refl _) _)
  have := h1.load hf hi hb0 wr.heap.size 0 0 false (IsSet.made wr) (by omega) (fun j hj e => by have := (h.ref.maps j hj).lt; omega)
  rw [World.setCell_alloc_past _ _ _ _ hg, World.setCell_alloc_past _ _ _ _ (by simpa [World.setCell] using hg), World.setCell_alloc_past _ _ _ _ (by simpa [World.setCell] using hg)] at this
  exact this

theorem RefIs.congr {w : World} {pr : Nat} {s d : Int} {n b off cp gr cr : Nat} {bm : Nat → Nat} {S S' : St} (h : RefIs w pr s d n b off cp gr cr bm S) (hs : ∀ j, j < n → S'.set.testBit j = S.set.testBit j ∧ S'.used j = S.used j ∧ S'.idle j = S.idle j) : RefIs w pr s d n b off cp gr cr bm S' := by
  obtain ⟨cs, h0, h1⟩ := h.row
  refine ⟨h.blk, ⟨cs, h0, fun j hj => ?_⟩, h.cap, fun j hj => by rw [(hs j hj).2.1]; exact h.maps j hj, h.inj⟩
  rw [(hs j hj).1, (hs j hj).2.2]
  exact h1 j hj

/-- Numbers that an int can be. -/
structure GIn (G : GS) : Prop where
  set : -9223372036854775808 ≤ G.set ∧ G.set < 9223372036854775808
  used : ∀ k, -9223372036854775808 ≤ G.used k ∧ G.used k < 9223372036854775808
  idle : ∀ k, -9223372036854775808 ≤ G.idle k ∧ G.idle k < 9223372036854775808

set_option maxHeartbeats 8000000 in
set_option maxRecDepth 30000 in
theorem load_any (pr sn d n b off cp gr cr : Nat) (bm0 : Nat → Nat) (zs : List Int) (G : GS) (w : World) (h : RefIs w pr (sn : Int) (d : Int) n b off cp gr cr bm0 st0) (hrow : Row w b off zs) (hf : Far w.heap.size gr n b bm0) (hn : zs.length = n) (hcp : n ≤ cp) (hok : checkF (sn : Int) zs (d : Int) = (0, -1)) (hg : GIn G) :
    Calls Tryd.prog 17 #[.pointer (some ⟨pr, 0, none⟩), .agg (gCells G)] w fun e w' =>
      e = .returned (.bool (rightB zs d G)) ∧ Turns w w' gr n bm0 ∧ (rightB zs d G = true → ∃ bm, RefIs w' pr (sn : Int) (d : Int) n b off cp gr cr bm (gSt G) ∧ ∀ i, i < n → (∃ j, j < n ∧ bm i = bm0 j) ∨ w.heap.size ≤ bm i) := by
  have hr0 := range_pos hok
  unfold rangeB at hr0
  simp only [Bool.and_eq_true, inB_iff] at hr0
  obtain ⟨⟨⟨bs1, bs2⟩, b21, b22⟩, bd1, bd2⟩ := hr0
  have hn8 : n ≤ 8 := by omega
  have hn1 : 1 ≤ n := by omega
  have hsn : sn ≤ 12 := by omega
  clear b21 b22 bs1 bs2 bd1
  have hBl : Below w.heap.size w (w.alloc (.cells (gCells G) 49)) := (Below.refl _ _).alloc (Nat.le_refl _) _
  have hI0 : KInv w (w.alloc (.cells (gCells G) 49)) w.heap.size G pr sn d n b off cp gr cr bm0 bm0 zs (part (gSt G) 0) := by
    refine ⟨(Turns.refl _ _ _ _).below hBl, ?_, fun i hi => .inl ⟨i, hi, rfl⟩, blk_new _ _, hrow.below hf.bN hBl⟩
    have e : part (gSt G) 0 = st0 := by unfold part st0; simp [Nat.mod_one]
    rw [e]
    exact h.below hBl
  have c0 : (gCells G)[0]? = some (.int .i64 G.set) := rfl
  have p1 : w.cell? ⟨pr, 1, none⟩ = some (.slice (some ⟨b, off, none⟩) n cp) := (blk_cell h.blk 1).trans rfl
  have hpl := h.plt
  obtain ⟨z, hz⟩ : ∃ z, Hid (G.set = z) := ⟨_, hide rfl⟩
  rw [hz.out] at c0
  have hrb : rightB zs d G = ((decide (0 ≤ z) && decide (z < ((2 ^ n : Nat) : Int))) && allTo (rightAt zs d G) 8) := by unfold rightB; rw [hz.out, hn]
  have HRB := hide hrb
  obtain ⟨P, hP⟩ : ∃ P : Nat, Hid (2 ^ n = P) := ⟨_, hide rfl⟩
  have eP : wrap64 (2 ^ n) = (P : Int) := by rw [wrap_two_pow n (by omega), hP.out]
  have HI0 := hide hI0
  have HF := hide hf
  have HOK := hide hok
  have HGI := hide hg
  clear hI0 h hrow hf hok hg hrb hBl
  by_cases hneg : z < 0
  · have hn1 : decide (z < 0) = true := by simpa using hneg
    have hfa : rightB zs d G = false := by rw [HRB.out, decide_eq_false (by omega)]; rfl
    have HFA := hide hfa
    clear hfa
    go_enter Tryd.func17, Tryd.ntmps17
    go_wp2_with fail
    go_quiet (fail)
    go_wp2
    go_ret
    exact ⟨ret_bool HFA.out.symm, HI0.out.tn.drewN _, fun e => by rw [HFA.out] at e; exact absurd e (by decide)⟩
  have hn1 : decide (z < 0) = false := by simpa using hneg
  by_cases hbig : (P : Int) ≤ z
  · have hn2 : decide ((P : Int) ≤ z) = true := by simpa using hbig
    have hfa : rightB zs d G = false := by rw [HRB.out, hP.out, decide_eq_false (show ¬ z < (P : Int) by omega)]; simp
    have HFA := hide hfa
    clear hfa
    go_enter Tryd.func17, Tryd.ntmps17
    go_wp2_with fail
    go_quiet (fail)
    go_wp2
    go_ret
    exact ⟨ret_bool HFA.out.symm, HI0.out.tn.drewN _, fun e => by rw [HFA.out] at e; exact absurd e (by decide)⟩
  have hn2 : decide ((P : Int) ≤ z) = false := by simpa using hbig
  obtain ⟨m, rfl⟩ := Int.eq_ofNat_of_zero_le (show 0 ≤ z by omega)
  have hmP : m < 2 ^ n := by rw [hP.out]; omega
  have hm8 : m < 256 := Nat.lt_of_lt_of_le hmP (Nat.pow_le_pow_right (n := 2) (by decide) hn8)
  have hrb2 : rightB zs d G = allTo (rightAt zs d G) 8 := by rw [HRB.out, hP.out, decide_eq_true (show 0 ≤ (m : Int) by omega), decide_eq_true (show (m : Int) < (P : Int) by omega)]; rfl
  have HR2 := hide hrb2
  have hn3 : decide (P ≤ m) = false := by simp; omega
  have hgm : (gSt G).set = m := by show G.set.toNat = m; rw [hz.out]; rfl
  have HGM := hide hgm
  clear hrb2 HRB hP hgm
  go_enter Tryd.func17, Tryd.ntmps17
  go_wp2_with fail
  go_quiet (fail)
  go_wp2
  clear c0 p1 eP hneg hbig hn1 hn2 hn3
  go_loopw [26] (fun i wr => ∃ k : Nat, k ≤ 8 ∧ i = .int .i64 k ∧ (∃ bm, KInv w wr w.heap.size G pr sn d n b off cp gr cr bm0 bm zs (part (gSt G) k)) ∧ Hid (allTo (rightAt zs d G) k = true)) (fun i _ => 8 - (intOf i).toNat)
  case atStart => exact ⟨0, Nat.zero_le _, rfl, ⟨_, HI0.out.drewN _⟩, rfl⟩
  case round =>
    clear HI0
    obtain ⟨i, hi, rfl, ⟨bm, hI⟩, HA⟩ := hrel
    by_cases hlt : i < 8
    · have c0 := hI.st.set
      rw [hz.out] at c0
      have cu := hI.st.used hlt
      have ci := hI.st.idle hlt
      have hra : rightAt zs d G i = if m.testBit i then rsB (rt zs i) (conf zs i) d G i else (G.used i == 0 && G.idle i == 0) := by unfold rightAt; rw [hz.out, u64_nat m (by omega)]
      have hhas := fun wx => has_nat m i wx (by omega) (by omega)
      have hbn : n ≤ i → m.testBit i = false := fun hge => Nat.testBit_lt_two_pow (Nat.lt_of_lt_of_le hmP (Nat.pow_le_pow_right (by decide) hge))
      have p3 : wr.cell? ⟨pr, 3, none⟩ = some (.slice (some ⟨gr, 0, none⟩) n cr) := (blk_cell hI.ref.blk 3).trans rfl
      cases hb : m.testBit i
      · rw [hb, if_neg (by decide)] at hra
        rw [hb] at hhas
        have HH := hide hhas
        have HRA := hide hra
        clear hhas hra hbn
        obtain ⟨u, hu⟩ : ∃ u, Hid (G.used i = u) := ⟨_, hide rfl⟩
        obtain ⟨t, ht⟩ : ∃ t, Hid (G.idle i = t) := ⟨_, hide rfl⟩
        rw [hu.out] at cu HRA
        rw [ht.out] at ci HRA
        by_cases hni : n ≤ i
        · have hi3 : decide ((n : Int) ≤ (i : Int)) = true := by simp; omega
          have hi4 : decide (n ≤ i) = true := by simp; omega
          cases hu0 : (u == 0)
          · have hu1 : (u != 0) = true := by rw [bne, hu0]; rfl
            go_wp2_with (go_at_call 35; refine (unhide HH _).mono ?_; rintro e w' ⟨rfl, hw⟩; obtain rfl := hw.symm)
            go_ret
            exact ⟨ret_bool (by rw [HR2.out, allTo_at (i := i) (by rw [HRA.out, hu0]; rfl) hlt]), hI.tn, fun e => by rw [HR2.out, allTo_at (i := i) (by rw [HRA.out, hu0]; rfl) hlt] at e; exact absurd e (by decide)⟩
          · have hu1 : (u != 0) = false := by rw [bne, hu0]; rfl
            cases ht0 : (t == 0)
            · have ht1 : (t != 0) = true := by rw [bne, ht0]; rfl
              go_wp2_with (go_at_call 35; refine (unhide HH _).mono ?_; rintro e w' ⟨rfl, hw⟩; obtain rfl := hw.symm)
              go_ret
              exact ⟨ret_bool (by rw [HR2.out, allTo_at (i := i) (by rw [HRA.out, hu0, ht0]; rfl) hlt]), hI.tn, fun e => by rw [HR2.out, allTo_at (i := i) (by rw [HRA.out, hu0, ht0]; rfl) hlt] at e; exact absurd e (by decide)⟩
            · have ht1 : (t != 0) = false := by rw [bne, ht0]; rfl
              have hps := part_step (gSt G) i 0 0 (by show (G.used i).toNat = 0; rw [hu.out, beq_iff_eq.1 hu0]; rfl) (by show G.idle i = 0; rw [ht.out, beq_iff_eq.1 ht0])
              rw [HGM.out, hb, if_neg (by decide)] at hps
              have HPS := hide hps
              clear hps
              have hi5 : decide ((i : Int) < (n : Int)) = false := by simp; omega
              have hi6 : decide (i < n) = false := by simp; omega
              go_wp2_with (go_at_call 35; refine (unhide HH _).mono ?_; rintro e w' ⟨rfl, hw⟩; obtain rfl := hw.symm)
              go_roundw
              case rel => exact ⟨i + 1, by omega, by go_num, ⟨bm, by rw [HPS.out]; exact hI.move hI.tn (hI.ref.beyond (by omega)) hI.own (fun _ _ => rfl)⟩, by rw [Hid, allTo, HA.out, HRA.out, hu0, ht0]; rfl⟩
              case measure => simp [intOf]; omega
        · have hi3 : decide ((n : Int) ≤ (i : Int)) = false := by simp; omega
          have hi4 : decide (n ≤ i) = false := by simp; omega
          cases hu0 : (u == 0)
          · have hu1 : (u != 0) = true := by rw [bne, hu0]; rfl
            go_wp2_with (go_at_call 35; refine (unhide HH _).mono ?_; rintro e w' ⟨rfl, hw⟩; obtain rfl := hw.symm)
            go_ret
            exact ⟨ret_bool (by rw [HR2.out, allTo_at (i := i) (by rw [HRA.out, hu0]; rfl) hlt]), hI.tn, fun e => by rw [HR2.out, allTo_at (i := i) (by rw [HRA.out, hu0]; rfl) hlt] at e; exact absurd e (by decide)⟩
          · have hu1 : (u != 0) = false := by rw [bne, hu0]; rfl
            cases ht0 : (t == 0)
            · have ht1 : (t != 0) = true := by rw [bne, ht0]; rfl
              go_wp2_with (go_at_call 35; refine (unhide HH _).mono ?_; rintro e w' ⟨rfl, hw⟩; obtain rfl := hw.symm)
              go_ret
              exact ⟨ret_bool (by rw [HR2.out, allTo_at (i := i) (by rw [HRA.out, hu0, ht0]; rfl) hlt]), hI.tn, fun e => by rw [HR2.out, allTo_at (i := i) (by rw [HRA.out, hu0, ht0]; rfl) hlt] at e; exact absurd e (by decide)⟩
            · have ht1 : (t != 0) = false := by rw [bne, ht0]; rfl
              have hps := part_step (gSt G) i 0 0 (by show (G.used i).toNat = 0; rw [hu.out, beq_iff_eq.1 hu0]; rfl) (by show G.idle i = 0; rw [ht.out, beq_iff_eq.1 ht0])
              rw [HGM.out, hb, if_neg (by decide)] at hps
              have HPS := hide hps
              clear hps
              have hi5 : decide ((i : Int) < (n : Int)) = true := by simp; omega
              have hi6 : decide (i < n) = true := by simp; omega
              obtain ⟨q0, q1, q2⟩ := hI.ref.at (show i < n by omega)
              have f0 := hI.ref.free (i * 3)
              have f1 := hI.ref.free (i * 3 + 1)
              have f2 := hI.ref.free (i * 3 + 2)
              have hg5 := hI.ref.glt
              have hmm := @run_makeMap Tryd.prog
              have HI := hide hI
              clear hI
              go_wp2_with (go_at_call 35; refine (unhide HH _).mono ?_; rintro e w' ⟨rfl, hw⟩; obtain rfl := hw.symm)
              go_roundw
              case rel => exact ⟨i + 1, by omega, by go_num, ⟨_, by rw [HPS.out]; exact HI.out.fresh rfl HF.out (by omega) (part_false _ _)⟩, by rw [Hid, allTo, HA.out, HRA.out, hu0, ht0]; rfl⟩
              case measure => simp [intOf]; omega
      · have hin : i < n := by
          refine Nat.lt_of_not_le fun hge => ?_
          rw [hbn hge] at hb
          exact absurd hb (by decide)
        have hrs := rs_same HOK.out (show i < zs.length by omega) hz.out (by rw [hn]; exact hmP) (HGI.out.used i).1 (HGI.out.used i).2
        rw [hb, if_pos rfl, hrs, hn] at hra
        clear hrs hbn
        rw [hb] at hhas
        obtain ⟨u, hu⟩ : ∃ u, Hid (G.used i = u) := ⟨_, hide rfl⟩
        obtain ⟨t, ht⟩ : ∃ t, Hid (G.idle i = t) := ⟨_, hide rfl⟩
        rw [hu.out] at cu hra
        rw [ht.out] at ci hra
        obtain ⟨hz1, hz2, hz3, hz4⟩ := rt_in HOK.out (show i < zs.length by omega)
        rw [Int.toNat_natCast] at hz2
        obtain ⟨r, hr⟩ : ∃ r, Hid (rt zs i = r) := ⟨_, hide rfl⟩
        rw [hr.out] at hz2 hz3 hz4 hra
        have huw := HGI.out.used i
        rw [hu.out] at huw
        obtain ⟨huw1, huw2⟩ := huw
        have hi3 : decide ((n : Int) ≤ (i : Int)) = false := by simp; omega
        have hi4 : decide (n ≤ i) = false := by simp; omega
        have HH := hide hhas
        have HRA := hide hra
        have HI := hide hI
        clear hhas hra hI hz1
        go_wp2_with (go_at_call 35; refine (unhide HH _).mono ?_; rintro e w' ⟨rfl, hw⟩; obtain rfl := hw.symm)
        clear c0 cu ci p3 HH
        go_loopw [63] (fun j wi => ∃ k : Nat, k ≤ n ∧ j = .int .i64 k ∧ Hid (hitTo zs m i k = false) ∧ KInv w wi w.heap.size G pr sn d n b off cp gr cr bm0 bm zs (part (gSt G) i)) (fun j _ => n - (intOf j).toNat)
        case atStart => exact ⟨0, Nat.zero_le _, rfl, rfl, HI.out⟩
        case round =>
          clear HI
          obtain ⟨k, hk, rfl, Hh, hI⟩ := hrel
          have p3 : wr.cell? ⟨pr, 3, none⟩ = some (.slice (some ⟨gr, 0, none⟩) n cr) := (blk_cell hI.ref.blk 3).trans rfl
          have p0 : wr.cell? ⟨pr, 0, none⟩ = some (.int .i64 (sn : Int)) := (blk_cell hI.ref.blk 0).trans rfl
          have p1 : wr.cell? ⟨pr, 1, none⟩ = some (.slice (some ⟨b, off, none⟩) n cp) := (blk_cell hI.ref.blk 1).trans rfl
          have p2 : wr.cell? ⟨pr, 2, none⟩ = some (.int .i64 (d : Int)) := (blk_cell hI.ref.blk 2).trans rfl
          have c0 := hI.st.set
          rw [hz.out] at c0
          have cu := hI.st.used hlt
          have ci := hI.st.idle hlt
          rw [hu.out] at cu
          rw [ht.out] at ci
          by_cases hlk : k < n
          · have hhk := fun wx => has_nat m k wx (by omega) (by omega)
            have hme := meet_core (cp := cp) HOK.out hn hin hlk (Nat.lt_of_lt_of_le (by have := HF.out.bN; omega) hI.tn.size) hI.row
            have HME := hide hme
            clear hme
            cases hqk : (k != i)
            · have hqk' : ((k : Int) != (i : Int)) = false := by rw [bne, nat_beq2]; exact hqk
              have HK := hide hhk
              clear hhk
              go_wp2_with (first | (go_at_call 35; refine (unhide HK _).mono ?_; rintro e w' ⟨rfl, hw⟩; obtain rfl := hw.symm))
              go_roundw
              case rel => exact ⟨k + 1, by omega, by go_num, by rw [Hid, hitTo, Hh.out, hqk, Bool.false_and, Bool.and_false]; rfl, hI⟩
              case measure => simp [intOf]; omega
            · have hqk' : ((k : Int) != (i : Int)) = true := by rw [bne, nat_beq2]; exact hqk
              cases hmq : m.testBit k
              · rw [hmq] at hhk
                have HK := hide hhk
                clear hhk
                go_wp2_with (first | (go_at_call 35; refine (unhide HK _).mono ?_; rintro e w' ⟨rfl, hw⟩; obtain rfl := hw.symm))
                go_roundw
                case rel => exact ⟨k + 1, by omega, by go_num, by rw [Hid, hitTo, Hh.out, hmq]; rfl, hI⟩
                case measure => simp [intOf]; omega
              · rw [hmq] at hhk
                have HK := hide hhk
                clear hhk
                cases hcm : (rt zs i &&& rt zs k != 0)
                · rw [hcm] at HME
                  go_wp2_with (first | (go_at_call 35; refine (unhide HK _).mono ?_; rintro e w' ⟨rfl, hw⟩; obtain rfl := hw.symm) | (go_at_call 33; refine HME.out.mono ?_; rintro e w6 ⟨rfl, hB6⟩))
                  go_roundw
                  case rel => exact ⟨k + 1, by omega, by go_num, by rw [Hid, hitTo, Hh.out, hmq, hqk, hcm]; rfl, hI.below rfl HF.out hB6⟩
                  case measure => simp [intOf]; omega
                · rw [hcm] at HME
                  go_wp2_with (first | (go_at_call 35; refine (unhide HK _).mono ?_; rintro e w' ⟨rfl, hw⟩; obtain rfl := hw.symm) | (go_at_call 33; refine HME.out.mono ?_; rintro e w6 ⟨rfl, hB6⟩))
                  have hhit : hitTo zs m i n = true := (hit_iff _ _ _ _).2 ⟨k, hlk, hmq, by simpa using hqk, by simpa using hcm⟩
                  go_ret
                  exact ⟨ret_bool (by rw [HR2.out, allTo_at (i := i) (by rw [HRA.out, hhit]; rfl) hlt]), (hI.below rfl HF.out hB6).tn, fun e => by rw [HR2.out, allTo_at (i := i) (by rw [HRA.out, hhit]; rfl) hlt] at e; exact absurd e (by decide)⟩
          · have hkn : k = n := by omega
            subst hkn
            rw [Hh.out] at HRA
            obtain ⟨Ps, hPs⟩ : ∃ P : Nat, Hid (2 ^ sn = P) := ⟨_, hide rfl⟩
            have eP : wrap64 (2 ^ sn) = (Ps : Int) := by rw [wrap_two_pow sn (by omega), hPs.out]
            rw [hPs.out] at HRA
            cases hT1 : decide (u < 0)
            · cases hT2 : decide ((Ps : Int) ≤ u)
              · cases hT3 : inB t 0 1000
                · have HI := hide hI
                  clear hI
                  go_wp2_with fail
                  go_quiet ((go_at_call 23; exact Calls.quiet_of_same (in_any _ _ _ _)))
                  go_wp2
                  go_ret
                  exact ⟨ret_bool (by rw [HR2.out, allTo_at (i := i) (by rw [HRA.out, hT3]; simp) hlt]), HI.out.tn.drewN _, fun e => by rw [HR2.out, allTo_at (i := i) (by rw [HRA.out, hT3]; simp) hlt] at e; exact absurd e (by decide)⟩
                · cases hT4 : (u == 0)
                  · obtain ⟨U, hU⟩ : ∃ U, Hid (u.toNat = U) := ⟨_, hide rfl⟩
                    have hu0 : 0 ≤ u := by simpa using hT1
                    have huP : u < (Ps : Int) := by simpa using hT2
                    have hUs : U < 2 ^ sn := by rw [hPs.out, ← hU.out]; omega
                    have hu64 : Go.Proofs.YtpkfgpagkgmpcaaDoor.u64 u = U := by rw [← hU.out]; unfold Go.Proofs.YtpkfgpagkgmpcaaDoor.u64; omega
                    have hrv : rightAt zs d G i = subTo U r sn := by rw [HRA.out, hU.out, decide_eq_true hu0, decide_eq_true huP, hT3, hT4]; cases subTo U r sn <;> rfl
                    have HRV := hide hrv
                    have HU64 := hide hu64
                    have hmm := @run_makeMap Tryd.prog
                    have HI := hide hI
                    clear hrv hu64 hu0 huP hI HRA
                    go_wp2_with fail
                    go_quiet ((go_at_call 23; exact Calls.quiet_of_same (in_any _ _ _ _)))
                    have hI2 := HI.out.drewN nq
                    clear HI p0 p1 p2 p3 c0 cu ci
                    generalize wr.drewN nq = w4 at hI2 ⊢
                    have p0 : w4.cell? ⟨pr, 0, none⟩ = some (.int .i64 (sn : Int)) := (blk_cell hI2.ref.blk 0).trans rfl
                    have hprl := hI2.ref.plt
                    have hI3 := hI2.below rfl HF.out (show Below w4.heap.size w4 (w4.alloc (.map #[] 0)) from (Below.refl _ _).alloc (Nat.le_refl _) _)
                    have hbu := IsSet.made w4
                    have hbl : ∀ j, j < k → bm j ≠ w4.heap.size := fun j hj e => by have := (hI2.ref.maps j hj).lt; omega
                    have hNb : w.heap.size ≤ w4.heap.size := hI2.tn.size
                    have HI3 := hide hI3
                    have HBU := hide hbu
                    clear hI2 hI3 hbu
                    go_wp2
                    rw [hT3]
                    clear p0 hmm eP hT3
                    generalize w4.heap.size = bu at *
                    go_loopw [136] (fun j wi => ∃ q : Nat, q ≤ sn ∧ j = .int .i64 q ∧ Hid (subTo U r q = true) ∧ KInv w wi w.heap.size G pr sn d k b off cp gr cr bm0 bm zs (part (gSt G) i) ∧ IsSet wi bu (U % 2 ^ q)) (fun j _ => sn - (intOf j).toNat)
                    case atStart => exact ⟨0, Nat.zero_le _, rfl, rfl, HI3.out, by rw [show U % 2 ^ 0 = 0 by simp [Nat.mod_one]]; exact HBU.out⟩
                    case round =>
                      clear HI3 HBU
                      obtain ⟨q, hq, rfl, Hs, hI, hbu⟩ := hrel
                      have p3 : wr.cell? ⟨pr, 3, none⟩ = some (.slice (some ⟨gr, 0, none⟩) k cr) := (blk_cell hI.ref.blk 3).trans rfl
                      have p0 : wr.cell? ⟨pr, 0, none⟩ = some (.int .i64 (sn : Int)) := (blk_cell hI.ref.blk 0).trans rfl
                      have p1 : wr.cell? ⟨pr, 1, none⟩ = some (.slice (some ⟨b, off, none⟩) k cp) := (blk_cell hI.ref.blk 1).trans rfl
                      have p2 : wr.cell? ⟨pr, 2, none⟩ = some (.int .i64 (d : Int)) := (blk_cell hI.ref.blk 2).trans rfl
                      have c0 := hI.st.set
                      rw [hz.out] at c0
                      have cu := hI.st.used hlt
                      have ci := hI.st.idle hlt
                      rw [hu.out] at cu
                      rw [ht.out] at ci
                      by_cases hlq : q < sn
                      · have hhu := fun wx => has_any u q wx huw1 huw2 (by omega)
                        rw [HU64.out] at hhu
                        have hhr := fun wx => has_nat r q wx (by omega) (by omega)
                        have hst : subTo U r (q + 1) = (subTo U r q && (!U.testBit q || r.testBit q)) := rfl
                        have hms := mod_step U q
                        have rc : wr.cell? ⟨b, off + i, none⟩ = some (.int .i64 (r : Int)) := by
                          have := hI.row i (by omega)
                          rw [(rt_in HOK.out (show i < zs.length by omega)).1, hr.out] at this
                          exact this
                        cases hub : U.testBit q
                        · rw [hub] at hhu hst
                          rw [hub, if_neg (by decide)] at hms
                          have H2 := hide hhu
                          have ST := hide hst
                          have MS := hide hms
                          have HBU2 := hide hbu
                          clear hhu hst hms hhr hbu
                          go_wp2_with (go_at_call 35; refine (unhide H2 _).mono ?_; rintro e w' ⟨rfl, hw⟩; obtain rfl := hw.symm)
                          go_roundw
                          case rel => exact ⟨q + 1, by omega, by go_num, by rw [Hid, ST.out, Hs.out]; rfl, hI, by rw [MS.out]; exact HBU2.out⟩
                          case measure => simp [intOf]; omega
                        · rw [hub] at hhu hst
                          rw [hub, if_pos rfl] at hms
                          have H2 := hide hhu
                          have MS := hide hms
                          have HBU2 := hide hbu
                          clear hhu hms hbu
                          cases hrb : r.testBit q
                          · have hsf : subTo U r sn = false := allTo_at (i := q) (by rw [hub, hrb]; rfl) hlq
                            rw [hrb] at hhr
                            have H1 := hide hhr
                            clear hhr hst
                            go_wp2_with (first | (go_at_call_of 35 (Value.int IntKind.i64 (r : Int)); refine (unhide H1 _).mono ?_; rintro e w' ⟨rfl, hw⟩; obtain rfl := hw.symm) | (go_at_call 35; refine (unhide H2 _).mono ?_; rintro e w' ⟨rfl, hw⟩; obtain rfl := hw.symm))
                            go_ret
                            exact ⟨ret_bool (by rw [HR2.out, allTo_at (i := i) (by rw [HRV.out, hsf]) hlt]), hI.tn, fun e => by rw [HR2.out, allTo_at (i := i) (by rw [HRV.out, hsf]) hlt] at e; exact absurd e (by decide)⟩
                          · rw [hrb] at hhr hst
                            have H1 := hide hhr
                            have ST := hide hst
                            clear hhr hst
                            go_wp2_with (first | (go_at_call_of 35 (Value.int IntKind.i64 (r : Int)); refine (unhide H1 _).mono ?_; rintro e w' ⟨rfl, hw⟩; obtain rfl := hw.symm) | (go_at_call 35; refine (unhide H2 _).mono ?_; rintro e w' ⟨rfl, hw⟩; obtain rfl := hw.symm) | (at_mapUpdate; refine wpList_put_set rfl _ _ _ rfl bu (U % 2 ^ q) q (by omega) rfl rfl rfl HBU2.out ?_; intro w5 hs5 hg5))
                            go_roundw
                            case rel => exact ⟨q + 1, by omega, by go_num, by rw [Hid, ST.out, Hs.out]; rfl, hI.other HF.out rfl HBU2.out hNb hbl hg5, by rw [MS.out]; exact hs5⟩
                            case measure => simp [intOf]; omega
                      · have hqs : q = sn := by omega
                        subst hqs
                        have hra2 : rightAt zs d G i = true := by rw [HRV.out, Hs.out]
                        rw [Nat.mod_eq_of_lt hUs] at hbu
                        obtain ⟨q0, q1, q2⟩ := hI.ref.at hin
                        have f0 := hI.ref.free (i * 3)
                        have f1 := hI.ref.free (i * 3 + 1)
                        have f2 := hI.ref.free (i * 3 + 2)
                        have hps := part_step (gSt G) i U t (by show (G.used i).toNat = U; rw [hu.out]; exact hU.out) (by show G.idle i = t; exact ht.out)
                        rw [HGM.out, hb, if_pos rfl] at hps
                        have HPS := hide hps
                        have HRA2 := hide hra2
                        have HI := hide hI
                        have HBU2 := hide hbu
                        clear hps hra2 hI hbu
                        go_wp2_with fail
                        go_region
                        all_goals go_wp2
                        all_goals go_roundw
                        all_goals first
                          | (exact ⟨i + 1, by omega, by go_num, ⟨_, by rw [HPS.out]; exact (HI.out.load HF.out hin (part_false _ _) bu U t true HBU2.out hNb hbl).drewN 1⟩, by rw [Hid, allTo, HA.out, HRA2.out]; rfl⟩)
                          | (simp [intOf]; omega)
                  · cases hT5 : decide ((d : Int) < t)
                    · obtain ⟨U, hU⟩ : ∃ U, Hid (u.toNat = U) := ⟨_, hide rfl⟩
                      have hu0 : 0 ≤ u := by simpa using hT1
                      have huP : u < (Ps : Int) := by simpa using hT2
                      have hUs : U < 2 ^ sn := by rw [hPs.out, ← hU.out]; omega
                      have hu64 : Go.Proofs.YtpkfgpagkgmpcaaDoor.u64 u = U := by rw [← hU.out]; unfold Go.Proofs.YtpkfgpagkgmpcaaDoor.u64; omega
                      have hrv : rightAt zs d G i = subTo U r sn := by rw [HRA.out, hU.out, decide_eq_true hu0, decide_eq_true huP, hT3, hT4, hT5]; cases subTo U r sn <;> rfl
                      have HRV := hide hrv
                      have HU64 := hide hu64
                      have hmm := @run_makeMap Tryd.prog
                      have HI := hide hI
                      clear hrv hu64 hu0 huP hI HRA
                      go_wp2_with fail
                      go_quiet ((go_at_call 23; exact Calls.quiet_of_same (in_any _ _ _ _)))
                      have hI2 := HI.out.drewN nq
                      clear HI p0 p1 p2 p3 c0 cu ci
                      generalize wr.drewN nq = w4 at hI2 ⊢
                      have p0 : w4.cell? ⟨pr, 0, none⟩ = some (.int .i64 (sn : Int)) := (blk_cell hI2.ref.blk 0).trans rfl
                      have hprl := hI2.ref.plt
                      have hI3 := hI2.below rfl HF.out (show Below w4.heap.size w4 (w4.alloc (.map #[] 0)) from (Below.refl _ _).alloc (Nat.le_refl _) _)
                      have hbu := IsSet.made w4
                      have hbl : ∀ j, j < k → bm j ≠ w4.heap.size := fun j hj e => by have := (hI2.ref.maps j hj).lt; omega
                      have hNb : w.heap.size ≤ w4.heap.size := hI2.tn.size
                      have HI3 := hide hI3
                      have HBU := hide hbu
                      clear hI2 hI3 hbu
                      go_wp2
                      rw [hT3]
                      clear p0 hmm eP hT3
                      generalize w4.heap.size = bu at *
                      go_loopw [136] (fun j wi => ∃ q : Nat, q ≤ sn ∧ j = .int .i64 q ∧ Hid (subTo U r q = true) ∧ KInv w wi w.heap.size G pr sn d k b off cp gr cr bm0 bm zs (part (gSt G) i) ∧ IsSet wi bu (U % 2 ^ q)) (fun j _ => sn - (intOf j).toNat)
                      case atStart => exact ⟨0, Nat.zero_le _, rfl, rfl, HI3.out, by rw [show U % 2 ^ 0 = 0 by simp [Nat.mod_one]]; exact HBU.out⟩
                      case round =>
                        clear HI3 HBU
                        obtain ⟨q, hq, rfl, Hs, hI, hbu⟩ := hrel
                        have p3 : wr.cell? ⟨pr, 3, none⟩ = some (.slice (some ⟨gr, 0, none⟩) k cr) := (blk_cell hI.ref.blk 3).trans rfl
                        have p0 : wr.cell? ⟨pr, 0, none⟩ = some (.int .i64 (sn : Int)) := (blk_cell hI.ref.blk 0).trans rfl
                        have p1 : wr.cell? ⟨pr, 1, none⟩ = some (.slice (some ⟨b, off, none⟩) k cp) := (blk_cell hI.ref.blk 1).trans rfl
                        have p2 : wr.cell? ⟨pr, 2, none⟩ = some (.int .i64 (d : Int)) := (blk_cell hI.ref.blk 2).trans rfl
                        have c0 := hI.st.set
                        rw [hz.out] at c0
                        have cu := hI.st.used hlt
                        have ci := hI.st.idle hlt
                        rw [hu.out] at cu
                        rw [ht.out] at ci
                        by_cases hlq : q < sn
                        · have hhu := fun wx => has_any u q wx huw1 huw2 (by omega)
                          rw [HU64.out] at hhu
                          have hhr := fun wx => has_nat r q wx (by omega) (by omega)
                          have hst : subTo U r (q + 1) = (subTo U r q && (!U.testBit q || r.testBit q)) := rfl
                          have hms := mod_step U q
                          have rc : wr.cell? ⟨b, off + i, none⟩ = some (.int .i64 (r : Int)) := by
                            have := hI.row i (by omega)
                            rw [(rt_in HOK.out (show i < zs.length by omega)).1, hr.out] at this
                            exact this
                          cases hub : U.testBit q
                          · rw [hub] at hhu hst
                            rw [hub, if_neg (by decide)] at hms
                            have H2 := hide hhu
                            have ST := hide hst
                            have MS := hide hms
                            have HBU2 := hide hbu
                            clear hhu hst hms hhr hbu
                            go_wp2_with (go_at_call 35; refine (unhide H2 _).mono ?_; rintro e w' ⟨rfl, hw⟩; obtain rfl := hw.symm)
                            go_roundw
                            case rel => exact ⟨q + 1, by omega, by go_num, by rw [Hid, ST.out, Hs.out]; rfl, hI, by rw [MS.out]; exact HBU2.out⟩
                            case measure => simp [intOf]; omega
                          · rw [hub] at hhu hst
                            rw [hub, if_pos rfl] at hms
                            have H2 := hide hhu
                            have MS := hide hms
                            have HBU2 := hide hbu
                            clear hhu hms hbu
                            cases hrb : r.testBit q
                            · have hsf : subTo U r sn = false := allTo_at (i := q) (by rw [hub, hrb]; rfl) hlq
                              rw [hrb] at hhr
                              have H1 := hide hhr
                              clear hhr hst
                              go_wp2_with (first | (go_at_call_of 35 (Value.int IntKind.i64 (r : Int)); refine (unhide H1 _).mono ?_; rintro e w' ⟨rfl, hw⟩; obtain rfl := hw.symm) | (go_at_call 35; refine (unhide H2 _).mono ?_; rintro e w' ⟨rfl, hw⟩; obtain rfl := hw.symm))
                              go_ret
                              exact ⟨ret_bool (by rw [HR2.out, allTo_at (i := i) (by rw [HRV.out, hsf]) hlt]), hI.tn, fun e => by rw [HR2.out, allTo_at (i := i) (by rw [HRV.out, hsf]) hlt] at e; exact absurd e (by decide)⟩
                            · rw [hrb] at hhr hst
                              have H1 := hide hhr
                              have ST := hide hst
                              clear hhr hst
                              go_wp2_with (first | (go_at_call_of 35 (Value.int IntKind.i64 (r : Int)); refine (unhide H1 _).mono ?_; rintro e w' ⟨rfl, hw⟩; obtain rfl := hw.symm) | (go_at_call 35; refine (unhide H2 _).mono ?_; rintro e w' ⟨rfl, hw⟩; obtain rfl := hw.symm) | (at_mapUpdate; refine wpList_put_set rfl _ _ _ rfl bu (U % 2 ^ q) q (by omega) rfl rfl rfl HBU2.out ?_; intro w5 hs5 hg5))
                              go_roundw
                              case rel => exact ⟨q + 1, by omega, by go_num, by rw [Hid, ST.out, Hs.out]; rfl, hI.other HF.out rfl HBU2.out hNb hbl hg5, by rw [MS.out]; exact hs5⟩
                              case measure => simp [intOf]; omega
                        · have hqs : q = sn := by omega
                          subst hqs
                          have hra2 : rightAt zs d G i = true := by rw [HRV.out, Hs.out]
                          rw [Nat.mod_eq_of_lt hUs] at hbu
                          obtain ⟨q0, q1, q2⟩ := hI.ref.at hin
                          have f0 := hI.ref.free (i * 3)
                          have f1 := hI.ref.free (i * 3 + 1)
                          have f2 := hI.ref.free (i * 3 + 2)
                          have hps := part_step (gSt G) i U t (by show (G.used i).toNat = U; rw [hu.out]; exact hU.out) (by show G.idle i = t; exact ht.out)
                          rw [HGM.out, hb, if_pos rfl] at hps
                          have HPS := hide hps
                          have HRA2 := hide hra2
                          have HI := hide hI
                          have HBU2 := hide hbu
                          clear hps hra2 hI hbu
                          go_wp2_with fail
                          go_region
                          all_goals go_wp2
                          all_goals go_roundw
                          all_goals first
                            | (exact ⟨i + 1, by omega, by go_num, ⟨_, by rw [HPS.out]; exact (HI.out.load HF.out hin (part_false _ _) bu U t true HBU2.out hNb hbl).drewN 1⟩, by rw [Hid, allTo, HA.out, HRA2.out]; rfl⟩)
                            | (simp [intOf]; omega)
                    · have HI := hide hI
                      clear hI
                      go_wp2_with fail
                      go_quiet ((go_at_call 23; exact Calls.quiet_of_same (in_any _ _ _ _)))
                      go_wp2
                      go_ret
                      exact ⟨ret_bool (by rw [HR2.out, allTo_at (i := i) (by rw [HRA.out, hT3, hT4, hT5]; simp) hlt]), HI.out.tn.drewN _, fun e => by rw [HR2.out, allTo_at (i := i) (by rw [HRA.out, hT3, hT4, hT5]; simp) hlt] at e; exact absurd e (by decide)⟩
              · have HI := hide hI
                have huge : decide (u < (Ps : Int)) = false := by simp at hT2 ⊢; omega
                clear hI
                go_wp2_with fail
                go_quiet ((go_at_call 23; exact Calls.quiet_of_same (in_any _ _ _ _)))
                go_wp2
                go_ret
                exact ⟨ret_bool (by rw [HR2.out, allTo_at (i := i) (by rw [HRA.out, huge]; simp) hlt]), HI.out.tn.drewN _, fun e => by rw [HR2.out, allTo_at (i := i) (by rw [HRA.out, huge]; simp) hlt] at e; exact absurd e (by decide)⟩
            · have HI := hide hI
              have huge : decide (0 ≤ u) = false := by simp at hT1 ⊢; omega
              clear hI
              go_wp2_with fail
              go_quiet ((go_at_call 23; exact Calls.quiet_of_same (in_any _ _ _ _)))
              go_wp2
              go_ret
              exact ⟨ret_bool (by rw [HR2.out, allTo_at (i := i) (by rw [HRA.out, huge]; simp) hlt]), HI.out.tn.drewN _, fun e => by rw [HR2.out, allTo_at (i := i) (by rw [HRA.out, huge]; simp) hlt] at e; exact absurd e (by decide)⟩
    · have hin : i = 8 := by omega
      subst hin
      go_wp2
      go_ret
      refine ⟨ret_bool (by rw [HR2.out, HA.out]), hI.tn, fun _ => ⟨bm, hI.ref.congr fun j hj => ?_, hI.own⟩⟩
      refine ⟨?_, ?_, ?_⟩
      · show (gSt G).set.testBit j = ((gSt G).set % 2 ^ 8).testBit j
        rw [HGM.out, Nat.mod_eq_of_lt (show m < 2 ^ 8 from hm8)]
      · show (gSt G).used j = if j < 8 then (gSt G).used j else 0
        rw [if_pos (by omega)]
      · show (gSt G).idle j = if j < 8 then (gSt G).idle j else 0
        rw [if_pos (by omega)]

end Go.Proofs.YtpkfgpagkgmpcaaDoor
