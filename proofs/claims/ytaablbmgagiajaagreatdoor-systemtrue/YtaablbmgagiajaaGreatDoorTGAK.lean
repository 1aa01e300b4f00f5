import Derived.Test.YtaablbmgagiajaaGreatDoorTGAI
import Derived.Deep.RegionWith
import Derived.WalkSmall
import Derived.Deep.RegionHeld3
namespace Go.Proofs.YtaablbmgagiajaaGreatDoor
open Go.RowKit Go.Deep
set_option maxHeartbeats 4000000 in
set_option maxRecDepth 20000 in
theorem proceed_any (p : Nat) (s : Int) (d n : Nat) (zs : List Int) (g cg M : Nat) (c v : Nat) (S : St) (w : World) (hK : CoreIs w p s (d : Int) n zs g cg M) (hset : S.set < 256) (hc : c < 4096) (hv : v < 256) :
    Calls Tryz.prog 45 #[.pointer (some ⟨p, 0, none⟩), .agg (stCells S), .agg #[.int .i64 (c : Int), .int .i64 (v : Int)]] w fun e w' =>
      e = .returned (.int .i64 ((showTo (rt zs) c v S n : Nat) : Int)) ∧ Below w.heap.size w w' := by
  obtain ⟨f1, f8, fs1, fs2, fd1, fd2⟩ := hK.few
  have hB : Below w.heap.size w ((w.alloc (.cells (stCells S) 33)).alloc (.cells #[.int .i64 (c : Int), .int .i64 (v : Int)] 30)) := ((Below.refl _ _).alloc (Nat.le_refl _) _).alloc (by simp) _
  have hK1 := hK.below hK.plt hK.glt hK.mlt hB
  have hst : StIs ((w.alloc (.cells (stCells S) 33)).alloc (.cells #[.int .i64 (c : Int), .int .i64 (v : Int)] 30)) w.heap.size S := (Below.heap_alloc _ _ _ (by simp)).trans (blk_new _ _)
  have hbx : ((w.alloc (.cells (stCells S) 33)).alloc (.cells #[.int .i64 (c : Int), .int .i64 (v : Int)] 30)).heap[w.heap.size + 1]? = some (.cells #[.int .i64 (c : Int), .int .i64 (v : Int)] 30 (0, 0)) := by
    have := blk_new (w.alloc (.cells (stCells S) 33)) (.cells #[.int .i64 (c : Int), .int .i64 (v : Int)] 30)
    simpa using this
  have HK := hide hK1
  have HB := hide hB
  have HST := hide hst
  have HBX := hide hbx
  have k1 : w.cell? ⟨p, 1, none⟩ = some (.slice (some ⟨g, 0, none⟩) n cg) := by rw [blk_cell hK.blk]; rfl
  have hpl := hK.plt
  have hgl := hK.glt
  clear hK hK1 hB hst hbx
  go_enter Tryz.func45, Tryz.ntmps45
  go_wp2_with fail
  clear k1
  generalize ((w.alloc (.cells (stCells S) 33)).alloc (.cells #[.int .i64 (c : Int), .int .i64 (v : Int)] 30)) = wz at *
  have x0 : wz.cell? ⟨w.heap.size + 1, 0, none⟩ = some (.int .i64 (c : Int)) := by rw [blk_cell HBX.out]; rfl
  have x1 : wz.cell? ⟨w.heap.size + 1, 1, none⟩ = some (.int .i64 (v : Int)) := by rw [blk_cell HBX.out]; rfl
  have s0 := HST.out.set
  obtain ⟨sv, hsv⟩ : ∃ a, Hid (S.set &&& v = a) := ⟨_, hide rfl⟩
  have e0 : bits BinOp.and IntKind.i64 (S.set : Int) (v : Int) = (sv : Int) := by rw [and_nat _ _ (by omega) (by omega), hsv.out]
  have hsv8 : sv < 256 := by rw [← hsv.out]; exact Nat.lt_of_le_of_lt Nat.and_le_left hset
  go_loop [7, 17] (fun o i => ∃ k : Nat, k ≤ n ∧ i = .int .i64 k ∧ o = .int .i64 ((showTo (rt zs) c v S k : Nat) : Int)) (fun _ i => n - (intOf i).toNat)
  case atStart => exact ⟨0, Nat.zero_le _, rfl, rfl⟩
  case round =>
    obtain ⟨i, hi, rfl, rfl⟩ := hrel
    obtain ⟨m, hm⟩ : ∃ m, Hid (showTo (rt zs) c v S i = m) := ⟨_, hide rfl⟩
    have hm8 : m < 256 := by rw [← hm.out]; exact showTo_lt _ _ _ _ _ 8 (by omega)
    rw [hm.out]
    by_cases hlt : i < n
    · have hi8 : i < 8 := by omega
      obtain ⟨r, hr, ⟨hr4, hr0⟩, hcr⟩ := HK.out.at hlt
      have hhv := fun wx => chas_nat sv i wx (by omega) (by omega)
      have hstep : showTo (rt zs) c v S (i + 1) = if showB r c v i S then m ||| 2 ^ i else m := by rw [← hm.out, ← hr.out]; rfl
      have HSTEP := hide hstep
      clear hstep
      have su := HST.out.used hi8
      obtain ⟨u, hu⟩ : ∃ u, Hid (S.used i = u) := ⟨_, hide rfl⟩
      rw [hu.out] at su
      obtain ⟨bz, hbz⟩ : ∃ bz, Hid (wo r c = bz) := ⟨_, hide rfl⟩
      have e2 : bits BinOp.andNot IntKind.i64 (r : Int) (c : Int) = (bz : Int) := by rw [andnot_nat r c (by omega) (by omega), hbz.out]
      have hfree : showB r c v i S = (sv.testBit i && (u == 0 && bz == 0)) := by unfold showB; rw [hsv.out, hu.out, hbz.out]
      cases hvb : sv.testBit i
      · cases hA : (u == 0)
        · have hfr : showB r c v i S = false := by rw [hfree, hvb, hA]; rfl
          have HFR := hide hfr
          rw [hvb] at hhv
          have HV := hide hhv
          have hA' : ((u : Int) == 0) = false := by rw [nat_beq]; exact hA
          clear hfr hfree hhv hvb hA
          go_wp2_with (go_at_call 70; refine (unhide HV _).mono ?_; rintro e w' ⟨rfl, hw⟩; obtain rfl := hw.symm)
          go_round
          case rel => exact ⟨i + 1, by omega, by go_num, by rw [HSTEP.out, HFR.out]; rfl⟩
          case measure => simp [intOf]; omega
        · cases hB : (bz == 0)
          · have hfr : showB r c v i S = false := by rw [hfree, hvb, hA, hB]; rfl
            have HFR := hide hfr
            rw [hvb] at hhv
            have HV := hide hhv
            have hA' : ((u : Int) == 0) = true := by rw [nat_beq]; exact hA
            have hB' : ((bz : Int) == 0) = false := by rw [nat_beq]; exact hB
            clear hfr hfree hhv hvb hA hB
            go_wp2_with (go_at_call 70; refine (unhide HV _).mono ?_; rintro e w' ⟨rfl, hw⟩; obtain rfl := hw.symm)
            go_round
            case rel => exact ⟨i + 1, by omega, by go_num, by rw [HSTEP.out, HFR.out]; rfl⟩
            case measure => simp [intOf]; omega
          · have hfr : showB r c v i S = false := by rw [hfree, hvb, hA, hB]; rfl
            have HFR := hide hfr
            rw [hvb] at hhv
            have HV := hide hhv
            have hA' : ((u : Int) == 0) = true := by rw [nat_beq]; exact hA
            have hB' : ((bz : Int) == 0) = true := by rw [nat_beq]; exact hB
            clear hfr hfree hhv hvb hA hB
            go_wp2_with (go_at_call 70; refine (unhide HV _).mono ?_; rintro e w' ⟨rfl, hw⟩; obtain rfl := hw.symm)
            go_round
            case rel => exact ⟨i + 1, by omega, by go_num, by rw [HSTEP.out, HFR.out]; rfl⟩
            case measure => simp [intOf]; omega
      · cases hA : (u == 0)
        · have hfr : showB r c v i S = false := by rw [hfree, hvb, hA]; rfl
          have HFR := hide hfr
          rw [hvb] at hhv
          have HV := hide hhv
          have hA' : ((u : Int) == 0) = false := by rw [nat_beq]; exact hA
          clear hfr hfree hhv hvb hA
          go_wp2_with (go_at_call 70; refine (unhide HV _).mono ?_; rintro e w' ⟨rfl, hw⟩; obtain rfl := hw.symm)
          go_round
          case rel => exact ⟨i + 1, by omega, by go_num, by rw [HSTEP.out, HFR.out]; rfl⟩
          case measure => simp [intOf]; omega
        · cases hB : (bz == 0)
          · have hfr : showB r c v i S = false := by rw [hfree, hvb, hA, hB]; rfl
            have HFR := hide hfr
            rw [hvb] at hhv
            have HV := hide hhv
            have hA' : ((u : Int) == 0) = true := by rw [nat_beq]; exact hA
            have hB' : ((bz : Int) == 0) = false := by rw [nat_beq]; exact hB
            clear hfr hfree hhv hvb hA hB
            go_wp2_with (go_at_call 70; refine (unhide HV _).mono ?_; rintro e w' ⟨rfl, hw⟩; obtain rfl := hw.symm)
            go_round
            case rel => exact ⟨i + 1, by omega, by go_num, by rw [HSTEP.out, HFR.out]; rfl⟩
            case measure => simp [intOf]; omega
          · have hfr : showB r c v i S = true := by rw [hfree, hvb, hA, hB]; rfl
            have HFR := hide hfr
            rw [hvb] at hhv
            have HV := hide hhv
            have hA' : ((u : Int) == 0) = true := by rw [nat_beq]; exact hA
            have hB' : ((bz : Int) == 0) = true := by rw [nat_beq]; exact hB
            have e4 : bits BinOp.or IntKind.i64 (m : Int) (wrap64 (2 ^ i)) = ((m ||| 2 ^ i : Nat) : Int) := by rw [wrap_two_pow i (by omega), or_nat _ _ (by omega) (two_pow_lt i (by omega))]
            obtain ⟨m2, hm2⟩ : ∃ m2, Hid (m ||| 2 ^ i = m2) := ⟨_, hide rfl⟩
            rw [hm2.out] at e4
            clear hfr hfree hhv hvb hA hB
            go_wp2_with (go_at_call 70; refine (unhide HV _).mono ?_; rintro e w' ⟨rfl, hw⟩; obtain rfl := hw.symm)
            go_round
            case rel => exact ⟨i + 1, by omega, by go_num, by rw [HSTEP.out, HFR.out, if_pos rfl, hm2.out]⟩
            case measure => simp [intOf]; omega
    · have hin : i = n := by omega
      subst hin
      clear hlt
      go_wp2
      go_ret
      exact ⟨by rw [hm.out]; rfl, HB.out⟩
theorem two_sets {w w1 : World} {N B : Nat} (h : Below B w w1) (hN : B ≤ N) (u v : Value) : Below B w ((w1.setCell ⟨N, 0, none⟩ u).setCell ⟨N, 1, none⟩ v) := (h.setCell hN _).setCell hN _
set_option maxHeartbeats 600000 in
theorem fit_ok (s d x0 x1 : Int) (b off cap : Nat) (zs : List Int) (w : World) (hok : checkF s zs d = (0, -1)) (hb : b < w.heap.size) (hc : Row w b off zs) (hcap : zs.length ≤ cap) :
    Calls Tryz.prog 42 #[.agg #[.int .i64 s, .slice (some ⟨b, off, none⟩) zs.length cap, .int .i64 d], .agg #[.int .i64 x0, .int .i64 x1]] w fun e w' =>
      e = .returned (.tuple #[.agg #[.int .i64 (bits .and .i64 x0 (top s)), .int .i64 (bits .and .i64 x1 (top (zs.length : Int)))], .nilIface]) ∧ Below w.heap.size w w' := by
  have hr := range_pos hok
  unfold rangeB at hr
  simp only [Bool.and_eq_true, inB_iff] at hr
  obtain ⟨⟨⟨b11, b12⟩, b21, b22⟩, _⟩ := hr
  have hB0 : Below w.heap.size w (((w.alloc (.cells #[.int .i64 s, .slice (some ⟨b, off, none⟩) zs.length cap, .int .i64 d] 41)).alloc (.cells #[.int .i64 x0, .int .i64 x1] 30)).alloc (.cells #[.int .i64 0, .int .i64 0] 30)) := (((Below.refl _ _).alloc (Nat.le_refl _) _).alloc (by simp) _).alloc (by simp; omega) _
  have hck := check_any s d (some ⟨b, off, none⟩) zs.length cap zs _ (IsSl.below ⟨rfl, hcap, .inr ⟨b, off, rfl, hb, hc⟩⟩ hB0)
  have HCK := hide hck
  have HOK := hide hok
  clear hck hok hc
  go_enter Tryz.func42, Tryz.ntmps42
  go_wp2_with fail
  refine HCK.out.mono ?_
  rintro e w1 ⟨⟨v, rfl, hv⟩, hB⟩
  rw [HOK.out] at hv
  have hv' := hv.ok
  subst hv'
  have hl : ∀ i, w1.cell? ⟨w.heap.size, i, none⟩ = (#[.int .i64 s, .slice (some ⟨b, off, none⟩) zs.length cap, .int .i64 d] : Array Value)[i]? := fun i => (hB.cell (p := ⟨w.heap.size, i, none⟩) (by simp; omega)).trans (by rw [World.cell?_alloc_past _ _ _ (by simp; omega), World.cell?_alloc_past _ _ _ (by simp), World.cell?_alloc_at _ _ _ _ rfl])
  have hx : ∀ i, w1.cell? ⟨w.heap.size + 1, i, none⟩ = (#[.int .i64 x0, .int .i64 x1] : Array Value)[i]? := fun i => (hB.cell (p := ⟨w.heap.size + 1, i, none⟩) (by simp)).trans (by rw [World.cell?_alloc_past _ _ _ (by simp), World.cell?_alloc_at _ _ _ _ (by simp)])
  have hbx : ∀ i, w1.cell? ⟨w.heap.size + 2, i, none⟩ = (#[.int .i64 0, .int .i64 0] : Array Value)[i]? := fun i => (hB.cell (p := ⟨w.heap.size + 2, i, none⟩) (by simp)).trans (World.cell?_alloc_at _ _ _ _ (by simp))
  have c0 : w1.cell? ⟨w.heap.size + 2, 0, none⟩ = some (.int .i64 0) := hbx 0
  have c1 : w1.cell? ⟨w.heap.size + 2, 1, none⟩ = some (.int .i64 0) := hbx 1
  have l0 : w1.cell? ⟨w.heap.size, 0, none⟩ = some (.int .i64 s) := hl 0
  have l1 : w1.cell? ⟨w.heap.size, 1, none⟩ = some (.slice (some ⟨b, off, none⟩) zs.length cap) := hl 1
  have i0 : w1.cell? ⟨w.heap.size + 1, 0, none⟩ = some (.int .i64 x0) := hx 0
  have i1 : w1.cell? ⟨w.heap.size + 1, 1, none⟩ = some (.int .i64 x1) := hx 1
  have hfz : ∀ i, w1.frozen? ⟨w.heap.size + 2, i, none⟩ = false := fun i => (hB.frozen (p := ⟨w.heap.size + 2, i, none⟩) (by simp)).trans (World.frozen?_alloc_at _ _ _ _ (by simp))
  have f0 := hfz 0
  have f1 := hfz 1
  have HB := hide (hB0.trans (hB.mono (by simp; omega)))
  clear hv hB hB0 HCK hfz hbx hl hx HOK
  have hn1 : ¬ (w.heap.size = w.heap.size + 1 + 1) := by omega
  have hn2 : ¬ (w.heap.size + 1 + 1 = w.heap.size) := by omega
  go_wp2_with fail
  go_region_held3 (fun w' => w'.cell? ⟨w.heap.size, 0, none⟩ = some (.int .i64 s) ∧ w'.cell? ⟨w.heap.size, 1, none⟩ = some (.slice (some ⟨b, off, none⟩) zs.length cap) ∧ w'.cell? ⟨w.heap.size + 1, 0, none⟩ = some (.int .i64 x0) ∧ w'.cell? ⟨w.heap.size + 1, 1, none⟩ = some (.int .i64 x1)) (go_keep) (first | (go_at_call 69; refine (allBits_any _ _ ?_ ?_).mono ?_; omega; omega; rintro e w' ⟨rfl, rfl⟩))
  all_goals go_wp2
  all_goals refine bodyPost_ret (v := .tuple #[.agg #[.int .i64 (bits .and .i64 x0 (top s)), .int .i64 (bits .and .i64 x1 (top (zs.length : Int)))], .nilIface]) (by simp [results, Tryz.results42, go_sem, c0, c1]) rfl ⟨rfl, ?_⟩
  all_goals exact (two_sets HB.out (by omega) _ _).drew
end Go.Proofs.YtaablbmgagiajaaGreatDoor
