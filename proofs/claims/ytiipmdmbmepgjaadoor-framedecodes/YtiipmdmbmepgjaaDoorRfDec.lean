/- The contract of triumvirref.Decode. -/
import Derived.Test.YtiipmdmbmepgjaaDoorRfDecM
import Derived.Deep.AppendLies
import Derived.Deep.RegionHeld3
namespace Go.Proofs.YtiipmdmbmepgjaaDoor
open Go.RowKit Go.Deep

theorem rdec_form {l : List Nat} (h : l.length < 7 ∨ 80 < l.length) : refDecF l = (3, fr0) := by unfold refDecF; rw [if_pos h]
theorem rdec_spoilt {l : List Nat} (h1 : 7 ≤ l.length) (h2 : l.length ≤ 80) (h : ¬ (crc (toldN l)).toNat = wordTo (lastN l) 4) : refDecF l = (15, fr0) := by unfold refDecF; rw [if_neg (by omega), if_neg h]
theorem rdec_three {l : List Nat} (h1 : 7 ≤ l.length) (h2 : l.length ≤ 80) (h : (crc (toldN l)).toNat = wordTo (lastN l) 4) (h3 : ¬ (l.length - 4) % 3 = 0) : refDecF l = (3, fr0) := by unfold refDecF; rw [if_neg (by omega), if_pos h, if_neg h3]
theorem rdec_not {l : List Nat} (h1 : 7 ≤ l.length) (h2 : l.length ≤ 80) (h : (crc (toldN l)).toNat = wordTo (lastN l) 4) (h3 : (l.length - 4) % 3 = 0) (hn : (okLen (readF (toldN l)) && mayB (madeF (readF (toldN l)))) = false) : refDecF l = (3, fr0) := by unfold refDecF; rw [if_neg (by omega), if_pos h, if_pos h3, hn]; rfl
theorem rdec_ok {l : List Nat} (h1 : 7 ≤ l.length) (h2 : l.length ≤ 80) (h : (crc (toldN l)).toNat = wordTo (lastN l) 4) (h3 : (l.length - 4) % 3 = 0) (hn : (okLen (readF (toldN l)) && mayB (madeF (readF (toldN l)))) = true) : refDecF l = (0, madeF (readF (toldN l))) := by unfold refDecF; rw [if_neg (by omega), if_pos h, if_pos h3, if_pos hn]

set_option maxHeartbeats 2000000 in
set_option maxRecDepth 20000 in
theorem refDecode_form (a : Option Addr) (len cap : Nat) (l : List Nat) (w : World) (hlen : l.length = len) (hl : len ≤ 1000) (h : len < 7 ∨ 80 < len) :
    Calls Tryd.prog 33 #[.slice a len cap] w fun e w' => e = .returned (.tuple #[.agg (fCells (refDecF l).2), .int .i64 ((refDecF l).1 : Int)]) ∧ Below w.heap.size w w' := by
  have HD := hide (rdec_form (l := l) (by omega))
  rw [HD.out]
  have hres : FIs (w.alloc (.cells (fCells fr0) 67)) w.heap.size 67 fr0 := blk_new _ _
  have HB := hide ((Below.refl w.heap.size w).alloc (Nat.le_refl _) (.cells (fCells fr0) 67))
  have HRES := hide hres
  have hin : inB (len : Int) 7 80 = false := by unfold inB; simp; omega
  clear hres hlen h
  go_enter Tryd.func33, Tryd.ntmps33
  go_wp2_with (first
    | (go_at_call 37; refine (in_any _ _ _ _).mono ?_; rintro e w' ⟨rfl, hw'⟩; subst w')
    | (refine wpList_store_rl rfl _ _ rfl w.heap.size fr0 rfl rfl fr0 HRES.out ?_))
  intro w9 HF9
  go_wp2
  refine bodyPost_ret (v := .tuple #[.agg (fCells fr0), .int .i64 3]) ?_ rfl ⟨rfl, HB.out.trans (HF9.out.2.2 _ (Nat.le_refl _))⟩
  exact results_cell2 Tryd.results33 rfl (load_r HF9.out.1)

set_option maxHeartbeats 4000000 in
set_option maxRecDepth 100000 in
theorem refDecode_main (b off len cap : Nat) (l : List Nat) (w : World) (h : IsB w (some ⟨b, off, none⟩) len cap l) (h7 : 7 ≤ len) (h80 : len ≤ 80) :
    Calls Tryd.prog 33 #[.slice (some ⟨b, off, none⟩) len cap] w fun e w' => e = .returned (.tuple #[.agg (fCells (refDecF l).2), .int .i64 ((refDecF l).1 : Int)]) ∧ Below w.heap.size w w' := by
  obtain ⟨m, hm⟩ : ∃ m, m + 4 = len := ⟨len - 4, by omega⟩
  have hlen := h.1
  have hcl := h.2.1
  have hB0 : Below w.heap.size w (w.alloc (.cells (fCells fr0) 67)) := (Below.refl w.heap.size w).alloc (Nat.le_refl _) _
  have hres : FIs (w.alloc (.cells (fCells fr0) 67)) w.heap.size 67 fr0 := blk_new _ _
  obtain ⟨wA, hwA⟩ : ∃ wA, Hid (w.alloc (.cells (fCells fr0) 67) = wA) := ⟨_, hide rfl⟩
  rw [hwA.out] at hB0 hres
  have hXA := h.below hB0
  have hbw : b < w.heap.size := by
    obtain ⟨b', o', _, e', hb', _⟩ := h.at (k := 0) (by omega)
    have : b = b' := by simp at e'; exact e'.1
    omega
  have hN : w.heap.size < wA.heap.size := hres.lt
  have HB0 := hide hB0
  have HRES := hide hres
  have HXA := hide hXA
  have HLA := hide (last_isB hXA (by omega) hm)
  have HTO := hide (told_isB hXA (by omega) hm)
  clear h hB0 hres hXA
  have hin : inB (len : Int) 7 80 = true := by unfold inB; simp; omega
  obtain ⟨i0, hi, hz0, hz1, hz2⟩ := info_parts infoInt
  have HI := hide hi
  have HZ0 := hide hz0
  have HZ1 := hide hz1
  have HZ2 := hide hz2
  clear hi hz0 hz1 hz2
  have hsl : ∀ wx : World, (Instr.slice 64 (.slice (some ⟨b, off, none⟩) len cap) (some (.int .i64 (m : Int))) none none).run Tryd.prog wx = .ok (.slice (some ⟨b, off + m, none⟩) 4 (cap - m)) wx := by
    intro wx
    have := slice_from b off len cap m (by omega) (by omega) wx
    rwa [show len - m = 4 by omega] at this
  have e1 : (len : Int) - 4 = (m : Int) := by omega
  go_enter Tryd.func33, Tryd.ntmps33
  go_wp2_with (go_at_call 37; refine (in_any _ _ _ _).mono ?_; rintro e w' ⟨rfl, hw'⟩; subst w')
  rw [show w.alloc (.cells #[.int .i64 0, .int .i64 0, .int .i64 0, .int .i64 0, .int .i64 0, .int .i64 0, .int .i64 0, .int .i64 0, .int .i64 0, .int .i64 0, .int .i64 0, .int .i64 0, .int .i64 0, .int .i64 0, .int .i64 0, .int .i64 0, .int .i64 0, .int .i64 0, .int .i64 0, .int .i64 0, .int .i64 0, .int .i64 0, .int .i64 0] 67) = wA from hwA.out]
  clear hsl
  have hll : ∀ c ∈ lastN l, c < 256 := HLA.out.2.2.1
  go_loop [5, 24] (fun x i => ∃ k : Nat, k ≤ 4 ∧ i = .int .i64 k ∧ x = .int .u32 ((wordTo (lastN l) k : Nat) : Int)) (fun _ i => 4 - (intOf i).toNat)
  case atStart => exact ⟨0, Nat.zero_le _, rfl, rfl⟩
  case round =>
    obtain ⟨k, hk, rfl, rfl⟩ := hrel
    have hwl := wordTo_lt hll k
    by_cases hlt : k < 4
    · have hp : 256 ^ k ≤ 256 ^ 3 := Nat.pow_le_pow_right (by decide) (by omega)
      obtain ⟨b', o', c, e', _, hc, hcc, hcell⟩ := HLA.out.at (k := k) hlt
      obtain ⟨rfl, rfl⟩ : b = b' ∧ off + m = o' := by simpa using e'
      obtain ⟨x, hx⟩ : ∃ x, Hid (wordTo (lastN l) k = x) := ⟨_, hide rfl⟩
      rw [hx.out] at hwl ⊢
      have hxl : x < 16777216 := Nat.lt_of_lt_of_le hwl hp
      clear hp hwl e'
      go_wp2
      go_round
      case rel => exact ⟨k + 1, by omega, by go_num, by rw [wordTo, hx.out, hcc.out]; go_num⟩
      case measure => simp [intOf]; omega
    · have hk4 : k = 4 := by omega
      subst hk4
      obtain ⟨x, hx⟩ : ∃ x, Hid (wordTo (lastN l) 4 = x) := ⟨_, hide rfl⟩
      rw [hx.out] at hwl ⊢
      have hmc : (m : Int) ≤ (cap : Int) := by omega
      have HSU := hide (refSum_any _ m cap (toldN l) wA (by omega) HTO.out)
      obtain ⟨y, hy⟩ : ∃ y, Hid ((crc (toldN l)).toNat = y) := ⟨_, hide rfl⟩
      rw [hy.out] at HSU
      clear hwl
      have HRS := HRES
      have HOL := HB0
      by_cases hyx : y = x
      · have q1 : ((y : Int) == (x : Int)) = true := by rw [hyx]; simp
        have q2 : ((y : Int) != (x : Int)) = false := by rw [hyx]; simp
        have hsum : (crc (toldN l)).toNat = wordTo (lastN l) 4 := by rw [hy.out, hx.out]; exact hyx
        have HSUM := hide hsum
        clear hyx hsum
        obtain ⟨r, hr⟩ : ∃ r, Hid (m % 3 = r) := ⟨_, hide rfl⟩
        have e3 : (m : Int).tmod 3 = (r : Int) := by rw [Int.tmod_eq_emod_of_nonneg (by omega), ← hr.out]; omega
        by_cases hr0 : r = 0
        · subst hr0
          have q3 : (((0 : Nat) : Int) == 0) = true := rfl
          have q4 : (((0 : Nat) : Int) != 0) = false := rfl
          go_wp2_with (go_at_call 32; refine HSU.out.mono ?_; rintro e w' ⟨rfl, hw'⟩; subst w')
          clear q1 q2 q3 q4 HSU
          go_loopw [8, 9] (fun v i wr => ∃ k : Nat, 3 * k ≤ m ∧ i = .int .i64 ((3 * k : Nat) : Int) ∧ RInv wA wr v (readN (toldN l) k)) (fun _ i _ => m - (intOf i).toNat)
          case atStart => exact ⟨0, by omega, rfl, Below.refl _ _, World.ownsRow_nil _ _ _ _⟩
          case round =>
            obtain ⟨k, hk3, rfl, hI⟩ := hrel
            obtain ⟨j, hj⟩ : ∃ j, Hid (3 * k = j) := ⟨_, hide rfl⟩
            have hjm := hk3
            rw [hj.out] at hjm ⊢
            have hs1 := hI.old.size
            by_cases hlt : j < m
            · have hj3 : j + 3 ≤ m := by have := hj.out; have := hr.out; omega
              obtain ⟨_, _, x0, e0, _, hx0, hxx0, hc0⟩ := (HTO.out.below (wx := wr) hI.old).at (k := 3 * k) (by have := hj.out; omega)
              obtain ⟨_, _, x1, e1', _, hx1, hxx1, hc1⟩ := (HTO.out.below (wx := wr) hI.old).at (k := 3 * k + 1) (by have := hj.out; omega)
              obtain ⟨_, _, x2, e2, _, hx2, hxx2, hc2⟩ := (HTO.out.below (wx := wr) hI.old).at (k := 3 * k + 2) (by have := hj.out; omega)
              obtain ⟨rfl, rfl⟩ : b = _ ∧ off = _ := by simpa using e0
              obtain ⟨rfl, rfl⟩ : b = _ ∧ off = _ := by simpa using e1'
              obtain ⟨rfl, rfl⟩ : b = _ ∧ off = _ := by simpa using e2
              rw [hj.out] at hc0 hc1 hc2
              obtain ⟨j1, hj1⟩ : ∃ j1, Hid (j + 1 = j1) := ⟨_, hide rfl⟩
              obtain ⟨j2, hj2⟩ : ∃ j2, Hid (j + 2 = j2) := ⟨_, hide rfl⟩
              rw [hj1.out] at hc1
              rw [hj2.out] at hc2
              obtain ⟨y1, hy1⟩ : ∃ y1, Hid (x0 * 65536 + x1 * 256 = y1) := ⟨_, hide rfl⟩
              obtain ⟨y2, hy2⟩ : ∃ y2, Hid (y1 + x2 = y2) := ⟨_, hide rfl⟩
              have r0 : IntKind.i64.wrap (x0 : Int) = x0 := wrap_small x0 (by omega)
              have r1 : IntKind.i64.wrap (x1 : Int) = x1 := wrap_small x1 (by omega)
              have r2 : IntKind.i64.wrap (x2 : Int) = x2 := wrap_small x2 (by omega)
              have r3 : IntKind.i64.wrap ((x0 : Int) * 65536) = (x0 : Int) * 65536 := by have := wrap_small (x0 * 65536) (by omega); rwa [Int.natCast_mul] at this
              have r4 : IntKind.i64.wrap ((x1 : Int) * 256) = (x1 : Int) * 256 := by have := wrap_small (x1 * 256) (by omega); rwa [Int.natCast_mul] at this
              have r5 : IntKind.i64.wrap ((x0 : Int) * 65536 + (x1 : Int) * 256) = (y1 : Int) := by
                have := wrap_small (x0 * 65536 + x1 * 256) (by omega)
                rw [Int.natCast_add, Int.natCast_mul, Int.natCast_mul] at this
                rw [← hy1.out, Int.natCast_add, Int.natCast_mul, Int.natCast_mul]
                exact this
              have r6 : IntKind.i64.wrap ((y1 : Int) + (x2 : Int)) = (y2 : Int) := by
                have := wrap_small (y1 + x2) (by have := hy1.out; omega)
                rw [Int.natCast_add] at this
                rw [← hy2.out, Int.natCast_add]
                exact this
              have r7 : IntKind.i64.wrap ((j : Int) + 1) = (j1 : Int) := by
                have := wrap_small (j + 1) (by omega)
                rw [Int.natCast_add] at this
                rw [← hj1.out, Int.natCast_add]
                exact this
              have r8 : IntKind.i64.wrap ((j : Int) + 2) = (j2 : Int) := by
                have := wrap_small (j + 2) (by omega)
                rw [Int.natCast_add] at this
                rw [← hj2.out, Int.natCast_add]
                exact this
              have d0 : (0 : Int) ≤ (j : Int) := by omega
              have d1 : (j : Int) < (len : Int) := by omega
              have d2 : (0 : Int) ≤ (j1 : Int) := by omega
              have d3 : (j1 : Int) < (len : Int) := by have := hj1.out; omega
              have d4 : (0 : Int) ≤ (j2 : Int) := by omega
              have d5 : (j2 : Int) < (len : Int) := by have := hj2.out; omega
              have hown0 := hI.own
              rw [readN_length] at hown0
              have hne : some b ≠ u8.ownBlock := fun e => by have := (hown0.lt b e.symm).1; omega
              have HOWN := hide hown0
              have HK1 : Hid (k + 1 ≤ maxLen) := by rw [Hid]; unfold maxLen; have := hj.out; omega
              have HK2 : Hid ((k + 1) * 8 ≤ 140737488355328) := by rw [Hid]; have := hj.out; omega
              have HK3 : Hid (wA.heap.size ≤ (wr.alloc (.cells #[.int .i64 (y2 : Int)] 3)).drew.heap.size) := by rw [Hid]; simp; omega
              have hbr : b < wr.heap.size := by omega
              clear hown0 e0 e1' e2
              go_wp2_with fail
              go_region_held3 (fun w' => w'.cell? ⟨b, off + j, none⟩ = some (.int .u8 (x0 : Int)) ∧ w'.cell? ⟨b, off + j1, none⟩ = some (.int .u8 (x1 : Int)) ∧ w'.cell? ⟨b, off + j2, none⟩ = some (.int .u8 (x2 : Int)))
                (first
                  | go_keep
                  | (go_split_ands
                     refine ⟨?_, ?_, ?_⟩
                     · (rw [hgrow.cell_far _ (by simp; omega) hne]; assumption)
                     · (rw [hgrow.cell_far _ (by simp; omega) hne]; assumption)
                     · (rw [hgrow.cell_far _ (by simp; omega) hne]; assumption)))
                ((refine step_append_lies _ (by rfl) _ _ _ (by rfl) wA.heap.size 3 i0 _ 1 8 Tryd.underlying22 HI.out HZ0.out HZ1.out HZ2.out rfl (by omega) u8 k (ints (readN (toldN l) k)) (by rfl) ((HOWN.out.alloc _).drew)
                    ⟨wr.heap.size, 0, none⟩ 1 1 (ints [(y2 : Int)]) (by rfl) (by rfl) (World.news_of_block (cs := #[.int .i64 (y2 : Int)]) (t := 3) (fr := (0, 0)) (heap_alloc_new wr _)) (ints_one _)
                    (by omega) HK1.out HK2.out HK3.out (wr.heap.size + 1) (by simp) ?_; intro gg cap' w1 hown1 hgrow hat hlt))
              have R := RInv.put hI (ms := [(y2 : Int)]) rfl (by rw [readN_length]; exact hown1) (show (wr.alloc (.cells #[.int .i64 (y2 : Int)] 3)).grownBy w1 u8.ownBlock from ⟨hgrow.os, hgrow.tape, hgrow.output, hgrow.size, hgrow.block⟩)
              have hnum : num3 (toldN l) k = y2 := by unfold num3; rw [hxx0.out, hxx1.out, hxx2.out, hy1.out, hy2.out]
              have HR := hide R
              have HNUM := hide hnum
              clear R hnum hgrow hown1 hat hlt hc0 hc1 hc2 r0 r1 r2 r3 r4 r5 r6 r7 r8 HOWN HK1 HK2 HK3 hI
              go_wp2
              go_roundw
              case rel =>
                refine ⟨k + 1, by have := hj.out; omega, ?_, by rw [readN_succ, HNUM.out]; exact HR.out⟩
                have := hj.out
                rw [show 3 * (k + 1) = j + 3 by omega]
                go_num
              case measure => simp [intOf]; omega
            · have hkk : k = (toldN l).length / 3 := by rw [HTO.out.1]; have := hj.out; have := hr.out; omega
              have hne : readN (toldN l) k ≠ [] := by
                intro e
                have := congrArg List.length e
                rw [readN_length] at this
                simp at this
                have := hj.out
                omega
              have hrf : readN (toldN l) k = readF (toldN l) := by rw [readF, ← hkk]
              rw [hrf] at hI hne
              obtain ⟨L, hL⟩ : ∃ L, Hid (readF (toldN l) = L) := ⟨_, hide rfl⟩
              have hLl : L.length ≤ 100 := by rw [← hL.out, ← hrf, readN_length]; have := hj.out; omega
              rw [hL.out] at hI hne
              obtain ⟨g, cp, rfl, hg1, hg2, hcp, hrow⟩ : IsNums wA wr L u8 := by
                have ho := hI.own
                obtain ⟨_, ho2⟩ := hI.own
                rcases ho2 with ⟨_, h0⟩ | ⟨g, cp, cur, rfl, hg, hh, hcc, hm, hsz, ht⟩
                · exact absurd (List.length_eq_zero_iff.1 h0) hne
                · refine ⟨g, cp, rfl, hg, blk_lt hh, hcc, fun k hk => ?_⟩
                  rw [Nat.zero_add, ho.cellAt k (by omega)]
                  simp [ints, hk]
              have HMD := hide (made_any g 0 L.length cp L wr rfl hLl hg2 hrow)
              have HRS1 := hide (HRES.out.below hN hI.old)
              have HOL1 := hide (HB0.out.trans (hI.old.mono (by omega)))
              have h3 : (l.length - 4) % 3 = 0 := by rw [hlen, show len - 4 = m by omega]; exact hr.out
              obtain ⟨G, hG⟩ : ∃ G, Hid (madeF L = G) := ⟨_, hide rfl⟩
              rw [hG.out] at HMD
              have H3 := hide h3
              clear hI hne hrow hkk hrf HRS HOL h3 hg1 hg2 hcp
              cases hok : okLen L
              · rw [hok] at HMD
                have HD := hide (rdec_not (l := l) (by omega) (by omega) HSUM.out H3.out (by rw [hL.out, hok]; rfl))
                go_wp2_with (first
                  | (go_at_call 65; refine HMD.out.mono ?_; rintro e wB ⟨rfl, hBB⟩)
                  | (refine wpList_store_rl rfl _ _ rfl wB.heap.size G rfl rfl fr0 (blk_new _ _) ?_))
                intro wC HFC
                have hsB := hBB.size
                have hBC : Below wr.heap.size wr wC := hBB.trans ((((Below.refl _ _).alloc (Nat.le_refl _) _).trans (HFC.out.2.2 _ (Nat.le_refl _))).mono hsB)
                have HRS := hide (HRS1.out.below (by omega) hBC)
                have HOL := hide (HOL1.out.trans (hBC.mono (by omega)))
                clear hBB hBC HFC HMD HRS1 HOL1
                go_wp2_with (first
                  | (refine wpList_store_rl rfl _ _ rfl w.heap.size fr0 rfl rfl fr0 HRS.out ?_))
                intro w9 HF9
                go_wp2
                refine bodyPost_ret (v := .tuple #[.agg (fCells fr0), .int .i64 3]) ?_ rfl ⟨by rw [HD.out]; rfl, HOL.out.trans (HF9.out.2.2 _ (Nat.le_refl _))⟩
                exact results_cell2 Tryd.results33 rfl (load_r HF9.out.1)
              · rw [hok] at HMD
                go_wp2_with (first
                  | (go_at_call 65; refine HMD.out.mono ?_; rintro e wB ⟨rfl, hBB⟩)
                  | (refine wpList_store_rl rfl _ _ rfl wB.heap.size G rfl rfl fr0 (blk_new _ _) ?_))
                intro wC HFC
                have hsB := hBB.size
                have hBC : Below wr.heap.size wr wC := hBB.trans ((((Below.refl _ _).alloc (Nat.le_refl _) _).trans (HFC.out.2.2 _ (Nat.le_refl _))).mono hsB)
                have HGQ := hide HFC.out.1
                have HRSC := hide (HRS1.out.below (by omega) hBC)
                have HOLC := hide (HOL1.out.trans (hBC.mono (by omega)))
                have hsQ := HGQ.out.lt
                have hNC := HRSC.out.lt
                clear hBB hBC HFC HMD HRS1 HOL1
                generalize wB.heap.size = Q at HGQ hsQ hsB ⊢
                have HMY := hide (refMay_any G wC)
                cases hmay : mayB G
                · rw [hmay] at HMY
                  have HD := hide (rdec_not (l := l) (by omega) (by omega) HSUM.out H3.out (by rw [hL.out, hok, hG.out, hmay]; rfl))
                  go_wp2_with (first
                    | (refine wpList_loadWr (by rfl) _ rfl Q rfl G HGQ.out ?_)
                    | (go_at_call 60; refine HMY.out.mono ?_; rintro e wD ⟨rfl, hBD⟩)
                    | (refine wpList_store_rl rfl _ _ rfl w.heap.size fr0 rfl rfl fr0 (HRSC.out.below hNC hBD) ?_))
                  intro w9 HF9
                  have HOL := hide ((HOLC.out.trans (hBD.mono (by omega))).trans (HF9.out.2.2 _ (Nat.le_refl _)))
                  clear hBD
                  go_wp2
                  refine bodyPost_ret (v := .tuple #[.agg (fCells fr0), .int .i64 3]) ?_ rfl ⟨by rw [HD.out]; rfl, HOL.out⟩
                  exact results_cell2 Tryd.results33 rfl (load_r HF9.out.1)
                · rw [hmay] at HMY
                  have HD := hide (rdec_ok (l := l) (by omega) (by omega) HSUM.out H3.out (by rw [hL.out, hok, hG.out, hmay]; rfl))
                  rw [hL.out, hG.out] at HD
                  go_wp2_with (first
                    | (refine wpList_loadWr (by rfl) _ rfl Q rfl G HGQ.out ?_)
                    | (go_at_call 60; refine HMY.out.mono ?_; rintro e wD ⟨rfl, hBD⟩)
                    | (refine wpList_load_r rfl _ rfl Q rfl G (HGQ.out.below hsQ hBD) ?_)
                    | (refine wpList_store_rl rfl _ _ rfl w.heap.size G rfl rfl fr0 (HRSC.out.below hNC hBD) ?_))
                  intro w9 HF9
                  have HOL := hide ((HOLC.out.trans (hBD.mono (by omega))).trans (HF9.out.2.2 _ (Nat.le_refl _)))
                  clear hBD
                  go_wp2
                  refine bodyPost_ret (v := .tuple #[.agg (fCells G), .int .i64 0]) ?_ rfl ⟨by rw [HD.out]; rfl, HOL.out⟩
                  exact results_cell2 Tryd.results33 rfl (load_r HF9.out.1)
        · have q3 : ((r : Int) == 0) = false := by simpa using hr0
          have q4 : ((r : Int) != 0) = true := by simpa using hr0
          have HD := hide (rdec_three (l := l) (by omega) (by omega) HSUM.out (by rw [hlen, show len - 4 = m by omega, hr.out]; exact hr0))
          go_wp2_with (first
            | (go_at_call 32; refine HSU.out.mono ?_; rintro e w' ⟨rfl, hw'⟩; subst w')
            | (refine wpList_store_rl rfl _ _ rfl w.heap.size fr0 rfl rfl fr0 HRS.out ?_))
          intro w9 HF9
          go_wp2
          refine bodyPost_ret (v := .tuple #[.agg (fCells fr0), .int .i64 3]) ?_ rfl ⟨by rw [HD.out]; rfl, HOL.out.trans (HF9.out.2.2 _ (Nat.le_refl _))⟩
          exact results_cell2 Tryd.results33 rfl (load_r HF9.out.1)
      · have q1 : ((y : Int) == (x : Int)) = false := by simp; omega
        have q2 : ((y : Int) != (x : Int)) = true := by simp; omega
        have HD := hide (rdec_spoilt (l := l) (by omega) (by omega) (by rw [hy.out, hx.out]; exact hyx))
        clear hyx
        go_wp2_with (first
          | (go_at_call 32; refine HSU.out.mono ?_; rintro e w' ⟨rfl, hw'⟩; subst w')
          | (refine wpList_store_rl rfl _ _ rfl w.heap.size fr0 rfl rfl fr0 HRS.out ?_))
        intro w9 HF9
        go_wp2
        refine bodyPost_ret (v := .tuple #[.agg (fCells fr0), .int .i64 15]) ?_ rfl ⟨by rw [HD.out]; rfl, HOL.out.trans (HF9.out.2.2 _ (Nat.le_refl _))⟩
        exact results_cell2 Tryd.results33 rfl (load_r HF9.out.1)

theorem refDecode_any (a : Option Addr) (len cap : Nat) (l : List Nat) (w : World) (hl : len ≤ 1000) (h : IsB w a len cap l) :
    Calls Tryd.prog 33 #[.slice a len cap] w fun e w' => e = .returned (.tuple #[.agg (fCells (decF l).2), .int .i64 ((decF l).1 : Int)]) ∧ Below w.heap.size w w' := by
  rw [← refDec_eq l h.2.2.1]
  by_cases hf : len < 7 ∨ 80 < len
  · exact refDecode_form a len cap l w h.1 hl hf
  · obtain ⟨b, off, rfl, _, _⟩ := h.row (by omega)
    exact refDecode_main b off len cap l w h (by omega) (by omega)
end Go.Proofs.YtiipmdmbmepgjaaDoor
