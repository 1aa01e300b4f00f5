/- The contract of triumvirref.Check: it answers as layout.Check does. -/
import Derived.Test.YtpkfgpagkgmpcaaDoorCheck
import Derived.Deep.QuietTactic
import Derived.BigQuiet
namespace Go.Proofs.YtpkfgpagkgmpcaaDoor
open Go.RowKit

set_option maxHeartbeats 400000 in
theorem in_any (n a b : Int) (w : World) :
    Calls Tryd.prog 23 #[.int .i64 n, .int .i64 a, .int .i64 b] w fun e w' => e = .returned (.bool (inB n a b)) ∧ w' = w := by
  by_cases h : a ≤ n
  · go_enter Tryd.func23, Tryd.ntmps23
    go_wp2
    go_ret
    exact ⟨ret_bool (by simp [inB, h]), rfl⟩
  · go_enter Tryd.func23, Tryd.ntmps23
    go_wp2
    go_ret
    exact ⟨ret_bool (by simp [inB]; omega), rfl⟩

set_option maxHeartbeats 400000 in
theorem bare_any (c : Int) (w : World) :
    Calls Tryd.prog 24 #[.int .i64 c] w fun e w' => e = .returned (.agg #[.int .i64 c, .int .i64 (-1)]) ∧ Below w.heap.size w w' := by
  go_enter Tryd.func24, Tryd.ntmps24
  go_wp2
  exact bodyPost_ret (v := .agg #[.int .i64 c, .int .i64 (-1)]) (by simp [results, Tryd.results24, go_sem]) rfl ⟨rfl, (Below.refl _ _).alloc (Nat.le_refl _) _⟩

theorem cell_block {w : World} {b : Nat} {c : Array Value} {t : TypeId} (h : w.heap[b]? = some (.cells c t (0, 0))) (i : Nat) : w.cell? ⟨b, i, none⟩ = c[i]? := by
  simp [World.cell?, h]
theorem free_block {w : World} {b : Nat} {c : Array Value} {t : TypeId} (h : w.heap[b]? = some (.cells c t (0, 0))) (i : Nat) : w.frozen? ⟨b, i, none⟩ = false := by
  simp [World.frozen?, h]
theorem lt_block {w : World} {b : Nat} {o : Obj} (h : w.heap[b]? = some o) : b < w.heap.size := by
  obtain ⟨hlt, _⟩ := Array.getElem?_eq_some_iff.1 h
  exact hlt

/-- What holds while the document's Check goes on: block N is the layout's, block N + 1 the answer's. -/
structure RInv (w wr : World) (x y z : Value) : Prop where
  old : Below w.heap.size w wr
  box : wr.heap[w.heap.size]? = some (.cells #[x, y, z] 24 (0, 0))
  res : wr.heap[w.heap.size + 1]? = some (.cells #[.int .i64 0, .int .i64 0] 29 (0, 0))
theorem RInv.drewN {w wr : World} {x y z : Value} (h : RInv w wr x y z) (n : Nat) : RInv w (wr.drewN n) x y z := ⟨below_drewN h.old n, h.box, h.res⟩
theorem RInv.below {w wr wx : World} {x y z : Value} (h : RInv w wr x y z) (hB : Below (w.heap.size + 2) wr wx) : RInv w wx x y z :=
  ⟨h.old.trans (hB.mono (by omega)), (hB.block _ (by omega)).trans h.box, (hB.block _ (by omega)).trans h.res⟩
theorem rinv_start (w : World) (x y z : Value) : RInv w ((w.alloc (.cells #[x, y, z] 24)).alloc (.cells #[.int .i64 0, .int .i64 0] 29)) x y z := by
  refine ⟨((Below.refl _ _).alloc (Nat.le_refl _) _).alloc (by simp) _, ?_, ?_⟩
  · rw [Below.heap_alloc _ _ _ (by simp)]
    exact heap_alloc_new _ _
  · have := heap_alloc_new (w.alloc (.cells #[x, y, z] 24)) (.cells #[.int .i64 0, .int .i64 0] 29)
    rw [show (w.alloc (.cells #[x, y, z] 24)).heap.size = w.heap.size + 1 by simp] at this
    exact this

set_option maxHeartbeats 1000000 in
theorem refCheck_range (s d : Int) (a : Option Addr) (len cap : Nat) (w : World) (h : rangeB s len d = false) :
    Calls Tryd.prog 5 #[.agg #[.int .i64 s, .slice a len cap, .int .i64 d]] w fun e w' => e = .returned (.agg #[.int .i64 2, .int .i64 (-1)]) ∧ Below w.heap.size w w' := by
  have fin : ∀ (w1 : World), Below (((w.alloc (.cells #[.int .i64 s, .slice a len cap, .int .i64 d] 24)).alloc (.cells #[.int .i64 0, .int .i64 0] 29)).heap.size) ((w.alloc (.cells #[.int .i64 s, .slice a len cap, .int .i64 d] 24)).alloc (.cells #[.int .i64 0, .int .i64 0] 29)) w1 → RInv w w1 (.int .i64 s) (.slice a len cap) (.int .i64 d) := fun w1 hb => (rinv_start w _ _ _).below (hb.mono (by simp))
  have FIN := hide fin
  clear fin
  unfold rangeB at h
  have step : ∀ (w1 : World), RInv w w1 (.int .i64 s) (.slice a len cap) (.int .i64 d) → w1.cell? ⟨w.heap.size + 1, 0, none⟩ = some (.int .i64 0) ∧ w1.cell? ⟨w.heap.size + 1, 1, none⟩ = some (.int .i64 0) ∧ w1.frozen? ⟨w.heap.size + 1, 0, none⟩ = false ∧ w1.frozen? ⟨w.heap.size + 1, 1, none⟩ = false :=
    fun w1 r => ⟨by rw [cell_block r.res]; rfl, by rw [cell_block r.res]; rfl, free_block r.res 0, free_block r.res 1⟩
  have STEP := hide step
  clear step
  cases h1 : inB s 1 12
  · go_enter Tryd.func5, Tryd.ntmps5
    go_wp2_with (go_at_call 23; refine (in_any _ _ _ _).mono ?_; rintro e w' ⟨rfl, rfl⟩)
    go_wp2_with fail
    refine (bare_any _ _).mono ?_
    rintro e w1 ⟨rfl, hb⟩
    have hr := FIN.out _ hb
    obtain ⟨c0, c1, f0, f1⟩ := STEP.out _ hr
    clear hb
    go_wp2
    refine bodyPost_ret (v := .agg #[.int .i64 2, .int .i64 (-1)]) (by simp [results, Tryd.results5, go_sem, c0, c1]) rfl ⟨rfl, ?_⟩
    exact (hr.old.setCell (Nat.le_succ _) _).setCell (Nat.le_succ _) _
  · cases h2 : inB (len : Int) 1 8
    · clear h
      go_enter Tryd.func5, Tryd.ntmps5
      go_wp2_with (go_at_call 23; refine (in_any _ _ _ _).mono ?_; rintro e w' ⟨rfl, rfl⟩)
      go_wp2_with fail
      refine (bare_any _ _).mono ?_
      rintro e w1 ⟨rfl, hb⟩
      have hr := FIN.out _ hb
      obtain ⟨c0, c1, f0, f1⟩ := STEP.out _ hr
      clear hb
      go_wp2
      refine bodyPost_ret (v := .agg #[.int .i64 2, .int .i64 (-1)]) (by simp [results, Tryd.results5, go_sem, c0, c1]) rfl ⟨rfl, ?_⟩
      exact (hr.old.setCell (Nat.le_succ _) _).setCell (Nat.le_succ _) _
    · have h3 : inB d 0 20 = false := by simpa [h1, h2] using h
      clear h
      go_enter Tryd.func5, Tryd.ntmps5
      go_wp2_with (go_at_call 23; refine (in_any _ _ _ _).mono ?_; rintro e w' ⟨rfl, rfl⟩)
      go_wp2_with fail
      refine (bare_any _ _).mono ?_
      rintro e w1 ⟨rfl, hb⟩
      have hr := FIN.out _ hb
      obtain ⟨c0, c1, f0, f1⟩ := STEP.out _ hr
      clear hb
      go_wp2
      refine bodyPost_ret (v := .agg #[.int .i64 2, .int .i64 (-1)]) (by simp [results, Tryd.results5, go_sem, c0, c1]) rfl ⟨rfl, ?_⟩
      exact (hr.old.setCell (Nat.le_succ _) _).setCell (Nat.le_succ _) _

theorem cells_res {w w1 : World} {x y z : Value} (r : RInv w w1 x y z) : w1.cell? ⟨w.heap.size + 1, 0, none⟩ = some (.int .i64 0) ∧ w1.cell? ⟨w.heap.size + 1, 1, none⟩ = some (.int .i64 0) ∧ w1.frozen? ⟨w.heap.size + 1, 0, none⟩ = false ∧ w1.frozen? ⟨w.heap.size + 1, 1, none⟩ = false :=
  ⟨by rw [cell_block r.res]; rfl, by rw [cell_block r.res]; rfl, free_block r.res 0, free_block r.res 1⟩
theorem cells_box {w w1 : World} {x y z : Value} (r : RInv w w1 x y z) : w1.cell? ⟨w.heap.size, 0, none⟩ = some x ∧ w1.cell? ⟨w.heap.size, 1, none⟩ = some y :=
  ⟨by rw [cell_block r.box]; rfl, by rw [cell_block r.box]; rfl⟩

theorem take_mem (zs : List Int) (m : Nat) (r : Int) (h : m < zs.length) : (r ∈ zs.take (m + 1)) ↔ (r ∈ zs.take m ∨ r = zs[m]?.getD 0) := by
  have e : zs.take (m + 1) = zs.take m ++ [zs[m]?.getD 0] := by rw [List.take_add_one, List.getElem?_eq_getElem h]; rfl
  rw [e, List.mem_append, List.mem_singleton]

theorem ret_pair {a b : Int} {f : Nat × Int} (h : f = (a.toNat, b)) (ha : 0 ≤ a) : Ending.returned (.agg #[.int .i64 a, .int .i64 b]) = .returned (.agg #[.int .i64 ((f.1 : Nat) : Int), .int .i64 f.2]) := by
  subst h
  rw [Int.toNat_of_nonneg ha]

set_option maxHeartbeats 2000000 in
theorem refCheck_main (s d : Int) (b off cap : Nat) (zs : List Int) (w : World) (hr : rangeB s zs.length d = true) (hb : b < w.heap.size) (hc : Row w b off zs) :
    Calls Tryd.prog 5 #[.agg #[.int .i64 s, .slice (some ⟨b, off, none⟩) zs.length cap, .int .i64 d]] w fun e w' => e = .returned (.agg #[.int .i64 (((checkF s zs d).1 : Nat) : Int), .int .i64 (checkF s zs d).2]) ∧ Below w.heap.size w w' := by
  have hr0 := hr
  unfold rangeB at hr
  simp only [Bool.and_eq_true] at hr
  obtain ⟨⟨h1, h2⟩, h3⟩ := hr
  have b1 := (inB_iff _ _ _).1 h1
  have b2 := (inB_iff _ _ _).1 h2
  obtain ⟨b11, b12⟩ := b1
  obtain ⟨b21, b22⟩ := b2
  have HR := hide hr0
  clear hr0
  have hcf : checkF s zs d = match firstTo (badAt s zs) zs.length with
    | some i => (1, (i : Int))
    | none => match firstTo (twiceAt zs) zs.length with
      | some i => (9, (i : Int))
      | none => (0, -1) := by unfold checkF; rw [if_pos HR.out]; rfl
  have HCF := hide hcf
  clear hcf
  obtain ⟨sn, hsn⟩ := Int.eq_ofNat_of_zero_le (show 0 ≤ s by omega)
  subst hsn
  have RS := hide (rinv_start w (.int .i64 (sn : Int)) (.slice (some ⟨b, off, none⟩) zs.length cap) (.int .i64 d))
  go_enter Tryd.func5, Tryd.ntmps5
  go_wp2_with (go_at_call 23; refine (in_any _ _ _ _).mono ?_; rintro e w' ⟨rfl, rfl⟩)
  go_loop [3, 28] (fun t i => ∃ k : Nat, k ≤ sn ∧ i = .int .i64 k ∧ ∃ p : Nat, p ≤ 4096 ∧ t = .int .i64 p ∧ Hid (2 ^ k = p)) (fun _ i => sn - (intOf i).toNat)
  case atStart => exact ⟨0, Nat.zero_le _, rfl, 1, by omega, rfl, rfl⟩
  case round =>
    obtain ⟨k, hk, rfl, p, hp, rfl, Hp⟩ := hrel
    by_cases hlt : k < sn
    · have hp2 : p * 2 ≤ 4096 := by
        have h1 : 2 ^ (k + 1) ≤ 2 ^ 12 := Nat.pow_le_pow_right (by decide) (by omega)
        have h2 : 2 ^ (k + 1) = p * 2 := by rw [Nat.pow_succ, Hp.out]
        omega
      go_wp2
      go_round
      case rel => exact ⟨k + 1, by omega, by go_num, p * 2, hp2, by go_num, by rw [Hid, Nat.pow_succ, Hp.out]⟩
      case measure => simp [intOf]; omega
    · have hks : sn = k := by omega
      have htop : (p : Int) - 1 = top (sn : Int) := by
        unfold top
        rw [Int.toNat_natCast, hks, Hp.out]
        have : 0 < 2 ^ k := Nat.two_pow_pos k
        rw [Hp.out] at this
        omega
      have HTOP := hide htop
      have hp0 : 1 ≤ p := by have : 0 < 2 ^ k := Nat.two_pow_pos k; rw [Hp.out] at this; omega
      clear htop Hp hks
      go_wp2
      go_loop [36] (fun i => ∃ k : Nat, k ≤ zs.length ∧ i = .int .i64 k ∧ firstTo (badAt sn zs) k = none) (fun i => zs.length - (intOf i).toNat)
      case atStart => exact ⟨0, Nat.zero_le _, rfl, rfl⟩
      case round =>
        obtain ⟨j, hj, rfl, hf⟩ := hrel
        have HF := hide hf
        clear hf
        by_cases hlj : j < zs.length
        · obtain ⟨z, hz1, hcell⟩ := Row.at hc hlj
          have hbad : badAt sn zs j = !inB z 1 ((p : Int) - 1) := by unfold badAt; rw [hz1.out, HTOP.out]
          have HB := hide hbad
          clear hbad
          cases hin : inB z 1 ((p : Int) - 1)
          · go_wp2_with (go_at_call 23; refine (in_any _ _ _ _).mono ?_; rintro e w' ⟨rfl, rfl⟩)
            refine bodyPost_ret (v := .agg #[.int .i64 1, .int .i64 (j : Int)]) (by simp [results, Tryd.results5, go_sem]) rfl ⟨?_, ?_⟩
            · exact ret_pair (by rw [HCF.out, first_at HF.out (by rw [HB.out, hin]; rfl) hlj]; rfl) (by decide)
            · exact ((Below.refl _ _).alloc (Nat.le_refl _) _).alloc (by simp) _
          · go_wp2_with (go_at_call 23; refine (in_any _ _ _ _).mono ?_; rintro e w' ⟨rfl, rfl⟩)
            go_round
            case rel => exact ⟨j + 1, by omega, by go_num, first_none HF.out (by rw [HB.out, hin]; rfl)⟩
            case measure => simp [intOf]; omega
        · have hjn : zs.length = j := by omega
          have HG : Hid (firstTo (badAt sn zs) zs.length = none) := by rw [hjn]; exact HF.out
          clear HF hjn
          go_wp2
          go_loopw [52] (fun i wr => RInv w wr (.int .i64 (sn : Int)) (.slice (some ⟨b, off, none⟩) zs.length cap) (.int .i64 d) ∧ ∃ k : Nat, k ≤ zs.length ∧ i = .int .i64 k ∧ firstTo (twiceAt zs) k = none) (fun i _ => zs.length - (intOf i).toNat)
          case atStart => exact ⟨RS.out, 0, Nat.zero_le _, rfl, rfl⟩
          case round =>
            clear RS
            obtain ⟨hI, i, hi, rfl, hf⟩ := hrel
            have HF := hide hf
            clear hf
            by_cases hli : i < zs.length
            · go_wp2
              go_loopw [56] (fun k wi => RInv w wi (.int .i64 (sn : Int)) (.slice (some ⟨b, off, none⟩) zs.length cap) (.int .i64 d) ∧ ∃ m : Nat, m ≤ i ∧ k = .int .i64 m ∧ zs[i]?.getD 0 ∉ zs.take m) (fun k _ => i - (intOf k).toNat)
              case atStart => exact ⟨hI, 0, Nat.zero_le _, rfl, by simp⟩
              case round =>
                clear hI
                obtain ⟨hI, m, hm, rfl, hnm⟩ := hrel
                have HNM := hide hnm
                clear hnm
                obtain ⟨c0, c1, f0, f1⟩ := cells_res hI
                by_cases hmi : m < i
                · obtain ⟨y, hy, hcy⟩ := Row.at (hc.below hb hI.old) (show m < zs.length by omega)
                  obtain ⟨z, hz, hcz⟩ := Row.at (hc.below hb hI.old) hli
                  obtain ⟨_, d1⟩ := cells_box hI
                  cases hzy : (z == y)
                  · go_wp2_with fail
                    go_quiet (fail)
                    go_wp2
                    go_roundw
                    case rel =>
                      refine ⟨hI.drewN _, m + 1, by omega, by go_num, ?_⟩
                      rw [take_mem zs m _ (by omega), hy.out, hz.out]
                      rw [hz.out] at HNM
                      intro h
                      rcases h with h | h
                      · exact HNM.out h
                      · simp at hzy; exact hzy h
                    case measure => simp [intOf]; omega
                  · have htw : twiceAt zs i = true := by
                      unfold twiceAt
                      rw [decide_eq_true_eq]
                      have hin : y ∈ zs.take i := by rw [← hy.out, List.getElem?_eq_getElem (show m < zs.length by omega), Option.getD_some]; exact List.mem_take_iff_getElem.2 ⟨m, by omega, rfl⟩
                      rw [hz.out, show z = y by simpa using hzy]
                      exact hin
                    have HTW := hide htw
                    clear htw
                    go_wp2_with fail
                    go_quiet (fail)
                    go_wp2
                    refine bodyPost_ret (v := .agg #[.int .i64 9, .int .i64 (i : Int)]) (by simp [results, Tryd.results5, go_sem, c0, c1]) rfl ⟨?_, ?_⟩
                    · exact ret_pair (by rw [HCF.out, HG.out, first_at HF.out HTW.out hli]; rfl) (by decide)
                    · exact ((hI.drewN _).old.setCell (Nat.le_succ _) _).setCell (Nat.le_succ _) _
                · have hmi' : m = i := by omega
                  subst hmi'
                  clear c0 c1 f0 f1
                  go_wp2
                  go_roundw
                  case rel => exact ⟨hI, m + 1, by omega, by go_num, first_none HF.out (decide_eq_false HNM.out)⟩
                  case measure => simp [intOf]; omega
            · have hin : zs.length = i := by omega
              have HG2 : Hid (firstTo (twiceAt zs) zs.length = none) := by rw [hin]; exact HF.out
              clear HF hin
              go_wp2_with fail
              refine (bare_any _ _).mono ?_
              rintro e w1 ⟨rfl, hb1⟩
              have hr := hI.below (hb1.mono (lt_block hI.res))
              obtain ⟨c0, c1, f0, f1⟩ := cells_res hr
              clear hb1
              go_wp2
              refine bodyPost_ret (v := .agg #[.int .i64 0, .int .i64 (-1)]) (by simp [results, Tryd.results5, go_sem, c0, c1]) rfl ⟨?_, ?_⟩
              · exact ret_pair (by rw [HCF.out, HG.out, HG2.out]; rfl) (by decide)
              · exact (hr.old.setCell (Nat.le_succ _) _).setCell (Nat.le_succ _) _

theorem refCheck_any (s d : Int) (a : Option Addr) (len cap : Nat) (zs : List Int) (w : World) (h : IsSl w a len cap zs) :
    Calls Tryd.prog 5 #[.agg #[.int .i64 s, .slice a len cap, .int .i64 d]] w fun e w' => e = .returned (.agg #[.int .i64 (((checkF s zs d).1 : Nat) : Int), .int .i64 (checkF s zs d).2]) ∧ Below w.heap.size w w' := by
  obtain ⟨rfl, hcap, h3⟩ := h
  cases hr : rangeB s zs.length d
  · refine (refCheck_range s d a zs.length cap w hr).mono ?_
    rintro e w' ⟨rfl, hb⟩
    exact ⟨ret_pair (by unfold checkF; rw [hr]; rfl) (by decide), hb⟩
  · rcases h3 with h | ⟨b, off, rfl, hb, hc⟩
    · subst h
      simp [rangeB, inB] at hr
    · exact refCheck_main s d b off cap zs w hr hb hc

end Go.Proofs.YtpkfgpagkgmpcaaDoor
