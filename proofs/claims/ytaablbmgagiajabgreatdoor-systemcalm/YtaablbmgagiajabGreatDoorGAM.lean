import Derived.Test.YtaablbmgagiajabGreatDoorGAL
/- The contract of triumvirkeep.line: whatever it is told, it hands back a layout in which Check finds nothing wrong. -/
namespace Go.Proofs.YtaablbmgagiajabGreatDoor
open Go.RowKit Go.Deep

/-- A layout that is handed back: nothing is wrong with it, and its routes lie in memory. -/
def GoodLayout (w' : World) (x : Value) : Prop :=
  ∃ (s d : Int) (b off n cap : Nat) (zs : List Int), x = .agg #[.int .i64 s, .slice (some ⟨b, off, none⟩) n cap, .int .i64 d] ∧ zs.length = n ∧ n ≤ cap ∧ b < w'.heap.size ∧ Row w' b off zs ∧ checkF s zs d = (0, -1)

theorem top_pow (s : Nat) (h1 : s ≤ 12) : wrap64 (wrap64 (2 ^ s) - 1) = top s := by
  have hp : 2 ^ s ≤ 2 ^ 12 := Nat.pow_le_pow_right (by decide) h1
  have hq : 0 < 2 ^ s := Nat.two_pow_pos s
  rw [wrap_two_pow s (by omega), IntWalk.wrap64_in _ ⟨by omega, by omega⟩]
  unfold top
  rw [Int.toNat_natCast]
  omega
theorem top_in (s : Nat) (h0 : 1 ≤ s) (h1 : s ≤ 12) : 1 ≤ top s ∧ top s ≤ 4095 := by
  have hp : 2 ^ s ≤ 2 ^ 12 := Nat.pow_le_pow_right (by decide) h1
  have hq : 2 ^ 1 ≤ 2 ^ s := Nat.pow_le_pow_right (by decide) h0
  unfold top
  rw [Int.toNat_natCast]
  omega

theorem mem_take_succ (zs : List Int) (m : Nat) (r : Int) (h : m < zs.length) : decide (r ∈ zs.take (m + 1)) = (decide (r ∈ zs.take m) || zs[m]?.getD 0 == r) := by
  have e : zs.take (m + 1) = zs.take m ++ [zs[m]?.getD 0] := by rw [List.take_add_one, List.getElem?_eq_getElem h]; rfl
  rw [e, Bool.eq_iff_iff]
  simp only [decide_eq_true_eq, Bool.or_eq_true, beq_iff_eq, List.mem_append, List.mem_singleton]
  exact or_congr Iff.rfl ⟨Eq.symm, Eq.symm⟩

theorem LInv.drewN {w wr : World} {N s d n : Nat} {v : Value} {zs : List Int} (h : LInv w wr N s d v zs) : LInv w (wr.drewN n) N s d v zs := ⟨below_drewN h.old n, h.res, h.box, h.own, h.good, h.nodup, h.few⟩

theorem LInv.put_box {w wr w1 : World} {N s d n : Nat} {v : Value} {zs : List Int} {o : Obj} (h : LInv w wr N s d v zs) (hg : ((wr.drewN n).alloc o).grownBy w1 v.ownBlock) :
    w1.heap[N + 1]? = some (.cells #[.int .i64 (s : Int), v, .int .i64 (d : Int)] 42 (0, 0)) := by
  have hN1 : N + 1 < wr.heap.size := block_lt h.box
  refine ((hg.block (N + 1) (by simp; omega) (fun e => by have := h.own.lt (N + 1) e.symm; omega)).trans (Below.heap_alloc _ _ _ (by simp; omega))).trans h.box

/-- The layout is laid. -/
theorem linv_done {w wr w' : World} {N sn d g cv : Nat} {zs : List Int} (h : LInv w wr N sn d (.slice (some ⟨g, 0, none⟩) zs.length cv) zs) (h1 : 1 ≤ sn) (h2 : sn ≤ 12) (hd : d ≤ 20) (hz : zs.length ≠ 0)
    (hh : ∀ j, N < j → w'.heap[j]? = wr.heap[j]?) : GoodLayout w' (.agg #[.int .i64 (sn : Int), .slice (some ⟨g, 0, none⟩) zs.length cv, .int .i64 (d : Int)]) := by
  obtain ⟨_, ho⟩ := h.own
  rcases ho with ⟨e, _⟩ | ⟨g', cap, cur, e, hg, hb, hc, hm, hs, ht⟩
  · simp at e
  · simp at e
    obtain ⟨rfl, rfl⟩ := e
    have hb' : w'.heap[g]? = some (.cells cur 3 (0, 0)) := (hh g (by omega)).trans hb
    refine ⟨_, _, g, 0, _, _, zs, rfl, rfl, hc, block_lt hb', fun k hk => ?_, check_good _ _ _ ?_ h.good h.nodup⟩
    · rw [World.cell?_of_block (w := wr) (hh g (by omega)), Nat.zero_add, h.own.cellAt k (by omega)]
      simp [hk]
    · have := h.few
      unfold rangeB
      rw [(inB_iff _ _ _).2 ⟨by omega, by omega⟩, (inB_iff _ _ _).2 ⟨by omega, by omega⟩, (inB_iff _ _ _).2 ⟨by omega, by omega⟩]
      rfl

theorem linv_one {w' : World} {sn d G : Nat} (h1 : 1 ≤ sn) (h2 : sn ≤ 12) (hd : d ≤ 20) (hc : w'.cell? ⟨G, 0, none⟩ = some (.int .i64 1)) (hG : G < w'.heap.size) :
    GoodLayout w' (.agg #[.int .i64 (sn : Int), .slice (some ⟨G, 0, none⟩) 1 1, .int .i64 (d : Int)]) := by
  refine ⟨_, _, G, 0, 1, 1, [1], rfl, rfl, by decide, hG, fun k hk => ?_, check_good _ _ _ ?_ ?_ (by simp)⟩
  · have : k = 0 := by simp at hk; omega
    subst this
    simpa using hc
  · unfold rangeB
    rw [(inB_iff _ _ _).2 ⟨by omega, by omega⟩, (inB_iff _ _ _).2 ⟨by simp, by simp⟩, (inB_iff _ _ _).2 ⟨by omega, by omega⟩]
    rfl
  · intro z hz
    rw [List.mem_singleton.1 hz]
    exact ⟨by omega, (top_in sn h1 h2).1⟩

theorem linv_start (w : World) (p d : Nat) : LInv w ((w.alloc (.cells #[.int .i64 0, .slice none 0 0, .int .i64 0] 42)).alloc (.cells #[.int .i64 (1 + (p : Int)), .slice none 0 0, .int .i64 (d : Int)] 42)) w.heap.size (p + 1) d (.slice none 0 0) [] := by
  refine ⟨((Below.refl _ _).alloc (Nat.le_refl _) _).alloc (by simp) _, ?_, ?_, World.ownsRow_nil _ _ _ _, by simp, by simp, by simp⟩
  · rw [Below.heap_alloc _ _ _ (by simp)]
    exact heap_alloc_new _ _
  · have := heap_alloc_new (w.alloc (.cells #[.int .i64 0, .slice none 0 0, .int .i64 0] 42)) (.cells #[.int .i64 (1 + (p : Int)), .slice none 0 0, .int .i64 (d : Int)] 42)
    rw [show (w.alloc (.cells #[.int .i64 0, .slice none 0 0, .int .i64 0] 42)).heap.size = w.heap.size + 1 by simp] at this
    rw [this, show 1 + (p : Int) = ((p + 1 : Nat) : Int) by omega]

set_option maxHeartbeats 1000000 in
set_option maxRecDepth 20000 in
theorem line_any (x0 x1 : Int) (a : Option Addr) (len cap : Nat) (w : World) (hl : len ≤ 30) (hrt : ∀ i, i < len → ∃ b off z, a = some ⟨b, off, none⟩ ∧ b < w.heap.size ∧ w.cell? ⟨b, off + i, none⟩ = some (.int .i64 z)) :
    Calls Tryz.prog 29 #[.int .i64 x0, .int .i64 x1, .slice a len cap] w fun e w' => (∃ x, e = .returned x ∧ GoodLayout w' x) ∧ Below w.heap.size w w' := by
  have hs1 := pickF_in x0 12 (by decide) (by decide)
  have hd1 := pickF_in x1 21 (by decide) (by decide)
  have hpk0 := fun wx => pick_any x0 12 wx (by decide) (by decide)
  have hpk1 := fun wx => pick_any x1 21 wx (by decide) (by decide)
  obtain ⟨p, hp⟩ := Int.eq_ofNat_of_zero_le hs1.1
  obtain ⟨d, hd⟩ := Int.eq_ofNat_of_zero_le hd1.1
  rw [hp] at hs1 hpk0
  rw [hd] at hd1 hpk1
  have HP0 := hide hpk0
  have HP1 := hide hpk1
  clear hp hd hpk0 hpk1
  obtain ⟨hs0, hs1⟩ := hs1
  obtain ⟨hd0, hd1⟩ := hd1
  go_enter Tryz.func29, Tryz.ntmps29
  go_wp2_with fail
  refine (unhide HP0 _).mono ?_
  rintro e w' ⟨rfl, rfl⟩
  go_wp2_with fail
  refine (unhide HP1 _).mono ?_
  rintro e w' ⟨rfl, rfl⟩
  clear HP0 HP1
  go_wp2
  have HS := hide (linv_start w p d)
  obtain ⟨sn, hsn⟩ : ∃ sn, Hid (p + 1 = sn) := ⟨_, hide rfl⟩
  rw [hsn.out] at HS
  have hsb : 1 ≤ sn ∧ sn ≤ 12 := by have := hsn.out; omega
  obtain ⟨hsb1, hsb2⟩ := hsb
  have hdb : d ≤ 20 := by omega
  have htop := top_in sn hsb1 hsb2
  have htp := top_pow sn hsb2
  obtain ⟨T, hT⟩ : ∃ T, Hid (top sn = T) := ⟨_, hide rfl⟩
  rw [hT.out] at htop htp
  obtain ⟨ht1, ht2⟩ := htop
  obtain ⟨i0, hi, hz0, hz1, hz2⟩ := info_parts infoInt
  have HI := hide hi
  have HZ0 := hide hz0
  have HZ1 := hide hz1
  have HZ2 := hide hz2
  have HT := hide htp
  clear hi hz0 hz1 hz2 htp
  go_loopw [8] (fun i wr => ∃ k : Nat, k ≤ len ∧ i = .int .i64 k ∧ ∃ v zs, LInv w wr w.heap.size sn d v zs) (fun i _ => len - (intOf i).toNat)
  case atStart => exact ⟨0, Nat.zero_le _, rfl, _, _, HS.out⟩
  case round =>
    clear HS
    obtain ⟨k, hk, rfl, v, zs, hI⟩ := hrel
    obtain ⟨av, cv, rfl, hcv, hvc⟩ := hI.shape
    have HVC := hide hvc
    clear hvc
    have hfew := hI.few
    have hb1 : wr.cell? ⟨w.heap.size + 1, 1, none⟩ = some (.slice av zs.length cv) := by rw [block_cell hI.box]; rfl
    by_cases hgo : k < len ∧ zs.length < 8
    · obtain ⟨hgo1, hgo2⟩ := hgo
      obtain ⟨b, off, z, rfl, hbb, hcz⟩ := hrt k hgo1
      clear hrt
      have hcz' : wr.cell? ⟨b, off + k, none⟩ = some (.int .i64 z) := (hI.old.cell (p := ⟨b, off + k, none⟩) hbb).trans hcz
      have hb0 : wr.cell? ⟨w.heap.size + 1, 0, none⟩ = some (.int .i64 (sn : Int)) := by rw [block_cell hI.box]; rfl
      clear hcz
      have hpk := fun wx => pick_any z T wx (by omega) (by omega)
      have hpb := pickF_in z T (by omega) (by omega)
      obtain ⟨q, hq⟩ : ∃ q, Hid (pickF z T = q) := ⟨_, hide rfl⟩
      rw [hq.out] at hpk hpb
      rw [← HT.out] at hpk
      obtain ⟨hpb1, hpb2⟩ := hpb
      have HPK := hide hpk
      clear hpk
      go_wp2_with fail
      go_quiet ((go_at_call 25; exact Calls.quiet_of_same (unhide HPK _)))
      clear HPK hcz' hb0
      go_wp2
      go_loop [10, 11] (fun t i => ∃ m : Nat, m ≤ zs.length ∧ i = .int .i64 m ∧ ∃ tb, t = .bool tb ∧ Hid (decide (1 + q ∈ zs.take m) = tb)) (fun _ i => zs.length - (intOf i).toNat)
      case atStart => exact ⟨0, Nat.zero_le _, rfl, false, rfl, by simp [Hid]⟩
      case round =>
        obtain ⟨m, hm, rfl, tb, rfl, Htb⟩ := hrel
        by_cases hlt : m < zs.length
        · obtain ⟨g, rfl, _, _, hcg⟩ := unhide HVC m hlt
          obtain ⟨y, hy⟩ : ∃ y, Hid (zs[m]?.getD 0 = y) := ⟨_, hide rfl⟩
          rw [hy.out] at hcg
          have hmem := mem_take_succ zs m (1 + q) hlt
          rw [hy.out, Htb.out] at hmem
          have HM := hide hmem
          clear hmem
          cases tb
          · go_wp2
            go_round
            case rel => exact ⟨m + 1, by omega, by go_num, _, rfl, by rw [Hid, HM.out]; rfl⟩
            case measure => simp [intOf]; omega
          · go_wp2
            go_round
            case rel => exact ⟨m + 1, by omega, by go_num, _, rfl, by rw [Hid, HM.out]; rfl⟩
            case measure => simp [intOf]; omega
        · have hme : m = zs.length := by omega
          subst hme
          clear hlt
          rw [List.take_length] at Htb
          cases tb
          · go_wp2_with (at_builtin; refine wpList_append_own _ rfl _ _ 22 rfl (w.heap.size + 2) 3 i0 (.int .i64 0) 1 8 Tryz.underlying22 HI.out HZ0.out HZ1.out HZ2.out rfl (by decide) _ _ _ rfl (hI.drewN.own.alloc _) ⟨_, 0, none⟩ 1 1 [.int .i64 (1 + q)] rfl rfl ?c1 ?c2 ?c3 ?c4 ?c5 ?_)
            case c1 =>
              intro j u hj
              match j, hj with
              | 0, hj => simp at hj; subst hj; exact World.cell?_alloc_at _ _ _ _ rfl
            case c2 => rfl
            case c3 => unfold maxLen; omega
            case c4 => omega
            case c5 => have := block_lt hI.box; omega
            intro v' w1 hown hgrow _
            have hnot : 1 + q ∉ zs := of_decide_eq_false Htb.out
            obtain ⟨g', cap', rfl⟩ : ∃ g' cap', v' = .slice (some ⟨g', 0, none⟩) (zs.length + 1) cap' := by
              rcases hown.2 with ⟨_, h0⟩ | ⟨g', cap', _, h0, _⟩
              · omega
              · exact ⟨g', cap', h0⟩
            have R := LInv.put hI.drewN hown hgrow (by rw [hT.out]; omega) hnot hgo2
            have hx := hI.put_box (n := nq) hgrow
            have hx1 : w1.cell? ⟨w.heap.size + 1, 1, none⟩ = some (.slice av zs.length cv) := by rw [block_cell hx]; rfl
            have hx2 : w1.frozen? ⟨w.heap.size + 1, 1, none⟩ = false := block_free hx 1
            clear hx hown hgrow hb1 hnot
            go_wp2
            go_roundw
            case rel => exact ⟨k + 1, by omega, by go_num, _, _, R⟩
            case measure => simp [intOf]; omega
          · go_wp2
            go_roundw
            case rel => exact ⟨k + 1, by omega, by go_num, _, _, hI.drewN⟩
            case measure => simp [intOf]; omega
    · clear hrt HI HZ0 HZ1 HZ2 HT
      have hb0 : wr.cell? ⟨w.heap.size + 1, 0, none⟩ = some (.int .i64 (sn : Int)) := by rw [block_cell hI.box]; rfl
      have hb2 : wr.cell? ⟨w.heap.size + 1, 2, none⟩ = some (.int .i64 (d : Int)) := by rw [block_cell hI.box]; rfl
      have hbf : wr.frozen? ⟨w.heap.size + 1, 1, none⟩ = false := block_free hI.box 1
      have hr0 : wr.cell? ⟨w.heap.size, 0, none⟩ = some (.int .i64 0) := by rw [block_cell hI.res]; rfl
      have hr1 : wr.cell? ⟨w.heap.size, 1, none⟩ = some (.slice none 0 0) := by rw [block_cell hI.res]; rfl
      have hr2 : wr.cell? ⟨w.heap.size, 2, none⟩ = some (.int .i64 0) := by rw [block_cell hI.res]; rfl
      have hf0 : wr.frozen? ⟨w.heap.size, 0, none⟩ = false := block_free hI.res 0
      have hf1 : wr.frozen? ⟨w.heap.size, 1, none⟩ = false := block_free hI.res 1
      have hf2 : wr.frozen? ⟨w.heap.size, 2, none⟩ = false := block_free hI.res 2
      have hsz : w.heap.size + 1 < wr.heap.size := block_lt hI.box
      have hsz0 : w.heap.size < wr.heap.size := by omega
      by_cases hz : zs.length = 0
      · have hzs : zs = [] := List.length_eq_zero_iff.1 hz
        subst hzs
        have hkn : ¬ k < len := fun h => hgo ⟨h, by simp⟩
        clear hgo hz
        go_wp2
        refine bodyPost_ret (v := .agg #[.int .i64 (sn : Int), .slice (some ⟨wr.heap.size, 0, none⟩) 1 1, .int .i64 (d : Int)]) (by simp [results, Tryz.results29, go_sem, hr0, hr1, hr2, hsz0]) rfl ⟨⟨_, rfl, linv_one hsb1 hsb2 hdb ?_ ?_⟩, ?_⟩
        · exact World.cell?_alloc_at _ _ _ _ (by simp [World.setCell])
        · simp [World.setCell]
        · exact ((((hI.old.setCell (Nat.le_succ _) _).setCell (Nat.le_refl _) _).setCell (Nat.le_refl _) _).setCell (Nat.le_refl _) _).alloc (by simp [World.setCell]; omega) _
      · by_cases hkn : k < len
        · have hz8 : ¬ zs.length < 8 := fun h => hgo ⟨hkn, h⟩
          obtain ⟨g, rfl, _, _, _⟩ := unhide HVC 0 (by omega)
          clear hgo
          go_wp2
          refine bodyPost_ret (v := .agg #[.int .i64 (sn : Int), .slice (some ⟨g, 0, none⟩) zs.length cv, .int .i64 (d : Int)]) (by simp [results, Tryz.results29, go_sem, hr0, hr1, hr2]) rfl ⟨⟨_, rfl, linv_done hI hsb1 hsb2 hdb hz ?_⟩, ?_⟩
          · intro j hj
            rw [Below.heap_setCell _ _ _ _ (by show j ≠ w.heap.size; omega), Below.heap_setCell _ _ _ _ (by show j ≠ w.heap.size; omega), Below.heap_setCell _ _ _ _ (by show j ≠ w.heap.size; omega)]
          · exact ((hI.old.setCell (Nat.le_refl _) _).setCell (Nat.le_refl _) _).setCell (Nat.le_refl _) _
        · obtain ⟨g, rfl, _, _, _⟩ := unhide HVC 0 (by omega)
          clear hgo
          go_wp2
          refine bodyPost_ret (v := .agg #[.int .i64 (sn : Int), .slice (some ⟨g, 0, none⟩) zs.length cv, .int .i64 (d : Int)]) (by simp [results, Tryz.results29, go_sem, hr0, hr1, hr2]) rfl ⟨⟨_, rfl, linv_done hI hsb1 hsb2 hdb hz ?_⟩, ?_⟩
          · intro j hj
            rw [Below.heap_setCell _ _ _ _ (by show j ≠ w.heap.size; omega), Below.heap_setCell _ _ _ _ (by show j ≠ w.heap.size; omega), Below.heap_setCell _ _ _ _ (by show j ≠ w.heap.size; omega)]
          · exact ((hI.old.setCell (Nat.le_refl _) _).setCell (Nat.le_refl _) _).setCell (Nat.le_refl _) _

end Go.Proofs.YtaablbmgagiajabGreatDoor

/- The contract of triumvirkeep.fits. -/
namespace Go.Proofs.YtaablbmgagiajabGreatDoor
open Go.RowKit Go.Deep

/-- A step, as it is handed in. -/
structure SD where
  wh : Int
  k : Int
  n : Int
  x : Int
  y : Int
  F : FR
  ba : Option Addr
  bl : Nat
  bc : Nat
  bs : List Nat
def sdL (X : SD) : List Value := [.int .i64 X.wh, .int .i64 X.k, .int .i64 X.n, .int .i64 X.x, .int .i64 X.y] ++ (fCells X.F).toList ++ [.slice X.ba X.bl X.bc]
theorem sdL_len (X : SD) : (sdL X).length = 29 := by simp [sdL, fCells_size]
theorem sdL_bytes (X : SD) : (sdL X)[28]? = some (.slice X.ba X.bl X.bc) := by
  unfold sdL
  rw [List.getElem?_append_right (by simp [fCells_size])]
  simp [fCells_size]
def StepAt (w : World) (al : Option Addr) (ll : Nat) : Prop := ∀ i, i < ll → ∃ (b off : Nat) (X : SD), al = some ⟨b, off, none⟩ ∧ b < w.heap.size ∧ w.rangeAt b (off + i * 29) (sdL X) ∧ IsB w X.ba X.bl X.bc X.bs ∧ X.bl ≤ maxLen
theorem StepAt.below {w wx : World} {al : Option Addr} {ll : Nat} (h : StepAt w al ll) (hB : Below w.heap.size w wx) : StepAt wx al ll := fun i hi => by
  obtain ⟨b, off, X, h1, h2, h3, h4, h5⟩ := h i hi
  exact ⟨b, off, X, h1, Nat.lt_of_lt_of_le h2 hB.size, fun j v hv => (hB.cell (p := ⟨b, off + i * 29 + j, none⟩) h2).trans (h3 j v hv), h4.below hB, h5⟩

set_option maxHeartbeats 2000000 in
set_option maxRecDepth 20000 in
theorem fits_any (al : Option Addr) (ll cl : Nat) (w : World) (h : StepAt w al ll) (hm : ll ≤ maxLen) :
    Calls Tryz.prog 9 #[.slice al ll cl] w fun e w' => (∃ r : Bool, e = .returned (.bool r) ∧ (r = true → ll ≤ 120 ∧ ∀ i b off X, i < ll → al = some ⟨b, off, none⟩ → w.rangeAt b (off + i * 29) (sdL X) → X.bl ≤ 200)) ∧ w' = w := by
  unfold maxLen at hm
  by_cases hl : 120 < ll
  · clear h
    go_enter Tryz.func9, Tryz.ntmps9
    go_wp2
    go_ret
    exact ⟨⟨false, rfl, fun h => Bool.noConfusion h⟩, rfl⟩
  · have HS := hide h
    clear h
    go_enter Tryz.func9, Tryz.ntmps9
    go_wp2
    go_loopw [3] (fun i wr => ∃ k : Nat, k ≤ ll ∧ i = .int .i64 k ∧ wr = w ∧ ∀ i b off X, i < k → al = some ⟨b, off, none⟩ → w.rangeAt b (off + i * 29) (sdL X) → X.bl ≤ 200) (fun i _ => ll - (intOf i).toNat)
    case atStart => exact ⟨0, Nat.zero_le _, rfl, rfl, fun i b off X hi => absurd hi (Nat.not_lt_zero _)⟩
    case round =>
      obtain ⟨k, hk, rfl, rfl, hall⟩ := hrel
      have HA := hide hall
      clear hall
      by_cases hlt : k < ll
      · obtain ⟨b, off, X, rfl, hb, hr, hB, hX⟩ := HS.out k hlt
        have c28 : wr.cell? ⟨b, off + k * 29 + 28, none⟩ = some (.slice X.ba X.bl X.bc) := hr 28 _ (sdL_bytes X)
        have HR := hide hr
        unfold maxLen at hX
        obtain ⟨bl, hbl⟩ : ∃ bl, Hid (X.bl = bl) := ⟨_, hide rfl⟩
        rw [hbl.out] at c28 hX
        clear hr hB
        by_cases h2 : 200 < bl
        · go_wp2
          go_ret
          exact ⟨⟨false, rfl, fun h => Bool.noConfusion h⟩, rfl⟩
        · go_wp2
          go_roundw
          case rel =>
            refine ⟨k + 1, by omega, by go_num, by first | rfl | trivial, fun i b' off' X' hi he hr' => ?_⟩
            by_cases e : i < k
            · exact HA.out i b' off' X' e he hr'
            · have ei : i = k := by omega
              subst ei
              simp at he
              obtain ⟨rfl, rfl⟩ := he
              have c1 := hr' 28 _ (sdL_bytes X')
              rw [c28] at c1
              simp at c1
              omega
          case measure => simp [intOf]; omega
      · have hke : k = ll := by omega
        subst hke
        go_wp2
        go_ret
        exact ⟨⟨true, rfl, fun _ => ⟨by omega, HA.out⟩⟩, rfl⟩
end Go.Proofs.YtaablbmgagiajabGreatDoor

/- The contract of triumvirkeep.tells. -/
namespace Go.Proofs.YtaablbmgagiajabGreatDoor
open Go.RowKit Go.Deep

set_option maxHeartbeats 2000000 in
set_option maxRecDepth 20000 in
theorem tells_any (x0 x1 x2 x3 : Int) (a : Option Addr) (len cap : Nat) (w : World) (hl : len ≤ 30) (hrt : ∀ i, i < len → ∃ b off z, a = some ⟨b, off, none⟩ ∧ b < w.heap.size ∧ w.cell? ⟨b, off + i, none⟩ = some (.int .i64 z)) :
    Calls Tryz.prog 11 #[.int .i64 x0, .int .i64 x1, .slice a len cap, .int .i64 x2, .int .i64 x3] w fun e w' => (∃ N q E L, e = .returned (.pointer (some ⟨q, 0, none⟩)) ∧ w.heap.size ≤ q ∧ LOk L ∧ TaIs w' N q E L (3 + (pickF x2 18).toNat) (pickF x3 4).toNat ⟨sy0 (3 + (pickF x2 18).toNat), fun _ => 0, fun _ => 0, []⟩) ∧ Below w.heap.size w w' := by
  obtain ⟨w1', w2'⟩ := pickF_in x2 18 (by decide) (by decide)
  obtain ⟨l1, l2⟩ := pickF_in x3 4 (by decide) (by decide)
  have HPW := hide fun wx => pick_any x2 18 wx (by decide) (by decide)
  have HPL := hide fun wx => pick_any x3 4 wx (by decide) (by decide)
  obtain ⟨wi, hwi⟩ := Int.eq_ofNat_of_zero_le w1'
  obtain ⟨li, hli⟩ := Int.eq_ofNat_of_zero_le l1
  rw [hwi] at HPW w2' ⊢
  rw [hli] at HPL l2 ⊢
  rw [Int.toNat_natCast, Int.toNat_natCast]
  have HLN := hide (line_any x0 x1 a len cap w hl hrt)
  clear hrt hwi hli w1' l1
  go_enter Tryz.func11, Tryz.ntmps11
  go_wp2_with (go_at_call 29; refine HLN.out.mono ?_)
  rintro e w2 ⟨⟨x, rfl, s, d, b, off, n, cp, zs, rfl, hn, hcp, hb, hrow, hok⟩, hB2⟩
  have HB2 := hide hB2
  have hw2 : w.heap.size ≤ w2.heap.size := hB2.size
  have HROW := hide hrow
  have hr := range_pos hok
  unfold rangeB at hr
  simp only [Bool.and_eq_true, inB_iff] at hr
  obtain ⟨⟨⟨bs1, bs2⟩, b21, b22⟩, bd1, bd2⟩ := hr
  obtain ⟨sn, rfl⟩ := Int.eq_ofNat_of_zero_le (show 0 ≤ s by omega)
  obtain ⟨dn, rfl⟩ := Int.eq_ofNat_of_zero_le bd1
  obtain ⟨L, hLs, hLd, hLn, hLz⟩ : ∃ L : RC, Hid (L.s = sn) ∧ Hid (L.d = dn) ∧ Hid (L.n = n) ∧ Hid (L.zs = zs) := ⟨⟨sn, dn, n, zs, 0, 0, 0, 0, 0, 0⟩, hide rfl, hide rfl, hide rfl, hide rfl⟩
  have HL : Hid (LOk L) := hide ⟨by rw [hLs.out, hLz.out, hLd.out]; exact hok, by rw [hLz.out, hLn.out]; exact hn⟩
  clear hB2 hrow hok HLN bs1 bs2 b21 b22 bd1 bd2
  obtain ⟨W, hW⟩ : ∃ W, Hid (w2.alloc (.cells #[.pointer none, .int .i64 (sn : Int), .slice (some ⟨b, off, none⟩) n cp, .int .i64 (dn : Int), .int .i64 (li : Int), .int .i64 0, .int .i64 0, .int .i64 0, .int .i64 0, .int .i64 0, .int .i64 0, .slice none 0 0] 46) = W) := ⟨_, hide rfl⟩
  have hBW : Below w2.heap.size w2 W := by rw [← hW.out]; exact (Below.refl _ _).alloc (Nat.le_refl _) _
  have hbW : W.heap[w2.heap.size]? = some (.cells #[.pointer none, .int .i64 (sn : Int), .slice (some ⟨b, off, none⟩) n cp, .int .i64 (dn : Int), .int .i64 (li : Int), .int .i64 0, .int .i64 0, .int .i64 0, .int .i64 0, .int .i64 0, .int .i64 0, .slice none 0 0] 46 (0, 0)) := by rw [← hW.out]; exact blk_new _ _
  have hsW : W.heap.size = w2.heap.size + 1 := by rw [← hW.out]; simp
  have HNW : Hid (∀ wx, Below W.heap.size W wx → Calls Tryz.prog 24 #[.agg #[.int .i64 (sn : Int), .slice (some ⟨b, off, none⟩) n cp, .int .i64 (dn : Int)], .int .i64 (3 + wi : Int)] wx fun e w' => (∃ pd, e = .returned (.tuple #[.pointer (some ⟨pd, 0, none⟩), .nilIface]) ∧ (w'.cell? ⟨w2.heap.size, 0, none⟩ = some (.pointer none) ∧ w'.frozen? ⟨w2.heap.size, 0, none⟩ = false) ∧ Hid (w'.cell? ⟨w2.heap.size, 1, none⟩ = some (.int .i64 (sn : Int)) ∧ w'.cell? ⟨w2.heap.size, 2, none⟩ = some (.slice (some ⟨b, off, none⟩) n cp) ∧ w'.cell? ⟨w2.heap.size, 3, none⟩ = some (.int .i64 (dn : Int))) ∧
      Hid ((∃ N q E L, (.pointer (some ⟨w2.heap.size, 0, none⟩) : Value) = .pointer (some ⟨q, 0, none⟩) ∧ w.heap.size ≤ q ∧ LOk L ∧ TaIs (w'.setCell ⟨w2.heap.size, 0, none⟩ (.pointer (some ⟨pd, 0, none⟩))) N q E L (3 + wi) li ⟨sy0 (3 + wi), fun _ => 0, fun _ => 0, []⟩) ∧ Below w.heap.size w (w'.setCell ⟨w2.heap.size, 0, none⟩ (.pointer (some ⟨pd, 0, none⟩)))))) := hide fun wx hx => by
    have hrx : Row wx b off L.zs := by rw [hLz.out]; exact (HROW.out.below hb hBW).below (B := W.heap.size) (by omega) hx
    have key := synew_any W.heap.size L (3 + wi) b off cp wx HL.out (by omega) (by omega) (Nat.lt_of_lt_of_le (by omega) hx.size) hrx hx.size
    rw [hLs.out, hLd.out, hLn.out, show ((3 + wi : Nat) : Int) = 3 + (wi : Int) by omega] at key
    refine key.mono ?_
    rintro e w' ⟨⟨D, rfl, hD, hS⟩, hB⟩
    have hBx : Below W.heap.size W w' := hx.trans (hB.mono hx.size)
    have hb' := (hBx.block w2.heap.size (by omega)).trans hbW
    have hm : Mod w' (w'.setCell ⟨w2.heap.size, 0, none⟩ (.pointer (some ⟨D.p, 0, none⟩))) (· = w2.heap.size) := (Mod.refl _ _).set _ _ (fun _ => rfl)
    refine ⟨D.p, rfl, ⟨(blk_cell hb' 0).trans rfl, blk_free hb' 0⟩, hide ⟨(blk_cell hb' 1).trans rfl, (blk_cell hb' 2).trans rfl, (blk_cell hb' 3).trans rfl⟩, hide ⟨⟨W.heap.size, w2.heap.size, ⟨D, b, off, cp, .slice none 0 0, b⟩, L, rfl, hw2, HL.out, ?_⟩, ?_⟩⟩
    · refine ⟨?_, ?_, ?_, World.ownsRow_nil _ _ _ _, ⟨by show b < W.heap.size; omega, by show b ≠ w2.heap.size; omega⟩, by omega, fun y _ e => by simp [Value.ownBlock] at e, by rw [hLn.out]; exact hcp, Nat.le_trans hBx.size hm.size, ⟨fun y => ?_, by show b ≠ w2.heap.size; omega⟩, by simp [Value.ownBlock], ?_⟩
      · rw [blk_set hb' 0]
        unfold taC
        rw [hLs.out, hLn.out, hLd.out]
        rfl
      · intro k hk
        rw [World.cell?_of_block (w := w') (hm.block b (by have := hBx.size; omega) (by omega))]
        exact (hrx.below (B := wx.heap.size) (Nat.lt_of_lt_of_le (by omega) hx.size) hB) k hk
      · refine hS.far hm (fun k e y => ?_) (fun k e y => ?_) (fun k e y => ?_)
        · have := hS.base k y; omega
        · have := hS.sbase k y; omega
        · subst e
          exact TyAt.ne ⟨_, _, hb'⟩ y (by decide) rfl
      · have y' : W.heap.size ≤ b := hS.base b y
        omega
      · show b < (w'.setCell _ _).heap.size
        have := hBx.size
        have := hm.size
        omega
    · exact (HB2.out.trans ((hBW.trans (hBx.mono (by omega))).mono hw2)).setCell hw2 _
  have c1 : W.cell? ⟨w2.heap.size, 1, none⟩ = some (.int .i64 (sn : Int)) := (blk_cell hbW 1).trans rfl
  have c2 : W.cell? ⟨w2.heap.size, 2, none⟩ = some (.slice (some ⟨b, off, none⟩) n cp) := (blk_cell hbW 2).trans rfl
  have c3 : W.cell? ⟨w2.heap.size, 3, none⟩ = some (.int .i64 (dn : Int)) := (blk_cell hbW 3).trans rfl
  clear hBW hbW HROW HB2
  go_wp2_with (go_at_call 25; refine (unhide HPL _).mono ?_)
  rintro e wz ⟨rfl, hwz⟩
  subst wz
  go_wp2_with fail
  rw [show w2.alloc (.cells #[.pointer none, .int .i64 (sn : Int), .slice (some ⟨b, off, none⟩) n cp, .int .i64 (dn : Int), .int .i64 (li : Int), .int .i64 0, .int .i64 0, .int .i64 0, .int .i64 0, .int .i64 0, .int .i64 0, .slice none 0 0] 46) = W from hW.out]
  clear hW HPL
  refine wp_region_held_drew (S := fun w' => w'.cell? ⟨w2.heap.size, 1, none⟩ = some (.int .i64 (sn : Int)) ∧ w'.cell? ⟨w2.heap.size, 2, none⟩ = some (.slice (some ⟨b, off, none⟩) n cp) ∧ w'.cell? ⟨w2.heap.size, 3, none⟩ = some (.int .i64 (dn : Int))) (by kernel_rfl) ⟨c1, c2, c3⟩ (fun hHeld => ?_)
  refine wpAnyH_take (i := 0) (oi := _) (v := .pointer (some ⟨w2.heap.size, 0, none⟩)) rfl (by kernel_rfl) (by kernel_rfl) (by kernel_rfl) (fun _ _ _ h => h) (Or.inl ⟨by rfl, fun w _ => by go_simp⟩) hHeld ?_
  refine wpAnyH_take (i := 1) (oi := _) (v := .pointer (some ⟨w2.heap.size, 0, none⟩)) rfl (by kernel_rfl) (by kernel_rfl) (by kernel_rfl) (fun _ _ _ h => h) (Or.inl ⟨by rfl, fun w _ => by go_simp⟩) hHeld ?_
  refine wpAnyH_take (i := 2) (oi := _) (v := .pointer (some ⟨w2.heap.size, 1, none⟩)) rfl (by kernel_rfl) (by kernel_rfl) (by kernel_rfl) (fun _ _ _ h => h) (Or.inl ⟨by rfl, fun w _ => by go_simp⟩) hHeld ?_
  refine wpAnyH_take (i := 3) (oi := _) (v := .agg #[.int .i64 (sn : Int), .slice (some ⟨b, off, none⟩) n cp, .int .i64 (dn : Int)]) rfl (by kernel_rfl) (by kernel_rfl) (by kernel_rfl) (fun _ _ _ h => h) (Or.inl ⟨by rfl, fun w h => by obtain ⟨h1, h2, h3⟩ := h; go_simp⟩) hHeld ?_
  refine wpAnyH_take (i := 4) (oi := _) (v := .int .i64 x2) rfl (by kernel_rfl) (by kernel_rfl) (by kernel_rfl) (fun _ _ _ h => h) (Or.inl ⟨by rfl, fun w _ => by go_simp⟩) hHeld ?_
  refine wpAnyH_ready (rs := [5]) (by kernel_rfl) (by simp) ?_
  refine AllReadyH.cons (o := _) rfl (fun K hK => ?_) AllReadyH.nil
  rw [if_pos (by rfl)]
  go_simp
  go_at_call 25
  refine (unhide HPW _).mono ?_
  rintro e w5 ⟨rfl, rfl⟩
  dsimp only
  refine hK.out _ _ ⟨c1, c2, c3⟩ (fun hHeld => ?_)
  clear hK K
  refine wpAnyH_take (i := 6) (oi := _) (v := .int .i64 (3 + wi : Int)) rfl (by kernel_rfl) (by kernel_rfl) (by kernel_rfl) (fun _ _ _ h => h) (Or.inl ⟨by rfl, fun w _ => by go_simp; simp [IntKind.wrap, IntKind.bits, IntKind.signed]; omega⟩) hHeld ?_
  refine wpAnyH_ready (rs := [7]) (by kernel_rfl) (by simp) ?_
  refine AllReadyH.cons (o := _) rfl (fun K hK => ?_) AllReadyH.nil
  rw [if_pos (by rfl)]
  go_simp
  go_at_call 24
  refine (unhide HNW _ (Below.refl _ _).drew).mono ?_
  rintro e w6 ⟨pd, rfl, ⟨z0, z1⟩, HS6, HM⟩
  dsimp only
  refine hK.out _ _ HS6.out (fun hHeld => ?_)
  clear hK K
  refine wpAnyH_take (i := 8) (oi := _) (v := .tuple #[.pointer (some ⟨pd, 0, none⟩), .nilIface]) rfl (by kernel_rfl) (by kernel_rfl) (by kernel_rfl) (fun _ _ _ h => h) (Or.inl ⟨by rfl, fun w _ => by go_simp⟩) hHeld ?_
  refine wpAnyH_take (i := 9) (oi := _) (v := .pointer (some ⟨pd, 0, none⟩)) rfl (by kernel_rfl) (by kernel_rfl) (by kernel_rfl) (fun _ _ _ h => h) (Or.inl ⟨by rfl, fun w _ => by go_simp⟩) hHeld ?_
  refine wpAnyH_take (i := 10) (oi := _) (v := .nilIface) rfl (by kernel_rfl) (by kernel_rfl) (by kernel_rfl) (fun _ _ _ h => h) (Or.inl ⟨by rfl, fun w _ => by go_simp⟩) hHeld ?_
  refine wpAnyH_take (i := 11) (oi := _) (v := .pointer (some ⟨pd, 0, none⟩)) rfl (by kernel_rfl) (by kernel_rfl) (by kernel_rfl) (fun _ _ _ h => h) (Or.inl ⟨by rfl, fun w _ => by go_simp⟩) hHeld ?_
  refine wpAnyH_take (i := 12) (oi := _) (v := .nilIface) rfl (by kernel_rfl) (by kernel_rfl) (by kernel_rfl) (fun _ _ _ h => h) (Or.inl ⟨by rfl, fun w _ => by go_simp⟩) hHeld ?_
  refine wpAnyH_done (by kernel_rfl) ?_ _
  go_wp2_with fail
  go_ret
  obtain ⟨⟨N, q, E, L', e1, h1⟩, h2⟩ := HM.out
  exact ⟨⟨N, q, E, L', congrArg Ending.returned e1, h1⟩, h2⟩
end Go.Proofs.YtaablbmgagiajabGreatDoor

/- A tale's does: the beginning. -/
namespace Go.Proofs.YtaablbmgagiajabGreatDoor
open Go.RowKit Go.Deep

theorem dst_rem (l j : Nat) (hl : l < 3) (hj : j < 3) : ((l : Int) + 1 + (j : Int)).tmod 4 = (((l + 1 + j) % 4 : Nat) : Int) := by
  rcases (by omega : l = 0 ∨ l = 1 ∨ l = 2) with rfl | rfl | rfl <;> rcases (by omega : j = 0 ∨ j = 1 ∨ j = 2) with rfl | rfl | rfl <;> decide
/-- Behind the box of what is handed in. -/
structure DoIn (V w : World) (N q : Nat) (E : TC) (L : RC) (win liar : Nat) (A : TS) (X : SD) : Prop where
  old : Below w.heap.size w V
  ta : TaIs V N q E L win liar A
  box : V.heap[w.heap.size]? = some (.cells (sdL X).toArray 39 (0, 0))
section
variable {V w : World} {N q : Nat} {E : TC} {L : RC} {win liar : Nat} {A : TS} {X : SD}
theorem DoIn.at (h : DoIn V w N q E L win liar A X) (j : Nat) : V.cell? ⟨w.heap.size, j, none⟩ = (sdL X)[j]? := (blk_cell h.box j).trans (by simp)
theorem DoIn.x0 (h : DoIn V w N q E L win liar A X) : V.cell? ⟨w.heap.size, 0, none⟩ = some (.int .i64 X.wh) := (h.at 0).trans rfl
theorem DoIn.x1 (h : DoIn V w N q E L win liar A X) : V.cell? ⟨w.heap.size, 1, none⟩ = some (.int .i64 X.k) := (h.at 1).trans rfl
theorem DoIn.x2 (h : DoIn V w N q E L win liar A X) : V.cell? ⟨w.heap.size, 2, none⟩ = some (.int .i64 X.n) := (h.at 2).trans rfl
theorem DoIn.x3 (h : DoIn V w N q E L win liar A X) : V.cell? ⟨w.heap.size, 3, none⟩ = some (.int .i64 X.x) := (h.at 3).trans rfl
theorem DoIn.x4 (h : DoIn V w N q E L win liar A X) : V.cell? ⟨w.heap.size, 4, none⟩ = some (.int .i64 X.y) := (h.at 4).trans rfl
theorem DoIn.x28 (h : DoIn V w N q E L win liar A X) : V.cell? ⟨w.heap.size, 28, none⟩ = some (.slice X.ba X.bl X.bc) := (h.at 28).trans (sdL_bytes X)
theorem DoIn.c0 (h : DoIn V w N q E L win liar A X) : V.cell? ⟨q, 0, none⟩ = some (.pointer (some ⟨E.D.p, 0, none⟩)) := (h.ta.at 0).trans rfl
theorem DoIn.c4 (h : DoIn V w N q E L win liar A X) : V.cell? ⟨q, 4, none⟩ = some (.int .i64 (liar : Int)) := (h.ta.at 4).trans rfl
theorem DoIn.below {V' : World} (h : DoIn V w N q E L win liar A X) (hB : Below V.heap.size V V') : DoIn V' w N q E L win liar A X := ⟨h.old.trans (hB.mono h.old.size), h.ta.below hB, (hB.block _ (blk_lt h.box)).trans h.box⟩
theorem DoIn.went (h : DoIn V w N q E L win liar A X) {w' : World} {S' : SY} (hg : SyGo V w' N E.D L win S') : TaGo w w' N q E L win liar ⟨S', A.fx, A.fy, A.seen⟩ := (h.ta.went hg).pre h.old
theorem taC_put (E : TC) (L : RC) (liar : Nat) (A : TS) {k : Nat} (hk : k < 3) (x y : Int) : ((taC E L liar A).setIfInBounds (5 + k * 2) (.int .i64 x)).setIfInBounds (5 + k * 2 + 1) (.int .i64 y) = taC E L liar ⟨A.S, upd A.fx k x, upd A.fy k y, A.seen⟩ := by
  rcases (by omega : k = 0 ∨ k = 1 ∨ k = 2) with rfl | rfl | rfl <;> simp [taC, upd]
theorem DoIn.stay (h : DoIn V w N q E L win liar A X) {w2 : World} {S' : SY} (hg : SyGo V w2 N E.D L win S') (j : Nat) : w2.cell? ⟨w.heap.size, j, none⟩ = (sdL X)[j]? := (blk_cell (hg.stays h.ta.sy h.box (by decide)) j).trans (by simp)
theorem DoIn.frame (h : DoIn V w N q E L win liar A X) : V.rangeAt w.heap.size 5 (fCells X.F).toList := fun j v hv => by
  have hj : j < 23 := by have := (List.getElem?_eq_some_iff.1 hv).1; simpa [fCells_size] using this
  rw [h.at (5 + j)]
  unfold sdL
  rw [List.getElem?_append_left (by simp [fCells_size]; omega), List.getElem?_append_right (by simp)]
  simpa using hv
/-- A field is written. -/
theorem TaIs.fieldsM (h : TaIs V N q E L win liar A) {V' : World} (hm : Mod V V' (· = q)) {fx fy : Nat → Int} (hb : V'.heap[q]? = some (.cells (taC E L liar ⟨A.S, fx, fy, A.seen⟩) 46 (0, 0))) : TaIs V' N q E L win liar ⟨A.S, fx, fy, A.seen⟩ := by
  have lq := h.lq
  have h1 : Row V' E.b E.off L.zs := fun j hj => by
    rw [World.cell?_of_block (w := V) (hm.block E.b (Nat.lt_of_lt_of_le h.lb.1 h.size) h.lb.2)]
    exact h.row j hj
  have h2 : SyIs V' N E.D L win A.S := by
    refine h.sy.far hm (fun k e y => ?_) (fun k e y => ?_) (fun k e y => ?_)
    · have := h.sy.base k y; omega
    · have := h.sy.sbase k y; omega
    · subst e
      exact TyAt.ne ⟨_, _, h.blk⟩ y (by decide) rfl
  have h3 : V'.ownsRow N 129 5 E.sv A.seen.length (sgL A.seen) := ownsRow_mod h.seen hm fun g hg e => by have := (h.seen.lt g hg).1; omega
  exact ⟨hb, h1, h2, h3, h.lb, h.lq, h.far, h.cap, Nat.le_trans h.size hm.size, h.zz.1, h.zz.2.1, Nat.lt_of_lt_of_le h.zz.2.2 hm.size⟩
def fldW (V : World) (q k : Nat) (x y : Int) : World := (V.setCell ⟨q, 5 + k * 2, none⟩ (.int .i64 x)).setCell ⟨q, 5 + k * 2 + 1, none⟩ (.int .i64 y)
theorem TaIs.fields (h : TaIs V N q E L win liar A) {k : Nat} (hk : k < 3) (x y : Int) : TaIs (fldW V q k x y) N q E L win liar ⟨A.S, upd A.fx k x, upd A.fy k y, A.seen⟩ := by
  have hb := blk_set (blk_set h.blk (5 + k * 2) (.int .i64 x)) (5 + k * 2 + 1) (.int .i64 y)
  rw [taC_put E L liar A hk] at hb
  have hm1 : Mod V (V.setCell ⟨q, 5 + k * 2, none⟩ (.int .i64 x)) (· = q) := (Mod.refl _ _).set _ _ (fun _ => rfl)
  have hm2 : Mod V (fldW V q k x y) (· = q) := hm1.set ⟨q, 5 + k * 2 + 1, none⟩ (.int .i64 y) (fun _ => rfl)
  exact h.fieldsM hm2 hb
theorem DoIn.fmod (h : DoIn V w N q E L win liar A X) (k : Nat) (x y : Int) : Mod w (fldW V q k x y) (TaW N q E.z) := by
  have hm1 : Mod w (V.setCell ⟨q, 5 + k * 2, none⟩ (.int .i64 x)) (TaW N q E.z) := (Mod.ofBelow h.old _).set _ _ (fun _ => .inl rfl)
  exact hm1.set ⟨q, 5 + k * 2 + 1, none⟩ (.int .i64 y) (fun _ => .inl rfl)
theorem fmod' {V w : World} {N q z : Nat} (h : Mod w V (TaW N q z)) (k : Nat) (x y : Int) : Mod w (fldW V q k x y) (TaW N q z) := by
  have hm1 : Mod w (V.setCell ⟨q, 5 + k * 2, none⟩ (.int .i64 x)) (TaW N q z) := h.set _ _ (fun _ => .inl rfl)
  exact hm1.set ⟨q, 5 + k * 2 + 1, none⟩ (.int .i64 y) (fun _ => .inl rfl)
theorem TaGo.mod {V' : World} {A' : TS} (hm : Mod w V (TaW N q E.z)) (h : TaGo V V' N q E L win liar A') : TaGo w V' N q E L win liar A' := h.then ⟨rfl, rfl, rfl, rfl⟩ hm
end
end Go.Proofs.YtaablbmgagiajabGreatDoor
