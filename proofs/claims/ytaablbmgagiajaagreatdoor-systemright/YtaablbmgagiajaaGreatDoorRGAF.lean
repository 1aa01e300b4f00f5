import Derived.Test.YtaablbmgagiajaaGreatDoorRGAE
namespace Go.Proofs.YtaablbmgagiajaaGreatDoor
open Go.RowKit Go.Deep
def toldN (l : List Nat) : List Nat := l.take (l.length - 4)
def lastN (l : List Nat) : List Nat := l.drop (l.length - 4)
def decF (l : List Nat) : Nat × FR :=
  if l.length < 7 ∨ 80 < l.length then (3, fr0)
  else if b4 (crc (toldN l)).toNat = lastN l then
    (if mayB (framedF (readF (toldN l))) = true ∧ encF (framedF (readF (toldN l))) = l then (0, framedF (readF (toldN l))) else (3, fr0))
  else (15, fr0)
def errV (e : Nat) : Value := if e = 0 then .nilIface else .iface 81 (.int .i64 (e : Int))
theorem dec_form {l : List Nat} (h : l.length < 7 ∨ 80 < l.length) : decF l = (3, fr0) := by unfold decF; rw [if_pos h]
theorem dec_spoilt {l : List Nat} (h1 : 7 ≤ l.length) (h2 : l.length ≤ 80) (h : ¬ b4 (crc (toldN l)).toNat = lastN l) : decF l = (15, fr0) := by unfold decF; rw [if_neg (by omega), if_neg h]
theorem dec_not {l : List Nat} (h1 : 7 ≤ l.length) (h2 : l.length ≤ 80) (h : b4 (crc (toldN l)).toNat = lastN l) (hn : ¬ (mayB (framedF (readF (toldN l))) = true ∧ encF (framedF (readF (toldN l))) = l)) : decF l = (3, fr0) := by unfold decF; rw [if_neg (by omega), if_pos h, if_neg hn]
theorem dec_ok {l : List Nat} (h1 : 7 ≤ l.length) (h2 : l.length ≤ 80) (h : b4 (crc (toldN l)).toNat = lastN l) (hn : mayB (framedF (readF (toldN l))) = true ∧ encF (framedF (readF (toldN l))) = l) : decF l = (0, framedF (readF (toldN l))) := by unfold decF; rw [if_neg (by omega), if_pos h, if_pos hn]
theorem IsB.row {w : World} {a : Option Addr} {len cap : Nat} {l : List Nat} (h : IsB w a len cap l) (h0 : 0 < len) : ∃ b off, a = some ⟨b, off, none⟩ ∧ b < w.heap.size ∧ BRow w b off l := by
  obtain ⟨h1, _, _, h4⟩ := h
  rcases h4 with h4 | h4
  · subst h4; simp at h1; omega
  · exact h4
theorem told_isB {w : World} {b off len cap m : Nat} {l : List Nat} (h : IsB w (some ⟨b, off, none⟩) len cap l) (h0 : 4 ≤ len) (hm : m + 4 = len) : IsB w (some ⟨b, off, none⟩) m cap (toldN l) := by
  obtain ⟨b', off', e, hb, hr⟩ := h.row (by omega)
  obtain ⟨rfl, rfl⟩ : b = b' ∧ off = off' := by simpa using e
  obtain ⟨h1, h2, h3, _⟩ := h
  refine ⟨by unfold toldN; rw [List.length_take]; omega, by omega, fun c hc => h3 c (List.mem_of_mem_take hc), .inr ⟨b, off, rfl, hb, fun k hk => ?_⟩⟩
  unfold toldN at hk ⊢
  rw [List.length_take] at hk
  rw [hr k (by omega), List.getElem?_take, if_pos (by omega)]
theorem last_isB {w : World} {b off len cap m : Nat} {l : List Nat} (h : IsB w (some ⟨b, off, none⟩) len cap l) (h0 : 4 ≤ len) (hm : m + 4 = len) : IsB w (some ⟨b, off + m, none⟩) 4 (cap - m) (lastN l) := by
  obtain ⟨b', off', e, hb, hr⟩ := h.row (by omega)
  obtain ⟨rfl, rfl⟩ : b = b' ∧ off = off' := by simpa using e
  obtain ⟨h1, h2, h3, _⟩ := h
  refine ⟨by unfold lastN; rw [List.length_drop]; omega, by omega, fun c hc => h3 c (List.mem_of_mem_drop hc), .inr ⟨b, off + m, rfl, hb, fun k hk => ?_⟩⟩
  unfold lastN at hk ⊢
  rw [List.length_drop] at hk
  rw [Nat.add_assoc, hr (m + k) (by omega), List.getElem?_drop, show l.length - 4 + k = m + k by omega]
theorem slice_from (b off len cap m : Nat) (hm : m ≤ len) (hc : m < cap) (wx : World) : (Instr.slice 36 (.slice (some ⟨b, off, none⟩) len cap) (some (.int .i64 (m : Int))) none none).run Tryz.prog wx = .ok (.slice (some ⟨b, off + m, none⟩) (len - m) (cap - m)) wx := by
  have ht : Tryz.prog.underlying 36 = some (.slice (Tryz.prog.elem 36)) := by simp [Program.elem, Tryz.underlying36]
  have he : Tryz.prog.elem 36 = 5 := by simp [Program.elem, Tryz.underlying36]
  have hz : (Go.sizeOf 5).run Tryz.prog wx = .ok 1 wx := by kernel_rfl
  rw [run_slice_l wx _ _ _ _ ht .i64 _ (by omega) (by omega), he, hz]
  have hne : ¬ cap = m := by omega
  have ha : (⟨b, off, none⟩ : Addr).add m = ⟨b, off + m, none⟩ := by unfold Addr.add; split <;> simp_all
  simp [Result.andThen, sliced, hne, ha]
theorem sum_isB (w : World) (l : List Nat) (hl : l.length = 4) (hb : ∀ c ∈ l, c < 256) : IsB (w.alloc (.cells (u8s l).toArray 5)) (some ⟨w.heap.size, 0, none⟩) 4 4 l := by
  refine ⟨hl, by omega, hb, .inr ⟨w.heap.size, 0, rfl, by simp, fun k hk => ?_⟩⟩
  rw [Nat.zero_add, blk_cell (blk_new _ _)]
  simp [u8s, hk]
set_option maxHeartbeats 2000000 in
set_option maxRecDepth 20000 in
theorem decode_form (a : Option Addr) (len cap : Nat) (l : List Nat) (w : World) (hlen : l.length = len) (hl : len ≤ 1000) (h : len < 7 ∨ 80 < len) :
    Calls Tryz.prog 60 #[.slice a len cap] w fun e w' => e = .returned (.tuple #[.agg (fCells (decF l).2), errV (decF l).1]) ∧ Below w.heap.size w w' := by
  have HD := hide (dec_form (l := l) (by omega))
  rw [HD.out]
  have hres : FIs (w.alloc (.cells (fCells fr0) 35)) w.heap.size 35 fr0 := blk_new _ _
  have HB := hide ((Below.refl w.heap.size w).alloc (Nat.le_refl _) (.cells (fCells fr0) 35))
  have HRES := hide hres
  clear hres hlen
  by_cases h1 : len < 7
  · clear h
    go_enter Tryz.func60, Tryz.ntmps60
    go_wp2_with (refine wpList_store_fl rfl _ _ rfl w.heap.size fr0 rfl rfl fr0 HRES.out ?_)
    intro w9 HF9
    go_wp2
    refine bodyPost_ret (v := .tuple #[.agg (fCells fr0), errV 3]) ?_ rfl ⟨rfl, HB.out.trans (HF9.out.2.2 _ (Nat.le_refl _))⟩
    exact results_cell2F Tryz.results60 rfl (load_f HF9.out.1)
  · have h2 : 80 < len := by omega
    clear h
    go_enter Tryz.func60, Tryz.ntmps60
    go_wp2_with (refine wpList_store_fl rfl _ _ rfl w.heap.size fr0 rfl rfl fr0 HRES.out ?_)
    intro w9 HF9
    go_wp2
    refine bodyPost_ret (v := .tuple #[.agg (fCells fr0), errV 3]) ?_ rfl ⟨rfl, HB.out.trans (HF9.out.2.2 _ (Nat.le_refl _))⟩
    exact results_cell2F Tryz.results60 rfl (load_f HF9.out.1)
set_option maxHeartbeats 4000000 in
set_option maxRecDepth 20000 in
theorem decode_main (b off len cap : Nat) (l : List Nat) (w : World) (h : IsB w (some ⟨b, off, none⟩) len cap l) (h7 : 7 ≤ len) (h80 : len ≤ 80) :
    Calls Tryz.prog 60 #[.slice (some ⟨b, off, none⟩) len cap] w fun e w' => e = .returned (.tuple #[.agg (fCells (decF l).2), errV (decF l).1]) ∧ Below w.heap.size w w' := by
  obtain ⟨m, hm⟩ : ∃ m, m + 4 = len := ⟨len - 4, by omega⟩
  have hlen := h.1
  have hcl := h.2.1
  have hB0 : Below w.heap.size w (w.alloc (.cells (fCells fr0) 35)) := (Below.refl w.heap.size w).alloc (Nat.le_refl _) _
  have hres : FIs (w.alloc (.cells (fCells fr0) 35)) w.heap.size 35 fr0 := blk_new _ _
  have HX := hide h
  obtain ⟨wA, hwA⟩ : ∃ wA, Hid (w.alloc (.cells (fCells fr0) 35) = wA) := ⟨_, hide rfl⟩
  rw [hwA.out] at hB0 hres
  have hXA := h.below hB0
  have hN : w.heap.size < wA.heap.size := hres.lt
  have HB0 := hide hB0
  have HRES := hide hres
  have HXA := hide hXA
  clear h hB0 hres hXA
  have t1 : wrap64 ((len : Int) - 4) = (m : Int) := by rw [IntWalk.wrap64_in _ ⟨by omega, by omega⟩]; omega
  go_enter Tryz.func60, Tryz.ntmps60
  go_wp2_with fail
  rw [show w.alloc (.cells #[.int .i64 0, .int .i64 0, .int .i64 0, .int .i64 0, .int .i64 0, .int .i64 0, .int .i64 0, .int .i64 0, .int .i64 0, .int .i64 0, .int .i64 0, .int .i64 0, .int .i64 0, .int .i64 0, .int .i64 0, .int .i64 0, .int .i64 0, .int .i64 0, .int .i64 0, .int .i64 0, .int .i64 0, .int .i64 0, .int .i64 0] 35) = wA from hwA.out, show len - 4 = m by omega]
  have hsl : ∀ wx : World, (Instr.slice 36 (.slice (some ⟨b, off, none⟩) len cap) (some (.int .i64 (m : Int))) none none).run Tryz.prog wx = .ok (.slice (some ⟨b, off + m, none⟩) 4 (cap - m)) wx := by
    intro wx
    have := slice_from b off len cap m (by omega) (by omega) wx
    rwa [show len - m = 4 by omega] at this
  have hsb : ∀ wx, Below wA.heap.size wA wx → Calls Tryz.prog 64 #[.slice (some ⟨b, off, none⟩) m cap] wx fun e w' => e = .returned (.slice (some ⟨wx.heap.size, 0, none⟩) 4 4) ∧ Hid (w' = wx.alloc (.cells (u8s (b4 (crc (toldN l)).toNat)).toArray 5)) :=
    fun wx hx => sumBytes_any _ m cap (toldN l) wx (by omega) (told_isB (HXA.out.below hx) (by omega) hm)
  have heq : ∀ wx, Below wA.heap.size wA wx → Calls Tryz.prog 79 #[.slice (some ⟨wx.heap.size, 0, none⟩) 4 4, .slice (some ⟨b, off + m, none⟩) 4 (cap - m)] (wx.alloc (.cells (u8s (b4 (crc (toldN l)).toNat)).toArray 5)) fun e w' => e = .returned (.bool (decide (b4 (crc (toldN l)).toNat = lastN l))) ∧ Hid (w' = wx.alloc (.cells (u8s (b4 (crc (toldN l)).toNat)).toArray 5)) :=
    fun wx hx => equal_any _ _ _ _ _ _ _ _ _ (sum_isB wx _ rfl (b4_lt _)) (last_isB (HXA.out.below (hx.alloc hx.size _)) (by omega) hm)
  have HSB := hide hsb
  have HEQ := hide heq
  clear hsb heq
  refine wp_region_held_drew (S := fun w' => Below wA.heap.size wA w') (by kernel_rfl) (Below.refl _ _).drew (fun hHeld => ?_)
  refine wpAnyH_take (i := 0) (oi := _) (v := .slice (some ⟨b, off, none⟩) m cap) rfl (by kernel_rfl) (by kernel_rfl) (by kernel_rfl) (fun _ _ _ h => h) (Or.inl ⟨by rfl, fun w _ => by go_simp⟩) hHeld ?_
  simp only [Act.put]
  refine wpAnyH_take (i := 2) (oi := _) (v := .slice (some ⟨b, off, none⟩) len cap) rfl (by kernel_rfl) (by kernel_rfl) (by kernel_rfl) (fun _ _ _ h => h) (Or.inl ⟨by rfl, fun w _ => by go_simp⟩) hHeld ?_
  simp only [Act.put]
  refine wpAnyH_take (i := 3) (oi := _) (v := .slice (some ⟨b, off, none⟩) m cap) rfl (by kernel_rfl) (by kernel_rfl) (by kernel_rfl) (fun _ _ _ h => h) (Or.inl ⟨by rfl, fun w _ => by go_simp⟩) hHeld ?_
  simp only [Act.put]
  refine wpAnyH_take (i := 4) (oi := _) (v := .int .i64 (m : Int)) rfl (by kernel_rfl) (by kernel_rfl) (by kernel_rfl) (fun _ _ _ h => h) (Or.inl ⟨by rfl, fun w _ => by go_simp⟩) hHeld ?_
  simp only [Act.put]
  refine wpAnyH_take (i := 5) (oi := _) (v := .slice (some ⟨b, off + m, none⟩) 4 (cap - m)) rfl (by kernel_rfl) (by kernel_rfl) (by kernel_rfl) (fun _ _ _ h => h) (Or.inl ⟨by rfl, fun w _ => by go_simp⟩) hHeld ?_
  simp only [Act.put]
  refine wpAnyH_ready (rs := [1]) (by kernel_rfl) (by simp) ?_
  refine AllReadyH.cons (o := _) rfl (fun K hK => ?_) AllReadyH.nil
  rw [if_pos (by rfl)]
  go_simp
  go_at_call 64
  refine (unhide HSB _ (Below.refl _ _).drew).mono ?_
  rintro e w5 ⟨rfl, HW5⟩
  dsimp only
  have hB5 : Below wA.heap.size wA w5 := by rw [HW5.out]; exact (Below.refl wA.heap.size wA).drew.alloc (Nat.le_refl _) _
  refine hK.out _ _ hB5 (fun hHeld => ?_)
  clear hK K
  refine wpAnyH_ready (rs := [6]) (by kernel_rfl) (by simp) ?_
  refine AllReadyH.cons (o := _) rfl (fun K hK => ?_) AllReadyH.nil
  rw [if_pos (by rfl)]
  go_simp
  go_at_call 79
  have heq5 := unhide HEQ _ ((Below.refl _ _).drew)
  rw [← HW5.out] at heq5
  refine heq5.mono ?_
  rintro e w6 ⟨rfl, HW6⟩
  dsimp only
  clear heq5
  have hw6 : w6 = w5 := HW6.out
  subst hw6
  refine hK.out _ _ hB5 (fun hHeld => ?_)
  clear hK K HW6
  obtain ⟨r, hr⟩ : ∃ r, Hid (decide (b4 (crc (toldN l)).toNat = lastN l) = r) := ⟨_, hide rfl⟩
  rw [hr.out]
  refine wpAnyH_take (i := 7) (oi := _) (v := .bool (!r)) rfl (by kernel_rfl) (by kernel_rfl) (by kernel_rfl) (fun _ _ _ h => h) (Or.inl ⟨by rfl, fun w _ => by go_simp⟩) hHeld ?_
  simp only [Act.put, List.getElem_toArray, List.getElem_cons_succ, List.getElem_cons_zero, List.setIfInBounds_toArray, List.set_cons_succ, List.set_cons_zero]
  refine wpAnyH_done (by kernel_rfl) ?_ _
  have HX6 := hide (HXA.out.below hB5)
  have HRS := hide (HRES.out.below hN hB5)
  have HOL := hide (HB0.out.trans (hB5.mono (by omega)))
  have hs6 := hB5.size
  clear hHeld hB5 HW5 HSB HEQ hsl HRES HXA HX
  cases r
  · have HD := hide (dec_spoilt (l := l) (by omega) (by omega) (of_decide_eq_false hr.out))
    go_wp2_with (refine wpList_store_fl rfl _ _ rfl w.heap.size fr0 rfl rfl fr0 HRS.out ?_)
    intro w9 HF9
    go_wp2
    refine bodyPost_ret (v := .tuple #[.agg (fCells fr0), errV 15]) ?_ rfl ⟨by rw [HD.out], HOL.out.trans (HF9.out.2.2 _ (Nat.le_refl _))⟩
    exact results_cell2F Tryz.results60 rfl (load_f HF9.out.1)
  · have hsum := of_decide_eq_true hr.out
    have HRD := hide (read_any b off m cap (toldN l) w6 (by omega) (by omega) (by omega) (told_isB HX6.out (by omega) hm))
    go_wp2_with (go_at_call 81; refine HRD.out.mono ?_)
    rintro e w7 ⟨⟨v7, rfl, g7, cp7, rfl, hg71, hg72, hcp7, hrow7⟩, hB7⟩
    have HFR := hide (framed_any g7 0 _ cp7 (readF (toldN l)) w7 rfl hg72 hrow7)
    have HX7 := hide (HX6.out.below hB7)
    have HRS7 := hide (HRS.out.below (by omega) hB7)
    have HOL7 := hide (HOL.out.trans (hB7.mono (by omega)))
    have hs7 := hB7.size
    clear hB7 HRD hrow7 HX6 HRS HOL hg71 hg72
    obtain ⟨G, hG⟩ : ∃ G, Hid (framedF (readF (toldN l)) = G) := ⟨_, hide rfl⟩
    rw [hG.out] at HFR
    go_wp2_with (go_at_call 80; refine HFR.out.mono ?_)
    rintro e w8 ⟨rfl, hB8⟩
    have HX8 := hide (HX7.out.below hB8)
    have HRS8 := hide (HRS7.out.below (by omega) hB8)
    have HOL8 := hide (HOL7.out.trans (hB8.mono (by omega)))
    have hs8 := hB8.size
    clear hB8 HFR HX7 HRS7 HOL7
    go_wp2_with (refine wpList_store_fl rfl _ _ rfl w8.heap.size G rfl rfl fr0 (blk_new _ _) ?_)
    intro wB HFB
    have hBB : Below w8.heap.size w8 wB := ((Below.refl _ _).alloc (Nat.le_refl _) _).trans (HFB.out.2.2 _ (Nat.le_refl _))
    have HFQ := hide HFB.out.1
    have HXB := hide (HX8.out.below hBB)
    have HRSB := hide (HRS8.out.below (by omega) hBB)
    have HOLB := hide (HOL8.out.trans (hBB.mono (by omega)))
    have hsB := HFQ.out.lt
    clear hBB HFB HX8 HRS8 HOL8
    generalize w8.heap.size = Q at HFQ hsB hs8 ⊢
    cases hmay : mayB G
    · have HEN := hide (encode_bad G wB hmay)
      have HD := hide (dec_not (l := l) (by omega) (by omega) hsum (by rw [hG.out, hmay]; simp))
      go_wp2_with (first
        | (refine wpList_load_f rfl _ rfl Q rfl G HFQ.out ?_)
        | (go_at_call 32; refine HEN.out.mono ?_))
      rintro e wC ⟨rfl, hBC⟩
      have HRS := hide (HRSB.out.below (by omega) hBC)
      have HOL := hide (HOLB.out.trans (hBC.mono (by omega)))
      clear hBC HEN HRSB HOLB HXB HFQ
      go_wp2_with (refine wpList_store_fl rfl _ _ rfl w.heap.size fr0 rfl rfl fr0 HRS.out ?_)
      intro w9 HF9
      go_wp2
      refine bodyPost_ret (v := .tuple #[.agg (fCells fr0), errV 3]) ?_ rfl ⟨by rw [HD.out], HOL.out.trans (HF9.out.2.2 _ (Nat.le_refl _))⟩
      exact results_cell2F Tryz.results60 rfl (load_f HF9.out.1)
    · have HEN := hide (encode_ok G wB hmay)
      go_wp2_with (first
        | (refine wpList_load_f rfl _ rfl Q rfl G HFQ.out ?_)
        | (go_at_call 32; refine HEN.out.mono ?_))
      rintro e wC ⟨⟨v, rfl, hown⟩, hBC⟩
      obtain ⟨gE, cE, rfl, _, _, hIsE⟩ := EInv.isB (⟨hBC, hown⟩ : EInv wB wC v (encF G)) (fun e => by have := encF_length G; rw [e] at this; simp at this) (encF_lt G)
      have HEQ := hide (equal_any _ _ _ _ _ _ _ _ _ hIsE (HXB.out.below hBC))
      have HRS := hide (HRSB.out.below (by omega) hBC)
      have HOL := hide (HOLB.out.trans (hBC.mono (by omega)))
      have HFQC := hide (HFQ.out.below hsB hBC)
      clear hBC HEN HRSB HOLB HXB HFQ hown hIsE
      cases hqe : decide (encF G = l)
      · rw [hqe] at HEQ
        have HD := hide (dec_not (l := l) (by omega) (by omega) hsum (by rw [hG.out]; exact fun h => of_decide_eq_false hqe h.2))
        go_wp2_with (first
          | (go_at_call 79; refine HEQ.out.mono ?_; rintro e wD ⟨rfl, rfl⟩)
          | (refine wpList_store_fl rfl _ _ rfl w.heap.size fr0 rfl rfl fr0 HRS.out ?_))
        intro w9 HF9
        go_wp2
        refine bodyPost_ret (v := .tuple #[.agg (fCells fr0), errV 3]) ?_ rfl ⟨by rw [HD.out], HOL.out.trans (HF9.out.2.2 _ (Nat.le_refl _))⟩
        exact results_cell2F Tryz.results60 rfl (load_f HF9.out.1)
      · rw [hqe] at HEQ
        have HD := hide (dec_ok (l := l) (by omega) (by omega) hsum (by rw [hG.out]; exact ⟨hmay, of_decide_eq_true hqe⟩))
        go_wp2_with (first
          | (go_at_call 79; refine HEQ.out.mono ?_; rintro e wD ⟨rfl, rfl⟩)
          | (refine wpList_load_f rfl _ rfl Q rfl G HFQC.out ?_)
          | (refine wpList_store_fl rfl _ _ rfl w.heap.size G rfl rfl fr0 HRS.out ?_))
        intro w9 HF9
        go_wp2
        refine bodyPost_ret (v := .tuple #[.agg (fCells G), errV 0]) ?_ rfl ⟨by rw [HD.out, hG.out], HOL.out.trans (HF9.out.2.2 _ (Nat.le_refl _))⟩
        exact results_cell2F Tryz.results60 rfl (load_f HF9.out.1)
theorem decode_any (a : Option Addr) (len cap : Nat) (l : List Nat) (w : World) (hl : len ≤ 1000) (h : IsB w a len cap l) :
    Calls Tryz.prog 60 #[.slice a len cap] w fun e w' => e = .returned (.tuple #[.agg (fCells (decF l).2), errV (decF l).1]) ∧ Below w.heap.size w w' := by
  by_cases hf : len < 7 ∨ 80 < len
  · exact decode_form a len cap l w h.1 hl hf
  · obtain ⟨b, off, rfl, _, _⟩ := h.row (by omega)
    exact decode_main b off len cap l w h (by omega) (by omega)
end Go.Proofs.YtaablbmgagiajaaGreatDoor
namespace Go.Proofs.YtaablbmgagiajaaGreatDoor
theorem step_xor (x y : BitVec 32) : step (x ^^^ y) = step x ^^^ step y := by
  unfold step
  rw [BitVec.msb_xor, BitVec.shiftLeft_xor_distrib]
  cases x.msb <;> cases y.msb
  · simp
  · simp [BitVec.xor_assoc]
  · simp only [Bool.xor_false, if_true, Bool.false_eq_true, if_false]
    rw [BitVec.xor_assoc, BitVec.xor_assoc, BitVec.xor_comm (y <<< 1)]
  · simp only [Bool.xor_self, Bool.false_eq_true, if_false, if_true]
    rw [BitVec.xor_assoc, BitVec.xor_comm (y <<< 1), ← BitVec.xor_assoc 79764919#32, BitVec.xor_self, BitVec.zero_xor]
theorem step_zero' : step 0#32 = 0#32 := by decide
theorem step_inj (x : BitVec 32) (h : step x = 0#32) : x = 0#32 := by
  have hx := x.isLt
  cases hm : x.msb
  · rw [step_zero x hm] at h
    have hl := msb_lt x hm
    have := congrArg BitVec.toNat h
    rw [BitVec.toNat_shiftLeft, Nat.shiftLeft_eq] at this
    apply BitVec.eq_of_toNat_eq
    simp at this ⊢
    omega
  · rw [step_one x hm] at h
    have h2 : x <<< 1 = 79764919#32 := by
      have := congrArg (· ^^^ 79764919#32) h
      simp only [BitVec.xor_assoc, BitVec.xor_self, BitVec.xor_zero, BitVec.zero_xor] at this
      exact this
    have := congrArg BitVec.toNat h2
    rw [BitVec.toNat_shiftLeft, Nat.shiftLeft_eq] at this
    simp at this
    omega
theorem steps_xor (k : Nat) (x y : BitVec 32) : steps k (x ^^^ y) = steps k x ^^^ steps k y := by
  induction k with
  | zero => rfl
  | succ k ih => rw [steps_succ, steps_succ, steps_succ, ih, step_xor]
theorem steps_inj (k : Nat) (x : BitVec 32) (h : steps k x = 0#32) : x = 0#32 := by
  induction k with
  | zero => exact h
  | succ k ih => exact ih (step_inj _ h)
def topB (b : Bool) : BitVec 32 := if b then 2147483648#32 else 0#32
def feed (x : BitVec 32) (b : Bool) : BitVec 32 := step (x ^^^ topB b)
def feeds (x : BitVec 32) (bs : List Bool) : BitVec 32 := bs.foldl feed x
theorem feeds_append (x : BitVec 32) (bs cs : List Bool) : feeds x (bs ++ cs) = feeds (feeds x bs) cs := by simp [feeds]
theorem topB_xor (b c : Bool) : topB (b ^^ c) = topB b ^^^ topB c := by cases b <;> cases c <;> decide
theorem feed_xor (x y : BitVec 32) (b c : Bool) : feed (x ^^^ y) (b ^^ c) = feed x b ^^^ feed y c := by
  unfold feed
  rw [← step_xor, topB_xor]
  congr 1
  rw [BitVec.xor_assoc, BitVec.xor_assoc, ← BitVec.xor_assoc y, BitVec.xor_comm y, BitVec.xor_assoc (topB b)]
theorem feeds_xor : ∀ (bs cs : List Bool) (x y : BitVec 32), bs.length = cs.length → feeds (x ^^^ y) (List.zipWith (fun a b => a ^^ b) bs cs) = feeds x bs ^^^ feeds y cs
  | [], [], _, _, _ => rfl
  | b :: bs, c :: cs, x, y, h => by
    show feeds (feed (x ^^^ y) (b ^^ c)) (List.zipWith (fun a b => a ^^ b) bs cs) = feeds (feed x b) bs ^^^ feeds (feed y c) cs
    rw [feed_xor, feeds_xor bs cs _ _ (by simpa using h)]
theorem feed_false (x : BitVec 32) : feed x false = step x := by
  unfold feed topB; simp
theorem feeds_zeros (n : Nat) (x : BitVec 32) : feeds x (List.replicate n false) = steps n x := by
  induction n with
  | zero => rfl
  | succ n ih => rw [List.replicate_succ', feeds_append, ih]; exact feed_false _
theorem steps_zero (k : Nat) : steps k 0#32 = 0#32 := by
  induction k with
  | zero => rfl
  | succ k ih => rw [steps_succ, ih, step_zero']
theorem feed_msb (x : BitVec 32) : feed x x.msb = x <<< 1 := by
  unfold feed
  have e : topB x.msb <<< 1 = 0#32 := by cases x.msb <;> decide
  have hm : (x ^^^ topB x.msb).msb = false := by
    rw [BitVec.msb_xor]
    cases x.msb <;> decide
  rw [step_zero _ hm, BitVec.shiftLeft_xor_distrib, e, BitVec.xor_zero]
def wordBits (x : BitVec 32) (n : Nat) : List Bool := (List.range n).map x.getMsbD
theorem wordBits_succ (x : BitVec 32) (n : Nat) : wordBits x (n + 1) = wordBits x n ++ [x.getMsbD n] := by simp [wordBits, List.range_succ]
theorem feeds_own (x : BitVec 32) (n : Nat) : feeds x (wordBits x n) = x <<< n := by
  induction n with
  | zero => simp [wordBits, feeds]
  | succ n ih =>
    rw [wordBits_succ, feeds_append, ih]
    show feed (x <<< n) (x.getMsbD n) = _
    have h : (x <<< n).msb = x.getMsbD n := by
      rw [BitVec.msb, BitVec.getMsbD_shiftLeft]
      simp
    rw [← h, feed_msb]
    rw [BitVec.shiftLeft_add]
theorem zip_right : ∀ bs : List Bool, List.zipWith (fun a b => a ^^ b) bs (List.replicate bs.length false) = bs
  | [] => rfl
  | b :: bs => by
    show (b ^^ false) :: List.zipWith (fun a b => a ^^ b) bs (List.replicate bs.length false) = b :: bs
    rw [zip_right bs, Bool.xor_false]
theorem zip_left : ∀ bs : List Bool, List.zipWith (fun a b => a ^^ b) (List.replicate bs.length false) bs = bs
  | [] => rfl
  | b :: bs => by
    show (false ^^ b) :: List.zipWith (fun a b => a ^^ b) (List.replicate bs.length false) bs = b :: bs
    rw [zip_left bs, Bool.false_xor]
theorem word_of (T : List Bool) (hl : T.length = 32) : ∃ W : BitVec 32, wordBits W 32 = T := by
  refine ⟨(BitVec.ofBoolListBE T).cast hl, ?_⟩
  apply List.ext_getElem?
  intro i
  by_cases hi : i < 32
  · have hT : T[i]? = some T[i] := List.getElem?_eq_getElem (by omega)
    rw [hT]
    simp only [wordBits, List.getElem?_map, List.getElem?_range hi, Option.map_some, Option.some.injEq]
    rw [BitVec.getMsbD_cast, BitVec.getMsbD_ofBoolListBE]
    simp [List.getD, hT]
  · have hT : T[i]? = none := List.getElem?_eq_none (by omega)
    rw [hT]
    exact List.getElem?_eq_none (by simp [wordBits]; omega)
theorem feeds_word (x : BitVec 32) : feeds 0#32 (wordBits x 32) = steps 32 x := by
  have h := feeds_xor (wordBits x 32) (List.replicate 32 false) x x (by simp [wordBits])
  rw [BitVec.xor_self, feeds_own, feeds_zeros] at h
  have e : x <<< 32 = 0#32 := by
    apply BitVec.eq_of_toNat_eq
    rw [BitVec.toNat_shiftLeft, Nat.shiftLeft_eq]
    simp
  have z := zip_right (wordBits x 32)
  rw [show (wordBits x 32).length = 32 by simp [wordBits]] at z
  rw [z, e, BitVec.zero_xor] at h
  exact h
theorem feeds_short (T : List Bool) (h32 : T.length ≤ 32) (ht : true ∈ T) : feeds 0#32 T ≠ 0#32 := by
  intro h0
  obtain ⟨q, hq⟩ : ∃ q, T.length + q = 32 := ⟨32 - T.length, by omega⟩
  have hl : (T ++ List.replicate q false).length = 32 := by simp; omega
  obtain ⟨W, hW⟩ := word_of _ hl
  have h1 : steps 32 W = 0#32 := by
    rw [← feeds_word, hW, feeds_append, h0, feeds_zeros, steps_zero]
  have h2 := steps_inj 32 W h1
  subst h2
  obtain ⟨i, hi, hti⟩ := List.getElem_of_mem ht
  have h3 := congrArg (fun l => l[i]?) hW
  simp only [wordBits, List.getElem?_map, List.getElem?_range (show i < 32 by omega), Option.map_some] at h3
  rw [List.getElem?_append_left hi, List.getElem?_eq_getElem hi, hti] at h3
  simp at h3
def bits8 (c : Nat) : List Bool := [c.testBit 7, c.testBit 6, c.testBit 5, c.testBit 4, c.testBit 3, c.testBit 2, c.testBit 1, c.testBit 0]
def bitsOf (l : List Nat) : List Bool := l.flatMap bits8
theorem bits8_closed : ∀ c : Fin 256, steps 8 (lift c.val) = feeds 0#32 (bits8 c.val) := by decide +kernel
theorem byteStep_bits (x : BitVec 32) (c : Nat) (h : c < 256) : byteStep x c = feeds x (bits8 c) := by
  unfold byteStep
  rw [steps_xor, bits8_closed ⟨c, h⟩]
  have := feeds_xor (List.replicate 8 false) (bits8 c) x 0#32 rfl
  rw [feeds_zeros, BitVec.xor_zero] at this
  rw [← this]
  exact congrArg _ (zip_left (bits8 c))
theorem crcFrom_bits : ∀ (l : List Nat) (x : BitVec 32), (∀ c ∈ l, c < 256) → crcFrom x l = feeds x (bitsOf l)
  | [], _, _ => rfl
  | c :: l, x, h => by
    show crcFrom (byteStep x c) l = feeds x (bits8 c ++ bitsOf l)
    rw [feeds_append, byteStep_bits x c (h c (by simp)), crcFrom_bits l _ (fun d hd => h d (by simp [hd]))]
theorem crcFrom_append (x : BitVec 32) (l m : List Nat) : crcFrom x (l ++ m) = crcFrom (crcFrom x l) m := by simp [crcFrom]
theorem bits_b4 (x : BitVec 32) : bitsOf (b4 x.toNat) = wordBits x 32 := by
  have hb : ∀ k, k < 32 → x.getMsbD k = x.toNat.testBit (31 - k) := fun k hk => by
    rw [BitVec.getMsbD]
    simp [hk, BitVec.testBit_toNat]
  have hw : wordBits x 32 = (List.range 32).map fun k => x.toNat.testBit (31 - k) := by
    unfold wordBits
    apply List.map_congr_left
    intro k hk
    exact hb k (by simpa using hk)
  have h24 : ∀ j, j < 8 → (x.toNat / 16777216 % 256).testBit j = x.toNat.testBit (24 + j) := fun j hj => by
    rw [show (256 : Nat) = 2 ^ 8 by decide, Nat.testBit_mod_two_pow, show (16777216 : Nat) = 2 ^ 24 by decide, Nat.testBit_div_two_pow, decide_eq_true hj, Bool.true_and, Nat.add_comm]
  have h16 : ∀ j, j < 8 → (x.toNat / 65536 % 256).testBit j = x.toNat.testBit (16 + j) := fun j hj => by
    rw [show (256 : Nat) = 2 ^ 8 by decide, Nat.testBit_mod_two_pow, show (65536 : Nat) = 2 ^ 16 by decide, Nat.testBit_div_two_pow, decide_eq_true hj, Bool.true_and, Nat.add_comm]
  have h8 : ∀ j, j < 8 → (x.toNat / 256 % 256).testBit j = x.toNat.testBit (8 + j) := fun j hj => by
    rw [show (256 : Nat) = 2 ^ 8 by decide, Nat.testBit_mod_two_pow, Nat.testBit_div_two_pow, decide_eq_true hj, Bool.true_and, Nat.add_comm]
  have h0 : ∀ j, j < 8 → (x.toNat % 256).testBit j = x.toNat.testBit j := fun j hj => by
    rw [show (256 : Nat) = 2 ^ 8 by decide, Nat.testBit_mod_two_pow, decide_eq_true hj, Bool.true_and]
  rw [hw]
  show bits8 _ ++ (bits8 _ ++ (bits8 _ ++ (bits8 _ ++ []))) = _
  unfold bits8
  rw [h24 7 (by decide), h24 6 (by decide), h24 5 (by decide), h24 4 (by decide), h24 3 (by decide), h24 2 (by decide), h24 1 (by decide), h24 0 (by decide),
    h16 7 (by decide), h16 6 (by decide), h16 5 (by decide), h16 4 (by decide), h16 3 (by decide), h16 2 (by decide), h16 1 (by decide), h16 0 (by decide),
    h8 7 (by decide), h8 6 (by decide), h8 5 (by decide), h8 4 (by decide), h8 3 (by decide), h8 2 (by decide), h8 1 (by decide), h8 0 (by decide),
    h0 7 (by decide), h0 6 (by decide), h0 5 (by decide), h0 4 (by decide), h0 3 (by decide), h0 2 (by decide), h0 1 (by decide), h0 0 (by decide)]
  rfl
theorem crc_own (x : BitVec 32) : crcFrom x (b4 x.toNat) = 0#32 := by
  rw [crcFrom_bits _ _ (b4_lt _), bits_b4, feeds_own]
  apply BitVec.eq_of_toNat_eq
  rw [BitVec.toNat_shiftLeft, Nat.shiftLeft_eq]
  simp
theorem crc_withSum (t : List Nat) : crcFrom 4294967295#32 (t ++ b4 (crc t).toNat) = 0#32 := by
  rw [crcFrom_append]
  exact crc_own _
def bitAt (l : List Nat) (j : Nat) : Bool := (l[j / 8]?.getD 0).testBit (7 - j % 8)
theorem bitsOf_length (l : List Nat) : (bitsOf l).length = 8 * l.length := by
  induction l with
  | nil => rfl
  | cons c l ih =>
    show (bits8 c ++ bitsOf l).length = _
    rw [List.length_append, ih]
    simp [bits8]; omega
theorem bitsOf_at : ∀ (l : List Nat) (j : Nat), j < 8 * l.length → (bitsOf l)[j]? = some (bitAt l j)
  | [], j, h => by simp at h
  | c :: l, j, h => by
    show (bits8 c ++ bitsOf l)[j]? = _
    by_cases hj : j < 8
    · rw [List.getElem?_append_left (by simp [bits8]; omega)]
      rcases (by omega : j = 0 ∨ j = 1 ∨ j = 2 ∨ j = 3 ∨ j = 4 ∨ j = 5 ∨ j = 6 ∨ j = 7) with rfl | rfl | rfl | rfl | rfl | rfl | rfl | rfl <;> rfl
    · rw [List.getElem?_append_right (by simp [bits8]; omega)]
      have e : (bits8 c).length = 8 := rfl
      rw [e, bitsOf_at l (j - 8) (by simp at h; omega)]
      unfold bitAt
      rw [show j / 8 = (j - 8) / 8 + 1 by omega, List.getElem?_cons_succ, show (j - 8) % 8 = j % 8 by omega]
theorem burst (l m : List Nat) (x : BitVec 32) (a : Nat) (hl : ∀ c ∈ l, c < 256) (hm : ∀ c ∈ m, c < 256) (hlen : l.length = m.length)
    (hout : ∀ j, j < 8 * l.length → (j < a ∨ a + 32 ≤ j) → bitAt l j = bitAt m j) (hsome : ∃ j, j < 8 * l.length ∧ bitAt l j ≠ bitAt m j)
    (h1 : crcFrom x l = 0#32) (h2 : crcFrom x m = 0#32) : False := by
  have hx := feeds_xor (bitsOf l) (bitsOf m) x x (by rw [bitsOf_length, bitsOf_length, hlen])
  rw [← crcFrom_bits l x hl, ← crcFrom_bits m x hm, h1, h2, BitVec.xor_self, BitVec.xor_self] at hx
  obtain ⟨j0, hj0, hne⟩ := hsome
  have ha : a ≤ j0 ∧ j0 < a + 32 := by
    by_cases h : a ≤ j0 ∧ j0 < a + 32
    · exact h
    · exact absurd (hout j0 hj0 (by omega)) hne
  obtain ⟨n, hn⟩ : ∃ n, n = min 32 (8 * l.length - a) := ⟨_, rfl⟩
  have hz : List.zipWith (fun a b => a ^^ b) (bitsOf l) (bitsOf m) = List.replicate a false ++ ((List.range n).map (fun i => bitAt l (a + i) ^^ bitAt m (a + i)) ++ List.replicate (8 * l.length - a - n) false) := by
    apply List.ext_getElem?
    intro j
    rw [List.getElem?_zipWith]
    by_cases hj : j < 8 * l.length
    · rw [bitsOf_at l j hj, bitsOf_at m j (by omega)]
      show some (bitAt l j ^^ bitAt m j) = _
      by_cases q1 : j < a
      · rw [List.getElem?_append_left (by simpa using q1), hout j hj (.inl q1)]
        simp [q1]
      · rw [List.getElem?_append_right (by simp; omega), List.length_replicate]
        by_cases q2 : j - a < n
        · rw [List.getElem?_append_left (by simpa using q2)]
          simp [q2, show a + (j - a) = j by omega]
        · rw [List.getElem?_append_right (by simp; omega), List.length_map, List.length_range, hout j hj (.inr (by omega)), List.getElem?_replicate, if_pos (by omega)]
          simp
    · have hr : (List.replicate a false ++ ((List.range n).map (fun i => bitAt l (a + i) ^^ bitAt m (a + i)) ++ List.replicate (8 * l.length - a - n) false)).length ≤ j := by
        simp only [List.length_append, List.length_replicate, List.length_map, List.length_range]
        omega
      rw [List.getElem?_eq_none (show (bitsOf l).length ≤ j by rw [bitsOf_length]; omega), List.getElem?_eq_none hr]
  rw [hz, feeds_append, feeds_zeros, steps_zero, feeds_append, feeds_zeros] at hx
  have h0 := steps_inj _ _ hx
  refine feeds_short _ (by simp; omega) ?_ h0
  rw [List.mem_map]
  refine ⟨j0 - a, by simp; omega, ?_⟩
  rw [show a + (j0 - a) = j0 by omega]
  cases hb1 : bitAt l j0 <;> cases hb2 : bitAt m j0 <;> simp_all
end Go.Proofs.YtaablbmgagiajaaGreatDoor
