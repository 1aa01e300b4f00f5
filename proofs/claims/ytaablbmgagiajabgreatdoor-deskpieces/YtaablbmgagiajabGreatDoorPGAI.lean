import Derived.Test.YtaablbmgagiajabGreatDoorPGAH
import Derived.Test.YtaablbmgagiajabGreatDoorPGAE
namespace Go.Proofs.YtaablbmgagiajabGreatDoor
open Go.RowKit Go.Deep
def toldN (l : List Nat) : List Nat := l.take (l.length - 4)
def lastN (l : List Nat) : List Nat := l.drop (l.length - 4)
def decF (l : List Nat) : Nat × FR :=
  if l.length < 7 ∨ 80 < l.length then (3, fr0)
  else if b4 (crc (toldN l)).toNat = lastN l then
    (if mayB (framedF (readF (toldN l))) = true ∧ encF (framedF (readF (toldN l))) = l then (0, framedF (readF (toldN l))) else (3, fr0))
  else (15, fr0)
def errV (e : Nat) : Value := if e = 0 then .nilIface else .iface 74 (.int .i64 (e : Int))
theorem dec_form {l : List Nat} (h : l.length < 7 ∨ 80 < l.length) : decF l = (3, fr0) := by unfold decF; rw [if_pos h]
theorem dec_spoilt {l : List Nat} (h1 : 7 ≤ l.length) (h2 : l.length ≤ 80) (h : ¬ b4 (crc (toldN l)).toNat = lastN l) : decF l = (15, fr0) := by unfold decF; rw [if_neg (by omega), if_neg h]
theorem dec_not {l : List Nat} (h1 : 7 ≤ l.length) (h2 : l.length ≤ 80) (h : b4 (crc (toldN l)).toNat = lastN l) (hn : ¬ (mayB (framedF (readF (toldN l))) = true ∧ encF (framedF (readF (toldN l))) = l)) : decF l = (3, fr0) := by unfold decF; rw [if_neg (by omega), if_pos h, if_neg hn]
theorem dec_ok {l : List Nat} (h1 : 7 ≤ l.length) (h2 : l.length ≤ 80) (h : b4 (crc (toldN l)).toNat = lastN l) (hn : mayB (framedF (readF (toldN l))) = true ∧ encF (framedF (readF (toldN l))) = l) : decF l = (0, framedF (readF (toldN l))) := by unfold decF; rw [if_neg (by omega), if_pos h, if_pos hn]
theorem IsB.row {w : World} {a : Option Addr} {len cap : Nat} {l : List Nat} (h : IsB w a len cap l) (h0 : 0 < len) : ∃ b off, a = some ⟨b, off, none⟩ ∧ b < w.heap.size ∧ BRow w b off l := by
  obtain ⟨h1, _, _, h4⟩ := h
  rcases h4 with h4 | h4
  · subst h4; simp at h1; omega
  · exact h4
theorem told_isB {w : World} {b off len cap m : Nat} {l : List Nat} (h : IsB w (some ⟨b, off, none⟩) len cap l) (h0 : 4 ≤ len) (hm : m + 4 = len) : IsB w (some ⟨b, off, none⟩) m cap (toldN l) := by
  obtain ⟨b', off', e, hb, hr⟩ := h.row (by omega)
  obtain ⟨rfl, rfl⟩ : b = b' ∧ off = off' := by simpa using e
  obtain ⟨h1, h2, h3, _⟩ := h
  refine ⟨by unfold toldN; rw [List.length_take]; omega, by omega, fun c hc => h3 c (List.mem_of_mem_take hc), .inr ⟨b, off, rfl, hb, fun k hk => ?_⟩⟩
  unfold toldN at hk ⊢
  rw [List.length_take] at hk
  rw [hr k (by omega), List.getElem?_take, if_pos (by omega)]
theorem last_isB {w : World} {b off len cap m : Nat} {l : List Nat} (h : IsB w (some ⟨b, off, none⟩) len cap l) (h0 : 4 ≤ len) (hm : m + 4 = len) : IsB w (some ⟨b, off + m, none⟩) 4 (cap - m) (lastN l) := by
  obtain ⟨b', off', e, hb, hr⟩ := h.row (by omega)
  obtain ⟨rfl, rfl⟩ : b = b' ∧ off = off' := by simpa using e
  obtain ⟨h1, h2, h3, _⟩ := h
  refine ⟨by unfold lastN; rw [List.length_drop]; omega, by omega, fun c hc => h3 c (List.mem_of_mem_drop hc), .inr ⟨b, off + m, rfl, hb, fun k hk => ?_⟩⟩
  unfold lastN at hk ⊢
  rw [List.length_drop] at hk
  rw [Nat.add_assoc, hr (m + k) (by omega), List.getElem?_drop, show l.length - 4 + k = m + k by omega]
theorem slice_from (b off len cap m : Nat) (hm : m ≤ len) (hc : m < cap) (wx : World) : (Instr.slice 37 (.slice (some ⟨b, off, none⟩) len cap) (some (.int .i64 (m : Int))) none none).run Tryz.prog wx = .ok (.slice (some ⟨b, off + m, none⟩) (len - m) (cap - m)) wx := by
  have ht : Tryz.prog.underlying 37 = some (.slice (Tryz.prog.elem 37)) := by simp [Program.elem, Tryz.underlying37]
  have he : Tryz.prog.elem 37 = 5 := by simp [Program.elem, Tryz.underlying37]
  have hz : (Go.sizeOf 5).run Tryz.prog wx = .ok 1 wx := by kernel_rfl
  rw [run_slice_l wx _ _ _ _ ht .i64 _ (by omega) (by omega), he, hz]
  have hne : ¬ cap = m := by omega
  have ha : (⟨b, off, none⟩ : Addr).add m = ⟨b, off + m, none⟩ := by unfold Addr.add; split <;> simp_all
  simp [Result.andThen, sliced, hne, ha]
theorem sum_isB (w : World) (l : List Nat) (hl : l.length = 4) (hb : ∀ c ∈ l, c < 256) : IsB (w.alloc (.cells (u8s l).toArray 5)) (some ⟨w.heap.size, 0, none⟩) 4 4 l := by
  refine ⟨hl, by omega, hb, .inr ⟨w.heap.size, 0, rfl, by simp, fun k hk => ?_⟩⟩
  rw [Nat.zero_add, blk_cell (blk_new _ _)]
  simp [u8s, hk]
set_option maxHeartbeats 2000000 in
set_option maxRecDepth 20000 in
theorem decode_form (a : Option Addr) (len cap : Nat) (l : List Nat) (w : World) (hlen : l.length = len) (hl : len ≤ 1000) (h : len < 7 ∨ 80 < len) :
    Calls Tryz.prog 79 #[.slice a len cap] w fun e w' => e = .returned (.tuple #[.agg (fCells (decF l).2), errV (decF l).1]) ∧ Below w.heap.size w w' := by
  have HD := hide (dec_form (l := l) (by omega))
  rw [HD.out]
  have hres : FIs (w.alloc (.cells (fCells fr0) 36)) w.heap.size 36 fr0 := blk_new _ _
  have HB := hide ((Below.refl w.heap.size w).alloc (Nat.le_refl _) (.cells (fCells fr0) 36))
  have HRES := hide hres
  clear hres hlen
  by_cases h1 : len < 7
  · clear h
    go_enter Tryz.func79, Tryz.ntmps79
    go_wp2_with (refine wpList_store_fl rfl _ _ rfl w.heap.size fr0 rfl rfl fr0 HRES.out ?_)
    intro w9 HF9
    go_wp2
    refine bodyPost_ret (v := .tuple #[.agg (fCells fr0), errV 3]) ?_ rfl ⟨rfl, HB.out.trans (HF9.out.2.2 _ (Nat.le_refl _))⟩
    exact results_cell2F Tryz.results79 rfl (load_f HF9.out.1)
  · have h2 : 80 < len := by omega
    clear h
    go_enter Tryz.func79, Tryz.ntmps79
    go_wp2_with (refine wpList_store_fl rfl _ _ rfl w.heap.size fr0 rfl rfl fr0 HRES.out ?_)
    intro w9 HF9
    go_wp2
    refine bodyPost_ret (v := .tuple #[.agg (fCells fr0), errV 3]) ?_ rfl ⟨rfl, HB.out.trans (HF9.out.2.2 _ (Nat.le_refl _))⟩
    exact results_cell2F Tryz.results79 rfl (load_f HF9.out.1)
set_option maxHeartbeats 4000000 in
set_option maxRecDepth 20000 in
theorem decode_main (b off len cap : Nat) (l : List Nat) (w : World) (h : IsB w (some ⟨b, off, none⟩) len cap l) (h7 : 7 ≤ len) (h80 : len ≤ 80) :
    Calls Tryz.prog 79 #[.slice (some ⟨b, off, none⟩) len cap] w fun e w' => e = .returned (.tuple #[.agg (fCells (decF l).2), errV (decF l).1]) ∧ Below w.heap.size w w' := by
  obtain ⟨m, hm⟩ : ∃ m, m + 4 = len := ⟨len - 4, by omega⟩
  have hlen := h.1
  have hcl := h.2.1
  have hB0 : Below w.heap.size w (w.alloc (.cells (fCells fr0) 36)) := (Below.refl w.heap.size w).alloc (Nat.le_refl _) _
  have hres : FIs (w.alloc (.cells (fCells fr0) 36)) w.heap.size 36 fr0 := blk_new _ _
  have HX := hide h
  obtain ⟨wA, hwA⟩ : ∃ wA, Hid (w.alloc (.cells (fCells fr0) 36) = wA) := ⟨_, hide rfl⟩
  rw [hwA.out] at hB0 hres
  have hXA := h.below hB0
  have hN : w.heap.size < wA.heap.size := hres.lt
  have HB0 := hide hB0
  have HRES := hide hres
  have HXA := hide hXA
  clear h hB0 hres hXA
  have t1 : wrap64 ((len : Int) - 4) = (m : Int) := by rw [IntWalk.wrap64_in _ ⟨by omega, by omega⟩]; omega
  go_enter Tryz.func79, Tryz.ntmps79
  go_wp2_with fail
  rw [show w.alloc (.cells #[.int .i64 0, .int .i64 0, .int .i64 0, .int .i64 0, .int .i64 0, .int .i64 0, .int .i64 0, .int .i64 0, .int .i64 0, .int .i64 0, .int .i64 0, .int .i64 0, .int .i64 0, .int .i64 0, .int .i64 0, .int .i64 0, .int .i64 0, .int .i64 0, .int .i64 0, .int .i64 0, .int .i64 0, .int .i64 0, .int .i64 0] 36) = wA from hwA.out, show len - 4 = m by omega]
  have hsl : ∀ wx : World, (Instr.slice 37 (.slice (some ⟨b, off, none⟩) len cap) (some (.int .i64 (m : Int))) none none).run Tryz.prog wx = .ok (.slice (some ⟨b, off + m, none⟩) 4 (cap - m)) wx := by
    intro wx
    have := slice_from b off len cap m (by omega) (by omega) wx
    rwa [show len - m = 4 by omega] at this
  have hsb : ∀ wx, Below wA.heap.size wA wx → Calls Tryz.prog 83 #[.slice (some ⟨b, off, none⟩) m cap] wx fun e w' => e = .returned (.slice (some ⟨wx.heap.size, 0, none⟩) 4 4) ∧ Hid (w' = wx.alloc (.cells (u8s (b4 (crc (toldN l)).toNat)).toArray 5)) :=
    fun wx hx => sumBytes_any _ m cap (toldN l) wx (by omega) (told_isB (HXA.out.below hx) (by omega) hm)
  have heq : ∀ wx, Below wA.heap.size wA wx → Calls Tryz.prog 130 #[.slice (some ⟨wx.heap.size, 0, none⟩) 4 4, .slice (some ⟨b, off + m, none⟩) 4 (cap - m)] (wx.alloc (.cells (u8s (b4 (crc (toldN l)).toNat)).toArray 5)) fun e w' => e = .returned (.bool (decide (b4 (crc (toldN l)).toNat = lastN l))) ∧ Hid (w' = wx.alloc (.cells (u8s (b4 (crc (toldN l)).toNat)).toArray 5)) :=
    fun wx hx => equal_any _ _ _ _ _ _ _ _ _ (sum_isB wx _ rfl (b4_lt _)) (last_isB (HXA.out.below (hx.alloc hx.size _)) (by omega) hm)
  have HSB := hide hsb
  have HEQ := hide heq
  clear hsb heq
  refine wp_region_held_drew (S := fun w' => Below wA.heap.size wA w') (by kernel_rfl) (Below.refl _ _).drew (fun hHeld => ?_)
  refine wpAnyH_take (i := 0) (oi := _) (v := .slice (some ⟨b, off, none⟩) m cap) rfl (by kernel_rfl) (by kernel_rfl) (by kernel_rfl) (fun _ _ _ h => h) (Or.inl ⟨by rfl, fun w _ => by go_simp⟩) hHeld ?_
  simp only [Act.put]
  refine wpAnyH_take (i := 2) (oi := _) (v := .slice (some ⟨b, off, none⟩) len cap) rfl (by kernel_rfl) (by kernel_rfl) (by kernel_rfl) (fun _ _ _ h => h) (Or.inl ⟨by rfl, fun w _ => by go_simp⟩) hHeld ?_
  simp only [Act.put]
  refine wpAnyH_take (i := 3) (oi := _) (v := .slice (some ⟨b, off, none⟩) m cap) rfl (by kernel_rfl) (by kernel_rfl) (by kernel_rfl) (fun _ _ _ h => h) (Or.inl ⟨by rfl, fun w _ => by go_simp⟩) hHeld ?_
  simp only [Act.put]
  refine wpAnyH_take (i := 4) (oi := _) (v := .int .i64 (m : Int)) rfl (by kernel_rfl) (by kernel_rfl) (by kernel_rfl) (fun _ _ _ h => h) (Or.inl ⟨by rfl, fun w _ => by go_simp⟩) hHeld ?_
  simp only [Act.put]
  refine wpAnyH_take (i := 5) (oi := _) (v := .slice (some ⟨b, off + m, none⟩) 4 (cap - m)) rfl (by kernel_rfl) (by kernel_rfl) (by kernel_rfl) (fun _ _ _ h => h) (Or.inl ⟨by rfl, fun w _ => by go_simp⟩) hHeld ?_
  simp only [Act.put]
  refine wpAnyH_ready (rs := [1]) (by kernel_rfl) (by simp) ?_
  refine AllReadyH.cons (o := _) rfl (fun K hK => ?_) AllReadyH.nil
  rw [if_pos (by rfl)]
  go_simp
  go_at_call 83
  refine (unhide HSB _ (Below.refl _ _).drew).mono ?_
  rintro e w5 ⟨rfl, HW5⟩
  dsimp only
  have hB5 : Below wA.heap.size wA w5 := by rw [HW5.out]; exact (Below.refl wA.heap.size wA).drew.alloc (Nat.le_refl _) _
  refine hK.out _ _ hB5 (fun hHeld => ?_)
  clear hK K
  refine wpAnyH_ready (rs := [6]) (by kernel_rfl) (by simp) ?_
  refine AllReadyH.cons (o := _) rfl (fun K hK => ?_) AllReadyH.nil
  rw [if_pos (by rfl)]
  go_simp
  go_at_call 130
  have heq5 := unhide HEQ _ ((Below.refl _ _).drew)
  rw [← HW5.out] at heq5
  refine heq5.mono ?_
  rintro e w6 ⟨rfl, HW6⟩
  dsimp only
  clear heq5
  have hw6 : w6 = w5 := HW6.out
  subst hw6
  refine hK.out _ _ hB5 (fun hHeld => ?_)
  clear hK K HW6
  obtain ⟨r, hr⟩ : ∃ r, Hid (decide (b4 (crc (toldN l)).toNat = lastN l) = r) := ⟨_, hide rfl⟩
  rw [hr.out]
  refine wpAnyH_take (i := 7) (oi := _) (v := .bool (!r)) rfl (by kernel_rfl) (by kernel_rfl) (by kernel_rfl) (fun _ _ _ h => h) (Or.inl ⟨by rfl, fun w _ => by go_simp⟩) hHeld ?_
  simp only [Act.put, List.getElem_toArray, List.getElem_cons_succ, List.getElem_cons_zero, List.setIfInBounds_toArray, List.set_cons_succ, List.set_cons_zero]
  refine wpAnyH_done (by kernel_rfl) ?_ _
  have HX6 := hide (HXA.out.below hB5)
  have HRS := hide (HRES.out.below hN hB5)
  have HOL := hide (HB0.out.trans (hB5.mono (by omega)))
  have hs6 := hB5.size
  clear hHeld hB5 HW5 HSB HEQ hsl HRES HXA HX
  cases r
  · have HD := hide (dec_spoilt (l := l) (by omega) (by omega) (of_decide_eq_false hr.out))
    go_wp2_with (refine wpList_store_fl rfl _ _ rfl w.heap.size fr0 rfl rfl fr0 HRS.out ?_)
    intro w9 HF9
    go_wp2
    refine bodyPost_ret (v := .tuple #[.agg (fCells fr0), errV 15]) ?_ rfl ⟨by rw [HD.out], HOL.out.trans (HF9.out.2.2 _ (Nat.le_refl _))⟩
    exact results_cell2F Tryz.results79 rfl (load_f HF9.out.1)
  · have hsum := of_decide_eq_true hr.out
    have HRD := hide (read_any b off m cap (toldN l) w6 (by omega) (by omega) (by omega) (told_isB HX6.out (by omega) hm))
    go_wp2_with (go_at_call 132; refine HRD.out.mono ?_)
    rintro e w7 ⟨⟨v7, rfl, g7, cp7, rfl, hg71, hg72, hcp7, hrow7⟩, hB7⟩
    have HFR := hide (framed_any g7 0 _ cp7 (readF (toldN l)) w7 rfl hg72 hrow7)
    have HX7 := hide (HX6.out.below hB7)
    have HRS7 := hide (HRS.out.below (by omega) hB7)
    have HOL7 := hide (HOL.out.trans (hB7.mono (by omega)))
    have hs7 := hB7.size
    clear hB7 HRD hrow7 HX6 HRS HOL hg71 hg72
    obtain ⟨G, hG⟩ : ∃ G, Hid (framedF (readF (toldN l)) = G) := ⟨_, hide rfl⟩
    rw [hG.out] at HFR
    go_wp2_with (go_at_call 131; refine HFR.out.mono ?_)
    rintro e w8 ⟨rfl, hB8⟩
    have HX8 := hide (HX7.out.below hB8)
    have HRS8 := hide (HRS7.out.below (by omega) hB8)
    have HOL8 := hide (HOL7.out.trans (hB8.mono (by omega)))
    have hs8 := hB8.size
    clear hB8 HFR HX7 HRS7 HOL7
    go_wp2_with (refine wpList_store_fl rfl _ _ rfl w8.heap.size G rfl rfl fr0 (blk_new _ _) ?_)
    intro wB HFB
    have hBB : Below w8.heap.size w8 wB := ((Below.refl _ _).alloc (Nat.le_refl _) _).trans (HFB.out.2.2 _ (Nat.le_refl _))
    have HFQ := hide HFB.out.1
    have HXB := hide (HX8.out.below hBB)
    have HRSB := hide (HRS8.out.below (by omega) hBB)
    have HOLB := hide (HOL8.out.trans (hBB.mono (by omega)))
    have hsB := HFQ.out.lt
    clear hBB HFB HX8 HRS8 HOL8
    generalize w8.heap.size = Q at HFQ hsB hs8 ⊢
    cases hmay : mayB G
    · have HEN := hide (encode_bad G wB hmay)
      have HD := hide (dec_not (l := l) (by omega) (by omega) hsum (by rw [hG.out, hmay]; simp))
      go_wp2_with (first
        | (refine wpList_load_f rfl _ rfl Q rfl G HFQ.out ?_)
        | (go_at_call 39; refine HEN.out.mono ?_))
      rintro e wC ⟨rfl, hBC⟩
      have HRS := hide (HRSB.out.below (by omega) hBC)
      have HOL := hide (HOLB.out.trans (hBC.mono (by omega)))
      clear hBC HEN HRSB HOLB HXB HFQ
      go_wp2_with (refine wpList_store_fl rfl _ _ rfl w.heap.size fr0 rfl rfl fr0 HRS.out ?_)
      intro w9 HF9
      go_wp2
      refine bodyPost_ret (v := .tuple #[.agg (fCells fr0), errV 3]) ?_ rfl ⟨by rw [HD.out], HOL.out.trans (HF9.out.2.2 _ (Nat.le_refl _))⟩
      exact results_cell2F Tryz.results79 rfl (load_f HF9.out.1)
    · have HEN := hide (encode_ok G wB hmay)
      go_wp2_with (first
        | (refine wpList_load_f rfl _ rfl Q rfl G HFQ.out ?_)
        | (go_at_call 39; refine HEN.out.mono ?_))
      rintro e wC ⟨⟨v, rfl, hown⟩, hBC⟩
      obtain ⟨gE, cE, rfl, _, _, hIsE⟩ := EInv.isB (⟨hBC, hown⟩ : EInv wB wC v (encF G)) (fun e => by have := encF_length G; rw [e] at this; simp at this) (encF_lt G)
      have HEQ := hide (equal_any _ _ _ _ _ _ _ _ _ hIsE (HXB.out.below hBC))
      have HRS := hide (HRSB.out.below (by omega) hBC)
      have HOL := hide (HOLB.out.trans (hBC.mono (by omega)))
      have HFQC := hide (HFQ.out.below hsB hBC)
      clear hBC HEN HRSB HOLB HXB HFQ hown hIsE
      cases hqe : decide (encF G = l)
      · rw [hqe] at HEQ
        have HD := hide (dec_not (l := l) (by omega) (by omega) hsum (by rw [hG.out]; exact fun h => of_decide_eq_false hqe h.2))
        go_wp2_with (first
          | (go_at_call 130; refine HEQ.out.mono ?_; rintro e wD ⟨rfl, rfl⟩)
          | (refine wpList_store_fl rfl _ _ rfl w.heap.size fr0 rfl rfl fr0 HRS.out ?_))
        intro w9 HF9
        go_wp2
        refine bodyPost_ret (v := .tuple #[.agg (fCells fr0), errV 3]) ?_ rfl ⟨by rw [HD.out], HOL.out.trans (HF9.out.2.2 _ (Nat.le_refl _))⟩
        exact results_cell2F Tryz.results79 rfl (load_f HF9.out.1)
      · rw [hqe] at HEQ
        have HD := hide (dec_ok (l := l) (by omega) (by omega) hsum (by rw [hG.out]; exact ⟨hmay, of_decide_eq_true hqe⟩))
        go_wp2_with (first
          | (go_at_call 130; refine HEQ.out.mono ?_; rintro e wD ⟨rfl, rfl⟩)
          | (refine wpList_load_f rfl _ rfl Q rfl G HFQC.out ?_)
          | (refine wpList_store_fl rfl _ _ rfl w.heap.size G rfl rfl fr0 HRS.out ?_))
        intro w9 HF9
        go_wp2
        refine bodyPost_ret (v := .tuple #[.agg (fCells G), errV 0]) ?_ rfl ⟨by rw [HD.out, hG.out], HOL.out.trans (HF9.out.2.2 _ (Nat.le_refl _))⟩
        exact results_cell2F Tryz.results79 rfl (load_f HF9.out.1)
theorem decode_any (a : Option Addr) (len cap : Nat) (l : List Nat) (w : World) (hl : len ≤ 1000) (h : IsB w a len cap l) :
    Calls Tryz.prog 79 #[.slice a len cap] w fun e w' => e = .returned (.tuple #[.agg (fCells (decF l).2), errV (decF l).1]) ∧ Below w.heap.size w w' := by
  by_cases hf : len < 7 ∨ 80 < len
  · exact decode_form a len cap l w h.1 hl hf
  · obtain ⟨b, off, rfl, _, _⟩ := h.row (by omega)
    exact decode_main b off len cap l w h (by omega) (by omega)
set_option maxHeartbeats 1000000 in
theorem cycle_any (p : Nat) (C : RC) (R : RS) (w : World) (h : RpIs w p C R) :
    Calls Tryz.prog 53 #[.pointer (some ⟨p, 0, none⟩)] w fun e w' => e = .returned (.int .i64 R.cycle) ∧ w' = w := by
  have hc := h.c5
  clear h
  go_enter Tryz.func53, Tryz.ntmps53
  go_wp2
  go_ret
  exact ⟨rfl, rfl⟩
section
variable {ops : Array Oper} {rest : List Oper} {op : Oper} {a : Act} {w : World} {Q : Exit → Act → World → Prop}
theorem wpList_store_s (hgd : op.guard = none) (x y : Operand) (ho : op.op = .store 34 x y) (b : Nat) (S X : St) (hx : a.eval x = .pointer (some ⟨b, 0, none⟩)) (hy : a.eval y = .agg (stCells X)) (hS : StIs w b S)
    (h : ∀ w', Hid (StIs w' b X ∧ (∀ k, k ≠ b → w'.heap[k]? = w.heap[k]?) ∧ (∀ B, B ≤ b → Below B w w')) → wpList Tryz.prog ops Q rest (a.put op.dst undef) w') : wpList Tryz.prog ops Q (op :: rest) a w :=
  wpList_plain hgd fun _ hK => wp_store_row _ x y ho b _ hx hy _ _ hS (by rw [stateInfo]; rfl) rfl (oneCells X) (hK _ _ (h _ ⟨row_same hS X, fun _ hk => row_other _ _ _ _ hk, fun _ hB => below_row (Below.refl _ _) hB _⟩))
end
theorem load_s {w : World} {q : Nat} {S : St} (h : StIs w q S) : (loadVar 34 ⟨q, 0, none⟩).run Tryz.prog w = .ok (.agg (stCells S)) w :=
  run_loadVar_row (P := Tryz.prog) _ _ _ 34 _ _ _ h Tryz.underlying34 rfl (by rw [stateInfo]; rfl)
set_option maxHeartbeats 1000000 in
set_option maxRecDepth 20000 in
theorem rstate_any (p : Nat) (C : RC) (R : RS) (w : World) (h : RpIs w p C R) :
    Calls Tryz.prog 54 #[.pointer (some ⟨p, 0, none⟩)] w fun e w' => e = .returned (.agg (stCells R.st)) ∧ Below w.heap.size w w' := by
  have hB : Below w.heap.size w (w.alloc (.cells (stCells st0) 34)) := (Below.refl _ _).alloc (Nat.le_refl _) _
  have hS : StIs (w.alloc (.cells (stCells st0) 34)) w.heap.size st0 := blk_new _ _
  have hr := (h.below hB).state
  have HR := hide hr
  have HS := hide hS
  have HB := hide hB
  have hpl := h.lt
  clear h hr hS hB
  go_enter Tryz.func54, Tryz.ntmps54
  go_wp2_with (first
    | (refine wpList_load_mid rfl 34 _ rfl p 8 rfl (stCells R.st).toList _ HR.out Tryz.underlying34 rfl (by rw [stateInfo]; rfl) ?_)
    | (refine wpList_store_s rfl _ _ rfl w.heap.size st0 R.st rfl rfl HS.out ?_))
  intro w9 HF9
  go_wp2
  refine bodyPost_ret (v := .agg (stCells R.st)) ?_ rfl ⟨rfl, HB.out.trans (HF9.out.2.2 _ (Nat.le_refl _))⟩
  exact results_cell1 Tryz.results54 rfl (load_s HF9.out.1)
def seeR (x y : Int) (R : RS) : RS := { R with sx := x, sy := y }
set_option maxHeartbeats 1000000 in
theorem see_any (p : Nat) (C : RC) (R : RS) (x y : Int) (w : World) (h : RpIs w p C R) :
    Calls Tryz.prog 50 #[.pointer (some ⟨p, 0, none⟩), .agg #[.int .i64 x, .int .i64 y]] w fun e w' => e = .returned (.tuple #[]) ∧ RpIs w' p C (seeR x y R) ∧ Mod w w' (· = p) := by
  have h1 := h.put (R' := { R with sx := x }) (k := 25) (by decide) (.int .i64 x) (fun j _ => by
    unfold upd rpF
    by_cases e : j = 25
    · subst e; rfl
    · simp [e])
  have h2 := h1.put (R' := seeR x y R) (k := 26) (by decide) (.int .i64 y) (fun j _ => by
    unfold upd rpF seeR
    by_cases e : j = 26
    · subst e; rfl
    · simp [e])
  have hB := (Below.refl ((w.setCell ⟨p, 25, none⟩ (.int .i64 x)).setCell ⟨p, 26, none⟩ (.int .i64 y)).heap.size ((w.setCell ⟨p, 25, none⟩ (.int .i64 x)).setCell ⟨p, 26, none⟩ (.int .i64 y))).alloc (Nat.le_refl _) (.cells #[.int .i64 x, .int .i64 y] 31)
  have h3 := h2.below hB
  have hm := (((Mod.refl w (· = p)).set ⟨p, 25, none⟩ (.int .i64 x) (fun _ => rfl)).set ⟨p, 26, none⟩ (.int .i64 y) (fun _ => rfl)).below hB
  have c25 := h.c25
  have c26 := h.c26
  have f25 := h.blk.free 25
  have f26 := h.blk.free 26
  have hpl := h.lt
  have H2 := hide h3
  have HM := hide hm
  clear h h1 h2 h3 hm hB
  go_enter Tryz.func50, Tryz.ntmps50
  go_wp2
  go_end0
  exact ⟨rfl, H2.out, HM.out⟩
def isRep (x : Int) : Bool := decide (0 ≤ x) && decide (x < 3)
set_option maxHeartbeats 1000000 in
theorem isReplica_any (x : Int) (w : World) :
    Calls Tryz.prog 134 #[.int .i64 x] w fun e w' => e = .returned (.bool (isRep x)) ∧ w' = w := by
  by_cases h1 : 0 ≤ x
  · by_cases h2 : x < 3
    · have he : isRep x = true := by simp [isRep, h1, h2]
      rw [he]
      clear he
      go_enter Tryz.func134, Tryz.ntmps134
      go_wp2
      go_ret
      exact ⟨rfl, rfl⟩
    · have he : isRep x = false := by simp [isRep, h2]
      rw [he]
      clear he
      go_enter Tryz.func134, Tryz.ntmps134
      go_wp2
      go_ret
      exact ⟨rfl, rfl⟩
  · have he : isRep x = false := by simp [isRep, h1]
    rw [he]
    clear he
    go_enter Tryz.func134, Tryz.ntmps134
    go_wp2
    go_ret
    exact ⟨rfl, rfl⟩
def two3 (a b c : Nat) : Nat := a &&& b ||| b &&& c ||| c &&& a
theorem two3_lt {a b c m : Nat} (ha : a < 2 ^ m) (hb : b < 2 ^ m) : two3 a b c < 2 ^ m :=
  Nat.or_lt_two_pow (Nat.or_lt_two_pow (Nat.lt_of_le_of_lt Nat.and_le_left ha) (Nat.lt_of_le_of_lt Nat.and_le_left hb)) (Nat.lt_of_le_of_lt Nat.and_le_right ha)
set_option maxHeartbeats 1000000 in
theorem twoOf_any (a b c : Nat) (w : World) (ha : a < 4096) (hb : b < 4096) (hc : c < 4096) :
    Calls Tryz.prog 199 #[.int .i64 (a : Int), .int .i64 (b : Int), .int .i64 (c : Int)] w fun e w' => e = .returned (.int .i64 ((two3 a b c : Nat) : Int)) ∧ w' = w := by
  have h1 : a &&& b < 4096 := Nat.lt_of_le_of_lt Nat.and_le_left ha
  have h2 : b &&& c < 4096 := Nat.lt_of_le_of_lt Nat.and_le_left hb
  have h3 : c &&& a < 4096 := Nat.lt_of_le_of_lt Nat.and_le_left hc
  have h4 : a &&& b ||| b &&& c < 4096 := Nat.or_lt_two_pow (n := 12) h1 h2
  have e1 := and_nat a b (by omega) (by omega)
  have e2 := and_nat b c (by omega) (by omega)
  have e3 := and_nat c a (by omega) (by omega)
  have e4 := or_nat (a &&& b) (b &&& c) (by omega) (by omega)
  have e5 := or_nat (a &&& b ||| b &&& c) (c &&& a) (by omega) (by omega)
  have he : two3 a b c = a &&& b ||| b &&& c ||| c &&& a := rfl
  have HE := hide he
  clear he
  go_enter Tryz.func199, Tryz.ntmps199
  go_wp2
  go_ret
  rw [HE.out]
  exact ⟨rfl, rfl⟩
end Go.Proofs.YtaablbmgagiajabGreatDoor
