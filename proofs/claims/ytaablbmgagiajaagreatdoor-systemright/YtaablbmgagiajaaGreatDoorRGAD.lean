import Derived.OrdersHeld
import Derived.Test.YtaablbmgagiajaaGreatDoorRGAC
namespace Go.Proofs.YtaablbmgagiajaaGreatDoor
open Go.RowKit Go.Deep
theorem yields_f {ops : Array Oper} {S : World → Prop} {op : Oper} {a : Act} (hw : Region.wanted op (yielded ops a.tmps) = true) (x : Operand) (ho : op.op = .load 35 x)
    (b : Nat) (hx : a.eval x = .pointer (some ⟨b, 0, none⟩)) (F : FR) (hS : ∀ w, S w → FIs w b 35 F) : YieldsIf Tryz.prog ops S op (.agg (fCells F)) a :=
  .inl ⟨hw, fun w h => by
    unfold execOp
    simp only [ho, hx, Instr.loadAt, Instr.sureAddr, Sem.run_bind, Sem.run_pure, Result.andThen_ok, load_f (hS w h)]⟩
theorem yields_eql {ops : Array Oper} {S : World → Prop} {op : Oper} {a : Act} (hw : Region.wanted op (yielded ops a.tmps) = true) (x y : Operand) (ho : op.op = .binOp .eql 35 x y 35)
    (F G : FR) (hx : a.eval x = .agg (fCells F)) (hy : a.eval y = .agg (fCells G)) : YieldsIf Tryz.prog ops S op (.bool (eqB F G)) a :=
  .inl ⟨hw, fun w _ => by
    have h := eql_f w F G
    unfold execOp
    simp only [ho, hx, hy]
    have hq : (eqGuard BinOp.eql 35 x y (.agg (fCells F)) (.agg (fCells G))).run Tryz.prog w = .ok () w := run_eqGuard_agg w _ _ _ _ _ _ (by kernel_rfl)
    (simp only [Sem.run_bind, hq, h, Result.andThen_ok, Sem.run_pure])⟩
theorem head_false {F : FR} (h : headB F = false) : mayB F = false := by unfold mayB; rw [h]; rfl
set_option maxHeartbeats 2000000 in
set_option maxRecDepth 20000 in
theorem mayBe_head (F : FR) (w : World) (h : headB F = false) :
    Calls Tryz.prog 62 #[.agg (fCells F)] w fun e w' => e = .returned (.bool (mayB F)) ∧ Below w.heap.size w w' := by
  have HM := hide (head_false h)
  have c0 := fCells_at F 0 (by omega)
  have c1 := fCells_at F 1 (by omega)
  unfold headB at h
  obtain ⟨x, hx⟩ : ∃ x, Hid (F 0 = x) := ⟨_, hide rfl⟩
  obtain ⟨y, hy⟩ : ∃ y, Hid (F 1 = y) := ⟨_, hide rfl⟩
  rw [hx.out] at c0 h
  rw [hy.out] at c1 h
  have HB := hide ((Below.refl w.heap.size w).alloc (Nat.le_refl _) (.cells (fCells F) 35))
  by_cases h1 : x < 1
  · clear h
    go_enter Tryz.func62, Tryz.ntmps62
    go_wp2
    go_ret
    exact ⟨ret_bool HM.out.symm, HB.out⟩
  · by_cases h2 : 5 < x
    · clear h
      go_enter Tryz.func62, Tryz.ntmps62
      go_wp2
      go_ret
      exact ⟨ret_bool HM.out.symm, HB.out⟩
    · by_cases h3 : y < 0
      · clear h
        go_enter Tryz.func62, Tryz.ntmps62
        go_wp2
        go_ret
        exact ⟨ret_bool HM.out.symm, HB.out⟩
      · have h4 : 3 < y := by
          simp only [Bool.and_eq_false_iff, decide_eq_false_iff_not] at h
          omega
        clear h
        go_enter Tryz.func62, Tryz.ntmps62
        go_wp2
        go_ret
        exact ⟨ret_bool HM.out.symm, HB.out⟩
set_option maxHeartbeats 4000000 in
set_option maxRecDepth 20000 in
theorem mayBe_main (F : FR) (w : World) (h : headB F = true) :
    Calls Tryz.prog 62 #[.agg (fCells F)] w fun e w' => e = .returned (.bool (mayB F)) ∧ Below w.heap.size w w' := by
  have hm : mayB F = ((numsF F).all fitsB && eqB F (framedF (numsF F))) := by unfold mayB; rw [h]; rfl
  rw [hm]
  have c0 := fCells_at F 0 (by omega)
  have c1 := fCells_at F 1 (by omega)
  unfold headB at h
  obtain ⟨x, hx⟩ : ∃ x, Hid (F 0 = x) := ⟨_, hide rfl⟩
  obtain ⟨y, hy⟩ : ∃ y, Hid (F 1 = y) := ⟨_, hide rfl⟩
  rw [hx.out] at c0 h
  rw [hy.out] at c1 h
  simp only [Bool.and_eq_true, decide_eq_true_eq] at h
  obtain ⟨⟨h1, h2⟩, h3, h4⟩ := h
  have hB : Below w.heap.size w (w.alloc (.cells (fCells F) 35)) := (Below.refl w.heap.size w).alloc (Nat.le_refl _) _
  have hbox : FIs (w.alloc (.cells (fCells F) 35)) w.heap.size 35 F := blk_new _ _
  have HB := hide hB
  have HBOX := hide hbox
  have HNUM := hide (numbers_any F (w.alloc (.cells (fCells F) 35)))
  obtain ⟨l, hl⟩ : ∃ l, Hid (numsF F = l) := ⟨_, hide rfl⟩
  have hlen := nums_length_le F
  rw [hl.out] at HNUM hlen ⊢
  clear hB hbox hm
  go_enter Tryz.func62, Tryz.ntmps62
  go_wp2_with (first
    | (refine wpList_load_f rfl _ rfl w.heap.size rfl F HBOX.out ?_)
    | (go_at_call 63; refine HNUM.out.mono ?_))
  rintro e w1 ⟨⟨v, rfl, g, cp, rfl, hg1, hg2, hcp, hrow⟩, hB1⟩
  have hN : w.heap.size < w1.heap.size := by have := hB1.size; simp at this; omega
  have hbox1 : FIs w1 w.heap.size 35 F := HBOX.out.below (by simp) hB1
  have hold1 : Below w.heap.size w w1 := HB.out.trans (hB1.mono (by simp))
  have HBOX1 := hide hbox1
  have HOLD1 := hide hold1
  have HROW := hide hrow
  clear hbox1 hold1 hrow hB1 HB HBOX HNUM hg1 c0 c1
  obtain ⟨n, hn⟩ : ∃ n, Hid (l.length = n) := ⟨_, hide rfl⟩
  rw [hn.out] at hlen hcp ⊢
  go_wp2
  go_loop [28] (fun i => ∃ k : Nat, k ≤ n ∧ i = .int .i64 k ∧ Hid ((l.take k).all fitsB = true)) (fun i => n - (intOf i).toNat)
  case atStart => exact ⟨0, Nat.zero_le _, rfl, by simp [Hid]⟩
  case round =>
    obtain ⟨k, hk, rfl, HT⟩ := hrel
    by_cases hlt : k < n
    · have hkl : k < l.length := by rw [hn.out]; exact hlt
      obtain ⟨z, hz, hcell⟩ := HROW.out.at hkl
      rw [Nat.zero_add] at hcell
      by_cases q1 : z < 0
      · have hf : l.all fitsB = false := all_take_false hkl (by rw [hz.out]; unfold fitsB; simp; omega)
        have HF := hide hf
        clear hf hkl
        go_wp2
        go_ret
        exact ⟨ret_bool (by rw [HF.out]; rfl), HOLD1.out⟩
      · by_cases q2 : 1048576 < z
        · have hf : l.all fitsB = false := all_take_false hkl (by rw [hz.out]; unfold fitsB; simp; omega)
          have HF := hide hf
          clear hf hkl
          go_wp2
          go_ret
          exact ⟨ret_bool (by rw [HF.out]; rfl), HOLD1.out⟩
        · have hf : (l.take (k + 1)).all fitsB = true := all_take_next hkl HT.out (by rw [hz.out]; unfold fitsB; simp; omega)
          have HF := hide hf
          clear hf hkl
          go_wp2
          go_round
          case rel => exact ⟨k + 1, by omega, by go_num, HF.out⟩
          case measure => simp [intOf]; omega
    · have hkn : k = n := by omega
      subst hkn
      have hall : l.all fitsB = true := by
        have := HT.out
        rwa [List.take_of_length_le (by rw [hn.out]; omega)] at this
      have HALL := hide hall
      have hfr : ∀ wx, Below w1.heap.size w1 wx → Calls Tryz.prog 80 #[.slice (some ⟨g, 0, none⟩) k cp] wx fun e w' => e = .returned (.agg (fCells (framedF l))) ∧ Hid (Below w1.heap.size w1 w') := by
        intro wx hx
        refine (framed_any g 0 k cp l wx hn.out (Nat.lt_of_lt_of_le hg2 hx.size) (HROW.out.below hg2 hx)).mono ?_
        rintro e w' ⟨he, hB⟩
        exact ⟨he, hx.trans (hB.mono hx.size)⟩
      have HFR := hide hfr
      obtain ⟨G, hG⟩ : ∃ G, Hid (framedF l = G) := ⟨_, hide rfl⟩
      rw [hG.out] at HFR
      have hss : ∀ wx, Below w1.heap.size w1 wx → FIs wx w.heap.size 35 F := fun wx hx => HBOX1.out.below hN hx
      clear hall hfr
      go_wp2_with fail
      refine wp_region_held_drew (S := fun w' => FIs w' w.heap.size 35 F) (by kernel_rfl) (hss _ (Below.refl _ _).drew) (fun hHeld => ?_)
      refine wpAnyH_take (i := 0) (oi := _) (v := _) rfl (by kernel_rfl) (by kernel_rfl) (by kernel_rfl) (fun _ _ _ h => h) (yields_f (by rfl) _ rfl _ rfl F (fun w h => h)) hHeld ?_
      simp only [Act.put]
      refine wpAnyH_take (i := 1) (oi := _) (v := .slice (some ⟨g, 0, none⟩) k cp) rfl (by kernel_rfl) (by kernel_rfl) (by kernel_rfl) (fun _ _ _ h => h) (Or.inl ⟨by rfl, fun w _ => by go_simp⟩) hHeld ?_
      simp only [Act.put]
      refine wpAnyH_ready (rs := [2]) (by kernel_rfl) (by simp) ?_
      refine AllReadyH.cons (o := _) rfl (fun K hK => ?_) AllReadyH.nil
      rw [if_pos (by rfl)]
      go_simp
      go_at_call 80
      refine (unhide HFR _ (Below.refl _ _).drew).mono ?_
      rintro e w5 ⟨rfl, HB5⟩
      dsimp only
      refine hK.out _ _ (hss _ HB5.out) (fun hHeld => ?_)
      clear hK K
      refine wpAnyH_take (i := 3) (oi := _) (v := .bool (eqB F G)) rfl (by kernel_rfl) (by kernel_rfl) (by kernel_rfl) (fun _ _ _ h => h) (yields_eql (by rfl) _ _ rfl F G rfl rfl) hHeld ?_
      simp only [Act.put, List.getElem_toArray, List.getElem_cons_succ, List.getElem_cons_zero, List.setIfInBounds_toArray, List.set_cons_succ, List.set_cons_zero]
      refine wpAnyH_take (i := 4) (oi := _) (v := .bool (eqB F G)) rfl (by kernel_rfl) (by kernel_rfl) (by kernel_rfl) (fun _ _ _ h => h) (Or.inl ⟨by rfl, fun w _ => by go_simp⟩) hHeld ?_
      simp only [Act.put, List.getElem_toArray, List.getElem_cons_succ, List.getElem_cons_zero, List.setIfInBounds_toArray, List.set_cons_succ, List.set_cons_zero]
      refine wpAnyH_done (by kernel_rfl) ?_ _
      clear hHeld
      go_wp2
      go_ret
      exact ⟨ret_bool (by rw [HALL.out, hG.out]; rfl), HOLD1.out.trans (HB5.out.mono (by omega))⟩
theorem mayBe_any (F : FR) (w : World) :
    Calls Tryz.prog 62 #[.agg (fCells F)] w fun e w' => e = .returned (.bool (mayB F)) ∧ Below w.heap.size w w' := by
  cases h : headB F
  · exact mayBe_head F w h
  · exact mayBe_main F w h
end Go.Proofs.YtaablbmgagiajaaGreatDoor
namespace Go.Proofs.YtaablbmgagiajaaGreatDoor
def b3 (n : Nat) : List Nat := [n / 65536 % 256, n / 256 % 256, n % 256]
def b4 (n : Nat) : List Nat := [n / 16777216 % 256, n / 65536 % 256, n / 256 % 256, n % 256]
def bytesN (l : List Int) : List Nat := l.flatMap fun x => b3 x.toNat
def withSum (l : List Nat) : List Nat := l ++ b4 (crc l).toNat
def encF (F : Nat → Int) : List Nat := withSum (bytesN (numsF F))
theorem bytesN_take (l : List Int) (k : Nat) (h : k < l.length) : bytesN (l.take (k + 1)) = bytesN (l.take k) ++ b3 (l[k]?.getD 0).toNat := by
  unfold bytesN
  rw [List.take_add_one, List.getElem?_eq_getElem h, List.flatMap_append]
  rfl
theorem bytesN_length (l : List Int) : (bytesN l).length = 3 * l.length := by
  induction l with
  | nil => rfl
  | cons x l ih =>
    show (b3 x.toNat ++ bytesN l).length = _
    rw [List.length_append, ih]
    simp [b3]; omega
theorem b3_lt (n : Nat) : ∀ c ∈ b3 n, c < 256 := by
  intro c hc
  simp only [b3, List.mem_cons, List.not_mem_nil, or_false] at hc
  omega
theorem b4_lt (n : Nat) : ∀ c ∈ b4 n, c < 256 := by
  intro c hc
  simp only [b4, List.mem_cons, List.not_mem_nil, or_false] at hc
  omega
theorem bytesN_lt (l : List Int) : ∀ c ∈ bytesN l, c < 256 := by
  intro c hc
  obtain ⟨x, _, hx⟩ := List.mem_flatMap.1 hc
  exact b3_lt _ _ hx
theorem withSum_length (l : List Nat) : (withSum l).length = l.length + 4 := by unfold withSum; rw [List.length_append]; rfl
theorem withSum_lt {l : List Nat} (h : ∀ c ∈ l, c < 256) : ∀ c ∈ withSum l, c < 256 := by
  intro c hc
  rcases List.mem_append.1 hc with hc | hc
  · exact h c hc
  · exact b4_lt _ _ hc
theorem encF_lt (F : Nat → Int) : ∀ c ∈ encF F, c < 256 := withSum_lt (bytesN_lt _)
theorem encF_length (F : Nat → Int) : (encF F).length = 3 * (numsF F).length + 4 := by unfold encF; rw [withSum_length, bytesN_length]
end Go.Proofs.YtaablbmgagiajaaGreatDoor
namespace Go.Proofs.YtaablbmgagiajaaGreatDoor
open Go.RowKit Go.Deep
def u8s (l : List Nat) : List Value := l.map fun (c : Nat) => Value.int .u8 (c : Int)
theorem u8s_one (l : List Nat) : ∀ u ∈ u8s l, u.oneCell' = true := by
  intro u hu
  obtain ⟨c, _, rfl⟩ := List.mem_map.1 hu
  rfl
theorem infoByte : (Tryz.prog.info? 5).map (fun i => (i.zero, i.size, i.bytes)) = some (some (.int .u8 0), 1, 1) := by kernel_rfl
theorem sum_cells (m : Nat) (h : m < 4294967296) : #[Value.int .u8 ((m : Int) / 16777216), .int .u8 ((m : Int) / 65536 % 256), .int .u8 ((m : Int) / 256 % 256), .int .u8 ((m : Int) % 256)] = (u8s (b4 m)).toArray := by
  have e : (m : Int) / 16777216 = ((m / 16777216 % 256 : Nat) : Int) := by omega
  rw [e]
  simp [u8s, b4]
theorem num_cells (m : Nat) (h : m ≤ 1048576) : [Value.int .u8 ((m : Int) / 65536), .int .u8 ((m : Int) / 256 % 256), .int .u8 ((m : Int) % 256)] = u8s (b3 m) := by
  have e : (m : Int) / 65536 = ((m / 65536 % 256 : Nat) : Int) := by omega
  rw [e]
  simp [u8s, b3]
set_option maxHeartbeats 1000000 in
set_option maxRecDepth 20000 in
theorem sumBytes_any (a : Option Addr) (len cap : Nat) (l : List Nat) (w : World) (hl : len ≤ 1000) (h : IsB w a len cap l) :
    Calls Tryz.prog 64 #[.slice a len cap] w fun e w' => e = .returned (.slice (some ⟨w.heap.size, 0, none⟩) 4 4) ∧ w' = w.alloc (.cells (u8s (b4 (crc l).toNat)).toArray 5) := by
  have HS := hide (sum_any a len cap l w hl h)
  clear h
  obtain ⟨x, hx⟩ : ∃ x, Hid (crc l = x) := ⟨_, hide rfl⟩
  rw [hx.out] at HS
  have hlt : x.toNat < 4294967296 := x.isLt
  obtain ⟨m, hm⟩ : ∃ m, Hid (x.toNat = m) := ⟨_, hide rfl⟩
  rw [hm.out] at HS hlt
  go_enter Tryz.func64, Tryz.ntmps64
  go_wp2_with (go_at_call 84; refine HS.out.mono ?_; rintro e w' ⟨rfl, rfl⟩)
  go_ret
  exact ⟨rfl, by rw [hx.out, hm.out, sum_cells m hlt]⟩
structure EInv (w wr : World) (v : Value) (l : List Nat) : Prop where
  old : Below w.heap.size w wr
  own : wr.ownsRow w.heap.size 5 1 v l.length (u8s l)
theorem EInv.put {w wr w3 : World} {v v' : Value} {l ms : List Nat} {m : Nat} {p : Obj} (h : EInv w wr v l) (hm : ms.length = m)
    (hown : w3.ownsRow w.heap.size 5 1 v' (l.length + m) (u8s l ++ u8s ms)) (hg : (wr.alloc p).grownBy w3 v.ownBlock) : EInv w w3 v' (l ++ ms) := by
  have hb2 : Below wr.heap.size wr (wr.alloc p) := (Below.refl _ _).alloc (Nat.le_refl _) _
  have hs := h.old.size
  refine ⟨(h.old.trans (hb2.mono hs)).grown hg (by simp; omega) (fun k hk => by have := (h.own.lt k hk).1; omega), ?_⟩
  rw [List.length_append, hm]
  simpa [u8s] using hown
theorem EInv.isB {w wr : World} {v : Value} {l : List Nat} (h : EInv w wr v l) (hl : l ≠ []) (hb : ∀ c ∈ l, c < 256) : ∃ g cp, v = .slice (some ⟨g, 0, none⟩) l.length cp ∧ w.heap.size ≤ g ∧ g < wr.heap.size ∧ IsB wr (some ⟨g, 0, none⟩) l.length cp l := by
  have ho := h.own
  obtain ⟨_, ho2⟩ := h.own
  rcases ho2 with ⟨_, h0⟩ | ⟨g, cp, cur, rfl, hg, hh, hcc, hm, hsz, ht⟩
  · exact absurd (List.length_eq_zero_iff.1 h0) hl
  · refine ⟨g, cp, rfl, hg, blk_lt hh, rfl, hcc, hb, .inr ⟨g, 0, rfl, blk_lt hh, fun k hk => ?_⟩⟩
    rw [Nat.zero_add, ho.cellAt k (by omega)]
    simp [u8s, hk]
theorem owns_lower {w : World} {base b2 : Nat} {e : TypeId} {size : Nat} {v : Value} {n : Nat} {xs : List Value} (h : w.ownsRow base e size v n xs) (hb : b2 ≤ base) : w.ownsRow b2 e size v n xs := by
  obtain ⟨h1, h2⟩ := h
  refine ⟨h1, ?_⟩
  rcases h2 with h2 | ⟨g, cp, cur, h3, h4, h5⟩
  · exact .inl h2
  · exact .inr ⟨g, cp, cur, h3, Nat.le_trans hb h4, h5⟩
set_option maxHeartbeats 2000000 in
set_option maxRecDepth 20000 in
theorem encode_bad (F : FR) (w : World) (h : mayB F = false) :
    Calls Tryz.prog 32 #[.agg (fCells F)] w fun e w' => e = .returned (.tuple #[.slice none 0 0, .iface 81 (.int .i64 1)]) ∧ Below w.heap.size w w' := by
  have hB : Below w.heap.size w (w.alloc (.cells (fCells F) 35)) := (Below.refl w.heap.size w).alloc (Nat.le_refl _) _
  have hbox : FIs (w.alloc (.cells (fCells F) 35)) w.heap.size 35 F := blk_new _ _
  have hmay := mayBe_any F (w.alloc (.cells (fCells F) 35))
  rw [h] at hmay
  have HB := hide hB
  have HBOX := hide hbox
  have HM := hide hmay
  clear hB hbox hmay h
  go_enter Tryz.func32, Tryz.ntmps32
  go_wp2_with (first
    | (refine wpList_load_f rfl _ rfl w.heap.size rfl F HBOX.out ?_)
    | (go_at_call 62; refine HM.out.mono ?_))
  rintro e w1 ⟨rfl, hB1⟩
  have HB1 := hide (HB.out.trans (hB1.mono (by simp)))
  clear hB1 HM HBOX HB
  go_wp2
  go_ret2
  exact ⟨rfl, HB1.out⟩
set_option maxHeartbeats 4000000 in
set_option maxRecDepth 20000 in
theorem encode_ok (F : FR) (w : World) (h : mayB F = true) :
    Calls Tryz.prog 32 #[.agg (fCells F)] w fun e w' => (∃ v, e = .returned (.tuple #[v, .nilIface]) ∧ w'.ownsRow w.heap.size 5 1 v (encF F).length (u8s (encF F))) ∧ Below w.heap.size w w' := by
  have hB : Below w.heap.size w (w.alloc (.cells (fCells F) 35)) := (Below.refl w.heap.size w).alloc (Nat.le_refl _) _
  have hbox : FIs (w.alloc (.cells (fCells F) 35)) w.heap.size 35 F := blk_new _ _
  have hmay := mayBe_any F (w.alloc (.cells (fCells F) 35))
  rw [h] at hmay
  have hfit : ∀ k, k < (numsF F).length → ∃ m : Nat, Hid ((numsF F)[k]?.getD 0 = (m : Int)) ∧ m ≤ 1048576 := fun k hk => by
    unfold mayB at h
    simp only [Bool.and_eq_true, List.all_eq_true] at h
    have := h.2.1 _ (List.getElem_mem hk)
    unfold fitsB at this
    simp only [Bool.and_eq_true, decide_eq_true_eq] at this
    obtain ⟨m, hm⟩ := Int.eq_ofNat_of_zero_le this.1
    exact ⟨m, by rw [Hid, List.getElem?_eq_getElem hk]; exact hm, by omega⟩
  have HB := hide hB
  have HBOX := hide hbox
  have HM := hide hmay
  have hlen := nums_length_le F
  have hge := nums_length_ge F
  obtain ⟨l, hl⟩ : ∃ l, Hid (numsF F = l) := ⟨_, hide rfl⟩
  have HNUM := fun wx => hide (numbers_any F wx)
  have HE : Hid (encF F = withSum (bytesN l)) := by rw [Hid, encF, hl.out]
  rw [hl.out] at hfit hlen hge HNUM
  clear hB hbox hmay h
  obtain ⟨i0, hi, hz0, hz1, hz2⟩ := info_parts infoByte
  have HI := hide hi
  have HZ0 := hide hz0
  have HZ1 := hide hz1
  have HZ2 := hide hz2
  clear hi hz0 hz1 hz2
  go_enter Tryz.func32, Tryz.ntmps32
  go_wp2_with (first
    | (refine wpList_load_f rfl _ rfl w.heap.size rfl F HBOX.out ?_)
    | (go_at_call 62; refine HM.out.mono ?_))
  rintro e w1 ⟨rfl, hB1⟩
  have hold1 := HB.out.trans (hB1.mono (by simp))
  have hbox1 : FIs w1 w.heap.size 35 F := HBOX.out.below (by simp) hB1
  have HOLD1 := hide hold1
  have HBOX1 := hide hbox1
  clear hold1 hbox1 hB1 HM HBOX HB
  go_wp2_with (first
    | (refine wpList_load_f rfl _ rfl w.heap.size rfl F HBOX1.out ?_)
    | (go_at_call 63; refine (HNUM w1).out.mono ?_))
  rintro e w2 ⟨⟨v, rfl, g, cp, rfl, hg1, hg2, hcp, hrow⟩, hB2⟩
  have HOLD2 := hide (HOLD1.out.trans (hB2.mono HOLD1.out.size))
  have HROW := hide hrow
  clear hB2 hrow HOLD1 HBOX1 HNUM
  obtain ⟨n, hn⟩ : ∃ n, Hid (l.length = n) := ⟨_, hide rfl⟩
  rw [hn.out] at hlen hcp hge hfit ⊢
  go_wp2
  go_loopw [4, 14] (fun v i wr => ∃ k : Nat, k ≤ n ∧ i = .int .i64 k ∧ EInv w2 wr v (bytesN (l.take k))) (fun _ i _ => n - (intOf i).toNat)
  case atStart => exact ⟨0, Nat.zero_le _, rfl, Below.refl _ _, World.ownsRow_nil _ _ _ _⟩
  case round =>
    obtain ⟨k, hk, rfl, hI⟩ := hrel
    have hbl : (bytesN (l.take k)).length = 3 * k := by rw [bytesN_length, List.length_take, hn.out, Nat.min_eq_left hk]
    have HBL := hide hbl
    clear hbl
    by_cases hlt : k < n
    · obtain ⟨m, hm, hmb⟩ := hfit k hlt
      have hcell : wr.cell? ⟨g, k, none⟩ = some (.int .i64 (m : Int)) := by
        have := HROW.out.below hg2 hI.old k (by rw [hn.out]; exact hlt)
        rw [hm.out, Nat.zero_add] at this
        exact this
      have hs2 := hI.old.size
      go_wp2_with (at_builtin; refine wpList_append_own _ rfl _ _ 36 rfl w2.heap.size 5 i0 (.int .u8 0) 1 1 Tryz.underlying36 HI.out HZ0.out HZ1.out HZ2.out rfl (by decide) _ _ _ rfl (hI.own.alloc _) ⟨_, 0, none⟩ 3 3 (u8s (b3 m)) rfl rfl ?c1 (u8s_one _) ?c3 ?c4 ?c5 ?_)
      case c1 =>
        rw [← num_cells m hmb]
        exact app_cells _ _ _ _ rfl
      case c3 => have := HBL.out; unfold maxLen; omega
      case c4 => have := HBL.out; omega
      case c5 => simp; omega
      intro v1 w3 hown hgrow _
      have R := EInv.put hI (ms := b3 m) rfl hown hgrow
      clear hown hgrow hcell
      go_wp2
      go_roundw
      case rel => exact ⟨k + 1, by omega, by go_num, by rw [bytesN_take l k (by rw [hn.out]; exact hlt), hm.out]; exact R⟩
      case measure => simp [intOf]; omega
    · have hkn : k = n := by omega
      subst hkn
      rw [List.take_of_length_le (by rw [hn.out]; omega)] at hI HBL
      obtain ⟨bs, hbs⟩ : ∃ bs, Hid (bytesN l = bs) := ⟨_, hide rfl⟩
      have hbl := bytesN_lt l
      rw [hbs.out] at hI HBL hbl
      have hbl3 := HBL.out
      obtain ⟨g4, cp4, rfl, hg41, hg42, hIs⟩ := hI.isB (by intro e; rw [e] at hbl3; simp at hbl3; omega) hbl
      rw [hbl3] at hIs ⊢
      have HSB := hide (sumBytes_any _ _ _ bs wr (by omega) hIs)
      have hown0 := hI.own
      rw [hbl3] at hown0
      have HOWN := hide hown0
      have HOLD3 := hide hI.old
      have hs2 := hI.old.size
      obtain ⟨x, hx⟩ : ∃ x, Hid ((crc bs).toNat = x) := ⟨_, hide rfl⟩
      rw [hx.out] at HSB
      clear hI hIs hbl hown0
      go_wp2_with (first
        | (go_at_call 64; refine HSB.out.mono ?_; rintro e w4 ⟨rfl, rfl⟩)
        | (at_builtin; refine wpList_append_own _ rfl _ _ 36 rfl w2.heap.size 5 i0 (.int .u8 0) 1 1 Tryz.underlying36 HI.out HZ0.out HZ1.out HZ2.out rfl (by decide) _ _ _ rfl (HOWN.out.alloc _) ⟨_, 0, none⟩ 4 4 (u8s (b4 x)) rfl rfl ?c1 (u8s_one _) ?c3 ?c4 ?c5 ?_))
      case c1 => exact app_cells _ _ _ _ rfl
      case c3 => unfold maxLen; omega
      case c4 => omega
      case c5 => simp; omega
      intro v1 w3 hown hgrow _
      have R := EInv.put (⟨HOLD3.out, by rw [hbl3]; exact HOWN.out⟩ : EInv w2 wr (.slice (some ⟨g4, 0, none⟩) (3 * k) cp4) bs) (ms := b4 x) rfl (by rw [hbl3]; exact hown) hgrow
      have HR := hide R
      clear hown hgrow R HOWN HSB
      go_wp2
      go_ret2
      refine ⟨⟨v1, rfl, ?_⟩, HOLD2.out.trans (HR.out.old.mono HOLD2.out.size)⟩
      have he : encF F = bs ++ b4 x := by rw [HE.out, withSum, hbs.out, hx.out]
      rw [he]
      exact owns_lower HR.out.own HOLD2.out.size
end Go.Proofs.YtaablbmgagiajaaGreatDoor
