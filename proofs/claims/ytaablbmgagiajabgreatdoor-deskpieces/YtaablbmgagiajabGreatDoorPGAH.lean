import Derived.OrdersHeld
import Derived.Test.YtaablbmgagiajabGreatDoorPGAG
import Derived.Laws.BytesArg
import Derived.Laws.Strings
import Derived.Deep.AppendLies
import Derived.Deep.RegionHeld3
namespace Go.Proofs.YtaablbmgagiajabGreatDoor
open Go.RowKit Go.Deep
theorem yields_f {ops : Array Oper} {S : World → Prop} {op : Oper} {a : Act} (hw : Region.wanted op (yielded ops a.tmps) = true) (x : Operand) (ho : op.op = .load 36 x)
    (b : Nat) (hx : a.eval x = .pointer (some ⟨b, 0, none⟩)) (F : FR) (hS : ∀ w, S w → FIs w b 36 F) : YieldsIf Tryz.prog ops S op (.agg (fCells F)) a :=
  .inl ⟨hw, fun w h => by
    unfold execOp
    simp only [ho, hx, Instr.loadAt, Instr.sureAddr, Sem.run_bind, Sem.run_pure, Result.andThen_ok, load_f (hS w h)]⟩
theorem yields_eql {ops : Array Oper} {S : World → Prop} {op : Oper} {a : Act} (hw : Region.wanted op (yielded ops a.tmps) = true) (x y : Operand) (ho : op.op = .binOp .eql 36 x y 36)
    (F G : FR) (hx : a.eval x = .agg (fCells F)) (hy : a.eval y = .agg (fCells G)) : YieldsIf Tryz.prog ops S op (.bool (eqB F G)) a :=
  .inl ⟨hw, fun w _ => by
    have h := eql_f w F G
    unfold execOp
    simp only [ho, hx, hy]
    have hq : (eqGuard BinOp.eql 36 x y (.agg (fCells F)) (.agg (fCells G))).run Tryz.prog w = .ok () w := run_eqGuard_agg w _ _ _ _ _ _ (by kernel_rfl)
    (simp only [Sem.run_bind, hq, h, Result.andThen_ok, Sem.run_pure])⟩
theorem head_false {F : FR} (h : headB F = false) : mayB F = false := by unfold mayB; rw [h]; rfl
set_option maxHeartbeats 2000000 in
set_option maxRecDepth 20000 in
theorem mayBe_head (F : FR) (w : World) (h : headB F = false) :
    Calls Tryz.prog 81 #[.agg (fCells F)] w fun e w' => e = .returned (.bool (mayB F)) ∧ Below w.heap.size w w' := by
  have HM := hide (head_false h)
  have c0 := fCells_at F 0 (by omega)
  have c1 := fCells_at F 1 (by omega)
  unfold headB at h
  obtain ⟨x, hx⟩ : ∃ x, Hid (F 0 = x) := ⟨_, hide rfl⟩
  obtain ⟨y, hy⟩ : ∃ y, Hid (F 1 = y) := ⟨_, hide rfl⟩
  rw [hx.out] at c0 h
  rw [hy.out] at c1 h
  have HB := hide ((Below.refl w.heap.size w).alloc (Nat.le_refl _) (.cells (fCells F) 36))
  by_cases h1 : x < 1
  · clear h
    go_enter Tryz.func81, Tryz.ntmps81
    go_wp2
    go_ret
    exact ⟨ret_bool HM.out.symm, HB.out⟩
  · by_cases h2 : 5 < x
    · clear h
      go_enter Tryz.func81, Tryz.ntmps81
      go_wp2
      go_ret
      exact ⟨ret_bool HM.out.symm, HB.out⟩
    · by_cases h3 : y < 0
      · clear h
        go_enter Tryz.func81, Tryz.ntmps81
        go_wp2
        go_ret
        exact ⟨ret_bool HM.out.symm, HB.out⟩
      · have h4 : 3 < y := by
          simp only [Bool.and_eq_false_iff, decide_eq_false_iff_not] at h
          omega
        clear h
        go_enter Tryz.func81, Tryz.ntmps81
        go_wp2
        go_ret
        exact ⟨ret_bool HM.out.symm, HB.out⟩
set_option maxHeartbeats 4000000 in
set_option maxRecDepth 20000 in
theorem mayBe_main (F : FR) (w : World) (h : headB F = true) :
    Calls Tryz.prog 81 #[.agg (fCells F)] w fun e w' => e = .returned (.bool (mayB F)) ∧ Below w.heap.size w w' := by
  have hm : mayB F = ((numsF F).all fitsB && eqB F (framedF (numsF F))) := by unfold mayB; rw [h]; rfl
  rw [hm]
  have c0 := fCells_at F 0 (by omega)
  have c1 := fCells_at F 1 (by omega)
  unfold headB at h
  obtain ⟨x, hx⟩ : ∃ x, Hid (F 0 = x) := ⟨_, hide rfl⟩
  obtain ⟨y, hy⟩ : ∃ y, Hid (F 1 = y) := ⟨_, hide rfl⟩
  rw [hx.out] at c0 h
  rw [hy.out] at c1 h
  simp only [Bool.and_eq_true, decide_eq_true_eq] at h
  obtain ⟨⟨h1, h2⟩, h3, h4⟩ := h
  have hB : Below w.heap.size w (w.alloc (.cells (fCells F) 36)) := (Below.refl w.heap.size w).alloc (Nat.le_refl _) _
  have hbox : FIs (w.alloc (.cells (fCells F) 36)) w.heap.size 36 F := blk_new _ _
  have HB := hide hB
  have HBOX := hide hbox
  have HNUM := hide (numbers_any F (w.alloc (.cells (fCells F) 36)))
  obtain ⟨l, hl⟩ : ∃ l, Hid (numsF F = l) := ⟨_, hide rfl⟩
  have hlen := nums_length_le F
  rw [hl.out] at HNUM hlen ⊢
  clear hB hbox hm
  go_enter Tryz.func81, Tryz.ntmps81
  go_wp2_with (first
    | (refine wpList_load_f rfl _ rfl w.heap.size rfl F HBOX.out ?_)
    | (go_at_call 82; refine HNUM.out.mono ?_))
  rintro e w1 ⟨⟨v, rfl, g, cp, rfl, hg1, hg2, hcp, hrow⟩, hB1⟩
  have hN : w.heap.size < w1.heap.size := by have := hB1.size; simp at this; omega
  have hbox1 : FIs w1 w.heap.size 36 F := HBOX.out.below (by simp) hB1
  have hold1 : Below w.heap.size w w1 := HB.out.trans (hB1.mono (by simp))
  have HBOX1 := hide hbox1
  have HOLD1 := hide hold1
  have HROW := hide hrow
  clear hbox1 hold1 hrow hB1 HB HBOX HNUM hg1 c0 c1
  obtain ⟨n, hn⟩ : ∃ n, Hid (l.length = n) := ⟨_, hide rfl⟩
  rw [hn.out] at hlen hcp ⊢
  go_wp2
  go_loop [28] (fun i => ∃ k : Nat, k ≤ n ∧ i = .int .i64 k ∧ Hid ((l.take k).all fitsB = true)) (fun i => n - (intOf i).toNat)
  case atStart => exact ⟨0, Nat.zero_le _, rfl, by simp [Hid]⟩
  case round =>
    obtain ⟨k, hk, rfl, HT⟩ := hrel
    by_cases hlt : k < n
    · have hkl : k < l.length := by rw [hn.out]; exact hlt
      obtain ⟨z, hz, hcell⟩ := HROW.out.at hkl
      rw [Nat.zero_add] at hcell
      by_cases q1 : z < 0
      · have hf : l.all fitsB = false := all_take_false hkl (by rw [hz.out]; unfold fitsB; simp; omega)
        have HF := hide hf
        clear hf hkl
        go_wp2
        go_ret
        exact ⟨ret_bool (by rw [HF.out]; rfl), HOLD1.out⟩
      · by_cases q2 : 1048576 < z
        · have hf : l.all fitsB = false := all_take_false hkl (by rw [hz.out]; unfold fitsB; simp; omega)
          have HF := hide hf
          clear hf hkl
          go_wp2
          go_ret
          exact ⟨ret_bool (by rw [HF.out]; rfl), HOLD1.out⟩
        · have hf : (l.take (k + 1)).all fitsB = true := all_take_next hkl HT.out (by rw [hz.out]; unfold fitsB; simp; omega)
          have HF := hide hf
          clear hf hkl
          go_wp2
          go_round
          case rel => exact ⟨k + 1, by omega, by go_num, HF.out⟩
          case measure => simp [intOf]; omega
    · have hkn : k = n := by omega
      subst hkn
      have hall : l.all fitsB = true := by
        have := HT.out
        rwa [List.take_of_length_le (by rw [hn.out]; omega)] at this
      have HALL := hide hall
      have hfr : ∀ wx, Below w1.heap.size w1 wx → Calls Tryz.prog 131 #[.slice (some ⟨g, 0, none⟩) k cp] wx fun e w' => e = .returned (.agg (fCells (framedF l))) ∧ Hid (Below w1.heap.size w1 w') := by
        intro wx hx
        refine (framed_any g 0 k cp l wx hn.out (Nat.lt_of_lt_of_le hg2 hx.size) (HROW.out.below hg2 hx)).mono ?_
        rintro e w' ⟨he, hB⟩
        exact ⟨he, hx.trans (hB.mono hx.size)⟩
      have HFR := hide hfr
      obtain ⟨G, hG⟩ : ∃ G, Hid (framedF l = G) := ⟨_, hide rfl⟩
      rw [hG.out] at HFR
      have hss : ∀ wx, Below w1.heap.size w1 wx → FIs wx w.heap.size 36 F := fun wx hx => HBOX1.out.below hN hx
      clear hall hfr
      go_wp2_with fail
      refine wp_region_held_drew (S := fun w' => FIs w' w.heap.size 36 F) (by kernel_rfl) (hss _ (Below.refl _ _).drew) (fun hHeld => ?_)
      refine wpAnyH_take (i := 0) (oi := _) (v := _) rfl (by kernel_rfl) (by kernel_rfl) (by kernel_rfl) (fun _ _ _ h => h) (yields_f (by rfl) _ rfl _ rfl F (fun w h => h)) hHeld ?_
      simp only [Act.put]
      refine wpAnyH_take (i := 1) (oi := _) (v := .slice (some ⟨g, 0, none⟩) k cp) rfl (by kernel_rfl) (by kernel_rfl) (by kernel_rfl) (fun _ _ _ h => h) (Or.inl ⟨by rfl, fun w _ => by go_simp⟩) hHeld ?_
      simp only [Act.put]
      refine wpAnyH_ready (rs := [2]) (by kernel_rfl) (by simp) ?_
      refine AllReadyH.cons (o := _) rfl (fun K hK => ?_) AllReadyH.nil
      rw [if_pos (by rfl)]
      go_simp
      go_at_call 131
      refine (unhide HFR _ (Below.refl _ _).drew).mono ?_
      rintro e w5 ⟨rfl, HB5⟩
      dsimp only
      refine hK.out _ _ (hss _ HB5.out) (fun hHeld => ?_)
      clear hK K
      refine wpAnyH_take (i := 3) (oi := _) (v := .bool (eqB F G)) rfl (by kernel_rfl) (by kernel_rfl) (by kernel_rfl) (fun _ _ _ h => h) (yields_eql (by rfl) _ _ rfl F G rfl rfl) hHeld ?_
      simp only [Act.put, List.getElem_toArray, List.getElem_cons_succ, List.getElem_cons_zero, List.setIfInBounds_toArray, List.set_cons_succ, List.set_cons_zero]
      refine wpAnyH_take (i := 4) (oi := _) (v := .bool (eqB F G)) rfl (by kernel_rfl) (by kernel_rfl) (by kernel_rfl) (fun _ _ _ h => h) (Or.inl ⟨by rfl, fun w _ => by go_simp⟩) hHeld ?_
      simp only [Act.put, List.getElem_toArray, List.getElem_cons_succ, List.getElem_cons_zero, List.setIfInBounds_toArray, List.set_cons_succ, List.set_cons_zero]
      refine wpAnyH_done (by kernel_rfl) ?_ _
      clear hHeld
      go_wp2
      go_ret
      exact ⟨ret_bool (by rw [HALL.out, hG.out]; rfl), HOLD1.out.trans (HB5.out.mono (by omega))⟩
theorem mayBe_any (F : FR) (w : World) :
    Calls Tryz.prog 81 #[.agg (fCells F)] w fun e w' => e = .returned (.bool (mayB F)) ∧ Below w.heap.size w w' := by
  cases h : headB F
  · exact mayBe_head F w h
  · exact mayBe_main F w h
end Go.Proofs.YtaablbmgagiajabGreatDoor
namespace Go.Proofs.YtaablbmgagiajabGreatDoor
def b3 (n : Nat) : List Nat := [n / 65536 % 256, n / 256 % 256, n % 256]
def b4 (n : Nat) : List Nat := [n / 16777216 % 256, n / 65536 % 256, n / 256 % 256, n % 256]
def bytesN (l : List Int) : List Nat := l.flatMap fun x => b3 x.toNat
def withSum (l : List Nat) : List Nat := l ++ b4 (crc l).toNat
def encF (F : Nat → Int) : List Nat := withSum (bytesN (numsF F))
theorem bytesN_take (l : List Int) (k : Nat) (h : k < l.length) : bytesN (l.take (k + 1)) = bytesN (l.take k) ++ b3 (l[k]?.getD 0).toNat := by
  unfold bytesN
  rw [List.take_add_one, List.getElem?_eq_getElem h, List.flatMap_append]
  rfl
theorem bytesN_length (l : List Int) : (bytesN l).length = 3 * l.length := by
  induction l with
  | nil => rfl
  | cons x l ih =>
    show (b3 x.toNat ++ bytesN l).length = _
    rw [List.length_append, ih]
    simp [b3]; omega
theorem b3_lt (n : Nat) : ∀ c ∈ b3 n, c < 256 := by
  intro c hc
  simp only [b3, List.mem_cons, List.not_mem_nil, or_false] at hc
  omega
theorem b4_lt (n : Nat) : ∀ c ∈ b4 n, c < 256 := by
  intro c hc
  simp only [b4, List.mem_cons, List.not_mem_nil, or_false] at hc
  omega
theorem bytesN_lt (l : List Int) : ∀ c ∈ bytesN l, c < 256 := by
  intro c hc
  obtain ⟨x, _, hx⟩ := List.mem_flatMap.1 hc
  exact b3_lt _ _ hx
theorem withSum_length (l : List Nat) : (withSum l).length = l.length + 4 := by unfold withSum; rw [List.length_append]; rfl
theorem withSum_lt {l : List Nat} (h : ∀ c ∈ l, c < 256) : ∀ c ∈ withSum l, c < 256 := by
  intro c hc
  rcases List.mem_append.1 hc with hc | hc
  · exact h c hc
  · exact b4_lt _ _ hc
theorem encF_lt (F : Nat → Int) : ∀ c ∈ encF F, c < 256 := withSum_lt (bytesN_lt _)
theorem encF_length (F : Nat → Int) : (encF F).length = 3 * (numsF F).length + 4 := by unfold encF; rw [withSum_length, bytesN_length]
end Go.Proofs.YtaablbmgagiajabGreatDoor
namespace Go.Proofs.YtaablbmgagiajabGreatDoor
open Go.RowKit Go.Deep
def u8s (l : List Nat) : List Value := l.map fun (c : Nat) => Value.int .u8 (c : Int)
theorem u8s_one (l : List Nat) : ∀ u ∈ u8s l, u.oneCell' = true := by
  intro u hu
  obtain ⟨c, _, rfl⟩ := List.mem_map.1 hu
  rfl
theorem infoByte : (Tryz.prog.info? 5).map (fun i => (i.zero, i.size, i.bytes)) = some (some (.int .u8 0), 1, 1) := by kernel_rfl
theorem sum_cells (m : Nat) (h : m < 4294967296) : #[Value.int .u8 ((m : Int) / 16777216), .int .u8 ((m : Int) / 65536 % 256), .int .u8 ((m : Int) / 256 % 256), .int .u8 ((m : Int) % 256)] = (u8s (b4 m)).toArray := by
  have e : (m : Int) / 16777216 = ((m / 16777216 % 256 : Nat) : Int) := by omega
  rw [e]
  simp [u8s, b4]
theorem num_cells (m : Nat) (h : m ≤ 1048576) : [Value.int .u8 ((m : Int) / 65536), .int .u8 ((m : Int) / 256 % 256), .int .u8 ((m : Int) % 256)] = u8s (b3 m) := by
  have e : (m : Int) / 65536 = ((m / 65536 % 256 : Nat) : Int) := by omega
  rw [e]
  simp [u8s, b3]
set_option maxHeartbeats 1000000 in
set_option maxRecDepth 20000 in
theorem sumBytes_any (a : Option Addr) (len cap : Nat) (l : List Nat) (w : World) (hl : len ≤ 1000) (h : IsB w a len cap l) :
    Calls Tryz.prog 83 #[.slice a len cap] w fun e w' => e = .returned (.slice (some ⟨w.heap.size, 0, none⟩) 4 4) ∧ w' = w.alloc (.cells (u8s (b4 (crc l).toNat)).toArray 5) := by
  have HS := hide (sum_any a len cap l w hl h)
  clear h
  obtain ⟨x, hx⟩ : ∃ x, Hid (crc l = x) := ⟨_, hide rfl⟩
  rw [hx.out] at HS
  have hlt : x.toNat < 4294967296 := x.isLt
  obtain ⟨m, hm⟩ : ∃ m, Hid (x.toNat = m) := ⟨_, hide rfl⟩
  rw [hm.out] at HS hlt
  go_enter Tryz.func83, Tryz.ntmps83
  go_wp2_with (go_at_call 136; refine HS.out.mono ?_; rintro e w' ⟨rfl, rfl⟩)
  go_ret
  exact ⟨rfl, by rw [hx.out, hm.out, sum_cells m hlt]⟩
structure EInv (w wr : World) (v : Value) (l : List Nat) : Prop where
  old : Below w.heap.size w wr
  own : wr.ownsRow w.heap.size 5 1 v l.length (u8s l)
theorem EInv.put {w wr w3 : World} {v v' : Value} {l ms : List Nat} {m : Nat} {p : Obj} (h : EInv w wr v l) (hm : ms.length = m)
    (hown : w3.ownsRow w.heap.size 5 1 v' (l.length + m) (u8s l ++ u8s ms)) (hg : (wr.alloc p).grownBy w3 v.ownBlock) : EInv w w3 v' (l ++ ms) := by
  have hb2 : Below wr.heap.size wr (wr.alloc p) := (Below.refl _ _).alloc (Nat.le_refl _) _
  have hs := h.old.size
  refine ⟨(h.old.trans (hb2.mono hs)).grown hg (by simp; omega) (fun k hk => by have := (h.own.lt k hk).1; omega), ?_⟩
  rw [List.length_append, hm]
  simpa [u8s] using hown
theorem EInv.isB {w wr : World} {v : Value} {l : List Nat} (h : EInv w wr v l) (hl : l ≠ []) (hb : ∀ c ∈ l, c < 256) : ∃ g cp, v = .slice (some ⟨g, 0, none⟩) l.length cp ∧ w.heap.size ≤ g ∧ g < wr.heap.size ∧ IsB wr (some ⟨g, 0, none⟩) l.length cp l := by
  have ho := h.own
  obtain ⟨_, ho2⟩ := h.own
  rcases ho2 with ⟨_, h0⟩ | ⟨g, cp, cur, rfl, hg, hh, hcc, hm, hsz, ht⟩
  · exact absurd (List.length_eq_zero_iff.1 h0) hl
  · refine ⟨g, cp, rfl, hg, blk_lt hh, rfl, hcc, hb, .inr ⟨g, 0, rfl, blk_lt hh, fun k hk => ?_⟩⟩
    rw [Nat.zero_add, ho.cellAt k (by omega)]
    simp [u8s, hk]
theorem owns_lower {w : World} {base b2 : Nat} {e : TypeId} {size : Nat} {v : Value} {n : Nat} {xs : List Value} (h : w.ownsRow base e size v n xs) (hb : b2 ≤ base) : w.ownsRow b2 e size v n xs := by
  obtain ⟨h1, h2⟩ := h
  refine ⟨h1, ?_⟩
  rcases h2 with h2 | ⟨g, cp, cur, h3, h4, h5⟩
  · exact .inl h2
  · exact .inr ⟨g, cp, cur, h3, Nat.le_trans hb h4, h5⟩
set_option maxHeartbeats 2000000 in
set_option maxRecDepth 20000 in
theorem encode_bad (F : FR) (w : World) (h : mayB F = false) :
    Calls Tryz.prog 39 #[.agg (fCells F)] w fun e w' => e = .returned (.tuple #[.slice none 0 0, .iface 74 (.int .i64 1)]) ∧ Below w.heap.size w w' := by
  have hB : Below w.heap.size w (w.alloc (.cells (fCells F) 36)) := (Below.refl w.heap.size w).alloc (Nat.le_refl _) _
  have hbox : FIs (w.alloc (.cells (fCells F) 36)) w.heap.size 36 F := blk_new _ _
  have hmay := mayBe_any F (w.alloc (.cells (fCells F) 36))
  rw [h] at hmay
  have HB := hide hB
  have HBOX := hide hbox
  have HM := hide hmay
  clear hB hbox hmay h
  go_enter Tryz.func39, Tryz.ntmps39
  go_wp2_with (first
    | (refine wpList_load_f rfl _ rfl w.heap.size rfl F HBOX.out ?_)
    | (go_at_call 81; refine HM.out.mono ?_))
  rintro e w1 ⟨rfl, hB1⟩
  have HB1 := hide (HB.out.trans (hB1.mono (by simp)))
  clear hB1 HM HBOX HB
  go_wp2
  go_ret2
  exact ⟨rfl, HB1.out⟩
set_option maxHeartbeats 4000000 in
set_option maxRecDepth 20000 in
theorem encode_ok (F : FR) (w : World) (h : mayB F = true) :
    Calls Tryz.prog 39 #[.agg (fCells F)] w fun e w' => (∃ v, e = .returned (.tuple #[v, .nilIface]) ∧ w'.ownsRow w.heap.size 5 1 v (encF F).length (u8s (encF F))) ∧ Below w.heap.size w w' := by
  have hB : Below w.heap.size w (w.alloc (.cells (fCells F) 36)) := (Below.refl w.heap.size w).alloc (Nat.le_refl _) _
  have hbox : FIs (w.alloc (.cells (fCells F) 36)) w.heap.size 36 F := blk_new _ _
  have hmay := mayBe_any F (w.alloc (.cells (fCells F) 36))
  rw [h] at hmay
  have hfit : ∀ k, k < (numsF F).length → ∃ m : Nat, Hid ((numsF F)[k]?.getD 0 = (m : Int)) ∧ m ≤ 1048576 := fun k hk => by
    unfold mayB at h
    simp only [Bool.and_eq_true, List.all_eq_true] at h
    have := h.2.1 _ (List.getElem_mem hk)
    unfold fitsB at this
    simp only [Bool.and_eq_true, decide_eq_true_eq] at this
    obtain ⟨m, hm⟩ := Int.eq_ofNat_of_zero_le this.1
    exact ⟨m, by rw [Hid, List.getElem?_eq_getElem hk]; exact hm, by omega⟩
  have HB := hide hB
  have HBOX := hide hbox
  have HM := hide hmay
  have hlen := nums_length_le F
  have hge := nums_length_ge F
  obtain ⟨l, hl⟩ : ∃ l, Hid (numsF F = l) := ⟨_, hide rfl⟩
  have HNUM := fun wx => hide (numbers_any F wx)
  have HE : Hid (encF F = withSum (bytesN l)) := by rw [Hid, encF, hl.out]
  rw [hl.out] at hfit hlen hge HNUM
  clear hB hbox hmay h
  obtain ⟨i0, hi, hz0, hz1, hz2⟩ := info_parts infoByte
  have HI := hide hi
  have HZ0 := hide hz0
  have HZ1 := hide hz1
  have HZ2 := hide hz2
  clear hi hz0 hz1 hz2
  go_enter Tryz.func39, Tryz.ntmps39
  go_wp2_with (first
    | (refine wpList_load_f rfl _ rfl w.heap.size rfl F HBOX.out ?_)
    | (go_at_call 81; refine HM.out.mono ?_))
  rintro e w1 ⟨rfl, hB1⟩
  have hold1 := HB.out.trans (hB1.mono (by simp))
  have hbox1 : FIs w1 w.heap.size 36 F := HBOX.out.below (by simp) hB1
  have HOLD1 := hide hold1
  have HBOX1 := hide hbox1
  clear hold1 hbox1 hB1 HM HBOX HB
  go_wp2_with (first
    | (refine wpList_load_f rfl _ rfl w.heap.size rfl F HBOX1.out ?_)
    | (go_at_call 82; refine (HNUM w1).out.mono ?_))
  rintro e w2 ⟨⟨v, rfl, g, cp, rfl, hg1, hg2, hcp, hrow⟩, hB2⟩
  have HOLD2 := hide (HOLD1.out.trans (hB2.mono HOLD1.out.size))
  have HROW := hide hrow
  clear hB2 hrow HOLD1 HBOX1 HNUM
  obtain ⟨n, hn⟩ : ∃ n, Hid (l.length = n) := ⟨_, hide rfl⟩
  rw [hn.out] at hlen hcp hge hfit ⊢
  go_wp2
  go_loopw [4, 14] (fun v i wr => ∃ k : Nat, k ≤ n ∧ i = .int .i64 k ∧ EInv w2 wr v (bytesN (l.take k))) (fun _ i _ => n - (intOf i).toNat)
  case atStart => exact ⟨0, Nat.zero_le _, rfl, Below.refl _ _, World.ownsRow_nil _ _ _ _⟩
  case round =>
    obtain ⟨k, hk, rfl, hI⟩ := hrel
    have hbl : (bytesN (l.take k)).length = 3 * k := by rw [bytesN_length, List.length_take, hn.out, Nat.min_eq_left hk]
    have HBL := hide hbl
    clear hbl
    by_cases hlt : k < n
    · obtain ⟨m, hm, hmb⟩ := hfit k hlt
      have hcell : wr.cell? ⟨g, k, none⟩ = some (.int .i64 (m : Int)) := by
        have := HROW.out.below hg2 hI.old k (by rw [hn.out]; exact hlt)
        rw [hm.out, Nat.zero_add] at this
        exact this
      have hs2 := hI.old.size
      go_wp2_with (at_builtin; refine wpList_append_own _ rfl _ _ 37 rfl w2.heap.size 5 i0 (.int .u8 0) 1 1 Tryz.underlying37 HI.out HZ0.out HZ1.out HZ2.out rfl (by decide) _ _ _ rfl (hI.own.alloc _) ⟨_, 0, none⟩ 3 3 (u8s (b3 m)) rfl rfl ?c1 (u8s_one _) ?c3 ?c4 ?c5 ?_)
      case c1 =>
        rw [← num_cells m hmb]
        exact app_cells _ _ _ _ rfl
      case c3 => have := HBL.out; unfold maxLen; omega
      case c4 => have := HBL.out; omega
      case c5 => simp; omega
      intro v1 w3 hown hgrow _
      have R := EInv.put hI (ms := b3 m) rfl hown hgrow
      clear hown hgrow hcell
      go_wp2
      go_roundw
      case rel => exact ⟨k + 1, by omega, by go_num, by rw [bytesN_take l k (by rw [hn.out]; exact hlt), hm.out]; exact R⟩
      case measure => simp [intOf]; omega
    · have hkn : k = n := by omega
      subst hkn
      rw [List.take_of_length_le (by rw [hn.out]; omega)] at hI HBL
      obtain ⟨bs, hbs⟩ : ∃ bs, Hid (bytesN l = bs) := ⟨_, hide rfl⟩
      have hbl := bytesN_lt l
      rw [hbs.out] at hI HBL hbl
      have hbl3 := HBL.out
      obtain ⟨g4, cp4, rfl, hg41, hg42, hIs⟩ := hI.isB (by intro e; rw [e] at hbl3; simp at hbl3; omega) hbl
      rw [hbl3] at hIs ⊢
      have HSB := hide (sumBytes_any _ _ _ bs wr (by omega) hIs)
      have hown0 := hI.own
      rw [hbl3] at hown0
      have HOWN := hide hown0
      have HOLD3 := hide hI.old
      have hs2 := hI.old.size
      obtain ⟨x, hx⟩ : ∃ x, Hid ((crc bs).toNat = x) := ⟨_, hide rfl⟩
      rw [hx.out] at HSB
      clear hI hIs hbl hown0
      go_wp2_with (first
        | (go_at_call 83; refine HSB.out.mono ?_; rintro e w4 ⟨rfl, rfl⟩)
        | (at_builtin; refine wpList_append_own _ rfl _ _ 37 rfl w2.heap.size 5 i0 (.int .u8 0) 1 1 Tryz.underlying37 HI.out HZ0.out HZ1.out HZ2.out rfl (by decide) _ _ _ rfl (HOWN.out.alloc _) ⟨_, 0, none⟩ 4 4 (u8s (b4 x)) rfl rfl ?c1 (u8s_one _) ?c3 ?c4 ?c5 ?_))
      case c1 => exact app_cells _ _ _ _ rfl
      case c3 => unfold maxLen; omega
      case c4 => omega
      case c5 => simp; omega
      intro v1 w3 hown hgrow _
      have R := EInv.put (⟨HOLD3.out, by rw [hbl3]; exact HOWN.out⟩ : EInv w2 wr (.slice (some ⟨g4, 0, none⟩) (3 * k) cp4) bs) (ms := b4 x) rfl (by rw [hbl3]; exact hown) hgrow
      have HR := hide R
      clear hown hgrow R HOWN HSB
      go_wp2
      go_ret2
      refine ⟨⟨v1, rfl, ?_⟩, HOLD2.out.trans (HR.out.old.mono HOLD2.out.size)⟩
      have he : encF F = bs ++ b4 x := by rw [HE.out, withSum, hbs.out, hx.out]
      rw [he]
      exact owns_lower HR.out.own HOLD2.out.size
def strN (l : List Nat) : ByteArray := strOfNums (l.map fun (c : Nat) => (c : Int))
theorem strN_toList (l : List Nat) : (strN l).toList = l.map UInt8.ofNat := by
  unfold strN
  rw [ByteArray.toList_eq, strOfNums_data, List.map_map]
  apply List.map_congr_left
  intro c _
  simp
theorem map_u8_inj : ∀ (l m : List Nat), (∀ c ∈ l, c < 256) → (∀ c ∈ m, c < 256) → l.map UInt8.ofNat = m.map UInt8.ofNat → l = m
  | [], [], _, _, _ => rfl
  | [], _ :: _, _, _, h => by simp at h
  | _ :: _, [], _, _, h => by simp at h
  | a :: l, b :: m, hl, hm, h => by
    simp only [List.map_cons, List.cons.injEq] at h
    have e : a = b := by
      have h1 := congrArg UInt8.toNat h.1
      have ha := hl a (by simp)
      have hb := hm b (by simp)
      simp only [UInt8.toNat_ofNat'] at h1
      omega
    rw [e, map_u8_inj l m (fun c hc => hl c (by simp [hc])) (fun c hc => hm c (by simp [hc])) h.2]
theorem strN_eq (l m : List Nat) (hl : ∀ c ∈ l, c < 256) (hm : ∀ c ∈ m, c < 256) : ((strN l).toList == (strN m).toList) = decide (l = m) := by
  rw [strN_toList, strN_toList, Bool.eq_iff_iff, beq_iff_eq, decide_eq_true_iff]
  exact ⟨map_u8_inj l m hl hm, fun h => by rw [h]⟩
theorem conv_any {w : World} {a : Option Addr} {len cap : Nat} {l : List Nat} (h : IsB w a len cap l) : (convert 37 9 (.slice a len cap)).run Tryz.prog w = .ok (.string (strN l)) w := by
  obtain ⟨h1, h2, h3, h4⟩ := h
  rcases h4 with h4 | ⟨b, off, rfl, hb, hr⟩
  · subst h4
    have h0 : len = 0 := by simpa using h1.symm
    subst h0
    cases a with
    | none => exact run_convert_bytes_nil w 37 5 Tryz.underlying37 Tryz.underlying5 _ _ 9 Tryz.underlying9
    | some a =>
      rw [run_convert_bytes_string w 37 9 5 _ 0 cap Tryz.underlying37 Tryz.underlying5 Tryz.underlying9]
      rw [run_bytesToString w a 0 cap [] (by simpa using run_loadCells_list (P := Tryz.prog) w a [] (by simp))]
      rfl
  · refine run_convert_bytes_arg w 37 5 Tryz.underlying37 Tryz.underlying5 b off len cap _ (by simpa using h1) (fun i hi => ?_) 9 Tryz.underlying9
    rw [hr i (by omega)]
    simp [List.getD, show i < l.length by omega]
set_option maxHeartbeats 1000000 in
theorem equal_any (a1 a2 : Option Addr) (n1 n2 c1 c2 : Nat) (l m : List Nat) (w : World) (h1 : IsB w a1 n1 c1 l) (h2 : IsB w a2 n2 c2 m) :
    Calls Tryz.prog 130 #[.slice a1 n1 c1, .slice a2 n2 c2] w fun e w' => e = .returned (.bool (decide (l = m))) ∧ w' = w := by
  have q1 := conv_any h1
  have q2 := conv_any h2
  have HE := hide (strN_eq l m h1.2.2.1 h2.2.2.1)
  clear h1 h2
  go_enter Tryz.func130, Tryz.ntmps130
  go_wp2
  go_ret
  exact ⟨ret_bool (by rw [HE.out]), rfl⟩
def num3 (l : List Nat) (i : Nat) : Nat := l[3 * i]?.getD 0 * 65536 + l[3 * i + 1]?.getD 0 * 256 + l[3 * i + 2]?.getD 0
def readN (l : List Nat) (k : Nat) : List Int := (List.range k).map fun i => ((num3 l i : Nat) : Int)
theorem readN_succ (l : List Nat) (k : Nat) : readN l (k + 1) = readN l k ++ [((num3 l k : Nat) : Int)] := by simp [readN, List.range_succ]
theorem readN_length (l : List Nat) (k : Nat) : (readN l k).length = k := by simp [readN]
def readF (l : List Nat) : List Int := readN l (l.length / 3)
theorem or_low (a b i : Nat) (h : b < 2 ^ i) : a * 2 ^ i ||| b = a * 2 ^ i + b := by
  have := Nat.shiftLeft_add_eq_or_of_lt h a
  rw [Nat.shiftLeft_eq] at this
  exact this.symm
theorem or3 (a b c : Nat) (ha : a < 256) (hb : b < 256) (hc : c < 256) : bits .or .i64 (bits .or .i64 ((a : Int) * 65536) ((b : Int) * 256)) (c : Int) = ((a * 65536 + b * 256 + c : Nat) : Int) := by
  have e1 : (a : Int) * 65536 = ((a * 65536 : Nat) : Int) := by omega
  have e2 : (b : Int) * 256 = ((b * 256 : Nat) : Int) := by omega
  have p16 : (2 : Nat) ^ 16 = 65536 := by decide
  have p8 : (2 : Nat) ^ 8 = 256 := by decide
  have o1 := or_low a (b * 256) 16 (by rw [p16]; omega)
  have o2 := or_low (a * 256 + b) c 8 (by rw [p8]; omega)
  rw [p16] at o1
  rw [p8, show (a * 256 + b) * 256 = a * 65536 + b * 256 by omega] at o2
  rw [e1, e2, or_nat (a * 65536) (b * 256) (by omega) (by omega), o1, or_nat (a * 65536 + b * 256) c (by omega) (by omega), o2]
structure RInv (w wr : World) (v : Value) (l : List Int) : Prop where
  old : Below w.heap.size w wr
  own : wr.ownsRow w.heap.size 3 1 v l.length (ints l)
theorem RInv.put {w wr w3 : World} {v v' : Value} {l ms : List Int} {m : Nat} {p : Obj} (h : RInv w wr v l) (hm : ms.length = m)
    (hown : w3.ownsRow w.heap.size 3 1 v' (l.length + m) (ints l ++ ints ms)) (hg : (wr.alloc p).grownBy w3 v.ownBlock) : RInv w w3 v' (l ++ ms) := by
  have hb2 : Below wr.heap.size wr (wr.alloc p) := (Below.refl _ _).alloc (Nat.le_refl _) _
  have hs := h.old.size
  refine ⟨(h.old.trans (hb2.mono hs)).grown hg (by simp; omega) (fun k hk => by have := (h.own.lt k hk).1; omega), ?_⟩
  rw [List.length_append, hm]
  simpa [ints] using hown
set_option maxHeartbeats 4000000 in
set_option maxRecDepth 100000 in
theorem read_any (b off len cap : Nat) (l : List Nat) (w : World) (h3 : 3 ≤ len) (hl : len ≤ 100) (hcap : len + 4 ≤ cap) (h : IsB w (some ⟨b, off, none⟩) len cap l) :
    Calls Tryz.prog 132 #[.slice (some ⟨b, off, none⟩) len cap] w fun e w' => (∃ v, e = .returned v ∧ IsNums w w' (readF l) v) ∧ Below w.heap.size w w' := by
  have HX := hide h
  have hlen := h.1
  have hbw : b < w.heap.size := by
    obtain ⟨b', o', _, e', hb', _⟩ := h.at (k := 0) (by omega)
    have : b = b' := by simp at e'; exact e'.1
    omega
  clear h
  obtain ⟨i0, hi, hz0, hz1, hz2⟩ := info_parts infoIntF
  have HI := hide hi
  have HZ0 := hide hz0
  have HZ1 := hide hz1
  have HZ2 := hide hz2
  clear hi hz0 hz1 hz2
  go_enter Tryz.func132, Tryz.ntmps132
  go_wp2
  go_loopw [0, 3] (fun s v wr => ∃ k : Nat, 3 * k ≤ len ∧ s = .slice (some ⟨b, off + 3 * k, none⟩) (len - 3 * k) (cap - 3 * k) ∧ RInv w wr v (readN l k)) (fun s _ _ => match s with | .slice _ n _ => n | _ => 0)
  case atStart => exact ⟨0, by omega, rfl, Below.refl _ _, World.ownsRow_nil _ _ _ _⟩
  case round =>
    obtain ⟨k, hk, rfl, hI⟩ := hrel
    obtain ⟨o, ho⟩ : ∃ o, Hid (off + 3 * k = o) := ⟨_, hide rfl⟩
    obtain ⟨n, hn⟩ : ∃ n, Hid (len - 3 * k = n) := ⟨_, hide rfl⟩
    obtain ⟨c, hc⟩ : ∃ c, Hid (cap - 3 * k = c) := ⟨_, hide rfl⟩
    have hnc : n + 4 ≤ c := by have := hn.out; have := hc.out; omega
    have hn1 : n ≤ 100 := by have := hn.out; omega
    rw [ho.out, hn.out, hc.out]
    by_cases h3n : 3 ≤ n
    · obtain ⟨_, _, x0, e0, hb0, hx0, hxx0, hc0⟩ := (HX.out.below (w := w) (wx := wr) hI.old).at (k := 3 * k) (by have := hn.out; omega)
      obtain ⟨_, _, x1, e1, hb1, hx1, hxx1, hc1⟩ := (HX.out.below (w := w) (wx := wr) hI.old).at (k := 3 * k + 1) (by have := hn.out; omega)
      obtain ⟨_, _, x2, e2, hb2, hx2, hxx2, hc2⟩ := (HX.out.below (w := w) (wx := wr) hI.old).at (k := 3 * k + 2) (by have := hn.out; omega)
      obtain ⟨rfl, rfl⟩ : b = _ ∧ off = _ := by simpa using e0
      obtain ⟨rfl, rfl⟩ : b = _ ∧ off = _ := by simpa using e1
      obtain ⟨rfl, rfl⟩ : b = _ ∧ off = _ := by simpa using e2
      rw [← Nat.add_assoc, ho.out] at hc1 hc2
      rw [ho.out] at hc0
      clear e0 e1 e2 hb1 hb2
      have hor := or3 x0 x1 x2 hx0 hx1 hx2
      obtain ⟨y, hy⟩ : ∃ y, Hid (x0 * 65536 + x1 * 256 + x2 = y) := ⟨_, hide rfl⟩
      rw [hy.out] at hor
      have d0 : (0 : Int) < (n : Int) := by omega
      have d1 : (1 : Int) < (n : Int) := by omega
      have d2 : (2 : Int) < (n : Int) := by omega
      have r0 : IntKind.i64.wrap (x0 : Int) = x0 := wrap_small x0 (by omega)
      have r1 : IntKind.i64.wrap (x1 : Int) = x1 := wrap_small x1 (by omega)
      have r2 : IntKind.i64.wrap (x2 : Int) = x2 := wrap_small x2 (by omega)
      have r3 : IntKind.i64.wrap ((x0 : Int) * 65536) = (x0 : Int) * 65536 := by have := wrap_small (x0 * 65536) (by omega); rwa [Int.natCast_mul] at this
      have r4 : IntKind.i64.wrap ((x1 : Int) * 256) = (x1 : Int) * 256 := by have := wrap_small (x1 * 256) (by omega); rwa [Int.natCast_mul] at this
      have d00 : 0 < n := by omega
      have hown0 := hI.own
      rw [readN_length] at hown0
      have HOWN := hide hown0
      have hne : some b ≠ u3.ownBlock := fun e => by have := (hown0.lt b e.symm).1; omega
      have HK1 : Hid (k + 1 ≤ maxLen) := by rw [Hid]; unfold maxLen; omega
      have HK2 : Hid ((k + 1) * 8 ≤ 140737488355328) := by rw [Hid]; omega
      have hs1 := hI.old.size
      have HK3 : Hid (w.heap.size ≤ (wr.alloc (.cells #[.int .i64 (y : Int)] 3)).drew.heap.size) := by rw [Hid]; simp; omega
      clear hown0
      go_wp2_with fail
      go_region_held3 (fun w' => w'.cell? ⟨b, o, none⟩ = some (.int .u8 (x0 : Int)) ∧ w'.cell? ⟨b, o + 1, none⟩ = some (.int .u8 (x1 : Int)) ∧ w'.cell? ⟨b, o + 2, none⟩ = some (.int .u8 (x2 : Int)))
        (first
          | go_keep
          | (go_split_ands
             refine ⟨?_, ?_, ?_⟩
             · (rw [hgrow.cell_far _ (by simp; omega) hne]; assumption)
             · (rw [hgrow.cell_far _ (by simp; omega) hne]; assumption)
             · (rw [hgrow.cell_far _ (by simp; omega) hne]; assumption)))
        ((refine step_append_lies _ (by rfl) _ _ _ (by rfl) w.heap.size 3 i0 _ 1 8 Tryz.underlying22 HI.out HZ0.out HZ1.out HZ2.out rfl (by omega) u3 k (ints (readN l k)) (by rfl) ((HOWN.out.alloc _).drew)
            ⟨wr.heap.size, 0, none⟩ 1 1 (ints [(y : Int)]) (by rfl) (by rfl) (World.news_of_block (cs := #[.int .i64 (y : Int)]) (t := 3) (fr := (0, 0)) (heap_alloc_new wr _)) (ints_one _)
            (by omega) HK1.out HK2.out HK3.out (wr.heap.size + 1) (by simp) ?_; intro gg cap' w1 hown1 hgrow hat hlt))
      have R := RInv.put hI (ms := [(y : Int)]) rfl (by rw [readN_length]; exact hown1) (show (wr.alloc (.cells #[.int .i64 (y : Int)] 3)).grownBy w1 u3.ownBlock from ⟨hgrow.os, hgrow.tape, hgrow.output, hgrow.size, hgrow.block⟩)
      have hnum : num3 l k = y := by unfold num3; rw [hxx0.out, hxx1.out, hxx2.out, hy.out]
      have HR := hide R
      have HNUM := hide hnum
      clear R hnum hgrow hown1 hat hlt hc0 hc1 hc2 hor r0 r1 r2 r3 r4 HOWN HK1 HK2 HK3
      have hc3 : ¬ c = 3 := by omega
      go_wp2
      go_roundw
      case rel =>
        refine ⟨k + 1, by have := hn.out; omega, ?_, by rw [readN_succ, HNUM.out]; exact HR.out⟩
        have := hn.out
        have := hc.out
        have := ho.out
        rw [show off + 3 * (k + 1) = o + 3 by omega, show len - 3 * (k + 1) = n - 3 by omega, show cap - 3 * (k + 1) = c - 3 by omega]
      case measure => show n - 3 < n; omega
    · have hkk : k = l.length / 3 := by have := hn.out; omega
      have HD := hide hI
      clear hI
      have hne : readN l k ≠ [] := by
        intro e
        have := congrArg List.length e
        rw [readN_length] at this
        simp at this
        omega
      have HF : Hid (readF l = readN l k) := by rw [Hid, readF, ← hkk]
      have HD2 : Hid (IsNums w wr (readN l k) u3) := by
        have ho := HD.out.own
        obtain ⟨_, ho2⟩ := HD.out.own
        rcases ho2 with ⟨_, h0⟩ | ⟨g, cp, cur, rfl, hg, hh, hcc, hm, hsz, ht⟩
        · exact absurd (List.length_eq_zero_iff.1 h0) hne
        · refine ⟨g, cp, rfl, hg, blk_lt hh, hcc, fun k hk => ?_⟩
          rw [Nat.zero_add, ho.cellAt k (by omega)]
          simp [ints, hk]
      clear hne hkk
      go_wp2
      go_ret
      exact ⟨⟨_, rfl, by rw [HF.out]; exact HD2.out⟩, HD.out.old⟩
end Go.Proofs.YtaablbmgagiajabGreatDoor
