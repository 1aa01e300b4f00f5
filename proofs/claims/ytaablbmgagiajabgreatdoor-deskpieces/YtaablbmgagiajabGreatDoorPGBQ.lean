import Derived.Great.BuildSlice
import Derived.Test.YtaablbmgagiajabGreatDoorPGBP
namespace Go.Proofs.YtaablbmgagiajabGreatDoor
open Go.RowKit Go.Deep
variable {N : Nat} {c : DkC} {D : SC} {X : DS}
set_option maxHeartbeats 1000000 in
theorem latch_P (V : World) (a : Value) (h : DkP V N c D X) :
    Calls Tryz.prog 149 #[.pointer (some ⟨c.d, 0, none⟩), a] V fun e V' => e = .returned (.string (txt [108, 97, 116, 99, 104])) ∧ AnsP V V' c D ⟨X.L, X.win, latchSy X.S, X.c⟩ := by
  have c3 := h.dk.c3
  have HC : Hid (Calls Tryz.prog 41 #[.pointer (some ⟨D.p, 0, none⟩)] V fun e w' => e = .returned (.tuple #[]) ∧ Hid (AnsP V w' c D ⟨X.L, X.win, latchSy X.S, X.c⟩)) := hide ((slatchC N D X.L X.win X.S V h.dk.sys X.c h.cnt).mono fun e w' hh => ⟨hh.1, hide (h.went hh.2)⟩)
  clear h
  go_enter Tryz.func149, Tryz.ntmps149
  go_wp2_with fail
  go_at_call 41
  refine HC.out.mono ?_
  rintro e w1 ⟨rfl, HA⟩
  go_wp2
  go_ret
  exact ⟨rfl, HA.out⟩
def manyL (X : DS) : List Int := [(X.S.net.length : Int), wrap64 (X.c - (X.S.net.length : Int))]
theorem wrap64_is (n : Int) : IntIn (wrap64 n) := by unfold wrap64 IntIn; omega
set_option maxHeartbeats 1000000 in
set_option maxRecDepth 20000 in
theorem many_P (V : World) (a : Value) (h : DkP V N c D X) (hlen : X.S.net.length ≤ 1000) :
    Calls Tryz.prog 151 #[.pointer (some ⟨c.d, 0, none⟩), a] V fun e V' => e = .returned (.string (txt (spF (manyL X)))) ∧ Below V.heap.size V V' := by
  have c3 := h.dk.c3
  have hSd : V.drew.cell? ⟨c.d, 3, none⟩ = some (.pointer (some ⟨D.p, 0, none⟩)) := by simpa using c3
  have HM := hide (many_any N D X.L X.win X.S V.drew (h.below (Below.refl _ _).drew).dk.sys)
  have HLO := hide (slost_any N D X.L X.win X.S V.drew (h.below (Below.refl _ _).drew).dk.sys)
  have hcn : D.lost = wrap64 (X.c - (X.S.net.length : Int)) := h.cnt
  have HI : Hid (∀ z ∈ manyL X, IntIn z) := hide (by
    intro z hz
    unfold manyL at hz
    simp only [List.mem_cons, List.not_mem_nil, or_false] at hz
    rcases hz with rfl | rfl
    · unfold IntIn; omega
    · exact wrap64_is _)
  have HT : Hid (manyL X = [(X.S.net.length : Int), D.lost]) := hide (by unfold manyL; rw [hcn])
  rw [HT.out] at HI ⊢
  have HN := hide h.dk.num
  obtain ⟨q1, hq1⟩ : ∃ q, Hid ((X.S.net.length : Int) = q) := ⟨_, hide rfl⟩
  obtain ⟨q2, hq2⟩ : ∃ q, Hid (D.lost = q) := ⟨_, hide rfl⟩
  rw [hq1.out] at HM HI ⊢
  rw [hq2.out] at HLO HI ⊢
  have HP : Hid (Calls Tryz.prog 182 #[.slice (some ⟨V.heap.size, 0, none⟩) 2 2] (V.drew.alloc (.cells #[.int .i64 q1, .int .i64 q2] 3)) fun e w' => e = .returned (.string (txt (spF [q1, q2]))) ∧ w'.cell? ⟨c.d, 3, none⟩ = some (.pointer (some ⟨D.p, 0, none⟩)) ∧ Hid (Below V.heap.size V w')) := hide (by
    have hB2 : Below V.heap.size V (V.drew.alloc (.cells #[.int .i64 q1, .int .i64 q2] 3)) := (Below.refl V.heap.size V).drew.alloc (Nat.le_refl V.heap.size) _
    refine (spaced_any [q1, q2] (some ⟨V.heap.size, 0, none⟩) 2 2 _ (isSl_new V.drew [q1, q2] 2 rfl) HI.out (by omega) (HN.out.below hB2).pow).mono ?_
    rintro e w' ⟨rfl, hB⟩
    have hB3 := hB2.trans (hB.mono hB2.size)
    exact ⟨rfl, (h.below hB3).dk.c3, hide hB3⟩)
  have hca : (V.drew.alloc (.cells #[.int .i64 q1, .int .i64 q2] 3)).cell? ⟨c.d, 3, none⟩ = some (.pointer (some ⟨D.p, 0, none⟩)) := (h.below ((Below.refl V.heap.size V).drew.alloc (Nat.le_refl V.heap.size) _)).dk.c3
  clear h hcn HT HI
  go_enter Tryz.func151, Tryz.ntmps151
  go_wp2_with fail
  refine wp_region_held_drew (S := fun Y => Y.cell? ⟨c.d, 3, none⟩ = some (.pointer (some ⟨D.p, 0, none⟩))) (by kernel_rfl) hSd (fun hHeld => ?_)
  refine wpAnyH_take (i := 0) (oi := _) (v := .pointer (some ⟨c.d, 0, none⟩)) rfl (by kernel_rfl) (by kernel_rfl) (by kernel_rfl) (fun _ _ _ h => h) (Or.inl ⟨by rfl, fun w _ => by go_simp⟩) hHeld ?_
  simp only [Act.put, List.getElem_toArray, List.getElem_cons_zero, List.setIfInBounds_toArray, List.set_cons_succ, List.set_cons_zero]
  refine wpAnyH_take (i := 1) (oi := _) (v := .pointer (some ⟨c.d, 0, none⟩)) rfl (by kernel_rfl) (by kernel_rfl) (by kernel_rfl) (fun _ _ _ h => h) (Or.inl ⟨by rfl, fun w _ => by go_simp⟩) hHeld ?_
  simp only [Act.put, List.getElem_toArray, List.getElem_cons_succ, List.getElem_cons_zero, List.setIfInBounds_toArray, List.set_cons_succ, List.set_cons_zero]
  refine wpAnyH_take (i := 2) (oi := _) (v := .pointer (some ⟨c.d, 3, none⟩)) rfl (by kernel_rfl) (by kernel_rfl) (by kernel_rfl) (fun _ _ _ h => h) (Or.inl ⟨by rfl, fun w _ => by go_simp⟩) hHeld ?_
  simp only [Act.put, List.getElem_toArray, List.getElem_cons_succ, List.getElem_cons_zero, List.setIfInBounds_toArray, List.set_cons_succ, List.set_cons_zero]
  refine wpAnyH_take (i := 3) (oi := _) (v := .pointer (some ⟨D.p, 0, none⟩)) rfl (by kernel_rfl) (by kernel_rfl) (by kernel_rfl) (fun _ _ _ h => h) (Or.inl ⟨by rfl, fun w h => by go_simp⟩) hHeld ?_
  simp only [Act.put, List.getElem_toArray, List.getElem_cons_succ, List.getElem_cons_zero, List.setIfInBounds_toArray, List.set_cons_succ, List.set_cons_zero]
  refine wpAnyH_take (i := 5) (oi := _) (v := .pointer (some ⟨c.d, 0, none⟩)) rfl (by kernel_rfl) (by kernel_rfl) (by kernel_rfl) (fun _ _ _ h => h) (Or.inl ⟨by rfl, fun w _ => by go_simp⟩) hHeld ?_
  simp only [Act.put, List.getElem_toArray, List.getElem_cons_succ, List.getElem_cons_zero, List.setIfInBounds_toArray, List.set_cons_succ, List.set_cons_zero]
  refine wpAnyH_take (i := 6) (oi := _) (v := .pointer (some ⟨c.d, 0, none⟩)) rfl (by kernel_rfl) (by kernel_rfl) (by kernel_rfl) (fun _ _ _ h => h) (Or.inl ⟨by rfl, fun w _ => by go_simp⟩) hHeld ?_
  simp only [Act.put, List.getElem_toArray, List.getElem_cons_succ, List.getElem_cons_zero, List.setIfInBounds_toArray, List.set_cons_succ, List.set_cons_zero]
  refine wpAnyH_take (i := 7) (oi := _) (v := .pointer (some ⟨c.d, 3, none⟩)) rfl (by kernel_rfl) (by kernel_rfl) (by kernel_rfl) (fun _ _ _ h => h) (Or.inl ⟨by rfl, fun w _ => by go_simp⟩) hHeld ?_
  simp only [Act.put, List.getElem_toArray, List.getElem_cons_succ, List.getElem_cons_zero, List.setIfInBounds_toArray, List.set_cons_succ, List.set_cons_zero]
  refine wpAnyH_take (i := 8) (oi := _) (v := .pointer (some ⟨D.p, 0, none⟩)) rfl (by kernel_rfl) (by kernel_rfl) (by kernel_rfl) (fun _ _ _ h => h) (Or.inl ⟨by rfl, fun w h => by go_simp⟩) hHeld ?_
  simp only [Act.put, List.getElem_toArray, List.getElem_cons_succ, List.getElem_cons_zero, List.setIfInBounds_toArray, List.set_cons_succ, List.set_cons_zero]
  refine wpAnyH_ready (rs := [4]) (by kernel_rfl) (by simp) ?_
  refine AllReadyH.cons (o := _) rfl (fun K hK => ?_) AllReadyH.nil
  rw [if_pos (by rfl)]
  go_simp
  go_at_call 30
  refine HM.out.mono ?_
  rintro e w1 ⟨rfl, rfl⟩
  dsimp only
  refine hK.out _ _ hSd (fun hHeld => ?_)
  clear hK K
  refine wpAnyH_ready (rs := [9]) (by kernel_rfl) (by simp) ?_
  refine AllReadyH.cons (o := _) rfl (fun K hK => ?_) AllReadyH.nil
  rw [if_pos (by rfl)]
  go_simp
  go_at_call 183
  refine HLO.out.mono ?_
  rintro e w2 ⟨rfl, rfl⟩
  dsimp only
  refine hK.out _ _ hSd (fun hHeld => ?_)
  clear hK K
  refine wpAnyH_ready (rs := [10]) (by kernel_rfl) (by simp) ?_
  refine AllReadyH.cons (o := _) rfl (fun K hK => ?_) AllReadyH.nil
  rw [if_pos (by rfl)]
  go_simp
  refine hK.out _ _ hca (fun hHeld => ?_)
  clear hK K
  refine wpAnyH_ready (rs := [11]) (by kernel_rfl) (by simp) ?_
  refine AllReadyH.cons (o := _) rfl (fun K hK => ?_) AllReadyH.nil
  rw [if_pos (by rfl)]
  go_simp
  go_at_call 182
  refine HP.out.mono ?_
  rintro e w3 ⟨rfl, hc3, HB3⟩
  dsimp only
  refine hK.out _ _ hc3 (fun hHeld => ?_)
  clear hK K
  refine wpAnyH_ready (rs := [12]) (by kernel_rfl) (by simp) ?_
  refine AllReadyH.cons (o := _) rfl (fun K hK => ?_) AllReadyH.nil
  rw [if_pos (by rfl)]
  go_simp
  refine hK.out _ _ hc3 (fun hHeld => ?_)
  clear hK K
  refine wpAnyH_done (by kernel_rfl) ?_ _
  go_wp2
  go_ret
  exact ⟨rfl, HB3.out⟩
def helpL : List UInt8 := [97, 115, 107, 32, 98, 101, 103, 105, 110, 32, 99, 97, 108, 109, 32, 99, 111, 110, 102, 108, 105, 99, 116, 115, 32, 99, 114, 97, 115, 104, 32, 100, 101, 108, 105, 118, 101, 114, 32, 104, 101, 108, 112, 32, 108, 97, 116, 99, 104, 32, 108, 111, 115, 101, 32, 109, 97, 110, 121, 32, 109, 111, 115, 116, 32, 114, 101, 112, 108, 105, 99, 97, 32, 115, 101, 101, 32, 115, 104, 111, 119, 32, 116, 105, 99, 107, 32, 116, 114, 97, 99, 101, 32, 116, 119, 105, 99, 101]
theorem help_P (V : World) (d a : Value) :
    Calls Tryz.prog 148 #[d, a] V fun e V' => e = .returned (.string (txt helpL)) ∧ V' = V := by
  go_enter Tryz.func148, Tryz.ntmps148
  go_wp2
  go_ret
  exact ⟨rfl, rfl⟩
variable {N win : Nat} {c : DkC} {D : SC} {L : RC} {S : SY}
def cmT (d : Cm) : List UInt8 := spF [d.c, d.v, d.o]
def traceF (tr : List Cm) : List UInt8 := Lib.join (tr.map cmT) [44, 32]
def CmIn (d : Cm) : Prop := IntIn d.c ∧ IntIn d.v ∧ IntIn d.o
structure TrInv (w1 wr : World) (cv : Value) (tr : List Cm) (k : Nat) : Prop where
  old : Below w1.heap.size w1 wr
  own : wr.ownsRow w1.heap.size 9 1 cv k ((tr.take k).map fun d => Value.string (txt (cmT d)))
theorem TrInv.below {w1 wr wx : World} {cv : Value} {tr : List Cm} {k : Nat} (h : TrInv w1 wr cv tr k) (hB : Below wr.heap.size wr wx) : TrInv w1 wx cv tr k := by
  refine ⟨h.old.trans (hB.mono h.old.size), h.own.1, ?_⟩
  rcases h.own.2 with h2 | ⟨g, cap, cur, hg, h3, h4, h5⟩
  · exact .inl h2
  · exact .inr ⟨g, cap, cur, hg, h3, (hB.block g (blk_lt h4)).trans h4, h5⟩
theorem infoStrR : (Tryz.prog.info? 9).map (fun i => (i.zero, i.size, i.bytes)) = some (some (.string ⟨#[]⟩), 1, 16) := by kernel_rfl
theorem join_short (xs : List (List UInt8)) (sep : List UInt8) (m : Nat) (h : ∀ x ∈ xs, x.length + sep.length ≤ m) : (Lib.join xs sep).length ≤ m * xs.length := by
  induction xs with
  | nil => simp [Lib.join, List.intercalate]
  | cons x r ih =>
    have h1 := h x (by simp)
    have h2 := ih fun y hy => h y (by simp [hy])
    cases r with
    | nil => simp [Lib.join, List.intercalate]; omega
    | cons y r =>
      rw [Lib.join_cons] at h2 ⊢
      have e : Lib.joinTail sep (y :: r) = sep ++ (y ++ Lib.joinTail sep r) := by simp [Lib.joinTail]
      rw [e]
      simp only [List.length_append, List.length_cons, Nat.mul_add, Nat.mul_one] at h2 ⊢
      omega
set_option maxHeartbeats 4000000 in
set_option maxRecDepth 100000 in
theorem trace_ord (V : World) (a : Value) (h : DkIs V N c D L win S) (hok : VOk win S.v) (hn : S.v.tr.length ≤ 20000) (hin : ∀ d ∈ S.v.tr, CmIn d) :
    Calls Tryz.prog 157 #[.pointer (some ⟨c.d, 0, none⟩), a] V fun e V' => e = .returned (.string (txt (traceF S.v.tr))) ∧ Below V.heap.size V V' := by
  have c3 := h.c3
  have HT := hide (strace_any N D L win S V h.sys hok)
  have HNU := hide h.num
  obtain ⟨tr, htr⟩ : ∃ tr, S.v.tr = tr := ⟨_, rfl⟩
  rw [htr] at HT hn hin ⊢
  have HIN := hide hin
  obtain ⟨i0, hi, hz0, hz1, hz2⟩ := info_parts infoStrR
  have HI := hide hi
  have HZ0 := hide hz0
  have HZ1 := hide hz1
  have HZ2 := hide hz2
  clear h hok hin hi hz0 hz1 hz2 htr
  go_enter Tryz.func157, Tryz.ntmps157
  go_wp2_with fail
  go_at_call 13
  refine HT.out.mono ?_
  rintro e w1 ⟨⟨tv, rfl, hTI⟩, hB⟩
  obtain ⟨ta, tc, rfl⟩ := hTI.shape
  have HTI := hide hTI
  have HB := hide hB
  clear hTI hB HT
  have HI0 : Hid (TrInv w1 w1 (.slice none 0 0) tr 0) := hide ⟨Below.refl _ _, rfl, .inl ⟨rfl, rfl⟩⟩
  go_wp2
  go_loopw [5, 14] (fun cv i wr => ∃ k : Nat, k ≤ tr.length ∧ i = .int .i64 k ∧ TrInv w1 wr cv tr k) (fun _ i _ => tr.length - (intOf i).toNat)
  case atStart => exact ⟨0, Nat.zero_le _, rfl, HI0.out⟩
  case round =>
    clear HI0
    obtain ⟨k, hk, rfl, hI⟩ := hrel
    by_cases hlt : k < tr.length
    · obtain ⟨g, cap, he, hg1, hg2, hcap⟩ := HTI.out.has (by omega)
      simp only [Value.slice.injEq] at he
      obtain ⟨rfl, _, rfl⟩ := he
      have hr := (HTI.out.same (w' := wr) fun g' hg' => by cases hg'; exact hI.old.block _ hg2).range hlt
      have hmem : cmAt tr k ∈ tr := by unfold cmAt; rw [List.getElem?_eq_getElem hlt]; exact List.getElem_mem hlt
      have HCI := hide (HIN.out _ hmem)
      have HTK : Hid ((tr.take (k + 1)).map (fun d => Value.string (txt (cmT d))) = (tr.take k).map (fun d => Value.string (txt (cmT d))) ++ [Value.string (txt (cmT (cmAt tr k)))]) := hide (by
        rw [List.take_add_one, List.map_append, List.getElem?_eq_getElem hlt]
        unfold cmAt
        rw [List.getElem?_eq_getElem hlt]
        rfl)
      obtain ⟨x0, h0⟩ : ∃ x, Hid ((cmAt tr k).c = x) := ⟨_, hide rfl⟩
      obtain ⟨x1, h1⟩ : ∃ x, Hid ((cmAt tr k).v = x) := ⟨_, hide rfl⟩
      obtain ⟨x2, h2⟩ : ∃ x, Hid ((cmAt tr k).o = x) := ⟨_, hide rfl⟩
      rw [h0.out, h1.out, h2.out] at hr
      have r0 : wr.cell? ⟨g, k * 3, none⟩ = some (.int .i64 x0) := hr 0 _ rfl
      have r1 : wr.cell? ⟨g, k * 3 + 1, none⟩ = some (.int .i64 x1) := hr 1 _ rfl
      have r2 : wr.cell? ⟨g, k * 3 + 2, none⟩ = some (.int .i64 x2) := hr 2 _ rfl
      have t1 : (k : Int) < (tr.length : Int) := by omega
      have t2 : (0 : Int) ≤ (k : Int) := by omega
      have t3 : decide ((k : Int) < (tr.length : Int)) = true := decide_eq_true t1
      have HI1 := hide hI
      obtain ⟨X, hX⟩ : ∃ X, Hid ((wr.alloc (.cells #[.int .i64 x0, .int .i64 x1, .int .i64 x2] 49)).alloc (.cells #[.int .i64 x0, .int .i64 x1, .int .i64 x2] 3) = X) := ⟨_, hide rfl⟩
      clear hI hr hmem
      have HS : Hid (Calls Tryz.prog 182 #[.slice (some ⟨wr.heap.size + 1, 0, none⟩) 3 3] X fun e w' => e = .returned (.string (txt (cmT (cmAt tr k)))) ∧ Hid (TrInv w1 w' u5 tr k)) := hide (by
        have hb1 : Below wr.heap.size wr (wr.alloc (.cells #[.int .i64 x0, .int .i64 x1, .int .i64 x2] 49)) := (Below.refl _ _).alloc (Nat.le_refl _) _
        have hs1 : (wr.alloc (.cells #[.int .i64 x0, .int .i64 x1, .int .i64 x2] 49)).heap.size = wr.heap.size + 1 := World.size_alloc _ _
        generalize wr.alloc (.cells #[.int .i64 x0, .int .i64 x1, .int .i64 x2] 49) = y1 at hb1 hs1 hX
        have hb2 : Below y1.heap.size y1 X := by rw [← hX.out]; exact (Below.refl _ _).alloc (Nat.le_refl _) _
        have hsl : IsSl X (some ⟨wr.heap.size + 1, 0, none⟩) 3 3 [x0, x1, x2] := by
          rw [← hX.out, ← hs1]
          exact isSl_new y1 [x0, x1, x2] 3 rfl
        have hI2 := (HI1.out.below hb1).below hb2
        have hnX : HasNum X := (HNU.out.below HB.out).below hI2.old
        refine (spaced_any [x0, x1, x2] (some ⟨wr.heap.size + 1, 0, none⟩) 3 3 X hsl ?_ (by omega) hnX.pow).mono ?_
        · intro z hz
          simp only [List.mem_cons, List.not_mem_nil, or_false] at hz
          obtain ⟨q0, q1, q2⟩ := HCI.out
          rw [h0.out] at q0
          rw [h1.out] at q1
          rw [h2.out] at q2
          rcases hz with rfl | rfl | rfl
          · exact q0
          · exact q1
          · exact q2
        · rintro e w' ⟨rfl, hB'⟩
          refine ⟨?_, hide (hI2.below hB')⟩
          unfold cmT
          rw [h0.out, h1.out, h2.out])
      go_wp2_with fail
      rw [hX.out]
      refine HS.out.mono ?_
      rintro e w3 ⟨rfl, hI3⟩
      obtain ⟨s, hs⟩ : ∃ s, Hid (cmT (cmAt tr k) = s) := ⟨_, hide rfl⟩
      rw [hs.out]
      rw [hs.out] at HTK
      have hYb : Below w3.heap.size w3 (w3.alloc (.cells #[.string (txt s)] 9)) := (Below.refl _ _).alloc (Nat.le_refl _) _
      have HIY := hide (hI3.out.below hYb)
      clear HS hI3 r0 r1 r2 HCI h0 h1 h2 hX HI1 hYb
      go_wp2_with (at_builtin; refine wpList_append_own _ rfl _ _ 70 rfl w1.heap.size 9 i0 (.string ⟨#[]⟩) 1 16 Tryz.underlying70 HI.out HZ0.out HZ1.out HZ2.out rfl (by decide) _ _ _ rfl HIY.out.own ⟨_, 0, none⟩ 1 1 [.string (txt s)] rfl rfl ?c1 ?c2 ?c3 ?c4 ?c5 ?_)
      case c1 =>
        intro j u hj
        match j, hj with
        | 0, hj => simp at hj; subst hj; exact World.cell?_alloc_at _ _ _ _ rfl
      case c2 => intro u hu; simp at hu; subst hu; rfl
      case c3 => unfold maxLen; omega
      case c4 => omega
      case c5 => exact HIY.out.old.size
      intro v' w4 hown hgrow _
      have HI4 : Hid (TrInv w1 w4 v' tr (k + 1)) := hide ⟨⟨hgrow.os.trans HIY.out.old.os, hgrow.tape.trans HIY.out.old.tape, hgrow.output.trans HIY.out.old.output, Nat.le_trans HIY.out.old.size hgrow.size, fun q hq => (hgrow.block q (Nat.lt_of_lt_of_le hq HIY.out.old.size) (fun e => by have := (HIY.out.own.lt q e.symm).1; omega)).trans (HIY.out.old.block q hq)⟩, by rw [HTK.out]; simpa only [List.map_take] using hown⟩
      clear hown hgrow HIY
      go_wp2
      go_roundw
      case rel => exact ⟨k + 1, by omega, by go_num, HI4.out⟩
      case measure => simp [intOf]; omega
    · have ek : k = tr.length := by omega
      subst ek
      have t3 : decide ((tr.length : Int) < (tr.length : Int)) = false := decide_eq_false (by omega)
      have hall : tr.take tr.length = tr := List.take_length
      have HO := hide hI.old
      have HW := hide hI.own
      rw [hall] at HW
      have HJ : Hid (Calls Tryz.prog 186 #[u5, .string ⟨#[44, 32]⟩] wr fun e w' => e = .returned (.string (txt (traceF tr))) ∧ Below wr.heap.size wr w') := hide (by
        rcases HW.out.2 with ⟨rfl, hnil⟩ | ⟨g, cap, cur, rfl, _, hg, hnc, _⟩
        · have h0 : tr = [] := by
            cases tr with
            | nil => rfl
            | cons d r => simp at hnil
          subst h0
          refine (Tryz.strings_Join_none none 0 ⟨#[44, 32]⟩ wr).mono ?_
          rintro e w' ⟨rfl, rfl⟩
          exact ⟨rfl, Below.refl _ _⟩
        · have hcs := HW.out.cells (g := g) rfl
          have hj := Tryz.strings_Join g 0 cap (tr.map fun d => txt (cmT d)) ⟨#[44, 32]⟩ wr (fun j x hx => by
            rw [List.getElem?_map] at hx
            obtain ⟨d, hd, rfl⟩ := Option.map_eq_some_iff.1 hx
            have := hcs j (.string (txt (cmT d))) (by rw [List.getElem?_map, hd]; rfl)
            rw [Addr.add_mid] at this
            exact this) (blk_lt hg) (by rw [List.length_map]; omega) (by rw [List.length_map]; exact hnc) ?_
          · rw [List.length_map] at hj
            refine hj.mono ?_
            rintro e w' ⟨rfl, hB'⟩
            refine ⟨?_, hB'⟩
            unfold traceF
            rw [List.map_map]
            rfl
          · have hjs := join_short (tr.map cmT) [44, 32] 100 fun x hx => by
              obtain ⟨d, hd, rfl⟩ := List.mem_map.1 hx
              obtain ⟨q0, q1, q2⟩ := HIN.out d hd
              have := join_few [d.c, d.v, d.o] (fun z hz => by
                simp only [List.mem_cons, List.not_mem_nil, or_false] at hz
                rcases hz with rfl | rfl | rfl
                · exact q0
                · exact q1
                · exact q2)
              unfold cmT
              simp at this ⊢
              omega
            rw [List.length_map] at hjs
            have e : ((tr.map fun d => txt (cmT d)).map (·.data.toList)) = tr.map cmT := by rw [List.map_map]; rfl
            rw [e]
            show (Lib.join (tr.map cmT) [44, 32]).length ≤ _
            omega)
      clear hI HW hall HIN
      go_wp2_with (go_at_call 186; refine HJ.out.mono ?_; rintro e w9 ⟨rfl, hB9⟩)
      go_ret
      have hq := HB.out.trans (HO.out.mono HB.out.size)
      exact ⟨rfl, hq.trans (hB9.mono hq.size)⟩
def ordN : List (List UInt8 × (Int × Int × Nat)) := [
  ([97, 115, 107], (1, 1, 0)),
  ([98, 101, 103, 105, 110], (4, 9223372036854775807, 1)),
  ([99, 97, 108, 109], (1, 1, 2)),
  ([99, 111, 110, 102, 108, 105, 99, 116, 115], (0, 0, 3)),
  ([99, 114, 97, 115, 104], (1, 1, 4)),
  ([100, 101, 108, 105, 118, 101, 114], (1, 1, 5)),
  ([104, 101, 108, 112], (0, 0, 6)),
  ([108, 97, 116, 99, 104], (0, 0, 7)),
  ([108, 111, 115, 101], (1, 1, 8)),
  ([109, 97, 110, 121], (0, 0, 9)),
  ([109, 111, 115, 116], (0, 0, 10)),
  ([114, 101, 112, 108, 105, 99, 97], (1, 1, 11)),
  ([115, 101, 101], (3, 3, 12)),
  ([115, 104, 111, 119], (0, 0, 13)),
  ([116, 105, 99, 107], (1, 1, 14)),
  ([116, 114, 97, 99, 101], (0, 0, 15)),
  ([116, 119, 105, 99, 101], (1, 1, 16))]
def ordFn : Nat → Nat
  | 0 => 143
  | 1 => 93
  | 2 => 144
  | 3 => 145
  | 4 => 146
  | 5 => 147
  | 6 => 148
  | 7 => 149
  | 8 => 150
  | 9 => 151
  | 10 => 152
  | 11 => 153
  | 12 => 154
  | 13 => 155
  | 14 => 156
  | 15 => 157
  | 16 => 158
  | _ => 0
theorem ordTab_eq (d : Nat) : ordTab d = ordN.map fun p => (p.1, ordV d p.2.1 p.2.2.1 (ordFn p.2.2.2)) := rfl
theorem lookup_map {β γ : Type} (g : β → γ) (x : List UInt8) : ∀ l : List (List UInt8 × β), (l.map fun p => (p.1, g p.2)).lookup x = (l.lookup x).map g
  | [] => rfl
  | (y, b) :: l => by
    simp only [List.map_cons, List.lookup_cons]
    cases x == y
    · exact lookup_map g x l
    · rfl
theorem ord_look (d : Nat) (x : List UInt8) : (ordTab d).lookup x = (ordN.lookup x).map fun p => ordV d p.1 p.2.1 (ordFn p.2.2) := by
  rw [ordTab_eq]
  exact lookup_map (fun p => ordV d p.1 p.2.1 (ordFn p.2.2)) x ordN
theorem ord_in {x : List UInt8} {a b : Int} {o : Nat} (h : ordN.lookup x = some (a, b, o)) : ∃ w, (w, (a, b, o)) ∈ ordN := by
  have key : ∀ l : List (List UInt8 × (Int × Int × Nat)), l.lookup x = some (a, b, o) → ∃ w, (w, (a, b, o)) ∈ l := by
    intro l
    induction l with
    | nil => intro h; cases h
    | cons p l ih =>
      intro h
      obtain ⟨y, q⟩ := p
      rw [List.lookup_cons] at h
      cases e : x == y
      · rw [e] at h
        obtain ⟨w, hw⟩ := ih h
        exact ⟨w, List.mem_cons_of_mem _ hw⟩
      · rw [e] at h
        cases h
        exact ⟨y, List.mem_cons_self⟩
  exact key _ h
def oneD (op : Option DS) (t : List UInt8) (X X' : DS) (s : List UInt8) : Prop := (op = some X' ∧ s = t) ∨ (op = none ∧ X' = X ∧ s = errF 2)
def askO (z : Int) (X : DS) : Option DS := if isRep z = true then some ⟨X.L, X.win, asksSy z.toNat X.S, X.c + othC z.toNat 3⟩ else none
def crashO (z : Int) (X : DS) : Option DS := if isRep z = true then some ⟨X.L, X.win, crashSy z.toNat X.S, X.c⟩ else none
def seeO (z x y : Int) (X : DS) : Option DS := if isRep z = true then some ⟨X.L, X.win, seeSy z.toNat x y X.S, X.c⟩ else none
def tickO (z : Int) (X : DS) : Option DS := if isRep z = true then some ⟨X.L, X.win, tickSy X.L z.toNat X.S, X.c + tickC X.L z.toNat X.S⟩ else if z = 3 then some ⟨X.L, X.win, vtickSy X.S, X.c⟩ else none
def deliverO (z : Int) (X : DS) : Option DS := if 0 ≤ z ∧ z < (X.S.net.length : Int) then some ⟨X.L, X.win, arriveSy X.L X.win z.toNat X.S, X.c + arrC X.L X.win z.toNat X.S⟩ else none
def loseO (z : Int) (X : DS) : Option DS := if 0 ≤ z ∧ z < (X.S.net.length : Int) then some ⟨X.L, X.win, outSy z.toNat X.S, X.c - 1⟩ else none
def twiceO (z : Int) (X : DS) : Option DS := if 0 ≤ z ∧ z < (X.S.net.length : Int) then some ⟨X.L, X.win, putSy (pkAt X.S.net z.toNat) X.S, X.c + 1⟩ else none
def calmD (z : Int) (X X' : DS) (s : List UInt8) : Prop := (z < 0 ∨ 100 < z) ∧ X' = X ∧ s = errF 2 ∨ ¬ (z < 0 ∨ 100 < z) ∧ ∃ S' c', calmC X.L X.win z.toNat X.S X.c S' c' ∧ X' = ⟨X.L, X.win, S', c'⟩ ∧ s = [99, 97, 108, 109]
def lineOf (s : Int) (zs : List Int) (d : Int) : RC := ⟨s.toNat, d.toNat, zs.length, zs, 0, 0, 0, 0, 0, 0⟩
def begD (a d s : Int) (zs : List Int) (X X' : DS) (t : List UInt8) : Prop :=
  checkF s zs d ≠ (0, -1) ∧ X' = X ∧ t = errF ((checkF s zs d).1 : Int) ∨ checkF s zs d = (0, -1) ∧ ((a < 1 ∨ 20 < a) ∧ X' = X ∧ t = errF 2 ∨ ¬ (a < 1 ∨ 20 < a) ∧ X' = ⟨lineOf s zs d, a.toNat, sy0 a.toNat, 0⟩ ∧ t = [98, 101, 103, 105, 110])
def replF (z : Int) (X : DS) : List UInt8 := if isRep z = true then spF [(X.S.rp z.toNat).cycle, ((X.S.rp z.toNat).st.set : Int)] else errF 2
def OrdD (o : Nat) (l : List Int) (X X' : DS) (s : List UInt8) : Prop :=
  match o, l with
  | 0, [z] => oneD (askO z X) [97, 115, 107] X X' s
  | 1, a :: d :: sx :: zs => begD a d sx zs X X' s
  | 2, [z] => calmD z X X' s
  | 3, [] => X' = X ∧ s = spF (confL X.L)
  | 4, [z] => oneD (crashO z X) [99, 114, 97, 115, 104] X X' s
  | 5, [z] => oneD (deliverO z X) [100, 101, 108, 105, 118, 101, 114] X X' s
  | 6, [] => X' = X ∧ s = helpL
  | 7, [] => X' = ⟨X.L, X.win, latchSy X.S, X.c⟩ ∧ s = [108, 97, 116, 99, 104]
  | 8, [z] => oneD (loseO z X) [108, 111, 115, 101] X X' s
  | 9, [] => X' = X ∧ s = spF (manyL X)
  | 10, [] => X' = X ∧ s = spF [((most (confs X.L.zs) : Nat) : Int)]
  | 11, [z] => X' = X ∧ s = replF z X
  | 12, [z, x, y] => oneD (seeO z x y X) [115, 101, 101] X X' s
  | 13, [] => X' = X ∧ s = showF X.S.v
  | 14, [z] => oneD (tickO z X) [116, 105, 99, 107] X X' s
  | 15, [] => X' = X ∧ s = traceF X.S.v.tr
  | 16, [z] => oneD (twiceO z X) [116, 119, 105, 99, 101] X X' s
  | _, _ => False
def StepD (X : DS) (line : List UInt8) (X' : DS) (s : List UInt8) : Prop :=
  match wordsF line with
  | [] => X' = X ∧ s = [111, 107]
  | x :: r =>
    match ordN.lookup x with
    | none => X' = X ∧ s = errF 3
    | some (a, b, o) =>
      if (r.length : Int) < a ∨ b < (r.length : Int) then X' = X ∧ s = errF 3
      else
        match sayF r with
        | none => X' = X ∧ s = errF 3
        | some l => OrdD o l X X' s
theorem oneD.det {op : Option DS} {t s1 s2 : List UInt8} {X A B : DS} (h1 : oneD op t X A s1) (h2 : oneD op t X B s2) : A = B ∧ s1 = s2 := by
  rcases h1 with ⟨e1, e2⟩ | ⟨e1, e2, e3⟩ <;> rcases h2 with ⟨g1, g2⟩ | ⟨g1, g2, g3⟩
  · rw [e1] at g1; exact ⟨Option.some.inj g1, e2.trans g2.symm⟩
  · rw [e1] at g1; cases g1
  · rw [e1] at g1; cases g1
  · exact ⟨e2.trans g2.symm, e3.trans g3.symm⟩
theorem calmD.det {z : Int} {s1 s2 : List UInt8} {X A B : DS} (h1 : calmD z X A s1) (h2 : calmD z X B s2) : A = B ∧ s1 = s2 := by
  rcases h1 with ⟨e0, e1, e2⟩ | ⟨e0, S1, c1, k1, e1, e2⟩ <;> rcases h2 with ⟨g0, g1, g2⟩ | ⟨g0, S2, c2, k2, g1, g2⟩
  · exact ⟨e1.trans g1.symm, e2.trans g2.symm⟩
  · exact absurd e0 g0
  · exact absurd g0 e0
  · obtain ⟨rfl, rfl⟩ := calmC_det _ k1 k2
    exact ⟨e1.trans g1.symm, e2.trans g2.symm⟩
theorem begD.det {a d s : Int} {zs : List Int} {s1 s2 : List UInt8} {X A B : DS} (h1 : begD a d s zs X A s1) (h2 : begD a d s zs X B s2) : A = B ∧ s1 = s2 := by
  rcases h1 with ⟨e0, e1, e2⟩ | ⟨e0, ⟨e3, e1, e2⟩ | ⟨e3, e1, e2⟩⟩ <;> rcases h2 with ⟨g0, g1, g2⟩ | ⟨g0, ⟨g3, g1, g2⟩ | ⟨g3, g1, g2⟩⟩
  all_goals first
    | exact ⟨e1.trans g1.symm, e2.trans g2.symm⟩
    | exact absurd g0 e0
    | exact absurd e0 g0
    | exact absurd e3 g3
    | exact absurd g3 e3
theorem eq2 {A B X : DS} {s1 s2 t : List UInt8} (h1 : A = X ∧ s1 = t) (h2 : B = X ∧ s2 = t) : A = B ∧ s1 = s2 := ⟨h1.1.trans h2.1.symm, h1.2.trans h2.2.symm⟩
theorem OrdD.det {o : Nat} {l : List Int} {s1 s2 : List UInt8} {X A B : DS} (h1 : OrdD o l X A s1) (h2 : OrdD o l X B s2) : A = B ∧ s1 = s2 := by
  unfold OrdD at h1 h2
  split at h1
  all_goals first
    | exact oneD.det h1 h2
    | exact begD.det h1 h2
    | exact calmD.det h1 h2
    | exact eq2 h1 h2
    | exact h1.elim
theorem StepD.det {line : List UInt8} {s1 s2 : List UInt8} {X A B : DS} (h1 : StepD X line A s1) (h2 : StepD X line B s2) : A = B ∧ s1 = s2 := by
  unfold StepD at h1 h2
  generalize wordsF line = ws at h1 h2
  cases ws with
  | nil => exact eq2 h1 h2
  | cons x r =>
    dsimp only at h1 h2
    generalize ordN.lookup x = q at h1 h2
    cases q with
    | none => exact eq2 h1 h2
    | some p =>
      obtain ⟨a, b, o⟩ := p
      dsimp only at h1 h2
      by_cases hc : (r.length : Int) < a ∨ b < (r.length : Int)
      · rw [if_pos hc] at h1 h2
        exact eq2 h1 h2
      · rw [if_neg hc] at h1 h2
        generalize sayF r = y at h1 h2
        cases y with
        | none => exact eq2 h1 h2
        | some l => exact OrdD.det h1 h2
end Go.Proofs.YtaablbmgagiajabGreatDoor
