/- The contract of triumvirlaw.FrameDecodes. -/
import Derived.Test.YtiipmdmbmepgjaaDoorRfDec
import Derived.Test.YtiipmdmbmepgjaaDoorRfGiven
import Derived.Test.YtiipmdmbmepgjaaDoorFrSent
import Derived.Laws.AppendOwnNone
namespace Go.Proofs.YtiipmdmbmepgjaaDoor
open Go.RowKit Go.Deep Go.Extern.Stop Go.Stop Go.Extern

theorem EInv.grow {w wr w3 : World} {v v' : Value} {l ms : List Nat} {m : Nat} (h : EInv w wr v l) (hm : ms.length = m)
    (hown : w3.ownsRow w.heap.size 5 1 v' (l.length + m) (u8s l ++ u8s ms)) (hg : wr.grownBy w3 v.ownBlock) : EInv w w3 v' (l ++ ms) := by
  have hs := h.old.size
  refine ⟨h.old.grown hg hs (fun k hk => (h.own.lt k hk).1), ?_⟩
  rw [List.length_append, hm]
  simpa [u8s] using hown
theorem eInv_none (w : World) : EInv w (w.alloc (.cells #[] 5)) (.slice (some ⟨w.heap.size, 0, none⟩) 0 0) [] :=
  ⟨(Below.refl _ _).alloc (Nat.le_refl _) _, World.ownsRow_made w #[] 0 (Nat.le_refl _) (by unfold maxLen; omega) rfl⟩

/-- A frame of the document's that is read, and two that are compared, in a region that draws its order. -/
theorem yields_r {ops : Array Oper} {S : World → Prop} {op : Oper} {a : Act} (hw : Region.wanted op (yielded ops a.tmps) = true) (x : Operand) (ho : op.op = .load 67 x)
    (b : Nat) (hx : a.eval x = .pointer (some ⟨b, 0, none⟩)) (F : FR) (hS : ∀ w, S w → FIs w b 67 F) : YieldsIf Tryd.prog ops S op (.agg (fCells F)) a :=
  .inl ⟨hw, fun w h => by
    unfold execOp
    simp only [ho, hx, Instr.loadAt, Instr.sureAddr, Sem.run_bind, Sem.run_pure, Result.andThen_ok, load_r (hS w h)]⟩
theorem yields_neqr {ops : Array Oper} {S : World → Prop} {op : Oper} {a : Act} (hw : Region.wanted op (yielded ops a.tmps) = true) (x y : Operand) (ho : op.op = .binOp .neq 67 x y 67)
    (F : FR) (hx : a.eval x = .agg (fCells F)) (hy : a.eval y = .agg (fCells F)) : YieldsIf Tryd.prog ops S op (.bool false) a :=
  .inl ⟨hw, fun w _ => by
    have h := neq_r w F F
    rw [show eqB F F = true from (eqB_iff _ _).2 fun _ _ => rfl] at h
    unfold execOp
    simp only [ho, hx, hy]
    have hq : (eqGuard BinOp.neq 67 x y (.agg (fCells F)) (.agg (fCells F))).run Tryd.prog w = .ok () w := run_eqGuard_agg w _ _ _ _ _ _ (by kernel_rfl)
    (simp only [Sem.run_bind, hq, h, Result.andThen_ok, Sem.run_pure, Bool.not_true])⟩

set_option maxHeartbeats 2000000 in
theorem decodes_many (a : Option Addr) (len cap : Nat) (w : World) (hl : 200 < len) :
    Calls Tryd.prog 6 #[.slice a len cap] w fun e w' => e = .returned (.bool true) ∧ Below w.heap.size w w' := by
  go_enter Tryd.func6, Tryd.ntmps6
  go_wp2
  go_ret
  exact ⟨rfl, Below.refl _ _⟩

/-- The two texts that are decoded. -/
def Two (w : World) (M : Nat) : Prop := ∀ k, k < 2 → ∃ a n c lx, w.cell? ⟨M, k, none⟩ = some (.slice a n c) ∧ n ≤ 204 ∧ IsB w a n c lx

set_option maxHeartbeats 4000000 in
set_option maxRecDepth 20000 in
theorem decodes_some (ad : Addr) (len cap : Nat) (l : List Nat) (w : World) (hl : len ≤ 200) (hb : IsB w (some ad) len cap l) (hg : HasErrT w) :
    Calls Tryd.prog 6 #[.slice (some ad) len cap] w fun e w' => e = .returned (.bool true) ∧ Below w.heap.size w w' := by
  have HX := hide hb
  have hlen := hb.1
  have HSU := hide (refSum_any (some ad) len cap l w (by omega) hb)
  have hxl : (crc l).toNat < 4294967296 := (crc l).isLt
  obtain ⟨x, hx⟩ : ∃ x, Hid ((crc l).toNat = x) := ⟨_, hide rfl⟩
  rw [hx.out] at HSU hxl
  have hcells : ∀ j u, (u8s l)[j]? = some u → (w.alloc (.cells #[] 5)).cell? (ad.add j) = some u := by
    intro j u hj
    have hjl : j < l.length := by have := (List.getElem?_eq_some_iff.1 hj).1; simpa [u8s] using this
    obtain ⟨b, off, c, e, hbw, _, hcc, hcell⟩ := hb.at (k := j) (by omega)
    obtain rfl : ad = ⟨b, off, none⟩ := by simpa using e
    have ea : (⟨b, off, none⟩ : Addr).add j = ⟨b, off + j, none⟩ := by unfold Addr.add; split <;> simp_all
    rw [ea, World.cell?_alloc_past _ _ _ hbw, hcell, ← hj, ← hcc.out]
    simp [u8s, hjl]
  have HC := hide hcells
  obtain ⟨i0, hi, hz0, hz1, hz2⟩ := info_parts infoByte
  have HI := hide hi
  have HZ0 := hide hz0
  have HZ1 := hide hz1
  have HZ2 := hide hz2
  clear hi hz0 hz1 hz2 hb hcells
  have HE0 := hide (eInv_none w)
  go_enter Tryd.func6, Tryd.ntmps6
  go_wp2_with (first
    | (go_at_call 32; refine HSU.out.mono ?_; rintro e w' ⟨rfl, hw'⟩; subst w')
    | (at_builtin; refine wpList_append_own _ rfl _ _ 64 rfl w.heap.size 5 i0 (.int .u8 0) 1 1 Tryd.underlying64 HI.out HZ0.out HZ1.out HZ2.out rfl (by decide) _ _ _ rfl HE0.out.own ad len cap (u8s l) rfl ?c0 HC.out (u8s_one _) ?c3 ?c4 ?c5 ?_))
  case c0 => simp [u8s, hlen]
  case c3 => unfold maxLen; simp; omega
  case c4 => simp; omega
  case c5 => simp
  intro v1 w1 hown1 hgrow1 _
  have R1 := EInv.grow HE0.out (ms := l) hlen (by rw [List.length_nil, Nat.zero_add]; exact hown1) hgrow1
  rw [List.nil_append] at R1
  have HR1 := hide R1
  have hs1 := R1.old.size
  clear hown1 hgrow1 R1 HE0 HC HSU
  go_wp2_with (at_builtin; refine wpList_append_own _ rfl _ _ 64 rfl w.heap.size 5 i0 (.int .u8 0) 1 1 Tryd.underlying64 HI.out HZ0.out HZ1.out HZ2.out rfl (by decide) _ _ _ rfl (HR1.out.own.alloc _) ⟨_, 0, none⟩ 4 4 (u8s (b4 x)) rfl rfl ?c1 (u8s_one _) ?c3 ?c4 ?c5 ?_)
  case c1 =>
    rw [sum_cells x hxl]
    exact app_cells _ _ _ _ rfl
  case c3 => unfold maxLen; omega
  case c4 => omega
  case c5 => simp; omega
  intro v2 w2 hown2 hgrow2 _
  have R2 := EInv.put HR1.out (ms := b4 x) (m := 4) rfl (by rw [hlen]; exact hown2) hgrow2
  obtain ⟨g, cp, rfl, hg1, hg2, hIs⟩ := R2.isB (by intro e; have := congrArg List.length e; simp [b4] at this) (by
    intro c hc
    rcases List.mem_append.1 hc with q | q
    · exact HX.out.2.2.1 c q
    · exact b4_lt _ _ q)
  obtain ⟨n2, hn2⟩ : ∃ n2, Hid ((l ++ b4 x).length = n2) := ⟨_, hide rfl⟩
  have hn2' : n2 ≤ 204 := by rw [← hn2.out, List.length_append, hlen]; show len + 4 ≤ 204; omega
  rw [hn2.out] at hIs ⊢
  have hO2 := R2.old
  obtain ⟨w3, hw3⟩ : ∃ w3, Hid (w2.alloc (.cells #[.slice (some ad) len cap, .slice (some ⟨g, 0, none⟩) n2 cp] 64) = w3) := ⟨_, hide rfl⟩
  have hB3 : Below w2.heap.size w2 w3 := by rw [← hw3.out]; exact (Below.refl _ _).alloc (Nat.le_refl _) _
  have hTwo : Two w3 w2.heap.size := by
    intro k hk
    have hbk : w3.heap[w2.heap.size]? = some (.cells #[.slice (some ad) len cap, .slice (some ⟨g, 0, none⟩) n2 cp] 64 (0, 0)) := by rw [← hw3.out]; exact blk_new _ _
    rcases (by omega : k = 0 ∨ k = 1) with rfl | rfl
    · exact ⟨_, _, _, l, (blk_cell hbk 0).trans rfl, by omega, (HX.out.below hO2).below hB3⟩
    · exact ⟨_, _, _, _, (blk_cell hbk 1).trans rfl, hn2', hIs.below hB3⟩
  have HTW := hide hTwo
  have HO3 := hide (hO2.trans (hB3.mono hO2.size))
  have hM : w2.heap.size < w3.heap.size := by rw [← hw3.out]; simp
  clear hown2 hgrow2 R2 hIs hO2 hB3 hTwo HR1
  go_wp2_with fail
  rw [show w2.alloc (.cells #[.slice (some ad) len cap, .slice (some ⟨g, 0, none⟩) n2 cp] 64) = w3 from hw3.out]
  have hgM : ∀ wx, Below w3.heap.size w3 wx → HasErrT wx := fun wx hx => (hg.below HO3.out hg.pos).below hx (Nat.lt_of_lt_of_le hg.pos HO3.out.size)
  have HGM := hide hgM
  clear hgM
  generalize w2.heap.size = M at HTW hM ⊢
  go_loopw [34] (fun i wr => ∃ k : Nat, k ≤ 2 ∧ i = .int .i64 k ∧ Below w3.heap.size w3 wr) (fun i _ => 2 - (intOf i).toNat)
  case atStart => exact ⟨0, Nat.zero_le _, rfl, Below.refl _ _⟩
  case round =>
    obtain ⟨k, hk, rfl, hBr⟩ := hrel
    by_cases hlt : k < 2
    · obtain ⟨ax, nx, cx, lx, hcell, hnx, hIx⟩ := HTW.out k hlt
      have hcell' : wr.cell? ⟨M, k, none⟩ = some (.slice ax nx cx) := (hBr.cell (p := ⟨M, k, none⟩) hM).trans hcell
      have HIX := hide (hIx.below hBr)
      have HRD := hide (refDecode_any ax nx cx lx wr (by omega) HIX.out)
      obtain ⟨G, hG⟩ : ∃ G, Hid ((decF lx).2 = G) := ⟨_, hide rfl⟩
      obtain ⟨er, her⟩ : ∃ er, Hid ((decF lx).1 = er) := ⟨_, hide rfl⟩
      rw [hG.out, her.out] at HRD
      have hsr := hBr.size
      have HBR := hide hBr
      clear hcell hIx hBr
      go_wp2_with (first
        | (go_at_call 33; refine HRD.out.mono ?_; rintro e wB ⟨rfl, hBB⟩)
        | (refine wpList_store_rl rfl _ _ rfl wB.heap.size G rfl rfl fr0 (blk_new _ _) ?_))
      intro wC HFC
      have hsB := hBB.size
      have hBC : Below wr.heap.size wr wC := hBB.trans ((((Below.refl _ _).alloc (Nat.le_refl _) _).trans (HFC.out.2.2 _ (Nat.le_refl _))).mono hsB)
      have HR1 := hide HFC.out.1
      have hs1 := HR1.out.lt
      have HIXC := hide (HIX.out.below hBC)
      have HFD := hide (decode_any ax nx cx lx wC (by omega) HIXC.out)
      rw [hG.out, her.out] at HFD
      have HBC := hide (HBR.out.trans (hBC.mono hsr))
      clear hBB hBC HFC HRD HIX HBR hcell'
      generalize wB.heap.size = Q1 at HR1 hs1 hsB ⊢
      obtain ⟨ev, hev⟩ : ∃ ev, Hid (errV er = ev) := ⟨_, hide rfl⟩
      rw [hev.out] at HFD
      go_wp2_with (first
        | (go_at_call 34; refine HFD.out.mono ?_; rintro e wD ⟨rfl, hBD⟩)
        | (refine wpList_store_fl rfl _ _ rfl wD.heap.size G rfl rfl fr0 (blk_new _ _) ?_))
      intro wE HFE
      have hsD := hBD.size
      have hBE : Below wC.heap.size wC wE := hBD.trans ((((Below.refl _ _).alloc (Nat.le_refl _) _).trans (HFE.out.2.2 _ (Nat.le_refl _))).mono hsD)
      have HR2 := hide (HR1.out.below hs1 hBE)
      have HF2 := hide HFE.out.1
      have hs2 := HF2.out.lt
      have HBE := hide (HBC.out.trans (hBE.mono HBC.out.size))
      clear hBD hBE HFE HFD HIXC HR1 HBC
      generalize wD.heap.size = Q2 at HF2 hs2 hsD ⊢
      have hss : ∀ wx, Below wE.heap.size wE wx → FIs wx Q2 63 G ∧ FIs wx Q1 67 G := fun wx hx => ⟨HF2.out.below hs2 hx, HR2.out.below HR2.out.lt hx⟩
      have hba : ∀ wx, Below wE.heap.size wE wx → Calls Tryd.prog 30 #[ev, .int .i64 (er : Int)] wx fun e w' => e = .returned (.bool true) ∧ Hid (Below wE.heap.size wE w') := by
        intro wx hx
        refine (bare_any er ev wx hev.out.symm (HGM.out wx (HBE.out.trans (hx.mono HBE.out.size)))).mono ?_
        rintro e w' ⟨he, hB⟩
        exact ⟨he, hx.trans (hB.mono hx.size)⟩
      have hgv : ∀ wx, Below wE.heap.size wE wx → Calls Tryd.prog 28 #[.agg (fCells G)] wx fun e w' => e = .returned (.agg (fCells G)) ∧ Hid (Below wE.heap.size wE w') := by
        intro wx hx
        refine (given_any G wx).mono ?_
        rintro e w' ⟨he, hB⟩
        exact ⟨he, hx.trans (hB.mono hx.size)⟩
      have HBA := hide hba
      have HGV := hide hgv
      clear hba hgv
      go_wp2_with fail
      refine wp_region_held_drew (S := fun w' => FIs w' Q2 63 G ∧ FIs w' Q1 67 G) (by kernel_rfl) (hss _ (Below.refl _ _).drew) (fun hHeld => ?_)
      refine wpAnyH_take (i := 0) (oi := _) (v := ev) rfl (by kernel_rfl) (by kernel_rfl) (by kernel_rfl) (fun _ _ _ h => h) (Or.inl ⟨by kernel_rfl, fun w _ => by go_simp⟩) hHeld ?_
      simp only [Act.put, List.getElem_toArray, List.getElem_cons_zero, List.setIfInBounds_toArray, List.set_cons_succ, List.set_cons_zero]
      refine wpAnyH_take (i := 1) (oi := _) (v := .int .i64 (er : Int)) rfl (by kernel_rfl) (by kernel_rfl) (by kernel_rfl) (fun _ _ _ h => h) (Or.inl ⟨by kernel_rfl, fun w _ => by go_simp⟩) hHeld ?_
      simp only [Act.put, List.getElem_toArray, List.getElem_cons_succ, List.getElem_cons_zero, List.setIfInBounds_toArray, List.set_cons_succ, List.set_cons_zero]
      refine wpAnyH_ready (rs := [2]) (by kernel_rfl) (by simp) ?_
      refine AllReadyH.cons (o := _) rfl (fun K hK => ?_) AllReadyH.nil
      rw [if_pos (by kernel_rfl)]
      go_simp
      go_at_call 30
      refine (unhide HBA _ (Below.refl _ _).drew).mono ?_
      rintro e w5 ⟨rfl, HB5⟩
      dsimp only
      refine hK.out _ _ (hss _ HB5.out) (fun hHeld => ?_)
      clear hK K
      refine wpAnyH_take (i := 3) (oi := _) (v := .bool false) rfl (by kernel_rfl) (by kernel_rfl) (by kernel_rfl) (fun _ _ _ h => h) (Or.inl ⟨by kernel_rfl, fun w _ => by go_simp⟩) hHeld ?_
      simp only [Act.put, List.getElem_toArray, List.getElem_cons_succ, List.getElem_cons_zero, List.setIfInBounds_toArray, List.set_cons_succ, List.set_cons_zero]
      refine wpAnyH_take (i := 4) (oi := _) (v := .bool false) rfl (by kernel_rfl) (by kernel_rfl) (by kernel_rfl) (fun _ _ _ h => h) (Or.inl ⟨by kernel_rfl, fun w _ => by go_simp⟩) hHeld ?_
      simp only [Act.put, List.getElem_toArray, List.getElem_cons_succ, List.getElem_cons_zero, List.setIfInBounds_toArray, List.set_cons_succ, List.set_cons_zero]
      refine wpAnyH_take (i := 5) (oi := _) (v := .agg (fCells G)) rfl (by kernel_rfl) (by kernel_rfl) (by kernel_rfl) (fun _ _ _ h => h) (yields_f (by kernel_rfl) _ rfl _ rfl G (fun w h => h.1)) hHeld ?_
      simp only [Act.put, List.getElem_toArray, List.getElem_cons_succ, List.getElem_cons_zero, List.setIfInBounds_toArray, List.set_cons_succ, List.set_cons_zero]
      refine wpAnyH_take (i := 7) (oi := _) (v := .agg (fCells G)) rfl (by kernel_rfl) (by kernel_rfl) (by kernel_rfl) (fun _ _ _ h => h) (yields_r (by kernel_rfl) _ rfl _ rfl G (fun w h => h.2)) hHeld ?_
      simp only [Act.put, List.getElem_toArray, List.getElem_cons_succ, List.getElem_cons_zero, List.setIfInBounds_toArray, List.set_cons_succ, List.set_cons_zero]
      refine wpAnyH_ready (rs := [6]) (by kernel_rfl) (by simp) ?_
      refine AllReadyH.cons (o := _) rfl (fun K hK => ?_) AllReadyH.nil
      rw [if_pos (by kernel_rfl)]
      go_simp
      go_at_call 28
      refine (unhide HGV _ HB5.out).mono ?_
      rintro e w6 ⟨rfl, HB6⟩
      dsimp only
      refine hK.out _ _ (hss _ HB6.out) (fun hHeld => ?_)
      clear hK K
      refine wpAnyH_take (i := 8) (oi := _) (v := .bool false) rfl (by kernel_rfl) (by kernel_rfl) (by kernel_rfl) (fun _ _ _ h => h) (yields_neqr (by kernel_rfl) _ _ rfl G rfl rfl) hHeld ?_
      simp only [Act.put, List.getElem_toArray, List.getElem_cons_succ, List.getElem_cons_zero, List.setIfInBounds_toArray, List.set_cons_succ, List.set_cons_zero]
      refine wpAnyH_take (i := 9) (oi := _) (v := .bool false) rfl (by kernel_rfl) (by kernel_rfl) (by kernel_rfl) (fun _ _ _ h => h) (Or.inl ⟨by kernel_rfl, fun w _ => by go_simp⟩) hHeld ?_
      simp only [Act.put, List.getElem_toArray, List.getElem_cons_succ, List.getElem_cons_zero, List.setIfInBounds_toArray, List.set_cons_succ, List.set_cons_zero]
      refine wpAnyH_done (by kernel_rfl) ?_ _
      clear hHeld
      have HB7 := hide (HBE.out.trans (HB6.out.mono HBE.out.size))
      clear HBA HGV hss HBE HF2 HR2 HB5 HB6
      go_wp2
      go_roundw
      case rel => exact ⟨k + 1, by omega, by go_num, HB7.out⟩
      case measure => simp [intOf]; omega
    · have HB7 := hide (HO3.out.trans (hBr.mono HO3.out.size))
      clear hBr
      go_wp2
      go_ret
      exact ⟨rfl, HB7.out⟩

set_option maxHeartbeats 4000000 in
set_option maxRecDepth 20000 in
theorem decodes_none (w : World) (hg : HasErrT w) :
    Calls Tryd.prog 6 #[.slice none 0 0] w fun e w' => e = .returned (.bool true) ∧ Below w.heap.size w w' := by
  have hb : IsB w none 0 0 [] := ⟨rfl, Nat.le_refl _, fun _ h => by simp at h, .inl rfl⟩
  have HX := hide hb
  have HSU := hide (refSum_any none 0 0 [] w (by omega) hb)
  have hxl : (crc []).toNat < 4294967296 := (crc []).isLt
  obtain ⟨x, hx⟩ : ∃ x, Hid ((crc []).toNat = x) := ⟨_, hide rfl⟩
  rw [hx.out] at HSU hxl
  obtain ⟨i0, hi, hz0, hz1, hz2⟩ := info_parts infoByte
  have HI := hide hi
  have HZ0 := hide hz0
  have HZ1 := hide hz1
  have HZ2 := hide hz2
  clear hi hz0 hz1 hz2 hb
  have HE0 := hide (eInv_none w)
  go_enter Tryd.func6, Tryd.ntmps6
  go_wp2_with (first
    | (go_at_call 32; refine HSU.out.mono ?_; rintro e w' ⟨rfl, hw'⟩; subst w')
    | (at_builtin; refine wpList_append_own_none rfl _ _ 64 rfl w.heap.size 5 i0 1 Tryd.underlying64 HI.out _ _ _ rfl HE0.out.own rfl ?_)
    | (at_builtin; refine wpList_append_own _ rfl _ _ 64 rfl w.heap.size 5 i0 (.int .u8 0) 1 1 Tryd.underlying64 HI.out HZ0.out HZ1.out HZ2.out rfl (by decide) _ _ _ rfl (HE0.out.own.alloc _) ⟨_, 0, none⟩ 4 4 (u8s (b4 x)) rfl rfl ?c1 (u8s_one _) ?c3 ?c4 ?c5 ?_))
  case c1 =>
    rw [sum_cells x hxl]
    exact app_cells _ _ _ _ (by simp)
  case c3 => unfold maxLen; simp
  case c4 => simp
  case c5 => simp; omega
  intro v2 w2 hown2 hgrow2 _
  have R2 := EInv.put HE0.out (ms := b4 x) (m := 4) rfl hown2 hgrow2
  rw [List.nil_append] at R2
  obtain ⟨g, cp, rfl, hg1, hg2, hIs⟩ := R2.isB (by intro e; have := congrArg List.length e; simp [b4] at this) (b4_lt _)
  obtain ⟨n2, hn2⟩ : ∃ n2, Hid ((b4 x).length = n2) := ⟨_, hide rfl⟩
  have hn2' : n2 ≤ 204 := by rw [← hn2.out]; show 4 ≤ 204; omega
  rw [hn2.out] at hIs ⊢
  have hO2 := R2.old
  obtain ⟨w3, hw3⟩ : ∃ w3, Hid (w2.alloc (.cells #[.slice none 0 0, .slice (some ⟨g, 0, none⟩) n2 cp] 64) = w3) := ⟨_, hide rfl⟩
  have hB3 : Below w2.heap.size w2 w3 := by rw [← hw3.out]; exact (Below.refl _ _).alloc (Nat.le_refl _) _
  have hTwo : Two w3 w2.heap.size := by
    intro k hk
    have hbk : w3.heap[w2.heap.size]? = some (.cells #[.slice none 0 0, .slice (some ⟨g, 0, none⟩) n2 cp] 64 (0, 0)) := by rw [← hw3.out]; exact blk_new _ _
    rcases (by omega : k = 0 ∨ k = 1) with rfl | rfl
    · exact ⟨_, _, _, [], (blk_cell hbk 0).trans rfl, by omega, (HX.out.below hO2).below hB3⟩
    · exact ⟨_, _, _, _, (blk_cell hbk 1).trans rfl, hn2', hIs.below hB3⟩
  have HTW := hide hTwo
  have HO3 := hide (hO2.trans (hB3.mono hO2.size))
  have hM : w2.heap.size < w3.heap.size := by rw [← hw3.out]; simp
  clear hown2 hgrow2 R2 hIs hO2 hB3 hTwo HE0 HSU
  go_wp2_with fail
  rw [show w2.alloc (.cells #[.slice none 0 0, .slice (some ⟨g, 0, none⟩) n2 cp] 64) = w3 from hw3.out]
  have hgM : ∀ wx, Below w3.heap.size w3 wx → HasErrT wx := fun wx hx => (hg.below HO3.out hg.pos).below hx (Nat.lt_of_lt_of_le hg.pos HO3.out.size)
  have HGM := hide hgM
  clear hgM
  generalize w2.heap.size = M at HTW hM ⊢
  go_loopw [34] (fun i wr => ∃ k : Nat, k ≤ 2 ∧ i = .int .i64 k ∧ Below w3.heap.size w3 wr) (fun i _ => 2 - (intOf i).toNat)
  case atStart => exact ⟨0, Nat.zero_le _, rfl, Below.refl _ _⟩
  case round =>
    obtain ⟨k, hk, rfl, hBr⟩ := hrel
    by_cases hlt : k < 2
    · obtain ⟨ax, nx, cx, lx, hcell, hnx, hIx⟩ := HTW.out k hlt
      have hcell' : wr.cell? ⟨M, k, none⟩ = some (.slice ax nx cx) := (hBr.cell (p := ⟨M, k, none⟩) hM).trans hcell
      have HIX := hide (hIx.below hBr)
      have HRD := hide (refDecode_any ax nx cx lx wr (by omega) HIX.out)
      obtain ⟨G, hG⟩ : ∃ G, Hid ((decF lx).2 = G) := ⟨_, hide rfl⟩
      obtain ⟨er, her⟩ : ∃ er, Hid ((decF lx).1 = er) := ⟨_, hide rfl⟩
      rw [hG.out, her.out] at HRD
      have hsr := hBr.size
      have HBR := hide hBr
      clear hcell hIx hBr
      go_wp2_with (first
        | (go_at_call 33; refine HRD.out.mono ?_; rintro e wB ⟨rfl, hBB⟩)
        | (refine wpList_store_rl rfl _ _ rfl wB.heap.size G rfl rfl fr0 (blk_new _ _) ?_))
      intro wC HFC
      have hsB := hBB.size
      have hBC : Below wr.heap.size wr wC := hBB.trans ((((Below.refl _ _).alloc (Nat.le_refl _) _).trans (HFC.out.2.2 _ (Nat.le_refl _))).mono hsB)
      have HR1 := hide HFC.out.1
      have hs1 := HR1.out.lt
      have HIXC := hide (HIX.out.below hBC)
      have HFD := hide (decode_any ax nx cx lx wC (by omega) HIXC.out)
      rw [hG.out, her.out] at HFD
      have HBC := hide (HBR.out.trans (hBC.mono hsr))
      clear hBB hBC HFC HRD HIX HBR hcell'
      generalize wB.heap.size = Q1 at HR1 hs1 hsB ⊢
      obtain ⟨ev, hev⟩ : ∃ ev, Hid (errV er = ev) := ⟨_, hide rfl⟩
      rw [hev.out] at HFD
      go_wp2_with (first
        | (go_at_call 34; refine HFD.out.mono ?_; rintro e wD ⟨rfl, hBD⟩)
        | (refine wpList_store_fl rfl _ _ rfl wD.heap.size G rfl rfl fr0 (blk_new _ _) ?_))
      intro wE HFE
      have hsD := hBD.size
      have hBE : Below wC.heap.size wC wE := hBD.trans ((((Below.refl _ _).alloc (Nat.le_refl _) _).trans (HFE.out.2.2 _ (Nat.le_refl _))).mono hsD)
      have HR2 := hide (HR1.out.below hs1 hBE)
      have HF2 := hide HFE.out.1
      have hs2 := HF2.out.lt
      have HBE := hide (HBC.out.trans (hBE.mono HBC.out.size))
      clear hBD hBE HFE HFD HIXC HR1 HBC
      generalize wD.heap.size = Q2 at HF2 hs2 hsD ⊢
      have hss : ∀ wx, Below wE.heap.size wE wx → FIs wx Q2 63 G ∧ FIs wx Q1 67 G := fun wx hx => ⟨HF2.out.below hs2 hx, HR2.out.below HR2.out.lt hx⟩
      have hba : ∀ wx, Below wE.heap.size wE wx → Calls Tryd.prog 30 #[ev, .int .i64 (er : Int)] wx fun e w' => e = .returned (.bool true) ∧ Hid (Below wE.heap.size wE w') := by
        intro wx hx
        refine (bare_any er ev wx hev.out.symm (HGM.out wx (HBE.out.trans (hx.mono HBE.out.size)))).mono ?_
        rintro e w' ⟨he, hB⟩
        exact ⟨he, hx.trans (hB.mono hx.size)⟩
      have hgv : ∀ wx, Below wE.heap.size wE wx → Calls Tryd.prog 28 #[.agg (fCells G)] wx fun e w' => e = .returned (.agg (fCells G)) ∧ Hid (Below wE.heap.size wE w') := by
        intro wx hx
        refine (given_any G wx).mono ?_
        rintro e w' ⟨he, hB⟩
        exact ⟨he, hx.trans (hB.mono hx.size)⟩
      have HBA := hide hba
      have HGV := hide hgv
      clear hba hgv
      go_wp2_with fail
      refine wp_region_held_drew (S := fun w' => FIs w' Q2 63 G ∧ FIs w' Q1 67 G) (by kernel_rfl) (hss _ (Below.refl _ _).drew) (fun hHeld => ?_)
      refine wpAnyH_take (i := 0) (oi := _) (v := ev) rfl (by kernel_rfl) (by kernel_rfl) (by kernel_rfl) (fun _ _ _ h => h) (Or.inl ⟨by kernel_rfl, fun w _ => by go_simp⟩) hHeld ?_
      simp only [Act.put, List.getElem_toArray, List.getElem_cons_zero, List.setIfInBounds_toArray, List.set_cons_succ, List.set_cons_zero]
      refine wpAnyH_take (i := 1) (oi := _) (v := .int .i64 (er : Int)) rfl (by kernel_rfl) (by kernel_rfl) (by kernel_rfl) (fun _ _ _ h => h) (Or.inl ⟨by kernel_rfl, fun w _ => by go_simp⟩) hHeld ?_
      simp only [Act.put, List.getElem_toArray, List.getElem_cons_succ, List.getElem_cons_zero, List.setIfInBounds_toArray, List.set_cons_succ, List.set_cons_zero]
      refine wpAnyH_ready (rs := [2]) (by kernel_rfl) (by simp) ?_
      refine AllReadyH.cons (o := _) rfl (fun K hK => ?_) AllReadyH.nil
      rw [if_pos (by kernel_rfl)]
      go_simp
      go_at_call 30
      refine (unhide HBA _ (Below.refl _ _).drew).mono ?_
      rintro e w5 ⟨rfl, HB5⟩
      dsimp only
      refine hK.out _ _ (hss _ HB5.out) (fun hHeld => ?_)
      clear hK K
      refine wpAnyH_take (i := 3) (oi := _) (v := .bool false) rfl (by kernel_rfl) (by kernel_rfl) (by kernel_rfl) (fun _ _ _ h => h) (Or.inl ⟨by kernel_rfl, fun w _ => by go_simp⟩) hHeld ?_
      simp only [Act.put, List.getElem_toArray, List.getElem_cons_succ, List.getElem_cons_zero, List.setIfInBounds_toArray, List.set_cons_succ, List.set_cons_zero]
      refine wpAnyH_take (i := 4) (oi := _) (v := .bool false) rfl (by kernel_rfl) (by kernel_rfl) (by kernel_rfl) (fun _ _ _ h => h) (Or.inl ⟨by kernel_rfl, fun w _ => by go_simp⟩) hHeld ?_
      simp only [Act.put, List.getElem_toArray, List.getElem_cons_succ, List.getElem_cons_zero, List.setIfInBounds_toArray, List.set_cons_succ, List.set_cons_zero]
      refine wpAnyH_take (i := 5) (oi := _) (v := .agg (fCells G)) rfl (by kernel_rfl) (by kernel_rfl) (by kernel_rfl) (fun _ _ _ h => h) (yields_f (by kernel_rfl) _ rfl _ rfl G (fun w h => h.1)) hHeld ?_
      simp only [Act.put, List.getElem_toArray, List.getElem_cons_succ, List.getElem_cons_zero, List.setIfInBounds_toArray, List.set_cons_succ, List.set_cons_zero]
      refine wpAnyH_take (i := 7) (oi := _) (v := .agg (fCells G)) rfl (by kernel_rfl) (by kernel_rfl) (by kernel_rfl) (fun _ _ _ h => h) (yields_r (by kernel_rfl) _ rfl _ rfl G (fun w h => h.2)) hHeld ?_
      simp only [Act.put, List.getElem_toArray, List.getElem_cons_succ, List.getElem_cons_zero, List.setIfInBounds_toArray, List.set_cons_succ, List.set_cons_zero]
      refine wpAnyH_ready (rs := [6]) (by kernel_rfl) (by simp) ?_
      refine AllReadyH.cons (o := _) rfl (fun K hK => ?_) AllReadyH.nil
      rw [if_pos (by kernel_rfl)]
      go_simp
      go_at_call 28
      refine (unhide HGV _ HB5.out).mono ?_
      rintro e w6 ⟨rfl, HB6⟩
      dsimp only
      refine hK.out _ _ (hss _ HB6.out) (fun hHeld => ?_)
      clear hK K
      refine wpAnyH_take (i := 8) (oi := _) (v := .bool false) rfl (by kernel_rfl) (by kernel_rfl) (by kernel_rfl) (fun _ _ _ h => h) (yields_neqr (by kernel_rfl) _ _ rfl G rfl rfl) hHeld ?_
      simp only [Act.put, List.getElem_toArray, List.getElem_cons_succ, List.getElem_cons_zero, List.setIfInBounds_toArray, List.set_cons_succ, List.set_cons_zero]
      refine wpAnyH_take (i := 9) (oi := _) (v := .bool false) rfl (by kernel_rfl) (by kernel_rfl) (by kernel_rfl) (fun _ _ _ h => h) (Or.inl ⟨by kernel_rfl, fun w _ => by go_simp⟩) hHeld ?_
      simp only [Act.put, List.getElem_toArray, List.getElem_cons_succ, List.getElem_cons_zero, List.setIfInBounds_toArray, List.set_cons_succ, List.set_cons_zero]
      refine wpAnyH_done (by kernel_rfl) ?_ _
      clear hHeld
      have HB7 := hide (HBE.out.trans (HB6.out.mono HBE.out.size))
      clear HBA HGV hss HBE HF2 HR2 HB5 HB6
      go_wp2
      go_roundw
      case rel => exact ⟨k + 1, by omega, by go_num, HB7.out⟩
      case measure => simp [intOf]; omega
    · have HB7 := hide (HO3.out.trans (hBr.mono HO3.out.size))
      clear hBr
      go_wp2
      go_ret
      exact ⟨rfl, HB7.out⟩

theorem decodes_any (a : Option Addr) (len cap : Nat) (l : List Nat) (w : World) (hb : IsB w a len cap l) (hnil : a = none → len = 0 ∧ cap = 0) (hg : HasErrT w) :
    Calls Tryd.prog 6 #[.slice a len cap] w fun e w' => e = .returned (.bool true) ∧ Below w.heap.size w w' := by
  by_cases hl : 200 < len
  · exact decodes_many a len cap w hl
  · cases a with
    | none =>
      obtain ⟨rfl, rfl⟩ := hnil rfl
      exact decodes_none w hg
    | some ad => exact decodes_some ad len cap l w (by omega) hb hg
end Go.Proofs.YtiipmdmbmepgjaaDoor
