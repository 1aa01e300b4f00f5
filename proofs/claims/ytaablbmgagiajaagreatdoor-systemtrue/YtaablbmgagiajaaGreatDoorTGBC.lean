import Derived.Deep.RegionWith
import Derived.Deep.RegionHeld3
import Derived.Deep.RegionLaw
import Derived.Deep.CutRange
import Derived.Test.YtaablbmgagiajaaGreatDoorTGBB
import Derived.Test.YtaablbmgagiajaaGreatDoorTGAY
namespace Go.Proofs.YtaablbmgagiajaaGreatDoor
open Go.RowKit Go.Deep
theorem below_drewN {B : Nat} {w w' : World} (h : Below B w w') (n : Nat) : Below B w (w'.drewN n) := ⟨h.os, h.tape, h.output, h.size, h.block⟩
theorem VIs.app {w2 w3 : World} {N p win n cap g cap' : Nat} {a : Option Addr} {S : VS} {d : Cm} {o : Obj} (h : VIs w2 N p win (.slice a n cap) S) (hn : S.tr.length = n) (hown : w3.ownsRow N 59 3 (.slice (some ⟨g, 0, none⟩) (n + 1) cap') (n + 1) (cmL S.tr ++ cmC d))
    (hg : (w2.alloc o).drew.grownBy w3 (Value.slice a n cap).ownBlock) : VIs (w3.setCell ⟨p, 0, none⟩ (.slice (some ⟨g, 0, none⟩) (n + 1) cap')) N p win (.slice (some ⟨g, 0, none⟩) (n + 1) cap') ⟨S.tr ++ [d], S.b, S.x, S.left, S.out, S.lat⟩ := by
  have hp : w3.heap[p]? = some (.cells (vCells (.slice a n cap) win S) 116 (0, 0)) := (hg.block p (by have := h.lt; simp [World.drew]; omega) (fun e => h.ne p e.symm rfl)).trans ((Below.heap_alloc _ _ _ h.lt).trans h.blk)
  have ht : TIs w3 N (.slice (some ⟨g, 0, none⟩) (n + 1) cap') (S.tr ++ [d]) := by
    unfold TIs
    rw [cmL_append, List.length_append, hn]
    exact hown
  refine ⟨(blk_set hp 0 _).trans rfl, ht.same fun g' hg' => ?_, h.np⟩
  obtain ⟨_, cur, hc⟩ := ht.own hg'
  exact Below.heap_setCell _ _ _ _ (type_ne hc hp (by decide))
theorem app_mod {w w2 w3 : World} {p n cap : Nat} {a : Option Addr} {o : Obj} {u : Value} (h : Mod w w2 (VB p (.slice a n cap))) (hg : (w2.alloc o).drew.grownBy w3 (Value.slice a n cap).ownBlock) : Mod w (w3.setCell ⟨p, 0, none⟩ u) (VB p (.slice a n cap)) := by
  have h1 : Mod w (w2.alloc o).drew (VB p (.slice a n cap)) := h.below ⟨rfl, rfl, rfl, by simp [World.drew], fun k hk => Below.heap_alloc _ _ _ hk⟩
  exact (h1.grown hg (fun k _ e => .inr e)).set _ _ (fun _ => .inl rfl)
def noVotes : List Value := [.bool false, .int .i64 0, .int .i64 0, .int .i64 0, .bool false, .int .i64 0, .int .i64 0, .int .i64 0, .bool false, .int .i64 0, .int .i64 0, .int .i64 0]
theorem noVotes_one : noVotes.toArray.all (·.oneCell') = true := by simp [noVotes, Value.oneCell']
def putL (c : Array Value) : Nat → List Value → Array Value
  | _, [] => c
  | o, v :: r => putL (c.setIfInBounds o v) (o + 1) r
theorem mod_setCells {w w1 : World} {T : Nat → Prop} {b : Nat} (hb : T b) (vs : List Value) (h : Mod w w1 T) (o : Nat) : Mod w (w1.setCells b o vs) T := by
  induction vs generalizing o w1 with
  | nil => exact h
  | cons v r ih => exact ih (h.set ⟨b, o, none⟩ v (fun _ => hb)) (o + 1)
theorem blk_setCells {w : World} {b : Nat} {t : TypeId} (vs : List Value) {c : Array Value} (h : w.heap[b]? = some (.cells c t (0, 0))) (o : Nat) : (w.setCells b o vs).heap[b]? = some (.cells (putL c o vs) t (0, 0)) := by
  induction vs generalizing o w c with
  | nil => exact h
  | cons v r ih => exact ih (blk_set h o v) (o + 1)
theorem put_noVotes (tv : Value) (win : Nat) (S : VS) : putL (vCells tv win S) 1 noVotes = vCells tv win ⟨S.tr, fun _ => false, fun _ => cm0, S.left, S.out, S.lat⟩ := by
  simp [noVotes, putL, vCells, cm0]
theorem VIs.wipe {w : World} {N p win : Nat} {tv : Value} {S : VS} (h : VIs w N p win tv S) : VIs (w.setCells p 1 noVotes) N p win tv ⟨S.tr, fun _ => false, fun _ => cm0, S.left, S.out, S.lat⟩ ∧ Mod w (w.setCells p 1 noVotes) (VB p tv) := by
  have hm2 : Mod w (w.setCells p 1 noVotes) (fun k => k = p) := mod_setCells (T := fun k => k = p) (b := p) rfl _ (Mod.refl _ _) _
  refine ⟨⟨?_, h.row.same fun g hg => hm2.block g (by obtain ⟨_, _, hc⟩ := h.row.own hg; exact blk_lt hc) (h.ne g hg), h.np⟩, mod_setCells (.inl rfl) _ (Mod.refl _ _) _⟩
  rw [blk_setCells noVotes h.blk 1, put_noVotes]
theorem VIs.there {w : World} {N p win : Nat} {tv : Value} {S : VS} (h : VIs w N p win tv S) : w.there p 1 12 := fun j hj => by
  refine ⟨?_, h.free _⟩
  rw [h.at, Array.getElem?_eq_getElem (by show 1 + j < 17; omega)]
  rfl
theorem wpList_wipe {ops : Array Oper} {rest : List Oper} {op : Oper} {a : Act} {w : World} {Q : Exit → Act → World → Prop} (hgd : op.guard = none) (x y : Operand) (ho : op.op = .store 114 x y) (p : Nat) (hx : a.eval x = .pointer (some ⟨p, 1, none⟩)) (hy : a.eval y = .agg #[.bool false, .int .i64 0, .int .i64 0, .int .i64 0, .bool false, .int .i64 0, .int .i64 0, .int .i64 0, .bool false, .int .i64 0, .int .i64 0, .int .i64 0])
    (ht : w.there p 1 12) (h : ∀ w', Hid (w.setCells p 1 noVotes = w') → wpList Tryz.prog ops Q rest (a.put op.dst undef) w') : wpList Tryz.prog ops Q (op :: rest) a w :=
  wpList_store_mid hgd 114 x y ho p 1 noVotes.toArray hx hy ht (by rw [infoVotes]; rfl) noVotes_one (h _ rfl)
set_option maxHeartbeats 1000000 in
set_option maxRecDepth 20000 in
theorem commit_any (N p win : Nat) (tv : Value) (S : VS) (w : World) (d : Cm) (h : VIs w N p win tv S) (hok : VOk win S) (hl : S.lat = false) (hN : N ≤ w.heap.size) :
    Calls Tryz.prog 102 #[.pointer (some ⟨p, 0, none⟩), .agg #[.int .i64 d.c, .int .i64 d.v, .int .i64 d.o]] w fun e w' => e = .returned (.tuple #[]) ∧ ∃ tv', VIs w' N p win tv' (commitS win S d) ∧ Moved w tv tv' ∧ Mod w w' (VB p tv) := by
  obtain ⟨W, hW⟩ : ∃ W, Hid (w.alloc (.cells #[.int .i64 d.c, .int .i64 d.v, .int .i64 d.o] 59) = W) := ⟨_, hide rfl⟩
  have hBW : Below w.heap.size w W := by rw [← hW.out]; exact (Below.refl _ _).alloc (Nat.le_refl _) _
  have hbx : W.heap[w.heap.size]? = some (.cells #[.int .i64 d.c, .int .i64 d.v, .int .i64 d.o] 59 (0, 0)) := by rw [← hW.out]; exact blk_new _ _
  have hWs : W.heap.size = w.heap.size + 1 := by rw [← hW.out]; simp
  have hVW := h.below hBW
  have ho := hok.out
  have hag := agTo_lt S.b S.x d 3 3 (Nat.le_refl _)
  have hon := outN_lt hok d
  obtain ⟨ag, hga⟩ : ∃ z, Hid (agTo S.b S.x d 3 = z) := ⟨_, hide rfl⟩
  obtain ⟨on, hno⟩ : ∃ z, Hid (outN S d = z) := ⟨_, hide rfl⟩
  have eo : bits BinOp.or IntKind.i64 (S.out : Int) (ag : Int) = (on : Int) := by
    rw [hga.out] at hag
    rw [or_lit S.out ag ho hag, ← hno.out, outN, hga.out]
  rw [hno.out] at hon
  have hcall : ∀ wx, Below W.heap.size W wx → Calls Tryz.prog 107 #[.pointer (some ⟨p, 0, none⟩), .agg #[.int .i64 d.c, .int .i64 d.v, .int .i64 d.o]] wx fun e w1 => e = .returned (.int .i64 (ag : Int)) ∧
      (w1.cell? ⟨p, 15, none⟩ = some (.int .i64 (S.out : Int)) ∧ w1.frozen? ⟨p, 15, none⟩ = false) ∧ Hid (VIs (w1.setCell ⟨p, 15, none⟩ (.int .i64 (on : Int))) N p win tv ⟨S.tr, S.b, S.x, S.left, on, S.lat⟩ ∧ Mod w (w1.setCell ⟨p, 15, none⟩ (.int .i64 (on : Int))) (VB p tv) ∧ (w1.setCell ⟨p, 15, none⟩ (.int .i64 (on : Int))).heap[w.heap.size]? = some (.cells #[.int .i64 d.c, .int .i64 d.v, .int .i64 d.o] 59 (0, 0))) := by
    intro wx hx
    have hV := hVW.below hx
    refine (against_any N p win tv S wx d hV).mono ?_
    rintro e w1 ⟨rfl, hB1⟩
    have hV1 := hV.below hB1
    have hBx : Below w.heap.size w w1 := hBW.trans ((hx.mono (by omega)).trans (hB1.mono (by have := hx.size; omega)))
    refine ⟨by rw [hga.out], ⟨(hV1.at 15).trans rfl, hV1.free 15⟩, hide ⟨hV1.put 15 _ rfl rfl, (Mod.ofBelow hBx _).set _ _ (fun _ => .inl rfl), ?_⟩⟩
    rw [Below.heap_setCell _ _ _ _ (by show w.heap.size ≠ p; have := h.lt; omega), hB1.block _ (by have := hx.size; omega), hx.block _ (by omega), hbx]
  have HC := hide hcall
  have c15 : W.cell? ⟨p, 15, none⟩ = some (.int .i64 (S.out : Int)) := (hVW.at 15).trans rfl
  have y0 : W.cell? ⟨w.heap.size, 0, none⟩ = some (.int .i64 d.c) := (blk_cell hbx 0).trans rfl
  have y1 : W.cell? ⟨w.heap.size, 1, none⟩ = some (.int .i64 d.v) := (blk_cell hbx 1).trans rfl
  have y2 : W.cell? ⟨w.heap.size, 2, none⟩ = some (.int .i64 d.o) := (blk_cell hbx 2).trans rfl
  have hp := h.lt
  have hf := hok.few
  have hOld : ∀ g, tv.ownBlock = some g → g < w.heap.size := fun g hg => by obtain ⟨_, cur, hc⟩ := h.row.own hg; exact blk_lt hc
  obtain ⟨a, cap, rfl⟩ := h.row.shape
  obtain ⟨i0, hi, hz0, hz1, hz2⟩ := info_parts infoCommit
  have HI := hide hi
  have HZ0 := hide hz0
  have HZ1 := hide hz1
  have HZ2 := hide hz2
  clear hi hz0 hz1 hz2
  have hn : ¬ S.tr.length = 1000 := fun e => by rw [hok.full e] at hl; cases hl
  have HOK := hide hok
  have HNO := hno
  clear hcall hVW hbx hBW h hok hga hno hag
  go_enter Tryz.func102, Tryz.ntmps102
  go_wp2_with fail
  rw [show w.alloc (.cells #[.int .i64 d.c, .int .i64 d.v, .int .i64 d.o] 59) = W from hW.out]
  clear hW
  go_cut [] from 4 to 13 (fun wc => VIs wc N p win (.slice a S.tr.length cap) ⟨S.tr, S.b, S.x, S.left, on, S.lat⟩ ∧ Mod w wc (VB p (.slice a S.tr.length cap)) ∧ wc.heap[w.heap.size]? = some (.cells #[.int .i64 d.c, .int .i64 d.v, .int .i64 d.o] 59 (0, 0)))
  case first =>
    go_region_with ((go_at_call 107; refine (unhide HC _ (by first | exact Below.refl _ _ | exact (Below.refl _ _).drew | exact below_drewN (Below.refl _ _) _)).mono ?_; rintro e w1 ⟨rfl, ⟨z0, z1⟩, HM⟩))
    all_goals
      go_wp2_with fail
      go_meet
      exact HM.out
  case rest =>
    obtain ⟨hV2, hM2, hb2⟩ := hcut
    have c0 : wc.cell? ⟨p, 0, none⟩ = some (.slice a S.tr.length cap) := (hV2.at 0).trans rfl
    have f0 : wc.frozen? ⟨p, 0, none⟩ = false := hV2.free 0
    have x0 : wc.cell? ⟨w.heap.size, 0, none⟩ = some (.int .i64 d.c) := (blk_cell hb2 0).trans rfl
    have x1 : wc.cell? ⟨w.heap.size, 1, none⟩ = some (.int .i64 d.v) := (blk_cell hb2 1).trans rfl
    have x2 : wc.cell? ⟨w.heap.size, 2, none⟩ = some (.int .i64 d.o) := (blk_cell hb2 2).trans rfl
    have hs2 : w.heap.size < wc.heap.size := blk_lt hb2
    have hpn : some p ≠ (Value.slice a S.tr.length cap).ownBlock := fun e => hV2.ne p e.symm rfl
    have FRZ : Hid ((wc.alloc (.cells #[.int .i64 d.c, .int .i64 d.v, .int .i64 d.o] 59)).drew.frozen? ⟨p, 0, none⟩ = false) := hide ((World.frozen?_of_block (w := wc) (Below.heap_alloc _ _ _ hV2.lt)).trans (hV2.free 0))
    have hpl := hV2.lt
    have CEL : Hid ((wc.alloc (.cells #[.int .i64 d.c, .int .i64 d.v, .int .i64 d.o] 59)).drew.cell? ⟨p, 0, none⟩ = some (.slice a S.tr.length cap)) := hide ((World.cell?_of_block (w := wc) (Below.heap_alloc _ _ _ hpl)).trans c0)
    have HOWN0 := hide hV2.row
    have HV2 := hide hV2
    have HM2 := hide hM2
    obtain ⟨n, hnn⟩ : ∃ n, Hid (S.tr.length = n) := ⟨_, hide rfl⟩
    rw [hnn.out] at hn hf c0 hpn HV2 HM2 CEL hOld
    have HK1 : Hid (n + 1 ≤ maxLen) := by rw [Hid]; unfold maxLen; omega
    have HK2 : Hid ((n + 1) * 24 ≤ 140737488355328) := by rw [Hid]; omega
    have HK3 : Hid (N ≤ (wc.alloc (.cells #[.int .i64 d.c, .int .i64 d.v, .int .i64 d.o] 59)).drew.heap.size) := by rw [Hid]; simp; omega
    have HOWN : Hid (wc.ownsRow N 59 3 (.slice a n cap) n (cmL S.tr)) := by
      have := HOWN0.out
      unfold TIs at this
      rw [hnn.out] at this
      exact this
    clear HOWN0 hV2 hM2 hb2 HC c15 y0 y1 y2
    go_wp2_with fail
    go_cut [] from 14 to 23 (fun wz => ∃ g cap', VIs wz N p win (.slice (some ⟨g, 0, none⟩) (n + 1) cap') ⟨S.tr ++ [d], S.b, S.x, S.left, on, S.lat⟩ ∧ Mod w wz (VB p (.slice a n cap)) ∧ ((Value.slice a n cap).ownBlock = some g ∨ w.heap.size ≤ g))
    case first =>
      go_region_law
        ((refine step_append_lies _ (by rfl) _ _ _ (by rfl) N 59 i0 _ 3 24 Tryz.underlying47 HI.out HZ0.out HZ1.out HZ2.out rfl (by omega) (.slice a n cap) n (cmL S.tr) (by rfl) ((HOWN.out.alloc _).drew)
            ⟨wc.heap.size, 0, none⟩ 1 1 (cmC d) (by rfl) (by rfl) (World.news_of_block (cs := #[.int .i64 d.c, .int .i64 d.v, .int .i64 d.o]) (t := 59) (fr := (0, 0)) (heap_alloc_new wc _)) (fun u hu => by simp [cmC] at hu; rcases hu with rfl | rfl | rfl <;> rfl)
            (by omega) HK1.out HK2.out HK3.out (wc.heap.size + 1) (by simp) ?_; intro g cap' w3 hown3 hgrow hat hlt; have fz : w3.frozen? ⟨p, 0, none⟩ = false := (hgrow.frozen_far ⟨p, 0, none⟩ (by simp; omega) hpn).trans FRZ.out; have cz : w3.cell? ⟨p, 0, none⟩ = some (.slice a n cap) := (hgrow.cell_far ⟨p, 0, none⟩ (by simp; omega) hpn).trans CEL.out))
      all_goals
        go_wp2_with fail
        go_meet
        exact ⟨g, cap', HV2.out.app hnn.out hown3 hgrow, app_mod HM2.out hgrow, hat.imp id (fun e => by omega)⟩
    case rest =>
      obtain ⟨g, cap', hV3, hM3, hat⟩ := hcut
      clear HK1 HK2 HK3 HOWN CEL FRZ c0 f0 x0 x1 x2 hpn HV2 HM2
      obtain ⟨hV4, hM4⟩ := hV3.wipe
      have HTH := hide hV3.there
      have HW4 := hide hV4
      have HM4 := hide (hM3.then hM4 (fun i hi hu => by
        rcases hu with hu | hu
        · exact .inl hu
        · right
          have e : g = i := by simpa [Value.ownBlock] using hu
          rcases hat with h | h
          · rw [h, e]
          · omega))
      have HAT := hide hat
      clear hV3 hM3 hV4 hM4 hat
      go_wp2_with (refine wpList_wipe rfl _ _ rfl p rfl rfl HTH.out ?_)
      intro w4 hw4
      rw [hw4.out] at HW4 HM4
      have k0 : w4.cell? ⟨p, 0, none⟩ = some (.slice (some ⟨g, 0, none⟩) (n + 1) cap') := (HW4.out.at 0).trans rfl
      have k13 : w4.cell? ⟨p, 13, none⟩ = some (.int .i64 (win : Int)) := (HW4.out.at 13).trans rfl
      have k14 : w4.cell? ⟨p, 14, none⟩ = some (.int .i64 (S.left : Int)) := (HW4.out.at 14).trans rfl
      have k15 : w4.cell? ⟨p, 15, none⟩ = some (.int .i64 (on : Int)) := (HW4.out.at 15).trans rfl
      have k16 : w4.cell? ⟨p, 16, none⟩ = some (.bool S.lat) := (HW4.out.at 16).trans rfl
      have l14 := HW4.out.free 14
      have l16 := HW4.out.free 16
      have hsp := fun wx => spent_any on (n + 1) wx (by omega)
      obtain ⟨z, hz⟩ : ∃ z, Hid ((decide (2 ≤ pop 8 on) || decide (1000 ≤ n + 1)) = z) := ⟨_, hide rfl⟩
      rw [hz.out] at hsp
      have HSP := hide hsp
      have e5 := (HW4.out.put (S' := ⟨S.tr ++ [d], fun _ => false, fun _ => cm0, win, on, S.lat⟩) 14 (.int .i64 (win : Int)) rfl rfl).put (S' := ⟨S.tr ++ [d], fun _ => false, fun _ => cm0, win, on, z⟩) 16 (.bool z) rfl rfl
      have HE5 := hide e5
      have HE6 := hide ((HM4.out.set ⟨p, 14, none⟩ (.int .i64 (win : Int)) (fun _ => .inl rfl)).set ⟨p, 16, none⟩ (.bool z) (fun _ => .inl rfl))
      have HFIN : Hid (commitS win S d = ⟨S.tr ++ [d], fun _ => false, fun _ => cm0, win, on, z⟩) := by
        rw [Hid]
        unfold commitS
        rw [HNO.out, hnn.out, hz.out]
      clear hsp e5 hw4 HW4 HM4 HTH hOld
      go_wp2_with fail
      go_region_with ((go_at_call 108; refine (unhide HSP _).mono ?_; rintro e w5 ⟨rfl, hw5⟩; subst w5))
      all_goals go_wp2_with fail
      all_goals
        go_end0
        rw [HFIN.out, hnn.out]
        refine ⟨rfl, _, ⟨HE5.out.blk, HE5.out.row, HE5.out.np⟩, fun g' hg' => ?_, ⟨HE6.out.os, HE6.out.tape, HE6.out.output, HE6.out.size, HE6.out.block⟩⟩
        have e : g = g' := by simpa [Value.ownBlock] using hg'
        rw [← e]
        exact HAT.out
end Go.Proofs.YtaablbmgagiajaaGreatDoor
