import Derived.Test.YtaablbmgagiajabGreatDoorSGAS
import Derived.Test.YtaablbmgagiajabGreatDoorSGAR
import Derived.Lib.SliceRun
import Derived.Laws.EntriesVeiled
import Derived.Test.YtaablbmgagiajabGreatDoorSGAD
namespace Go.Proofs.YtaablbmgagiajabGreatDoor
open Go.RowKit Go.Deep
theorem infoPacket : (Tryz.prog.info? 134).map (fun i => (i.zero, i.size, i.bytes)) = some (some (.agg #[.int .i64 0, .int .i64 0, .slice none 0 0]), 3, 40) := by kernel_rfl
section
variable {w w' : World} {N win : Nat} {D : SC} {L : RC} {S : SY}
theorem NetIs.shape {nv : Value} {l : List Pk} {us : List Value} (h : NetIs w N nv l us) : ∃ a cap, nv = .slice a l.length cap := by
  rcases h.row.2 with ⟨rfl, h0⟩ | ⟨g, cap, cur, rfl, _⟩
  · exact ⟨none, 0, by rw [h0]⟩
  · exact ⟨_, _, rfl⟩
theorem SyIs.ne7 (h : SyIs w N D L win S) : ∀ g, D.nv.ownBlock = some g → g ≠ D.p := fun _ hg => (h.tyN hg).ne h.tyP (by decide)
theorem SyIs.lost8 (h : SyIs w N D L win S) (x : Int) : SyGo w (w.setCell ⟨D.p, 8, none⟩ (.int .i64 x)) N D L win S := by
  have hm : Mod w (w.setCell ⟨D.p, 8, none⟩ (.int .i64 x)) (NB D) := (Mod.refl w _).set _ _ (fun _ => .inl rfl)
  have hm1 : Mod w (w.setCell ⟨D.p, 8, none⟩ (.int .i64 x)) (· = D.p) := (Mod.refl w _).set _ _ (fun _ => rfl)
  exact h.putN (lost' := x) hm ((blk_set h.blk 8 _).trans rfl) (h.net.mod hm1 (fun g hg => h.ne7 g hg) (fun k hk hb => by subst hk; exact h.wrByte (.inl rfl) hb)) (fun _ hg => .inl hg)
theorem NetIs.grown {nv : Value} {l : List Pk} {us : List Value} {q : Pk} {u : Value} {wb w3 : World} {g cap' : Nat} (h : NetIs wb N nv l us) (hu : BytesIs wb u q.b) (hown : w3.ownsRow N 134 3 (.slice (some ⟨g, 0, none⟩) (l.length + 1) cap') (l.length + 1) (pkL l us ++ pkC q u)) (hg : wb.grownBy w3 nv.ownBlock) : NetIs w3 N (.slice (some ⟨g, 0, none⟩) (l.length + 1) cap') (l ++ [q]) (us ++ [u]) := by
  have hm : Mod wb w3 (fun k => nv.ownBlock = some k) := (Mod.refl wb _).grown hg (fun k _ e => e)
  have hty : ∀ k, nv.ownBlock = some k → ¬ TyAt wb k 5 := fun k hk hb => by
    obtain ⟨cur, hc⟩ := h.own hk
    exact TyAt.ne ⟨_, _, hc⟩ hb (by decide) rfl
  refine ⟨?_, by rw [List.length_append, List.length_append, h.len]; rfl, fun i hi => ?_⟩
  · rw [List.length_append, pkL_app _ _ _ _ h.len]
    exact hown
  · rw [List.length_append] at hi
    have hi' : i < l.length + 1 := hi
    by_cases e : i < l.length
    · rw [List.getElem?_append_left (by rw [h.len]; exact e), show pkAt (l ++ [q]) i = pkAt l i by unfold pkAt; rw [List.getElem?_append_left e]]
      exact (h.byt i e).mod hm hty
    · have e : i = l.length := by omega
      subst e
      rw [show (us ++ [u])[l.length]? = some u by rw [← h.len]; simp, show pkAt (l ++ [q]) l.length = q by unfold pkAt; simp]
      exact hu.mod hm hty
end
set_option maxHeartbeats 2000000 in
set_option maxRecDepth 20000 in
theorem syput_any (N : Nat) (D : SC) (L : RC) (win : Nat) (S : SY) (w : World) (q : Pk) (u : Value) (h : SyIs w N D L win S) (hu : BytesIs w u q.b) (hN : N ≤ w.heap.size) (hle : S.net.length ≤ 120) :
    Calls Tryz.prog 77 #[.pointer (some ⟨D.p, 0, none⟩), .agg #[.int .i64 (q.src : Int), .int .i64 (q.dst : Int), u]] w fun e w' => e = .returned (.tuple #[]) ∧ SyGo w w' N D L win ⟨S.rp, S.v, putP q S.net⟩ := by
  obtain ⟨W, hW⟩ : ∃ W, Hid (w.alloc (.cells #[.int .i64 (q.src : Int), .int .i64 (q.dst : Int), u] 134) = W) := ⟨_, hide rfl⟩
  have hBW : Below w.heap.size w W := by rw [← hW.out]; exact (Below.refl _ _).alloc (Nat.le_refl _) _
  have hbx : W.heap[w.heap.size]? = some (.cells #[.int .i64 (q.src : Int), .int .i64 (q.dst : Int), u] 134 (0, 0)) := by rw [← hW.out]; exact blk_new _ _
  have hS := h.below hBW
  have hu' := hu.below hBW
  obtain ⟨a, cap, hnv⟩ := h.net.shape
  have HUE : Hid (u.oneCell' = true) := by obtain ⟨_, ua, uc, e, _⟩ := hu; rw [Hid, e]; rfl
  have c7 : w.cell? ⟨D.p, 7, none⟩ = some (.slice a S.net.length cap) := (h.at 7).trans (by show some D.nv = _; rw [hnv])
  have c8 : w.cell? ⟨D.p, 8, none⟩ = some (.int .i64 D.lost) := (h.at 8).trans rfl
  have f8 := h.free 8
  have hpl := h.lt
  by_cases hfull : 120 ≤ S.net.length
  · have hge : (120 : Int) ≤ (S.net.length : Int) := by omega
    have HG : Hid (∀ x o, SyGo w ((w.setCell ⟨D.p, 8, none⟩ (.int .i64 x)).alloc o) N D L win ⟨S.rp, S.v, putP q S.net⟩) := hide fun x o => by
      rw [show putP q S.net = S.net from if_pos hfull]
      exact (h.lost8 x).below ((Below.refl _ _).alloc (Nat.le_refl _) _)
    clear h hu hbx hS hu' hBW hnv hW
    go_enter Tryz.func77, Tryz.ntmps77
    go_wp2
    exact bodyPost_ret (results_none rfl _ _ _) rfl ⟨rfl, HG.out _ _⟩
  · have hlt : ¬ (120 : Int) ≤ (S.net.length : Int) := by omega
    have x0 : W.cell? ⟨w.heap.size, 0, none⟩ = some (.int .i64 (q.src : Int)) := (blk_cell hbx 0).trans rfl
    have x1 : W.cell? ⟨w.heap.size, 1, none⟩ = some (.int .i64 (q.dst : Int)) := (blk_cell hbx 1).trans rfl
    have x2 : W.cell? ⟨w.heap.size, 2, none⟩ = some u := (blk_cell hbx 2).trans rfl
    obtain ⟨i0, hi, hz0, hz1, hz2⟩ := info_parts infoPacket
    have HI := hide hi
    have HZ0 := hide hz0
    have HZ1 := hide hz1
    have HZ2 := hide hz2
    have hpn : some D.p ≠ (Value.slice a S.net.length cap).ownBlock := fun e => hS.ne7 D.p (by rw [hnv]; exact e.symm) rfl
    have hs1 : w.heap.size < W.heap.size := blk_lt hbx
    have hplW := hS.lt
    have d7 : W.cell? ⟨D.p, 7, none⟩ = some (.slice a S.net.length cap) := (hS.at 7).trans (by show some D.nv = _; rw [hnv])
    have FRZ : Hid ((W.alloc (.cells #[.int .i64 (q.src : Int), .int .i64 (q.dst : Int), u] 134)).drew.frozen? ⟨D.p, 7, none⟩ = false) := hide ((World.frozen?_of_block (w := W) (Below.heap_alloc _ _ _ hplW)).trans (hS.free 7))
    have CEL : Hid ((W.alloc (.cells #[.int .i64 (q.src : Int), .int .i64 (q.dst : Int), u] 134)).drew.cell? ⟨D.p, 7, none⟩ = some (.slice a S.net.length cap)) := hide ((World.cell?_of_block (w := W) (Below.heap_alloc _ _ _ hplW)).trans d7)
    have HNET := hide hS.net
    have HS := hide hS
    have HU := hide hu'
    have HB := hide hBW
    obtain ⟨n, hnn⟩ : ∃ n, Hid (S.net.length = n) := ⟨_, hide rfl⟩
    rw [hnn.out] at hle hfull hlt c7 hpn CEL hnv d7
    have HNV := hide hnv
    have HK1 : Hid (n + 1 ≤ maxLen) := by rw [Hid]; unfold maxLen; omega
    have HK2 : Hid ((n + 1) * 40 ≤ 140737488355328) := by rw [Hid]; omega
    have HK3 : Hid (N ≤ (W.alloc (.cells #[.int .i64 (q.src : Int), .int .i64 (q.dst : Int), u] 134)).drew.heap.size) := by rw [Hid]; simp; omega
    have HOWN : Hid (W.ownsRow N 134 3 (.slice a n cap) n (pkL S.net D.us)) := by
      have := HNET.out.row
      rw [hnv, hnn.out] at this
      exact this
    have HNEW : Hid (∀ v ∈ pkC q u, v.oneCell' = true) := by
      rw [Hid]
      intro v hv
      simp [pkC] at hv
      rcases hv with rfl | rfl | rfl
      · rfl
      · rfl
      · exact HUE.out
    have HPUT : Hid (putP q S.net = S.net ++ [q]) := by rw [Hid]; exact if_neg (by rw [hnn.out]; exact hfull)
    have HEND : Hid (∀ (o : Obj) (w3 : World) (g cap' : Nat), w3.ownsRow N 134 3 (.slice (some ⟨g, 0, none⟩) (n + 1) cap') (n + 1) (pkL S.net D.us ++ pkC q u) → (W.alloc o).drew.grownBy w3 (Value.slice a n cap).ownBlock → ((Value.slice a n cap).ownBlock = some g ∨ w.heap.size ≤ g) →
        SyGo w (w3.setCell ⟨D.p, 7, none⟩ (.slice (some ⟨g, 0, none⟩) (n + 1) cap')) N D L win ⟨S.rp, S.v, S.net ++ [q]⟩) := hide fun o w3 g cap' ho hgr hat => by
      have hBo : Below W.heap.size W (W.alloc o).drew := ((Below.refl _ _).alloc (Nat.le_refl _) _).drew
      have hSo := HS.out.below hBo
      have hnvo : D.nv = .slice a n cap := HNV.out
      have hmg : Mod (W.alloc o).drew w3 (fun k => D.nv.ownBlock = some k) := by rw [hnvo]; exact (Mod.refl _ _).grown hgr (fun k _ e => e)
      have hN3 : NetIs w3 N (.slice (some ⟨g, 0, none⟩) (n + 1) cap') (S.net ++ [q]) (D.us ++ [u]) := by
        have hlen := hnn.out
        subst hlen
        exact hSo.net.grown (HU.out.below hBo) ho (by rw [hnvo]; exact hgr)
      have hb3 : w3.heap[D.p]? = some (.cells (syCells D L) 90 (0, 0)) := (hmg.block _ hSo.lt (fun e => hSo.ne7 _ e rfl)).trans hSo.blk
      have hg3 : ∃ cur, w3.heap[g]? = some (.cells cur 134 (0, 0)) := hN3.own rfl
      have hm4 : Mod w3 (w3.setCell ⟨D.p, 7, none⟩ (.slice (some ⟨g, 0, none⟩) (n + 1) cap')) (· = D.p) := (Mod.refl _ _).set _ _ (fun _ => rfl)
      have hN4 : NetIs (w3.setCell ⟨D.p, 7, none⟩ (.slice (some ⟨g, 0, none⟩) (n + 1) cap')) N (.slice (some ⟨g, 0, none⟩) (n + 1) cap') (S.net ++ [q]) (D.us ++ [u]) := by
        refine hN3.mod hm4 (fun x hx e => ?_) (fun k hk hb => ?_)
        · obtain ⟨cur, hc⟩ := hg3
          have : g = x := by simpa [Value.ownBlock] using hx
          subst this
          exact TyAt.ne ⟨_, _, hc⟩ ⟨_, _, hb3⟩ (by decide) e
        · subst hk
          exact TyAt.ne ⟨_, _, hb3⟩ hb (by decide) rfl
      refine h.putN (nv' := .slice (some ⟨g, 0, none⟩) (n + 1) cap') (us' := D.us ++ [u]) (lost' := D.lost) ?_ ((blk_set hb3 7 _).trans rfl) hN4 (fun x hx => ?_)
      · have m1 : Mod w (W.alloc o).drew (NB D) := (Mod.ofBelow HB.out _).below hBo
        have m2 : Mod w w3 (NB D) := m1.then hmg (fun i _ e => .inr e)
        exact m2.set _ _ (fun _ => .inl rfl)
      · have e : g = x := by simpa [Value.ownBlock] using hx
        rw [hnvo, ← e]; exact hat
    clear h hu hbx hS hu' hBW hi hz0 hz1 hz2 hnv d7 f8 c8
    go_enter Tryz.func77, Tryz.ntmps77
    go_wp2_with fail
    rw [show w.alloc (.cells #[.int .i64 (q.src : Int), .int .i64 (q.dst : Int), u] 134) = W from hW.out]
    have d7 : W.cell? ⟨D.p, 7, none⟩ = some (.slice a n cap) := by rw [← hW.out]; exact (World.cell?_of_block (w := w) (Below.heap_alloc _ _ _ hpl)).trans c7
    clear c7 hW
    go_region_law
      ((refine step_append_lies _ (by rfl) _ _ _ (by rfl) N 134 i0 _ 3 40 Tryz.underlying88 HI.out HZ0.out HZ1.out HZ2.out rfl (by omega) (.slice a n cap) n (pkL S.net D.us) (by rfl) ((HOWN.out.alloc _).drew)
          ⟨W.heap.size, 0, none⟩ 1 1 (pkC q u) (by rfl) (by rfl) (World.news_of_block (cs := #[.int .i64 (q.src : Int), .int .i64 (q.dst : Int), u]) (t := 134) (fr := (0, 0)) (heap_alloc_new W _)) HNEW.out
          (by omega) HK1.out HK2.out HK3.out (W.heap.size + 1) (by simp) ?_; intro g cap' w3 hown3 hgrow hat hlt3; have fz : w3.frozen? ⟨D.p, 7, none⟩ = false := (hgrow.frozen_far ⟨D.p, 7, none⟩ (by simp; omega) hpn).trans FRZ.out; have cz : w3.cell? ⟨D.p, 7, none⟩ = some (.slice a n cap) := (hgrow.cell_far ⟨D.p, 7, none⟩ (by simp; omega) hpn).trans CEL.out))
    all_goals
      go_wp2_with fail
      go_end0
      rw [HPUT.out]
      exact ⟨rfl, HEND.out _ w3 g cap' hown3 hgrow (hat.imp id (fun e => by omega))⟩
end Go.Proofs.YtaablbmgagiajabGreatDoor
namespace Go.Proofs.YtaablbmgagiajabGreatDoor
open Go.RowKit Go.Deep
def pkZ : List Value := [.int .i64 0, .int .i64 0, .slice none 0 0]
theorem run_clear_pk (w : World) (ty : TypeId) (b o c : Nat) (ht : w.there b o 3) :
    (Builtin.clear_ #[88] ty #[.slice (some ⟨b, o, none⟩) 1 c]).run Tryz.prog w = .ok (.tuple #[]) (w.setCells b o pkZ) := by
  have hst := run_storeCells_cells (P := Tryz.prog) b o pkZ 0 w (by intro j hj; rw [Nat.add_zero]; exact (ht j hj).1) (by intro j hj; rw [Nat.add_zero]; exact (ht j hj).2) (by intro v hv; simp [pkZ] at hv; rcases hv with rfl | rfl | rfl <;> rfl)
  simp only [Nat.add_zero] at hst
  have hzc : (Builtin.zeroCells (Value.agg #[.int .i64 0, .int .i64 0, .slice none 0 0]).cells 1).toList = pkZ := by kernel_rfl
  simp [Builtin.clear_, run_underlying Tryz.underlying88, hzc, hst]
section
variable {ops : Array Oper} {rest : List Oper} {op : Oper} {a : Act} {w : World} {Q : Exit → Act → World → Prop}
theorem wpList_clear_pk (hgd : op.guard = none) (x : Operand) (ho : op.op = Op.call { callee := Callee.builtin Builtin.clear, args := #[x], argTypes := #[88] }) (b o c : Nat) (hx : a.eval x = .slice (some ⟨b, o, none⟩) 1 c) (ht : w.there b o 3)
    (h : ∀ w', Hid (w.setCells b o pkZ = w') → wpList Tryz.prog ops Q rest (a.put op.dst (.tuple #[])) w') : wpList Tryz.prog ops Q (op :: rest) a w :=
  wpList_plain hgd fun _ hK => by
    have hrun := run_clear_pk w op.type b o c ht
    unfold Oper.wp
    simp [execOp, ho, resolve, invoke, builtin, hx, hrun, Result.andThen]
    exact hK _ _ (h _ rfl)
end
theorem blk_bis {w : World} {g t n : Nat} {cur : Array Value} (h : w.heap[g]? = some (.cells cur t (0, 0))) (hs : cur.size = n) : BIs w g t n (fun k => cur[k]?.getD undef) := by
  refine ⟨cur, h, hs, fun k hk => ?_⟩
  have : k < cur.size := by omega
  simp [this]
theorem row_del {w w2 : World} {N g cap : Nat} {l : List Pk} {us : List Value} {i : Nat} (h : NetIs w N (.slice (some ⟨g, 0, none⟩) l.length cap) l us) (hi : i < l.length)
    (hw : w2 = (w.setCells g (i * 3) ((pkL l us).drop ((i + 1) * 3))).setCells g ((l.length - 1) * 3) pkZ) : w2.ownsRow N 134 3 (.slice (some ⟨g, 0, none⟩) (l.length - 1) cap) (l.length - 1) (pkL (l.eraseIdx i) (us.eraseIdx i)) ∧ Mod w w2 (· = g) := by
  have hlp := pkL_length l us
  have hle : (l.eraseIdx i).length = l.length - 1 := List.length_eraseIdx_of_lt hi
  rcases h.row.2 with ⟨e, _⟩ | ⟨g', cap', cur, e, h1, h2, h3, h4, h5, h6⟩
  · simp at e
  · simp only [Value.slice.injEq, Option.some.injEq, Addr.mk.injEq, and_true] at e
    obtain ⟨rfl, _, rfl⟩ := e
    have hB : BIs w g 134 (cap * 3) (fun k => cur[k]?.getD undef) := blk_bis h2 h5
    have hB2 := BIs.sets ((pkL l us).drop ((i + 1) * 3)) (i * 3) w _ hB (by rw [List.length_drop, hlp]; omega)
    have hB3 := BIs.sets pkZ ((l.length - 1) * 3) _ _ hB2 (by show (l.length - 1) * 3 + 3 ≤ cap * 3; omega)
    rw [← hw] at hB3
    obtain ⟨cs, b1, b2, b3⟩ := hB3
    refine ⟨⟨by rw [pkL_length, hle], .inr ⟨g, cap, cs, rfl, h1, b1, by omega, h4, b2, ?_⟩⟩, ?_⟩
    · rw [pkL_erase l us i h.len hi]
      apply List.ext_getElem?
      intro j
      rw [List.getElem?_take]
      by_cases hj : j < (l.length - 1) * 3
      · rw [if_pos hj, Array.getElem?_toList, b3 j (by omega)]
        show some (if (l.length - 1) * 3 ≤ j then _ else if i * 3 ≤ j then _ else _) = _
        rw [if_neg (by omega)]
        have hcur : ∀ x, x < l.length * 3 → cur[x]? = (pkL l us)[x]? := fun x hx => by rw [← h6, List.getElem?_take, if_pos hx, Array.getElem?_toList]
        by_cases hji : i * 3 ≤ j
        · rw [if_pos hji, List.getElem?_append_right (by rw [List.length_take, hlp]; omega), List.length_take, hlp, show min (i * 3) (l.length * 3) = i * 3 by omega, List.getElem?_drop, List.getElem?_eq_getElem (by rw [hlp]; omega)]
          rfl
        · rw [if_neg hji, List.getElem?_append_left (by rw [List.length_take, hlp]; omega), List.getElem?_take, if_pos (by omega)]
          show some (cur[j]?.getD undef) = _
          rw [hcur j (by omega), List.getElem?_eq_getElem (by rw [hlp]; omega)]
          rfl
      · rw [if_neg hj, List.getElem?_eq_none]
        rw [List.length_append, List.length_take, List.length_drop, hlp]
        omega
    · rw [hw]
      exact ((Mod.refl w (· = g)).sets g _ _ rfl).sets g _ _ rfl
theorem NetIs.del {w w2 : World} {N g cap : Nat} {l : List Pk} {us : List Value} {i : Nat} (h : NetIs w N (.slice (some ⟨g, 0, none⟩) l.length cap) l us) (hi : i < l.length)
    (hw : w2 = (w.setCells g (i * 3) ((pkL l us).drop ((i + 1) * 3))).setCells g ((l.length - 1) * 3) pkZ) : NetIs w2 N (.slice (some ⟨g, 0, none⟩) (l.length - 1) cap) (l.eraseIdx i) (us.eraseIdx i) ∧ Mod w w2 (· = g) := by
  obtain ⟨h1, h2⟩ := row_del h hi hw
  have hle : (l.eraseIdx i).length = l.length - 1 := List.length_eraseIdx_of_lt hi
  have hlu : (us.eraseIdx i).length = us.length - 1 := List.length_eraseIdx_of_lt (by rw [h.len]; exact hi)
  refine ⟨⟨by rw [hle]; exact h1, by rw [hle, hlu, h.len], fun j hj => ?_⟩, h2⟩
  rw [hle] at hj
  have key : ∃ m, m < l.length ∧ (us.eraseIdx i)[j]? = us[m]? ∧ (l.eraseIdx i)[j]? = l[m]? := by
    by_cases e : j < i
    · exact ⟨j, by omega, List.getElem?_eraseIdx_of_lt e, List.getElem?_eraseIdx_of_lt e⟩
    · exact ⟨j + 1, by omega, List.getElem?_eraseIdx_of_ge (by omega), List.getElem?_eraseIdx_of_ge (by omega)⟩
  obtain ⟨m, m1, m2, m3⟩ := key
  rw [m2, show pkAt (l.eraseIdx i) j = pkAt l m by unfold pkAt; rw [m3]]
  refine (h.byt m m1).mod h2 fun k hk hb => ?_
  subst hk
  obtain ⟨cur, hc⟩ := h.own rfl
  exact TyAt.ne ⟨_, _, hc⟩ hb (by decide) rfl
set_option maxHeartbeats 2000000 in
set_option maxRecDepth 20000 in
theorem delete_any (N g cap : Nat) (l : List Pk) (us : List Value) (i : Nat) (w : World) (h : NetIs w N (.slice (some ⟨g, 0, none⟩) l.length cap) l us) (hi : i < l.length) (hle : l.length ≤ 120) :
    Calls Tryz.prog 128 #[.slice (some ⟨g, 0, none⟩) l.length cap, .int .i64 (i : Int), .int .i64 ((i : Int) + 1)] w fun e w' =>
      e = .returned (.slice (some ⟨g, 0, none⟩) (l.length - 1) cap) ∧ NetIs w' N (.slice (some ⟨g, 0, none⟩) (l.length - 1) cap) (l.eraseIdx i) (us.eraseIdx i) ∧ Mod w w' (· = g) := by
  have hlp := pkL_length l us
  obtain ⟨hcp, hcm, hblk, hrow⟩ : l.length ≤ cap ∧ cap ≤ maxLen ∧ (∃ cur, w.heap[g]? = some (.cells cur 134 (0, 0)) ∧ cur.size = cap * 3) ∧ ∀ j u, (pkL l us)[j]? = some u → w.cell? ⟨g, j, none⟩ = some u := by
    rcases h.row.2 with ⟨e, _⟩ | ⟨g', cap', cur, e, h1, h2, h3, h4, h5, h6⟩
    · simp at e
    · simp only [Value.slice.injEq, Option.some.injEq, Addr.mk.injEq, and_true] at e
      obtain ⟨rfl, _, rfl⟩ := e
      refine ⟨h3, h4, ⟨cur, h2, h5⟩, fun j u hu => ?_⟩
      have hj : j < l.length * 3 := by have := (List.getElem?_eq_some_iff.1 hu).1; rwa [hlp] at this
      rw [blk_cell h2, ← Array.getElem?_toList, ← hu, ← h6, List.getElem?_take, if_pos hj]
  obtain ⟨cur, hcur, hsz⟩ := hblk
  obtain ⟨i0, hi0, hz0, hz1, hz2⟩ := info_parts infoPacket
  obtain ⟨news, hnews⟩ : ∃ news, Hid ((pkL l us).drop ((i + 1) * 3) = news) := ⟨_, hide rfl⟩
  obtain ⟨A, hA, hnw⟩ : ∃ A : Addr, (if cap = i + 1 then some (⟨g, 0, none⟩ : Addr) else some ⟨g, (i + 1) * 3, none⟩) = some A ∧ Hid (∀ j u, news[j]? = some u → w.drew.cell? (A.add j) = some u) := by
    rw [← hnews.out]
    by_cases e : cap = i + 1
    · refine ⟨⟨g, 0, none⟩, by simp [e], fun j u hu => ?_⟩
      have h0 : ((pkL l us).drop ((i + 1) * 3)).length = 0 := by rw [List.length_drop, hlp]; omega
      rw [List.length_eq_zero_iff.1 h0] at hu
      simp at hu
    · refine ⟨⟨g, (i + 1) * 3, none⟩, by simp [e], fun j u hu => ?_⟩
      rw [List.getElem?_drop] at hu
      rw [Addr.add_lit]
      exact hrow _ u hu
  have s1 : Hid (news.length = (l.length - (i + 1)) * 3) := by rw [Hid, ← hnews.out, List.length_drop, hlp]; omega
  have s2 : Hid (∀ u ∈ news, u.oneCell' = true) := by rw [Hid, ← hnews.out]; exact fun u hu => pk_one h.len h.byt u (List.mem_of_mem_drop hu)
  have s3 : Hid (∀ j, j < news.length → (w.drew.cell? ⟨g, 0 + i * 3 + j, none⟩).isSome = true ∧ w.drew.frozen? ⟨g, 0 + i * 3 + j, none⟩ = false) := by
    rw [Hid]
    intro j hj
    rw [s1.out] at hj
    refine ⟨?_, blk_free (w := w) hcur _⟩
    show (w.cell? _).isSome = true
    rw [blk_cell hcur, Array.getElem?_eq_getElem (by omega)]; rfl
  have HDEL : Hid (∀ w2, w2 = (w.drew.setCells g (i * 3) news).setCells g ((l.length - 1) * 3) pkZ → NetIs w2 N (.slice (some ⟨g, 0, none⟩) (l.length - 1) cap) (l.eraseIdx i) (us.eraseIdx i) ∧ Mod w w2 (· = g)) := hide fun w2 e => by
    have hd : NetIs w.drew N (.slice (some ⟨g, 0, none⟩) l.length cap) l us := h.mod (T := fun _ => False) ⟨rfl, rfl, rfl, Nat.le_refl _, fun _ _ _ => rfl⟩ (fun _ _ x => x) (fun _ x => x.elim)
    obtain ⟨a1, a2⟩ := hd.del hi (w2 := w2) (by rw [e, hnews.out])
    exact ⟨a1, ⟨a2.os, a2.tape, a2.output, a2.size, a2.block⟩⟩
  have HTH : Hid ((w.drew.setCells g (i * 3) news).there g ((l.length - 1) * 3) 3) := by
    rw [Hid]
    have hB : BIs w.drew g 134 (cap * 3) (fun k => cur[k]?.getD undef) := blk_bis (w := w.drew) hcur hsz
    exact (BIs.sets news (i * 3) w.drew _ hB (by rw [s1.out]; omega)).there (by omega)
  have hwr : IntKind.i64.wrap ((i : Int) + 1) = (i : Int) + 1 := by rw [IntKind.wrap_i64]; omega
  have hp0 : (0 : Int) ≤ (i : Int) + 1 := by omega
  have hp1 : (i : Int) + 1 ≤ (l.length : Int) := by omega
  have hp2 : ((i : Int) + 1).toNat = i + 1 := by omega
  have hp3 : (i : Int) ≤ (i : Int) + 1 := by omega
  have hp4 : (l.length : Int) ≤ (cap : Int) := by omega
  have hic : i ≤ cap := by omega
  have hm : cap ≤ 9223372036854775807 := by unfold maxLen at hcm; omega
  have hne : ((i : Int) == (i : Int) + 1) = false := by simp; omega
  clear h hrow hcur hsz hnews
  go_enter Tryz.func128, Tryz.ntmps128
  go_wp2_with fail
  go_region_law (refine step_append_room rfl (.tmp 22) (.tmp 25) 88 rfl 134 i0 3 Tryz.underlying88 hi0 hz1 g 0 i cap (by simp [Act.eval, Act.put]) A (l.length - (i + 1)) (cap - (i + 1)) news (by simp [Act.eval, Act.put]) s1.out hnw.out s2.out (by omega) s3.out ?_)
  rw [show i + (l.length - (i + 1)) = l.length - 1 by omega]
  generalize HWx : w.drew.setCells g (i * 3) news = W1
  rw [HWx] at HTH HDEL
  clear HWx s1 s2 s3 hnw hA hwr hp0 hp1 hp2 hp3 hne
  obtain ⟨m, hm1⟩ : ∃ m, l.length = m + 1 := ⟨l.length - 1, by omega⟩
  have HML : Hid (l.length - 1 = m) := by rw [Hid]; omega
  rw [hm1] at HTH HDEL hcp hp4 hle hi ⊢
  rw [show m + 1 - 1 = m by omega] at HTH HDEL ⊢
  clear hm1 hlp
  have hq1 : ¬ cap = m := by omega
  have hq2 : m ≤ m + 1 := by omega
  have hq3 : (m : Int) ≤ (m : Int) + 1 := by omega
  have hq4 : m + 1 - m = 1 := by omega
  go_wp2_with (refine wpList_clear_pk rfl _ rfl g (m * 3) _ rfl HTH.out ?_)
  intro W2 HW2
  go_wp2
  go_ret
  rw [HML.out]
  exact ⟨rfl, HDEL.out _ HW2.out.symm⟩
section
variable {w : World} {N win : Nat} {D : SC} {L : RC} {S : SY}
theorem SyIs.netHas (h : SyIs w N D L win S) (h0 : 0 < S.net.length) : ∃ g cap, D.nv = .slice (some ⟨g, 0, none⟩) S.net.length cap := by
  rcases h.net.row.2 with ⟨_, e⟩ | ⟨g, cap, cur, e, _⟩
  · omega
  · exact ⟨g, cap, e⟩
end
set_option maxHeartbeats 1000000 in
set_option maxRecDepth 20000 in
theorem remove_any (N : Nat) (D : SC) (L : RC) (win : Nat) (S : SY) (w : World) (i : Nat) (h : SyIs w N D L win S) (hi : i < S.net.length) (hle : S.net.length ≤ 120) :
    Calls Tryz.prog 76 #[.pointer (some ⟨D.p, 0, none⟩), .int .i64 (i : Int)] w fun e w' => e = .returned (.tuple #[]) ∧ SyGo w w' N D L win (outSy i S) := by
  obtain ⟨g, cap, hnv⟩ := h.netHas (by omega)
  have hdel := delete_any N g cap S.net D.us i w (by have := h.net; rw [hnv] at this; exact this) hi hle
  have c7 : w.cell? ⟨D.p, 7, none⟩ = some (.slice (some ⟨g, 0, none⟩) S.net.length cap) := (h.at 7).trans (by show some D.nv = _; rw [hnv])
  have hgp : g ≠ D.p := h.ne7 g (by rw [hnv]; rfl)
  have hwr : IntKind.i64.wrap ((i : Int) + 1) = (i : Int) + 1 := by rw [IntKind.wrap_i64]; omega
  have hcall : Calls Tryz.prog 128 #[.slice (some ⟨g, 0, none⟩) S.net.length cap, .int .i64 (i : Int), .int .i64 ((i : Int) + 1)] w fun e w1 =>
      e = .returned (.slice (some ⟨g, 0, none⟩) (S.net.length - 1) cap) ∧ (w1.cell? ⟨D.p, 7, none⟩ = some (.slice (some ⟨g, 0, none⟩) S.net.length cap) ∧ w1.frozen? ⟨D.p, 7, none⟩ = false) ∧ Hid (SyGo w (w1.setCell ⟨D.p, 7, none⟩ (.slice (some ⟨g, 0, none⟩) (S.net.length - 1) cap)) N D L win (outSy i S)) := by
    refine hdel.mono ?_
    rintro e w1 ⟨rfl, hN1, hm1⟩
    have hb1 : w1.heap[D.p]? = some (.cells (syCells D L) 90 (0, 0)) := (hm1.block _ h.lt (fun e => hgp e.symm)).trans h.blk
    refine ⟨rfl, ⟨(World.cell?_of_block (w := w) (hm1.block _ h.lt (fun e => hgp e.symm))).trans c7, blk_free hb1 7⟩, hide ?_⟩
    have hg1 : ∃ cur, w1.heap[g]? = some (.cells cur 134 (0, 0)) := hN1.own rfl
    have hm4 : Mod w1 (w1.setCell ⟨D.p, 7, none⟩ (.slice (some ⟨g, 0, none⟩) (S.net.length - 1) cap)) (· = D.p) := (Mod.refl _ _).set _ _ (fun _ => rfl)
    have hN4 : NetIs (w1.setCell ⟨D.p, 7, none⟩ (.slice (some ⟨g, 0, none⟩) (S.net.length - 1) cap)) N (.slice (some ⟨g, 0, none⟩) (S.net.length - 1) cap) (S.net.eraseIdx i) (D.us.eraseIdx i) := by
      refine hN1.mod hm4 (fun x hx e => ?_) (fun k hk hb => ?_)
      · have : g = x := by simpa [Value.ownBlock] using hx
        exact hgp (this.trans e)
      · subst hk
        exact TyAt.ne ⟨_, _, hb1⟩ hb (by decide) rfl
    refine h.putN (nv' := .slice (some ⟨g, 0, none⟩) (S.net.length - 1) cap) (us' := D.us.eraseIdx i) (lost' := D.lost) ?_ ((blk_set hb1 7 _).trans rfl) hN4 (fun x hx => ?_)
    · have m2 : Mod w w1 (NB D) := hm1.mono fun k _ e => .inr (by rw [hnv, e]; rfl)
      exact m2.set _ _ (fun _ => .inl rfl)
    · left; rw [hnv]; exact hx
  have HC := hide hcall
  have hpl := h.lt
  clear hcall hdel h
  go_enter Tryz.func76, Tryz.ntmps76
  go_wp2_with (go_at_call 128; refine HC.out.mono ?_; rintro e w1 ⟨rfl, ⟨z0, z1⟩, HM⟩)
  go_end0
  exact ⟨rfl, HM.out⟩
end Go.Proofs.YtaablbmgagiajabGreatDoor
namespace Go.Proofs.YtaablbmgagiajabGreatDoor
open Go.RowKit Go.Deep
theorem isNot_any (x : Int) (w : World) :
    Calls Tryz.prog 124 #[.int .i64 x] w fun e w' => e = .returned (.func (Fn.func 172) #[] #[.pointer (some ⟨w.heap.size, 0, none⟩)]) ∧ w' = w.alloc (.cells #[.int .i64 x] 3) := by
  go_enter Tryz.func124, Tryz.ntmps124
  go_wp2
  go_ret
  exact ⟨rfl, rfl⟩
theorem isNot1_any (x y : Int) (b : Nat) (w : World) (hc : w.cell? ⟨b, 0, none⟩ = some (.int .i64 y)) :
    Calls Tryz.prog 172 #[.int .i64 x, .pointer (some ⟨b, 0, none⟩)] w fun e w' => e = .returned (.bool (x != y)) ∧ w' = w := by
  go_enter Tryz.func172, Tryz.ntmps172
  go_wp2
  go_ret
  exact ⟨rfl, rfl⟩
theorem sysRep_any (x : Int) (w : World) :
    Calls Tryz.prog 49 #[.int .i64 x] w fun e w' => e = .returned (.bool (isRep x)) ∧ w' = w := by
  by_cases h0 : 0 ≤ x
  · by_cases h3 : x < 3
    · have e : isRep x = true := by unfold isRep; simp [h0, h3]
      rw [e]
      go_enter Tryz.func49, Tryz.ntmps49
      go_wp2
      go_ret
      exact ⟨rfl, rfl⟩
    · have e : isRep x = false := by unfold isRep; simp [h0, h3]
      rw [e]
      go_enter Tryz.func49, Tryz.ntmps49
      go_wp2
      go_ret
      exact ⟨rfl, rfl⟩
  · have e : isRep x = false := by unfold isRep; simp [h0]
    rw [e]
    go_enter Tryz.func49, Tryz.ntmps49
    go_wp2
    go_ret
    exact ⟨rfl, rfl⟩
theorem enc_any (F : FR) (w : World) :
    Calls Tryz.prog 39 #[.agg (fCells F)] w fun e w' => (∃ v ev, e = .returned (.tuple #[v, ev]) ∧ BytesIs w' v (bytesF F) ∧ (mayB F = true → ev = .nilIface) ∧ (mayB F = false → ev = .iface 74 (.int .i64 1))) ∧ Below w.heap.size w w' := by
  cases hm : mayB F
  · refine (encode_bad F w hm).mono ?_
    rintro e w1 ⟨rfl, hB⟩
    refine ⟨⟨_, _, rfl, ?_, fun h => by simp at h, fun _ => rfl⟩, hB⟩
    unfold bytesF
    rw [hm, if_neg (by decide)]
    exact bytes_nil _ _ _
  · refine (encode_ok F w hm).mono ?_
    rintro e w1 ⟨⟨v, rfl, hv⟩, hB⟩
    refine ⟨⟨_, _, rfl, ?_, fun _ => rfl, fun h => by simp at h⟩, hB⟩
    unfold bytesF
    rw [hm, if_pos rfl]
    exact bytes_own (withSum_lt (bytesN_lt _)) hv
end Go.Proofs.YtaablbmgagiajabGreatDoor
namespace Go.Proofs.YtaablbmgagiajabGreatDoor
open Go.RowKit Go.Deep
set_option maxHeartbeats 1000000 in
set_option maxRecDepth 20000 in
theorem send_any (N : Nat) (D : SC) (L : RC) (win : Nat) (S : SY) (w : World) (F : FR) (src dst : Nat) (h : SyIs w N D L win S) (hF : F 1 = (src : Int)) (hN : N ≤ w.heap.size) (hle : S.net.length ≤ 120) :
    Calls Tryz.prog 88 #[.pointer (some ⟨D.p, 0, none⟩), .agg (fCells F), .int .i64 (dst : Int)] w fun e w' => e = .returned (.tuple #[]) ∧ SyGo w w' N D L win ⟨S.rp, S.v, sendN src F dst S.net⟩ := by
  have hB0 : Below w.heap.size w (w.alloc (.cells (fCells F) 36)) := (Below.refl _ _).alloc (Nat.le_refl _) _
  have hbx : FIs (w.alloc (.cells (fCells F) 36)) w.heap.size 36 F := blk_new _ _
  have hcall : Calls Tryz.prog 39 #[.agg (fCells F)] (w.alloc (.cells (fCells F) 36)) fun e w1 =>
      ∃ va vn vc ev, e = .returned (.tuple #[.slice va vn vc, ev]) ∧ w1.cell? ⟨w.heap.size, 1, none⟩ = some (.int .i64 (src : Int)) ∧
        Hid (Calls Tryz.prog 77 #[.pointer (some ⟨D.p, 0, none⟩), .agg #[.int .i64 (src : Int), .int .i64 (dst : Int), .slice va vn vc]] w1 fun e w' => e = .returned (.tuple #[]) ∧ SyGo w w' N D L win ⟨S.rp, S.v, sendN src F dst S.net⟩) := by
    refine (enc_any F _).mono ?_
    rintro e w1 ⟨⟨v, ev, rfl, hv, _⟩, hB1⟩
    have hbx1 := hbx.below (by simp) hB1
    have hBw : Below w.heap.size w w1 := hB0.trans (hB1.mono (by simp))
    obtain ⟨va, vc, hve⟩ : ∃ va vc, v = .slice va (bytesF F).length vc := by obtain ⟨_, a, c, e, _⟩ := hv; exact ⟨a, c, e⟩
    subst hve
    refine ⟨va, _, vc, ev, rfl, by rw [hbx1.at (by omega), hF], hide ?_⟩
    refine (syput_any N D L win S w1 ⟨src, dst, bytesF F⟩ _ (h.below hBw) hv (Nat.le_trans hN hBw.size) hle).mono ?_
    rintro e w2 ⟨rfl, hg⟩
    exact ⟨rfl, hg.pre hBw⟩
  have HC := hide hcall
  have HBX := hide hbx
  clear hcall hbx hB0 h hF
  go_enter Tryz.func88, Tryz.ntmps88
  go_wp2_with (refine wpList_load_f rfl _ rfl w.heap.size rfl F HBX.out ?_)
  refine HC.out.mono ?_
  rintro e w1 ⟨va, vn, vc, ev, rfl, z1, HP⟩
  clear HC HBX
  go_wp2_with fail
  refine HP.out.mono ?_
  rintro e w2 ⟨rfl, hg⟩
  go_wp2
  go_end0
  exact ⟨rfl, hg⟩
end Go.Proofs.YtaablbmgagiajabGreatDoor
namespace Go.Proofs.YtaablbmgagiajabGreatDoor
open Go.RowKit Go.Deep
theorem putP_len {p : Pk} {l : List Pk} (h : l.length ≤ 120) : (putP p l).length ≤ 120 := by
  unfold putP
  split
  · exact h
  · rw [List.length_append]; simp; omega
theorem othersN_len {src : Nat} {F : FR} {l : List Pk} (h : l.length ≤ 120) : ∀ k, (othersN src F l k).length ≤ 120
  | 0 => h
  | k + 1 => by
    unfold othersN
    split
    · exact othersN_len h k
    · exact putP_len (othersN_len h k)
theorem sendsN_len {src dst : Nat} : ∀ (Fs : List FR) (l : List Pk), l.length ≤ 120 → (sendsN src dst Fs l).length ≤ 120
  | [], _, h => h
  | _ :: r, _, h => sendsN_len r _ (putP_len h)
theorem allsN_len {src : Nat} : ∀ (Fs : List FR) (l : List Pk), l.length ≤ 120 → (allsN src Fs l).length ≤ 120
  | [], _, h => h
  | _ :: r, _, h => allsN_len r _ (othersN_len h 3)
section
variable {w w' : World} {N win : Nat} {D : SC} {L : RC} {S : SY}
theorem SyIs.notWr (h : SyIs w N D L win S) {k t : Nat} (hk : TyAt w k t) (ht : 90 ≠ t ∧ 134 ≠ t ∧ 160 ≠ t ∧ 148 ≠ t ∧ 49 ≠ t) : ¬ Wr D k := by
  obtain ⟨t1, t2, t3, t4, t5⟩ := ht
  rintro (e | e | ⟨j, hj, e⟩ | e | e)
  · exact h.tyP.ne hk t1 e.symm
  · exact (h.tyN e).ne hk t2 rfl
  · exact (h.tyR hj).ne hk t3 e.symm
  · exact h.tyV.ne hk t4 e.symm
  · exact (h.tyT e).ne hk t5 rfl
theorem SyGo.stays (h : SyGo w w' N D L win S) {S0 : SY} (h0 : SyIs w N D L win S0) {k t : Nat} {cs : Array Value} {f : Nat × Nat} (hk : w.heap[k]? = some (.cells cs t f)) (ht : 90 ≠ t ∧ 134 ≠ t ∧ 160 ≠ t ∧ 148 ≠ t ∧ 49 ≠ t) : w'.heap[k]? = some (.cells cs t f) := by
  obtain ⟨D', _, _, hm, _⟩ := h
  exact (hm.block k (blk_lt hk) (h0.notWr ⟨_, _, hk⟩ ht)).trans hk
end
set_option maxHeartbeats 2000000 in
set_option maxRecDepth 20000 in
theorem sendOthers_any (N : Nat) (D : SC) (L : RC) (win : Nat) (S : SY) (w : World) (F : FR) (src : Nat) (h : SyIs w N D L win S) (hF : F 1 = (src : Int)) (hN : N ≤ w.heap.size) (hle : S.net.length ≤ 120) :
    Calls Tryz.prog 72 #[.pointer (some ⟨D.p, 0, none⟩), .agg (fCells F)] w fun e w' => e = .returned (.tuple #[]) ∧ SyGo w w' N D L win ⟨S.rp, S.v, othersN src F S.net 3⟩ := by
  obtain ⟨W0, hW0⟩ : ∃ W, Hid (w.alloc (.cells (fCells F) 36) = W) := ⟨_, hide rfl⟩
  have hB0 : Below w.heap.size w W0 := by rw [← hW0.out]; exact (Below.refl _ _).alloc (Nat.le_refl _) _
  have hbx : FIs W0 w.heap.size 36 F := by rw [← hW0.out]; exact blk_new _ _
  have hs0 : W0.heap.size = w.heap.size + 1 := by rw [← hW0.out]; simp
  have z1 : (w.alloc (.cells (fCells F) 36)).cell? ⟨w.heap.size, 1, none⟩ = some (.int .i64 (src : Int)) := by rw [hW0.out, hbx.at (by omega), hF]
  have hrep := isNot_any (src : Int) W0
  have HI := hide hrep
  have HZ := hide z1
  have H := hide h
  have HB0 := hide hB0
  have HBX := hide hbx
  clear h hB0 hbx hrep
  go_enter Tryz.func72, Tryz.ntmps72
  go_wp2_with fail
  rw [show w.alloc (.cells (fCells F) 36) = W0 from hW0.out]
  refine HI.out.mono ?_
  rintro e W1 ⟨rfl, hW1⟩
  rw [hs0]
  have hB1 : Below W0.heap.size W0 W1 := by rw [hW1]; exact (Below.refl _ _).alloc (Nat.le_refl _) _
  have hcap : W1.heap[w.heap.size + 1]? = some (.cells #[.int .i64 (src : Int)] 3 (0, 0)) := by rw [hW1, ← hs0]; exact blk_new _ _
  have hBw : Below w.heap.size w W1 := HB0.out.trans (hB1.mono (by omega))
  have HST : Hid (SyGo w W1 N D L win ⟨S.rp, S.v, othersN src F S.net 0⟩ ∧ FIs W1 w.heap.size 36 F ∧ W1.heap[w.heap.size + 1]? = some (.cells #[.int .i64 (src : Int)] 3 (0, 0))) :=
    hide ⟨H.out.goes.below hBw, HBX.out.below (by omega) hB1, hcap⟩
  clear hW1 hB1 hcap hBw HI HZ z1 HBX HB0 hW0
  go_wp2_with fail
  go_loopw [9] (fun j wr => ∃ k : Nat, k ≤ 3 ∧ j = .int .i64 k ∧ SyGo w wr N D L win ⟨S.rp, S.v, othersN src F S.net k⟩ ∧ FIs wr w.heap.size 36 F ∧ wr.heap[w.heap.size + 1]? = some (.cells #[.int .i64 (src : Int)] 3 (0, 0))) (fun j _ => 3 - (intOf j).toNat)
  case atStart => exact ⟨0, by omega, rfl, HST.out⟩
  case round =>
    obtain ⟨k, hk, rfl, hgo, hfr, hcp⟩ := hrel
    clear HST
    by_cases hk3 : k < 3
    · have hk' : (k : Int) < 3 := by omega
      have hcl := isNot1_any (k : Int) (src : Int) (w.heap.size + 1) wr ((blk_cell hcp 0).trans rfl)
      have HCL := hide hcl
      obtain ⟨D1, hp1, hS1, hm1, hg1⟩ := hgo
      have hsz := hm1.size
      by_cases hks : k = src
      · have e1 : ((k : Int) != (src : Int)) = false := by simp; omega
        rw [e1] at HCL
        have HR : Hid (SyGo w wr N D L win ⟨S.rp, S.v, othersN src F S.net (k + 1)⟩ ∧ FIs wr w.heap.size 36 F ∧ wr.heap[w.heap.size + 1]? = some (.cells #[.int .i64 (src : Int)] 3 (0, 0))) := hide ⟨⟨D1, hp1, by show SyIs wr N D1 L win ⟨S.rp, S.v, if k = src then othersN src F S.net k else _⟩; rw [if_pos hks]; exact hS1, hm1, hg1⟩, hfr, hcp⟩
        clear hS1 hm1 hg1 hfr hcp hcl hks e1
        go_wp2_with fail
        refine HCL.out.mono ?_
        rintro e wz ⟨rfl, rfl⟩
        go_wp2
        go_roundw
        case rel => exact ⟨k + 1, by omega, by go_num, HR.out⟩
        case measure => simp [intOf]; omega
      · have e1 : ((k : Int) != (src : Int)) = true := by simp; omega
        rw [e1] at HCL
        have hsnd := send_any N D1 L win ⟨S.rp, S.v, othersN src F S.net k⟩ wr F src k hS1 hF (Nat.le_trans hN hsz) (othersN_len hle k)
        rw [hp1] at hsnd
        have HSN : Hid (Calls Tryz.prog 88 #[.pointer (some ⟨D.p, 0, none⟩), .agg (fCells F), .int .i64 (k : Int)] wr fun e w' => e = .returned (.tuple #[]) ∧ Hid (SyGo w w' N D L win ⟨S.rp, S.v, othersN src F S.net (k + 1)⟩ ∧ FIs w' w.heap.size 36 F ∧ w'.heap[w.heap.size + 1]? = some (.cells #[.int .i64 (src : Int)] 3 (0, 0)))) := hide (by
          refine hsnd.mono ?_
          rintro e w2 ⟨rfl, hg2⟩
          refine ⟨rfl, hide ⟨?_, hg2.stays hS1 hfr (by decide), hg2.stays hS1 hcp (by decide)⟩⟩
          have e2 : othersN src F S.net (k + 1) = sendN src F k (othersN src F S.net k) := if_neg hks
          rw [e2]
          exact SyGo.then hp1 hm1 hg1 hg2)
        have HFR := hide hfr
        clear hS1 hm1 hg1 hfr hcp hcl hks e1 hsnd
        go_wp2_with fail
        refine HCL.out.mono ?_
        rintro e wz ⟨rfl, rfl⟩
        go_wp2_with (refine wpList_load_f rfl _ rfl w.heap.size rfl F HFR.out ?_)
        refine HSN.out.mono ?_
        rintro e w2 ⟨rfl, HR⟩
        go_wp2
        go_roundw
        case rel => exact ⟨k + 1, by omega, by go_num, HR.out⟩
        case measure => simp [intOf]; omega
    · have e3 : k = 3 := by omega
      subst e3
      have HG := hide hgo
      clear hgo hfr hcp
      go_wp2
      go_end0
      exact ⟨rfl, HG.out⟩
end Go.Proofs.YtaablbmgagiajabGreatDoor
