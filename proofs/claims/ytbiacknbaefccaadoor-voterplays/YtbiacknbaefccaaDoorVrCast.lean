/- The contract of the reference's Take: a vote, and what is committed. -/
import Derived.Test.YtbiacknbaefccaaDoorVrPast
import Derived.Deep.RegionLaw
import Derived.Deep.CutRange
namespace Go.Proofs.YtbiacknbaefccaaDoor
open Go.RowKit Go.Deep Go.Maps

theorem RIs.cast {w w' : World} {N q win mv mo : Nat} {tv : Value} {S : VS} {r : Nat} {d : Cm} (h : RIs w N q win tv mv mo S) (hg : w.grownBy w' (some mv)) (hv : Votes w' mv (upd S.b r true) (upd S.x r d)) : RIs w' N q win tv mv mo (castS S r d) := by
  have hb : ∀ k, k < w.heap.size → k ≠ mv → w'.heap[k]? = w.heap[k]? := fun k hk hne => hg.block k hk (by simpa using hne)
  exact ⟨(hb q h.lt (fun e => h.q_ne.1 e.symm)).trans h.blk, h.row.same fun g hg' => hb g (h.own_ne hg').2.2.2.1 (h.own_ne hg').2.1, hv, h.outs.same (hb mo h.outs.lt (fun e => h.ne e.symm)), h.ne, h.nq, h.nv, h.no⟩

/-- How many votes that were gone through are the same. -/
def clN (b : Nat → Bool) (x : Nat → Cm) (d : Cm) (lf : Nat → Bool) : Nat := cnt3 (fun k => likeB b x d k && !lf k)
theorem cl_start (b : Nat → Bool) (x : Nat → Cm) (d : Cm) : clN b x d b = 0 := by
  have h : ∀ k, (likeB b x d k && !b k) = false := fun k => by unfold likeB; cases b k <;> simp
  unfold clN cnt3
  dsimp only
  simp only [h 0, h 1, h 2]; rfl
theorem cnt3_step {p p' : Nat → Bool} {k : Nat} (hk : k < 3) (h : p k = false) (ho : ∀ j, j < 3 → j ≠ k → p' j = p j) : cnt3 p' = cnt3 p + (if p' k then 1 else 0) := by
  unfold cnt3
  match k, hk with
  | 0, _ => rw [h, ho 1 (by omega) (by omega), ho 2 (by omega) (by omega)]; cases p' 0 <;> cases p 1 <;> cases p 2 <;> rfl
  | 1, _ => rw [h, ho 0 (by omega) (by omega), ho 2 (by omega) (by omega)]; cases p' 1 <;> cases p 0 <;> cases p 2 <;> rfl
  | 2, _ => rw [h, ho 0 (by omega) (by omega), ho 1 (by omega) (by omega)]; cases p' 2 <;> cases p 0 <;> cases p 1 <;> rfl
theorem cl_step {b : Nat → Bool} {x : Nat → Cm} {d : Cm} {lf lf' : Nat → Bool} {k : Nat} (hk : k < 3) (h1 : lf k = true) (h2 : lf' k = false) (h3 : ∀ j, j < 3 → j ≠ k → lf' j = lf j) : clN b x d lf' = clN b x d lf + (if likeB b x d k then 1 else 0) := by
  have := cnt3_step (p := fun j => likeB b x d j && !lf j) (p' := fun j => likeB b x d j && !lf' j) hk (by simp [h1]) (fun j hj hne => by simp [h3 j hj hne])
  unfold clN
  rw [this]
  simp [h2]
theorem cl_end {b : Nat → Bool} {x : Nat → Cm} {d : Cm} {lf : Nat → Bool} (h : ∀ k, k < 3 → lf k = false) : clN b x d lf = cnt3 (likeB b x d) := by
  unfold clN cnt3
  dsimp only
  simp only [h 0 (by omega), h 1 (by omega), h 2 (by omega), Bool.not_false, Bool.and_true]
theorem cl_le (b : Nat → Bool) (x : Nat → Cm) (d : Cm) (lf : Nat → Bool) : clN b x d lf ≤ 3 := cnt3_le _
/-- Who is out, of those that were gone through. -/
def agU (out : Nat) (b : Nat → Bool) (x : Nat → Cm) (d : Cm) (lf : Nat → Bool) (U : Nat) : Prop := ∀ j, U.testBit j = (out.testBit j || (decide (j < 3) && (agB b x d j && !lf j)))
theorem ag_start (out : Nat) (b : Nat → Bool) (x : Nat → Cm) (d : Cm) : agU out b x d b out := fun j => by
  have : (agB b x d j && !b j) = false := by unfold agB; cases b j <;> simp
  rw [this]; simp
theorem ag_stay {out : Nat} {b : Nat → Bool} {x : Nat → Cm} {d : Cm} {lf lf' : Nat → Bool} {U k : Nat} (h : agU out b x d lf U) (hn : agB b x d k = false) (h3 : ∀ j, j < 3 → j ≠ k → lf' j = lf j) : agU out b x d lf' U := fun j => by
  rw [h j]
  by_cases hj : j < 3
  · by_cases e : j = k
    · subst e; rw [hn]; simp
    · rw [h3 j hj e]
  · rw [decide_eq_false hj]; simp
theorem ag_more {out : Nat} {b : Nat → Bool} {x : Nat → Cm} {d : Cm} {lf lf' : Nat → Bool} {U k : Nat} (h : agU out b x d lf U) (hk : k < 3) (hn : agB b x d k = true) (h2 : lf' k = false) (h3 : ∀ j, j < 3 → j ≠ k → lf' j = lf j) : agU out b x d lf' (U ||| 2 ^ k) := fun j => by
  rw [Nat.testBit_or, two_bit, h j]
  by_cases e : k = j
  · subst e
    rw [h2, hn, decide_eq_true hk]; simp
  · rw [decide_eq_false e, Bool.or_false]
    by_cases hj : j < 3
    · rw [h3 j hj (fun e' => e e'.symm)]
    · rw [decide_eq_false hj]; simp
theorem ag_end {S : VS} {d : Cm} {lf : Nat → Bool} {U : Nat} (h : agU S.out S.b S.x d lf U) (hl : ∀ k, k < 3 → lf k = false) : U = outN S d := by
  apply Nat.eq_of_testBit_eq
  intro j
  rw [h j, outN, Nat.testBit_or, agTo_bit]
  by_cases hj : j < 3
  · rw [hl j hj]; simp
  · rw [decide_eq_false hj]; simp

theorem RIs.outs' {w w' : World} {N q win mv mo U : Nat} {tv : Value} {S : VS} (h : RIs w N q win tv mv mo S) (hm : Mod w w' (fun k => k = mo)) (ho : OSet w' mo U) : RIs w' N q win tv mv mo ⟨S.tr, S.b, S.x, S.left, U, S.lat⟩ :=
  ⟨(hm.block q h.lt (fun e => h.q_ne.2 e.symm)).trans h.blk, h.row.same fun g hg => hm.block g (h.own_ne hg).2.2.2.1 (h.own_ne hg).2.2.1, h.votes.same (hm.block mv h.votes.lt h.ne), ho, h.ne, h.nq, h.nv, h.no⟩
theorem RIs.app {w2 w3 : World} {N q win mv mo n cap g cap' : Nat} {a : Option Addr} {S : VS} {d : Cm} {o : Obj} (h : RIs w2 N q win (.slice a n cap) mv mo S) (hn : S.tr.length = n) (hown : w3.ownsRow N 111 3 (.slice (some ⟨g, 0, none⟩) (n + 1) cap') (n + 1) (cmL S.tr ++ cmC d))
    (hg : (w2.alloc o).drew.grownBy w3 (Value.slice a n cap).ownBlock) : RIs (w3.setCell ⟨q, 2, none⟩ (.slice (some ⟨g, 0, none⟩) (n + 1) cap')) N q win (.slice (some ⟨g, 0, none⟩) (n + 1) cap') mv mo ⟨S.tr ++ [d], S.b, S.x, S.left, S.out, S.lat⟩ := by
  have hbl : ∀ k, k < w2.heap.size → some k ≠ (Value.slice a n cap).ownBlock → w3.heap[k]? = w2.heap[k]? := fun k hk hne => (hg.block k (by simp [World.drew]; omega) hne).trans (Below.heap_alloc _ _ _ hk)
  have hq : w3.heap[q]? = some (.cells (rCells (.slice a n cap) mv mo win S) 105 (0, 0)) := (hbl q h.lt (fun e => (h.own_ne e.symm).1 rfl)).trans h.blk
  have ht : TIs w3 N (.slice (some ⟨g, 0, none⟩) (n + 1) cap') (S.tr ++ [d]) := by
    unfold TIs
    rw [cmL_append, List.length_append, hn]
    exact hown
  have hv : Votes w3 mv S.b S.x := h.votes.same (hbl mv h.votes.lt (fun e => (h.own_ne e.symm).2.1 rfl))
  have ho : OSet w3 mo S.out := h.outs.same (hbl mo h.outs.lt (fun e => (h.own_ne e.symm).2.2.1 rfl))
  refine ⟨(blk_set hq 2 _).trans rfl, ht.same fun g' hg' => ?_, hv.same (Below.heap_setCell _ _ _ _ h.q_ne.1), ho.same (Below.heap_setCell _ _ _ _ h.q_ne.2), h.ne, h.nq, h.nv, h.no⟩
  obtain ⟨_, cur, hc⟩ := ht.own hg'
  exact Below.heap_setCell _ _ _ _ (type_ne hc hq (by decide))
theorem rapp_mod {w w2 w3 : World} {q mv mo n cap : Nat} {a : Option Addr} {o : Obj} {u : Value} (h : Mod w w2 (RB q (.slice a n cap) mv mo)) (hg : (w2.alloc o).drew.grownBy w3 (Value.slice a n cap).ownBlock) : Mod w (w3.setCell ⟨q, 2, none⟩ u) (RB q (.slice a n cap) mv mo) := by
  have h1 : Mod w (w2.alloc o).drew (RB q (.slice a n cap) mv mo) := h.below ⟨rfl, rfl, rfl, by simp [World.drew], fun k hk => Below.heap_alloc _ _ _ hk⟩
  exact (h1.grown hg (fun k _ e => .inr (.inl e))).set _ _ (fun _ => .inl rfl)

theorem RIs.fresh {w : World} {N q win mv mo : Nat} {tv : Value} {S : VS} (h : RIs w N q win tv mv mo S) :
    RIs (((w.setCell ⟨q, 3, none⟩ (.map (some w.heap.size))).setCell ⟨q, 1, none⟩ (.int .i64 (win : Int))).alloc (.map #[] 0)) N q win tv w.heap.size mo ⟨S.tr, fun _ => false, fun _ => cm0, win, S.out, S.lat⟩ := by
  have hsz : ((w.setCell ⟨q, 3, none⟩ (.map (some w.heap.size))).setCell ⟨q, 1, none⟩ (.int .i64 (win : Int))).heap.size = w.heap.size := by simp [World.setCell]
  have hb : ∀ k, k < w.heap.size → k ≠ q → (((w.setCell ⟨q, 3, none⟩ (.map (some w.heap.size))).setCell ⟨q, 1, none⟩ (.int .i64 (win : Int))).alloc (.map #[] 0)).heap[k]? = w.heap[k]? := fun k hk hne => by
    rw [Below.heap_alloc _ _ _ (by rw [hsz]; exact hk), Below.heap_setCell _ _ _ _ hne, Below.heap_setCell _ _ _ _ hne]
  have hq := h.lt
  have hml := h.outs.lt
  refine ⟨?_, h.row.same fun g hg => hb g (h.own_ne hg).2.2.2.1 (h.own_ne hg).1, ?_, h.outs.same (hb mo hml h.q_ne.2), by omega, h.nq, by have := h.nq; omega, h.no⟩
  · rw [Below.heap_alloc _ _ _ (by rw [hsz]; exact hq)]
    exact (blk_set (blk_set h.blk 3 _) 1 _).trans rfl
  · have := Votes.made ((w.setCell ⟨q, 3, none⟩ (.map (some w.heap.size))).setCell ⟨q, 1, none⟩ (.int .i64 (win : Int))) (fun _ => cm0)
    rw [hsz] at this
    exact this

set_option maxHeartbeats 1000000 in
set_option maxRecDepth 20000 in
theorem rtake_cast (N q win : Nat) (tv : Value) (mv mo : Nat) (S : VS) (w : World) (F : FR) (h : RIs w N q win tv mv mo S) (hok : VOk win S) (hN : N ≤ w.heap.size) (hh : hearB S F = true) (hk : F 0 = 2) (r : Nat) (hr : F 1 = (r : Int)) (hr3 : r < 3) (c : Nat) (hc : F 2 = (c : Int)) (he : c = S.tr.length) (hl : S.lat = false) :
    Calls Tryd.prog 41 #[.pointer (some ⟨q, 0, none⟩), .agg (fCells F)] w (RTakeEnd N q win tv mv mo w (takeF win S F)) := by
  have hz : S.out.testBit r = false := by
    unfold hearB at hh
    rw [hr, Int.toNat_natCast] at hh
    simp at hh
    exact hh.2.2.1
  have g0 := fCells_at F 0 (by omega)
  have g1 := fCells_at F 1 (by omega)
  have g2 := fCells_at F 2 (by omega)
  have hq := h.lt
  have hf := hok.few
  have k4 : w.cell? ⟨q, 4, none⟩ = some (.map (some mo)) := (h.at 4).trans rfl
  have HRI := hide h
  have HOK := hide hok
  obtain ⟨a, cap, rfl⟩ := h.row.shape
  obtain ⟨n, hn⟩ : ∃ n, Hid (S.tr.length = n) := ⟨_, hide rfl⟩
  have hR1 := fun h4 => take_cast (win := win) hh (by rw [hc]; omega) (by unfold passB; rw [hc, hk, hl, he]; simp) h4
  have hR2 := fun h4 => take_commit (win := win) hh (by rw [hc]; omega) (by unfold passB; rw [hc, hk, hl, he]; simp) h4
  rw [hr, Int.toNat_natCast] at hR1 hR2
  obtain ⟨R, hR⟩ : ∃ R, Hid (takeF win S F = R) := ⟨_, hide rfl⟩
  rw [hR.out] at hR1 hR2 ⊢
  have HR1 := hide hR1
  have HR2 := hide hR2
  clear hR1 hR2 hR
  rw [he, hn.out] at hc
  rw [hn.out] at hf
  rw [hk] at g0
  rw [hr] at g1
  rw [hc] at g2
  have hin : inB (r : Int) 0 2 = true := by unfold inB; simp; omega
  have hlk : ∀ n, (Instr.lookup 103 (.map (some mo)) (.int .i64 (r : Int)) false).run Tryd.prog ((w.alloc (.cells (fCells F) 67)).drewN n) = .ok (.bool false) ((w.alloc (.cells (fCells F) 67)).drewN n) := fun n => by
    have := ((h.below (box_below w (.cells (fCells F) 67) n)).outs).look (k := r) (by omega)
    rw [hz] at this
    exact this
  clear hz h hok hh
  go_enter Tryd.func41, Tryd.ntmps41
  go_wp2_with fail
  go_quiet ((go_at_call 53; exact Calls.quiet_of_same (in_any _ _ _ _)))
  have hB1 := box_below w (.cells (fCells F) 67) nq
  have hbx1 : FIs ((w.alloc (.cells (fCells F) 67)).drewN nq) w.heap.size 67 F := blk_new _ _
  clear hlk k4
  generalize ((w.alloc (.cells (fCells F) 67)).drewN nq) = w1 at hB1 hbx1 ⊢
  have hI1 := HRI.out.below hB1
  have HI1 := hide hI1
  have HB1 := hide hB1
  have HBX := hide hbx1
  have hs1 : w.heap.size < w1.heap.size := hbx1.lt
  have c0 := hbx1.at (k := 0) (by omega)
  have c1 := hbx1.at (k := 1) (by omega)
  have c2 := hbx1.at (k := 2) (by omega)
  rw [hk] at c0
  rw [hr] at c1
  rw [hc] at c2
  have k2 : w1.cell? ⟨q, 2, none⟩ = some (.slice a n cap) := (hI1.at 2).trans (by rw [← hn.out]; rfl)
  have k5 : w1.cell? ⟨q, 5, none⟩ = some (.bool S.lat) := (hI1.at 5).trans rfl
  have hq1 := hI1.lt
  clear hB1 hbx1 hI1 g0 g1 g2 HRI hin
  have c3 := HBX.out.at (k := 3) (by omega)
  have c4 := HBX.out.at (k := 4) (by omega)
  have c5 := HBX.out.at (k := 5) (by omega)
  rw [hl] at k5
  generalize hd : cmF F = d at *
  have d1 : F 3 = d.c := by rw [← hd]; rfl
  have d2 : F 4 = d.v := by rw [← hd]; rfl
  have d3 : F 5 = d.o := by rw [← hd]; rfl
  rw [d1] at c3
  rw [d2] at c4
  rw [d3] at c5
  clear d1 d2 d3 hd
  obtain ⟨W1, hW1⟩ : ∃ W1, Hid (w1.alloc (.cells #[.int .i64 d.c, .int .i64 d.v, .int .i64 d.o] 111) = W1) := ⟨_, hide rfl⟩
  have hBa : Below w1.heap.size w1 W1 := by rw [← hW1.out]; exact (Below.refl _ _).alloc (Nat.le_refl _) _
  have hIa := HI1.out.below hBa
  have hba : W1.heap[w1.heap.size]? = some (.cells #[.int .i64 d.c, .int .i64 d.v, .int .i64 d.o] 111 (0, 0)) := by rw [← hW1.out]; exact blk_new _ _
  have hbxa := HBX.out.below (B := w1.heap.size) hs1 hBa
  obtain ⟨w2, hmu, hv2, hg2⟩ := (show Votes W1.drew mv S.b S.x from hIa.votes).put hr3 d
  have e1 : W1.cell? ⟨w.heap.size, 1, none⟩ = some (.int .i64 (r : Int)) := (hbxa.at (k := 1) (by omega)).trans (by rw [hr])
  have e3 : W1.cell? ⟨q, 3, none⟩ = some (.map (some mv)) := (hIa.at 3).trans rfl
  have y0 : W1.cell? ⟨w1.heap.size, 0, none⟩ = some (.int .i64 d.c) := (blk_cell hba 0).trans rfl
  have y1 : W1.cell? ⟨w1.heap.size, 1, none⟩ = some (.int .i64 d.v) := (blk_cell hba 1).trans rfl
  have y2 : W1.cell? ⟨w1.heap.size, 2, none⟩ = some (.int .i64 d.o) := (blk_cell hba 2).trans rfl
  have hmvl := hIa.votes
  have hne1 : some w.heap.size ≠ some mv := fun e => by simp only [Option.some.injEq] at e; exact hmvl.notCells (by rw [← e]; exact hbxa)
  have hne2 : some q ≠ some mv := fun e => by simp only [Option.some.injEq] at e; exact hIa.q_ne.1 e.symm
  have hne3 : some w1.heap.size ≠ some mv := fun e => by simp only [Option.some.injEq] at e; exact hmvl.notCells (by rw [← e]; exact hba)
  have hbb : ∀ k, k < W1.heap.size → some k ≠ some mv → w2.heap[k]? = W1.heap[k]? := fun k hk hne => hg2.block k hk hne
  have hs0 : w1.heap.size < W1.heap.size := blk_lt hba
  have z1 : w2.cell? ⟨w.heap.size, 1, none⟩ = some (.int .i64 (r : Int)) := (World.cell?_of_block (w := W1) (hbb _ (by show w.heap.size < _; omega) hne1)).trans e1
  have z3 : w2.cell? ⟨q, 3, none⟩ = some (.map (some mv)) := (World.cell?_of_block (w := W1) (hbb _ (by show q < _; omega) hne2)).trans e3
  have x0 : w2.cell? ⟨w1.heap.size, 0, none⟩ = some (.int .i64 d.c) := (World.cell?_of_block (w := W1) (hbb _ hs0 hne3)).trans y0
  have x1 : w2.cell? ⟨w1.heap.size, 1, none⟩ = some (.int .i64 d.v) := (World.cell?_of_block (w := W1) (hbb _ hs0 hne3)).trans y1
  have x2 : w2.cell? ⟨w1.heap.size, 2, none⟩ = some (.int .i64 d.o) := (World.cell?_of_block (w := W1) (hbb _ hs0 hne3)).trans y2
  have hb2 := (hbb _ hs0 hne3).trans hba
  have hI2 : RIs w2 N q win (.slice a S.tr.length cap) mv mo (castS S r d) := (show RIs W1.drew N q win (.slice a S.tr.length cap) mv mo S from hIa.drewN 1).cast hg2 hv2
  have hM2 : Mod w w2 (RB q (.slice a S.tr.length cap) mv mo) := (((Mod.ofBelow (HB1.out.trans (hBa.mono (by omega))) _).drewN 1).grown hg2 (fun k _ e => by simp only [Option.some.injEq] at e; exact .inr (.inr (.inl e.symm))))
  have HI2 := hide hI2
  have HM2 := hide hM2
  have HB2 := hide hb2
  obtain ⟨H, hH⟩ : ∃ H, Hid (w1.heap.size = H) := ⟨_, hide rfl⟩
  clear hI2 hM2 hb2 hbb hne1 hne2 hne3 hmvl hv2 hg2 hbxa hba hIa hBa HI1 HB1 HBX
  unfold cmVal at hmu
  go_wp2_with fail
  rw [show w1.alloc (.cells #[.int .i64 d.c, .int .i64 d.v, .int .i64 d.o] 111) = W1 from hW1.out]
  clear c0 c1 c2 c3 c4 c5 k2 k5 hW1
  rw [hH.out] at y0 y1 y2 x0 x1 x2 HB2 hs0 ⊢
  go_region_held3 (fun w' => w'.cell? ⟨w.heap.size, 1, none⟩ = some (.int .i64 (r : Int)) ∧ w'.cell? ⟨q, 3, none⟩ = some (.map (some mv)) ∧ w'.cell? ⟨H, 0, none⟩ = some (.int .i64 d.c) ∧ w'.cell? ⟨H, 1, none⟩ = some (.int .i64 d.v) ∧ w'.cell? ⟨H, 2, none⟩ = some (.int .i64 d.o)) (go_keep) (fail)
  clear e1 e3 y0 y1 y2 z1 z3 x0 x1 x2 hmu hs0 hk hr hc he hq1 hs1
  obtain ⟨S1, hS1⟩ : ∃ S1, Hid (castS S r d = S1) := ⟨_, hide rfl⟩
  have HLK : Hid (likeB S1.b S1.x d r = true) := hide (by rw [← hS1.out]; show (upd S.b r true r && eqCm (upd S.x r d r) d) = true; rw [upd_same, upd_same, eqCm_self]; rfl)
  have HTR : Hid (S1.tr = S.tr) := hide (by rw [← hS1.out]; rfl)
  have HLA : Hid (S1.lat = false) := hide (by rw [← hS1.out]; exact hl)
  have HOK1 : Hid (VOk win S1) := hide (by rw [← hS1.out]; exact HOK.out.cast r d)
  rw [hS1.out] at HR1 HR2 HI2
  clear hS1 HOK hl
  have HVO := hide HI2.out.votes
  have z3 : w2.cell? ⟨q, 3, none⟩ = some (.map (some mv)) := (HI2.out.at 3).trans rfl
  have h2q := HI2.out.lt
  have h2H : H < w2.heap.size := blk_lt HB2.out
  have heq := eql_commit
  go_wp2_with (at_range; refine wpList_range_votes rfl _ rfl mv S1.b S1.x rfl HVO.out ?_)
  intro w3 hrg3 hB3
  have HRG3 := hide hrg3
  have HB3 := hide hB3
  clear hrg3 hB3 z3
  go_wp2_with fail
  go_loopw [9] (fun al wr => ∃ lf cnt m, VRg wr mv w2.heap.size S1.b S1.x lf cnt ∧ Below w2.heap.size w2 wr ∧ m ≤ 3 ∧ al = .int .i64 ((m : Nat) : Int) ∧ Hid (clN S1.b S1.x d lf = m)) (fun _ wr => wr.rangeLeft mv w2.heap.size)
  case atStart => exact ⟨_, _, 0, HRG3.out, HB3.out, by omega, rfl, hide (cl_start _ _ _)⟩
  case round =>
    clear HRG3 HB3
    obtain ⟨lf, cnt, m, hrg, hB, hm, rfl, HCL⟩ := hrel
    have HRG := hide hrg
    have HB := hide hB
    clear hrg hB
    go_wp2_with (at_next; refine wpList_next_votes rfl _ rfl mv w2.heap.size S1.b S1.x lf cnt rfl HRG.out ?_ ?_)
    · intro hlf
      rename World => wA
      have hcl : cnt3 (likeB S1.b S1.x d) = m := by rw [← HCL.out]; exact (cl_end hlf.out).symm
      have hsec := sec_iff S1.b S1.x d r hr3 HLK.out
      rw [hcl] at hsec
      have HI4 := hide (HI2.out.below HB.out)
      have HM4 := hide (HM2.out.below HB.out)
      have hb4 : wA.heap[H]? = some (.cells #[.int .i64 d.c, .int .i64 d.v, .int .i64 d.o] 111 (0, 0)) := (HB.out.block H h2H).trans HB2.out
      have HB4 := hide hb4
      have hs4 := HB.out.size
      clear hlf hcl hb4 HRG HCL HB HVO HI2 HM2 HB2
      by_cases h2 : m < 2
      · have HRR := hide (unhide HR1 (by rw [hsec]; simp; omega))
        clear HR1 HR2 hsec
        go_wp2
        go_ret2
        rw [HRR.out]
        exact ⟨_, _, mv, rfl, .inl ⟨rfl, rfl⟩, HI4.out, Moved.refl _ _, .inl rfl, HM4.out⟩
      · have HRR := hide (unhide HR2 (by rw [hsec]; simp; omega))
        clear HR1 HR2 hsec
        have HVO := hide HI4.out.votes
        have z3 : wA.cell? ⟨q, 3, none⟩ = some (.map (some mv)) := (HI4.out.at 3).trans rfl
        have h4q := HI4.out.lt
        have h4H : H < wA.heap.size := blk_lt HB4.out
        have heqi := eql_input
        clear heq
        go_wp2_with (at_range; refine wpList_range_votes rfl _ rfl mv S1.b S1.x rfl HVO.out ?_)
        intro w5 hrg5 hB5
        have HRG5 := hide hrg5
        have HB5 := hide hB5
        clear hrg5 hB5 z3
        go_wp2_with fail
        clear HLK hm h2
        go_loopw [] (fun wr => ∃ lf cnt U, VRg wr mv wA.heap.size S1.b S1.x lf cnt ∧ OSet wr mo U ∧ Mod wA wr (fun k => k = mo) ∧ Hid (agU S1.out S1.b S1.x d lf U)) (fun wr => wr.rangeLeft mv wA.heap.size)
        case atStart => exact ⟨_, _, S1.out, HRG5.out, (HI4.out.below HB5.out).outs, Mod.ofBelow HB5.out _, hide (ag_start _ _ _ _)⟩
        case round =>
          clear HRG5 HB5
          obtain ⟨lf2, cnt2, U, hrg, hos, hmd, HAG⟩ := hrel
          have HRG := hide hrg
          have HOS := hide hos
          have HMD := hide hmd
          clear hrg hos hmd
          have hmoH : H ≠ mo := fun e => HI4.out.outs.notCells (by rw [← e]; exact HB4.out)
          have hmoq : q ≠ mo := fun e => HI4.out.q_ne.2 e.symm
          have hmol : mo < wA.heap.size := HI4.out.outs.lt
          go_wp2_with (at_next; refine wpList_next_votes rfl _ rfl mv wA.heap.size S1.b S1.x lf2 cnt2 rfl HRG.out ?_ ?_)
          · intro hlf
            rename World => wB
            have hU : U = outN S1 d := ag_end HAG.out hlf.out
            have HI6 := hide (HI4.out.outs' HMD.out HOS.out)
            have HM6 := hide (HM4.out.then HMD.out (fun i _ e => .inr (.inr (.inr e))))
            have hb6 : wB.heap[H]? = some (.cells #[.int .i64 d.c, .int .i64 d.v, .int .i64 d.o] 111 (0, 0)) := (HMD.out.block H h4H hmoH).trans HB4.out
            have HB6 := hide hb6
            rw [hU] at HI6
            have hs6 := HMD.out.size
            clear hlf HRG HOS HMD HAG hU hb6 HI4 HM4 HB4 HVO heqi
            clear hmoH hmoq hmol hs4 h4q h4H h2q h2H
            have hrow := HI6.out.row
            have c0 : wB.cell? ⟨q, 2, none⟩ = some (.slice a S.tr.length cap) := (HI6.out.at 2).trans rfl
            have f0 : wB.frozen? ⟨q, 2, none⟩ = false := HI6.out.free 2
            have x0 : wB.cell? ⟨H, 0, none⟩ = some (.int .i64 d.c) := (blk_cell HB6.out 0).trans rfl
            have x1 : wB.cell? ⟨H, 1, none⟩ = some (.int .i64 d.v) := (blk_cell HB6.out 1).trans rfl
            have x2 : wB.cell? ⟨H, 2, none⟩ = some (.int .i64 d.o) := (blk_cell HB6.out 2).trans rfl
            have hHl : H < wB.heap.size := blk_lt HB6.out
            have hql := HI6.out.lt
            have hqn : some q ≠ (Value.slice a S.tr.length cap).ownBlock := fun e => (HI6.out.own_ne e.symm).1 rfl
            have FRZ : Hid ((wB.alloc (.cells #[.int .i64 d.c, .int .i64 d.v, .int .i64 d.o] 111)).drew.frozen? ⟨q, 2, none⟩ = false) := hide ((World.frozen?_of_block (w := wB) (Below.heap_alloc _ _ _ hql)).trans f0)
            have CEL : Hid ((wB.alloc (.cells #[.int .i64 d.c, .int .i64 d.v, .int .i64 d.o] 111)).drew.cell? ⟨q, 2, none⟩ = some (.slice a S.tr.length cap)) := hide ((World.cell?_of_block (w := wB) (Below.heap_alloc _ _ _ hql)).trans c0)
            have hlt : n < 1000 := by
              have h1 := HOK1.out.few
              have h2 := HOK1.out.full
              rw [HTR.out, hn.out, HLA.out] at h2
              rw [HTR.out, hn.out] at h1
              rcases Nat.lt_or_ge n 1000 with h | h
              · exact h
              · exact absurd (h2 (by omega)) (by decide)
            have hSl : Hid (S1.tr.length = n) := hide (by rw [HTR.out, hn.out])
            have HOWN : Hid (wB.ownsRow N 111 3 (.slice a n cap) n (cmL S1.tr)) := by
              unfold TIs at hrow
              rw [hn.out] at hrow
              have e : S1.tr.length = n := hSl.out
              rw [Hid, ← e]
              rw [← e] at hrow
              exact hrow
            rw [hn.out] at c0 hqn CEL HI6 HM6
            have hNB : N ≤ wB.heap.size := by have := HM6.out.size; omega
            have HK1 : Hid (n + 1 ≤ maxLen) := by rw [Hid]; unfold maxLen; omega
            have HK2 : Hid ((n + 1) * 24 ≤ 140737488355328) := by rw [Hid]; omega
            have HK3 : Hid (N ≤ (wB.alloc (.cells #[.int .i64 d.c, .int .i64 d.v, .int .i64 d.o] 111)).drew.heap.size) := by rw [Hid]; simp; omega
            have hwB : Hid (w.heap.size ≤ wB.heap.size) := hide HM6.out.size
            obtain ⟨i0, hi, hz0, hz1, hz2⟩ := info_parts infoCommit
            have HI := hide hi
            have HZ0 := hide hz0
            have HZ1 := hide hz1
            have HZ2 := hide hz2
            clear hrow hi hz0 hz1 hz2 HB6
            go_wp2_with fail
            go_cut [] from 139 to 148 (fun wz => ∃ g cap', RIs wz N q win (.slice (some ⟨g, 0, none⟩) (n + 1) cap') mv mo ⟨S1.tr ++ [d], S1.b, S1.x, S1.left, outN S1 d, S1.lat⟩ ∧ Mod w wz (RB q (.slice a n cap) mv mo) ∧ ((Value.slice a n cap).ownBlock = some g ∨ w.heap.size ≤ g))
            case first =>
              go_region_law
                ((refine step_append_lies _ (by rfl) _ _ _ (by rfl) N 111 i0 _ 3 24 Tryd.underlying101 HI.out HZ0.out HZ1.out HZ2.out rfl (by omega) (.slice a n cap) n (cmL S1.tr) (by rfl) ((HOWN.out.alloc _).drew)
                    ⟨wB.heap.size, 0, none⟩ 1 1 (cmC d) (by rfl) (by rfl) (World.news_of_block (cs := #[.int .i64 d.c, .int .i64 d.v, .int .i64 d.o]) (t := 111) (fr := (0, 0)) (heap_alloc_new wB _)) (fun u hu => by simp [cmC] at hu; rcases hu with rfl | rfl | rfl <;> rfl)
                    (by omega) HK1.out HK2.out HK3.out (wB.heap.size + 1) (by simp) ?_; intro g cap' w8 hown8 hgrow hat hlt8; have fz : w8.frozen? ⟨q, 2, none⟩ = false := (hgrow.frozen_far ⟨q, 2, none⟩ (by simp; omega) hqn).trans FRZ.out; have cz : w8.cell? ⟨q, 2, none⟩ = some (.slice a n cap) := (hgrow.cell_far ⟨q, 2, none⟩ (by simp; omega) hqn).trans CEL.out))
              all_goals
                go_wp2_with fail
                go_meet
                exact ⟨g, cap', HI6.out.app hSl.out hown8 hgrow, rapp_mod HM6.out hgrow, hat.imp id (fun e => by have := hwB.out; omega)⟩
            case rest =>
              obtain ⟨g, cap', hI7, hM7, hat⟩ := hcut
              clear HK1 HK2 HK3 HOWN CEL FRZ c0 f0 x0 x1 x2 hqn HI6 HM6 hwB HI HZ0 HZ1 HZ2 hHl hql hNB
              have q0 : wc.cell? ⟨q, 0, none⟩ = some (.int .i64 (win : Int)) := (hI7.at 0).trans rfl
              have q1 : wc.cell? ⟨q, 1, none⟩ = some (.int .i64 (S1.left : Int)) := (hI7.at 1).trans rfl
              have q3 : wc.cell? ⟨q, 3, none⟩ = some (.map (some mv)) := (hI7.at 3).trans rfl
              have p1 := hI7.free 1
              have p3 := hI7.free 3
              have hql := hI7.lt
              have HI7 := hide hI7
              have HM7 := hide hM7
              have HAT := hide hat
              have hmm := @run_makeMap Tryd.prog
              clear hI7 hM7 hat
              go_upto_region 29 with fail
              have hI9 := HI7.out.fresh
              have hM9 : Mod w (((wc.setCell ⟨q, 3, none⟩ (.map (some wc.heap.size))).setCell ⟨q, 1, none⟩ (.int .i64 (win : Int))).alloc (.map #[] 0)) (RB q (.slice a n cap) mv mo) := ((HM7.out.set ⟨q, 3, none⟩ (.map (some wc.heap.size)) (fun _ => .inl rfl)).set ⟨q, 1, none⟩ (.int .i64 (win : Int)) (fun _ => .inl rfl)).below ((Below.refl _ _).alloc (Nat.le_refl _) _)
              have hmv : Hid (w.heap.size ≤ wc.heap.size) := hide HM7.out.size
              generalize ((wc.setCell ⟨q, 3, none⟩ (.map (some wc.heap.size))).setCell ⟨q, 1, none⟩ (.int .i64 (win : Int))).alloc (.map #[] 0) = w9 at hI9 hM9 ⊢
              obtain ⟨mv', hmv'⟩ : ∃ mv', Hid (wc.heap.size = mv') := ⟨_, hide rfl⟩
              rw [hmv'.out] at hI9 hmv
              obtain ⟨on, hon⟩ : ∃ on, Hid (outN S1 d = on) := ⟨_, hide rfl⟩
              rw [hon.out] at hI9
              have HFIN : Hid (commitS win S1 d = ⟨S1.tr ++ [d], fun _ => false, fun _ => cm0, win, on, decide (2 ≤ pop 8 on) || decide (1000 ≤ n + 1)⟩) := hide (by unfold commitS; rw [hon.out, hSl.out])
              have r2 : w9.cell? ⟨q, 2, none⟩ = some (.slice (some ⟨g, 0, none⟩) (n + 1) cap') := (hI9.at 2).trans rfl
              have r4 : w9.cell? ⟨q, 4, none⟩ = some (.map (some mo)) := (hI9.at 4).trans rfl
              have r5 : w9.cell? ⟨q, 5, none⟩ = some (.bool S1.lat) := (hI9.at 5).trans rfl
              have s5 := hI9.free 5
              have hlen := fun ty => hI9.outs.len ty
              have hp8 := pop_le 8 on
              have HI9 := hide hI9
              have HM9 := hide hM9
              clear hI9 hM9 q0 q1 q3 p1 p3 hql HI7 HM7 hmm hmv'
              go_cut [] from 160 to 176 (fun wz => RIs wz N q win (.slice (some ⟨g, 0, none⟩) (n + 1) cap') mv' mo (commitS win S1 d) ∧ Mod w wz (RB q (.slice a n cap) mv mo))
              case first =>
                have hput := fun z : Bool => HI9.out.put (S' := ⟨S1.tr ++ [d], fun _ => false, fun _ => cm0, win, on, z⟩) 5 (.bool z) rfl rfl rfl rfl rfl
                have hmod := fun z : Bool => HM9.out.set ⟨q, 5, none⟩ (.bool z) (fun _ => .inl rfl)
                by_cases hp : 2 ≤ pop 8 on
                · have dp : decide (2 ≤ ((pop 8 on : Nat) : Int)) = true := decide_eq_true (by omega)
                  have e : commitS win S1 d = ⟨S1.tr ++ [d], fun _ => false, fun _ => cm0, win, on, true⟩ := by rw [HFIN.out, decide_eq_true hp, Bool.true_or]
                  have H1 := hide (hput true)
                  have H2 := hide (hmod true)
                  rw [← e] at H1
                  clear hput hmod e
                  go_wp2_with fail
                  go_meet
                  exact ⟨H1.out, H2.out⟩
                · have dp : decide (2 ≤ ((pop 8 on : Nat) : Int)) = false := decide_eq_false (by omega)
                  have dq : decide (1000 ≤ (n : Int) + 1) = decide (1000 ≤ n + 1) := by rw [decide_eq_decide]; omega
                  obtain ⟨z, hz⟩ : ∃ z, Hid (decide (1000 ≤ n + 1) = z) := ⟨_, hide rfl⟩
                  have e : commitS win S1 d = ⟨S1.tr ++ [d], fun _ => false, fun _ => cm0, win, on, z⟩ := by rw [HFIN.out, decide_eq_false hp, Bool.false_or, hz.out]
                  rw [hz.out] at dq
                  have H1 := hide (hput z)
                  have H2 := hide (hmod z)
                  rw [← e] at H1
                  clear hput hmod e
                  go_wp2_with fail
                  go_meet
                  exact ⟨H1.out, H2.out⟩
              case rest =>
                obtain ⟨hI10, hM10⟩ := hcut
                have HOK2 := hide (HOK1.out.commit HLA.out d)
                have hl2 : (commitS win S1 d).tr.length = n + 1 := by show (S1.tr ++ [d]).length = n + 1; rw [List.length_append, hSl.out]; rfl
                have hat2 : cmAt (commitS win S1 d).tr n = d := by
                  show ((S1.tr ++ [d])[n]?).getD cm0 = d
                  rw [List.getElem?_append_right (by rw [hSl.out]; exact Nat.le_refl _), hSl.out, Nat.sub_self]
                  rfl
                have hdn := refDone_any N q win _ mv' mo _ wc n hI10 HOK2.out (by omega)
                rw [hat2] at hdn
                have HDN := hide hdn
                have HI10 := hide hI10
                have HM10 := hide hM10
                clear hI10 hM10 hdn hat2 hl2 HOK2 r2 r4 r5 s5 hlen HI9 HM9 HFIN hp8
                go_wp2_with (first
                  | (go_at_call 90; refine HDN.out.mono ?_; rintro e w11 ⟨rfl, hB11⟩)
                  | (refine wpList_one_r rfl _ rfl (doneF n d) rfl _ rfl ?_))
                intro w12 HW12
                obtain ⟨hb12, _, hB12⟩ := HW12.out
                have hBB := hB11.trans (hB12.mono hB11.size)
                have HFI := hide (FRow.one hb12)
                have HBB := hide hBB
                clear hb12 hB12 hBB hB11 HDN HW12
                go_wp2
                go_ret2
                rw [HRR.out, hn.out]
                exact ⟨_, _, mv', rfl, HFI.out, HI10.out.below HBB.out, fun g' hg' => (by
                  have e : g = g' := by simpa [Value.ownBlock] using hg'
                  rw [← e]
                  exact HAT.out), .inr hmv.out, HM10.out.below HBB.out⟩
          · intro k d' w' lf' cnt' hk HH hen
            obtain ⟨hbk, hxk, hlk, hlk', hoth, hrg', hlt, hgr, hsz⟩ := HH.out
            have hM' : Mod wA w' (fun k => k = mo) := HMD.out.grown hgr (fun j hj e => by simp only [Option.some.injEq] at e; omega)
            have hbH : w'.heap[H]? = some (.cells #[.int .i64 d.c, .int .i64 d.v, .int .i64 d.o] 111 (0, 0)) := (hM'.block H h4H hmoH).trans HB4.out
            have hbq := (hM'.block q h4q hmoq).trans HI4.out.blk
            have u0 : w'.cell? ⟨H, 0, none⟩ = some (.int .i64 d.c) := (blk_cell hbH 0).trans rfl
            have u1 : w'.cell? ⟨H, 1, none⟩ = some (.int .i64 d.v) := (blk_cell hbH 1).trans rfl
            have u2 : w'.cell? ⟨H, 2, none⟩ = some (.int .i64 d.o) := (blk_cell hbH 2).trans rfl
            have q4 : w'.cell? ⟨q, 4, none⟩ = some (.map (some mo)) := (blk_cell hbq 4).trans rfl
            have hHl : H < w'.heap.size := blk_lt hbH
            have hql : q < w'.heap.size := blk_lt hbq
            have hag : agB S1.b S1.x d k = (eqI d'.c d'.v d.c d.v && d'.o != d.o) := by unfold agB eqIn eqI; rw [hbk, hxk, Bool.true_and]
            have hos' : OSet w' mo U := HOS.out.same (hgr.block mo HOS.out.lt (by simp only [ne_eq, Option.some.injEq]; omega))
            obtain ⟨w6, hrun, hos6, hg6⟩ := (show OSet (w'.alloc (.cells #[.int .i64 d'.c, .int .i64 d'.v, .int .i64 d'.o] 111)) mo U from hos'.same (Below.heap_alloc _ _ _ hos'.lt)).put (k := k) (by omega)
            have HRN := hide hrg'
            have HMN := hide hM'
            have HLT := hide hlt
            have HON := hide hos'
            have HO6 := hide hos6
            have HG6 := hide hg6
            have HOT := hide hoth
            have HLK' := hide hlk'
            have HNE := hide HI4.out.ne
            clear hbk hxk hlk hlk' hoth hrg' hlt hgr hsz hM' hbH hbq HH HMD HI4 HM4 HVO HRR hos' hos6 hg6 HB4 HOS
            cases hi : eqI d'.c d'.v d.c d.v
            · rw [hi, Bool.false_and] at hag
              have HAN := hide (ag_stay HAG.out hag HOT.out)
              clear hag hrun
              go_wp2
              go_roundw
              case rel => exact ⟨lf', cnt', U, HRN.out.kept (World.grownBy_alloc w' _ none) (by simp) (by simp), HON.out.same (Below.heap_alloc _ _ _ HON.out.lt), HMN.out.below ((Below.refl _ _).alloc (Nat.le_refl _) _), HAN⟩
              case measure => rw [(HRN.out.kept (World.grownBy_alloc w' _ none) (by simp) (by simp)).left_eq, HRG.out.left_eq]; exact HLT.out
            · cases ho : (d'.o != d.o)
              · rw [hi, ho, Bool.and_false] at hag
                have HAN := hide (ag_stay HAG.out hag HOT.out)
                clear hag hrun
                go_wp2
                go_roundw
                case rel => exact ⟨lf', cnt', U, HRN.out.kept (World.grownBy_alloc w' _ none) (by simp) (by simp), HON.out.same (Below.heap_alloc _ _ _ HON.out.lt), HMN.out.below ((Below.refl _ _).alloc (Nat.le_refl _) _), HAN⟩
                case measure => rw [(HRN.out.kept (World.grownBy_alloc w' _ none) (by simp) (by simp)).left_eq, HRG.out.left_eq]; exact HLT.out
              · rw [hi, ho, Bool.and_self] at hag
                have HAN := hide (ag_more HAG.out hk hag HLK'.out HOT.out)
                have HR6 := hide ((HRN.out.kept (World.grownBy_alloc w' (.cells #[.int .i64 d'.c, .int .i64 d'.v, .int .i64 d'.o] 111) none) (by simp) (by simp)).kept HG6.out (by simp only [ne_eq, Option.some.injEq]; exact HNE.out) (by simp only [ne_eq, Option.some.injEq]; omega))
                clear hag
                go_wp2
                go_roundw
                case rel => exact ⟨lf', cnt', U ||| 2 ^ k, HR6.out, HO6.out, (HMN.out.below ((Below.refl _ _).alloc (Nat.le_refl _) _)).grown HG6.out (fun j _ e => by simp only [Option.some.injEq] at e; exact e.symm), HAN⟩
                case measure => rw [HR6.out.left_eq, HRG.out.left_eq]; exact HLT.out
    · intro k d' w' lf' cnt' hk HH hen
      obtain ⟨hbk, hxk, hlk, hlk', hoth, hrg', hlt, hgr, hsz⟩ := HH.out
      have hB' : Below w2.heap.size w2 w' := HB.out.grown hgr HB.out.size (fun j e => by cases e; exact Nat.le_refl _)
      have hbH : w'.heap[H]? = some (.cells #[.int .i64 d.c, .int .i64 d.v, .int .i64 d.o] 111 (0, 0)) := (hB'.block H h2H).trans HB2.out
      have u0 : w'.cell? ⟨H, 0, none⟩ = some (.int .i64 d.c) := (blk_cell hbH 0).trans rfl
      have u1 : w'.cell? ⟨H, 1, none⟩ = some (.int .i64 d.v) := (blk_cell hbH 1).trans rfl
      have u2 : w'.cell? ⟨H, 2, none⟩ = some (.int .i64 d.o) := (blk_cell hbH 2).trans rfl
      have hHl : H < w'.heap.size := blk_lt hbH
      have hlike : likeB S1.b S1.x d k = eqCm d' d := by unfold likeB; rw [hbk, hxk, Bool.true_and]
      have hcs := cl_step (b := S1.b) (x := S1.x) (d := d) hk hlk hlk' hoth
      rw [HCL.out, hlike] at hcs
      have hle := cl_le S1.b S1.x d lf'
      rw [hcs] at hle
      have HRN := hide hrg'
      have HBN := hide hB'
      have HLT := hide hlt
      have HS2 := hide (show w2.heap.size ≤ w'.heap.size from hB'.size)
      clear hbk hxk hlk hlk' hoth hrg' hlt hgr hsz hB' hbH hlike HH HB HI2 HM2 HVO HR1 HR2
      cases he : eqCm d' d
      · rw [he] at hcs
        have he' : eqCm ⟨d'.c, d'.v, d'.o⟩ ⟨d.c, d.v, d.o⟩ = false := he
        have HCS := hide hcs
        clear he hcs hle
        go_wp2
        go_roundw
        case rel => exact ⟨lf', cnt', m, HRN.out.kept (World.grownBy_alloc w' _ none) (by simp) (by simp), HBN.out.alloc HS2.out _, hm, rfl, HCS.out⟩
        case measure => rw [(HRN.out.kept (World.grownBy_alloc w' _ none) (by simp) (by simp)).left_eq, HRG.out.left_eq]; exact HLT.out
      · rw [he] at hcs hle
        have he' : eqCm ⟨d'.c, d'.v, d'.o⟩ ⟨d.c, d.v, d.o⟩ = true := he
        have HCS := hide hcs
        simp only [if_true] at hle
        clear he hcs
        go_wp2
        go_roundw
        case rel => exact ⟨lf', cnt', m + 1, HRN.out.kept (World.grownBy_alloc w' _ none) (by simp) (by simp), HBN.out.alloc HS2.out _, hle, by go_num, HCS.out⟩
        case measure => rw [(HRN.out.kept (World.grownBy_alloc w' _ none) (by simp) (by simp)).left_eq, HRG.out.left_eq]; exact HLT.out

theorem rtake_any (N q win : Nat) (tv : Value) (mv mo : Nat) (S : VS) (w : World) (F : FR) (h : RIs w N q win tv mv mo S) (hok : VOk win S) (hN : N ≤ w.heap.size) :
    Calls Tryd.prog 41 #[.pointer (some ⟨q, 0, none⟩), .agg (fCells F)] w (RTakeEnd N q win tv mv mo w (takeF win S F)) := by
  cases hh : hearB S F
  · exact rtake_no N q win tv mv mo S w F h hh
  · obtain ⟨hk, ⟨h1, h3⟩, h2⟩ := hear_parts hh
    obtain ⟨c, hc⟩ := Int.eq_ofNat_of_zero_le h2
    obtain ⟨r, hr⟩ := Int.eq_ofNat_of_zero_le h1
    have hr3 : r < 3 := by omega
    rcases Nat.lt_trichotomy c S.tr.length with hlt | he | hgt
    · rcases hk with hk | hk
      · exact rtake_p2 N q win tv mv mo S w F h hok hN hh hk r hr hr3 c hc hlt
      · exact rtake_p4 N q win tv mv mo S w F h hok hN hh hk r hr hr3 c hc hlt
    · rcases hk with hk | hk
      · cases hl : S.lat
        · exact rtake_cast N q win tv mv mo S w F h hok hN hh hk r hr hr3 c hc he hl
        · exact rtake_s2 N q win tv mv mo S w F h hok hN hh hk r hr hr3 c hc he hl
      · exact rtake_r4 N q win tv mv mo S w F h hok hN hh hk r hr hr3 c hc he
    · rcases hk with hk | hk
      · exact rtake_q2 N q win tv mv mo S w F h hok hN hh hk r hr hr3 c hc hgt
      · exact rtake_q4 N q win tv mv mo S w F h hok hN hh hk r hr hr3 c hc hgt

end Go.Proofs.YtbiacknbaefccaaDoor
