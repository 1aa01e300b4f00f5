import Derived.Test.YtaablbmgagiajaaGreatDoorTGAL
import Derived.Great.BuildSlice
namespace Go.Proofs.YtaablbmgagiajaaGreatDoor
open Go.RowKit Go.Deep
section
variable {C : RC} {R : RS}
theorem rpF_putS {k : Nat} (x : Smp) (hk : k < 3) {j : Nat} (hj : j < 93) : (if 27 + k * 4 ≤ j then ((smpC x)[j - (27 + k * 4)]?).getD (rpF C R j) else rpF C R j) = rpF C { R with smp := upd R.smp k x } j := by
  by_cases hr : 27 + k * 4 ≤ j ∧ j < 27 + k * 4 + 4
  · obtain ⟨i, rfl⟩ : ∃ i, j = 27 + k * 4 + i := ⟨j - (27 + k * 4), by omega⟩
    have hi : i < 4 := by omega
    rw [if_pos (by omega), rpF_smp hk hi, rpF_smp hk hi, show 27 + k * 4 + i - (27 + k * 4) = i by omega]
    show _ = ((smpC (upd R.smp k x k))[i]?).getD undef
    rw [upd_same]
    rcases (by omega : i = 0 ∨ i = 1 ∨ i = 2 ∨ i = 3) with rfl | rfl | rfl | rfl <;> rfl
  · have e : (if 27 + k * 4 ≤ j then ((smpC x)[j - (27 + k * 4)]?).getD (rpF C R j) else rpF C R j) = rpF C R j := by
      split
      · rw [List.getElem?_eq_none (by show 4 ≤ _; omega)]; rfl
      · rfl
    rw [e]
    unfold rpF
    refine ite_congr rfl (fun _ => rfl) fun h0 => ?_
    refine ite_congr rfl (fun _ => rfl) fun h1 => ?_
    refine ite_congr rfl (fun _ => rfl) fun h2 => ?_
    refine ite_congr rfl (fun _ => rfl) fun h3 => ?_
    refine ite_congr rfl (fun _ => rfl) fun h4 => ?_
    refine ite_congr rfl (fun _ => rfl) fun h5 => ?_
    refine ite_congr rfl (fun _ => rfl) fun h6 => ?_
    refine ite_congr rfl (fun _ => rfl) fun h7 => ?_
    refine ite_congr rfl (fun _ => rfl) fun h8 => ?_
    refine ite_congr rfl (fun _ => rfl) fun h9 => ?_
    refine ite_congr rfl (fun _ => rfl) fun h10 => ?_
    refine ite_congr rfl (fun h11 => ?_) fun _ => rfl
    show _ = ((smpC (upd R.smp k x ((j - 27) / 4)))[(j - 27) % 4]?).getD undef
    rw [upd_other _ _ (by omega)]
theorem rpF_putT {k : Nat} (T : Nat → Int) (hk : k < 3) {j : Nat} (hj : j < 93) : (if 39 + k * 18 ≤ j then ((tlC T).toList[j - (39 + k * 18)]?).getD (rpF C R j) else rpF C R j) = rpF C { R with told := upd R.told k T } j := by
  by_cases hr : 39 + k * 18 ≤ j ∧ j < 39 + k * 18 + 18
  · obtain ⟨i, rfl⟩ : ∃ i, j = 39 + k * 18 + i := ⟨j - (39 + k * 18), by omega⟩
    have hi : i < 18 := by omega
    rw [if_pos (by omega), rpF_told hk hi, rpF_told hk hi, show 39 + k * 18 + i - (39 + k * 18) = i by omega, Array.getElem?_toList, tlC_at T i hi]
    show _ = Value.int .i64 (upd R.told k T k i)
    rw [upd_same]
    rfl
  · have e : (if 39 + k * 18 ≤ j then ((tlC T).toList[j - (39 + k * 18)]?).getD (rpF C R j) else rpF C R j) = rpF C R j := by
      split
      · rw [List.getElem?_eq_none (by show 18 ≤ _; omega)]; rfl
      · rfl
    rw [e]
    unfold rpF
    refine ite_congr rfl (fun _ => rfl) fun h0 => ?_
    refine ite_congr rfl (fun _ => rfl) fun h1 => ?_
    refine ite_congr rfl (fun _ => rfl) fun h2 => ?_
    refine ite_congr rfl (fun _ => rfl) fun h3 => ?_
    refine ite_congr rfl (fun _ => rfl) fun h4 => ?_
    refine ite_congr rfl (fun _ => rfl) fun h5 => ?_
    refine ite_congr rfl (fun _ => rfl) fun h6 => ?_
    refine ite_congr rfl (fun _ => rfl) fun h7 => ?_
    refine ite_congr rfl (fun _ => rfl) fun h8 => ?_
    refine ite_congr rfl (fun _ => rfl) fun h9 => ?_
    refine ite_congr rfl (fun _ => rfl) fun h10 => ?_
    refine ite_congr rfl (fun _ => rfl) fun h11 => ?_
    have : upd R.told k T ((j - 39) / 18) = R.told ((j - 39) / 18) := upd_other _ _ (by omega)
    show _ = Value.int .i64 (upd R.told k T ((j - 39) / 18) ((j - 39) % 18))
    rw [this]
theorem rpF_putSt (X : St) {j : Nat} : (if 8 ≤ j then ((stCells X).toList[j - 8]?).getD (rpF C R j) else rpF C R j) = rpF C { R with st := X } j := by
  by_cases hr : 8 ≤ j ∧ j < 25
  · rw [if_pos hr.1]
    have hs : j - 8 < (stCells X).size := by show j - 8 < 17; omega
    unfold rpF
    rw [if_neg (by omega), if_neg (by omega), if_neg (by omega), if_neg (by omega), if_neg (by omega), if_neg (by omega), if_neg (by omega), if_neg (by omega), if_pos hr.2]
    rw [if_neg (by omega), if_neg (by omega), if_neg (by omega), if_neg (by omega), if_neg (by omega), if_neg (by omega), if_neg (by omega), if_neg (by omega), if_pos hr.2]
    rw [Array.getElem?_toList, Array.getElem?_eq_getElem hs]
    rfl
  · have e : (if 8 ≤ j then ((stCells X).toList[j - 8]?).getD (rpF C R j) else rpF C R j) = rpF C R j := by
      split
      · rw [List.getElem?_eq_none (by show 17 ≤ _; omega)]; rfl
      · rfl
    rw [e]
    unfold rpF
    refine ite_congr rfl (fun _ => rfl) fun h0 => ?_
    refine ite_congr rfl (fun _ => rfl) fun h1 => ?_
    refine ite_congr rfl (fun _ => rfl) fun h2 => ?_
    refine ite_congr rfl (fun _ => rfl) fun h3 => ?_
    refine ite_congr rfl (fun _ => rfl) fun h4 => ?_
    refine ite_congr rfl (fun _ => rfl) fun h5 => ?_
    refine ite_congr rfl (fun _ => rfl) fun h6 => ?_
    refine ite_congr rfl (fun _ => rfl) fun h7 => ?_
    exact ite_congr rfl (fun h8 => absurd h8 (by omega)) fun _ => rfl
theorem rpF_wipeS {j : Nat} (hj : j < 93) : (if 27 ≤ j then ((smpL fun _ => smp0)[j - 27]?).getD (rpF C R j) else rpF C R j) = rpF C { R with smp := fun _ => smp0 } j := by
  by_cases hr : 27 ≤ j ∧ j < 39
  · obtain ⟨i, rfl⟩ : ∃ i, j = 27 + i := ⟨j - 27, by omega⟩
    have hi : i < 12 := by omega
    rw [if_pos (by omega), show 27 + i - 27 = i by omega]
    have e := rpF_smp (C := C) (R := { R with smp := fun _ => smp0 }) (k := i / 4) (j := i % 4) (by omega) (by omega)
    rw [show 27 + i / 4 * 4 + i % 4 = 27 + i by omega] at e
    rw [e]
    show ((smpL fun _ => smp0)[i]?).getD _ = ((smpC smp0)[i % 4]?).getD undef
    rcases (by omega : i = 0 ∨ i = 1 ∨ i = 2 ∨ i = 3 ∨ i = 4 ∨ i = 5 ∨ i = 6 ∨ i = 7 ∨ i = 8 ∨ i = 9 ∨ i = 10 ∨ i = 11) with rfl | rfl | rfl | rfl | rfl | rfl | rfl | rfl | rfl | rfl | rfl | rfl <;> rfl
  · have e : (if 27 ≤ j then ((smpL fun _ => smp0)[j - 27]?).getD (rpF C R j) else rpF C R j) = rpF C R j := by
      split
      · rw [List.getElem?_eq_none (by show 12 ≤ _; omega)]; rfl
      · rfl
    rw [e]
    unfold rpF
    refine ite_congr rfl (fun _ => rfl) fun h0 => ?_
    refine ite_congr rfl (fun _ => rfl) fun h1 => ?_
    refine ite_congr rfl (fun _ => rfl) fun h2 => ?_
    refine ite_congr rfl (fun _ => rfl) fun h3 => ?_
    refine ite_congr rfl (fun _ => rfl) fun h4 => ?_
    refine ite_congr rfl (fun _ => rfl) fun h5 => ?_
    refine ite_congr rfl (fun _ => rfl) fun h6 => ?_
    refine ite_congr rfl (fun _ => rfl) fun h7 => ?_
    refine ite_congr rfl (fun _ => rfl) fun h8 => ?_
    refine ite_congr rfl (fun _ => rfl) fun h9 => ?_
    refine ite_congr rfl (fun _ => rfl) fun h10 => ?_
    exact ite_congr rfl (fun h11 => absurd h11 (by omega)) fun _ => rfl
theorem rpF_wipeT {j : Nat} (hj : j < 93) : (if 39 ≤ j then ((tlL fun _ _ => 0)[j - 39]?).getD (rpF C R j) else rpF C R j) = rpF C { R with told := fun _ _ => 0 } j := by
  by_cases hr : 39 ≤ j
  · obtain ⟨i, rfl⟩ : ∃ i, j = 39 + i := ⟨j - 39, by omega⟩
    have hi : i < 54 := by omega
    rw [if_pos (by omega), show 39 + i - 39 = i by omega]
    have e := rpF_told (C := C) (R := { R with told := fun _ _ => 0 }) (k := i / 18) (j := i % 18) (by omega) (by omega)
    have e2 := tlL_at (fun _ _ => 0) (k := i / 18) (j := i % 18) (by omega) (by omega)
    rw [show 39 + i / 18 * 18 + i % 18 = 39 + i by omega] at e
    rw [show i / 18 * 18 + i % 18 = i by omega] at e2
    rw [e, e2]
    rfl
  · rw [if_neg hr]
    unfold rpF
    refine ite_congr rfl (fun _ => rfl) fun h0 => ?_
    refine ite_congr rfl (fun _ => rfl) fun h1 => ?_
    refine ite_congr rfl (fun _ => rfl) fun h2 => ?_
    refine ite_congr rfl (fun _ => rfl) fun h3 => ?_
    refine ite_congr rfl (fun _ => rfl) fun h4 => ?_
    refine ite_congr rfl (fun _ => rfl) fun h5 => ?_
    refine ite_congr rfl (fun _ => rfl) fun h6 => ?_
    refine ite_congr rfl (fun _ => rfl) fun h7 => ?_
    refine ite_congr rfl (fun _ => rfl) fun h8 => ?_
    refine ite_congr rfl (fun _ => rfl) fun h9 => ?_
    refine ite_congr rfl (fun _ => rfl) fun h10 => ?_
    exact ite_congr rfl (fun _ => rfl) fun h11 => absurd hj (by omega)
theorem rpF_cyc (c : Int) {j : Nat} : upd (rpF C R) 5 (.int .i64 c) j = rpF C { R with cycle := c } j := by
  unfold upd rpF
  by_cases e : j = 5
  · subst e; rfl
  · simp [e]
theorem rpF_tick (c : Int) {j : Nat} : upd (rpF C R) 6 (.int .i64 c) j = rpF C { R with ticks := c } j := by
  unfold upd rpF
  by_cases e : j = 6
  · subst e; rfl
  · simp [e]
theorem rpF_ahead (c : Int) {j : Nat} : upd (rpF C R) 7 (.int .i64 c) j = rpF C { R with ahead := c } j := by
  unfold upd rpF
  by_cases e : j = 7
  · subst e; rfl
  · simp [e]
end
section
variable {w : World} {p : Nat} {C : RC} {R : RS}
theorem RpIs.putS (h : RpIs w p C R) {k : Nat} (hk : k < 3) (x : Smp) : RpIs (w.setCells p (27 + k * 4) (smpC x)) p C { R with smp := upd R.smp k x } :=
  h.puts _ _ (by show 27 + k * 4 + 4 ≤ 93; omega) fun _ hj => rpF_putS x hk hj
theorem RpIs.putT (h : RpIs w p C R) {k : Nat} (hk : k < 3) (T : Nat → Int) : RpIs (w.setCells p (39 + k * 18) (tlC T).toList) p C { R with told := upd R.told k T } :=
  h.puts _ _ (by show 39 + k * 18 + 18 ≤ 93; omega) fun _ hj => rpF_putT T hk hj
theorem RpIs.putSt (h : RpIs w p C R) (X : St) : RpIs (w.setCells p 8 (stCells X).toList) p C { R with st := X } :=
  h.puts _ _ (by show 8 + 17 ≤ 93; omega) fun _ _ => rpF_putSt X
theorem RpIs.wipeS (h : RpIs w p C R) : RpIs (w.setCells p 27 (smpL fun _ => smp0)) p C { R with smp := fun _ => smp0 } :=
  h.puts _ _ (by show 27 + 12 ≤ 93; omega) fun _ hj => rpF_wipeS hj
theorem RpIs.wipeT (h : RpIs w p C R) : RpIs (w.setCells p 39 (tlL fun _ _ => 0)) p C { R with told := fun _ _ => 0 } :=
  h.puts _ _ (by show 39 + 54 ≤ 93; omega) fun _ hj => rpF_wipeT hj
theorem RpIs.cyc (h : RpIs w p C R) (c : Int) : RpIs (w.setCell ⟨p, 5, none⟩ (.int .i64 c)) p C { R with cycle := c } := h.put (by decide) _ fun _ _ => rpF_cyc c
theorem RpIs.tick (h : RpIs w p C R) (c : Int) : RpIs (w.setCell ⟨p, 6, none⟩ (.int .i64 c)) p C { R with ticks := c } := h.put (by decide) _ fun _ _ => rpF_tick c
theorem RpIs.aheads (h : RpIs w p C R) (c : Int) : RpIs (w.setCell ⟨p, 7, none⟩ (.int .i64 c)) p C { R with ahead := c } := h.put (by decide) _ fun _ _ => rpF_ahead c
theorem RpIs.drew (h : RpIs w p C R) : RpIs w.drew p C R := h.below (Below.refl _ _).drew
end
def FRow (w : World) (t : TypeId) (v : Value) (L : List FR) : Prop :=
  (L = [] ∧ v = .slice none 0 0) ∨ ∃ g cap, v = .slice (some ⟨g, 0, none⟩) L.length cap ∧ L.length ≤ cap ∧ ∃ cs, w.heap[g]? = some (.cells cs t (0, 0)) ∧ ∀ i, i < L.length → ∀ j, j < 23 → cs[i * 23 + j]? = some (.int .i64 ((L[i]?.getD fr0) j))
theorem FRow.one {w : World} {t g : Nat} {F : FR} (h : w.heap[g]? = some (.cells (fCells F) t (0, 0))) : FRow w t (.slice (some ⟨g, 0, none⟩) 1 1) [F] :=
  .inr ⟨g, 1, rfl, Nat.le_refl _, fCells F, h, fun i hi j hj => by
    have : i = 0 := by simpa using hi
    subst this
    rw [Nat.zero_mul, Nat.zero_add]
    exact fCells_at F j hj⟩
theorem FRow.two {w : World} {t base g cap : Nat} {F G : FR} (h : w.ownsRow base t 23 (.slice (some ⟨g, 0, none⟩) 2 cap) 2 ((fCells F).toList ++ (fCells G).toList)) : FRow w t (.slice (some ⟨g, 0, none⟩) 2 cap) [F, G] := by
  rcases h.2 with ⟨e, _⟩ | ⟨g', cap', cur, e, _, hg, hc, _, _, ht⟩
  · simp at e
  simp only [Value.slice.injEq, Option.some.injEq, Addr.mk.injEq, and_true, true_and] at e
  obtain ⟨rfl, rfl⟩ := e
  refine .inr ⟨g, cap, rfl, hc, cur, hg, fun i hi j hj => ?_⟩
  have hi2 : i < 2 := by simpa using hi
  have e1 : cur[i * 23 + j]? = ((fCells F).toList ++ (fCells G).toList)[i * 23 + j]? := by
    rw [← ht, List.getElem?_take, if_pos (by omega), Array.getElem?_toList]
  rw [e1]
  match i, hi2 with
  | 0, _ => rw [List.getElem?_append_left (by simp [fCells_size]; omega), Array.getElem?_toList, Nat.zero_mul, Nat.zero_add]; exact fCells_at F j hj
  | 1, _ => rw [List.getElem?_append_right (by simp [fCells_size]), Array.getElem?_toList, show 1 * 23 + j - (fCells F).toList.length = j by simp [fCells_size]]; exact fCells_at G j hj
theorem FRow.range {w : World} {t g n cap : Nat} {L : List FR} (h : FRow w t (.slice (some ⟨g, 0, none⟩) n cap) L) {i : Nat} (hi : i < L.length) : w.rangeAt g (i * 23) (fCells (L[i]?.getD fr0)).toList := by
  rcases h with ⟨_, e⟩ | ⟨g', cap', e, _, cs, hg, hc⟩
  · simp at e
  simp only [Value.slice.injEq, Option.some.injEq, Addr.mk.injEq, and_true] at e
  obtain ⟨rfl, _⟩ := e
  intro j v hv
  have hj : j < 23 := by have := (List.getElem?_eq_some_iff.1 hv).1; simpa [fCells_size] using this
  have e2 := fCells_at (L[i]?.getD fr0) j hj
  rw [← Array.getElem?_toList, hv] at e2
  rw [blk_cell hg, hc i hi j hj, e2]
theorem FRow.below {w w' : World} {t : TypeId} {v : Value} {L : List FR} (h : FRow w t v L) (hB : Below w.heap.size w w') : FRow w' t v L := by
  rcases h with h | ⟨g, cap, rfl, h1, cs, hg, hc⟩
  · exact .inl h
  · exact .inr ⟨g, cap, rfl, h1, cs, (hB.block g (blk_lt hg)).trans hg, hc⟩
theorem infoFrameZ : (Tryz.prog.info? 35).map (fun i => (i.zero, i.size, i.bytes)) = some (some (.agg (fCells fr0)), 23, 184) := by kernel_rfl
theorem fill_one (F : FR) : Instr.fill (fun i => some (i * 23, 23)) ((Array.range (1 * 23)).map ((fCells fr0)[· % (fCells fr0).size]!)) [(0, .agg (fCells F))] = some (fCells F) := by
  have h := Great.fill_whole (s := 23) (by decide) [.agg (fCells F)] ((Array.range (1 * 23)).map ((fCells fr0)[· % (fCells fr0).size]!)) (by intro v hv; simp at hv; subst hv; rfl) (by simp)
  have e : (List.flatMap (fun v : Value => v.cells.toList) [Value.agg (fCells F)]).toArray = fCells F := by
    rw [List.flatMap_cons, List.flatMap_nil, List.append_nil]
    rfl
  rw [e] at h
  exact h
section
variable {ops : Array Oper} {rest : List Oper} {op : Oper} {a : Act} {w : World} {Q : Exit → Act → World → Prop}
theorem wpList_one_f (hgd : op.guard = none) (x : Operand) (ho : op.op = .buildSlice 134 1 #[(0, x)]) (F : FR) (hx : a.eval x = .agg (fCells F)) (H : Nat) (hH : w.heap.size = H)
    (h : ∀ w', Hid (w'.heap[H]? = some (.cells (fCells F) 35 (0, 0)) ∧ w'.heap.size = H + 1 ∧ Below H w w') → wpList Tryz.prog ops Q rest (a.put op.dst (.slice (some ⟨H, 0, none⟩) 1 1)) w') : wpList Tryz.prog ops Q (op :: rest) a w := by
  obtain ⟨i0, hi, hz0, hz1, hz2⟩ := info_parts infoFrameZ
  subst hH
  refine wpList_buildSlice hgd _ 35 1 _ ho (fCells F) i0 (.agg (fCells fr0)) Tryz.underlying134 hi hz0 (by rw [hz1]; decide) (by rw [hz1]; decide) ?_ (h _ ⟨blk_new _ _, by simp, (Below.refl _ _).alloc (Nat.le_refl _) _⟩)
  rw [hz1]
  simp only [List.map_toArray, List.map_cons, List.map_nil, hx]
  exact fill_one F
end
set_option maxHeartbeats 1000000 in
theorem cycle_any (p : Nat) (C : RC) (R : RS) (w : World) (h : RpIs w p C R) :
    Calls Tryz.prog 38 #[.pointer (some ⟨p, 0, none⟩)] w fun e w' => e = .returned (.int .i64 R.cycle) ∧ w' = w := by
  have hc := h.c5
  clear h
  go_enter Tryz.func38, Tryz.ntmps38
  go_wp2
  go_ret
  exact ⟨rfl, rfl⟩
section
variable {ops : Array Oper} {rest : List Oper} {op : Oper} {a : Act} {w : World} {Q : Exit → Act → World → Prop}
theorem wpList_store_s (hgd : op.guard = none) (x y : Operand) (ho : op.op = .store 33 x y) (b : Nat) (S X : St) (hx : a.eval x = .pointer (some ⟨b, 0, none⟩)) (hy : a.eval y = .agg (stCells X)) (hS : StIs w b S)
    (h : ∀ w', Hid (StIs w' b X ∧ (∀ k, k ≠ b → w'.heap[k]? = w.heap[k]?) ∧ (∀ B, B ≤ b → Below B w w')) → wpList Tryz.prog ops Q rest (a.put op.dst undef) w') : wpList Tryz.prog ops Q (op :: rest) a w :=
  wpList_plain hgd fun _ hK => wp_store_row _ x y ho b _ hx hy _ _ hS (by rw [stateInfo]; rfl) rfl (oneCells X) (hK _ _ (h _ ⟨row_same hS X, fun _ hk => row_other _ _ _ _ hk, fun _ hB => below_row (Below.refl _ _) hB _⟩))
end
theorem load_s {w : World} {q : Nat} {S : St} (h : StIs w q S) : (loadVar 33 ⟨q, 0, none⟩).run Tryz.prog w = .ok (.agg (stCells S)) w :=
  run_loadVar_row (P := Tryz.prog) _ _ _ 33 _ _ _ h Tryz.underlying33 rfl (by rw [stateInfo]; rfl)
set_option maxHeartbeats 1000000 in
set_option maxRecDepth 20000 in
theorem rstate_any (p : Nat) (C : RC) (R : RS) (w : World) (h : RpIs w p C R) :
    Calls Tryz.prog 39 #[.pointer (some ⟨p, 0, none⟩)] w fun e w' => e = .returned (.agg (stCells R.st)) ∧ Below w.heap.size w w' := by
  have hB : Below w.heap.size w (w.alloc (.cells (stCells st0) 33)) := (Below.refl _ _).alloc (Nat.le_refl _) _
  have hS : StIs (w.alloc (.cells (stCells st0) 33)) w.heap.size st0 := blk_new _ _
  have hr := (h.below hB).state
  have HR := hide hr
  have HS := hide hS
  have HB := hide hB
  have hpl := h.lt
  clear h hr hS hB
  go_enter Tryz.func39, Tryz.ntmps39
  go_wp2_with (first
    | (refine wpList_load_mid rfl 33 _ rfl p 8 rfl (stCells R.st).toList _ HR.out Tryz.underlying33 rfl (by rw [stateInfo]; rfl) ?_)
    | (refine wpList_store_s rfl _ _ rfl w.heap.size st0 R.st rfl rfl HS.out ?_))
  intro w9 HF9
  go_wp2
  refine bodyPost_ret (v := .agg (stCells R.st)) ?_ rfl ⟨rfl, HB.out.trans (HF9.out.2.2 _ (Nat.le_refl _))⟩
  exact results_cell1 Tryz.results39 rfl (load_s HF9.out.1)
def seeR (x y : Int) (R : RS) : RS := { R with sx := x, sy := y }
set_option maxHeartbeats 1000000 in
theorem see_any (p : Nat) (C : RC) (R : RS) (x y : Int) (w : World) (h : RpIs w p C R) :
    Calls Tryz.prog 47 #[.pointer (some ⟨p, 0, none⟩), .agg #[.int .i64 x, .int .i64 y]] w fun e w' => e = .returned (.tuple #[]) ∧ RpIs w' p C (seeR x y R) ∧ Mod w w' (· = p) := by
  have h1 := h.put (R' := { R with sx := x }) (k := 25) (by decide) (.int .i64 x) (fun j _ => by
    unfold upd rpF
    by_cases e : j = 25
    · subst e; rfl
    · simp [e])
  have h2 := h1.put (R' := seeR x y R) (k := 26) (by decide) (.int .i64 y) (fun j _ => by
    unfold upd rpF seeR
    by_cases e : j = 26
    · subst e; rfl
    · simp [e])
  have hB := (Below.refl ((w.setCell ⟨p, 25, none⟩ (.int .i64 x)).setCell ⟨p, 26, none⟩ (.int .i64 y)).heap.size ((w.setCell ⟨p, 25, none⟩ (.int .i64 x)).setCell ⟨p, 26, none⟩ (.int .i64 y))).alloc (Nat.le_refl _) (.cells #[.int .i64 x, .int .i64 y] 30)
  have h3 := h2.below hB
  have hm := (((Mod.refl w (· = p)).set ⟨p, 25, none⟩ (.int .i64 x) (fun _ => rfl)).set ⟨p, 26, none⟩ (.int .i64 y) (fun _ => rfl)).below hB
  have c25 := h.c25
  have c26 := h.c26
  have f25 := h.blk.free 25
  have f26 := h.blk.free 26
  have hpl := h.lt
  have H2 := hide h3
  have HM := hide hm
  clear h h1 h2 h3 hm hB
  go_enter Tryz.func47, Tryz.ntmps47
  go_wp2
  go_end0
  exact ⟨rfl, H2.out, HM.out⟩
def isRep (x : Int) : Bool := decide (0 ≤ x) && decide (x < 3)
set_option maxHeartbeats 1000000 in
theorem isReplica_any (x : Int) (w : World) :
    Calls Tryz.prog 82 #[.int .i64 x] w fun e w' => e = .returned (.bool (isRep x)) ∧ w' = w := by
  by_cases h1 : 0 ≤ x
  · by_cases h2 : x < 3
    · have he : isRep x = true := by simp [isRep, h1, h2]
      rw [he]
      clear he
      go_enter Tryz.func82, Tryz.ntmps82
      go_wp2
      go_ret
      exact ⟨rfl, rfl⟩
    · have he : isRep x = false := by simp [isRep, h2]
      rw [he]
      clear he
      go_enter Tryz.func82, Tryz.ntmps82
      go_wp2
      go_ret
      exact ⟨rfl, rfl⟩
  · have he : isRep x = false := by simp [isRep, h1]
    rw [he]
    clear he
    go_enter Tryz.func82, Tryz.ntmps82
    go_wp2
    go_ret
    exact ⟨rfl, rfl⟩
def two3 (a b c : Nat) : Nat := a &&& b ||| b &&& c ||| c &&& a
theorem two3_lt {a b c m : Nat} (ha : a < 2 ^ m) (hb : b < 2 ^ m) : two3 a b c < 2 ^ m :=
  Nat.or_lt_two_pow (Nat.or_lt_two_pow (Nat.lt_of_le_of_lt Nat.and_le_left ha) (Nat.lt_of_le_of_lt Nat.and_le_left hb)) (Nat.lt_of_le_of_lt Nat.and_le_right ha)
set_option maxHeartbeats 1000000 in
theorem twoOf_any (a b c : Nat) (w : World) (ha : a < 4096) (hb : b < 4096) (hc : c < 4096) :
    Calls Tryz.prog 106 #[.int .i64 (a : Int), .int .i64 (b : Int), .int .i64 (c : Int)] w fun e w' => e = .returned (.int .i64 ((two3 a b c : Nat) : Int)) ∧ w' = w := by
  have h1 : a &&& b < 4096 := Nat.lt_of_le_of_lt Nat.and_le_left ha
  have h2 : b &&& c < 4096 := Nat.lt_of_le_of_lt Nat.and_le_left hb
  have h3 : c &&& a < 4096 := Nat.lt_of_le_of_lt Nat.and_le_left hc
  have h4 : a &&& b ||| b &&& c < 4096 := Nat.or_lt_two_pow (n := 12) h1 h2
  have e1 := and_nat a b (by omega) (by omega)
  have e2 := and_nat b c (by omega) (by omega)
  have e3 := and_nat c a (by omega) (by omega)
  have e4 := or_nat (a &&& b) (b &&& c) (by omega) (by omega)
  have e5 := or_nat (a &&& b ||| b &&& c) (c &&& a) (by omega) (by omega)
  have he : two3 a b c = a &&& b ||| b &&& c ||| c &&& a := rfl
  have HE := hide he
  clear he
  go_enter Tryz.func106, Tryz.ntmps106
  go_wp2
  go_ret
  rw [HE.out]
  exact ⟨rfl, rfl⟩
end Go.Proofs.YtaablbmgagiajaaGreatDoor
