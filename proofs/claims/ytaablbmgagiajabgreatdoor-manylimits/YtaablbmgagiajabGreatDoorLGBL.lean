import Derived.ChangeArms
import Derived.ChangeSlices
import Derived.Test.YtaablbmgagiajabGreatDoorLGBK
namespace Go.Proofs.YtaablbmgagiajabGreatDoor
open Go.ChangeShapes Go.WideShapes Go.ChangeAt Go.RowKit Go.Joins
section
variable {P : Program} {W : World} {base n : Nat} {spare : Nat → Bool} {held : Bool} {t : TypeId} {cs : List Value} {d : DataW Unit} {ds : List (DataW Unit)} {l : List UInt8} {p : List MemPlace}
theorem trod_agg_inv (h : DataW.trod (fun _ => ()) P W base spare held n t cs = some (.agg ds, p)) : (∃ fs, P.underlying t = some (.struct fs)) ∨ ∃ k e, P.underlying t = some (.array k e) := by
  cases n with
  | zero => simp [DataW.trod] at h
  | succ n =>
    unfold DataW.trod at h
    split at h <;> simp_all
    all_goals (first | (split at h <;> simp_all [Option.bind_eq_some_iff, Option.map_eq_some_iff]) | (simp [Option.bind_eq_some_iff, Option.map_eq_some_iff] at h))
theorem trod_ptr_inv (h : DataW.trod (fun _ => ()) P W base spare held n t cs = some (.ptr d, p)) : ∃ e, P.underlying t = some (.pointer e) := by
  cases n with
  | zero => simp [DataW.trod] at h
  | succ n =>
    unfold DataW.trod at h
    split at h <;> simp_all
    all_goals (first | (split at h <;> simp_all [Option.bind_eq_some_iff, Option.map_eq_some_iff]) | (simp [Option.bind_eq_some_iff, Option.map_eq_some_iff] at h))
theorem trod_str_inv (h : DataW.trod (fun _ => ()) P W base spare held n t cs = some (.lit (.string l), p)) : ∃ s, cs = [.string s] := by
  cases n with
  | zero => simp [DataW.trod] at h
  | succ n =>
    unfold DataW.trod at h
    split at h <;> simp_all
    all_goals (first | (split at h <;> simp_all [Option.bind_eq_some_iff, Option.map_eq_some_iff]) | (simp [Option.bind_eq_some_iff, Option.map_eq_some_iff] at h))
theorem one_of_map {xs : List (DataW Unit × List MemPlace)} {d : DataW Unit} (h : xs.map (·.1) = [d]) : ∃ q, xs = [(d, q)] := by
  match xs, h with
  | [x], h =>
    simp only [List.map_cons, List.map_nil, List.cons.injEq, and_true] at h
    exact ⟨x.2, by rw [← h]⟩
theorem at_of_take {cs : List Value} {o c : Nat} {v : Value} (h : (cs.drop o).take c = [v]) : cs[o]? = some v := by
  have h1 : ((cs.drop o).take c)[0]? = some v := by rw [h]; rfl
  rw [List.getElem?_take] at h1
  split at h1
  · simpa using h1
  · cases h1
theorem trod_one (h : DataW.trod (fun _ => ()) P W base spare held n t cs = some (.agg [.lit (.string l)], p)) : ∃ (o : Nat) (s : ByteArray), cs[o]? = some (Value.string s) := by
  rcases trod_agg_inv h with ⟨fs, hu⟩ | ⟨k, e, hu⟩
  · obtain ⟨xs, m, _, hx, _, hlen, hf⟩ := DataW.trod_struct hu h
    simp only [Prod.mk.injEq, DataW.agg.injEq] at hx
    obtain ⟨q, rfl⟩ := one_of_map hx.1.symm
    have hz : 0 < fs.size := by rw [← hlen]; exact Nat.one_pos
    have h0 := hf 0 fs[0] (Array.getElem?_eq_getElem hz)
    obtain ⟨s, hs⟩ := trod_str_inv h0
    exact ⟨_, s, at_of_take hs⟩
  · obtain ⟨xs, m, _, hx, _, hlen, hf⟩ := DataW.trod_array hu h
    simp only [Prod.mk.injEq, DataW.agg.injEq] at hx
    obtain ⟨q, rfl⟩ := one_of_map hx.1.symm
    have hz : 0 < k := by rw [← hlen]; exact Nat.one_pos
    have h0 := hf 0 hz
    obtain ⟨s, hs⟩ := trod_str_inv h0
    exact ⟨_, s, at_of_take hs⟩
theorem trod_err {te u : TypeId} {v : Value} {nm : String} (he : ∃ ms, P.underlying te = some (.interface ms)) (ok : Value.okWide P W .any 0 u v) (h : DataW.trod (fun _ => ()) P W base spare false n te [.iface u v] = some (.iface nm (.ptr (.agg [.lit (.string l)])), p)) :
    ∃ a o s, v = .pointer (some a) ∧ MemPlace.cell a.block (a.off + o) ∈ p ∧ W.cell? (a.add o) = some (.string s) := by
  obtain ⟨ms, he⟩ := he
  cases n with
  | zero => simp [DataW.trod] at h
  | succ n =>
    unfold DataW.trod at h
    rw [he] at h
    simp only at h
    cases hN : P.typeName? 3 u with
    | none => rw [hN] at h; cases h
    | some nm' =>
      rw [hN] at h
      simp only [Option.map_eq_some_iff, Prod.mk.injEq, DataW.iface.injEq] at h
      obtain ⟨x, hx, ⟨rfl, hd⟩, rfl⟩ := h
      obtain ⟨x1, x2⟩ := x
      simp only at hd
      subst hd
      obtain ⟨e, hp⟩ := trod_ptr_inv hx
      obtain ⟨y, rfl⟩ := okWide_pointer hp ok
      rcases DataW.trod_pointer hp hx with ⟨_, e2⟩ | ⟨a, cs', z, m, _, e1, e2, e3, e4⟩
      · cases e2
      · have ea : y = some a := by simpa [Value.cells] using e1
        subst ea
        obtain ⟨z1, z2⟩ := z
        simp only [Prod.mk.injEq, DataW.ptr.injEq] at e2
        obtain ⟨rfl, rfl⟩ := e2
        obtain ⟨_, hl, hc⟩ := World.cells?_some e3
        obtain ⟨o, s, ho⟩ := trod_one e4
        have hlt : o < P.cellsOf e := by
          have := (List.getElem?_eq_some_iff.1 ho).1
          omega
        refine ⟨a, o, s, rfl, List.mem_append_left _ (List.mem_map.2 ⟨o, List.mem_range.2 hlt, rfl⟩), ?_⟩
        rw [hc o hlt]
        exact ho
end
theorem row_one (g : Nat) {n : Nat} (h : 0 < n) : MemPlace.cell g 0 ∈ MemPlace.row ⟨g, 0, none⟩ n := by
  unfold MemPlace.row
  exact List.mem_map.2 ⟨0, List.mem_range.2 h, rfl⟩
set_option maxRecDepth 100000 in
theorem errs_of_laid {W : World} (h : laidMetH Tryz.prog Rows.manyLimitsRow.laid W) : ∃ a4 a5 u4 u5 b4 b5 s4 s5, W.cell? ⟨4, 0, none⟩ = some (.iface u4 (.pointer (some a4))) ∧ W.cell? ⟨5, 0, none⟩ = some (.iface u5 (.pointer (some a5))) ∧
    (∃ c t, W.heap[a4.block]? = some (.cells c t (0, 0)) ∧ 0 < c.size) ∧ (∃ c t, W.heap[a5.block]? = some (.cells c t (0, 0)) ∧ 0 < c.size) ∧ (W.cell? b4 = some (.string s4) ∧ b4.block = a4.block) ∧ W.cell? b5 = some (.string s5) ∧ b5.block = a5.block := by
  have h' : laidMet Tryz.prog [("math/bits.deBruijn32tab", Rows.laid_math_bits_deBruijn32tab), ("math/bits.deBruijn64tab", Rows.laid_math_bits_deBruijn64tab), ("internal/strconv.uint64pow10", Rows.laid_internal_strconv_uint64pow10), ("strconv.ErrRange", Rows.laid_strconv_ErrRange), ("strconv.ErrSyntax", Rows.laid_strconv_ErrSyntax)] W ∧ handlesMet Tryz.prog [("errors.errorType", Rows.laid_errors_errorType)] W := h
  obtain ⟨⟨ps, hv, _, hps⟩, _⟩ := h'
  obtain ⟨_, _, _, _, _, q1, _, _, _, _, hv, rfl⟩ := hv
  obtain ⟨_, _, _, _, _, q2, _, _, _, _, hv, rfl⟩ := hv
  obtain ⟨_, _, _, _, _, q3, _, _, _, _, hv, rfl⟩ := hv
  obtain ⟨g', t', cs', fuel', p', q', k1, k2, k3, k4, hv, rfl⟩ := hv
  obtain ⟨g2, t2, cs2, fuel2, p2, q2', l1, l2, l3, l4, _, rfl⟩ := hv
  obtain rfl := Option.some.inj (rngG.symm.trans k1)
  obtain rfl := Option.some.inj (rngT.symm.trans k2)
  obtain rfl := Option.some.inj (synG.symm.trans l1)
  obtain rfl := Option.some.inj (synT.symm.trans l2)
  obtain ⟨u, v, rfl⟩ := trod_iface_inv errU k4
  obtain ⟨u2, v2, rfl⟩ := trod_iface_inv errU l4
  have c5 : W.cell? ⟨5, 0, none⟩ = some (.iface u v) := by simpa using World.var?_cell rngG k3 0
  have c4 : W.cell? ⟨4, 0, none⟩ = some (.iface u2 v2) := by simpa using World.var?_cell synG l3 0
  have o5 := (hps 5 0 (List.mem_append_right _ (List.mem_append_right _ (List.mem_append_right _ (List.mem_append_left _ (List.mem_append_left _ (row_one _ Nat.one_pos))))))).2 u v c5
  have o4 := (hps 4 0 (List.mem_append_right _ (List.mem_append_right _ (List.mem_append_right _ (List.mem_append_right _ (List.mem_append_left _ (List.mem_append_left _ (row_one _ Nat.one_pos)))))))).2 u2 v2 c4
  obtain ⟨a5, i5, s5, rfl, m5, e5⟩ := trod_err errU o5 k4
  obtain ⟨a4, i4, s4, rfl, m4, e4⟩ := trod_err errU o4 l4
  have bl : ∀ (a : Addr) (i : Nat), (a.add i).block = a.block := fun a i => by unfold Addr.add; split <;> rfl
  have pos : ∀ {a : Addr} {s : ByteArray} {c : Array Value} {t : TypeId}, W.heap[a.block]? = some (.cells c t (0, 0)) → W.cell? a = some (.string s) → 0 < c.size := fun {a s c t} h1 h2 => by
    rw [Ren.cell_cells h1] at h2
    split at h2
    · cases h2
    · rcases Nat.lt_or_ge a.off c.size with h | h
      · omega
      · rw [Array.getElem?_eq_none h] at h2; cases h2
  obtain ⟨b5, t5, hb5⟩ := (hps a5.block (a5.off + i5) (List.mem_append_right _ (List.mem_append_right _ (List.mem_append_right _ (List.mem_append_left _ (List.mem_append_right _ m5)))))).1
  obtain ⟨b4, t4, hb4⟩ := (hps a4.block (a4.off + i4) (List.mem_append_right _ (List.mem_append_right _ (List.mem_append_right _ (List.mem_append_right _ (List.mem_append_left _ (List.mem_append_right _ m4))))))).1
  exact ⟨a4, a5, u2, u, a4.add i4, a5.add i5, s4, s5, c4, c5, ⟨b4, t4, hb4, pos (a := a4.add i4) (by rw [bl]; exact hb4) e4⟩, ⟨b5, t5, hb5, pos (a := a5.add i5) (by rw [bl]; exact hb5) e5⟩, ⟨e4, bl _ _⟩, e5, bl _ _⟩
theorem rd_of_laid {W : World} (hs : W.ShapedOpen Tryz.prog) (h : laidMetH Tryz.prog Rows.manyLimitsRow.laid W) : ∃ O, Ren.RdLow Ren.rdLow O W.heap.size W.os W := by
  obtain ⟨a4, a5, u4, u5, b4, b5, s4, s5, h4, h5, k4, k5, ⟨e4, f4⟩, e5, f5⟩ := errs_of_laid h
  have hn := hasNum_of_laid h
  have hE := hasErrT_of_laid h
  exact ⟨_, Ren.low_of_shaped hs hn hE h4 h5 k4 k5 (f4 ▸ Ren.not_low hs hn hE h4 h5 e4) (f5 ▸ Ren.not_low hs hn hE h4 h5 e5), hn, low_of_laid h, .inr (.inl rfl), .inr (.inr (.inl rfl)), .inr (.inr (.inr (.inl rfl)))⟩
end Go.Proofs.YtaablbmgagiajabGreatDoor
