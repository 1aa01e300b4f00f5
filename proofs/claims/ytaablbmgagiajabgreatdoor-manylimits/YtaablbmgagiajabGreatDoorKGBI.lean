import Derived.Test.YtaablbmgagiajabGreatDoorCards
import Derived.Test.YtaablbmgagiajabGreatDoorTie
import Derived.ShutString
import Derived.Lib.LaidTab
import Derived.MakeChecks
import Derived.WalkKit
import Derived.ProofKit
import Derived.OpenShut
import Derived.ChangeOld
import Derived.ChangeSame
import Derived.ChangeVars
import Derived.JoinedOf
import Derived.Conc.Holds
import Derived.RowKit
import Derived.RowKitTokens
import Derived.LaidLaws
import Derived.LaidHandle
import Derived.Stop.Joined
import Derived.Lib.SmallJoins
import Derived.Test.YtaablbmgagiajabGreatDoorKGBH
import Derived.ChangeArms
import Derived.ChangeSlices
namespace Go.Proofs.YtaablbmgagiajabGreatDoor
open Go.ChangeShapes Go.WideShapes Go.ChangeAt Go.RowKit Go.Joins
theorem own : ownKnob Tryz.prog.godebug = none := by kernel_rfl
theorem laidOut : laidOutB Tryz.prog = true := by kernel_rfl
theorem powT : (Tryz.prog.globals[3]?).map (·.type) = some 290 := by kernel_rfl
theorem powN : Tryz.prog.cellsOf 290 = 20 := by kernel_rfl
theorem u64N : Tryz.prog.cellsOf 98 = 1 := by kernel_rfl
theorem synT : (Tryz.prog.globals[4]?).map (·.type) = some 54 := by kernel_rfl
theorem rngT : (Tryz.prog.globals[5]?).map (·.type) = some 54 := by kernel_rfl
theorem errU : ∃ ms, Tryz.prog.underlying 54 = some (.interface ms) := ⟨_, Tryz.underlying54⟩
theorem trod_iface_inv {P : Program} {w : World} {fuel : Nat} {t : TypeId} {cs : Array Value} {nm : String} {d : DataW Unit} {p : List MemPlace} (ht : ∃ ms, P.underlying t = some (.interface ms))
    (h : DataW.trod (fun _ => ()) P w 0 (fun _ => true) false fuel t cs.toList = some (.iface nm d, p)) : ∃ u v, cs = #[.iface u v] := by
  obtain ⟨ms, ht⟩ := ht
  obtain ⟨l⟩ := cs
  cases fuel with
  | zero => simp [DataW.trod] at h
  | succ n =>
    match l, h with
    | [], h => simp [DataW.trod, ht] at h
    | [x], h =>
      cases x <;> first | exact ⟨_, _, rfl⟩ | simp [DataW.trod, ht] at h
    | x :: y :: r, h => simp [DataW.trod, ht] at h
theorem hasNum_of_laid {W : World} (h : laidMetH Tryz.prog Rows.manyLimitsRow.laid W) : HasNum W := by
  have h' : laidMet Tryz.prog [("math/bits.deBruijn32tab", Rows.laid_math_bits_deBruijn32tab), ("math/bits.deBruijn64tab", Rows.laid_math_bits_deBruijn64tab), ("internal/strconv.uint64pow10", Rows.laid_internal_strconv_uint64pow10), ("strconv.ErrRange", Rows.laid_strconv_ErrRange), ("strconv.ErrSyntax", Rows.laid_strconv_ErrSyntax)] W ∧ handlesMet Tryz.prog [("errors.errorType", Rows.laid_errors_errorType)] W := h
  obtain ⟨⟨ps, hv, _⟩, _⟩ := h'
  obtain ⟨_, _, _, _, _, _, _, _, _, _, hv, _⟩ := hv
  obtain ⟨_, _, _, _, _, _, _, _, _, _, hv, _⟩ := hv
  obtain ⟨g, t, cs, fuel, p, q, h1, h2, h3, h4, hv, _⟩ := hv
  obtain ⟨g', t', cs', fuel', p', q', k1, k2, k3, k4, hv, _⟩ := hv
  obtain ⟨g2, t2, cs2, fuel2, p2, q2, l1, l2, l3, l4, _, _⟩ := hv
  obtain rfl := Option.some.inj (powG.symm.trans h1)
  obtain rfl := Option.some.inj (powT.symm.trans h2)
  obtain rfl := Option.some.inj (rngG.symm.trans k1)
  obtain rfl := Option.some.inj (rngT.symm.trans k2)
  obtain rfl := Option.some.inj (synG.symm.trans l1)
  obtain rfl := Option.some.inj (synT.symm.trans l2)
  have hcs := Go.Lib.cells_of_tab (zs := Lib.pow10Tab) (k := .u64) Tryz.underlying290 Tryz.underlying98 u64N powN h4
  obtain ⟨u, v, rfl⟩ := trod_iface_inv errU k4
  obtain ⟨u2, v2, rfl⟩ := trod_iface_inv errU l4
  refine ⟨?_, ⟨u2, v2, l3⟩, ⟨u, v, k3⟩⟩
  unfold HasPow Lib.TabIs
  rw [h3, ← hcs]
theorem tab64G : Tryz.prog.globalNamed "math/bits.deBruijn64tab" = some 6 := by kernel_rfl
theorem low_of_laid {W : World} (h : laidMetH Tryz.prog Rows.manyLimitsRow.laid W) : 7 ≤ W.heap.size := by
  have h' : laidMet Tryz.prog [("math/bits.deBruijn32tab", Rows.laid_math_bits_deBruijn32tab), ("math/bits.deBruijn64tab", Rows.laid_math_bits_deBruijn64tab), ("internal/strconv.uint64pow10", Rows.laid_internal_strconv_uint64pow10), ("strconv.ErrRange", Rows.laid_strconv_ErrRange), ("strconv.ErrSyntax", Rows.laid_strconv_ErrSyntax)] W ∧ handlesMet Tryz.prog [("errors.errorType", Rows.laid_errors_errorType)] W := h
  obtain ⟨⟨ps, hv, _⟩, _⟩ := h'
  obtain ⟨_, _, _, _, _, _, _, _, _, _, hv, _⟩ := hv
  obtain ⟨_, _, cs, _, _, _, _, _, h3, _, _, _⟩ := hv
  unfold World.var? at h3
  rw [tab64G] at h3
  by_cases hl : 7 ≤ W.heap.size
  · exact hl
  · have : W.heap[6]? = none := Array.getElem?_eq_none (by omega)
    simp [this] at h3
theorem errTG : Tryz.prog.globalNamed "errors.errorType" = some 0 := by kernel_rfl
theorem rtypeT : (Tryz.prog.cutTypes.find? (·.1 == "internal/reflectlite.rtype")).map (·.2) = some 237 := by kernel_rfl
theorem oneRow : ((List.range 335).filter fun t => Tryz.prog.rowNamed t [101, 114, 114, 111, 114]) = [54] := by kernel_rfl
theorem typesSize : Tryz.prog.types.size = 335 := by kernel_rfl
theorem hasErrT_of_laid {W : World} (h : laidMetH Tryz.prog Rows.manyLimitsRow.laid W) : HasErrT W := by
  have h' : laidMet Tryz.prog [("math/bits.deBruijn32tab", Rows.laid_math_bits_deBruijn32tab), ("math/bits.deBruijn64tab", Rows.laid_math_bits_deBruijn64tab), ("internal/strconv.uint64pow10", Rows.laid_internal_strconv_uint64pow10), ("strconv.ErrRange", Rows.laid_strconv_ErrRange), ("strconv.ErrSyntax", Rows.laid_strconv_ErrSyntax)] W ∧ handlesMet Tryz.prog [("errors.errorType", Rows.laid_errors_errorType)] W := h
  obtain ⟨name, u, ty, e1, e2, e3, e4, e5⟩ := h'.2 _ (List.mem_singleton.2 rfl)
  have en : name = [101, 114, 114, 111, 114] := (Option.some.inj e1).symm
  subst en
  obtain rfl := Option.some.inj (rtypeT.symm.trans e2)
  have hm : ty ∈ (List.range 335).filter fun t => Tryz.prog.rowNamed t [101, 114, 114, 111, 114] := List.mem_filter.2 ⟨List.mem_range.2 (by rw [← typesSize]; exact e3), e4⟩
  rw [oneRow] at hm
  obtain rfl := List.mem_singleton.1 hm
  have hh : typeHandle Tryz.prog 54 = .pointer (some ⟨7, 54, none⟩) := by kernel_rfl
  rw [hh] at e5
  unfold HasErrT
  simpa using World.var?_cell errTG e5 0
end Go.Proofs.YtaablbmgagiajabGreatDoor
namespace Go.Proofs.YtaablbmgagiajabGreatDoor.Ren
open Go Go.Conc
theorem rowN : ((List.range 7).all fun g => (((begin Tryz.prog (fun _ _ => 0) default).world.heap[g]?).bind Obj.row?).any fun p => decide (0 < p.1.size)) = true := by kernel_rfl
theorem rowS : ([0, 4, 5].all fun g => (((begin Tryz.prog (fun _ _ => 0) default).world.heap[g]?).bind Obj.row?).any fun p => decide (p.1.size = 1)) = true := by kernel_rfl
theorem rowH : (begin Tryz.prog (fun _ _ => 0) default).world.heap[7]? = some (.cells ((Array.range 335).map fun t => .int .u64 (Int.ofNat t)) 0) := by kernel_rfl
theorem sizeH : Tryz.prog.globals.size = 7 := by kernel_rfl
theorem sizeW : 7 < (begin Tryz.prog (fun _ _ => 0) default).world.heap.size := by
  have h := rowH
  rcases Nat.lt_or_ge 7 (begin Tryz.prog (fun _ _ => 0) default).world.heap.size with h1 | h1
  · exact h1
  · rw [Array.getElem?_eq_none h1] at h; cases h
def rdLow (k : Nat) : Prop := k = 0 ∨ k = 3 ∨ k = 4 ∨ k = 5 ∨ k = 7
def nmLow (b4 b5 k : Nat) : Prop := (k < 7 ∧ ¬ rdLow k) ∨ k = b4 ∨ k = b5
theorem shaped_var {W : World} (hs : W.ShapedOpen Tryz.prog) {g : Nat} (hg : g < 7) : ∃ cs t, W.heap[g]? = some (.cells cs t (0, 0)) ∧ 0 < cs.size := by
  have h := List.all_eq_true.1 rowN g (List.mem_range.2 hg)
  cases hr : ((begin Tryz.prog (fun _ _ => 0) default).world.heap[g]?).bind Obj.row? with
  | none => rw [hr] at h; cases h
  | some p =>
    rw [hr] at h
    obtain ⟨z, t⟩ := p
    obtain ⟨cs, h1, h2, _⟩ := hs.1 g z t (by rw [sizeH]; exact hg) hr
    refine ⟨cs, t, h1, ?_⟩
    have : 0 < z.size := by simpa using h
    omega
theorem shaped_handles {W : World} (hs : W.ShapedOpen Tryz.prog) : W.heap[7]? = some (.cells ((Array.range 335).map fun t => .int .u64 (Int.ofNat t)) 0 (0, 0)) := by
  obtain ⟨o, o0, h1, h2, h3⟩ := hs.2 7 (by rw [sizeH]; exact Nat.le_refl _) sizeW
  rw [rowH] at h2
  cases h2
  rw [if_neg (by rw [sizeH]; decide)] at h3
  rw [h1, h3]
theorem not_low {W : World} (hs : W.ShapedOpen Tryz.prog) (hn : HasNum W) (hE : HasErrT W) {u4 u5 : TypeId} {v4 v5 : Value} (h4 : W.cell? ⟨4, 0, none⟩ = some (.iface u4 v4)) (h5 : W.cell? ⟨5, 0, none⟩ = some (.iface u5 v5)) {a : Addr} {s : ByteArray} (ha : W.cell? a = some (.string s)) : ¬ rdLow a.block := by
  have one : ∀ {g : Nat}, g ∈ [0, 4, 5] → g < 7 → ∀ {x : Value}, W.cell? ⟨g, 0, none⟩ = some x → a.block = g → x = .string s := fun {g} hm hg {x} hx e => by
    have h := List.all_eq_true.1 rowS g hm
    cases hr : ((begin Tryz.prog (fun _ _ => 0) default).world.heap[g]?).bind Obj.row? with
    | none => rw [hr] at h; cases h
    | some p =>
      rw [hr] at h
      obtain ⟨z, t⟩ := p
      obtain ⟨cs, h1, h2, _⟩ := hs.1 g z t (by rw [sizeH]; exact hg) hr
      have hz : z.size = 1 := by simpa using h
      rw [cell_cells (a := ⟨g, 0, none⟩) h1] at hx
      rw [cell_cells (a := a) (by rw [e]; exact h1)] at ha
      split at ha
      · cases ha
      · have h0 : a.off = 0 := by
          rcases Nat.lt_or_ge a.off cs.size with h | h
          · omega
          · rw [Array.getElem?_eq_none h] at ha; cases ha
        rw [h0] at ha
        have hx : cs[0]? = some x := by simpa using hx
        rw [hx] at ha
        exact Option.some.inj ha
  have ints : ∀ {g : Nat} {cs : Array Value} {t : TypeId} {z : Nat × Nat}, W.heap[g]? = some (.cells cs t z) → (∀ v ∈ cs, ∃ n, v = .int .u64 n) → a.block ≠ g := fun {g cs t z} h1 h2 e => by
    rw [cell_cells (a := a) (by rw [e]; exact h1)] at ha
    split at ha
    · cases ha
    · obtain ⟨n, hn⟩ := h2 _ (Array.mem_of_getElem? ha)
      cases hn
  rintro (e | e | e | e | e)
  · cases one (by simp) (by decide) hE e
  · obtain ⟨cs, t, h1, _⟩ := shaped_var hs (g := 3) (by decide)
    have hp := hn.pow
    unfold HasPow Lib.TabIs World.var? at hp
    rw [powG, Option.bind_some, h1] at hp
    have hp : cs = (Lib.pow10Tab.map fun z => Value.int .u64 z).toArray := Option.some.inj hp
    refine ints h1 (fun v hv => ?_) e
    rw [hp] at hv
    simp only [List.mem_toArray, List.mem_map] at hv
    obtain ⟨z, _, rfl⟩ := hv
    exact ⟨z, rfl⟩
  · cases one (by simp) (by decide) h4 e
  · cases one (by simp) (by decide) h5 e
  · refine ints (shaped_handles hs) (fun v hv => ?_) e
    obtain ⟨z, _, rfl⟩ := Array.mem_map.1 hv
    exact ⟨_, rfl⟩
theorem low_of_shaped {W : World} (hs : W.ShapedOpen Tryz.prog) (hn : HasNum W) (hE : HasErrT W) {a4 a5 : Addr} {u4 u5 : TypeId} (h4 : W.cell? ⟨4, 0, none⟩ = some (.iface u4 (.pointer (some a4)))) (h5 : W.cell? ⟨5, 0, none⟩ = some (.iface u5 (.pointer (some a5))))
    (k4 : ∃ c t, W.heap[a4.block]? = some (.cells c t (0, 0)) ∧ 0 < c.size) (k5 : ∃ c t, W.heap[a5.block]? = some (.cells c t (0, 0)) ∧ 0 < c.size) (n4 : ¬ rdLow a4.block) (n5 : ¬ rdLow a5.block) : LowOk rdLow (nmLow a4.block a5.block) W.heap.size W.os W.heap := by
  have lt : ∀ {k : Nat} {o : Obj}, W.heap[k]? = some o → k < W.heap.size := fun {k o} h => by
    rcases Nat.lt_or_ge k W.heap.size with h1 | h1
    · exact h1
    · rw [Array.getElem?_eq_none h1] at h; cases h
  have one : ∀ {g : Nat}, g ∈ [0, 4, 5] → g < 7 → ∀ {x : Value}, W.cell? ⟨g, 0, none⟩ = some x → ∃ t, W.heap[g]? = some (.cells #[x] t (0, 0)) := fun {g} hm hg {x} hx => by
    have h := List.all_eq_true.1 rowS g hm
    cases hr : ((begin Tryz.prog (fun _ _ => 0) default).world.heap[g]?).bind Obj.row? with
    | none => rw [hr] at h; cases h
    | some p =>
      rw [hr] at h
      obtain ⟨z, t⟩ := p
      obtain ⟨cs, h1, h2, _⟩ := hs.1 g z t (by rw [sizeH]; exact hg) hr
      have hz : z.size = 1 := by simpa using h
      obtain ⟨l⟩ := cs
      match l, h1, h2 with
      | [y], h1, _ =>
        rw [cell_cells (a := ⟨g, 0, none⟩) h1] at hx
        have : y = x := by simpa using hx
        subst this
        exact ⟨t, h1⟩
      | [], _, h2 => simp at h2; omega
      | _ :: _ :: _, _, h2 => simp at h2; omega
  have hH := shaped_handles hs
  have aH : (env Tryz.prog W.heap.size rdLow (nmLow a4.block a5.block) W.os).A W.heap.size 7 := .inr (.inl (.inr (.inr (.inr (.inr rfl)))))
  refine ⟨fun k hk => ?_, fun k hk => ?_, fun k hk hO => ?_, by rw [sizeH]; exact .inr (.inr (.inr (.inr rfl))), fun g hg => ?_⟩
  · rcases hk with rfl | rfl | rfl | rfl | rfl
    · obtain ⟨t, h1⟩ := one (by simp) (by decide) hE
      refine ⟨lt h1, _, t, h1, fun v hv => ?_⟩
      simp only [List.mem_toArray, List.mem_cons, List.not_mem_nil, or_false] at hv
      subst hv
      refine ⟨?_, trivial⟩
      rw [okV, okV]
      refine ⟨rfl, fun y hy => ?_⟩
      simp only [List.mem_toArray, List.mem_cons, List.not_mem_nil, or_false] at hy
      subst hy
      rw [okV]
      exact aH
    · obtain ⟨cs, t, h1, _⟩ := shaped_var hs (g := 3) (by decide)
      have hp := hn.pow
      unfold HasPow Lib.TabIs World.var? at hp
      rw [powG, Option.bind_some, h1] at hp
      have hp : cs = (Lib.pow10Tab.map fun z => Value.int .u64 z).toArray := Option.some.inj hp
      refine ⟨lt h1, cs, t, h1, fun v hv => ?_⟩
      rw [hp] at hv
      simp only [List.mem_toArray, List.mem_map] at hv
      obtain ⟨z, _, rfl⟩ := hv
      exact ⟨okV_plain0 rfl, trivial⟩
    · obtain ⟨t, h1⟩ := one (by simp) (by decide) h4
      refine ⟨lt h1, _, t, h1, fun v hv => ?_⟩
      simp only [List.mem_toArray, List.mem_cons, List.not_mem_nil, or_false] at hv
      subst hv
      refine ⟨?_, trivial⟩
      rw [okV, okV]
      exact ⟨rfl, .inr (.inr (.inr (.inl rfl)))⟩
    · obtain ⟨t, h1⟩ := one (by simp) (by decide) h5
      refine ⟨lt h1, _, t, h1, fun v hv => ?_⟩
      simp only [List.mem_toArray, List.mem_cons, List.not_mem_nil, or_false] at hv
      subst hv
      refine ⟨?_, trivial⟩
      rw [okV, okV]
      exact ⟨rfl, .inr (.inr (.inr (.inr rfl)))⟩
    · refine ⟨lt hH, _, _, hH, fun v hv => ?_⟩
      obtain ⟨z, _, rfl⟩ := Array.mem_map.1 hv
      exact ⟨okV_plain0 rfl, trivial⟩
  · rcases hk with ⟨hk, _⟩ | rfl | rfl
    · obtain ⟨cs, t, h1, h2⟩ := shaped_var hs hk
      exact ⟨lt h1, cs, t, h1, h2⟩
    · obtain ⟨c, t, h1, h2⟩ := k4
      exact ⟨lt h1, c, t, h1, h2⟩
    · obtain ⟨c, t, h1, h2⟩ := k5
      exact ⟨lt h1, c, t, h1, h2⟩
  · rcases hO with ⟨_, h⟩ | rfl | rfl
    · exact h hk
    · exact n4 hk
    · exact n5 hk
  · rw [sizeH] at hg
    rcases Classical.em (rdLow g) with h | h
    · exact .inl h
    · exact .inr (.inl ⟨hg, h⟩)
end Go.Proofs.YtaablbmgagiajabGreatDoor.Ren
namespace Go.Proofs.YtaablbmgagiajabGreatDoor
open Go.ChangeShapes Go.WideShapes Go.ChangeAt Go.RowKit Go.Joins
section
variable {P : Program} {W : World} {base n : Nat} {spare : Nat → Bool} {held : Bool} {t : TypeId} {cs : List Value} {d : DataW Unit} {ds : List (DataW Unit)} {l : List UInt8} {p : List MemPlace}
theorem trod_agg_inv (h : DataW.trod (fun _ => ()) P W base spare held n t cs = some (.agg ds, p)) : (∃ fs, P.underlying t = some (.struct fs)) ∨ ∃ k e, P.underlying t = some (.array k e) := by
  cases n with
  | zero => simp [DataW.trod] at h
  | succ n =>
    unfold DataW.trod at h
    split at h <;> simp_all
    all_goals (first | (split at h <;> simp_all [Option.bind_eq_some_iff, Option.map_eq_some_iff]) | (simp [Option.bind_eq_some_iff, Option.map_eq_some_iff] at h))
theorem trod_ptr_inv (h : DataW.trod (fun _ => ()) P W base spare held n t cs = some (.ptr d, p)) : ∃ e, P.underlying t = some (.pointer e) := by
  cases n with
  | zero => simp [DataW.trod] at h
  | succ n =>
    unfold DataW.trod at h
    split at h <;> simp_all
    all_goals (first | (split at h <;> simp_all [Option.bind_eq_some_iff, Option.map_eq_some_iff]) | (simp [Option.bind_eq_some_iff, Option.map_eq_some_iff] at h))
theorem trod_str_inv (h : DataW.trod (fun _ => ()) P W base spare held n t cs = some (.lit (.string l), p)) : ∃ s, cs = [.string s] := by
  cases n with
  | zero => simp [DataW.trod] at h
  | succ n =>
    unfold DataW.trod at h
    split at h <;> simp_all
    all_goals (first | (split at h <;> simp_all [Option.bind_eq_some_iff, Option.map_eq_some_iff]) | (simp [Option.bind_eq_some_iff, Option.map_eq_some_iff] at h))
theorem one_of_map {xs : List (DataW Unit × List MemPlace)} {d : DataW Unit} (h : xs.map (·.1) = [d]) : ∃ q, xs = [(d, q)] := by
  match xs, h with
  | [x], h =>
    simp only [List.map_cons, List.map_nil, List.cons.injEq, and_true] at h
    exact ⟨x.2, by rw [← h]⟩
theorem at_of_take {cs : List Value} {o c : Nat} {v : Value} (h : (cs.drop o).take c = [v]) : cs[o]? = some v := by
  have h1 : ((cs.drop o).take c)[0]? = some v := by rw [h]; rfl
  rw [List.getElem?_take] at h1
  split at h1
  · simpa using h1
  · cases h1
theorem trod_one (h : DataW.trod (fun _ => ()) P W base spare held n t cs = some (.agg [.lit (.string l)], p)) : ∃ (o : Nat) (s : ByteArray), cs[o]? = some (Value.string s) := by
  rcases trod_agg_inv h with ⟨fs, hu⟩ | ⟨k, e, hu⟩
  · obtain ⟨xs, m, _, hx, _, hlen, hf⟩ := DataW.trod_struct hu h
    simp only [Prod.mk.injEq, DataW.agg.injEq] at hx
    obtain ⟨q, rfl⟩ := one_of_map hx.1.symm
    have hz : 0 < fs.size := by rw [← hlen]; exact Nat.one_pos
    have h0 := hf 0 fs[0] (Array.getElem?_eq_getElem hz)
    obtain ⟨s, hs⟩ := trod_str_inv h0
    exact ⟨_, s, at_of_take hs⟩
  · obtain ⟨xs, m, _, hx, _, hlen, hf⟩ := DataW.trod_array hu h
    simp only [Prod.mk.injEq, DataW.agg.injEq] at hx
    obtain ⟨q, rfl⟩ := one_of_map hx.1.symm
    have hz : 0 < k := by rw [← hlen]; exact Nat.one_pos
    have h0 := hf 0 hz
    obtain ⟨s, hs⟩ := trod_str_inv h0
    exact ⟨_, s, at_of_take hs⟩
theorem trod_err {te u : TypeId} {v : Value} {nm : String} (he : ∃ ms, P.underlying te = some (.interface ms)) (ok : Value.okWide P W .any 0 u v) (h : DataW.trod (fun _ => ()) P W base spare false n te [.iface u v] = some (.iface nm (.ptr (.agg [.lit (.string l)])), p)) :
    ∃ a o s, v = .pointer (some a) ∧ MemPlace.cell a.block (a.off + o) ∈ p ∧ W.cell? (a.add o) = some (.string s) := by
  obtain ⟨ms, he⟩ := he
  cases n with
  | zero => simp [DataW.trod] at h
  | succ n =>
    unfold DataW.trod at h
    rw [he] at h
    simp only at h
    cases hN : P.typeName? 3 u with
    | none => rw [hN] at h; cases h
    | some nm' =>
      rw [hN] at h
      simp only [Option.map_eq_some_iff, Prod.mk.injEq, DataW.iface.injEq] at h
      obtain ⟨x, hx, ⟨rfl, hd⟩, rfl⟩ := h
      obtain ⟨x1, x2⟩ := x
      simp only at hd
      subst hd
      obtain ⟨e, hp⟩ := trod_ptr_inv hx
      obtain ⟨y, rfl⟩ := okWide_pointer hp ok
      rcases DataW.trod_pointer hp hx with ⟨_, e2⟩ | ⟨a, cs', z, m, _, e1, e2, e3, e4⟩
      · cases e2
      · have ea : y = some a := by simpa [Value.cells] using e1
        subst ea
        obtain ⟨z1, z2⟩ := z
        simp only [Prod.mk.injEq, DataW.ptr.injEq] at e2
        obtain ⟨rfl, rfl⟩ := e2
        obtain ⟨_, hl, hc⟩ := World.cells?_some e3
        obtain ⟨o, s, ho⟩ := trod_one e4
        have hlt : o < P.cellsOf e := by
          have := (List.getElem?_eq_some_iff.1 ho).1
          omega
        refine ⟨a, o, s, rfl, List.mem_append_left _ (List.mem_map.2 ⟨o, List.mem_range.2 hlt, rfl⟩), ?_⟩
        rw [hc o hlt]
        exact ho
end
theorem row_one (g : Nat) {n : Nat} (h : 0 < n) : MemPlace.cell g 0 ∈ MemPlace.row ⟨g, 0, none⟩ n := by
  unfold MemPlace.row
  exact List.mem_map.2 ⟨0, List.mem_range.2 h, rfl⟩
set_option maxRecDepth 100000 in
theorem errs_of_laid {W : World} (h : laidMetH Tryz.prog Rows.manyLimitsRow.laid W) : ∃ a4 a5 u4 u5 b4 b5 s4 s5, W.cell? ⟨4, 0, none⟩ = some (.iface u4 (.pointer (some a4))) ∧ W.cell? ⟨5, 0, none⟩ = some (.iface u5 (.pointer (some a5))) ∧
    (∃ c t, W.heap[a4.block]? = some (.cells c t (0, 0)) ∧ 0 < c.size) ∧ (∃ c t, W.heap[a5.block]? = some (.cells c t (0, 0)) ∧ 0 < c.size) ∧ (W.cell? b4 = some (.string s4) ∧ b4.block = a4.block) ∧ W.cell? b5 = some (.string s5) ∧ b5.block = a5.block := by
  have h' : laidMet Tryz.prog [("math/bits.deBruijn32tab", Rows.laid_math_bits_deBruijn32tab), ("math/bits.deBruijn64tab", Rows.laid_math_bits_deBruijn64tab), ("internal/strconv.uint64pow10", Rows.laid_internal_strconv_uint64pow10), ("strconv.ErrRange", Rows.laid_strconv_ErrRange), ("strconv.ErrSyntax", Rows.laid_strconv_ErrSyntax)] W ∧ handlesMet Tryz.prog [("errors.errorType", Rows.laid_errors_errorType)] W := h
  obtain ⟨⟨ps, hv, _, hps⟩, _⟩ := h'
  obtain ⟨_, _, _, _, _, q1, _, _, _, _, hv, rfl⟩ := hv
  obtain ⟨_, _, _, _, _, q2, _, _, _, _, hv, rfl⟩ := hv
  obtain ⟨_, _, _, _, _, q3, _, _, _, _, hv, rfl⟩ := hv
  obtain ⟨g', t', cs', fuel', p', q', k1, k2, k3, k4, hv, rfl⟩ := hv
  obtain ⟨g2, t2, cs2, fuel2, p2, q2', l1, l2, l3, l4, _, rfl⟩ := hv
  obtain rfl := Option.some.inj (rngG.symm.trans k1)
  obtain rfl := Option.some.inj (rngT.symm.trans k2)
  obtain rfl := Option.some.inj (synG.symm.trans l1)
  obtain rfl := Option.some.inj (synT.symm.trans l2)
  obtain ⟨u, v, rfl⟩ := trod_iface_inv errU k4
  obtain ⟨u2, v2, rfl⟩ := trod_iface_inv errU l4
  have c5 : W.cell? ⟨5, 0, none⟩ = some (.iface u v) := by simpa using World.var?_cell rngG k3 0
  have c4 : W.cell? ⟨4, 0, none⟩ = some (.iface u2 v2) := by simpa using World.var?_cell synG l3 0
  have o5 := (hps 5 0 (List.mem_append_right _ (List.mem_append_right _ (List.mem_append_right _ (List.mem_append_left _ (List.mem_append_left _ (row_one _ Nat.one_pos))))))).2 u v c5
  have o4 := (hps 4 0 (List.mem_append_right _ (List.mem_append_right _ (List.mem_append_right _ (List.mem_append_right _ (List.mem_append_left _ (List.mem_append_left _ (row_one _ Nat.one_pos)))))))).2 u2 v2 c4
  obtain ⟨a5, i5, s5, rfl, m5, e5⟩ := trod_err errU o5 k4
  obtain ⟨a4, i4, s4, rfl, m4, e4⟩ := trod_err errU o4 l4
  have bl : ∀ (a : Addr) (i : Nat), (a.add i).block = a.block := fun a i => by unfold Addr.add; split <;> rfl
  have pos : ∀ {a : Addr} {s : ByteArray} {c : Array Value} {t : TypeId}, W.heap[a.block]? = some (.cells c t (0, 0)) → W.cell? a = some (.string s) → 0 < c.size := fun {a s c t} h1 h2 => by
    rw [Ren.cell_cells h1] at h2
    split at h2
    · cases h2
    · rcases Nat.lt_or_ge a.off c.size with h | h
      · omega
      · rw [Array.getElem?_eq_none h] at h2; cases h2
  obtain ⟨b5, t5, hb5⟩ := (hps a5.block (a5.off + i5) (List.mem_append_right _ (List.mem_append_right _ (List.mem_append_right _ (List.mem_append_left _ (List.mem_append_right _ m5)))))).1
  obtain ⟨b4, t4, hb4⟩ := (hps a4.block (a4.off + i4) (List.mem_append_right _ (List.mem_append_right _ (List.mem_append_right _ (List.mem_append_right _ (List.mem_append_left _ (List.mem_append_right _ m4))))))).1
  exact ⟨a4, a5, u2, u, a4.add i4, a5.add i5, s4, s5, c4, c5, ⟨b4, t4, hb4, pos (a := a4.add i4) (by rw [bl]; exact hb4) e4⟩, ⟨b5, t5, hb5, pos (a := a5.add i5) (by rw [bl]; exact hb5) e5⟩, ⟨e4, bl _ _⟩, e5, bl _ _⟩
theorem rd_of_laid {W : World} (hs : W.ShapedOpen Tryz.prog) (h : laidMetH Tryz.prog Rows.manyLimitsRow.laid W) : ∃ O, Ren.RdLow Ren.rdLow O W.heap.size W.os W := by
  obtain ⟨a4, a5, u4, u5, b4, b5, s4, s5, h4, h5, k4, k5, ⟨e4, f4⟩, e5, f5⟩ := errs_of_laid h
  have hn := hasNum_of_laid h
  have hE := hasErrT_of_laid h
  exact ⟨_, Ren.low_of_shaped hs hn hE h4 h5 k4 k5 (f4 ▸ Ren.not_low hs hn hE h4 h5 e4) (f5 ▸ Ren.not_low hs hn hE h4 h5 e5), hn, low_of_laid h, .inr (.inl rfl), .inr (.inr (.inl rfl)), .inr (.inr (.inr (.inl rfl)))⟩
end Go.Proofs.YtaablbmgagiajabGreatDoor
