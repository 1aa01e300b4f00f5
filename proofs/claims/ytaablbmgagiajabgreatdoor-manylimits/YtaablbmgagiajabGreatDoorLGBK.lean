import Derived.Test.YtaablbmgagiajabGreatDoorCards
import Derived.Test.YtaablbmgagiajabGreatDoorTie
import Derived.ShutString
import Derived.Lib.LaidTab
import Derived.MakeChecks
import Derived.WalkKit
import Derived.ProofKit
import Derived.OpenShut
import Derived.ChangeOld
import Derived.ChangeSame
import Derived.ChangeVars
import Derived.JoinedOf
import Derived.Conc.Holds
import Derived.RowKit
import Derived.RowKitTokens
import Derived.LaidLaws
import Derived.LaidHandle
import Derived.Stop.Joined
import Derived.Lib.SmallJoins
import Derived.Test.YtaablbmgagiajabGreatDoorLGBJ
namespace Go.Proofs.YtaablbmgagiajabGreatDoor
open Go.ChangeShapes Go.WideShapes Go.ChangeAt Go.RowKit Go.Joins
theorem own : ownKnob Tryz.prog.godebug = none := by kernel_rfl
theorem laidOut : laidOutB Tryz.prog = true := by kernel_rfl
theorem powT : (Tryz.prog.globals[3]?).map (·.type) = some 290 := by kernel_rfl
theorem powN : Tryz.prog.cellsOf 290 = 20 := by kernel_rfl
theorem u64N : Tryz.prog.cellsOf 98 = 1 := by kernel_rfl
theorem synT : (Tryz.prog.globals[4]?).map (·.type) = some 54 := by kernel_rfl
theorem rngT : (Tryz.prog.globals[5]?).map (·.type) = some 54 := by kernel_rfl
theorem errU : ∃ ms, Tryz.prog.underlying 54 = some (.interface ms) := ⟨_, Tryz.underlying54⟩
theorem trod_iface_inv {P : Program} {w : World} {fuel : Nat} {t : TypeId} {cs : Array Value} {nm : String} {d : DataW Unit} {p : List MemPlace} (ht : ∃ ms, P.underlying t = some (.interface ms))
    (h : DataW.trod (fun _ => ()) P w 0 (fun _ => true) false fuel t cs.toList = some (.iface nm d, p)) : ∃ u v, cs = #[.iface u v] := by
  obtain ⟨ms, ht⟩ := ht
  obtain ⟨l⟩ := cs
  cases fuel with
  | zero => simp [DataW.trod] at h
  | succ n =>
    match l, h with
    | [], h => simp [DataW.trod, ht] at h
    | [x], h =>
      cases x <;> first | exact ⟨_, _, rfl⟩ | simp [DataW.trod, ht] at h
    | x :: y :: r, h => simp [DataW.trod, ht] at h
theorem hasNum_of_laid {W : World} (h : laidMetH Tryz.prog Rows.manyLimitsRow.laid W) : HasNum W := by
  have h' : laidMet Tryz.prog [("math/bits.deBruijn32tab", Rows.laid_math_bits_deBruijn32tab), ("math/bits.deBruijn64tab", Rows.laid_math_bits_deBruijn64tab), ("internal/strconv.uint64pow10", Rows.laid_internal_strconv_uint64pow10), ("strconv.ErrRange", Rows.laid_strconv_ErrRange), ("strconv.ErrSyntax", Rows.laid_strconv_ErrSyntax)] W ∧ handlesMet Tryz.prog [("errors.errorType", Rows.laid_errors_errorType)] W := h
  obtain ⟨⟨ps, hv, _⟩, _⟩ := h'
  obtain ⟨_, _, _, _, _, _, _, _, _, _, hv, _⟩ := hv
  obtain ⟨_, _, _, _, _, _, _, _, _, _, hv, _⟩ := hv
  obtain ⟨g, t, cs, fuel, p, q, h1, h2, h3, h4, hv, _⟩ := hv
  obtain ⟨g', t', cs', fuel', p', q', k1, k2, k3, k4, hv, _⟩ := hv
  obtain ⟨g2, t2, cs2, fuel2, p2, q2, l1, l2, l3, l4, _, _⟩ := hv
  obtain rfl := Option.some.inj (powG.symm.trans h1)
  obtain rfl := Option.some.inj (powT.symm.trans h2)
  obtain rfl := Option.some.inj (rngG.symm.trans k1)
  obtain rfl := Option.some.inj (rngT.symm.trans k2)
  obtain rfl := Option.some.inj (synG.symm.trans l1)
  obtain rfl := Option.some.inj (synT.symm.trans l2)
  have hcs := Go.Lib.cells_of_tab (zs := Lib.pow10Tab) (k := .u64) Tryz.underlying290 Tryz.underlying98 u64N powN h4
  obtain ⟨u, v, rfl⟩ := trod_iface_inv errU k4
  obtain ⟨u2, v2, rfl⟩ := trod_iface_inv errU l4
  refine ⟨?_, ⟨u2, v2, l3⟩, ⟨u, v, k3⟩⟩
  unfold HasPow Lib.TabIs
  rw [h3, ← hcs]
theorem tab64G : Tryz.prog.globalNamed "math/bits.deBruijn64tab" = some 6 := by kernel_rfl
theorem low_of_laid {W : World} (h : laidMetH Tryz.prog Rows.manyLimitsRow.laid W) : 7 ≤ W.heap.size := by
  have h' : laidMet Tryz.prog [("math/bits.deBruijn32tab", Rows.laid_math_bits_deBruijn32tab), ("math/bits.deBruijn64tab", Rows.laid_math_bits_deBruijn64tab), ("internal/strconv.uint64pow10", Rows.laid_internal_strconv_uint64pow10), ("strconv.ErrRange", Rows.laid_strconv_ErrRange), ("strconv.ErrSyntax", Rows.laid_strconv_ErrSyntax)] W ∧ handlesMet Tryz.prog [("errors.errorType", Rows.laid_errors_errorType)] W := h
  obtain ⟨⟨ps, hv, _⟩, _⟩ := h'
  obtain ⟨_, _, _, _, _, _, _, _, _, _, hv, _⟩ := hv
  obtain ⟨_, _, cs, _, _, _, _, _, h3, _, _, _⟩ := hv
  unfold World.var? at h3
  rw [tab64G] at h3
  by_cases hl : 7 ≤ W.heap.size
  · exact hl
  · have : W.heap[6]? = none := Array.getElem?_eq_none (by omega)
    simp [this] at h3
theorem errTG : Tryz.prog.globalNamed "errors.errorType" = some 0 := by kernel_rfl
theorem rtypeT : (Tryz.prog.cutTypes.find? (·.1 == "internal/reflectlite.rtype")).map (·.2) = some 237 := by kernel_rfl
theorem oneRow : ((List.range 335).filter fun t => Tryz.prog.rowNamed t [101, 114, 114, 111, 114]) = [54] := by kernel_rfl
theorem typesSize : Tryz.prog.types.size = 335 := by kernel_rfl
theorem hasErrT_of_laid {W : World} (h : laidMetH Tryz.prog Rows.manyLimitsRow.laid W) : HasErrT W := by
  have h' : laidMet Tryz.prog [("math/bits.deBruijn32tab", Rows.laid_math_bits_deBruijn32tab), ("math/bits.deBruijn64tab", Rows.laid_math_bits_deBruijn64tab), ("internal/strconv.uint64pow10", Rows.laid_internal_strconv_uint64pow10), ("strconv.ErrRange", Rows.laid_strconv_ErrRange), ("strconv.ErrSyntax", Rows.laid_strconv_ErrSyntax)] W ∧ handlesMet Tryz.prog [("errors.errorType", Rows.laid_errors_errorType)] W := h
  obtain ⟨name, u, ty, e1, e2, e3, e4, e5⟩ := h'.2 _ (List.mem_singleton.2 rfl)
  have en : name = [101, 114, 114, 111, 114] := (Option.some.inj e1).symm
  subst en
  obtain rfl := Option.some.inj (rtypeT.symm.trans e2)
  have hm : ty ∈ (List.range 335).filter fun t => Tryz.prog.rowNamed t [101, 114, 114, 111, 114] := List.mem_filter.2 ⟨List.mem_range.2 (by rw [← typesSize]; exact e3), e4⟩
  rw [oneRow] at hm
  obtain rfl := List.mem_singleton.1 hm
  have hh : typeHandle Tryz.prog 54 = .pointer (some ⟨7, 54, none⟩) := by kernel_rfl
  rw [hh] at e5
  unfold HasErrT
  simpa using World.var?_cell errTG e5 0
end Go.Proofs.YtaablbmgagiajabGreatDoor
namespace Go.Proofs.YtaablbmgagiajabGreatDoor.Ren
open Go Go.Conc
theorem rowN : ((List.range 7).all fun g => (((begin Tryz.prog (fun _ _ => 0) default).world.heap[g]?).bind Obj.row?).any fun p => decide (0 < p.1.size)) = true := by kernel_rfl
theorem rowS : ([0, 4, 5].all fun g => (((begin Tryz.prog (fun _ _ => 0) default).world.heap[g]?).bind Obj.row?).any fun p => decide (p.1.size = 1)) = true := by kernel_rfl
theorem rowH : (begin Tryz.prog (fun _ _ => 0) default).world.heap[7]? = some (.cells ((Array.range 335).map fun t => .int .u64 (Int.ofNat t)) 0) := by kernel_rfl
theorem sizeH : Tryz.prog.globals.size = 7 := by kernel_rfl
theorem sizeW : 7 < (begin Tryz.prog (fun _ _ => 0) default).world.heap.size := by
  have h := rowH
  rcases Nat.lt_or_ge 7 (begin Tryz.prog (fun _ _ => 0) default).world.heap.size with h1 | h1
  · exact h1
  · rw [Array.getElem?_eq_none h1] at h; cases h
def rdLow (k : Nat) : Prop := k = 0 ∨ k = 3 ∨ k = 4 ∨ k = 5 ∨ k = 7
def nmLow (b4 b5 k : Nat) : Prop := (k < 7 ∧ ¬ rdLow k) ∨ k = b4 ∨ k = b5
theorem shaped_var {W : World} (hs : W.ShapedOpen Tryz.prog) {g : Nat} (hg : g < 7) : ∃ cs t, W.heap[g]? = some (.cells cs t (0, 0)) ∧ 0 < cs.size := by
  have h := List.all_eq_true.1 rowN g (List.mem_range.2 hg)
  cases hr : ((begin Tryz.prog (fun _ _ => 0) default).world.heap[g]?).bind Obj.row? with
  | none => rw [hr] at h; cases h
  | some p =>
    rw [hr] at h
    obtain ⟨z, t⟩ := p
    obtain ⟨cs, h1, h2, _⟩ := hs.1 g z t (by rw [sizeH]; exact hg) hr
    refine ⟨cs, t, h1, ?_⟩
    have : 0 < z.size := by simpa using h
    omega
theorem shaped_handles {W : World} (hs : W.ShapedOpen Tryz.prog) : W.heap[7]? = some (.cells ((Array.range 335).map fun t => .int .u64 (Int.ofNat t)) 0 (0, 0)) := by
  obtain ⟨o, o0, h1, h2, h3⟩ := hs.2 7 (by rw [sizeH]; exact Nat.le_refl _) sizeW
  rw [rowH] at h2
  cases h2
  rw [if_neg (by rw [sizeH]; decide)] at h3
  rw [h1, h3]
theorem not_low {W : World} (hs : W.ShapedOpen Tryz.prog) (hn : HasNum W) (hE : HasErrT W) {u4 u5 : TypeId} {v4 v5 : Value} (h4 : W.cell? ⟨4, 0, none⟩ = some (.iface u4 v4)) (h5 : W.cell? ⟨5, 0, none⟩ = some (.iface u5 v5)) {a : Addr} {s : ByteArray} (ha : W.cell? a = some (.string s)) : ¬ rdLow a.block := by
  have one : ∀ {g : Nat}, g ∈ [0, 4, 5] → g < 7 → ∀ {x : Value}, W.cell? ⟨g, 0, none⟩ = some x → a.block = g → x = .string s := fun {g} hm hg {x} hx e => by
    have h := List.all_eq_true.1 rowS g hm
    cases hr : ((begin Tryz.prog (fun _ _ => 0) default).world.heap[g]?).bind Obj.row? with
    | none => rw [hr] at h; cases h
    | some p =>
      rw [hr] at h
      obtain ⟨z, t⟩ := p
      obtain ⟨cs, h1, h2, _⟩ := hs.1 g z t (by rw [sizeH]; exact hg) hr
      have hz : z.size = 1 := by simpa using h
      rw [cell_cells (a := ⟨g, 0, none⟩) h1] at hx
      rw [cell_cells (a := a) (by rw [e]; exact h1)] at ha
      split at ha
      · cases ha
      · have h0 : a.off = 0 := by
          rcases Nat.lt_or_ge a.off cs.size with h | h
          · omega
          · rw [Array.getElem?_eq_none h] at ha; cases ha
        rw [h0] at ha
        have hx : cs[0]? = some x := by simpa using hx
        rw [hx] at ha
        exact Option.some.inj ha
  have ints : ∀ {g : Nat} {cs : Array Value} {t : TypeId} {z : Nat × Nat}, W.heap[g]? = some (.cells cs t z) → (∀ v ∈ cs, ∃ n, v = .int .u64 n) → a.block ≠ g := fun {g cs t z} h1 h2 e => by
    rw [cell_cells (a := a) (by rw [e]; exact h1)] at ha
    split at ha
    · cases ha
    · obtain ⟨n, hn⟩ := h2 _ (Array.mem_of_getElem? ha)
      cases hn
  rintro (e | e | e | e | e)
  · cases one (by simp) (by decide) hE e
  · obtain ⟨cs, t, h1, _⟩ := shaped_var hs (g := 3) (by decide)
    have hp := hn.pow
    unfold HasPow Lib.TabIs World.var? at hp
    rw [powG, Option.bind_some, h1] at hp
    have hp : cs = (Lib.pow10Tab.map fun z => Value.int .u64 z).toArray := Option.some.inj hp
    refine ints h1 (fun v hv => ?_) e
    rw [hp] at hv
    simp only [List.mem_toArray, List.mem_map] at hv
    obtain ⟨z, _, rfl⟩ := hv
    exact ⟨z, rfl⟩
  · cases one (by simp) (by decide) h4 e
  · cases one (by simp) (by decide) h5 e
  · refine ints (shaped_handles hs) (fun v hv => ?_) e
    obtain ⟨z, _, rfl⟩ := Array.mem_map.1 hv
    exact ⟨_, rfl⟩
theorem low_of_shaped {W : World} (hs : W.ShapedOpen Tryz.prog) (hn : HasNum W) (hE : HasErrT W) {a4 a5 : Addr} {u4 u5 : TypeId} (h4 : W.cell? ⟨4, 0, none⟩ = some (.iface u4 (.pointer (some a4)))) (h5 : W.cell? ⟨5, 0, none⟩ = some (.iface u5 (.pointer (some a5))))
    (k4 : ∃ c t, W.heap[a4.block]? = some (.cells c t (0, 0)) ∧ 0 < c.size) (k5 : ∃ c t, W.heap[a5.block]? = some (.cells c t (0, 0)) ∧ 0 < c.size) (n4 : ¬ rdLow a4.block) (n5 : ¬ rdLow a5.block) : LowOk rdLow (nmLow a4.block a5.block) W.heap.size W.os W.heap := by
  have lt : ∀ {k : Nat} {o : Obj}, W.heap[k]? = some o → k < W.heap.size := fun {k o} h => by
    rcases Nat.lt_or_ge k W.heap.size with h1 | h1
    · exact h1
    · rw [Array.getElem?_eq_none h1] at h; cases h
  have one : ∀ {g : Nat}, g ∈ [0, 4, 5] → g < 7 → ∀ {x : Value}, W.cell? ⟨g, 0, none⟩ = some x → ∃ t, W.heap[g]? = some (.cells #[x] t (0, 0)) := fun {g} hm hg {x} hx => by
    have h := List.all_eq_true.1 rowS g hm
    cases hr : ((begin Tryz.prog (fun _ _ => 0) default).world.heap[g]?).bind Obj.row? with
    | none => rw [hr] at h; cases h
    | some p =>
      rw [hr] at h
      obtain ⟨z, t⟩ := p
      obtain ⟨cs, h1, h2, _⟩ := hs.1 g z t (by rw [sizeH]; exact hg) hr
      have hz : z.size = 1 := by simpa using h
      obtain ⟨l⟩ := cs
      match l, h1, h2 with
      | [y], h1, _ =>
        rw [cell_cells (a := ⟨g, 0, none⟩) h1] at hx
        have : y = x := by simpa using hx
        subst this
        exact ⟨t, h1⟩
      | [], _, h2 => simp at h2; omega
      | _ :: _ :: _, _, h2 => simp at h2; omega
  have hH := shaped_handles hs
  have aH : (env W.heap.size rdLow (nmLow a4.block a5.block) W.os).A W.heap.size 7 := .inr (.inl (.inr (.inr (.inr (.inr rfl)))))
  refine ⟨fun k hk => ?_, fun k hk => ?_, fun k hk hO => ?_, by rw [sizeH]; exact .inr (.inr (.inr (.inr rfl))), fun g hg => ?_⟩
  · rcases hk with rfl | rfl | rfl | rfl | rfl
    · obtain ⟨t, h1⟩ := one (by simp) (by decide) hE
      refine ⟨lt h1, _, t, h1, fun v hv => ?_⟩
      simp only [List.mem_toArray, List.mem_cons, List.not_mem_nil, or_false] at hv
      subst hv
      refine ⟨?_, trivial⟩
      rw [okV, okV]
      refine ⟨rfl, fun y hy => ?_⟩
      simp only [List.mem_toArray, List.mem_cons, List.not_mem_nil, or_false] at hy
      subst hy
      rw [okV]
      exact aH
    · obtain ⟨cs, t, h1, _⟩ := shaped_var hs (g := 3) (by decide)
      have hp := hn.pow
      unfold HasPow Lib.TabIs World.var? at hp
      rw [powG, Option.bind_some, h1] at hp
      have hp : cs = (Lib.pow10Tab.map fun z => Value.int .u64 z).toArray := Option.some.inj hp
      refine ⟨lt h1, cs, t, h1, fun v hv => ?_⟩
      rw [hp] at hv
      simp only [List.mem_toArray, List.mem_map] at hv
      obtain ⟨z, _, rfl⟩ := hv
      exact ⟨okV_plain0 rfl, trivial⟩
    · obtain ⟨t, h1⟩ := one (by simp) (by decide) h4
      refine ⟨lt h1, _, t, h1, fun v hv => ?_⟩
      simp only [List.mem_toArray, List.mem_cons, List.not_mem_nil, or_false] at hv
      subst hv
      refine ⟨?_, trivial⟩
      rw [okV, okV]
      exact ⟨rfl, .inr (.inr (.inr (.inl rfl)))⟩
    · obtain ⟨t, h1⟩ := one (by simp) (by decide) h5
      refine ⟨lt h1, _, t, h1, fun v hv => ?_⟩
      simp only [List.mem_toArray, List.mem_cons, List.not_mem_nil, or_false] at hv
      subst hv
      refine ⟨?_, trivial⟩
      rw [okV, okV]
      exact ⟨rfl, .inr (.inr (.inr (.inr rfl)))⟩
    · refine ⟨lt hH, _, _, hH, fun v hv => ?_⟩
      obtain ⟨z, _, rfl⟩ := Array.mem_map.1 hv
      exact ⟨okV_plain0 rfl, trivial⟩
  · rcases hk with ⟨hk, _⟩ | rfl | rfl
    · obtain ⟨cs, t, h1, h2⟩ := shaped_var hs hk
      exact ⟨lt h1, cs, t, h1, h2⟩
    · obtain ⟨c, t, h1, h2⟩ := k4
      exact ⟨lt h1, c, t, h1, h2⟩
    · obtain ⟨c, t, h1, h2⟩ := k5
      exact ⟨lt h1, c, t, h1, h2⟩
  · rcases hO with ⟨_, h⟩ | rfl | rfl
    · exact h hk
    · exact n4 hk
    · exact n5 hk
  · rw [sizeH] at hg
    rcases Classical.em (rdLow g) with h | h
    · exact .inl h
    · exact .inr (.inl ⟨hg, h⟩)
end Go.Proofs.YtaablbmgagiajabGreatDoor.Ren
