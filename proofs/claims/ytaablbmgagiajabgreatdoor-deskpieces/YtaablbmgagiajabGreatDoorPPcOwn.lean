/- Proved: for every input triumvirkeep.DeskPieces returns true and leaves its arguments as they were, the package variables that its card ties (math/bits' tables, internal/strconv.uint64pow10, errors.errorType, strconv.ErrRange, strconv.ErrSyntax) being as the program's text lays them. No other condition beyond the form's own. -/
import Derived.Test.YtaablbmgagiajabGreatDoorCards
import Derived.Test.YtaablbmgagiajabGreatDoorTie
import Derived.ShutString
import Derived.Lib.LaidTab
import Derived.MakeChecks
import Derived.WalkKit
import Derived.ProofKit
import Derived.OpenShut
import Derived.ChangeOld
import Derived.ChangeSame
import Derived.ChangeVars
import Derived.JoinedOf
import Derived.Conc.Holds
import Derived.RowKit
import Derived.RowKitTokens
import Derived.LaidLaws
import Derived.LaidHandle
import Derived.Stop.Joined
import Derived.Lib.SmallJoins
import Derived.Test.YtaablbmgagiajabGreatDoorPGBR
namespace Go.Proofs.YtaablbmgagiajabGreatDoor
open Go.ChangeShapes Go.WideShapes Go.ChangeAt Go.RowKit Go.Joins
set_option maxRecDepth 10000 in
theorem open_text {H : Type} {enc : TypeId × Value → H} {W : World} {base b0 : Nat} {spare : Nat → Bool} {held : Bool} {r : Reach} {v : Value} {d : DataW H} {p : List MemPlace} (hv : Value.okWide Tryz.prog W r b0 9 v)
    (h : DataW.Trod enc Tryz.prog W base spare held 9 v d p) : ∃ l : List UInt8, v = .string (txt l) ∧ d = .lit (.string l) := by
  obtain ⟨s, rfl⟩ := okWide_string Tryz.underlying9 hv
  obtain ⟨fuel, hf⟩ := h
  obtain ⟨s', e, hx, _⟩ := DataW.trod_string Tryz.underlying9 hf
  have es : s = s' := by simpa [Value.cells] using e
  subst es
  refine ⟨s.data.toList, rfl, ?_⟩
  exact congrArg Prod.fst hx
theorem leaving_of_alone {P : Program} {last : Machine} {w : World} {t : Trace} (h : aloneAtReturn P last w t) : leavingAtReturn P last w t := by
  obtain ⟨⟨h1, h2⟩, h3, h4⟩ := h
  refine ⟨h3, ⟨fun g hg => ⟨0, ?_⟩, h2⟩, h4⟩
  have := List.all_eq_true.1 h1 g hg
  exact eq_of_beq this
theorem leaving_of_handed {a : Assume} {C : Checked} {os : Os} {f : FuncId} {r : Reach} {Pre : World → Array Value → Prop} {Post : World → Array Value → Value → World → Prop} (h : ReturnsInHanded a C os f r Pre Post) : ReturnsInLeavingWide a C os f r Pre Post := fun enter => by
  obtain ⟨g0, g1, g2, g3, all1⟩ := h enter
  refine ⟨g0, g1, g2, g3, fun w tape i hf => ?_⟩
  obtain ⟨n, v, w', hn, hc, hr, hp, ⟨j, last, hj, hs, hq⟩, ha⟩ := all1 w tape i hf
  exact ⟨n, v, w', hn, hc, hr, hp, ⟨j, last, hj, hs, leaving_of_alone hq⟩, ha⟩
theorem own : ownKnob Tryz.prog.godebug = none := by kernel_rfl
theorem laidOut : laidOutB Tryz.prog = true := by kernel_rfl
theorem powT : (Tryz.prog.globals[3]?).map (·.type) = some 290 := by kernel_rfl
theorem powN : Tryz.prog.cellsOf 290 = 20 := by kernel_rfl
theorem u64N : Tryz.prog.cellsOf 98 = 1 := by kernel_rfl
theorem synT : (Tryz.prog.globals[4]?).map (·.type) = some 54 := by kernel_rfl
theorem rngT : (Tryz.prog.globals[5]?).map (·.type) = some 54 := by kernel_rfl
theorem errU : ∃ ms, Tryz.prog.underlying 54 = some (.interface ms) := ⟨_, Tryz.underlying54⟩
theorem trod_iface_inv {P : Program} {w : World} {fuel : Nat} {t : TypeId} {cs : Array Value} {nm : String} {d : DataW Unit} {p : List MemPlace} (ht : ∃ ms, P.underlying t = some (.interface ms))
    (h : DataW.trod (fun _ => ()) P w 0 (fun _ => true) false fuel t cs.toList = some (.iface nm d, p)) : ∃ u v, cs = #[.iface u v] := by
  obtain ⟨ms, ht⟩ := ht
  obtain ⟨l⟩ := cs
  cases fuel with
  | zero => simp [DataW.trod] at h
  | succ n =>
    match l, h with
    | [], h => simp [DataW.trod, ht] at h
    | [x], h =>
      cases x <;> first | exact ⟨_, _, rfl⟩ | simp [DataW.trod, ht] at h
    | x :: y :: r, h => simp [DataW.trod, ht] at h
theorem hasNum_of_laid {W : World} (h : laidMetH Tryz.prog Rows.deskPiecesRow.laid W) : HasNum W := by
  have h' : laidMet Tryz.prog [("math/bits.deBruijn32tab", Rows.laid_math_bits_deBruijn32tab), ("math/bits.deBruijn64tab", Rows.laid_math_bits_deBruijn64tab), ("internal/strconv.uint64pow10", Rows.laid_internal_strconv_uint64pow10), ("strconv.ErrRange", Rows.laid_strconv_ErrRange), ("strconv.ErrSyntax", Rows.laid_strconv_ErrSyntax)] W ∧ handlesMet Tryz.prog [("errors.errorType", Rows.laid_errors_errorType)] W := h
  obtain ⟨⟨ps, hv, _⟩, _⟩ := h'
  obtain ⟨_, _, _, _, _, _, _, _, _, _, hv, _⟩ := hv
  obtain ⟨_, _, _, _, _, _, _, _, _, _, hv, _⟩ := hv
  obtain ⟨g, t, cs, fuel, p, q, h1, h2, h3, h4, hv, _⟩ := hv
  obtain ⟨g', t', cs', fuel', p', q', k1, k2, k3, k4, hv, _⟩ := hv
  obtain ⟨g2, t2, cs2, fuel2, p2, q2, l1, l2, l3, l4, _, _⟩ := hv
  obtain rfl := Option.some.inj (powG.symm.trans h1)
  obtain rfl := Option.some.inj (powT.symm.trans h2)
  obtain rfl := Option.some.inj (rngG.symm.trans k1)
  obtain rfl := Option.some.inj (rngT.symm.trans k2)
  obtain rfl := Option.some.inj (synG.symm.trans l1)
  obtain rfl := Option.some.inj (synT.symm.trans l2)
  have hcs := Go.Lib.cells_of_tab (zs := Lib.pow10Tab) (k := .u64) Tryz.underlying290 Tryz.underlying98 u64N powN h4
  obtain ⟨u, v, rfl⟩ := trod_iface_inv errU k4
  obtain ⟨u2, v2, rfl⟩ := trod_iface_inv errU l4
  refine ⟨?_, ⟨u2, v2, l3⟩, ⟨u, v, k3⟩⟩
  unfold HasPow Lib.TabIs
  rw [h3, ← hcs]
theorem tab64G : Tryz.prog.globalNamed "math/bits.deBruijn64tab" = some 6 := by kernel_rfl
theorem low_of_laid {W : World} (h : laidMetH Tryz.prog Rows.deskPiecesRow.laid W) : 7 ≤ W.heap.size := by
  have h' : laidMet Tryz.prog [("math/bits.deBruijn32tab", Rows.laid_math_bits_deBruijn32tab), ("math/bits.deBruijn64tab", Rows.laid_math_bits_deBruijn64tab), ("internal/strconv.uint64pow10", Rows.laid_internal_strconv_uint64pow10), ("strconv.ErrRange", Rows.laid_strconv_ErrRange), ("strconv.ErrSyntax", Rows.laid_strconv_ErrSyntax)] W ∧ handlesMet Tryz.prog [("errors.errorType", Rows.laid_errors_errorType)] W := h
  obtain ⟨⟨ps, hv, _⟩, _⟩ := h'
  obtain ⟨_, _, _, _, _, _, _, _, _, _, hv, _⟩ := hv
  obtain ⟨_, _, cs, _, _, _, _, _, h3, _, _, _⟩ := hv
  unfold World.var? at h3
  rw [tab64G] at h3
  by_cases hl : 7 ≤ W.heap.size
  · exact hl
  · have : W.heap[6]? = none := Array.getElem?_eq_none (by omega)
    simp [this] at h3
theorem errTG : Tryz.prog.globalNamed "errors.errorType" = some 0 := by kernel_rfl
theorem rtypeT : (Tryz.prog.cutTypes.find? (·.1 == "internal/reflectlite.rtype")).map (·.2) = some 237 := by kernel_rfl
theorem oneRow : ((List.range 335).filter fun t => Tryz.prog.rowNamed t [101, 114, 114, 111, 114]) = [54] := by kernel_rfl
theorem typesSize : Tryz.prog.types.size = 335 := by kernel_rfl
theorem hasErrT_of_laid {W : World} (h : laidMetH Tryz.prog Rows.deskPiecesRow.laid W) : HasErrT W := by
  have h' : laidMet Tryz.prog [("math/bits.deBruijn32tab", Rows.laid_math_bits_deBruijn32tab), ("math/bits.deBruijn64tab", Rows.laid_math_bits_deBruijn64tab), ("internal/strconv.uint64pow10", Rows.laid_internal_strconv_uint64pow10), ("strconv.ErrRange", Rows.laid_strconv_ErrRange), ("strconv.ErrSyntax", Rows.laid_strconv_ErrSyntax)] W ∧ handlesMet Tryz.prog [("errors.errorType", Rows.laid_errors_errorType)] W := h
  obtain ⟨name, u, ty, e1, e2, e3, e4, e5⟩ := h'.2 _ (List.mem_singleton.2 rfl)
  have en : name = [101, 114, 114, 111, 114] := (Option.some.inj e1).symm
  subst en
  obtain rfl := Option.some.inj (rtypeT.symm.trans e2)
  have hm : ty ∈ (List.range 335).filter fun t => Tryz.prog.rowNamed t [101, 114, 114, 111, 114] := List.mem_filter.2 ⟨List.mem_range.2 (by rw [← typesSize]; exact e3), e4⟩
  rw [oneRow] at hm
  obtain rfl := List.mem_singleton.1 hm
  have hh : typeHandle Tryz.prog 54 = .pointer (some ⟨7, 54, none⟩) := by kernel_rfl
  rw [hh] at e5
  unfold HasErrT
  simpa using World.var?_cell errTG e5 0
def litCells : DataW Unit → Array Value
  | .agg l => (l.map fun | .lit (.int k z) => Value.int k z | _ => undef).toArray
  | _ => #[]
def setVar (cs : Array Value) : Obj → Obj
  | .cells _ t frozen => .cells cs t frozen
  | o => o
theorem laidWorld_met (os : Os) (args : Array Value) : laidMetH Tryz.prog Rows.deskPiecesRow.laid (({ World.holding Tryz.prog os ⟨#[], #[], []⟩ with heap := (((((((((World.holding Tryz.prog os ⟨#[], #[], []⟩).heap.modify 1 (setVar (litCells Rows.laid_math_bits_deBruijn32tab))).modify 6 (setVar (litCells Rows.laid_math_bits_deBruijn64tab))).modify 3 (setVar (litCells Rows.laid_internal_strconv_uint64pow10))).modify 0 (setVar #[.iface 237 (.agg #[.pointer (some ⟨7, 54, none⟩)])])).modify 5 (setVar #[.iface 306 (.pointer (some ⟨(World.holding Tryz.prog os ⟨#[], #[], []⟩).heap.size, 0, none⟩))])).modify 4 (setVar #[.iface 306 (.pointer (some ⟨(World.holding Tryz.prog os ⟨#[], #[], []⟩).heap.size + 1, 0, none⟩))])).push (.cells #[.string ⟨#[118, 97, 108, 117, 101, 32, 111, 117, 116, 32, 111, 102, 32, 114, 97, 110, 103, 101]⟩] 308 (0, 0))).push (.cells #[.string ⟨#[105, 110, 118, 97, 108, 105, 100, 32, 115, 121, 110, 116, 97, 120]⟩] 308 (0, 0))) } : World).forCall (fun _ _ => 0) ⟨#[], args, []⟩).memory :=
  laidMetH_of_parts (laidMet_of_run' 8 (by kernel_rfl) (by kernel_rfl)) (by kernel_rfl)
set_option maxRecDepth 100000 in
theorem deskPieces_lifted (os : Os) (started : os.Started) (H : Type) (enc : TypeId × Value → H) :
    ReturnsInHanded {} Tryz.checked os 5 .any (fun w args => (Rows.deskPiecesSpec.pre enc Tryz.prog Tryz.f5 [] false w args ∧ laidMetH Tryz.prog Rows.deskPiecesRow.laid w) ∧ sizedMet enc Tryz.prog Tryz.f5 (OpenSpec.ofChange Rows.deskPiecesSpec) false w args)
      (Rows.deskPiecesSpec.post enc Tryz.prog Tryz.f5 false true false false) := by
  refine returnsInHanded_of_change_and (C := Tryz.checked) (X := fun w _ => laidMetH Tryz.prog Rows.deskPiecesRow.laid w) (fun _ _ _ hh h => h.of_heap hh) own started (by kernel_rfl) Tryz.func5
    (ChangeSpec.witness_at (enc := enc) (C := Tryz.checked) (os := os) (X := fun w _ => laidMetH Tryz.prog Rows.deskPiecesRow.laid w) false ({ World.holding Tryz.prog os ⟨#[], #[], []⟩ with heap := (((((((((World.holding Tryz.prog os ⟨#[], #[], []⟩).heap.modify 1 (setVar (litCells Rows.laid_math_bits_deBruijn32tab))).modify 6 (setVar (litCells Rows.laid_math_bits_deBruijn64tab))).modify 3 (setVar (litCells Rows.laid_internal_strconv_uint64pow10))).modify 0 (setVar #[.iface 237 (.agg #[.pointer (some ⟨7, 54, none⟩)])])).modify 5 (setVar #[.iface 306 (.pointer (some ⟨(World.holding Tryz.prog os ⟨#[], #[], []⟩).heap.size, 0, none⟩))])).modify 4 (setVar #[.iface 306 (.pointer (some ⟨(World.holding Tryz.prog os ⟨#[], #[], []⟩).heap.size + 1, 0, none⟩))])).push (.cells #[.string ⟨#[118, 97, 108, 117, 101, 32, 111, 117, 116, 32, 111, 102, 32, 114, 97, 110, 103, 101]⟩] 308 (0, 0))).push (.cells #[.string ⟨#[105, 110, 118, 97, 108, 105, 100, 32, 115, 121, 110, 116, 97, 120]⟩] 308 (0, 0))) } : World) #[.string ⟨#[]⟩, .string ⟨#[]⟩] 8 rfl (by kernel_rfl) (by kernel_rfl) (by kernel_rfl) (by kernel_rfl) (by kernel_rfl) (laidWorld_met os _)) ?_
  intro W base args ds gs before hval0 hW _ hWt0 hL _
  have hval : ∀ (j : Nat) t v, Tryz.f5.params[j]? = some t → args[j]? = some v → Value.okWide Tryz.prog W .any base t v := hval0
  have hW' := hW
  obtain ⟨p, q, hA0, hV, rfl, hfz, hnd⟩ := hW
  have hA : DataW.TrodAll enc Tryz.prog W 0 (fun _ => true) true Tryz.f5.params.toList args.toList ds p := hA0
  have hWt : (DataW.weightsEach Tryz.prog (Tryz.f5.params.toList ++ []) (ds ++ gs)).all (· ≤ reachBytes) = true := hWt0
  rw [Tryz.params5] at hA hval hWt
  obtain ⟨v0, vs0, d0, ds0, p0, q0, hargs, rfl, rfl, h0, r0⟩ := trodAll_cons hA
  obtain ⟨v1, vs1, d1, ds1, p1, q1, rfl, rfl, rfl, h1, r1⟩ := trodAll_cons r0
  obtain ⟨rfl, rfl, rfl⟩ := trodAll_nil r1
  obtain rfl : args = #[v0, v1] := by cases args; simp_all
  obtain ⟨rfl, rfl⟩ := trodVars_none hV
  have k0 := h0
  have lt0 : ∀ x ∈ p0, x.block < W.heap.size := by obtain ⟨m, hm⟩ := k0; exact DataW.trod_lt m _ _ _ hm
  have k1 := h1
  have lt1 : ∀ x ∈ p1, x.block < W.heap.size := by obtain ⟨m, hm⟩ := k1; exact DataW.trod_lt m _ _ _ hm
  obtain ⟨la, rfl, rfl⟩ := open_text (hval 0 9 v0 rfl rfl) h0
  obtain ⟨lb, rfl, rfl⟩ := open_text (hval 1 9 v1 rfl rfl) h1
  have hsz : la.length ≤ 140737488355328 ∧ lb.length ≤ 140737488355328 := by
    have hWt' : ([la.length] ++ ([lb.length] ++ [])).all (· ≤ reachBytes) = true := hWt
    have h1 := List.all_eq_true.1 hWt' la.length (by simp)
    have h2 := List.all_eq_true.1 hWt' lb.length (by simp)
    have h1' : la.length ≤ 140737488351232 := of_decide_eq_true h1
    have h2' : lb.length ≤ 140737488351232 := of_decide_eq_true h2
    omega
  have hg := hasNum_of_laid hL
  have hgE := hasErrT_of_laid hL
  have hpos := low_of_laid hL
  clear hA0 hval0
  refine (pieces_true la lb hsz.1 hsz.2 W hg hgE hpos).mono fun e W' ⟨he, bel⟩ => ?_
  subst he
  exact ⟨_, rfl, _, _, _, [], _, [], hW', trodAll_mk1 (shut_bool Tryz.underlying4 _), (trodAll_cons_mk (Below.trod laidOut (by kernel_rfl) (of_decide_eq_true (by kernel_rfl)) k0 bel lt0) (trodAll_cons_mk (Below.trod laidOut (by kernel_rfl) (of_decide_eq_true (by kernel_rfl)) k1 bel lt1) trodAll_mk0)), rfl, bel.frame _, fun h => by cases h⟩
theorem deskPieces_said : Rows.DeskPiecesSaid :=
  OpenClaim.holds_of_wide_leaving 5 Tryz.f5 rfl rfl rfl rfl rfl rfl rfl ⟨rfl, rfl, rfl, rfl, rfl⟩ rfl rfl rfl rfl rfl (by kernel_rfl) Tryz.func5 (by kernel_rfl)
    (of_decide_eq_true (by kernel_rfl)) (by unfold Func.isWrapper; rw [if_neg (of_decide_eq_false (by kernel_rfl))]; exact ⟨rfl, rfl⟩)
    (fun os started H enc _ => leaving_of_handed (deskPieces_lifted os started H enc))
theorem deskPieces_plain (f : FuncId) (fn : Func) (hf : Tryz.pinned.checked.prog.funcNamed "triumvir/triumvirkeep.DeskPieces" = some f) (hfn : Tryz.pinned.checked.prog.funcs[f]? = some fn) :
    true = Tryz.pinned.checked.prog.looks [] ∧ ∀ (j : Nat) t, fn.params[j]? = some t → Tryz.pinned.checked.prog.wantsStandIn t = false := by
  obtain rfl : f = 5 := Option.some.inj ((show Tryz.prog.funcNamed "triumvir/triumvirkeep.DeskPieces" = some 5 by kernel_rfl).symm.trans hf) |>.symm
  obtain rfl : fn = Tryz.f5 := (Option.some.inj (Tryz.func5.symm.trans hfn)).symm
  refine ⟨by kernel_rfl, fun j t ht => ?_⟩
  rw [Tryz.params5] at ht
  rcases j with _ | _ | j
  · obtain rfl : 9 = t := by simpa using ht
    exact (show Tryz.prog.wantsStandIn 9 = false by kernel_rfl)
  · obtain rfl : 9 = t := by simpa using ht
    exact (show Tryz.prog.wantsStandIn 9 = false by kernel_rfl)
  · simp at ht
theorem deskPieces_holds : Rows.DeskPiecesCardSaid :=
  ⟨Claim7.tied_new_at .later [.data] true (Claim7.new_of_sixth deskPieces_said Rows.deskPiecesCard.stood.harness true rfl ⟨rfl, rfl⟩ (by kernel_rfl) (by kernel_rfl) deskPieces_plain) (by kernel_rfl), fun _ hD => (by cases hD), deskPieces_row_tie, fun h => (by cases h), by kernel_rfl⟩
#print axioms deskPieces_holds
end Go.Proofs.YtaablbmgagiajabGreatDoor
