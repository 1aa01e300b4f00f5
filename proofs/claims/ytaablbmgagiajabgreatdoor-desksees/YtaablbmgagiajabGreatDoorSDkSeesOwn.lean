/- Proved: for every input triumvirkeep.DeskSees returns true and leaves its arguments as they were, the package variables that its card ties (math/bits' tables, internal/strconv.uint64pow10, errors.errorType, strconv.ErrRange, strconv.ErrSyntax) being as the program's text lays them. No other condition beyond the form's own. -/
import Derived.Test.YtaablbmgagiajabGreatDoorCards
import Derived.Test.YtaablbmgagiajabGreatDoorTie
import Derived.OpenShut
import Derived.ChangeSame
import Derived.ChangeArms
import Derived.WideShapes
import Derived.Deep.SlicePairs
import Derived.Lib.LaidTab
import Derived.MakeChecks
import Derived.WalkKit
import Derived.ProofKit
import Derived.ChangeOld
import Derived.ChangeVars
import Derived.JoinedOf
import Derived.Conc.Holds
import Derived.RowKit
import Derived.RowKitTokens
import Derived.LaidLaws
import Derived.LaidHandle
import Derived.Stop.Joined
import Derived.Lib.SmallJoins
import Derived.Test.YtaablbmgagiajabGreatDoorSGBH
import Derived.Test.YtaablbmgagiajabGreatDoorSGAA
import Derived.Test.YtaablbmgagiajabGreatDoorSGAY
namespace Go.Proofs.YtaablbmgagiajabGreatDoor
open Go.ChangeShapes Go.WideShapes Go.ChangeAt Go.RowKit Go.Joins
set_option maxRecDepth 10000 in
theorem open_in {H : Type} {enc : TypeId × Value → H} {W : World} {base b0 : Nat} {spare : Nat → Bool} {held : Bool} {r : Reach} {v : Value} {d : DataW H} {p : List MemPlace} (hv : Value.okWide Tryz.prog W r b0 31 v)
    (h : DataW.Trod enc Tryz.prog W base spare held 31 v d p) : ∃ ix iy : Int, v = .agg #[.int .i64 ix, .int .i64 iy] := by
  have c2 : Tryz.prog.cellsOf 31 = 2 := by kernel_rfl
  have c1 : Tryz.prog.cellsOf 3 = 1 := by kernel_rfl
  obtain ⟨cs, rfl, hsz⟩ := okWide_struct Tryz.underlying31 hv
  rw [c2] at hsz
  obtain ⟨fuel, hf⟩ := h
  obtain ⟨xs, n, _, _, _, hlen, hx⟩ := DataW.trod_struct Tryz.underlying31 hf
  have hl2 : xs.length = 2 := hlen
  obtain ⟨y0, y1, rfl⟩ := two hl2
  have h0 : DataW.trod enc Tryz.prog W base spare held n 3 ((cs.toList.drop 0).take (Tryz.prog.cellsOf 3)) = some y0 := hx 0 _ rfl
  have h1 : DataW.trod enc Tryz.prog W base spare held n 3 ((cs.toList.drop 1).take (Tryz.prog.cellsOf 3)) = some y1 := hx 1 _ rfl
  rw [c1] at h0 h1
  obtain ⟨z0, e0, _, _⟩ := DataW.trod_int Tryz.underlying3 h0
  obtain ⟨z1, e1, _, _⟩ := DataW.trod_int Tryz.underlying3 h1
  obtain ⟨l⟩ := cs
  match l, hsz with
  | [u, v], _ =>
    simp at e0 e1
    rw [e0, e1]
    exact ⟨z0, z1, rfl⟩
theorem leaving_of_alone {P : Program} {last : Machine} {w : World} {t : Trace} (h : aloneAtReturn P last w t) : leavingAtReturn P last w t := by
  obtain ⟨⟨h1, h2⟩, h3, h4⟩ := h
  refine ⟨h3, ⟨fun g hg => ⟨0, ?_⟩, h2⟩, h4⟩
  have := List.all_eq_true.1 h1 g hg
  exact eq_of_beq this
theorem leaving_of_handed {a : Assume} {C : Checked} {os : Os} {f : FuncId} {r : Reach} {Pre : World → Array Value → Prop} {Post : World → Array Value → Value → World → Prop} (h : ReturnsInHanded a C os f r Pre Post) : ReturnsInLeavingWide a C os f r Pre Post := fun enter => by
  obtain ⟨g0, g1, g2, g3, all1⟩ := h enter
  refine ⟨g0, g1, g2, g3, fun w tape i hf => ?_⟩
  obtain ⟨n, v, w', hn, hc, hr, hp, ⟨j, last, hj, hs, hq⟩, ha⟩ := all1 w tape i hf
  exact ⟨n, v, w', hn, hc, hr, hp, ⟨j, last, hj, hs, leaving_of_alone hq⟩, ha⟩
theorem own : ownKnob Tryz.prog.godebug = none := by kernel_rfl
theorem laidOut : laidOutB Tryz.prog = true := by kernel_rfl
theorem powT : (Tryz.prog.globals[3]?).map (·.type) = some 290 := by kernel_rfl
theorem powN : Tryz.prog.cellsOf 290 = 20 := by kernel_rfl
theorem u64N : Tryz.prog.cellsOf 98 = 1 := by kernel_rfl
theorem synT : (Tryz.prog.globals[4]?).map (·.type) = some 54 := by kernel_rfl
theorem rngT : (Tryz.prog.globals[5]?).map (·.type) = some 54 := by kernel_rfl
theorem errU : ∃ ms, Tryz.prog.underlying 54 = some (.interface ms) := ⟨_, Tryz.underlying54⟩
theorem trod_iface_inv {P : Program} {w : World} {fuel : Nat} {t : TypeId} {cs : Array Value} {nm : String} {d : DataW Unit} {p : List MemPlace} (ht : ∃ ms, P.underlying t = some (.interface ms))
    (h : DataW.trod (fun _ => ()) P w 0 (fun _ => true) false fuel t cs.toList = some (.iface nm d, p)) : ∃ u v, cs = #[.iface u v] := by
  obtain ⟨ms, ht⟩ := ht
  obtain ⟨l⟩ := cs
  cases fuel with
  | zero => simp [DataW.trod] at h
  | succ n =>
    match l, h with
    | [], h => simp [DataW.trod, ht] at h
    | [x], h =>
      cases x <;> first | exact ⟨_, _, rfl⟩ | simp [DataW.trod, ht] at h
    | x :: y :: r, h => simp [DataW.trod, ht] at h
theorem hasNum_of_laid {W : World} (h : laidMetH Tryz.prog Rows.deskSeesRow.laid W) : HasNum W := by
  have h' : laidMet Tryz.prog [("math/bits.deBruijn32tab", Rows.laid_math_bits_deBruijn32tab), ("math/bits.deBruijn64tab", Rows.laid_math_bits_deBruijn64tab), ("internal/strconv.uint64pow10", Rows.laid_internal_strconv_uint64pow10), ("strconv.ErrRange", Rows.laid_strconv_ErrRange), ("strconv.ErrSyntax", Rows.laid_strconv_ErrSyntax)] W ∧ handlesMet Tryz.prog [("errors.errorType", Rows.laid_errors_errorType)] W := h
  obtain ⟨⟨ps, hv, _⟩, _⟩ := h'
  obtain ⟨_, _, _, _, _, _, _, _, _, _, hv, _⟩ := hv
  obtain ⟨_, _, _, _, _, _, _, _, _, _, hv, _⟩ := hv
  obtain ⟨g, t, cs, fuel, p, q, h1, h2, h3, h4, hv, _⟩ := hv
  obtain ⟨g', t', cs', fuel', p', q', k1, k2, k3, k4, hv, _⟩ := hv
  obtain ⟨g2, t2, cs2, fuel2, p2, q2, l1, l2, l3, l4, _, _⟩ := hv
  obtain rfl := Option.some.inj (powG.symm.trans h1)
  obtain rfl := Option.some.inj (powT.symm.trans h2)
  obtain rfl := Option.some.inj (rngG.symm.trans k1)
  obtain rfl := Option.some.inj (rngT.symm.trans k2)
  obtain rfl := Option.some.inj (synG.symm.trans l1)
  obtain rfl := Option.some.inj (synT.symm.trans l2)
  have hcs := Go.Lib.cells_of_tab (zs := Lib.pow10Tab) (k := .u64) Tryz.underlying290 Tryz.underlying98 u64N powN h4
  obtain ⟨u, v, rfl⟩ := trod_iface_inv errU k4
  obtain ⟨u2, v2, rfl⟩ := trod_iface_inv errU l4
  refine ⟨?_, ⟨u2, v2, l3⟩, ⟨u, v, k3⟩⟩
  unfold HasPow Lib.TabIs
  rw [h3, ← hcs]
theorem tab64G : Tryz.prog.globalNamed "math/bits.deBruijn64tab" = some 6 := by kernel_rfl
theorem low_of_laid {W : World} (h : laidMetH Tryz.prog Rows.deskSeesRow.laid W) : 7 ≤ W.heap.size := by
  have h' : laidMet Tryz.prog [("math/bits.deBruijn32tab", Rows.laid_math_bits_deBruijn32tab), ("math/bits.deBruijn64tab", Rows.laid_math_bits_deBruijn64tab), ("internal/strconv.uint64pow10", Rows.laid_internal_strconv_uint64pow10), ("strconv.ErrRange", Rows.laid_strconv_ErrRange), ("strconv.ErrSyntax", Rows.laid_strconv_ErrSyntax)] W ∧ handlesMet Tryz.prog [("errors.errorType", Rows.laid_errors_errorType)] W := h
  obtain ⟨⟨ps, hv, _⟩, _⟩ := h'
  obtain ⟨_, _, _, _, _, _, _, _, _, _, hv, _⟩ := hv
  obtain ⟨_, _, cs, _, _, _, _, _, h3, _, _, _⟩ := hv
  unfold World.var? at h3
  rw [tab64G] at h3
  by_cases hl : 7 ≤ W.heap.size
  · exact hl
  · have : W.heap[6]? = none := Array.getElem?_eq_none (by omega)
    simp [this] at h3
def litCells : DataW Unit → Array Value
  | .agg l => (l.map fun | .lit (.int k z) => Value.int k z | _ => undef).toArray
  | _ => #[]
def setVar (cs : Array Value) : Obj → Obj
  | .cells _ t frozen => .cells cs t frozen
  | o => o
theorem laidWorld_met (os : Os) (args : Array Value) : laidMetH Tryz.prog Rows.deskSeesRow.laid (({ World.holding Tryz.prog os ⟨#[], #[], []⟩ with heap := (((((((((World.holding Tryz.prog os ⟨#[], #[], []⟩).heap.modify 1 (setVar (litCells Rows.laid_math_bits_deBruijn32tab))).modify 6 (setVar (litCells Rows.laid_math_bits_deBruijn64tab))).modify 3 (setVar (litCells Rows.laid_internal_strconv_uint64pow10))).modify 0 (setVar #[.iface 237 (.agg #[.pointer (some ⟨7, 54, none⟩)])])).modify 5 (setVar #[.iface 306 (.pointer (some ⟨(World.holding Tryz.prog os ⟨#[], #[], []⟩).heap.size, 0, none⟩))])).modify 4 (setVar #[.iface 306 (.pointer (some ⟨(World.holding Tryz.prog os ⟨#[], #[], []⟩).heap.size + 1, 0, none⟩))])).push (.cells #[.string ⟨#[118, 97, 108, 117, 101, 32, 111, 117, 116, 32, 111, 102, 32, 114, 97, 110, 103, 101]⟩] 308 (0, 0))).push (.cells #[.string ⟨#[105, 110, 118, 97, 108, 105, 100, 32, 115, 121, 110, 116, 97, 120]⟩] 308 (0, 0))) } : World).forCall (fun _ _ => 0) ⟨#[], args, []⟩).memory :=
  laidMetH_of_parts (laidMet_of_run' 8 (by kernel_rfl) (by kernel_rfl)) (by kernel_rfl)
set_option maxRecDepth 100000 in
theorem deskSees_lifted (os : Os) (started : os.Started) (H : Type) (enc : TypeId × Value → H) :
    ReturnsInHanded {} Tryz.checked os 6 .any (fun w args => (Rows.deskSeesSpec.pre enc Tryz.prog Tryz.f6 [] false w args ∧ laidMetH Tryz.prog Rows.deskSeesRow.laid w) ∧ sizedMet enc Tryz.prog Tryz.f6 (OpenSpec.ofChange Rows.deskSeesSpec) false w args)
      (Rows.deskSeesSpec.post enc Tryz.prog Tryz.f6 false true false false) := by
  refine returnsInHanded_of_change_and (C := Tryz.checked) (X := fun w _ => laidMetH Tryz.prog Rows.deskSeesRow.laid w) (fun _ _ _ hh h => h.of_heap hh) own started (by kernel_rfl) Tryz.func6
    (ChangeSpec.witness_at (enc := enc) (C := Tryz.checked) (os := os) (X := fun w _ => laidMetH Tryz.prog Rows.deskSeesRow.laid w) false ({ World.holding Tryz.prog os ⟨#[], #[], []⟩ with heap := (((((((((World.holding Tryz.prog os ⟨#[], #[], []⟩).heap.modify 1 (setVar (litCells Rows.laid_math_bits_deBruijn32tab))).modify 6 (setVar (litCells Rows.laid_math_bits_deBruijn64tab))).modify 3 (setVar (litCells Rows.laid_internal_strconv_uint64pow10))).modify 0 (setVar #[.iface 237 (.agg #[.pointer (some ⟨7, 54, none⟩)])])).modify 5 (setVar #[.iface 306 (.pointer (some ⟨(World.holding Tryz.prog os ⟨#[], #[], []⟩).heap.size, 0, none⟩))])).modify 4 (setVar #[.iface 306 (.pointer (some ⟨(World.holding Tryz.prog os ⟨#[], #[], []⟩).heap.size + 1, 0, none⟩))])).push (.cells #[.string ⟨#[118, 97, 108, 117, 101, 32, 111, 117, 116, 32, 111, 102, 32, 114, 97, 110, 103, 101]⟩] 308 (0, 0))).push (.cells #[.string ⟨#[105, 110, 118, 97, 108, 105, 100, 32, 115, 121, 110, 116, 97, 120]⟩] 308 (0, 0))) } : World) #[.agg #[.int .i64 0, .int .i64 0], .int .i64 0] 8 rfl (by kernel_rfl) (by kernel_rfl) (by kernel_rfl) (by kernel_rfl) (by kernel_rfl) (laidWorld_met os _)) ?_
  intro W base args ds gs before hval0 hW _ _ hL _
  have hval : ∀ (j : Nat) t v, Tryz.f6.params[j]? = some t → args[j]? = some v → Value.okWide Tryz.prog W .any base t v := hval0
  have hW' := hW
  obtain ⟨p, q, hA0, hV, rfl, hfz, hnd⟩ := hW
  have hA : DataW.TrodAll enc Tryz.prog W 0 (fun _ => true) true Tryz.f6.params.toList args.toList ds p := hA0
  rw [Tryz.params6] at hA hval
  obtain ⟨v0, vs0, d0, ds0, p0, q0, hargs, rfl, rfl, h0, r0⟩ := trodAll_cons hA
  obtain ⟨v1, vs1, d1, ds1, p1, q1, rfl, rfl, rfl, h1, r1⟩ := trodAll_cons r0
  obtain ⟨rfl, rfl, rfl⟩ := trodAll_nil r1
  obtain rfl : args = #[v0, v1] := by cases args; simp_all
  obtain ⟨rfl, rfl⟩ := trodVars_none hV
  have k0 := h0
  have lt0 : ∀ x ∈ p0, x.block < W.heap.size := by obtain ⟨m, hm⟩ := k0; exact DataW.trod_lt m _ _ _ hm
  have k1 := h1
  have lt1 : ∀ x ∈ p1, x.block < W.heap.size := by obtain ⟨m, hm⟩ := k1; exact DataW.trod_lt m _ _ _ hm
  obtain ⟨ix, iy, rfl⟩ := open_in (hval 0 31 v0 rfl rfl) h0
  obtain ⟨x1, rfl⟩ := okWide_int Tryz.underlying3 (hval 1 3 v1 rfl rfl)
  have hg := hasNum_of_laid hL
  have hpos := low_of_laid hL
  clear hA0 hval0
  refine (sees_true ix iy x1 W hg hpos).mono fun e W' ⟨he, bel⟩ => ?_
  subst he
  exact ⟨_, rfl, _, _, _, [], _, [], hW', trodAll_mk1 (shut_bool Tryz.underlying4 _), (trodAll_cons_mk (Below.trod laidOut (by kernel_rfl) (of_decide_eq_true (by kernel_rfl)) k0 bel lt0) (trodAll_cons_mk (Below.trod laidOut (by kernel_rfl) (of_decide_eq_true (by kernel_rfl)) k1 bel lt1) trodAll_mk0)), rfl, bel.frame _, fun h => by cases h⟩
theorem deskSees_said : Rows.DeskSeesSaid :=
  OpenClaim.holds_of_wide_leaving 6 Tryz.f6 rfl rfl rfl rfl rfl rfl rfl ⟨rfl, rfl, rfl, rfl, rfl⟩ rfl rfl rfl rfl rfl (by kernel_rfl) Tryz.func6 (by kernel_rfl)
    (of_decide_eq_true (by kernel_rfl)) (by unfold Func.isWrapper; rw [if_neg (of_decide_eq_false (by kernel_rfl))]; exact ⟨rfl, rfl⟩)
    (fun os started H enc _ => leaving_of_handed (deskSees_lifted os started H enc))
theorem deskSees_plain (f : FuncId) (fn : Func) (hf : Tryz.pinned.checked.prog.funcNamed "triumvir/triumvirkeep.DeskSees" = some f) (hfn : Tryz.pinned.checked.prog.funcs[f]? = some fn) :
    true = Tryz.pinned.checked.prog.looks [] ∧ ∀ (j : Nat) t, fn.params[j]? = some t → Tryz.pinned.checked.prog.wantsStandIn t = false := by
  obtain rfl : f = 6 := Option.some.inj ((show Tryz.prog.funcNamed "triumvir/triumvirkeep.DeskSees" = some 6 by kernel_rfl).symm.trans hf) |>.symm
  obtain rfl : fn = Tryz.f6 := (Option.some.inj (Tryz.func6.symm.trans hfn)).symm
  refine ⟨by kernel_rfl, fun j t ht => ?_⟩
  rw [Tryz.params6] at ht
  rcases j with _ | _ | j
  · obtain rfl : 31 = t := by simpa using ht
    exact (show Tryz.prog.wantsStandIn 31 = false by kernel_rfl)
  · obtain rfl : 3 = t := by simpa using ht
    exact (show Tryz.prog.wantsStandIn 3 = false by kernel_rfl)
  · simp at ht
theorem deskSees_holds : Rows.DeskSeesCardSaid :=
  ⟨Claim7.tied_new_at .later [.data] true (Claim7.new_of_sixth deskSees_said Rows.deskSeesCard.stood.harness true rfl ⟨rfl, rfl⟩ (by kernel_rfl) (by kernel_rfl) deskSees_plain) (by kernel_rfl), fun _ hD => (by cases hD), deskSees_row_tie, fun h => (by cases h), by kernel_rfl⟩
#print axioms deskSees_holds
end Go.Proofs.YtaablbmgagiajabGreatDoor
