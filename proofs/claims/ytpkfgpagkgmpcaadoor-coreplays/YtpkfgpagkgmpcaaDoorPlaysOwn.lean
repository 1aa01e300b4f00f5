/- Proved: for every input triumvirlaw.CorePlays returns true and leaves its arguments as they were, errors.errorType being as the program's text lays it (the card ties it). No other condition beyond the form's own. -/
import Derived.Test.YtpkfgpagkgmpcaaDoorCards
import Derived.Test.YtpkfgpagkgmpcaaDoorTie
import Derived.Test.YtpkfgpagkgmpcaaDoorPlaysWalk
import Derived.Test.YtpkfgpagkgmpcaaDoorPlayRead
import Derived.WalkKit
import Derived.ProofKit
import Derived.OpenShut
import Derived.ChangeOld
import Derived.ChangeSame
import Derived.ChangeVars
import Derived.JoinedOf
import Derived.RowKit
import Derived.RowKitTokens
import Derived.LaidLaws
import Derived.LaidHandle
import Derived.Stop.Joined
import Derived.Lib.SmallJoins
import Derived.Deep.SlicePairs
namespace Go.Proofs.YtpkfgpagkgmpcaaDoor
open Go.ChangeShapes Go.WideShapes Go.ChangeAt Go.RowKit Go.Joins

theorem own : ownKnob Tryd.prog.godebug = none := by kernel_rfl
theorem laidOut : laidOutB Tryd.prog = true := by kernel_rfl
theorem cellsLayout : Tryd.prog.cellsOf 24 = 3 := by kernel_rfl
theorem cellsInput : Tryd.prog.cellsOf 26 = 2 := by kernel_rfl
theorem cellsState : Tryd.prog.cellsOf 49 = 17 := by kernel_rfl
theorem cellsInts : Tryd.prog.cellsOf 47 = 8 := by kernel_rfl
theorem cellsInt : Tryd.prog.cellsOf 3 = 1 := by kernel_rfl
theorem errT : Tryd.prog.globalNamed "errors.errorType" = some 0 := by kernel_rfl
theorem rtypeT : (Tryd.prog.cutTypes.find? (·.1 == "internal/reflectlite.rtype")).map (·.2) = some 119 := by kernel_rfl
theorem oneRow : ((List.range 159).filter fun t => Tryd.prog.rowNamed t [101, 114, 114, 111, 114]) = [32] := by kernel_rfl
theorem typesSize : Tryd.prog.types.size = 159 := by kernel_rfl

/-- The listed variable's one cell. -/
theorem hasErrT_of_laid {W : World} (h : laidMetH Tryd.prog Rows.corePlaysRow.laid W) : HasErrT W := by
  have h' : laidMet Tryd.prog [] W ∧ handlesMet Tryd.prog Rows.corePlaysRow.laid W := h
  obtain ⟨name, u, ty, e1, e2, e3, e4, e5⟩ := h'.2 _ (List.mem_singleton.2 rfl)
  have en : name = [101, 114, 114, 111, 114] := (Option.some.inj e1).symm
  subst en
  obtain rfl := Option.some.inj (rtypeT.symm.trans e2)
  have hm : ty ∈ (List.range 159).filter fun t => Tryd.prog.rowNamed t [101, 114, 114, 111, 114] := List.mem_filter.2 ⟨List.mem_range.2 (by rw [← typesSize]; exact e3), e4⟩
  rw [oneRow] at hm
  obtain rfl := List.mem_singleton.1 hm
  have hh : typeHandle Tryd.prog 32 = .pointer (some ⟨1, 32, none⟩) := by kernel_rfl
  rw [hh] at e5
  unfold HasErrT
  simpa using World.var?_cell errT e5 0

/-- A world that meets the condition: the settled one, the variable's cell laid. -/
theorem laidWorld_met (os : Os) (args : Array Value) : laidMetH Tryd.prog Rows.corePlaysRow.laid (({ World.holding Tryd.prog os ⟨#[], #[], []⟩ with heap := (World.holding Tryd.prog os ⟨#[], #[], []⟩).heap.modify 0 fun | .cells _ t frozen => .cells #[.iface 119 (.agg #[.pointer (some ⟨1, 32, none⟩)])] t frozen | o => o } : World).forCall (fun _ _ => 0) ⟨#[], args, []⟩).memory :=
  laidMetH_of_parts (laidMet_nil _ _) (by kernel_rfl)

/-- The walk, whatever the layout. -/
theorem plays_walk (s d : Int) (a : Option Addr) (len cap : Nat) (zs : List Int) (ai : Option Addr) (li ci : Nat) (G : GS) (w : World) (hm : len ≤ maxLen) (hmi : li ≤ maxLen) (h : IsSl w a len cap zs) (hin : InAt w ai li) (hg : HasErrT w) (hG : GIn G) (h8 : ∀ k, 8 ≤ k → G.used k = 0 ∧ G.idle k = 0) :
    Calls Tryd.prog 4 #[.agg #[.int .i64 s, .slice a len cap, .int .i64 d], .slice ai li ci, .agg (gCells G)] w fun e w' => e = .returned (.bool true) ∧ Below w.heap.size w w' := by
  by_cases hl : 20 < len
  · exact plays_many s d a len cap ai li ci G w (.inl hl) hm hmi
  · by_cases hli : 100 < li
    · exact plays_many s d a len cap ai li ci G w (.inr hli) hm hmi
    · by_cases hok : checkF s zs d = (0, -1)
      · have hr := range_pos hok
        unfold rangeB at hr
        simp only [Bool.and_eq_true, inB_iff] at hr
        obtain ⟨⟨⟨b11, _⟩, b21, _⟩, b31, _⟩ := hr
        obtain ⟨sn, rfl⟩ := Int.eq_ofNat_of_zero_le (show 0 ≤ s by omega)
        obtain ⟨dn, rfl⟩ := Int.eq_ofNat_of_zero_le b31
        obtain ⟨hlen, hcap, hz⟩ := h
        rcases hz with hz | ⟨b, off, rfl, hb, hrow⟩
        · subst hz; simp at b21
        · exact plays_ok sn dn b off len cap zs ai li ci G w hok hlen hcap hb hrow hin (by omega) hG h8
      · exact plays_bad s d a len cap zs ai li ci G w hl hli h hg hok

set_option maxRecDepth 100000 in
theorem plays_lifted (os : Os) (started : os.Started) (H : Type) (enc : TypeId × Value → H) :
    ReturnsInHanded {} Tryd.checked os 4 .any (fun w args => (Rows.corePlaysSpec.pre enc Tryd.prog Tryd.f4 [] false w args ∧ laidMetH Tryd.prog Rows.corePlaysRow.laid w) ∧ sizedMet enc Tryd.prog Tryd.f4 (OpenSpec.ofChange Rows.corePlaysSpec) false w args)
      (Rows.corePlaysSpec.post enc Tryd.prog Tryd.f4 false true false false) := by
  refine returnsInHanded_of_change_and (C := Tryd.checked) (X := fun w _ => laidMetH Tryd.prog Rows.corePlaysRow.laid w) (fun _ _ _ hh h => h.of_heap hh) own started (by kernel_rfl) Tryd.func4
    (ChangeSpec.witness_at (enc := enc) (C := Tryd.checked) (os := os) (X := fun w _ => laidMetH Tryd.prog Rows.corePlaysRow.laid w) false ({ World.holding Tryd.prog os ⟨#[], #[], []⟩ with heap := (World.holding Tryd.prog os ⟨#[], #[], []⟩).heap.modify 0 fun | .cells _ t frozen => .cells #[.iface 119 (.agg #[.pointer (some ⟨1, 32, none⟩)])] t frozen | o => o } : World) #[.agg #[.int .i64 0, .slice none 0 0, .int .i64 0], .slice none 0 0, .agg #[.int .i64 0, .int .i64 0, .int .i64 0, .int .i64 0, .int .i64 0, .int .i64 0, .int .i64 0, .int .i64 0, .int .i64 0, .int .i64 0, .int .i64 0, .int .i64 0, .int .i64 0, .int .i64 0, .int .i64 0, .int .i64 0, .int .i64 0]] 8 rfl (by kernel_rfl) (by kernel_rfl) (by kernel_rfl) (by kernel_rfl) (by kernel_rfl) (laidWorld_met os _)) ?_
  intro W base args ds gs before hval0 hW _ _ hL _
  have hval : ∀ (j : Nat) t v, Tryd.f4.params[j]? = some t → args[j]? = some v → Value.okWide Tryd.prog W .any base t v := hval0
  have hW' := hW
  obtain ⟨p, q, hA0, hV, rfl, hfz, hnd⟩ := hW
  have hA : DataW.TrodAll enc Tryd.prog W 0 (fun _ => true) true Tryd.f4.params.toList args.toList ds p := hA0
  rw [Tryd.params4] at hA hval
  obtain ⟨v0, vs0, d0, ds0, p0, q0, hargs, rfl, rfl, h0, r0⟩ := trodAll_cons hA
  obtain ⟨v1, vs1, d1, ds1, p1, q1, rfl, rfl, rfl, h1, r1⟩ := trodAll_cons r0
  obtain ⟨v2, vs2, d2, ds2, p2, q2, rfl, rfl, rfl, h2, r2⟩ := trodAll_cons r1
  obtain ⟨rfl, rfl, rfl⟩ := trodAll_nil r2
  obtain rfl : args = #[v0, v1, v2] := by cases args; simp_all
  obtain ⟨rfl, rfl⟩ := trodVars_none hV
  have k0 := h0
  have k1 := h1
  have lt0 : ∀ x ∈ p0, x.block < W.heap.size := by obtain ⟨m, hm⟩ := k0; exact DataW.trod_lt m _ _ _ hm
  have lt1 : ∀ x ∈ p1, x.block < W.heap.size := by obtain ⟨m, hm⟩ := k1; exact DataW.trod_lt m _ _ _ hm
  have k2 := h2
  have lt2 : ∀ x ∈ p2, x.block < W.heap.size := by obtain ⟨m, hm⟩ := k2; exact DataW.trod_lt m _ _ _ hm
  obtain ⟨s, a, len, cap, d, zs, hm, hsl, rfl⟩ : ∃ (s : Int) (a : Option Addr) (len cap : Nat) (d : Int) (zs : List Int), len ≤ maxLen ∧ IsSl W a len cap zs ∧ v0 = .agg #[.int .i64 s, .slice a len cap, .int .i64 d] := by
    obtain ⟨c0, c1, c2, y0, y1, y2, m, rfl, _, _, hy0, hy1, hy2⟩ := open_agg3 Tryd.underlying24 (by kernel_rfl) cellsLayout (hval 0 24 v0 rfl rfl) h0
    obtain ⟨s, e0, _, _⟩ := DataW.trod_int Tryd.underlying3 hy0
    obtain ⟨d, e2, _, _⟩ := DataW.trod_int Tryd.underlying3 hy2
    simp at e0 e2
    subst e0 e2
    rcases open_ints Tryd.underlying22 Tryd.underlying3 cellsInt hy1 with ⟨hcs, _⟩ | ⟨x, l, c, zs, hcs, _, hl, hm, hz, _, hcell, hwz⟩
    · simp at hcs
      subst hcs
      exact ⟨s, none, 0, 0, d, [], by unfold maxLen; omega, ⟨rfl, Nat.le_refl _, .inl rfl⟩, rfl⟩
    · simp at hcs
      subst hcs
      have hz' : zs.length = c := by simpa using hz
      refine ⟨s, some x, l, c, d, zs.take l, by omega, ⟨by simp; omega, hl, ?_⟩, rfl⟩
      by_cases h0 : l = 0
      · subst h0; exact .inl (by simp)
      · obtain ⟨b, off, rfl, hc⟩ := ints_at hcell (by omega)
        refine .inr ⟨b, off, rfl, World.block_lt_of_cell? _ _ (hc 0 (by omega)), fun k hk => ?_⟩
        have hk' : k < l := by simp at hk; omega
        rw [hc k (by omega)]
        simp [hk']
  obtain ⟨a1, len1, cap1, rfl⟩ := okWide_slice Tryd.underlying46 (hval 1 46 v1 rfl rfl)
  obtain ⟨hmi, hin⟩ : len1 ≤ maxLen ∧ InAt W a1 len1 := by
    obtain ⟨fuel, hf⟩ := h1
    rcases Go.Deep.open_slice_pairs Tryd.underlying46 Tryd.underlying26 (by kernel_rfl) rfl rfl (by kernel_rfl) (by kernel_rfl) hf with ⟨hcs, _⟩ | ⟨x, l, c, m, n, V0, V1, D0, D1, P0, P1, hcs, _, hl, hm, hmm, _, hcell⟩
    · simp [Value.cells] at hcs
      obtain ⟨rfl, rfl, rfl⟩ := hcs
      exact ⟨by unfold maxLen; omega, fun i hi => by omega⟩
    · simp [Value.cells] at hcs
      obtain ⟨rfl, rfl, rfl⟩ := hcs
      refine ⟨by omega, fun i hi => ?_⟩
      have each : ∀ j, j < len1 → ∃ u v : Int, W.cell? (x.add (j * 2)) = some (.int .i64 u) ∧ W.cell? (x.add (j * 2 + 1)) = some (.int .i64 v) ∧ (Lit.int .i64 u).wf = true ∧ (Lit.int .i64 v).wf = true := fun j hj => by
        obtain ⟨c0, c1, t0, t1⟩ := hcell j (by rw [hmm]; split <;> omega)
        obtain ⟨u, e0, _, wu⟩ := DataW.trod_int Tryd.underlying3 t0
        obtain ⟨v, e1, _, wv⟩ := DataW.trod_int Tryd.underlying3 t1
        exact ⟨u, v, by rw [c0]; simpa using e0, by rw [c1]; simpa using e1, wu, wv⟩
      obtain ⟨u, v, e1, e2, wu, wv⟩ := each i hi
      obtain ⟨_, _, g1, _⟩ := each 0 (by omega)
      obtain ⟨b, off, spot⟩ := x
      have hspot : spot = none := by simpa [Addr.add] using World.cell?_spot g1
      subst hspot
      rw [add_plain] at e1 e2
      have b0 := bounds_i64 wu
      have b1 := bounds_i64 wv
      exact ⟨b, off, u, v, rfl, World.block_lt_of_cell? _ _ e1, e1, e2, ⟨by omega, by omega⟩, by omega, by omega⟩
  obtain ⟨G, hG, h8, rfl⟩ : ∃ G : GS, GIn G ∧ (∀ k, 8 ≤ k → G.used k = 0 ∧ G.idle k = 0) ∧ v2 = .agg (gCells G) := open_state (hval 2 49 v2 rfl rfl) h2
  have hg := hasErrT_of_laid hL
  clear hA0 hval0
  refine (plays_walk s d a len cap zs a1 len1 cap1 G W hm hmi hsl hin hg hG h8).mono fun e W' ⟨he, bel⟩ => ?_
  subst he
  exact ⟨_, rfl, _, _, _, [], _, [], hW', trodAll_mk1 (shut_bool Tryd.underlying4 _), (trodAll_cons_mk (Below.trod laidOut (by kernel_rfl) (of_decide_eq_true (by kernel_rfl)) k0 bel lt0) (trodAll_cons_mk (Below.trod laidOut (by kernel_rfl) (of_decide_eq_true (by kernel_rfl)) k1 bel lt1) (trodAll_cons_mk (Below.trod laidOut (by kernel_rfl) (of_decide_eq_true (by kernel_rfl)) k2 bel lt2) trodAll_mk0))), rfl, bel.frame _, fun h => by cases h⟩

theorem plays_said : Rows.CorePlaysSaid :=
  OpenClaim.holds_of_wide 4 Tryd.f4 rfl rfl rfl rfl rfl rfl rfl ⟨rfl, rfl, rfl, rfl, rfl⟩ rfl rfl rfl rfl rfl (by kernel_rfl) Tryd.func4 (by kernel_rfl)
    (of_decide_eq_true (by kernel_rfl)) (by unfold Func.isWrapper; rw [if_neg (of_decide_eq_false (by kernel_rfl))]; exact ⟨rfl, rfl⟩)
    (fun os started H enc _ => plays_lifted os started H enc)

theorem plays_plain (f : FuncId) (fn : Func) (hf : Tryd.pinned.checked.prog.funcNamed "triumvir/triumvirlaw.CorePlays" = some f) (hfn : Tryd.pinned.checked.prog.funcs[f]? = some fn) :
    true = Tryd.pinned.checked.prog.looks [] ∧ ∀ (j : Nat) t, fn.params[j]? = some t → Tryd.pinned.checked.prog.wantsStandIn t = false := by
  obtain rfl : f = 4 := Option.some.inj ((show Tryd.prog.funcNamed "triumvir/triumvirlaw.CorePlays" = some 4 by kernel_rfl).symm.trans hf) |>.symm
  obtain rfl : fn = Tryd.f4 := (Option.some.inj (Tryd.func4.symm.trans hfn)).symm
  refine ⟨by kernel_rfl, fun j t ht => ?_⟩
  rw [Tryd.params4] at ht
  rcases j with _ | _ | _ | j
  · obtain rfl : 24 = t := by simpa using ht
    exact (show Tryd.prog.wantsStandIn 24 = false by kernel_rfl)
  · obtain rfl : 46 = t := by simpa using ht
    exact (show Tryd.prog.wantsStandIn 46 = false by kernel_rfl)
  · obtain rfl : 49 = t := by simpa using ht
    exact (show Tryd.prog.wantsStandIn 49 = false by kernel_rfl)
  · simp at ht

/-- The statement. -/
theorem corePlays_holds : Rows.CorePlaysCardSaid :=
  Claim7.holds_tied_plain_at .later [] _ _ _ _ plays_said (fun _ h => by cases h) (by kernel_rfl) (fun _ h => by cases h) corePlays_row_tie rfl ⟨rfl, rfl⟩ (by kernel_rfl) rfl plays_plain (by kernel_rfl)
#print axioms corePlays_holds
end Go.Proofs.YtpkfgpagkgmpcaaDoor
