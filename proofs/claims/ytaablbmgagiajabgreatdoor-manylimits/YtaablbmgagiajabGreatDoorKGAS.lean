import Derived.Test.YtaablbmgagiajabGreatDoorKGAR
namespace Go.Proofs.YtaablbmgagiajabGreatDoor.Ren
open Go Go.Conc Go.Extern
variable (pG : Program)
def fnAt (g : Nat) : Func := (pG.funcs[g]?).getD default
theorem fnAt_of {g : Nat} {fn : Func} (h : Tryz.prog.funcs[g]? = some fn) : fn = (fnAt Tryz.prog) g := by
  unfold fnAt
  rw [h]
  rfl
def xF : List Nat := [120, 121, 122, 162, 169, 170, 171, 211, 224, 232, 250, 251, 260, 263, 265, 266]
theorem noBody_ok : (tF.all fun g => ((Tryz.prog.funcs[g]?).map (fun fn => fn.body.isSome)).getD true || xF.contains g) = true := by kernel_rfl
theorem names_ok : (xF.all fun g => !((fnAt Tryz.prog g).name == "runtime.NumGoroutine") && (Extern.findNext (fnAt Tryz.prog g)).isNone) = true := by kernel_rfl
theorem find120 : Extern.find (fnAt Tryz.prog 120) = some (fun args => ReflectliteValue.unpack (args.getD 0 (.tuple #[]))) := by kernel_rfl
theorem find121 : Extern.find (fnAt Tryz.prog 121) = some (ReflectliteValue.methodAny (ReflectliteValue.valueError "reflectlite.Value.Type" 0) fun t _ _ _ => ReflectliteType.toType t) := by kernel_rfl
theorem find122 : Extern.find (fnAt Tryz.prog 122) = some (ReflectliteValue.method (ReflectliteValue.valueError "reflectlite.Value.IsNil" 0) ReflectliteValue.isNil) := by kernel_rfl
theorem find162 : Extern.find (fnAt Tryz.prog 162) = some (AbiNoEscape.same) := by kernel_rfl
theorem find169 : Extern.find (fnAt Tryz.prog 169) = some (ReflectliteType.typeOf) := by kernel_rfl
theorem find170 : Extern.find (fnAt Tryz.prog 170) = some (ReflectliteValue.method (ReflectliteValue.valueError "reflectlite.Value.Elem" 0) ReflectliteValue.elem) := by kernel_rfl
theorem find171 : Extern.find (fnAt Tryz.prog 171) = some (ReflectliteValue.set) := by kernel_rfl
theorem find211 : Extern.find (fnAt Tryz.prog 211) = some (BytealgIndex.index) := by kernel_rfl
theorem find224 : Extern.find (fnAt Tryz.prog 224) = some (BytealgIndexByte.indexByte) := by kernel_rfl
theorem find232 : Extern.find (fnAt Tryz.prog 232) = some (BytealgMakeNoZero.makeNoZero (fnAt Tryz.prog 232).params (fnAt Tryz.prog 232).resultTypes) := by kernel_rfl
theorem find251 : Extern.find (fnAt Tryz.prog 251) = some (ReflectliteType.abiMethod fun t => (do pure (.int .u8 (← Rtype.kind t)))) := by kernel_rfl
theorem find260 : Extern.find (fnAt Tryz.prog 260) = some (ReflectliteValue.method (pure (.int .u8 0)) fun _ _ _ k => pure (.int .u8 (Int.ofNat k))) := by kernel_rfl
theorem find263 : Extern.find (fnAt Tryz.prog 263) = some (ReflectliteType.relation "AssignableTo" ReflectliteType.assignableTo) := by kernel_rfl
theorem find265 : Extern.find (fnAt Tryz.prog 265) = some (ReflectliteType.method ReflectliteType.elem) := by kernel_rfl
theorem find266 : Extern.find (fnAt Tryz.prog 266) = some (ReflectliteType.relation "Implements" ReflectliteType.implements_) := by kernel_rfl
theorem find250 : Extern.find (fnAt Tryz.prog 250) = none := by kernel_rfl
theorem name250 : ((fnAt Tryz.prog 250).name.endsWith ".init" && !(fnAt Tryz.prog 250).name.startsWith "(" && !(fnAt Tryz.prog 250).name.startsWith "gosem.") = false := by kernel_rfl
theorem rtype_cut (w : World) (es : Array Event) : (cutType "internal/reflectlite.rtype").runT Tryz.prog w es = (.ok 237 w, es) := by kernel_rfl
theorem verr_cut (w : World) (es : Array Event) : (cutType "*internal/reflectlite.ValueError").runT Tryz.prog w es = (.ok 238 w, es) := by kernel_rfl
theorem verr_elem (w : World) (es : Array Event) : (elemOf 238).runT Tryz.prog w es = (.ok 324 w, es) := by kernel_rfl
theorem steps_ok : (Tryz.prog.funcs.toList.all fun fn => (fn.body.map readies).all (fun l => l.isEmpty)) = true := by kernel_rfl
theorem mokB_congr (P : Program) (T : FuncId → Bool) (K : TypeId → Bool) (V : TypeId → Bool) (C C' : Code → Bool) (B B' : Nat) (R R' O O' : Nat → Prop) (os os' : Os) (t : TypeId) (s : String) : mokB ⟨P, T, K, C, B, R, O, os, V⟩ t s = mokB ⟨P, T, K, C', B', R', O', os', V⟩ t s := rfl
theorem reckonS_no {info : TypeId → Option TypeInfo} {fs : Array Field} {i : TypeInfo} (h : Made.reckonStruct info fs = some i) : i.methods = #[] := by
  unfold Made.reckonStruct at h
  simp only [Option.bind_eq_bind, Option.bind_eq_some_iff] at h
  obtain ⟨r, _, h⟩ := h
  split at h
  · cases h; rfl
  · cases h; rfl
theorem reckon_no {info : TypeId → Option TypeInfo} {d : TypeDesc} {i : TypeInfo} (h : Made.reckon info d = some i) : i.methods = #[] := by
  unfold Made.reckon at h
  cases d with
  | pointer e =>
    simp only [Option.bind_eq_bind, Option.bind_eq_some_iff] at h
    obtain ⟨x, _, h⟩ := h
    split at h
    · cases h
    · split at h
      · cases h
      · simp only [Option.bind_eq_some_iff] at h
        obtain ⟨y, _, h⟩ := h
        cases h
        rfl
    · simp only [Option.bind_eq_some_iff] at h
      obtain ⟨y, _, h⟩ := h
      cases h
      rfl
  | slice e =>
    simp only [Option.bind_eq_bind, Option.bind_eq_some_iff] at h
    obtain ⟨x, _, y, _, h⟩ := h
    cases h
    rfl
  | map k e =>
    simp only [Option.bind_eq_bind, Option.bind_eq_some_iff] at h
    obtain ⟨x, _, y, _, z, _, u, _, h⟩ := h
    cases h
    rfl
  | chan dir e =>
    simp only [Option.bind_eq_bind, Option.bind_eq_some_iff] at h
    obtain ⟨x, _, y, _, h⟩ := h
    cases h
    rfl
  | func a b c =>
    simp only [Option.bind_eq_bind, Option.bind_eq_some_iff] at h
    obtain ⟨x, _, h⟩ := h
    cases h
    rfl
  | array k e =>
    simp only [Option.bind_eq_bind, Option.bind_eq_some_iff] at h
    obtain ⟨x, _, y, _, h⟩ := h
    cases h
    rfl
  | struct fs => exact reckonS_no h
  | _ => cases h
theorem made_no {T : Tables} {t : TypeId} {i : TypeInfo} (hge : T.types.size ≤ t) : ∀ k, Made.infoAt T k t = some i → i.methods = #[]
  | 0, h => by cases h
  | k + 1, h => by
    unfold Made.infoAt at h
    rw [if_neg (Nat.not_lt.2 hge)] at h
    cases hd : Made.decode (t - T.types.size) with
    | none => rw [hd] at h; cases h
    | some d => rw [hd] at h; exact reckon_no h
theorem all_mem {α : Type} {l : List α} {p : α → Bool} (h : l.all p = true) {a : α} (ha : a ∈ l) : p a = true := List.all_eq_true.1 h a ha
theorem memT {g : FuncId} (h : tF.contains g = true) : g ∈ tF := by simpa using h
def nf (P : Program) : Nat → TypeId → Bool
  | 0, _ => true
  | d + 1, t => match P.underlying t with
    | some (.struct fs) => fs.toList.all fun f => nf P d f.type
    | some (.array _ e) => nf P d e
    | some (.float _) => false
    | some (.complex _) => false
    | _ => true
theorem nf_of {P : Program} : ∀ (d : Nat) (t : TypeId) (off : Nat) (l : Value), nf P d t = true → plainCell P d t off = some l → noF l = true
  | 0, _, _, _, _, h => by cases h
  | d + 1, t, off, l, hn, h => by
    unfold nf at hn
    unfold plainCell at h
    cases hu : P.underlying t with
    | none => rw [hu] at h; cases h
    | some x =>
      rw [hu] at h hn
      cases x with
      | struct fs =>
        dsimp only at h hn
        obtain ⟨fl, hfl, hx⟩ := Array.exists_of_findSome?_eq_some h
        split at hx
        · exact nf_of d fl.type _ l (all_mem hn (by simpa using hfl)) hx
        · cases hx
      | array k e =>
        dsimp only at h hn
        split at h
        · cases h
        · exact nf_of d e _ l hn h
      | bool =>
        dsimp only at h
        split at h
        · cases h; rfl
        · cases h
      | int k =>
        dsimp only at h
        split at h
        · cases h; rfl
        · cases h
      | float k => cases hn
      | complex k => cases hn
      | _ => cases h
theorem nf1 : nf Tryz.prog Tryz.prog.depth 5 = true := by kernel_rfl
theorem nf2 : nf Tryz.prog Tryz.prog.depth 104 = true := by kernel_rfl
section
variable {B : Nat} {R O : Nat → Prop} {os : Os}
theorem env_pt : ∀ u, (env Tryz.prog B R O os).V u = true → ∀ off l, plainCell (env Tryz.prog B R O os).P (env Tryz.prog B R O os).P.depth u off = some l → noF l = true := by
  intro u hu off l h
  have hu : tV u = true := hu
  unfold tV at hu
  rw [Bool.or_eq_true] at hu
  rcases hu with hu | hu
  · have hu : u = 5 := by simpa using hu
    subst hu
    exact nf_of _ _ _ _ nf1 h
  · have hu : u = 104 := by simpa using hu
    subst hu
    exact nf_of _ _ _ _ nf2 h
theorem rtOk (hg : R Tryz.prog.globals.size) : RtOk (env Tryz.prog B R O os) := ⟨rfl, rfl, rfl, rfl, rfl, rfl, rfl, hg⟩
theorem xtOk : XtOk (env Tryz.prog B R O os) := ⟨⟨_, rfl, rtype_cut⟩, ⟨_, _, rfl, verr_cut, verr_elem⟩⟩
theorem steps_none (k : Nat) : Tryz.prog.stepOf k = none := by
  unfold Program.stepOf
  rw [Array.findIdx?_eq_none_iff]
  intro fn hfn
  have := all_mem steps_ok (a := fn) (by simpa using hfn)
  cases hb : fn.body with
  | none => rfl
  | some c =>
    rw [hb] at this
    simp only [Option.map_some, Option.all_some] at this
    simp only [Option.map_some, Option.any_some]
    rw [List.isEmpty_iff.1 this]
    rfl
theorem codeOk (hG : ∀ g, g < Tryz.prog.globals.size → R g ∨ O g) : CodeOk (env Tryz.prog B R O os) tM where
  loops c := by
    show (okCode (env0 Tryz.prog) tM c && noD c) = _
    rw [okCode_same]
  bodies g fn c hT hf hb := by
    rw [okCode_same]
    have h := all_mem bodies_ok (memT hT)
    have hf : Tryz.prog.funcs[g]? = some fn := hf
    unfold bodyOk at h
    rw [hf] at h
    dsimp only at h
    rw [hb] at h
    dsimp only at h
    rw [Bool.and_eq_true] at h
    exact h.1
  globs := hG
  wait k _ := steps_none k
  ahead := ahead_ok
  back := back_ok
theorem callOk (hg : R Tryz.prog.globals.size) (hG : ∀ g, g < Tryz.prog.globals.size → R g ∨ O g) : CallOk (env Tryz.prog B R O os) tM where
  body g fn hT hf hb := by
    have h := all_mem bodies_ok (memT hT)
    have hf : Tryz.prog.funcs[g]? = some fn := hf
    unfold bodyOk at h
    rw [hf] at h
    dsimp only at h
    cases hbb : fn.body with
    | none => rw [hbb] at hb; cases hb
    | some c =>
      rw [hbb] at h
      dsimp only at h
      rw [Bool.and_eq_true] at h
      simpa using h.2
  ext g fn hT hf hb f n args F ha := by
    have H := rtOk (B := B) (O := O) (os := os) hg
    have Y := xtOk (B := B) (R := R) (O := O) (os := os)
    have hf0 : Tryz.prog.funcs[g]? = some fn := hf
    have hx : g ∈ xF := by
      have h := all_mem noBody_ok (memT hT)
      rw [hf0] at h
      have : fn.body.isSome = false := by
        cases hh : fn.body with
        | none => rfl
        | some c => rw [hh] at hb; cases hb
      simpa [this] using h
    have hn := all_mem names_ok hx
    rw [Bool.and_eq_true] at hn
    have e := fnAt_of hf0
    rw [← e] at hn
    have hn1 : (fn.name == "runtime.NumGoroutine") = false := by simpa using hn.1
    have hn2 : Extern.findNext fn = none := by simpa using hn.2
    have go : ∀ {e : Array Value → Sem Value}, Extern.find fn = some e → Sim (env Tryz.prog B R O os) f n (VQ (env Tryz.prog B R O os) f) (e args) (e (args.map (rV f))) → Sim (env Tryz.prog B R O os) f n (NQ (env Tryz.prog B R O os) f) (callFunc g args) (callFunc g (args.map (rV f))) := fun h1 h2 => sim_extern hf hn1 hb hn2 h1 h2
    unfold xF at hx
    simp only [List.mem_cons, List.not_mem_nil, or_false] at hx
    rcases hx with rfl | rfl | rfl | rfl | rfl | rfl | rfl | rfl | rfl | rfl | rfl | rfl | rfl | rfl | rfl | rfl
    · refine go (by rw [e]; exact find120) ?_
      rw [show (args.map (rV f)).getD 0 (.tuple #[]) = rV f (args.getD 0 (.tuple #[])) from getD_rV f args 0]
      exact sim_unpack F H (okAll_getD ha 0)
    · exact go (by rw [e]; exact find121) (sim_methodAny F H ha (fun _ => sim_valueError Y _ _) fun m t a k j _ _ => sim_toType F H Y t)
    · exact go (e := ReflectliteValue.method _ ReflectliteValue.isNil) (by rw [e]; exact find122) (sim_methodV F H ha (fun _ => sim_valueError Y _ _) fun m t a k j _ hA => sim_isNil F H Y hA)
    · exact go (by rw [e]; exact find162) (sim_noEscape ha)
    · exact go (by rw [e]; exact find169) (sim_typeOf F H Y ha)
    · exact go (e := ReflectliteValue.method _ ReflectliteValue.elem) (by rw [e]; exact find170) (sim_methodV F H ha (fun _ => sim_valueError Y _ _) fun m t a k j _ hA => sim_elemV F H Y hA)
    · exact go (by rw [e]; exact find171) (sim_set F H (fun _ => rfl) ha)
    · exact go (by rw [e]; exact find211) (sim_index2 F hG ha)
    · exact go (by rw [e]; exact find224) (sim_indexByte F ha)
    · exact go (by rw [e]; exact find232) (sim_makeNoZero F H)
    · exact sim_externNo hf hn1 hb hn2 (by rw [e]; exact find250) (by rw [e]; exact name250)
    · refine go (by rw [e]; exact find251) (sim_abiMethod F H ha fun m t => ?_)
      exact Sim.same (calm_kind t) fun k => Sim.pure fun _ _ => vq_plain rfl
    · exact go (e := ReflectliteValue.method (pure (.int .u8 0)) fun _ _ _ k => pure (.int .u8 (Int.ofNat k))) (by rw [e]; exact find260) (sim_methodV F H ha (fun _ => Sim.pure fun _ _ => vq_plain rfl) fun m t a k j _ hA => Sim.pure fun _ _ => vq_plain rfl)
    · exact go (by rw [e]; exact find263) (sim_relation F H fun m u t => (calm_assignable u t).sim)
    · exact go (by rw [e]; exact find265) (sim_methodT F H ha fun m t => sim_elemT F H Y t)
    · exact go (by rw [e]; exact find266) (sim_relation F H fun m u t => sim_implements H u t)
  meth t name _ hM := by
    have hs : name ∈ ["Kind", "Elem", "Implements", "AssignableTo", "As", "Unwrap"] := by
      unfold tM at hM
      simp only [Bool.or_eq_true, beq_iff_eq] at hM
      simp only [List.mem_cons, List.not_mem_nil, or_false]
      rcases hM with ((((h | h) | h) | h) | h) | h <;> simp [h]
    have e : mokB (env Tryz.prog B R O os) t name = mokB (env0 Tryz.prog) t name := mokB_congr _ _ _ _ _ _ _ _ _ _ _ _ _ _ _ _
    rw [e]
    rcases Nat.lt_or_ge t Tryz.prog.types.size with hlt | hge
    · exact all_mem (all_mem meths_ok (List.mem_range.2 hlt)) hs
    · unfold mokB
      cases hi : (env0 Tryz.prog).P.info? t with
      | none => rfl
      | some i =>
        have hi2 : Tables.info? Tryz.prog.toTables t = some i := hi
        unfold Tables.info? at hi2
        rw [if_neg (Nat.not_lt.2 hge)] at hi2
        have hm := made_no hge _ hi2
        dsimp only
        rw [hm]
        rfl
end
end Go.Proofs.YtaablbmgagiajabGreatDoor.Ren
