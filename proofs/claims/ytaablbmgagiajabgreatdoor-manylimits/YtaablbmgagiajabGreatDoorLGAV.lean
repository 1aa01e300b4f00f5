import Derived.Test.YtaablbmgagiajabGreatDoorLGAU
import Derived.Conc.AtomicLaws2
import Derived.Conc.MarkLaws
import Derived.Conc.SmallLaws
import Derived.Conc.Own2
import Derived.KernelRfl
namespace Go.Proofs.YtaablbmgagiajabGreatDoor.Ren
open Go Go.Conc Go.Extern
theorem mokB_congr (P : Program) (T : FuncId → Bool) (K : TypeId → Bool) (V : TypeId → Bool) (C C' : Code → Bool) (B B' : Nat) (R R' O O' : Nat → Prop) (os os' : Os) (t : TypeId) (s : String) : mokB ⟨P, T, K, C, B, R, O, os, V⟩ t s = mokB ⟨P, T, K, C', B', R', O', os', V⟩ t s := rfl
theorem reckonS_no {info : TypeId → Option TypeInfo} {fs : Array Field} {i : TypeInfo} (h : Made.reckonStruct info fs = some i) : i.methods = #[] := by
  unfold Made.reckonStruct at h
  simp only [Option.bind_eq_bind, Option.bind_eq_some_iff] at h
  obtain ⟨r, _, h⟩ := h
  split at h
  · cases h; rfl
  · cases h; rfl
theorem reckon_no {info : TypeId → Option TypeInfo} {d : TypeDesc} {i : TypeInfo} (h : Made.reckon info d = some i) : i.methods = #[] := by
  unfold Made.reckon at h
  cases d with
  | pointer e =>
    simp only [Option.bind_eq_bind, Option.bind_eq_some_iff] at h
    obtain ⟨x, _, h⟩ := h
    split at h
    · cases h
    · split at h
      · cases h
      · simp only [Option.bind_eq_some_iff] at h
        obtain ⟨y, _, h⟩ := h
        cases h
        rfl
    · simp only [Option.bind_eq_some_iff] at h
      obtain ⟨y, _, h⟩ := h
      cases h
      rfl
  | slice e =>
    simp only [Option.bind_eq_bind, Option.bind_eq_some_iff] at h
    obtain ⟨x, _, y, _, h⟩ := h
    cases h
    rfl
  | map k e =>
    simp only [Option.bind_eq_bind, Option.bind_eq_some_iff] at h
    obtain ⟨x, _, y, _, z, _, u, _, h⟩ := h
    cases h
    rfl
  | chan dir e =>
    simp only [Option.bind_eq_bind, Option.bind_eq_some_iff] at h
    obtain ⟨x, _, y, _, h⟩ := h
    cases h
    rfl
  | func a b c =>
    simp only [Option.bind_eq_bind, Option.bind_eq_some_iff] at h
    obtain ⟨x, _, h⟩ := h
    cases h
    rfl
  | array k e =>
    simp only [Option.bind_eq_bind, Option.bind_eq_some_iff] at h
    obtain ⟨x, _, y, _, h⟩ := h
    cases h
    rfl
  | struct fs => exact reckonS_no h
  | _ => cases h
theorem made_no {T : Tables} {t : TypeId} {i : TypeInfo} (hge : T.types.size ≤ t) : ∀ k, Made.infoAt T k t = some i → i.methods = #[]
  | 0, h => by cases h
  | k + 1, h => by
    unfold Made.infoAt at h
    rw [if_neg (Nat.not_lt.2 hge)] at h
    cases hd : Made.decode (t - T.types.size) with
    | none => rw [hd] at h; cases h
    | some d => rw [hd] at h; exact reckon_no h
theorem all_mem {α : Type} {l : List α} {p : α → Bool} (h : l.all p = true) {a : α} (ha : a ∈ l) : p a = true := List.all_eq_true.1 h a ha
theorem memT {g : FuncId} (h : tF.contains g = true) : g ∈ tF := by simpa using h
def nf (P : Program) : Nat → TypeId → Bool
  | 0, _ => true
  | d + 1, t => match P.underlying t with
    | some (.struct fs) => fs.toList.all fun f => nf P d f.type
    | some (.array _ e) => nf P d e
    | some (.float _) => false
    | some (.complex _) => false
    | _ => true
theorem nf_of {P : Program} : ∀ (d : Nat) (t : TypeId) (off : Nat) (l : Value), nf P d t = true → plainCell P d t off = some l → noF l = true
  | 0, _, _, _, _, h => by cases h
  | d + 1, t, off, l, hn, h => by
    unfold nf at hn
    unfold plainCell at h
    cases hu : P.underlying t with
    | none => rw [hu] at h; cases h
    | some x =>
      rw [hu] at h hn
      cases x with
      | struct fs =>
        dsimp only at h hn
        obtain ⟨fl, hfl, hx⟩ := Array.exists_of_findSome?_eq_some h
        split at hx
        · exact nf_of d fl.type _ l (all_mem hn (by simpa using hfl)) hx
        · cases hx
      | array k e =>
        dsimp only at h hn
        split at h
        · cases h
        · exact nf_of d e _ l hn h
      | bool =>
        dsimp only at h
        split at h
        · cases h; rfl
        · cases h
      | int k =>
        dsimp only at h
        split at h
        · cases h; rfl
        · cases h
      | float k => cases hn
      | complex k => cases hn
      | _ => cases h
theorem nf1 : nf Tryz.prog Tryz.prog.depth 5 = true := by kernel_rfl
theorem nf2 : nf Tryz.prog Tryz.prog.depth 104 = true := by kernel_rfl
section
variable {B : Nat} {R O : Nat → Prop} {os : Os}
theorem env_pt : ∀ u, (env B R O os).V u = true → ∀ off l, plainCell (env B R O os).P (env B R O os).P.depth u off = some l → noF l = true := by
  intro u hu off l h
  have hu : tV u = true := hu
  unfold tV at hu
  rw [Bool.or_eq_true] at hu
  rcases hu with hu | hu
  · have hu : u = 5 := by simpa using hu
    subst hu
    exact nf_of _ _ _ _ nf1 h
  · have hu : u = 104 := by simpa using hu
    subst hu
    exact nf_of _ _ _ _ nf2 h
theorem rtOk (hg : R Tryz.prog.globals.size) : RtOk (env B R O os) := ⟨rfl, rfl, rfl, rfl, rfl, rfl, rfl, hg⟩
theorem xtOk : XtOk (env B R O os) := ⟨⟨_, rfl, rtype_cut⟩, ⟨_, _, rfl, verr_cut, verr_elem⟩⟩
theorem steps_none (k : Nat) : Tryz.prog.stepOf k = none := by
  unfold Program.stepOf
  rw [Array.findIdx?_eq_none_iff]
  intro fn hfn
  have := all_mem steps_ok (a := fn) (by simpa using hfn)
  cases hb : fn.body with
  | none => rfl
  | some c =>
    rw [hb] at this
    simp only [Option.map_some, Option.all_some] at this
    simp only [Option.map_some, Option.any_some]
    rw [List.isEmpty_iff.1 this]
    rfl
theorem codeOk (hG : ∀ g, g < Tryz.prog.globals.size → R g ∨ O g) : CodeOk (env B R O os) tM where
  loops c := by
    show (okCode env0 tM c && noD c) = _
    rw [okCode_same]
  bodies g fn c hT hf hb := by
    rw [okCode_same]
    have h := all_mem bodies_ok (memT hT)
    have hf : Tryz.prog.funcs[g]? = some fn := hf
    unfold bodyOk at h
    rw [hf] at h
    dsimp only at h
    rw [hb] at h
    dsimp only at h
    rw [Bool.and_eq_true] at h
    exact h.1
  globs := hG
  wait k _ := steps_none k
  ahead := ahead_ok
  back := back_ok
theorem callOk (hg : R Tryz.prog.globals.size) (hG : ∀ g, g < Tryz.prog.globals.size → R g ∨ O g) : CallOk (env B R O os) tM where
  body g fn hT hf hb := by
    have h := all_mem bodies_ok (memT hT)
    have hf : Tryz.prog.funcs[g]? = some fn := hf
    unfold bodyOk at h
    rw [hf] at h
    dsimp only at h
    cases hbb : fn.body with
    | none => rw [hbb] at hb; cases hb
    | some c =>
      rw [hbb] at h
      dsimp only at h
      rw [Bool.and_eq_true] at h
      simpa using h.2
  ext g fn hT hf hb f n args F ha := by
    have H := rtOk (B := B) (O := O) (os := os) hg
    have Y := xtOk (B := B) (R := R) (O := O) (os := os)
    have hf0 : Tryz.prog.funcs[g]? = some fn := hf
    have hx : g ∈ xF := by
      have h := all_mem noBody_ok (memT hT)
      rw [hf0] at h
      have : fn.body.isSome = false := by
        cases hh : fn.body with
        | none => rfl
        | some c => rw [hh] at hb; cases hb
      simpa [this] using h
    have hn := all_mem names_ok hx
    rw [Bool.and_eq_true] at hn
    have e := fnAt_of hf0
    rw [← e] at hn
    have hn1 : (fn.name == "runtime.NumGoroutine") = false := by simpa using hn.1
    have hn2 : Extern.findNext fn = none := by simpa using hn.2
    have go : ∀ {e : Array Value → Sem Value}, Extern.find fn = some e → Sim (env B R O os) f n (VQ (env B R O os) f) (e args) (e (args.map (rV f))) → Sim (env B R O os) f n (NQ (env B R O os) f) (callFunc g args) (callFunc g (args.map (rV f))) := fun h1 h2 => sim_extern hf hn1 hb hn2 h1 h2
    unfold xF at hx
    simp only [List.mem_cons, List.not_mem_nil, or_false] at hx
    rcases hx with rfl | rfl | rfl | rfl | rfl | rfl | rfl | rfl | rfl | rfl | rfl | rfl | rfl | rfl | rfl | rfl
    · refine go (by rw [e]; exact find120) ?_
      rw [show (args.map (rV f)).getD 0 (.tuple #[]) = rV f (args.getD 0 (.tuple #[])) from getD_rV f args 0]
      exact sim_unpack F H (okAll_getD ha 0)
    · exact go (by rw [e]; exact find121) (sim_methodAny F H ha (fun _ => sim_valueError Y _ _) fun m t a k j _ _ => sim_toType F H Y t)
    · exact go (e := ReflectliteValue.method _ ReflectliteValue.isNil) (by rw [e]; exact find122) (sim_methodV F H ha (fun _ => sim_valueError Y _ _) fun m t a k j _ hA => sim_isNil F H Y hA)
    · exact go (by rw [e]; exact find162) (sim_noEscape ha)
    · exact go (by rw [e]; exact find169) (sim_typeOf F H Y ha)
    · exact go (e := ReflectliteValue.method _ ReflectliteValue.elem) (by rw [e]; exact find170) (sim_methodV F H ha (fun _ => sim_valueError Y _ _) fun m t a k j _ hA => sim_elemV F H Y hA)
    · exact go (by rw [e]; exact find171) (sim_set F H (fun _ => rfl) ha)
    · exact go (by rw [e]; exact find211) (sim_index2 F hG ha)
    · exact go (by rw [e]; exact find224) (sim_indexByte F ha)
    · exact go (by rw [e]; exact find232) (sim_makeNoZero F H)
    · exact sim_externNo hf hn1 hb hn2 (by rw [e]; exact find250) (by rw [e]; exact name250)
    · refine go (by rw [e]; exact find251) (sim_abiMethod F H ha fun m t => ?_)
      exact Sim.same (calm_kind t) fun k => Sim.pure fun _ _ => vq_plain rfl
    · exact go (e := ReflectliteValue.method (pure (.int .u8 0)) fun _ _ _ k => pure (.int .u8 (Int.ofNat k))) (by rw [e]; exact find260) (sim_methodV F H ha (fun _ => Sim.pure fun _ _ => vq_plain rfl) fun m t a k j _ hA => Sim.pure fun _ _ => vq_plain rfl)
    · exact go (by rw [e]; exact find263) (sim_relation F H fun m u t => (calm_assignable u t).sim)
    · exact go (by rw [e]; exact find265) (sim_methodT F H ha fun m t => sim_elemT F H Y t)
    · exact go (by rw [e]; exact find266) (sim_relation F H fun m u t => sim_implements H u t)
  meth t name _ hM := by
    have hs : name ∈ ["Kind", "Elem", "Implements", "AssignableTo", "As", "Unwrap"] := by
      unfold tM at hM
      simp only [Bool.or_eq_true, beq_iff_eq] at hM
      simp only [List.mem_cons, List.not_mem_nil, or_false]
      rcases hM with ((((h | h) | h) | h) | h) | h <;> simp [h]
    have e : mokB (env B R O os) t name = mokB env0 t name := mokB_congr _ _ _ _ _ _ _ _ _ _ _ _ _ _ _ _
    rw [e]
    rcases Nat.lt_or_ge t Tryz.prog.types.size with hlt | hge
    · exact all_mem (all_mem meths_ok (List.mem_range.2 hlt)) hs
    · unfold mokB
      cases hi : env0.P.info? t with
      | none => rfl
      | some i =>
        have hi2 : Tables.info? Tryz.prog.toTables t = some i := hi
        unfold Tables.info? at hi2
        rw [if_neg (Nat.not_lt.2 hge)] at hi2
        have hm := made_no hge _ hi2
        dsimp only
        rw [hm]
        rfl
end
end Go.Proofs.YtaablbmgagiajabGreatDoor.Ren
namespace Go.Proofs.YtaablbmgagiajabGreatDoor.Ren
open Go Go.Conc
theorem rV_id : ∀ v : Value, rV id v = v
  | .pointer a => by rw [rV]; cases a <;> rfl
  | .slice a n c => by rw [rV]; cases a <;> rfl
  | .map r => by rw [rV]; cases r <;> rfl
  | .chan r => by rw [rV]; cases r <;> rfl
  | .func fn a b => by
    rw [rV, map_same fun x hx => rV_id x, map_same fun x hx => rV_id x]
    cases fn <;> rfl
  | .iface t v => by rw [rV, rV_id v]
  | .agg cs => by rw [rV, map_same fun x hx => rV_id x]
  | .tuple cs => by rw [rV, map_same fun x hx => rV_id x]
  | .bool _ | .int _ _ | .float _ _ | .complex _ _ _ | .string _ | .nilFunc | .nilIface => by rw [rV]
theorem cont_of_calls {E : Env} {g : FuncId} {args : Array Value} {h0 : Array Obj} {R : Value → World → Prop} (h : ∀ wl : World, wl.heap = h0 → wl.os = E.os → Calls E.P g args wl fun e w' => ∃ v, e = .returned v ∧ R v w') : Cont E ([Frame.enter E.P g args .normal], h0) R := by
  intro wl hw hos
  obtain ⟨e, w', fr, ⟨v, rfl, hR⟩, ⟨k, hk⟩, _, hl⟩ := h wl hw hos [c0]
  exact ⟨v, w', fr, k, hR, hk, hl⟩
noncomputable def h0Of (R O : Nat → Prop) (B : Nat) (hc : Array Obj) : Array Obj := Array.ofFn (n := B) fun k => open Classical in
  match hc[k.1]? with
  | some (.cells c t _) => if R k.1 then .cells c t (0, c.size) else if O k.1 then .pending c t else .cells #[] 0
  | _ => .cells #[] 0
theorem h0Of_size (R O : Nat → Prop) (B : Nat) (hc : Array Obj) : (h0Of R O B hc).size = B := by simp [h0Of]
theorem h0Of_get {R O : Nat → Prop} {B : Nat} {hc : Array Obj} {k : Nat} (hk : k < B) {c : Array Value} {t : TypeId} {z : Nat × Nat} (h : hc[k]? = some (.cells c t z)) : (R k → (h0Of R O B hc)[k]? = some (.cells c t (0, c.size))) ∧ (¬ R k → O k → (h0Of R O B hc)[k]? = some (.pending c t)) := by
  have hlt : k < (h0Of R O B hc).size := by rw [h0Of_size]; exact hk
  rw [Array.getElem?_eq_getElem hlt]
  simp only [h0Of, Array.getElem_ofFn, h]
  exact ⟨fun hR => by rw [if_pos hR], fun hR hO => by rw [if_neg hR, if_pos hO]⟩
structure LowOk (R O : Nat → Prop) (B : Nat) (os : Os) (hc : Array Obj) : Prop where
  ro : ∀ k, R k → k < B ∧ ∃ c t, hc[k]? = some (.cells c t (0, 0)) ∧ ∀ v, v ∈ c → okV (env B R O os) B v ∧ roV v
  op : ∀ k, O k → k < B ∧ ∃ c t, hc[k]? = some (.cells c t (0, 0)) ∧ 0 < c.size
  no : ∀ k, R k → ¬ O k
  g : R Tryz.prog.globals.size
  gs : ∀ g, g < Tryz.prog.globals.size → R g ∨ O g
section
variable {R O : Nat → Prop} {B : Nat} {os : Os}
theorem Follows.begin {w0 w : World} (h : LowOk R O B os w0.heap) (he : ∀ k, R k ∨ O k → w.heap[k]? = w0.heap[k]?) (hB : B ≤ w.heap.size) (hos : w.os = os) {g : FuncId} {args : Array Value} (hT : tF.contains g = true) (ha : okAll (env B R O os) B args) :
    Follows (env B R O os) tM ([Frame.enter Tryz.prog g args .normal], h0Of R O B w0.heap) (fun j => if j < B then j else w.heap.size + (j - B)) ([Frame.enter Tryz.prog g args .normal], h0Of R O B w0.heap) w := by
  have hf : ∀ k, k < B → (fun j => if j < B then j else w.heap.size + (j - B)) k = k := fun k hk => if_pos hk
  have F : Fit (env B R O os) (fun j => if j < B then j else w.heap.size + (j - B)) := by
    refine ⟨fun a b e => ?_, hf, fun k hk => (h.ro k hk).1, fun k hk => (h.op k hk).1, h.no, env_pt⟩
    split at e <;> split at e <;> omega
  have hsz := h0Of_size R O B w0.heap
  refine ⟨F, ⟨fun k o hk ho => ?_, fun k hk => ?_, fun k hk => ?_, by rw [hsz]; exact Nat.le_refl _, fun j hj => ?_⟩, hos, ⟨fun fr hfr => ?_, ?_⟩, 0, [], Reach.zero⟩
  · have : k < B := by
      rcases Nat.lt_or_ge k (h0Of R O B w0.heap).size with hlt | hge
      · omega
      · rw [Array.getElem?_eq_none hge] at ho; cases ho
    exact absurd this (Nat.not_lt.2 hk)
  · obtain ⟨h1, c, t, h2, h3⟩ := h.ro k hk
    refine ⟨c, t, (h0Of_get h1 h2).1 hk, (he k (.inl hk)).trans h2, fun v hv => ?_⟩
    obtain ⟨q1, q2⟩ := h3 v hv
    have hAg : Ag (env B R O os) B (fun j => if j < B then j else w.heap.size + (j - B)) id := ⟨fun k hk => hf k (h.ro k hk).1, fun k hk => hf k (h.op k hk).1, fun k hk => hf k hk.2⟩
    refine ⟨by rw [hsz]; exact q1, q2, ?_⟩
    rw [rV_eq hAg v q1]
    exact rV_id v
  · obtain ⟨h1, c, t, h2, h3⟩ := h.op k hk
    exact ⟨c, t, c, (h0Of_get h1 h2).2 (fun hR => h.no k hR hk) hk, (he k (.inr hk)).trans h2, rfl, h3⟩
  · rw [hsz] at hj ⊢
    rw [if_neg (by omega)]
    omega
  · cases hfr with
    | head => exact okF.enter (codeOk h.gs) hT (by rw [hsz]; exact ha) (.inl rfl)
    | tail _ h => cases h
  · exact ⟨rfl, rfl⟩
end
noncomputable def nxt (main : Bool) (g : Goroutine) : Goroutine := match stepG Tryz.prog main g default with
  | .go g' _ _ => g'
  | _ => g
noncomputable def nxts (main : Bool) : Nat → Goroutine → Goroutine
  | 0, g => g
  | n + 1, g => nxts main n (nxt main g)
def SilP (main : Bool) : Nat → Goroutine → Prop
  | 0, _ => True
  | n + 1, g => (g.status = .running ∧ ∀ w, stepG Tryz.prog main g w = .go (nxt main g) w #[]) ∧ SilP main n (nxt main g)
theorem Wk.sil {main : Bool} {K : World → Prop} {Ok : Event → Prop} {Stop : Goroutine → Prop} {m : Nat} : ∀ (n : Nat) (g : Goroutine), SilP main n g → Wk Tryz.prog main K Ok Stop m (nxts main n g) → Wk Tryz.prog main K Ok Stop (m + n) g
  | 0, _, _, h => h
  | n + 1, g, hs, h => Wk.step hs.1.1 (fun w _ => hs.1.2 w) (fun e he => by simp at he) (Wk.sil n (nxt main g) hs.2 h)
theorem QuitsD.sil {d m : Nat} : ∀ (n : Nat) (g : Goroutine), SilP false n g → QuitsD Tryz.prog m d (nxts false n g) → QuitsD Tryz.prog (m + n) d g
  | 0, _, _, h => h
  | n + 1, g, hs, h => QuitsD.ctl hs.1.1 hs.1.2 (QuitsD.sil n (nxt false g) hs.2 h)
def fin (g : Goroutine) (v : Value) : Goroutine := { frame := g.frame.finish v, callers := g.callers, status := .running, dying := none }
def opAt (g : Goroutine) : Oper := match g.frame.todo with
  | .inRegion ops (i :: _) :: _ => ops.getD i default
  | _ => default
def atOp (g : Goroutine) : Bool := match g.status, g.dying, g.offers, g.frame.mode, g.frame.roundOf, g.frame.todo with
  | .running, none, none, .run, none, .inRegion ops (i :: _) :: _ => (ops[i]?).isSome && Region.wanted (ops.getD i default) (yielded ops g.frame.tmps) && g.frame.kind != .early
  | _, _, _, _, _, _ => false
def typesOf : Op → Array TypeId
  | .call c => c.argTypes
  | _ => #[]
theorem atOp_form {g : Goroutine} (h : atOp g = true) : ∃ ops i rest k, g = G (g.frame.at ⟨g.frame.tmps, g.frame.defers⟩ (.inRegion ops (i :: rest) :: k)) g.callers ∧ ops[i]? = some (opAt g) ∧ Region.wanted (opAt g) (yielded ops g.frame.tmps) = true ∧ g.frame.kind ≠ .early ∧ ∀ v, G (g.frame.at (Act.put ⟨g.frame.tmps, g.frame.defers⟩ (opAt g).dst v) (.inRegion ops rest :: k)) g.callers = fin g v := by
  obtain ⟨fr, cs, st, dy, of⟩ := g
  unfold atOp at h
  simp only at h
  split at h
  · rename_i ops i rest k hm hro ht
    simp only [Bool.and_eq_true, bne_iff_ne, ne_eq] at h
    obtain ⟨⟨h1, h2⟩, h3⟩ := h
    obtain ⟨o, ho⟩ := Option.isSome_iff_exists.1 h1
    have e1 : opAt ⟨fr, cs, .running, none, none⟩ = o := by
      simp only [opAt, ht, Array.getD_eq_getD_getElem?, ho, Option.getD_some]
    have e2 : ops.getD i default = o := by rw [Array.getD_eq_getD_getElem?, ho]; rfl
    rw [e2] at h2
    have e3 : fr.at ⟨fr.tmps, fr.defers⟩ (.inRegion ops (i :: rest) :: k) = fr := by
      rw [← ht]
      obtain ⟨a1, a2, a3, a4, a5, a6, a7⟩ := fr
      simp only at hm hro
      subst hm
      subst hro
      rfl
    refine ⟨ops, i, rest, k, ?_, by rw [e1]; exact ho, by rw [e1]; exact h2, h3, fun v => ?_⟩
    · show _ = G _ _
      rw [e3]
      rfl
    · have := Frame.finish_at fr ⟨fr.tmps, fr.defers⟩ ops i rest k v
      rw [e3, ho] at this
      rw [e1]
      simp only [Option.bind_some] at this
      unfold fin
      simp only [this]
      rfl
  · cases h
section
variable {main : Bool} {g : Goroutine} {w : World} {f : FuncId} {fn : Func}
theorem k_value (h : atOp g = true) {v : Value} {w' : World} (hr : (execOp g.frame.eval (opAt g)).run Tryz.prog w = .ok (.value v) w') : stepG Tryz.prog main g w = .go (fin g v) w' (seen Tryz.prog g.frame.fn ((execOp g.frame.eval (opAt g)).events Tryz.prog w #[])) := by
  obtain ⟨ops, i, rest, k, e, h1, h2, h3, h4⟩ := atOp_form h
  have he : Act.eval ⟨g.frame.tmps, g.frame.defers⟩ = g.frame.eval := rfl
  have := stepG_value (P := Tryz.prog) (main := main) (b := g.frame) (a := ⟨g.frame.tmps, g.frame.defers⟩) (k := k) (cs := g.callers) (rest := rest) (w := w) (v := v) (w' := w') h1 h2 h3 (by rw [he]; exact hr)
  rw [← e, h4] at this
  exact this
theorem k_skip (h : atOp g = true) {w' : World} (hr : (execOp g.frame.eval (opAt g)).run Tryz.prog w = .ok .skip w') : stepG Tryz.prog main g w = .go (fin g undef) w' (seen Tryz.prog g.frame.fn ((execOp g.frame.eval (opAt g)).events Tryz.prog w #[])) := by
  obtain ⟨ops, i, rest, k, e, h1, h2, h3, h4⟩ := atOp_form h
  have he : Act.eval ⟨g.frame.tmps, g.frame.defers⟩ = g.frame.eval := rfl
  have := stepG_none (P := Tryz.prog) (main := main) (b := g.frame) (a := ⟨g.frame.tmps, g.frame.defers⟩) (k := k) (cs := g.callers) (rest := rest) (w := w) (w' := w') h1 h2 h3 (by rw [he]; exact hr)
  rw [← e, h4] at this
  exact this
variable {x y z : Operand} (h : atOp g = true) (hf : Tryz.prog.funcs[f]? = some fn) (hname : (fn.name == "runtime.NumGoroutine") = false) (hb : fn.body.isNone = true) (hn : Extern.findNext fn = none)
include h hf hname hb hn
theorem k_load (hop : (opAt g).op = .call { callee := .value (.func f), args := #[x], argTypes := typesOf (opAt g).op }) (he : Extern.find fn = some (Extern.Atomic.loadT (.int .u64))) {ad : Addr} {v : Int} (hx : g.frame.eval x = .pointer (some ad)) (hc : w.cell? ad = some (.int .u64 v)) :
    stepG Tryz.prog main g w = .go (fin g (.int .u64 v)) w #[⟨.cell ad, false, true⟩] := by
  obtain ⟨ops, i, rest, k, e, h1, h2, h3, h4⟩ := atOp_form h
  have := stepG_load_atomic (P := Tryz.prog) (main := main) (b := g.frame) (a := ⟨g.frame.tmps, g.frame.defers⟩) (kk := k) (cs := g.callers) (rest := rest) h1 h2 h3 hop hf hname hb hn .u64 he hx hc
  rw [← e, h4] at this
  exact this
theorem k_store (hop : (opAt g).op = .call { callee := .value (.func f), args := #[x, y], argTypes := typesOf (opAt g).op }) (he : Extern.find fn = some Extern.Atomic.storeT) {ad : Addr} {v : Int} {u : Value} (hx : g.frame.eval x = .pointer (some ad)) (hy : g.frame.eval y = .int .u64 v) (hc : w.cell? ad = some u) (hz : w.frozen? ad = false) :
    stepG Tryz.prog main g w = .go (fin g (.tuple #[])) (w.setCell ad (.int .u64 v)) #[⟨.cell ad, true, true⟩] := by
  obtain ⟨ops, i, rest, k, e, h1, h2, h3, h4⟩ := atOp_form h
  have := stepG_store_atomic (P := Tryz.prog) (main := main) (b := g.frame) (a := ⟨g.frame.tmps, g.frame.defers⟩) (kk := k) (cs := g.callers) (rest := rest) h1 h2 h3 hop hf hname hb hn he hx hy hc hz
  rw [← e, h4] at this
  exact this
theorem k_add (hop : (opAt g).op = .call { callee := .value (.func f), args := #[x, y], argTypes := typesOf (opAt g).op }) (he : Extern.find fn = some (Extern.Atomic.update (Op.intArith .add) .u64 true)) {ad : Addr} {v d n : Int} (hx : g.frame.eval x = .pointer (some ad)) (hy : g.frame.eval y = .int .u64 d) (hc : w.cell? ad = some (.int .u64 v)) (hz : w.frozen? ad = false) (hs : IntKind.u64.wrap (v + d) = n) :
    stepG Tryz.prog main g w = .go (fin g (.int .u64 n)) (w.setCell ad (.int .u64 n)) #[⟨.cell ad, false, true⟩, ⟨.cell ad, true, true⟩] := by
  obtain ⟨ops, i, rest, k, e, h1, h2, h3, h4⟩ := atOp_form h
  have := stepG_add_atomic (P := Tryz.prog) (main := main) (b := g.frame) (a := ⟨g.frame.tmps, g.frame.defers⟩) (kk := k) (cs := g.callers) (rest := rest) h1 h2 h3 hop hf hname hb hn .u64 he hx hy hc hz
  rw [← e, h4, hs] at this
  exact this
theorem k_hit (hop : (opAt g).op = .call { callee := .value (.func f), args := #[x, y, z], argTypes := typesOf (opAt g).op }) (he : Extern.find fn = some (Extern.Atomic.casT (.int .u64))) {ad : Addr} {v n : Int} (hx : g.frame.eval x = .pointer (some ad)) (hy : g.frame.eval y = .int .u64 v) (hzz : g.frame.eval z = .int .u64 n) (hc : w.cell? ad = some (.int .u64 v)) (hz : w.frozen? ad = false) :
    stepG Tryz.prog main g w = .go (fin g (.bool true)) (w.setCell ad (.int .u64 n)) #[⟨.cell ad, false, true⟩, ⟨.cell ad, true, true⟩] := by
  obtain ⟨ops, i, rest, k, e, h1, h2, h3, h4⟩ := atOp_form h
  have := stepG_cas_hit (P := Tryz.prog) (main := main) (b := g.frame) (a := ⟨g.frame.tmps, g.frame.defers⟩) (kk := k) (cs := g.callers) (rest := rest) h1 h2 h3 hop hf hname hb hn .u64 he hx hy hzz hc hz
  rw [← e, h4] at this
  exact this
theorem k_miss (hop : (opAt g).op = .call { callee := .value (.func f), args := #[x, y, z], argTypes := typesOf (opAt g).op }) (he : Extern.find fn = some (Extern.Atomic.casT (.int .u64))) {ad : Addr} {v old n : Int} (hx : g.frame.eval x = .pointer (some ad)) (hy : g.frame.eval y = .int .u64 old) (hzz : g.frame.eval z = .int .u64 n) (hc : w.cell? ad = some (.int .u64 v)) (hz : w.frozen? ad = false) (hne : ¬ v = old) :
    stepG Tryz.prog main g w = .go (fin g (.bool false)) w #[⟨.cell ad, false, true⟩] := by
  obtain ⟨ops, i, rest, k, e, h1, h2, h3, h4⟩ := atOp_form h
  have := stepG_cas_miss (P := Tryz.prog) (main := main) (b := g.frame) (a := ⟨g.frame.tmps, g.frame.defers⟩) (kk := k) (cs := g.callers) (rest := rest) h1 h2 h3 hop hf hname hb hn .u64 he hx hy hzz hc hz hne
  rw [← e, h4] at this
  exact this
variable {xs : Array Operand} (hop : (opAt g).op = .call { callee := .value (.func f), args := xs, argTypes := typesOf (opAt g).op })
include hop
theorem k_acquire (he : Extern.find fn = some Extern.Sync.semacquire) {ad : Addr} (hx : (xs.map g.frame.eval)[0]? = some (.pointer (some ad))) (hc : w.cell? ad = some (.int .u32 1)) (hz : w.frozen? ad = false) :
    stepG Tryz.prog main g w = .go (fin g (.tuple #[])) (w.setCell ad (.int .u32 0)) (semEvents ad) := by
  obtain ⟨ops, i, rest, k, e, h1, h2, h3, h4⟩ := atOp_form h
  have := stepG_semacquire (P := Tryz.prog) (main := main) (b := g.frame) (a := ⟨g.frame.tmps, g.frame.defers⟩) (kk := k) (cs := g.callers) (rest := rest) h1 h2 h3 hop hf hname hb hn he hx hc (by decide) hz
  rw [← e, h4] at this
  exact this
theorem k_waits (he : Extern.find fn = some Extern.Sync.semacquire) {ad : Addr} (hx : (xs.map g.frame.eval)[0]? = some (.pointer (some ad))) (hc : w.cell? ad = some (.int .u32 0)) :
    stepG Tryz.prog main g w = .go { g with status := .blocked } w #[] := by
  obtain ⟨ops, i, rest, k, e, h1, h2, h3, h4⟩ := atOp_form h
  have := stepG_semacquire_wait (P := Tryz.prog) (main := main) (b := g.frame) (a := ⟨g.frame.tmps, g.frame.defers⟩) (kk := k) (cs := g.callers) (rest := rest) h1 h2 hop hf hname hb hn he hx hc
  rw [← e] at this
  exact this
theorem k_release (he : Extern.find fn = some Extern.Sync.semrelease) {ad : Addr} (hx : (xs.map g.frame.eval)[0]? = some (.pointer (some ad))) (hc : w.cell? ad = some (.int .u32 0)) (hz : w.frozen? ad = false) :
    stepG Tryz.prog main g w = .go (fin g (.tuple #[])) (w.setCell ad (.int .u32 1)) (semEvents ad) := by
  obtain ⟨ops, i, rest, k, e, h1, h2, h3, h4⟩ := atOp_form h
  have := stepG_semrelease (P := Tryz.prog) (main := main) (b := g.frame) (a := ⟨g.frame.tmps, g.frame.defers⟩) (kk := k) (cs := g.callers) (rest := rest) h1 h2 h3 hop hf hname hb hn he hx hc hz
  rw [← e, h4] at this
  exact this
end
def ldS (a : Addr) : Sem Next := load a .plain >>= fun v => pure (.value v)
def stS (a : Addr) (v : Value) : Sem Next := store a v .plain >>= fun _ => pure .skip
def st2S (a b : Addr) (v u : Value) : Sem Next := store a v .plain >>= fun _ => store b u .plain >>= fun _ => pure .skip
section
variable {main : Bool} {g : Goroutine} {w : World}
theorem runT_pair {s s' : Sem Next} {w : World} (h : s.runT Tryz.prog w #[] = s'.runT Tryz.prog w #[]) : s.run Tryz.prog w = s'.run Tryz.prog w ∧ s.events Tryz.prog w #[] = s'.events Tryz.prog w #[] := by
  refine ⟨?_, ?_⟩
  · rw [← Sem.runT_fst Tryz.prog s w #[], ← Sem.runT_fst Tryz.prog s' w #[], h]
  · exact congrArg Prod.snd h
theorem k_ld (h : atOp g = true) {a : Addr} (hs : (execOp g.frame.eval (opAt g)).runT Tryz.prog w #[] = (ldS a).runT Tryz.prog w #[]) {v : Value} (hc : w.cell? a = some v) (hq : seen Tryz.prog g.frame.fn #[⟨.cell a, false, false⟩] = #[⟨.cell a, false, false⟩]) : stepG Tryz.prog main g w = .go (fin g v) w #[⟨.cell a, false, false⟩] := by
  obtain ⟨h1, h2⟩ := runT_pair hs
  have e1 : (ldS a).run Tryz.prog w = .ok (.value v) w := by simp [ldS, hc]
  have e2 : (ldS a).events Tryz.prog w #[] = #[⟨.cell a, false, false⟩] := by simp [ldS, hc]
  have := k_value (main := main) h (h1.trans e1)
  rw [h2, e2, hq] at this
  exact this
theorem k_st (h : atOp g = true) {a : Addr} {u : Value} (hs : (execOp g.frame.eval (opAt g)).runT Tryz.prog w #[] = (stS a u).runT Tryz.prog w #[]) {v : Value} (hu : u.oneCell' = true) (hc : w.cell? a = some v) (hz : w.frozen? a = false) (hq : seen Tryz.prog g.frame.fn #[⟨.cell a, true, false⟩] = #[⟨.cell a, true, false⟩]) : stepG Tryz.prog main g w = .go (fin g undef) (w.setCell a u) #[⟨.cell a, true, false⟩] := by
  obtain ⟨h1, h2⟩ := runT_pair hs
  have e1 : (stS a u).run Tryz.prog w = .ok .skip (w.setCell a u) := by simp [stS, run_store _ w a u .plain hu, hc, hz]
  have e2 : (stS a u).events Tryz.prog w #[] = #[⟨.cell a, true, false⟩] := by simp [stS, events_store _ w _ a u .plain hu, hc, hz]
  have := k_skip (main := main) h (h1.trans e1)
  rw [h2, e2, hq] at this
  exact this
theorem k_st2 (h : atOp g = true) {a b : Addr} {u u' : Value} (hs : (execOp g.frame.eval (opAt g)).runT Tryz.prog w #[] = (st2S a b u u').runT Tryz.prog w #[]) {v v' : Value} (hu : u.oneCell' = true) (hu' : u'.oneCell' = true) (hab : a ≠ b) (hc : w.cell? a = some v) (hc' : w.cell? b = some v') (hz : w.frozen? a = false) (hz' : w.frozen? b = false) (hq : seen Tryz.prog g.frame.fn #[⟨.cell a, true, false⟩, ⟨.cell b, true, false⟩] = #[⟨.cell a, true, false⟩, ⟨.cell b, true, false⟩]) :
    stepG Tryz.prog main g w = .go (fin g undef) ((w.setCell a u).setCell b u') #[⟨.cell a, true, false⟩, ⟨.cell b, true, false⟩] := by
  obtain ⟨h1, h2⟩ := runT_pair hs
  have hc2 : (w.setCell a u).cell? b = some v' := by rw [World.cell?_setCell_other _ _ _ _ hab]; exact hc'
  have hz2 : (w.setCell a u).frozen? b = false := by rw [World.frozen?_setCell]; exact hz'
  have e1 : (st2S a b u u').run Tryz.prog w = .ok .skip ((w.setCell a u).setCell b u') := by simp [st2S, run_store _ w a u .plain hu, run_store _ (w.setCell a u) b u' .plain hu', hc, hz, hc2, hz2]
  have e2 : (st2S a b u u').events Tryz.prog w #[] = #[⟨.cell a, true, false⟩, ⟨.cell b, true, false⟩] := by simp [st2S, events_store _ w _ a u .plain hu, events_store _ (w.setCell a u) _ b u' .plain hu', run_store _ w a u .plain hu, hc, hz, hc2, hz2]
  have := k_skip (main := main) h (h1.trans e1)
  rw [h2, e2, hq] at this
  exact this
end
end Go.Proofs.YtaablbmgagiajabGreatDoor.Ren
