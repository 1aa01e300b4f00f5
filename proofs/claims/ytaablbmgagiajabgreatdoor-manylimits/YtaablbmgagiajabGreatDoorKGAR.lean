import Derived.Test.YtaablbmgagiajabGreatDoorKGAP
import Derived.Test.YtaablbmgagiajabGreatDoorRows
namespace Go.Proofs.YtaablbmgagiajabGreatDoor.Ren
open Go Go.Extern
structure XtOk (E : Env) : Prop where
  r : ∃ t, E.K t = true ∧ ∀ w es, (cutType "internal/reflectlite.rtype").runT E.P w es = (.ok t w, es)
  v : ∃ t e, E.K t = true ∧ (∀ w es, (cutType "*internal/reflectlite.ValueError").runT E.P w es = (.ok t w, es)) ∧ ∀ w es, (elemOf t).runT E.P w es = (.ok e w, es)
section
variable {E : Env} {f : Nat → Nat} {n : Nat}
theorem sim_known {α β : Type} {Q : Nat → β → β → Prop} {t : Sem α} {a : α} {g g' : α → Sem β} (h : ∀ w es, t.runT E.P w es = (.ok a w, es)) (hg : Sim E f n Q (g a) (g' a)) : Sim E f n Q (t >>= g) (t >>= g') := by
  have h1 : Sim E f n (fun _ x x' => x = a ∧ x' = a) t t := by
    intro hl w hr hn hos
    exact Sim.good [] (a := a) (a' := a) #[] (Nat.le_refl _) ⟨rfl, rfl⟩ (.refl hr) (fun v es hv _ => ⟨es, by rw [h v es]; subst hv; rfl⟩) (fun es => by rw [h w es, Array.append_empty])
  refine h1.bind fun m x x' hm hx => ?_
  obtain ⟨rfl, rfl⟩ := hx
  exact hg.mono hm fun _ _ _ _ h => h
theorem handle_same (F : Fit E f) (H : RtOk E) (h : Value) : handleType E.P (rV f h) = handleType E.P h := by
  cases h with
  | pointer a =>
    cases a with
    | none => rw [rV]; rfl
    | some a =>
      rw [rV]
      show (if (f a.block == E.P.globals.size) = true then some a.off else none) = (if (a.block == E.P.globals.size) = true then some a.off else none)
      have hg := F.low _ (F.ro _ H.g)
      have : (f a.block == E.P.globals.size) = (a.block == E.P.globals.size) := by
        rw [Bool.eq_iff_iff]
        simp only [beq_iff_eq]
        constructor
        · intro e
          exact F.inj _ _ (e.trans hg.symm)
        · intro e
          rw [e, hg]
      rw [this]
  | _ => simp [rV, handleType]
theorem sim_ofHandle (F : Fit E f) (H : RtOk E) (h : Value) : Sim E f n EQ (Rtype.ofHandle h) (Rtype.ofHandle (rV f h)) := by
  unfold Rtype.ofHandle
  refine Sim.program ?_
  rw [handle_same F H h]
  cases handleType E.P h with
  | none => exact Sim.stuck
  | some t => exact Sim.pure fun _ _ => rfl
theorem calm_noPack (s : String) (t : TypeId) : Calm E (Rtype.noPack s t) := by
  unfold Rtype.noPack
  exact .program (.ite (.unsupported (by simp)) (.pure _))
theorem calm_noPackNamed (s : String) (t : TypeId) : Calm E (Rtype.noPackNamed s t) := by
  unfold Rtype.noPackNamed
  exact .program (.program (.ite (.unsupported (by simp)) (.pure _)))
theorem calm_noPackMethods (s : String) (t : TypeId) : Calm E (Rtype.noPackMethods s t) := by
  unfold Rtype.noPackMethods
  exact .program (.program (.ite (.unsupported (by simp)) (.pure _)))
theorem calm_spelt (t : TypeId) : Calm E (Rtype.spelt t) := (calm_noPackNamed _ t).bind fun _ => calm_typeStr t
theorem calm_under (t : TypeId) : Calm E (Rtype.under t) := by
  unfold Rtype.under
  refine (calm_typeInfo t).bind fun i => ?_
  cases i.desc <;> first | exact .pure _ | exact (calm_typeInfo _).bind fun _ => .pure _
theorem calm_kind (t : TypeId) : Calm E (Rtype.kind t) := by
  unfold Rtype.kind
  refine (calm_under t).bind fun p => ?_
  obtain ⟨_, i⟩ := p
  dsimp only
  cases i.desc with
  | int k => cases k <;> exact .pure _
  | float k => cases k <;> exact .pure _
  | complex k => cases k <;> exact .pure _
  | _ => first | exact .pure _ | exact .stuck _
theorem calm_hasName (t : TypeId) : Calm E (Rtype.hasName t) := by
  unfold Rtype.hasName
  refine (calm_typeInfo t).bind fun i => ?_
  cases i.desc <;> exact .pure _
theorem calm_elem (t : TypeId) : Calm E (Rtype.elem? t) := by
  unfold Rtype.elem?
  refine (calm_under t).bind fun p => ?_
  cases p.2.desc <;> exact .pure _
theorem calm_implements (t u : TypeId) : Calm E (Rtype.implements t u) := by
  unfold Rtype.implements
  refine (calm_noPackMethods _ _).bind fun _ => (calm_noPackMethods _ _).bind fun _ => (calm_under t).bind fun p => (calm_under u).bind fun q => ?_
  cases p.2.desc with
  | interface want =>
    cases q.2.desc with
    | interface got => exact .pure _
    | _ => exact (calm_typeInfo u).bind fun _ => .pure _
  | _ => exact .pure _
theorem calm_direct (t u : TypeId) : Calm E (Rtype.directlyAssignable t u) := by
  unfold Rtype.directlyAssignable
  refine .ite (.pure _) ?_
  refine (calm_hasName t).bind fun a => (calm_hasName u).bind fun b => .ite (.pure _) ?_
  refine (calm_under t).bind fun p => ?_
  obtain ⟨p1, p2⟩ := p
  refine (calm_under u).bind fun q => ?_
  obtain ⟨q1, q2⟩ := q
  dsimp only
  split <;> exact .pure _
theorem vq_handle (F : Fit E f) (H : RtOk E) (t : TypeId) (m : Nat) : rV f (typeHandle E.P t) = typeHandle E.P t ∧ okV E m (typeHandle E.P t) := ⟨(sim_handle F H t m).1.symm, (sim_handle F H t m).2⟩
theorem sim_toType (F : Fit E f) (H : RtOk E) (Y : XtOk E) (t : TypeId) : Sim E f n (VQ E f) (ReflectliteType.toType t) (ReflectliteType.toType t) := by
  obtain ⟨t0, hK, hc⟩ := Y.r
  unfold ReflectliteType.toType
  refine sim_known hc ?_
  unfold Rtype.handle
  rw [bind_assoc]
  refine Sim.program ?_
  rw [pure_bind]
  refine Sim.pure fun m _ => ?_
  obtain ⟨h1, h2⟩ := vq_handle (E := E) F H t m
  refine ⟨?_, ?_⟩
  · rw [rV, rV]
    simp [h1]
  · rw [okV, okV]
    refine ⟨hK, fun x hx => ?_⟩
    simp only [List.mem_toArray, List.mem_cons, List.not_mem_nil, or_false] at hx
    subst hx
    exact h2
theorem sim_valueError {α : Type} {Q : Nat → α → α → Prop} (Y : XtOk E) (s : String) (k : Nat) : Sim E f n Q (ReflectliteValue.valueError s k) (ReflectliteValue.valueError s k) := by
  obtain ⟨t0, e0, hK, hc, he⟩ := Y.v
  unfold ReflectliteValue.valueError
  refine sim_known hc (sim_known he ?_)
  have hp : plainV (.agg #[strVal s, .int .u8 (Int.ofNat k)]) = true := by simp [plainV, plain0, strVal]
  have h1 := sim_newVar (f := f) (okV_plain (E := E) (n := n) hp) e0
  rw [rV_plain hp] at h1
  refine h1.bind fun m a a' hm ha => ?_
  obtain ⟨rfl, hI⟩ := ha
  have := Sim.goPanic (E := E) (f := f) (n := m) (Q := Q) (v := .iface t0 (.pointer (some a))) (by rw [okV, okV]; exact ⟨hK, .inl hI⟩)
  rw [rV, rV] at this
  exact this
def PtQ (E : Env) (f : Nat → Nat) (m : Nat) (x x' : Option (TypeId × Addr × Nat)) : Prop := x' = x.map (fun p => (p.1, rA f p.2.1, p.2.2)) ∧ ∀ t a k, x = some (t, a, k) → E.A m a.block
theorem sim_partsAny (F : Fit E f) (H : RtOk E) {x : Value} (hx : okV E n x) : Sim E f n (PtQ E f) (ReflectliteValue.partsAny x) (ReflectliteValue.partsAny (rV f x)) := by
  cases x with
  | agg cs =>
    obtain ⟨l⟩ := cs
    rw [rV, List.map_toArray]
    rw [okV] at hx
    match l with
    | [] => exact Sim.stuck
    | [_] => exact Sim.stuck
    | [_, _] => exact Sim.stuck
    | _ :: _ :: _ :: _ :: _ => exact Sim.stuck
    | [h, p, q] =>
      rw [List.map_cons, List.map_cons, List.map_cons, List.map_nil]
      have hp : okV E n p := hx p (by simp)
      have fin : ∀ a (z : Nat), p = .pointer (some a) → Sim E f n (PtQ E f) (Rtype.ofHandle h >>= fun t => Pure.pure (some (t, a, z))) (Rtype.ofHandle (rV f h) >>= fun t => Pure.pure (some (t, rA f a, z))) := fun a z e => by
        subst e
        rw [okV] at hp
        refine (sim_ofHandle F H h).bind fun m t t' hm ht => ?_
        obtain rfl := ht
        exact Sim.pure fun m2 hm2 => ⟨rfl, fun _ _ _ h => by cases h; exact Env.A.mono hp (Nat.le_trans hm hm2)⟩
      cases q with
      | int k z =>
        rw [rV]
        cases k with
        | u64 =>
          cases z with
          | ofNat z =>
            cases z with
            | zero => exact Sim.pure fun _ _ => ⟨rfl, fun _ _ _ h => by cases h⟩
            | succ z =>
              cases p with
              | pointer a =>
                cases a with
                | none => exact Sim.stuck
                | some a => rw [rV]; exact fin a (z + 1) rfl
              | _ => exact Sim.stuck
          | negSucc z =>
            cases p with
            | pointer a =>
              cases a with
              | none => exact Sim.stuck
              | some a => rw [rV]; exact fin a 0 rfl
            | _ => exact Sim.stuck
        | _ =>
          cases p with
          | pointer a => cases a <;> exact Sim.stuck
          | _ => exact Sim.stuck
      | _ =>
        cases p with
        | pointer a => cases a <;> exact Sim.stuck
        | _ => exact Sim.stuck
  | _ => exact Sim.stuck
theorem sim_parts (F : Fit E f) (H : RtOk E) {x : Value} (hx : okV E n x) : Sim E f n (PtQ E f) (ReflectliteValue.parts x) (ReflectliteValue.parts (rV f x)) := by
  unfold ReflectliteValue.parts
  refine (sim_partsAny F H hx).bind fun m p p' hm hp => ?_
  obtain ⟨rfl, hA⟩ := hp
  cases p with
  | none => exact Sim.pure fun _ _ => ⟨rfl, fun _ _ _ h => by cases h⟩
  | some p =>
    obtain ⟨t, a, k⟩ := p
    dsimp only [Option.map_some]
    refine Sim.same (calm_noPack _ _) fun _ => ?_
    exact Sim.pure fun m2 hm2 => ⟨rfl, fun _ _ _ h => by cases h; exact (hA t a k rfl).mono hm2⟩
theorem one_arg {g : Value → Sem Value} {k : Array Value → Sem Value} (h1 : ∀ v, k #[v] = g v) (h0 : k #[] = stuck "x" ∨ ∃ s, k #[] = stuck s) (h2 : ∀ a b l, ∃ s, k (a :: b :: l).toArray = stuck s) {args : Array Value} (ha : okAll E n args) (hg : ∀ v, okV E n v → Sim E f n (VQ E f) (g v) (g (rV f v))) : Sim E f n (VQ E f) (k args) (k (args.map (rV f))) := by
  obtain ⟨l⟩ := args
  match l with
  | [] =>
    rcases h0 with h | ⟨s, h⟩
    · show Sim E f n _ (k #[]) _
      rw [h]
      exact Sim.stuck
    · show Sim E f n _ (k #[]) _
      rw [h]
      exact Sim.stuck
  | [v] =>
    rw [List.map_toArray, List.map_cons, List.map_nil]
    show Sim E f n _ (k #[v]) (k #[rV f v])
    rw [h1, h1]
    exact hg v (ha v (by simp))
  | a :: b :: l =>
    obtain ⟨s, h⟩ := h2 a b l
    rw [h]
    exact Sim.stuck
theorem sim_methodAny (F : Fit E f) (H : RtOk E) {z : Sem Value} {g : TypeId → Addr → Nat → Nat → Sem Value} {args : Array Value} (ha : okAll E n args) (hz : ∀ m, Sim E f m (VQ E f) z z) (hg : ∀ m t a k j, n ≤ m → E.A m a.block → Sim E f m (VQ E f) (g t a k j) (g t (rA f a) k j)) : Sim E f n (VQ E f) (ReflectliteValue.methodAny z g args) (ReflectliteValue.methodAny z g (args.map (rV f))) := by
  refine one_arg (g := fun v => ReflectliteValue.partsAny v >>= fun p => match p with | none => z | some (t, a, fl) => g t a fl (fl % 32)) (fun v => rfl) (.inr ⟨_, rfl⟩) (fun a b l => ⟨_, rfl⟩) ha fun v hv => ?_
  refine (sim_partsAny F H hv).bind fun m p p' hm hp => ?_
  obtain ⟨rfl, hA⟩ := hp
  cases p with
  | none => exact hz m
  | some p => exact hg m p.1 p.2.1 p.2.2 _ hm (hA _ _ _ rfl)
theorem sim_methodV (F : Fit E f) (H : RtOk E) {z : Sem Value} {g : TypeId → Addr → Nat → Nat → Sem Value} {args : Array Value} (ha : okAll E n args) (hz : ∀ m, Sim E f m (VQ E f) z z) (hg : ∀ m t a k j, n ≤ m → E.A m a.block → Sim E f m (VQ E f) (g t a k j) (g t (rA f a) k j)) : Sim E f n (VQ E f) (ReflectliteValue.method z g args) (ReflectliteValue.method z g (args.map (rV f))) := by
  refine one_arg (g := fun v => ReflectliteValue.parts v >>= fun p => match p with | none => z | some (t, a, fl) => g t a fl (fl % 32)) (fun v => rfl) (.inr ⟨_, rfl⟩) (fun a b l => ⟨_, rfl⟩) ha fun v hv => ?_
  refine (sim_parts F H hv).bind fun m p p' hm hp => ?_
  obtain ⟨rfl, hA⟩ := hp
  cases p with
  | none => exact hz m
  | some p => exact hg m p.1 p.2.1 p.2.2 _ hm (hA _ _ _ rfl)
theorem sim_isNil (F : Fit E f) (_ : RtOk E) (Y : XtOk E) {t : TypeId} {a : Addr} {k j : Nat} (hA : E.A n a.block) : Sim E f n (VQ E f) (ReflectliteValue.isNil t a k j) (ReflectliteValue.isNil t (rA f a) k j) := by
  unfold ReflectliteValue.isNil
  have rest : Sim E f n (VQ E f) (loadVar t a >>= fun v => (match v with | .chan none | .nilFunc | .nilIface | .map none | .pointer none | .slice none _ _ => Pure.pure (.bool true) | _ => Pure.pure (.bool false) : Sem Value)) (loadVar t (rA f a) >>= fun v => (match v with | .chan none | .nilFunc | .nilIface | .map none | .pointer none | .slice none _ _ => Pure.pure (.bool true) | _ => Pure.pure (.bool false) : Sem Value)) := by
    refine (sim_loadVar F hA t).bind fun m v v' hm hv => ?_
    obtain ⟨rfl, hv⟩ := hv
    cases v with
    | chan r => cases r <;> (rw [rV]; exact Sim.pure fun _ _ => vq_plain rfl)
    | map r => cases r <;> (rw [rV]; exact Sim.pure fun _ _ => vq_plain rfl)
    | pointer r => cases r <;> (rw [rV]; exact Sim.pure fun _ _ => vq_plain rfl)
    | slice r _ _ => cases r <;> (rw [rV]; exact Sim.pure fun _ _ => vq_plain rfl)
    | _ => rw [rV]; exact Sim.pure fun _ _ => vq_plain rfl
  refine Sim.ite (fun _ => ?_) fun _ => rest
  exact (sim_valueError (Q := fun _ _ _ => False) Y _ _).bind fun _ _ _ _ h => h.elim
theorem vq_zeroV (m : Nat) : VQ E f m ReflectliteValue.zeroV ReflectliteValue.zeroV := by
  have : plainV ReflectliteValue.zeroV = true := by simp [ReflectliteValue.zeroV, plainV, plain0]
  exact ⟨(rV_plain this).symm, okV_plain this⟩
theorem sim_mk (F : Fit E f) (H : RtOk E) {t : TypeId} {a : Addr} {k : Nat} (hA : E.A n a.block) : Sim E f n (VQ E f) (ReflectliteValue.mk t a k) (ReflectliteValue.mk t (rA f a) k) := by
  unfold ReflectliteValue.mk Rtype.handle
  rw [bind_assoc, bind_assoc]
  refine Sim.program ?_
  rw [pure_bind, pure_bind]
  refine Sim.same (calm_kind t) fun kk => ?_
  refine Sim.pure fun m hm => ?_
  obtain ⟨h1, h2⟩ := vq_handle (E := E) F H t m
  refine ⟨?_, ?_⟩
  · rw [rV]
    simp [h1, rV]
  · rw [okV]
    intro x hx
    simp only [List.mem_toArray, List.mem_cons, List.not_mem_nil, or_false] at hx
    rcases hx with rfl | rfl | rfl
    · exact h2
    · rw [okV]; exact hA.mono hm
    · rw [okV] <;> simp
theorem sim_unpack (F : Fit E f) (H : RtOk E) {v : Value} (hv : okV E n v) : Sim E f n (VQ E f) (ReflectliteValue.unpack v) (ReflectliteValue.unpack (rV f v)) := by
  cases v with
  | nilIface => rw [rV]; exact Sim.pure fun m _ => vq_zeroV m
  | iface t v =>
    rw [rV]
    rw [okV] at hv
    unfold ReflectliteValue.unpack
    refine (sim_newVar hv.2 t).bind fun m a a' hm ha => ?_
    obtain ⟨rfl, hI⟩ := ha
    exact sim_mk F H (.inl hI)
  | _ => exact Sim.stuck
theorem sim_elemV (F : Fit E f) (H : RtOk E) (Y : XtOk E) {t : TypeId} {a : Addr} {k j : Nat} (hA : E.A n a.block) : Sim E f n (VQ E f) (ReflectliteValue.elem t a k j) (ReflectliteValue.elem t (rA f a) k j) := by
  unfold ReflectliteValue.elem
  refine Sim.ite (fun _ => (sim_valueError (Q := fun _ _ _ => False) Y _ _).bind fun _ _ _ _ h => h.elim) fun hc => ?_
  have hj : j = 20 ∨ j = 22 := by
    rcases Nat.decEq j 20 with h | h
    · rcases Nat.decEq j 22 with h2 | h2
      · exact absurd (by simp [h, h2]) hc
      · exact .inr h2
    · exact .inl h
  refine (sim_loadVar F hA t).bind fun m v v' hm hv => ?_
  obtain ⟨rfl, hv⟩ := hv
  refine Sim.same (calm_elem t) fun e => ?_
  rcases hj with rfl | rfl
  · exact sim_unpack F H hv
  · have bad : Sim E f m (VQ E f) (ReflectliteValue.valueError "reflectlite.Value.Elem" 22) (ReflectliteValue.valueError "reflectlite.Value.Elem" 22) := sim_valueError Y _ _
    cases v with
    | pointer p =>
      rw [okV] at hv
      rw [rV]
      cases p with
      | none => exact Sim.pure fun m _ => vq_zeroV m
      | some p =>
        cases e with
        | none => exact bad
        | some e => exact sim_mk F H hv
    | _ => rw [rV]; exact bad
theorem sim_set (F : Fit E f) (H : RtOk E) {args : Array Value} (hK : ∀ t, E.K t = true) (ha : okAll E n args) : Sim E f n (VQ E f) (ReflectliteValue.set args) (ReflectliteValue.set (args.map (rV f))) := by
  obtain ⟨l⟩ := args
  match l with
  | [] => exact Sim.stuck
  | [_] => exact Sim.stuck
  | _ :: _ :: _ :: _ => exact Sim.stuck
  | [v, x] =>
    have hv : okV E n v := ha v (by simp)
    have hx : okV E n x := ha x (by simp)
    rw [List.map_toArray, List.map_cons, List.map_cons, List.map_nil]
    unfold ReflectliteValue.set
    dsimp only
    refine (sim_parts F H hv).bind fun m p p' hm hp => ?_
    obtain ⟨rfl, hA⟩ := hp
    refine (sim_parts F H (okV_mono hm _ hx)).bind fun m2 q q' hm2 hq => ?_
    obtain ⟨rfl, hB⟩ := hq
    cases p with
    | none => exact Sim.unsupported (by simp)
    | some p =>
      obtain ⟨dst, a, fl⟩ := p
      cases q with
      | none => exact Sim.unsupported (by simp)
      | some q =>
        obtain ⟨src, b, k⟩ := q
        have hA := (hA dst a fl rfl).mono hm2
        have hB := hB src b k rfl
        dsimp only [Option.map_some]
        refine Sim.ite (fun _ => Sim.unsB (by simp)) fun _ => ?_
        refine (sim_loadVar F hB src).bind fun m3 val val' hm3 hval => ?_
        obtain ⟨rfl, hval⟩ := hval
        refine Sim.same (calm_direct dst src) fun d => ?_
        have st : ∀ y, okV E m3 y → Sim E f m3 (VQ E f) (storeVar dst a y >>= fun _ => Pure.pure (.tuple #[])) (storeVar dst (rA f a) (rV f y) >>= fun _ => Pure.pure (.tuple #[])) := fun y hy =>
          (sim_storeVar F (hA.mono hm3) hy dst).bind fun _ _ _ _ _ => Sim.pure fun _ _ => vq_undef _
        refine Sim.ite (fun _ => st val hval) fun _ => ?_
        refine Sim.same (calm_implements dst src) fun i => ?_
        refine Sim.ite (fun _ => ?_) fun _ => ?_
        · refine Sim.same (calm_kind src) fun kk => ?_
          refine Sim.ite (fun _ => ?_) fun _ => ?_
          · cases val with
            | nilIface => exact Sim.unsB (by simp)
            | _ =>
              have := st _ hval
              rw [rV] at this ⊢
              exact this
          · have := st (.iface src val) (by rw [okV]; exact ⟨hK src, hval⟩)
            rw [rV] at this
            exact this
        · refine Sim.same (calm_spelt src) fun s1 => Sim.same (calm_spelt dst) fun s2 => ?_
          exact (sim_panicString (Q := fun _ _ _ => False) H _).bind fun _ _ _ _ h => h.elim
theorem sim_ofRtype (F : Fit E f) (H : RtOk E) {x : Value} : Sim E f n EQ (ReflectliteType.ofRtype x) (ReflectliteType.ofRtype (rV f x)) := by
  cases x with
  | agg cs =>
    obtain ⟨l⟩ := cs
    rw [rV, List.map_toArray]
    match l with
    | [] => exact Sim.stuck
    | [h] =>
      rw [List.map_cons, List.map_nil]
      show Sim E f n EQ (Rtype.ofHandle h >>= _) (Rtype.ofHandle (rV f h) >>= _)
      refine (sim_ofHandle F H h).bind fun m t t' hm ht => ?_
      obtain rfl := ht
      refine Sim.same (calm_noPack _ _) fun _ => Sim.pure fun _ _ => rfl
    | _ :: _ :: _ => exact Sim.stuck
  | _ => exact Sim.stuck
theorem sim_typeOf (F : Fit E f) (H : RtOk E) (Y : XtOk E) {args : Array Value} (ha : okAll E n args) : Sim E f n (VQ E f) (ReflectliteType.typeOf args) (ReflectliteType.typeOf (args.map (rV f))) := by
  obtain ⟨l⟩ := args
  match l with
  | [] => exact Sim.stuck
  | [v] =>
    rw [List.map_toArray, List.map_cons, List.map_nil]
    cases v with
    | nilIface => rw [rV]; exact Sim.pure fun _ _ => vq_plain rfl
    | iface t v => rw [rV]; exact sim_toType F H Y t
    | _ => exact Sim.stuck
  | a :: b :: l =>
    cases a <;> exact Sim.stuck
theorem sim_elemT (F : Fit E f) (H : RtOk E) (Y : XtOk E) (t : TypeId) : Sim E f n (VQ E f) (ReflectliteType.elem t) (ReflectliteType.elem t) := by
  unfold ReflectliteType.elem
  refine Sim.same (calm_elem t) fun e => ?_
  cases e with
  | some e => exact sim_toType F H Y e
  | none => exact Sim.same (calm_spelt t) fun s => sim_panicString H _
theorem sim_methodT (F : Fit E f) (H : RtOk E) {g : TypeId → Sem Value} {args : Array Value} (ha : okAll E n args) (hg : ∀ m t, Sim E f m (VQ E f) (g t) (g t)) : Sim E f n (VQ E f) (ReflectliteType.method g args) (ReflectliteType.method g (args.map (rV f))) := by
  refine one_arg (g := fun v => ReflectliteType.ofRtype v >>= g) (fun v => rfl) (.inr ⟨_, rfl⟩) (fun a b l => ⟨_, rfl⟩) ha fun v hv => ?_
  refine (sim_ofRtype F H).bind fun m t t' hm ht => ?_
  obtain rfl := ht
  exact hg m t'
theorem sim_abiMethod (F : Fit E f) (H : RtOk E) {g : TypeId → Sem Value} {args : Array Value} (ha : okAll E n args) (hg : ∀ m t, Sim E f m (VQ E f) (g t) (g t)) : Sim E f n (VQ E f) (ReflectliteType.abiMethod g args) (ReflectliteType.abiMethod g (args.map (rV f))) := by
  refine one_arg (g := fun v => Rtype.ofHandle v >>= fun t => Rtype.noPack "a method of abi.Type" t >>= fun _ => g t) (fun v => rfl) (.inr ⟨_, rfl⟩) (fun a b l => ⟨_, rfl⟩) ha fun v hv => ?_
  refine (sim_ofHandle F H v).bind fun m t t' hm ht => ?_
  obtain rfl := ht
  exact Sim.same (calm_noPack _ _) fun _ => hg m t'
theorem sim_implements (H : RtOk E) (u t : TypeId) : Sim E f n EQ (ReflectliteType.implements_ u t) (ReflectliteType.implements_ u t) := by
  unfold ReflectliteType.implements_
  refine Sim.same (calm_kind u) fun k => ?_
  refine Sim.ite (fun _ => (sim_panicString (Q := fun _ _ _ => False) H _).bind fun _ _ _ _ h => h.elim) fun _ => ?_
  exact Sim.same (calm_noPackMethods _ _) fun _ => Sim.same (calm_noPack _ _) fun _ => (calm_implements u t).sim
theorem calm_assignable (u t : TypeId) : Calm E (ReflectliteType.assignableTo u t) := by
  unfold ReflectliteType.assignableTo
  have rest : Calm E (Rtype.directlyAssignable u t >>= fun a => Rtype.implements u t >>= fun b => Pure.pure (a || b)) := (calm_direct u t).bind fun _ => (calm_implements u t).bind fun _ => .pure _
  refine .ite ?_ rest
  exact (calm_noPackMethods _ _).bind fun _ => (calm_noPackMethods _ _).bind fun _ => rest
theorem sim_relation (F : Fit E f) (H : RtOk E) {s : String} {g : TypeId → TypeId → Sem Bool} {args : Array Value} (hg : ∀ m u t, Sim E f m EQ (g u t) (g u t)) : Sim E f n (VQ E f) (ReflectliteType.relation s g args) (ReflectliteType.relation s g (args.map (rV f))) := by
  obtain ⟨l⟩ := args
  match l with
  | [] => exact Sim.stuck
  | [_] => exact Sim.stuck
  | a :: b :: c :: l => cases b <;> exact Sim.stuck
  | [r, u] =>
    rw [List.map_toArray, List.map_cons, List.map_cons, List.map_nil]
    cases u with
    | nilIface => rw [rV]; exact sim_panicString H _
    | iface t u =>
      rw [rV]
      show Sim E f n (VQ E f) (ReflectliteType.ofRtype u >>= fun x => ReflectliteType.ofRtype r >>= fun y => g x y >>= fun b => Pure.pure (.bool b)) (ReflectliteType.ofRtype (rV f u) >>= fun x => ReflectliteType.ofRtype (rV f r) >>= fun y => g x y >>= fun b => Pure.pure (.bool b))
      refine (sim_ofRtype F H).bind fun m x x' hm hx => ?_
      obtain rfl := hx
      refine (sim_ofRtype F H).bind fun m2 y y' hm2 hy => ?_
      obtain rfl := hy
      refine (hg m2 x' y').bind fun m3 b b' _ hb => ?_
      obtain rfl := hb
      exact Sim.pure fun _ _ => vq_plain rfl
    | _ => exact Sim.stuck
theorem sim_noEscape {args : Array Value} (ha : okAll E n args) : Sim E f n (VQ E f) (AbiNoEscape.same args) (AbiNoEscape.same (args.map (rV f))) :=
  one_arg (g := fun v => Pure.pure v) (fun _ => rfl) (.inr ⟨_, rfl⟩) (fun _ _ _ => ⟨_, rfl⟩) ha fun _ hv => Sim.pure fun _ hm => ⟨rfl, okV_mono hm _ hv⟩
theorem sim_bytesX (F : Fit E f) : ∀ (k n : Nat) (a : Addr) (acc : ByteArray), E.A n a.block → Sim E f n EQ (Bytes.loadBytes a k acc) (Bytes.loadBytes (rA f a) k acc)
  | 0, n, a, acc, hA => Sim.pure fun _ _ => rfl
  | k + 1, n, a, acc, hA => by
    unfold Bytes.loadBytes
    refine (sim_load F hA).bind fun m v v' hm hv => ?_
    obtain ⟨rfl, hv⟩ := hv
    cases v with
    | int kk b =>
      rw [rV]
      cases kk with
      | u8 =>
        rw [rA_add]
        exact sim_bytesX F k m (a.add 1) _ (by rw [block_add]; exact hA.mono hm)
      | _ => exact Sim.stuck
    | _ => exact Sim.stuck
theorem sim_bytesOf (F : Fit E f) {v : Value} (hv : okV E n v) : Sim E f n EQ (Bytes.bytesOf v) (Bytes.bytesOf (rV f v)) := by
  cases v with
  | string s => rw [rV]; exact Sim.pure fun _ _ => rfl
  | slice a l c =>
    rw [rV]
    rw [okV] at hv
    cases a with
    | none => exact Sim.pure fun _ _ => rfl
    | some a => exact sim_bytesX F l n a _ hv
  | _ => exact Sim.stuck
theorem sim_asByte {c : Value} : Sim E f n EQ (Bytes.asByte c) (Bytes.asByte (rV f c)) := by
  cases c with
  | int k z =>
    rw [rV]
    cases k with
    | u8 => exact Sim.pure fun _ _ => rfl
    | _ => exact Sim.stuck
  | _ => exact Sim.stuck
theorem sim_indexByte (F : Fit E f) {args : Array Value} (ha : okAll E n args) : Sim E f n (VQ E f) (BytealgIndexByte.indexByte args) (BytealgIndexByte.indexByte (args.map (rV f))) := by
  obtain ⟨l⟩ := args
  match l with
  | [] => exact Sim.stuck
  | [_] => exact Sim.stuck
  | a :: b :: c :: l => exact Sim.stuck
  | [b, c] =>
    rw [List.map_toArray, List.map_cons, List.map_cons, List.map_nil]
    unfold BytealgIndexByte.indexByte
    refine (sim_bytesOf F (ha b (by simp))).bind fun m s s' hm hs => ?_
    obtain rfl := hs
    show Sim E f m (VQ E f) (Bytes.asByte c >>= _) (Bytes.asByte (rV f c) >>= _)
    refine sim_asByte.bind fun m2 x x' _ hx => ?_
    obtain rfl := hx
    split <;> exact Sim.pure fun _ _ => vq_plain rfl
theorem sim_maxLen (F : Fit E f) (hG : ∀ g, g < E.P.globals.size → E.R g ∨ E.O g) : Sim E f n EQ BytealgIndex.maxLen BytealgIndex.maxLen := by
  unfold BytealgIndex.maxLen globalAddr
  rw [bind_assoc]
  refine Sim.program ?_
  cases hg : E.P.globals.findIdx? (·.name == "internal/bytealg.MaxLen") with
  | none => exact Sim.stuckB
  | some g =>
    dsimp only
    rw [pure_bind]
    have hlt : g < E.P.globals.size := by
      obtain ⟨h, _⟩ := Array.findIdx?_eq_some_iff_getElem.1 hg
      exact h
    have hA : E.A n (⟨g, 0, none⟩ : Addr).block := .inr (hG g hlt)
    have h1 := sim_load F hA
    rw [show rA f ⟨g, 0, none⟩ = ⟨g, 0, none⟩ by
      unfold rA
      rw [F.low g ((hG g hlt).elim (F.ro g) (F.op g))]] at h1
    refine h1.bind fun m v v' hm hv => ?_
    obtain ⟨rfl, hv⟩ := hv
    exact sim_asInt
theorem sim_index2 (F : Fit E f) (hG : ∀ g, g < E.P.globals.size → E.R g ∨ E.O g) {args : Array Value} (ha : okAll E n args) : Sim E f n (VQ E f) (BytealgIndex.index args) (BytealgIndex.index (args.map (rV f))) := by
  obtain ⟨l⟩ := args
  match l with
  | [] => exact Sim.stuck
  | [_] => exact Sim.stuck
  | a :: b :: c :: l => exact Sim.stuck
  | [b, c] =>
    rw [List.map_toArray, List.map_cons, List.map_cons, List.map_nil]
    unfold BytealgIndex.index
    refine (sim_bytesOf F (ha b (by simp))).bind fun m s s' hm hs => ?_
    obtain rfl := hs
    refine (sim_bytesOf F (okV_mono hm _ (ha c (by simp)))).bind fun m2 t t' hm2 ht => ?_
    obtain rfl := ht
    have rest : ∀ m, Sim E f m (VQ E f) (match (List.range (s'.size + 1 - t'.size)).find? fun i => s'.extract i (i + t'.size) == t' with | some i => Pure.pure (goInt i) | none => Pure.pure (goInt (-1))) (match (List.range (s'.size + 1 - t'.size)).find? fun i => s'.extract i (i + t'.size) == t' with | some i => Pure.pure (goInt i) | none => Pure.pure (goInt (-1))) := fun m => by
      split <;> exact Sim.pure fun _ _ => vq_plain rfl
    refine (sim_maxLen F hG).bind fun m3 x x' hm3 hx => ?_
    obtain rfl := hx
    refine Sim.ite (fun _ => Sim.unsB (by simp)) fun _ => ?_
    refine Sim.ite (fun _ => Sim.unsB (by simp)) fun _ => ?_
    exact rest m3
theorem digits_plain : ∀ (k t : Nat) (acc : Array Value), (∀ x ∈ acc, plain0 x = true) → ∀ x ∈ BytealgMakeNoZero.digits k t acc, plain0 x = true
  | 0, _, _, h => h
  | k + 1, t, acc, h => digits_plain k (t / 256) _ fun x hx => by
    rcases Array.mem_push.1 hx with h1 | rfl
    · exact h x h1
    · rfl
theorem sim_makeNoZero (F : Fit E f) (H : RtOk E) {ps rs : Array TypeId} {args : Array Value} : Sim E f n (VQ E f) (BytealgMakeNoZero.makeNoZero ps rs args) (BytealgMakeNoZero.makeNoZero ps rs (args.map (rV f))) := by
  obtain ⟨l⟩ := args
  match l with
  | [] => exact Sim.stuck
  | a :: b :: l =>
    cases a with
    | int k z => cases k <;> exact Sim.stuck
    | _ => exact Sim.stuck
  | [v] =>
    rw [List.map_toArray, List.map_cons, List.map_nil]
    cases v with
    | int k z =>
      rw [rV]
      cases k with
      | i64 =>
        unfold BytealgMakeNoZero.makeNoZero
        dsimp only
        cases rs[0]? with
        | none => exact Sim.stuck
        | some t =>
          dsimp only
          refine sim_under fun d hd => ?_
          cases d with
          | slice e =>
            dsimp only
            refine Sim.ite (fun _ => sim_panB F H) fun _ => ?_
            refine (Sim.choose _).bind fun m c c' hm hc => ?_
            obtain rfl := hc
            refine (sim_askRoom _).bind fun m2 _ _ hm2 _ => ?_
            refine (Sim.choose _).bind fun m3 b b' hm3 hb => ?_
            obtain rfl := hb
            refine sim_newPlain (digits_plain c' b' #[] fun x hx => by simp at hx) fun m4 a hm4 hI => ?_
            exact Sim.pure fun m5 hm5 => vq_slice (a := some a) (.inl (hI.mono hm5))
          | _ => exact Sim.stuck
      | _ => exact Sim.stuck
    | _ => exact Sim.stuck
theorem sim_extern {g : FuncId} {fn : Func} {e : Array Value → Sem Value} {args : Array Value} (hf : E.P.funcs[g]? = some fn) (hn : (fn.name == "runtime.NumGoroutine") = false) (hb : fn.body.isNone = true) (h1 : Extern.findNext fn = none) (h2 : Extern.find fn = some e) (he : Sim E f n (VQ E f) (e args) (e (args.map (rV f)))) : Sim E f n (NQ E f) (callFunc g args) (callFunc g (args.map (rV f))) := by
  unfold callFunc
  refine Sim.program ?_
  rw [hf]
  dsimp only
  rw [hn, hb]
  simp only [Bool.false_eq_true, if_false, if_true]
  refine (Sim.mark (m := .extern g) trivial).bind fun m _ _ hm _ => ?_
  rw [h1, h2]
  exact (sim_value he).mono hm fun _ _ _ _ h => h
theorem sim_externNo {g : FuncId} {fn : Func} {args args' : Array Value} (hf : E.P.funcs[g]? = some fn) (hn : (fn.name == "runtime.NumGoroutine") = false) (hb : fn.body.isNone = true) (h1 : Extern.findNext fn = none) (h2 : Extern.find fn = none) (h3 : (fn.name.endsWith ".init" && !fn.name.startsWith "(" && !fn.name.startsWith "gosem.") = false) : Sim E f n (NQ E f) (callFunc g args) (callFunc g args') := by
  unfold callFunc
  refine Sim.program ?_
  rw [hf]
  dsimp only
  rw [hn, hb]
  simp only [Bool.false_eq_true, if_false, if_true]
  refine (Sim.mark (m := .extern g) trivial).bind fun m _ _ hm _ => ?_
  rw [h1, h2]
  dsimp only
  rw [h3]
  exact Sim.unsupported (by simp)
end
end Go.Proofs.YtaablbmgagiajabGreatDoor.Ren
namespace Go.Proofs.YtaablbmgagiajabGreatDoor.Ren
open Go Go.Conc
variable (pG : Program)
def tF : List Nat := [13, 14, 15, 16, 17, 18, 19, 20, 21, 23, 24, 28, 30, 32, 33, 34, 35, 36, 38, 39, 41, 42, 43, 44, 45, 46, 47, 48, 49, 50, 51, 52, 53, 54, 55, 56, 57, 58, 59, 60, 61, 62, 63, 64, 65, 71, 72, 73, 74, 75, 76, 77, 79, 80, 81, 82, 83, 85, 86, 87, 88, 89, 90, 91, 92, 93, 94, 95, 96, 97, 98, 99, 100, 101, 120, 121, 122, 123, 124, 125, 126, 127, 128, 130, 131, 132, 133, 134, 135, 136, 137, 138, 139, 140, 141, 142, 143, 144, 145, 146, 147, 148, 149, 150, 151, 152, 153, 154, 155, 156, 157, 158, 159, 160, 161, 162, 163, 169, 170, 171, 172, 173, 174, 175, 176, 177, 178, 179, 180, 181, 182, 183, 184, 185, 186, 187, 188, 189, 190, 191, 192, 193, 194, 195, 196, 197, 198, 199, 200, 201, 202, 203, 204, 205, 206, 207, 208, 209, 210, 211, 212, 213, 214, 215, 216, 217, 218, 219, 220, 221, 222, 223, 224, 225, 226, 227, 228, 229, 230, 231, 232, 233, 234, 235, 236, 250, 251, 258, 260, 263, 265, 266, 275]
def tM (s : String) : Bool := s == "Kind" || s == "Elem" || s == "Implements" || s == "AssignableTo" || s == "As" || s == "Unwrap"
def tV (t : TypeId) : Bool := t == 5 || t == 104
def env0 : Env := { P := pG, T := fun g => tF.contains g, K := fun _ => true, C := fun _ => true, B := 0, R := fun _ => False, O := fun _ => False, os := default, V := tV }
def env (B : Nat) (R O : Nat → Prop) (os : Os) : Env := { P := pG, T := fun g => tF.contains g, K := fun _ => true, C := fun c => okCode (env0 pG) tM c && noD c, B, R, O, os, V := tV }
theorem okCode_congr (P : Program) (T : FuncId → Bool) (K : TypeId → Bool) (V : TypeId → Bool) (M : String → Bool) (C C' : Code → Bool) (B B' : Nat) (R R' O O' : Nat → Prop) (os os' : Os) : ∀ c, okCode ⟨P, T, K, C, B, R, O, os, V⟩ M c = okCode ⟨P, T, K, C', B', R', O', os', V⟩ M c := by
  have hx : okX ⟨P, T, K, C, B, R, O, os, V⟩ = okX ⟨P, T, K, C', B', R', O', os', V⟩ := by
    funext x
    cases x <;> rfl
  have hxs : okXs ⟨P, T, K, C, B, R, O, os, V⟩ = okXs ⟨P, T, K, C', B', R', O', os', V⟩ := by
    funext l
    unfold okXs
    rw [hx]
  have hb : okB ⟨P, T, K, C, B, R, O, os, V⟩ = okB ⟨P, T, K, C', B', R', O', os', V⟩ := by
    funext b ts t
    cases b <;> rfl
  have hc : okCall ⟨P, T, K, C, B, R, O, os, V⟩ M = okCall ⟨P, T, K, C', B', R', O', os', V⟩ M := by
    funext c t
    unfold okCall
    rw [hxs, hx, hb]
  have ho : okOp ⟨P, T, K, C, B, R, O, os, V⟩ M = okOp ⟨P, T, K, C', B', R', O', os', V⟩ M := by
    funext o
    unfold okOp
    rw [hx, hxs, hc]
    rfl
  intro c
  induction c with
  | region _ ops _ => simp only [okCode]; rw [ho]
  | seq a b iha ihb => simp only [okCode]; rw [iha, ihb]
  | cond x a b iha ihb => simp only [okCode]; rw [hx, iha, ihb]
  | rangeFunc x _ a b iha ihb => simp only [okCode]; rw [hx, iha, ihb]
  | block _ c ih => simp only [okCode]; rw [ih]
  | loop c ih => simp only [okCode]; rw [ih]
  | _ => rfl
theorem okCode_same (B : Nat) (R O : Nat → Prop) (os : Os) (c : Code) : okCode (env Tryz.prog B R O os) tM c = okCode (env0 Tryz.prog) tM c := okCode_congr _ _ _ _ _ _ _ _ _ _ _ _ _ _ _ c
def bodyOk (g : FuncId) : Bool := match pG.funcs[g]? with
  | some fn => match fn.body with
    | some c => okCode (env0 pG) tM c && !(fn.name == "runtime.NumGoroutine")
    | none => true
  | none => true
theorem bodies_ok : tF.all (bodyOk Tryz.prog) = true := by kernel_rfl
theorem meths_ok : ((List.range Tryz.prog.types.size).all fun t => ["Kind", "Elem", "Implements", "AssignableTo", "As", "Unwrap"].all fun s => mokB (env0 Tryz.prog) t s) = true := by kernel_rfl
theorem ahead_ok : Tryz.prog.follows .staticDataAhead = true := by kernel_rfl
theorem back_ok : Tryz.prog.follows .rangeFuncRecover = true := by kernel_rfl
end Go.Proofs.YtaablbmgagiajabGreatDoor.Ren
