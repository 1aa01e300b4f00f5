import Derived.Test.YtaablbmgagiajabGreatDoorLGAM
namespace Go.Proofs.YtaablbmgagiajabGreatDoor.Ren
open Go
section
variable {E : Env} {f : Nat → Nat} {n : Nat}
theorem sim_forInL {α β : Type} {body body' : α → β → Sem (ForInStep β)} : ∀ (l : List α) (n : Nat) (s : β), (∀ m a s, n ≤ m → Sim E f m EQ (body a s) (body' a s)) → Sim E f n EQ (forIn l s body) (forIn l s body')
  | [], n, s, _ => Sim.pure fun _ _ => rfl
  | a :: l, n, s, h => by
    rw [List.forIn_cons, List.forIn_cons]
    refine (h n a s (Nat.le_refl _)).bind fun m x x' hm hq => ?_
    cases hq
    cases x with
    | done b => exact Sim.pure fun _ _ => rfl
    | yield b => exact sim_forInL l m b fun k a s hk => h k a s (Nat.le_trans hm hk)
theorem sim_forInA {α β : Type} {body body' : α → β → Sem (ForInStep β)} (l : Array α) (s : β) (h : ∀ m a s, n ≤ m → Sim E f m EQ (body a s) (body' a s)) : Sim E f n EQ (forIn l s body) (forIn l s body') := by
  rw [← Array.forIn_toList, ← Array.forIn_toList]
  exact sim_forInL l.toList n s h
theorem sim_forInR {β : Type} {body body' : Nat → β → Sem (ForInStep β)} (len : Nat) (s : β) (h : ∀ m a s, n ≤ m → Sim E f m EQ (body a s) (body' a s)) : Sim E f n EQ (forIn [0:len] s body) (forIn [0:len] s body') := by
  rw [Std.Legacy.Range.forIn_eq_forIn_range', Std.Legacy.Range.forIn_eq_forIn_range']
  exact sim_forInL _ n s h
theorem sim_equalIn (F : Fit E f) (H : RtOk E) : ∀ (d : Nat) (t : TypeId) (x y : Value) (n : Nat), okV E n x → okV E n y → Sim E f n EQ (Op.equalIn d t x y) (Op.equalIn d t (rV f x) (rV f y))
  | 0, t, x, y, n, _, _ => Sim.unsupported (by simp)
  | d + 1, t, x, y, n, hx, hy => by
    have ih := sim_equalIn F H d
    have step : ∀ (m : Nat) (u : TypeId) (xs ys : Array Value) (k : Nat), okAll E m xs → okAll E m ys → Sim E f m EQ
        (part u xs k >>= fun a => part u ys k >>= fun b => Op.equalIn d u a b >>= fun r => if (!r) = true then Pure.pure (ForInStep.done (some false, ())) else Pure.pure (ForInStep.yield ((none : Option Bool), ())))
        (part u (xs.map (rV f)) k >>= fun a => part u (ys.map (rV f)) k >>= fun b => Op.equalIn d u a b >>= fun r => if (!r) = true then Pure.pure (ForInStep.done (some false, ())) else Pure.pure (ForInStep.yield ((none : Option Bool), ()))) := fun m u xs ys k h1 h2 => by
      refine (sim_part h1 u k).bind fun m1 a a' hm1 hq => ?_
      obtain ⟨rfl, ha⟩ := hq
      refine (sim_part (okAll_mono h2 hm1) u k).bind fun m2 b b' hm2 hq => ?_
      obtain ⟨rfl, hb⟩ := hq
      refine (ih u a b m2 (okV_mono hm2 a ha) hb).bind fun m3 r r' hm3 hq => ?_
      cases hq
      exact Sim.ite (fun _ => Sim.pure fun _ _ => rfl) fun _ => Sim.pure fun _ _ => rfl
    unfold Op.equalIn
    refine sim_under fun D hD => ?_
    cases D with
    | struct fields =>
      cases x with
      | agg xs =>
        cases y with
        | agg ys =>
          rw [rV, rV]
          rw [okV] at hx hy
          dsimp only
          refine Sim.program ?_
          refine Sim.ite (fun _ => Sim.unsB (by simp)) fun _ => ?_
          refine (sim_forInA fields _ fun m fl s hm => ?_).bind fun k s s' hk hq => ?_
          · exact Sim.ite (fun _ => step m _ xs ys _ (okAll_mono hx hm) (okAll_mono hy hm)) fun _ => Sim.pure fun _ _ => rfl
          · cases hq
            obtain ⟨s, _⟩ := s
            cases s <;> exact Sim.pure fun _ _ => rfl
        | _ => exact Sim.stuck
      | _ => exact Sim.stuck
    | array len elem =>
      cases x with
      | agg xs =>
        cases y with
        | agg ys =>
          rw [rV, rV]
          rw [okV] at hx hy
          dsimp only
          refine Sim.same (calm_sizeOf elem) fun z => ?_
          refine (sim_forInR len _ fun m i s hm => ?_).bind fun k s s' hk hq => ?_
          · exact step m _ xs ys _ (okAll_mono hx hm) (okAll_mono hy hm)
          · cases hq
            obtain ⟨s, _⟩ := s
            cases s <;> exact Sim.pure fun _ _ => rfl
        | _ => exact Sim.stuck
      | _ => exact Sim.stuck
    | interface ms =>
      cases x with
      | nilIface =>
        cases y with
        | nilIface => rw [rV]; exact Sim.pure fun _ _ => rfl
        | iface ty vy => rw [rV, rV]; exact Sim.pure fun _ _ => rfl
        | _ => exact Sim.stuck
      | iface tx vx =>
        cases y with
        | nilIface => rw [rV, rV]; exact Sim.pure fun _ _ => rfl
        | iface ty vy =>
          rw [rV, rV]
          rw [okV] at hx hy
          dsimp only
          refine Sim.ite (fun _ => Sim.pure fun _ _ => rfl) fun _ => ?_
          refine Sim.same (calm_typeInfo tx) fun info => ?_
          refine Sim.ite (fun _ => ?_) fun _ => ih tx vx vy n hx.2 hy.2
          refine Sim.program (Sim.program ?_)
          refine Sim.ite (fun _ => Sim.unsB (by simp)) fun _ => ?_
          refine Sim.same (calm_typeStr tx) fun s => sim_runtimePanic F H _
        | _ => exact Sim.stuck
      | _ => exact Sim.stuck
    | pointer elem =>
      cases x with
      | pointer a =>
        cases y with
        | pointer b =>
          rw [rV, rV]
          rw [okV] at hx hy
          cases a with
          | none =>
            cases b <;> exact Sim.pure fun _ _ => rfl
          | some a =>
            cases b with
            | none => exact Sim.pure fun _ _ => rfl
            | some b =>
              dsimp only [Option.map_some]
              refine Sim.same (calm_sizeOf elem) fun z => ?_
              refine Sim.ite (fun _ => sim_sameAddr F hx hy) fun _ => ?_
              rw [beq_rA F]
              refine Sim.ite (fun _ => Sim.pure fun _ _ => rfl) fun _ => ?_
              refine (Sim.choose _).bind fun _ _ _ _ hq => ?_
              cases hq
              exact Sim.pure fun _ _ => rfl
        | _ => cases a <;> exact Sim.stuck
      | _ => exact Sim.stuck
    | unsafePointer =>
      cases x with
      | pointer a =>
        cases y with
        | pointer b =>
          rw [rV, rV]
          rw [okV] at hx hy
          cases a with
          | none => cases b <;> exact Sim.pure fun _ _ => rfl
          | some a =>
            cases b with
            | none => exact Sim.pure fun _ _ => rfl
            | some b => exact sim_sameAddr F hx hy
        | _ => exact Sim.stuck
      | _ => exact Sim.stuck
    | bool =>
      cases x with
      | bool a =>
        cases y with
        | bool b => rw [rV, rV]; exact Sim.pure fun _ _ => rfl
        | _ => exact Sim.stuck
      | _ => exact Sim.stuck
    | string =>
      cases x with
      | string a =>
        cases y with
        | string b => rw [rV, rV]; exact Sim.pure fun _ _ => rfl
        | _ => exact Sim.stuck
      | _ => exact Sim.stuck
    | float k =>
      cases x with
      | float k1 a =>
        cases y with
        | float k2 b => rw [rV, rV]; exact Sim.ite (fun _ => Sim.pure fun _ _ => rfl) fun _ => Sim.stuck
        | _ => exact Sim.stuck
      | _ => exact Sim.stuck
    | complex k =>
      cases x with
      | complex k1 a b =>
        cases y with
        | complex k2 c d => rw [rV, rV]; exact Sim.ite (fun _ => Sim.pure fun _ _ => rfl) fun _ => Sim.stuck
        | _ => exact Sim.stuck
      | _ => exact Sim.stuck
    | chan _ _ =>
      cases x with
      | chan a =>
        cases y with
        | chan b =>
          rw [okV] at hx hy
          subst hx hy
          rw [rV]
          exact Sim.pure fun _ _ => rfl
        | _ => exact Sim.stuck
      | _ => exact Sim.stuck
    | slice e =>
      cases x with
      | slice a l c =>
        cases y with
        | slice b l2 c2 =>
          rw [rV, rV]
          cases a with
          | none => cases b <;> exact Sim.pure fun _ _ => rfl
          | some a =>
            cases b with
            | none => exact Sim.pure fun _ _ => rfl
            | some b => exact Sim.stuck
        | _ => cases a <;> exact Sim.stuck
      | _ => exact Sim.stuck
    | map _ _ =>
      cases x with
      | map a =>
        cases y with
        | map b =>
          rw [rV, rV]
          cases a with
          | none => cases b <;> exact Sim.pure fun _ _ => rfl
          | some a =>
            cases b with
            | none => exact Sim.pure fun _ _ => rfl
            | some b => exact Sim.stuck
        | _ => cases a <;> exact Sim.stuck
      | _ => exact Sim.stuck
    | func _ _ _ =>
      cases x with
      | nilFunc =>
        cases y with
        | nilFunc => rw [rV]; exact Sim.pure fun _ _ => rfl
        | func _ _ _ => rw [rV, rV]; exact Sim.pure fun _ _ => rfl
        | _ => exact Sim.stuck
      | func _ _ _ =>
        cases y with
        | nilFunc => rw [rV, rV]; exact Sim.pure fun _ _ => rfl
        | _ => exact Sim.stuck
      | _ => exact Sim.stuck
    | int k =>
      cases x with
      | int k1 a =>
        cases y with
        | int k2 b => rw [rV, rV]; exact Sim.ite (fun _ => Sim.pure fun _ _ => rfl) fun _ => Sim.stuck
        | pointer b =>
          rw [rV, rV]
          cases b with
          | none => rcases a with (_ | _) | _ <;> exact Sim.unsupported (by simp)
          | some b =>
            rcases a with (_ | _) | _
            · exact Sim.pure fun _ _ => rfl
            · exact Sim.unsupported (by simp)
            · exact Sim.unsupported (by simp)
        | _ => exact Sim.stuck
      | pointer a =>
        cases a with
        | none => cases y <;> exact Sim.unsupported (by simp)
        | some a =>
          cases y with
          | int k2 b =>
            rw [rV, rV]
            rcases b with (_ | _) | _
            · exact Sim.pure fun _ _ => rfl
            · exact Sim.unsupported (by simp)
            · exact Sim.unsupported (by simp)
          | pointer b =>
            cases b with
            | none => exact Sim.unsupported (by simp)
            | some b =>
              rw [rV, rV]
              rw [okV] at hx hy
              have ha : E.A n a.block := hx
              have hb : E.A n b.block := hy
              dsimp only [Option.map_some]
              refine (sim_behindNumber F ha).bind fun m p p' hm hq => ?_
              obtain ⟨rfl, ha⟩ := hq
              refine (sim_behindNumber F (hb.mono hm)).bind fun m2 q p' hm2 hq => ?_
              obtain ⟨rfl, hb⟩ := hq
              obtain ⟨a, la⟩ := p
              obtain ⟨b, lb⟩ := q
              dsimp only at ha hb ⊢
              refine Sim.program ?_
              rw [beq_block F]
              have hG := F.ro _ H.g
              have e : decide ((rA f a).block < E.P.globals.size) = decide (a.block < E.P.globals.size) := by
                apply decide_eq_decide.2
                show f a.block < _ ↔ _
                rcases Nat.lt_or_ge a.block E.B with h | h
                · rw [F.low _ h]
                · have := F.ge h
                  omega
              rw [e]
              have ha2 := ha.mono hm2
              have hb2 := hb
              refine Sim.ite (fun _ => ?_) fun _ => ?_
              · refine (sim_byteOf F ha2).bind fun m3 u u' hm3 hq => ?_
                cases hq
                refine (sim_byteOf F (hb2.mono hm3)).bind fun m4 v v' hm4 hq => ?_
                cases hq
                exact Sim.pure fun _ _ => rfl
              · refine Sim.same (calm_typeInfo t) fun info => ?_
                rw [beq_rA F]
                split
                · exact Sim.ite (fun _ => Sim.pure fun _ _ => rfl) fun _ => Sim.unsupported (by simp)
                · exact Sim.unsupported (by simp)
          | _ => exact Sim.unsupported (by simp)
      | _ =>
        cases y with
        | pointer b => exact Sim.unsupported (by simp)
        | _ => exact Sim.stuck
    | _ => exact Sim.stuck
theorem sim_eqGuardIn (F : Fit E f) : ∀ (d : Nat) (t : TypeId) (x y : Value) (n : Nat), okV E n x → okV E n y → Sim E f n EQ (Op.eqGuardIn d t x y) (Op.eqGuardIn d t (rV f x) (rV f y))
  | 0, t, x, y, n, _, _ => Sim.unsupported (by simp)
  | d + 1, t, x, y, n, hx, hy => by
    have ih := sim_eqGuardIn F d
    have step : ∀ (m : Nat) (u : TypeId) (xs ys : Array Value) (k : Nat), okAll E m xs → okAll E m ys → Sim E f m EQ
        (part u xs k >>= fun a => part u ys k >>= fun b => Op.eqGuardIn d u a b >>= fun r => if r = true then Pure.pure (ForInStep.done (some true, ())) else Pure.pure (ForInStep.yield ((none : Option Bool), ())))
        (part u (xs.map (rV f)) k >>= fun a => part u (ys.map (rV f)) k >>= fun b => Op.eqGuardIn d u a b >>= fun r => if r = true then Pure.pure (ForInStep.done (some true, ())) else Pure.pure (ForInStep.yield ((none : Option Bool), ()))) := fun m u xs ys k h1 h2 => by
      refine (sim_part h1 u k).bind fun m1 a a' hm1 hq => ?_
      obtain ⟨rfl, ha⟩ := hq
      refine (sim_part (okAll_mono h2 hm1) u k).bind fun m2 b b' hm2 hq => ?_
      obtain ⟨rfl, hb⟩ := hq
      refine (ih u a b m2 (okV_mono hm2 a ha) hb).bind fun m3 r r' hm3 hq => ?_
      cases hq
      exact Sim.ite (fun _ => Sim.pure fun _ _ => rfl) fun _ => Sim.pure fun _ _ => rfl
    unfold Op.eqGuardIn
    refine sim_under fun D hD => ?_
    cases D with
    | struct fields =>
      cases x with
      | agg xs =>
        cases y with
        | agg ys =>
          rw [rV, rV]
          rw [okV] at hx hy
          dsimp only
          refine (sim_forInA fields _ fun m fl s hm => ?_).bind fun k s s' hk hq => ?_
          · exact Sim.ite (fun _ => step m _ xs ys _ (okAll_mono hx hm) (okAll_mono hy hm)) fun _ => Sim.pure fun _ _ => rfl
          · cases hq
            obtain ⟨s, _⟩ := s
            cases s <;> exact Sim.pure fun _ _ => rfl
        | _ => rw [rV, rV]; exact Sim.pure fun _ _ => rfl
      | _ => rw [rV]; exact Sim.pure fun _ _ => rfl
    | array len elem =>
      cases x with
      | agg xs =>
        cases y with
        | agg ys =>
          rw [rV, rV]
          rw [okV] at hx hy
          dsimp only
          refine Sim.same (calm_sizeOf elem) fun z => ?_
          refine (sim_forInR len _ fun m i s hm => ?_).bind fun k s s' hk hq => ?_
          · exact step m _ xs ys _ (okAll_mono hx hm) (okAll_mono hy hm)
          · cases hq
            obtain ⟨s, _⟩ := s
            cases s <;> exact Sim.pure fun _ _ => rfl
        | _ => rw [rV, rV]; exact Sim.pure fun _ _ => rfl
      | _ => rw [rV]; exact Sim.pure fun _ _ => rfl
    | interface ms =>
      cases x with
      | nilIface =>
        cases y with
        | nilIface => rw [rV]; exact Sim.pure fun _ _ => rfl
        | _ => rw [rV, rV]; exact Sim.pure fun _ _ => rfl
      | _ => rw [rV]; exact Sim.pure fun _ _ => rfl
    | _ => exact Sim.pure fun _ _ => rfl
theorem sim_eqGuard (F : Fit E f) {op : BinOp} {t : TypeId} {x y : Operand} {a b : Value} (ha : okV E n a) (hb : okV E n b) : Sim E f n EQ (eqGuard op t x y a b) (eqGuard op t x y (rV f a) (rV f b)) := by
  unfold eqGuard
  refine Sim.ite (fun _ => Sim.pure fun _ _ => rfl) fun _ => ?_
  cases a with
  | nilIface =>
    cases b with
    | nilIface =>
      rw [rV]
      dsimp only
      refine Sim.ite (fun _ => Sim.pure fun _ _ => rfl) fun _ => ?_
      have := sim_eqGuardIn F (E := E) Op.maxDepth t .nilIface .nilIface n (by simp [okV]) (by simp [okV])
      rw [rV] at this
      refine this.bind fun m r r' hm hq => ?_
      cases hq
      exact Sim.ite (fun _ => Sim.unsupported (by simp)) fun _ => Sim.pure fun _ _ => rfl
    | _ => rw [rV, rV]; exact Sim.pure fun _ _ => rfl
  | agg xs =>
    cases b with
    | agg ys =>
      have := sim_eqGuardIn F (E := E) Op.maxDepth t (.agg xs) (.agg ys) n ha hb
      rw [rV, rV] at this ⊢
      dsimp only
      refine Sim.program (Sim.program ?_)
      refine Sim.ite (fun _ => Sim.pure fun _ _ => rfl) fun _ => ?_
      refine this.bind fun m r r' hm hq => ?_
      cases hq
      exact Sim.ite (fun _ => Sim.unsupported (by simp)) fun _ => Sim.pure fun _ _ => rfl
    | _ => rw [rV, rV]; exact Sim.pure fun _ _ => rfl
  | _ => rw [rV]; exact Sim.pure fun _ _ => rfl
end
section
variable {E : Env} {f : Nat → Nat} {n : Nat}
def kok (P : Program) (t : TypeId) : Bool := match P.underlying t with
  | some (.map k e) => (match P.underlying k with | some .string => true | _ => false) && zok P e
  | _ => true
theorem sim_checkKey {b : Bool} {k : Nat} {t : TypeId} {x x' : Value} (h : E.P.underlying t = some .string) : Sim E f n EQ (Instr.checkKey b (k + 1) t x) (Instr.checkKey b (k + 1) t x') := by
  unfold Instr.checkKey
  refine sim_under fun D hD => ?_
  rw [h] at hD
  cases hD
  exact Sim.pure fun _ _ => rfl
theorem sameNow_rV (d : TypeDesc) (x y : Value) : Instr.sameNow d (rV f x) (rV f y) = Instr.sameNow d x y := by
  cases x <;> cases y <;> cases d <;> simp [rV, Instr.sameNow]
theorem findNow_rV (d : TypeDesc) (k : Value) : ∀ (es : List MapEntry) (i : Nat), Instr.findNow d (rV f k) (es.map (rE f)) i = (Instr.findNow d k es i).map (Option.map fun p => (p.1, rV f p.2))
  | [], i => rfl
  | e :: es, i => by
    simp only [List.map_cons, Instr.findNow]
    show (match Instr.sameNow d (rV f k) (rV f e.key) with | some true => _ | some false => _ | none => _) = _
    rw [sameNow_rV]
    cases Instr.sameNow d k e.key with
    | none => rfl
    | some b =>
      cases b with
      | true => rfl
      | false => exact findNow_rV d k es (i + 1)
def FQ (E : Env) (f : Nat → Nat) (m : Nat) (r r' : Option (Nat × Value)) : Prop := r' = r.map (fun p => (p.1, rV f p.2)) ∧ ∀ i v, r = some (i, v) → okV E m v
def EntsOk (E : Env) (n : Nat) (es : List MapEntry) : Prop := ∀ e, e ∈ es → okV E n e.key ∧ okV E n e.val
theorem findNow_ok (d : TypeDesc) (k : Value) : ∀ (es : List MapEntry) (i : Nat) (r : Option (Nat × Value)), EntsOk E n es → Instr.findNow d k es i = some r → ∀ j v, r = some (j, v) → okV E n v
  | [], i, r, _, h, j, v, e => by
    cases h
    cases e
  | x :: es, i, r, ho, h, j, v, e => by
    unfold Instr.findNow at h
    split at h
    · cases h
      cases e
      exact (ho x (by simp)).2
    · exact findNow_ok d k es (i + 1) r (fun e he => ho e (by simp [he])) h j v e
    · cases h
theorem sim_findAsking (F : Fit E f) (H : RtOk E) {t : TypeId} {k : Value} : ∀ (es : List MapEntry) (i n : Nat), okV E n k → EntsOk E n es → Sim E f n (FQ E f) (Instr.findAsking t k es i) (Instr.findAsking t (rV f k) (es.map (rE f)) i)
  | [], i, n, _, _ => Sim.pure fun _ _ => ⟨rfl, fun _ _ e => by cases e⟩
  | x :: es, i, n, hk, ho => by
    rw [List.map_cons]
    unfold Instr.findAsking
    refine (sim_equalIn F H _ t k x.key n hk (ho x (by simp)).1).bind fun m b b' hm hq => ?_
    cases hq
    refine Sim.ite (fun _ => Sim.pure fun j hj => ⟨rfl, fun _ _ e => ?_⟩) fun _ => ?_
    · cases e
      exact okV_mono (Nat.le_trans hm hj) _ (ho x (by simp)).2
    · exact sim_findAsking F H es (i + 1) m (okV_mono hm k hk) fun e he => ⟨okV_mono hm _ (ho e (by simp [he])).1, okV_mono hm _ (ho e (by simp [he])).2⟩
theorem sim_findKey (F : Fit E f) (H : RtOk E) {t : TypeId} {k : Value} {es : List MapEntry} (hk : okV E n k) (ho : EntsOk E n es) : Sim E f n (FQ E f) (Instr.findKey t k es) (Instr.findKey t (rV f k) (es.map (rE f))) := by
  unfold Instr.findKey
  refine sim_under fun D hD => ?_
  rw [findNow_rV]
  cases hf : Instr.findNow D k es 0 with
  | none => exact sim_findAsking F H es 0 n hk ho
  | some r => exact Sim.pure fun m hm => ⟨rfl, fun i v e => okV_mono hm v (findNow_ok D k es 0 r ho hf i v e)⟩
theorem sim_lookup (F : Fit E f) (H : RtOk E) {t : TypeId} {x ix : Value} {ok : Bool} (hx : okV E n x) (hi : okV E n ix) (hz : kok E.P t = true) : Sim E f n (VQ E f) (Instr.lookup t x ix ok) (Instr.lookup t (rV f x) (rV f ix) ok) := by
  unfold Instr.lookup
  refine sim_under fun D hD => ?_
  cases D with
  | map key elem =>
    unfold kok at hz
    simp only [hD, Bool.and_eq_true] at hz
    obtain ⟨hz1, hz2⟩ := hz
    have hstr : E.P.underlying key = some .string := by
      cases hu : E.P.underlying key with
      | none => rw [hu] at hz1; cases hz1
      | some d => rw [hu] at hz1; cases d <;> first | rfl | cases hz1
    have last : ∀ (m : Nat) (v : Value) (b : Bool), okV E m v → Sim E f m (VQ E f) (Pure.pure (if ok then .tuple #[v, .bool b] else v)) (Pure.pure (if ok then .tuple #[rV f v, .bool b] else rV f v)) := fun m v b hv => by
      refine Sim.pure fun k hk => ?_
      cases ok with
      | false => exact ⟨rfl, okV_mono hk v hv⟩
      | true =>
        refine ⟨by simp [rV], ?_⟩
        simp only [if_true, okV]
        intro y hy
        simp only [List.mem_toArray, List.mem_cons, List.not_mem_nil, or_false] at hy
        rcases hy with rfl | rfl
        · exact okV_mono hk _ hv
        · simp [okV]
    have fin : ∀ (m : Nat) (es : Array MapEntry), n ≤ m → EntsOk E m es.toList → Sim E f m (VQ E f)
        (Instr.checkKey es.isEmpty 10000 key ix >>= fun _ => Instr.findKey key ix es.toList >>= fun r => match r with | some (_, v) => (Pure.pure (v, true) >>= fun p : Value × Bool => Pure.pure (if ok then .tuple #[p.1, .bool p.2] else p.1)) | none => (zeroValue elem >>= fun v => Pure.pure (v, false) >>= fun p : Value × Bool => Pure.pure (if ok then .tuple #[p.1, .bool p.2] else p.1)))
        (Instr.checkKey (es.map (rE f)).isEmpty 10000 key (rV f ix) >>= fun _ => Instr.findKey key (rV f ix) (es.map (rE f)).toList >>= fun r => match r with | some (_, v) => (Pure.pure (v, true) >>= fun p : Value × Bool => Pure.pure (if ok then .tuple #[p.1, .bool p.2] else p.1)) | none => (zeroValue elem >>= fun v => Pure.pure (v, false) >>= fun p : Value × Bool => Pure.pure (if ok then .tuple #[p.1, .bool p.2] else p.1))) := fun m es hm ho => by
      have he : (es.map (rE f)).isEmpty = es.isEmpty := by simp only [Array.isEmpty, Array.size_map]
      rw [he, Array.toList_map]
      refine (sim_checkKey hstr).bind fun m2 _ _ hm2 _ => ?_
      refine (sim_findKey F H (okV_mono (Nat.le_trans hm hm2) _ hi) fun e he => ⟨okV_mono hm2 _ (ho e he).1, okV_mono hm2 _ (ho e he).2⟩).bind fun m3 r r' hm3 hq => ?_
      obtain ⟨rfl, hr⟩ := hq
      cases r with
      | none =>
        refine (sim_zero hz2).bind fun m4 z z' hm4 hq => ?_
        obtain ⟨rfl, hz⟩ := hq
        exact last m4 z false hz
      | some p =>
        obtain ⟨i, v⟩ := p
        exact last m3 v true (hr i v rfl)
    cases x with
    | map r =>
      rw [rV]
      rw [okV] at hx
      cases r with
      | none =>
        have h0 := fin n #[] (Nat.le_refl _) fun e he => by simp at he
        rw [Array.map_empty] at h0
        exact h0
      | some r =>
        dsimp only [Option.map_some]
        refine Sim.getObj (.inl (hx r rfl)) (fun j o hj hI ho => ?_) (fun hO c e t => Sim.stuckB)
        cases o with
        | map es clock => exact fin j es hj fun e he => ho e (by simpa using he)
        | _ => first | exact Sim.stuckB | exact ho.elim
    | _ => exact Sim.stuckB
  | _ => exact Sim.stuck
theorem beq_optA (F : Fit E f) (a b : Option Addr) : (a.map (rA f) == b.map (rA f)) = (a == b) := by
  cases a with
  | none => cases b <;> rfl
  | some a =>
    cases b with
    | none => rfl
    | some b => exact beq_rA F a b
theorem beq_optN (F : Fit E f) (a b : Option Nat) : (a.map f == b.map f) = (a == b) := by
  cases a with
  | none => cases b <;> rfl
  | some a =>
    cases b with
    | none => rfl
    | some b =>
      show (f a == f b) = (a == b)
      cases h : (a == b) with
      | true => exact beq_iff_eq.2 (congrArg f (eq_of_beq h))
      | false =>
        cases h' : (f a == f b) with
        | false => rfl
        | true =>
          have := F.inj _ _ (eq_of_beq h')
          rw [this] at h
          simp at h
theorem sameBits_rV (F : Fit E f) : ∀ (k : Nat) (x y : Value), Instr.sameBits k (rV f x) (rV f y) = Instr.sameBits k x y := by
  intro k
  induction k with
  | zero =>
    intro x y
    cases x with
    | pointer a => cases y <;> simp [rV, Instr.sameBits, beq_optA F]
    | chan a => cases y <;> simp [rV, Instr.sameBits, beq_optN F]
    | _ => cases y <;> simp [rV, Instr.sameBits]
  | succ k ih =>
    intro x y
    cases x with
    | pointer a => cases y <;> simp [rV, Instr.sameBits, beq_optA F]
    | chan a => cases y <;> simp [rV, Instr.sameBits, beq_optN F]
    | iface t v => cases y <;> simp [rV, Instr.sameBits, ih]
    | agg xs =>
      cases y with
      | agg ys =>
        simp only [rV, Instr.sameBits, Array.size_map, Array.toList_map, List.zip_map, List.all_map]
        congr 2
        funext p
        exact ih p.1 p.2
      | _ => simp [rV, Instr.sameBits]
    | _ => cases y <;> simp [rV, Instr.sameBits]
theorem sim_keyThatStays (F : Fit E f) {a b : Value} (ha : okV E n a) (hb : okV E n b) : Sim E f n (VQ E f) (Instr.keyThatStays a b) (Instr.keyThatStays (rV f a) (rV f b)) := by
  unfold Instr.keyThatStays
  rw [sameBits_rV F]
  refine Sim.ite (fun _ => Sim.pure fun _ hm => ⟨rfl, okV_mono hm b hb⟩) fun _ => ?_
  refine (Sim.choose _).bind fun m x x' hm hq => ?_
  cases hq
  refine Sim.pure fun k hk => ?_
  split
  · exact ⟨rfl, okV_mono (Nat.le_trans hm hk) b hb⟩
  · exact ⟨rfl, okV_mono (Nat.le_trans hm hk) a ha⟩
theorem sim_mapUpdate (F : Fit E f) (H : RtOk E) {t : TypeId} {x k v : Value} (hx : okV E n x) (hk : okV E n k) (hv : okV E n v) (hz : kok E.P t = true) : Sim E f n EQ (Instr.mapUpdate t x k v) (Instr.mapUpdate t (rV f x) (rV f k) (rV f v)) := by
  unfold Instr.mapUpdate
  refine sim_under fun D hD => ?_
  cases D with
  | map key elem =>
    unfold kok at hz
    simp only [hD, Bool.and_eq_true] at hz
    obtain ⟨hz1, hz2⟩ := hz
    have hstr : E.P.underlying key = some .string := by
      cases hu : E.P.underlying key with
      | none => rw [hu] at hz1; cases hz1
      | some d => rw [hu] at hz1; cases d <;> first | rfl | cases hz1
    cases x with
    | map r =>
      rw [rV]
      rw [okV] at hx
      cases r with
      | none => exact sim_runtimePanic F H _
      | some r =>
        dsimp only [Option.map_some]
        refine Sim.getObj (.inl (hx r rfl)) (fun j o hj hI ho => ?_) (fun hO c e t => Sim.stuck)
        cases o with
        | map es clock =>
          dsimp only [rO]
          have hes : EntsOk E j es.toList := fun e he => ho e (by simpa using he)
          refine (sim_checkKey hstr).bind fun m2 _ _ hm2 _ => ?_
          rw [Array.toList_map]
          refine (sim_findKey F H (okV_mono (Nat.le_trans hj hm2) _ hk) fun e he => ⟨okV_mono hm2 _ (hes e he).1, okV_mono hm2 _ (hes e he).2⟩).bind fun m3 p p' hm3 hq => ?_
          obtain ⟨rfl, hr⟩ := hq
          have hj3 := Nat.le_trans hm2 hm3
          have hn3 := Nat.le_trans hj hj3
          cases p with
          | none =>
            dsimp only [Option.map_none]
            have := Sim.setObj (E := E) (f := f) (n := m3) F (r := r) (o := .map (es.push { key := k, val := v, born := clock }) (clock + 1)) (hI.mono hj3) (fun e he => by
              rcases Array.mem_push.1 he with h | rfl
              · exact ⟨okV_mono hj3 _ (ho e h).1, okV_mono hj3 _ (ho e h).2⟩
              · exact ⟨okV_mono hn3 _ hk, okV_mono hn3 _ hv⟩)
            simp only [rO, Array.map_push, rE] at this
            exact this
          | some p =>
            obtain ⟨i, u⟩ := p
            dsimp only [Option.map_some]
            have hold : okV E m3 (((es[i]?).map (·.key)).getD k) := by
              cases he : es[i]? with
              | none => exact okV_mono hn3 _ hk
              | some e => exact okV_mono hj3 _ (ho e (Array.mem_of_getElem? he)).1
            have eold : ((((es.map (rE f))[i]?).map (·.key)).getD (rV f k)) = rV f (((es[i]?).map (·.key)).getD k) := by
              rw [Array.getElem?_map]
              cases es[i]? <;> rfl
            rw [eold]
            refine (sim_keyThatStays F hold (okV_mono hn3 _ hk)).bind fun m4 q q' hm4 hq => ?_
            obtain ⟨rfl, hq⟩ := hq
            have hj4 := Nat.le_trans hj3 hm4
            have := Sim.setObj (E := E) (f := f) (n := m4) F (r := r) (o := .map (es.modify i fun e => { e with key := q, val := v }) clock) (hI.mono hj4) (fun e he => by
              obtain ⟨l, hl, rfl⟩ := Array.mem_iff_getElem.1 he
              rw [Array.getElem_modify]
              split
              · exact ⟨hq, okV_mono (Nat.le_trans hn3 hm4) _ hv⟩
              · have hl' : l < es.size := by simpa using hl
                exact ⟨okV_mono hj4 _ (ho es[l] (Array.getElem_mem hl')).1, okV_mono hj4 _ (ho es[l] (Array.getElem_mem hl')).2⟩)
            have em : (es.modify i fun e => { e with key := q, val := v }).map (rE f) = (es.map (rE f)).modify i fun e => { e with key := rV f q, val := rV f v } := by
              apply Array.ext_getElem?
              intro l
              rw [Array.getElem?_map, Array.getElem?_modify, Array.getElem?_modify, Array.getElem?_map]
              split <;> cases es[l]? <;> rfl
            simp only [rO, em] at this
            exact this
        | _ => first | exact Sim.stuck | exact ho.elim
    | _ => exact Sim.stuck
  | _ => exact Sim.stuck
theorem sim_stringOp {op : BinOp} {x y : ByteArray} : Sim E f n (VQ E f) (Op.stringOp op x y) (Op.stringOp op x y) := by
  unfold Op.stringOp
  cases op with
  | add => exact Sim.ite (fun _ => Sim.unsupported (by simp)) fun _ => Sim.pure fun _ _ => vq_plain rfl
  | eql => exact Sim.pure fun _ _ => vq_plain rfl
  | neq => exact Sim.pure fun _ _ => vq_plain rfl
  | lss => exact Sim.pure fun _ _ => vq_plain rfl
  | leq => exact Sim.pure fun _ _ => vq_plain rfl
  | gtr => exact Sim.pure fun _ _ => vq_plain rfl
  | geq => exact Sim.pure fun _ _ => vq_plain rfl
  | _ => exact Sim.stuck
theorem sim_intOps (F : Fit E f) (H : RtOk E) {op : BinOp} {k : IntKind} {a b : Int} : Sim E f n (VQ E f)
    (match op with | .add | .sub | .mul => Op.intArith op k a b | .quo | .rem => Op.intDiv op k a b | .and | .or | .xor | .andNot => Op.intBits op k a b | _ => Op.intCmp op a b)
    (match op with | .add | .sub | .mul => Op.intArith op k a b | .quo | .rem => Op.intDiv op k a b | .and | .or | .xor | .andNot => Op.intBits op k a b | _ => Op.intCmp op a b) := by
  cases op <;> first
    | exact Sim.pure fun _ _ => vq_plain rfl
    | exact Sim.stuck
    | (unfold Op.intDiv; exact Sim.ite (fun _ => sim_runtimePanic F H _) fun _ => Sim.pure fun _ _ => vq_plain rfl)
theorem sim_shift (F : Fit E f) (H : RtOk E) {op : BinOp} {k yk : IntKind} {a b : Int} : Sim E f n (VQ E f) (Op.shift op k a yk b) (Op.shift op k a yk b) := by
  unfold Op.shift
  refine Sim.ite (fun _ => sim_runtimePanic F H _) fun _ => ?_
  cases op <;> first | exact Sim.pure fun _ _ => vq_plain rfl | exact Sim.stuck
end
end Go.Proofs.YtaablbmgagiajabGreatDoor.Ren
