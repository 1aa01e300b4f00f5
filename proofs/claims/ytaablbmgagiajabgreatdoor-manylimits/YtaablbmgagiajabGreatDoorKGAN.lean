import Derived.Test.YtaablbmgagiajabGreatDoorKGAM
namespace Go.Proofs.YtaablbmgagiajabGreatDoor.Ren
open Go
section
variable {E : Env} {f : Nat → Nat} {n : Nat}
def kok (P : Program) (t : TypeId) : Bool := match P.underlying t with
  | some (.map k e) => (match P.underlying k with | some .string => true | _ => false) && zok P e
  | _ => true
theorem sim_checkKey {b : Bool} {k : Nat} {t : TypeId} {x x' : Value} (h : E.P.underlying t = some .string) : Sim E f n EQ (Instr.checkKey b (k + 1) t x) (Instr.checkKey b (k + 1) t x') := by
  unfold Instr.checkKey
  refine sim_under fun D hD => ?_
  rw [h] at hD
  cases hD
  exact Sim.pure fun _ _ => rfl
theorem sameNow_rV (d : TypeDesc) (x y : Value) : Instr.sameNow d (rV f x) (rV f y) = Instr.sameNow d x y := by
  cases x <;> cases y <;> cases d <;> simp [rV, Instr.sameNow]
theorem findNow_rV (d : TypeDesc) (k : Value) : ∀ (es : List MapEntry) (i : Nat), Instr.findNow d (rV f k) (es.map (rE f)) i = (Instr.findNow d k es i).map (Option.map fun p => (p.1, rV f p.2))
  | [], i => rfl
  | e :: es, i => by
    simp only [List.map_cons, Instr.findNow]
    show (match Instr.sameNow d (rV f k) (rV f e.key) with | some true => _ | some false => _ | none => _) = _
    rw [sameNow_rV]
    cases Instr.sameNow d k e.key with
    | none => rfl
    | some b =>
      cases b with
      | true => rfl
      | false => exact findNow_rV d k es (i + 1)
def FQ (E : Env) (f : Nat → Nat) (m : Nat) (r r' : Option (Nat × Value)) : Prop := r' = r.map (fun p => (p.1, rV f p.2)) ∧ ∀ i v, r = some (i, v) → okV E m v
def EntsOk (E : Env) (n : Nat) (es : List MapEntry) : Prop := ∀ e, e ∈ es → okV E n e.key ∧ okV E n e.val
theorem findNow_ok (d : TypeDesc) (k : Value) : ∀ (es : List MapEntry) (i : Nat) (r : Option (Nat × Value)), EntsOk E n es → Instr.findNow d k es i = some r → ∀ j v, r = some (j, v) → okV E n v
  | [], i, r, _, h, j, v, e => by
    cases h
    cases e
  | x :: es, i, r, ho, h, j, v, e => by
    unfold Instr.findNow at h
    split at h
    · cases h
      cases e
      exact (ho x (by simp)).2
    · exact findNow_ok d k es (i + 1) r (fun e he => ho e (by simp [he])) h j v e
    · cases h
theorem sim_findAsking (F : Fit E f) (H : RtOk E) {t : TypeId} {k : Value} : ∀ (es : List MapEntry) (i n : Nat), okV E n k → EntsOk E n es → Sim E f n (FQ E f) (Instr.findAsking t k es i) (Instr.findAsking t (rV f k) (es.map (rE f)) i)
  | [], i, n, _, _ => Sim.pure fun _ _ => ⟨rfl, fun _ _ e => by cases e⟩
  | x :: es, i, n, hk, ho => by
    rw [List.map_cons]
    unfold Instr.findAsking
    refine (sim_equalIn F H _ t k x.key n hk (ho x (by simp)).1).bind fun m b b' hm hq => ?_
    cases hq
    refine Sim.ite (fun _ => Sim.pure fun j hj => ⟨rfl, fun _ _ e => ?_⟩) fun _ => ?_
    · cases e
      exact okV_mono (Nat.le_trans hm hj) _ (ho x (by simp)).2
    · exact sim_findAsking F H es (i + 1) m (okV_mono hm k hk) fun e he => ⟨okV_mono hm _ (ho e (by simp [he])).1, okV_mono hm _ (ho e (by simp [he])).2⟩
theorem sim_findKey (F : Fit E f) (H : RtOk E) {t : TypeId} {k : Value} {es : List MapEntry} (hk : okV E n k) (ho : EntsOk E n es) : Sim E f n (FQ E f) (Instr.findKey t k es) (Instr.findKey t (rV f k) (es.map (rE f))) := by
  unfold Instr.findKey
  refine sim_under fun D hD => ?_
  rw [findNow_rV]
  cases hf : Instr.findNow D k es 0 with
  | none => exact sim_findAsking F H es 0 n hk ho
  | some r => exact Sim.pure fun m hm => ⟨rfl, fun i v e => okV_mono hm v (findNow_ok D k es 0 r ho hf i v e)⟩
theorem sim_lookup (F : Fit E f) (H : RtOk E) {t : TypeId} {x ix : Value} {ok : Bool} (hx : okV E n x) (hi : okV E n ix) (hz : kok E.P t = true) : Sim E f n (VQ E f) (Instr.lookup t x ix ok) (Instr.lookup t (rV f x) (rV f ix) ok) := by
  unfold Instr.lookup
  refine sim_under fun D hD => ?_
  cases D with
  | map key elem =>
    unfold kok at hz
    simp only [hD, Bool.and_eq_true] at hz
    obtain ⟨hz1, hz2⟩ := hz
    have hstr : E.P.underlying key = some .string := by
      cases hu : E.P.underlying key with
      | none => rw [hu] at hz1; cases hz1
      | some d => rw [hu] at hz1; cases d <;> first | rfl | cases hz1
    have last : ∀ (m : Nat) (v : Value) (b : Bool), okV E m v → Sim E f m (VQ E f) (Pure.pure (if ok then .tuple #[v, .bool b] else v)) (Pure.pure (if ok then .tuple #[rV f v, .bool b] else rV f v)) := fun m v b hv => by
      refine Sim.pure fun k hk => ?_
      cases ok with
      | false => exact ⟨rfl, okV_mono hk v hv⟩
      | true =>
        refine ⟨by simp [rV], ?_⟩
        simp only [if_true, okV]
        intro y hy
        simp only [List.mem_toArray, List.mem_cons, List.not_mem_nil, or_false] at hy
        rcases hy with rfl | rfl
        · exact okV_mono hk _ hv
        · simp [okV]
    have fin : ∀ (m : Nat) (es : Array MapEntry), n ≤ m → EntsOk E m es.toList → Sim E f m (VQ E f)
        (Instr.checkKey es.isEmpty 10000 key ix >>= fun _ => Instr.findKey key ix es.toList >>= fun r => match r with | some (_, v) => (Pure.pure (v, true) >>= fun p : Value × Bool => Pure.pure (if ok then .tuple #[p.1, .bool p.2] else p.1)) | none => (zeroValue elem >>= fun v => Pure.pure (v, false) >>= fun p : Value × Bool => Pure.pure (if ok then .tuple #[p.1, .bool p.2] else p.1)))
        (Instr.checkKey (es.map (rE f)).isEmpty 10000 key (rV f ix) >>= fun _ => Instr.findKey key (rV f ix) (es.map (rE f)).toList >>= fun r => match r with | some (_, v) => (Pure.pure (v, true) >>= fun p : Value × Bool => Pure.pure (if ok then .tuple #[p.1, .bool p.2] else p.1)) | none => (zeroValue elem >>= fun v => Pure.pure (v, false) >>= fun p : Value × Bool => Pure.pure (if ok then .tuple #[p.1, .bool p.2] else p.1))) := fun m es hm ho => by
      have he : (es.map (rE f)).isEmpty = es.isEmpty := by simp only [Array.isEmpty, Array.size_map]
      rw [he, Array.toList_map]
      refine (sim_checkKey hstr).bind fun m2 _ _ hm2 _ => ?_
      refine (sim_findKey F H (okV_mono (Nat.le_trans hm hm2) _ hi) fun e he => ⟨okV_mono hm2 _ (ho e he).1, okV_mono hm2 _ (ho e he).2⟩).bind fun m3 r r' hm3 hq => ?_
      obtain ⟨rfl, hr⟩ := hq
      cases r with
      | none =>
        refine (sim_zero hz2).bind fun m4 z z' hm4 hq => ?_
        obtain ⟨rfl, hz⟩ := hq
        exact last m4 z false hz
      | some p =>
        obtain ⟨i, v⟩ := p
        exact last m3 v true (hr i v rfl)
    cases x with
    | map r =>
      rw [rV]
      rw [okV] at hx
      cases r with
      | none =>
        have h0 := fin n #[] (Nat.le_refl _) fun e he => by simp at he
        rw [Array.map_empty] at h0
        exact h0
      | some r =>
        dsimp only [Option.map_some]
        refine Sim.getObj (.inl (hx r rfl)) (fun j o hj hI ho => ?_) (fun hO c e t => Sim.stuckB)
        cases o with
        | map es clock => exact fin j es hj fun e he => ho e (by simpa using he)
        | _ => first | exact Sim.stuckB | exact ho.elim
    | _ => exact Sim.stuckB
  | _ => exact Sim.stuck
theorem beq_optA (F : Fit E f) (a b : Option Addr) : (a.map (rA f) == b.map (rA f)) = (a == b) := by
  cases a with
  | none => cases b <;> rfl
  | some a =>
    cases b with
    | none => rfl
    | some b => exact beq_rA F a b
theorem beq_optN (F : Fit E f) (a b : Option Nat) : (a.map f == b.map f) = (a == b) := by
  cases a with
  | none => cases b <;> rfl
  | some a =>
    cases b with
    | none => rfl
    | some b =>
      show (f a == f b) = (a == b)
      cases h : (a == b) with
      | true => exact beq_iff_eq.2 (congrArg f (eq_of_beq h))
      | false =>
        cases h' : (f a == f b) with
        | false => rfl
        | true =>
          have := F.inj _ _ (eq_of_beq h')
          rw [this] at h
          simp at h
theorem sameBits_rV (F : Fit E f) : ∀ (k : Nat) (x y : Value), Instr.sameBits k (rV f x) (rV f y) = Instr.sameBits k x y := by
  intro k
  induction k with
  | zero =>
    intro x y
    cases x with
    | pointer a => cases y <;> simp [rV, Instr.sameBits, beq_optA F]
    | chan a => cases y <;> simp [rV, Instr.sameBits, beq_optN F]
    | _ => cases y <;> simp [rV, Instr.sameBits]
  | succ k ih =>
    intro x y
    cases x with
    | pointer a => cases y <;> simp [rV, Instr.sameBits, beq_optA F]
    | chan a => cases y <;> simp [rV, Instr.sameBits, beq_optN F]
    | iface t v => cases y <;> simp [rV, Instr.sameBits, ih]
    | agg xs =>
      cases y with
      | agg ys =>
        simp only [rV, Instr.sameBits, Array.size_map, Array.toList_map, List.zip_map, List.all_map]
        congr 2
        funext p
        exact ih p.1 p.2
      | _ => simp [rV, Instr.sameBits]
    | _ => cases y <;> simp [rV, Instr.sameBits]
theorem sim_keyThatStays (F : Fit E f) {a b : Value} (ha : okV E n a) (hb : okV E n b) : Sim E f n (VQ E f) (Instr.keyThatStays a b) (Instr.keyThatStays (rV f a) (rV f b)) := by
  unfold Instr.keyThatStays
  rw [sameBits_rV F]
  refine Sim.ite (fun _ => Sim.pure fun _ hm => ⟨rfl, okV_mono hm b hb⟩) fun _ => ?_
  refine (Sim.choose _).bind fun m x x' hm hq => ?_
  cases hq
  refine Sim.pure fun k hk => ?_
  split
  · exact ⟨rfl, okV_mono (Nat.le_trans hm hk) b hb⟩
  · exact ⟨rfl, okV_mono (Nat.le_trans hm hk) a ha⟩
theorem sim_mapUpdate (F : Fit E f) (H : RtOk E) {t : TypeId} {x k v : Value} (hx : okV E n x) (hk : okV E n k) (hv : okV E n v) (hz : kok E.P t = true) : Sim E f n EQ (Instr.mapUpdate t x k v) (Instr.mapUpdate t (rV f x) (rV f k) (rV f v)) := by
  unfold Instr.mapUpdate
  refine sim_under fun D hD => ?_
  cases D with
  | map key elem =>
    unfold kok at hz
    simp only [hD, Bool.and_eq_true] at hz
    obtain ⟨hz1, hz2⟩ := hz
    have hstr : E.P.underlying key = some .string := by
      cases hu : E.P.underlying key with
      | none => rw [hu] at hz1; cases hz1
      | some d => rw [hu] at hz1; cases d <;> first | rfl | cases hz1
    cases x with
    | map r =>
      rw [rV]
      rw [okV] at hx
      cases r with
      | none => exact sim_runtimePanic F H _
      | some r =>
        dsimp only [Option.map_some]
        refine Sim.getObj (.inl (hx r rfl)) (fun j o hj hI ho => ?_) (fun hO c e t => Sim.stuck)
        cases o with
        | map es clock =>
          dsimp only [rO]
          have hes : EntsOk E j es.toList := fun e he => ho e (by simpa using he)
          refine (sim_checkKey hstr).bind fun m2 _ _ hm2 _ => ?_
          rw [Array.toList_map]
          refine (sim_findKey F H (okV_mono (Nat.le_trans hj hm2) _ hk) fun e he => ⟨okV_mono hm2 _ (hes e he).1, okV_mono hm2 _ (hes e he).2⟩).bind fun m3 p p' hm3 hq => ?_
          obtain ⟨rfl, hr⟩ := hq
          have hj3 := Nat.le_trans hm2 hm3
          have hn3 := Nat.le_trans hj hj3
          cases p with
          | none =>
            dsimp only [Option.map_none]
            have := Sim.setObj (E := E) (f := f) (n := m3) F (r := r) (o := .map (es.push { key := k, val := v, born := clock }) (clock + 1)) (hI.mono hj3) (fun e he => by
              rcases Array.mem_push.1 he with h | rfl
              · exact ⟨okV_mono hj3 _ (ho e h).1, okV_mono hj3 _ (ho e h).2⟩
              · exact ⟨okV_mono hn3 _ hk, okV_mono hn3 _ hv⟩)
            simp only [rO, Array.map_push, rE] at this
            exact this
          | some p =>
            obtain ⟨i, u⟩ := p
            dsimp only [Option.map_some]
            have hold : okV E m3 (((es[i]?).map (·.key)).getD k) := by
              cases he : es[i]? with
              | none => exact okV_mono hn3 _ hk
              | some e => exact okV_mono hj3 _ (ho e (Array.mem_of_getElem? he)).1
            have eold : ((((es.map (rE f))[i]?).map (·.key)).getD (rV f k)) = rV f (((es[i]?).map (·.key)).getD k) := by
              rw [Array.getElem?_map]
              cases es[i]? <;> rfl
            rw [eold]
            refine (sim_keyThatStays F hold (okV_mono hn3 _ hk)).bind fun m4 q q' hm4 hq => ?_
            obtain ⟨rfl, hq⟩ := hq
            have hj4 := Nat.le_trans hj3 hm4
            have := Sim.setObj (E := E) (f := f) (n := m4) F (r := r) (o := .map (es.modify i fun e => { e with key := q, val := v }) clock) (hI.mono hj4) (fun e he => by
              obtain ⟨l, hl, rfl⟩ := Array.mem_iff_getElem.1 he
              rw [Array.getElem_modify]
              split
              · exact ⟨hq, okV_mono (Nat.le_trans hn3 hm4) _ hv⟩
              · have hl' : l < es.size := by simpa using hl
                exact ⟨okV_mono hj4 _ (ho es[l] (Array.getElem_mem hl')).1, okV_mono hj4 _ (ho es[l] (Array.getElem_mem hl')).2⟩)
            have em : (es.modify i fun e => { e with key := q, val := v }).map (rE f) = (es.map (rE f)).modify i fun e => { e with key := rV f q, val := rV f v } := by
              apply Array.ext_getElem?
              intro l
              rw [Array.getElem?_map, Array.getElem?_modify, Array.getElem?_modify, Array.getElem?_map]
              split <;> cases es[l]? <;> rfl
            simp only [rO, em] at this
            exact this
        | _ => first | exact Sim.stuck | exact ho.elim
    | _ => exact Sim.stuck
  | _ => exact Sim.stuck
theorem sim_stringOp {op : BinOp} {x y : ByteArray} : Sim E f n (VQ E f) (Op.stringOp op x y) (Op.stringOp op x y) := by
  unfold Op.stringOp
  cases op with
  | add => exact Sim.ite (fun _ => Sim.unsupported (by simp)) fun _ => Sim.pure fun _ _ => vq_plain rfl
  | eql => exact Sim.pure fun _ _ => vq_plain rfl
  | neq => exact Sim.pure fun _ _ => vq_plain rfl
  | lss => exact Sim.pure fun _ _ => vq_plain rfl
  | leq => exact Sim.pure fun _ _ => vq_plain rfl
  | gtr => exact Sim.pure fun _ _ => vq_plain rfl
  | geq => exact Sim.pure fun _ _ => vq_plain rfl
  | _ => exact Sim.stuck
theorem sim_intOps (F : Fit E f) (H : RtOk E) {op : BinOp} {k : IntKind} {a b : Int} : Sim E f n (VQ E f)
    (match op with | .add | .sub | .mul => Op.intArith op k a b | .quo | .rem => Op.intDiv op k a b | .and | .or | .xor | .andNot => Op.intBits op k a b | _ => Op.intCmp op a b)
    (match op with | .add | .sub | .mul => Op.intArith op k a b | .quo | .rem => Op.intDiv op k a b | .and | .or | .xor | .andNot => Op.intBits op k a b | _ => Op.intCmp op a b) := by
  cases op <;> first
    | exact Sim.pure fun _ _ => vq_plain rfl
    | exact Sim.stuck
    | (unfold Op.intDiv; exact Sim.ite (fun _ => sim_runtimePanic F H _) fun _ => Sim.pure fun _ _ => vq_plain rfl)
theorem sim_shift (F : Fit E f) (H : RtOk E) {op : BinOp} {k yk : IntKind} {a b : Int} : Sim E f n (VQ E f) (Op.shift op k a yk b) (Op.shift op k a yk b) := by
  unfold Op.shift
  refine Sim.ite (fun _ => sim_runtimePanic F H _) fun _ => ?_
  cases op <;> first | exact Sim.pure fun _ _ => vq_plain rfl | exact Sim.stuck
end
section
variable {E : Env} {f : Nat → Nat} {n : Nat}
theorem lt_globals (F : Fit E f) (H : RtOk E) (a : Addr) : ((rA f a).block < E.P.globals.size) ↔ (a.block < E.P.globals.size) := by
  have hG := F.ro _ H.g
  show f a.block < _ ↔ _
  rcases Nat.lt_or_ge a.block E.B with h | h
  · rw [F.low _ h]
  · have := F.ge h
    omega
theorem sim_asNumber {a : Addr} {l : Bool} (ha : E.A n a.block) : Sim E f n (VQ E f) (asNumber a l) (asNumber (rA f a) l) := by
  unfold asNumber
  refine (Sim.newObj (o := .number a l) ha).bind fun m r r' hm hq => ?_
  obtain ⟨rfl, hI⟩ := hq
  exact Sim.pure fun k hk => vq_ptr (a := ⟨r, 0, none⟩) (.inl (hI.mono hk))
theorem sim_unsafeAdd (F : Fit E f) {ts : Array TypeId} {t : TypeId} {x y : Value} (hx : okV E n x) : Sim E f n (VQ E f) (Builtin.unsafeAdd_ ts t #[x, y]) (Builtin.unsafeAdd_ ts t #[rV f x, rV f y]) := by
  unfold Builtin.unsafeAdd_
  cases x with
  | pointer a =>
    rw [rV]
    rw [okV] at hx
    dsimp only
    refine sim_asInt.bind fun m k k' hm hq => ?_
    cases hq
    refine Sim.ite (fun _ => ?_) fun _ => ?_
    · cases a with
      | none => exact Sim.unsupported (by simp)
      | some a =>
        dsimp only [Option.map_some]
        refine (sim_viewAt F (Env.A.mono hx hm)).bind fun m2 v v' hm2 hq => ?_
        obtain ⟨rfl, _⟩ := hq
        rw [Option.isSome_map]
        exact Sim.ite (fun _ => Sim.unsB (by simp)) fun _ => Sim.pure fun j hj => vq_ptr (Env.A.mono hx (Nat.le_trans hm (Nat.le_trans hm2 hj)))
    · refine Sim.ite (fun _ => Sim.unsB (by simp)) fun _ => ?_
      cases a with
      | none => exact Sim.unsupported (by simp)
      | some a =>
        dsimp only [Option.map_some]
        refine (Sim.shape F (Env.A.mono hx hm)).bind fun m2 s s' hm2 hq => ?_
        rcases hq with rfl | ⟨_, rfl, _⟩
        · cases s' with
          | none => exact Sim.unsupported (by simp)
          | some p =>
            obtain ⟨e, c⟩ := p
            dsimp only
            refine Sim.program ?_
            show Sim E f m2 (VQ E f) (match cellAtBytes E.P E.P.depth e (c / E.P.cellsOf e) a.off k with | some off => _ | none => _) (match cellAtBytes E.P E.P.depth e (c / E.P.cellsOf e) a.off k with | some off => _ | none => _)
            cases cellAtBytes E.P E.P.depth e (c / E.P.cellsOf e) a.off k with
            | none => exact Sim.unsupported (by simp)
            | some off => exact Sim.pure fun j hj => vq_ptr (a := { a with off := off }) (Env.A.mono hx (Nat.le_trans hm (Nat.le_trans hm2 hj)))
        · exact Sim.unsupported (by simp)
  | _ => exact Sim.stuck
theorem sim_movedNumber (F : Fit E f) {t : TypeId} {x y : Value} (hx : okV E n x) : Sim E f n (VQ E f) (movedNumber t x y) (movedNumber t (rV f x) (rV f y)) := by
  have base : ∀ m v, okV E m v → Sim E f m (VQ E f) (Builtin.unsafeAdd_ #[] t #[v, y]) (Builtin.unsafeAdd_ #[] t #[rV f v, rV f y]) := fun m v hv => sim_unsafeAdd F hv
  unfold movedNumber
  refine sim_under fun d hd => ?_
  dsimp only
  refine Sim.ite (fun _ => Sim.unsB (by simp)) fun _ => ?_
  cases x with
  | pointer a =>
    have b0 := base n (.pointer a) hx
    rw [rV] at b0 ⊢
    rw [okV] at hx
    cases a with
    | none => exact b0
    | some a =>
      dsimp only [Option.map_some]
      refine (sim_behindNumber F hx).bind fun m p p' hm hq => ?_
      obtain ⟨rfl, hA⟩ := hq
      obtain ⟨b, l⟩ := p
      dsimp only at hA ⊢
      have b1 := base m (.pointer (some b)) (by rw [okV]; exact hA)
      rw [rV] at b1
      refine b1.bind fun m2 v v' hm2 hq => ?_
      obtain ⟨rfl, hv⟩ := hq
      cases v with
      | pointer c =>
        rw [rV]
        rw [okV] at hv
        cases c with
        | none => exact Sim.pure fun _ _ => vq_plain rfl
        | some c => exact sim_asNumber hv
      | _ => rw [rV]; exact Sim.pure fun j hj => ⟨by rw [rV], okV_mono hj _ hv⟩
  | _ =>
    have b0 := base n _ hx
    rw [rV] at b0 ⊢
    exact b0
theorem sim_movedPointer (F : Fit E f) {t : TypeId} {x y : Value} (hx : okV E n x) : Sim E f n (VQ E f) (movedPointer t x y) (movedPointer t (rV f x) (rV f y)) := by
  have base : ∀ m, n ≤ m → Sim E f m (VQ E f) (Builtin.unsafeAdd_ #[] t #[x, y]) (Builtin.unsafeAdd_ #[] t #[rV f x, rV f y]) := fun m hm => sim_unsafeAdd F (okV_mono hm x hx)
  unfold movedPointer
  cases x with
  | pointer a =>
    cases a with
    | none =>
      have b0 := base n (Nat.le_refl _)
      rw [rV] at b0 ⊢
      exact b0
    | some a =>
      have hA : E.A n a.block := by rw [okV] at hx; exact hx
      have b0 := base
      rw [rV] at b0 ⊢
      dsimp only [Option.map_some] at b0 ⊢
      refine (sim_numberAt F hA).bind fun m p p' hm hq => ?_
      obtain ⟨rfl, _⟩ := hq
      rw [Option.isSome_map]
      exact Sim.ite (fun _ => Sim.unsB (by simp)) fun _ => b0 m hm
  | _ =>
    have b0 := base n (Nat.le_refl _)
    rw [rV] at b0 ⊢
    exact b0
theorem sim_twoPlaces (F : Fit E f) (H : RtOk E) {a b : Addr} (ha : E.A n a.block) (hb : E.A n b.block) : Sim E f n EQ (Op.twoPlaces a b) (Op.twoPlaces (rA f a) (rA f b)) := by
  unfold Op.twoPlaces
  refine Sim.program ?_
  dsimp only
  have e1 : ((rA f a).block != (rA f b).block) = (a.block != b.block) := by
    show (!((rA f a).block == (rA f b).block)) = !(a.block == b.block)
    rw [beq_block F]
  have e2 : decide ((rA f a).block ≥ E.P.globals.size) = decide (a.block ≥ E.P.globals.size) := by
    apply decide_eq_decide.2
    have := lt_globals F H a
    omega
  rw [e1, e2]
  refine Sim.ite (fun _ => Sim.unsB (by simp)) fun _ => ?_
  refine (sim_byteOf F ha).bind fun m x x' hm hq => ?_
  cases hq
  refine (sim_byteOf F (hb.mono hm)).bind fun m2 y y' hm2 hq => ?_
  cases hq
  exact Sim.pure fun _ _ => rfl
theorem sim_addrMod (F : Fit E f) {k : IntKind} {a : Addr} {z : Int} (ha : E.A n a.block) : Sim E f n (VQ E f) (Op.addrMod k a z) (Op.addrMod k (rA f a) z) := by
  unfold Op.addrMod
  refine (Sim.shape F ha).bind fun m s s' hm hq => ?_
  rcases hq with rfl | ⟨_, rfl, _⟩
  · cases s' with
    | none => exact Sim.unsupported (by simp)
    | some p =>
      obtain ⟨e, c⟩ := p
      dsimp only
      refine Sim.same (calm_typeInfo e) fun i => ?_
      refine Sim.ite (fun _ => Sim.unsB (by simp)) fun _ => ?_
      refine (sim_byteOf F (ha.mono hm)).bind fun m2 x x' hm2 hq => ?_
      cases hq
      exact Sim.pure fun _ _ => vq_plain rfl
  · exact Sim.unsupported (by simp)
theorem sim_unary {op : UnOp} {x : Value} (hx : okV E n x) : Sim E f n (VQ E f) (Op.unary op x) (Op.unary op (rV f x)) := by
  cases x with
  | float _ _ => rw [okV] at hx; exact hx.elim
  | complex _ _ _ => rw [okV] at hx; exact hx.elim
  | int k a => rw [rV]; cases op <;> first | exact Sim.pure fun _ _ => vq_plain rfl | exact Sim.stuck
  | bool b => rw [rV]; cases op <;> first | exact Sim.pure fun _ _ => vq_plain rfl | exact Sim.stuck
  | pointer a => cases a <;> cases op <;> first | exact Sim.unsupported (by simp) | exact Sim.stuck
  | _ => cases op <;> exact Sim.stuck
theorem sim_eqlB (F : Fit E f) (H : RtOk E) {t : TypeId} {x y : Value} (hx : okV E n x) (hy : okV E n y) (g : Bool → Bool) : Sim E f n (VQ E f) (Op.equal t x y >>= fun b => Pure.pure (.bool (g b))) (Op.equal t (rV f x) (rV f y) >>= fun b => Pure.pure (.bool (g b))) := by
  refine (sim_equalIn F H _ t x y n hx hy).bind fun m b b' hm hq => ?_
  cases hq
  exact Sim.pure fun _ _ => vq_plain rfl
theorem sim_obs {α : Type} {Q : Nat → α → α → Prop} {t : Sem α} : Sim E f n Q (unsupported .addressObserved) t := Sim.unsupported (by simp)
theorem sim_binEq (F : Fit E f) (H : RtOk E) {t : TypeId} {x y : Value} (hx : okV E n x) (hy : okV E n y) : Sim E f n (VQ E f) (binOp .eql t x y) (binOp .eql t (rV f x) (rV f y)) := by
  have heq := sim_eqlB F H (t := t) hx hy id
  cases x with
  | float _ _ => rw [okV] at hx; exact hx.elim
  | complex _ _ _ => rw [okV] at hx; exact hx.elim
  | int k a =>
    cases y with
    | int k2 b => rw [rV, rV]; exact Sim.ite (fun _ => Sim.stuck) fun _ => Sim.pure fun _ _ => vq_plain rfl
    | _ => rw [rV, rV] at heq ⊢; exact heq
  | string a =>
    cases y with
    | string b => rw [rV, rV]; exact Sim.pure fun _ _ => vq_plain rfl
    | _ => rw [rV, rV] at heq ⊢; exact heq
  | _ => rw [rV] at heq ⊢; exact heq
theorem sim_binNe (F : Fit E f) (H : RtOk E) {t : TypeId} {x y : Value} (hx : okV E n x) (hy : okV E n y) : Sim E f n (VQ E f) (binOp .neq t x y) (binOp .neq t (rV f x) (rV f y)) := by
  have heq := sim_eqlB F H (t := t) hx hy (fun b => !b)
  cases x with
  | float _ _ => rw [okV] at hx; exact hx.elim
  | complex _ _ _ => rw [okV] at hx; exact hx.elim
  | int k a =>
    cases y with
    | int k2 b => rw [rV, rV]; exact Sim.ite (fun _ => Sim.stuck) fun _ => Sim.pure fun _ _ => vq_plain rfl
    | _ => rw [rV, rV] at heq ⊢; exact heq
  | string a =>
    cases y with
    | string b => rw [rV, rV]; exact Sim.pure fun _ _ => vq_plain rfl
    | _ => rw [rV, rV] at heq ⊢; exact heq
  | _ => rw [rV] at heq ⊢; exact heq
theorem sim_mod (F : Fit E f) (k : IntKind) (a : Addr) (z : Int) (ha : E.A n a.block) : Sim E f n (VQ E f) (behindNumber a >>= fun p => Op.addrMod k p.1 z) (behindNumber (rA f a) >>= fun p => Op.addrMod k p.1 z) := by
  refine (sim_behindNumber F ha).bind fun m p p' hm hq => ?_
  obtain ⟨rfl, hA⟩ := hq
  exact sim_addrMod F hA
theorem sim_two (F : Fit E f) (a b : Addr) (g : Addr → Addr → Sem Value) (hg : ∀ m a b, E.A m a.block → E.A m b.block → Sim E f m (VQ E f) (g a b) (g (rA f a) (rA f b))) (ha : E.A n a.block) (hb : E.A n b.block) :
    Sim E f n (VQ E f) (behindNumber a >>= fun p => behindNumber b >>= fun q => g p.1 q.1) (behindNumber (rA f a) >>= fun p => behindNumber (rA f b) >>= fun q => g p.1 q.1) := by
  refine (sim_behindNumber F ha).bind fun m p p' hm hq => ?_
  obtain ⟨rfl, hA⟩ := hq
  refine (sim_behindNumber F (hb.mono hm)).bind fun m2 q q' hm2 hq => ?_
  obtain ⟨rfl, hB⟩ := hq
  exact hg m2 _ _ (hA.mono hm2) hB
theorem sim_cmp (F : Fit E f) (H : RtOk E) (op : BinOp) (m : Nat) (a b : Addr) (ha : E.A m a.block) (hb : E.A m b.block) : Sim E f m (VQ E f) (Op.addrCmp op a b) (Op.addrCmp op (rA f a) (rA f b)) := by
  unfold Op.addrCmp
  refine (sim_twoPlaces F H ha hb).bind fun m2 p p' hm2 hq => ?_
  cases hq
  obtain ⟨u, v⟩ := p
  cases op <;> first | exact Sim.pure fun _ _ => vq_plain rfl | exact sim_obs
theorem sim_sub (F : Fit E f) (H : RtOk E) (m : Nat) (a b : Addr) (ha : E.A m a.block) (hb : E.A m b.block) : Sim E f m (VQ E f) (Op.addrSub .u64 a b) (Op.addrSub .u64 (rA f a) (rA f b)) := by
  unfold Op.addrSub
  refine (sim_twoPlaces F H ha hb).bind fun m2 p p' hm2 hq => ?_
  cases hq
  exact Sim.pure fun _ _ => vq_plain rfl
theorem sim_add (F : Fit E f) {t : TypeId} {a : Option Addr} {k : IntKind} {b : Int} (hx : okV E n (.pointer a)) : Sim E f n (VQ E f) (binOp .add t (.pointer a) (.int k b)) (binOp .add t (.pointer (a.map (rA f))) (.int k b)) := by
  have hm1 := sim_movedNumber F (t := t) (y := .int k b) hx
  have hmp := sim_movedPointer F (t := t) (y := .int k b) hx
  rw [rV, rV] at hm1 hmp
  show Sim E f n (VQ E f) (underlying t >>= fun d => _) (underlying t >>= fun d => _)
  refine sim_under fun d hd => ?_
  exact Sim.ite (fun _ => hmp) fun _ => hm1
theorem sim_binPI (F : Fit E f) {op : BinOp} (h1 : op ≠ .eql) (h2 : op ≠ .neq) {t : TypeId} {a : Option Addr} {k : IntKind} {b : Int} (hx : okV E n (.pointer a)) : Sim E f n (VQ E f) (binOp op t (.pointer a) (.int k b)) (binOp op t (.pointer (a.map (rA f))) (.int k b)) := by
  have hm2 := sim_movedNumber F (t := t) (y := .int k (-b)) hx
  rw [rV, rV] at hm2
  cases op with
  | eql => exact absurd rfl h1
  | neq => exact absurd rfl h2
  | add => exact sim_add F hx
  | sub => exact hm2
  | rem =>
    cases a with
    | none => exact sim_obs
    | some a => rw [okV] at hx; exact sim_mod F k a b hx
  | and =>
    cases a with
    | none => exact sim_obs
    | some a => rw [okV] at hx; exact sim_mod F k a (b + 1) hx
  | _ => cases a <;> exact sim_obs
theorem sim_binIP (F : Fit E f) {op : BinOp} (h1 : op ≠ .eql) (h2 : op ≠ .neq) {t : TypeId} {a : Option Addr} {k : IntKind} {b : Int} (hx : okV E n (.pointer a)) : Sim E f n (VQ E f) (binOp op t (.int k b) (.pointer a)) (binOp op t (.int k b) (.pointer (a.map (rA f)))) := by
  have hm2 := sim_movedNumber F (t := t) (y := .int k b) hx
  rw [rV, rV] at hm2
  cases op with
  | eql => exact absurd rfl h1
  | neq => exact absurd rfl h2
  | add => exact hm2
  | and =>
    cases a with
    | none => exact sim_obs
    | some a => rw [okV] at hx; exact sim_mod F k a (b + 1) hx
  | _ => cases a <;> exact sim_obs
theorem sim_binPP (F : Fit E f) (H : RtOk E) {op : BinOp} (h1 : op ≠ .eql) (h2 : op ≠ .neq) {t : TypeId} {a b : Option Addr} (hx : okV E n (.pointer a)) (hy : okV E n (.pointer b)) : Sim E f n (VQ E f) (binOp op t (.pointer a) (.pointer b)) (binOp op t (.pointer (a.map (rA f))) (.pointer (b.map (rA f)))) := by
  rw [okV] at hx hy
  cases op with
  | eql => exact absurd rfl h1
  | neq => exact absurd rfl h2
  | sub => cases a <;> cases b <;> first | exact sim_obs | exact sim_two F _ _ _ (sim_sub F H) hx hy
  | lss => cases a <;> cases b <;> first | exact sim_obs | exact sim_two F _ _ _ (sim_cmp F H .lss) hx hy
  | leq => cases a <;> cases b <;> first | exact sim_obs | exact sim_two F _ _ _ (sim_cmp F H .leq) hx hy
  | gtr => cases a <;> cases b <;> first | exact sim_obs | exact sim_two F _ _ _ (sim_cmp F H .gtr) hx hy
  | geq => cases a <;> cases b <;> first | exact sim_obs | exact sim_two F _ _ _ (sim_cmp F H .geq) hx hy
  | _ => cases a <;> cases b <;> exact sim_obs
theorem sim_binII (F : Fit E f) (H : RtOk E) {op : BinOp} {t : TypeId} {k k2 : IntKind} {a b : Int} : Sim E f n (VQ E f) (binOp op t (.int k a) (.int k2 b)) (binOp op t (.int k a) (.int k2 b)) := by
  have h1 : Sim E f n (VQ E f) (if k ≠ k2 then stuck "BinOp: operands of different kinds" else match op with | .add | .sub | .mul => Op.intArith op k a b | .quo | .rem => Op.intDiv op k a b | .and | .or | .xor | .andNot => Op.intBits op k a b | _ => Op.intCmp op a b)
    (if k ≠ k2 then stuck "BinOp: operands of different kinds" else match op with | .add | .sub | .mul => Op.intArith op k a b | .quo | .rem => Op.intDiv op k a b | .and | .or | .xor | .andNot => Op.intBits op k a b | _ => Op.intCmp op a b) := Sim.ite (fun _ => Sim.stuck) fun _ => sim_intOps F H
  cases op with
  | shl => exact sim_shift (op := .shl) (k := k) (yk := k2) (a := a) (b := b) F H
  | shr => exact sim_shift (op := .shr) (k := k) (yk := k2) (a := a) (b := b) F H
  | _ => exact h1
theorem sim_binOp (F : Fit E f) (H : RtOk E) {op : BinOp} {t : TypeId} {x y : Value} (hx : okV E n x) (hy : okV E n y) : Sim E f n (VQ E f) (binOp op t x y) (binOp op t (rV f x) (rV f y)) := by
  by_cases h1 : op = .eql
  · subst h1; exact sim_binEq F H hx hy
  by_cases h2 : op = .neq
  · subst h2; exact sim_binNe F H hx hy
  cases x with
  | float _ _ => rw [okV] at hx; exact hx.elim
  | complex _ _ _ => rw [okV] at hx; exact hx.elim
  | int k a =>
    cases y with
    | float _ _ => rw [okV] at hy; exact hy.elim
    | complex _ _ _ => rw [okV] at hy; exact hy.elim
    | int k2 b => rw [rV, rV]; exact sim_binII F H
    | pointer b => rw [rV, rV]; exact sim_binIP F h1 h2 hy
    | _ => cases op <;> first | exact Sim.stuck | exact absurd rfl h1 | exact absurd rfl h2
  | string a =>
    cases y with
    | float _ _ => rw [okV] at hy; exact hy.elim
    | complex _ _ _ => rw [okV] at hy; exact hy.elim
    | string b =>
      rw [rV, rV]
      have hs := sim_stringOp (E := E) (f := f) (n := n) (op := op) (x := a) (y := b)
      cases op <;> exact hs
    | pointer b => cases op <;> first | exact sim_obs | exact absurd rfl h1 | exact absurd rfl h2
    | _ => cases op <;> first | exact Sim.stuck | exact absurd rfl h1 | exact absurd rfl h2
  | pointer a =>
    cases y with
    | float _ _ => rw [okV] at hy; exact hy.elim
    | complex _ _ _ => rw [okV] at hy; exact hy.elim
    | int k2 b => rw [rV, rV]; exact sim_binPI F h1 h2 hx
    | pointer b => rw [rV, rV]; exact sim_binPP F H h1 h2 hx hy
    | _ => cases a <;> cases op <;> first | exact sim_obs | exact absurd rfl h1 | exact absurd rfl h2
  | _ =>
    cases y with
    | float _ _ => rw [okV] at hy; exact hy.elim
    | complex _ _ _ => rw [okV] at hy; exact hy.elim
    | pointer b => cases op <;> first | exact sim_obs | exact absurd rfl h1 | exact absurd rfl h2
    | _ => cases op <;> first | exact Sim.stuck | exact absurd rfl h1 | exact absurd rfl h2
end
end Go.Proofs.YtaablbmgagiajabGreatDoor.Ren
