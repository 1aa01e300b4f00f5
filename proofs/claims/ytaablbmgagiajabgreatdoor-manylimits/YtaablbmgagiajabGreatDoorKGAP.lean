import Derived.Test.YtaablbmgagiajabGreatDoorKGAO
import Derived.Conc.Listed
import Derived.Calls
import Derived.Conc.CrowdComm
import Derived.Conc.CrowdStepW
namespace Go.Proofs.YtaablbmgagiajabGreatDoor.Ren
open Go
section
variable {E : Env} {f : Nat → Nat} {n : Nat}
theorem run_holdsCells (P : Program) (a : Addr) (k : Nat) (w : World) (es : Array Event) : ∃ b, (Builtin.holdsCells a k).runT P w es = (.ok b w, es) := by
  unfold Builtin.holdsCells
  rw [runT_bindM, runT_shape]
  dsimp only
  cases w.shape? a.block with
  | none => exact ⟨_, rfl⟩
  | some p => exact ⟨_, rfl⟩
theorem run_mayShare (P : Program) (size l k : Nat) (base : Option Addr) (x : Value) (w : World) (es : Array Event) : ∃ b, (Builtin.mayShare size l k base x).runT P w es = (.ok b w, es) := by
  have tail : ∃ b, (match x with | .slice (some b) _ _ => (Builtin.holdsCells b (k * size) >>= fun h => Pure.pure (!h || base.any (·.block == b.block))) | _ => Pure.pure false : Sem Bool).runT P w es = (.ok b w, es) := by
    cases x with
    | slice a _ _ =>
      cases a with
      | none => exact ⟨_, rfl⟩
      | some b =>
        obtain ⟨h, hh⟩ := run_holdsCells P b (k * size) w es
        exact ⟨_, by rw [runT_bindM, hh]; rfl⟩
    | _ => exact ⟨_, rfl⟩
  unfold Builtin.mayShare
  cases base with
  | none => exact tail
  | some a =>
    obtain ⟨h, hh⟩ := run_holdsCells P a (l * size) w es
    dsimp only
    rw [runT_bindM, hh]
    dsimp only
    rw [runT_bindM, runT_frozen]
    dsimp only
    cases h with
    | false => exact ⟨true, rfl⟩
    | true =>
      cases w.frozen? (a.add (l / 2 * size)) with
      | true => exact ⟨true, rfl⟩
      | false => exact tail
theorem sim_lenOf {x : Value} : Sim E f n EQ (Builtin.lenOf x) (Builtin.lenOf (rV f x)) := by
  cases x with
  | slice a l c => rw [rV]; exact Sim.pure fun _ _ => rfl
  | string s => rw [rV]; exact Sim.pure fun _ _ => rfl
  | _ => exact Sim.stuck
theorem sim_firstCells (F : Fit E f) {size k : Nat} {x : Value} (hx : okV E n x) : Sim E f n (AQ E f) (Builtin.firstCells size k x) (Builtin.firstCells size k (rV f x)) := by
  cases x with
  | slice a l c =>
    rw [rV]
    rw [okV] at hx
    cases a with
    | none => exact Sim.pure fun _ _ => ⟨by simp, empty_ok⟩
    | some a => exact sim_loadCells F hx _
  | string s =>
    rw [rV]
    refine Sim.pure fun m _ => ?_
    obtain ⟨h1, h2⟩ := plain_row (E := E) (f := f) (n := m) (cs := (s.extract 0 k).data.map fun b => .int .u8 b.toNat) fun x hx => by
      obtain ⟨b, _, rfl⟩ := Array.mem_map.1 hx
      rfl
    exact ⟨h1.symm, h2⟩
  | _ => exact Sim.stuck
theorem zeroCells_fixed {zs : Array Value} (h1 : zs.map (rV f) = zs) (h2 : okAll E n zs) (k : Nat) : (Builtin.zeroCells zs k).map (rV f) = Builtin.zeroCells zs k ∧ okAll E n (Builtin.zeroCells zs k) := range_fixed h1 h2 (k * zs.size) (fun i => i % zs.size)
def sok (P : Program) (t : TypeId) : Bool := match P.underlying t with
  | some (.slice e) => zok P e
  | _ => true
theorem sok_of {P : Program} {t e : TypeId} (h : sok P t = true) (he : P.underlying t = some (.slice e)) : zok P e = true := by
  unfold sok at h
  rw [he] at h
  exact h
def aok (P : Program) (ts : Array TypeId) : Bool := (match ts[0]? with | some s => sok P s | none => true) && (match ts[1]? with
  | some t => match P.underlying t with
    | some (.int _) => false
    | _ => true
  | none => true)
theorem sim_append (F : Fit E f) (H : RtOk E) {ts : Array TypeId} {t : TypeId} {args : Array Value} (ha : okAll E n args) (hz : aok E.P ts = true) : Sim E f n (VQ E f) (Builtin.append_ ts t args) (Builtin.append_ ts t (args.map (rV f))) := by
  unfold Builtin.append_
  rw [Array.getElem?_map, Array.getElem?_map]
  unfold aok at hz
  rw [Bool.and_eq_true] at hz
  obtain ⟨hz1, hz2⟩ := hz
  cases h0 : ts[0]? with
  | none => exact Sim.stuck
  | some sT =>
    rw [h0] at hz1
    cases h1 : args[0]? with
    | none => exact Sim.stuck
    | some s =>
      cases h2 : args[1]? with
      | none => exact Sim.stuck
      | some x =>
        have hs := okAll_get ha h1
        have hx := okAll_get ha h2
        dsimp only [Option.map_some]
        refine sim_under fun d hd => ?_
        cases d with
        | slice elem =>
          have hze := sok_of hz1 hd
          cases s with
          | slice base sLen sCap =>
            rw [rV]
            dsimp only
            refine Sim.same (calm_sizeOf elem) fun size => ?_
            have hb : okA E n base := by rw [okV] at hs; exact hs
            have hb2 : ∀ {m}, n ≤ m → okA E m base := fun hm => okA_mono hb hm
            rcases h3 : ts[1]? with _ | xt
            rotate_left
            rw [h3] at hz2
            dsimp only at hz2 ⊢
            refine sim_under fun d3 hd3 => ?_
            rw [hd3] at hz2
            refine Sim.bind (Q := fun _ b b' => b' = b ∧ b = false) (Sim.pure fun _ _ => ⟨rfl, by cases d3 <;> first | rfl | cases hz2⟩) fun m0 z z' hm0 hz => ?_
            rotate_left
            dsimp only
            refine Sim.bind (Q := fun _ b b' => b' = b ∧ b = false) (Sim.pure fun _ _ => ⟨rfl, rfl⟩) fun m0 z z' hm0 hz => ?_
            all_goals
              obtain ⟨rfl, rfl⟩ := hz
              simp only [Bool.false_eq_true, if_false, Bool.not_false, if_true, false_or]
              refine sim_lenOf.bind fun m1 k k' hm1 hk => ?_
              obtain rfl := hk
              have hx1 := okV_mono (Nat.le_trans hm0 hm1) _ hx
              refine Sim.ite (fun _ => ?_) fun _ => ?_
              · refine (sim_firstCells F hx1).bind fun m2 cs cs' hm2 hcs => ?_
                obtain ⟨rfl, hcs⟩ := hcs
                cases base with
                | none => exact Sim.pure fun _ _ => ⟨by simp [rV], by rw [okV]; trivial⟩
                | some a =>
                  dsimp only [Option.map_some]
                  rw [Array.toList_map, rA_add]
                  have hA : E.A m2 a.block := Env.A.mono hb (by omega)
                  refine (sim_storeCells F cs.toList 0 m2 (by rw [block_add]; exact hA) fun v hv => hcs v (by simpa using hv)).bind fun m3 _ _ hm3 _ => ?_
                  exact Sim.pure fun m4 hm4 => ⟨by rw [rV]; rfl, by rw [okV]; exact Env.A.mono hb (by omega)⟩
              · refine sim_info fun i hi => ?_
                refine Sim.ite (fun _ => sim_panB F H) fun _ => ?_
                refine sim_info fun i2 hi2 => ?_
                refine Sim.ite (fun _ => ?_) fun _ => ?_
                · intro hl w _ _ _
                  refine Sim.bad fun v es hv => ?_
                  obtain ⟨b, hb3⟩ := run_mayShare E.P size sLen k' base x v es
                  cases b with
                  | false => exact ⟨.unsupported (.resourceLimit "append: a slice or a string whose bytes no memory bears"), v, _, trivial, by rw [bind_assoc, runT_bindM, hb3]; rfl⟩
                  | true => exact ⟨.unsupported (.resourceLimit "append: a slice or a string whose bytes no memory bears"), v, _, trivial, by rw [bind_assoc, runT_bindM, hb3]; rfl⟩
                · refine (Sim.choose _).bind fun m2 c c' hm2 hc => ?_
                  obtain rfl := hc
                  refine sim_info fun i3 hi3 => ?_
                  refine (sim_askRoom _).bind fun m3 _ _ hm3 _ => ?_
                  have ho := sim_firstCells F (size := size) (k := sLen) (okV_mono (show n ≤ m3 by omega) _ hs)
                  rw [rV] at ho
                  refine ho.bind fun m4 old old' hm4 hold => ?_
                  obtain ⟨rfl, hold⟩ := hold
                  refine (sim_firstCells F (okV_mono (by omega) _ hx1)).bind fun m5 cs cs' hm5 hcs => ?_
                  obtain ⟨rfl, hcs⟩ := hcs
                  refine (sim_zeroValue hze).bind fun m6 z z' hm6 hz => ?_
                  obtain ⟨rfl, hz⟩ := hz
                  obtain ⟨hz3, hz4⟩ := plain_cells (E := E) (f := f) (n := m6) hz
                  obtain ⟨hz5, hz6⟩ := zeroCells_fixed hz3 hz4 (c' - (sLen + k'))
                  have e := congrArg (fun zz => old.map (rV f) ++ cs.map (rV f) ++ zz) hz5
                  rw [← e, ← Array.map_append, ← Array.map_append]
                  refine sim_sliceOf (okAll_append (okAll_append (okAll_mono hold (by omega)) (okAll_mono hcs (by omega))) hz6) fun m7 a hm7 ha => ?_
                  exact Sim.pure fun m8 hm8 => ⟨by rw [rV]; rfl, by rw [okV]; exact .inl (ha.mono hm8)⟩
          | _ => exact Sim.stuck
        | _ => exact Sim.stuck
theorem vq_int (k : Nat) (m : Nat) : VQ E f m (goInt k) (goInt k) := ⟨by rw [goInt, rV], by rw [goInt, okV] <;> simp⟩
theorem sim_cap {ts : Array TypeId} {t : TypeId} {args : Array Value} (ha : okAll E n args) : Sim E f n (VQ E f) (Builtin.cap_ ts t args) (Builtin.cap_ ts t (args.map (rV f))) := by
  unfold Builtin.cap_
  rw [Array.getElem?_map]
  cases h0 : ts[0]? with
  | none => exact Sim.stuck
  | some sT =>
    cases h1 : args[0]? with
    | none => exact Sim.stuck
    | some x =>
      have hx := okAll_get ha h1
      dsimp only [Option.map_some]
      refine sim_under fun d hd => ?_
      cases d with
      | array k e => exact Sim.pure fun _ _ => vq_int _ _
      | pointer a =>
        refine sim_under fun d2 hd2 => ?_
        cases d2 with
        | array k e => exact Sim.pure fun _ _ => vq_int _ _
        | _ => exact Sim.stuck
      | slice e =>
        cases x with
        | slice a l c => rw [rV]; exact Sim.pure fun _ _ => vq_int _ _
        | _ => exact Sim.stuck
      | chan a b =>
        cases x with
        | chan r =>
          rw [okV] at hx
          subst hx
          rw [rV]
          exact Sim.pure fun _ _ => vq_int _ _
        | _ => exact Sim.stuck
      | _ => exact Sim.stuck
theorem sim_len {ts : Array TypeId} {t : TypeId} {args : Array Value} (ha : okAll E n args) : Sim E f n (VQ E f) (Builtin.len_ ts t args) (Builtin.len_ ts t (args.map (rV f))) := by
  unfold Builtin.len_
  rw [Array.getElem?_map]
  cases h0 : ts[0]? with
  | none => exact Sim.stuck
  | some sT =>
    cases h1 : args[0]? with
    | none => exact Sim.stuck
    | some x =>
      have hx := okAll_get ha h1
      dsimp only [Option.map_some]
      refine sim_under fun d hd => ?_
      cases d with
      | array k e => exact Sim.pure fun _ _ => vq_int _ _
      | pointer a =>
        refine sim_under fun d2 hd2 => ?_
        cases d2 with
        | array k e => exact Sim.pure fun _ _ => vq_int _ _
        | _ => exact Sim.stuck
      | slice e =>
        cases x with
        | slice a l c => rw [rV]; exact Sim.pure fun _ _ => vq_int _ _
        | _ => exact Sim.stuck
      | string =>
        cases x with
        | string s => rw [rV]; exact Sim.pure fun _ _ => vq_int _ _
        | _ => exact Sim.stuck
      | map a b =>
        cases x with
        | map r =>
          rw [okV] at hx
          rw [rV]
          cases r with
          | none => exact Sim.pure fun _ _ => vq_int _ _
          | some r =>
            refine Sim.getObj (.inl (hx r rfl)) (fun m o _ _ ho => ?_) fun hO c e t => Sim.stuck
            cases o with
            | map es k =>
              show Sim E f m (VQ E f) (Pure.pure (goInt es.size)) (Pure.pure (goInt (es.map (rE f)).size))
              rw [Array.size_map]
              exact Sim.pure fun _ _ => vq_int _ _
            | _ => exact Sim.stuck
        | _ => exact Sim.stuck
      | chan a b =>
        cases x with
        | chan r =>
          rw [okV] at hx
          subst hx
          rw [rV]
          exact Sim.pure fun _ _ => vq_int _ _
        | _ => exact Sim.stuck
      | _ => exact Sim.stuck
theorem sim_copy (F : Fit E f) {ts : Array TypeId} {t : TypeId} {args : Array Value} (ha : okAll E n args) : Sim E f n (VQ E f) (Builtin.copy_ ts t args) (Builtin.copy_ ts t (args.map (rV f))) := by
  unfold Builtin.copy_
  rw [Array.getElem?_map, Array.getElem?_map]
  cases h0 : ts[0]? with
  | none => exact Sim.stuck
  | some sT =>
    cases h1 : args[0]? with
    | none => exact Sim.stuck
    | some s =>
      cases h2 : args[1]? with
      | none => exact Sim.stuck
      | some x =>
        have hs := okAll_get ha h1
        have hx := okAll_get ha h2
        dsimp only [Option.map_some]
        refine sim_under fun d hd => ?_
        cases d with
        | slice elem =>
          cases s with
          | slice base dLen dCap =>
            rw [rV]
            rw [okV] at hs
            dsimp only
            refine sim_lenOf.bind fun m1 k k' hm1 hk => ?_
            obtain rfl := hk
            refine Sim.same (calm_sizeOf elem) fun size => ?_
            refine (sim_firstCells F (okV_mono hm1 _ hx)).bind fun m2 cs cs' hm2 hcs => ?_
            obtain ⟨rfl, hcs⟩ := hcs
            cases base with
            | none => exact Sim.pure fun _ _ => vq_int _ _
            | some a =>
              dsimp only [Option.map_some]
              rw [Array.toList_map]
              refine (sim_storeCells F cs.toList 0 m2 (Env.A.mono hs (by omega)) fun v hv => hcs v (by simpa using hv)).bind fun m3 _ _ hm3 _ => ?_
              exact Sim.pure fun _ _ => vq_int _ _
          | _ => exact Sim.stuck
        | _ => exact Sim.stuck
theorem vq_undef (m : Nat) : VQ E f m (.tuple #[]) (.tuple #[]) := ⟨(undef_rV f).symm, undef_ok E m⟩
theorem sim_clear (F : Fit E f) {ts : Array TypeId} {t : TypeId} {args : Array Value} (ha : okAll E n args) (hz : ∀ s, ts[0]? = some s → sok E.P s = true) : Sim E f n (VQ E f) (Builtin.clear_ ts t args) (Builtin.clear_ ts t (args.map (rV f))) := by
  unfold Builtin.clear_
  rw [Array.getElem?_map]
  cases h0 : ts[0]? with
  | none => exact Sim.stuck
  | some sT =>
    have hz := hz sT h0
    cases h1 : args[0]? with
    | none => exact Sim.stuck
    | some x =>
      have hx := okAll_get ha h1
      dsimp only [Option.map_some]
      refine sim_under fun d hd => ?_
      cases x with
      | map r =>
        rw [okV] at hx
        rw [rV]
        cases r with
        | none => exact Sim.pure fun _ _ => vq_undef _
        | some r =>
          refine Sim.getObj (.inl (hx r rfl)) (fun m o hm hI ho => ?_) fun hO c e t => Sim.stuckB
          cases o with
          | map es k =>
            have h5 : Sim E f m EQ (setObj r (.map #[] k)) (setObj (f r) (.map #[] k)) := by
              have h6 := Sim.setObj F hI (o := .map #[] k) (fun e he => by simp at he)
              rwa [show rO f (.map #[] k) = .map #[] k by simp [rO]] at h6
            exact h5.bind fun _ _ _ _ _ => Sim.pure fun _ _ => vq_undef _
          | _ => exact Sim.stuckB
      | slice a l c =>
        rw [okV] at hx
        rw [rV]
        cases a with
        | none => exact Sim.pure fun _ _ => vq_undef _
        | some a =>
          cases l with
          | zero => exact Sim.pure fun _ _ => vq_undef _
          | succ l =>
            cases d with
            | slice elem =>
              refine (sim_zeroValue (sok_of hz hd)).bind fun m6 z z' hm6 hz => ?_
              obtain ⟨rfl, hz⟩ := hz
              obtain ⟨hz3, hz4⟩ := plain_cells (E := E) (f := f) (n := m6) hz
              obtain ⟨hz5, hz6⟩ := zeroCells_fixed hz3 hz4 (l + 1)
              have e : (Builtin.zeroCells z'.cells (l + 1)).toList = (Builtin.zeroCells z'.cells (l + 1)).toList.map (rV f) := by
                conv => lhs; rw [← hz5]
                rw [Array.toList_map]
              have h5 := sim_storeCells (f := f) F (a := a) (Builtin.zeroCells z'.cells (l + 1)).toList 0 m6 (Env.A.mono hx hm6) fun v hv => hz6 v (by simpa using hv)
              rw [← e] at h5
              exact h5.bind fun _ _ _ _ _ => Sim.pure fun _ _ => vq_undef _
            | _ => exact Sim.stuckB
      | _ => exact Sim.stuckB
theorem sim_max2 {a b : Value} (ha : okV E n a) : Sim E f n (VQ E f) (Builtin.max2 a b) (Builtin.max2 (rV f a) (rV f b)) := by
  cases a with
  | int k x =>
    rw [rV]
    cases b with
    | int k2 y => rw [rV]; exact Sim.pure fun _ _ => ⟨by rw [rV], by rw [okV] <;> simp⟩
    | pointer a => cases a <;> first | exact Sim.stuck | exact Sim.unsupported (by simp)
    | _ => exact Sim.stuck
  | float _ _ => rw [okV] at ha; exact ha.elim
  | string x =>
    rw [rV]
    cases b with
    | string y =>
      rw [rV]
      unfold Builtin.max2
      refine (sim_stringOp (op := .geq) (x := x) (y := y)).bind fun m v v' _ hv => ?_
      obtain ⟨rfl, hv⟩ := hv
      refine sim_asBool.bind fun m b b' _ hb => ?_
      obtain rfl := hb
      exact Sim.pure fun _ _ => ⟨by rw [rV], by rw [okV] <;> simp⟩
    | pointer a => cases a <;> first | exact Sim.stuck | exact Sim.unsupported (by simp)
    | _ => exact Sim.stuck
  | pointer a =>
    cases a with
    | none =>
      cases b with
      | pointer a => cases a <;> first | exact Sim.stuck | exact Sim.unsupported (by simp)
      | _ => exact Sim.stuck
    | some a => cases b <;> exact Sim.unsupported (by simp)
  | _ =>
    cases b with
    | pointer a => cases a <;> first | exact Sim.stuck | exact Sim.unsupported (by simp)
    | _ => exact Sim.stuck
theorem sim_maxs : ∀ (l : List Value) (n : Nat) (a : Value), okV E n a → (∀ v ∈ l, okV E n v) → Sim E f n (VQ E f) (l.foldlM Builtin.max2 a) ((l.map (rV f)).foldlM Builtin.max2 (rV f a))
  | [], n, a, ha, _ => Sim.pure fun _ hm => ⟨rfl, okV_mono hm _ ha⟩
  | b :: l, n, a, ha, hl => by
    rw [List.map_cons, List.foldlM_cons, List.foldlM_cons]
    refine (sim_max2 ha).bind fun m v v' hm hv => ?_
    obtain ⟨rfl, hv⟩ := hv
    exact sim_maxs l m v hv fun x hx => okV_mono hm _ (hl x (.tail _ hx))
theorem sim_max {ts : Array TypeId} {t : TypeId} {args : Array Value} (ha : okAll E n args) : Sim E f n (VQ E f) (Builtin.max_ ts t args) (Builtin.max_ ts t (args.map (rV f))) := by
  unfold Builtin.max_
  rw [Array.toList_map]
  have hl : ∀ v ∈ args.toList, okV E n v := fun v hv => ha v (by simpa using hv)
  cases h : args.toList with
  | nil => exact Sim.stuck
  | cons x l =>
    rw [h] at hl
    exact sim_maxs l n x (hl x (.head _)) fun v hv => hl v (.tail _ hv)
theorem sim_loadO {α : Type} {Q : Nat → α → α → Prop} {a : Addr} (hO : E.O a.block) {g : Value → Sem α} {t : Sem α} : Sim E f n Q (load a >>= g) t := by
  intro hl w hr hn hos
  obtain ⟨c, e, c', h1, _⟩ := hr.op a.block hO
  refine Sim.bad fun v es hv' => ?_
  subst hv'
  refine ⟨.unsupported (.initOrder a.block), v, es, hO, ?_⟩
  rw [runT_bindM, runT_load, cell_other h1 rfl]
  simp only [World.farLoad, World.noCell, h1]
theorem sim_loadBytes (F : Fit E f) : ∀ (k n : Nat) (a : Addr) (acc : ByteArray), E.A n a.block → Sim E f n (fun m b b' => b' = b ∧ (k ≠ 0 → E.I m a.block)) (Go.loadBytes a acc k) (Go.loadBytes (rA f a) acc k)
  | 0, n, a, acc, hA => Sim.pure fun _ _ => ⟨rfl, fun h => absurd rfl h⟩
  | k + 1, n, a, acc, hA => by
    unfold Go.loadBytes
    rcases Classical.em (E.O a.block) with hO | hO
    · exact sim_loadO hO
    refine (Sim.load F hA).bind fun m v v' hm hv => ?_
    obtain ⟨⟨rfl, hv⟩, hro⟩ := hv
    cases v with
    | int kk b =>
      rw [rV]
      cases kk with
      | u8 =>
        rw [rA_add]
        refine (sim_loadBytes F k m (a.add 1) _ (by rw [block_add]; exact hA.mono hm)).mono (Nat.le_refl _) fun m2 _ _ hm2 hq => ⟨hq.1, fun _ => ?_⟩
        rcases hA with h | h | h
        · exact h.mono (Nat.le_trans hm hm2)
        · exact (hro h).elim
        · exact absurd h hO
      | _ => exact Sim.stuck
    | _ => exact Sim.stuck
theorem sim_unsafeString (F : Fit E f) (H : RtOk E) {ts : Array TypeId} {t : TypeId} {args : Array Value} (ha : okAll E n args) : Sim E f n (VQ E f) (Builtin.unsafeString_ ts t args) (Builtin.unsafeString_ ts t (args.map (rV f))) := by
  obtain ⟨l⟩ := args
  match l with
  | [] => exact Sim.stuck
  | [_] => exact Sim.stuck
  | _ :: _ :: _ :: _ => exact Sim.stuck
  | [x, y] =>
    have hx : okV E n x := ha x (by simp)
    rw [List.map_toArray, List.map_cons, List.map_cons, List.map_nil]
    cases x with
    | pointer a =>
      rw [okV] at hx
      rw [rV]
      unfold Builtin.unsafeString_
      dsimp only
      refine sim_asInt.bind fun m k k' hm hk => ?_
      obtain rfl := hk
      cases ts[0]? with
      | none => exact Sim.stuck
      | some pt =>
        dsimp only
        refine Sim.ite (fun _ => sim_panB F H) fun _ => ?_
        refine Sim.ite (fun _ => Sim.unsB (by simp)) fun _ => ?_
        cases a with
        | none =>
          refine Sim.ite (fun _ => Sim.pure fun _ _ => vq_plain rfl) fun _ => sim_runtimePanic F H _
        | some a =>
          dsimp only [Option.map_some]
          refine Sim.ite (fun _ => Sim.pure fun _ _ => vq_plain rfl) fun hk => ?_
          refine Sim.same (calm_elemOf pt) fun e => ?_
          have hA : E.A m a.block := Env.A.mono hx hm
          refine (sim_variablesAt F hA e _).bind fun m2 b b' hm2 hb => ?_
          rcases hb with rfl | ⟨_, rfl⟩
          · cases b' with
            | false => exact Sim.unsupported (by simp)
            | true =>
              refine (sim_loadBytes F k'.toNat m2 a _ (hA.mono hm2)).bind fun m3 s s' hm3 hs => ?_
              obtain ⟨rfl, hs⟩ := hs
              have hI := hs (by omega)
              refine (Sim.freeze F hI).bind fun _ _ _ _ _ => Sim.pure fun _ _ => vq_plain rfl
          · exact Sim.unsupported (by simp)
    | _ => exact Sim.stuck
def dok (E : Env) (t : TypeId) : Bool := match E.P.underlying t with
  | some (.pointer e) => E.V e
  | _ => true
theorem sim_unsafeSliceData (F : Fit E f) {ts : Array TypeId} {t : TypeId} {args : Array Value} (ha : okAll E n args) (hV : dok E t = true) : Sim E f n (VQ E f) (Builtin.unsafeSliceData_ ts t args) (Builtin.unsafeSliceData_ ts t (args.map (rV f))) := by
  obtain ⟨l⟩ := args
  match l with
  | [] => exact Sim.stuck
  | _ :: _ :: _ => exact Sim.stuck
  | [x] =>
    have hx : okV E n x := ha x (by simp)
    rw [List.map_toArray, List.map_cons, List.map_nil]
    cases x with
    | slice a l c =>
      rw [okV] at hx
      rw [rV]
      cases a with
      | none => exact Sim.pure fun _ _ => vq_plain rfl
      | some a =>
        dsimp only [Option.map_some]
        unfold Builtin.unsafeSliceData_
        refine Sim.ite (fun _ => Sim.pure fun _ hm => vq_ptr (Env.A.mono hx hm)) fun _ => ?_
        refine (sim_viewAt F hx).bind fun m v v' hm hq => ?_
        obtain ⟨rfl, hv⟩ := hq
        cases v with
        | some p => exact Sim.pure fun _ hm2 => vq_ptr (Env.A.mono hx (Nat.le_trans hm hm2))
        | none =>
          unfold elemOf
          simp only [bind_assoc, Option.map_none, Option.isSome_none, Bool.false_eq_true, if_false]
          refine sim_under fun d hd => ?_
          unfold dok at hV
          rw [hd] at hV
          cases d with
          | pointer e => exact sim_newView (Env.A.mono hx hm) hV
          | _ => exact Sim.stuckB
    | _ => exact Sim.stuck
end
def NQ (E : Env) (f : Nat → Nat) (m : Nat) : Next → Next → Prop
  | .value v, x => x = .value (rV f v) ∧ okV E m v
  | .skip, x => x = .skip
  | .enter g args, x => x = .enter g (args.map (rV f)) ∧ E.T g = true ∧ okAll E m args
  | .round l g tmps a b, x => x = .round (f l) g (tmps.map (rV f)) a b ∧ E.I m l ∧ E.T g = true ∧ okAll E m tmps ∧ E.C a = true ∧ E.C b = true
  | .defer d, x => x = .defer (rD f d) ∧ okD E m d
  | .recover, x => x = .recover
  | _, _ => False
section
variable {E : Env} {f : Nat → Nat} {n : Nat}
theorem sim_value {s s' : Sem Value} (h : Sim E f n (VQ E f) s s') : Sim E f n (NQ E f) (s >>= fun x => Pure.pure (.value x)) (s' >>= fun x => Pure.pure (.value x)) :=
  h.bind fun m v v' _ hq => Sim.pure fun k hk => ⟨by rw [hq.1], okV_mono hk _ hq.2⟩
theorem sim_skip {α : Type} {Q : Nat → α → α → Prop} {s s' : Sem α} (h : Sim E f n Q s s') : Sim E f n (NQ E f) (s >>= fun _ => Pure.pure .skip) (s' >>= fun _ => Pure.pure .skip) :=
  h.bind fun _ _ _ _ _ => Sim.pure fun _ _ => rfl
def LQ (E : Env) (f : Nat → Nat) (m : Nat) (l l' : Loop) : Prop := l' = rL f l ∧ okL E m l
theorem okL_mono {m : Nat} (hm : n ≤ m) {l : Loop} (h : okL E n l) : okL E m l := okO_mono (o := .loop l) h hm
theorem sim_getLoop {l : Nat} (hI : E.I n l) : Sim E f n (LQ E f) (Instr.getLoop l) (Instr.getLoop (f l)) := by
  unfold Instr.getLoop
  refine Sim.getObj (.inl hI) (fun m o hm _ ho => ?_) fun _ _ _ _ => Sim.stuck
  cases o with
  | loop l => exact Sim.pure fun k hk => ⟨rfl, okL_mono hk ho⟩
  | _ => exact Sim.stuck
def EnQ (E : Env) (f : Nat → Nat) (m : Nat) (x x' : Nat × List Deferred) : Prop := x' = (f x.1, x.2.map (rD f)) ∧ E.I m x.1 ∧ ∀ d ∈ x.2, okD E m d
theorem sim_enterLoop {fn : FuncId} {tmps : Array Value} {params : Array Tmp} {assign body : Code} {around : Option Nat} (hT : E.T fn = true) (ht : okAll E n tmps) (hC : E.C assign = true) (hD : E.C body = true) (ha : ∀ l, around = some l → E.I n l) :
    Sim E f n (EnQ E f) (Instr.enterLoop fn tmps params assign body around) (Instr.enterLoop fn (tmps.map (rV f)) params assign body (around.map f)) := by
  unfold Instr.enterLoop
  have fin : ∀ m d mk, n ≤ m → E.I m d → (∀ x ∈ mk, okD E m x) → Sim E f m (EnQ E f) (newObj (.loop { state := .ready, pending := none, fn, tmps, params, assign, body, defers := d }) >>= fun r => Pure.pure (r, mk)) (newObj (.loop { state := .ready, pending := none, fn, tmps := tmps.map (rV f), params, assign, body, defers := f d }) >>= fun r => Pure.pure (r, mk.map (rD f))) := fun m d mk hm hd hk => by
    refine (Sim.newObj (o := .loop { state := .ready, pending := none, fn, tmps, params, assign, body, defers := d }) ⟨hT, okAll_mono ht hm, hC, hD, hd, fun c hc => by cases hc⟩).bind fun m2 r r' hm2 hr => ?_
    obtain ⟨rfl, hI⟩ := hr
    exact Sim.pure fun k hk2 => ⟨rfl, hI.mono hk2, fun x hx => okD_mono (hk x hx) (Nat.le_trans hm2 hk2)⟩
  cases around with
  | some l =>
    dsimp only [Option.map_some]
    refine (sim_getLoop (ha l rfl)).bind fun m r r' hm hr => ?_
    obtain ⟨rfl, hr⟩ := hr
    exact fin m r.defers [] hm hr.2.2.2.2.1 fun x hx => by cases hx
  | none =>
    dsimp only [Option.map_none]
    refine (Sim.newObj (o := .deferred (some [])) fun l hl d hd => by cases hl; cases hd).bind fun m r r' hm hr => ?_
    obtain ⟨rfl, hI⟩ := hr
    have h9 := fin m r [{ target := .collected r, args := #[] }] hm hI fun x hx => by
      cases hx with
      | head => exact ⟨hI, empty_ok⟩
      | tail _ h => cases h
    rw [show [({ target := .collected r, args := #[] } : Deferred)].map (rD f) = [{ target := .collected (f r), args := #[] }] by simp [rD, rT]] at h9
    exact h9
theorem foldl_zip (f : Nat → Nat) : ∀ (l : List (Tmp × Value)) (cs : Array Value), (l.map fun p => (p.1, rV f p.2)).foldl (fun cs p => cs.setIfInBounds p.1 p.2) (cs.map (rV f)) = (l.foldl (fun cs p => cs.setIfInBounds p.1 p.2) cs).map (rV f)
  | [], _ => rfl
  | p :: l, cs => by
    rw [List.map_cons, List.foldl_cons, List.foldl_cons, ← foldl_zip f l]
    congr 1
    apply Array.ext'
    simp [Array.toList_setIfInBounds]
theorem foldl_zip_ok : ∀ (l : List (Tmp × Value)) (cs : Array Value), okAll E n cs → (∀ p ∈ l, okV E n p.2) → okAll E n (l.foldl (fun cs p => cs.setIfInBounds p.1 p.2) cs)
  | [], _, h, _ => h
  | p :: l, _, h, hl => foldl_zip_ok l _ (okAll_set h (hl p (.head _)) _) fun q hq => hl q (.tail _ hq)
theorem sim_yield {l : Nat} {args : Array Value} (hI : E.I n l) (ha : okAll E n args) : Sim E f n (NQ E f) (Instr.yield l args) (Instr.yield (f l) (args.map (rV f))) := by
  unfold Instr.yield
  refine (sim_getLoop hI).bind fun m r r' hm hr => ?_
  obtain ⟨rfl, hr⟩ := hr
  rw [Array.size_map]
  refine Sim.ite (fun _ => Sim.stuckB) fun _ => ?_
  refine Sim.pure fun k hk => ?_
  refine ⟨?_, hI.mono (Nat.le_trans hm hk), hr.1, ?_, hr.2.2.1, hr.2.2.2.1⟩
  · congr 1
    rw [← Array.foldl_toList, ← Array.foldl_toList, Array.toList_zip, Array.toList_zip, Array.toList_map, List.zip_map_right]
    exact foldl_zip f _ _
  · rw [← Array.foldl_toList, Array.toList_zip]
    refine foldl_zip_ok _ _ (okAll_mono hr.2.1 hk) fun p hp => ?_
    exact okV_mono (Nat.le_trans hm hk) _ (ha p.2 (by simpa using (List.of_mem_zip hp).2))
theorem sim_setLoop (F : Fit E f) {l : Nat} {r : Loop} (hI : E.I n l) (hr : okL E n r) : Sim E f n EQ (setObj l (.loop r)) (setObj (f l) (.loop (rL f r))) := Sim.setObj F hI (o := .loop r) hr
theorem sim_beginRound (F : Fit E f) (H : RtOk E) {l : Nat} (hI : E.I n l) : Sim E f n EQ (Instr.beginRound l) (Instr.beginRound (f l)) := by
  unfold Instr.beginRound
  refine (sim_getLoop hI).bind fun m r r' hm hr => ?_
  obtain ⟨rfl, hr⟩ := hr
  refine (sim_setLoop F (r := { r with state := .busy }) (hI.mono hm) hr).bind fun _ _ _ _ _ => ?_
  show Sim E f _ EQ (match r.state with | .ready => _ | .done => _ | .busy => _ | .exhausted => _) (match r.state with | .ready => _ | .done => _ | .busy => _ | .exhausted => _)
  cases r.state with
  | ready => exact Sim.pure fun _ _ => rfl
  | _ => exact sim_runtimePanic F H _
theorem sim_endRound (F : Fit E f) {l : Nat} {jump : Option Code} (hI : E.I n l) (hj : ∀ c, jump = some c → E.C c = true) : Sim E f n (VQ E f) (Instr.endRound l jump) (Instr.endRound (f l) jump) := by
  unfold Instr.endRound
  refine (sim_getLoop hI).bind fun m r r' hm hr => ?_
  obtain ⟨rfl, hr⟩ := hr
  refine (sim_setLoop F (r := { r with state := if jump.isNone then .ready else .done, pending := jump }) (hI.mono hm) ⟨hr.1, hr.2.1, hr.2.2.1, hr.2.2.2.1, hr.2.2.2.2.1, hj⟩).bind fun _ _ _ _ _ => ?_
  exact Sim.pure fun _ _ => vq_plain rfl
theorem sim_endLoop (F : Fit E f) (H : RtOk E) {l : Nat} (hI : E.I n l) : Sim E f n (fun _ x x' => x' = x ∧ ∀ c, x = some c → E.C c = true) (Instr.endLoop l) (Instr.endLoop (f l)) := by
  unfold Instr.endLoop
  refine (sim_getLoop hI).bind fun m r r' hm hr => ?_
  obtain ⟨rfl, hr⟩ := hr
  show Sim E f _ _ (if (r.state == .busy) = true then _ else _) (if (r.state == .busy) = true then _ else _)
  refine Sim.ite (fun _ => sim_panB F H) fun _ => ?_
  refine (sim_setLoop F (r := { r with state := .exhausted }) (hI.mono hm) hr).bind fun _ _ _ _ _ => ?_
  exact Sim.pure fun _ _ => ⟨rfl, hr.2.2.2.2.2⟩
theorem sim_takeDeferred (F : Fit E f) {b : Nat} (hI : E.I n b) : Sim E f n (fun m x x' => x' = x.map (rD f) ∧ ∀ d ∈ x, okD E m d) (Instr.takeDeferred b) (Instr.takeDeferred (f b)) := by
  unfold Instr.takeDeferred
  refine Sim.getObj (.inl hI) (fun m o hm hI ho => ?_) fun _ _ _ _ => Sim.stuck
  cases o with
  | deferred ds =>
    cases ds with
    | none => exact Sim.stuck
    | some ds =>
      have h5 : Sim E f m EQ (setObj b (.deferred none)) (setObj (f b) (.deferred none)) := Sim.setObj F hI (o := .deferred none) fun l hl => by cases hl
      refine h5.bind fun m2 _ _ hm2 _ => Sim.pure fun k hk => ⟨rfl, fun d hd => okD_mono (ho ds rfl d hd) (Nat.le_trans hm2 hk)⟩
  | _ => exact Sim.stuck
end
def mokB (E : Env) (t : TypeId) (name : String) : Bool := match E.P.info? t with
  | some i => match i.methods.find? (·.name == name) with
    | some m => m.path.all (fun s => !s.deref) && (match m.func with
      | some (g, p) => E.T g && (p || (m.path.isEmpty && (match E.P.underlying t with | some (.pointer _) => false | _ => true)))
      | none => false)
    | none => true
  | none => true
structure CallOk (E : Env) (M : String → Bool) : Prop where
  body : ∀ g fn, E.T g = true → E.P.funcs[g]? = some fn → fn.body.isNone = false → (fn.name == "runtime.NumGoroutine") = false
  ext : ∀ g fn, E.T g = true → E.P.funcs[g]? = some fn → fn.body.isNone = true → ∀ (f : Nat → Nat) (n : Nat) (args : Array Value), Fit E f → okAll E n args → Sim E f n (NQ E f) (callFunc g args) (callFunc g (args.map (rV f)))
  meth : ∀ t name, E.K t = true → M name = true → mokB E t name = true
def okB (E : Env) (b : Builtin) (ts : Array TypeId) (t : TypeId) : Bool := match b with
  | .append => aok E.P ts
  | .clear => (match ts[0]? with | some s => sok E.P s | none => true)
  | .unsafeSliceData => dok E t
  | .cap | .copy | .len | .max | .recover | .unsafeString => true
  | _ => false
section
variable {E : Env} {f : Nat → Nat} {n : Nat} {M : String → Bool}
theorem sim_builtin (F : Fit E f) (H : RtOk E) {b : Builtin} {ts : Array TypeId} {t : TypeId} {cs : Array Bool} {args : Array Value} (hb : okB E b ts t = true) (ha : okAll E n args) : Sim E f n (NQ E f) (builtin b ts t cs args) (builtin b ts t cs (args.map (rV f))) := by
  cases b with
  | append => exact sim_value (sim_append F H ha hb)
  | clear => exact sim_value (sim_clear F ha fun s hs => by
      unfold okB at hb
      rw [hs] at hb
      exact hb)
  | unsafeSliceData => exact sim_value (sim_unsafeSliceData F ha hb)
  | cap => exact sim_value (sim_cap ha)
  | copy => exact sim_value (sim_copy F ha)
  | len => exact sim_value (sim_len ha)
  | max => exact sim_value (sim_max ha)
  | unsafeString => exact sim_value (sim_unsafeString F H ha)
  | recover => exact Sim.pure fun _ _ => rfl
  | _ => cases hb
theorem sim_callFunc (F : Fit E f) (X : CallOk E M) {g : FuncId} {args : Array Value} (hT : E.T g = true) (ha : okAll E n args) : Sim E f n (NQ E f) (callFunc g args) (callFunc g (args.map (rV f))) := by
  cases hf : E.P.funcs[g]? with
  | none =>
    unfold callFunc
    refine Sim.program ?_
    rw [hf]
    exact Sim.stuck
  | some fn =>
    cases hb : fn.body.isNone with
    | true => exact X.ext g fn hT hf hb f n args F ha
    | false =>
      unfold callFunc
      refine Sim.program ?_
      rw [hf]
      dsimp only
      rw [X.body g fn hT hf hb, hb]
      exact Sim.pure fun m hm => ⟨rfl, hT, okAll_mono ha hm⟩
def FollowQ (E : Env) (f : Nat → Nat) (m : Nat) (x x' : TypeId × Place) : Prop := ∃ t v, x = (t, .val v) ∧ x' = (t, .val (rV f v)) ∧ okV E m v
theorem sim_follow : ∀ (l : List FieldStep) (t : TypeId) (v : Value) (n : Nat), okV E n v → (l.all (fun s => !s.deref)) = true → Sim E f n (FollowQ E f) (follow l t (.val v)) (follow l t (.val (rV f v)))
  | [], t, v, n, hv, _ => Sim.pure fun m hm => ⟨t, v, rfl, rfl, okV_mono hm _ hv⟩
  | s :: l, t, v, n, hv, hl => by
    rw [List.all_cons, Bool.and_eq_true] at hl
    obtain ⟨hs, hl⟩ := hl
    have hs : s.deref = false := by simpa using hs
    unfold follow
    refine sim_under fun d hd => ?_
    cases d with
    | struct fs =>
      dsimp only
      cases fs[s.index]? with
      | none => exact Sim.stuck
      | some fl =>
        dsimp only
        rw [hs]
        simp only [Bool.false_eq_true, if_false]
        cases v with
        | agg cs =>
          rw [rV]
          rw [okV] at hv
          dsimp only
          refine (sim_part (f := f) hv fl.type fl.offset).bind fun m x x' hm hx => ?_
          obtain ⟨rfl, hx⟩ := hx
          exact sim_follow l fl.type x m hx hl
        | _ => exact Sim.stuck
    | _ => exact Sim.stuck
theorem sim_method (X : CallOk E M) {k : Nat} {t : TypeId} {v : Value} {name : String} (hK : E.K t = true) (hM : M name = true) (hv : okV E n v) : Sim E f n (fun m x x' => x' = (x.1, rV f x.2) ∧ E.T x.1 = true ∧ okV E m x.2) (method k t v name) (method k t (rV f v) name) := by
  cases k with
  | zero => exact Sim.unsupported (by simp)
  | succ k =>
    have hm := X.meth t name hK hM
    unfold method
    refine sim_info fun i hi => ?_
    unfold mokB at hm
    rw [hi] at hm
    dsimp only at hm
    cases hfi : i.methods.find? (·.name == name) with
    | none => exact Sim.stuck
    | some m =>
      rw [hfi] at hm
      dsimp only at hm ⊢
      rw [Bool.and_eq_true] at hm
      obtain ⟨h1, h2⟩ := hm
      cases hfn : m.func with
      | none => rw [hfn] at h2; cases h2
      | some gp =>
        obtain ⟨g, p⟩ := gp
        rw [hfn] at h2
        dsimp only at h2 ⊢
        rw [Bool.and_eq_true] at h2
        obtain ⟨hT, h2⟩ := h2
        cases p with
        | true =>
          refine (sim_follow m.path.toList t v n hv (by rw [← h1]; simp)).bind fun n2 x x' hn hx => ?_
          obtain ⟨xt, y, rfl, rfl, hy⟩ := hx
          dsimp only
          unfold receiverAt
          rw [bind_assoc, bind_assoc]
          refine sim_under fun d hd => ?_
          cases d with
          | pointer e => exact Sim.pure fun k hk => ⟨rfl, hT, okV_mono hk _ hy⟩
          | _ => exact Sim.stuckB
        | false =>
          rw [Bool.false_or, Bool.and_eq_true] at h2
          obtain ⟨h3, h4⟩ := h2
          have h5 : m.path.toList = [] := by
            rw [Array.isEmpty_iff] at h3
            rw [h3]
          rw [h5]
          show Sim E f n _ (receiverAt t (.val v) false _ >>= _) (receiverAt t (.val (rV f v)) false _ >>= _)
          unfold receiverAt
          rw [bind_assoc, bind_assoc]
          refine sim_under fun d hd => ?_
          rw [hd] at h4
          cases d with
          | pointer e => cases h4
          | _ => exact Sim.pure fun k hk => ⟨rfl, hT, okV_mono hk _ hv⟩
theorem sim_callMethod (F : Fit E f) (H : RtOk E) (X : CallOk E M) {recv : Value} {name : String} {args : Array Value} (hM : M name = true) (hr : okV E n recv) (ha : okAll E n args) : Sim E f n (NQ E f) (callMethod recv name args) (callMethod (rV f recv) name (args.map (rV f))) := by
  cases recv with
  | iface t v =>
    rw [rV]
    rw [okV] at hr
    unfold callMethod
    refine Sim.program ?_
    refine (sim_method X hr.1 hM hr.2).bind fun m x x' hm hx => ?_
    obtain ⟨rfl, h1, h2⟩ := hx
    have := sim_callFunc (n := m) F X (args := #[x.2] ++ args) h1 (okAll_append (fun y hy => by simp at hy; rw [hy]; exact h2) (okAll_mono ha hm))
    rw [Array.map_append] at this
    simpa using this
  | nilIface =>
    rw [rV]
    show Sim E f n _ (runtimePanic .nilDeref) (runtimePanic .nilDeref)
    exact sim_runtimePanic F H _
  | _ => exact Sim.stuck
theorem sim_invokeD (F : Fit E f) (H : RtOk E) (X : CallOk E M) {d : Deferred} (hd : okD E n d) : Sim E f n (NQ E f) (invoke d.target d.args) (invoke (rD f d).target (rD f d).args) := by
  obtain ⟨t, args⟩ := d
  obtain ⟨h1, h2⟩ := hd
  dsimp only [rD] at *
  cases t with
  | nil =>
    show Sim E f n _ (runtimePanic .nilDeref) (runtimePanic .nilDeref)
    exact sim_runtimePanic F H _
  | builtin b ts t cs => exact sim_builtin F H (by rcases h1 with rfl | rfl <;> rfl) h2
  | fn g c =>
    cases g with
    | func g =>
      have := sim_callFunc (n := n) F X (args := args ++ c) h1.1 (okAll_append h2 h1.2)
      rw [Array.map_append] at this
      exact this
    | yield l => exact sim_yield h1.1 h2
    | _ => exact h1.1.elim
  | collected r => exact Sim.stuck
  | coroexit c => exact h1.elim
end
def okX (E : Env) : Operand → Bool
  | .tmp _ => true
  | .const v => plainV v
  | .global g => decide (g < E.P.globals.size)
  | .func g => E.T g
def okXs (E : Env) (l : List Operand) : Bool := l.all (okX E)
def okCall (E : Env) (M : String → Bool) (c : Call) (t : TypeId) : Bool := okXs E c.args.toList && (match c.callee with
  | .value x => okX E x
  | .invoke r name => okX E r && M name
  | .builtin b => okB E b c.argTypes t)
def okOp (E : Env) (M : String → Bool) (o : Oper) : Bool := match o.op with
  | .move x | .assign x | .box _ x | .load _ x | .nilCheck x | .unOp _ _ x | .field _ x _ | .range _ x | .extract x _ | .panic x => okX E x
  | .pick c a b => okX E c && (okX E a && okX E b)
  | .store _ a x | .binOp _ _ a x _ | .indexAddr _ a x | .index _ a x => okX E a && okX E x
  | .slice _ x lo hi mx => okX E x && (okXs E lo.toList && (okXs E hi.toList && okXs E mx.toList))
  | .makeMap _ r => okXs E r.toList
  | .alloc t => zok E.P t
  | .build t ps => zok E.P t && okXs E (ps.toList.map (·.2))
  | .buildSlice t _ ps => sok E.P t && okXs E (ps.toList.map (·.2))
  | .convert s d x => cok E s d && okX E x
  | .makeInterface t x => E.K t && okX E x
  | .makeFunc (.func g) first cap => E.T g && (okXs E first.toList && okXs E cap.toList)
  | .makeSlice t l c => sok E.P t && (okX E l && okX E c)
  | .fieldAddr s x k => fok E.P s k && okX E x
  | .lookup t x ix _ => kok E.P t && (okX E x && okX E ix)
  | .mapUpdate t m k x | .insert t m k x => kok E.P t && (okX E m && (okX E k && okX E x))
  | .next it b => b && okX E it
  | .typeAssert x _ a _ => zok E.P a && okX E x
  | .call c => okCall E M c o.type
  | .defer c => okCall E M c o.type && (match c.callee with | .value _ => true | _ => false)
  | _ => false
def Rho (E : Env) (f : Nat → Nat) (n : Nat) (ρ ρ' : Operand → Value) : Prop := ∀ x, okX E x = true → VQ E f n (ρ x) (ρ' x)
section
variable {E : Env} {f : Nat → Nat} {n : Nat} {M : String → Bool} {ρ ρ' : Operand → Value}
theorem okXs_mem {l : List Operand} (h : okXs E l = true) : ∀ x ∈ l, okX E x = true := List.all_eq_true.1 h
theorem Rho.map (hρ : Rho E f n ρ ρ') {l : Array Operand} (h : okXs E l.toList = true) : l.map ρ' = (l.map ρ).map (rV f) ∧ okAll E n (l.map ρ) := by
  refine ⟨?_, fun x hx => ?_⟩
  · rw [Array.map_map]
    exact Array.map_congr_left fun x hx => (hρ x (okXs_mem h x (by simpa using hx))).1
  · obtain ⟨y, hy, rfl⟩ := Array.mem_map.1 hx
    exact (hρ y (okXs_mem h y (by simpa using hy))).2
theorem Rho.opt (hρ : Rho E f n ρ ρ') {l : Option Operand} (h : okXs E l.toList = true) : l.map ρ' = (l.map ρ).map (rV f) := by
  cases l with
  | none => rfl
  | some x => exact congrArg some (hρ x (okXs_mem h x (by simp))).1
theorem Rho.parts (hρ : Rho E f n ρ ρ') {l : Array (Nat × Operand)} (h : okXs E (l.toList.map (·.2)) = true) : (l.map fun p => (p.1, ρ' p.2)) = (l.map fun p => (p.1, ρ p.2)).map (fun p => (p.1, rV f p.2)) ∧ PartsOk E n (l.map fun p => (p.1, ρ p.2)) := by
  refine ⟨?_, fun x hx => ?_⟩
  · rw [Array.map_map]
    refine Array.map_congr_left fun x hx => ?_
    show (x.1, ρ' x.2) = (x.1, rV f (ρ x.2))
    rw [(hρ x.2 (okXs_mem h x.2 (List.mem_map.2 ⟨x, by simpa using hx, rfl⟩))).1]
  · obtain ⟨y, hy, rfl⟩ := Array.mem_map.1 hx
    exact (hρ y.2 (okXs_mem h y.2 (List.mem_map.2 ⟨y, by simpa using hy, rfl⟩))).2
theorem head_one (a : Value) (l : Array Value) : (#[a] ++ l)[0]? = some a := by
  rw [Array.getElem?_append_left (by simp)]
  rfl
theorem tail_one (a : Value) (l : Array Value) : (#[a] ++ l).extract 1 (#[a] ++ l).size = l := by
  apply Array.ext'
  simp
theorem sim_ofValue {x : Value} {args : Array Value} (hx : okV E n x) (a2 : okAll E n args) : Sim E f n (fun m d d' => d' = rD f d ∧ okD E m d) (Deferred.ofValue x args) (Deferred.ofValue (rV f x) (args.map (rV f))) := by
  unfold Deferred.ofValue
  cases x with
  | func fn first cap =>
    rw [okV] at hx
    rw [rV]
    refine Sim.pure fun m hm => ⟨?_, ⟨okFn_mono hx.1 hm, fun y hy => okV_mono hm _ (hx.2.2 y hy)⟩, okAll_mono (okAll_append (fun y hy => hx.2.1 y hy) a2) hm⟩
    simp only [rD, rT, Array.map_append]
  | nilFunc =>
    rw [rV]
    exact Sim.pure fun m hm => ⟨rfl, trivial, okAll_mono a2 hm⟩
  | _ => exact Sim.stuck
theorem sim_resolve (hρ : Rho E f n ρ ρ') {c : Call} {t : TypeId} (hc : okCall E M c t = true) (hv : (match c.callee with | .value _ => true | _ => false) = true) : Sim E f n (fun m d d' => d' = rD f d ∧ okD E m d) (resolve ρ c t) (resolve ρ' c t) := by
  unfold okCall at hc
  rw [Bool.and_eq_true] at hc
  obtain ⟨h1, h2⟩ := hc
  obtain ⟨a1, a2⟩ := hρ.map h1
  unfold resolve
  dsimp only
  rw [a1]
  cases hcc : c.callee with
  | value x =>
    rw [hcc] at h2
    obtain ⟨e, hx⟩ := hρ x h2
    dsimp only
    rw [e]
    unfold Deferred.ofValue
    cases hy : ρ x with
    | func fn first cap =>
      rw [hy, okV] at hx
      rw [rV]
      refine Sim.pure fun m hm => ⟨?_, ⟨okFn_mono hx.1 hm, fun y hy => okV_mono hm _ (hx.2.2 y hy)⟩, okAll_mono (okAll_append (fun y hy => hx.2.1 y hy) a2) hm⟩
      simp only [rD, rT, Array.map_append]
    | nilFunc =>
      rw [rV]
      exact Sim.pure fun m hm => ⟨rfl, trivial, okAll_mono a2 hm⟩
    | _ => exact Sim.stuck
  | _ => rw [hcc] at hv; cases hv
theorem sim_call (F : Fit E f) (H : RtOk E) (X : CallOk E M) (hρ : Rho E f n ρ ρ') {c : Call} {t : TypeId} (hc : okCall E M c t = true) : Sim E f n (NQ E f) (resolve ρ c t >>= fun d => invoke d.target d.args) (resolve ρ' c t >>= fun d => invoke d.target d.args) := by
  cases hcc : c.callee with
  | value x =>
    refine (sim_resolve hρ hc (by rw [hcc])).bind fun m d d' hm hd => ?_
    obtain ⟨rfl, hd⟩ := hd
    exact sim_invokeD F H X hd
  | invoke r name =>
    unfold okCall at hc
    rw [Bool.and_eq_true, hcc] at hc
    obtain ⟨h1, h2⟩ := hc
    dsimp only at h2
    rw [Bool.and_eq_true] at h2
    obtain ⟨a1, a2⟩ := hρ.map h1
    obtain ⟨e, hx⟩ := hρ r h2.1
    unfold resolve
    rw [hcc]
    dsimp only
    rw [pure_bind, pure_bind, a1, e]
    dsimp only
    unfold invoke
    dsimp only
    have e1 : (#[ρ r] ++ c.args.map ρ)[0]? = some (ρ r) := head_one _ _
    have e2 : (#[rV f (ρ r)] ++ (c.args.map ρ).map (rV f))[0]? = some (rV f (ρ r)) := head_one _ _
    have e3 : (#[ρ r] ++ c.args.map ρ).extract 1 (#[ρ r] ++ c.args.map ρ).size = c.args.map ρ := tail_one _ _
    have e4 : (#[rV f (ρ r)] ++ (c.args.map ρ).map (rV f)).extract 1 (#[rV f (ρ r)] ++ (c.args.map ρ).map (rV f)).size = (c.args.map ρ).map (rV f) := tail_one _ _
    rw [e1, e2, e3, e4]
    exact sim_callMethod F H X h2.2 hx a2
  | builtin b =>
    unfold okCall at hc
    rw [Bool.and_eq_true, hcc] at hc
    obtain ⟨h1, h2⟩ := hc
    obtain ⟨a1, a2⟩ := hρ.map h1
    unfold resolve
    rw [hcc]
    dsimp only
    rw [pure_bind, pure_bind, a1]
    exact sim_builtin F H h2 a2
theorem sim_execOp (F : Fit E f) (H : RtOk E) (X : CallOk E M) (hρ : Rho E f n ρ ρ') {o : Oper} (ho : okOp E M o = true) : Sim E f n (NQ E f) (execOp ρ o) (execOp ρ' o) := by
  unfold okOp at ho
  unfold execOp
  cases hop : o.op with
  | move x =>
    rw [hop] at ho
    dsimp only at ho ⊢
    obtain ⟨e, hx⟩ := hρ x ho
    rw [e]
    exact Sim.pure fun m hm => ⟨rfl, okV_mono hm _ hx⟩
  | assign x =>
    rw [hop] at ho
    dsimp only at ho ⊢
    obtain ⟨e, hx⟩ := hρ x ho
    rw [e]
    exact Sim.pure fun m hm => ⟨rfl, okV_mono hm _ hx⟩
  | pick c a b =>
    rw [hop] at ho
    simp only [Bool.and_eq_true] at ho
    obtain ⟨e, _⟩ := hρ c ho.1
    obtain ⟨ea, ha⟩ := hρ a ho.2.1
    obtain ⟨eb, hb⟩ := hρ b ho.2.2
    dsimp only
    rw [e, ea, eb]
    refine sim_asBool.bind fun m k k' hm hk => ?_
    obtain rfl := hk
    cases k' with
    | true => exact Sim.pure fun j hj => ⟨rfl, okV_mono (Nat.le_trans hm hj) _ ha⟩
    | false => exact Sim.pure fun j hj => ⟨rfl, okV_mono (Nat.le_trans hm hj) _ hb⟩
  | alloc t => rw [hop] at ho; exact sim_value (sim_alloc ho)
  | box t x =>
    rw [hop] at ho
    obtain ⟨e, hx⟩ := hρ x ho
    dsimp only
    rw [e]
    exact sim_value (sim_box hx)
  | build t ps =>
    rw [hop] at ho
    simp only [Bool.and_eq_true] at ho
    obtain ⟨e, hp⟩ := hρ.parts ho.2
    dsimp only
    have := sim_value (sim_build (f := f) ho.1 hp)
    rw [← e] at this
    exact this
  | buildSlice t len ps =>
    rw [hop] at ho
    simp only [Bool.and_eq_true] at ho
    obtain ⟨e, hp⟩ := hρ.parts ho.2
    dsimp only
    have := sim_value (sim_buildSlice (f := f) (len := len) (fun el he => sok_of ho.1 he) hp)
    rw [← e] at this
    exact this
  | load t x =>
    rw [hop] at ho
    obtain ⟨e, hx⟩ := hρ x ho
    dsimp only
    rw [e]
    exact sim_value (sim_loadAt F hx)
  | store t a x =>
    rw [hop] at ho
    simp only [Bool.and_eq_true] at ho
    obtain ⟨ea, ha⟩ := hρ a ho.1
    obtain ⟨e, hx⟩ := hρ x ho.2
    dsimp only
    rw [ea, e]
    exact sim_skip (sim_storeAt F ha hx)
  | nilCheck x =>
    rw [hop] at ho
    obtain ⟨e, hx⟩ := hρ x ho
    dsimp only
    rw [e]
    have hp : ∀ {m : Nat}, Sim E f m (NQ E f) (runtimePanic .nilDeref) (runtimePanic .nilDeref) := sim_runtimePanic F H _
    cases hy : ρ x with
    | pointer a =>
      rw [hy] at hx
      rw [rV]
      cases a with
      | none => exact hp
      | some a => exact Sim.pure fun j hj => ⟨by simp [rV], okV_mono hj _ hx⟩
    | nilIface => rw [rV]; exact hp
    | nilFunc => rw [rV]; exact hp
    | func fn first cap =>
      rw [hy] at hx
      have hx2 := hx
      rw [okV] at hx2
      rw [rV]
      cases fn with
      | func g => exact Sim.pure fun j hj => ⟨by rw [rV], okV_mono hj _ hx⟩
      | yield l => exact Sim.pure fun j hj => ⟨by rw [rV], okV_mono hj _ hx⟩
      | _ => exact hx2.1.elim
    | _ =>
      rw [hy] at hx
      rw [rV]
      exact Sim.pure fun j hj => ⟨by rw [rV], okV_mono hj _ hx⟩
  | binOp op t x y yt =>
    rw [hop] at ho
    simp only [Bool.and_eq_true] at ho
    obtain ⟨ea, ha⟩ := hρ x ho.1
    obtain ⟨e, hx⟩ := hρ y ho.2
    dsimp only
    rw [ea, e]
    refine sim_value ?_
    exact (sim_eqGuard F ha hx).bind fun m _ _ hm _ => sim_binOp F H (okV_mono hm _ ha) (okV_mono hm _ hx)
  | unOp op t x =>
    rw [hop] at ho
    obtain ⟨e, hx⟩ := hρ x ho
    dsimp only
    rw [e]
    exact sim_value (sim_unary hx)
  | convert s d x =>
    rw [hop] at ho
    simp only [Bool.and_eq_true] at ho
    obtain ⟨e, hx⟩ := hρ x ho.2
    dsimp only
    rw [e]
    exact sim_value (sim_convert F hx ho.1)
  | makeInterface t x =>
    rw [hop] at ho
    simp only [Bool.and_eq_true] at ho
    obtain ⟨e, hx⟩ := hρ x ho.2
    dsimp only
    rw [e]
    exact sim_value (sim_makeInterface hx ho.1)
  | makeFunc fn first cap =>
    rw [hop] at ho
    cases fn with
    | func g =>
      simp only [Bool.and_eq_true] at ho
      obtain ⟨e1, h1⟩ := hρ.map ho.2.1
      obtain ⟨e2, h2⟩ := hρ.map ho.2.2
      dsimp only
      rw [e1, e2]
      refine sim_value (Sim.pure fun m hm => ⟨by rw [rV]; rfl, ?_⟩)
      rw [okV]
      exact ⟨ho.1, okAll_mono h1 hm, okAll_mono h2 hm⟩
    | _ => cases ho
  | makeMap t r =>
    rw [hop] at ho
    dsimp only
    rw [hρ.opt ho]
    exact sim_value sim_makeMap
  | makeSlice t l c =>
    rw [hop] at ho
    simp only [Bool.and_eq_true] at ho
    obtain ⟨ea, ha⟩ := hρ l ho.2.1
    obtain ⟨e, hx⟩ := hρ c ho.2.2
    dsimp only
    rw [ea, e]
    exact sim_value (sim_makeSlice F H fun el he => sok_of ho.1 he)
  | slice t x lo hi mx =>
    rw [hop] at ho
    simp only [Bool.and_eq_true] at ho
    obtain ⟨e, hx⟩ := hρ x ho.1
    dsimp only
    rw [e, hρ.opt ho.2.1, hρ.opt ho.2.2.1, hρ.opt ho.2.2.2]
    exact sim_value (sim_sliceAt F H hx)
  | fieldAddr s x k =>
    rw [hop] at ho
    simp only [Bool.and_eq_true] at ho
    obtain ⟨e, hx⟩ := hρ x ho.2
    dsimp only
    rw [e]
    exact sim_value (sim_fieldAt F hx ho.1)
  | field t x k =>
    rw [hop] at ho
    obtain ⟨e, hx⟩ := hρ x ho
    dsimp only
    rw [e]
    exact sim_value (sim_field hx)
  | indexAddr t x ix =>
    rw [hop] at ho
    simp only [Bool.and_eq_true] at ho
    obtain ⟨ea, ha⟩ := hρ x ho.1
    obtain ⟨e, hx⟩ := hρ ix ho.2
    dsimp only
    rw [ea, e]
    exact sim_value (sim_indexAt F H ha)
  | index t x ix =>
    rw [hop] at ho
    simp only [Bool.and_eq_true] at ho
    obtain ⟨ea, ha⟩ := hρ x ho.1
    obtain ⟨e, hx⟩ := hρ ix ho.2
    dsimp only
    rw [ea, e]
    exact sim_value (sim_index F H ha)
  | lookup t x ix ok =>
    rw [hop] at ho
    simp only [Bool.and_eq_true] at ho
    obtain ⟨ea, ha⟩ := hρ x ho.2.1
    obtain ⟨e, hx⟩ := hρ ix ho.2.2
    dsimp only
    rw [ea, e]
    exact sim_value (sim_lookup F H ha hx ho.1)
  | mapUpdate t m k x =>
    rw [hop] at ho
    simp only [Bool.and_eq_true] at ho
    obtain ⟨ea, ha⟩ := hρ m ho.2.1
    obtain ⟨ek, hk⟩ := hρ k ho.2.2.1
    obtain ⟨e, hx⟩ := hρ x ho.2.2.2
    dsimp only
    rw [ea, ek, e]
    exact sim_skip (sim_mapUpdate F H ha hk hx ho.1)
  | insert t m k x =>
    rw [hop] at ho
    simp only [Bool.and_eq_true] at ho
    obtain ⟨ea, ha⟩ := hρ m ho.2.1
    obtain ⟨ek, hk⟩ := hρ k ho.2.2.1
    obtain ⟨e, hx⟩ := hρ x ho.2.2.2
    dsimp only
    rw [ea, ek, e]
    exact sim_skip (sim_mapUpdate F H ha hk hx ho.1)
  | range t x =>
    rw [hop] at ho
    obtain ⟨e, hx⟩ := hρ x ho
    dsimp only
    rw [e]
    exact sim_value (sim_range hx)
  | next it b =>
    rw [hop] at ho
    simp only [Bool.and_eq_true] at ho
    obtain ⟨e, hx⟩ := hρ it ho.2
    dsimp only
    rw [e, ho.1]
    exact sim_value (sim_next F hx)
  | typeAssert x xt a ok =>
    rw [hop] at ho
    simp only [Bool.and_eq_true] at ho
    obtain ⟨e, hx⟩ := hρ x ho.2
    dsimp only
    rw [e]
    exact sim_value (sim_typeAssert F H hx ho.1)
  | extract x k =>
    rw [hop] at ho
    obtain ⟨e, hx⟩ := hρ x ho
    dsimp only
    rw [e]
    exact sim_value (sim_extract hx)
  | call c => rw [hop] at ho; exact sim_call F H X hρ ho
  | defer c =>
    rw [hop] at ho
    simp only [Bool.and_eq_true] at ho
    refine (sim_resolve hρ ho.1 ho.2).bind fun m d d' hm hd => ?_
    obtain ⟨rfl, hd⟩ := hd
    exact Sim.pure fun j hj => ⟨rfl, okD_mono hd hj⟩
  | panic x =>
    rw [hop] at ho
    obtain ⟨e, hx⟩ := hρ x ho
    dsimp only
    rw [e]
    exact sim_value (sim_panic F H hx)
  | _ => rw [hop] at ho; cases ho
end
def noDO (o : Oper) : Bool := match o.op with
  | .defer _ => false
  | _ => true
def noD : Code → Bool
  | .region _ ops _ => ops.toList.all noDO
  | .seq a b | .cond _ a b | .rangeFunc _ _ a b => noD a && noD b
  | .block _ c | .loop c | .scope c => noD c
  | _ => true
def okCode (E : Env) (M : String → Bool) : Code → Bool
  | .skip | .exit _ | .ret | .refuse _ => true
  | .region _ ops _ => ops.toList.all (okOp E M)
  | .seq a b => okCode E M a && okCode E M b
  | .cond c a b => okX E c && (okCode E M a && okCode E M b)
  | .block _ c | .loop c => okCode E M c
  | .rangeFunc x _ a b => okX E x && ((okCode E M a && noD a) && (okCode E M b && noD b))
  | _ => false
structure CodeOk (E : Env) (M : String → Bool) : Prop where
  loops : ∀ c, E.C c = (okCode E M c && noD c)
  bodies : ∀ g fn c, E.T g = true → E.P.funcs[g]? = some fn → fn.body = some c → okCode E M c = true
  globs : ∀ g, g < E.P.globals.size → E.R g ∨ E.O g
  wait : ∀ k, E.O k → E.P.stepOf k = none
  ahead : E.P.follows .staticDataAhead = true
  back : E.P.follows .rangeFuncRecover = true
def rI (f : Nat → Nat) : Item → Item
  | .inRangeFunc l => .inRangeFunc (f l)
  | .endRangeFunc l => .endRangeFunc (f l)
  | x => x
def rP (f : Nat → Nat) (e : PanicEntry) : PanicEntry := { e with v := rV f e.v }
def rM (f : Nat → Nat) : FrameMode → FrameMode
  | .panicking ch => .panicking (ch.map (rP f))
  | x => x
def rF (f : Nat → Nat) (fr : Frame) : Frame := { fr with tmps := fr.tmps.map (rV f), todo := fr.todo.map (rI f), defers := fr.defers.map (rD f), mode := rM f fr.mode, roundOf := fr.roundOf.map f }
section
variable (E : Env) (M : String → Bool) (n : Nat)
def okI (r : Bool) : Item → Prop
  | .code c | .inLoop c => okCode E M c = true ∧ (r = true → noD c = true)
  | .inRegion ops _ => ops.toList.all (okOp E M) = true ∧ (r = true → ops.toList.all noDO = true)
  | .inRangeFunc l | .endRangeFunc l => E.I n l
  | .inBlock _ | .beginRound => True
  | _ => False
def okM : FrameMode → Prop
  | .panicking ch => ∀ e ∈ ch, okV E n e.v ∧ e.goexit = false
  | _ => True
structure okF (fr : Frame) : Prop where
  fn : E.T fr.fn = true
  tmps : okAll E n fr.tmps
  todo : ∀ i ∈ fr.todo, okI E M n fr.roundOf.isSome i
  defers : ∀ d ∈ fr.defers, okD E n d
  mode : okM E n fr.mode
  kind : fr.kind = .normal ∨ fr.kind = .deferred
  round : ∀ l, fr.roundOf = some l → E.I n l
end
def botN : List Frame → Prop
  | [] => False
  | [fr] => fr.kind = .normal ∧ fr.roundOf = none
  | _ :: r => botN r
def okS (E : Env) (M : String → Bool) (n : Nat) (S : List Frame) : Prop := (∀ fr ∈ S, okF E M n fr) ∧ botN S
section
variable {E : Env} {M : String → Bool} {n m : Nat} {f : Nat → Nat}
theorem okI_mono (hm : n ≤ m) {r : Bool} {i : Item} (h : okI E M n r i) : okI E M m r i := by
  cases i <;> first | exact h | exact Env.I.mono h hm
theorem okM_mono (hm : n ≤ m) {u : FrameMode} (h : okM E n u) : okM E m u := by
  cases u with
  | panicking ch => exact fun e he => ⟨okV_mono hm _ (h e he).1, (h e he).2⟩
  | _ => exact h
theorem okF_mono (hm : n ≤ m) {fr : Frame} (h : okF E M n fr) : okF E M m fr :=
  ⟨h.fn, okAll_mono h.tmps hm, fun i hi => okI_mono hm (h.todo i hi), fun d hd => okD_mono (h.defers d hd) hm, okM_mono hm h.mode, h.kind, fun l hl => (h.round l hl).mono hm⟩
theorem okS_mono (hm : n ≤ m) {S : List Frame} (h : okS E M n S) : okS E M m S := ⟨fun fr hfr => okF_mono hm (h.1 fr hfr), h.2⟩
theorem rho_frame (F : Fit E f) (C : CodeOk E M) {fr : Frame} (h : okF E M n fr) : Rho E f n fr.eval (rF f fr).eval := by
  intro x hx
  cases x with
  | tmp t =>
    show VQ E f n (fr.tmps.getD t undef) ((fr.tmps.map (rV f)).getD t undef)
    exact ⟨getD_rV f fr.tmps t, okAll_getD h.tmps t⟩
  | const v => exact ⟨(rV_plain hx).symm, okV_plain hx⟩
  | global g =>
    have hg := C.globs g (of_decide_eq_true hx)
    have hB : g < E.B := hg.elim (F.ro g) (F.op g)
    have := vq_ptr (E := E) (f := f) (m := n) (a := ⟨g, 0, none⟩) (.inr hg)
    unfold rA at this
    dsimp only at this
    rw [F.low g hB] at this
    exact this
  | func g =>
    refine ⟨by simp [Frame.eval, rV, rFn], ?_⟩
    show okV E n (.func (.func g) #[] #[])
    rw [okV]
    exact ⟨hx, empty_ok, empty_ok⟩
theorem map_set (f : Nat → Nat) (cs : Array Value) (i : Nat) (v : Value) : (cs.setIfInBounds i v).map (rV f) = (cs.map (rV f)).setIfInBounds i (rV f v) := by
  apply Array.ext'
  simp [Array.toList_setIfInBounds]
theorem finish_rF (f : Nat → Nat) {fr : Frame} {v : Value} (hno : ∀ d a b c k, fr.todo ≠ .call d a b c :: k) (hno2 : ∀ a b k, fr.todo ≠ .extern a b :: k) : rF f (fr.finish v) = (rF f fr).finish (rV f v) := by
  obtain ⟨fn, tmps, todo, ds, mo, ki, ro⟩ := fr
  cases todo with
  | nil => rfl
  | cons i k =>
    cases i with
    | inRegion ops l =>
      cases l with
      | nil => rfl
      | cons j l =>
        simp only [Frame.finish, rF, List.map_cons, rI]
        congr 1
        cases (ops[j]?).bind (·.dst) with
        | none => rfl
        | some d => exact map_set f tmps d v
    | call d a b c => exact absurd rfl (hno d a b c k)
    | extern a b => exact absurd rfl (hno2 a b k)
    | _ => rfl
theorem okF.noCall {fr : Frame} (h : okF E M n fr) : (∀ d a b c k, fr.todo ≠ .call d a b c :: k) ∧ (∀ a b k, fr.todo ≠ .extern a b :: k) :=
  ⟨fun d a b c k e => h.todo (.call d a b c) (by rw [e]; exact .head _), fun a b k e => h.todo (.extern a b) (by rw [e]; exact .head _)⟩
theorem okF.finish {fr : Frame} (h : okF E M n fr) {v : Value} (hv : okV E n v) : okF E M n (fr.finish v) := by
  obtain ⟨n1, n2⟩ := h.noCall
  obtain ⟨fn, tmps, todo, ds, mo, ki, ro⟩ := fr
  obtain ⟨h1, h2, h3, h4, h5, h6, h7⟩ := h
  cases todo with
  | nil => exact ⟨h1, h2, h3, h4, h5, h6, h7⟩
  | cons i k =>
    have hk : ∀ i ∈ k, okI E M n ro.isSome i := fun i hi => h3 i (.tail _ hi)
    have hi := h3 i (.head _)
    cases i with
    | inRegion ops l =>
      cases l with
      | nil => exact ⟨h1, h2, h3, h4, h5, h6, h7⟩
      | cons j l =>
        refine ⟨h1, ?_, fun i hi2 => ?_, h4, h5, h6, h7⟩
        · show okAll E n (match (ops[j]?).bind (·.dst) with | some d => tmps.setIfInBounds d v | none => tmps)
          cases (ops[j]?).bind (·.dst) with
          | none => exact h2
          | some d => exact okAll_set h2 hv d
        · cases hi2 with
          | head => exact hi
          | tail _ h => exact hk _ h
    | inRangeFunc l =>
      refine ⟨h1, h2, fun i hi2 => ?_, h4, h5, h6, h7⟩
      cases hi2 with
      | head => exact hi
      | tail _ h => exact hk _ h
    | beginRound => exact ⟨h1, h2, hk, h4, h5, h6, h7⟩
    | call d a b c => exact absurd rfl (n1 d a b c k)
    | extern a b => exact absurd rfl (n2 a b k)
    | _ => exact ⟨h1, h2, h3, h4, h5, h6, h7⟩
theorem raise_rF (f : Nat → Nat) (fr : Frame) (vs : List PanicEntry) : rF f (fr.raise vs) = (rF f fr).raise (vs.map (rP f)) := by
  obtain ⟨fn, tmps, todo, ds, mo, ki, ro⟩ := fr
  cases mo with
  | panicking ch => simp [Frame.raise, rF, rM]
  | _ => rfl
theorem okF.raise {fr : Frame} (h : okF E M n fr) {vs : List PanicEntry} (hv : ∀ e ∈ vs, okV E n e.v ∧ e.goexit = false) : okF E M n (fr.raise vs) := by
  obtain ⟨fn, tmps, todo, ds, mo, ki, ro⟩ := fr
  obtain ⟨h1, h2, h3, h4, h5, h6, h7⟩ := h
  cases mo with
  | panicking ch =>
    refine ⟨h1, h2, h3, h4, fun e he => ?_, h6, h7⟩
    rcases List.mem_append.1 he with h | h
    · exact hv e h
    · exact h5 e h
  | _ => exact ⟨h1, h2, h3, h4, hv, h6, h7⟩
theorem enter_rF (f : Nat → Nat) (P : Program) (g : FuncId) (args : Array Value) (k : CallKind) : rF f (Frame.enter P g args k) = Frame.enter P g (args.map (rV f)) k := by
  unfold Frame.enter rF
  simp only [Array.map_append, Array.size_map, List.map_cons, List.map_nil, rI, rM, Option.map_none]
  congr 2
  apply Array.ext'
  simp [undef, rV]
theorem okF.enter (C : CodeOk E M) {g : FuncId} {args : Array Value} {k : CallKind} (hT : E.T g = true) (ha : okAll E n args) (hk : k = .normal ∨ k = .deferred) : okF E M n (Frame.enter E.P g args k) := by
  refine ⟨hT, okAll_append ha fun x hx => ?_, fun i hi => ?_, fun d hd => (by cases hd), trivial, hk, fun l hl => by cases hl⟩
  · rw [Array.eq_of_mem_replicate hx]
    exact undef_ok E n
  · cases hi with
    | head =>
      refine ⟨?_, fun h => by cases h⟩
      cases hf : E.P.funcs[g]? with
      | none => rfl
      | some fn =>
        cases hb : fn.body with
        | none => simp only [Option.bind_some, hb]; rfl
        | some c => simp only [Option.bind_some, hb]; exact C.bodies g fn c hT hf hb
    | tail _ h => cases h
theorem round_rF (f : Nat → Nat) (l : Nat) (g : FuncId) (tmps : Array Value) (a b : Code) (k : CallKind) : rF f (Frame.round l g tmps a b k) = Frame.round (f l) g (tmps.map (rV f)) a b k := rfl
theorem okF.ofRound (C : CodeOk E M) {l : Nat} {g : FuncId} {tmps : Array Value} {a b : Code} {k : CallKind} (hI : E.I n l) (hT : E.T g = true) (ht : okAll E n tmps) (ha : E.C a = true) (hb : E.C b = true) (hk : k = .normal ∨ k = .deferred) : okF E M n (Frame.round l g tmps a b k) := by
  rw [C.loops, Bool.and_eq_true] at ha hb
  refine ⟨hT, ht, fun i hi => ?_, fun d hd => (by cases hd), trivial, hk, fun l' hl => by cases hl; exact hI⟩
  cases hi with
  | head => exact ⟨ha.1, fun _ => ha.2⟩
  | tail _ h =>
    cases h with
    | head => trivial
    | tail _ h =>
      cases h with
      | head => exact ⟨hb.1, fun _ => hb.2⟩
      | tail _ h => cases h
theorem botN_cons {fr : Frame} {cs : List Frame} (h : botN cs) : botN (fr :: cs) := by
  cases cs with
  | nil => exact h.elim
  | cons c r => exact h
theorem botN_tail {fr : Frame} {cs : List Frame} (h : botN (fr :: cs)) (hk : cs ≠ []) : botN cs := by
  cases cs with
  | nil => exact absurd rfl hk
  | cons c r => exact h
theorem botN_swap {fr fr' : Frame} {cs : List Frame} (h : botN (fr :: cs)) (hk : fr'.kind = fr.kind ∧ fr'.roundOf = fr.roundOf) : botN (fr' :: cs) := by
  cases cs with
  | nil => exact ⟨hk.1.trans h.1, hk.2.trans h.2⟩
  | cons c r => exact h
theorem finish_kind (fr : Frame) (v : Value) : (fr.finish v).kind = fr.kind ∧ (fr.finish v).roundOf = fr.roundOf := by
  unfold Frame.finish
  split <;> exact ⟨rfl, rfl⟩
theorem raise_kind (fr : Frame) (v : List PanicEntry) : (fr.raise v).kind = fr.kind ∧ (fr.raise v).roundOf = fr.roundOf := by
  unfold Frame.raise
  split <;> exact ⟨rfl, rfl⟩
theorem okS.swap {fr fr' : Frame} {cs : List Frame} (h : okS E M n (fr :: cs)) (hm : n ≤ m) (hf : okF E M m fr') (hk : fr'.kind = fr.kind ∧ fr'.roundOf = fr.roundOf) : okS E M m (fr' :: cs) := by
  refine ⟨fun x hx => ?_, botN_swap h.2 hk⟩
  cases hx with
  | head => exact hf
  | tail _ hx => exact okF_mono hm (h.1 x (.tail _ hx))
theorem okS.push {fr : Frame} {S : List Frame} (h : okS E M n S) (hm : n ≤ m) (hf : okF E M m fr) : okS E M m (fr :: S) := by
  refine ⟨fun x hx => ?_, botN_cons h.2⟩
  cases hx with
  | head => exact hf
  | tail _ hx => exact okF_mono hm (h.1 x hx)
theorem okS.head {fr : Frame} {cs : List Frame} (h : okS E M n (fr :: cs)) : okF E M n fr := h.1 fr (.head _)
theorem recover_sim {fr : Frame} {cs : List Frame} (h : okS E M n (fr :: cs)) (Z Z' : List Frame) :
    (tryRecover fr (cs ++ Z) = none ∧ tryRecover (rF f fr) (cs.map (rF f) ++ Z') = none) ∨
    ∃ v cs', tryRecover fr (cs ++ Z) = some (v, cs' ++ Z) ∧ tryRecover (rF f fr) (cs.map (rF f) ++ Z') = some (rV f v, cs'.map (rF f) ++ Z') ∧ okV E n v ∧ okS E M n (fr :: cs') := by
  have hk := h.head.kind
  have hkr : (rF f fr).kind = fr.kind := rfl
  rcases hk with hk | hk
  · left
    constructor
    · unfold tryRecover
      rw [hk]
    · unfold tryRecover
      rw [hkr, hk]
  · cases cs with
    | nil =>
      have : fr.kind = .normal := h.2.1
      rw [hk] at this
      cases this
    | cons c r =>
      have hc := h.1 c (.tail _ (.head _))
      rw [List.map_cons, List.cons_append, List.cons_append]
      unfold tryRecover
      rw [hkr, hk]
      dsimp only
      obtain ⟨fn, tmps, todo, ds, mo, ki, ro⟩ := c
      cases mo with
      | run => exact .inl ⟨rfl, rfl⟩
      | returning => exact .inl ⟨rfl, rfl⟩
      | panicking ch =>
        cases ch with
        | nil => exact .inl ⟨rfl, rfl⟩
        | cons e older =>
          obtain ⟨v, rc, ge⟩ := e
          obtain ⟨hv, hg⟩ := hc.mode ⟨v, rc, ge⟩ (.head _)
          dsimp only at hg hv
          subst hg
          cases rc with
          | true => exact .inl ⟨rfl, rfl⟩
          | false =>
            refine .inr ⟨v, _ :: r, rfl, rfl, hv, ?_⟩
            refine ⟨fun x hx => ?_, ?_⟩
            · cases hx with
              | head => exact h.head
              | tail _ hx =>
                cases hx with
                | head =>
                  refine ⟨hc.fn, hc.tmps, hc.todo, hc.defers, fun e he => ?_, hc.kind, hc.round⟩
                  cases he with
                  | head => exact ⟨hv, rfl⟩
                  | tail _ he => exact hc.mode e (.tail _ he)
                | tail _ hx => exact h.1 x (.tail _ (.tail _ hx))
            · refine botN_cons (botN_swap (botN_tail h.2 (by simp)) ⟨rfl, rfl⟩)
theorem exitTo_rI (f : Nat → Nat) (id : Nat) : ∀ k : List Item, exitTo id (k.map (rI f)) = (exitTo id k).map (List.map (rI f))
  | [] => rfl
  | i :: k => by
    have ih := exitTo_rI f id k
    cases i with
    | inBlock j =>
      simp only [List.map_cons, rI, exitTo]
      split
      · rfl
      · exact ih
    | _ => exact ih
theorem exitTo_sub (id : Nat) : ∀ (k k' : List Item), exitTo id k = some k' → ∀ i ∈ k', i ∈ k
  | [], _, h => by cases h
  | i :: k, k', h => by
    have ih := exitTo_sub id k k'
    cases i with
    | inBlock j =>
      simp only [exitTo] at h
      split at h
      · cases h
        exact fun i hi => .tail _ hi
      · exact fun i hi => .tail _ (ih h i hi)
    | _ => exact fun i hi => .tail _ (ih h i hi)
end
end Go.Proofs.YtaablbmgagiajabGreatDoor.Ren
namespace Go.Proofs.YtaablbmgagiajabGreatDoor.Ren
open Go Go.Conc
def gor (S Z : List Frame) : Goroutine := match S ++ Z with
  | fr :: cs => { frame := fr, callers := cs, status := .running, dying := none }
  | [] => default
theorem gor_cons (fr : Frame) (cs Z : List Frame) : gor (fr :: cs) Z = { frame := fr, callers := cs ++ Z, status := .running, dying := none } := rfl
def GSim (E : Env) (M : String → Bool) (f : Nat → Nat) (Zg Zc : List Frame) (hl : Array Obj) (w : World) (k k' : World → GStep) : Prop :=
  ∃ (l : List Nat) (r : Option (List Frame)) (hl' : Array Obj), hl.size ≤ hl'.size ∧
    (∀ wl : World, wl.heap = hl → Listed E l wl → match r with
      | none => ∃ o w' es, k wl = .ended o w' es
      | some S => ∃ es, k wl = .go (gor S Zg) { wl with heap := hl', drawn := wl.drawn + l.length } es) ∧
    (∀ S, r = some S → okS E M hl'.size S ∧ ∃ w' es', Left E f hl hl' w w' es' ∧ k' w = .go (gor (S.map (rF f)) Zc) w' es')
section
variable {E : Env} {M : String → Bool} {f : Nat → Nat} {Zg Zc : List Frame} {hl : Array Obj} {w : World} {k k' : World → GStep}
theorem GSim.go {S : List Frame} (hr : HRel E f hl w.heap) (hS : okS E M hl.size S) (h : ∀ wl, ∃ es, k wl = .go (gor S Zg) wl es) (h' : k' w = .go (gor (S.map (rF f)) Zc) w #[]) : GSim E M f Zg Zc hl w k k' := by
  refine ⟨[], some S, hl, Nat.le_refl _, fun wl hw _ => ?_, fun S' e => ?_⟩
  · obtain ⟨es, e⟩ := h wl
    refine ⟨es, e.trans ?_⟩
    subst hw
    rfl
  · cases e
    exact ⟨hS, w, #[], .refl hr, h'⟩
theorem GSim.ended (h : ∀ wl, ∃ o w' es, k wl = .ended o w' es) : GSim E M f Zg Zc hl w k k' :=
  ⟨[], none, hl, Nat.le_refl _, fun wl _ _ => h wl, fun S e => by cases e⟩
theorem Left.sub {hl' : Array Obj} {w' : World} {es es2 : Array Event} (h : Left E f hl hl' w w' es) (hs : ∀ e ∈ es2, e ∈ es) : Left E f hl hl' w w' es2 :=
  ⟨h.rel, h.size, h.stay, h.tape, h.os, h.out, fun e he => h.evs e (hs e he)⟩
theorem gsim_of {α : Type} {Q : Nat → α → α → Prop} {t t' : Sem α} (hr : HRel E f hl w.heap) (hos : w.os = E.os) (h : Sim E f hl.size Q t t')
    (hbad : ∀ wl hh w' es, badH E hh → t.runT E.P wl #[] = (.halt hh w', es) → ∃ o w2 es2, k wl = .ended o w2 es2)
    (hok : ∀ m a a', hl.size ≤ m → Q m a a' → ∃ S, okS E M m S ∧ (∀ wl w' es, t.runT E.P wl #[] = (.ok a w', es) → ∃ es2, k wl = .go (gor S Zg) w' es2) ∧
      (∀ w' es, t'.runT E.P w #[] = (.ok a' w', es) → ∃ es2, (∀ e ∈ es2, e ∈ es) ∧ k' w = .go (gor (S.map (rF f)) Zc) w' es2))
    (hpan : ∀ m v, hl.size ≤ m → okV E m v → (∀ wl w' es, t.runT E.P wl #[] = (.halt (.panic v) w', es) → ∃ o w2 es2, k wl = .ended o w2 es2) ∨
      ∃ S, okS E M m S ∧ (∀ wl w' es, t.runT E.P wl #[] = (.halt (.panic v) w', es) → ∃ es2, k wl = .go (gor S Zg) w' es2) ∧
        (∀ w' es, t'.runT E.P w #[] = (.halt (.panic (rV f v)) w', es) → ∃ es2, (∀ e ∈ es2, e ∈ es) ∧ k' w = .go (gor (S.map (rF f)) Zc) w' es2)) :
    GSim E M f Zg Zc hl w k k' := by
  obtain ⟨l, r, hl1, ha, hs, hc⟩ := h hl w hr (Nat.le_refl _) hos
  match r, ha, hc with
  | none, ha, hc =>
    refine ⟨l, none, hl1, hs, fun wl hw hL => ?_, fun S e => by cases e⟩
    obtain ⟨x, es, hx, hh, w', hb, rfl⟩ := ha wl #[] hw hL
    exact hbad wl hh w' es hb hx
  | some (.ok a), ha, hc =>
    obtain ⟨w1, es1, hL1, hx⟩ := hc (by simp)
    obtain ⟨x, hx, a', hQ, rfl⟩ := hx #[]
    obtain ⟨S, hS, h1, h2⟩ := hok hl1.size a a' hs hQ
    refine ⟨l, some S, hl1, hs, fun wl hw hL => ?_, fun S' e => ?_⟩
    · obtain ⟨x, es, hx, rfl⟩ := ha wl #[] hw hL
      exact h1 wl _ es hx
    · cases e
      obtain ⟨es2, hsub, e⟩ := h2 w1 _ hx
      refine ⟨hS, w1, es2, hL1.sub fun e he => by simpa using hsub e he, e⟩
  | some (.error v), ha, hc =>
    obtain ⟨w1, es1, hL1, hx⟩ := hc (by simp)
    obtain ⟨x, hx, hv, rfl⟩ := hx #[]
    rcases hpan hl1.size v hs hv with h1 | ⟨S, hS, h1, h2⟩
    · refine ⟨l, none, hl1, hs, fun wl hw hL => ?_, fun S e => by cases e⟩
      obtain ⟨x, es, hx, rfl⟩ := ha wl #[] hw hL
      exact h1 wl _ es hx
    · refine ⟨l, some S, hl1, hs, fun wl hw hL => ?_, fun S' e => ?_⟩
      · obtain ⟨x, es, hx, rfl⟩ := ha wl #[] hw hL
        exact h1 wl _ es hx
      · cases e
        obtain ⟨es2, hsub, e⟩ := h2 w1 _ hx
        refine ⟨hS, w1, es2, hL1.sub fun e he => by simpa using hsub e he, e⟩
theorem early_ended (C : CodeOk E M) {fr : Frame} {cs : List Frame} {dy : Option Dying} {g : Nat} (hO : E.O g) (w : World) : ∃ o w2 es2, early E.P fr cs dy g w = .ended o w2 es2 := by
  unfold early
  simp only [C.ahead, C.wait g hO, Bool.not_true, Bool.false_eq_true, if_false]
  exact ⟨_, _, _, rfl⟩
theorem after_ended (es : Array Event) (s : GStep) (h : ∃ o w2 es2, s = .ended o w2 es2) : ∃ o w2 es2, s.after es = .ended o w2 es2 := by
  obtain ⟨o, w2, es2, rfl⟩ := h
  exact ⟨_, _, _, rfl⟩
theorem apply_bad (C : CodeOk E M) {fr : Frame} {cs : List Frame} {s : Sem Next} {w w' : World} {hh : Halt} {es : Array Event} (hb : badH E hh) (h : s.runT E.P w #[] = (.halt hh w', es)) : ∃ o w2 es2, stepG.apply E.P true fr cs none s w = .ended o w2 es2 := by
  unfold stepG.apply
  simp only [if_true, h]
  refine after_ended _ _ ?_
  cases hh with
  | stuck s => exact ⟨_, _, _, rfl⟩
  | unsupported u =>
    cases u with
    | initOrder k => exact early_ended C hb w'
    | _ => exact ⟨_, _, _, rfl⟩
  | _ => exact hb.elim
theorem evs_seen {P : Program} {fn : FuncId} {b : Bool} {es : Array Event} : ∀ e ∈ seen P fn (if b = true then #[] else es) ++ #[], e ∈ es := fun e he => by
  rw [Array.append_empty] at he
  have := mem_seen he
  cases b with
  | true => simp at this
  | false => simpa using this
theorem sub_seen {P : Program} {fn : FuncId} {es : Array Event} : ∀ e ∈ seen P fn es ++ #[], e ∈ es := fun e he => by
  rw [Array.append_empty] at he
  exact mem_seen he
theorem gsim_apply (C : CodeOk E M) (hr : HRel E f hl w.heap) (hos : w.os = E.os) {fr : Frame} {cs : List Frame} (hS : okS E M hl.size (fr :: cs)) {s s' : Sem Next} (hs : Sim E f hl.size (NQ E f) s s') :
    GSim E M f Zg Zc hl w (fun wl => stepG.apply E.P true fr (cs ++ Zg) none s wl) (fun wc => stepG.apply E.P true (rF f fr) (cs.map (rF f) ++ Zc) none s' wc) := by
  have hfr := hS.head
  obtain ⟨n1, n2⟩ := hfr.noCall
  have n3 : ∀ d a b c k, (rF f fr).todo ≠ .call d a b c :: k := fun d a b c k e => by
      have e : fr.todo.map (rI f) = .call d a b c :: k := e
      cases ht : fr.todo with
      | nil => rw [ht] at e; cases e
      | cons i r =>
        rw [ht, List.map_cons] at e
        have e2 := (List.cons.inj e).1
        have hi := hfr.todo i (by rw [ht]; exact .head _)
        cases i <;> first | exact hi | cases e2
  refine gsim_of hr hos hs (fun wl hh w' es hb h => apply_bad C hb h) (fun m a a' hm hq => ?_) (fun m v hm hv => ?_)
  · cases a with
    | value v =>
      obtain ⟨rfl, hv⟩ := hq
      refine ⟨fr.finish v :: cs, hS.swap hm ((okF_mono hm hfr).finish hv) (finish_kind fr v), fun wl w' es h => ⟨seen E.P fr.fn (if (fr.kind == .early) = true then #[] else es) ++ #[], ?_⟩, fun w' es h => ⟨seen E.P fr.fn (if (fr.kind == .early) = true then #[] else es) ++ #[], evs_seen, ?_⟩⟩
      · unfold stepG.apply
        simp only [if_true, h]
        rfl
      · rw [List.map_cons, finish_rF f n1 n2]
        unfold stepG.apply
        simp only [if_true, h]
        rfl
    | skip =>
      obtain rfl := hq
      refine ⟨fr.finish undef :: cs, hS.swap hm ((okF_mono hm hfr).finish (undef_ok E m)) (finish_kind fr _), fun wl w' es h => ⟨seen E.P fr.fn (if (fr.kind == .early) = true then #[] else es) ++ #[], ?_⟩, fun w' es h => ⟨seen E.P fr.fn (if (fr.kind == .early) = true then #[] else es) ++ #[], evs_seen, ?_⟩⟩
      · unfold stepG.apply
        simp only [if_true, h]
        rfl
      · rw [List.map_cons, finish_rF f n1 n2, show rV f undef = undef from undef_rV f]
        unfold stepG.apply
        simp only [if_true, h]
        rfl
    | enter g args =>
      obtain ⟨rfl, hT, ha⟩ := hq
      refine ⟨Frame.enter E.P g args .normal :: fr :: cs, hS.push hm (.enter C hT ha (.inl rfl)), fun wl w' es h => ⟨seen E.P fr.fn (if (fr.kind == .early) = true then #[] else es) ++ #[], ?_⟩, fun w' es h => ⟨seen E.P (rF f fr).fn (if ((rF f fr).kind == .early) = true then #[] else es) ++ #[], evs_seen, ?_⟩⟩
      · unfold stepG.apply
        simp only [if_true, h]
        split
        all_goals
          split
          · rename_i e
            exact absurd e (n1 _ _ _ _ _)
          · rfl
      · rw [List.map_cons, enter_rF, List.map_cons]
        unfold stepG.apply
        simp only [if_true, h]
        split
        all_goals
          split
          · rename_i e
            exact absurd e (n3 _ _ _ _ _)
          · rfl
    | round l g tmps a b =>
      obtain ⟨rfl, hI, hT, ht, h1, h2⟩ := hq
      refine ⟨Frame.round l g tmps a b .normal :: fr :: cs, hS.push hm (.ofRound C hI hT ht h1 h2 (.inl rfl)), fun wl w' es h => ⟨seen E.P fr.fn (if (fr.kind == .early) = true then #[] else es) ++ #[], ?_⟩, fun w' es h => ⟨seen E.P fr.fn (if (fr.kind == .early) = true then #[] else es) ++ #[], evs_seen, ?_⟩⟩
      · unfold stepG.apply
        simp only [if_true, h]
        rfl
      · rw [List.map_cons, round_rF, List.map_cons]
        unfold stepG.apply
        simp only [if_true, h]
        rfl
    | defer d =>
      obtain ⟨rfl, hd⟩ := hq
      have hfr2 : okF E M m { fr with defers := d :: fr.defers } := by
        have := okF_mono hm hfr
        refine ⟨this.fn, this.tmps, this.todo, fun x hx => ?_, this.mode, this.kind, this.round⟩
        cases hx with
        | head => exact hd
        | tail _ hx => exact this.defers x hx
      refine ⟨({ fr with defers := d :: fr.defers } : Frame).finish undef :: cs, hS.swap hm (hfr2.finish (undef_ok E m)) (finish_kind _ _), fun wl w' es h => ⟨seen E.P fr.fn (if (fr.kind == .early) = true then #[] else es) ++ #[], ?_⟩, fun w' es h => ⟨seen E.P fr.fn (if (fr.kind == .early) = true then #[] else es) ++ #[], evs_seen, ?_⟩⟩
      · unfold stepG.apply
        simp only [if_true, h]
        rfl
      · rw [List.map_cons, finish_rF f hfr2.noCall.1 hfr2.noCall.2, show rV f undef = undef from undef_rV f]
        unfold stepG.apply
        simp only [if_true, h]
        rfl
    | recover =>
      obtain rfl := hq
      rcases recover_sim (f := f) (okS_mono hm hS) Zg Zc with ⟨h1, h2⟩ | ⟨v, cs', h1, h2, hv, hS'⟩
      · refine ⟨fr.finish .nilIface :: cs, hS.swap hm ((okF_mono hm hfr).finish (okV_plain0 rfl)) (finish_kind fr _), fun wl w' es h => ⟨seen E.P fr.fn (if (fr.kind == .early) = true then #[] else es) ++ #[], ?_⟩, fun w' es h => ⟨seen E.P fr.fn (if (fr.kind == .early) = true then #[] else es) ++ #[], evs_seen, ?_⟩⟩
        · cases hro : fr.roundOf with
          | none =>
            unfold stepG.apply
            simp only [if_true, h, hro, h1]
            rfl
          | some l =>
            unfold stepG.apply
            simp only [if_true, h, hro, C.back, h1]
            rfl
        · rw [List.map_cons, finish_rF f n1 n2, show rV f .nilIface = .nilIface from rV_plain0 rfl]
          cases hro : (rF f fr).roundOf with
          | none =>
            unfold stepG.apply
            simp only [if_true, h, hro, h2]
            rfl
          | some l =>
            unfold stepG.apply
            simp only [if_true, h, hro, C.back, h2]
            rfl
      · refine ⟨fr.finish v :: cs', hS'.swap (Nat.le_refl _) (hS'.head.finish hv) (finish_kind fr _), fun wl w' es h => ⟨seen E.P fr.fn (if (fr.kind == .early) = true then #[] else es) ++ #[], ?_⟩, fun w' es h => ⟨seen E.P fr.fn (if (fr.kind == .early) = true then #[] else es) ++ #[], evs_seen, ?_⟩⟩
        · cases hro : fr.roundOf with
          | none =>
            unfold stepG.apply
            simp only [if_true, h, hro, h1]
            rfl
          | some l =>
            unfold stepG.apply
            simp only [if_true, h, hro, C.back, h1]
            rfl
        · rw [List.map_cons, finish_rF f n1 n2]
          cases hro : (rF f fr).roundOf with
          | none =>
            unfold stepG.apply
            simp only [if_true, h, hro, h2]
            rfl
          | some l =>
            unfold stepG.apply
            simp only [if_true, h, hro, C.back, h2]
            rfl
    | _ => exact hq.elim
  · refine .inr ⟨fr.raise [{ v, recovered := false }] :: cs, hS.swap hm ((okF_mono hm hfr).raise fun e he => ?_) (raise_kind fr _), fun wl w' es h => ⟨seen E.P fr.fn (if (fr.kind == .early) = true then #[] else es) ++ #[], ?_⟩, fun w' es h => ⟨seen E.P fr.fn (if (fr.kind == .early) = true then #[] else es) ++ #[], evs_seen, ?_⟩⟩
    · cases he with
      | head => exact ⟨hv, rfl⟩
      | tail _ h => cases h
    · unfold stepG.apply
      simp only [if_true, h]
      rfl
    · rw [List.map_cons, raise_rF]
      unfold stepG.apply
      simp only [if_true, h]
      rfl
end
section
variable {E : Env} {M : String → Bool} {f : Nat → Nat} {Zg Zc : List Frame} {hl : Array Obj} {w : World} {k k' : World → GStep}
theorem after_go {es es2 : Array Event} {g : Goroutine} {w : World} : (GStep.go g w es2).after es = .go g w (es ++ es2) := rfl
theorem gsim_then {α : Type} {Q : Nat → α → α → Prop} {t t' : Sem α} {k2 k2' : α → World → GStep} (hr : HRel E f hl w.heap) (hos : w.os = E.os) (h : Sim E f hl.size Q t t')
    (hbad : ∀ wl hh w' es, t.runT E.P wl #[] = (.halt hh w', es) → ∃ o w2 es2, k wl = .ended o w2 es2)
    (hk : ∀ wl a w' es, t.runT E.P wl #[] = (.ok a w', es) → ∃ es2, k wl = (k2 a w').after es2)
    (hk' : ∀ a' w' es, t'.runT E.P w #[] = (.ok a' w', es) → ∃ es2, (∀ e ∈ es2, e ∈ es) ∧ k' w = (k2' a' w').after es2)
    (hg : ∀ hl1 w1 a a', HRel E f hl1 w1.heap → w1.os = E.os → hl.size ≤ hl1.size → Q hl1.size a a' → GSim E M f Zg Zc hl1 w1 (k2 a) (k2' a')) :
    GSim E M f Zg Zc hl w k k' := by
  obtain ⟨l, r, hl1, ha, hs, hc⟩ := h hl w hr (Nat.le_refl _) hos
  match r, ha, hc with
  | none, ha, hc =>
    refine ⟨l, none, hl1, hs, fun wl hw hL => ?_, fun S e => by cases e⟩
    obtain ⟨x, es, hx, hh, w', hb, rfl⟩ := ha wl #[] hw hL
    exact hbad wl hh w' es hx
  | some (.error v), ha, hc =>
    refine ⟨l, none, hl1, hs, fun wl hw hL => ?_, fun S e => by cases e⟩
    obtain ⟨x, es, hx, rfl⟩ := ha wl #[] hw hL
    exact hbad wl _ _ es hx
  | some (.ok a), ha, hc =>
    obtain ⟨w1, es1, hL1, hx⟩ := hc (by simp)
    obtain ⟨x, hx, a', hQ, rfl⟩ := hx #[]
    obtain ⟨l2, r2, hl2, hs2, h1, h2⟩ := hg hl1 w1 a a' hL1.rel (hL1.os.trans hos) hs hQ
    refine ⟨l ++ l2, r2, hl2, Nat.le_trans hs hs2, fun wl hw hL => ?_, fun S e => ?_⟩
    · obtain ⟨x, es, hx, rfl⟩ := ha wl #[] hw hL.left
      obtain ⟨es2, e2⟩ := hk wl a _ es hx
      have h3 := h1 { wl with heap := hl1, drawn := wl.drawn + l.length } rfl (hL.right rfl rfl rfl)
      cases r2 with
      | none =>
        obtain ⟨o, w', es3, e3⟩ := h3
        exact ⟨o, w', es2 ++ es3, by rw [e2, e3]; rfl⟩
      | some S =>
        obtain ⟨es3, e3⟩ := h3
        refine ⟨es2 ++ es3, ?_⟩
        rw [e2, e3, after_go]
        simp [Nat.add_assoc]
    · obtain ⟨hS, w2, es2, hL2, e2⟩ := h2 S e
      obtain ⟨es3, hsub, e3⟩ := hk' a' w1 _ hx
      refine ⟨hS, w2, es3 ++ es2, (hL1.sub fun e he => by simpa using hsub e he).trans hr hL2 hs hs2, ?_⟩
      rw [e3, e2, after_go]
theorem yielded_rV (f : Nat → Nat) (ops : Array Oper) (tmps : Array Value) : yielded ops (tmps.map (rV f)) = yielded ops tmps := by
  funext j
  unfold yielded
  cases (ops[j]?).bind (·.dst) with
  | none => rfl
  | some d =>
    simp only [Option.bind_some, Array.getElem?_map]
    cases tmps[d]? with
    | none => rfl
    | some v => cases v <;> simp [rV]
theorem dropWhile_none {l : List PanicEntry} (h : ∀ e ∈ l, e.goexit = false) : l.dropWhile (fun e => !e.goexit) = [] := by
  induction l with
  | nil => rfl
  | cons a l ih =>
    rw [List.dropWhile_cons, h a (.head _)]
    exact ih fun e he => h e (.tail _ he)
theorem gsim_return (hr : HRel E f hl w.heap) {fr c : Frame} {cs : List Frame} {v : Value} {main main' : Bool} (hS : okS E M hl.size (fr :: c :: cs)) (hv : okV E hl.size v) :
    GSim E M f Zg Zc hl w (fun wl => doReturn E.P main fr (c :: cs ++ Zg) none v wl) (fun wc => doReturn E.P main' (rF f fr) ((c :: cs).map (rF f) ++ Zc) none (rV f v) wc) := by
  have hS2 : okS E M hl.size (c :: cs) := ⟨fun x hx => hS.1 x (.tail _ hx), botN_tail hS.2 (by simp)⟩
  have hc := hS2.head
  rcases hS.head.kind with hk | hk
  · refine GSim.go (S := c.finish v :: cs) hr (hS2.swap (Nat.le_refl _) (hc.finish hv) (finish_kind c v)) (fun wl => ⟨#[], ?_⟩) ?_
    · simp only [doReturn, List.cons_append, hk]
      rfl
    · rw [List.map_cons, List.map_cons, finish_rF f hc.noCall.1 hc.noCall.2]
      have : (rF f fr).kind = .normal := hk
      simp only [doReturn, List.cons_append, this]
      rfl
  · have hk' : (rF f fr).kind = .deferred := hk
    obtain ⟨fn, tmps, todo, ds, mo, ki, ro⟩ := c
    cases mo with
    | run =>
      refine GSim.go hr hS2 (fun wl => ⟨#[], ?_⟩) ?_
      · simp only [doReturn, List.cons_append, hk]; rfl
      · simp only [doReturn, List.map_cons, List.cons_append, hk']; rfl
    | returning =>
      refine GSim.go hr hS2 (fun wl => ⟨#[], ?_⟩) ?_
      · simp only [doReturn, List.cons_append, hk]; rfl
      · simp only [doReturn, List.map_cons, List.cons_append, hk']; rfl
    | panicking ch =>
      cases ch with
      | nil =>
        refine GSim.go hr hS2 (fun wl => ⟨#[], ?_⟩) ?_
        · simp only [doReturn, List.cons_append, hk]; rfl
        · simp only [doReturn, List.map_cons, List.cons_append, hk']; rfl
      | cons e older =>
        obtain ⟨ev, rc, ge⟩ := e
        cases rc with
        | false =>
          refine GSim.go hr hS2 (fun wl => ⟨#[], ?_⟩) ?_
          · simp only [doReturn, List.cons_append, hk]; rfl
          · simp only [doReturn, List.map_cons, List.cons_append, hk']; rfl
        | true =>
          have hg : ∀ e ∈ older, e.goexit = false := fun e he => (hc.mode e (.tail _ he)).2
          have hg' : ∀ e ∈ older.map (rP f), e.goexit = false := fun e he => by
            obtain ⟨x, hx, rfl⟩ := List.mem_map.1 he
            exact hg x hx
          refine GSim.go (S := ⟨fn, tmps, todo, ds, .returning, ki, ro⟩ :: cs) hr (hS2.swap (Nat.le_refl _) ⟨hc.fn, hc.tmps, hc.todo, hc.defers, trivial, hc.kind, hc.round⟩ ⟨rfl, rfl⟩) (fun wl => ⟨#[], ?_⟩) ?_
          · simp only [doReturn, List.cons_append, hk, dropWhile_none hg]; rfl
          · simp only [doReturn, List.map_cons, List.cons_append, hk, rF, rM, rP, dropWhile_none hg']; rfl
end
section
variable {E : Env} {M : String → Bool} {f : Nat → Nat} {Zg Zc : List Frame} {hl : Array Obj} {w : World} {k k' : World → GStep} {main main' : Bool}
theorem GSim.mk2 {k2 k2' : World → GStep} (h : GSim E M f Zg Zc hl w k2 k2') (e : ∀ wl, k wl = k2 wl) (e' : k' w = k2' w) : GSim E M f Zg Zc hl w k k' := by
  obtain ⟨l, r, hl', h1, h2, h3⟩ := h
  refine ⟨l, r, hl', h1, fun wl hw hL => ?_, fun S hS => ?_⟩
  · rw [e wl]
    exact h2 wl hw hL
  · rw [e']
    exact h3 S hS
theorem gsim_leave (F : Fit E f) (hr : HRel E f hl w.heap) (hos : w.os = E.os) {fr : Frame} {cs : List Frame} (hS : okS E M hl.size (fr :: cs)) {jump : Option Code} (hj : ∀ c, jump = some c → E.C c = true)
    (h0 : fr.roundOf = none → (∀ wl, ∃ o w2 es2, k wl = .ended o w2 es2) ∨ ((∀ wl, ∃ es, k wl = .go (gor ({ fr with mode := .returning } :: cs) Zg) wl es) ∧ k' w = .go (gor (({ fr with mode := .returning } :: cs).map (rF f)) Zc) w #[]))
    (h1 : ∀ l, fr.roundOf = some l → ∀ wl hh w' es, (Instr.endRound l jump).runT E.P wl #[] = (.halt hh w', es) → ∃ o w2 es2, k wl = .ended o w2 es2)
    (h2 : ∀ l, fr.roundOf = some l → ∀ wl v w' es, (Instr.endRound l jump).runT E.P wl #[] = (.ok v w', es) → ∃ es2, k wl = (doReturn E.P main fr (cs ++ Zg) none v w').after es2)
    (h3 : ∀ l, fr.roundOf = some l → ∀ v w' es, (Instr.endRound (f l) jump).runT E.P w #[] = (.ok v w', es) → ∃ es2, (∀ e ∈ es2, e ∈ es) ∧ k' w = (doReturn E.P main' (rF f fr) (cs.map (rF f) ++ Zc) none v w').after es2) :
    GSim E M f Zg Zc hl w k k' := by
  have hfr := hS.head
  cases hro : fr.roundOf with
  | none =>
    rcases h0 hro with h | ⟨h, h'⟩
    · exact GSim.ended h
    · exact GSim.go (S := { fr with mode := .returning } :: cs) hr (hS.swap (Nat.le_refl _) ⟨hfr.fn, hfr.tmps, hfr.todo, hfr.defers, trivial, hfr.kind, hfr.round⟩ ⟨rfl, rfl⟩) h h'
  | some l =>
    cases cs with
    | nil =>
      have := hS.2.2
      rw [hro] at this
      cases this
    | cons c cs =>
      refine gsim_then (k2 := fun v w' => doReturn E.P main fr (c :: cs ++ Zg) none v w') (k2' := fun v w' => doReturn E.P main' (rF f fr) ((c :: cs).map (rF f) ++ Zc) none v w') hr hos (sim_endRound F (hfr.round l hro) hj) (h1 l hro) (fun wl a w' es h => h2 l hro wl a w' es h) (fun a' w' es h => h3 l hro a' w' es h) fun hl1 w1 v v' hr1 _ hs hq => ?_
      obtain ⟨rfl, hv⟩ := hq
      exact gsim_return hr1 (okS_mono hs hS) hv
theorem gsim_to (hr : HRel E f hl w.heap) {fr : Frame} {cs : List Frame} (hS : okS E M hl.size (fr :: cs)) {todo : List Item} (ht : ∀ i ∈ todo, okI E M hl.size fr.roundOf.isSome i)
    (h : ∀ wl, k wl = .go (gor ({ fr with todo := todo } :: cs) Zg) wl #[]) (h' : k' w = .go (gor ({ rF f fr with todo := todo.map (rI f) } :: cs.map (rF f)) Zc) w #[]) : GSim E M f Zg Zc hl w k k' := by
  have hfr := hS.head
  refine GSim.go (S := { fr with todo := todo } :: cs) hr (hS.swap (Nat.le_refl _) ⟨hfr.fn, hfr.tmps, ht, hfr.defers, hfr.mode, hfr.kind, hfr.round⟩ ⟨rfl, rfl⟩) (fun wl => ⟨#[], h wl⟩) ?_
  rw [h', List.map_cons]
  rfl
theorem okI_cons {n : Nat} {r : Bool} {i : Item} {k : List Item} (hi : okI E M n r i) (hk : ∀ i ∈ k, okI E M n r i) : ∀ j ∈ i :: k, okI E M n r j := fun j hj => by
  cases hj with
  | head => exact hi
  | tail _ h => exact hk j h
theorem gsim_oper (F : Fit E f) (H : RtOk E) (X : CallOk E M) (C : CodeOk E M) (hr : HRel E f hl w.heap) (hos : w.os = E.os) {fn : FuncId} {tmps : Array Value} {ops : Array Oper} {i : Nat} {l : List Nat} {kk : List Item} {ds : List Deferred} {mo : FrameMode} {ki : CallKind} {ro : Option Nat} {cs : List Frame}
    (hS : okS E M hl.size (⟨fn, tmps, .inRegion ops (i :: l) :: kk, ds, mo, ki, ro⟩ :: cs)) :
    GSim E M f Zg Zc hl w (fun wl => stepG.oper E.P true ⟨fn, tmps, .inRegion ops (i :: l) :: kk, ds, mo, ki, ro⟩ (cs ++ Zg) none wl) (fun wc => stepG.oper E.P true (rF f ⟨fn, tmps, .inRegion ops (i :: l) :: kk, ds, mo, ki, ro⟩) (cs.map (rF f) ++ Zc) none wc) := by
  have hfr := hS.head
  obtain ⟨ho, hnd⟩ := hfr.todo (.inRegion ops (i :: l)) (.head _)
  cases hop : ops[i]? with
  | none =>
    refine GSim.ended fun wl => ?_
    simp only [stepG.oper, Frame.oper?, hop]
    exact ⟨_, _, _, rfl⟩
  | some o =>
    have hmem : o ∈ ops.toList := by simpa using Array.mem_of_getElem? hop
    have ho2 := List.all_eq_true.1 ho o hmem
    have hsim := sim_execOp F H X (rho_frame F C hfr) ho2
    refine GSim.mk2 (gsim_apply (Zg := Zg) (Zc := Zc) C hr hos hS hsim) (fun wl => ?_) ?_
    · simp only [stepG.oper, Frame.oper?, hop]
      split
      · rename_i e1 e2
        have := List.all_eq_true.1 (hnd rfl) o hmem
        unfold noDO at this
        rw [e2] at this
        cases this
      · rfl
    · simp only [stepG.oper, Frame.oper?, rF, List.map_cons, rI, hop]
      split
      · rename_i e1 e2
        cases ro with
        | none => cases e1
        | some x =>
          have := List.all_eq_true.1 (hnd rfl) o hmem
          unfold noDO at this
          rw [e2] at this
          cases this
      · rfl
theorem resolve_one (fr : Frame) (x : Operand) (v : Value) : resolve fr.eval { callee := .value x, args := #[.const v], argTypes := #[] } 0 = Deferred.ofValue (fr.eval x) #[v] := by
  unfold resolve
  simp [Frame.eval]
theorem eval_same (fn : FuncId) (tmps : Array Value) (t t' : List Item) (d d' : List Deferred) (mo : FrameMode) (ki : CallKind) (ro : Option Nat) (x : Operand) : (⟨fn, tmps, t, d, mo, ki, ro⟩ : Frame).eval x = (⟨fn, tmps, t', d', mo, ki, ro⟩ : Frame).eval x := by
  cases x <;> rfl
theorem gsim_exec (F : Fit E f) (H : RtOk E) (X : CallOk E M) (C : CodeOk E M) (hr : HRel E f hl w.heap) (hos : w.os = E.os) {fr : Frame} {cs : List Frame} (hS : okS E M hl.size (fr :: cs)) :
    GSim E M f Zg Zc hl w (fun wl => stepG.exec E.P main true fr (cs ++ Zg) none wl) (fun wc => stepG.exec E.P main' true (rF f fr) (cs.map (rF f) ++ Zc) none wc) := by
  have hfr := hS.head
  obtain ⟨fn, tmps, todo, ds, mo, ki, ro⟩ := fr
  cases todo with
  | nil =>
    refine gsim_leave (main := main) (main' := main') F hr hos hS (jump := none) (fun c h => by cases h) (fun h => .inr ⟨fun wl => ⟨#[], ?_⟩, ?_⟩) (fun l hl' wl hh w' es h => ?_) (fun l hl' wl v w' es h => ⟨seen E.P fn es, ?_⟩) (fun l hl' v w' es h => ⟨seen E.P fn es, fun e he => mem_seen he, ?_⟩)
    · dsimp only at h
      subst h
      rfl
    · dsimp only at h
      subst h
      rfl
    · dsimp only at hl'
      subst hl'
      simp only [stepG.exec, h]
      exact ⟨_, _, _, rfl⟩
    · dsimp only at hl'
      subst hl'
      simp only [stepG.exec, h]
    · dsimp only at hl'
      subst hl'
      simp only [stepG.exec, rF, List.map_nil, Option.map_some, h]
  | cons i kk =>
    have hkk : ∀ i ∈ kk, okI E M hl.size ro.isSome i := fun i hi => hfr.todo i (.tail _ hi)
    have hi := hfr.todo i (.head _)
    cases i with
    | code c =>
      obtain ⟨hc, hnd⟩ := hi
      cases c with
      | skip => exact gsim_to hr hS hkk (fun wl => rfl) rfl
      | ret =>
        refine gsim_leave (main := main) (main' := main') F hr hos hS (jump := some .ret) (fun c h => by cases h; rw [C.loops]; rfl) (fun h => .inr ⟨fun wl => ⟨#[], ?_⟩, ?_⟩) (fun l hl' wl hh w' es h => ?_) (fun l hl' wl v w' es h => ⟨seen E.P fn es, ?_⟩) (fun l hl' v w' es h => ⟨seen E.P fn es, fun e he => mem_seen he, ?_⟩)
        · dsimp only at h
          subst h
          rfl
        · dsimp only at h
          subst h
          rfl
        · dsimp only at hl'
          subst hl'
          simp only [stepG.exec, h]
          exact ⟨_, _, _, rfl⟩
        · dsimp only at hl'
          subst hl'
          simp only [stepG.exec, h]
        · dsimp only at hl'
          subst hl'
          simp only [stepG.exec, rF, List.map_cons, rI, Option.map_some, h]
      | refuse why => exact GSim.ended fun wl => ⟨_, _, _, rfl⟩
      | seq a b =>
        simp only [okCode, noD, Bool.and_eq_true] at hc hnd
        exact gsim_to hr hS (todo := .code a :: .code b :: kk) (okI_cons ⟨hc.1, fun h => (hnd h).1⟩ (okI_cons ⟨hc.2, fun h => (hnd h).2⟩ hkk)) (fun wl => rfl) rfl
      | cond c a b =>
        simp only [okCode, noD, Bool.and_eq_true] at hc hnd
        obtain ⟨e, hx⟩ := rho_frame F C hfr c hc.1
        cases hv : (⟨fn, tmps, .code (.cond c a b) :: kk, ds, mo, ki, ro⟩ : Frame).eval c with
        | bool bb =>
          rw [hv, rV] at e
          refine gsim_to hr hS (todo := .code (if bb then a else b) :: kk) (okI_cons ?_ hkk) (fun wl => ?_) ?_
          · cases bb with
            | true => exact ⟨hc.2.1, fun h => (hnd h).1⟩
            | false => exact ⟨hc.2.2, fun h => (hnd h).2⟩
          · simp only [stepG.exec, hv]
            rfl
          · have e' : (⟨fn, tmps.map (rV f), .code (.cond c a b) :: kk.map (rI f), ds.map (rD f), rM f mo, ki, ro.map f⟩ : Frame).eval c = .bool bb := e
            simp only [stepG.exec, rF, List.map_cons, rI, e']
            rfl
        | _ =>
          refine GSim.ended fun wl => ?_
          simp only [stepG.exec, hv]
          exact ⟨_, _, _, rfl⟩
      | block id c =>
        exact gsim_to hr hS (todo := .code c :: .inBlock id :: kk) (okI_cons ⟨hc, hnd⟩ (okI_cons trivial hkk)) (fun wl => rfl) rfl
      | loop c =>
        exact gsim_to hr hS (todo := .code c :: .inLoop c :: kk) (okI_cons ⟨hc, hnd⟩ (okI_cons ⟨hc, hnd⟩ hkk)) (fun wl => rfl) rfl
      | exit id =>
        cases hx : exitTo id kk with
        | some k2 =>
          refine gsim_to hr hS (todo := k2) (fun i hi => hkk i (exitTo_sub id kk k2 hx i hi)) (fun wl => ?_) ?_
          · simp only [stepG.exec, hx]
            rfl
          · simp only [stepG.exec, rF, List.map_cons, rI, exitTo_rI, hx]
            rfl
        | none =>
          refine gsim_leave (main := main) (main' := main') F hr hos hS (jump := some (.exit id)) (fun c h => by cases h; rw [C.loops]; rfl) (fun h => .inl fun wl => ?_) (fun l hl' wl hh w' es h => ?_) (fun l hl' wl v w' es h => ⟨seen E.P fn es, ?_⟩) (fun l hl' v w' es h => ⟨seen E.P fn es, fun e he => mem_seen he, ?_⟩)
          · dsimp only at h
            subst h
            simp only [stepG.exec, hx]
            exact ⟨_, _, _, rfl⟩
          · dsimp only at hl'
            subst hl'
            simp only [stepG.exec, hx, Option.elim, h]
            exact ⟨_, _, _, rfl⟩
          · dsimp only at hl'
            subst hl'
            simp only [stepG.exec, hx, Option.elim, h]
          · dsimp only at hl'
            subst hl'
            simp only [stepG.exec, rF, List.map_cons, rI, Option.map_some, exitTo_rI, hx, Option.map_none, Option.elim, h]
      | region id ops draw =>
        cases draw with
        | false => exact gsim_to hr hS (todo := .inRegion ops (List.range ops.size) :: kk) (okI_cons ⟨hc, hnd⟩ hkk) (fun wl => rfl) rfl
        | true =>
          refine gsim_of hr hos (Sim.choose (.order fn id)) (fun wl hh w' es hb h => ?_) (fun m t t' hm hq => ?_) (fun m v hm hv => .inl fun wl w' es h => ?_)
          · have h2 : (choose (.order fn id)).run E.P wl = .halt hh w' := by rw [← Sem.runT_fst E.P _ wl #[], h]
            simp only [stepG.exec, h2]
            exact ⟨_, _, _, rfl⟩
          · obtain rfl := hq
            have hm' := okF_mono hm hfr
            refine ⟨⟨fn, tmps, .inRegion ops (Region.schedule (E.P.follows .mixedOrders) ops t') :: kk, ds, mo, ki, ro⟩ :: cs, hS.swap hm ⟨hm'.fn, hm'.tmps, okI_cons ⟨hc, hnd⟩ fun i hi => hm'.todo i (.tail _ hi), hm'.defers, hm'.mode, hm'.kind, hm'.round⟩ ⟨rfl, rfl⟩, fun wl w' es h => ⟨#[], ?_⟩, fun w' es h => ⟨#[], fun e he => by simp at he, ?_⟩⟩
            · have h2 : (choose (.order fn id)).run E.P wl = .ok t' w' := by rw [← Sem.runT_fst E.P _ wl #[], h]
              simp only [stepG.exec, h2]
              rfl
            · have h2 : (choose (.order fn id)).run E.P w = .ok t' w' := by rw [← Sem.runT_fst E.P _ w #[], h]
              simp only [stepG.exec, rF, List.map_cons, rI, h2]
              rfl
          · have h2 : (choose (.order fn id)).run E.P wl = .halt (.panic v) w' := by rw [← Sem.runT_fst E.P _ wl #[], h]
            simp only [stepG.exec, h2]
            exact ⟨_, _, _, rfl⟩
      | rangeFunc x ps a b =>
        simp only [okCode, Bool.and_eq_true] at hc
        obtain ⟨hx, ⟨ha1, ha2⟩, hb1, hb2⟩ := hc
        have hCa : E.C a = true := by rw [C.loops, ha1, ha2]; rfl
        have hCb : E.C b = true := by rw [C.loops, hb1, hb2]; rfl
        refine gsim_then (k2 := fun p w' => stepG.apply E.P true ⟨fn, tmps, .inRangeFunc p.1 :: kk, p.2 ++ ds, mo, ki, ro⟩ (cs ++ Zg) none (Deferred.ofValue ((⟨fn, tmps, .code (.rangeFunc x ps a b) :: kk, ds, mo, ki, ro⟩ : Frame).eval x) #[.func (.yield p.1) #[] #[]] >>= fun d => invoke d.target d.args) w')
          (k2' := fun p w' => stepG.apply E.P true ⟨fn, tmps.map (rV f), .inRangeFunc p.1 :: kk.map (rI f), p.2 ++ ds.map (rD f), rM f mo, ki, ro.map f⟩ (cs.map (rF f) ++ Zc) none (Deferred.ofValue ((rF f ⟨fn, tmps, .code (.rangeFunc x ps a b) :: kk, ds, mo, ki, ro⟩).eval x) #[.func (.yield p.1) #[] #[]] >>= fun d => invoke d.target d.args) w')
          hr hos (sim_enterLoop (fn := fn) (tmps := tmps) (params := ps) (assign := a) (body := b) (around := ro) hfr.fn hfr.tmps hCa hCb hfr.round) (fun wl hh w' es h => ?_) (fun wl p w' es h => ⟨seen E.P fn es, ?_⟩) (fun p w' es h => ⟨seen E.P fn es, fun e he => mem_seen he, ?_⟩) fun hl1 w1 p p' hr1 hos1 hs hq => ?_
        · simp only [stepG.exec, h]
          exact ⟨_, _, _, rfl⟩
        · obtain ⟨l, mk⟩ := p
          simp only [stepG.exec, h, resolve_one]
          rw [eval_same fn tmps (.inRangeFunc l :: kk) (.code (.rangeFunc x ps a b) :: kk) (mk ++ ds) ds mo ki ro x]
        · obtain ⟨l, mk⟩ := p
          simp only [stepG.exec, rF, List.map_cons, rI, h, resolve_one]
          rw [eval_same fn (tmps.map (rV f)) (.inRangeFunc l :: kk.map (rI f)) (.code (.rangeFunc x ps a b) :: kk.map (rI f)) (mk ++ ds.map (rD f)) (ds.map (rD f)) (rM f mo) ki (ro.map f) x]
        · obtain ⟨rfl, hI, hmk⟩ := hq
          obtain ⟨l, mk⟩ := p
          dsimp only at hI hmk ⊢
          obtain ⟨e, hv⟩ := rho_frame F C hfr x hx
          have hm' := okF_mono hs hfr
          have hyl : okAll E hl1.size #[.func (.yield l) #[] #[]] := fun y hy => by
            simp only [List.mem_toArray, List.mem_cons, List.not_mem_nil, or_false] at hy
            subst hy
            rw [okV]
            exact ⟨hI, empty_ok, empty_ok⟩
          have hsim : Sim E f hl1.size (NQ E f) (Deferred.ofValue ((⟨fn, tmps, .code (.rangeFunc x ps a b) :: kk, ds, mo, ki, ro⟩ : Frame).eval x) #[.func (.yield l) #[] #[]] >>= fun d => invoke d.target d.args) (Deferred.ofValue ((rF f ⟨fn, tmps, .code (.rangeFunc x ps a b) :: kk, ds, mo, ki, ro⟩).eval x) #[.func (.yield (f l)) #[] #[]] >>= fun d => invoke d.target d.args) := by
            have h1 := sim_ofValue (f := f) (okV_mono hs _ hv) hyl
            rw [← e] at h1
            rw [show (#[.func (.yield l) #[] #[]] : Array Value).map (rV f) = #[.func (.yield (f l)) #[] #[]] by simp [rV, rFn]] at h1
            refine h1.bind fun m d d' _ hd => ?_
            obtain ⟨rfl, hd⟩ := hd
            exact sim_invokeD F H X hd
          have hS1 : okS E M hl1.size (⟨fn, tmps, .inRangeFunc l :: kk, mk ++ ds, mo, ki, ro⟩ :: cs) := by
            refine hS.swap hs ⟨hm'.fn, hm'.tmps, okI_cons hI fun i hi => hm'.todo i (.tail _ hi), fun d hd => ?_, hm'.mode, hm'.kind, hm'.round⟩ ⟨rfl, rfl⟩
            rcases List.mem_append.1 hd with h | h
            · exact hmk d h
            · exact hm'.defers d h
          refine GSim.mk2 (gsim_apply (Zg := Zg) (Zc := Zc) C hr1 hos1 hS1 hsim) (fun wl => rfl) ?_
          simp only [rF, List.map_cons, rI, List.map_append]
      | _ => cases hc
    | inBlock id => exact gsim_to hr hS hkk (fun wl => rfl) rfl
    | inLoop c => exact gsim_to hr hS (todo := .code c :: .inLoop c :: kk) (okI_cons hi (okI_cons hi hkk)) (fun wl => rfl) rfl
    | inRegion ops l =>
      cases l with
      | nil => exact gsim_to hr hS hkk (fun wl => rfl) rfl
      | cons i l =>
        cases hw : ((ops[i]?).map (Region.wanted · (yielded ops tmps))).getD false with
        | true =>
          refine GSim.mk2 (gsim_oper (Zg := Zg) (Zc := Zc) F H X C hr hos hS) (fun wl => ?_) ?_
          · simp only [stepG.exec, hw]
            rfl
          · simp only [stepG.exec, rF, List.map_cons, rI, yielded_rV, hw]
            rfl
        | false =>
          refine GSim.go (S := (⟨fn, tmps, .inRegion ops (i :: l) :: kk, ds, mo, ki, ro⟩ : Frame).finish undef :: cs) hr (hS.swap (Nat.le_refl _) (hfr.finish (undef_ok E _)) (finish_kind _ _)) (fun wl => ⟨#[], ?_⟩) ?_
          · simp only [stepG.exec, hw]
            rfl
          · rw [List.map_cons, finish_rF f hfr.noCall.1 hfr.noCall.2, show rV f undef = undef from undef_rV f]
            simp only [stepG.exec, rF, List.map_cons, rI, yielded_rV, hw]
            rfl
    | inRangeFunc l => exact GSim.ended fun wl => ⟨_, _, _, rfl⟩
    | endRangeFunc l =>
      refine gsim_of hr hos (sim_endLoop F H hi) (fun wl hh w' es hb h => ?_) (fun m j j' hm hq => ?_) (fun m v hm hv => .inr ?_)
      · cases hh with
        | panic v => exact hb.elim
        | _ =>
          simp only [stepG.exec, h]
          exact ⟨_, _, _, rfl⟩
      · obtain ⟨rfl, hj⟩ := hq
        have hm' := okF_mono hm hfr
        refine ⟨⟨fn, tmps, (j'.map Item.code).toList ++ kk, ds, mo, ki, ro⟩ :: cs, hS.swap hm ⟨hm'.fn, hm'.tmps, fun i hi => ?_, hm'.defers, hm'.mode, hm'.kind, hm'.round⟩ ⟨rfl, rfl⟩, fun wl w' es h => ⟨seen E.P fn es ++ #[], ?_⟩, fun w' es h => ⟨seen E.P fn es ++ #[], sub_seen, ?_⟩⟩
        · rcases List.mem_append.1 hi with h | h
          · cases j' with
            | none => cases h
            | some c =>
              have := hj c rfl
              rw [C.loops, Bool.and_eq_true] at this
              cases h with
              | head => exact ⟨this.1, fun _ => this.2⟩
              | tail _ h => cases h
          · exact hm'.todo i (.tail _ h)
        · simp only [stepG.exec, h]
          rfl
        · simp only [stepG.exec, rF, List.map_cons, rI, h]
          cases j' with
          | none => rfl
          | some c => rfl
      · have hm' := okF_mono hm hfr
        refine ⟨(⟨fn, tmps, .endRangeFunc l :: kk, ds, mo, ki, ro⟩ : Frame).raise [{ v, recovered := false }] :: cs, hS.swap hm (hm'.raise fun e he => ?_) (raise_kind _ _), fun wl w' es h => ⟨seen E.P fn es ++ #[], ?_⟩, fun w' es h => ⟨seen E.P fn es ++ #[], sub_seen, ?_⟩⟩
        · cases he with
          | head => exact ⟨hv, rfl⟩
          | tail _ h => cases h
        · simp only [stepG.exec, h]
          rfl
        · rw [List.map_cons, raise_rF]
          simp only [stepG.exec, rF, List.map_cons, rI, h]
          rfl
    | beginRound =>
      have hsim : Sim E f hl.size (NQ E f) (ro.elim (stuck "beginRound: no round") Instr.beginRound >>= fun _ => Pure.pure .skip) ((ro.map f).elim (stuck "beginRound: no round") Instr.beginRound >>= fun _ => Pure.pure .skip) := by
        cases hro : ro with
        | none => exact Sim.stuckB
        | some l => exact sim_skip (sim_beginRound F H (hfr.round l hro))
      exact GSim.mk2 (gsim_apply (Zg := Zg) (Zc := Zc) C hr hos hS hsim) (fun wl => rfl) rfl
    | _ => exact hi.elim
end
section
variable {E : Env} {M : String → Bool} {f : Nat → Nat} {Zg Zc : List Frame} {hl : Array Obj} {w : World} {k k' : World → GStep} {main main' : Bool}
theorem sim_resultsL (F : Fit E f) (H : RtOk E) {tmps : Array Value} : ∀ (l : List ResultVar) (n : Nat), okAll E n tmps → Sim E f n (fun m vs vs' => vs' = vs.map (rV f) ∧ ∀ v ∈ vs, okV E m v)
    (l.mapM fun | .tmp t => (pure (tmps.getD t undef) : Sem Value) | .cell a t => do loadVar t (← asAddr (tmps.getD a undef))) (l.mapM fun | .tmp t => (pure ((tmps.map (rV f)).getD t undef) : Sem Value) | .cell a t => do loadVar t (← asAddr ((tmps.map (rV f)).getD a undef)))
  | [], n, _ => Sim.pure fun m hm => ⟨rfl, fun v hv => by cases hv⟩
  | r :: l, n, ht => by
    rw [List.mapM_cons, List.mapM_cons]
    have h1 : Sim E f n (VQ E f) (match r with | .tmp t => (pure (tmps.getD t undef) : Sem Value) | .cell a t => do loadVar t (← asAddr (tmps.getD a undef))) (match r with | .tmp t => (pure ((tmps.map (rV f)).getD t undef) : Sem Value) | .cell a t => do loadVar t (← asAddr ((tmps.map (rV f)).getD a undef))) := by
      cases r with
      | tmp t => exact Sim.pure fun m hm => ⟨getD_rV f tmps t, okV_mono hm _ (okAll_getD ht t)⟩
      | cell a t =>
        dsimp only
        rw [show (tmps.map (rV f)).getD a undef = rV f (tmps.getD a undef) from getD_rV f tmps a]
        refine (sim_asAddr F H (okAll_getD ht a)).bind fun m x x' hm hx => ?_
        obtain ⟨rfl, hA⟩ := hx
        exact sim_loadVar F hA t
    refine h1.bind fun m v v' hm hv => ?_
    obtain ⟨rfl, hv⟩ := hv
    refine (sim_resultsL F H l m (okAll_mono ht hm)).bind fun m2 vs vs' hm2 hvs => ?_
    obtain ⟨rfl, hvs⟩ := hvs
    refine Sim.pure fun m3 hm3 => ⟨rfl, fun x hx => ?_⟩
    cases hx with
    | head => exact okV_mono (Nat.le_trans hm2 hm3) _ hv
    | tail _ hx => exact okV_mono hm3 _ (hvs x hx)
theorem sim_results (F : Fit E f) (H : RtOk E) {n : Nat} {fn : Func} {tmps : Array Value} (ht : okAll E n tmps) : Sim E f n (VQ E f) (results fn tmps) (results fn (tmps.map (rV f))) := by
  unfold results
  rw [Array.mapM_eq_mapM_toList, Array.mapM_eq_mapM_toList]
  simp only [map_eq_pure_bind, bind_assoc, pure_bind]
  refine (sim_resultsL F H fn.results.toList n ht).bind fun m vs vs' hm hvs => ?_
  obtain ⟨rfl, hvs⟩ := hvs
  refine Sim.pure fun m2 hm2 => ?_
  match vs with
  | [v] => exact ⟨rfl, okV_mono hm2 _ (hvs v (.head _))⟩
  | [] =>
    refine ⟨by simp [rV], ?_⟩
    show okV E m2 (.tuple #[])
    exact undef_ok E m2
  | v :: u :: vs =>
    refine ⟨by simp [rV], ?_⟩
    show okV E m2 (.tuple (v :: u :: vs).toArray)
    rw [okV]
    exact fun x hx => okV_mono hm2 _ (hvs x (by simpa using hx))
theorem callDef {P : Program} {fr : Frame} {cs : List Frame} {d : Deferred} {w : World} (hn : d.target ≠ .nil ∨ ∀ ch, fr.mode ≠ .panicking ch) {r : Result Next} {es : Array Event} (h : (invoke d.target d.args).runT P w #[] = (r, es)) :
    (∀ g args w', r = .ok (.enter g args) w' → callDeferred P fr cs none d w = .go { frame := Frame.enter P g args .deferred, callers := fr :: cs, status := .running, dying := none } w' (seen P fr.fn es ++ #[])) ∧
    (∀ l g tmps a b w', r = .ok (.round l g tmps a b) w' → callDeferred P fr cs none d w = .go { frame := Frame.round l g tmps a b .deferred, callers := fr :: cs, status := .running, dying := none } w' (seen P fr.fn es ++ #[])) ∧
    (∀ v w', r = .ok (.value v) w' → callDeferred P fr cs none d w = .go { frame := fr, callers := cs, status := .running, dying := none } w' (seen P fr.fn es ++ #[])) ∧
    (∀ w', r = .ok .skip w' → callDeferred P fr cs none d w = .go { frame := fr, callers := cs, status := .running, dying := none } w' (seen P fr.fn es ++ #[])) ∧
    (∀ x w', r = .ok (.defer x) w' → callDeferred P fr cs none d w = .go { frame := fr, callers := cs, status := .running, dying := none } w' (seen P fr.fn es ++ #[])) ∧
    (∀ w', r = .ok .recover w' → (tryRecover fr cs = none ∨ fr.mode ≠ .returning) → callDeferred P fr cs none d w = .go { frame := fr, callers := cs, status := .running, dying := none } w' (seen P fr.fn es ++ #[])) ∧
    (∀ w' v cs', r = .ok .recover w' → tryRecover fr cs = some (v, cs') → fr.mode = .returning → callDeferred P fr cs none d w = .go { frame := fr, callers := cs', status := .running, dying := none } w' (seen P fr.fn es ++ #[])) ∧
    (∀ v w', r = .halt (.panic v) w' → callDeferred P fr cs none d w = .go { frame := fr.raise [{ v, recovered := false }], callers := cs, status := .running, dying := none } w' (seen P fr.fn es ++ #[])) ∧
    (∀ s w', r = .halt (.stuck s) w' → ∃ o w2 es2, callDeferred P fr cs none d w = .ended o w2 es2) ∧
    (∀ u w', r = .halt (.unsupported u) w' → ∃ o w2 es2, callDeferred P fr cs none d w = .ended o w2 es2) := by
  generalize hcd : callDeferred P fr cs none d w = x
  unfold callDeferred at hcd
  rw [if_neg] at hcd
  · simp only [h] at hcd
    subst hcd
    refine ⟨?_, ?_, ?_, ?_, ?_, ?_, ?_, ?_, ?_, ?_⟩
    · rintro g args w' rfl; rfl
    · rintro l g tmps a b w' rfl; rfl
    · rintro v w' rfl; rfl
    · rintro w' rfl; rfl
    · rintro x w' rfl; rfl
    · rintro w' rfl h1
      rcases h1 with h1 | h1
      · simp only [h1]
        cases fr.mode <;> rfl
      · cases hm : fr.mode with
        | returning => exact absurd hm h1
        | _ => rfl
    · rintro w' v cs' rfl h1 h2
      simp only [h1, h2]
      rfl
    · rintro v w' rfl; rfl
    · rintro s w' rfl; exact ⟨_, _, _, rfl⟩
    · rintro u w' rfl; exact ⟨_, _, _, rfl⟩
  · intro hc
    rw [Bool.and_eq_true] at hc
    rcases hn with hn | hn
    · have h1 := hc.1
      cases ht : d.target with
      | nil => exact hn ht
      | _ => rw [ht] at h1; cases h1
    · have h1 := hc.2
      cases ht : fr.mode with
      | panicking ch => exact hn ch ht
      | _ => rw [ht] at h1; cases h1
theorem gsim_deferred (F : Fit E f) (H : RtOk E) (X : CallOk E M) (C : CodeOk E M) (hr : HRel E f hl w.heap) (hos : w.os = E.os) {fr : Frame} {cs : List Frame} {d : Deferred} (hS : okS E M hl.size (fr :: cs)) (hd : okD E hl.size d) :
    GSim E M f Zg Zc hl w (fun wl => callDeferred E.P fr (cs ++ Zg) none d wl) (fun wc => callDeferred E.P (rF f fr) (cs.map (rF f) ++ Zc) none (rD f d) wc) := by
  have hfr := hS.head
  rcases Classical.em (d.target ≠ .nil ∨ ∀ ch, fr.mode ≠ .panicking ch) with hn | hn
  · have hn' : (rD f d).target ≠ .nil ∨ ∀ ch, (rF f fr).mode ≠ .panicking ch := by
      rcases hn with hn | hn
      · left
        intro e
        obtain ⟨t, as⟩ := d
        cases t with
        | nil => exact hn rfl
        | _ => cases e
      · right
        intro ch e
        obtain ⟨fn, tmps, todo, ds, mo, ki, ro⟩ := fr
        cases mo with
        | panicking c => exact hn c rfl
        | _ => cases e
    refine gsim_of hr hos (sim_invokeD F H X hd) (fun wl hh w' es hb h => ?_) (fun m a a' hm hq => ?_) (fun m v hm hv => .inr ?_)
    · obtain ⟨_, _, _, _, _, _, _, _, c9, c10⟩ := callDef (cs := cs ++ Zg) hn h
      cases hh with
      | stuck s => exact c9 _ _ rfl
      | unsupported u => exact c10 _ _ rfl
      | _ => exact hb.elim
    · have hS' := okS_mono hm hS
      cases a with
      | value v =>
        obtain ⟨rfl, hv⟩ := hq
        exact ⟨fr :: cs, hS', fun wl w' es h => ⟨_, (callDef hn h).2.2.1 _ _ rfl⟩, fun w' es h => ⟨seen E.P fr.fn es ++ #[], sub_seen, (callDef hn' h).2.2.1 _ _ rfl⟩⟩
      | skip =>
        obtain rfl := hq
        exact ⟨fr :: cs, hS', fun wl w' es h => ⟨_, (callDef hn h).2.2.2.1 _ rfl⟩, fun w' es h => ⟨seen E.P fr.fn es ++ #[], sub_seen, (callDef hn' h).2.2.2.1 _ rfl⟩⟩
      | defer d2 =>
        obtain ⟨rfl, hv⟩ := hq
        exact ⟨fr :: cs, hS', fun wl w' es h => ⟨_, (callDef hn h).2.2.2.2.1 _ _ rfl⟩, fun w' es h => ⟨seen E.P fr.fn es ++ #[], sub_seen, (callDef hn' h).2.2.2.2.1 _ _ rfl⟩⟩
      | enter g args =>
        obtain ⟨rfl, hT, ha⟩ := hq
        refine ⟨Frame.enter E.P g args .deferred :: fr :: cs, hS.push hm (.enter C hT ha (.inr rfl)), fun wl w' es h => ⟨_, (callDef hn h).1 _ _ _ rfl⟩, fun w' es h => ⟨seen E.P fr.fn es ++ #[], sub_seen, ?_⟩⟩
        rw [List.map_cons, enter_rF, List.map_cons]
        exact (callDef hn' h).1 _ _ _ rfl
      | round l g tmps a b =>
        obtain ⟨rfl, hI, hT, ht, h1, h2⟩ := hq
        exact ⟨Frame.round l g tmps a b .deferred :: fr :: cs, hS.push hm (.ofRound C hI hT ht h1 h2 (.inr rfl)), fun wl w' es h => ⟨_, (callDef hn h).2.1 _ _ _ _ _ _ rfl⟩, fun w' es h => ⟨seen E.P fr.fn es ++ #[], sub_seen, (callDef hn' h).2.1 _ _ _ _ _ _ rfl⟩⟩
      | recover =>
        obtain rfl := hq
        have hmr : fr.mode ≠ .returning → (rF f fr).mode ≠ .returning := fun h e => by
          obtain ⟨fn, tmps, todo, ds, mo, ki, ro⟩ := fr
          cases mo with
          | returning => exact h rfl
          | _ => cases e
        rcases recover_sim (f := f) hS' Zg Zc with ⟨h1, h2⟩ | ⟨v, cs', h1, h2, hv, hS2⟩
        · exact ⟨fr :: cs, hS', fun wl w' es h => ⟨_, (callDef hn h).2.2.2.2.2.1 _ rfl (.inl h1)⟩, fun w' es h => ⟨seen E.P fr.fn es ++ #[], sub_seen, (callDef hn' h).2.2.2.2.2.1 _ rfl (.inl h2)⟩⟩
        · rcases Classical.em (fr.mode = .returning) with hmo | hmo
          · have hmo' : (rF f fr).mode = .returning := by
              show rM f fr.mode = _
              rw [hmo]
              rfl
            exact ⟨fr :: cs', hS2, fun wl w' es h => ⟨_, (callDef hn h).2.2.2.2.2.2.1 _ _ _ rfl h1 hmo⟩, fun w' es h => ⟨seen E.P fr.fn es ++ #[], sub_seen, (callDef hn' h).2.2.2.2.2.2.1 _ _ _ rfl h2 hmo'⟩⟩
          · exact ⟨fr :: cs, hS', fun wl w' es h => ⟨_, (callDef hn h).2.2.2.2.2.1 _ rfl (.inr hmo)⟩, fun w' es h => ⟨seen E.P fr.fn es ++ #[], sub_seen, (callDef hn' h).2.2.2.2.2.1 _ rfl (.inr (hmr hmo))⟩⟩
      | _ => exact hq.elim
    · refine ⟨fr.raise [{ v, recovered := false }] :: cs, hS.swap hm ((okF_mono hm hfr).raise fun e he => ?_) (raise_kind fr _), fun wl w' es h => ⟨_, (callDef hn h).2.2.2.2.2.2.2.1 _ _ rfl⟩, fun w' es h => ⟨seen E.P fr.fn es ++ #[], sub_seen, ?_⟩⟩
      · cases he with
        | head => exact ⟨hv, rfl⟩
        | tail _ h => cases h
      · rw [List.map_cons, raise_rF]
        exact (callDef hn' h).2.2.2.2.2.2.2.1 _ _ rfl
  · refine GSim.ended fun wl => ?_
    have h1 : d.target = .nil := Classical.byContradiction fun h => hn (.inl h)
    have h2 : ∃ ch, fr.mode = .panicking ch := Classical.byContradiction fun h => hn (.inr fun ch e => h ⟨ch, e⟩)
    obtain ⟨ch, h2⟩ := h2
    unfold callDeferred
    rw [if_pos]
    · exact ⟨_, _, _, rfl⟩
    · rw [h1, h2]
      rfl
def Leaves1 (S : List Frame) : Prop := ∃ fr, S = [fr] ∧ fr.mode ≠ .run ∧ fr.defers = []
theorem gsim_unwind (F : Fit E f) (H : RtOk E) (X : CallOk E M) (C : CodeOk E M) (hr : HRel E f hl w.heap) (hos : w.os = E.os) {fr : Frame} {cs : List Frame} (hS : okS E M hl.size (fr :: cs)) (hm : fr.mode ≠ .run) (hl1 : ¬ Leaves1 (fr :: cs)) :
    GSim E M f Zg Zc hl w (fun wl => unwind E.P main fr (cs ++ Zg) none wl) (fun wc => unwind E.P main' (rF f fr) (cs.map (rF f) ++ Zc) none wc) := by
  have hfr := hS.head
  obtain ⟨fn, tmps, todo, ds, mo, ki, ro⟩ := fr
  cases ds with
  | cons d ds =>
    have hd := hfr.defers d (.head _)
    have hS2 : okS E M hl.size (⟨fn, tmps, todo, ds, mo, ki, ro⟩ :: cs) := hS.swap (Nat.le_refl _) ⟨hfr.fn, hfr.tmps, hfr.todo, fun x hx => hfr.defers x (.tail _ hx), hfr.mode, hfr.kind, hfr.round⟩ ⟨rfl, rfl⟩
    obtain ⟨t, as⟩ := d
    cases t with
    | collected b =>
      refine gsim_of hr hos (sim_takeDeferred F hd.1) (fun wl hh w' es hb h => ?_) (fun m a a' hm hq => ?_) (fun m v hm hv => .inl fun wl w' es h => ?_)
      · simp only [unwind, h]
        exact ⟨_, _, _, rfl⟩
      · obtain ⟨rfl, ha⟩ := hq
        refine ⟨⟨fn, tmps, todo, a ++ ds, mo, ki, ro⟩ :: cs, hS.swap hm ?_ ⟨rfl, rfl⟩, fun wl w' es h => ⟨seen E.P fn es ++ #[], ?_⟩, fun w' es h => ⟨seen E.P fn es ++ #[], sub_seen, ?_⟩⟩
        · have hm' := okF_mono hm hfr
          refine ⟨hm'.fn, hm'.tmps, hm'.todo, fun x hx => ?_, hm'.mode, hm'.kind, hm'.round⟩
          rcases List.mem_append.1 hx with h | h
          · exact ha x h
          · exact hm'.defers x (.tail _ h)
        · simp only [unwind, h]
          rfl
        · simp only [unwind, rF, List.map_cons, rD, rT, h, List.map_append]
          rfl
      · simp only [unwind, h]
        exact ⟨_, _, _, rfl⟩
    | coroexit c => exact hd.1.elim
    | _ => exact GSim.mk2 (gsim_deferred (Zg := Zg) (Zc := Zc) F H X C hr hos hS2 hd) (fun wl => rfl) rfl
  | nil =>
    cases cs with
    | nil => exact absurd ⟨_, rfl, hm, rfl⟩ hl1
    | cons c cs =>
      have hS2 : okS E M hl.size (c :: cs) := ⟨fun x hx => hS.1 x (.tail _ hx), botN_tail hS.2 (by simp)⟩
      cases mo with
      | run => exact absurd rfl hm
      | panicking ch =>
        have hcat : (⟨fn, tmps, todo, [], .panicking ch, ki, ro⟩ : Frame).catches E.P = false := by
          unfold Frame.catches
          split
          · rename_i h
            exact absurd h (hfr.noCall.1 _ _ _ _ _)
          · rfl
        have hcat' : (⟨fn, tmps.map (rV f), todo.map (rI f), [], .panicking (ch.map (rP f)), ki, ro.map f⟩ : Frame).catches E.P = false := by
          unfold Frame.catches
          split
          · rename_i h
            exfalso
            cases todo with
            | nil => cases h
            | cons i r =>
              have hi := hfr.todo i (.head _)
              have e2 := (List.cons.inj h).1
              cases i <;> first | exact hi | cases e2
          · rfl
        refine GSim.go (S := c.raise ch :: cs) hr (hS2.swap (Nat.le_refl _) (hS2.head.raise hfr.mode) (raise_kind c ch)) (fun wl => ⟨#[], ?_⟩) ?_
        · simp only [unwind, hcat, List.cons_append]
          rfl
        · rw [List.map_cons, List.map_cons, raise_rF]
          simp only [unwind, rF, List.map_nil, rM, hcat', List.cons_append]
          rfl
      | returning =>
        cases hf : E.P.funcs[fn]? with
        | none =>
          have h0 : okV E hl.size (tmps.getD 0 undef) := okAll_getD hfr.tmps 0
          refine GSim.mk2 (gsim_return (Zg := Zg) (Zc := Zc) (main := main) (main' := main') hr hS h0) (fun wl => ?_) ?_
          · simp only [unwind, hf]
          · rw [show rV f (tmps.getD 0 undef) = (tmps.map (rV f)).getD 0 undef from (getD_rV f tmps 0).symm]
            simp only [unwind, rF, List.map_nil, rM, hf]
        | some fn2 =>
          refine gsim_then (k2 := fun v w' => doReturn E.P main ⟨fn, tmps, todo, [], .returning, ki, ro⟩ (c :: cs ++ Zg) none v w') (k2' := fun v w' => doReturn E.P main' (rF f ⟨fn, tmps, todo, [], .returning, ki, ro⟩) ((c :: cs).map (rF f) ++ Zc) none v w') hr hos (sim_results (fn := fn2) F H hfr.tmps) (fun wl hh w' es h => ?_) (fun wl a w' es h => ⟨seen E.P fn es, ?_⟩) (fun a' w' es h => ⟨seen E.P fn es, fun e he => mem_seen he, ?_⟩) fun hl1 w1 v v' hr1 _ hs hq => ?_
          · simp only [unwind, hf, h]
            refine after_ended _ _ ?_
            cases hh <;> exact ⟨_, _, _, rfl⟩
          · simp only [unwind, hf, h]
          · simp only [unwind, rF, List.map_nil, rM, hf, h]
          · obtain ⟨rfl, hv⟩ := hq
            exact gsim_return hr1 (okS_mono hs hS) hv
theorem gsim_step (F : Fit E f) (H : RtOk E) (X : CallOk E M) (C : CodeOk E M) (hr : HRel E f hl w.heap) (hos : w.os = E.os) {S : List Frame} (hS : okS E M hl.size S) (hl1 : ¬ Leaves1 S) :
    GSim E M f Zg Zc hl w (fun wl => stepG E.P main (gor S Zg) wl) (fun wc => stepG E.P main' (gor (S.map (rF f)) Zc) wc) := by
  cases S with
  | nil => exact hS.2.elim
  | cons fr cs =>
    cases hmo : fr.mode with
    | run =>
      have hmo' : (rF f fr).mode = .run := by
        show rM f fr.mode = _
        rw [hmo]
        rfl
      refine GSim.mk2 (gsim_exec (Zg := Zg) (Zc := Zc) (main := main) (main' := main') F H X C hr hos hS) (fun wl => ?_) ?_
      · simp only [gor_cons, stepG, hmo]
      · simp only [List.map_cons, gor_cons, stepG, hmo']
    | returning =>
      have hmo' : (rF f fr).mode = .returning := by
        show rM f fr.mode = _
        rw [hmo]
        rfl
      refine GSim.mk2 (gsim_unwind (Zg := Zg) (Zc := Zc) (main := main) (main' := main') F H X C hr hos hS (by rw [hmo]; simp) hl1) (fun wl => ?_) ?_
      · simp only [gor_cons, stepG, hmo]
      · simp only [List.map_cons, gor_cons, stepG, hmo']
    | panicking ch =>
      have hmo' : (rF f fr).mode = .panicking (ch.map (rP f)) := by
        show rM f fr.mode = _
        rw [hmo]
        rfl
      refine GSim.mk2 (gsim_unwind (Zg := Zg) (Zc := Zc) (main := main) (main' := main') F H X C hr hos hS (by rw [hmo]; simp) hl1) (fun wl => ?_) ?_
      · simp only [gor_cons, stepG, hmo]
      · simp only [List.map_cons, gor_cons, stepG, hmo']
end
def c0 : Frame := { fn := 0, tmps := #[], todo := [.code (.refuse "")], defers := [{ target := .nil, args := #[] }], mode := .run, kind := .normal }
def loneS (S : List Frame) (w : World) : Machine := match S ++ [c0] with
  | fr :: cs => lone fr cs w
  | [] => default
abbrev Cfg := List Frame × Array Obj
def LS (E : Env) (x : Cfg) (l : List Nat) (y : Cfg) : Prop := ∀ wl : World, wl.heap = x.2 → Listed E l wl → ∃ es, stepG E.P true (gor x.1 [c0]) wl = .go (gor y.1 [c0]) { wl with heap := y.2, drawn := wl.drawn + l.length } es
def Reach (E : Env) (x0 : Cfg) (n : Nat) (L : List Nat) (y : Cfg) : Prop := ∀ wl : World, wl.heap = x0.2 → Listed E L wl → runN E.P n (loneS x0.1 wl) = .next (loneS y.1 { wl with heap := y.2, drawn := wl.drawn + L.length })
def Cont (E : Env) (x0 : Cfg) (R : Value → World → Prop) : Prop := ∀ wl : World, wl.heap = x0.2 → wl.os = E.os → ∃ v w' fr k, R v w' ∧ runN E.P k (loneS x0.1 wl) = .next (lone fr [c0] w') ∧ fr.leaving E.P w' (.returned v)
theorem runN_snoc {P : Program} : ∀ (n : Nat) (m m' : Machine), runN P n m = .next m' → runN P (n + 1) m = step P m'
  | 0, m, m', h => by
    cases h
    simp only [runN]
    cases step P m <;> rfl
  | n + 1, m, m', h => by
    unfold runN at h ⊢
    cases hs : step P m with
    | next m2 =>
      rw [hs] at h
      exact runN_snoc n m2 m' h
    | ended o w => rw [hs] at h; cases h
theorem runN_ended {P : Program} {o : Outcome} {w : World} : ∀ (n k : Nat) (m : Machine), runN P n m = .ended o w → runN P (n + k) m = .ended o w
  | 0, k, m, h => by cases h
  | n + 1, k, m, h => by
    rw [Nat.succ_add]
    unfold runN at h ⊢
    cases hs : step P m with
    | next m2 =>
      rw [hs] at h
      exact runN_ended n k m2 h
    | ended o w => rw [hs] at h; exact h
theorem lone_inj {fr fr' : Frame} {cs cs' : List Frame} {w w' : World} (h : lone fr cs w = lone fr' cs' w') : fr = fr' ∧ cs = cs' ∧ w = w' := by
  unfold lone at h
  simp only [Machine.mk.injEq] at h
  obtain ⟨h1, h2, _⟩ := h
  have h3 := congrArg (fun a : Array Goroutine => a[0]?) h2
  simp at h3
  exact ⟨h3.1, h3.2, h1⟩
theorem step_c0 (P : Program) (v : Value) (w : World) : ∃ o w', step P (lone (c0.finish v) [] w) = .ended o w' := ⟨_, _, step_lone_ended rfl⟩
section
variable {E : Env} {x0 : Cfg} {R : Value → World → Prop}
theorem Reach.zero : Reach E x0 0 [] x0 := fun wl hw _ => by
  show Stepped.next _ = Stepped.next _
  rw [← hw]
  rfl
theorem Reach.step {n : Nat} {L l : List Nat} {S S' : List Frame} {hl hl' : Array Obj} (h : Reach E x0 n L (S, hl)) (hS : S ≠ []) (hS' : S' ≠ []) (hs : LS E (S, hl) l (S', hl')) : Reach E x0 (n + 1) (L ++ l) (S', hl') := fun wl hw hL => by
  have h1 := h wl hw hL.left
  rw [runN_snoc n _ _ h1]
  obtain ⟨es, h2⟩ := hs { wl with heap := hl, drawn := wl.drawn + L.length } rfl (hL.right rfl rfl rfl)
  cases S with
  | nil => exact absurd rfl hS
  | cons fr cs =>
    cases S' with
    | nil => exact absurd rfl hS'
    | cons fr' cs' =>
      have h3 := step_lone_go (P := E.P) (fr := fr) (cs := cs ++ [c0]) (fr' := fr') (cs' := cs' ++ [c0]) (by
        have h4 := congrArg GStep.bare h2
        exact h4)
      refine h3.trans ?_
      simp [loneS, Nat.add_assoc]
theorem meets {P : Program} {m : Machine} {k n : Nat} {fr : Frame} {w' w2 : World} {v : Value} {S : List Frame} (hk : runN P k m = .next (lone fr [c0] w')) (hl : fr.leaving P w' (.returned v)) (hn : runN P n m = .next (loneS S w2)) (hS : S ≠ []) : n ≤ k := by
  rcases Nat.lt_or_ge k n with hlt | hge
  · exfalso
    have h1 := (runN_snoc k m _ hk).trans (step_leave_returned hl)
    obtain ⟨o, w3, h2⟩ := step_c0 P v w'
    have h3 := (runN_snoc (k + 1) m _ h1).trans h2
    rcases Nat.lt_or_ge (k + 1) n with hlt2 | hge2
    · have h4 := runN_ended (k + 1 + 1) (n - (k + 1 + 1)) m h3
      rw [show k + 1 + 1 + (n - (k + 1 + 1)) = n by omega, hn] at h4
      cases h4
    · have : n = k + 1 := by omega
      subst this
      rw [h1] at hn
      cases S with
      | nil => exact hS rfl
      | cons a cs =>
        have := (lone_inj (Stepped.next.inj hn)).2.1
        cases cs <;> cases this
  · exact hge
def wOf (E : Env) (x0 : Cfg) (τ : Nat → Nat) : World := { (default : World) with heap := x0.2, tape := fun i _ => τ i, drawn := 0, os := E.os }
theorem wOf_listed (L : List Nat) (τ : Nat → Nat) (h : ∀ i, i < L.length → τ i = L.getD i 0) : Listed E L (wOf E x0 τ) := ⟨rfl, fun i q hi => by
  show τ (0 + i) = _
  rw [Nat.zero_add]
  exact h i hi⟩
theorem leaves_of {P : Program} {fr : Frame} {w : World} {v : Value} (h : fr.leaving P w (.returned v)) : Leaves1 [fr] := ⟨fr, rfl, by rw [h.1]; simp, h.2.1⟩
theorem Cont.goes (hC : Cont E x0 R) {n : Nat} {L l : List Nat} {S : List Frame} {hl : Array Obj} (h : Reach E x0 n L (S, hl)) (hS : S ≠ []) (hn : ¬ Leaves1 S) (hb : ∀ wl : World, wl.heap = hl → Listed E l wl → ∃ o w' es, stepG E.P true (gor S [c0]) wl = .ended o w' es) : False := by
  have hL := wOf_listed (E := E) (x0 := x0) (L ++ l) (fun i => (L ++ l).getD i 0) fun _ _ => rfl
  obtain ⟨v, w', fr, k, _, hk, hlv⟩ := hC (wOf E x0 fun i => (L ++ l).getD i 0) rfl rfl
  have h1 := h (wOf E x0 fun i => (L ++ l).getD i 0) rfl hL.left
  have hle := meets hk hlv h1 hS
  rcases Nat.lt_or_ge n k with hlt | hge
  · obtain ⟨o, w3, es, h2⟩ := hb { wOf E x0 (fun i => (L ++ l).getD i 0) with heap := hl, drawn := (wOf E x0 fun i => (L ++ l).getD i 0).drawn + L.length } rfl (hL.right rfl rfl rfl)
    cases S with
    | nil => exact hS rfl
    | cons a cs =>
      have h3 := step_lone_ended (P := E.P) (fr := a) (cs := cs ++ [c0]) (by
        have h4 := congrArg GStep.bare h2
        exact h4)
      have h4 := runN_ended (n + 1) (k - (n + 1)) _ ((runN_snoc n _ _ h1).trans h3)
      rw [show n + 1 + (k - (n + 1)) = k by omega, hk] at h4
      cases h4
  · have : n = k := by omega
    subst this
    rw [hk] at h1
    cases S with
    | nil => exact hS rfl
    | cons a cs =>
      obtain ⟨e1, e2, _⟩ := lone_inj (Stepped.next.inj h1)
      subst e1
      cases cs with
      | nil => exact hn (leaves_of hlv)
      | cons b cs => cases cs <;> cases e2
theorem step_raise (P : Program) (ch : List PanicEntry) (w : World) : ∃ o w', step P (lone (c0.raise ch) [] w) = .ended o w' := ⟨_, _, step_lone_ended rfl⟩
theorem step_left {P : Program} {fr : Frame} {w : World} (hm : fr.mode ≠ .run) (hd : fr.defers = []) (hk : fr.kind = .normal) : (∃ o w', step P (lone fr [c0] w) = .ended o w') ∨ ∃ z w', step P (lone fr [c0] w) = .next (lone z [] w') ∧ ∃ o w2, step P (lone z [] w') = .ended o w2 := by
  cases hmo : fr.mode with
  | run => exact absurd hmo hm
  | panicking ch =>
    cases hc : fr.catches P with
    | true => exact .inl ⟨_, _, step_lone_ended (by simp only [stepG, hmo, unwind, hd, hc]; rfl)⟩
    | false => exact .inr ⟨_, w, step_lone_go (by simp only [stepG, hmo, unwind, hd, hc]; rfl), step_raise P ch w⟩
  | returning =>
    cases hf : P.funcs[fr.fn]? with
    | none => exact .inr ⟨_, w, step_lone_go (by simp only [stepG, hmo, unwind, hd, hf, doReturn, hk]; rfl), step_c0 P _ w⟩
    | some fn =>
      cases hr : (results fn fr.tmps).runT P w #[] with
      | mk r es =>
        cases r with
        | ok v w' => exact .inr ⟨_, w', step_lone_go (by simp only [stepG, hmo, unwind, hd, hf, hr, doReturn, hk]; rfl), step_c0 P _ w'⟩
        | halt hh w' =>
          refine .inl ?_
          cases hh <;> exact ⟨_, _, step_lone_ended (by simp only [stepG, hmo, unwind, hd, hf, hr]; rfl)⟩
theorem Cont.value (hC : Cont E x0 R) {n : Nat} {L : List Nat} {fr : Frame} {hl : Array Obj} (h : Reach E x0 n L ([fr], hl)) (hm : fr.mode ≠ .run) (hd : fr.defers = []) (hk : fr.kind = .normal) (wl : World) (hw : wl.heap = x0.2) (hL : Listed E L wl) :
    ∃ v, R v { wl with heap := hl, drawn := wl.drawn + L.length } ∧ fr.leaving E.P { wl with heap := hl, drawn := wl.drawn + L.length } (.returned v) := by
  obtain ⟨v, w', fr2, k, hR, hkk, hlv⟩ := hC wl hw hL.1
  have h1 := h wl hw hL
  have hle := meets hkk hlv h1 (by simp)
  rcases Nat.lt_or_ge n k with hlt | hge
  · exfalso
    have h2 := runN_snoc n _ _ h1
    rcases step_left (P := E.P) (w := { wl with heap := hl, drawn := wl.drawn + L.length }) hm hd hk with ⟨o, w3, h3⟩ | ⟨z, w3, h3, o, w4, h4⟩
    · have h4 := runN_ended (n + 1) (k - (n + 1)) _ (h2.trans h3)
      rw [show n + 1 + (k - (n + 1)) = k by omega, hkk] at h4
      cases h4
    · have h5 := h2.trans h3
      rcases Nat.lt_or_ge (n + 1) k with hlt2 | hge2
      · have h6 := runN_ended (n + 1 + 1) (k - (n + 1 + 1)) _ ((runN_snoc (n + 1) _ _ h5).trans h4)
        rw [show n + 1 + 1 + (k - (n + 1 + 1)) = k by omega, hkk] at h6
        cases h6
      · have : k = n + 1 := by omega
        subst this
        rw [hkk] at h5
        have := (lone_inj (Stepped.next.inj h5)).2.1
        cases this
  · have : n = k := by omega
    subst this
    rw [hkk] at h1
    obtain ⟨e1, _, e3⟩ := lone_inj (Stepped.next.inj h1)
    subst e1
    rw [e3] at hR hlv
    exact ⟨v, hR, hlv⟩
def Nx (E : Env) (y x : Cfg) : Prop := x.1 ≠ [] ∧ y.1 ≠ [] ∧ ¬ Leaves1 x.1 ∧ ∃ l, LS E x l y
theorem exists_pred {α : Type} {r : α → α → Prop} {x : α} (h : ¬ Acc r x) : ∃ y, r y x ∧ ¬ Acc r y :=
  Classical.byContradiction fun hn => h (Acc.intro x fun y hy => Classical.byContradiction fun ha => hn ⟨y, hy, ha⟩)
theorem Cont.acc (hC : Cont E x0 R) : Acc (Nx E) x0 := by
  apply Classical.byContradiction
  intro h0
  let nxt : {x : Cfg // ¬ Acc (Nx E) x} → {x : Cfg // ¬ Acc (Nx E) x} := fun x => ⟨Classical.choose (exists_pred x.2), (Classical.choose_spec (exists_pred x.2)).2⟩
  have hnxt : ∀ x, Nx E (nxt x).1 x.1 := fun x => (Classical.choose_spec (exists_pred x.2)).1
  let seq : Nat → {x : Cfg // ¬ Acc (Nx E) x} := fun n => Nat.rec ⟨x0, h0⟩ (fun _ x => nxt x) n
  have hseq : ∀ n, Nx E (seq (n + 1)).1 (seq n).1 := fun n => hnxt (seq n)
  let ls : Nat → List Nat := fun n => Classical.choose (hseq n).2.2.2
  have hls : ∀ n, LS E (seq n).1 (ls n) (seq (n + 1)).1 := fun n => Classical.choose_spec (hseq n).2.2.2
  let Ls : Nat → List Nat := fun n => Nat.rec [] (fun i L => L ++ ls i) n
  have hLs : ∀ n, Ls (n + 1) = Ls n ++ ls n := fun _ => rfl
  have hreach : ∀ n, Reach E x0 n (Ls n) (seq n).1 := fun n => by
    induction n with
    | zero => exact Reach.zero
    | succ n ih => exact Reach.step ih (hseq n).1 (hseq n).2.1 (hls n)
  have hpre : ∀ n m, n ≤ m → ∃ t, Ls m = Ls n ++ t := fun n m hm => by
    induction m with
    | zero =>
      have : n = 0 := by omega
      subst this
      exact ⟨[], by simp⟩
    | succ m ih =>
      rcases Nat.lt_or_ge m n with h | h
      · have : n = m + 1 := by omega
        subst this
        exact ⟨[], by simp⟩
      · obtain ⟨t, ht⟩ := ih h
        exact ⟨t ++ ls m, by rw [hLs, ht, List.append_assoc]⟩
  let τ : Nat → Nat := fun i => open Classical in if h : ∃ n, i < (Ls n).length then (Ls (Classical.choose h)).getD i 0 else 0
  have hτ : ∀ n i, i < (Ls n).length → τ i = (Ls n).getD i 0 := fun n i hi => by
    have hex : ∃ n, i < (Ls n).length := ⟨n, hi⟩
    have e : τ i = (Ls (Classical.choose hex)).getD i 0 := dif_pos hex
    rw [e]
    have hc := Classical.choose_spec hex
    generalize Classical.choose hex = c at hc
    rcases Nat.le_total c n with h | h
    · obtain ⟨t, ht⟩ := hpre c n h
      rw [ht]
      simp [List.getD_eq_getElem?_getD, List.getElem?_append_left hc]
    · obtain ⟨t, ht⟩ := hpre n c h
      rw [ht]
      simp [List.getD_eq_getElem?_getD, List.getElem?_append_left hi]
  obtain ⟨v, w', fr, k, _, hk, hlv⟩ := hC (wOf E x0 τ) rfl rfl
  have h1 := hreach k (wOf E x0 τ) rfl (wOf_listed (Ls k) τ fun i hi => hτ k i hi)
  rw [hk] at h1
  have hne := (hseq k).1
  have hnl := (hseq k).2.2.1
  generalize (seq k).1 = y at h1 hne hnl
  obtain ⟨S, hl⟩ := y
  cases S with
  | nil => exact hne rfl
  | cons a cs =>
    obtain ⟨e1, e2, _⟩ := lone_inj (Stepped.next.inj h1)
    subst e1
    cases cs with
    | nil => exact hnl (leaves_of hlv)
    | cons b cs => cases cs <;> cases e2
end
section
variable {E : Env} {M : String → Bool} {n : Nat} {f g : Nat → Nat}
theorem rI_eq (H : Ag E n f g) {r : Bool} {i : Item} (h : okI E M n r i) : rI f i = rI g i := by
  cases i with
  | inRangeFunc l => exact congrArg Item.inRangeFunc (H.I l h)
  | endRangeFunc l => exact congrArg Item.endRangeFunc (H.I l h)
  | _ => rfl
theorem rM_eq (H : Ag E n f g) {u : FrameMode} (h : okM E n u) : rM f u = rM g u := by
  cases u with
  | panicking ch =>
    simp only [rM]
    rw [List.map_congr_left fun e he => ?_]
    unfold rP
    rw [rV_eq H _ (h e he).1]
  | _ => rfl
theorem rF_eq (H : Ag E n f g) {fr : Frame} (h : okF E M n fr) : rF f fr = rF g fr := by
  unfold rF
  rw [rAll_eq H h.tmps, List.map_congr_left fun i hi => rI_eq H (h.todo i hi), List.map_congr_left fun d hd => rD_eq H (h.defers d hd), rM_eq H h.mode]
  cases hr : fr.roundOf with
  | none => rfl
  | some l => simp only [Option.map_some]; rw [H.I l (h.round l hr)]
theorem rS_eq (H : Ag E n f g) {S : List Frame} (h : okS E M n S) : S.map (rF f) = S.map (rF g) := List.map_congr_left fun fr hfr => rF_eq H (h.1 fr hfr)
def fNew (f : Nat → Nat) (n size : Nat) (j : Nat) : Nat := if j < n then f j else size + (j - n)
theorem low_lt (F : Fit E f) {hl hc : Array Obj} (hr : HRel E f hl hc) {a : Nat} (ha : a < hl.size) : f a < hc.size := by
  rcases Nat.lt_or_ge (f a) hc.size with h | h
  · exact h
  · exfalso
    have := hr.new (hl.size + (f a - hc.size)) (by omega)
    have e : f (hl.size + (f a - hc.size)) = f a := by omega
    have := F.inj _ _ e
    omega
theorem follow_other (F : Fit E f) {hl hc hc' : Array Obj} (hr : HRel E f hl hc) (hsz : hc.size ≤ hc'.size) (hown : ∀ k, E.I hl.size k → hc'[f k]? = hc[f k]?) (hlow : ∀ k, E.R k ∨ E.O k → hc'[k]? = hc[k]?) :
    Fit E (fNew f hl.size hc'.size) ∧ HRel E (fNew f hl.size hc'.size) hl hc' ∧ Ag E hl.size f (fNew f hl.size hc'.size) := by
  have hlt : ∀ k, k < hl.size → fNew f hl.size hc'.size k = f k := fun k hk => if_pos hk
  have hge : ∀ k, hl.size ≤ k → fNew f hl.size hc'.size k = hc'.size + (k - hl.size) := fun k hk => if_neg (by omega)
  have hB := hr.base
  have hAg : Ag E hl.size f (fNew f hl.size hc'.size) := ⟨fun k hk => (hlt k (by have := F.ro k hk; omega)).symm, fun k hk => (hlt k (by have := F.op k hk; omega)).symm, fun k hk => (hlt k hk.2).symm⟩
  refine ⟨⟨fun a b e => ?_, fun k hk => ?_, F.ro, F.op, F.no, F.pt⟩, ⟨fun k o hk ho => ?_, fun k hk => ?_, fun k hk => ?_, hB, fun j hj => ?_⟩, hAg⟩
  · rcases Nat.lt_or_ge a hl.size with ha | ha
    · rcases Nat.lt_or_ge b hl.size with hb | hb
      · rw [hlt a ha, hlt b hb] at e
        exact F.inj a b e
      · rw [hlt a ha, hge b hb] at e
        have := low_lt F hr ha
        omega
    · rcases Nat.lt_or_ge b hl.size with hb | hb
      · rw [hge a ha, hlt b hb] at e
        have := low_lt F hr hb
        omega
      · rw [hge a ha, hge b hb] at e
        omega
  · rw [hlt k (by omega)]
    exact F.low k hk
  · obtain ⟨h1, h2⟩ := hr.own k o hk ho
    have hks : k < hl.size := by
      rcases Nat.lt_or_ge k hl.size with h | h
      · exact h
      · rw [Array.getElem?_eq_none h] at ho; cases ho
    refine ⟨h1, ?_⟩
    rw [hlt k hks, hown k ⟨hk, hks⟩, h2, rO_eq hAg h1]
  · obtain ⟨c, t, h1, h2, h3⟩ := hr.ro k hk
    refine ⟨c, t, h1, by rw [hlow k (.inl hk)]; exact h2, fun v hv => ?_⟩
    obtain ⟨q1, q2, q3⟩ := h3 v hv
    exact ⟨q1, q2, by rw [← rV_eq hAg v q1]; exact q3⟩
  · obtain ⟨c, e, c', h1, h2, h3⟩ := hr.op k hk
    exact ⟨c, e, c', h1, by rw [hlow k (.inr hk)]; exact h2, h3⟩
  · rw [hge j hj]
    omega
end
structure Follows (E : Env) (M : String → Bool) (x0 : Cfg) (f : Nat → Nat) (y : Cfg) (w : World) : Prop where
  fit : Fit E f
  rel : HRel E f y.2 w.heap
  os : w.os = E.os
  ok : okS E M y.2.size y.1
  reach : ∃ n L, Reach E x0 n L y
section
variable {E : Env} {M : String → Bool} {x0 y : Cfg} {f : Nat → Nat} {w : World} {R : Value → World → Prop} {main : Bool} {Z : List Frame}
theorem okS_ne {n : Nat} {S : List Frame} (h : okS E M n S) : S ≠ [] := fun e => by
  rw [e] at h
  exact h.2
theorem Follows.step (H : RtOk E) (X : CallOk E M) (C : CodeOk E M) (hC : Cont E x0 R) (h : Follows E M x0 f y w) (hn : ¬ Leaves1 y.1) (main : Bool) (Z : List Frame) :
    ∃ y' w' es, stepG E.P main (gor (y.1.map (rF f)) Z) w = .go (gor (y'.1.map (rF f)) Z) w' es ∧ Left E f y.2 y'.2 w w' es ∧ y.2.size ≤ y'.2.size ∧ Follows E M x0 f y' w' ∧ Nx E y' y := by
  obtain ⟨S, hl⟩ := y
  obtain ⟨n, L, hR⟩ := h.reach
  have hS := okS_ne h.ok
  obtain ⟨l, r, hl', hs, h1, h2⟩ := gsim_step (Zg := [c0]) (Zc := Z) (main := true) (main' := main) h.fit H X C h.rel h.os h.ok hn
  cases r with
  | none => exact (hC.goes hR hS hn h1).elim
  | some S' =>
    obtain ⟨hok, w', es, hL, e⟩ := h2 S' rfl
    have hLS : LS E (S, hl) l (S', hl') := h1
    exact ⟨(S', hl'), w', es, e, hL, hs, ⟨h.fit, hL.rel, hL.os.trans h.os, hok, n + 1, L ++ l, hR.step hS (okS_ne hok) hLS⟩, hS, okS_ne hok, hn, l, hLS⟩
theorem Follows.leave (H : RtOk E) (hC : Cont E x0 R) (h : Follows E M x0 f y w) (hn : Leaves1 y.1) (main : Bool) (z : Frame) (zs : List Frame) :
    ∃ v wl w' es, wl.heap = y.2 ∧ R v wl ∧ okV E y.2.size v ∧ stepG E.P main (gor (y.1.map (rF f)) (z :: zs)) w = .go { frame := z.finish (rV f v), callers := zs, status := .running, dying := none } w' es ∧ Left E f y.2 y.2 w w' es := by
  obtain ⟨S, hl⟩ := y
  obtain ⟨fr, e, hm, hd⟩ := hn
  dsimp only at e
  subst e
  obtain ⟨n, L, hR⟩ := h.reach
  have hfr := h.ok.head
  have hk : fr.kind = .normal := h.ok.2.1
  have key : ∀ fn, E.P.funcs[fr.fn]? = some fn → ∃ v wl w' es, wl.heap = hl ∧ R v wl ∧ okV E hl.size v ∧ stepG E.P main (gor ([fr].map (rF f)) (z :: zs)) w = .go { frame := z.finish (rV f v), callers := zs, status := .running, dying := none } w' es ∧ Left E f hl hl w w' es := fun fn hf => by
    obtain ⟨l, r, hl1, ha, hs, hc⟩ := sim_results (fn := fn) h.fit H hfr.tmps hl w h.rel (Nat.le_refl _) h.os
    have hlist := wOf_listed (E := E) (x0 := x0) (L ++ l) (fun i => (L ++ l).getD i 0) fun _ _ => rfl
    obtain ⟨v, hv, hlv⟩ := hC.value hR hm hd hk (wOf E x0 fun i => (L ++ l).getD i 0) rfl hlist.left
    obtain ⟨hmo, _, _, fn2, hf2, hr⟩ := hlv
    rw [hf] at hf2
    cases hf2
    have hli := hlist.right (w' := { wOf E x0 (fun i => (L ++ l).getD i 0) with heap := hl, drawn := (wOf E x0 fun i => (L ++ l).getD i 0).drawn + L.length }) rfl rfl rfl
    generalize hW : ({ wOf E x0 (fun i => (L ++ l).getD i 0) with heap := hl, drawn := (wOf E x0 fun i => (L ++ l).getD i 0).drawn + L.length } : World) = W at hv hr hli
    have hWh : W.heap = hl := by rw [← hW]
    obtain ⟨x, es0, hx, hres⟩ := ha W #[] hWh hli
    have hx1 : x = .ok v W := by
      have := Sem.runT_fst E.P (results fn fr.tmps) W #[]
      rw [hx, hr] at this
      exact this
    subst hx1
    match r, hres, hc with
    | none, ⟨_, _, _, e⟩, _ => cases e
    | some (.error _), e, _ => cases e
    | some (.ok a), e, hc =>
      have e : Result.ok v W = .ok a { W with heap := hl1, drawn := W.drawn + l.length } := e
      simp only [Result.ok.injEq] at e
      obtain ⟨rfl, e2⟩ := e
      have e3 : hl1 = hl := by
        have := congrArg World.heap e2
        rw [hWh] at this
        exact this.symm
      subst e3
      obtain ⟨w1, es1, hL1, hy⟩ := hc (by simp)
      obtain ⟨y, hy, a', ⟨rfl, hq⟩, rfl⟩ := hy #[]
      refine ⟨v, W, w1, seen E.P fr.fn (#[] ++ es1) ++ #[], hWh, hv, hq, ?_, hL1.sub fun e he => by simpa using sub_seen e he⟩
      have hmo' : (rF f fr).mode = .returning := by
        show rM f fr.mode = _
        rw [hmo]
        rfl
      have hd' : (rF f fr).defers = [] := by
        show fr.defers.map (rD f) = []
        rw [hd]
        rfl
      have hk' : (rF f fr).kind = .normal := hk
      have hf' : E.P.funcs[(rF f fr).fn]? = some fn := hf
      have hy' : (results fn (rF f fr).tmps).runT E.P w #[] = (.ok (rV f v) w1, #[] ++ es1) := hy
      simp only [List.map_cons, List.map_nil, gor_cons, stepG, hmo', unwind, hd', hf', hy', doReturn, hk', List.nil_append]
      rfl
  obtain ⟨v, hv, hlv⟩ := hC.value hR hm hd hk (wOf E x0 fun i => L.getD i 0) rfl (wOf_listed L _ fun _ _ => rfl)
  obtain ⟨_, _, _, fn, hf, _⟩ := hlv
  exact key fn hf
theorem Follows.other (h : Follows E M x0 f y w) {w' : World} (hsz : w.heap.size ≤ w'.heap.size) (hown : ∀ k, E.I y.2.size k → w'.heap[f k]? = w.heap[f k]?) (hlow : ∀ k, E.R k ∨ E.O k → w'.heap[k]? = w.heap[k]?) (hos : w'.os = w.os) :
    ∃ f', Follows E M x0 f' y w' ∧ y.1.map (rF f') = y.1.map (rF f) ∧ ∀ k, k < y.2.size → f' k = f k := by
  obtain ⟨F, hr, hAg⟩ := follow_other h.fit h.rel hsz hown hlow
  exact ⟨_, ⟨F, hr, hos.trans h.os, h.ok, h.reach⟩, (rS_eq hAg h.ok).symm, fun k hk => if_pos hk⟩
end
end Go.Proofs.YtaablbmgagiajabGreatDoor.Ren
namespace Go.Proofs.YtaablbmgagiajabGreatDoor.Ren
open Go
def OneOf {α : Type} (r : α → α → Prop) (n : Nat) (y x : Nat → α) : Prop := ∃ i, i < n ∧ r (y i) (x i) ∧ ∀ j, j ≠ i → y j = x j
theorem acc_oneOf {α : Type} {r : α → α → Prop} : ∀ (n : Nat) (x : Nat → α), (∀ i, i < n → Acc r (x i)) → Acc (OneOf r n) x
  | 0, x, _ => Acc.intro x fun y hy => by
    obtain ⟨i, hi, _⟩ := hy
    omega
  | n + 1, x, hx => by
    have IH := acc_oneOf (r := r) n
    have key : ∀ a, Acc r a → ∀ x : Nat → α, x n = a → (∀ i, i < n → Acc r (x i)) → Acc (OneOf r (n + 1)) x := by
      intro a ha
      induction ha with
      | intro a _ iha =>
        intro x hxn hxi
        have hA := IH x hxi
        induction hA with
        | intro x _ ihx =>
          refine Acc.intro x fun y hy => ?_
          obtain ⟨i, hi, hr, hs⟩ := hy
          rcases Nat.lt_or_ge i n with hlt | hge
          · refine ihx y ⟨i, hlt, hr, hs⟩ ((hs n (by omega)).trans hxn) fun j hj => ?_
            rcases Nat.decEq j i with h | h
            · rw [hs j h]
              exact hxi j hj
            · subst h
              exact (hxi j hj).inv hr
          · have : i = n := by omega
            subst this
            rw [hxn] at hr
            refine iha (y i) hr y rfl fun j hj => ?_
            rw [hs j (by omega)]
            exact hxi j hj
    exact key (x n) (hx n (by omega)) x rfl fun i hi => hx i (by omega)
def Less {α : Type} (r : α → α → Prop) (n : Nat) (y x : Nat × (Nat → α) × Nat) : Prop := y.1 < x.1 ∨ y.1 = x.1 ∧ (OneOf r n y.2.1 x.2.1 ∨ y.2.1 = x.2.1 ∧ y.2.2 < x.2.2)
theorem acc_less {α : Type} {r : α → α → Prop} {n : Nat} (G : Nat × (Nat → α) × Nat → Prop) (hG : ∀ x, G x → ∀ i, i < n → Acc r (x.2.1 i)) : ∀ x, G x → Acc (fun y x => G y ∧ Less r n y x) x := by
  have key : ∀ (k : Nat) (x : Nat × (Nat → α) × Nat), x.1 = k → G x → Acc (fun y x => G y ∧ Less r n y x) x := by
    intro k
    induction k using Nat.strongRecOn with
    | ind k ihk =>
      have k2 : ∀ (c : Nat → α), Acc (OneOf r n) c → ∀ (m : Nat) (x : Nat × (Nat → α) × Nat), x.1 = k → x.2.1 = c → x.2.2 = m → G x → Acc (fun y x => G y ∧ Less r n y x) x := by
        intro c hc
        induction hc with
        | intro c _ ihc =>
          intro m
          induction m using Nat.strongRecOn with
          | ind m ihm =>
            intro x h1 h2 h3 hx
            refine Acc.intro x fun y hy => ?_
            obtain ⟨hGy, hL⟩ := hy
            rcases hL with h | ⟨e, h | ⟨e2, h⟩⟩
            · exact ihk y.1 (by omega) y rfl hGy
            · rw [h2] at h
              exact ihc y.2.1 h y.2.2 y (e.trans h1) rfl rfl hGy
            · exact ihm y.2.2 (by omega) y (e.trans h1) (e2.trans h2) rfl hGy
      intro x hx hGx
      exact k2 x.2.1 (acc_oneOf n x.2.1 (hG x hGx)) x.2.2 x hx rfl rfl hGx
  exact fun x hx => key x.1 x rfl hx
theorem wf_less {α : Type} {r : α → α → Prop} {n : Nat} (G : Nat × (Nat → α) × Nat → Prop) (hG : ∀ x, G x → ∀ i, i < n → Acc r (x.2.1 i)) : WellFounded (fun y x : {x : Nat × (Nat → α) × Nat // G x} => Less r n y.1 x.1) := by
  refine ⟨fun x => ?_⟩
  have key : ∀ x, Acc (fun y x => G y ∧ Less r n y x) x → ∀ hx : G x, Acc (fun y x : {x : Nat × (Nat → α) × Nat // G x} => Less r n y.1 x.1) ⟨x, hx⟩ := by
    intro x h
    induction h with
    | intro x _ ih => exact fun hx => Acc.intro _ fun y hy => ih y.1 ⟨y.2, hy⟩ y.2
  exact key x.1 (acc_less G hG x.1 x.2) x.2
end Go.Proofs.YtaablbmgagiajabGreatDoor.Ren
namespace Go.Proofs.YtaablbmgagiajabGreatDoor.Ren
open Go Go.Conc
open Go.ConcR (KK WgAt stA smA rd wr mk)
open Go.ConcN (RelBy sumTo upd)
def Wk (P : Program) (main : Bool) (K : World → Prop) (Ok : Event → Prop) (Stop : Goroutine → Prop) : Nat → Goroutine → Prop
  | 0, g => Stop g
  | n + 1, g => Stop g ∨ (g.status = .running ∧ ∃ g' es, (∀ w, K w → stepG P main g w = .go g' w es) ∧ (∀ e ∈ es, Ok e) ∧ Wk P main K Ok Stop n g')
section
variable {P : Program} {main : Bool} {K : World → Prop} {Ok : Event → Prop} {Stop : Goroutine → Prop}
theorem Wk.stop {n : Nat} {g : Goroutine} (h : Stop g) : Wk P main K Ok Stop n g := by
  cases n with
  | zero => exact h
  | succ n => exact .inl h
theorem Wk.step {n : Nat} {g g' : Goroutine} {es : Array Event} (hs : g.status = .running) (h : ∀ w, K w → stepG P main g w = .go g' w es) (he : ∀ e ∈ es, Ok e) (hn : Wk P main K Ok Stop n g') : Wk P main K Ok Stop (n + 1) g := .inr ⟨hs, g', es, h, he, hn⟩
theorem Wk.running (hS : ∀ g, Stop g → g.status = .running) : ∀ {n : Nat} {g : Goroutine}, Wk P main K Ok Stop n g → g.status = .running
  | 0, g, h => hS g h
  | _ + 1, g, h => h.elim (hS g) (·.1)
end
structure Sc where
  E : Env
  M : String → Bool
  w0 : World
  ty : TypeId
  aty : TypeId
  Wg : Nat
  Cn : Nat
  An : Nat
  Shun : Loc → Prop
  n : Nat
  m : Nat
  z : Value
  zs : Value
  tv : Nat → Value
  box0 : Obj
  box : Nat → Obj
  x0 : Nat → Cfg
  R : Nat → Value → World → Prop
  ans : Nat → Value → Prop
  j0 : Nat
  s0 : Nat
  AR : Goroutine → Prop
  AW : Goroutine → Prop
  Out : Goroutine → Prop
structure KW (S : Sc) (w : World) : Prop where
  low : ∀ b, b < S.w0.heap.size → b ≠ S.Wg → b ≠ S.Cn → b ≠ S.An → w.heap[b]? = S.w0.heap[b]?
  grp : ∃ st sm, WgAt S.ty S.Wg w st sm
  pay : ∃ cs, w.heap[S.An]? = some (.cells cs S.aty) ∧ cs.size = S.m
  chn : ∃ c s r, w.heap[S.Cn]? = some (.chan 0 #[] c s r false)
  os : w.os = S.w0.os
  out : w.output = S.w0.output
  tape : w.tape = S.w0.tape
  size : S.w0.heap.size ≤ w.heap.size
structure Ch (T : Nat → Prop) (w w' : World) : Prop where
  size : w.heap.size ≤ w'.heap.size
  stay : ∀ b, b < w.heap.size → ¬ T b → w'.heap[b]? = w.heap[b]?
  os : w'.os = w.os
  out : w'.output = w.output
  tape : w'.tape = w.tape
theorem Ch.refl (T : Nat → Prop) (w : World) : Ch T w w := ⟨Nat.le_refl _, fun _ _ _ => rfl, rfl, rfl, rfl⟩
theorem Ch.at (T : Nat → Prop) (w : World) (d : Nat) : Ch T w (w.at d) := ⟨Nat.le_refl _, fun _ _ _ => rfl, rfl, rfl, rfl⟩
theorem heap_lt {w : World} {b : Nat} {o : Obj} (h : w.heap[b]? = some o) : b < w.heap.size := by
  rcases Nat.lt_or_ge b w.heap.size with h1 | h1
  · exact h1
  · rw [Array.getElem?_eq_none h1] at h; cases h
theorem Ch.same {T : Nat → Prop} {w w' : World} (h : Ch T w w') {b : Nat} {o : Obj} (hb : w.heap[b]? = some o) (hn : ¬ T b) : w'.heap[b]? = some o := (h.stay b (heap_lt hb) hn).trans hb
theorem Ch.setCell {w : World} {a : Addr} {v : Value} : Ch (· = a.block) w (w.setCell a v) :=
  ⟨by rw [World.size_setCell]; exact Nat.le_refl _, fun b _ hn => heap_setCell_other w a b v hn, rfl, rfl, rfl⟩
theorem KW.ch {S : Sc} {T : Nat → Prop} {w w' : World} (h : KW S w) (hc : Ch T w w') (hT : ∀ b, T b → S.w0.heap.size ≤ b) (hW : S.Wg < S.w0.heap.size) (hC : S.Cn < S.w0.heap.size) (hA : S.An < S.w0.heap.size) : KW S w' := by
  have hn : ∀ b, b < S.w0.heap.size → ¬ T b := fun b hb ht => by
    have := hT b ht
    omega
  have hs := h.size
  obtain ⟨st, sm, h2⟩ := h.grp
  obtain ⟨cs, h3, h4⟩ := h.pay
  obtain ⟨c, s, r, h5⟩ := h.chn
  exact ⟨fun b hb n1 n2 n3 => (hc.stay b (by omega) (hn b hb)).trans (h.low b hb n1 n2 n3), ⟨st, sm, hc.same h2 (hn _ hW)⟩, ⟨cs, hc.same h3 (hn _ hA), h4⟩, ⟨c, s, r, hc.same h5 (hn _ hC)⟩, hc.os.trans h.os, hc.out.trans h.out, hc.tape.trans h.tape, Nat.le_trans hs hc.size⟩
theorem KW.at {S : Sc} {w : World} (h : KW S w) (d : Nat) : KW S (w.at d) := ⟨h.low, h.grp, h.pay, h.chn, h.os, h.out, h.tape, h.size⟩
def Sc.Sh (S : Sc) (l : Loc) : Prop := ∃ a, l = .cell a ∧ a.block = S.Wg
def Sc.Rd (S : Sc) (l : Loc) : Prop := ∃ a, l = .cell a ∧ a.block < S.w0.heap.size ∧ a.block ≠ S.Wg ∧ a.block ≠ S.An ∧ ¬ S.Shun l
def Sc.Own (S : Sc) (ob oc : Nat → Nat) (k : Nat) (l : Loc) : Prop := k ≠ 0 ∧ ((∃ a, l = .cell a ∧ ((a.block ≠ S.An ∧ ob a.block = k) ∨ (a.block = S.An ∧ oc a.off = k))) ∨ ∃ b, l = .obj b ∧ ob b = k)
theorem Sc.apt {S : Sc} {ob oc : Nat → Nat} (hW : S.Wg < S.w0.heap.size) (hne : S.Wg ≠ S.An) (hob : ∀ b, ob b ≠ 0 → S.w0.heap.size ≤ b) : Apt S.Sh S.Shun S.Rd (S.Own ob oc) where
  shRd := by
    rintro l ⟨a, rfl, h⟩ ⟨a', h1, _, h2, _⟩
    cases h1
    exact h2 h
  shOwn := by
    rintro l k ⟨a, rfl, h⟩ ⟨hk, ⟨a', h1, ⟨_, h3⟩ | ⟨h2, _⟩⟩ | ⟨b, h1, _⟩⟩
    · cases h1
      have := hob a.block (by rw [h3]; exact hk)
      omega
    · cases h1
      exact hne (h.symm.trans h2)
    · cases h1
  rdOwn := by
    rintro l k ⟨a, rfl, h, _, h5, _⟩ ⟨hk, ⟨a', h1, ⟨_, h3⟩ | ⟨h2, _⟩⟩ | ⟨b, h1, _⟩⟩
    · cases h1
      have := hob a.block (by rw [h3]; exact hk)
      omega
    · cases h1
      exact h5 h2
    · cases h1
  rdShun := by
    rintro l ⟨a, rfl, _, _, _, h⟩
    exact h
  own := by
    rintro l k k' ⟨hk, ⟨a, rfl, h⟩ | ⟨b, rfl, h⟩⟩ ⟨hk', ⟨a', h1, h'⟩ | ⟨b', h1, h'⟩⟩
    · cases h1
      rcases h with ⟨x, y⟩ | ⟨x, y⟩ <;> rcases h' with ⟨x', y'⟩ | ⟨x', y'⟩
      · exact y.symm.trans y'
      · exact absurd x' x
      · exact absurd x x'
      · exact y.symm.trans y'
    · cases h1
    · cases h1
    · cases h1
      exact h.symm.trans h'
def RdE (S : Sc) (e : Event) : Prop := ∃ a, S.Rd (.cell a) ∧ e = ⟨.cell a, false, false⟩
def RdQ (S : Sc) (q : Nat) (e : Event) : Prop := RdE S e ∨ ∃ a : Addr, a.block = q ∧ e = ⟨.cell a, false, false⟩
def RdM (S : Sc) (e : Event) : Prop := RdE S e ∨ ∃ a : Addr, a.block = S.Wg ∧ (e = mk (.read a) ∨ e = mk (.write a))
def KQ (S : Sc) (i q : Nat) (w : World) : Prop := KW S w ∧ w.heap[q]? = some (S.box i)
section
variable (S : Sc)
abbrev WkW (Stop : Goroutine → Prop) : Nat → Goroutine → Prop := Wk S.E.P false (KW S) (RdE S) Stop
abbrev WkN (Stop : Goroutine → Prop) : Nat → Goroutine → Prop := Wk S.E.P false (KW S) (fun _ => False) Stop
def AtD4 (g : Goroutine) : Prop := g.status = .running ∧ mayWake S.E.P g = true ∧ ∃ g', (∀ w, KW S w → WgAt S.ty S.Wg w 0 0 → stepG S.E.P false g w = .go g' (w.setCell (smA S.Wg) (.int .u32 1)) (semEvents (smA S.Wg))) ∧ ∃ q, QuitsD S.E.P q 1 g'
def AtD3 (g : Goroutine) : Prop := g.status = .running ∧ ∃ g', (∀ w, KW S w → WgAt S.ty S.Wg w 1 0 → stepG S.E.P false g w = .go g' (w.setCell (stA S.Wg) (.int .u64 0)) #[wr (stA S.Wg)]) ∧ ∃ n, WkN S (AtD4 S) n g'
def AtD2 (g : Goroutine) : Prop := g.status = .running ∧ ∃ g', (∀ w, KW S w → WgAt S.ty S.Wg w 1 0 → stepG S.E.P false g w = .go g' w #[rd (stA S.Wg)]) ∧ ∃ n, WkN S (AtD3 S) n g'
def AtD1 (g : Goroutine) : Prop := g.status = .running ∧ ∀ v wt : Nat, wt ≤ 1 → v < S.n → ∃ g', (∀ w, KW S w → WgAt S.ty S.Wg w ((v + 1) * KK + wt) 0 → stepG S.E.P false g w = .go g' (w.setCell (stA S.Wg) (.int .u64 (v * KK + wt))) #[rd (stA S.Wg), wr (stA S.Wg)]) ∧
  ((v = 0 ∧ wt = 1) → ∃ n, WkN S (AtD2 S) n g') ∧ (¬ (v = 0 ∧ wt = 1) → ∃ q, QuitsD S.E.P q 1 g')
def AtK1 (g : Goroutine) : Prop := g.status = .running ∧ ∃ g', (∀ w, KW S w → stepG S.E.P false g w = .go g' w #[mk .disable]) ∧ ∃ n, WkN S (AtD1 S) n g'
def AtR0 (g : Goroutine) : Prop := g.status = .running ∧ ∃ g', (∀ w, KW S w → stepG S.E.P false g w = .go g' w #[mk (.releaseMerge (stA S.Wg))]) ∧ ∃ n, WkN S (AtK1 S) n g'
def AtStore (i q : Nat) (v : Value) (g : Goroutine) : Prop := g.status = .running ∧ ∃ g', (∀ w, KQ S i q w → stepG S.E.P false g w = .go g' (w.setCell ⟨S.An, i, none⟩ v) #[⟨.cell ⟨S.An, i, none⟩, true, false⟩]) ∧ ∃ n, WkW S S.AR n g'
abbrev WkQ (i q : Nat) (Stop : Goroutine → Prop) : Nat → Goroutine → Prop := Wk S.E.P false (KQ S i q) (RdQ S q) Stop
def Waits (i q : Nat) (z : Frame) (zs : List Frame) : Prop := ∀ v, S.ans i v → ∃ n, WkQ S i q (AtStore S i q v) n { frame := z.finish v, callers := zs, status := .running, dying := none }
def AtCall (i q : Nat) (g : Goroutine) : Prop := g.status = .running ∧ ∃ z zs, (∀ w, KQ S i q w → stepG S.E.P false g w = .go (gor (S.x0 i).1 (z :: zs)) w #[]) ∧ Waits S i q z zs
def AtDraw (i q : Nat) (g : Goroutine) : Prop := g.status = .running ∧ ∀ w, KQ S i q w → ∃ g' d, stepG S.E.P false g w = .go g' (w.at d) #[] ∧ ∃ n, WkQ S i q (AtCall S i q) n g'
def AtPut (i q : Nat) (g : Goroutine) : Prop := g.status = .running ∧ ∃ g', (∀ w, KW S w → w.heap[q]? = some S.box0 → ∃ w' es, stepG S.E.P false g w = .go g' w' es ∧ Ch (· = q) w w' ∧ w'.heap.size = w.heap.size ∧ w'.heap[q]? = some (S.box i) ∧ ∀ e ∈ es, ∃ a : Addr, a.block = q ∧ e = ⟨.cell a, true, false⟩) ∧ ∃ n, WkQ S i q (AtDraw S i q) n g'
def AtNew (i : Nat) (g : Goroutine) : Prop := g.status = .running ∧ ∀ w, KW S w → ∃ g' w', stepG S.E.P false g w = .go g' w' #[] ∧ Ch (fun _ => False) w w' ∧ w'.heap.size = w.heap.size + 1 ∧ w'.heap[w.heap.size]? = some S.box0 ∧ ∃ n, WkW S (AtPut S i w.heap.size) n g'
abbrev WkM (Stop : Goroutine → Prop) : Nat → Goroutine → Prop := Wk S.E.P true (KW S) (RdM S) Stop
def AtAcq (g : Goroutine) : Prop := g.status = .running ∧ ∃ g', (∀ w, KW S w → stepG S.E.P true g w = .go g' w #[mk (.acquire (stA S.Wg))]) ∧ S.Out g'
def AtKe (g : Goroutine) : Prop := g.status = .running ∧ ∃ g', (∀ w, KW S w → stepG S.E.P true g w = .go g' w #[mk .enable]) ∧ ∃ n, WkM S (AtAcq S) n g'
def AtW4 (g : Goroutine) : Prop := g.status = .running ∧ ∃ g', (∀ w, KW S w → WgAt S.ty S.Wg w 0 0 → stepG S.E.P true g w = .go g' w #[rd (stA S.Wg)]) ∧ ∃ n, WkM S (AtKe S) n g'
def AtW3 (g : Goroutine) : Prop := g.status = .running ∧ g.offers = none ∧ (∀ w, KW S w → ∀ st, WgAt S.ty S.Wg w st 0 → stepG S.E.P true g w = .go { g with status := .blocked } w #[]) ∧
  ∃ g', (∀ w, KW S w → WgAt S.ty S.Wg w 0 1 → stepG S.E.P true g w = .go g' (w.setCell (smA S.Wg) (.int .u32 0)) (semEvents (smA S.Wg))) ∧ ∃ n, WkM S (AtW4 S) n g'
def AtW2 (vs : Nat) (g : Goroutine) : Prop := g.status = .running ∧ ∀ v : Nat, v ≤ S.n →
  (v = vs → ∃ g', (∀ w, KW S w → WgAt S.ty S.Wg w (v * KK) 0 → stepG S.E.P true g w = .go g' (w.setCell (stA S.Wg) (.int .u64 (v * KK + 1))) #[rd (stA S.Wg), wr (stA S.Wg)]) ∧ ∃ n, WkM S (AtW3 S) n g') ∧
  (v ≠ vs → ∃ g', (∀ w, KW S w → WgAt S.ty S.Wg w (v * KK) 0 → stepG S.E.P true g w = .go g' w #[rd (stA S.Wg)]) ∧ ∃ n, WkM S S.AW n g')
def AtW1 (g : Goroutine) : Prop := g.status = .running ∧ ∀ v : Nat, v ≤ S.n → ∃ g', (∀ w, KW S w → WgAt S.ty S.Wg w (v * KK) 0 → stepG S.E.P true g w = .go g' w #[rd (stA S.Wg)]) ∧
  (v = 0 → ∃ n, WkM S (AtKe S) n g') ∧ (v ≠ 0 → ∃ n, WkM S (AtW2 S v) n g')
def AtKd (g : Goroutine) : Prop := g.status = .running ∧ ∃ g', (∀ w, KW S w → stepG S.E.P true g w = .go g' w #[mk .disable]) ∧ ∃ n, WkM S S.AW n g'
def AtClo (g : Goroutine) : Prop := g.status = .running ∧ mayWake S.E.P g = true ∧ ∃ g', g'.status = .running ∧ (∀ w s r, KW S w → w.heap[S.Cn]? = some (.chan 0 #[] false s r false) → stepG S.E.P true g w = .go g' (w.setChan S.Cn 0 #[] true s r false) #[⟨.obj S.Cn, false, true⟩, ⟨.obj S.Cn, true, true⟩]) ∧ ∃ n, WkM S (AtKd S) n g'
def AtSend (j : Nat) (Next : Goroutine → Prop) (g : Goroutine) : Prop := g.status = .running ∧ (∀ w, KW S w → stepG S.E.P true g w = .comm g #[scase S.Cn (S.tv j) S.zs] true .send w #[]) ∧ Next (Go.Conc.served g undef)
def Snd : Nat → Goroutine → Prop
  | 0, g => ∃ n, WkM S (AtClo S) n g
  | l + 1, g => ∃ n, WkM S (AtSend S (S.m - (l + 1)) (Snd l)) n g
def AtGo (Next : Goroutine → Prop) (g : Goroutine) : Prop := g.status = .running ∧ ∃ g' c, (∀ w, KW S w → stepG S.E.P true g w = .spawn g' c w #[]) ∧ c.status = .running ∧ (∃ n, WkW S S.AR n c) ∧ Next g'
def AtKeS (Next : Goroutine → Prop) (g : Goroutine) : Prop := g.status = .running ∧ ∃ g', (∀ w, KW S w → stepG S.E.P true g w = .go g' w #[mk .enable]) ∧ ∃ n, WkM S (AtGo S Next) n g'
def AtA1 (Next : Goroutine → Prop) (g : Goroutine) : Prop := g.status = .running ∧ ∀ v : Nat, v < S.n → ∃ g', (∀ w, KW S w → WgAt S.ty S.Wg w (v * KK) 0 → stepG S.E.P true g w = .go g' (w.setCell (stA S.Wg) (.int .u64 ((v + 1) * KK))) #[rd (stA S.Wg), wr (stA S.Wg)]) ∧ ∃ n, WkM S (AtKeS S Next) n g'
def AtKdS (Next : Goroutine → Prop) (g : Goroutine) : Prop := g.status = .running ∧ ∃ g', (∀ w, KW S w → stepG S.E.P true g w = .go g' w #[mk .disable]) ∧ ∃ n, WkM S (AtA1 S Next) n g'
def Spw : Nat → Goroutine → Prop
  | 0, g => Snd S S.m g
  | r + 1, g => ∃ n, WkM S (AtKdS S (Spw r)) n g
structure ScOk : Prop where
  hW : S.Wg < S.w0.heap.size
  hC : S.Cn < S.w0.heap.size
  hA : S.An < S.w0.heap.size
  wa : S.Wg ≠ S.An
  wc : S.Wg ≠ S.Cn
  ca : S.Cn ≠ S.An
  hn : 1 ≤ S.n
  hn16 : S.n ≤ 16
  j0 : 1 ≤ S.j0
  aw : ∀ g, S.AW g → g.status = .running ∧ ∃ n, WkM S (AtW1 S) n g
  ar : ∀ g, S.AR g → g.status = .running ∧ g.offers = none ∧ (∀ w, KW S w → stepG S.E.P false g w = .comm g #[rcase S.Cn S.z] true (.recv true) w #[]) ∧ (∀ i, i < S.m → ∃ n, WkW S (AtNew S i) n (Go.Conc.served g (recvd true (S.tv i) true))) ∧ ∃ n, WkW S (AtR0 S) n (Go.Conc.served g (recvd true S.z false))
  rt : RtOk S.E
  call : CallOk S.E S.M
  code : CodeOk S.E S.M
  cont : ∀ i, i < S.m → Cont S.E (S.x0 i) (S.R i)
  val : ∀ i v w, i < S.m → S.R i v w → S.ans i v
  plain : ∀ i v f, S.ans i v → rV f v = v
  flw : ∀ i w, i < S.m → KW S w → ∃ f, Follows S.E S.M (S.x0 i) f (S.x0 i) w ∧ (S.x0 i).1.map (rF f) = (S.x0 i).1 ∧ (S.x0 i).2.size = S.E.B ∧ ∀ b, S.E.B ≤ b → S.w0.heap.size ≤ f b
  EB : S.E.B ≤ S.w0.heap.size
  rdlo : ∀ b, S.E.R b ∨ S.E.O b → b < S.w0.heap.size ∧ b ≠ S.Wg ∧ b ≠ S.Cn ∧ b ≠ S.An
  rdshun : ∀ a : Addr, S.E.R a.block → ¬ S.Shun (.cell a)
end
structure WD where
  stage : Nat
  fuel : Nat
  deaf : Nat
  place : Nat
  y : Cfg
structure MD where
  kind : Nat
  r : Nat
  fuel : Nat
def WSit (S : Sc) (k : Nat) (d : WD) (ob : Nat → Nat) (cl : Bool) (g : Goroutine) (w : World) : Prop :=
  (d.stage = 24 ∧ d.deaf = 0 ∧ WkW S (AtNew S d.place) d.fuel g) ∨
  (d.stage = 23 ∧ d.deaf = 0 ∧ ∃ q, ob q = k ∧ w.heap[q]? = some S.box0 ∧ WkW S (AtPut S d.place q) d.fuel g) ∨
  (d.stage = 22 ∧ d.deaf = 0 ∧ ∃ q, ob q = k ∧ w.heap[q]? = some (S.box d.place) ∧ WkQ S d.place q (AtDraw S d.place q) d.fuel g) ∨
  (d.stage = 21 ∧ d.deaf = 0 ∧ ∃ q, ob q = k ∧ w.heap[q]? = some (S.box d.place) ∧ WkQ S d.place q (AtCall S d.place q) d.fuel g) ∨
  (d.stage = 20 ∧ d.deaf = 0 ∧ ∃ q z zs f, ob q = k ∧ w.heap[q]? = some (S.box d.place) ∧ Waits S d.place q z zs ∧ Follows S.E S.M (S.x0 d.place) f d.y w ∧ (∀ b, S.E.I d.y.2.size b → ob (f b) = k ∧ f b ≠ q) ∧ g = gor (d.y.1.map (rF f)) (z :: zs)) ∨
  (d.stage = 19 ∧ d.deaf = 0 ∧ ∃ q v, ob q = k ∧ w.heap[q]? = some (S.box d.place) ∧ S.ans d.place v ∧ WkQ S d.place q (AtStore S d.place q v) d.fuel g) ∨
  (d.stage = 17 ∧ d.deaf = 0 ∧ ((∃ f, d.fuel = f + 1 ∧ WkW S S.AR f g) ∨ (∃ g0 o, d.fuel = 1 ∧ S.AR g0 ∧ g = { g0 with offers := o }) ∨ (∃ g0, d.fuel = 0 ∧ cl = false ∧ S.AR g0 ∧ g = parked g0 #[rcase S.Cn S.z] (.recv true)))) ∨
  (d.stage = 16 ∧ d.deaf = 0 ∧ WkW S (AtR0 S) d.fuel g) ∨
  (d.stage = 6 ∧ d.deaf = 0 ∧ WkN S (AtK1 S) d.fuel g) ∨
  (d.stage = 5 ∧ d.deaf = 1 ∧ WkN S (AtD1 S) d.fuel g) ∨
  (d.stage = 4 ∧ d.deaf = 1 ∧ WkN S (AtD2 S) d.fuel g) ∨
  (d.stage = 3 ∧ d.deaf = 1 ∧ WkN S (AtD3 S) d.fuel g) ∨
  (d.stage = 2 ∧ d.deaf = 1 ∧ WkN S (AtD4 S) d.fuel g) ∨
  (d.stage = 1 ∧ QuitsD S.E.P d.fuel d.deaf g)
def MSit (S : Sc) (M : MD) (c : Nat) (a : Goroutine) : Prop :=
  (M.kind = 16 ∧ M.r < S.n ∧ c = S.n - (M.r + 1) ∧ WkM S (AtKdS S (Spw S M.r)) M.fuel a) ∨
  (M.kind = 15 ∧ M.r < S.n ∧ c = S.n - (M.r + 1) ∧ WkM S (AtA1 S (Spw S M.r)) M.fuel a) ∨
  (M.kind = 14 ∧ M.r < S.n ∧ c = S.n - (M.r + 1) ∧ WkM S (AtKeS S (Spw S M.r)) M.fuel a) ∨
  (M.kind = 13 ∧ M.r < S.n ∧ c = S.n - (M.r + 1) ∧ WkM S (AtGo S (Spw S M.r)) M.fuel a) ∨
  (M.kind = 12 ∧ c = S.n ∧ M.r < S.m ∧ ∃ f, M.fuel = f + 1 ∧ WkM S (AtSend S (S.m - (M.r + 1)) (Snd S M.r)) f a) ∨
  (M.kind = 11 ∧ c = S.n ∧ M.r < S.m ∧ ∃ g, M.fuel = 0 ∧ AtSend S (S.m - (M.r + 1)) (Snd S M.r) g ∧ a = parked g #[scase S.Cn (S.tv (S.m - (M.r + 1))) S.zs] .send) ∨
  (M.kind = 10 ∧ c = S.n ∧ WkM S (AtClo S) M.fuel a) ∨
  (M.kind = 9 ∧ c = S.n ∧ WkM S (AtKd S) M.fuel a) ∨
  (M.kind = 8 ∧ c = S.n ∧ WkM S S.AW M.fuel a) ∨
  (M.kind = 7 ∧ c = S.n ∧ WkM S (AtW1 S) M.fuel a) ∨
  (M.kind = 6 ∧ c = S.n ∧ WkM S (AtW2 S M.r) M.fuel a) ∨
  (M.kind = 5 ∧ c = S.n ∧ ∃ f, M.fuel = f + 1 ∧ WkM S (AtW3 S) f a) ∨
  (M.kind = 4 ∧ c = S.n ∧ ∃ g, M.fuel = 0 ∧ AtW3 S g ∧ a = { g with status := .blocked }) ∨
  (M.kind = 3 ∧ c = S.n ∧ WkM S (AtW4 S) M.fuel a) ∨
  (M.kind = 2 ∧ c = S.n ∧ WkM S (AtKe S) M.fuel a) ∨
  (M.kind = 1 ∧ c = S.n ∧ WkM S (AtAcq S) M.fuel a)
def mdeaf (kd : Nat) : Nat := if kd = 15 ∨ kd = 14 ∨ (2 ≤ kd ∧ kd ≤ 8) then 1 else 0
def pend (kd : Nat) : Nat := if kd = 14 ∨ kd = 13 then 1 else 0
def rcOf (S : Sc) (M : MD) : Nat := if 13 ≤ M.kind then 0 else if 11 ≤ M.kind then S.m - (M.r + 1) else S.m
def cntW (d : WD) : Nat := if 5 ≤ d.stage then 1 else 0
def Vc (c : Nat) (D : Nat → WD) : Nat := sumTo c fun i => cntW (D i)
def Ssum (c : Nat) (D : Nat → WD) : Nat := sumTo c fun i => (D i).stage
def Fsum (c : Nat) (D : Nat → WD) : Nat := sumTo c fun i => (D i).fuel
def AllQ (c : Nat) (D : Nat → WD) : Prop := ∀ i, i < c → (D i).stage = 1
def OpSt (c : Nat) (D : Nat → WD) : Prop := ∀ i, i < c → 5 ≤ (D i).stage ∨ (D i).stage = 1
def Mode (c : Nat) (D : Nat → WD) (kd r : Nat) (st sm : Int) : Prop :=
  (6 ≤ kd ∧ OpSt c D ∧ st = ((Vc c D + pend kd : Nat) : Int) * KK ∧ sm = 0 ∧ (kd = 6 → Vc c D ≤ r ∧ 1 ≤ r)) ∨
  ((kd = 5 ∨ kd = 4) ∧ OpSt c D ∧ 1 ≤ Vc c D ∧ st = ((Vc c D : Nat) : Int) * KK + 1 ∧ sm = 0) ∨
  ((kd = 5 ∨ kd = 4) ∧ sm = 0 ∧ ∃ L, L < c ∧ (∀ i, i < c → i ≠ L → (D i).stage = 1) ∧ (((D L).stage = 4 ∨ (D L).stage = 3) ∧ st = 1 ∨ (D L).stage = 2 ∧ st = 0)) ∨
  (kd = 5 ∧ AllQ c D ∧ st = 0 ∧ sm = 1) ∨
  (kd ≤ 3 ∧ AllQ c D ∧ st = 0 ∧ sm = 0)
def phi (S : Sc) (v : Nat) (M : MD) : Nat :=
  if 13 ≤ M.kind then 8 * S.n + 12 + 2 * S.m + 30 * M.r + 20 + (M.kind - 12)
  else if 11 ≤ M.kind then 8 * S.n + 8 + 2 * (M.r + 1)
  else if M.kind = 10 then 8 * S.n + 8
  else if M.kind = 9 then 8 * S.n + 7
  else if M.kind = 8 then 8 * v + 6
  else if M.kind = 7 then 8 * v + 5
  else if M.kind = 6 then 8 * M.r + 4
  else if M.kind = 5 ∨ M.kind = 4 then 4
  else M.kind
def meas (S : Sc) (c : Nat) (D : Nat → WD) (M : MD) (q : Nat → Nat) : Nat × (Nat → Cfg) × Nat :=
  (phi S (Vc c D) M + Ssum c D + 10 * (S.m - rcOf S M), fun i => (D i).y, M.fuel + 2 * (Fsum c D + sumTo S.j0 q))
structure Inv (S : Sc) (c : Nat) (D : Nat → WD) (M : MD) (ob oc q : Nat → Nat) (cl : Bool) (st sm : Int) (gs : Array Goroutine) (w : World) (t : Trace) : Prop where
  size : gs.size = S.j0 + c
  main : ∃ a, gs[0]? = some a ∧ MSit S M c a
  old : ∀ k, 0 < k → k < S.j0 → ∃ g, gs[k]? = some g ∧ QuitsD S.E.P (q k) (Deaf t k) g
  wk : ∀ i, i < c → ∃ g, gs[S.j0 + i]? = some g ∧ WSit S (S.j0 + i) (D i) ob cl g w
  deaf0 : Deaf t 0 = mdeaf M.kind
  deafW : ∀ i, i < c → Deaf t (S.j0 + i) = (D i).deaf
  deafN : ∀ k, S.j0 + c ≤ k → Deaf t k = 0
  kw : KW S w
  tr : Tr S.Sh S.Shun S.Rd (S.Own ob oc) S.s0 S.j0 (S.j0 + c) w.heap.size t
  obl : ∀ b, ob b ≠ 0 → S.w0.heap.size ≤ b ∧ b < w.heap.size
  ocl : ∀ p, rcOf S M ≤ p → oc p = 0
  oct : ∀ op ∈ t, ∀ a, op.act.touch? = some a → ∀ p, rcOf S M ≤ p → ∀ ad : Addr, ad.block = S.An → ad.off = p → a.loc ≠ .cell ad
  rel : ∀ i, i < c → (D i).stage ≤ 6 → ∃ r, RelBy (stA S.Wg) t (S.j0 + i) r
  nor : NoRelease (stA S.Wg) t
  grp : WgAt S.ty S.Wg w st sm
  mode : Mode c D M.kind M.r st sm
  chn : ∃ s r, w.heap[S.Cn]? = some (.chan 0 #[] cl s r false)
  clo : cl = true ↔ M.kind ≤ 9
  opn : cl = false → ∀ i, i < c → 17 ≤ (D i).stage
  pay : ∃ cs, w.heap[S.An]? = some (.cells cs S.aty) ∧ cs.size = S.m ∧ ∀ p, p < rcOf S M → (∃ v, cs[p]? = some v ∧ S.ans p v) ∨ ∃ i, i < c ∧ (D i).place = p ∧ 19 ≤ (D i).stage
  plc : ∀ i, i < c → 19 ≤ (D i).stage → (D i).place < rcOf S M ∧ oc (D i).place = S.j0 + i
  npk : M.kind = 11 → ∀ i, i < c → ¬ ((D i).stage = 17 ∧ (D i).fuel = 0)
  acc : ∀ i, Acc (Nx S.E) (D i).y
section
variable {S : Sc} {k : Nat} {d : WD} {ob ob' : Nat → Nat} {cl : Bool} {g : Goroutine} {w w' : World}
theorem WSit.other (h : WSit S k d ob cl g w) {T : Nat → Prop} (hc : Ch T w w') (hT : ∀ b, T b → ob b ≠ k) (hR : ∀ b, S.E.R b ∨ S.E.O b → ¬ T b) (hob : ∀ b, b < w.heap.size → ob b = k → ob' b = k) : WSit S k d ob' cl g w' := by
  have hq : ∀ {q : Nat} {o : Obj}, ob q = k → w.heap[q]? = some o → ob' q = k ∧ w'.heap[q]? = some o := fun {q o} h1 h2 => ⟨hob q (heap_lt h2) h1, hc.same h2 fun t => hT q t h1⟩
  rcases h with h | ⟨h1, h2, q, h3, h4, h5⟩ | ⟨h1, h2, q, h3, h4, h5⟩ | ⟨h1, h2, q, h3, h4, h5⟩ | ⟨h1, h2, q, z, zs, f, h3, h4, h5, h6, h7, h8⟩ | ⟨h1, h2, q, v, h3, h4, h5⟩ | h
  · exact .inl h
  · exact .inr (.inl ⟨h1, h2, q, (hq h3 h4).1, (hq h3 h4).2, h5⟩)
  · exact .inr (.inr (.inl ⟨h1, h2, q, (hq h3 h4).1, (hq h3 h4).2, h5⟩))
  · exact .inr (.inr (.inr (.inl ⟨h1, h2, q, (hq h3 h4).1, (hq h3 h4).2, h5⟩)))
  · have hlt : ∀ b, S.E.I d.y.2.size b → f b < w.heap.size := fun b hb => low_lt h6.fit h6.rel hb.2
    obtain ⟨f', k1, k2, k3⟩ := h6.other hc.size (fun b hb => hc.stay (f b) (hlt b hb) fun t => hT _ t (h7 b hb).1) (fun b hb => by
      refine hc.stay b ?_ (hR b hb)
      rcases hb with hb | hb
      · obtain ⟨c, t, _, h9, _⟩ := h6.rel.ro b hb
        exact heap_lt h9
      · obtain ⟨c, e, c', _, h9, _⟩ := h6.rel.op b hb
        exact heap_lt h9) hc.os
    exact .inr (.inr (.inr (.inr (.inl ⟨h1, h2, q, z, zs, f', (hq h3 h4).1, (hq h3 h4).2, h5, k1, fun b hb => by rw [k3 b hb.2]; exact ⟨hob _ (hlt b hb) (h7 b hb).1, (h7 b hb).2⟩, by rw [k2]; exact h8⟩))))
  · exact .inr (.inr (.inr (.inr (.inr (.inl ⟨h1, h2, q, v, (hq h3 h4).1, (hq h3 h4).2, h5⟩)))))
  · exact .inr (.inr (.inr (.inr (.inr (.inr h)))))
theorem gor_status {Z : List Frame} {Y : List Frame} (h : Y ++ Z ≠ []) : (gor Y Z).status = .running := by
  unfold gor
  cases hx : Y ++ Z with
  | nil => exact absurd hx h
  | cons a l => rfl
theorem WSit.status (X : ScOk S) (h : WSit S k d ob cl g w) : g.status = .running ∨ (g.status = .finished ∧ d.stage = 1) ∨ (d.stage = 17 ∧ d.fuel = 0 ∧ cl = false ∧ ∃ g0, S.AR g0 ∧ g = parked g0 #[rcase S.Cn S.z] (.recv true)) := by
  rcases h with ⟨_, _, h⟩ | ⟨_, _, q, _, _, h⟩ | ⟨_, _, q, _, _, h⟩ | ⟨_, _, q, _, _, h⟩ | ⟨_, _, q, z, zs, f, _, _, _, _, _, h⟩ | ⟨_, _, q, v, _, _, _, h⟩ | ⟨h0, _, h⟩ | ⟨_, _, h⟩ | ⟨_, _, h⟩ | ⟨_, _, h⟩ | ⟨_, _, h⟩ | ⟨_, _, h⟩ | ⟨_, _, h⟩ | ⟨h0, h⟩
  · exact .inl (h.running fun _ x => x.1)
  · exact .inl (h.running fun _ x => x.1)
  · exact .inl (h.running fun _ x => x.1)
  · exact .inl (h.running fun _ x => x.1)
  · exact .inl (by rw [h]; exact gor_status (by simp))
  · exact .inl (h.running fun _ x => x.1)
  · rcases h with ⟨f, _, h⟩ | ⟨g0, o, _, h1, rfl⟩ | ⟨g0, h1, h2, h3, h4⟩
    · exact .inl (h.running fun g x => (X.ar g x).1)
    · exact .inl (X.ar g0 h1).1
    · exact .inr (.inr ⟨h0, h1, h2, g0, h3, h4⟩)
  · exact .inl (h.running fun _ x => x.1)
  · exact .inl (h.running fun _ x => x.1)
  · exact .inl (h.running fun _ x => x.1)
  · exact .inl (h.running fun _ x => x.1)
  · exact .inl (h.running fun _ x => x.1)
  · exact .inl (h.running fun _ x => x.1)
  · rcases h.status with h | h
    · exact .inl h
    · exact .inr (.inl ⟨h, h0⟩)
theorem again_parked {g0 : Goroutine} {c : CommCase} {cs : CommShape} {n s r : Nat} (hc : c.chan = .chan (some n)) (h : w'.heap[n]? = some (.chan 0 #[] false s r false)) : (parked g0 #[c] cs).again w' = parked g0 #[c] cs := by
  simp [Goroutine.again, parked, hc, h]
theorem WSit.woken (X : ScOk S) (h : WSit S k d ob cl g w) (a a' : Goroutine) {s r : Nat} (hc : w'.heap[S.Cn]? = some (.chan 0 #[] cl s r false)) : woken S.E.P a a' w' g = g := by
  unfold Go.Conc.woken
  split
  · rcases h.status X with h | ⟨h, _⟩ | ⟨_, _, hcl, g0, _, rfl⟩
    · exact again_running _ (.inl h)
    · exact again_running _ (.inr h)
    · rw [hcl] at hc
      exact again_parked rfl hc
  · rfl
end
section
variable {S : Sc} {M : MD} {c : Nat} {a : Goroutine}
theorem MSit.status (X : ScOk S) (h : MSit S M c a) : a.status = .running ∨ (M.kind = 11 ∧ ∃ g, AtSend S (S.m - (M.r + 1)) (Snd S M.r) g ∧ a = parked g #[scase S.Cn (S.tv (S.m - (M.r + 1))) S.zs] .send) ∨ (M.kind = 4 ∧ ∃ g, AtW3 S g ∧ a = { g with status := .blocked }) := by
  rcases h with ⟨_, _, _, h⟩ | ⟨_, _, _, h⟩ | ⟨_, _, _, h⟩ | ⟨_, _, _, h⟩ | ⟨_, _, _, f, _, h⟩ | ⟨h0, _, _, g, _, h⟩ | ⟨_, _, h⟩ | ⟨_, _, h⟩ | ⟨_, _, h⟩ | ⟨_, _, h⟩ | ⟨_, _, h⟩ | ⟨_, _, f, _, h⟩ | ⟨h0, _, g, _, h⟩ | ⟨_, _, h⟩ | ⟨_, _, h⟩ | ⟨_, _, h⟩
  · exact .inl (h.running fun _ x => x.1)
  · exact .inl (h.running fun _ x => x.1)
  · exact .inl (h.running fun _ x => x.1)
  · exact .inl (h.running fun _ x => x.1)
  · exact .inl (h.running fun _ x => x.1)
  · exact .inr (.inl ⟨h0, g, h⟩)
  · exact .inl (h.running fun _ x => x.1)
  · exact .inl (h.running fun _ x => x.1)
  · exact .inl (h.running fun g x => (X.aw g x).1)
  · exact .inl (h.running fun _ x => x.1)
  · exact .inl (h.running fun _ x => x.1)
  · exact .inl (h.running fun _ x => x.1)
  · exact .inr (.inr ⟨h0, g, h⟩)
  · exact .inl (h.running fun _ x => x.1)
  · exact .inl (h.running fun _ x => x.1)
  · exact .inl (h.running fun _ x => x.1)
theorem MSit.range (h : MSit S M c a) : 1 ≤ M.kind ∧ M.kind ≤ 16 ∧ c ≤ S.n ∧ (M.kind ≤ 12 → c = S.n) ∧ (11 ≤ M.kind → M.kind ≤ 12 → M.r < S.m) ∧ (13 ≤ M.kind → M.r < S.n ∧ c = S.n - (M.r + 1)) := by
  rcases h with h | h | h | h | h | h | h | h | h | h | h | h | h | h | h | h
  · exact ⟨by omega, by omega, by omega, fun _ => by omega, fun _ _ => by omega, fun _ => ⟨h.2.1, h.2.2.1⟩⟩
  · exact ⟨by omega, by omega, by omega, fun _ => by omega, fun _ _ => by omega, fun _ => ⟨h.2.1, h.2.2.1⟩⟩
  · exact ⟨by omega, by omega, by omega, fun _ => by omega, fun _ _ => by omega, fun _ => ⟨h.2.1, h.2.2.1⟩⟩
  · exact ⟨by omega, by omega, by omega, fun _ => by omega, fun _ _ => by omega, fun _ => ⟨h.2.1, h.2.2.1⟩⟩
  · exact ⟨by omega, by omega, by omega, fun _ => h.2.1, fun _ _ => h.2.2.1, fun _ => by omega⟩
  · exact ⟨by omega, by omega, by omega, fun _ => h.2.1, fun _ _ => h.2.2.1, fun _ => by omega⟩
  all_goals exact ⟨by omega, by omega, by omega, fun _ => h.2.1, fun _ _ => by omega, fun _ => by omega⟩
theorem MSit.woken (X : ScOk S) (h : MSit S M c a) (g g' : Goroutine) {w' : World} {cl : Bool} {s r : Nat} (hc : w'.heap[S.Cn]? = some (.chan 0 #[] cl s r false)) (hcl : cl = true ↔ M.kind ≤ 9) :
    ∃ M', MSit S M' c (woken S.E.P g g' w' a) ∧ (M' = M ∨ (M.kind = 4 ∧ M.fuel = 0 ∧ M' = ⟨5, M.r, 1⟩)) ∧ (mayWake S.E.P g = true → g'.status ≠ .blocked → g'.status ≠ .waiting → M'.kind ≠ 4) := by
  rcases h.status X with hs | ⟨hk, g0, hg, rfl⟩ | ⟨hk, g0, hg, rfl⟩
  · have e : Go.Conc.woken S.E.P g g' w' a = a := by
      unfold Go.Conc.woken
      split
      · exact again_running _ (.inl hs)
      · rfl
    rw [e]
    refine ⟨M, h, .inl rfl, fun _ _ _ hk => ?_⟩
    rcases h with h | h | h | h | h | h | h | h | h | h | h | h | h | h | h | h
    all_goals first | omega | skip
    obtain ⟨_, _, g0, _, _, rfl⟩ := h
    cases hs
  · have e : Go.Conc.woken S.E.P g g' w' (parked g0 #[scase S.Cn (S.tv (S.m - (M.r + 1))) S.zs] .send) = parked g0 #[scase S.Cn (S.tv (S.m - (M.r + 1))) S.zs] .send := by
      unfold Go.Conc.woken
      split
      · have : cl = false := by
          cases cl with
          | false => rfl
          | true => have := hcl.1 rfl; omega
        subst this
        exact again_parked rfl hc
      · rfl
    rw [e]
    exact ⟨M, h, .inl rfl, fun _ _ _ => by omega⟩
  · unfold Go.Conc.woken
    have hcn := h.range.2.2.2.1 (by omega)
    have h0 : M.fuel = 0 := by
      rcases h with h | h | h | h | h | h | h | h | h | h | h | h | h | h | h | h
      all_goals first | omega | exact h.2.2.choose_spec.1
    by_cases hw : (mayWake S.E.P g && g'.status != .blocked && g'.status != .waiting) = true
    · rw [if_pos hw]
      have e : ({ g0 with status := .blocked } : Goroutine).again w' = g0 := by
        obtain ⟨fr, cs, st, dy, of⟩ := g0
        obtain ⟨hst, hof, _⟩ := hg
        simp only at hst hof
        subst hst
        subst hof
        rfl
      rw [e]
      exact ⟨⟨5, M.r, 1⟩, .inr (.inr (.inr (.inr (.inr (.inr (.inr (.inr (.inr (.inr (.inr (.inl ⟨rfl, hcn, 0, rfl, hg⟩))))))))))), .inr ⟨hk, h0, rfl⟩, fun _ _ _ => by simp⟩
    · rw [if_neg hw]
      refine ⟨M, h, .inl rfl, fun h1 h2 h3 => ?_⟩
      exfalso
      apply hw
      simp [h1, h2, h3]
end
theorem Inv.awake {S : Sc} (X : ScOk S) {c : Nat} {D : Nat → WD} {M : MD} {ob oc q : Nat → Nat} {cl : Bool} {st sm : Int} {gs : Array Goroutine} {w : World} {t : Trace} (h : Inv S c D M ob oc q cl st sm gs w t) : (∀ g ∈ gs, awake g) ∧ ∃ (i : Nat) (g : Goroutine), gs[i]? = some g ∧ g.status = .running := by
  have hw : ∀ i, i < c → ∃ g, gs[S.j0 + i]? = some g ∧ (g.status = .running ∨ g.status = .finished ∧ (D i).stage = 1 ∨ g.status = .blocked ∧ (D i).stage = 17 ∧ (D i).fuel = 0 ∧ cl = false) := fun i hi => by
    obtain ⟨g, hg, hs⟩ := h.wk i hi
    refine ⟨g, hg, ?_⟩
    rcases hs.status X with h1 | h1 | ⟨h1, h2, h3, g0, _, rfl⟩
    · exact .inl h1
    · exact .inr (.inl h1)
    · exact .inr (.inr ⟨rfl, h1, h2, h3⟩)
  obtain ⟨a, ha, hm⟩ := h.main
  have hj := X.j0
  refine ⟨fun g hg => ?_, ?_⟩
  · obtain ⟨i, hi⟩ := Array.mem_iff_getElem?.1 hg
    have hlt := (Array.getElem?_eq_some_iff.1 hi).1
    rw [h.size] at hlt
    rcases Nat.eq_zero_or_pos i with rfl | hpos
    · rw [ha] at hi; cases hi
      rcases hm.status X with hs | ⟨_, g0, _, rfl⟩ | ⟨_, g0, _, rfl⟩
      · exact awake_of (.inl hs)
      · exact awake_of (.inr (.inl rfl))
      · exact awake_of (.inr (.inl rfl))
    · rcases Nat.lt_or_ge i S.j0 with hl | hl
      · obtain ⟨g', hg', hq⟩ := h.old i hpos hl
        rw [hi] at hg'; cases hg'
        exact awake_of (hq.status.elim .inl fun x => .inr (.inr x))
      · obtain ⟨g', hg', hs⟩ := hw (i - S.j0) (by omega)
        rw [show S.j0 + (i - S.j0) = i by omega, hi] at hg'; cases hg'
        rcases hs with hs | ⟨hs, _⟩ | ⟨hs, _⟩
        · exact awake_of (.inl hs)
        · exact awake_of (.inr (.inr hs))
        · exact awake_of (.inr (.inl hs))
  · have hn := X.hn
    rcases hm.status X with hs | ⟨hk, _⟩ | ⟨hk, _⟩
    · exact ⟨0, a, ha, hs⟩
    · have hcn := hm.range.2.2.2.1 (by omega)
      have hcl : cl = false := by
        cases cl with
        | false => rfl
        | true => have := h.clo.1 rfl; omega
      obtain ⟨g, hg, hs⟩ := hw 0 (by omega)
      have h17 := h.opn hcl 0 (by omega)
      rcases hs with hs | ⟨_, hs⟩ | ⟨_, hs, hs2, _⟩
      · exact ⟨_, g, hg, hs⟩
      · omega
      · exact absurd ⟨hs, hs2⟩ (h.npk hk 0 (by omega))
    · have hcl : cl = true := h.clo.2 (by omega)
      have key : ∀ i, i < c → (D i).stage ≠ 1 → ∃ (i : Nat) (g : Goroutine), gs[i]? = some g ∧ g.status = .running := fun i hi hne => by
        obtain ⟨g, hg, hs⟩ := hw i hi
        rcases hs with hs | ⟨_, hs⟩ | ⟨_, _, _, hs⟩
        · exact ⟨_, g, hg, hs⟩
        · exact absurd hs hne
        · rw [hcl] at hs; cases hs
      have some5 : ∀ c, 1 ≤ Vc c D → ∃ i, i < c ∧ 5 ≤ (D i).stage := fun c => by
        induction c with
        | zero => intro h; simp [Vc, sumTo] at h
        | succ c ih =>
          intro h
          by_cases hc : 5 ≤ (D c).stage
          · exact ⟨c, by omega, hc⟩
          · have : 1 ≤ Vc c D := by simp only [Vc, sumTo, cntW, if_neg hc] at h ⊢; simpa using h
            obtain ⟨i, hi, h5⟩ := ih this
            exact ⟨i, by omega, h5⟩
      rcases h.mode with ⟨h1, _⟩ | ⟨_, _, h1, _⟩ | ⟨_, _, L, h1, _, h2⟩ | ⟨h1, _⟩ | ⟨h1, _⟩
      · omega
      · obtain ⟨i, hi, h5⟩ := some5 c h1
        exact key i hi (by omega)
      · exact key L h1 (by omega)
      · omega
      · omega
end Go.Proofs.YtaablbmgagiajabGreatDoor.Ren
