import Derived.Test.YtaablbmgagiajabGreatDoorKGAN
namespace Go.Proofs.YtaablbmgagiajabGreatDoor.Ren
open Go
section
variable {E : Env} {f : Nat → Nat} {n : Nat}
theorem sim_forInV {β : Type} {body body' : Value → β → Sem (ForInStep β)} : ∀ (l : List Value) (n : Nat) (s : β), (∀ v ∈ l, okV E n v) → (∀ m a s, n ≤ m → okV E m a → Sim E f m EQ (body a s) (body' (rV f a) s)) → Sim E f n EQ (forIn l s body) (forIn (l.map (rV f)) s body')
  | [], n, s, _, _ => Sim.pure fun _ _ => rfl
  | a :: l, n, s, hl, h => by
    rw [List.map_cons, List.forIn_cons, List.forIn_cons]
    refine (h n a s (Nat.le_refl _) (hl a (by simp))).bind fun m x x' hm hq => ?_
    cases hq
    cases x with
    | done b => exact Sim.pure fun _ _ => rfl
    | yield b => exact sim_forInV l m b (fun v hv => okV_mono hm v (hl v (by simp [hv]))) fun k a s hk => h k a s (Nat.le_trans hm hk)
theorem sim_forInVA {β : Type} {body body' : Value → β → Sem (ForInStep β)} {l : Array Value} {s : β} (hl : okAll E n l) (h : ∀ m a s, n ≤ m → okV E m a → Sim E f m EQ (body a s) (body' (rV f a) s)) : Sim E f n EQ (forIn l s body) (forIn (l.map (rV f)) s body') := by
  rw [← Array.forIn_toList, ← Array.forIn_toList, Array.toList_map]
  exact sim_forInV l.toList n s (fun v hv => hl v (by simpa using hv)) h
theorem sim_bytesToString (F : Fit E f) {x : Value} (hx : okV E n x) : Sim E f n (VQ E f) (Conv.bytesToString x) (Conv.bytesToString (rV f x)) := by
  unfold Conv.bytesToString
  cases x with
  | slice a len cap =>
    rw [rV]
    rw [okV] at hx
    cases a with
    | none => exact Sim.pure fun _ _ => vq_plain rfl
    | some a =>
      dsimp only [Option.map_some]
      refine (sim_loadCells F hx len).bind fun m cs cs' hm hq => ?_
      obtain ⟨rfl, hcs⟩ := hq
      refine (sim_forInVA hcs fun k v s hk hv => ?_).bind fun k s s' hk hq => ?_
      · cases v with
        | int kd z => rw [rV]; cases kd <;> first | exact Sim.stuck | exact Sim.pure fun _ _ => rfl
        | _ => exact Sim.stuck
      · cases hq
        exact Sim.pure fun _ _ => vq_plain rfl
  | _ => exact Sim.stuck
theorem sim_runesToString (F : Fit E f) {x : Value} (hx : okV E n x) : Sim E f n (VQ E f) (Conv.runesToString x) (Conv.runesToString (rV f x)) := by
  unfold Conv.runesToString
  cases x with
  | slice a len cap =>
    rw [rV]
    rw [okV] at hx
    cases a with
    | none => exact Sim.pure fun _ _ => vq_plain rfl
    | some a =>
      dsimp only [Option.map_some]
      refine (sim_loadCells F hx len).bind fun m cs cs' hm hq => ?_
      obtain ⟨rfl, hcs⟩ := hq
      refine (sim_forInVA hcs fun k v s hk hv => ?_).bind fun k s s' hk hq => ?_
      · cases v with
        | int kd z => rw [rV]; cases kd <;> first | exact Sim.stuck | exact Sim.pure fun _ _ => rfl
        | _ => exact Sim.stuck
      · cases hq
        exact Sim.pure fun _ _ => vq_plain rfl
  | _ => exact Sim.stuck
theorem plain_row {cs : Array Value} (h : ∀ x ∈ cs, plain0 x = true) : cs.map (rV f) = cs ∧ okAll E n cs := ⟨map_same fun x hx => rV_plain0 (h x hx), fun x hx => okV_plain0 (h x hx)⟩
theorem sim_newPlain {t : TypeId} {cs : Array Value} (h : ∀ x ∈ cs, plain0 x = true) {α : Type} {Q : Nat → α → α → Prop} {g g' : Addr → Sem α} (hg : ∀ m a, n ≤ m → E.I m a.block → Sim E f m Q (g a) (g' (rA f a))) : Sim E f n Q (newRow t cs >>= g) (newRow t cs >>= g') := by
  obtain ⟨h1, h2⟩ := plain_row (E := E) (f := f) (n := n) h
  have := sim_sliceOf (E := E) (f := f) (t := t) h2 hg
  rwa [h1] at this
theorem sim_markStringish (F : Fit E f) {a : Addr} (hI : E.I n a.block) : Sim E f n EQ (markStringish a) (markStringish (rA f a)) := by
  unfold markStringish
  refine (sim_shape F (r := a.block) (.inl hI)).bind fun m s s' hm hq => ?_
  cases hq
  cases s with
  | none => exact Sim.pure fun _ _ => rfl
  | some p => exact Sim.freeze F (a := { block := a.block, off := p.2 }) (hI.mono hm)
theorem sim_stringToBytes (F : Fit E f) {t : TypeId} {s : ByteArray} : Sim E f n (VQ E f) (Conv.stringToBytes t s) (Conv.stringToBytes t s) := by
  unfold Conv.stringToBytes
  refine (Sim.choose _).bind fun m cap _ hm hq => ?_
  cases hq
  refine sim_newPlain (fun x hx => ?_) fun k a hk hI => ?_
  · rcases Array.mem_append.1 hx with h | h
    · obtain ⟨b, _, rfl⟩ := Array.mem_map.1 h
      rfl
    · rw [Array.eq_of_mem_replicate h]
      rfl
  · refine (sim_markStringish F hI).bind fun j _ _ hj _ => ?_
    exact Sim.pure fun i hi => vq_slice (a := some a) (.inl (hI.mono (Nat.le_trans hj hi)))
theorem runes_plain (s : ByteArray) : ∀ (b i : Nat) (acc : Array Value), (∀ x ∈ acc, plain0 x = true) → ∀ x ∈ Conv.runesFrom s b i acc, plain0 x = true
  | 0, i, acc, h => h
  | b + 1, i, acc, h => by
    unfold Conv.runesFrom
    split
    · exact runes_plain s b _ _ fun x hx => by
        rcases Array.mem_push.1 hx with h1 | rfl
        · exact h x h1
        · rfl
    · exact h
theorem sim_stringToRunes {t : TypeId} {s : ByteArray} : Sim E f n (VQ E f) (Conv.stringToRunes t s) (Conv.stringToRunes t s) := by
  unfold Conv.stringToRunes
  refine (Sim.choose _).bind fun m cap _ hm hq => ?_
  cases hq
  refine sim_newPlain (fun x hx => ?_) fun k a hk hI => ?_
  · rcases Array.mem_append.1 hx with h | h
    · exact runes_plain s _ _ _ (fun x hx => by simp at hx) x h
    · rw [Array.eq_of_mem_replicate h]
      rfl
  · exact Sim.pure fun i hi => vq_slice (a := some a) (.inl (hI.mono hi))
theorem sim_seenAt (F : Fit E f) {a : Addr} (ha : E.A n a.block) : Sim E f n (PQ E f) (Conv.seenAt a) (Conv.seenAt (rA f a)) := by
  unfold Conv.seenAt
  refine (sim_viewAt F ha).bind fun m v v' hm hq => ?_
  obtain ⟨rfl, hv⟩ := hq
  cases v with
  | none => exact Sim.pure fun k hk => ⟨rfl, ha.mono (Nat.le_trans hm hk)⟩
  | some p =>
    obtain ⟨s, u⟩ := p
    have hs := hv s u rfl
    dsimp only [Option.map_some]
    show Sim E f m (PQ E f) (if (decide (a.off = 0) && a.spot.isNone) = true then _ else _) (if (decide (a.off = 0) && a.spot.isNone) = true then _ else _)
    refine Sim.ite (fun _ => Sim.pure fun k hk => ⟨rfl, hs.mono hk⟩) fun _ => ?_
    show Sim E f m (PQ E f) (if (a.spot.isSome || s.spot.isSome) = true then _ else _) (if (a.spot.isSome || s.spot.isSome) = true then _ else _)
    refine Sim.ite (fun _ => Sim.unsB (by simp)) fun _ => ?_
    refine Sim.program ?_
    show Sim E f m (PQ E f) (match byteOfCell E.P E.P.depth u a.off with | some β => _ | _ => _) (match byteOfCell E.P E.P.depth u a.off with | some β => _ | _ => _)
    cases byteOfCell E.P E.P.depth u a.off with
    | none => exact Sim.unsupported (by simp)
    | some β =>
      dsimp only
      refine (Sim.shape F hs).bind fun k z z' hk hq => ?_
      rcases hq with rfl | ⟨_, rfl, _⟩
      · cases z' with
        | none => exact Sim.unsupported (by simp)
        | some q =>
          obtain ⟨e, c⟩ := q
          dsimp only
          refine Sim.ite (fun _ => Sim.unsB (by simp)) fun _ => ?_
          show Sim E f k (PQ E f) (match cellAtBytes E.P E.P.depth e (c / E.P.cellsOf e) s.off β with | some c => _ | _ => _) (match cellAtBytes E.P E.P.depth e (c / E.P.cellsOf e) s.off β with | some c => _ | _ => _)
          cases cellAtBytes E.P E.P.depth e (c / E.P.cellsOf e) s.off β with
          | none => exact Sim.unsupported (by simp)
          | some c => exact Sim.pure fun j hj => ⟨rfl, hs.mono (Nat.le_trans hk hj)⟩
      · exact Sim.unsupported (by simp)
theorem sim_newView {t : TypeId} {a : Addr} (ha : E.A n a.block) (hV : E.V t = true) : Sim E f n (VQ E f) (newObj (.view a t) >>= fun r => Pure.pure (.pointer (some ⟨r, 0, none⟩))) (newObj (.view (rA f a) t) >>= fun r => Pure.pure (.pointer (some ⟨r, 0, none⟩))) := by
  refine (Sim.newObj (o := .view a t) ⟨ha, hV⟩).bind fun k r r' hk hq => ?_
  obtain ⟨rfl, hI⟩ := hq
  exact Sim.pure fun j hj => vq_ptr (a := ⟨r, 0, none⟩) (.inl (hI.mono hj))
theorem sim_leftShapeO {α : Type} {Q : Nat → α → α → Prop} {t : Sem α} {r : Nat} {g : Option (TypeId × Nat) → Sem α} (hO : E.O r) (h : ∀ t, Sim E f n Q (g none) t) : Sim E f n Q (shape r >>= g) t := by
  intro hl w hr hn hos
  obtain ⟨c, e, c', h1, _⟩ := hr.op r hO
  obtain ⟨l, x, hl', ha, hs, hc⟩ := h t hl w hr hn hos
  refine ⟨l, x, hl', fun v es hv hlst => ?_, hs, hc⟩
  obtain ⟨y, es', hy, hres⟩ := ha v es hv hlst
  refine ⟨y, es', ?_, hres⟩
  subst hv
  rw [runT_bindM, runT_shape, run_shape_none h1]
  exact hy
theorem sim_variablesAt (F : Fit E f) {a : Addr} (ha : E.A n a.block) (u : TypeId) (k : Nat) : Sim E f n (fun _ b b' => b' = b ∨ (E.O a.block ∧ b = false)) (variablesAt a u k) (variablesAt (rA f a) u k) := by
  unfold variablesAt
  refine Sim.program ?_
  refine (Sim.shape F ha).bind fun m s s' hm hq => ?_
  rcases hq with rfl | ⟨hO, rfl, e, j, _, rfl⟩
  · cases s' with
    | none => exact Sim.pure fun _ _ => .inl rfl
    | some p => exact Sim.pure fun _ _ => .inl rfl
  · exact Sim.pure fun _ _ => .inr ⟨hO, rfl⟩
def cok (E : Env) (src dst : TypeId) : Bool := match E.P.underlying src, E.P.underlying dst with
  | some (.int _), some (.int _) => true
  | some (.int _), some .string => true
  | some .string, some .string => true
  | some (.slice _), some .string => true
  | some .string, some (.slice _) => true
  | some (.pointer t), some .unsafePointer => E.V t
  | some .unsafePointer, some (.pointer u) => E.V u
  | _, _ => false
theorem sim_unsafePointer (F : Fit E f) {src dst : TypeId} {x : Value} (hx : okV E n x) (hc : cok E src dst = true) : Sim E f n (VQ E f) (Conv.unsafePointer src dst x) (Conv.unsafePointer src dst (rV f x)) := by
  unfold Conv.unsafePointer
  refine sim_under fun d1 h1 => sim_under fun d2 h2 => ?_
  cases x with
  | pointer a =>
    rw [rV]
    rw [okV] at hx
    cases d1 with
    | pointer t =>
      cases d2 with
      | unsafePointer =>
        have hV : E.V t = true := by unfold cok at hc; rw [h1, h2] at hc; exact hc
        cases a with
        | none => exact Sim.pure fun _ _ => vq_plain rfl
        | some a =>
          dsimp only [Option.map_some]
          refine (sim_seenAt F hx).bind fun m s s' hm hq => ?_
          obtain ⟨rfl, hs⟩ := hq
          refine (sim_cellsIn F hs).bind fun k c c' hk hq => ?_
          cases hq
          refine Sim.same (calm_sizeOf t) fun z => ?_
          have hp : Sim E f k (VQ E f) (Pure.pure (.pointer (some s))) (Pure.pure (.pointer (some (rA f s)))) := Sim.pure fun j hj => vq_ptr (hs.mono (Nat.le_trans hk hj))
          cases c with
          | none => exact Sim.ite (fun _ => sim_newView (hs.mono hk) hV) fun _ => hp
          | some c => exact Sim.ite (fun _ => sim_newView (hs.mono hk) hV) fun _ => hp
      | _ => exact Sim.stuck
    | unsafePointer =>
      cases d2 with
      | pointer u =>
        have hV : E.V u = true := by unfold cok at hc; rw [h1, h2] at hc; exact hc
        cases a with
        | none => exact Sim.pure fun _ _ => vq_plain rfl
        | some a =>
          dsimp only [Option.map_some]
          refine (sim_seenAt F hx).bind fun m s s' hm hq => ?_
          obtain ⟨rfl, hs⟩ := hq
          refine Sim.same (calm_sizeOf u) fun z => ?_
          have hp : ∀ k, m ≤ k → Sim E f k (VQ E f) (Pure.pure (.pointer (some s))) (Pure.pure (.pointer (some (rA f s)))) := fun k hk => Sim.pure fun j hj => vq_ptr (hs.mono (Nat.le_trans hk hj))
          have hw : ∀ k, m ≤ k → ∀ y y' : Option (TypeId × Nat), (y' = y ∨ y = none) → Sim E f k (VQ E f)
              (match y with | some (e, _) => (program >>= fun p => program >>= fun q => if p.holdsStoodIn q.depth e = true then (unsupported (.unsafePointer "memory that holds a struct of a package that the model stands in for, seen as another type") >>= fun _ : Unit => newObj (.view s u) >>= fun r => Pure.pure (.pointer (some ⟨r, 0, none⟩))) else newObj (.view s u) >>= fun r => Pure.pure (.pointer (some ⟨r, 0, none⟩))) | none => (unsupported (.unsafePointer "memory that has no shape (a package-level variable that still waits for its initialiser), seen as another type") >>= fun _ : Unit => newObj (.view s u) >>= fun r => Pure.pure (.pointer (some ⟨r, 0, none⟩))))
              (match y' with | some (e, _) => (program >>= fun p => program >>= fun q => if p.holdsStoodIn q.depth e = true then (unsupported (.unsafePointer "memory that holds a struct of a package that the model stands in for, seen as another type") >>= fun _ : Unit => newObj (.view (rA f s) u) >>= fun r => Pure.pure (.pointer (some ⟨r, 0, none⟩))) else newObj (.view (rA f s) u) >>= fun r => Pure.pure (.pointer (some ⟨r, 0, none⟩))) | none => (unsupported (.unsafePointer "memory that has no shape (a package-level variable that still waits for its initialiser), seen as another type") >>= fun _ : Unit => newObj (.view (rA f s) u) >>= fun r => Pure.pure (.pointer (some ⟨r, 0, none⟩)))) := fun k hk y y' hy => by
            rcases hy with rfl | rfl
            · cases y' with
              | none => exact Sim.unsB (by simp)
              | some p =>
                refine Sim.program (Sim.program ?_)
                exact Sim.ite (fun _ => Sim.unsB (by simp)) fun _ => sim_newView (hs.mono hk) hV
            · exact Sim.unsB (by simp)
          refine (sim_variablesAt F hs u 1).bind fun k b b' hk hq => ?_
          by_cases hz : z = 0
          · simp only [hz, decide_true, Bool.true_or, if_true]
            exact hp k hk
          · simp only [hz, decide_false, Bool.false_or]
            rcases hq with rfl | ⟨hO, rfl⟩
            · refine Sim.ite (fun _ => hp k hk) fun _ => ?_
              refine (Sim.shape F (hs.mono hk)).bind fun j y y' hj hq => ?_
              refine hw j (Nat.le_trans hk hj) y y' ?_
              rcases hq with hq | ⟨_, hq, _⟩
              · exact .inl hq
              · exact .inr hq
            · simp only [Bool.false_eq_true, if_false]
              exact sim_leftShapeO hO fun t => Sim.unsB (by simp)
      | unsafePointer => exact Sim.pure fun _ hj => ⟨by rw [rV], by rw [okV]; exact okA_mono hx hj⟩
      | int k =>
        cases a with
        | none => exact Sim.pure fun _ _ => vq_plain rfl
        | some a => exact sim_asNumber hx
      | _ => exact Sim.stuck
    | int k => cases d2 <;> cases a <;> first | exact Sim.stuck | exact Sim.unsupported (by simp)
    | _ => exact Sim.stuck
  | int k z =>
    cases d1 <;> cases d2 <;> first | exact Sim.stuck | (rcases z with (_ | _) | _ <;> exact Sim.unsupported (by simp))
  | _ => cases d1 <;> cases d2 <;> exact Sim.stuck
set_option maxHeartbeats 2000000 in
theorem sim_convert (F : Fit E f) {src dst : TypeId} {x : Value} (hx : okV E n x) (hc : cok E src dst = true) : Sim E f n (VQ E f) (convert src dst x) (convert src dst (rV f x)) := by
  have hun := sim_unsafePointer F hx hc
  unfold convert
  refine sim_under fun d1 h1 => sim_under fun d2 h2 => ?_
  unfold cok at hc
  rw [h1, h2] at hc
  cases d1 with
  | int k1 =>
    cases d2 with
    | int k =>
      cases x with
      | float _ _ => rw [okV] at hx; exact hx.elim
      | int kd z => rw [rV]; exact Sim.pure fun _ _ => vq_plain rfl
      | pointer a => cases a <;> exact Sim.unsupported (by simp)
      | _ => exact Sim.unsupported (by simp)
    | string =>
      cases x with
      | int kd z => rw [rV]; exact Sim.pure fun _ _ => vq_plain rfl
      | string z => rw [rV]; exact Sim.pure fun _ _ => vq_plain rfl
      | pointer a => cases a <;> exact Sim.unsupported (by simp)
      | _ => exact Sim.unsupported (by simp)
    | _ => cases hc
  | string =>
    cases d2 with
    | string =>
      cases x with
      | int kd z => rw [rV]; exact Sim.pure fun _ _ => vq_plain rfl
      | string z => rw [rV]; exact Sim.pure fun _ _ => vq_plain rfl
      | _ => exact Sim.unsupported (by simp)
    | slice e =>
      cases x with
      | string z =>
        rw [rV]
        dsimp only
        refine sim_under fun d3 h3 => ?_
        cases d3 with
        | int k => cases k <;> first | exact Sim.stuck | exact sim_stringToBytes F | exact sim_stringToRunes
        | _ => exact Sim.stuck
      | slice a l c => cases a <;> exact Sim.unsupported (by simp)
      | _ => exact Sim.unsupported (by simp)
    | _ => cases hc
  | slice e =>
    cases d2 with
    | string =>
      cases x with
      | int kd z => rw [rV]; exact Sim.pure fun _ _ => vq_plain rfl
      | string z => rw [rV]; exact Sim.pure fun _ _ => vq_plain rfl
      | _ =>
        have hb := sim_bytesToString F hx
        have hr := sim_runesToString F hx
        rw [rV] at hb hr ⊢
        dsimp only
        refine sim_under fun d3 h3 => ?_
        cases d3 with
        | int k => cases k <;> first | exact Sim.stuck | exact hb | exact hr
        | _ => exact Sim.stuck
    | _ => cases hc
  | pointer t =>
    cases d2 with
    | unsafePointer => exact hun
    | _ => cases hc
  | unsafePointer =>
    cases d2 with
    | pointer u => exact hun
    | _ => cases hc
  | _ => cases hc
end
end Go.Proofs.YtaablbmgagiajabGreatDoor.Ren
