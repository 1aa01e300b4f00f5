import Derived.Test.YtaablbmgagiajabGreatDoorLGAN
namespace Go.Proofs.YtaablbmgagiajabGreatDoor.Ren
open Go
section
variable {E : Env} {f : Nat → Nat} {n : Nat}
theorem lt_globals (F : Fit E f) (H : RtOk E) (a : Addr) : ((rA f a).block < E.P.globals.size) ↔ (a.block < E.P.globals.size) := by
  have hG := F.ro _ H.g
  show f a.block < _ ↔ _
  rcases Nat.lt_or_ge a.block E.B with h | h
  · rw [F.low _ h]
  · have := F.ge h
    omega
theorem sim_asNumber {a : Addr} {l : Bool} (ha : E.A n a.block) : Sim E f n (VQ E f) (asNumber a l) (asNumber (rA f a) l) := by
  unfold asNumber
  refine (Sim.newObj (o := .number a l) ha).bind fun m r r' hm hq => ?_
  obtain ⟨rfl, hI⟩ := hq
  exact Sim.pure fun k hk => vq_ptr (a := ⟨r, 0, none⟩) (.inl (hI.mono hk))
theorem sim_unsafeAdd (F : Fit E f) {ts : Array TypeId} {t : TypeId} {x y : Value} (hx : okV E n x) : Sim E f n (VQ E f) (Builtin.unsafeAdd_ ts t #[x, y]) (Builtin.unsafeAdd_ ts t #[rV f x, rV f y]) := by
  unfold Builtin.unsafeAdd_
  cases x with
  | pointer a =>
    rw [rV]
    rw [okV] at hx
    dsimp only
    refine sim_asInt.bind fun m k k' hm hq => ?_
    cases hq
    refine Sim.ite (fun _ => ?_) fun _ => ?_
    · cases a with
      | none => exact Sim.unsupported (by simp)
      | some a =>
        dsimp only [Option.map_some]
        refine (sim_viewAt F (Env.A.mono hx hm)).bind fun m2 v v' hm2 hq => ?_
        obtain ⟨rfl, _⟩ := hq
        rw [Option.isSome_map]
        exact Sim.ite (fun _ => Sim.unsB (by simp)) fun _ => Sim.pure fun j hj => vq_ptr (Env.A.mono hx (Nat.le_trans hm (Nat.le_trans hm2 hj)))
    · refine Sim.ite (fun _ => Sim.unsB (by simp)) fun _ => ?_
      cases a with
      | none => exact Sim.unsupported (by simp)
      | some a =>
        dsimp only [Option.map_some]
        refine (Sim.shape F (Env.A.mono hx hm)).bind fun m2 s s' hm2 hq => ?_
        rcases hq with rfl | ⟨_, rfl, _⟩
        · cases s' with
          | none => exact Sim.unsupported (by simp)
          | some p =>
            obtain ⟨e, c⟩ := p
            dsimp only
            refine Sim.program ?_
            show Sim E f m2 (VQ E f) (match cellAtBytes E.P E.P.depth e (c / E.P.cellsOf e) a.off k with | some off => _ | none => _) (match cellAtBytes E.P E.P.depth e (c / E.P.cellsOf e) a.off k with | some off => _ | none => _)
            cases cellAtBytes E.P E.P.depth e (c / E.P.cellsOf e) a.off k with
            | none => exact Sim.unsupported (by simp)
            | some off => exact Sim.pure fun j hj => vq_ptr (a := { a with off := off }) (Env.A.mono hx (Nat.le_trans hm (Nat.le_trans hm2 hj)))
        · exact Sim.unsupported (by simp)
  | _ => exact Sim.stuck
theorem sim_movedNumber (F : Fit E f) {t : TypeId} {x y : Value} (hx : okV E n x) : Sim E f n (VQ E f) (movedNumber t x y) (movedNumber t (rV f x) (rV f y)) := by
  have base : ∀ m v, okV E m v → Sim E f m (VQ E f) (Builtin.unsafeAdd_ #[] t #[v, y]) (Builtin.unsafeAdd_ #[] t #[rV f v, rV f y]) := fun m v hv => sim_unsafeAdd F hv
  unfold movedNumber
  refine sim_under fun d hd => ?_
  dsimp only
  refine Sim.ite (fun _ => Sim.unsB (by simp)) fun _ => ?_
  cases x with
  | pointer a =>
    have b0 := base n (.pointer a) hx
    rw [rV] at b0 ⊢
    rw [okV] at hx
    cases a with
    | none => exact b0
    | some a =>
      dsimp only [Option.map_some]
      refine (sim_behindNumber F hx).bind fun m p p' hm hq => ?_
      obtain ⟨rfl, hA⟩ := hq
      obtain ⟨b, l⟩ := p
      dsimp only at hA ⊢
      have b1 := base m (.pointer (some b)) (by rw [okV]; exact hA)
      rw [rV] at b1
      refine b1.bind fun m2 v v' hm2 hq => ?_
      obtain ⟨rfl, hv⟩ := hq
      cases v with
      | pointer c =>
        rw [rV]
        rw [okV] at hv
        cases c with
        | none => exact Sim.pure fun _ _ => vq_plain rfl
        | some c => exact sim_asNumber hv
      | _ => rw [rV]; exact Sim.pure fun j hj => ⟨by rw [rV], okV_mono hj _ hv⟩
  | _ =>
    have b0 := base n _ hx
    rw [rV] at b0 ⊢
    exact b0
theorem sim_movedPointer (F : Fit E f) {t : TypeId} {x y : Value} (hx : okV E n x) : Sim E f n (VQ E f) (movedPointer t x y) (movedPointer t (rV f x) (rV f y)) := by
  have base : ∀ m, n ≤ m → Sim E f m (VQ E f) (Builtin.unsafeAdd_ #[] t #[x, y]) (Builtin.unsafeAdd_ #[] t #[rV f x, rV f y]) := fun m hm => sim_unsafeAdd F (okV_mono hm x hx)
  unfold movedPointer
  cases x with
  | pointer a =>
    cases a with
    | none =>
      have b0 := base n (Nat.le_refl _)
      rw [rV] at b0 ⊢
      exact b0
    | some a =>
      have hA : E.A n a.block := by rw [okV] at hx; exact hx
      have b0 := base
      rw [rV] at b0 ⊢
      dsimp only [Option.map_some] at b0 ⊢
      refine (sim_numberAt F hA).bind fun m p p' hm hq => ?_
      obtain ⟨rfl, _⟩ := hq
      rw [Option.isSome_map]
      exact Sim.ite (fun _ => Sim.unsB (by simp)) fun _ => b0 m hm
  | _ =>
    have b0 := base n (Nat.le_refl _)
    rw [rV] at b0 ⊢
    exact b0
theorem sim_twoPlaces (F : Fit E f) (H : RtOk E) {a b : Addr} (ha : E.A n a.block) (hb : E.A n b.block) : Sim E f n EQ (Op.twoPlaces a b) (Op.twoPlaces (rA f a) (rA f b)) := by
  unfold Op.twoPlaces
  refine Sim.program ?_
  dsimp only
  have e1 : ((rA f a).block != (rA f b).block) = (a.block != b.block) := by
    show (!((rA f a).block == (rA f b).block)) = !(a.block == b.block)
    rw [beq_block F]
  have e2 : decide ((rA f a).block ≥ E.P.globals.size) = decide (a.block ≥ E.P.globals.size) := by
    apply decide_eq_decide.2
    have := lt_globals F H a
    omega
  rw [e1, e2]
  refine Sim.ite (fun _ => Sim.unsB (by simp)) fun _ => ?_
  refine (sim_byteOf F ha).bind fun m x x' hm hq => ?_
  cases hq
  refine (sim_byteOf F (hb.mono hm)).bind fun m2 y y' hm2 hq => ?_
  cases hq
  exact Sim.pure fun _ _ => rfl
theorem sim_addrMod (F : Fit E f) {k : IntKind} {a : Addr} {z : Int} (ha : E.A n a.block) : Sim E f n (VQ E f) (Op.addrMod k a z) (Op.addrMod k (rA f a) z) := by
  unfold Op.addrMod
  refine (Sim.shape F ha).bind fun m s s' hm hq => ?_
  rcases hq with rfl | ⟨_, rfl, _⟩
  · cases s' with
    | none => exact Sim.unsupported (by simp)
    | some p =>
      obtain ⟨e, c⟩ := p
      dsimp only
      refine Sim.same (calm_typeInfo e) fun i => ?_
      refine Sim.ite (fun _ => Sim.unsB (by simp)) fun _ => ?_
      refine (sim_byteOf F (ha.mono hm)).bind fun m2 x x' hm2 hq => ?_
      cases hq
      exact Sim.pure fun _ _ => vq_plain rfl
  · exact Sim.unsupported (by simp)
theorem sim_unary {op : UnOp} {x : Value} (hx : okV E n x) : Sim E f n (VQ E f) (Op.unary op x) (Op.unary op (rV f x)) := by
  cases x with
  | float _ _ => rw [okV] at hx; exact hx.elim
  | complex _ _ _ => rw [okV] at hx; exact hx.elim
  | int k a => rw [rV]; cases op <;> first | exact Sim.pure fun _ _ => vq_plain rfl | exact Sim.stuck
  | bool b => rw [rV]; cases op <;> first | exact Sim.pure fun _ _ => vq_plain rfl | exact Sim.stuck
  | pointer a => cases a <;> cases op <;> first | exact Sim.unsupported (by simp) | exact Sim.stuck
  | _ => cases op <;> exact Sim.stuck
theorem sim_eqlB (F : Fit E f) (H : RtOk E) {t : TypeId} {x y : Value} (hx : okV E n x) (hy : okV E n y) (g : Bool → Bool) : Sim E f n (VQ E f) (Op.equal t x y >>= fun b => Pure.pure (.bool (g b))) (Op.equal t (rV f x) (rV f y) >>= fun b => Pure.pure (.bool (g b))) := by
  refine (sim_equalIn F H _ t x y n hx hy).bind fun m b b' hm hq => ?_
  cases hq
  exact Sim.pure fun _ _ => vq_plain rfl
theorem sim_obs {α : Type} {Q : Nat → α → α → Prop} {t : Sem α} : Sim E f n Q (unsupported .addressObserved) t := Sim.unsupported (by simp)
theorem sim_binEq (F : Fit E f) (H : RtOk E) {t : TypeId} {x y : Value} (hx : okV E n x) (hy : okV E n y) : Sim E f n (VQ E f) (binOp .eql t x y) (binOp .eql t (rV f x) (rV f y)) := by
  have heq := sim_eqlB F H (t := t) hx hy id
  cases x with
  | float _ _ => rw [okV] at hx; exact hx.elim
  | complex _ _ _ => rw [okV] at hx; exact hx.elim
  | int k a =>
    cases y with
    | int k2 b => rw [rV, rV]; exact Sim.ite (fun _ => Sim.stuck) fun _ => Sim.pure fun _ _ => vq_plain rfl
    | _ => rw [rV, rV] at heq ⊢; exact heq
  | string a =>
    cases y with
    | string b => rw [rV, rV]; exact Sim.pure fun _ _ => vq_plain rfl
    | _ => rw [rV, rV] at heq ⊢; exact heq
  | _ => rw [rV] at heq ⊢; exact heq
theorem sim_binNe (F : Fit E f) (H : RtOk E) {t : TypeId} {x y : Value} (hx : okV E n x) (hy : okV E n y) : Sim E f n (VQ E f) (binOp .neq t x y) (binOp .neq t (rV f x) (rV f y)) := by
  have heq := sim_eqlB F H (t := t) hx hy (fun b => !b)
  cases x with
  | float _ _ => rw [okV] at hx; exact hx.elim
  | complex _ _ _ => rw [okV] at hx; exact hx.elim
  | int k a =>
    cases y with
    | int k2 b => rw [rV, rV]; exact Sim.ite (fun _ => Sim.stuck) fun _ => Sim.pure fun _ _ => vq_plain rfl
    | _ => rw [rV, rV] at heq ⊢; exact heq
  | string a =>
    cases y with
    | string b => rw [rV, rV]; exact Sim.pure fun _ _ => vq_plain rfl
    | _ => rw [rV, rV] at heq ⊢; exact heq
  | _ => rw [rV] at heq ⊢; exact heq
theorem sim_mod (F : Fit E f) (k : IntKind) (a : Addr) (z : Int) (ha : E.A n a.block) : Sim E f n (VQ E f) (behindNumber a >>= fun p => Op.addrMod k p.1 z) (behindNumber (rA f a) >>= fun p => Op.addrMod k p.1 z) := by
  refine (sim_behindNumber F ha).bind fun m p p' hm hq => ?_
  obtain ⟨rfl, hA⟩ := hq
  exact sim_addrMod F hA
theorem sim_two (F : Fit E f) (a b : Addr) (g : Addr → Addr → Sem Value) (hg : ∀ m a b, E.A m a.block → E.A m b.block → Sim E f m (VQ E f) (g a b) (g (rA f a) (rA f b))) (ha : E.A n a.block) (hb : E.A n b.block) :
    Sim E f n (VQ E f) (behindNumber a >>= fun p => behindNumber b >>= fun q => g p.1 q.1) (behindNumber (rA f a) >>= fun p => behindNumber (rA f b) >>= fun q => g p.1 q.1) := by
  refine (sim_behindNumber F ha).bind fun m p p' hm hq => ?_
  obtain ⟨rfl, hA⟩ := hq
  refine (sim_behindNumber F (hb.mono hm)).bind fun m2 q q' hm2 hq => ?_
  obtain ⟨rfl, hB⟩ := hq
  exact hg m2 _ _ (hA.mono hm2) hB
theorem sim_cmp (F : Fit E f) (H : RtOk E) (op : BinOp) (m : Nat) (a b : Addr) (ha : E.A m a.block) (hb : E.A m b.block) : Sim E f m (VQ E f) (Op.addrCmp op a b) (Op.addrCmp op (rA f a) (rA f b)) := by
  unfold Op.addrCmp
  refine (sim_twoPlaces F H ha hb).bind fun m2 p p' hm2 hq => ?_
  cases hq
  obtain ⟨u, v⟩ := p
  cases op <;> first | exact Sim.pure fun _ _ => vq_plain rfl | exact sim_obs
theorem sim_sub (F : Fit E f) (H : RtOk E) (m : Nat) (a b : Addr) (ha : E.A m a.block) (hb : E.A m b.block) : Sim E f m (VQ E f) (Op.addrSub .u64 a b) (Op.addrSub .u64 (rA f a) (rA f b)) := by
  unfold Op.addrSub
  refine (sim_twoPlaces F H ha hb).bind fun m2 p p' hm2 hq => ?_
  cases hq
  exact Sim.pure fun _ _ => vq_plain rfl
theorem sim_add (F : Fit E f) {t : TypeId} {a : Option Addr} {k : IntKind} {b : Int} (hx : okV E n (.pointer a)) : Sim E f n (VQ E f) (binOp .add t (.pointer a) (.int k b)) (binOp .add t (.pointer (a.map (rA f))) (.int k b)) := by
  have hm1 := sim_movedNumber F (t := t) (y := .int k b) hx
  have hmp := sim_movedPointer F (t := t) (y := .int k b) hx
  rw [rV, rV] at hm1 hmp
  show Sim E f n (VQ E f) (underlying t >>= fun d => _) (underlying t >>= fun d => _)
  refine sim_under fun d hd => ?_
  exact Sim.ite (fun _ => hmp) fun _ => hm1
theorem sim_binPI (F : Fit E f) {op : BinOp} (h1 : op ≠ .eql) (h2 : op ≠ .neq) {t : TypeId} {a : Option Addr} {k : IntKind} {b : Int} (hx : okV E n (.pointer a)) : Sim E f n (VQ E f) (binOp op t (.pointer a) (.int k b)) (binOp op t (.pointer (a.map (rA f))) (.int k b)) := by
  have hm2 := sim_movedNumber F (t := t) (y := .int k (-b)) hx
  rw [rV, rV] at hm2
  cases op with
  | eql => exact absurd rfl h1
  | neq => exact absurd rfl h2
  | add => exact sim_add F hx
  | sub => exact hm2
  | rem =>
    cases a with
    | none => exact sim_obs
    | some a => rw [okV] at hx; exact sim_mod F k a b hx
  | and =>
    cases a with
    | none => exact sim_obs
    | some a => rw [okV] at hx; exact sim_mod F k a (b + 1) hx
  | _ => cases a <;> exact sim_obs
theorem sim_binIP (F : Fit E f) {op : BinOp} (h1 : op ≠ .eql) (h2 : op ≠ .neq) {t : TypeId} {a : Option Addr} {k : IntKind} {b : Int} (hx : okV E n (.pointer a)) : Sim E f n (VQ E f) (binOp op t (.int k b) (.pointer a)) (binOp op t (.int k b) (.pointer (a.map (rA f)))) := by
  have hm2 := sim_movedNumber F (t := t) (y := .int k b) hx
  rw [rV, rV] at hm2
  cases op with
  | eql => exact absurd rfl h1
  | neq => exact absurd rfl h2
  | add => exact hm2
  | and =>
    cases a with
    | none => exact sim_obs
    | some a => rw [okV] at hx; exact sim_mod F k a (b + 1) hx
  | _ => cases a <;> exact sim_obs
theorem sim_binPP (F : Fit E f) (H : RtOk E) {op : BinOp} (h1 : op ≠ .eql) (h2 : op ≠ .neq) {t : TypeId} {a b : Option Addr} (hx : okV E n (.pointer a)) (hy : okV E n (.pointer b)) : Sim E f n (VQ E f) (binOp op t (.pointer a) (.pointer b)) (binOp op t (.pointer (a.map (rA f))) (.pointer (b.map (rA f)))) := by
  rw [okV] at hx hy
  cases op with
  | eql => exact absurd rfl h1
  | neq => exact absurd rfl h2
  | sub => cases a <;> cases b <;> first | exact sim_obs | exact sim_two F _ _ _ (sim_sub F H) hx hy
  | lss => cases a <;> cases b <;> first | exact sim_obs | exact sim_two F _ _ _ (sim_cmp F H .lss) hx hy
  | leq => cases a <;> cases b <;> first | exact sim_obs | exact sim_two F _ _ _ (sim_cmp F H .leq) hx hy
  | gtr => cases a <;> cases b <;> first | exact sim_obs | exact sim_two F _ _ _ (sim_cmp F H .gtr) hx hy
  | geq => cases a <;> cases b <;> first | exact sim_obs | exact sim_two F _ _ _ (sim_cmp F H .geq) hx hy
  | _ => cases a <;> cases b <;> exact sim_obs
theorem sim_binII (F : Fit E f) (H : RtOk E) {op : BinOp} {t : TypeId} {k k2 : IntKind} {a b : Int} : Sim E f n (VQ E f) (binOp op t (.int k a) (.int k2 b)) (binOp op t (.int k a) (.int k2 b)) := by
  have h1 : Sim E f n (VQ E f) (if k ≠ k2 then stuck "BinOp: operands of different kinds" else match op with | .add | .sub | .mul => Op.intArith op k a b | .quo | .rem => Op.intDiv op k a b | .and | .or | .xor | .andNot => Op.intBits op k a b | _ => Op.intCmp op a b)
    (if k ≠ k2 then stuck "BinOp: operands of different kinds" else match op with | .add | .sub | .mul => Op.intArith op k a b | .quo | .rem => Op.intDiv op k a b | .and | .or | .xor | .andNot => Op.intBits op k a b | _ => Op.intCmp op a b) := Sim.ite (fun _ => Sim.stuck) fun _ => sim_intOps F H
  cases op with
  | shl => exact sim_shift (op := .shl) (k := k) (yk := k2) (a := a) (b := b) F H
  | shr => exact sim_shift (op := .shr) (k := k) (yk := k2) (a := a) (b := b) F H
  | _ => exact h1
theorem sim_binOp (F : Fit E f) (H : RtOk E) {op : BinOp} {t : TypeId} {x y : Value} (hx : okV E n x) (hy : okV E n y) : Sim E f n (VQ E f) (binOp op t x y) (binOp op t (rV f x) (rV f y)) := by
  by_cases h1 : op = .eql
  · subst h1; exact sim_binEq F H hx hy
  by_cases h2 : op = .neq
  · subst h2; exact sim_binNe F H hx hy
  cases x with
  | float _ _ => rw [okV] at hx; exact hx.elim
  | complex _ _ _ => rw [okV] at hx; exact hx.elim
  | int k a =>
    cases y with
    | float _ _ => rw [okV] at hy; exact hy.elim
    | complex _ _ _ => rw [okV] at hy; exact hy.elim
    | int k2 b => rw [rV, rV]; exact sim_binII F H
    | pointer b => rw [rV, rV]; exact sim_binIP F h1 h2 hy
    | _ => cases op <;> first | exact Sim.stuck | exact absurd rfl h1 | exact absurd rfl h2
  | string a =>
    cases y with
    | float _ _ => rw [okV] at hy; exact hy.elim
    | complex _ _ _ => rw [okV] at hy; exact hy.elim
    | string b =>
      rw [rV, rV]
      have hs := sim_stringOp (E := E) (f := f) (n := n) (op := op) (x := a) (y := b)
      cases op <;> exact hs
    | pointer b => cases op <;> first | exact sim_obs | exact absurd rfl h1 | exact absurd rfl h2
    | _ => cases op <;> first | exact Sim.stuck | exact absurd rfl h1 | exact absurd rfl h2
  | pointer a =>
    cases y with
    | float _ _ => rw [okV] at hy; exact hy.elim
    | complex _ _ _ => rw [okV] at hy; exact hy.elim
    | int k2 b => rw [rV, rV]; exact sim_binPI F h1 h2 hx
    | pointer b => rw [rV, rV]; exact sim_binPP F H h1 h2 hx hy
    | _ => cases a <;> cases op <;> first | exact sim_obs | exact absurd rfl h1 | exact absurd rfl h2
  | _ =>
    cases y with
    | float _ _ => rw [okV] at hy; exact hy.elim
    | complex _ _ _ => rw [okV] at hy; exact hy.elim
    | pointer b => cases op <;> first | exact sim_obs | exact absurd rfl h1 | exact absurd rfl h2
    | _ => cases op <;> first | exact Sim.stuck | exact absurd rfl h1 | exact absurd rfl h2
end
end Go.Proofs.YtaablbmgagiajabGreatDoor.Ren
