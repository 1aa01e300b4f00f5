import Derived.Test.YtaablbmgagiajabGreatDoorQGAZ
import Derived.Test.YtaablbmgagiajabGreatDoorQGBA
import Derived.Test.YtaablbmgagiajabGreatDoorQGAY
namespace Go.Proofs.YtaablbmgagiajabGreatDoor
open Go.RowKit Go.Deep
theorem some_flip {l : List Nat} {a what t m : Nat} (h : what = 2 ^ (t + 1) * m + 2 ^ t) (ht : t < 32) (hin : a + (31 - t) < 8 * l.length) : someTo l a what 32 = true := by
  have key : ∀ n, 31 - t < n → n ≤ 32 → someTo l a what n = true := by
    intro n
    induction n with
    | zero => intro h; omega
    | succ n ih =>
      intro h1 h2
      unfold someTo
      by_cases e : n = 31 - t
      · rw [if_pos]
        rw [e]
        unfold wBit
        rw [show 31 - (31 - t) = t by omega, low_bits h, if_pos (by omega), decide_eq_true rfl, decide_eq_true hin]
        rfl
      · split
        · rfl
        · exact ih (by omega) (by omega)
  exact key 32 (by omega) (Nat.le_refl _)
end Go.Proofs.YtaablbmgagiajabGreatDoor
namespace Go.Proofs.YtaablbmgagiajabGreatDoor
open Go.RowKit Go.Deep
def spoilSy (i : Nat) (b : List Nat) (S : SY) : SY := ⟨S.rp, S.v, S.net.set i ⟨(pkAt S.net i).src, (pkAt S.net i).dst, b⟩⟩
theorem pkL_set : ∀ (l : List Pk) (us : List Value) (i : Nat) (b : List Nat) (v : Value), us.length = l.length → i < l.length → pkL (l.set i ⟨(pkAt l i).src, (pkAt l i).dst, b⟩) (us.set i v) = (pkL l us).set (i * 3 + 2) v
  | [], _, i, _, _, _, hi => by simp at hi
  | p :: r, us, i, b, v, h, hi => by
    cases us with
    | nil => simp at h
    | cons u us =>
      cases i with
      | zero => rfl
      | succ i =>
        rw [List.set_cons_succ, List.set_cons_succ, pkL, pkL]
        simp only [List.headD_cons, List.tail_cons]
        rw [List.set_append_right _ _ (by simp [pkC]; omega), show (i + 1) * 3 + 2 - (pkC p u).length = i * 3 + 2 by simp [pkC]; omega, ← pkL_set r us i b v (by simpa using h) (by simpa using hi)]
        rfl
section
variable {w : World} {N win : Nat} {D : SC} {L : RC} {S : SY}
theorem NetIs.spoil {g cap i : Nat} {l : List Pk} {us : List Value} {b : List Nat} {v : Value} (h : NetIs w N (.slice (some ⟨g, 0, none⟩) l.length cap) l us) (hi : i < l.length) (hv : BytesIs w v b) : NetIs (w.setCell ⟨g, i * 3 + 2, none⟩ v) N (.slice (some ⟨g, 0, none⟩) l.length cap) (l.set i ⟨(pkAt l i).src, (pkAt l i).dst, b⟩) (us.set i v) := by
  have hm : Mod w (w.setCell ⟨g, i * 3 + 2, none⟩ v) (· = g) := (Mod.refl _ _).set _ _ (fun _ => rfl)
  have hty : ∀ k, k = g → ¬ TyAt w k 5 := fun k hk hb => by
    subst hk
    obtain ⟨cur, hc⟩ := h.own rfl
    exact TyAt.ne ⟨_, _, hc⟩ hb (by decide) rfl
  refine ⟨?_, by rw [List.length_set, List.length_set, h.len], fun j hj => ?_⟩
  · rw [List.length_set, pkL_set l us i b v h.len hi]
    refine ⟨by rw [List.length_set]; exact h.row.1, .inr ?_⟩
    rcases h.row.2 with ⟨e, _⟩ | ⟨g', cap', cur, e, h1, h2, h3, h4, h5, h6⟩
    · simp at e
    · simp only [Value.slice.injEq, Option.some.injEq, Addr.mk.injEq, and_true] at e
      obtain ⟨rfl, _, rfl⟩ := e
      refine ⟨g, cap, cur.setIfInBounds (i * 3 + 2) v, rfl, h1, blk_set h2 _ _, h3, h4, by simpa using h5, ?_⟩
      rw [Array.toList_setIfInBounds, List.take_set, h6]
  · rw [List.length_set] at hj
    by_cases e : j = i
    · subst e
      rw [List.getElem?_set_self (by rw [h.len]; exact hj), show pkAt (l.set j ⟨(pkAt l j).src, (pkAt l j).dst, b⟩) j = ⟨(pkAt l j).src, (pkAt l j).dst, b⟩ by unfold pkAt; rw [List.getElem?_set_self hj]; rfl]
      exact hv.mod hm hty
    · rw [List.getElem?_set_ne (fun x => e x.symm), show pkAt (l.set i ⟨(pkAt l i).src, (pkAt l i).dst, b⟩) j = pkAt l j by unfold pkAt; rw [List.getElem?_set_ne (fun x => e x.symm)]]
      exact (h.byt j hj).mod hm hty
end
end Go.Proofs.YtaablbmgagiajabGreatDoor
namespace Go.Proofs.YtaablbmgagiajabGreatDoor
open Go.RowKit Go.Deep
structure Sg where
  who : Nat
  cyc : Int
  on : Bool
  x : Int
  y : Int
structure TS where
  S : SY
  fx : Nat → Int
  fy : Nat → Int
  seen : List Sg
def WOf (L : RC) (l : List Sg) : Seen := fun j n z b => ∃ s ∈ l, s.who = j ∧ (s.cyc = (n : Int) ∨ s.on = true ∧ s.cyc ≤ (n : Int)) ∧ (if z then fitN L.n s.y else fitN L.s s.x).testBit b = true
theorem WOf_le (L : RC) (l a : List Sg) : Seen.le (WOf L l) (WOf L (l ++ a)) := fun _ _ _ _ ⟨s, h1, h2⟩ => ⟨s, List.mem_append_left _ h1, h2⟩
def sgOf (A : TS) (k : Nat) (on : Bool) : Sg := ⟨k, (A.S.rp k).cycle, on, A.fx k, A.fy k⟩
structure TlInv (L : RC) (liar win T : Nat) (A : TS) : Prop where
  inv : SInv L (WOf L A.seen) liar win T A.S
  sees : ∀ k, k < 3 → (A.S.rp k).sx = A.fx k ∧ (A.S.rp k).sy = A.fy k
def sees3 (A : TS) : List Sg := A.seen ++ [sgOf A 0 true, sgOf A 1 true, sgOf A 2 true]
inductive StepTo (L : RC) (win liar : Nat) (wh : Int) : TS → TS → Prop
  | same (A : TS) : StepTo L win liar wh A A
  | see (A : TS) (k : Nat) (x y : Int) (hk : k < 3) : StepTo L win liar wh A ⟨seeSy k x y A.S, upd A.fx k x, upd A.fy k y, A.seen⟩
  | tick (A : TS) (k : Nat) (hk : k < 3) : StepTo L win liar wh A ⟨tickSy L k A.S, A.fx, A.fy, A.seen ++ [sgOf A k false]⟩
  | asks (A : TS) (k : Nat) (hk : k < 3) : StepTo L win liar wh A ⟨asksSy k A.S, A.fx, A.fy, A.seen⟩
  | arrive (A : TS) (i : Nat) (hi : i < A.S.net.length) : StepTo L win liar wh A ⟨arriveSy L win i A.S, A.fx, A.fy, A.seen⟩
  | lose (A : TS) (i : Nat) : StepTo L win liar wh A ⟨outSy i A.S, A.fx, A.fy, A.seen⟩
  | twice (A : TS) (i : Nat) (hi : i < A.S.net.length) : StepTo L win liar wh A ⟨putSy (pkAt A.S.net i) A.S, A.fx, A.fy, A.seen⟩
  | spoil (A : TS) (i a what t m : Nat) (hi : i < A.S.net.length) (hd : (decF (pkAt A.S.net i).b).1 = 0) (hw : what < 4294967296) (hwt : what = 2 ^ (t + 1) * m + 2 ^ t) (ha : a + (31 - t) < 8 * (pkAt A.S.net i).b.length) :
      StepTo L win liar wh A ⟨spoilSy i (flipTo (pkAt A.S.net i).b a what 32) A.S, A.fx, A.fy, A.seen⟩
  | crash (A : TS) (k : Nat) (hk : k < 3) : StepTo L win liar wh A ⟨crashSy k A.S, upd A.fx k 0, upd A.fy k 0, A.seen⟩
  | says (A : TS) (dst : Nat) (l : List Nat) (hl : liar < 3) (hd : dst ≤ 3) (hb : ∀ x ∈ l, x < 256) (hn : l.length ≤ 80) : StepTo L win liar wh A ⟨putSy ⟨liar, dst, l⟩ A.S, A.fx, A.fy, A.seen⟩
  | calm (A : TS) (n : Nat) (S' : SY) (hw : 10 ≤ wh) (hn : n ≤ 3) (h : calmTo L win n A.S S') : StepTo L win liar wh A ⟨S', A.fx, A.fy, sees3 A⟩
  | vtick (A : TS) (hw : 10 ≤ wh) : StepTo L win liar wh A ⟨vtickSy A.S, A.fx, A.fy, A.seen⟩
  | latch (A : TS) (hw : 10 ≤ wh) : StepTo L win liar wh A ⟨latchSy A.S, A.fx, A.fy, A.seen⟩
section
variable {L : RC} {W : Seen} {liar win T n k : Nat} {S : SY} {A B : TS}
theorem SInv.spoil (h : SInv L W liar win T S) {i a what t m : Nat} (hi : i < S.net.length) (hd : (decF (pkAt S.net i).b).1 = 0) (hw : what < 4294967296) (hwt : what = 2 ^ (t + 1) * m + 2 ^ t) (ha : a + (31 - t) < 8 * (pkAt S.net i).b.length) :
    SInv L W liar win T (spoilSy i (flipTo (pkAt S.net i).b a what 32) S) := by
  have hp := h.net _ (pkAt_mem hi)
  have ht : t < 32 := by
    rcases Nat.lt_or_ge t 32 with q | q
    · exact q
    · have := Nat.pow_le_pow_right (n := 2) (by decide) q
      omega
  have key : PkOk L W liar S.v.tr ⟨(pkAt S.net i).src, (pkAt S.net i).dst, flipTo (pkAt S.net i).b a what 32⟩ := by
    refine ⟨hp.src, hp.dst, ?_, ?_, .inr (.inl ?_)⟩
    · show (flipTo _ _ _ _).length ≤ 80
      rw [flipTo_length]; exact hp.len
    · exact flipTo_lt a what 32 hp.byte
    · rcases dec_cases (pkAt S.net i).b with ⟨q, _⟩ | ⟨_, _, q, _⟩
      · exact absurd hd q
      · show (decF (flipTo (pkAt S.net i).b a what 32)).1 ≠ 0
        rw [← q] at ha ⊢
        exact (dec_flip _ a what (some_flip hwt ht ha)).1
  refine SInv.mk' h.rp h.vinv ⟨?_, fun p hp => ?_⟩
  · rw [List.length_set]; exact h.many
  · rcases List.mem_or_eq_of_mem_set hp with q | q
    · exact h.net p q
    · rw [q]; exact key
theorem SInv.new (h1 : 1 ≤ win) (h2 : win ≤ 20) : SInv L W liar win T (sy0 win) :=
  ⟨fun _ _ => RpInv.new, VOk.new h1 h2, fun i hi => absurd hi (Nat.not_lt_zero _), fun _ _ _ hb => Bool.noConfusion hb, fun k _ _ => by show (0 : Nat).testBit k = false; simp, fun _ _ _ hb => Bool.noConfusion hb, fun _ _ => rfl, Nat.zero_le _, fun p hp => absurd hp (List.not_mem_nil)⟩
theorem ClInv.round (h : ClInv L W liar win T S) (hL : LOk L) {S' : SY} (hr : roundTo L win S S') : ClInv L W liar win (T + 6) S' := by
  obtain ⟨m0, m1, m2, _, _, _, e⟩ := hr
  subst e
  have h0 := ClInv.runAll hL m0 _ h
  have h1 := ClInv.runAll hL m1 _ (h0.ticks 3 (by omega))
  have h2 := ClInv.runAll hL m2 _ (h1.ticks 3 (by omega))
  exact h2.vtick
theorem ClInv.calm (hL : LOk L) : ∀ (n T : Nat) (S S' : SY), ClInv L W liar win T S → calmTo L win n S S' → ClInv L W liar win (T + 6 * n) S'
  | 0, _, _, _, h, e => by
    have e' : _ = _ := e
    subst e'
    exact h
  | n + 1, T, S, S', h, ⟨S1, hr, hc⟩ => by
    have := ClInv.calm hL n (T + 6) S1 S' (h.round hL hr) hc
    rw [show T + 6 * (n + 1) = T + 6 + 6 * n by omega]
    exact this
structure Runs (S S' : SY) : Prop where
  sees : ∀ k, (S'.rp k).sx = (S.rp k).sx ∧ (S'.rp k).sy = (S.rp k).sy
  tr : ∃ a, S'.v.tr = S.v.tr ++ a
theorem Runs.refl (S : SY) : Runs S S := ⟨fun _ => ⟨rfl, rfl⟩, [], (List.append_nil _).symm⟩
theorem Runs.trans {S1 S2 : SY} (h : Runs S S1) (g : Runs S1 S2) : Runs S S2 := by
  obtain ⟨a, ha⟩ := h.tr
  obtain ⟨b, hb⟩ := g.tr
  exact ⟨fun k => ⟨(g.sees k).1.trans (h.sees k).1, (g.sees k).2.trans (h.sees k).2⟩, a ++ b, by rw [hb, ha, List.append_assoc]⟩
theorem Runs.tick (S : SY) (k : Nat) : Runs S (tickSy L k S) := by
  refine ⟨fun j => ?_, [], (List.append_nil _).symm⟩
  show (upd S.rp k _ j).sx = _ ∧ (upd S.rp k _ j).sy = _
  by_cases e : j = k
  · subst e; rw [upd_same]; exact ⟨rfl, rfl⟩
  · rw [upd_other _ _ e]; exact ⟨rfl, rfl⟩
theorem Runs.ticks (S : SY) : Runs S (ticksSy L S) := ((Runs.tick S 0).trans (Runs.tick _ 1)).trans (Runs.tick _ 2)
theorem SInv.runs (h : SInv L W liar win T S) (hL : LOk L) {i : Nat} (hi : i < S.net.length) : Runs S (arriveSy L win i S) := by
  refine ⟨fun k => ?_, (h.arrive hL hi).2⟩
  unfold arriveSy comeSy
  split
  · exact ⟨rfl, rfl⟩
  · split
    · exact ⟨rfl, rfl⟩
    · show (upd S.rp _ _ k).sx = _ ∧ (upd S.rp _ _ k).sy = _
      by_cases e : k = (pkAt S.net i).dst
      · rw [← e, upd_same]; exact takeS_sees _ _
      · rw [upd_other _ _ e]; exact ⟨rfl, rfl⟩
theorem SInv.runsAll (hL : LOk L) : ∀ (m : Nat) (S : SY), SInv L W liar win T S → Runs S (runAll L win m S)
  | 0, S, _ => Runs.refl S
  | m + 1, S, h => by
    cases hnet : S.net with
    | nil => rw [runAll_nil hnet]; exact Runs.refl S
    | cons p l =>
      have hi : 0 < S.net.length := by rw [hnet]; simp
      exact (h.runs hL hi).trans (SInv.runsAll hL m _ (h.arrive hL hi).1)
theorem vtick_runs (S : SY) : Runs S (vtickSy S) := ⟨fun _ => ⟨rfl, rfl⟩, [], by rw [List.append_nil]; exact tickF_tr _⟩
theorem ClInv.runsR (h : ClInv L W liar win T S) (hL : LOk L) {S' : SY} (hr : roundTo L win S S') : Runs S S' := by
  obtain ⟨m0, m1, m2, _, _, _, e⟩ := hr
  subst e
  have h0 := ClInv.runAll hL m0 _ h
  have h1 := ClInv.runAll hL m1 _ (h0.ticks 3 (by omega))
  exact ((((SInv.runsAll hL m0 _ h.inv).trans (Runs.ticks _)).trans (SInv.runsAll hL m1 _ (h0.ticks 3 (by omega)).inv)).trans (Runs.ticks _)).trans ((SInv.runsAll hL m2 _ (h1.ticks 3 (by omega)).inv).trans (vtick_runs _))
theorem ClInv.runsC (hL : LOk L) : ∀ (n T : Nat) (S S' : SY), ClInv L W liar win T S → calmTo L win n S S' → Runs S S'
  | 0, _, S, _, _, e => by
    have e' : _ = _ := e
    subst e'
    exact Runs.refl _
  | n + 1, _, _, S', h, ⟨S1, hr, hc⟩ => (h.runsR hL hr).trans (ClInv.runsC hL n _ S1 S' (h.round hL hr) hc)
theorem seen_sg (l : List Sg) (s : Sg) (hs : s ∈ l) {n : Nat} (hn : s.cyc = (n : Int) ∨ s.on = true ∧ s.cyc ≤ (n : Int)) : SeenN (WOf L l) s.who n (fitN L.s s.x) (fitN L.n s.y) :=
  ⟨fun _ hb => ⟨s, hs, rfl, hn, hb⟩, fun _ hb => ⟨s, hs, rfl, hn, hb⟩⟩
theorem TlInv.cseen (h : TlInv L liar win T A) : CSeen L (WOf L (sees3 A)) liar A.S := by
  intro k hk _ n hn
  have hm : sgOf A k true ∈ sees3 A := by
    unfold sees3
    have : k = 0 ∨ k = 1 ∨ k = 2 := by omega
    rcases this with e | e | e <;> subst e <;> simp
  have := seen_sg (L := L) _ _ hm (n := n) (.inr ⟨rfl, hn⟩)
  rw [(h.sees k hk).1, (h.sees k hk).2]
  exact this
theorem TlInv.cl (h : TlInv L liar win T A) : ClInv L (WOf L (sees3 A)) liar win T A.S := ⟨h.inv.le (WOf_le _ _ _), h.cseen⟩
theorem TlInv.later (h : TlInv L liar win T A) {T' : Nat} (hT : T ≤ T') : TlInv L liar win T' A := ⟨h.inv.later hT, h.sees⟩
theorem StepTo.keeps {wh : Int} (hs : StepTo L win liar wh A B) (hL : LOk L) (h : TlInv L liar win T A) : TlInv L liar win (T + 18) B ∧ ∃ a, B.S.v.tr = A.S.v.tr ++ a := by
  have nil : ∀ {l : List Cm}, ∃ a, l = l ++ a := ⟨[], (List.append_nil _).symm⟩
  have later : ∀ {C : TS} {T' : Nat}, TlInv L liar win T' C → T' ≤ T + 18 → TlInv L liar win (T + 18) C := fun h hT => h.later hT
  cases hs with
  | same => exact ⟨later h (by omega), nil⟩
  | see k x y hk =>
    refine ⟨later ⟨h.inv.see hk x y, fun j hj => ?_⟩ (by omega), nil⟩
    show (upd A.S.rp k _ j).sx = upd A.fx k x j ∧ (upd A.S.rp k _ j).sy = upd A.fy k y j
    by_cases e : j = k
    · subst e; rw [upd_same, upd_same, upd_same]; exact ⟨rfl, rfl⟩
    · rw [upd_other _ _ e, upd_other _ _ e, upd_other _ _ e]; exact h.sees j hj
  | tick k hk =>
    obtain ⟨n, c1, _⟩ := (h.inv.rp k hk).cyc
    refine ⟨later (T' := T + 1) ⟨(h.inv.le (WOf_le L A.seen [sgOf A k false])).tick hk c1 fun _ => ?_, fun j hj => ?_⟩ (by omega), nil⟩
    · have := seen_sg (L := L) (A.seen ++ [sgOf A k false]) (sgOf A k false) (by simp) (n := n) (.inl c1)
      rw [(h.sees k hk).1, (h.sees k hk).2]
      exact this
    · have := (Runs.tick (L := L) A.S k).sees j
      exact ⟨this.1.trans (h.sees j hj).1, this.2.trans (h.sees j hj).2⟩
  | asks k hk => exact ⟨later ⟨h.inv.asks hk, h.sees⟩ (by omega), nil⟩
  | arrive i hi =>
    have := (h.inv.runs hL hi)
    exact ⟨later ⟨(h.inv.arrive hL hi).1, fun j hj => ⟨(this.sees j).1.trans (h.sees j hj).1, (this.sees j).2.trans (h.sees j hj).2⟩⟩ (by omega), this.tr⟩
  | lose i => exact ⟨later ⟨h.inv.outs i, h.sees⟩ (by omega), nil⟩
  | twice i hi => exact ⟨later ⟨h.inv.puts (h.inv.net _ (pkAt_mem hi)), h.sees⟩ (by omega), nil⟩
  | spoil i a what t m hi hd hw hwt ha => exact ⟨later ⟨h.inv.spoil hi hd hw hwt ha, h.sees⟩ (by omega), nil⟩
  | crash k hk =>
    refine ⟨later ⟨h.inv.crash, fun j hj => ?_⟩ (by omega), nil⟩
    show (upd A.S.rp k _ j).sx = upd A.fx k 0 j ∧ (upd A.S.rp k _ j).sy = upd A.fy k 0 j
    by_cases e : j = k
    · subst e; rw [upd_same, upd_same, upd_same]; exact ⟨rfl, rfl⟩
    · rw [upd_other _ _ e, upd_other _ _ e, upd_other _ _ e]; exact h.sees j hj
  | says dst l hl hd hb hn => exact ⟨later ⟨h.inv.puts ⟨by show liar ≤ 3; omega, hd, hn, hb, .inl ⟨rfl, hl⟩⟩, h.sees⟩ (by omega), nil⟩
  | calm n S' hw hn hc =>
    have h1 := ClInv.calm hL n T A.S S' h.cl hc
    have h2 := ClInv.runsC hL n T A.S S' h.cl hc
    exact ⟨later (T' := T + 6 * n) ⟨h1.inv, fun j hj => ⟨(h2.sees j).1.trans (h.sees j hj).1, (h2.sees j).2.trans (h.sees j hj).2⟩⟩ (by omega), h2.tr⟩
  | vtick hw => exact ⟨later ⟨h.inv.vtick, h.sees⟩ (by omega), (vtick_runs A.S).tr⟩
  | latch hw => exact ⟨later ⟨h.inv.latch, h.sees⟩ (by omega), nil⟩
end
end Go.Proofs.YtaablbmgagiajabGreatDoor
namespace Go.Proofs.YtaablbmgagiajabGreatDoor
open Go.RowKit Go.Deep
variable {L : RC} {win : Nat} {S S1 S2 : SY}
theorem isNone_nil : isNone ⟨0, 0, []⟩ := .inl (by decide)
theorem arrive_nil (h : S.net = []) : arriveSy L win 0 S = S := by
  obtain ⟨rp, v, net⟩ := S
  subst h
  show comeSy L win ⟨0, 0, []⟩ ⟨rp, v, []⟩ = ⟨rp, v, []⟩
  unfold comeSy
  rw [if_pos isNone_nil]
theorem run_nil : ∀ (m : Nat), S.net = [] → runAll L win m S = S
  | 0, _ => rfl
  | m + 1, h => by
    show runAll L win m (arriveSy L win 0 S) = S
    rw [arrive_nil h]
    exact run_nil m h
theorem run_more : ∀ (m n : Nat) (S : SY), runAll L win (m + n) S = runAll L win n (runAll L win m S)
  | 0, n, S => by rw [Nat.zero_add]; rfl
  | m + 1, n, S => by
    rw [Nat.add_right_comm]
    exact run_more m n _
theorem run_det {m n : Nat} (h1 : (runAll L win m S).net = []) (h2 : (runAll L win n S).net = []) : runAll L win m S = runAll L win n S := by
  rcases Nat.le_total m n with h | h
  · obtain ⟨q, rfl⟩ := Nat.exists_eq_add_of_le h
    rw [run_more, run_nil q h1]
  · obtain ⟨q, rfl⟩ := Nat.exists_eq_add_of_le h
    rw [run_more, run_nil q h2]
end Go.Proofs.YtaablbmgagiajabGreatDoor
namespace Go.Proofs.YtaablbmgagiajabGreatDoor
open Go.RowKit Go.Deep
def runC (L : RC) (win : Nat) : Nat → SY → Int
  | 0, _ => 0
  | m + 1, S => (if S.net.length = 0 then 0 else arrC L win 0 S) + runC L win m (arriveSy L win 0 S)
theorem runC_nil {L : RC} {win : Nat} {S : SY} (h : S.net.length = 0) : ∀ {m : Nat}, runC L win m S = 0
  | 0 => rfl
  | m + 1 => by
    show (if S.net.length = 0 then 0 else arrC L win 0 S) + runC L win m (arriveSy L win 0 S) = 0
    rw [if_pos h, arrive_nil (List.length_eq_zero_iff.1 h), runC_nil h]
    rfl
theorem runC_more {L : RC} {win : Nat} : ∀ (m n : Nat) (S : SY), runC L win (m + n) S = runC L win m S + runC L win n (runAll L win m S)
  | 0, n, S => by rw [Nat.zero_add]; show _ = 0 + runC L win n S; omega
  | m + 1, n, S => by
    rw [Nat.add_right_comm]
    show (if S.net.length = 0 then 0 else arrC L win 0 S) + runC L win (m + n) (arriveSy L win 0 S) = (if S.net.length = 0 then 0 else arrC L win 0 S) + runC L win m (arriveSy L win 0 S) + runC L win n (runAll L win m (arriveSy L win 0 S))
    rw [runC_more m n]
    omega
theorem runC_det {L : RC} {win m n : Nat} {S : SY} (h1 : (runAll L win m S).net = []) (h2 : (runAll L win n S).net = []) : runC L win m S = runC L win n S := by
  rcases Nat.le_total m n with h | h
  · obtain ⟨q, rfl⟩ := Nat.exists_eq_add_of_le h
    rw [runC_more, runC_nil (m := q) (by rw [h1]; rfl), Int.add_zero]
  · obtain ⟨q, rfl⟩ := Nat.exists_eq_add_of_le h
    rw [runC_more, runC_nil (m := q) (by rw [h2]; rfl), Int.add_zero]
set_option maxHeartbeats 2000000 in
set_option maxRecDepth 20000 in
theorem arriveAllC {W : Seen} {liar T : Nat} (N : Nat) (D : SC) (L : RC) (win : Nat) (S : SY) (w : World) (m : Nat) (h : SyIs w N D L win S) (hI : SInv L W liar win T S) (hL : LOk L) (hT : T < 8000000) (hN : N ≤ w.heap.size) (hm : (runAll L win m S).net = []) (c : Int) (hc : cI D S c) :
    Calls Tryz.prog 45 #[.pointer (some ⟨D.p, 0, none⟩)] w fun e w' => e = .returned (.tuple #[]) ∧ SyGoC w w' N D L win (runAll L win m S) (c + runC L win m S) := by
  obtain ⟨SF, hSF⟩ : ∃ SF, Hid (runAll L win m S = SF) := ⟨_, hide rfl⟩
  obtain ⟨cF, hcF⟩ : ∃ cF, Hid (c + runC L win m S = cF) := ⟨_, hide rfl⟩
  rw [hSF.out] at hm ⊢
  rw [hcF.out]
  have HM := hide hm
  have HST : Hid (∃ S' c', SyGoC w w N D L win S' c' ∧ SInv L W liar win T S' ∧ runAll L win m S' = SF ∧ c' + runC L win m S' = cF) := hide ⟨S, c, h.goesC hc, hI, hSF.out, hcF.out⟩
  have HL := hide hL
  clear hm h hI hSF hL
  go_enter Tryz.func45, Tryz.ntmps45
  go_wp2_with fail
  go_loopg [] m (fun k wr => ∃ S' c', SyGoC w wr N D L win S' c' ∧ SInv L W liar win T S' ∧ runAll L win k S' = SF ∧ c' + runC L win k S' = cF)
  case atStart => exact HST.out
  case round =>
    obtain ⟨S', c', ⟨D1, hp1, hS1, hm1, hg1, hc1⟩, hI1, hr1, hq1⟩ := hrel
    clear HST
    obtain ⟨a, cap, c7⟩ := hS1.net7
    rw [hp1] at c7
    by_cases h0 : S'.net.length = 0
    · have hne : ¬ (0 : Int) < (S'.net.length : Int) := by omega
      have HE : Hid (SyGoC w wr N D L win SF cF) := hide (by
        rw [← hr1, ← hq1, runAll_nil (List.length_eq_zero_iff.1 h0), runC_nil h0, Int.add_zero]
        exact ⟨D1, hp1, hS1, hm1, hg1, hc1⟩)
      clear hS1 hm1 hg1 hI1 hr1 hc1 hq1
      rw [h0] at c7
      go_wp2
      go_end0
      exact ⟨rfl, HE.out⟩
    · have hne : (0 : Int) < (S'.net.length : Int) := by omega
      obtain ⟨k1, rfl⟩ : ∃ k1, gk = k1 + 1 := by
        cases gk with
        | zero =>
          have : S' = SF := hr1
          rw [this, HM.out] at h0
          exact absurd rfl h0
        | succ k1 => exact ⟨k1, rfl⟩
      have hAr := (hI1.arrive HL.out (i := 0) (by omega)).1
      have hcall := arriveC N D1 L win S' wr 0 hS1 hI1 HL.out hT (by omega) (Nat.le_trans hN hm1.size) _ hc1
      rw [hp1] at hcall
      have HC : Hid (Calls Tryz.prog 75 #[.pointer (some ⟨D.p, 0, none⟩), .int .i64 0] wr fun e w' => e = .returned (.tuple #[]) ∧ Hid (∃ S' c', SyGoC w w' N D L win S' c' ∧ SInv L W liar win T S' ∧ runAll L win k1 S' = SF ∧ c' + runC L win k1 S' = cF)) := hide (by
        refine hcall.mono ?_
        rintro e w2 ⟨rfl, hg⟩
        exact ⟨rfl, hide ⟨_, _, SyGoC.then hp1 hm1 hg1 hg, hAr, hr1, by rw [← hq1, show runC L win (k1 + 1) S' = (if S'.net.length = 0 then 0 else arrC L win 0 S') + runC L win k1 (arriveSy L win 0 S') from rfl, if_neg h0]; omega⟩⟩)
      clear hcall hAr hS1 hm1 hg1 hI1 hr1
      go_wp2_with fail
      refine HC.out.mono ?_
      rintro e w2 ⟨rfl, HR⟩
      go_wp2
      go_roundg k1
      case measure => omega
      case rel => exact HR.out
end Go.Proofs.YtaablbmgagiajabGreatDoor
namespace Go.Proofs.YtaablbmgagiajabGreatDoor
open Go.RowKit Go.Deep
def cT (L : RC) (S : SY) : Nat → Int
  | 0 => 0
  | k + 1 => cT L S k + tickC L k (tickTo L S k)
def halfC (L : RC) (win : Nat) : Nat → SY → Int → SY → Int → Prop
  | 0, S, c, S', c' => S' = S ∧ c' = c
  | j + 1, S, c, S', c' => ∃ S1 c1 m, halfC L win j S c S1 c1 ∧ S' = runAll L win m (tickTo L S1 3) ∧ S'.net = [] ∧ c' = c1 + cT L S1 3 + runC L win m (tickTo L S1 3)
def roundC (L : RC) (win : Nat) (S : SY) (c : Int) (S' : SY) (c' : Int) : Prop := ∃ m S2, (runAll L win m S).net = [] ∧ halfC L win 2 (runAll L win m S) (c + runC L win m S) S2 c' ∧ S' = vtickSy S2
def calmC (L : RC) (win : Nat) : Nat → SY → Int → SY → Int → Prop
  | 0, S, c, S', c' => S' = S ∧ c' = c
  | n + 1, S, c, S', c' => ∃ S1 c1, roundC L win S c S1 c1 ∧ calmC L win n S1 c1 S' c'
section
variable {L : RC} {win : Nat}
theorem calmC_snoc {S' S2 : SY} {c' c2 : Int} : ∀ {k : Nat} {S : SY} {c : Int}, calmC L win k S c S' c' → roundC L win S' c' S2 c2 → calmC L win (k + 1) S c S2 c2
  | 0, S, c, ⟨e1, e2⟩, hr => by
    subst e1 e2
    exact ⟨S2, c2, hr, rfl, rfl⟩
  | k + 1, S, c, ⟨A, a, hA, hk⟩, hr => ⟨A, a, hA, calmC_snoc hk hr⟩
theorem halfC_det : ∀ (j : Nat) {S S1 S2 : SY} {c c1 c2 : Int}, halfC L win j S c S1 c1 → halfC L win j S c S2 c2 → S1 = S2 ∧ c1 = c2
  | 0, _, _, _, _, _, _, ⟨a, b⟩, ⟨d, e⟩ => ⟨a.trans d.symm, b.trans e.symm⟩
  | j + 1, _, _, _, _, _, _, ⟨A, a, m, hA, h1, h2, h3⟩, ⟨B, b, n, hB, g1, g2, g3⟩ => by
    obtain ⟨rfl, rfl⟩ := halfC_det j hA hB
    rw [h1] at h2
    rw [g1] at g2
    exact ⟨by rw [h1, g1, run_det h2 g2], by rw [h3, g3, runC_det h2 g2]⟩
theorem roundC_det {S S1 S2 : SY} {c c1 c2 : Int} (h1 : roundC L win S c S1 c1) (h2 : roundC L win S c S2 c2) : S1 = S2 ∧ c1 = c2 := by
  obtain ⟨m, A, a0, a1, a2⟩ := h1
  obtain ⟨n, B, b0, b1, b2⟩ := h2
  rw [run_det a0 b0, runC_det a0 b0] at a1
  obtain ⟨rfl, rfl⟩ := halfC_det 2 a1 b1
  exact ⟨a2.trans b2.symm, rfl⟩
theorem calmC_det : ∀ (n : Nat) {S S1 S2 : SY} {c c1 c2 : Int}, calmC L win n S c S1 c1 → calmC L win n S c S2 c2 → S1 = S2 ∧ c1 = c2
  | 0, _, _, _, _, _, _, ⟨a, b⟩, ⟨d, e⟩ => ⟨a.trans d.symm, b.trans e.symm⟩
  | n + 1, _, _, _, _, _, _, ⟨A, a, p, p'⟩, ⟨B, b, q, q'⟩ => by
    obtain ⟨rfl, rfl⟩ := roundC_det p q
    exact calmC_det n p' q'
end
set_option maxHeartbeats 4000000 in
set_option maxRecDepth 20000 in
theorem calmC_any {W : Seen} {liar T : Nat} (N : Nat) (D : SC) (L : RC) (win : Nat) (S : SY) (w : World) (n : Nat) (h : SyIs w N D L win S) (hI : ClInv L W liar win T S) (hL : LOk L) (hT : T + 6 * n < 7000000) (hn : n ≤ 1000) (hN : N ≤ w.heap.size) (c : Int) (hc : cI D S c) :
    Calls Tryz.prog 16 #[.pointer (some ⟨D.p, 0, none⟩), .int .i64 (n : Int)] w fun e w' => e = .returned (.tuple #[]) ∧ ∃ S' c', calmC L win n S c S' c' ∧ ClInv L W liar win (T + 6 * n) S' ∧ SyGoC w w' N D L win S' c' := by
  have HST : Hid (∃ S' c', calmC L win 0 S c S' c' ∧ ClInv L W liar win (T + 6 * 0) S' ∧ SyGoC w w N D L win S' c') := hide ⟨S, c, ⟨rfl, rfl⟩, hI, h.goesC hc⟩
  have HL := hide hL
  have hall : ∀ (wr : World) (S' : SY) (c' : Int) (T' : Nat), T' < 8000000 → ClInv L W liar win T' S' → SyGoC w wr N D L win S' c' → Calls Tryz.prog 45 #[.pointer (some ⟨D.p, 0, none⟩)] wr fun e w' => e = .returned (.tuple #[]) ∧ Hid (∃ m, (runAll L win m S').net = [] ∧ ClInv L W liar win T' (runAll L win m S') ∧ SyGoC w w' N D L win (runAll L win m S') (c' + runC L win m S')) := by
    intro wr S' c' T' hT' hI' hg
    obtain ⟨D1, hp1, hS1, hm1, hg1, hc1⟩ := hg
    obtain ⟨m, hm⟩ := hI'.inv.ends HL.out
    have hc := arriveAllC N D1 L win S' wr m hS1 hI'.inv HL.out hT' (Nat.le_trans hN hm1.size) hm _ hc1
    rw [hp1] at hc
    refine hc.mono ?_
    rintro e w2 ⟨rfl, hg⟩
    exact ⟨rfl, hide ⟨m, hm, ClInv.runAll HL.out m S' hI', SyGoC.then hp1 hm1 hg1 hg⟩⟩
  have htick : ∀ (wr : World) (S' : SY) (c' : Int) (T' k : Nat), k < 3 → T' < 8000000 → ClInv L W liar win T' S' → SyGoC w wr N D L win S' c' → Calls Tryz.prog 46 #[.pointer (some ⟨D.p, 0, none⟩), .int .i64 (k : Int)] wr fun e w' => e = .returned (.tuple #[]) ∧ Hid (ClInv L W liar win (T' + 1) (tickSy L k S') ∧ SyGoC w w' N D L win (tickSy L k S') (c' + tickC L k S')) := by
    intro wr S' c' T' k hk hT' hI' hg
    obtain ⟨D1, hp1, hS1, hm1, hg1, hc1⟩ := hg
    obtain ⟨hok, _⟩ := (hI'.inv.rp k hk).ok hk HL.out hT' hI'.inv.vok.few
    have hc := tickRepC N D1 L win S' wr k hk hS1 hok (hI'.inv.rp k hk).id (Nat.le_trans hN hm1.size) hI'.inv.many _ hc1
    rw [hp1] at hc
    refine hc.mono ?_
    rintro e w2 ⟨rfl, hg⟩
    exact ⟨rfl, hide ⟨hI'.tick hk, SyGoC.then hp1 hm1 hg1 hg⟩⟩
  have hvt : ∀ (wr : World) (S' : SY) (c' : Int) (T' : Nat), ClInv L W liar win T' S' → SyGoC w wr N D L win S' c' → ∃ vp : Nat, wr.cell? ⟨D.p, 6, none⟩ = some (.pointer (some ⟨vp, 0, none⟩)) ∧ Hid (Calls Tryz.prog 47 #[.pointer (some ⟨vp, 0, none⟩)] wr fun e w' => e = .returned (.tuple #[]) ∧ SyGoC w w' N D L win (vtickSy S') c') := by
    intro wr S' c' T' hI' hg
    obtain ⟨D1, hp1, hS1, hm1, hg1, hc1⟩ := hg
    refine ⟨D1.vp, by rw [← hp1]; exact hS1.vt6, hide ?_⟩
    refine (tick_any N D1.vp win D1.tv S'.v wr hS1.vt hI'.inv.vok).mono ?_
    rintro e w2 ⟨rfl, hV, hm⟩
    exact ⟨rfl, SyGoC.then hp1 hm1 hg1 (hS1.putVC hm hV hc1 (Moved.refl _ _))⟩
  have HALL := hide hall
  have HTK := hide htick
  have HVT := hide hvt
  clear hall htick hvt h hI hL
  go_enter Tryz.func16, Tryz.ntmps16
  go_wp2_with fail
  go_loopw [6] (fun j wr => ∃ k : Nat, k ≤ n ∧ j = .int .i64 k ∧ ∃ S' c', calmC L win k S c S' c' ∧ ClInv L W liar win (T + 6 * k) S' ∧ SyGoC w wr N D L win S' c') (fun j _ => n - (intOf j).toNat)
  case atStart => exact ⟨0, by omega, rfl, HST.out⟩
  case round =>
    obtain ⟨k, hk, rfl, S', c', hcal, hI', hgo⟩ := hrel
    clear HST
    by_cases hkn : k < n
    · have hk' : (k : Int) < (n : Int) := by omega
      have HC1 := hide (HALL.out wr S' c' (T + 6 * k) (by omega) hI' hgo)
      have HCAL := hide hcal
      clear hcal hI' hgo
      go_wp2_with fail
      refine HC1.out.mono ?_
      rintro e w1 ⟨rfl, HG1⟩
      clear HC1
      obtain ⟨m0, hm0, hI0, hg0⟩ := HG1.out
      obtain ⟨S0, hS0⟩ : ∃ S0, Hid (runAll L win m0 S' = S0) := ⟨_, hide rfl⟩
      obtain ⟨c0, hc0⟩ : ∃ c0, Hid (c' + runC L win m0 S' = c0) := ⟨_, hide rfl⟩
      rw [hS0.out] at hm0 hI0 hg0
      rw [hc0.out] at hg0
      have HM0 := hide hm0
      have HS2 : Hid (∃ S2 c2, halfC L win 0 S0 c0 S2 c2 ∧ ClInv L W liar win (T + 6 * k + 3 * 0) S2 ∧ SyGoC w w1 N D L win S2 c2) := hide ⟨S0, c0, ⟨rfl, rfl⟩, hI0, hg0⟩
      clear HG1 hm0 hI0 hg0
      go_wp2_with fail
      go_loopw [10] (fun j wr => ∃ a : Nat, a ≤ 2 ∧ j = .int .i64 a ∧ ∃ S2 c2, halfC L win a S0 c0 S2 c2 ∧ ClInv L W liar win (T + 6 * k + 3 * a) S2 ∧ SyGoC w wr N D L win S2 c2) (fun j _ => 2 - (intOf j).toNat)
      case atStart => exact ⟨0, by omega, rfl, HS2.out⟩
      case round =>
        obtain ⟨a, ha, rfl, S2, c2, hh, hI2, hg2⟩ := hrel
        clear HS2
        by_cases ha2 : a < 2
        · have ha' : (a : Int) < 2 := by omega
          have HH := hide hh
          have HS3 : Hid (ClInv L W liar win (T + 6 * k + 3 * a + 0) (tickTo L S2 0) ∧ SyGoC w wr N D L win (tickTo L S2 0) (c2 + cT L S2 0)) := hide ⟨hI2, hg2.cast (by simp [cT])⟩
          clear hh hI2 hg2
          go_wp2_with fail
          go_loopw [12] (fun j wr => ∃ b : Nat, b ≤ 3 ∧ j = .int .i64 b ∧ ClInv L W liar win (T + 6 * k + 3 * a + b) (tickTo L S2 b) ∧ SyGoC w wr N D L win (tickTo L S2 b) (c2 + cT L S2 b)) (fun j _ => 3 - (intOf j).toNat)
          case atStart => exact ⟨0, by omega, rfl, HS3.out⟩
          case round =>
            obtain ⟨b, hb, rfl, hI3, hg3⟩ := hrel
            clear HS3
            by_cases hb3 : b < 3
            · have hb' : (b : Int) < 3 := by omega
              have HC3 := hide (HTK.out wr (tickTo L S2 b) _ (T + 6 * k + 3 * a + b) b hb3 (by omega) hI3 hg3)
              clear hI3 hg3
              go_wp2_with fail
              refine HC3.out.mono ?_
              rintro e w3 ⟨rfl, HG3⟩
              clear HC3
              go_wp2
              go_roundw
              case rel => exact ⟨b + 1, by omega, by go_num, HG3.out.1, HG3.out.2.cast (by show _ = c2 + (cT L S2 b + tickC L b (tickTo L S2 b)); omega)⟩
              case measure => simp [intOf]; omega
            · have e3 : b = 3 := by omega
              subst e3
              have HC4 := hide (HALL.out wr (tickTo L S2 3) _ (T + 6 * k + 3 * a + 3) (by omega) hI3 hg3)
              clear hI3 hg3
              go_wp2_with fail
              refine HC4.out.mono ?_
              rintro e w4 ⟨rfl, HG4⟩
              clear HC4
              go_wp2
              go_roundw
              case rel =>
                obtain ⟨m, hm, hI4, hg4⟩ := HG4.out
                exact ⟨a + 1, by omega, by go_num, _, _, ⟨S2, c2, m, HH.out, rfl, hm, rfl⟩, hI4, hg4⟩
              case measure => simp [intOf]; omega
        · have e2 : a = 2 := by omega
          subst e2
          obtain ⟨vp, cv, HV⟩ := HVT.out wr S2 c2 _ hI2 hg2
          have HEND : Hid (calmC L win (k + 1) S c (vtickSy S2) c2 ∧ ClInv L W liar win (T + 6 * k + 3 * 2) (vtickSy S2)) := hide ⟨calmC_snoc HCAL.out ⟨m0, S2, by rw [hS0.out]; exact HM0.out, by rw [hS0.out, hc0.out]; exact hh, rfl⟩, hI2.vtick⟩
          clear hh hI2 hg2
          go_wp2_with fail
          refine HV.out.mono ?_
          rintro e w5 ⟨rfl, hg5⟩
          go_wp2
          go_roundw
          case rel => exact ⟨k + 1, by omega, by go_num, _, _, HEND.out.1, HEND.out.2, hg5⟩
          case measure => simp [intOf]; omega
    · have e3 : k = n := by omega
      have hk' : ¬ (k : Int) < (n : Int) := by omega
      have HE : Hid (∃ S' c', calmC L win n S c S' c' ∧ ClInv L W liar win (T + 6 * n) S' ∧ SyGoC w wr N D L win S' c') := hide (by rw [← e3]; exact ⟨S', c', hcal, hI', hgo⟩)
      clear hcal hI' hgo e3
      go_wp2
      go_end0
      exact ⟨rfl, HE.out⟩
end Go.Proofs.YtaablbmgagiajabGreatDoor
