import Derived.Test.YtaablbmgagiajaaGreatDoorRGBJ
import Derived.Deep.QuietTactic
import Derived.BigQuiet
namespace Go.Proofs.YtaablbmgagiajaaGreatDoor
open Go.RowKit Go.Deep
structure Sg where
  who : Nat
  cyc : Int
  on : Bool
  x : Int
  y : Int
structure TS where
  S : SY
  fx : Nat → Int
  fy : Nat → Int
  seen : List Sg
def WOf (L : RC) (l : List Sg) : Seen := fun j n z b => ∃ s ∈ l, s.who = j ∧ (s.cyc = (n : Int) ∨ s.on = true ∧ s.cyc ≤ (n : Int)) ∧ (if z then fitN L.n s.y else fitN L.s s.x).testBit b = true
theorem WOf_le (L : RC) (l a : List Sg) : Seen.le (WOf L l) (WOf L (l ++ a)) := fun _ _ _ _ ⟨s, h1, h2⟩ => ⟨s, List.mem_append_left _ h1, h2⟩
def sgOf (A : TS) (k : Nat) (on : Bool) : Sg := ⟨k, (A.S.rp k).cycle, on, A.fx k, A.fy k⟩
structure TlInv (L : RC) (liar win T : Nat) (A : TS) : Prop where
  inv : SInv L (WOf L A.seen) liar win T A.S
  sees : ∀ k, k < 3 → (A.S.rp k).sx = A.fx k ∧ (A.S.rp k).sy = A.fy k
def sees3 (A : TS) : List Sg := A.seen ++ [sgOf A 0 true, sgOf A 1 true, sgOf A 2 true]
def StepTo (L : RC) (win liar : Nat) (wh : Int) (A B : TS) : Prop :=
  ∀ P : TS → Prop, P A → (∀ (k : Nat) (x y : Int) (_ : k < 3), P ⟨seeSy k x y A.S, upd A.fx k x, upd A.fy k y, A.seen⟩) → (∀ (k : Nat) (_ : k < 3), P ⟨tickSy L k A.S, A.fx, A.fy, A.seen ++ [sgOf A k false]⟩) → (∀ (k : Nat) (_ : k < 3), P ⟨asksSy k A.S, A.fx, A.fy, A.seen⟩) → (∀ (i : Nat) (_ : i < A.S.net.length), P ⟨arriveSy L win i A.S, A.fx, A.fy, A.seen⟩) → (∀ (i : Nat), P ⟨outSy i A.S, A.fx, A.fy, A.seen⟩) → (∀ (i : Nat) (_ : i < A.S.net.length), P ⟨putSy (pkAt A.S.net i) A.S, A.fx, A.fy, A.seen⟩) → (∀ (i a what t m : Nat) (_ : i < A.S.net.length) (_ : (decF (pkAt A.S.net i).b).1 = 0) (_ : what < 4294967296) (_ : what = 2 ^ (t + 1) * m + 2 ^ t) (_ : a + (31 - t) < 8 * (pkAt A.S.net i).b.length), P ⟨spoilSy i (flipTo (pkAt A.S.net i).b a what 32) A.S, A.fx, A.fy, A.seen⟩) → (∀ (k : Nat) (_ : k < 3), P ⟨crashSy k A.S, upd A.fx k 0, upd A.fy k 0, A.seen⟩) → (∀ (dst : Nat) (l : List Nat) (_ : liar < 3) (_ : dst ≤ 3) (_ : ∀ x ∈ l, x < 256) (_ : l.length ≤ 80), P ⟨putSy ⟨liar, dst, l⟩ A.S, A.fx, A.fy, A.seen⟩) → (∀ (n : Nat) (S' : SY) (_ : 10 ≤ wh) (_ : n ≤ 3) (_ : calmTo L win n A.S S'), P ⟨S', A.fx, A.fy, sees3 A⟩) → (∀ (_ : 10 ≤ wh), P ⟨vtickSy A.S, A.fx, A.fy, A.seen⟩) → (∀ (_ : 10 ≤ wh), P ⟨latchSy A.S, A.fx, A.fy, A.seen⟩) → P B
theorem StepTo.same {L : RC} {win liar : Nat} {wh : Int} (A : TS)  : StepTo L win liar wh A A := fun _ h _ _ _ _ _ _ _ _ _ _ _ _ => h
theorem StepTo.see {L : RC} {win liar : Nat} {wh : Int} (A : TS) (k : Nat) (x y : Int) (hk : k < 3) : StepTo L win liar wh A ⟨seeSy k x y A.S, upd A.fx k x, upd A.fy k y, A.seen⟩ := fun _ _ h _ _ _ _ _ _ _ _ _ _ _ => h k x y hk
theorem StepTo.tick {L : RC} {win liar : Nat} {wh : Int} (A : TS) (k : Nat) (hk : k < 3) : StepTo L win liar wh A ⟨tickSy L k A.S, A.fx, A.fy, A.seen ++ [sgOf A k false]⟩ := fun _ _ _ h _ _ _ _ _ _ _ _ _ _ => h k hk
theorem StepTo.asks {L : RC} {win liar : Nat} {wh : Int} (A : TS) (k : Nat) (hk : k < 3) : StepTo L win liar wh A ⟨asksSy k A.S, A.fx, A.fy, A.seen⟩ := fun _ _ _ _ h _ _ _ _ _ _ _ _ _ => h k hk
theorem StepTo.arrive {L : RC} {win liar : Nat} {wh : Int} (A : TS) (i : Nat) (hi : i < A.S.net.length) : StepTo L win liar wh A ⟨arriveSy L win i A.S, A.fx, A.fy, A.seen⟩ := fun _ _ _ _ _ h _ _ _ _ _ _ _ _ => h i hi
theorem StepTo.lose {L : RC} {win liar : Nat} {wh : Int} (A : TS) (i : Nat) : StepTo L win liar wh A ⟨outSy i A.S, A.fx, A.fy, A.seen⟩ := fun _ _ _ _ _ _ h _ _ _ _ _ _ _ => h i
theorem StepTo.twice {L : RC} {win liar : Nat} {wh : Int} (A : TS) (i : Nat) (hi : i < A.S.net.length) : StepTo L win liar wh A ⟨putSy (pkAt A.S.net i) A.S, A.fx, A.fy, A.seen⟩ := fun _ _ _ _ _ _ _ h _ _ _ _ _ _ => h i hi
theorem StepTo.spoil {L : RC} {win liar : Nat} {wh : Int} (A : TS) (i a what t m : Nat) (hi : i < A.S.net.length) (hd : (decF (pkAt A.S.net i).b).1 = 0) (hw : what < 4294967296) (hwt : what = 2 ^ (t + 1) * m + 2 ^ t) (ha : a + (31 - t) < 8 * (pkAt A.S.net i).b.length) : StepTo L win liar wh A ⟨spoilSy i (flipTo (pkAt A.S.net i).b a what 32) A.S, A.fx, A.fy, A.seen⟩ := fun _ _ _ _ _ _ _ _ h _ _ _ _ _ => h i a what t m hi hd hw hwt ha
theorem StepTo.crash {L : RC} {win liar : Nat} {wh : Int} (A : TS) (k : Nat) (hk : k < 3) : StepTo L win liar wh A ⟨crashSy k A.S, upd A.fx k 0, upd A.fy k 0, A.seen⟩ := fun _ _ _ _ _ _ _ _ _ h _ _ _ _ => h k hk
theorem StepTo.says {L : RC} {win liar : Nat} {wh : Int} (A : TS) (dst : Nat) (l : List Nat) (hl : liar < 3) (hd : dst ≤ 3) (hb : ∀ x ∈ l, x < 256) (hn : l.length ≤ 80) : StepTo L win liar wh A ⟨putSy ⟨liar, dst, l⟩ A.S, A.fx, A.fy, A.seen⟩ := fun _ _ _ _ _ _ _ _ _ _ h _ _ _ => h dst l hl hd hb hn
theorem StepTo.calm {L : RC} {win liar : Nat} {wh : Int} (A : TS) (n : Nat) (S' : SY) (hw : 10 ≤ wh) (hn : n ≤ 3) (hc : calmTo L win n A.S S') : StepTo L win liar wh A ⟨S', A.fx, A.fy, sees3 A⟩ := fun _ _ _ _ _ _ _ _ _ _ _ h _ _ => h n S' hw hn hc
theorem StepTo.vtick {L : RC} {win liar : Nat} {wh : Int} (A : TS) (hw : 10 ≤ wh) : StepTo L win liar wh A ⟨vtickSy A.S, A.fx, A.fy, A.seen⟩ := fun _ _ _ _ _ _ _ _ _ _ _ _ h _ => h hw
theorem StepTo.latch {L : RC} {win liar : Nat} {wh : Int} (A : TS) (hw : 10 ≤ wh) : StepTo L win liar wh A ⟨latchSy A.S, A.fx, A.fy, A.seen⟩ := fun _ _ _ _ _ _ _ _ _ _ _ _ _ h => h hw
section
variable {L : RC} {W : Seen} {liar win T n k : Nat} {S : SY} {A B : TS}
theorem SInv.spoil (h : SInv L W liar win T S) {i a what t m : Nat} (hi : i < S.net.length) (hd : (decF (pkAt S.net i).b).1 = 0) (hw : what < 4294967296) (hwt : what = 2 ^ (t + 1) * m + 2 ^ t) (ha : a + (31 - t) < 8 * (pkAt S.net i).b.length) :
    SInv L W liar win T (spoilSy i (flipTo (pkAt S.net i).b a what 32) S) := by
  have hp := h.net _ (pkAt_mem hi)
  have ht : t < 32 := by
    rcases Nat.lt_or_ge t 32 with q | q
    · exact q
    · have := Nat.pow_le_pow_right (n := 2) (by decide) q
      omega
  have key : PkOk L W liar S.v.tr ⟨(pkAt S.net i).src, (pkAt S.net i).dst, flipTo (pkAt S.net i).b a what 32⟩ := by
    refine ⟨hp.src, hp.dst, ?_, ?_, .inr (.inl ?_)⟩
    · show (flipTo _ _ _ _).length ≤ 80
      rw [flipTo_length]; exact hp.len
    · exact flipTo_lt a what 32 hp.byte
    · rcases dec_cases (pkAt S.net i).b with ⟨q, _⟩ | ⟨_, _, q, _⟩
      · exact absurd hd q
      · show (decF (flipTo (pkAt S.net i).b a what 32)).1 ≠ 0
        rw [← q] at ha ⊢
        exact (dec_flip _ a what (some_flip hwt ht ha)).1
  refine SInv.mk' h.rp h.vinv ⟨?_, fun p hp => ?_⟩
  · rw [List.length_set]; exact h.many
  · rcases List.mem_or_eq_of_mem_set hp with q | q
    · exact h.net p q
    · rw [q]; exact key
theorem SInv.new (h1 : 1 ≤ win) (h2 : win ≤ 20) : SInv L W liar win T (sy0 win) :=
  ⟨fun _ _ => RpInv.new, VOk.new h1 h2, fun i hi => absurd hi (Nat.not_lt_zero _), fun _ _ _ hb => Bool.noConfusion hb, fun k _ _ => by show (0 : Nat).testBit k = false; simp, fun _ _ _ hb => Bool.noConfusion hb, fun _ _ => rfl, Nat.zero_le _, fun p hp => absurd hp (List.not_mem_nil)⟩
theorem ClInv.round (h : ClInv L W liar win T S) (hL : LOk L) {S' : SY} (hr : roundTo L win S S') : ClInv L W liar win (T + 6) S' := by
  obtain ⟨m0, m1, m2, _, _, _, e⟩ := hr
  subst e
  have h0 := ClInv.runAll hL m0 _ h
  have h1 := ClInv.runAll hL m1 _ (h0.ticks 3 (by omega))
  have h2 := ClInv.runAll hL m2 _ (h1.ticks 3 (by omega))
  exact h2.vtick
theorem ClInv.calm (hL : LOk L) : ∀ (n T : Nat) (S S' : SY), ClInv L W liar win T S → calmTo L win n S S' → ClInv L W liar win (T + 6 * n) S'
  | 0, _, _, _, h, e => by
    have e' : _ = _ := e
    subst e'
    exact h
  | n + 1, T, S, S', h, ⟨S1, hr, hc⟩ => by
    have := ClInv.calm hL n (T + 6) S1 S' (h.round hL hr) hc
    rw [show T + 6 * (n + 1) = T + 6 + 6 * n by omega]
    exact this
structure Runs (S S' : SY) : Prop where
  sees : ∀ k, (S'.rp k).sx = (S.rp k).sx ∧ (S'.rp k).sy = (S.rp k).sy
  tr : ∃ a, S'.v.tr = S.v.tr ++ a
theorem Runs.refl (S : SY) : Runs S S := ⟨fun _ => ⟨rfl, rfl⟩, [], (List.append_nil _).symm⟩
theorem Runs.trans {S1 S2 : SY} (h : Runs S S1) (g : Runs S1 S2) : Runs S S2 := by
  obtain ⟨a, ha⟩ := h.tr
  obtain ⟨b, hb⟩ := g.tr
  exact ⟨fun k => ⟨(g.sees k).1.trans (h.sees k).1, (g.sees k).2.trans (h.sees k).2⟩, a ++ b, by rw [hb, ha, List.append_assoc]⟩
theorem Runs.tick (S : SY) (k : Nat) : Runs S (tickSy L k S) := by
  refine ⟨fun j => ?_, [], (List.append_nil _).symm⟩
  show (upd S.rp k _ j).sx = _ ∧ (upd S.rp k _ j).sy = _
  by_cases e : j = k
  · subst e; rw [upd_same]; exact ⟨rfl, rfl⟩
  · rw [upd_other _ _ e]; exact ⟨rfl, rfl⟩
theorem Runs.ticks (S : SY) : Runs S (ticksSy L S) := ((Runs.tick S 0).trans (Runs.tick _ 1)).trans (Runs.tick _ 2)
theorem SInv.runs (h : SInv L W liar win T S) (hL : LOk L) {i : Nat} (hi : i < S.net.length) : Runs S (arriveSy L win i S) := by
  refine ⟨fun k => ?_, (h.arrive hL hi).2⟩
  unfold arriveSy comeSy
  split
  · exact ⟨rfl, rfl⟩
  · split
    · exact ⟨rfl, rfl⟩
    · show (upd S.rp _ _ k).sx = _ ∧ (upd S.rp _ _ k).sy = _
      by_cases e : k = (pkAt S.net i).dst
      · rw [← e, upd_same]; exact takeS_sees _ _
      · rw [upd_other _ _ e]; exact ⟨rfl, rfl⟩
theorem SInv.runsAll (hL : LOk L) : ∀ (m : Nat) (S : SY), SInv L W liar win T S → Runs S (runAll L win m S)
  | 0, S, _ => Runs.refl S
  | m + 1, S, h => by
    cases hnet : S.net with
    | nil => rw [runAll_nil hnet]; exact Runs.refl S
    | cons p l =>
      have hi : 0 < S.net.length := by rw [hnet]; simp
      exact (h.runs hL hi).trans (SInv.runsAll hL m _ (h.arrive hL hi).1)
theorem vtick_runs (S : SY) : Runs S (vtickSy S) := ⟨fun _ => ⟨rfl, rfl⟩, [], by rw [List.append_nil]; exact tickF_tr _⟩
theorem ClInv.runsR (h : ClInv L W liar win T S) (hL : LOk L) {S' : SY} (hr : roundTo L win S S') : Runs S S' := by
  obtain ⟨m0, m1, m2, _, _, _, e⟩ := hr
  subst e
  have h0 := ClInv.runAll hL m0 _ h
  have h1 := ClInv.runAll hL m1 _ (h0.ticks 3 (by omega))
  exact ((((SInv.runsAll hL m0 _ h.inv).trans (Runs.ticks _)).trans (SInv.runsAll hL m1 _ (h0.ticks 3 (by omega)).inv)).trans (Runs.ticks _)).trans ((SInv.runsAll hL m2 _ (h1.ticks 3 (by omega)).inv).trans (vtick_runs _))
theorem ClInv.runsC (hL : LOk L) : ∀ (n T : Nat) (S S' : SY), ClInv L W liar win T S → calmTo L win n S S' → Runs S S'
  | 0, _, S, _, _, e => by
    have e' : _ = _ := e
    subst e'
    exact Runs.refl _
  | n + 1, _, _, S', h, ⟨S1, hr, hc⟩ => (h.runsR hL hr).trans (ClInv.runsC hL n _ S1 S' (h.round hL hr) hc)
theorem seen_sg (l : List Sg) (s : Sg) (hs : s ∈ l) {n : Nat} (hn : s.cyc = (n : Int) ∨ s.on = true ∧ s.cyc ≤ (n : Int)) : SeenN (WOf L l) s.who n (fitN L.s s.x) (fitN L.n s.y) :=
  ⟨fun _ hb => ⟨s, hs, rfl, hn, hb⟩, fun _ hb => ⟨s, hs, rfl, hn, hb⟩⟩
theorem TlInv.cseen (h : TlInv L liar win T A) : CSeen L (WOf L (sees3 A)) liar A.S := by
  intro k hk _ n hn
  have hm : sgOf A k true ∈ sees3 A := by
    unfold sees3
    have : k = 0 ∨ k = 1 ∨ k = 2 := by omega
    rcases this with e | e | e <;> subst e <;> simp
  have := seen_sg (L := L) _ _ hm (n := n) (.inr ⟨rfl, hn⟩)
  rw [(h.sees k hk).1, (h.sees k hk).2]
  exact this
theorem TlInv.cl (h : TlInv L liar win T A) : ClInv L (WOf L (sees3 A)) liar win T A.S := ⟨h.inv.le (WOf_le _ _ _), h.cseen⟩
theorem TlInv.later (h : TlInv L liar win T A) {T' : Nat} (hT : T ≤ T') : TlInv L liar win T' A := ⟨h.inv.later hT, h.sees⟩
theorem StepTo.keeps {wh : Int} (hs : StepTo L win liar wh A B) (hL : LOk L) (h : TlInv L liar win T A) : TlInv L liar win (T + 18) B ∧ ∃ a, B.S.v.tr = A.S.v.tr ++ a := by
  have nil : ∀ {l : List Cm}, ∃ a, l = l ++ a := ⟨[], (List.append_nil _).symm⟩
  have later : ∀ {C : TS} {T' : Nat}, TlInv L liar win T' C → T' ≤ T + 18 → TlInv L liar win (T + 18) C := fun h hT => h.later hT
  refine hs (fun B => TlInv L liar win (T + 18) B ∧ ∃ a, B.S.v.tr = A.S.v.tr ++ a) ?_ ?_ ?_ ?_ ?_ ?_ ?_ ?_ ?_ ?_ ?_ ?_ ?_
  · exact ⟨later h (by omega), nil⟩
  · intro k x y hk
    refine ⟨later ⟨h.inv.see hk x y, fun j hj => ?_⟩ (by omega), nil⟩
    show (upd A.S.rp k _ j).sx = upd A.fx k x j ∧ (upd A.S.rp k _ j).sy = upd A.fy k y j
    by_cases e : j = k
    · subst e; rw [upd_same, upd_same, upd_same]; exact ⟨rfl, rfl⟩
    · rw [upd_other _ _ e, upd_other _ _ e, upd_other _ _ e]; exact h.sees j hj
  · intro k hk
    obtain ⟨n, c1, _⟩ := (h.inv.rp k hk).cyc
    refine ⟨later (T' := T + 1) ⟨(h.inv.le (WOf_le L A.seen [sgOf A k false])).tick hk c1 fun _ => ?_, fun j hj => ?_⟩ (by omega), nil⟩
    · have := seen_sg (L := L) (A.seen ++ [sgOf A k false]) (sgOf A k false) (by simp) (n := n) (.inl c1)
      rw [(h.sees k hk).1, (h.sees k hk).2]
      exact this
    · have := (Runs.tick (L := L) A.S k).sees j
      exact ⟨this.1.trans (h.sees j hj).1, this.2.trans (h.sees j hj).2⟩
  · intro k hk
    exact ⟨later ⟨h.inv.asks hk, h.sees⟩ (by omega), nil⟩
  · intro i hi
    have := (h.inv.runs hL hi)
    exact ⟨later ⟨(h.inv.arrive hL hi).1, fun j hj => ⟨(this.sees j).1.trans (h.sees j hj).1, (this.sees j).2.trans (h.sees j hj).2⟩⟩ (by omega), this.tr⟩
  · intro i
    exact ⟨later ⟨h.inv.outs i, h.sees⟩ (by omega), nil⟩
  · intro i hi
    exact ⟨later ⟨h.inv.puts (h.inv.net _ (pkAt_mem hi)), h.sees⟩ (by omega), nil⟩
  · intro i a what t m hi hd hw hwt ha
    exact ⟨later ⟨h.inv.spoil hi hd hw hwt ha, h.sees⟩ (by omega), nil⟩
  · intro k hk
    refine ⟨later ⟨h.inv.crash, fun j hj => ?_⟩ (by omega), nil⟩
    show (upd A.S.rp k _ j).sx = upd A.fx k 0 j ∧ (upd A.S.rp k _ j).sy = upd A.fy k 0 j
    by_cases e : j = k
    · subst e; rw [upd_same, upd_same, upd_same]; exact ⟨rfl, rfl⟩
    · rw [upd_other _ _ e, upd_other _ _ e, upd_other _ _ e]; exact h.sees j hj
  · intro dst l hl hd hb hn
    exact ⟨later ⟨h.inv.puts ⟨by show liar ≤ 3; omega, hd, hn, hb, .inl ⟨rfl, hl⟩⟩, h.sees⟩ (by omega), nil⟩
  · intro n S' hw hn hc
    have h1 := ClInv.calm hL n T A.S S' h.cl hc
    have h2 := ClInv.runsC hL n T A.S S' h.cl hc
    exact ⟨later (T' := T + 6 * n) ⟨h1.inv, fun j hj => ⟨(h2.sees j).1.trans (h.sees j hj).1, (h2.sees j).2.trans (h.sees j hj).2⟩⟩ (by omega), h2.tr⟩
  · intro hw
    exact ⟨later ⟨h.inv.vtick, h.sees⟩ (by omega), (vtick_runs A.S).tr⟩
  · intro hw
    exact ⟨later ⟨h.inv.latch, h.sees⟩ (by omega), nil⟩
end
def pickF (a n : Int) : Int := wrap64 ((IntKind.u64.wrap a).tmod n)
theorem pickF_in (a n : Int) (h : 0 < n) (hn : n ≤ 5000) : 0 ≤ pickF a n ∧ pickF a n < n := by
  unfold pickF
  have h0 : 0 ≤ IntKind.u64.wrap a := wrap_u64_nonneg a
  rw [Int.tmod_eq_emod_of_nonneg h0]
  have h1 := Int.emod_nonneg (IntKind.u64.wrap a) (show n ≠ 0 by omega)
  have h2 := Int.emod_lt_of_pos (IntKind.u64.wrap a) h
  rw [IntWalk.wrap64_in _ ⟨by omega, by omega⟩]
  exact ⟨h1, h2⟩
set_option maxHeartbeats 400000 in
theorem pick_any (a n : Int) (w : World) (h : 0 < n) (hn : n ≤ 5000) :
    Calls Tryz.prog 22 #[.int .i64 a, .int .i64 n] w fun e w' => e = .returned (.int .i64 (pickF a n)) ∧ w' = w := by
  go_enter Tryz.func22, Tryz.ntmps22
  go_wp2
  go_ret
  exact ⟨rfl, rfl⟩
theorem firstTo_none {p : Nat → Bool} {n : Nat} (h : ∀ k, k < n → p k = false) : firstTo p n = none := by
  induction n with
  | zero => rfl
  | succ n ih => exact first_none (ih fun k hk => h k (by omega)) (h n (by omega))
theorem nodup_take {zs : List Int} (h : zs.Nodup) (k : Nat) (hk : k < zs.length) : zs[k]?.getD 0 ∉ zs.take k := by
  intro hm
  have e : zs.take (k + 1) = zs.take k ++ [zs[k]?.getD 0] := by rw [List.take_add_one, List.getElem?_eq_getElem hk]; rfl
  have hn : (zs.take (k + 1)).Nodup := h.sublist (List.take_sublist _ _)
  rw [e, List.nodup_append] at hn
  exact hn.2.2 _ hm _ (by simp) rfl
theorem check_good (s d : Int) (zs : List Int) (hr : rangeB s zs.length d = true) (hg : ∀ z ∈ zs, 1 ≤ z ∧ z ≤ top s) (hn : zs.Nodup) : checkF s zs d = (0, -1) := by
  unfold checkF
  rw [if_pos hr, firstTo_none, firstTo_none]
  · intro k hk; unfold twiceAt; exact decide_eq_false (nodup_take hn k hk)
  · intro k hk
    have hm : zs[k]?.getD 0 ∈ zs := by rw [List.getElem?_eq_getElem hk]; exact List.getElem_mem hk
    have := hg _ hm
    unfold badAt
    rw [(inB_iff _ _ _).2 this]; rfl
theorem block_set {w : World} {b : Nat} {c : Array Value} {t : TypeId} (h : w.heap[b]? = some (.cells c t (0, 0))) (i : Nat) (u : Value) : (w.setCell ⟨b, i, none⟩ u).heap[b]? = some (.cells (c.setIfInBounds i u) t (0, 0)) := by
  simp [World.setCell, Array.getElem?_modify, h]
theorem block_cell {w : World} {b : Nat} {c : Array Value} {t : TypeId} (h : w.heap[b]? = some (.cells c t (0, 0))) (i : Nat) : w.cell? ⟨b, i, none⟩ = c[i]? := by
  simp [World.cell?, h]
theorem block_free {w : World} {b : Nat} {c : Array Value} {t : TypeId} (h : w.heap[b]? = some (.cells c t (0, 0))) (i : Nat) : w.frozen? ⟨b, i, none⟩ = false := by
  simp [World.frozen?, h]
theorem block_lt {w : World} {b : Nat} {o : Obj} (h : w.heap[b]? = some o) : b < w.heap.size := by
  obtain ⟨hlt, _⟩ := Array.getElem?_eq_some_iff.1 h
  exact hlt
structure LInv (w wr : World) (N s d : Nat) (v : Value) (zs : List Int) : Prop where
  old : Below N w wr
  res : wr.heap[N]? = some (.cells #[.int .i64 0, .slice none 0 0, .int .i64 0] 41 (0, 0))
  box : wr.heap[N + 1]? = some (.cells #[.int .i64 (s : Int), v, .int .i64 (d : Int)] 41 (0, 0))
  own : wr.ownsRow (N + 2) 3 1 v zs.length (zs.map (Value.int .i64))
  good : ∀ z ∈ zs, 1 ≤ z ∧ z ≤ top s
  nodup : zs.Nodup
  few : zs.length ≤ 8
theorem LInv.shape {w wr : World} {N s d : Nat} {v : Value} {zs : List Int} (h : LInv w wr N s d v zs) :
    ∃ a cap, v = .slice a zs.length cap ∧ zs.length ≤ cap ∧ ∀ k, k < zs.length → ∃ g, a = some ⟨g, 0, none⟩ ∧ N + 2 ≤ g ∧ g < wr.heap.size ∧ wr.cell? ⟨g, k, none⟩ = some (.int .i64 (zs[k]?.getD 0)) := by
  obtain ⟨_, ho⟩ := h.own
  rcases ho with ⟨rfl, h0⟩ | ⟨g, cap, cur, rfl, hg, hh, hc, hm, hs, ht⟩
  · exact ⟨none, 0, by rw [h0], by omega, fun k hk => by omega⟩
  · refine ⟨_, cap, rfl, hc, fun k hk => ⟨g, rfl, hg, block_lt hh, ?_⟩⟩
    have := h.own.cellAt k (by omega)
    rw [this]
    simp [hk]
theorem LInv.put {w wr w1 : World} {N s d : Nat} {v v' : Value} {zs : List Int} {r : Int} {o : Obj} (h : LInv w wr N s d v zs) (hown : w1.ownsRow (N + 2) 3 1 v' (zs.length + 1) (zs.map (Value.int .i64) ++ [.int .i64 r]))
    (hg : (wr.alloc o).grownBy w1 v.ownBlock) (hr : 1 ≤ r ∧ r ≤ top s) (hn : r ∉ zs) (hl : zs.length < 8) : LInv w (w1.setCell ⟨N + 1, 1, none⟩ v') N s d v' (zs ++ [r]) := by
  have hN1 : N + 1 < wr.heap.size := block_lt h.box
  have hne : ∀ j, j < N + 2 → some j ≠ v.ownBlock := fun j hj e => by have := h.own.lt j e.symm; omega
  have hb : ∀ j, j < N + 2 → w1.heap[j]? = wr.heap[j]? := fun j hj => (hg.block j (by simp; omega) (hne j hj)).trans (Below.heap_alloc _ _ _ (by omega))
  have old1 : Below N w w1 := (h.old.alloc (by omega) o).grown hg (by simp; omega) (fun j hj => by have := (h.own.lt j hj).1; omega)
  refine ⟨old1.setCell (by show N ≤ N + 1; omega) _, ?_, ?_, ?_, ?_, ?_, by simp; omega⟩
  · rw [Below.heap_setCell _ _ _ _ (by show N ≠ N + 1; omega), hb N (by omega)]; exact h.res
  · rw [block_set ((hb (N + 1) (by omega)).trans h.box)]; simp
  · have := ownsRow_setCell_below hown (a := ⟨N + 1, 1, none⟩) (by show N + 1 < N + 2; omega) v'
    simpa using this
  · intro z hz
    rcases List.mem_append.1 hz with hz | hz
    · exact h.good z hz
    · rw [List.mem_singleton.1 hz]; exact hr
  · rw [List.nodup_append]
    refine ⟨h.nodup, by simp, fun a ha b hb e => hn ?_⟩
    rw [List.mem_singleton.1 hb] at e; rw [← e]; exact ha
def sgC (s : Sg) : List Value := [.int .i64 (s.who : Int), .int .i64 s.cyc, .bool s.on, .int .i64 s.x, .int .i64 s.y]
def sgL : List Sg → List Value
  | [] => []
  | s :: r => sgC s ++ sgL r
theorem sgL_append (l m : List Sg) : sgL (l ++ m) = sgL l ++ sgL m := by
  induction l with
  | nil => rfl
  | cons s r ih => rw [List.cons_append, sgL, sgL, ih, List.append_assoc]
theorem sgC_one (s : Sg) : ∀ u ∈ sgC s, u.oneCell' = true := by
  intro u hu
  simp [sgC] at hu
  rcases hu with rfl | rfl | rfl | rfl | rfl <;> rfl
structure TC where
  D : SC
  b : Nat
  off : Nat
  cap : Nat
  sv : Value
  z : Nat
def taC (E : TC) (L : RC) (liar : Nat) (A : TS) : Array Value := #[.pointer (some ⟨E.D.p, 0, none⟩), .int .i64 (L.s : Int), .slice (some ⟨E.b, E.off, none⟩) L.n E.cap, .int .i64 (L.d : Int), .int .i64 (liar : Int), .int .i64 (A.fx 0), .int .i64 (A.fy 0), .int .i64 (A.fx 1), .int .i64 (A.fy 1), .int .i64 (A.fx 2), .int .i64 (A.fy 2), E.sv]
structure TaIs (w : World) (N q : Nat) (E : TC) (L : RC) (win liar : Nat) (A : TS) : Prop where
  blk : w.heap[q]? = some (.cells (taC E L liar A) 45 (0, 0))
  row : Row w E.b E.off L.zs
  sy : SyIs w N E.D L win A.S
  seen : w.ownsRow N 94 5 E.sv A.seen.length (sgL A.seen)
  lb : E.b < N ∧ E.b ≠ q
  lq : q < N
  far : ∀ y, Sta E.D y → E.sv.ownBlock ≠ some y
  cap : L.n ≤ E.cap
  size : N ≤ w.heap.size
  zz : (¬ Wr E.D E.z ∧ E.z ≠ q) ∧ E.sv.ownBlock ≠ some E.z ∧ E.z < w.heap.size
def TaW (N q z k : Nat) : Prop := k = q ∨ N ≤ k ∧ k ≠ z
def TaGo (w w' : World) (N q : Nat) (E : TC) (L : RC) (win liar : Nat) (A' : TS) : Prop := ∃ E', E'.b = E.b ∧ E'.off = E.off ∧ (E'.cap, E'.z) = (E.cap, E.z) ∧ E'.D.p = E.D.p ∧ TaIs w' N q E' L win liar A' ∧ Mod w w' (TaW N q E.z)
section
variable {w w' : World} {N q win liar : Nat} {E : TC} {L : RC} {A : TS}
theorem TaIs.at (h : TaIs w N q E L win liar A) (k : Nat) : w.cell? ⟨q, k, none⟩ = (taC E L liar A)[k]? := blk_cell h.blk k
theorem TaIs.free (h : TaIs w N q E L win liar A) (k : Nat) : w.frozen? ⟨q, k, none⟩ = false := blk_free h.blk k
theorem TaIs.lt (h : TaIs w N q E L win liar A) : q < w.heap.size := blk_lt h.blk
theorem TaIs.own (h : TaIs w N q E L win liar A) {g : Nat} (hg : E.sv.ownBlock = some g) : TyAt w g 94 := by
  rcases h.seen.2 with ⟨e, _⟩ | ⟨g', cap, cur, e, _, hc, _⟩
  · rw [e] at hg; simp [Value.ownBlock] at hg
  · rw [e] at hg
    have : g' = g := by simpa [Value.ownBlock] using hg
    subst this
    exact ⟨_, _, hc⟩
theorem TaIs.shape (h : TaIs w N q E L win liar A) : ∃ a cap, E.sv = .slice a A.seen.length cap := by
  rcases h.seen.2 with ⟨e, h0⟩ | ⟨g, cap, cur, e, _⟩
  · exact ⟨none, 0, by rw [e, h0]⟩
  · exact ⟨_, _, e⟩
theorem ownsRow_mod {w w' : World} {B : Nat} {t : TypeId} {m : Nat} {v : Value} {n : Nat} {xs : List Value} {T : Nat → Prop} (h : w.ownsRow B t m v n xs) (hm : Mod w w' T) (hT : ∀ g, v.ownBlock = some g → ¬ T g) : w'.ownsRow B t m v n xs := by
  refine ⟨h.1, ?_⟩
  rcases h.2 with h2 | ⟨g, cap, cur, e, h3, hc, h5⟩
  · exact .inl h2
  · exact .inr ⟨g, cap, cur, e, h3, (hm.block g (blk_lt hc) (hT g (by rw [e]; rfl))).trans hc, h5⟩
theorem TaIs.below (h : TaIs w N q E L win liar A) (hB : Below w.heap.size w w') : TaIs w' N q E L win liar A := by
  have hm := Mod.ofBelow hB (fun _ => False)
  exact ⟨(hB.block _ h.lt).trans h.blk, h.row.below (B := w.heap.size) (Nat.lt_of_lt_of_le h.lb.1 h.size) hB, h.sy.below hB, ownsRow_mod h.seen hm (fun _ _ hf => hf), h.lb, h.lq, h.far, h.cap, Nat.le_trans h.size hB.size, h.zz.1, h.zz.2.1, Nat.lt_of_lt_of_le h.zz.2.2 hB.size⟩
theorem TaIs.went (h : TaIs w N q E L win liar A) {S' : SY} (hg : SyGo w w' N E.D L win S') : TaGo w w' N q E L win liar ⟨S', A.fx, A.fy, A.seen⟩ := by
  obtain ⟨D', hp, hS, hm, hgr⟩ := hg
  have hb : ∀ k, k < N → ¬ Wr E.D k := fun k hk hw => by have := h.sy.base k hw; omega
  have hns : ∀ g, E.sv.ownBlock = some g → ¬ Wr E.D g := fun g hg hw => by
    have t := h.own hg
    rcases hw with rfl | hw | ⟨j, hj, rfl⟩ | rfl | hw
    · exact t.ne h.sy.tyP (by decide) rfl
    · exact t.ne (h.sy.tyN hw) (by decide) rfl
    · exact t.ne (h.sy.tyR hj) (by decide) rfl
    · exact t.ne h.sy.tyV (by decide) rfl
    · exact t.ne (h.sy.tyT hw) (by decide) rfl
  refine ⟨⟨D', E.b, E.off, E.cap, E.sv, E.z⟩, rfl, rfl, rfl, hp, ⟨?_, ?_, hS, ownsRow_mod h.seen hm hns, h.lb, h.lq, fun y hy e => ?_, h.cap, Nat.le_trans h.size hm.size, ⟨fun x => ?_, h.zz.1.2⟩, h.zz.2.1, Nat.lt_of_lt_of_le h.zz.2.2 hm.size⟩, hm.mono fun k _ hw => .inr ⟨h.sy.base k hw, fun e => h.zz.1.1 (e ▸ hw)⟩⟩
  · rw [hm.block q h.lt (hb q h.lq), h.blk]
    unfold taC
    rw [hp]
  · intro k hk
    rw [World.cell?_of_block (w := w) (hm.block E.b (Nat.lt_of_lt_of_le h.lb.1 h.size) (hb _ h.lb.1))]
    exact h.row k hk
  · rcases hgr.st y hy with z | z
    · exact h.far y z e
    · have := (h.own e).lt
      omega
  · have hz := h.zz.2.2
    rcases hgr.wr _ x with y | y
    · exact h.zz.1.1 y
    · have y' : w.heap.size ≤ E.z := y
      omega
theorem TaGo.then {w2 : World} {A2 : TS} {E1 : TC} (he : E1.b = E.b ∧ E1.off = E.off ∧ (E1.cap, E1.z) = (E.cap, E.z) ∧ E1.D.p = E.D.p) (hm : Mod w w' (TaW N q E.z)) (h : TaGo w' w2 N q E1 L win liar A2) : TaGo w w2 N q E L win liar A2 := by
  obtain ⟨E2, e1, e2, e3, e4, hT, hm2⟩ := h
  exact ⟨E2, e1.trans he.1, e2.trans he.2.1, e3.trans he.2.2.1, e4.trans he.2.2.2, hT, hm.then hm2 fun _ _ h => by rw [← show E1.z = E.z from congrArg Prod.snd he.2.2.1]; exact h⟩
theorem TaGo.pre {w0 : World} {A' : TS} (h : TaGo w w' N q E L win liar A') (hB : Below w0.heap.size w0 w) : TaGo w0 w' N q E L win liar A' := by
  obtain ⟨E2, e1, e2, e3, e4, hT, hm2⟩ := h
  exact ⟨E2, e1, e2, e3, e4, hT, (Mod.ofBelow hB _).then hm2 fun _ _ h => h⟩
theorem TaIs.goes (h : TaIs w N q E L win liar A) : TaGo w w N q E L win liar A := ⟨E, rfl, rfl, rfl, rfl, h, Mod.refl _ _⟩
theorem SyIs.far {D : SC} {S : SY} (h : SyIs w N D L win S) {T : Nat → Prop} (hm : Mod w w' T) (hw : ∀ k, T k → ¬ Wr D k) (hs : ∀ k, T k → ¬ Sta D k) (hb : ∀ k, T k → ¬ TyAt w k 5) : SyIs w' N D L win S := by
  refine ⟨(hm.block _ h.lt fun x => hw _ x (.inl rfl)).trans h.blk, fun k hk => (World.cell?_of_block (w := w) (hm.block _ h.lt0 fun x => hs _ x (.inl rfl))).trans (h.row k hk), Nat.lt_of_lt_of_le h.lt0 hm.size, h.cap0, fun k hk => ?_, h.ln, h.ne, ?_, ?_, h.sep, h.base, h.sbase⟩
  · exact (h.rp k hk).staged hm (fun x => hw _ x (.inr (.inr (.inl ⟨k, hk, rfl⟩)))) fun j hj x => hs j x (.inr ⟨k, hk, hj⟩)
  · exact h.vt.move hm fun k hk x => hw k x (.inr (.inr (.inr hk)))
  · exact h.net.mod hm (fun g hg x => hw g x (.inr (.inl hg))) hb
theorem TaIs.grown (h : TaIs w N q E L win liar A) {o : Obj} {w3 : World} {g cap' n : Nat} {s : Sg} (hn : A.seen.length = n) (hown : w3.ownsRow N 94 5 (.slice (some ⟨g, 0, none⟩) (n + 1) cap') (n + 1) (sgL A.seen ++ sgC s)) (hg : (w.alloc o).drew.grownBy w3 E.sv.ownBlock) (hat : E.sv.ownBlock = some g ∨ w.heap.size ≤ g) :
    TaGo w (w3.setCell ⟨q, 11, none⟩ (.slice (some ⟨g, 0, none⟩) (n + 1) cap')) N q E L win liar ⟨A.S, A.fx, A.fy, A.seen ++ [s]⟩ := by
  have hBo : Below w.heap.size w (w.alloc o).drew := ((Below.refl _ _).alloc (Nat.le_refl _) _).drew
  have lq := h.lq
  have hmg : Mod (w.alloc o).drew w3 (fun k => E.sv.ownBlock = some k) := (Mod.refl _ _).grown hg (fun k _ e => e)
  have hm1 : Mod w w3 (fun k => E.sv.ownBlock = some k) := (Mod.ofBelow hBo _).then hmg fun _ _ x => x
  have hm4 : Mod w3 (w3.setCell ⟨q, 11, none⟩ (.slice (some ⟨g, 0, none⟩) (n + 1) cap')) (· = q) := (Mod.refl _ _).set _ _ (fun _ => rfl)
  have hm : Mod w (w3.setCell ⟨q, 11, none⟩ (.slice (some ⟨g, 0, none⟩) (n + 1) cap')) (fun k => k = q ∨ E.sv.ownBlock = some k) := (hm1.mono fun _ _ x => .inr x).then hm4 fun _ _ x => .inl x
  have hge : ∀ k, E.sv.ownBlock = some k → N ≤ k := fun k hk => (h.seen.lt k hk).1
  have hb3 : w3.heap[q]? = some (.cells (taC E L liar A) 45 (0, 0)) := (hm1.block q h.lt fun e => by have := hge q e; omega).trans h.blk
  refine ⟨⟨E.D, E.b, E.off, E.cap, .slice (some ⟨g, 0, none⟩) (n + 1) cap', E.z⟩, rfl, rfl, rfl, rfl, ⟨(blk_set hb3 11 _).trans rfl, ?_, ?_, ?_, h.lb, h.lq, fun y hy e => ?_, h.cap, Nat.le_trans h.size hm.size, h.zz.1, fun e => ?_, Nat.lt_of_lt_of_le h.zz.2.2 hm.size⟩, hm.mono fun k _ x => x.imp id fun y => ⟨hge k y, fun e => h.zz.2.1 (e ▸ y)⟩⟩
  · intro k hk
    have hlb := h.lb
    rw [World.cell?_of_block (w := w) (hm.block E.b (Nat.lt_of_lt_of_le h.lb.1 h.size) fun x => x.elim hlb.2 fun x => absurd (hge _ x) (by omega))]
    exact h.row k hk
  · refine h.sy.far hm (fun k e x => ?_) (fun k e x => ?_) (fun k e x => ?_)
    · rcases e with e | e
      · have := h.sy.base k x; omega
      · exact h.sy.notWr (h.own e) (by decide) x
    · rcases e with e | e
      · have := h.sy.sbase k x; omega
      · exact h.far k x e
    · rcases e with e | e
      · subst e
        exact TyAt.ne ⟨_, _, h.blk⟩ x (by decide) rfl
      · exact (h.own e).ne x (by decide) rfl
  · rw [sgL_append, List.length_append, hn]
    have e0 : sgL [s] = sgC s := List.append_nil _
    rw [e0]
    refine ownsRow_mod hown hm4 fun k hk e => ?_
    have : g = k := by simpa [Value.ownBlock] using hk
    rcases hat with hat | hat
    · have := hge g hat; omega
    · have := h.size; omega
  · have : g = y := by simpa [Value.ownBlock] using e
    subst this
    rcases hat with hat | hat
    · exact h.far g hy hat
    · have := h.sy.staLt hy; omega
  · have e' : g = E.z := by simpa [Value.ownBlock] using e
    have hz := h.zz.2.2
    rcases hat with hat | hat
    · exact h.zz.2.1 (e' ▸ hat)
    · omega
end
end Go.Proofs.YtaablbmgagiajaaGreatDoor
