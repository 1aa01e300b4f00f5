import Derived.Test.YtaablbmgagiajabGreatDoorKGAP
namespace Go.Proofs.YtaablbmgagiajabGreatDoor.Ren
open Go Go.Conc
open Go.ConcR (KK WgAt stA smA rd wr mk)
open Go.ConcN (RelBy sumTo upd upd_same upd_ne sumTo_upd sumTo_congr get_map_set get_map_set_same)
def InvE (S : Sc) (μ : Nat × (Nat → Cfg) × Nat) (m : Machine) (t : Trace) : Prop :=
  ∃ c D M ob oc q cl st sm gs w sl, m = crowd gs w sl ∧ Inv S c D M ob oc q cl st sm gs w t ∧ μ = meas S c D M q
def obN (ob : Nat → Nat) (lo hi k b : Nat) : Nat := if lo ≤ b ∧ b < hi then k else ob b
def EvK (S : Sc) (ob oc : Nat → Nat) (k B : Nat) (e : Event) : Prop :=
  (∀ a, (MemAct.ofEvent e).touch? = some a → a.loc.isMemory = true → (S.Sh a.loc ∧ a.kind = .atomic) ∨ (S.Own ob oc k a.loc ∧ a.kind = .plain) ∨ (S.Rd a.loc ∧ a.write = false ∧ a.kind = .plain)) ∧ (MemAct.ofEvent e).low B ∧ e.loc ≠ .mark (.release (stA S.Wg))
theorem rcOf_woken (S : Sc) {M M' : MD} (h : M' = M ∨ (M.kind = 4 ∧ M.fuel = 0 ∧ M' = ⟨5, M.r, 1⟩)) : rcOf S M' = rcOf S M := by
  rcases h with rfl | ⟨h, _, rfl⟩
  · rfl
  · simp [rcOf, h]
theorem phi_woken (S : Sc) (v : Nat) {M M' : MD} (h : M' = M ∨ (M.kind = 4 ∧ M.fuel = 0 ∧ M' = ⟨5, M.r, 1⟩)) : phi S v M' = phi S v M := by
  rcases h with rfl | ⟨h, _, rfl⟩
  · rfl
  · simp [phi, h]
theorem phi_mono (S : Sc) {v v' : Nat} (h : v' ≤ v) (M : MD) : phi S v' M ≤ phi S v M := by
  unfold phi
  repeat (first | omega | split)
theorem cntW_le {d d' : WD} (h : d'.stage ≤ d.stage) : cntW d' ≤ cntW d := by
  unfold cntW
  split <;> split <;> omega
section
variable {S : Sc} {c : Nat} {D : Nat → WD} {M : MD} {ob oc q : Nat → Nat} {cl : Bool} {st sm : Int} {gs : Array Goroutine} {w : World} {t : Trace}
theorem Inv.obz (h : Inv S c D M ob oc q cl st sm gs w t) {b : Nat} (hb : b < S.w0.heap.size) : ob b = 0 := by
  rcases Nat.eq_zero_or_pos (ob b) with h1 | h1
  · exact h1
  · have := (h.obl b (by omega)).1
    omega
theorem obN_old {ob : Nat → Nat} {lo hi k b : Nat} (hb : b < lo) : obN ob lo hi k b = ob b := if_neg (by omega)
theorem Inv.stepW (X : ScOk S) (h : Inv S c D M ob oc q cl st sm gs w t) {i : Nat} (hi : i < c) {g g' : Goroutine} {w' : World} {es : Array Event} (sl : Option (Nat × Nat)) (hg : gs[S.j0 + i]? = some g) (hgo : stepG S.E.P false g w = .go g' w' es)
    {d' : WD} {T : Nat → Prop} {st' sm' : Int} (hch : Ch T w w') (hT : ∀ b, T b → ob b = S.j0 + i ∨ b = S.Wg ∨ b = S.An) (hkw : KW S w')
    (hsit : WSit S (S.j0 + i) d' (obN ob w.heap.size w'.heap.size (S.j0 + i)) cl g' w') (hev : ∀ e ∈ es, EvK S (obN ob w.heap.size w'.heap.size (S.j0 + i)) oc (S.j0 + i) w'.heap.size e)
    (hdeaf : deafBehind (D i).deaf es = d'.deaf) (hrel : d'.stage ≤ 6 → ∃ r, RelBy (stA S.Wg) (t ++ MemOp.ofEvents (S.j0 + i) g.frame.fn g.frame.place es) (S.j0 + i) r)
    (hgrp : WgAt S.ty S.Wg w' st' sm') (hmode : ∀ kd', (kd' = M.kind ∨ (M.kind = 4 ∧ kd' = 5)) → (mayWake S.E.P g = true → g'.status ≠ .blocked → g'.status ≠ .waiting → kd' ≠ 4) → Mode c (upd D i d') kd' M.r st' sm')
    (hpay : ∃ cs, w'.heap[S.An]? = some (.cells cs S.aty) ∧ cs.size = S.m ∧ ∀ p, p < rcOf S M → (∃ v, cs[p]? = some v ∧ S.ans p v) ∨ ∃ i', i' < c ∧ (upd D i d' i').place = p ∧ 19 ≤ (upd D i d' i').stage)
    (hplc : 19 ≤ d'.stage → d'.place < rcOf S M ∧ oc d'.place = S.j0 + i) (hopn : cl = false → 17 ≤ d'.stage) (hnpk : M.kind = 11 → ¬ (d'.stage = 17 ∧ d'.fuel = 0)) (hacc : Acc (Nx S.E) d'.y)
    (hlt : d'.stage < (D i).stage ∨ (d'.stage = (D i).stage ∧ Nx S.E d'.y (D i).y) ∨ (d'.stage = (D i).stage ∧ d'.y = (D i).y ∧ d'.fuel < (D i).fuel)) :
    ∃ m' ops ν, runT S.E.P (crowd gs w sl) (S.j0 + i) = (.next m', ops) ∧ Less (Nx S.E) S.n ν (meas S c D M q) ∧ InvE S ν m' (t ++ ops) := by
  have hj := X.j0
  have hC := X.hC
  have hkne : S.j0 + i ≠ 0 := by omega
  have hk0 : (S.j0 + i == 0) = false := by simp; omega
  have hsz := h.kw.size
  have hTC : ¬ T S.Cn := fun ht => by
    rcases hT _ ht with h1 | h1 | h1
    · rw [h.obz hC] at h1; omega
    · exact X.wc h1.symm
    · exact X.ca h1
  obtain ⟨s, r, hcn⟩ := h.chn
  have hcn' := hch.same hcn hTC
  obtain ⟨a, ha, hm⟩ := h.main
  obtain ⟨M', hm', hM', hwk⟩ := hm.woken X g g' hcn' h.clo
  have hrun := runT_crowd_go (P := S.E.P) (sl := sl) (i := S.j0 + i) hg (by rw [hk0]; exact hgo)
  have hgu : ∀ op ∈ MemOp.ofEvents (S.j0 + i) g.frame.fn g.frame.place es, op.g = S.j0 + i := fun op hop => by
    obtain ⟨e, _, rfl⟩ := Go.Conc.mem_ofEvents hop
    rfl
  have hcr : rcOf S M' = rcOf S M := rcOf_woken S hM'
  have hkd : M'.kind = M.kind ∨ (M.kind = 4 ∧ M'.kind = 5) := by
    rcases hM' with rfl | ⟨h1, _, rfl⟩
    · exact .inl rfl
    · exact .inr ⟨h1, rfl⟩
  have hr' : M'.r = M.r := by
    rcases hM' with rfl | ⟨_, _, rfl⟩ <;> rfl
  have hf' : M'.fuel ≤ M.fuel + 1 := by
    rcases hM' with rfl | ⟨_, _, rfl⟩
    · omega
    · simp
  have hne : ∀ k, k ≠ S.j0 + i → ∀ x, gs[k]? = some x → ((gs.map (Go.Conc.woken S.E.P g g' w')).setIfInBounds (S.j0 + i) g')[k]? = some (Go.Conc.woken S.E.P g g' w' x) := fun k hk x hx => by
    rw [get_map_set _ _ _ _ (fun e => hk e.symm), hx]
    rfl
  have hOwn : ∀ k l, S.Own ob oc k l → S.Own (obN ob w.heap.size w'.heap.size (S.j0 + i)) oc k l := by
    rintro k l ⟨hk, ⟨a, rfl, ⟨h1, h2⟩ | ⟨h1, h2⟩⟩ | ⟨b, rfl, h2⟩⟩
    · exact ⟨hk, .inl ⟨a, rfl, .inl ⟨h1, by rw [obN_old (h.obl _ (by rw [h2]; exact hk)).2]; exact h2⟩⟩⟩
    · exact ⟨hk, .inl ⟨a, rfl, .inr ⟨h1, h2⟩⟩⟩
    · exact ⟨hk, .inr ⟨b, rfl, by rw [obN_old (h.obl _ (by rw [h2]; exact hk)).2]; exact h2⟩⟩
  have hobl : ∀ b, obN ob w.heap.size w'.heap.size (S.j0 + i) b ≠ 0 → S.w0.heap.size ≤ b ∧ b < w'.heap.size := fun b hb => by
    have := hch.size
    unfold obN at hb
    split at hb
    · omega
    · have := h.obl b hb
      omega
  have hapt := Sc.apt (S := S) (ob := obN ob w.heap.size w'.heap.size (S.j0 + i)) (oc := oc) X.hW X.wa fun b hb => (hobl b hb).1
  have htr : Tr S.Sh S.Shun S.Rd (S.Own (obN ob w.heap.size w'.heap.size (S.j0 + i)) oc) S.s0 S.j0 (S.j0 + c) w'.heap.size (t ++ MemOp.ofEvents (S.j0 + i) g.frame.fn g.frame.place es) := by
    have h1 : Tr S.Sh S.Shun S.Rd (S.Own (obN ob w.heap.size w'.heap.size (S.j0 + i)) oc) S.s0 S.j0 (S.j0 + c) w'.heap.size t := by
      refine (h.tr.give hOwn fun k l hl => ?_).more hch.size
      obtain ⟨hk, ⟨a, rfl, ⟨h1, h2⟩ | ⟨h1, h2⟩⟩ | ⟨b, rfl, h2⟩⟩ := hl
      · by_cases hb : w.heap.size ≤ a.block ∧ a.block < w'.heap.size
        · exact .inr (untouched h.tr.seen (by show ¬ a.block < w.heap.size; omega))
        · rw [obN, if_neg hb] at h2
          exact .inl ⟨hk, .inl ⟨a, rfl, .inl ⟨h1, h2⟩⟩⟩
      · exact .inl ⟨hk, .inl ⟨a, rfl, .inr ⟨h1, h2⟩⟩⟩
      · by_cases hb : w.heap.size ≤ b ∧ b < w'.heap.size
        · exact .inr (untouched h.tr.seen (by show ¬ b < w.heap.size; omega))
        · rw [obN, if_neg hb] at h2
          exact .inl ⟨hk, .inr ⟨b, rfl, h2⟩⟩
    refine h1.appW hapt (k := S.j0 + i) (by omega) (by omega) hgu (fun op hop => ?_) fun op hop a ha hma => ?_
    · obtain ⟨e, he, rfl⟩ := Go.Conc.mem_ofEvents hop
      exact (hev e he).2.1
    · obtain ⟨e, he, rfl⟩ := Go.Conc.mem_ofEvents hop
      exact (hev e he).1 a ha hma
  refine ⟨_, _, meas S c (upd D i d') M' q, hrun, ?_, c, upd D i d', M', obN ob w.heap.size w'.heap.size (S.j0 + i), oc, q, cl, st', sm', _, w', sl, rfl, ⟨?_, ?_, ?_, ?_, ?_, ?_, ?_, hkw, htr, hobl, ?_, ?_, ?_, ?_, hgrp, ?_, ⟨s, r, hcn'⟩, ?_, ?_, ?_, ?_, ?_, ?_⟩, rfl⟩
  ·
    have e1 := sumTo_upd D d' cntW hi
    have e2 := sumTo_upd D d' WD.stage hi
    have e3 := sumTo_upd D d' WD.fuel hi
    have hcn := hm.range.2.2.1
    have hph : ∀ v, phi S v M' = phi S v M := fun v => phi_woken S v hM'
    unfold Less meas
    simp only [hph, hcr, Vc, Ssum, Fsum]
    rcases hlt with hl | ⟨hl, hy⟩ | ⟨hl, hy, hf⟩
    · left
      have hc1 := cntW_le (Nat.le_of_lt hl)
      have := phi_mono S (v' := sumTo c fun a => cntW (upd D i d' a)) (v := sumTo c fun a => cntW (D a)) (by omega) M
      omega
    · have hc1 : cntW d' = cntW (D i) := by simp only [cntW, hl]
      right
      have ev : (sumTo c fun a => cntW (upd D i d' a)) = sumTo c fun a => cntW (D a) := by omega
      refine ⟨by rw [ev]; omega, .inl ⟨i, by omega, by show Nx S.E (upd D i d' i).y (D i).y; rw [upd_same]; exact hy, fun j hj => by show (upd D i d' j).y = (D j).y; rw [upd_ne D d' hj]⟩⟩
    · have hc1 : cntW d' = cntW (D i) := by simp only [cntW, hl]
      right
      have ev : (sumTo c fun a => cntW (upd D i d' a)) = sumTo c fun a => cntW (D a) := by omega
      refine ⟨by rw [ev]; omega, .inr ⟨?_, by omega⟩⟩
      funext j
      show (upd D i d' j).y = (D j).y
      by_cases hji : j = i
      · subst hji; rw [upd_same]; exact hy
      · rw [upd_ne D d' hji]
  · simp [h.size]
  · exact ⟨_, hne 0 (by omega) a ha, hm'⟩
  · intro k hk0 hk
    obtain ⟨x, hx, hq⟩ := h.old k hk0 hk
    refine ⟨_, hne k (by omega) x hx, ?_⟩
    rw [woken_quitsD hq, Deaf_other t (g' := S.j0 + i) (by omega) _ hgu]
    exact hq
  · intro i' hi'
    by_cases hii : i' = i
    · subst hii
      rw [upd_same]
      exact ⟨g', get_map_set_same _ _ _ (by rw [h.size]; omega), hsit⟩
    · obtain ⟨x, hx, hs⟩ := h.wk i' hi'
      rw [upd_ne D d' hii]
      refine ⟨_, hne _ (by omega) x hx, ?_⟩
      rw [hs.woken X g g' hcn']
      refine hs.other hch (fun b hb he => ?_) (fun b hb ht => ?_) fun b hb he => by rw [obN_old hb]; exact he
      · rcases hT b hb with h1 | h1 | h1
        · omega
        · rw [h1, h.obz X.hW] at he; omega
        · rw [h1, h.obz X.hA] at he; omega
      · obtain ⟨h2, h3, _, h4⟩ := X.rdlo b hb
        rcases hT b ht with h1 | h1 | h1
        · rw [h.obz h2] at h1; omega
        · exact h3 h1
        · exact h4 h1
  · rw [Deaf_other t (g' := S.j0 + i) (by omega) _ hgu, h.deaf0]
    rcases hkd with h1 | ⟨h1, h2⟩
    · rw [h1]
    · rw [h1, h2]; rfl
  · intro i' hi'
    by_cases hii : i' = i
    · subst hii
      rw [upd_same, Deaf_own, h.deafW i' hi']
      exact hdeaf
    · rw [upd_ne D d' hii, Deaf_other t (g' := S.j0 + i) (by omega) _ hgu]
      exact h.deafW i' hi'
  · intro k hk
    rw [Deaf_other t (g' := S.j0 + i) (by omega) _ hgu]
    exact h.deafN k hk
  · intro p hp
    exact h.ocl p (by rw [← hcr]; exact hp)
  · intro op hop b hb p hp ad had hoff
    rcases Array.mem_append.1 hop with hop | hop
    · exact h.oct op hop b hb p (by rw [← hcr]; exact hp) ad had hoff
    · intro e
      obtain ⟨ev, he, rfl⟩ := Go.Conc.mem_ofEvents hop
      rcases (hev ev he).1 b hb (by rw [e]; rfl) with ⟨⟨a1, h1, h2⟩, _⟩ | ⟨⟨hk, ⟨a1, h1, ⟨h2, _⟩ | ⟨_, h2⟩⟩ | ⟨b1, h1, _⟩⟩, _⟩ | ⟨⟨a1, h1, _, _, h2, _⟩, _⟩
      · rw [e] at h1; cases h1
        exact X.wa (h2.symm.trans had)
      · rw [e] at h1; cases h1
        exact h2 had
      · rw [e] at h1; cases h1
        rw [hoff, h.ocl p (by rw [← hcr]; exact hp)] at h2
        omega
      · rw [e] at h1; cases h1
      · rw [e] at h1; cases h1
        exact h2 had
  · intro i' hi' hs
    by_cases hii : i' = i
    · subst hii
      rw [upd_same] at hs
      exact hrel hs
    · rw [upd_ne D d' hii] at hs
      obtain ⟨r, hr⟩ := h.rel i' hi' hs
      exact ⟨r, RelBy.appOther hr hgu (by omega)⟩
  · refine NoRelease.app h.nor fun op hop hm => ?_
    obtain ⟨e, he, rfl⟩ := Go.Conc.mem_ofEvents hop
    have h2 := (hev e he).2.2
    obtain ⟨loc, wr, sy⟩ := e
    cases loc with
    | mark m =>
      simp only [MemAct.ofEvent, MemAct.mark.injEq] at hm
      exact h2 (by rw [hm])
    | obj c => cases wr <;> cases sy <;> simp [MemAct.ofEvent] at hm
    | _ => simp [MemAct.ofEvent] at hm
  · rw [hr']
    exact hmode M'.kind hkd hwk
  · rw [h.clo]
    rcases hkd with h1 | ⟨h1, h2⟩ <;> omega
  · intro hcl i' hi'
    by_cases hii : i' = i
    · subst hii
      rw [upd_same]
      exact hopn hcl
    · rw [upd_ne D d' hii]
      exact h.opn hcl i' hi'
  · rw [hcr]
    exact hpay
  · intro i' hi'
    rw [hcr]
    by_cases hii : i' = i
    · subst hii
      rw [upd_same]
      exact hplc
    · rw [upd_ne D d' hii]
      exact h.plc i' hi'
  · intro hk i' hi'
    have hk : M.kind = 11 := by omega
    by_cases hii : i' = i
    · subst hii
      rw [upd_same]
      exact hnpk hk
    · rw [upd_ne D d' hii]
      exact h.npk hk i' hi'
  · intro i'
    by_cases hii : i' = i
    · subst hii
      rw [upd_same]
      exact hacc
    · rw [upd_ne D d' hii]
      exact h.acc i'
end
def EvM (S : Sc) (B : Nat) (e : Event) : Prop :=
  (∀ a, (MemAct.ofEvent e).touch? = some a → a.loc.isMemory = true → (S.Sh a.loc ∧ a.kind ≠ .plain) ∨ (S.Rd a.loc ∧ a.write = false) ∨ (a.loc = .obj S.Cn ∧ a.kind ≠ .plain)) ∧ (MemAct.ofEvent e).low B ∧ e.loc ≠ .mark (.release (stA S.Wg))
section
variable {S : Sc} {c : Nat} {D : Nat → WD} {M : MD} {ob oc q : Nat → Nat} {cl : Bool} {st sm : Int} {gs : Array Goroutine} {w : World} {t : Trace}
theorem norel_app (h : NoRelease (stA S.Wg) t) {g : Nat} {fn : FuncId} {pos : String} {es : Array Event} (he : ∀ e ∈ es, e.loc ≠ .mark (.release (stA S.Wg))) : NoRelease (stA S.Wg) (t ++ MemOp.ofEvents g fn pos es) := by
  refine NoRelease.app h fun op hop hm => ?_
  obtain ⟨e, he', rfl⟩ := Go.Conc.mem_ofEvents hop
  have h2 := he e he'
  obtain ⟨loc, wr, sy⟩ := e
  cases loc with
  | mark m =>
    simp only [MemAct.ofEvent, MemAct.mark.injEq] at hm
    exact h2 (by rw [hm])
  | obj c => cases wr <;> cases sy <;> simp [MemAct.ofEvent] at hm
  | _ => simp [MemAct.ofEvent] at hm
theorem oct_app (X : ScOk S) {n : Nat} (h : ∀ op ∈ t, ∀ a, op.act.touch? = some a → ∀ p, n ≤ p → ∀ ad : Addr, ad.block = S.An → ad.off = p → a.loc ≠ .cell ad) {g B : Nat} {fn : FuncId} {pos : String} {es : Array Event} (hev : ∀ e ∈ es, EvM S B e) :
    ∀ op ∈ t ++ MemOp.ofEvents g fn pos es, ∀ a, op.act.touch? = some a → ∀ p, n ≤ p → ∀ ad : Addr, ad.block = S.An → ad.off = p → a.loc ≠ .cell ad := by
  intro op hop b hb p hp ad had hoff
  rcases Array.mem_append.1 hop with hop | hop
  · exact h op hop b hb p hp ad had hoff
  · intro e
    obtain ⟨ev, he, rfl⟩ := Go.Conc.mem_ofEvents hop
    rcases (hev ev he).1 b hb (by rw [e]; rfl) with ⟨⟨a1, h1, h2⟩, _⟩ | ⟨⟨a1, h1, _, _, h2, _⟩, _⟩ | ⟨h1, _⟩
    · rw [e] at h1; cases h1
      exact X.wa (h2.symm.trans had)
    · rw [e] at h1; cases h1
      exact h2 had
    · rw [e] at h1; cases h1
theorem tr_app0 (X : ScOk S) (h : Inv S c D M ob oc q cl st sm gs w t) {w' : World} (hsz : w'.heap.size = w.heap.size) {fn : FuncId} {pos : String} {es : Array Event} (hev : ∀ e ∈ es, EvM S w'.heap.size e) :
    Tr S.Sh S.Shun S.Rd (S.Own ob oc) S.s0 S.j0 (S.j0 + c) w'.heap.size (t ++ MemOp.ofEvents 0 fn pos es) := by
  have hj := X.j0
  rw [hsz] at hev ⊢
  refine h.tr.app0 (Sc.apt X.hW X.wa fun b hb => (h.obl b hb).1) (by omega) (fun op hop => ?_) (fun op hop => ?_) fun op hop a ha hma => ?_
  · obtain ⟨e, _, rfl⟩ := Go.Conc.mem_ofEvents hop
    rfl
  · obtain ⟨e, he, rfl⟩ := Go.Conc.mem_ofEvents hop
    exact (hev e he).2.1
  · obtain ⟨e, he, rfl⟩ := Go.Conc.mem_ofEvents hop
    rcases (hev e he).1 a ha hma with h1 | h1 | ⟨h1, h2⟩
    · exact .inl h1
    · exact .inr (.inl h1)
    · rw [h1]
      refine .inr (.inr ⟨?_, ?_, fun k => ?_, fun _ => h2⟩)
      · rintro ⟨ad, h3, _⟩
        cases h3
      · rintro ⟨ad, h3, _⟩
        cases h3
      · rintro ⟨hk, ⟨ad, h3, _⟩ | ⟨b, h3, h4⟩⟩
        · cases h3
        · cases h3
          rw [h.obz X.hC] at h4
          exact hk h4.symm
theorem other0 (X : ScOk S) (h : Inv S c D M ob oc q cl st sm gs w t) {T : Nat → Prop} {w' : World} (hch : Ch T w w') (hT : ∀ b, T b → b = S.Wg ∨ b = S.Cn) {i : Nat} {g : Goroutine} (hs : WSit S (S.j0 + i) (D i) ob cl g w) : WSit S (S.j0 + i) (D i) ob cl g w' := by
  have hj := X.j0
  refine hs.other hch (fun b hb he => ?_) (fun b hb ht => ?_) fun b _ he => he
  · rcases hT b hb with h1 | h1
    · rw [h1, h.obz X.hW] at he; omega
    · rw [h1, h.obz X.hC] at he; omega
  · obtain ⟨h2, h3, h4, _⟩ := X.rdlo b hb
    rcases hT b ht with h1 | h1
    · exact h3 h1
    · exact h4 h1
theorem Inv.step0 (X : ScOk S) (h : Inv S c D M ob oc q cl st sm gs w t) {a a' : Goroutine} {w' : World} {es : Array Event} (sl : Option (Nat × Nat)) (ha : gs[0]? = some a) (hgo : stepG S.E.P true a w = .go a' w' es)
    {M' : MD} {T : Nat → Prop} {st' sm' : Int} (hch : Ch T w w') (hT : ∀ b, T b → b = S.Wg) (hsz : w'.heap.size = w.heap.size) (hkw : KW S w') (hm' : MSit S M' c a')
    (hev : ∀ e ∈ es, EvM S w'.heap.size e) (hdeaf : deafBehind (mdeaf M.kind) es = mdeaf M'.kind) (hgrp : WgAt S.ty S.Wg w' st' sm') (hmode : Mode c D M'.kind M'.r st' sm') (hrc : rcOf S M' = rcOf S M) (hclo : cl = true ↔ M'.kind ≤ 9) (h11 : M'.kind ≠ 11)
    (hlt : phi S (Vc c D) M' < phi S (Vc c D) M ∨ (phi S (Vc c D) M' = phi S (Vc c D) M ∧ M'.fuel < M.fuel)) :
    ∃ m' ops ν, runT S.E.P (crowd gs w sl) 0 = (.next m', ops) ∧ Less (Nx S.E) S.n ν (meas S c D M q) ∧ InvE S ν m' (t ++ ops) := by
  have hj := X.j0
  have hTC : ¬ T S.Cn := fun ht => X.wc (hT _ ht).symm
  have hTA : ¬ T S.An := fun ht => X.wa (hT _ ht).symm
  obtain ⟨s, r, hcn⟩ := h.chn
  have hcn' := hch.same hcn hTC
  have hrun := runT_crowd_go (P := S.E.P) (sl := sl) (i := 0) ha (show stepG S.E.P (0 == 0) a w = _ from hgo)
  have hgu : ∀ op ∈ MemOp.ofEvents 0 a.frame.fn a.frame.place es, op.g = 0 := fun op hop => by
    obtain ⟨e, _, rfl⟩ := Go.Conc.mem_ofEvents hop
    rfl
  have hne : ∀ k, k ≠ 0 → ∀ x, gs[k]? = some x → ((gs.map (Go.Conc.woken S.E.P a a' w')).setIfInBounds 0 a')[k]? = some (Go.Conc.woken S.E.P a a' w' x) := fun k hk x hx => by
    rw [get_map_set _ _ _ _ (fun e => hk e.symm), hx]
    rfl
  refine ⟨_, _, meas S c D M' q, hrun, ?_, c, D, M', ob, oc, q, cl, st', sm', _, w', sl, rfl, ⟨?_, ?_, ?_, ?_, ?_, ?_, ?_, hkw, tr_app0 X h hsz hev, ?_, ?_, ?_, ?_, ?_, hgrp, hmode, ⟨s, r, hcn'⟩, hclo, h.opn, ?_, ?_, fun e => absurd e h11, h.acc⟩, rfl⟩
  · unfold Less meas
    simp only [hrc]
    rcases hlt with hl | ⟨hl, hf⟩
    · left; omega
    · right
      exact ⟨by omega, .inr ⟨by first | rfl | trivial, by omega⟩⟩
  · simp [h.size]
  · exact ⟨a', get_map_set_same _ _ _ (by rw [h.size]; omega), hm'⟩
  · intro k hk0 hk
    obtain ⟨x, hx, hq⟩ := h.old k hk0 hk
    refine ⟨_, hne k (by omega) x hx, ?_⟩
    rw [woken_quitsD hq, Deaf_other t (g' := 0) (by omega) _ hgu]
    exact hq
  · intro i' hi'
    obtain ⟨x, hx, hs⟩ := h.wk i' hi'
    refine ⟨_, hne _ (by omega) x hx, ?_⟩
    rw [hs.woken X a a' hcn']
    exact other0 X h hch (fun b hb => .inl (hT b hb)) hs
  · rw [Deaf_own, h.deaf0]
    exact hdeaf
  · intro i' hi'
    rw [Deaf_other t (g' := 0) (by omega) _ hgu]
    exact h.deafW i' hi'
  · intro k hk
    rw [Deaf_other t (g' := 0) (by omega) _ hgu]
    exact h.deafN k hk
  · rw [hsz]; exact h.obl
  · rw [hrc]; exact h.ocl
  · rw [hrc]; exact oct_app X h.oct hev
  · intro i' hi' hs
    obtain ⟨r, hr⟩ := h.rel i' hi' hs
    exact ⟨r, RelBy.appOther hr hgu (by omega)⟩
  · exact norel_app h.nor fun e he => (hev e he).2.2
  · rw [hrc]
    obtain ⟨cs, h1, h2⟩ := h.pay
    exact ⟨cs, hch.same h1 hTA, h2⟩
  · rw [hrc]; exact h.plc
theorem WSit.closed {k : Nat} {d : WD} {g : Goroutine} (h : WSit S k d ob cl g w) (hn : ¬ (d.stage = 17 ∧ d.fuel = 0)) (cl' : Bool) : WSit S k d ob cl' g w := by
  rcases h with h | h | h | h | h | h | ⟨h1, h2, h | h | ⟨g0, h3, _⟩⟩ | h
  · exact .inl h
  · exact .inr (.inl h)
  · exact .inr (.inr (.inl h))
  · exact .inr (.inr (.inr (.inl h)))
  · exact .inr (.inr (.inr (.inr (.inl h))))
  · exact .inr (.inr (.inr (.inr (.inr (.inl h)))))
  · exact .inr (.inr (.inr (.inr (.inr (.inr (.inl ⟨h1, h2, .inl h⟩))))))
  · exact .inr (.inr (.inr (.inr (.inr (.inr (.inl ⟨h1, h2, .inr (.inl h)⟩))))))
  · exact absurd ⟨h1, h3⟩ hn
  · exact .inr (.inr (.inr (.inr (.inr (.inr (.inr h))))))
theorem WSit.parks {k : Nat} {d : WD} {g : Goroutine} (h : WSit S k d ob cl g w) (hs : d.stage = 17) (hf : d.fuel = 0) : d.deaf = 0 ∧ cl = false ∧ ∃ g0, S.AR g0 ∧ g = parked g0 #[rcase S.Cn S.z] (.recv true) := by
  rcases h with h | h | h | h | h | h | ⟨h1, h2, ⟨f, h3, _⟩ | ⟨g0, o, h3, _⟩ | ⟨g0, h3, h4, h5⟩⟩ | h | h | h | h | h | h | h
  all_goals first | (have := h.1; omega) | omega | exact ⟨h2, h4, g0, h5⟩
def unpark (d : WD) : WD := if d.stage = 17 ∧ d.fuel = 0 then { d with fuel := 1 } else d
theorem unpark_stage (d : WD) : (unpark d).stage = d.stage := by unfold unpark; split <;> rfl
theorem unpark_deaf (d : WD) : (unpark d).deaf = d.deaf := by unfold unpark; split <;> rfl
theorem unpark_place (d : WD) : (unpark d).place = d.place := by unfold unpark; split <;> rfl
theorem unpark_y (d : WD) : (unpark d).y = d.y := by unfold unpark; split <;> rfl
theorem chan_other {w : World} {c b cap s r : Nat} {buf : Array Value} {cl tm : Bool} (h : b ≠ c) : (w.setChan c cap buf cl s r tm).heap[b]? = w.heap[b]? := by
  simp only [World.setChan]
  exact Array.getElem?_setIfInBounds_ne fun e => h e.symm
theorem chan_same {w : World} {c cap s r : Nat} {buf : Array Value} {cl tm : Bool} (h : c < w.heap.size) : (w.setChan c cap buf cl s r tm).heap[c]? = some (.chan cap buf cl s r tm) := by
  simp [World.setChan, h]
theorem Ch.setChan {w : World} {c cap s r : Nat} {buf : Array Value} {cl tm : Bool} : Ch (· = c) w (w.setChan c cap buf cl s r tm) :=
  ⟨by simp [World.setChan], fun b _ hn => chan_other hn, rfl, rfl, rfl⟩
theorem KW.setChan (X : ScOk S) (h : KW S w) (d s r : Nat) (cl' : Bool) : KW S ((w.at d).setChan S.Cn 0 #[] cl' s r false) := by
  have hs := h.size
  have hC := X.hC
  obtain ⟨st, sm, h2⟩ := h.grp
  obtain ⟨cs, h3, h4⟩ := h.pay
  have e : ∀ b, b ≠ S.Cn → ((w.at d).setChan S.Cn 0 #[] cl' s r false).heap[b]? = w.heap[b]? := fun b hb => chan_other hb
  exact ⟨fun b hb n1 n2 n3 => (e b n2).trans (h.low b hb n1 n2 n3), ⟨st, sm, (e _ X.wc).trans h2⟩, ⟨cs, (e _ fun x => X.ca x.symm).trans h3, h4⟩, ⟨cl', s, r, chan_same (by show S.Cn < w.heap.size; omega)⟩, h.os, h.out, h.tape, by
    show _ ≤ ((w.at d).setChan S.Cn 0 #[] cl' s r false).heap.size
    simp only [World.setChan, Array.size_setIfInBounds]
    exact hs⟩
theorem Inv.close (X : ScOk S) (h : Inv S c D M ob oc q cl st sm gs w t) {a a' : Goroutine} {s r : Nat} (sl : Option (Nat × Nat)) (ha : gs[0]? = some a) (hk : M.kind = 10) (hmw : mayWake S.E.P a = true) (hst : a'.status = .running)
    (hcn : w.heap[S.Cn]? = some (.chan 0 #[] false s r false)) (hgo : stepG S.E.P true a w = .go a' (w.setChan S.Cn 0 #[] true s r false) #[⟨.obj S.Cn, false, true⟩, ⟨.obj S.Cn, true, true⟩]) {n : Nat} (hn : WkM S (AtKd S) n a') :
    ∃ m' ops ν, runT S.E.P (crowd gs w sl) 0 = (.next m', ops) ∧ Less (Nx S.E) S.n ν (meas S c D M q) ∧ InvE S ν m' (t ++ ops) := by
  have hj := X.j0
  have hsz : (w.setChan S.Cn 0 #[] true s r false).heap.size = w.heap.size := by simp [World.setChan]
  obtain ⟨a1, ha1, hm⟩ := h.main
  rw [ha] at ha1; cases ha1
  have hcn0 := hm.range.2.2.2.1 (by omega)
  have hcl : cl = false := by
    cases cl with
    | false => rfl
    | true => have := h.clo.1 rfl; omega
  have hrun := runT_crowd_go (P := S.E.P) (sl := sl) (i := 0) ha (show stepG S.E.P (0 == 0) a w = _ from hgo)
  generalize hw' : w.setChan S.Cn 0 #[] true s r false = w' at *
  have hch : Ch (· = S.Cn) w w' := by rw [← hw']; exact Ch.setChan
  have hcn' : w'.heap[S.Cn]? = some (.chan 0 #[] true s r false) := by rw [← hw']; exact chan_same (heap_lt hcn)
  have hkw : KW S w' := by rw [← hw']; exact KW.setChan (d := w.drawn) X h.kw ..
  have hev : ∀ e ∈ (#[⟨.obj S.Cn, false, true⟩, ⟨.obj S.Cn, true, true⟩] : Array Event), EvM S w'.heap.size e := fun e he => by
    simp only [List.mem_toArray, List.mem_cons, List.not_mem_nil, or_false] at he
    rcases he with rfl | rfl
    · refine ⟨fun a ha _ => ?_, by show S.Cn < w'.heap.size; have := heap_lt hcn; omega, by simp⟩
      simp only [MemAct.ofEvent, MemAct.touch?, Option.some.injEq] at ha
      subst ha
      exact .inr (.inr ⟨rfl, by simp⟩)
    · exact ⟨fun a ha => by simp [MemAct.ofEvent, MemAct.touch?] at ha, by show S.Cn < w'.heap.size; have := heap_lt hcn; omega, by simp⟩
  have hgu : ∀ op ∈ MemOp.ofEvents 0 a.frame.fn a.frame.place #[⟨.obj S.Cn, false, true⟩, ⟨.obj S.Cn, true, true⟩], op.g = 0 := fun op hop => by
    obtain ⟨e, _, rfl⟩ := Go.Conc.mem_ofEvents hop
    rfl
  have hne : ∀ k, k ≠ 0 → ∀ x, gs[k]? = some x → ((gs.map (Go.Conc.woken S.E.P a a' w')).setIfInBounds 0 a')[k]? = some (Go.Conc.woken S.E.P a a' w' x) := fun k hk x hx => by
    rw [get_map_set _ _ _ _ (fun e => hk e.symm), hx]
    rfl
  have hrc : rcOf S ⟨9, 0, n⟩ = rcOf S M := by simp [rcOf, hk]
  have hVc : Vc c (fun i => unpark (D i)) = Vc c D := by
    refine sumTo_congr fun i _ => ?_
    simp only [cntW, unpark_stage]
  refine ⟨_, _, meas S c (fun i => unpark (D i)) ⟨9, 0, n⟩ q, hrun, ?_, c, fun i => unpark (D i), ⟨9, 0, n⟩, ob, oc, q, true, st, sm, _, w', sl, rfl, ⟨?_, ?_, ?_, ?_, ?_, ?_, ?_, hkw, tr_app0 X h hsz hev, ?_, ?_, ?_, ?_, ?_, ?_, ?_, ⟨s, r, hcn'⟩, ⟨fun _ => by simp, fun _ => rfl⟩, fun e => (by cases e), ?_, ?_, fun e => (by cases e), fun i => (by rw [unpark_y]; exact h.acc i)⟩, rfl⟩
  · unfold Less meas
    left
    simp only [hrc, hVc]
    have : Ssum c (fun i => unpark (D i)) = Ssum c D := sumTo_congr fun i _ => by rw [unpark_stage]
    rw [this]
    simp [phi, hk]
  · simp [h.size]
  · exact ⟨a', get_map_set_same _ _ _ (by rw [h.size]; omega), .inr (.inr (.inr (.inr (.inr (.inr (.inr (.inl ⟨rfl, hcn0, hn⟩)))))))⟩
  · intro k hk0 hk
    obtain ⟨x, hx, hq⟩ := h.old k hk0 hk
    refine ⟨_, hne k (by omega) x hx, ?_⟩
    rw [woken_quitsD hq, Deaf_other t (g' := 0) (by omega) _ hgu]
    exact hq
  · intro i' hi'
    obtain ⟨x, hx, hs⟩ := h.wk i' hi'
    refine ⟨_, hne _ (by omega) x hx, ?_⟩
    have hs' := other0 X h hch (fun b hb => .inr hb) hs
    by_cases hp : (D i').stage = 17 ∧ (D i').fuel = 0
    · obtain ⟨h1, _, g0, h3, rfl⟩ := hs.parks hp.1 hp.2
      have e : Go.Conc.woken S.E.P a a' w' (parked g0 #[rcase S.Cn S.z] (.recv true)) = { g0 with offers := some (#[rcase S.Cn S.z], .recv true) } := by
        have hst0 := (X.ar g0 h3).1
        unfold Go.Conc.woken
        rw [if_pos (by simp [hmw, hst])]
        obtain ⟨fr, cs, st, dy, of⟩ := g0
        simp only at hst0
        subst hst0
        simp [Goroutine.again, parked, rcase, hcn']
      rw [e]
      have hu : unpark (D i') = { D i' with fuel := 1 } := if_pos hp
      rw [hu]
      exact .inr (.inr (.inr (.inr (.inr (.inr (.inl ⟨hp.1, h1, .inr (.inl ⟨g0, _, rfl, h3, rfl⟩)⟩))))))
    · have hu : unpark (D i') = D i' := if_neg hp
      have e : Go.Conc.woken S.E.P a a' w' x = x := by
        unfold Go.Conc.woken
        split
        · rcases hs.status X with h1 | ⟨h1, _⟩ | ⟨h1, h2, _⟩
          · exact again_running _ (.inl h1)
          · exact again_running _ (.inr h1)
          · exact absurd ⟨h1, h2⟩ hp
        · rfl
      rw [hu, e]
      exact hs'.closed hp true
  · rw [Deaf_own, h.deaf0, hk]
    rfl
  · intro i' hi'
    rw [Deaf_other t (g' := 0) (by omega) _ hgu, unpark_deaf]
    exact h.deafW i' hi'
  · intro k hk
    rw [Deaf_other t (g' := 0) (by omega) _ hgu]
    exact h.deafN k hk
  · rw [hsz]; exact h.obl
  · rw [hrc]; exact h.ocl
  · rw [hrc]; exact oct_app X h.oct hev
  · intro i' hi' hs
    rw [unpark_stage] at hs
    obtain ⟨r, hr⟩ := h.rel i' hi' hs
    exact ⟨r, RelBy.appOther hr hgu (by omega)⟩
  · exact norel_app h.nor fun e he => (hev e he).2.2
  · exact hch.same h.grp X.wc
  · rcases h.mode with ⟨_, h2, h3, h4, _⟩ | ⟨h1, _⟩ | ⟨h1, _⟩ | ⟨h1, _⟩ | ⟨h1, _⟩
    · refine .inl ⟨by simp, fun i hi => by rw [unpark_stage]; exact h2 i hi, ?_, h4, fun e => by cases e⟩
      rw [hVc, h3, hk]
      rfl
    all_goals omega
  · rw [hrc]
    obtain ⟨cs, h1, h2, h3⟩ := h.pay
    refine ⟨cs, hch.same h1 fun e => X.ca e.symm, h2, fun p hp => ?_⟩
    rcases h3 p hp with h4 | ⟨i, h4, h5, h6⟩
    · exact .inl h4
    · exact .inr ⟨i, h4, by rw [unpark_place]; exact h5, by rw [unpark_stage]; exact h6⟩
  · rw [hrc]
    intro i hi hs
    rw [unpark_stage] at hs
    rw [unpark_place]
    exact h.plc i hi hs
end
end Go.Proofs.YtaablbmgagiajabGreatDoor.Ren
namespace Go.Proofs.YtaablbmgagiajabGreatDoor.Ren
open Go Go.Conc
open Go.ConcR (KK WgAt stA smA rd wr mk)
open Go.ConcN (RelBy sumTo upd upd_same upd_ne sumTo_upd sumTo_congr sumTo_upd_out)
section
variable {S : Sc} {c : Nat} {D : Nat → WD} {M : MD} {ob oc q : Nat → Nat} {cl : Bool} {st sm : Int} {gs : Array Goroutine} {w : World} {t : Trace}
theorem snd_sit {l : Nat} {a : Goroutine} (h : Snd S l a) (hl : l ≤ S.m) : ∃ M', MSit S M' S.n a ∧ rcOf S M' = S.m - l ∧ (∀ v, phi S v M' = 8 * S.n + 8 + 2 * l) ∧ (M'.kind = 10 ∨ M'.kind = 12) := by
  cases l with
  | zero =>
    obtain ⟨n, hn⟩ := h
    exact ⟨⟨10, 0, n⟩, .inr (.inr (.inr (.inr (.inr (.inr (.inl ⟨rfl, rfl, hn⟩)))))), by simp [rcOf], fun v => by simp [phi], .inl rfl⟩
  | succ l =>
    obtain ⟨n, hn⟩ := h
    exact ⟨⟨12, l, n + 1⟩, .inr (.inr (.inr (.inr (.inl ⟨rfl, rfl, by simp; omega, n, rfl, hn⟩)))), by simp [rcOf], fun v => by simp [phi], .inr rfl⟩
theorem spw_sit {r : Nat} {a : Goroutine} (h : Spw S r a) (hr : r ≤ S.n) : ∃ M', MSit S M' (S.n - r) a ∧ rcOf S M' = 0 ∧ (∀ v, phi S v M' + 17 < 8 * S.n + 12 + 2 * S.m + 30 * r + 21) ∧ (M'.kind = 10 ∨ M'.kind = 12 ∨ M'.kind = 16) := by
  cases r with
  | zero =>
    obtain ⟨M', h1, h2, h3, h4⟩ := snd_sit h (Nat.le_refl _)
    exact ⟨M', h1, by omega, fun v => by rw [h3]; omega, by omega⟩
  | succ r =>
    obtain ⟨n, hn⟩ := h
    exact ⟨⟨16, r, n⟩, .inl ⟨rfl, by simp; omega, rfl, hn⟩, by simp [rcOf], fun v => by simp [phi]; omega, .inr (.inr rfl)⟩
theorem Inv.spawn (X : ScOk S) (h : Inv S c D M ob oc q cl st sm gs w t) {a a' x : Goroutine} (sl : Option (Nat × Nat)) (ha : gs[0]? = some a) (hk : M.kind = 13) (hm : MSit S M c a) (hgo : stepG S.E.P true a w = .spawn a' x w #[]) {n : Nat} (hx : WkW S S.AR n x) (hnx : Spw S M.r a') :
    ∃ m' ops ν, runT S.E.P (crowd gs w sl) 0 = (.next m', ops) ∧ Less (Nx S.E) S.n ν (meas S c D M q) ∧ InvE S ν m' (t ++ ops) := by
  have hj := X.j0
  obtain ⟨_, _, hc1, _, _, hc2⟩ := hm.range
  obtain ⟨hrn, hcr⟩ := hc2 (by omega)
  obtain ⟨M', hm', hrc', hphi, hkd⟩ := spw_sit hnx (Nat.le_of_lt hrn)
  rw [show S.n - M.r = c + 1 by omega] at hm'
  have hrun := runT_crowd_spawn (P := S.E.P) (sl := sl) (i := 0) ha (show stepG S.E.P (0 == 0) a w = _ from hgo)
  have hlt : 0 < gs.size := by rw [h.size]; omega
  have hrc : rcOf S M = 0 := by simp [rcOf, hk]
  have hops : ((MemOp.ofEvents 0 a.frame.fn a.frame.place #[]).push { g := 0, fn := a.frame.fn, pos := a.frame.place, act := .go gs.size }).push { g := gs.size, fn := x.frame.fn, pos := a.frame.place, act := .start } = #[{ g := 0, fn := a.frame.fn, pos := a.frame.place, act := .go gs.size }, { g := gs.size, fn := x.frame.fn, pos := a.frame.place, act := .start }] := rfl
  rw [hops] at hrun
  have hstill : ∀ k, Deaf (t ++ #[({ g := 0, fn := a.frame.fn, pos := a.frame.place, act := .go gs.size } : MemOp), { g := gs.size, fn := x.frame.fn, pos := a.frame.place, act := .start }]) k = Deaf t k := fun k => Go.ConcN.Deaf_still t k _ fun op hop => by
    simp only [List.mem_toArray, List.mem_cons, List.not_mem_nil, or_false] at hop
    rcases hop with rfl | rfl <;> simp
  have hget : ∀ k, k ≠ 0 → k < gs.size → ((gs.setIfInBounds 0 a').push x)[k]? = gs[k]? := fun k hk hl => by
    rw [Array.getElem?_push_lt (by simpa using hl)]
    rw [Array.getElem_setIfInBounds (by simpa using hl), if_neg (by omega), Array.getElem?_eq_getElem hl]
  have hcnew : ∀ i, i < c + 1 → i = c ∨ i < c := fun i hi => by omega
  refine ⟨_, _, meas S (c + 1) (upd D c ⟨17, n + 1, 0, 0, ([], #[])⟩) M' q, hrun, ?_, c + 1, upd D c ⟨17, n + 1, 0, 0, ([], #[])⟩, M', ob, oc, q, cl, st, sm, _, w, sl, rfl, ⟨?_, ?_, ?_, ?_, ?_, ?_, ?_, h.kw, ?_, h.obl, ?_, ?_, ?_, ?_, h.grp, ?_, h.chn, ?_, ?_, ?_, ?_, ?_, ?_⟩, rfl⟩
  · unfold Less meas
    left
    have e2 : Ssum (c + 1) (upd D c ⟨17, n + 1, 0, 0, ([], #[])⟩) = Ssum c D + 17 := by
      unfold Ssum
      rw [sumTo, upd_same, sumTo_upd_out D _ WD.stage (Nat.le_refl c)]
    simp only [hrc, hrc', e2]
    have := hphi (Vc (c + 1) (upd D c ⟨17, n + 1, 0, 0, ([], #[])⟩))
    have e3 : phi S (Vc c D) M = 8 * S.n + 12 + 2 * S.m + 30 * M.r + 21 := by simp [phi, hk]
    omega
  · simp [h.size]; omega
  · refine ⟨a', ?_, hm'⟩
    rw [Array.getElem?_push_lt (by simpa using hlt)]
    simp
  · intro k hk0 hkj
    obtain ⟨y, hy, hq⟩ := h.old k hk0 hkj
    refine ⟨y, by rw [hget k (by omega) (by rw [h.size]; omega)]; exact hy, ?_⟩
    rw [hstill]
    exact hq
  · intro i hi
    rcases hcnew i hi with rfl | hi
    · rw [upd_same]
      refine ⟨x, ?_, .inr (.inr (.inr (.inr (.inr (.inr (.inl ⟨rfl, rfl, .inl ⟨n, rfl, hx⟩⟩))))))⟩
      rw [← h.size]
      have : (gs.setIfInBounds 0 a').size = gs.size := by simp
      rw [← this, Array.getElem?_push_size]
    · obtain ⟨y, hy, hs⟩ := h.wk i hi
      rw [upd_ne D _ (by omega)]
      exact ⟨y, by rw [hget _ (by omega) (by rw [h.size]; omega)]; exact hy, hs⟩
  · rw [hstill, h.deaf0, hk]
    rcases hkd with e | e | e <;> rw [e] <;> rfl
  · intro i hi
    rw [hstill]
    rcases hcnew i hi with rfl | hi
    · rw [upd_same]
      exact h.deafN _ (Nat.le_refl _)
    · rw [upd_ne D _ (by omega)]
      exact h.deafW i hi
  · intro k hk
    rw [hstill]
    exact h.deafN k (by omega)
  · have := h.tr.fork (Sc.apt X.hW X.wa fun b hb => (h.obl b hb).1) (x := { g := 0, fn := a.frame.fn, pos := a.frame.place, act := .go gs.size }) (y := { g := gs.size, fn := x.frame.fn, pos := a.frame.place, act := .start }) (by omega) ⟨rfl, by rw [h.size]⟩ ⟨h.size, rfl⟩ (by rw [h.deaf0, hk]; rfl) (h.deafN _ (Nat.le_refl _))
    exact this
  · rw [hrc']
    intro p _
    exact h.ocl p (by rw [hrc]; omega)
  · rw [hrc']
    intro op hop b hb p _ ad h1 h2
    rcases Array.mem_append.1 hop with hop | hop
    · exact h.oct op hop b hb p (by rw [hrc]; omega) ad h1 h2
    · simp only [List.mem_toArray, List.mem_cons, List.not_mem_nil, or_false] at hop
      rcases hop with rfl | rfl <;> simp [MemAct.touch?] at hb
  · intro i hi hs
    rcases hcnew i hi with rfl | hi
    · rw [upd_same] at hs
      simp at hs
    · rw [upd_ne D _ (by omega)] at hs
      obtain ⟨r, hr⟩ := h.rel i hi hs
      refine ⟨r, Go.ConcN.RelBy.appNot hr fun op hop => ?_⟩
      simp only [List.mem_toArray, List.mem_cons, List.not_mem_nil, or_false] at hop
      rcases hop with rfl | rfl
      · show 0 ≠ _
        omega
      · show gs.size ≠ _
        rw [h.size]; omega
  · refine NoRelease.app h.nor fun op hop hm => ?_
    simp only [List.mem_toArray, List.mem_cons, List.not_mem_nil, or_false] at hop
    rcases hop with rfl | rfl <;> cases hm
  · have e1 : Vc (c + 1) (upd D c ⟨17, n + 1, 0, 0, ([], #[])⟩) = Vc c D + 1 := by
      unfold Vc
      rw [sumTo, upd_same, sumTo_upd_out D _ cntW (Nat.le_refl c)]
      rfl
    rcases h.mode with ⟨_, h2, h3, h4, _⟩ | ⟨h1, _⟩ | ⟨h1, _⟩ | ⟨h1, _⟩ | ⟨h1, _⟩
    · refine .inl ⟨by omega, fun i hi => ?_, ?_, h4, fun e => by omega⟩
      · rcases hcnew i hi with rfl | hi
        · rw [upd_same]; exact .inl (by simp)
        · rw [upd_ne D _ (by omega)]; exact h2 i hi
      · have hp : pend M'.kind = 0 := by rcases hkd with e | e | e <;> rw [e] <;> rfl
        rw [e1, hp, h3, hk]
        rfl
    all_goals omega
  · rw [h.clo, hk]
    rcases hkd with e | e | e <;> rw [e] <;> simp
  · intro hcl i hi
    rcases hcnew i hi with rfl | hi
    · rw [upd_same]; simp
    · rw [upd_ne D _ (by omega)]; exact h.opn hcl i hi
  · rw [hrc']
    obtain ⟨cs, h1, h2, _⟩ := h.pay
    exact ⟨cs, h1, h2, fun p hp => by omega⟩
  · intro i hi hs
    rcases hcnew i hi with rfl | hi
    · rw [upd_same] at hs; simp at hs
    · rw [upd_ne D _ (by omega)] at hs ⊢
      have := (h.plc i hi hs).1
      omega
  · intro e
    omega
  · intro i
    by_cases hi : i = c
    · subst hi
      rw [upd_same]
      exact Acc.intro _ fun y hy => absurd rfl hy.1
    · rw [upd_ne D _ hi]
      exact h.acc i
theorem offers_quit {P : Program} {n d : Nat} {g : Goroutine} (h : QuitsD P n d g) (r : Nat) (s : Bool) : offersAt g r s = [] := offersAt_of_not_blocked (by rcases h.status with e | e <;> rw [e] <;> simp) r s
theorem offers_send (X : ScOk S) {k : Nat} {d : WD} {g : Goroutine} (h : WSit S k d ob cl g w) (r : Nat) : offersAt g r true = [] := by
  rcases h.status X with h1 | ⟨h1, _⟩ | ⟨_, _, _, g0, _, rfl⟩
  · exact offersAt_of_not_blocked (by rw [h1]; simp) r true
  · exact offersAt_of_not_blocked (by rw [h1]; simp) r true
  · exact offersAt_parked_recv' ..
theorem offers_recv (X : ScOk S) {k : Nat} {d : WD} {g : Goroutine} (h : WSit S k d ob cl g w) (hn : ¬ (d.stage = 17 ∧ d.fuel = 0)) (r : Nat) : offersAt g r false = [] := by
  rcases h.status X with h1 | ⟨h1, _⟩ | ⟨h1, h2, _⟩
  · exact offersAt_of_not_blocked (by rw [h1]; simp) r false
  · exact offersAt_of_not_blocked (by rw [h1]; simp) r false
  · exact absurd ⟨h1, h2⟩ hn
theorem offers_main {a : Goroutine} (X : ScOk S) (h : MSit S M c a) (hn : M.kind ≠ 11) (r : Nat) (s : Bool) : offersAt a r s = [] := by
  rcases h.status X with h1 | ⟨h1, _⟩ | ⟨_, g, h1, rfl⟩
  · exact offersAt_of_not_blocked (by rw [h1]; simp) r s
  · exact absurd h1 hn
  · have : g.offers = none := h1.2.1
    simp [offersAt, this]
theorem Inv.who (h : Inv S c D M ob oc q cl st sm gs w t) {k : Nat} {x : Goroutine} (hx : gs[k]? = some x) : (k = 0 ∧ MSit S M c x) ∨ (0 < k ∧ k < S.j0 ∧ QuitsD S.E.P (q k) (Deaf t k) x) ∨ ∃ i, i < c ∧ k = S.j0 + i ∧ WSit S (S.j0 + i) (D i) ob cl x w := by
  have hlt := (Array.getElem?_eq_some_iff.1 hx).1
  rw [h.size] at hlt
  rcases Nat.eq_zero_or_pos k with rfl | hpos
  · obtain ⟨a, ha, hm⟩ := h.main
    rw [hx] at ha; cases ha
    exact .inl ⟨rfl, hm⟩
  · rcases Nat.lt_or_ge k S.j0 with hl | hl
    · obtain ⟨g, hg, hq⟩ := h.old k hpos hl
      rw [hx] at hg; cases hg
      exact .inr (.inl ⟨hpos, hl, hq⟩)
    · obtain ⟨g, hg, hs⟩ := h.wk (k - S.j0) (by omega)
      have e : S.j0 + (k - S.j0) = k := by omega
      rw [e, hx] at hg; cases hg
      exact .inr (.inr ⟨k - S.j0, by omega, e.symm, hs⟩)
theorem parked_inj {g g' : Goroutine} {cs cs' : Array CommCase} {sh sh' : CommShape} (h : parked g cs sh = parked g' cs' sh') : g.frame = g'.frame ∧ g.callers = g'.callers ∧ g.dying = g'.dying ∧ cs = cs' ∧ sh = sh' := by
  simp only [parked, Goroutine.mk.injEq, Option.some.injEq, Prod.mk.injEq] at h
  exact ⟨h.1, h.2.1, h.2.2.2.1, h.2.2.2.2.1, h.2.2.2.2.2⟩
end
end Go.Proofs.YtaablbmgagiajabGreatDoor.Ren
namespace Go.Proofs.YtaablbmgagiajabGreatDoor.Ren
open Go Go.Conc
open Go.ConcR (KK WgAt stA smA rd wr mk)
open Go.ConcN (RelBy sumTo upd upd_same upd_ne sumTo_upd sumTo_congr)
section
variable {S : Sc} {c : Nat} {D : Nat → WD} {M : MD} {ob oc q : Nat → Nat} {cl : Bool} {st sm : Int} {gs : Array Goroutine} {w : World} {t : Trace}
theorem Inv.open_ (h : Inv S c D M ob oc q cl st sm gs w t) (hk : 10 ≤ M.kind) : cl = false := by
  cases cl with
  | false => rfl
  | true => have := h.clo.1 rfl; omega
theorem Inv.pass (X : ScOk S) (h : Inv S c D M ob oc q cl st sm gs w t) {i : Nat} (hi : i < c) (hk : M.kind = 12 ∨ M.kind = 11) (hs17 : (D i).stage = 17) {g0 a' : Goroutine} (hg0 : S.AR g0) (hnx : Snd S M.r a')
    {w' : World} {d s r : Nat} (hw' : w' = (w.at d).setChan S.Cn 0 #[] false s r false) {gs' : Array Goroutine} (sl : Option (Nat × Nat)) (hsz : gs'.size = gs.size) (h0 : gs'[0]? = some a') (hgi : gs'[S.j0 + i]? = some (Go.Conc.served g0 (recvd true (S.tv (S.m - (M.r + 1))) true)))
    (hgk : ∀ k, k ≠ 0 → k ≠ S.j0 + i → gs'[k]? = gs[k]?) {u : List MemOp} (hu : ∀ op ∈ u, op.g < S.j0 + c ∧ op.act.low w.heap.size ∧ op.act.touch? = none ∧ ∀ m, op.act ≠ .mark m) :
    ∃ ν, Less (Nx S.E) S.n ν (meas S c D M q) ∧ InvE S ν (crowd gs' w' sl) (t ++ u.toArray) := by
  have hj := X.j0
  obtain ⟨a, ha, hm⟩ := h.main
  have hrm := hm.range.2.2.2.2.1 (by omega) (by omega)
  have hcn0 := hm.range.2.2.2.1 (by omega)
  have hcl := h.open_ (by omega)
  subst hcl
  obtain ⟨M', hm', hrc', hphi, hkd⟩ := snd_sit hnx (Nat.le_of_lt hrm)
  have hrc : rcOf S M = S.m - (M.r + 1) := by
    unfold rcOf
    rw [if_neg (by omega), if_pos (by omega)]
  obtain ⟨n, hn⟩ := (X.ar g0 hg0).2.2.2.1 (S.m - (M.r + 1)) (by omega)
  have hC := X.hC
  have hkwsz := h.kw.size
  have hch : Ch (· = S.Cn) w w' := by
    rw [hw']
    exact ⟨by simp [World.setChan, World.at], fun b _ hb => (chan_other hb).trans rfl, rfl, rfl, rfl⟩
  have hwsz : w'.heap.size = w.heap.size := by rw [hw']; simp [World.setChan, World.at]
  have hcn' : w'.heap[S.Cn]? = some (.chan 0 #[] false s r false) := by rw [hw']; exact chan_same (by show S.Cn < w.heap.size; omega)
  have hstill : ∀ k, Deaf (t ++ u.toArray) k = Deaf t k := fun k => Go.ConcN.Deaf_still t k _ fun op hop => by
    have := (hu op (by simpa using hop)).2.2.2
    exact ⟨this _, this _⟩
  generalize hp : S.m - (M.r + 1) = p at *
  have e1 := sumTo_upd D (⟨24, n, 0, p, ([], #[])⟩ : WD) cntW hi
  have e2 := sumTo_upd D (⟨24, n, 0, p, ([], #[])⟩ : WD) WD.stage hi
  have hc1 : cntW (⟨24, n, 0, p, ([], #[])⟩ : WD) = 1 := rfl
  have hc2 : cntW (D i) = 1 := by simp [cntW, hs17]
  have hVc : Vc c (upd D i ⟨24, n, 0, p, ([], #[])⟩) = Vc c D := by
    unfold Vc
    omega
  have hOwn : ∀ k l, S.Own ob oc k l → S.Own ob (upd oc p (S.j0 + i)) k l := by
    rintro k l ⟨hk, ⟨ad, rfl, ⟨h1, h2⟩ | ⟨h1, h2⟩⟩ | ⟨b, rfl, h2⟩⟩
    · exact ⟨hk, .inl ⟨ad, rfl, .inl ⟨h1, h2⟩⟩⟩
    · refine ⟨hk, .inl ⟨ad, rfl, .inr ⟨h1, ?_⟩⟩⟩
      rw [upd_ne oc _ fun e => ?_]
      · exact h2
      · rw [e, h.ocl p (by omega)] at h2
        omega
    · exact ⟨hk, .inr ⟨b, rfl, h2⟩⟩
  refine ⟨meas S c (upd D i ⟨24, n, 0, p, ([], #[])⟩) M' q, ?_, c, upd D i ⟨24, n, 0, p, ([], #[])⟩, M', ob, upd oc p (S.j0 + i), q, false, st, sm, gs', w', sl, rfl, ⟨?_, ?_, ?_, ?_, ?_, ?_, ?_, ?_, ?_, ?_, ?_, ?_, ?_, ?_, ?_, ?_, ⟨s, r, hcn'⟩, ?_, ?_, ?_, ?_, ?_, ?_⟩, rfl⟩
  · unfold Less meas
    left
    simp only [hrc, hrc', hphi, Ssum]
    have e3 : phi S (Vc c D) M = 8 * S.n + 8 + 2 * (M.r + 1) := by
      unfold phi
      rw [if_neg (by omega), if_pos (by omega)]
    rw [e3]
    have e2 : (sumTo c fun a => (upd D i (⟨24, n, 0, p, ([], #[])⟩ : WD) a).stage) + 17 = (sumTo c fun a => (D a).stage) + 24 := by
      rw [← hs17]; exact e2
    omega
  · rw [hsz]; exact h.size
  · exact ⟨a', h0, by rw [hcn0]; exact hm'⟩
  · intro k hk0 hkj
    obtain ⟨y, hy, hq⟩ := h.old k hk0 hkj
    refine ⟨y, by rw [hgk k (by omega) (by omega)]; exact hy, ?_⟩
    rw [hstill]
    exact hq
  · intro i' hi'
    by_cases hii : i' = i
    · subst hii
      rw [upd_same]
      exact ⟨_, hgi, .inl ⟨rfl, rfl, hn⟩⟩
    · obtain ⟨y, hy, hs⟩ := h.wk i' hi'
      rw [upd_ne D _ hii]
      exact ⟨y, by rw [hgk _ (by omega) (by omega)]; exact hy, other0 X h hch (fun b hb => .inr hb) hs⟩
  · rw [hstill, h.deaf0]
    have e1 : mdeaf M.kind = 0 := by rcases hk with e | e <;> rw [e] <;> rfl
    have e2 : mdeaf M'.kind = 0 := by rcases hkd with e | e <;> rw [e] <;> rfl
    rw [e1, e2]
  · intro i' hi'
    rw [hstill, h.deafW i' hi']
    by_cases hii : i' = i
    · subst hii
      rw [upd_same]
      obtain ⟨y, _, hs⟩ := h.wk i' hi'
      rcases hs with hs | hs | hs | hs | hs | hs | hs | hs | hs | hs | hs | hs | hs | hs
      all_goals first | (have := hs.1; omega) | exact hs.2.1
    · rw [upd_ne D _ hii]
  · intro k hk
    rw [hstill]
    exact h.deafN k hk
  · rw [hw']; exact KW.setChan X h.kw ..
  · rw [hwsz]
    refine Tr.appNs u (h.tr.give hOwn fun k l hl => ?_) fun y hy => ⟨(hu y hy).1, (hu y hy).2.1, (hu y hy).2.2.1⟩
    obtain ⟨hk, ⟨ad, rfl, ⟨h1, h2⟩ | ⟨h1, h2⟩⟩ | ⟨b, rfl, h2⟩⟩ := hl
    · exact .inl ⟨hk, .inl ⟨ad, rfl, .inl ⟨h1, h2⟩⟩⟩
    · by_cases hpp : ad.off = p
      · exact .inr fun op hop a ha => h.oct op hop a ha p (by omega) ad h1 hpp
      · rw [upd_ne oc _ hpp] at h2
        exact .inl ⟨hk, .inl ⟨ad, rfl, .inr ⟨h1, h2⟩⟩⟩
    · exact .inl ⟨hk, .inr ⟨b, rfl, h2⟩⟩
  · rw [hwsz]; exact h.obl
  · intro p' hp'
    rw [upd_ne oc _ (by omega)]
    exact h.ocl p' (by omega)
  · intro op hop b hb p' hp' ad h1 h2
    rcases Array.mem_append.1 hop with hop | hop
    · exact h.oct op hop b hb p' (by omega) ad h1 h2
    · rw [(hu op (by simpa using hop)).2.2.1] at hb
      cases hb
  · intro i' hi' hs
    by_cases hii : i' = i
    · subst hii
      rw [upd_same] at hs
      simp at hs
    · rw [upd_ne D _ hii] at hs
      have := h.opn rfl i' hi'
      omega
  · exact NoRelease.app h.nor fun op hop hm => (hu op (by simpa using hop)).2.2.2 _ hm
  · exact hch.same h.grp X.wc
  · rcases h.mode with ⟨_, h2, h3, h4, _⟩ | ⟨h1, _⟩ | ⟨h1, _⟩ | ⟨h1, _⟩ | ⟨h1, _⟩
    · refine .inl ⟨by omega, fun i' hi' => ?_, ?_, h4, fun e => by omega⟩
      · by_cases hii : i' = i
        · subst hii
          rw [upd_same]; exact .inl (by simp)
        · rw [upd_ne D _ hii]; exact h2 i' hi'
      · have hp1 : pend M.kind = 0 := by rcases hk with e | e <;> rw [e] <;> rfl
        have hp2 : pend M'.kind = 0 := by rcases hkd with e | e <;> rw [e] <;> rfl
        rw [hVc, hp2, h3, hp1]
    all_goals omega
  · constructor
    · intro e; cases e
    · intro e; omega
  · intro _ i' hi'
    by_cases hii : i' = i
    · subst hii
      rw [upd_same]; simp
    · rw [upd_ne D _ hii]; exact h.opn rfl i' hi'
  · obtain ⟨cs, h1, h2, h3⟩ := h.pay
    refine ⟨cs, hch.same h1 fun e => X.ca e.symm, h2, fun p' hp' => ?_⟩
    by_cases hpp : p' = p
    · exact .inr ⟨i, hi, by rw [upd_same]; exact hpp.symm, by rw [upd_same]; simp⟩
    · rcases h3 p' (by omega) with h4 | ⟨i', h4, h5, h6⟩
      · exact .inl h4
      · have hii : i' ≠ i := fun e => by subst e; omega
        exact .inr ⟨i', h4, by rw [upd_ne D _ hii]; exact h5, by rw [upd_ne D _ hii]; exact h6⟩
  · intro i' hi' hs
    by_cases hii : i' = i
    · subst hii
      rw [upd_same]
      exact ⟨by simp; omega, upd_same ..⟩
    · rw [upd_ne D _ hii] at hs ⊢
      have := h.plc i' hi' hs
      refine ⟨by omega, ?_⟩
      rw [upd_ne oc _ (by omega)]
      exact this.2
  · intro e
    omega
  · intro i'
    by_cases hii : i' = i
    · subst hii
      rw [upd_same]
      exact Acc.intro _ fun y hy => absurd rfl hy.1
    · rw [upd_ne D _ hii]
      exact h.acc i'
theorem Inv.send (X : ScOk S) (h : Inv S c D M ob oc q cl st sm gs w t) {a : Goroutine} (sl : Option (Nat × Nat)) (ha : gs[0]? = some a) (hk : M.kind = 12) (hr : M.r < S.m) (hcn : c = S.n) (hf : 0 < M.fuel) (hs : AtSend S (S.m - (M.r + 1)) (Snd S M.r) a) :
    ∃ m' ops ν, runT S.E.P (crowd gs w sl) 0 = (.next m', ops) ∧ Less (Nx S.E) S.n ν (meas S c D M q) ∧ InvE S ν m' (t ++ ops) := by
  have hj := X.j0
  have hcl := h.open_ (by omega)
  subst hcl
  obtain ⟨s, r, hch⟩ := h.chn
  have hgo : stepG S.E.P (0 == 0) a w = _ := hs.2.1 w h.kw
  have hsome : ∀ j k, (j, k) ∈ partners (gs.setIfInBounds 0 ph) S.Cn false → k = 0 ∧ j ≠ 0 ∧ ∃ i, i < c ∧ j = S.j0 + i ∧ ∃ g0, S.AR g0 ∧ gs[j]? = some (parked g0 #[rcase S.Cn S.z] (.recv true)) ∧ (D i).stage = 17 := fun j k hjk => by
    obtain ⟨x, hx, hxk⟩ := mem_partners.1 hjk
    rcases getElem?_stand gs 0 j x hx with ⟨_, rfl⟩ | ⟨hj0, hx⟩
    · rw [offersAt_ph] at hxk; cases hxk
    · rcases h.who hx with ⟨h1, _⟩ | ⟨_, _, h1⟩ | ⟨i, h1, h2, h3⟩
      · exact absurd h1 hj0
      · rw [offers_quit h1] at hxk; cases hxk
      · by_cases hp : (D i).stage = 17 ∧ (D i).fuel = 0
        · obtain ⟨_, _, g0, h6, h7⟩ := h3.parks hp.1 hp.2
          rw [h7, offersAt_parked_recv, if_pos rfl] at hxk
          exact ⟨by simpa using hxk, hj0, i, h1, h2, g0, h6, by rw [hx, h7], hp.1⟩
        · rw [offers_recv X h3 hp] at hxk; cases hxk
  by_cases hne : partners (gs.setIfInBounds 0 ph) S.Cn false = []
  ·
    have hw := crowd_waits (sl := sl) ha hgo (fun cc hcc => by
      simp only [List.mem_toArray, List.mem_cons, List.not_mem_nil, or_false] at hcc
      subst hcc
      exact ways_send_none hch (by simp) hne)
    have hes : MemOp.ofEvents 0 a.frame.fn a.frame.place #[] = #[] := rfl
    rw [hes] at hw
    have hrc : rcOf S ⟨11, M.r, 0⟩ = rcOf S M := by simp [rcOf, hk]
    have hph : ∀ v, phi S v ⟨11, M.r, 0⟩ = phi S v M := fun v => by simp [phi, hk]
    have hlt : 0 < gs.size := by rw [h.size]; omega
    have hget : ∀ k, k ≠ 0 → (gs.setIfInBounds 0 (parked a #[scase S.Cn (S.tv (S.m - (M.r + 1))) S.zs] .send))[k]? = gs[k]? := fun k hk => Array.getElem?_setIfInBounds_ne fun e => hk e.symm
    have hnp : ∀ i, i < c → ¬ ((D i).stage = 17 ∧ (D i).fuel = 0) := fun i hi hp => by
      obtain ⟨x, hx, h3⟩ := h.wk i hi
      obtain ⟨_, _, g0, h6, h7⟩ := h3.parks hp.1 hp.2
      have : (S.j0 + i, 0) ∈ partners (gs.setIfInBounds 0 ph) S.Cn false := mem_partners.2 ⟨x, by rw [Array.getElem?_setIfInBounds_ne (by omega)]; exact hx, by rw [h7, offersAt_parked_recv, if_pos rfl]; simp⟩
      rw [hne] at this; cases this
    refine ⟨_, _, meas S c D ⟨11, M.r, 0⟩ q, hw, ?_, c, D, ⟨11, M.r, 0⟩, ob, oc, q, false, st, sm, _, w, sl, rfl, ⟨?_, ?_, ?_, ?_, ?_, ?_, ?_, h.kw, ?_, h.obl, ?_, ?_, ?_, ?_, h.grp, ?_, h.chn, ?_, h.opn, ?_, ?_, fun _ => hnp, h.acc⟩, rfl⟩
    all_goals (try rw [Array.append_empty])
    · unfold Less meas
      right
      simp only [hrc, hph]
      exact ⟨by first | rfl | trivial, .inr ⟨by first | rfl | trivial, by omega⟩⟩
    · simp [h.size]
    · exact ⟨_, Array.getElem?_setIfInBounds_self_of_lt hlt, .inr (.inr (.inr (.inr (.inr (.inl ⟨rfl, hcn, hr, a, rfl, hs, rfl⟩)))))⟩
    · intro k hk0 hkj
      obtain ⟨y, hy, hq⟩ := h.old k hk0 hkj
      exact ⟨y, by rw [hget k (by omega)]; exact hy, hq⟩
    · intro i hi
      obtain ⟨y, hy, hq⟩ := h.wk i hi
      exact ⟨y, by rw [hget _ (by omega)]; exact hy, hq⟩
    · rw [h.deaf0, hk]; rfl
    · exact h.deafW
    · exact h.deafN
    · exact h.tr
    · rw [hrc]; exact h.ocl
    · rw [hrc]; exact h.oct
    · exact h.rel
    · exact h.nor
    · have := h.mode
      rw [hk] at this
      rcases this with ⟨_, h2, h3, h4, _⟩ | ⟨h1, _⟩ | ⟨h1, _⟩ | ⟨h1, _⟩ | ⟨h1, _⟩
      · exact .inl ⟨by simp, h2, h3, h4, fun e => by cases e⟩
      all_goals omega
    · rw [h.clo, hk]; simp
    · rw [hrc]; exact h.pay
    · rw [hrc]; exact h.plc
  · obtain ⟨j, gj, zj, shj, d, hj0, hgj, hrun⟩ := crowd_send_meets_some (sl := sl) ha hgo hch hne (fun j k hjk => by
      obtain ⟨h1, h2, i, _, _, g0, _, h5, _⟩ := hsome j k hjk
      exact ⟨h1, h2, g0, S.z, _, h5⟩)
    have hjk : (j, 0) ∈ partners (gs.setIfInBounds 0 ph) S.Cn false := mem_partners.2 ⟨_, by rw [Array.getElem?_setIfInBounds_ne (by omega)]; exact hgj, by rw [offersAt_parked_recv, if_pos rfl]; simp⟩
    obtain ⟨_, _, i, hi, hji, g0, hg0, h5, h17⟩ := hsome j 0 hjk
    rw [hgj] at h5
    obtain ⟨f1, f2, f3, f4, f5⟩ := parked_inj (Option.some.inj h5)
    subst hji
    have hz : zj = S.z := by simpa [rcase] using f4
    subst hz
    subst f5
    have hesj : MemOp.ofEvents 0 a.frame.fn a.frame.place #[] = #[] := rfl
    rw [hesj, Array.empty_append, finishComm_send, finishComm_recv] at hrun
    have hlt : 0 < gs.size := by rw [h.size]; omega
    have hlt2 : S.j0 + i < gs.size := by rw [h.size]; omega
    have hes : Go.Conc.served gj (recvd true (S.tv (S.m - (M.r + 1))) true) = Go.Conc.served g0 (recvd true (S.tv (S.m - (M.r + 1))) true) := by
      simp [Go.Conc.served, f1, f2, f3]
    rw [hes] at hrun
    have hCn := heap_lt hch
    obtain ⟨ν, hl, hI⟩ := h.pass X hi (.inl hk) h17 hg0 hs.2.2 (w' := (w.at d).setChan S.Cn 0 #[] false (s + 1) (r + 1) false) rfl (gs' := (gs.setIfInBounds (S.j0 + i) (Go.Conc.served g0 (recvd true (S.tv (S.m - (M.r + 1))) true))).setIfInBounds 0 (Go.Conc.served a undef)) sl (by simp) (by rw [Array.getElem?_setIfInBounds_self_of_lt (by simpa using hlt)])
      (by rw [Array.getElem?_setIfInBounds_ne (by omega), Array.getElem?_setIfInBounds_self_of_lt hlt2]) (fun k h1 h2 => by rw [Array.getElem?_setIfInBounds_ne (by omega), Array.getElem?_setIfInBounds_ne (by omega)])
      (u := [{ g := 0, fn := a.frame.fn, pos := a.frame.place, act := .send S.Cn s }, { g := S.j0 + i, fn := gj.frame.fn, pos := gj.frame.place, act := .recv S.Cn r 0 }, { g := 0, fn := a.frame.fn, pos := a.frame.place, act := .sendDone S.Cn s }, { g := S.j0 + i, fn := gj.frame.fn, pos := gj.frame.place, act := .recvDone S.Cn r }])
      (fun op hop => by
        simp only [List.mem_cons, List.not_mem_nil, or_false] at hop
        rcases hop with rfl | rfl | rfl | rfl <;> exact ⟨by simp; omega, hCn, rfl, fun m => by simp⟩)
    exact ⟨_, _, ν, hrun, hl, hI⟩
end
section
variable {S : Sc} {c : Nat} {D : Nat → WD} {M : MD} {ob oc q : Nat → Nat} {cl : Bool} {st sm : Int} {gs : Array Goroutine} {w : World} {t : Trace}
theorem Inv.still (X : ScOk S) (h : Inv S c D M ob oc q cl st sm gs w t) {i : Nat} (hi : i < c) {g' : Goroutine} {d' : WD} (sl : Option (Nat × Nat)) (hsit : WSit S (S.j0 + i) d' ob cl g' w) (hst : 16 ≤ d'.stage) (h18 : d'.stage ≤ 17) (h17 : (D i).stage = 17) (hdf : d'.deaf = (D i).deaf) (hy : d'.y = (D i).y)
    (hopn : cl = false → d'.stage = 17) (hnpk : M.kind = 11 → ¬ (d'.stage = 17 ∧ d'.fuel = 0)) (hlt : d'.stage < 17 ∨ (d'.stage = 17 ∧ d'.fuel < (D i).fuel)) {u : List MemOp} (hu : ∀ op ∈ u, op.g = S.j0 + i ∧ op.act.low w.heap.size ∧ op.act.touch? = none ∧ ∀ m, op.act ≠ .mark m) :
    ∃ ν, Less (Nx S.E) S.n ν (meas S c D M q) ∧ InvE S ν (crowd (gs.setIfInBounds (S.j0 + i) g') w sl) (t ++ u.toArray) := by
  have hj := X.j0
  have hlt2 : S.j0 + i < gs.size := by rw [h.size]; omega
  have hget : ∀ k, k ≠ S.j0 + i → (gs.setIfInBounds (S.j0 + i) g')[k]? = gs[k]? := fun k hk => Array.getElem?_setIfInBounds_ne fun e => hk e.symm
  have hstill : ∀ k, Deaf (t ++ u.toArray) k = Deaf t k := fun k => Go.ConcN.Deaf_still t k _ fun op hop => by
    have := (hu op (by simpa using hop)).2.2.2
    exact ⟨this _, this _⟩
  have e1 := sumTo_upd D d' cntW hi
  have e2 := sumTo_upd D d' WD.stage hi
  have e3 := sumTo_upd D d' WD.fuel hi
  have hc1 : cntW d' = 1 := by unfold cntW; rw [if_pos (by omega)]
  have hc2 : cntW (D i) = 1 := by unfold cntW; rw [if_pos (by omega)]
  have hVc : Vc c (upd D i d') = Vc c D := by
    unfold Vc
    omega
  obtain ⟨a, ha, hm⟩ := h.main
  have hcn := hm.range.2.2.1
  refine ⟨meas S c (upd D i d') M q, ?_, c, upd D i d', M, ob, oc, q, cl, st, sm, _, w, sl, rfl, ⟨?_, ?_, ?_, ?_, ?_, ?_, ?_, h.kw, ?_, h.obl, h.ocl, ?_, ?_, ?_, h.grp, ?_, h.chn, h.clo, ?_, ?_, ?_, ?_, ?_⟩, rfl⟩
  · unfold Less meas
    simp only [hVc, Ssum, Fsum]
    rcases hlt with hl | ⟨hl, hf⟩
    · left; omega
    · right
      refine ⟨by omega, .inr ⟨?_, by omega⟩⟩
      funext j
      show (upd D i d' j).y = (D j).y
      by_cases hji : j = i
      · subst hji; rw [upd_same]; exact hy
      · rw [upd_ne D d' hji]
  · simp [h.size]
  · exact ⟨a, by rw [hget 0 (by omega)]; exact ha, hm⟩
  · intro k hk0 hkj
    obtain ⟨y, hy, hq⟩ := h.old k hk0 hkj
    refine ⟨y, by rw [hget k (by omega)]; exact hy, ?_⟩
    rw [hstill]
    exact hq
  · intro i' hi'
    by_cases hii : i' = i
    · subst hii
      rw [upd_same]
      exact ⟨_, Array.getElem?_setIfInBounds_self_of_lt hlt2, hsit⟩
    · obtain ⟨y, hy, hs⟩ := h.wk i' hi'
      rw [upd_ne D _ hii]
      exact ⟨y, by rw [hget _ (by omega)]; exact hy, hs⟩
  · rw [hstill]; exact h.deaf0
  · intro i' hi'
    rw [hstill, h.deafW i' hi']
    by_cases hii : i' = i
    · subst hii
      rw [upd_same, hdf]
    · rw [upd_ne D _ hii]
  · intro k hk
    rw [hstill]
    exact h.deafN k hk
  · exact Tr.appNs u h.tr fun y hy => ⟨by rw [(hu y hy).1]; omega, (hu y hy).2.1, (hu y hy).2.2.1⟩
  · intro op hop b hb p' hp' ad h1 h2
    rcases Array.mem_append.1 hop with hop | hop
    · exact h.oct op hop b hb p' hp' ad h1 h2
    · rw [(hu op (by simpa using hop)).2.2.1] at hb
      cases hb
  · intro i' hi' hs
    by_cases hii : i' = i
    · subst hii
      rw [upd_same] at hs
      omega
    · rw [upd_ne D _ hii] at hs
      obtain ⟨r, hr⟩ := h.rel i' hi' hs
      exact ⟨r, Go.ConcN.RelBy.appNot hr fun op hop => by rw [(hu op (by simpa using hop)).1]; omega⟩
  · exact NoRelease.app h.nor fun op hop hm => (hu op (by simpa using hop)).2.2.2 _ hm
  · have hop : OpSt c D → OpSt c (upd D i d') := fun ho i' hi' => by
      by_cases hii : i' = i
      · subst hii
        rw [upd_same]; exact .inl (by omega)
      · rw [upd_ne D _ hii]; exact ho i' hi'
    rcases h.mode with ⟨h1, h2, h3, h4, h5⟩ | ⟨h1, h2, h3, h4⟩ | ⟨h1, _, L, h2, h3, h4⟩ | ⟨h1, h2, _⟩ | ⟨h1, h2, _⟩
    · exact .inl ⟨h1, hop h2, by rw [hVc]; exact h3, h4, fun e => by rw [hVc]; exact h5 e⟩
    · exact .inr (.inl ⟨h1, hop h2, by rw [hVc]; exact h3, by rw [hVc]; exact h4⟩)
    · by_cases hL : i = L
      · subst hL; omega
      · have := h3 i hi hL
        omega
    · have := h2 i hi
      omega
    · have := h2 i hi
      omega
  · intro hcl i' hi'
    by_cases hii : i' = i
    · subst hii
      rw [upd_same, hopn hcl]; exact Nat.le_refl _
    · rw [upd_ne D _ hii]; exact h.opn hcl i' hi'
  · obtain ⟨cs, h1, h2, h3⟩ := h.pay
    refine ⟨cs, h1, h2, fun p' hp' => ?_⟩
    rcases h3 p' hp' with h4 | ⟨i', h4, h5, h6⟩
    · exact .inl h4
    · have hii : i' ≠ i := fun e => by subst e; omega
      exact .inr ⟨i', h4, by rw [upd_ne D _ hii]; exact h5, by rw [upd_ne D _ hii]; exact h6⟩
  · intro i' hi' hs
    by_cases hii : i' = i
    · subst hii
      rw [upd_same] at hs
      omega
    · rw [upd_ne D _ hii] at hs ⊢
      exact h.plc i' hi' hs
  · intro hk i' hi'
    by_cases hii : i' = i
    · subst hii
      rw [upd_same]
      exact hnpk hk
    · rw [upd_ne D d' hii]
      exact h.npk hk i' hi'
  · intro i'
    by_cases hii : i' = i
    · subst hii
      rw [upd_same, hy]
      exact h.acc i'
    · rw [upd_ne D _ hii]
      exact h.acc i'
theorem Inv.recv (X : ScOk S) (h : Inv S c D M ob oc q cl st sm gs w t) {i : Nat} (hi : i < c) {x g0 : Goroutine} (sl : Option (Nat × Nat)) (hx : gs[S.j0 + i]? = some x) (hxs : stepG S.E.P false x w = .comm g0 #[rcase S.Cn S.z] true (.recv true) w #[]) (hg0 : S.AR g0) (h17 : (D i).stage = 17) (hf : 0 < (D i).fuel) (hdf : (D i).deaf = 0) :
    ∃ m' ops ν, runT S.E.P (crowd gs w sl) (S.j0 + i) = (.next m', ops) ∧ Less (Nx S.E) S.n ν (meas S c D M q) ∧ InvE S ν m' (t ++ ops) := by
  have hj := X.j0
  have hk0 : (S.j0 + i == 0) = false := by simp; omega
  have hgo : stepG S.E.P (S.j0 + i == 0) x w = .comm g0 #[rcase S.Cn S.z] true (.recv true) w #[] := by rw [hk0]; exact hxs
  obtain ⟨s, r, hch⟩ := h.chn
  obtain ⟨a, ha, hm⟩ := h.main
  have hes : MemOp.ofEvents (S.j0 + i) x.frame.fn x.frame.place #[] = #[] := rfl
  have hCn := heap_lt hch
  have hnone : M.kind ≠ 11 → partners (gs.setIfInBounds (S.j0 + i) ph) S.Cn true = [] := fun hk => partners_nil fun j y hy => by
    rcases getElem?_stand gs (S.j0 + i) j y hy with ⟨_, rfl⟩ | ⟨_, hy⟩
    · rfl
    · rcases h.who hy with ⟨_, h1⟩ | ⟨_, _, h1⟩ | ⟨i', _, _, h3⟩
      · exact offers_main X h1 hk _ _
      · exact offers_quit h1 _ _
      · exact offers_send X h3 _
  cases cl with
  | true =>
    have hk : M.kind ≠ 11 := by have := h.clo.1 rfl; omega
    have hrun := crowd_recv_closed (sl := sl) hx hgo hch (hnone hk)
    rw [hes, Array.empty_append, finishComm_recv] at hrun
    obtain ⟨n, hn⟩ := (X.ar g0 hg0).2.2.2.2
    obtain ⟨ν, hl, hI⟩ := h.still X hi (d' := ⟨16, n, 0, 0, (D i).y⟩) sl (.inr (.inr (.inr (.inr (.inr (.inr (.inr (.inl ⟨rfl, rfl, hn⟩)))))))) (by simp) (by simp) h17 hdf.symm rfl (fun e => by cases e) (fun e => absurd e hk) (.inl (by simp))
      (u := [{ g := S.j0 + i, fn := g0.frame.fn, pos := g0.frame.place, act := .recvClosed S.Cn }]) (fun op hop => by
        simp only [List.mem_cons, List.not_mem_nil, or_false] at hop
        subst hop
        exact ⟨rfl, hCn, rfl, fun m => by simp⟩)
    exact ⟨_, _, ν, hrun, hl, hI⟩
  | false =>
    by_cases hk : M.kind = 11
    ·
      rcases hm.status X with h1 | ⟨_, gm, hs, hpk⟩ | ⟨h1, _⟩
      · exfalso
        rcases hm with hm | hm | hm | hm | hm | hm | hm | hm | hm | hm | hm | hm | hm | hm | hm | hm
        all_goals first | omega | skip
        obtain ⟨_, _, _, g, _, _, rfl⟩ := hm
        cases h1
      · rw [hpk] at ha
        have hsome : ∀ j k, (j, k) ∈ partners (gs.setIfInBounds (S.j0 + i) ph) S.Cn true → k = 0 ∧ j = 0 := fun j k hjk => by
          obtain ⟨y, hy, hyk⟩ := mem_partners.1 hjk
          rcases getElem?_stand gs (S.j0 + i) j y hy with ⟨_, rfl⟩ | ⟨_, hy⟩
          · cases hyk
          · rcases h.who hy with ⟨h1, _⟩ | ⟨_, _, h1⟩ | ⟨i', _, _, h3⟩
            · subst h1
              rw [ha] at hy
              cases hy
              rw [offersAt_parked_send, if_pos rfl] at hyk
              exact ⟨by simpa using hyk, rfl⟩
            · rw [offers_quit h1] at hyk; cases hyk
            · rw [offers_send X h3] at hyk; cases hyk
        have hne : partners (gs.setIfInBounds (S.j0 + i) ph) S.Cn true ≠ [] := fun e => by
          have : (0, 0) ∈ partners (gs.setIfInBounds (S.j0 + i) ph) S.Cn true := mem_partners.2 ⟨_, by rw [Array.getElem?_setIfInBounds_ne (by omega)]; exact ha, by rw [offersAt_parked_send, if_pos rfl]; simp⟩
          rw [e] at this; cases this
        obtain ⟨j, gj, vj, zj, shj, d, hji, hgj, hrun⟩ := crowd_recv_meets_some (sl := sl) hx hgo hch hne (fun j k hjk => by
          obtain ⟨h1, h2⟩ := hsome j k hjk
          subst h2
          exact ⟨h1, by omega, gm, _, S.zs, _, ha⟩)
        have hjk : (j, 0) ∈ partners (gs.setIfInBounds (S.j0 + i) ph) S.Cn true := mem_partners.2 ⟨_, by rw [Array.getElem?_setIfInBounds_ne (by omega)]; exact hgj, by rw [offersAt_parked_send, if_pos rfl]; simp⟩
        obtain ⟨_, hj0⟩ := hsome j 0 hjk
        subst hj0
        rw [ha] at hgj
        obtain ⟨f1, f2, f3, f4, f5⟩ := parked_inj (Option.some.inj hgj)
        have hv : S.tv (S.m - (M.r + 1)) = vj ∧ S.zs = zj := by simpa [scase] using f4
        obtain ⟨hv1, hv2⟩ := hv
        subst hv1
        subst hv2
        subst f5
        rw [hes, Array.empty_append, finishComm_send, finishComm_recv] at hrun
        have hsv : Go.Conc.served gj undef = Go.Conc.served gm undef := by simp [Go.Conc.served, f1, f2, f3]
        rw [hsv] at hrun
        have hlt : 0 < gs.size := by rw [h.size]; omega
        have hlt2 : S.j0 + i < gs.size := by rw [h.size]; omega
        obtain ⟨ν, hl, hI⟩ := h.pass X hi (.inr hk) h17 hg0 hs.2.2 (w' := (w.at d).setChan S.Cn 0 #[] false (s + 1) (r + 1) false) rfl (gs' := (gs.setIfInBounds 0 (Go.Conc.served gm undef)).setIfInBounds (S.j0 + i) (Go.Conc.served g0 (recvd true (S.tv (S.m - (M.r + 1))) true))) sl (by simp) (by rw [Array.getElem?_setIfInBounds_ne (by omega), Array.getElem?_setIfInBounds_self_of_lt hlt])
          (by rw [Array.getElem?_setIfInBounds_self_of_lt (by simpa using hlt2)]) (fun k h1 h2 => by rw [Array.getElem?_setIfInBounds_ne (by omega), Array.getElem?_setIfInBounds_ne (by omega)])
          (u := [{ g := 0, fn := gj.frame.fn, pos := gj.frame.place, act := .send S.Cn s }, { g := S.j0 + i, fn := g0.frame.fn, pos := g0.frame.place, act := .recv S.Cn r 0 }, { g := 0, fn := gj.frame.fn, pos := gj.frame.place, act := .sendDone S.Cn s }, { g := S.j0 + i, fn := g0.frame.fn, pos := g0.frame.place, act := .recvDone S.Cn r }])
          (fun op hop => by
            simp only [List.mem_cons, List.not_mem_nil, or_false] at hop
            rcases hop with rfl | rfl | rfl | rfl <;> exact ⟨by simp; omega, hCn, rfl, fun m => by simp⟩)
        exact ⟨_, _, ν, hrun, hl, hI⟩
      · omega
    · have hw := crowd_waits (sl := sl) hx hgo (fun cc hcc => by
        simp only [List.mem_toArray, List.mem_cons, List.not_mem_nil, or_false] at hcc
        subst hcc
        exact ways_recv_none hch (hnone hk))
      rw [hes] at hw
      obtain ⟨ν, hl, hI⟩ := h.still X hi (d' := ⟨17, 0, 0, 0, (D i).y⟩) sl (g' := parked g0 #[rcase S.Cn S.z] (.recv true)) (.inr (.inr (.inr (.inr (.inr (.inr (.inl ⟨rfl, rfl, .inr (.inr ⟨g0, rfl, rfl, hg0, rfl⟩)⟩))))))) (by simp) (by simp) h17 hdf.symm rfl (fun _ => rfl) (fun e => absurd e hk) (.inr ⟨rfl, hf⟩)
        (u := []) (fun op hop => by cases hop)
      exact ⟨_, _, ν, hw, hl, hI⟩
end
theorem obN_same (ob : Nat → Nat) (n k : Nat) : obN ob n n k = ob := by
  funext b
  exact if_neg (by omega)
theorem Mode.wake {c : Nat} {D : Nat → WD} {r : Nat} {st sm : Int} (h : Mode c D 4 r st sm) : Mode c D 5 r st sm := by
  rcases h with ⟨h1, _⟩ | ⟨_, h⟩ | ⟨_, h⟩ | ⟨h1, _⟩ | ⟨h1, _⟩
  · omega
  · exact .inr (.inl ⟨.inl rfl, h⟩)
  · exact .inr (.inr (.inl ⟨.inl rfl, h⟩))
  · omega
  · omega
theorem Mode.keep {c : Nat} {D : Nat → WD} {kd r : Nat} {st sm : Int} (h : Mode c D kd r st sm) {i : Nat} (hi : i < c) {d' : WD} (hd : (5 ≤ (D i).stage ∧ 5 ≤ d'.stage) ∨ d'.stage = (D i).stage) : Mode c (upd D i d') kd r st sm := by
  have e1 := sumTo_upd D d' cntW hi
  have hc1 : cntW d' = cntW (D i) := by
    unfold cntW
    rcases hd with ⟨h1, h2⟩ | h1
    · rw [if_pos h1, if_pos h2]
    · rw [h1]
  have hVc : Vc c (upd D i d') = Vc c D := by
    unfold Vc
    omega
  have hop : OpSt c D → OpSt c (upd D i d') := fun ho i' hi' => by
    by_cases hii : i' = i
    · subst hii
      rw [upd_same]
      have := ho i' hi'
      omega
    · rw [upd_ne D _ hii]; exact ho i' hi'
  have hst : ∀ i', ¬ 5 ≤ (D i).stage → (upd D i d' i').stage = (D i').stage := fun i' hn => by
    by_cases hii : i' = i
    · subst hii
      rw [upd_same]
      omega
    · rw [upd_ne D _ hii]
  rcases h with ⟨h1, h2, h3, h4, h5⟩ | ⟨h1, h2, h3, h4⟩ | ⟨h1, h5, L, h2, h3, h4⟩ | ⟨h1, h2, h3⟩ | ⟨h1, h2, h3⟩
  · exact .inl ⟨h1, hop h2, by rw [hVc]; exact h3, h4, fun e => by rw [hVc]; exact h5 e⟩
  · exact .inr (.inl ⟨h1, hop h2, by rw [hVc]; exact h3, by rw [hVc]; exact h4⟩)
  · have hn : ¬ 5 ≤ (D i).stage := fun h6 => by
      by_cases hL : i = L
      · subst hL; omega
      · have := h3 i hi hL
        omega
    exact .inr (.inr (.inl ⟨h1, h5, L, h2, fun i' q1 q2 => by rw [hst i' hn]; exact h3 i' q1 q2, by rw [hst L hn]; exact h4⟩))
  · have hn : ¬ 5 ≤ (D i).stage := fun h6 => by have := h2 i hi; omega
    exact .inr (.inr (.inr (.inl ⟨h1, fun i' q1 => by rw [hst i' hn]; exact h2 i' q1, h3⟩)))
  · have hn : ¬ 5 ≤ (D i).stage := fun h6 => by have := h2 i hi; omega
    exact .inr (.inr (.inr (.inr ⟨h1, fun i' q1 => by rw [hst i' hn]; exact h2 i' q1, h3⟩)))
section
variable {S : Sc} {c : Nat} {D : Nat → WD} {M : MD} {ob oc q : Nat → Nat} {cl : Bool} {st sm : Int} {gs : Array Goroutine} {w : World} {t : Trace}
theorem Inv.stepP (X : ScOk S) (h : Inv S c D M ob oc q cl st sm gs w t) {i : Nat} (hi : i < c) {g g' : Goroutine} {w' : World} {es : Array Event} (sl : Option (Nat × Nat)) (hg : gs[S.j0 + i]? = some g) (hgo : stepG S.E.P false g w = .go g' w' es)
    {d' : WD} {T : Nat → Prop} (hch : Ch T w w') (hT : ∀ b, T b → ob b = S.j0 + i)
    (hsit : WSit S (S.j0 + i) d' (obN ob w.heap.size w'.heap.size (S.j0 + i)) cl g' w') (hev : ∀ e ∈ es, EvK S (obN ob w.heap.size w'.heap.size (S.j0 + i)) oc (S.j0 + i) w'.heap.size e)
    (hdeaf : deafBehind (D i).deaf es = d'.deaf) (hrel : d'.stage ≤ 6 → ∃ r, RelBy (stA S.Wg) (t ++ MemOp.ofEvents (S.j0 + i) g.frame.fn g.frame.place es) (S.j0 + i) r)
    (hst : (5 ≤ (D i).stage ∧ 5 ≤ d'.stage) ∨ d'.stage = (D i).stage) (hpl : 19 ≤ (D i).stage → 19 ≤ d'.stage ∧ d'.place = (D i).place) (hpl' : 19 ≤ d'.stage → 19 ≤ (D i).stage) (hopn : cl = false → 17 ≤ d'.stage) (hnpk : M.kind = 11 → ¬ (d'.stage = 17 ∧ d'.fuel = 0)) (hacc : Acc (Nx S.E) d'.y)
    (hlt : d'.stage < (D i).stage ∨ (d'.stage = (D i).stage ∧ Nx S.E d'.y (D i).y) ∨ (d'.stage = (D i).stage ∧ d'.y = (D i).y ∧ d'.fuel < (D i).fuel)) :
    ∃ m' ops ν, runT S.E.P (crowd gs w sl) (S.j0 + i) = (.next m', ops) ∧ Less (Nx S.E) S.n ν (meas S c D M q) ∧ InvE S ν m' (t ++ ops) := by
  have hj := X.j0
  have hTl : ∀ b, T b → S.w0.heap.size ≤ b := fun b hb => (h.obl b (by rw [hT b hb]; omega)).1
  have hW := X.hW
  have hA := X.hA
  refine h.stepW X hi sl hg hgo hch (fun b hb => .inl (hT b hb)) (h.kw.ch hch hTl X.hW X.hC X.hA) hsit hev hdeaf hrel (hch.same h.grp fun ht => ?_) (fun kd' hk _ => ?_) ?_ (fun h19 => ?_) hopn hnpk hacc hlt
  · have := hTl _ ht
    omega
  · rcases hk with rfl | ⟨h4, rfl⟩
    · exact h.mode.keep hi hst
    · have hm := h.mode
      rw [h4] at hm
      exact hm.wake.keep hi hst
  · obtain ⟨cs, h1, h2, h3⟩ := h.pay
    refine ⟨cs, hch.same h1 fun ht => ?_, h2, fun p' hp' => ?_⟩
    · have := hTl _ ht
      omega
    · rcases h3 p' hp' with h4 | ⟨i', h4, h5, h6⟩
      · exact .inl h4
      · by_cases hii : i' = i
        · subst hii
          obtain ⟨k1, k2⟩ := hpl h6
          exact .inr ⟨i', h4, by rw [upd_same, k2]; exact h5, by rw [upd_same]; exact k1⟩
        · exact .inr ⟨i', h4, by rw [upd_ne D _ hii]; exact h5, by rw [upd_ne D _ hii]; exact h6⟩
  · have h1 := hpl' h19
    rw [(hpl h1).2]
    exact h.plc i hi h1
theorem evk_rd (_ : ScOk S) {ob' : Nat → Nat} {k B : Nat} {e : Event} (hB : S.w0.heap.size ≤ B) (he : RdE S e) : EvK S ob' oc k B e := by
  obtain ⟨a, h1, rfl⟩ := he
  refine ⟨fun x hx _ => ?_, ?_, by simp⟩
  · simp only [MemAct.ofEvent, MemAct.touch?, Option.some.injEq] at hx
    subst hx
    exact .inr (.inr ⟨h1, rfl, rfl⟩)
  · obtain ⟨a', h2, h3, _⟩ := h1
    cases h2
    show a.block < B
    omega
theorem evk_cell (X : ScOk S) {ob' : Nat → Nat} {k B : Nat} {a : Addr} {wr : Bool} (hk : k ≠ 0) (hB : a.block < B) (ho : ob' a.block = k) (hl : S.w0.heap.size ≤ a.block) : EvK S ob' oc k B ⟨.cell a, wr, false⟩ := by
  have hA := X.hA
  refine ⟨fun x hx _ => ?_, hB, by simp⟩
  simp only [MemAct.ofEvent, MemAct.touch?, Option.some.injEq] at hx
  subst hx
  exact .inr (.inl ⟨⟨hk, .inl ⟨a, rfl, .inl ⟨by omega, ho⟩⟩⟩, rfl⟩)
theorem evk_ses (X : ScOk S) {ob' : Nat → Nat} {f : Nat → Nat} {k B n : Nat} {e : Event} (hk : k ≠ 0) (hB : S.w0.heap.size ≤ B) (hf : ∀ b, S.E.I n b → ob' (f b) = k ∧ S.w0.heap.size ≤ f b ∧ f b < B) (he : EvOk S.E f n e) : EvK S ob' oc k B e := by
  have hA := X.hA
  rcases he with ⟨m, rfl, hm⟩ | ⟨b, hb, hs, hl⟩ | ⟨a, ha, rfl⟩ | hl
  · cases m with
    | extern _ => exact ⟨fun x hx => by simp [MemAct.ofEvent, MemAct.touch?] at hx, trivial, by simp⟩
    | noRoom => exact ⟨fun x hx => by simp [MemAct.ofEvent, MemAct.touch?] at hx, trivial, by simp⟩
    | _ => exact hm.elim
  · obtain ⟨h1, h2, h3⟩ := hf b hb
    obtain ⟨loc, wr, sy⟩ := e
    simp only at hs hl
    subst hs
    rcases hl with rfl | ⟨a, ha, rfl⟩
    · refine ⟨fun x hx _ => ?_, ?_, by simp⟩
      · cases wr <;>
        · simp only [MemAct.ofEvent, MemAct.touch?, Option.some.injEq] at hx
          subst hx
          exact .inr (.inl ⟨⟨hk, .inr ⟨f b, rfl, h1⟩⟩, rfl⟩)
      · cases wr <;> exact h3
    · exact evk_cell X hk (by omega) (by rw [ha]; exact h1) (by omega)
  · obtain ⟨h1, h2, _, h3⟩ := X.rdlo a.block (.inl ha)
    exact evk_rd X hB ⟨a, ⟨a, rfl, h1, h2, h3, X.rdshun a ha⟩, rfl⟩
  · obtain ⟨loc, wr, sy⟩ := e
    simp only at hl
    subst hl
    refine ⟨fun x hx hm => ?_, trivial, by simp⟩
    simp only [MemAct.ofEvent, MemAct.touch?, Option.some.injEq] at hx
    subst hx
    cases hm
theorem quiet_rd {e : Event} (h : RdE S e) : e.loc ≠ .mark .disable ∧ e.loc ≠ .mark .enable := by
  obtain ⟨a, _, rfl⟩ := h
  simp
theorem quiet_q {q : Nat} {e : Event} (h : RdQ S q e) : e.loc ≠ .mark .disable ∧ e.loc ≠ .mark .enable := by
  rcases h with h | ⟨a, _, rfl⟩
  · exact quiet_rd h
  · simp
theorem quiet_ses {E : Env} {f : Nat → Nat} {n : Nat} {e : Event} (he : EvOk E f n e) : e.loc ≠ .mark .disable ∧ e.loc ≠ .mark .enable := by
  rcases he with ⟨m, rfl, hm⟩ | ⟨b, hb, hs, hl⟩ | ⟨a, ha, rfl⟩ | hl
  · cases m <;> first | exact hm.elim | simp
  · rcases hl with hl | ⟨a, _, hl⟩ <;> rw [hl] <;> simp
  · simp
  · rw [hl]; simp
theorem Inv.silentW (X : ScOk S) (h : Inv S c D M ob oc q cl st sm gs w t) {i : Nat} (hi : i < c) {g g' : Goroutine} {es : Array Event} {n : Nat} (sl : Option (Nat × Nat)) (hg : gs[S.j0 + i]? = some g) (hgo : stepG S.E.P false g w = .go g' w es)
    (hev : ∀ e ∈ es, EvK S ob oc (S.j0 + i) w.heap.size e) (hq : ∀ e ∈ es, e.loc ≠ .mark .disable ∧ e.loc ≠ .mark .enable) (hrel : (D i).stage ≤ 6 → es = #[]) (hn : n < (D i).fuel) (h0 : (D i).stage = 17 → n ≠ 0) (hsit : WSit S (S.j0 + i) { D i with fuel := n } ob cl g' w) :
    ∃ m' ops ν, runT S.E.P (crowd gs w sl) (S.j0 + i) = (.next m', ops) ∧ Less (Nx S.E) S.n ν (meas S c D M q) ∧ InvE S ν m' (t ++ ops) := by
  refine h.stepP X hi sl hg hgo (d' := { D i with fuel := n }) (T := fun _ => False) (Ch.refl _ w) (fun b hb => hb.elim) (by rw [obN_same]; exact hsit) (by rw [obN_same]; exact hev) (deafBehind_still hq _) (fun hs => ?_) (.inr rfl) (fun h19 => ⟨h19, rfl⟩) (fun h19 => h19) (fun hcl => h.opn hcl i hi) (fun hk hp => ?_) (h.acc i) (.inr (.inr ⟨rfl, rfl, hn⟩))
  · rw [hrel hs]
    obtain ⟨r, hr⟩ := h.rel i hi hs
    exact ⟨r, by simpa [MemOp.ofEvents] using hr⟩
  · exact h0 hp.1 hp.2
theorem wk_cases {P : Program} {main : Bool} {K : World → Prop} {Ok : Event → Prop} {Stop : Goroutine → Prop} {n : Nat} {g : Goroutine} (h : Wk P main K Ok Stop n g) : Stop g ∨ ∃ n' g' es, n = n' + 1 ∧ (∀ w, K w → stepG P main g w = .go g' w es) ∧ (∀ e ∈ es, Ok e) ∧ Wk P main K Ok Stop n' g' := by
  cases n with
  | zero => exact .inl h
  | succ n =>
    rcases h with h | ⟨_, g', es, h1, h2, h3⟩
    · exact .inl h
    · exact .inr ⟨n, g', es, rfl, h1, h2, h3⟩
end
section
variable {S : Sc} {c : Nat} {D : Nat → WD} {M : MD} {ob oc q : Nat → Nat} {cl : Bool} {st sm : Int} {gs : Array Goroutine} {w : World} {t : Trace}
theorem stepG_offers (P : Program) (main : Bool) (g : Goroutine) (o : Option (Array CommCase × CommShape)) (w : World) : stepG P main { g with offers := o } w = stepG P main g w := by
  cases g
  rfl
theorem evk_q (X : ScOk S) (h : Inv S c D M ob oc q cl st sm gs w t) {k b : Nat} {e : Event} (hk : k ≠ 0) (hob : ob b = k) (he : RdQ S b e) : EvK S ob oc k w.heap.size e := by
  rcases he with he | ⟨a, rfl, rfl⟩
  · exact evk_rd X h.kw.size he
  · have := h.obl a.block (by rw [hob]; exact hk)
    exact evk_cell X hk this.2 hob this.1
theorem Inv.upper (X : ScOk S) (h : Inv S c D M ob oc q cl st sm gs w t) {i : Nat} (hi : i < c) {g : Goroutine} (sl : Option (Nat × Nat)) (hg : gs[S.j0 + i]? = some g) (hrun : g.status = .running) (h16 : 17 ≤ (D i).stage) :
    ∃ m' ops ν, runT S.E.P (crowd gs w sl) (S.j0 + i) = (.next m', ops) ∧ Less (Nx S.E) S.n ν (meas S c D M q) ∧ InvE S ν m' (t ++ ops) := by
  have hj := X.j0
  have hk0 : S.j0 + i ≠ 0 := by omega
  have hsz0 := h.kw.size
  obtain ⟨x, hx, hs⟩ := h.wk i hi
  rw [hg] at hx
  cases hx
  have hsilent : ∀ {g' : Goroutine} {es : Array Event} {n : Nat}, stepG S.E.P false g w = .go g' w es → (∀ e ∈ es, EvK S ob oc (S.j0 + i) w.heap.size e) → (∀ e ∈ es, e.loc ≠ .mark .disable ∧ e.loc ≠ .mark .enable) → n < (D i).fuel → ((D i).stage = 17 → n ≠ 0) → WSit S (S.j0 + i) { D i with fuel := n } ob cl g' w →
      ∃ m' ops ν, runT S.E.P (crowd gs w sl) (S.j0 + i) = (.next m', ops) ∧ Less (Nx S.E) S.n ν (meas S c D M q) ∧ InvE S ν m' (t ++ ops) := fun h1 h2 h3 h4 h5 h6 => h.silentW X hi sl hg h1 h2 h3 (fun hs => by omega) h4 h5 h6
  have hno : ∀ {e : Event}, e ∈ (#[] : Array Event) → False := fun he => by simp at he
  rcases hs with ⟨h1, h2, hw⟩ | ⟨h1, h2, b, hb, hbx, hw⟩ | ⟨h1, h2, b, hb, hbx, hw⟩ | ⟨h1, h2, b, hb, hbx, hw⟩ | ⟨h1, h2, b, z, zs, f, hb, hbx, hwt, hfl, hob, hge⟩ | ⟨h1, h2, b, v, hb, hbx, hv, hw⟩ | ⟨h1, h2, hw⟩ | hs
  ·
    rcases wk_cases hw with hstop | ⟨n, g', es, hn, k1, k2, k3⟩
    · obtain ⟨_, hst⟩ := hstop
      obtain ⟨g', w', k1, k2, k3, k4, n, k5⟩ := hst w h.kw
      have hq : obN ob w.heap.size w'.heap.size (S.j0 + i) w.heap.size = S.j0 + i := if_pos (by omega)
      exact h.stepP X hi sl hg k1 (d' := ⟨23, n, 0, (D i).place, (D i).y⟩) k2 (fun _ hb => hb.elim) (.inr (.inl ⟨rfl, rfl, w.heap.size, hq, k4, k5⟩)) (fun e he => (hno he).elim) h2 (fun hs => by simp at hs) (.inl ⟨by omega, by simp⟩) (fun _ => ⟨by simp, rfl⟩) (fun _ => by omega) (fun _ => by simp) (fun _ hp => by simp at hp) (h.acc i) (.inl (by simp; omega))
    · exact hsilent (k1 w h.kw) (fun e he => evk_rd X hsz0 (k2 e he)) (fun e he => quiet_rd (k2 e he)) (n := n) (by omega) (by omega) (.inl ⟨h1, h2, k3⟩)
  ·
    rcases wk_cases hw with hstop | ⟨n, g', es, hn, k1, k2, k3⟩
    · obtain ⟨_, g', hst, n, hn⟩ := hstop
      obtain ⟨w', es, k1, k2, k3, k4, k5⟩ := hst w h.kw hbx
      have hbl := h.obl b (by rw [hb]; exact hk0)
      refine h.stepP X hi sl hg k1 (d' := ⟨22, n, 0, (D i).place, (D i).y⟩) k2 (fun x hx => by rw [hx]; exact hb) (by rw [k3, obN_same]; exact .inr (.inr (.inl ⟨rfl, rfl, b, hb, k4, hn⟩))) (fun e he => ?_) ?_ (fun hs => by simp at hs) (.inl ⟨by omega, by simp⟩) (fun _ => ⟨by simp, rfl⟩) (fun _ => by omega) (fun _ => by simp) (fun _ hp => by simp at hp) (h.acc i) (.inl (by simp; omega))
      · obtain ⟨a, ha, rfl⟩ := k5 e he
        rw [k3, obN_same]
        exact evk_cell X hk0 (by omega) (by rw [ha]; exact hb) (by omega)
      · rw [h2]
        exact deafBehind_still (fun e he => by obtain ⟨a, _, rfl⟩ := k5 e he; simp) _
    · exact hsilent (k1 w h.kw) (fun e he => evk_rd X hsz0 (k2 e he)) (fun e he => quiet_rd (k2 e he)) (n := n) (by omega) (by omega) (.inr (.inl ⟨h1, h2, b, hb, hbx, k3⟩))
  ·
    rcases wk_cases hw with hstop | ⟨n, g', es, hn, k1, k2, k3⟩
    · obtain ⟨_, hst⟩ := hstop
      obtain ⟨g', d, k1, n, k5⟩ := hst w ⟨h.kw, hbx⟩
      exact h.stepP X hi sl hg k1 (d' := ⟨21, n, 0, (D i).place, (D i).y⟩) (Ch.at (fun _ => False) w d) (fun _ hb => hb.elim) (by rw [show (w.at d).heap.size = w.heap.size from rfl, obN_same]; exact .inr (.inr (.inr (.inl ⟨rfl, rfl, b, hb, hbx, k5⟩)))) (fun e he => (hno he).elim) h2 (fun hs => by simp at hs) (.inl ⟨by omega, by simp⟩) (fun _ => ⟨by simp, rfl⟩) (fun _ => by omega) (fun _ => by simp) (fun _ hp => by simp at hp) (h.acc i) (.inl (by simp; omega))
    · exact hsilent (k1 w ⟨h.kw, hbx⟩) (fun e he => evk_q X h hk0 hb (k2 e he)) (fun e he => quiet_q (k2 e he)) (n := n) (by omega) (by omega) (.inr (.inr (.inl ⟨h1, h2, b, hb, hbx, k3⟩)))
  ·
    rcases wk_cases hw with hstop | ⟨n, g', es, hn, k1, k2, k3⟩
    · obtain ⟨_, z, zs, k1, k2⟩ := hstop
      have hp := h.plc i hi (by omega)
      obtain ⟨a, _, hm⟩ := h.main
      have hpm : (D i).place < S.m := by
        have : rcOf S M ≤ S.m := by unfold rcOf; split <;> (try split) <;> omega
        omega
      obtain ⟨f, f1, f2, f3, f4⟩ := X.flw (D i).place w hpm h.kw
      refine h.stepP X hi sl hg (k1 w ⟨h.kw, hbx⟩) (d' := ⟨20, 0, 0, (D i).place, S.x0 (D i).place⟩) (Ch.refl (fun _ => False) w) (fun _ hb => hb.elim) ?_ (fun e he => (hno he).elim) h2 (fun hs => by simp at hs) (.inl ⟨by omega, by simp⟩) (fun _ => ⟨by simp, rfl⟩) (fun _ => by omega) (fun _ => by simp) (fun _ hp => by simp at hp) (X.cont _ hpm).acc (.inl (by simp; omega))
      rw [obN_same]
      refine .inr (.inr (.inr (.inr (.inl ⟨rfl, rfl, b, z, zs, f, hb, hbx, k2, f1, fun y hy => ?_, ?_⟩))))
      · have h3 : y < (S.x0 (D i).place).2.size := hy.2
        have h4 := hy.1
        omega
      · show gor (S.x0 (D i).place).1 (z :: zs) = gor ((S.x0 (D i).place).1.map (rF f)) (z :: zs)
        rw [f2]
    · exact hsilent (k1 w ⟨h.kw, hbx⟩) (fun e he => evk_q X h hk0 hb (k2 e he)) (fun e he => quiet_q (k2 e he)) (n := n) (by omega) (by omega) (.inr (.inr (.inr (.inl ⟨h1, h2, b, hb, hbx, k3⟩))))
  ·
    have hp := h.plc i hi (by omega)
    have hpm : (D i).place < S.m := by
      have : rcOf S M ≤ S.m := by unfold rcOf; split <;> (try split) <;> omega
      omega
    subst hge
    have hlow : ∀ y, S.E.I (D i).y.2.size y → f y < w.heap.size := fun y hy => low_lt hfl.fit hfl.rel hy.2
    by_cases hlv : Leaves1 (D i).y.1
    · obtain ⟨v, wl, w', es, k1, k2, _, k4, k5⟩ := hfl.leave X.rt (X.cont _ hpm) hlv false z zs
      have hans := X.val _ v wl hpm k2
      rw [X.plain _ v f hans] at k4
      obtain ⟨n, hn⟩ := hwt v hans
      have hsz : w'.heap.size = w.heap.size := by have := k5.size; omega
      have hch : Ch (fun b => ∃ y, S.E.I (D i).y.2.size y ∧ f y = b) w w' := ⟨by omega, fun b h1 h2 => k5.stay b h1 fun y hy he => h2 ⟨y, hy, he⟩, k5.os, k5.out, k5.tape⟩
      refine h.stepP X hi sl hg k4 (d' := ⟨19, n, 0, (D i).place, (D i).y⟩) hch (fun b ⟨y, hy, he⟩ => by rw [← he]; exact (hob y hy).1) ?_ (fun e he => ?_) ?_ (fun hs => by simp at hs) (.inl ⟨by omega, by simp⟩) (fun _ => ⟨by simp, rfl⟩) (fun _ => by omega) (fun _ => by simp) (fun _ hp => by simp at hp) (h.acc i) (.inl (by simp; omega))
      · rw [hsz, obN_same]
        exact .inr (.inr (.inr (.inr (.inr (.inl ⟨rfl, rfl, b, v, hb, hch.same hbx fun ⟨y, hy, he⟩ => (hob y hy).2 he, hans, hn⟩)))))
      · rw [hsz, obN_same]
        refine evk_ses X hk0 hsz0 (fun y hy => ?_) (k5.evs e he)
        have := h.obl (f y) (by rw [(hob y hy).1]; exact hk0)
        exact ⟨(hob y hy).1, this.1, this.2⟩
      · rw [h2]
        exact deafBehind_still (fun e he => quiet_ses (k5.evs e he)) _
    · obtain ⟨y', w', es, k1, k2, k3, k4, k5⟩ := hfl.step X.rt X.call X.code (X.cont _ hpm) hlv false (z :: zs)
      have hsz := k2.size
      have hbl := h.obl b (by rw [hb]; exact hk0)
      have hch : Ch (fun b => ∃ y, S.E.I (D i).y.2.size y ∧ f y = b) w w' := ⟨by omega, fun b h1 h2 => k2.stay b h1 fun y hy he => h2 ⟨y, hy, he⟩, k2.os, k2.out, k2.tape⟩
      have hown : ∀ y, S.E.I y'.2.size y → obN ob w.heap.size w'.heap.size (S.j0 + i) (f y) = S.j0 + i ∧ f y ≠ b ∧ S.w0.heap.size ≤ f y ∧ f y < w'.heap.size := fun y hy => by
        rcases Nat.lt_or_ge y (D i).y.2.size with hlt | hge
        · have h3 := hlow y ⟨hy.1, hlt⟩
          have h4 := hob y ⟨hy.1, hlt⟩
          have h5 := h.obl (f y) (by rw [h4.1]; exact hk0)
          exact ⟨by rw [obN_old h3]; exact h4.1, h4.2, h5.1, by omega⟩
        · have h3 := hfl.rel.new y hge
          have h4 := hy.2
          exact ⟨if_pos (by omega), by omega, by omega, by omega⟩
      refine h.stepP X hi sl hg k1 (d' := ⟨20, (D i).fuel, 0, (D i).place, y'⟩) hch (fun b ⟨y, hy, he⟩ => by rw [← he]; exact (hob y hy).1) ?_ (fun e he => ?_) ?_ (fun hs => by simp at hs) (.inl ⟨by omega, by simp⟩) (fun _ => ⟨by simp, rfl⟩) (fun _ => by omega) (fun _ => by simp) (fun _ hp => by simp at hp) ((h.acc i).inv k5) (.inr (.inl ⟨h1.symm, k5⟩))
      · exact .inr (.inr (.inr (.inr (.inl ⟨rfl, rfl, b, z, zs, f, by rw [obN_old hbl.2]; exact hb, hch.same hbx fun ⟨y, hy, he⟩ => (hob y hy).2 he, hwt, k4, fun y hy => ⟨(hown y hy).1, (hown y hy).2.1⟩, rfl⟩))))
      · exact evk_ses X hk0 (by omega) (fun y hy => ⟨(hown y hy).1, (hown y hy).2.2⟩) (k2.evs e he)
      · rw [h2]
        exact deafBehind_still (fun e he => quiet_ses (k2.evs e he)) _
  ·
    rcases wk_cases hw with hstop | ⟨n, g', es, hn, k1, k2, k3⟩
    · obtain ⟨_, g', k1, n, hn⟩ := hstop
      obtain ⟨hp1, hp2⟩ := h.plc i hi (by omega)
      obtain ⟨cs, c1, c2, c3⟩ := h.pay
      have hA := X.hA
      have hsame := heap_setCell_same w S.An (D i).place cs S.aty v c1
      have hother : ∀ b, b ≠ S.An → (w.setCell ⟨S.An, (D i).place, none⟩ v).heap[b]? = w.heap[b]? := fun b hb => heap_setCell_other w _ b v hb
      have hsz : (w.setCell ⟨S.An, (D i).place, none⟩ v).heap.size = w.heap.size := World.size_setCell ..
      have hgs := k1 w ⟨h.kw, hbx⟩
      have hpm : (D i).place < S.m := by
        have : rcOf S M ≤ S.m := by unfold rcOf; split <;> (try split) <;> omega
        omega
      have hkw : KW S (w.setCell ⟨S.An, (D i).place, none⟩ v) := by
        obtain ⟨st1, sm1, q2⟩ := h.kw.grp
        obtain ⟨c', s', r', q3⟩ := h.kw.chn
        exact ⟨fun b hb n1 n2 n3 => (hother b n3).trans (h.kw.low b hb n1 n2 n3), ⟨st1, sm1, (hother _ X.wa).trans q2⟩, ⟨_, hsame, by simpa using c2⟩, ⟨c', s', r', (hother _ X.ca).trans q3⟩, h.kw.os, h.kw.out, h.kw.tape, by rw [hsz]; exact hsz0⟩
      refine h.stepW X hi sl hg hgs (d' := ⟨17, n + 1, 0, 0, (D i).y⟩) (T := (· = S.An)) (Ch.setCell (a := ⟨S.An, (D i).place, none⟩)) (fun b hb => .inr (.inr hb)) hkw ?_ (fun e he => ?_) ?_ (fun hs => by simp at hs) ((hother _ X.wa).trans h.grp) (fun kd' hk _ => ?_) ⟨_, hsame, by simpa using c2, fun p hp => ?_⟩ (fun hs => by simp at hs) (fun _ => by simp) (fun _ hp => by simp at hp) (h.acc i) (.inl (by simp; omega))
      · rw [hsz, obN_same]
        exact .inr (.inr (.inr (.inr (.inr (.inr (.inl ⟨rfl, rfl, .inl ⟨n, rfl, hn⟩⟩))))))
      · simp only [List.mem_toArray, List.mem_cons, List.not_mem_nil, or_false] at he
        subst he
        refine ⟨fun x hx _ => ?_, ?_, by simp⟩
        · simp only [MemAct.ofEvent, MemAct.touch?, Option.some.injEq] at hx
          subst hx
          exact .inr (.inl ⟨⟨hk0, .inl ⟨_, rfl, .inr ⟨rfl, hp2⟩⟩⟩, rfl⟩)
        · rw [hsz]
          show S.An < w.heap.size
          omega
      · rw [h2]; rfl
      · have hst : (5 ≤ (D i).stage ∧ 5 ≤ 17) ∨ 17 = (D i).stage := .inl ⟨by omega, by omega⟩
        rcases hk with rfl | ⟨h4, rfl⟩
        · exact h.mode.keep hi hst
        · have hm := h.mode
          rw [h4] at hm
          exact hm.wake.keep hi hst
      · by_cases hpp : p = (D i).place
        · subst hpp
          exact .inl ⟨v, Array.getElem?_setIfInBounds_self_of_lt (by omega), hv⟩
        · rcases c3 p hp with ⟨v', q1, q2⟩ | ⟨i', q1, q2, q3⟩
          · exact .inl ⟨v', by rw [Array.getElem?_setIfInBounds_ne fun e => hpp e.symm]; exact q1, q2⟩
          · have hii : i' ≠ i := fun e => by subst e; exact hpp q2.symm
            exact .inr ⟨i', q1, by rw [upd_ne D _ hii]; exact q2, by rw [upd_ne D _ hii]; exact q3⟩
    · exact hsilent (k1 w ⟨h.kw, hbx⟩) (fun e he => evk_q X h hk0 hb (k2 e he)) (fun e he => quiet_q (k2 e he)) (n := n) (by omega) (by omega) (.inr (.inr (.inr (.inr (.inr (.inl ⟨h1, h2, b, v, hb, hbx, hv, k3⟩))))))
  ·
    rcases hw with ⟨f, hf, hw⟩ | ⟨g0, o, hf, hg0, rfl⟩ | ⟨g0, _, _, _, rfl⟩
    · rcases wk_cases hw with hstop | ⟨n, g', es, hn, k1, k2, k3⟩
      · exact h.recv X hi sl hg ((X.ar g hstop).2.2.1 w h.kw) hstop h1 (by omega) h2
      · exact hsilent (k1 w h.kw) (fun e he => evk_rd X hsz0 (k2 e he)) (fun e he => quiet_rd (k2 e he)) (n := n + 1) (by omega) (by omega) (.inr (.inr (.inr (.inr (.inr (.inr (.inl ⟨h1, h2, .inl ⟨n, rfl, k3⟩⟩)))))))
    · exact h.recv X hi sl hg ((stepG_offers _ _ _ _ _).trans ((X.ar g0 hg0).2.2.1 w h.kw)) hg0 h1 (by omega) h2
    · cases hrun
  · exfalso
    rcases hs with hs | hs | hs | hs | hs | hs | hs <;> (have := hs.1; omega)
end
end Go.Proofs.YtaablbmgagiajabGreatDoor.Ren
namespace Go.Proofs.YtaablbmgagiajabGreatDoor.Ren
open Go Go.Conc
open Go.ConcR (KK WgAt stA smA rd wr mk)
open Go.ConcN (RelBy sumTo upd upd_same upd_ne sumTo_upd sumTo_congr le_sumTo)
section
variable {S : Sc} {c : Nat} {D : Nat → WD} {M : MD} {ob oc q : Nat → Nat} {cl : Bool} {st sm : Int} {gs : Array Goroutine} {w : World} {t : Trace}
theorem KW.wg (X : ScOk S) (h : KW S w) {a : Addr} {v : Value} (ha : a.block = S.Wg) {st' sm' : Int} (hw : WgAt S.ty S.Wg (w.setCell a v) st' sm') : KW S (w.setCell a v) := by
  have hother : ∀ b, b ≠ S.Wg → (w.setCell a v).heap[b]? = w.heap[b]? := fun b hb => heap_setCell_other w _ b v (by rw [ha]; exact hb)
  obtain ⟨cs, q1, q2⟩ := h.pay
  obtain ⟨c', s', r', q3⟩ := h.chn
  exact ⟨fun b hb n1 n2 n3 => (hother b n1).trans (h.low b hb n1 n2 n3), ⟨_, _, hw⟩, ⟨cs, (hother _ fun e => X.wa e.symm).trans q1, q2⟩, ⟨c', s', r', (hother _ fun e => X.wc e.symm).trans q3⟩, h.os, h.out, h.tape, by rw [World.size_setCell]; exact h.size⟩
theorem evk_at {ob' : Nat → Nat} {k B : Nat} {a : Addr} {b : Bool} (ha : a.block = S.Wg) (hB : S.Wg < B) : EvK S ob' oc k B ⟨.cell a, b, true⟩ := by
  refine ⟨fun x hx _ => ?_, by show a.block < B; omega, by simp⟩
  simp only [MemAct.ofEvent, MemAct.touch?, Option.some.injEq] at hx
  subst hx
  exact .inl ⟨⟨a, rfl, ha⟩, rfl⟩
theorem evk_mk {ob' : Nat → Nat} {k B : Nat} {m : Mark} (hm : m = .disable ∨ m = .enable ∨ m = .releaseMerge (stA S.Wg) ∨ m = .acquire (stA S.Wg)) (hB : S.Wg < B) : EvK S ob' oc k B (mk m) := by
  rcases hm with rfl | rfl | rfl | rfl
  · exact ⟨fun x hx => by simp [mk, MemAct.ofEvent, MemAct.touch?] at hx, trivial, by simp [mk]⟩
  · exact ⟨fun x hx => by simp [mk, MemAct.ofEvent, MemAct.touch?] at hx, trivial, by simp [mk]⟩
  · exact ⟨fun x hx => by simp [mk, MemAct.ofEvent, MemAct.touch?] at hx, hB, by simp [mk]⟩
  · exact ⟨fun x hx => by simp [mk, MemAct.ofEvent, MemAct.touch?] at hx, hB, by simp [mk]⟩
theorem evk_mute {ob' : Nat → Nat} {k B : Nat} {e : Event} (h : e.mute = true) : EvK S ob' oc k B e := by
  refine ⟨fun x hx => ?_, low_mute h B, ?_⟩
  · rw [touch_mute h] at hx; cases hx
  · obtain ⟨loc, wr, sy⟩ := e
    intro he
    simp only at he
    subst he
    simp [Event.mute] at h
theorem Vc_zero (h : Vc c D = 0) {i : Nat} (hi : i < c) : ¬ 5 ≤ (D i).stage := fun h5 => by
  have := le_sumTo (f := fun i => cntW (D i)) hi
  have e : cntW (D i) = 1 := if_pos h5
  unfold Vc at h
  simp only [e] at this
  omega
theorem Inv.lower (X : ScOk S) (h : Inv S c D M ob oc q cl st sm gs w t) {i : Nat} (hi : i < c) {g : Goroutine} (sl : Option (Nat × Nat)) (hg : gs[S.j0 + i]? = some g) (hrun : g.status = .running) (h16 : (D i).stage ≤ 16) :
    ∃ m' ops ν, runT S.E.P (crowd gs w sl) (S.j0 + i) = (.next m', ops) ∧ Less (Nx S.E) S.n ν (meas S c D M q) ∧ InvE S ν m' (t ++ ops) := by
  have hj := X.j0
  have hk0 : S.j0 + i ≠ 0 := by omega
  have hsz0 := h.kw.size
  have hW := X.hW
  have hB : S.Wg < w.heap.size := by omega
  obtain ⟨x, hx, hs⟩ := h.wk i hi
  rw [hg] at hx
  cases hx
  have hcl : cl = true := by
    cases cl with
    | true => rfl
    | false => have := h.opn rfl i hi; omega
  subst hcl
  have h9 := h.clo.1 rfl
  have hk11 : M.kind ≠ 11 := by omega
  obtain ⟨a0, ha0, hm0⟩ := h.main
  have hcn := hm0.range.2.2.2.1 (by omega)
  have hpend : pend M.kind = 0 := by unfold pend; rw [if_neg (by omega)]
  have hdf := h.deafW i hi
  have hno : ∀ {e : Event}, e ∈ (#[] : Array Event) → False := fun he => by simp at he
  have hquiet : ∀ {Stop : Goroutine → Prop} {n : Nat} {g' : Goroutine} {es : Array Event}, (∀ w, KW S w → stepG S.E.P false g w = .go g' w es) → (∀ e ∈ es, False) → n < (D i).fuel → (D i).stage ≠ 17 → WSit S (S.j0 + i) { D i with fuel := n } ob true g' w →
      ∃ m' ops ν, runT S.E.P (crowd gs w sl) (S.j0 + i) = (.next m', ops) ∧ Less (Nx S.E) S.n ν (meas S c D M q) ∧ InvE S ν m' (t ++ ops) := fun {Stop n g' es} k1 k2 k3 k4 k5 => by
    refine h.silentW X hi sl hg (k1 w h.kw) (fun e he => (k2 e he).elim) (fun e he => (k2 e he).elim) (fun _ => ?_) k3 (fun e => absurd e k4) k5
    apply Array.eq_empty_of_size_eq_zero
    rcases Nat.eq_zero_or_pos es.size with e | e
    · exact e
    · exact (k2 _ (Array.getElem_mem e)).elim
  have hgrp : ∀ {a : Addr} {v : Value} {st' sm' : Int} {g' : Goroutine} {es : Array Event} {d' : WD}, a.block = S.Wg → WgAt S.ty S.Wg (w.setCell a v) st' sm' → stepG S.E.P false g w = .go g' (w.setCell a v) es → WSit S (S.j0 + i) d' ob true g' (w.setCell a v) → (∀ e ∈ es, EvK S ob oc (S.j0 + i) w.heap.size e) → deafBehind (D i).deaf es = d'.deaf →
      (∃ r, RelBy (stA S.Wg) (t ++ MemOp.ofEvents (S.j0 + i) g.frame.fn g.frame.place es) (S.j0 + i) r) → (∀ kd', (kd' = M.kind ∨ (M.kind = 4 ∧ kd' = 5)) → (mayWake S.E.P g = true → g'.status ≠ .blocked → g'.status ≠ .waiting → kd' ≠ 4) → Mode c (upd D i d') kd' M.r st' sm') → (D i).stage ≤ 6 → d'.stage < (D i).stage → d'.y = (D i).y →
      ∃ m' ops ν, runT S.E.P (crowd gs w sl) (S.j0 + i) = (.next m', ops) ∧ Less (Nx S.E) S.n ν (meas S c D M q) ∧ InvE S ν m' (t ++ ops) := fun {a v st' sm' g' es d'} k1 k2 k3 k4 k5 k6 k7 k8 k9 k10 k11 => by
    have hsz : (w.setCell a v).heap.size = w.heap.size := World.size_setCell ..
    have hother : ∀ b, b ≠ S.Wg → (w.setCell a v).heap[b]? = w.heap[b]? := fun b hb => heap_setCell_other w _ b v (by rw [k1]; exact hb)
    obtain ⟨cs, c1, c2, c3⟩ := h.pay
    refine h.stepW X hi sl hg k3 (d' := d') (T := (· = a.block)) Ch.setCell (fun b hb => .inr (.inl (by rw [hb]; exact k1))) (KW.wg X h.kw k1 k2) (by rw [hsz, obN_same]; exact k4) (by rw [hsz, obN_same]; exact k5) k6 (fun _ => k7) k2 k8 ⟨cs, (hother _ fun e => X.wa e.symm).trans c1, c2, fun p hp => ?_⟩ (fun h19 => by omega) (fun e => by cases e) (fun e => absurd e hk11) (by rw [k11]; exact h.acc i) (.inl k10)
    rcases c3 p hp with h4 | ⟨i', q1, q2, q3⟩
    · exact .inl h4
    · have hii : i' ≠ i := fun e => by subst e; omega
      exact .inr ⟨i', q1, by rw [upd_ne D _ hii]; exact q2, by rw [upd_ne D _ hii]; exact q3⟩
  rcases hs with hs | hs | hs | hs | hs | hs | hs | ⟨h1, h2, hw⟩ | ⟨h1, h2, hw⟩ | ⟨h1, h2, hw⟩ | ⟨h1, h2, hw⟩ | ⟨h1, h2, hw⟩ | ⟨h1, h2, hw⟩ | ⟨h1, hq⟩
  iterate 7 (have := hs.1; omega)
  ·
    rcases wk_cases hw with hstop | ⟨n, g', es, hn, k1, k2, k3⟩
    · obtain ⟨_, g', k1, n, hn⟩ := hstop
      refine h.stepP X hi sl hg (k1 w h.kw) (d' := ⟨6, n, 0, 0, (D i).y⟩) (T := fun _ => False) (Ch.refl _ w) (fun _ hb => hb.elim) (by rw [obN_same]; exact .inr (.inr (.inr (.inr (.inr (.inr (.inr (.inr (.inl ⟨rfl, rfl, hn⟩))))))))) (fun e he => ?_) (by rw [h2]; rfl) (fun _ => ⟨_, Go.ConcN.RelBy.new (by rw [hdf, h2]) _ _⟩) (.inl ⟨by omega, by simp⟩) (fun h19 => by omega) (fun h19 => by simp at h19) (fun e => by cases e) (fun e => absurd e hk11) (h.acc i) (.inl (by simp; omega))
      simp only [List.mem_toArray, List.mem_cons, List.not_mem_nil, or_false] at he
      subst he
      exact evk_mk (.inr (.inr (.inl rfl))) hB
    · exact h.silentW X hi sl hg (k1 w h.kw) (fun e he => evk_rd X hsz0 (k2 e he)) (fun e he => quiet_rd (k2 e he)) (fun hs => by omega) (n := n) (by omega) (by omega) (.inr (.inr (.inr (.inr (.inr (.inr (.inr (.inl ⟨h1, h2, k3⟩))))))))
  ·
    rcases wk_cases hw with hstop | ⟨n, g', es, hn, k1, k2, k3⟩
    · obtain ⟨_, g', k1, n, hn⟩ := hstop
      obtain ⟨r, hr⟩ := h.rel i hi (by omega)
      refine h.stepP X hi sl hg (k1 w h.kw) (d' := ⟨5, n, 1, 0, (D i).y⟩) (T := fun _ => False) (Ch.refl _ w) (fun _ hb => hb.elim) (by rw [obN_same]; exact .inr (.inr (.inr (.inr (.inr (.inr (.inr (.inr (.inr (.inl ⟨rfl, rfl, hn⟩)))))))))) (fun e he => ?_) (by rw [h2]; rfl) (fun _ => ⟨r, Go.ConcN.RelBy.appOwn hr _ _ _ fun j e he => ?_⟩) (.inl ⟨by omega, by simp⟩) (fun h19 => by omega) (fun h19 => by simp at h19) (fun e => by cases e) (fun e => absurd e hk11) (h.acc i) (.inl (by simp; omega))
      · simp only [List.mem_toArray, List.mem_cons, List.not_mem_nil, or_false] at he
        subst he
        exact evk_mk (.inl rfl) hB
      · have he := Array.mem_of_getElem? he
        simp only [List.mem_toArray, List.mem_cons, List.not_mem_nil, or_false] at he
        subst he
        exact .inl rfl
    · exact hquiet (Stop := fun _ => True) k1 k2 (n := n) (by omega) (by omega) (.inr (.inr (.inr (.inr (.inr (.inr (.inr (.inr (.inl ⟨h1, h2, k3⟩)))))))))
  ·
    rcases wk_cases hw with hstop | ⟨n, g', es, hn, k1, k2, k3⟩
    · obtain ⟨_, hstop⟩ := hstop
      obtain ⟨r, hr⟩ := h.rel i hi (by omega)
      have hc5 : cntW (D i) = 1 := by unfold cntW; rw [if_pos (by omega)]
      have hV1 : 1 ≤ Vc c D := by
        have := le_sumTo (f := fun i => cntW (D i)) hi
        simp only [hc5] at this
        exact this
      have hVn : Vc c D ≤ S.n := by
        have := Go.ConcN.sumTo_le (f := fun i => cntW (D i)) (c := 1) (j := c) fun i _ => by unfold cntW; split <;> omega
        unfold Vc
        omega
      have hrel : ∀ {g' : Goroutine}, ∃ r, RelBy (stA S.Wg) (t ++ MemOp.ofEvents (S.j0 + i) g.frame.fn g.frame.place #[rd (stA S.Wg), wr (stA S.Wg)]) (S.j0 + i) r := fun {_} => ⟨r, Go.ConcN.RelBy.appOwn hr _ _ _ fun j e he => .inr (by
        rw [hdf, h2]
        match j, he with
        | 0, he =>
          simp at he
          subst he
          exact ⟨⟨_, _, rfl⟩, by simp [deafBehind]⟩
        | 1, he =>
          simp at he
          subst he
          exact ⟨⟨_, _, rfl⟩, by simp [deafBehind, rd]⟩)⟩
      have hevs : ∀ e ∈ (#[rd (stA S.Wg), wr (stA S.Wg)] : Array Event), EvK S ob oc (S.j0 + i) w.heap.size e := fun e he => by
        simp only [List.mem_toArray, List.mem_cons, List.not_mem_nil, or_false] at he
        rcases he with rfl | rfl <;> exact evk_at rfl hB
      have hdd : deafBehind (D i).deaf #[rd (stA S.Wg), wr (stA S.Wg)] = 1 := by rw [h2]; rfl
      have e1 : ∀ d' : WD, d'.stage < 5 → Vc c (upd D i d') + 1 = Vc c D := fun d' hd => by
        have := sumTo_upd D d' cntW hi
        have hc : cntW d' = 0 := by unfold cntW; rw [if_neg (by omega)]
        unfold Vc
        omega
      have hop : ∀ d' : WD, d'.stage = 1 → OpSt c D → OpSt c (upd D i d') := fun d' hd ho i' hi' => by
        by_cases hii : i' = i
        · subst hii
          rw [upd_same]; exact .inr hd
        · rw [upd_ne D _ hii]; exact ho i' hi'
      have hmode := h.mode
      obtain ⟨v, hv⟩ : ∃ v, Vc c D = v + 1 := ⟨Vc c D - 1, by omega⟩
      rcases hmode with ⟨m1, m2, m3, m4, m5⟩ | ⟨m1, m2, m3, m4, m5⟩ | ⟨m1, _, L, m2, m3, m4⟩ | ⟨m1, m2, _⟩ | ⟨m1, m2, _⟩
      · obtain ⟨g', k1, _, k3⟩ := hstop v 0 (by omega) (by omega)
        obtain ⟨qn, hqn⟩ := k3 (by omega)
        have hst : WgAt S.ty S.Wg w (((v : Nat) + 1) * KK + ((0 : Nat) : Int)) 0 := by
          have := h.grp
          rw [m3, m4, hpend, hv] at this
          simpa using this
        have hgo := k1 w h.kw hst
        refine hgrp rfl (hst.setSt _) hgo (d' := ⟨1, qn, 1, 0, (D i).y⟩) (.inr (.inr (.inr (.inr (.inr (.inr (.inr (.inr (.inr (.inr (.inr (.inr (.inr ⟨rfl, hqn⟩))))))))))))) hevs hdd (hrel (g' := g')) (fun kd' hk _ => ?_) (by omega) (by simp; omega) rfl
        have hkd : kd' = M.kind := by omega
        subst hkd
        have := e1 ⟨1, qn, 1, 0, (D i).y⟩ (by simp)
        refine .inl ⟨m1, hop _ rfl m2, ?_, rfl, fun e => ?_⟩
        · rw [hpend]
          have : Vc c (upd D i ⟨1, qn, 1, 0, (D i).y⟩) = v := by omega
          rw [this]
          simp
        · have := m5 e
          omega
      · have hst : WgAt S.ty S.Wg w (((v : Nat) + 1) * KK + ((1 : Nat) : Int)) 0 := by
          have := h.grp
          rw [m4, m5, hv] at this
          simpa using this
        obtain ⟨g', k1, k2, k3⟩ := hstop v 1 (by omega) (by omega)
        have hgo := k1 w h.kw hst
        by_cases hv0 : v = 0
        · obtain ⟨n, hn⟩ := k2 ⟨hv0, rfl⟩
          refine hgrp rfl (hst.setSt _) hgo (d' := ⟨4, n, 1, 0, (D i).y⟩) (.inr (.inr (.inr (.inr (.inr (.inr (.inr (.inr (.inr (.inr (.inl ⟨rfl, rfl, hn⟩))))))))))) hevs hdd (hrel (g' := g')) (fun kd' hk _ => ?_) (by omega) (by simp; omega) rfl
          have hz : Vc c (upd D i ⟨4, n, 1, 0, (D i).y⟩) = 0 := by have := e1 ⟨4, n, 1, 0, (D i).y⟩ (by simp); omega
          refine .inr (.inr (.inl ⟨by omega, rfl, i, hi, fun i' hi' hne => ?_, ?_⟩))
          · have h5 := Vc_zero hz hi'
            rw [upd_ne D _ hne] at h5 ⊢
            have := m2 i' hi'
            omega
          · rw [upd_same]
            exact .inl ⟨.inl rfl, by rw [hv0]; simp⟩
        · obtain ⟨qn, hqn⟩ := k3 (by omega)
          refine hgrp rfl (hst.setSt _) hgo (d' := ⟨1, qn, 1, 0, (D i).y⟩) (.inr (.inr (.inr (.inr (.inr (.inr (.inr (.inr (.inr (.inr (.inr (.inr (.inr ⟨rfl, hqn⟩))))))))))))) hevs hdd (hrel (g' := g')) (fun kd' hk _ => ?_) (by omega) (by simp; omega) rfl
          have := e1 ⟨1, qn, 1, 0, (D i).y⟩ (by simp)
          have hvv : Vc c (upd D i ⟨1, qn, 1, 0, (D i).y⟩) = v := by omega
          exact .inr (.inl ⟨by omega, hop _ rfl m2, by omega, by rw [hvv]; simp, rfl⟩)
      · by_cases hL : i = L
        · subst hL; omega
        · have := m3 i hi hL
          omega
      · have := m2 i hi
        omega
      · have := m2 i hi
        omega
    · exact hquiet (Stop := fun _ => True) k1 k2 (n := n) (by omega) (by omega) (.inr (.inr (.inr (.inr (.inr (.inr (.inr (.inr (.inr (.inl ⟨h1, h2, k3⟩))))))))))
  ·
    rcases wk_cases hw with hstop | ⟨n, g', es, hn, k1, k2, k3⟩
    · obtain ⟨_, g', k1, n, hn⟩ := hstop
      obtain ⟨r, hr⟩ := h.rel i hi (by omega)
      have hlast : (M.kind = 5 ∨ M.kind = 4) ∧ st = 1 ∧ sm = 0 ∧ ∀ i', i' < c → i' ≠ i → (D i').stage = 1 := by
        rcases h.mode with ⟨m1, m2, _⟩ | ⟨m1, m2, _⟩ | ⟨m1, m5, L, m2, m3, m4⟩ | ⟨m1, m2, _⟩ | ⟨m1, m2, _⟩
        · have := m2 i hi; omega
        · have := m2 i hi; omega
        · by_cases hL : i = L
          · subst hL
            exact ⟨m1, by omega, m5, m3⟩
          · have := m3 i hi hL
            omega
        · have := m2 i hi; omega
        · have := m2 i hi; omega
      obtain ⟨l1, rfl, rfl, l4⟩ := hlast
      obtain ⟨cs, c1, c2, c3⟩ := h.pay
      refine h.stepW X hi sl hg (k1 w h.kw h.grp) (d' := ⟨3, n, 1, 0, (D i).y⟩) (T := fun _ => False) (Ch.refl _ w) (fun _ hb => hb.elim) h.kw (by rw [obN_same]; exact .inr (.inr (.inr (.inr (.inr (.inr (.inr (.inr (.inr (.inr (.inr (.inl ⟨rfl, rfl, hn⟩)))))))))))) (fun e he => ?_) (by rw [h2]; rfl) (fun _ => ⟨r, Go.ConcN.RelBy.appOwn hr _ _ _ fun j e he => ?_⟩) h.grp (fun kd' hk _ => ?_) ⟨cs, c1, c2, fun p hp => ?_⟩ (fun h19 => by simp at h19) (fun e => by cases e) (fun e => absurd e hk11) (h.acc i) (.inl (by simp; omega))
      · simp only [List.mem_toArray, List.mem_cons, List.not_mem_nil, or_false] at he
        subst he
        exact evk_at rfl hB
      · rw [hdf, h2]
        match j, he with
        | 0, he =>
          simp at he
          subst he
          exact .inr ⟨⟨_, _, rfl⟩, by simp [deafBehind]⟩
      · refine .inr (.inr (.inl ⟨by omega, rfl, i, hi, fun i' q1 q2 => by rw [upd_ne D _ q2]; exact l4 i' q1 q2, ?_⟩))
        rw [upd_same]
        exact .inl ⟨.inr rfl, rfl⟩
      · rcases c3 p hp with h4 | ⟨i', q1, q2, q3⟩
        · exact .inl h4
        · have hii : i' ≠ i := fun e => by subst e; omega
          exact .inr ⟨i', q1, by rw [upd_ne D _ hii]; exact q2, by rw [upd_ne D _ hii]; exact q3⟩
    · exact hquiet (Stop := fun _ => True) k1 k2 (n := n) (by omega) (by omega) (.inr (.inr (.inr (.inr (.inr (.inr (.inr (.inr (.inr (.inr (.inl ⟨h1, h2, k3⟩)))))))))))
  ·
    rcases wk_cases hw with hstop | ⟨n, g', es, hn, k1, k2, k3⟩
    · obtain ⟨_, g', k1, n, hn⟩ := hstop
      obtain ⟨r, hr⟩ := h.rel i hi (by omega)
      have hlast : (M.kind = 5 ∨ M.kind = 4) ∧ st = 1 ∧ sm = 0 ∧ ∀ i', i' < c → i' ≠ i → (D i').stage = 1 := by
        rcases h.mode with ⟨m1, m2, _⟩ | ⟨m1, m2, _⟩ | ⟨m1, m5, L, m2, m3, m4⟩ | ⟨m1, m2, _⟩ | ⟨m1, m2, _⟩
        · have := m2 i hi; omega
        · have := m2 i hi; omega
        · by_cases hL : i = L
          · subst hL
            exact ⟨m1, by omega, m5, m3⟩
          · have := m3 i hi hL
            omega
        · have := m2 i hi; omega
        · have := m2 i hi; omega
      obtain ⟨l1, rfl, rfl, l4⟩ := hlast
      refine hgrp rfl (h.grp.setSt _) (k1 w h.kw h.grp) (d' := ⟨2, n, 1, 0, (D i).y⟩) (.inr (.inr (.inr (.inr (.inr (.inr (.inr (.inr (.inr (.inr (.inr (.inr (.inl ⟨rfl, rfl, hn⟩))))))))))))) (fun e he => ?_) (by rw [h2]; rfl) ⟨r, Go.ConcN.RelBy.appOwn hr _ _ _ fun j e he => ?_⟩ (fun kd' hk _ => ?_) (by omega) (by simp; omega) rfl
      · simp only [List.mem_toArray, List.mem_cons, List.not_mem_nil, or_false] at he
        subst he
        exact evk_at rfl hB
      · rw [hdf, h2]
        match j, he with
        | 0, he =>
          simp at he
          subst he
          exact .inr ⟨⟨_, _, rfl⟩, by simp [deafBehind]⟩
      · refine .inr (.inr (.inl ⟨by omega, rfl, i, hi, fun i' q1 q2 => by rw [upd_ne D _ q2]; exact l4 i' q1 q2, ?_⟩))
        rw [upd_same]
        exact .inr ⟨rfl, rfl⟩
    · exact hquiet (Stop := fun _ => True) k1 k2 (n := n) (by omega) (by omega) (.inr (.inr (.inr (.inr (.inr (.inr (.inr (.inr (.inr (.inr (.inr (.inl ⟨h1, h2, k3⟩))))))))))))
  ·
    rcases wk_cases hw with hstop | ⟨n, g', es, hn, k1, k2, k3⟩
    · obtain ⟨_, hmw, g', k1, qn, hqn⟩ := hstop
      obtain ⟨r, hr⟩ := h.rel i hi (by omega)
      have hlast : (M.kind = 5 ∨ M.kind = 4) ∧ st = 0 ∧ sm = 0 ∧ ∀ i', i' < c → i' ≠ i → (D i').stage = 1 := by
        rcases h.mode with ⟨m1, m2, _⟩ | ⟨m1, m2, _⟩ | ⟨m1, m5, L, m2, m3, m4⟩ | ⟨m1, m2, _⟩ | ⟨m1, m2, _⟩
        · have := m2 i hi; omega
        · have := m2 i hi; omega
        · by_cases hL : i = L
          · subst hL
            exact ⟨m1, by omega, m5, m3⟩
          · have := m3 i hi hL
            omega
        · have := m2 i hi; omega
        · have := m2 i hi; omega
      obtain ⟨l1, rfl, rfl, l4⟩ := hlast
      refine hgrp rfl (h.grp.setSm _) (k1 w h.kw h.grp) (d' := ⟨1, qn, 1, 0, (D i).y⟩) (.inr (.inr (.inr (.inr (.inr (.inr (.inr (.inr (.inr (.inr (.inr (.inr (.inr ⟨rfl, hqn⟩))))))))))))) (fun e he => ?_) (by rw [h2]; rfl) ⟨r, Go.ConcN.RelBy.appOwn hr _ _ _ fun j e he => ?_⟩ (fun kd' hk hwk => ?_) (by omega) (by simp; omega) rfl
      · simp only [semEvents, List.mem_toArray, List.mem_cons, List.not_mem_nil, or_false] at he
        rcases he with rfl | rfl | rfl | rfl
        · exact evk_mk (.inl rfl) hB
        · exact evk_at rfl hB
        · exact evk_at rfl hB
        · exact evk_mk (.inr (.inl rfl)) hB
      · rw [hdf, h2]
        match j, he with
        | 0, he =>
          simp [semEvents] at he
          subst he
          exact .inl rfl
        | 1, he =>
          simp [semEvents] at he
          subst he
          exact .inr ⟨⟨_, _, rfl⟩, by simp [deafBehind, semEvents]⟩
        | 2, he =>
          simp [semEvents] at he
          subst he
          exact .inr ⟨⟨_, _, rfl⟩, by simp [deafBehind, semEvents]⟩
        | 3, he =>
          simp [semEvents] at he
          subst he
          exact .inl rfl
      · have hb : g'.status ≠ .blocked ∧ g'.status ≠ .waiting := by
          rcases hqn.status with e | e <;> rw [e] <;> simp
        have := hwk hmw hb.1 hb.2
        have hkd : kd' = 5 := by omega
        refine .inr (.inr (.inr (.inl ⟨hkd, fun i' hi' => ?_, rfl, rfl⟩)))
        by_cases hii : i' = i
        · subst hii
          rw [upd_same]
        · rw [upd_ne D _ hii]
          exact l4 i' hi' hii
    · exact hquiet (Stop := fun _ => True) k1 k2 (n := n) (by omega) (by omega) (.inr (.inr (.inr (.inr (.inr (.inr (.inr (.inr (.inr (.inr (.inr (.inr (.inl ⟨h1, h2, k3⟩)))))))))))))
  ·
    obtain ⟨r, hr⟩ := h.rel i hi (by omega)
    generalize hn : (D i).fuel = n at hq
    cases n with
    | zero =>
      rw [hq.1] at hrun
      cases hrun
    | succ n =>
      rcases hq with ⟨hq, _⟩ | ⟨_, g', es, k1, k2, k3⟩
      · rw [hq] at hrun
        cases hrun
      · refine h.stepP X hi sl hg (k2 w) (d' := ⟨1, n, deafBehind (D i).deaf es, 0, (D i).y⟩) (T := fun _ => False) (Ch.refl _ w) (fun _ hb => hb.elim) (by rw [obN_same]; exact .inr (.inr (.inr (.inr (.inr (.inr (.inr (.inr (.inr (.inr (.inr (.inr (.inr ⟨rfl, k3⟩))))))))))))) (fun e he => evk_mute (k1 e he)) rfl (fun _ => ⟨r, Go.ConcN.RelBy.appOwn hr _ _ _ fun j e he => .inl (touch_mute (k1 e (Array.mem_of_getElem? he)))⟩) (.inr h1.symm) (fun h19 => by omega) (fun h19 => by simp at h19) (fun e => by cases e) (fun e => absurd e hk11) (h.acc i) (.inr (.inr ⟨h1.symm, rfl, by simp; omega⟩))
end
end Go.Proofs.YtaablbmgagiajabGreatDoor.Ren
namespace Go.Proofs.YtaablbmgagiajabGreatDoor.Ren
open Go Go.Conc
open Go.ConcR (KK WgAt stA smA rd wr mk)
open Go.ConcN (RelBy sumTo upd upd_same upd_ne sumTo_upd sumTo_congr le_sumTo get_map_set get_map_set_same)
def Ends (S : Sc) (gs : Array Goroutine) (w : World) (t : Trace) : Prop :=
  ∃ a q, gs[0]? = some a ∧ S.Out a ∧ gs.size = S.j0 + S.n ∧ Leavers S.E.P t gs q ∧ Past (fun l => S.Shun l ∨ S.Sh l) w.heap.size t ∧ KW S w ∧ ∃ cs, w.heap[S.An]? = some (.cells cs S.aty) ∧ cs.size = S.m ∧ ∀ p, p < S.m → ∃ v, cs[p]? = some v ∧ S.ans p v
section
variable {S : Sc} {c : Nat} {D : Nat → WD} {M : MD} {ob oc q : Nat → Nat} {cl : Bool} {st sm : Int} {gs : Array Goroutine} {w : World} {t : Trace}
theorem evm_k {ob' : Nat → Nat} {k B : Nat} {e : Event} (h : EvK S ob' oc k B e) (hn : ∀ l, ¬ S.Own ob' oc k l) : EvM S B e := ⟨fun a ha hm => by
  rcases h.1 a ha hm with ⟨h1, h2⟩ | ⟨h1, _⟩ | ⟨h1, h2, _⟩
  · exact .inl ⟨h1, by rw [h2]; simp⟩
  · exact absurd h1 (hn _)
  · exact .inr (.inl ⟨h1, h2⟩), h.2⟩
theorem own_zero (oc : Nat → Nat) (l : Loc) : ¬ S.Own (fun _ => 0) oc 0 l := fun h => h.1 rfl
theorem evm_at {B : Nat} {a : Addr} {b : Bool} (ha : a.block = S.Wg) (hB : S.Wg < B) : EvM S B ⟨.cell a, b, true⟩ := evm_k (evk_at (oc := fun _ => 0) (ob' := fun _ => 0) (k := 0) ha hB) (own_zero _)
theorem evm_mk {B : Nat} {m : Mark} (hm : m = .disable ∨ m = .enable ∨ m = .releaseMerge (stA S.Wg) ∨ m = .acquire (stA S.Wg)) (hB : S.Wg < B) : EvM S B (mk m) := evm_k (evk_mk (oc := fun _ => 0) (ob' := fun _ => 0) (k := 0) hm hB) (own_zero _)
theorem evm_rd (X : ScOk S) {B : Nat} {e : Event} (hB : S.w0.heap.size ≤ B) (he : RdM S e) : EvM S B e := by
  have hW := X.hW
  rcases he with he | ⟨a, ha, rfl | rfl⟩
  · exact evm_k (evk_rd X (oc := fun _ => 0) (ob' := fun _ => 0) (k := 0) hB he) (own_zero _)
  · refine ⟨fun x hx _ => ?_, by show a.block < B; omega, by simp [mk]⟩
    simp only [mk, MemAct.ofEvent, MemAct.touch?, Option.some.injEq] at hx
    subst hx
    exact .inl ⟨⟨a, rfl, ha⟩, by simp⟩
  · refine ⟨fun x hx _ => ?_, by show a.block < B; omega, by simp [mk]⟩
    simp only [mk, MemAct.ofEvent, MemAct.touch?, Option.some.injEq] at hx
    subst hx
    exact .inl ⟨⟨a, rfl, ha⟩, by simp⟩
theorem quiet_m {e : Event} (h : RdM S e) : e.loc ≠ .mark .disable ∧ e.loc ≠ .mark .enable := by
  rcases h with h | ⟨a, _, rfl | rfl⟩
  · exact quiet_rd h
  · simp [mk]
  · simp [mk]
theorem Inv.silent0 (X : ScOk S) (h : Inv S c D M ob oc q cl st sm gs w t) {a a' : Goroutine} {es : Array Event} (sl : Option (Nat × Nat)) (ha : gs[0]? = some a) (hgo : ∀ w, KW S w → stepG S.E.P true a w = .go a' w es) (hev : ∀ e ∈ es, RdM S e)
    {M' : MD} (hm' : MSit S M' c a') (hd : mdeaf M'.kind = mdeaf M.kind) (hmode : Mode c D M'.kind M'.r st sm) (hrc : rcOf S M' = rcOf S M) (hclo : cl = true ↔ M'.kind ≤ 9) (h11 : M'.kind ≠ 11)
    (hlt : phi S (Vc c D) M' < phi S (Vc c D) M ∨ (phi S (Vc c D) M' = phi S (Vc c D) M ∧ M'.fuel < M.fuel)) :
    ∃ m' ops ν, runT S.E.P (crowd gs w sl) 0 = (.next m', ops) ∧ Less (Nx S.E) S.n ν (meas S c D M q) ∧ InvE S ν m' (t ++ ops) :=
  h.step0 X sl ha (hgo w h.kw) (T := fun _ => False) (Ch.refl _ w) (fun _ hb => hb.elim) rfl h.kw hm' (fun e he => evm_rd X h.kw.size (hev e he)) (by rw [hd]; exact deafBehind_still (fun e he => quiet_m (hev e he)) _) h.grp hmode hrc hclo h11 hlt
theorem Inv.says (X : ScOk S) (h : Inv S c D M ob oc q cl st sm gs w t) {a a' : Goroutine} {es : Array Event} (sl : Option (Nat × Nat)) (ha : gs[0]? = some a) (hgo : stepG S.E.P true a w = .go a' w es) (hev : ∀ e ∈ es, EvM S w.heap.size e)
    {M' : MD} (hm' : MSit S M' c a') (hd : deafBehind (mdeaf M.kind) es = mdeaf M'.kind) (hmode : Mode c D M'.kind M'.r st sm) (hrc : rcOf S M' = rcOf S M) (hclo : cl = true ↔ M'.kind ≤ 9) (h11 : M'.kind ≠ 11)
    (hlt : phi S (Vc c D) M' < phi S (Vc c D) M ∨ (phi S (Vc c D) M' = phi S (Vc c D) M ∧ M'.fuel < M.fuel)) :
    ∃ m' ops ν, runT S.E.P (crowd gs w sl) 0 = (.next m', ops) ∧ Less (Nx S.E) S.n ν (meas S c D M q) ∧ InvE S ν m' (t ++ ops) :=
  h.step0 X sl ha hgo (T := fun _ => False) (Ch.refl _ w) (fun _ hb => hb.elim) rfl h.kw hm' hev hd h.grp hmode hrc hclo h11 hlt
theorem Inv.turns (X : ScOk S) (h : Inv S c D M ob oc q cl st sm gs w t) {a a' : Goroutine} {es : Array Event} {ad : Addr} {v : Value} {st' sm' : Int} (sl : Option (Nat × Nat)) (ha : gs[0]? = some a) (hgo : stepG S.E.P true a w = .go a' (w.setCell ad v) es) (had : ad.block = S.Wg) (hw : WgAt S.ty S.Wg (w.setCell ad v) st' sm') (hev : ∀ e ∈ es, EvM S w.heap.size e)
    {M' : MD} (hm' : MSit S M' c a') (hd : deafBehind (mdeaf M.kind) es = mdeaf M'.kind) (hmode : Mode c D M'.kind M'.r st' sm') (hrc : rcOf S M' = rcOf S M) (hclo : cl = true ↔ M'.kind ≤ 9) (h11 : M'.kind ≠ 11)
    (hlt : phi S (Vc c D) M' < phi S (Vc c D) M ∨ (phi S (Vc c D) M' = phi S (Vc c D) M ∧ M'.fuel < M.fuel)) :
    ∃ m' ops ν, runT S.E.P (crowd gs w sl) 0 = (.next m', ops) ∧ Less (Nx S.E) S.n ν (meas S c D M q) ∧ InvE S ν m' (t ++ ops) :=
  h.step0 X sl ha hgo (T := (· = ad.block)) Ch.setCell (fun b hb => by rw [hb]; exact had) (World.size_setCell ..) (KW.wg X h.kw had hw) hm' (by rw [World.size_setCell]; exact hev) hd hw hmode hrc hclo h11 hlt
theorem Mode.open_ {kd r : Nat} (h : Mode c D kd r st sm) (hk : 6 ≤ kd) : OpSt c D ∧ st = ((Vc c D + pend kd : Nat) : Int) * KK ∧ sm = 0 ∧ (kd = 6 → Vc c D ≤ r ∧ 1 ≤ r) := by
  rcases h with ⟨_, h⟩ | ⟨h1, _⟩ | ⟨h1, _⟩ | ⟨h1, _⟩ | ⟨h1, _⟩
  · exact h
  all_goals omega
theorem Mode.fin {kd r : Nat} (h : Mode c D kd r st sm) (hk : kd ≤ 3) : AllQ c D ∧ st = 0 ∧ sm = 0 := by
  rcases h with ⟨h1, _⟩ | ⟨h1, _⟩ | ⟨h1, _⟩ | ⟨h1, _⟩ | ⟨_, h⟩
  · omega
  · omega
  · omega
  · omega
  · exact h
theorem Vc_le : Vc c D ≤ c := by
  have := Go.ConcN.sumTo_le (f := fun i => cntW (D i)) (c := 1) (j := c) fun i _ => by unfold cntW; split <;> omega
  unfold Vc
  omega
theorem Inv.ends (X : ScOk S) (h : Inv S c D M ob oc q cl st sm gs w t) {a a' : Goroutine} (sl : Option (Nat × Nat)) (ha : gs[0]? = some a) (hk : M.kind = 1) (hcn : c = S.n) (hgo : stepG S.E.P true a w = .go a' w #[Go.ConcR.mk (.acquire (stA S.Wg))]) (ho : S.Out a') :
    ∃ gs' ops, runT S.E.P (crowd gs w sl) 0 = (.next (crowd gs' w sl), ops) ∧ Ends S gs' w (t ++ ops) := by
  have hj := X.j0
  have hsz0 := h.kw.size
  have hW := X.hW
  have hB : S.Wg < w.heap.size := by omega
  have hrun := runT_crowd_go (P := S.E.P) (sl := sl) (i := 0) ha (show stepG S.E.P (0 == 0) a w = _ from hgo)
  have hgu : ∀ op ∈ MemOp.ofEvents 0 a.frame.fn a.frame.place #[Go.ConcR.mk (.acquire (stA S.Wg))], op.g = 0 := fun op hop => by
    obtain ⟨e, _, rfl⟩ := Go.Conc.mem_ofEvents hop
    rfl
  have hne : ∀ k, k ≠ 0 → ∀ x, gs[k]? = some x → ((gs.map (Go.Conc.woken S.E.P a a' w)).setIfInBounds 0 a')[k]? = some (Go.Conc.woken S.E.P a a' w x) := fun k hk x hx => by
    rw [get_map_set _ _ _ _ (fun e => hk e.symm), hx]
    rfl
  obtain ⟨hall, _, _⟩ := h.mode.fin (by omega)
  have hev : ∀ e ∈ (#[Go.ConcR.mk (.acquire (stA S.Wg))] : Array Event), EvM S w.heap.size e := fun e he => by
    simp only [List.mem_toArray, List.mem_cons, List.not_mem_nil, or_false] at he
    subst he
    exact evm_mk (.inr (.inr (.inr rfl))) hB
  have hd0 : Deaf t 0 = 0 := by rw [h.deaf0, hk]; rfl
  have htr := tr_app0 X h (w' := w) rfl (fn := a.frame.fn) (pos := a.frame.place) hev
  have hq : (t ++ MemOp.ofEvents 0 a.frame.fn a.frame.place #[Go.ConcR.mk (.acquire (stA S.Wg))])[t.size]? = some { g := 0, fn := a.frame.fn, pos := a.frame.place, act := .mark (.acquire (stA S.Wg)) } := by
    rw [Array.getElem?_append_right (Nat.le_refl _)]
    simp [MemOp.ofEvents, Go.ConcR.mk, MemAct.ofEvent]
  refine ⟨_, _, hrun, a', fun k => if k < S.j0 then q k else (D (k - S.j0)).fuel, get_map_set_same _ _ _ (by rw [h.size]; omega), ho, by simp [h.size, hcn], ⟨fun k x hk0 hx => ?_, fun k hk' => ?_⟩, ?_, h.kw, ?_⟩
  · have hlt := (Array.getElem?_eq_some_iff.1 hx).1
    simp [h.size] at hlt
    rcases Nat.lt_or_ge k S.j0 with hl | hl
    · obtain ⟨g, hg, hqq⟩ := h.old k hk0 hl
      rw [hne k (by omega) g hg] at hx
      cases hx
      rw [woken_quitsD hqq, if_pos hl, Deaf_other t (g' := 0) (by omega) _ hgu]
      exact hqq
    · obtain ⟨g, hg, hs⟩ := h.wk (k - S.j0) (by omega)
      have e : S.j0 + (k - S.j0) = k := by omega
      rw [e] at hg
      rw [hne k (by omega) g hg] at hx
      cases hx
      have h1 := hall (k - S.j0) (by omega)
      have hqq : QuitsD S.E.P (D (k - S.j0)).fuel (D (k - S.j0)).deaf g := by
        rcases hs with hs | hs | hs | hs | hs | hs | hs | hs | hs | hs | hs | hs | hs | hs
        all_goals first | (have := hs.1; omega) | exact hs.2
      have hdw := h.deafW (k - S.j0) (by omega)
      rw [e] at hdw
      rw [woken_quitsD hqq, if_neg (by omega), Deaf_other t (g' := 0) (by omega) _ hgu, hdw]
      exact hqq
  · simp [h.size] at hk'
    rw [Deaf_other t (g' := 0) (by omega) _ hgu]
    exact h.deafN k hk'
  · refine htr.past (ad := stA S.Wg) (q := t.size) (fun k h1 h2 => ?_) (norel_app h.nor fun e he => (hev e he).2.2) (by rw [act?_of hq]) (by simp [Trace.g?, hq]) ⟨0, by simp [Trace.g?, hq], by rw [deaf_old (Nat.le_refl _)]; exact hd0⟩ ?_
    · obtain ⟨r, hr⟩ := h.rel (k - S.j0) (by omega) (by rw [hall (k - S.j0) (by omega)]; omega)
      rw [show S.j0 + (k - S.j0) = k by omega] at hr
      exact ⟨r, RelBy.appOther hr hgu (by omega), lt_of_act? hr.act⟩
    · rw [Deaf_own, hd0]
      rfl
  · obtain ⟨cs, h1, h2, h3⟩ := h.pay
    have hrc : rcOf S M = S.m := by simp [rcOf, hk]
    refine ⟨cs, h1, h2, fun p hp => ?_⟩
    rcases h3 p (by omega) with h4 | ⟨i, h4, _, h6⟩
    · exact h4
    · have := hall i h4
      omega
theorem Inv.look (X : ScOk S) (h : Inv S c D M ob oc q cl st sm gs w t) {a : Goroutine} {n : Nat} (sl : Option (Nat × Nat)) (ha : gs[0]? = some a) (hk : M.kind = 8 ∨ (M.kind = 7 ∧ n ≤ M.fuel)) (hcn : c = S.n) (hw : WkM S (AtW1 S) n a) :
    ∃ m' ops ν, runT S.E.P (crowd gs w sl) 0 = (.next m', ops) ∧ Less (Nx S.E) S.n ν (meas S c D M q) ∧ InvE S ν m' (t ++ ops) := by
  have hcl : cl = true := h.clo.2 (by omega)
  have hsz0 := h.kw.size
  have hW := X.hW
  have hB : S.Wg < w.heap.size := by omega
  have hVc := Vc_le (c := c) (D := D)
  obtain ⟨m2, m3, m4, _⟩ := h.mode.open_ (by omega)
  have hp : pend M.kind = 0 := by unfold pend; rw [if_neg (by omega)]
  have hph : 8 * Vc c D + 5 ≤ phi S (Vc c D) M := by
    unfold phi
    rcases hk with e | ⟨e, _⟩ <;> simp [e]
  have hrc : ∀ M' : MD, M'.kind ≤ 9 → rcOf S M' = rcOf S M := fun M' hm => by
    unfold rcOf
    rw [if_neg (by omega), if_neg (by omega), if_neg (by omega), if_neg (by omega)]
  have hd1 : mdeaf M.kind = 1 := by unfold mdeaf; rw [if_pos (by omega)]
  rcases wk_cases hw with hstop | ⟨n', g', es, hn, k1, k2, k3⟩
  · obtain ⟨_, hstop⟩ := hstop
    obtain ⟨g', k1, k2, k3⟩ := hstop (Vc c D) (by omega)
    have hst : WgAt S.ty S.Wg w ((Vc c D : Nat) * KK) 0 := by
      have := h.grp
      rw [m3, m4, hp] at this
      simpa using this
    have hev : ∀ e ∈ (#[rd (stA S.Wg)] : Array Event), EvM S w.heap.size e := fun e he => by
      simp only [List.mem_toArray, List.mem_cons, List.not_mem_nil, or_false] at he
      subst he
      exact evm_at rfl hB
    by_cases hv : Vc c D = 0
    · obtain ⟨n', hn'⟩ := k2 hv
      refine h.says X sl ha (k1 w h.kw hst) hev (M' := ⟨2, 0, n'⟩) (.inr (.inr (.inr (.inr (.inr (.inr (.inr (.inr (.inr (.inr (.inr (.inr (.inr (.inr (.inl ⟨rfl, hcn, hn'⟩))))))))))))))) (by rw [hd1]; rfl) (.inr (.inr (.inr (.inr ⟨by simp, fun i hi => ?_, ?_, m4⟩)))) (hrc _ (by simp)) (by rw [hcl]; simp) (by simp) (.inl (by simp [phi] at hph ⊢; omega))
      · have := m2 i hi
        have := Vc_zero hv hi
        omega
      · rw [m3, hp, hv]; rfl
    · obtain ⟨n', hn'⟩ := k3 hv
      refine h.says X sl ha (k1 w h.kw hst) hev (M' := ⟨6, Vc c D, n'⟩) (.inr (.inr (.inr (.inr (.inr (.inr (.inr (.inr (.inr (.inr (.inl ⟨rfl, hcn, hn'⟩))))))))))) (by rw [hd1]; rfl) (.inl ⟨by simp, m2, ?_, m4, fun _ => ⟨Nat.le_refl _, by simp; omega⟩⟩) (hrc _ (by simp)) (by rw [hcl]; simp) (by simp) (.inl ?_)
      · rw [m3, hp]; rfl
      · have : phi S (Vc c D) ⟨6, Vc c D, n'⟩ = 8 * Vc c D + 4 := by simp [phi]
        omega
  · refine h.silent0 X sl ha k1 k2 (M' := ⟨7, 0, n'⟩) (.inr (.inr (.inr (.inr (.inr (.inr (.inr (.inr (.inr (.inl ⟨rfl, hcn, k3⟩)))))))))) (by rw [hd1]; rfl) (.inl ⟨by simp, m2, ?_, m4, fun e => by simp at e⟩) (hrc _ (by simp)) (by rw [hcl]; simp) (by simp) ?_
    · rw [m3, hp]; rfl
    · have : phi S (Vc c D) ⟨7, 0, n'⟩ = 8 * Vc c D + 5 := by simp [phi]
      rcases hk with e | ⟨e, e'⟩
      · left
        have : phi S (Vc c D) M = 8 * Vc c D + 6 := by simp [phi, e]
        omega
      · right
        have : phi S (Vc c D) M = 8 * Vc c D + 5 := by simp [phi, e]
        exact ⟨by omega, by simp; omega⟩
theorem Inv.mainStep (X : ScOk S) (h : Inv S c D M ob oc q cl st sm gs w t) {a : Goroutine} (sl : Option (Nat × Nat)) (ha : gs[0]? = some a) (hrun : a.status = .running) :
    (∃ gs' ops, runT S.E.P (crowd gs w sl) 0 = (.next (crowd gs' w sl), ops) ∧ Ends S gs' w (t ++ ops)) ∨ ∃ m' ops ν, runT S.E.P (crowd gs w sl) 0 = (.next m', ops) ∧ Less (Nx S.E) S.n ν (meas S c D M q) ∧ InvE S ν m' (t ++ ops) := by
  have hsz0 := h.kw.size
  have hW := X.hW
  have hB : S.Wg < w.heap.size := by omega
  have hVc := Vc_le (c := c) (D := D)
  obtain ⟨a1, ha1, hm⟩ := h.main
  rw [ha] at ha1
  cases ha1
  have hmode := h.mode
  have hclo := h.clo
  have hd0 : ∀ {m : Mark}, (m = .disable ∨ m = .enable ∨ m = .releaseMerge (stA S.Wg) ∨ m = .acquire (stA S.Wg)) → ∀ e ∈ (#[Go.ConcR.mk m] : Array Event), EvM S w.heap.size e := fun hm e he => by
    simp only [List.mem_toArray, List.mem_cons, List.not_mem_nil, or_false] at he
    subst he
    exact evm_mk hm hB
  have hrd : ∀ e ∈ (#[rd (stA S.Wg)] : Array Event), EvM S w.heap.size e := fun e he => by
    simp only [List.mem_toArray, List.mem_cons, List.not_mem_nil, or_false] at he
    subst he
    exact evm_at rfl hB
  have hrw : ∀ e ∈ (#[rd (stA S.Wg), wr (stA S.Wg)] : Array Event), EvM S w.heap.size e := fun e he => by
    simp only [List.mem_toArray, List.mem_cons, List.not_mem_nil, or_false] at he
    rcases he with rfl | rfl <;> exact evm_at rfl hB
  have hsm : ∀ e ∈ semEvents (smA S.Wg), EvM S w.heap.size e := fun e he => by
    simp only [semEvents, List.mem_toArray, List.mem_cons, List.not_mem_nil, or_false] at he
    rcases he with rfl | rfl | rfl | rfl
    · exact evm_mk (.inl rfl) hB
    · exact evm_at rfl hB
    · exact evm_at rfl hB
    · exact evm_mk (.inr (.inl rfl)) hB
  have hwalk : ∀ {a' : Goroutine} {es : Array Event} {n : Nat}, (∀ w, KW S w → stepG S.E.P true a w = .go a' w es) → (∀ e ∈ es, RdM S e) → MSit S ⟨M.kind, M.r, n⟩ c a' → n < M.fuel → M.kind ≠ 11 →
      ∃ m' ops ν, runT S.E.P (crowd gs w sl) 0 = (.next m', ops) ∧ Less (Nx S.E) S.n ν (meas S c D M q) ∧ InvE S ν m' (t ++ ops) := fun k1 k2 k3 k4 k5 =>
    h.silent0 X sl ha k1 k2 k3 rfl hmode rfl hclo k5 (.inr ⟨rfl, k4⟩)
  rcases hm with ⟨h1, h2, h3, hw⟩ | ⟨h1, h2, h3, hw⟩ | ⟨h1, h2, h3, hw⟩ | ⟨h1, h2, h3, hw⟩ | ⟨h1, h2, h3, f, hf, hw⟩ | ⟨h1, _, _, g, _, _, rfl⟩ | ⟨h1, h2, hw⟩ | ⟨h1, h2, hw⟩ | ⟨h1, h2, hw⟩ | ⟨h1, h2, hw⟩ | ⟨h1, h2, hw⟩ | ⟨h1, h2, f, hf, hw⟩ | ⟨h1, _, g, _, _, rfl⟩ | ⟨h1, h2, hw⟩ | ⟨h1, h2, hw⟩ | ⟨h1, h2, hw⟩
  ·
    right
    rcases wk_cases hw with hstop | ⟨n, g', es, hn, k1, k2, k3⟩
    · obtain ⟨_, g', k1, n, hn⟩ := hstop
      obtain ⟨m2, m3, m4, _⟩ := hmode.open_ (by omega)
      exact h.says X sl ha (k1 w h.kw) (hd0 (.inl rfl)) (M' := ⟨15, M.r, n⟩) (.inr (.inl ⟨rfl, h2, h3, hn⟩)) (by rw [h1]; rfl) (.inl ⟨by simp, m2, by rw [m3, h1]; rfl, m4, fun e => by simp at e⟩) (by simp [rcOf, h1]) (by rw [hclo, h1]; simp) (by simp) (.inl (by simp [phi, h1]))
    · exact hwalk k1 k2 (n := n) (.inl ⟨h1, h2, h3, k3⟩) (by omega) (by omega)
  ·
    right
    rcases wk_cases hw with hstop | ⟨n, g', es, hn, k1, k2, k3⟩
    · obtain ⟨_, hstop⟩ := hstop
      obtain ⟨m2, m3, m4, _⟩ := hmode.open_ (by omega)
      obtain ⟨g', k1, n, hn⟩ := hstop (Vc c D) (by omega)
      have hst : WgAt S.ty S.Wg w ((Vc c D : Nat) * KK) 0 := by
        have := h.grp
        rw [m3, m4, h1] at this
        simpa [pend] using this
      exact h.turns X sl ha (k1 w h.kw hst) rfl (hst.setSt _) hrw (M' := ⟨14, M.r, n⟩) (.inr (.inr (.inl ⟨rfl, h2, h3, hn⟩))) (by rw [h1]; rfl) (.inl ⟨by simp, m2, by simp [pend], rfl, fun e => by simp at e⟩) (by simp [rcOf, h1]) (by rw [hclo, h1]; simp) (by simp) (.inl (by simp [phi, h1]))
    · exact hwalk k1 k2 (n := n) (.inr (.inl ⟨h1, h2, h3, k3⟩)) (by omega) (by omega)
  ·
    right
    rcases wk_cases hw with hstop | ⟨n, g', es, hn, k1, k2, k3⟩
    · obtain ⟨_, g', k1, n, hn⟩ := hstop
      obtain ⟨m2, m3, m4, _⟩ := hmode.open_ (by omega)
      exact h.says X sl ha (k1 w h.kw) (hd0 (.inr (.inl rfl))) (M' := ⟨13, M.r, n⟩) (.inr (.inr (.inr (.inl ⟨rfl, h2, h3, hn⟩)))) (by rw [h1]; rfl) (.inl ⟨by simp, m2, by rw [m3, h1]; rfl, m4, fun e => by simp at e⟩) (by simp [rcOf, h1]) (by rw [hclo, h1]; simp) (by simp) (.inl (by simp [phi, h1]))
    · exact hwalk k1 k2 (n := n) (.inr (.inr (.inl ⟨h1, h2, h3, k3⟩))) (by omega) (by omega)
  ·
    right
    rcases wk_cases hw with hstop | ⟨n, g', es, hn, k1, k2, k3⟩
    · obtain ⟨_, g', x, k1, _, ⟨n, hn⟩, k2⟩ := hstop
      exact h.spawn X sl ha h1 (.inr (.inr (.inr (.inl ⟨h1, h2, h3, hw⟩)))) (k1 w h.kw) hn k2
    · exact hwalk k1 k2 (n := n) (.inr (.inr (.inr (.inl ⟨h1, h2, h3, k3⟩)))) (by omega) (by omega)
  ·
    right
    rcases wk_cases hw with hstop | ⟨n, g', es, hn, k1, k2, k3⟩
    · exact h.send X sl ha h1 h3 h2 (by omega) hstop
    · exact hwalk k1 k2 (n := n + 1) (.inr (.inr (.inr (.inr (.inl ⟨h1, h2, h3, n, rfl, k3⟩))))) (by omega) (by omega)
  · cases hrun
  ·
    right
    rcases wk_cases hw with hstop | ⟨n, g', es, hn, k1, k2, k3⟩
    · obtain ⟨_, hmw, g', hst, k1, n, hn⟩ := hstop
      obtain ⟨s, r, hch⟩ := h.chn
      have hcl := h.open_ (by omega)
      rw [hcl] at hch
      exact h.close X sl ha h1 hmw hst hch (k1 w s r h.kw hch) hn
    · exact hwalk k1 k2 (n := n) (.inr (.inr (.inr (.inr (.inr (.inr (.inl ⟨h1, h2, k3⟩))))))) (by omega) (by omega)
  ·
    right
    rcases wk_cases hw with hstop | ⟨n, g', es, hn, k1, k2, k3⟩
    · obtain ⟨_, g', k1, n, hn⟩ := hstop
      obtain ⟨m2, m3, m4, _⟩ := hmode.open_ (by omega)
      exact h.says X sl ha (k1 w h.kw) (hd0 (.inl rfl)) (M' := ⟨8, M.r, n⟩) (.inr (.inr (.inr (.inr (.inr (.inr (.inr (.inr (.inl ⟨rfl, h2, hn⟩))))))))) (by rw [h1]; rfl) (.inl ⟨by simp, m2, by rw [m3, h1]; rfl, m4, fun e => by simp at e⟩) (by simp [rcOf, h1]) (by rw [hclo, h1]; simp) (by simp) (.inl (by simp [phi, h1]; omega))
    · exact hwalk k1 k2 (n := n) (.inr (.inr (.inr (.inr (.inr (.inr (.inr (.inl ⟨h1, h2, k3⟩)))))))) (by omega) (by omega)
  ·
    right
    rcases wk_cases hw with hstop | ⟨n, g', es, hn, k1, k2, k3⟩
    · obtain ⟨_, n, hn⟩ := X.aw a hstop
      exact h.look X sl ha (.inl h1) h2 hn
    · exact hwalk k1 k2 (n := n) (.inr (.inr (.inr (.inr (.inr (.inr (.inr (.inr (.inl ⟨h1, h2, k3⟩))))))))) (by omega) (by omega)
  ·
    right
    exact h.look X sl ha (.inr ⟨h1, Nat.le_refl _⟩) h2 hw
  ·
    right
    rcases wk_cases hw with hstop | ⟨n, g', es, hn, k1, k2, k3⟩
    · obtain ⟨_, hstop⟩ := hstop
      obtain ⟨m2, m3, m4, m5⟩ := hmode.open_ (by omega)
      obtain ⟨m5, m6⟩ := m5 h1
      obtain ⟨k1, k2⟩ := hstop (Vc c D) (by omega)
      have hst : WgAt S.ty S.Wg w ((Vc c D : Nat) * KK) 0 := by
        have := h.grp
        rw [m3, m4, h1] at this
        simpa [pend] using this
      by_cases hv : Vc c D = M.r
      · obtain ⟨g', k3, n, hn⟩ := k1 hv
        exact h.turns X sl ha (k3 w h.kw hst) rfl (hst.setSt _) hrw (M' := ⟨5, 0, n + 1⟩) (.inr (.inr (.inr (.inr (.inr (.inr (.inr (.inr (.inr (.inr (.inr (.inl ⟨rfl, h2, n, rfl, hn⟩)))))))))))) (by rw [h1]; rfl) (.inr (.inl ⟨.inl rfl, m2, by omega, rfl, rfl⟩)) (by simp [rcOf, h1]) (by rw [hclo, h1]; simp) (by simp) (.inl (by simp [phi, h1]; omega))
      · obtain ⟨g', k3, n, hn⟩ := k2 hv
        exact h.says X sl ha (k3 w h.kw hst) hrd (M' := ⟨8, M.r, n⟩) (.inr (.inr (.inr (.inr (.inr (.inr (.inr (.inr (.inl ⟨rfl, h2, hn⟩))))))))) (by rw [h1]; rfl) (.inl ⟨by simp, m2, by rw [m3, h1]; rfl, m4, fun e => by simp at e⟩) (by simp [rcOf, h1]) (by rw [hclo, h1]; simp) (by simp) (.inl (by simp [phi, h1]; omega))
    · exact hwalk k1 k2 (n := n) (.inr (.inr (.inr (.inr (.inr (.inr (.inr (.inr (.inr (.inr (.inl ⟨h1, h2, k3⟩))))))))))) (by omega) (by omega)
  ·
    right
    rcases wk_cases hw with hstop | ⟨n, g', es, hn, k1, k2, k3⟩
    · have hstop' := hstop
      obtain ⟨_, _, k1, g', k2, n, hn⟩ := hstop
      have hblk : ∀ {st' : Int}, WgAt S.ty S.Wg w st' 0 → Mode c D 4 M.r st sm → ∃ m' ops ν, runT S.E.P (crowd gs w sl) 0 = (.next m', ops) ∧ Less (Nx S.E) S.n ν (meas S c D M q) ∧ InvE S ν m' (t ++ ops) := fun {st'} hst hmo =>
        h.says X sl ha (k1 w h.kw st' hst) (fun e he => by simp at he) (M' := ⟨4, M.r, 0⟩) (.inr (.inr (.inr (.inr (.inr (.inr (.inr (.inr (.inr (.inr (.inr (.inr (.inl ⟨rfl, h2, a, rfl, hstop', rfl⟩))))))))))))) (by rw [h1]; rfl) hmo (by simp [rcOf, h1]) (by rw [hclo, h1]; simp) (by simp) (.inr ⟨by simp [phi, h1], by simp; omega⟩)
      have hg := h.grp
      rcases hmode with ⟨m1, _⟩ | ⟨m1, m2, m3, m4, m5⟩ | ⟨m1, m2, m3⟩ | ⟨m1, m2, m3, m4⟩ | ⟨m1, _⟩
      · omega
      · rw [m5] at hg
        exact hblk hg (.inr (.inl ⟨.inr rfl, m2, m3, m4, m5⟩))
      · rw [m2] at hg
        exact hblk hg (.inr (.inr (.inl ⟨.inr rfl, m2, m3⟩)))
      · rw [m3, m4] at hg
        exact h.turns X sl ha (k2 w h.kw hg) rfl (hg.setSm _) hsm (M' := ⟨3, 0, n⟩) (.inr (.inr (.inr (.inr (.inr (.inr (.inr (.inr (.inr (.inr (.inr (.inr (.inr (.inl ⟨rfl, h2, hn⟩)))))))))))))) (by rw [h1]; rfl) (.inr (.inr (.inr (.inr ⟨by simp, m2, rfl, rfl⟩)))) (by simp [rcOf, h1]) (by rw [hclo, h1]; simp) (by simp) (.inl (by simp [phi, h1]))
      · omega
    · exact hwalk k1 k2 (n := n + 1) (.inr (.inr (.inr (.inr (.inr (.inr (.inr (.inr (.inr (.inr (.inr (.inl ⟨h1, h2, n, rfl, k3⟩)))))))))))) (by omega) (by omega)
  · cases hrun
  ·
    right
    rcases wk_cases hw with hstop | ⟨n, g', es, hn, k1, k2, k3⟩
    · obtain ⟨_, g', k1, n, hn⟩ := hstop
      obtain ⟨m1, m2, m3⟩ := hmode.fin (by omega)
      have hg := h.grp
      rw [m2, m3] at hg
      exact h.says X sl ha (k1 w h.kw hg) hrd (M' := ⟨2, 0, n⟩) (.inr (.inr (.inr (.inr (.inr (.inr (.inr (.inr (.inr (.inr (.inr (.inr (.inr (.inr (.inl ⟨rfl, h2, hn⟩))))))))))))))) (by rw [h1]; rfl) (.inr (.inr (.inr (.inr ⟨by simp, m1, m2, m3⟩)))) (by simp [rcOf, h1]) (by rw [hclo, h1]; simp) (by simp) (.inl (by simp [phi, h1]))
    · exact hwalk k1 k2 (n := n) (.inr (.inr (.inr (.inr (.inr (.inr (.inr (.inr (.inr (.inr (.inr (.inr (.inr (.inl ⟨h1, h2, k3⟩)))))))))))))) (by omega) (by omega)
  ·
    right
    rcases wk_cases hw with hstop | ⟨n, g', es, hn, k1, k2, k3⟩
    · obtain ⟨_, g', k1, n, hn⟩ := hstop
      obtain ⟨m1, m2, m3⟩ := hmode.fin (by omega)
      exact h.says X sl ha (k1 w h.kw) (hd0 (.inr (.inl rfl))) (M' := ⟨1, 0, n⟩) (.inr (.inr (.inr (.inr (.inr (.inr (.inr (.inr (.inr (.inr (.inr (.inr (.inr (.inr (.inr ⟨rfl, h2, hn⟩))))))))))))))) (by rw [h1]; rfl) (.inr (.inr (.inr (.inr ⟨by simp, m1, m2, m3⟩)))) (by simp [rcOf, h1]) (by rw [hclo, h1]; simp) (by simp) (.inl (by simp [phi, h1]))
    · exact hwalk k1 k2 (n := n) (.inr (.inr (.inr (.inr (.inr (.inr (.inr (.inr (.inr (.inr (.inr (.inr (.inr (.inr (.inl ⟨h1, h2, k3⟩))))))))))))))) (by omega) (by omega)
  ·
    rcases wk_cases hw with hstop | ⟨n, g', es, hn, k1, k2, k3⟩
    · obtain ⟨_, g', k1, k2⟩ := hstop
      exact .inl (h.ends X sl ha h1 h2 (k1 w h.kw) k2)
    · exact .inr (hwalk k1 k2 (n := n) (.inr (.inr (.inr (.inr (.inr (.inr (.inr (.inr (.inr (.inr (.inr (.inr (.inr (.inr (.inr ⟨h1, h2, k3⟩))))))))))))))) (by omega) (by omega))
end
end Go.Proofs.YtaablbmgagiajabGreatDoor.Ren
namespace Go.Proofs.YtaablbmgagiajabGreatDoor.Ren
open Go Go.Conc
open Go.ConcR (KK WgAt stA smA rd wr)
open Go.ConcN (RelBy sumTo upd upd_same upd_ne sumTo_upd sumTo_congr le_sumTo get_map_set get_map_set_same)
section
variable {S : Sc} {c : Nat} {D : Nat → WD} {M : MD} {ob oc q : Nat → Nat} {cl : Bool} {st sm : Int} {gs : Array Goroutine} {w : World} {t : Trace}
theorem Inv.oldStep (X : ScOk S) (h : Inv S c D M ob oc q cl st sm gs w t) {k : Nat} (hk0 : 0 < k) (hkj : k < S.j0) {g : Goroutine} (sl : Option (Nat × Nat)) (hg : gs[k]? = some g) (hrun : g.status = .running) :
    ∃ m' ops ν, runT S.E.P (crowd gs w sl) k = (.next m', ops) ∧ Less (Nx S.E) S.n ν (meas S c D M q) ∧ InvE S ν m' (t ++ ops) := by
  obtain ⟨g1, hg1, hq⟩ := h.old k hk0 hkj
  rw [hg] at hg1
  cases hg1
  generalize hn : q k = n at hq
  cases n with
  | zero =>
    rw [hq.1] at hrun
    cases hrun
  | succ n =>
    rcases hq with ⟨hq, _⟩ | ⟨_, g', es, k1, k2, k3⟩
    · rw [hq] at hrun
      cases hrun
    · have hb : (k == 0) = false := by simp; omega
      have hrunT := runT_crowd_go (P := S.E.P) (sl := sl) (i := k) hg (by rw [hb]; exact k2 w)
      have hgu : ∀ op ∈ MemOp.ofEvents k g.frame.fn g.frame.place es, op.g = k := fun op hop => by
        obtain ⟨e, _, rfl⟩ := Go.Conc.mem_ofEvents hop
        rfl
      have hnt : ∀ op ∈ MemOp.ofEvents k g.frame.fn g.frame.place es, op.act.touch? = none ∧ (∀ B, op.act.low B) ∧ op.act ≠ .mark (.release (stA S.Wg)) := fun op hop => by
        obtain ⟨e, he, rfl⟩ := Go.Conc.mem_ofEvents hop
        refine ⟨touch_mute (k1 e he), fun B => low_mute (k1 e he) B, ?_⟩
        have hmu := k1 e he
        intro hx
        obtain ⟨loc, wr, sy⟩ := e
        cases loc with
        | mark m =>
          simp only [MemAct.ofEvent, MemAct.mark.injEq] at hx
          subst hx
          cases hmu
        | obj c => cases wr <;> cases sy <;> simp [MemAct.ofEvent] at hx
        | _ => simp [MemAct.ofEvent] at hx
      obtain ⟨s, r, hcn⟩ := h.chn
      obtain ⟨a, ha, hm⟩ := h.main
      obtain ⟨M', hm', hM', _⟩ := hm.woken X g g' hcn h.clo
      have hcr : rcOf S M' = rcOf S M := rcOf_woken S hM'
      have hkd : M'.kind = M.kind ∨ (M.kind = 4 ∧ M'.kind = 5) := by
        rcases hM' with rfl | ⟨h1, _, rfl⟩
        · exact .inl rfl
        · exact .inr ⟨h1, rfl⟩
      have hr' : M'.r = M.r := by
        rcases hM' with rfl | ⟨_, _, rfl⟩ <;> rfl
      have hf' : M'.fuel ≤ M.fuel + 1 := by
        rcases hM' with rfl | ⟨_, _, rfl⟩
        · omega
        · simp
      have hne : ∀ k', k' ≠ k → ∀ x, gs[k']? = some x → ((gs.map (Go.Conc.woken S.E.P g g' w)).setIfInBounds k g')[k']? = some (Go.Conc.woken S.E.P g g' w x) := fun k' hk x hx => by
        rw [get_map_set _ _ _ _ (fun e => hk e.symm), hx]
        rfl
      have hdo : ∀ k', k' ≠ k → Deaf (t ++ MemOp.ofEvents k g.frame.fn g.frame.place es) k' = Deaf t k' := fun k' hk' => Deaf_other t (g' := k) (fun e => hk' e.symm) _ hgu
      refine ⟨_, _, meas S c D M' (upd q k n), hrunT, ?_, c, D, M', ob, oc, upd q k n, cl, st, sm, _, w, sl, rfl, ⟨?_, ?_, ?_, ?_, ?_, ?_, ?_, h.kw, ?_, h.obl, ?_, ?_, ?_, ?_, h.grp, ?_, h.chn, ?_, h.opn, ?_, ?_, ?_, h.acc⟩, rfl⟩
      · have e1 : sumTo S.j0 (upd q k n) + q k = sumTo S.j0 q + n := sumTo_upd q n (fun x => x) hkj
        unfold Less meas
        simp only [hcr, phi_woken S _ hM']
        right
        exact ⟨by first | rfl | trivial, .inr ⟨by first | rfl | trivial, by omega⟩⟩
      · simp [h.size]
      · exact ⟨_, hne 0 (by omega) a ha, hm'⟩
      · intro k' hk0' hkj'
        by_cases hkk : k' = k
        · subst hkk
          rw [upd_same, Deaf_own]
          exact ⟨g', get_map_set_same _ _ _ (by rw [h.size]; omega), k3⟩
        · obtain ⟨x, hx, hqx⟩ := h.old k' hk0' hkj'
          refine ⟨_, hne k' hkk x hx, ?_⟩
          rw [woken_quitsD hqx, upd_ne q n hkk, hdo k' hkk]
          exact hqx
      · intro i' hi'
        obtain ⟨x, hx, hs⟩ := h.wk i' hi'
        refine ⟨_, hne _ (by omega) x hx, ?_⟩
        rw [hs.woken X g g' hcn]
        exact hs
      · rw [hdo 0 (by omega), h.deaf0]
        rcases hkd with h1 | ⟨h1, h2⟩
        · rw [h1]
        · rw [h1, h2]; rfl
      · intro i' hi'
        rw [hdo _ (by omega)]
        exact h.deafW i' hi'
      · intro k' hk'
        rw [hdo _ (by omega)]
        exact h.deafN k' hk'
      · have := Tr.appNs (MemOp.ofEvents k g.frame.fn g.frame.place es).toList h.tr fun y hy => by
          have hy : y ∈ MemOp.ofEvents k g.frame.fn g.frame.place es := by simpa using hy
          exact ⟨by rw [hgu y hy]; omega, (hnt y hy).2.1 _, (hnt y hy).1⟩
        simpa using this
      · rw [hcr]; exact h.ocl
      · rw [hcr]
        intro op hop b hb p' hp' ad h1 h2
        rcases Array.mem_append.1 hop with hop | hop
        · exact h.oct op hop b hb p' hp' ad h1 h2
        · rw [(hnt op hop).1] at hb
          cases hb
      · intro i' hi' hs
        obtain ⟨r, hr⟩ := h.rel i' hi' hs
        exact ⟨r, RelBy.appOther hr hgu (by omega)⟩
      · exact NoRelease.app h.nor fun op hop => (hnt op hop).2.2
      · rw [hr']
        rcases hkd with h1 | ⟨h1, h2⟩
        · rw [h1]; exact h.mode
        · have := h.mode
          rw [h1] at this
          rw [h2]
          exact this.wake
      · rw [h.clo]
        rcases hkd with h1 | ⟨h1, h2⟩ <;> omega
      · rw [hcr]; exact h.pay
      · rw [hcr]; exact h.plc
      · intro e
        exact h.npk (by omega)
theorem Inv.at (h : Inv S c D M ob oc q cl st sm gs w t) (d : Nat) : Inv S c D M ob oc q cl st sm gs (w.at d) t where
  size := h.size
  main := h.main
  old := h.old
  wk i hi := by
    obtain ⟨g, hg, hs⟩ := h.wk i hi
    exact ⟨g, hg, hs.other (Ch.at (fun _ => False) w d) (fun _ hb => hb.elim) (fun _ _ hb => hb.elim) fun _ _ he => he⟩
  deaf0 := h.deaf0
  deafW := h.deafW
  deafN := h.deafN
  kw := h.kw.at d
  tr := h.tr
  obl := h.obl
  ocl := h.ocl
  oct := h.oct
  rel := h.rel
  nor := h.nor
  grp := h.grp
  mode := h.mode
  chn := h.chn
  clo := h.clo
  opn := h.opn
  pay := h.pay
  plc := h.plc
  npk := h.npk
  acc := h.acc
end
theorem all_step {S : Sc} (X : ScOk S) (μ : Nat × (Nat → Cfg) × Nat) (m : Machine) (t : Trace) (h : InvE S μ m t) :
    (∃ gs' w' sl' ops, stepT S.E.P m = (.next (crowd gs' w' sl'), ops) ∧ Ends S gs' w' (t ++ ops)) ∨ ∃ m' ops ν, stepT S.E.P m = (.next m', ops) ∧ Less (Nx S.E) S.n ν μ ∧ InvE S ν m' (t ++ ops) := by
  obtain ⟨c, D, M, ob, oc, q, cl, st, sm, gs, w, sl, rfl, h, rfl⟩ := h
  obtain ⟨haw, hsome⟩ := h.awake X
  obtain ⟨k, g, d, sl', hg, hrun, hstep⟩ := crowd_pick (P := S.E.P) (w := w) (sl := sl) haw hsome
  rw [hstep]
  have h' := h.at d
  have hj := X.j0
  have hlt := (Array.getElem?_eq_some_iff.1 hg).1
  rw [h.size] at hlt
  rcases Nat.eq_zero_or_pos k with rfl | hpos
  · rcases h'.mainStep X sl' hg hrun with ⟨gs', ops, h1, h2⟩ | h1
    · exact .inl ⟨gs', _, sl', ops, h1, h2⟩
    · exact .inr h1
  · rcases Nat.lt_or_ge k S.j0 with hl | hl
    · exact .inr (h'.oldStep X hpos hl sl' hg hrun)
    · have e : S.j0 + (k - S.j0) = k := by omega
      rw [← e] at hg ⊢
      rcases Nat.lt_or_ge 16 (D (k - S.j0)).stage with h17 | h17
      · exact .inr (h'.upper X (by omega) sl' hg hrun h17)
      · exact .inr (h'.lower X (by omega) sl' hg hrun h17)
theorem all_run {S : Sc} (X : ScOk S) {μ : Nat × (Nat → Cfg) × Nat} {m : Machine} {t : Trace} (h : InvE S μ m t) : ∃ N gs' w' sl' t', runNT S.E.P N m t = (.next (crowd gs' w' sl'), t') ∧ Ends S gs' w' t' := by
  have hG : ∀ {μ m t}, InvE S μ m t → ∀ i, Acc (Nx S.E) (μ.2.1 i) := fun h => by
    obtain ⟨c, D, M, ob, oc, q, cl, st, sm, gs, w, sl, rfl, h, rfl⟩ := h
    exact h.acc
  have hwf := wf_less (r := Nx S.E) (n := S.n) (fun x => ∀ i, Acc (Nx S.E) (x.2.1 i)) fun x hx i _ => hx i
  have key : ∀ x : {x : Nat × (Nat → Cfg) × Nat // ∀ i, Acc (Nx S.E) (x.2.1 i)}, ∀ m t, InvE S x.1 m t → ∃ N gs' w' sl' t', runNT S.E.P N m t = (.next (crowd gs' w' sl'), t') ∧ Ends S gs' w' t' := fun x => by
    induction x using hwf.induction with
    | h x ih =>
      intro m t h
      rcases all_step X x.1 m t h with ⟨gs', w', sl', ops, h1, h2⟩ | ⟨m', ops, ν, h1, h2, h3⟩
      · exact ⟨1, gs', w', sl', t ++ ops, by simp [runNT, h1], h2⟩
      · obtain ⟨N, gs', w', sl', t', k1, k2⟩ := ih ⟨ν, hG h3⟩ h2 m' (t ++ ops) h3
        exact ⟨N + 1, gs', w', sl', t', by simp only [runNT, h1]; exact k1, k2⟩
  exact key ⟨μ, hG h⟩ m t h
theorem all_start {S : Sc} (X : ScOk S) {gs : Array Goroutine} {a : Goroutine} {t : Trace} {q : Nat → Nat} {B : Nat} (sl : Option (Nat × Nat)) (hsz : gs.size = S.j0) (ha : gs[0]? = some a) (hL : Leavers S.E.P t gs q) (hP : Past S.Shun B t) (hB : B ≤ S.w0.heap.size) (hWB : B ≤ S.Wg) (hs0 : S.s0 = t.size)
    (hAn : ∀ op ∈ t, ∀ a, op.act.touch? = some a → ∀ ad : Addr, ad.block = S.An → a.loc ≠ .cell ad) (hkw : KW S S.w0) (hwg : WgAt S.ty S.Wg S.w0 0 0) {s r : Nat} (hch : S.w0.heap[S.Cn]? = some (.chan 0 #[] false s r false)) (hm : Spw S S.n a) :
    ∃ N gs' w' sl' t', runNT S.E.P N (crowd gs S.w0 sl) t = (.next (crowd gs' w' sl'), t') ∧ Ends S gs' w' t' := by
  have hj := X.j0
  have hn := X.hn
  obtain ⟨M, hM, hrc, _, hkd⟩ := spw_sit hm (Nat.le_refl _)
  rw [Nat.sub_self] at hM
  have h13 : M.kind = 16 := by
    have := hM.range.2.2.2.1
    omega
  refine all_run X (μ := _) ⟨0, fun _ => ⟨1, 0, 0, 0, ([], #[])⟩, M, fun _ => 0, fun _ => 0, q, false, 0, 0, gs, S.w0, sl, rfl, ⟨by omega, ⟨a, ha, hM⟩, fun k h1 h2 => ?_, fun i hi => by omega, ?_, fun i hi => by omega, fun k hk => hL.above k (by omega), hkw, ?_, fun b hb => absurd rfl hb, fun _ _ => rfl, fun op hop b hb p _ ad h1 _ => hAn op hop b hb ad h1, fun i hi => by omega, ?_, hwg, ?_, ⟨s, r, hch⟩, ?_, fun _ i hi => by omega, ?_, fun i hi => by omega, fun e => by omega, fun i => Acc.intro _ fun y hy => absurd rfl hy.1⟩, rfl⟩
  · have hlt : k < gs.size := by omega
    exact ⟨gs[k], Array.getElem?_eq_getElem hlt, hL.old k _ h1 (Array.getElem?_eq_getElem hlt)⟩
  · rw [hP.hears, h13]; rfl
  · have h1 := Tr.of_past (Sh := S.Sh) (Rd := S.Rd) hP hj (by
      rintro l ⟨ad, rfl, h1⟩ h2
      have h2 : ad.block < B := h2
      omega)
    have h2 : Tr S.Sh S.Shun S.Rd (fun _ _ => False) S.s0 S.j0 (S.j0 + 0) B t := by rw [hs0]; exact h1
    refine (h2.give (fun k l hf => hf.elim) fun k l hl => ?_).more hB
    obtain ⟨hk, ⟨ad, rfl, ⟨_, h1⟩ | ⟨_, h1⟩⟩ | ⟨b, rfl, h1⟩⟩ := hl <;> exact absurd h1.symm hk
  · intro i hi
    obtain ⟨op, hop, he⟩ := Option.map_eq_some_iff.1 hi
    have := hP.seen op (Go.Conc.mem_of_getElem? hop)
    rw [he] at this
    have h2 : S.Wg < B := this
    omega
  · refine .inl ⟨by omega, fun i hi => by omega, ?_, rfl, fun e => by omega⟩
    rw [h13]
    rfl
  · rw [h13]; simp
  · obtain ⟨cs, h1, h2⟩ := hkw.pay
    exact ⟨cs, h1, h2, fun p hp => by omega⟩
end Go.Proofs.YtaablbmgagiajabGreatDoor.Ren
