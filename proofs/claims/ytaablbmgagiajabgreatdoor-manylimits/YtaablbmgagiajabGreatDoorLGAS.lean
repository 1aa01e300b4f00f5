import Derived.Test.YtaablbmgagiajabGreatDoorLGAR
namespace Go.Proofs.YtaablbmgagiajabGreatDoor.Ren
open Go Go.Conc
open Go.ConcR (KK WgAt stA smA rd wr mk)
open Go.ConcN (RelBy sumTo upd upd_same upd_ne sumTo_upd sumTo_congr le_sumTo)
section
variable {S : Sc} {c : Nat} {D : Nat → WD} {M : MD} {ob oc q : Nat → Nat} {cl : Bool} {st sm : Int} {gs : Array Goroutine} {w : World} {t : Trace}
theorem KW.wg (X : ScOk S) (h : KW S w) {a : Addr} {v : Value} (ha : a.block = S.Wg) {st' sm' : Int} (hw : WgAt S.ty S.Wg (w.setCell a v) st' sm') : KW S (w.setCell a v) := by
  have hother : ∀ b, b ≠ S.Wg → (w.setCell a v).heap[b]? = w.heap[b]? := fun b hb => heap_setCell_other w _ b v (by rw [ha]; exact hb)
  obtain ⟨cs, q1, q2⟩ := h.pay
  obtain ⟨c', s', r', q3⟩ := h.chn
  exact ⟨fun b hb n1 n2 n3 => (hother b n1).trans (h.low b hb n1 n2 n3), ⟨_, _, hw⟩, ⟨cs, (hother _ fun e => X.wa e.symm).trans q1, q2⟩, ⟨c', s', r', (hother _ fun e => X.wc e.symm).trans q3⟩, h.os, h.out, h.tape, by rw [World.size_setCell]; exact h.size⟩
theorem evk_at {ob' : Nat → Nat} {k B : Nat} {a : Addr} {b : Bool} (ha : a.block = S.Wg) (hB : S.Wg < B) : EvK S ob' oc k B ⟨.cell a, b, true⟩ := by
  refine ⟨fun x hx _ => ?_, by show a.block < B; omega, by simp⟩
  simp only [MemAct.ofEvent, MemAct.touch?, Option.some.injEq] at hx
  subst hx
  exact .inl ⟨⟨a, rfl, ha⟩, rfl⟩
theorem evk_mk {ob' : Nat → Nat} {k B : Nat} {m : Mark} (hm : m = .disable ∨ m = .enable ∨ m = .releaseMerge (stA S.Wg) ∨ m = .acquire (stA S.Wg)) (hB : S.Wg < B) : EvK S ob' oc k B (mk m) := by
  rcases hm with rfl | rfl | rfl | rfl
  · exact ⟨fun x hx => by simp [mk, MemAct.ofEvent, MemAct.touch?] at hx, trivial, by simp [mk]⟩
  · exact ⟨fun x hx => by simp [mk, MemAct.ofEvent, MemAct.touch?] at hx, trivial, by simp [mk]⟩
  · exact ⟨fun x hx => by simp [mk, MemAct.ofEvent, MemAct.touch?] at hx, hB, by simp [mk]⟩
  · exact ⟨fun x hx => by simp [mk, MemAct.ofEvent, MemAct.touch?] at hx, hB, by simp [mk]⟩
theorem evk_mute {ob' : Nat → Nat} {k B : Nat} {e : Event} (h : e.mute = true) : EvK S ob' oc k B e := by
  refine ⟨fun x hx => ?_, low_mute h B, ?_⟩
  · rw [touch_mute h] at hx; cases hx
  · obtain ⟨loc, wr, sy⟩ := e
    intro he
    simp only at he
    subst he
    simp [Event.mute] at h
theorem Vc_zero (h : Vc c D = 0) {i : Nat} (hi : i < c) : ¬ 5 ≤ (D i).stage := fun h5 => by
  have := le_sumTo (f := fun i => cntW (D i)) hi
  have e : cntW (D i) = 1 := if_pos h5
  unfold Vc at h
  simp only [e] at this
  omega
theorem Inv.lower (X : ScOk S) (h : Inv S c D M ob oc q cl st sm gs w t) {i : Nat} (hi : i < c) {g : Goroutine} (sl : Option (Nat × Nat)) (hg : gs[S.j0 + i]? = some g) (hrun : g.status = .running) (h16 : (D i).stage ≤ 16) :
    ∃ m' ops μ', runT S.E.P (crowd gs w sl) (S.j0 + i) = (.next m', ops) ∧ Less (Nx S.E) S.n μ' (meas S c D M q) ∧ InvE S μ' m' (t ++ ops) := by
  have hj := X.j0
  have hk0 : S.j0 + i ≠ 0 := by omega
  have hsz0 := h.kw.size
  have hW := X.hW
  have hB : S.Wg < w.heap.size := by omega
  obtain ⟨x, hx, hs⟩ := h.wk i hi
  rw [hg] at hx
  cases hx
  have hcl : cl = true := by
    cases cl with
    | true => rfl
    | false => have := h.opn rfl i hi; omega
  subst hcl
  have h9 := h.clo.1 rfl
  have hk11 : M.kind ≠ 11 := by omega
  obtain ⟨a0, ha0, hm0⟩ := h.main
  have hcn := hm0.range.2.2.2.1 (by omega)
  have hpend : pend M.kind = 0 := by unfold pend; rw [if_neg (by omega)]
  have hdf := h.deafW i hi
  have hno : ∀ {e : Event}, e ∈ (#[] : Array Event) → False := fun he => by simp at he
  have hquiet : ∀ {Stop : Goroutine → Prop} {n : Nat} {g' : Goroutine} {es : Array Event}, (∀ w, KW S w → stepG S.E.P false g w = .go g' w es) → (∀ e ∈ es, False) → n < (D i).fuel → (D i).stage ≠ 17 → WSit S (S.j0 + i) { D i with fuel := n } ob true g' w →
      ∃ m' ops μ', runT S.E.P (crowd gs w sl) (S.j0 + i) = (.next m', ops) ∧ Less (Nx S.E) S.n μ' (meas S c D M q) ∧ InvE S μ' m' (t ++ ops) := fun {Stop n g' es} k1 k2 k3 k4 k5 => by
    refine h.silentW X hi sl hg (k1 w h.kw) (fun e he => (k2 e he).elim) (fun e he => (k2 e he).elim) (fun _ => ?_) k3 (fun e => absurd e k4) k5
    apply Array.eq_empty_of_size_eq_zero
    rcases Nat.eq_zero_or_pos es.size with e | e
    · exact e
    · exact (k2 _ (Array.getElem_mem e)).elim
  have hgrp : ∀ {a : Addr} {v : Value} {st' sm' : Int} {g' : Goroutine} {es : Array Event} {d' : WD}, a.block = S.Wg → WgAt S.ty S.Wg (w.setCell a v) st' sm' → stepG S.E.P false g w = .go g' (w.setCell a v) es → WSit S (S.j0 + i) d' ob true g' (w.setCell a v) → (∀ e ∈ es, EvK S ob oc (S.j0 + i) w.heap.size e) → deafBehind (D i).deaf es = d'.deaf →
      (∃ r, RelBy (stA S.Wg) (t ++ MemOp.ofEvents (S.j0 + i) g.frame.fn g.frame.place es) (S.j0 + i) r) → (∀ kd', (kd' = M.kind ∨ (M.kind = 4 ∧ kd' = 5)) → (mayWake S.E.P g = true → g'.status ≠ .blocked → g'.status ≠ .waiting → kd' ≠ 4) → Mode c (upd D i d') kd' M.r st' sm') → (D i).stage ≤ 6 → d'.stage < (D i).stage → d'.y = (D i).y →
      ∃ m' ops μ', runT S.E.P (crowd gs w sl) (S.j0 + i) = (.next m', ops) ∧ Less (Nx S.E) S.n μ' (meas S c D M q) ∧ InvE S μ' m' (t ++ ops) := fun {a v st' sm' g' es d'} k1 k2 k3 k4 k5 k6 k7 k8 k9 k10 k11 => by
    have hsz : (w.setCell a v).heap.size = w.heap.size := World.size_setCell ..
    have hother : ∀ b, b ≠ S.Wg → (w.setCell a v).heap[b]? = w.heap[b]? := fun b hb => heap_setCell_other w _ b v (by rw [k1]; exact hb)
    obtain ⟨cs, c1, c2, c3⟩ := h.pay
    refine h.stepW X hi sl hg k3 (d' := d') (T := (· = a.block)) Ch.setCell (fun b hb => .inr (.inl (by rw [hb]; exact k1))) (KW.wg X h.kw k1 k2) (by rw [hsz, obN_same]; exact k4) (by rw [hsz, obN_same]; exact k5) k6 (fun _ => k7) k2 k8 ⟨cs, (hother _ fun e => X.wa e.symm).trans c1, c2, fun p hp => ?_⟩ (fun h19 => by omega) (fun e => by cases e) (fun e => absurd e hk11) (by rw [k11]; exact h.acc i) (.inl k10)
    rcases c3 p hp with h4 | ⟨i', q1, q2, q3⟩
    · exact .inl h4
    · have hii : i' ≠ i := fun e => by subst e; omega
      exact .inr ⟨i', q1, by rw [upd_ne D _ hii]; exact q2, by rw [upd_ne D _ hii]; exact q3⟩
  rcases hs with hs | hs | hs | hs | hs | hs | hs | ⟨h1, h2, hw⟩ | ⟨h1, h2, hw⟩ | ⟨h1, h2, hw⟩ | ⟨h1, h2, hw⟩ | ⟨h1, h2, hw⟩ | ⟨h1, h2, hw⟩ | ⟨h1, hq⟩
  iterate 7 (have := hs.1; omega)
  ·
    rcases wk_cases hw with hstop | ⟨n, g', es, hn, k1, k2, k3⟩
    · obtain ⟨_, g', k1, n, hn⟩ := hstop
      refine h.stepP X hi sl hg (k1 w h.kw) (d' := ⟨6, n, 0, 0, (D i).y⟩) (T := fun _ => False) (Ch.refl _ w) (fun _ hb => hb.elim) (by rw [obN_same]; exact .inr (.inr (.inr (.inr (.inr (.inr (.inr (.inr (.inl ⟨rfl, rfl, hn⟩))))))))) (fun e he => ?_) (by rw [h2]; rfl) (fun _ => ⟨_, Go.ConcN.RelBy.new (by rw [hdf, h2]) _ _⟩) (.inl ⟨by omega, by simp⟩) (fun h19 => by omega) (fun h19 => by simp at h19) (fun e => by cases e) (fun e => absurd e hk11) (h.acc i) (.inl (by simp; omega))
      simp only [List.mem_toArray, List.mem_cons, List.not_mem_nil, or_false] at he
      subst he
      exact evk_mk (.inr (.inr (.inl rfl))) hB
    · exact h.silentW X hi sl hg (k1 w h.kw) (fun e he => evk_rd X hsz0 (k2 e he)) (fun e he => quiet_rd (k2 e he)) (fun hs => by omega) (n := n) (by omega) (by omega) (.inr (.inr (.inr (.inr (.inr (.inr (.inr (.inl ⟨h1, h2, k3⟩))))))))
  ·
    rcases wk_cases hw with hstop | ⟨n, g', es, hn, k1, k2, k3⟩
    · obtain ⟨_, g', k1, n, hn⟩ := hstop
      obtain ⟨r, hr⟩ := h.rel i hi (by omega)
      refine h.stepP X hi sl hg (k1 w h.kw) (d' := ⟨5, n, 1, 0, (D i).y⟩) (T := fun _ => False) (Ch.refl _ w) (fun _ hb => hb.elim) (by rw [obN_same]; exact .inr (.inr (.inr (.inr (.inr (.inr (.inr (.inr (.inr (.inl ⟨rfl, rfl, hn⟩)))))))))) (fun e he => ?_) (by rw [h2]; rfl) (fun _ => ⟨r, Go.ConcN.RelBy.appOwn hr _ _ _ fun j e he => ?_⟩) (.inl ⟨by omega, by simp⟩) (fun h19 => by omega) (fun h19 => by simp at h19) (fun e => by cases e) (fun e => absurd e hk11) (h.acc i) (.inl (by simp; omega))
      · simp only [List.mem_toArray, List.mem_cons, List.not_mem_nil, or_false] at he
        subst he
        exact evk_mk (.inl rfl) hB
      · have he := Array.mem_of_getElem? he
        simp only [List.mem_toArray, List.mem_cons, List.not_mem_nil, or_false] at he
        subst he
        exact .inl rfl
    · exact hquiet (Stop := fun _ => True) k1 k2 (n := n) (by omega) (by omega) (.inr (.inr (.inr (.inr (.inr (.inr (.inr (.inr (.inl ⟨h1, h2, k3⟩)))))))))
  ·
    rcases wk_cases hw with hstop | ⟨n, g', es, hn, k1, k2, k3⟩
    · obtain ⟨_, hstop⟩ := hstop
      obtain ⟨r, hr⟩ := h.rel i hi (by omega)
      have hc5 : cntW (D i) = 1 := by unfold cntW; rw [if_pos (by omega)]
      have hV1 : 1 ≤ Vc c D := by
        have := le_sumTo (f := fun i => cntW (D i)) hi
        simp only [hc5] at this
        exact this
      have hVn : Vc c D ≤ S.n := by
        have := Go.ConcN.sumTo_le (f := fun i => cntW (D i)) (c := 1) (j := c) fun i _ => by unfold cntW; split <;> omega
        unfold Vc
        omega
      have hrel : ∀ {g' : Goroutine}, ∃ r, RelBy (stA S.Wg) (t ++ MemOp.ofEvents (S.j0 + i) g.frame.fn g.frame.place #[rd (stA S.Wg), wr (stA S.Wg)]) (S.j0 + i) r := fun {_} => ⟨r, Go.ConcN.RelBy.appOwn hr _ _ _ fun j e he => .inr (by
        rw [hdf, h2]
        match j, he with
        | 0, he =>
          simp at he
          subst he
          exact ⟨⟨_, _, rfl⟩, by simp [deafBehind]⟩
        | 1, he =>
          simp at he
          subst he
          exact ⟨⟨_, _, rfl⟩, by simp [deafBehind, rd]⟩)⟩
      have hevs : ∀ e ∈ (#[rd (stA S.Wg), wr (stA S.Wg)] : Array Event), EvK S ob oc (S.j0 + i) w.heap.size e := fun e he => by
        simp only [List.mem_toArray, List.mem_cons, List.not_mem_nil, or_false] at he
        rcases he with rfl | rfl <;> exact evk_at rfl hB
      have hdd : deafBehind (D i).deaf #[rd (stA S.Wg), wr (stA S.Wg)] = 1 := by rw [h2]; rfl
      have e1 : ∀ d' : WD, d'.stage < 5 → Vc c (upd D i d') + 1 = Vc c D := fun d' hd => by
        have := sumTo_upd D d' cntW hi
        have hc : cntW d' = 0 := by unfold cntW; rw [if_neg (by omega)]
        unfold Vc
        omega
      have hop : ∀ d' : WD, d'.stage = 1 → OpSt c D → OpSt c (upd D i d') := fun d' hd ho i' hi' => by
        by_cases hii : i' = i
        · subst hii
          rw [upd_same]; exact .inr hd
        · rw [upd_ne D _ hii]; exact ho i' hi'
      have hmode := h.mode
      obtain ⟨v, hv⟩ : ∃ v, Vc c D = v + 1 := ⟨Vc c D - 1, by omega⟩
      rcases hmode with ⟨m1, m2, m3, m4, m5⟩ | ⟨m1, m2, m3, m4, m5⟩ | ⟨m1, _, L, m2, m3, m4⟩ | ⟨m1, m2, _⟩ | ⟨m1, m2, _⟩
      · obtain ⟨g', k1, _, k3⟩ := hstop v 0 (by omega) (by omega)
        obtain ⟨qn, hqn⟩ := k3 (by omega)
        have hst : WgAt S.ty S.Wg w (((v : Nat) + 1) * KK + ((0 : Nat) : Int)) 0 := by
          have := h.grp
          rw [m3, m4, hpend, hv] at this
          simpa using this
        have hgo := k1 w h.kw hst
        refine hgrp rfl (hst.setSt _) hgo (d' := ⟨1, qn, 1, 0, (D i).y⟩) (.inr (.inr (.inr (.inr (.inr (.inr (.inr (.inr (.inr (.inr (.inr (.inr (.inr ⟨rfl, hqn⟩))))))))))))) hevs hdd (hrel (g' := g')) (fun kd' hk _ => ?_) (by omega) (by simp; omega) rfl
        have hkd : kd' = M.kind := by omega
        subst hkd
        have := e1 ⟨1, qn, 1, 0, (D i).y⟩ (by simp)
        refine .inl ⟨m1, hop _ rfl m2, ?_, rfl, fun e => ?_⟩
        · rw [hpend]
          have : Vc c (upd D i ⟨1, qn, 1, 0, (D i).y⟩) = v := by omega
          rw [this]
          simp
        · have := m5 e
          omega
      · have hst : WgAt S.ty S.Wg w (((v : Nat) + 1) * KK + ((1 : Nat) : Int)) 0 := by
          have := h.grp
          rw [m4, m5, hv] at this
          simpa using this
        obtain ⟨g', k1, k2, k3⟩ := hstop v 1 (by omega) (by omega)
        have hgo := k1 w h.kw hst
        by_cases hv0 : v = 0
        · obtain ⟨n, hn⟩ := k2 ⟨hv0, rfl⟩
          refine hgrp rfl (hst.setSt _) hgo (d' := ⟨4, n, 1, 0, (D i).y⟩) (.inr (.inr (.inr (.inr (.inr (.inr (.inr (.inr (.inr (.inr (.inl ⟨rfl, rfl, hn⟩))))))))))) hevs hdd (hrel (g' := g')) (fun kd' hk _ => ?_) (by omega) (by simp; omega) rfl
          have hz : Vc c (upd D i ⟨4, n, 1, 0, (D i).y⟩) = 0 := by have := e1 ⟨4, n, 1, 0, (D i).y⟩ (by simp); omega
          refine .inr (.inr (.inl ⟨by omega, rfl, i, hi, fun i' hi' hne => ?_, ?_⟩))
          · have h5 := Vc_zero hz hi'
            rw [upd_ne D _ hne] at h5 ⊢
            have := m2 i' hi'
            omega
          · rw [upd_same]
            exact .inl ⟨.inl rfl, by rw [hv0]; simp⟩
        · obtain ⟨qn, hqn⟩ := k3 (by omega)
          refine hgrp rfl (hst.setSt _) hgo (d' := ⟨1, qn, 1, 0, (D i).y⟩) (.inr (.inr (.inr (.inr (.inr (.inr (.inr (.inr (.inr (.inr (.inr (.inr (.inr ⟨rfl, hqn⟩))))))))))))) hevs hdd (hrel (g' := g')) (fun kd' hk _ => ?_) (by omega) (by simp; omega) rfl
          have := e1 ⟨1, qn, 1, 0, (D i).y⟩ (by simp)
          have hvv : Vc c (upd D i ⟨1, qn, 1, 0, (D i).y⟩) = v := by omega
          exact .inr (.inl ⟨by omega, hop _ rfl m2, by omega, by rw [hvv]; simp, rfl⟩)
      · by_cases hL : i = L
        · subst hL; omega
        · have := m3 i hi hL
          omega
      · have := m2 i hi
        omega
      · have := m2 i hi
        omega
    · exact hquiet (Stop := fun _ => True) k1 k2 (n := n) (by omega) (by omega) (.inr (.inr (.inr (.inr (.inr (.inr (.inr (.inr (.inr (.inl ⟨h1, h2, k3⟩))))))))))
  ·
    rcases wk_cases hw with hstop | ⟨n, g', es, hn, k1, k2, k3⟩
    · obtain ⟨_, g', k1, n, hn⟩ := hstop
      obtain ⟨r, hr⟩ := h.rel i hi (by omega)
      have hlast : (M.kind = 5 ∨ M.kind = 4) ∧ st = 1 ∧ sm = 0 ∧ ∀ i', i' < c → i' ≠ i → (D i').stage = 1 := by
        rcases h.mode with ⟨m1, m2, _⟩ | ⟨m1, m2, _⟩ | ⟨m1, m5, L, m2, m3, m4⟩ | ⟨m1, m2, _⟩ | ⟨m1, m2, _⟩
        · have := m2 i hi; omega
        · have := m2 i hi; omega
        · by_cases hL : i = L
          · subst hL
            exact ⟨m1, by omega, m5, m3⟩
          · have := m3 i hi hL
            omega
        · have := m2 i hi; omega
        · have := m2 i hi; omega
      obtain ⟨l1, rfl, rfl, l4⟩ := hlast
      obtain ⟨cs, c1, c2, c3⟩ := h.pay
      refine h.stepW X hi sl hg (k1 w h.kw h.grp) (d' := ⟨3, n, 1, 0, (D i).y⟩) (T := fun _ => False) (Ch.refl _ w) (fun _ hb => hb.elim) h.kw (by rw [obN_same]; exact .inr (.inr (.inr (.inr (.inr (.inr (.inr (.inr (.inr (.inr (.inr (.inl ⟨rfl, rfl, hn⟩)))))))))))) (fun e he => ?_) (by rw [h2]; rfl) (fun _ => ⟨r, Go.ConcN.RelBy.appOwn hr _ _ _ fun j e he => ?_⟩) h.grp (fun kd' hk _ => ?_) ⟨cs, c1, c2, fun p hp => ?_⟩ (fun h19 => by simp at h19) (fun e => by cases e) (fun e => absurd e hk11) (h.acc i) (.inl (by simp; omega))
      · simp only [List.mem_toArray, List.mem_cons, List.not_mem_nil, or_false] at he
        subst he
        exact evk_at rfl hB
      · rw [hdf, h2]
        match j, he with
        | 0, he =>
          simp at he
          subst he
          exact .inr ⟨⟨_, _, rfl⟩, by simp [deafBehind]⟩
      · refine .inr (.inr (.inl ⟨by omega, rfl, i, hi, fun i' q1 q2 => by rw [upd_ne D _ q2]; exact l4 i' q1 q2, ?_⟩))
        rw [upd_same]
        exact .inl ⟨.inr rfl, rfl⟩
      · rcases c3 p hp with h4 | ⟨i', q1, q2, q3⟩
        · exact .inl h4
        · have hii : i' ≠ i := fun e => by subst e; omega
          exact .inr ⟨i', q1, by rw [upd_ne D _ hii]; exact q2, by rw [upd_ne D _ hii]; exact q3⟩
    · exact hquiet (Stop := fun _ => True) k1 k2 (n := n) (by omega) (by omega) (.inr (.inr (.inr (.inr (.inr (.inr (.inr (.inr (.inr (.inr (.inl ⟨h1, h2, k3⟩)))))))))))
  ·
    rcases wk_cases hw with hstop | ⟨n, g', es, hn, k1, k2, k3⟩
    · obtain ⟨_, g', k1, n, hn⟩ := hstop
      obtain ⟨r, hr⟩ := h.rel i hi (by omega)
      have hlast : (M.kind = 5 ∨ M.kind = 4) ∧ st = 1 ∧ sm = 0 ∧ ∀ i', i' < c → i' ≠ i → (D i').stage = 1 := by
        rcases h.mode with ⟨m1, m2, _⟩ | ⟨m1, m2, _⟩ | ⟨m1, m5, L, m2, m3, m4⟩ | ⟨m1, m2, _⟩ | ⟨m1, m2, _⟩
        · have := m2 i hi; omega
        · have := m2 i hi; omega
        · by_cases hL : i = L
          · subst hL
            exact ⟨m1, by omega, m5, m3⟩
          · have := m3 i hi hL
            omega
        · have := m2 i hi; omega
        · have := m2 i hi; omega
      obtain ⟨l1, rfl, rfl, l4⟩ := hlast
      refine hgrp rfl (h.grp.setSt _) (k1 w h.kw h.grp) (d' := ⟨2, n, 1, 0, (D i).y⟩) (.inr (.inr (.inr (.inr (.inr (.inr (.inr (.inr (.inr (.inr (.inr (.inr (.inl ⟨rfl, rfl, hn⟩))))))))))))) (fun e he => ?_) (by rw [h2]; rfl) ⟨r, Go.ConcN.RelBy.appOwn hr _ _ _ fun j e he => ?_⟩ (fun kd' hk _ => ?_) (by omega) (by simp; omega) rfl
      · simp only [List.mem_toArray, List.mem_cons, List.not_mem_nil, or_false] at he
        subst he
        exact evk_at rfl hB
      · rw [hdf, h2]
        match j, he with
        | 0, he =>
          simp at he
          subst he
          exact .inr ⟨⟨_, _, rfl⟩, by simp [deafBehind]⟩
      · refine .inr (.inr (.inl ⟨by omega, rfl, i, hi, fun i' q1 q2 => by rw [upd_ne D _ q2]; exact l4 i' q1 q2, ?_⟩))
        rw [upd_same]
        exact .inr ⟨rfl, rfl⟩
    · exact hquiet (Stop := fun _ => True) k1 k2 (n := n) (by omega) (by omega) (.inr (.inr (.inr (.inr (.inr (.inr (.inr (.inr (.inr (.inr (.inr (.inl ⟨h1, h2, k3⟩))))))))))))
  ·
    rcases wk_cases hw with hstop | ⟨n, g', es, hn, k1, k2, k3⟩
    · obtain ⟨_, hmw, g', k1, qn, hqn⟩ := hstop
      obtain ⟨r, hr⟩ := h.rel i hi (by omega)
      have hlast : (M.kind = 5 ∨ M.kind = 4) ∧ st = 0 ∧ sm = 0 ∧ ∀ i', i' < c → i' ≠ i → (D i').stage = 1 := by
        rcases h.mode with ⟨m1, m2, _⟩ | ⟨m1, m2, _⟩ | ⟨m1, m5, L, m2, m3, m4⟩ | ⟨m1, m2, _⟩ | ⟨m1, m2, _⟩
        · have := m2 i hi; omega
        · have := m2 i hi; omega
        · by_cases hL : i = L
          · subst hL
            exact ⟨m1, by omega, m5, m3⟩
          · have := m3 i hi hL
            omega
        · have := m2 i hi; omega
        · have := m2 i hi; omega
      obtain ⟨l1, rfl, rfl, l4⟩ := hlast
      refine hgrp rfl (h.grp.setSm _) (k1 w h.kw h.grp) (d' := ⟨1, qn, 1, 0, (D i).y⟩) (.inr (.inr (.inr (.inr (.inr (.inr (.inr (.inr (.inr (.inr (.inr (.inr (.inr ⟨rfl, hqn⟩))))))))))))) (fun e he => ?_) (by rw [h2]; rfl) ⟨r, Go.ConcN.RelBy.appOwn hr _ _ _ fun j e he => ?_⟩ (fun kd' hk hwk => ?_) (by omega) (by simp; omega) rfl
      · simp only [semEvents, List.mem_toArray, List.mem_cons, List.not_mem_nil, or_false] at he
        rcases he with rfl | rfl | rfl | rfl
        · exact evk_mk (.inl rfl) hB
        · exact evk_at rfl hB
        · exact evk_at rfl hB
        · exact evk_mk (.inr (.inl rfl)) hB
      · rw [hdf, h2]
        match j, he with
        | 0, he =>
          simp [semEvents] at he
          subst he
          exact .inl rfl
        | 1, he =>
          simp [semEvents] at he
          subst he
          exact .inr ⟨⟨_, _, rfl⟩, by simp [deafBehind, semEvents]⟩
        | 2, he =>
          simp [semEvents] at he
          subst he
          exact .inr ⟨⟨_, _, rfl⟩, by simp [deafBehind, semEvents]⟩
        | 3, he =>
          simp [semEvents] at he
          subst he
          exact .inl rfl
      · have hb : g'.status ≠ .blocked ∧ g'.status ≠ .waiting := by
          rcases hqn.status with e | e <;> rw [e] <;> simp
        have := hwk hmw hb.1 hb.2
        have hkd : kd' = 5 := by omega
        refine .inr (.inr (.inr (.inl ⟨hkd, fun i' hi' => ?_, rfl, rfl⟩)))
        by_cases hii : i' = i
        · subst hii
          rw [upd_same]
        · rw [upd_ne D _ hii]
          exact l4 i' hi' hii
    · exact hquiet (Stop := fun _ => True) k1 k2 (n := n) (by omega) (by omega) (.inr (.inr (.inr (.inr (.inr (.inr (.inr (.inr (.inr (.inr (.inr (.inr (.inl ⟨h1, h2, k3⟩)))))))))))))
  ·
    obtain ⟨r, hr⟩ := h.rel i hi (by omega)
    generalize hn : (D i).fuel = n at hq
    cases n with
    | zero =>
      rw [hq.1] at hrun
      cases hrun
    | succ n =>
      rcases hq with ⟨hq, _⟩ | ⟨_, g', es, k1, k2, k3⟩
      · rw [hq] at hrun
        cases hrun
      · refine h.stepP X hi sl hg (k2 w) (d' := ⟨1, n, deafBehind (D i).deaf es, 0, (D i).y⟩) (T := fun _ => False) (Ch.refl _ w) (fun _ hb => hb.elim) (by rw [obN_same]; exact .inr (.inr (.inr (.inr (.inr (.inr (.inr (.inr (.inr (.inr (.inr (.inr (.inr ⟨rfl, k3⟩))))))))))))) (fun e he => evk_mute (k1 e he)) rfl (fun _ => ⟨r, Go.ConcN.RelBy.appOwn hr _ _ _ fun j e he => .inl (touch_mute (k1 e (Array.mem_of_getElem? he)))⟩) (.inr h1.symm) (fun h19 => by omega) (fun h19 => by simp at h19) (fun e => by cases e) (fun e => absurd e hk11) (h.acc i) (.inr (.inr ⟨h1.symm, rfl, by simp; omega⟩))
end
end Go.Proofs.YtaablbmgagiajabGreatDoor.Ren
namespace Go.Proofs.YtaablbmgagiajabGreatDoor.Ren
open Go Go.Conc
open Go.ConcR (KK WgAt stA smA rd wr mk)
open Go.ConcN (RelBy sumTo upd upd_same upd_ne sumTo_upd sumTo_congr le_sumTo get_map_set get_map_set_same)
def Ends (S : Sc) (gs : Array Goroutine) (w : World) (t : Trace) : Prop :=
  ∃ a q, gs[0]? = some a ∧ S.Out a ∧ gs.size = S.j0 + S.n ∧ Leavers S.E.P t gs q ∧ Past (fun l => S.Shun l ∨ S.Sh l) w.heap.size t ∧ KW S w ∧ ∃ cs, w.heap[S.An]? = some (.cells cs S.aty) ∧ cs.size = S.m ∧ ∀ p, p < S.m → ∃ v, cs[p]? = some v ∧ S.ans p v
section
variable {S : Sc} {c : Nat} {D : Nat → WD} {M : MD} {ob oc q : Nat → Nat} {cl : Bool} {st sm : Int} {gs : Array Goroutine} {w : World} {t : Trace}
theorem evm_k {ob' : Nat → Nat} {k B : Nat} {e : Event} (h : EvK S ob' oc k B e) (hn : ∀ l, ¬ S.Own ob' oc k l) : EvM S B e := ⟨fun a ha hm => by
  rcases h.1 a ha hm with ⟨h1, h2⟩ | ⟨h1, _⟩ | ⟨h1, h2, _⟩
  · exact .inl ⟨h1, by rw [h2]; simp⟩
  · exact absurd h1 (hn _)
  · exact .inr (.inl ⟨h1, h2⟩), h.2⟩
theorem own_zero (oc : Nat → Nat) (l : Loc) : ¬ S.Own (fun _ => 0) oc 0 l := fun h => h.1 rfl
theorem evm_at {B : Nat} {a : Addr} {b : Bool} (ha : a.block = S.Wg) (hB : S.Wg < B) : EvM S B ⟨.cell a, b, true⟩ := evm_k (evk_at (oc := fun _ => 0) (ob' := fun _ => 0) (k := 0) ha hB) (own_zero _)
theorem evm_mk {B : Nat} {m : Mark} (hm : m = .disable ∨ m = .enable ∨ m = .releaseMerge (stA S.Wg) ∨ m = .acquire (stA S.Wg)) (hB : S.Wg < B) : EvM S B (mk m) := evm_k (evk_mk (oc := fun _ => 0) (ob' := fun _ => 0) (k := 0) hm hB) (own_zero _)
theorem evm_rd (X : ScOk S) {B : Nat} {e : Event} (hB : S.w0.heap.size ≤ B) (he : RdM S e) : EvM S B e := by
  have hW := X.hW
  rcases he with he | ⟨a, ha, rfl | rfl⟩
  · exact evm_k (evk_rd X (oc := fun _ => 0) (ob' := fun _ => 0) (k := 0) hB he) (own_zero _)
  · refine ⟨fun x hx _ => ?_, by show a.block < B; omega, by simp [mk]⟩
    simp only [mk, MemAct.ofEvent, MemAct.touch?, Option.some.injEq] at hx
    subst hx
    exact .inl ⟨⟨a, rfl, ha⟩, by simp⟩
  · refine ⟨fun x hx _ => ?_, by show a.block < B; omega, by simp [mk]⟩
    simp only [mk, MemAct.ofEvent, MemAct.touch?, Option.some.injEq] at hx
    subst hx
    exact .inl ⟨⟨a, rfl, ha⟩, by simp⟩
theorem quiet_m {e : Event} (h : RdM S e) : e.loc ≠ .mark .disable ∧ e.loc ≠ .mark .enable := by
  rcases h with h | ⟨a, _, rfl | rfl⟩
  · exact quiet_rd h
  · simp [mk]
  · simp [mk]
theorem Inv.silent0 (X : ScOk S) (h : Inv S c D M ob oc q cl st sm gs w t) {a a' : Goroutine} {es : Array Event} (sl : Option (Nat × Nat)) (ha : gs[0]? = some a) (hgo : ∀ w, KW S w → stepG S.E.P true a w = .go a' w es) (hev : ∀ e ∈ es, RdM S e)
    {M' : MD} (hm' : MSit S M' c a') (hd : mdeaf M'.kind = mdeaf M.kind) (hmode : Mode c D M'.kind M'.r st sm) (hrc : rcOf S M' = rcOf S M) (hclo : cl = true ↔ M'.kind ≤ 9) (h11 : M'.kind ≠ 11)
    (hlt : phi S (Vc c D) M' < phi S (Vc c D) M ∨ (phi S (Vc c D) M' = phi S (Vc c D) M ∧ M'.fuel < M.fuel)) :
    ∃ m' ops μ', runT S.E.P (crowd gs w sl) 0 = (.next m', ops) ∧ Less (Nx S.E) S.n μ' (meas S c D M q) ∧ InvE S μ' m' (t ++ ops) :=
  h.step0 X sl ha (hgo w h.kw) (T := fun _ => False) (Ch.refl _ w) (fun _ hb => hb.elim) rfl h.kw hm' (fun e he => evm_rd X h.kw.size (hev e he)) (by rw [hd]; exact deafBehind_still (fun e he => quiet_m (hev e he)) _) h.grp hmode hrc hclo h11 hlt
theorem Inv.says (X : ScOk S) (h : Inv S c D M ob oc q cl st sm gs w t) {a a' : Goroutine} {es : Array Event} (sl : Option (Nat × Nat)) (ha : gs[0]? = some a) (hgo : stepG S.E.P true a w = .go a' w es) (hev : ∀ e ∈ es, EvM S w.heap.size e)
    {M' : MD} (hm' : MSit S M' c a') (hd : deafBehind (mdeaf M.kind) es = mdeaf M'.kind) (hmode : Mode c D M'.kind M'.r st sm) (hrc : rcOf S M' = rcOf S M) (hclo : cl = true ↔ M'.kind ≤ 9) (h11 : M'.kind ≠ 11)
    (hlt : phi S (Vc c D) M' < phi S (Vc c D) M ∨ (phi S (Vc c D) M' = phi S (Vc c D) M ∧ M'.fuel < M.fuel)) :
    ∃ m' ops μ', runT S.E.P (crowd gs w sl) 0 = (.next m', ops) ∧ Less (Nx S.E) S.n μ' (meas S c D M q) ∧ InvE S μ' m' (t ++ ops) :=
  h.step0 X sl ha hgo (T := fun _ => False) (Ch.refl _ w) (fun _ hb => hb.elim) rfl h.kw hm' hev hd h.grp hmode hrc hclo h11 hlt
theorem Inv.turns (X : ScOk S) (h : Inv S c D M ob oc q cl st sm gs w t) {a a' : Goroutine} {es : Array Event} {ad : Addr} {v : Value} {st' sm' : Int} (sl : Option (Nat × Nat)) (ha : gs[0]? = some a) (hgo : stepG S.E.P true a w = .go a' (w.setCell ad v) es) (had : ad.block = S.Wg) (hw : WgAt S.ty S.Wg (w.setCell ad v) st' sm') (hev : ∀ e ∈ es, EvM S w.heap.size e)
    {M' : MD} (hm' : MSit S M' c a') (hd : deafBehind (mdeaf M.kind) es = mdeaf M'.kind) (hmode : Mode c D M'.kind M'.r st' sm') (hrc : rcOf S M' = rcOf S M) (hclo : cl = true ↔ M'.kind ≤ 9) (h11 : M'.kind ≠ 11)
    (hlt : phi S (Vc c D) M' < phi S (Vc c D) M ∨ (phi S (Vc c D) M' = phi S (Vc c D) M ∧ M'.fuel < M.fuel)) :
    ∃ m' ops μ', runT S.E.P (crowd gs w sl) 0 = (.next m', ops) ∧ Less (Nx S.E) S.n μ' (meas S c D M q) ∧ InvE S μ' m' (t ++ ops) :=
  h.step0 X sl ha hgo (T := (· = ad.block)) Ch.setCell (fun b hb => by rw [hb]; exact had) (World.size_setCell ..) (KW.wg X h.kw had hw) hm' (by rw [World.size_setCell]; exact hev) hd hw hmode hrc hclo h11 hlt
theorem Mode.open_ {kd r : Nat} (h : Mode c D kd r st sm) (hk : 6 ≤ kd) : OpSt c D ∧ st = ((Vc c D + pend kd : Nat) : Int) * KK ∧ sm = 0 ∧ (kd = 6 → Vc c D ≤ r ∧ 1 ≤ r) := by
  rcases h with ⟨_, h⟩ | ⟨h1, _⟩ | ⟨h1, _⟩ | ⟨h1, _⟩ | ⟨h1, _⟩
  · exact h
  all_goals omega
theorem Mode.fin {kd r : Nat} (h : Mode c D kd r st sm) (hk : kd ≤ 3) : AllQ c D ∧ st = 0 ∧ sm = 0 := by
  rcases h with ⟨h1, _⟩ | ⟨h1, _⟩ | ⟨h1, _⟩ | ⟨h1, _⟩ | ⟨_, h⟩
  · omega
  · omega
  · omega
  · omega
  · exact h
theorem Vc_le : Vc c D ≤ c := by
  have := Go.ConcN.sumTo_le (f := fun i => cntW (D i)) (c := 1) (j := c) fun i _ => by unfold cntW; split <;> omega
  unfold Vc
  omega
theorem Inv.ends (X : ScOk S) (h : Inv S c D M ob oc q cl st sm gs w t) {a a' : Goroutine} (sl : Option (Nat × Nat)) (ha : gs[0]? = some a) (hk : M.kind = 1) (hcn : c = S.n) (hgo : stepG S.E.P true a w = .go a' w #[Go.ConcR.mk (.acquire (stA S.Wg))]) (ho : S.Out a') :
    ∃ gs' ops, runT S.E.P (crowd gs w sl) 0 = (.next (crowd gs' w sl), ops) ∧ Ends S gs' w (t ++ ops) := by
  have hj := X.j0
  have hsz0 := h.kw.size
  have hW := X.hW
  have hB : S.Wg < w.heap.size := by omega
  have hrun := runT_crowd_go (P := S.E.P) (sl := sl) (i := 0) ha (show stepG S.E.P (0 == 0) a w = _ from hgo)
  have hgu : ∀ op ∈ MemOp.ofEvents 0 a.frame.fn a.frame.place #[Go.ConcR.mk (.acquire (stA S.Wg))], op.g = 0 := fun op hop => by
    obtain ⟨e, _, rfl⟩ := Go.Conc.mem_ofEvents hop
    rfl
  have hne : ∀ k, k ≠ 0 → ∀ x, gs[k]? = some x → ((gs.map (Go.Conc.woken S.E.P a a' w)).setIfInBounds 0 a')[k]? = some (Go.Conc.woken S.E.P a a' w x) := fun k hk x hx => by
    rw [get_map_set _ _ _ _ (fun e => hk e.symm), hx]
    rfl
  obtain ⟨hall, _, _⟩ := h.mode.fin (by omega)
  have hev : ∀ e ∈ (#[Go.ConcR.mk (.acquire (stA S.Wg))] : Array Event), EvM S w.heap.size e := fun e he => by
    simp only [List.mem_toArray, List.mem_cons, List.not_mem_nil, or_false] at he
    subst he
    exact evm_mk (.inr (.inr (.inr rfl))) hB
  have hd0 : Deaf t 0 = 0 := by rw [h.deaf0, hk]; rfl
  have htr := tr_app0 X h (w' := w) rfl (fn := a.frame.fn) (pos := a.frame.place) hev
  have hq : (t ++ MemOp.ofEvents 0 a.frame.fn a.frame.place #[Go.ConcR.mk (.acquire (stA S.Wg))])[t.size]? = some { g := 0, fn := a.frame.fn, pos := a.frame.place, act := .mark (.acquire (stA S.Wg)) } := by
    rw [Array.getElem?_append_right (Nat.le_refl _)]
    simp [MemOp.ofEvents, Go.ConcR.mk, MemAct.ofEvent]
  refine ⟨_, _, hrun, a', fun k => if k < S.j0 then q k else (D (k - S.j0)).fuel, get_map_set_same _ _ _ (by rw [h.size]; omega), ho, by simp [h.size, hcn], ⟨fun k x hk0 hx => ?_, fun k hk' => ?_⟩, ?_, h.kw, ?_⟩
  · have hlt := (Array.getElem?_eq_some_iff.1 hx).1
    simp [h.size] at hlt
    rcases Nat.lt_or_ge k S.j0 with hl | hl
    · obtain ⟨g, hg, hqq⟩ := h.old k hk0 hl
      rw [hne k (by omega) g hg] at hx
      cases hx
      rw [woken_quitsD hqq, if_pos hl, Deaf_other t (g' := 0) (by omega) _ hgu]
      exact hqq
    · obtain ⟨g, hg, hs⟩ := h.wk (k - S.j0) (by omega)
      have e : S.j0 + (k - S.j0) = k := by omega
      rw [e] at hg
      rw [hne k (by omega) g hg] at hx
      cases hx
      have h1 := hall (k - S.j0) (by omega)
      have hqq : QuitsD S.E.P (D (k - S.j0)).fuel (D (k - S.j0)).deaf g := by
        rcases hs with hs | hs | hs | hs | hs | hs | hs | hs | hs | hs | hs | hs | hs | hs
        all_goals first | (have := hs.1; omega) | exact hs.2
      have hdw := h.deafW (k - S.j0) (by omega)
      rw [e] at hdw
      rw [woken_quitsD hqq, if_neg (by omega), Deaf_other t (g' := 0) (by omega) _ hgu, hdw]
      exact hqq
  · simp [h.size] at hk'
    rw [Deaf_other t (g' := 0) (by omega) _ hgu]
    exact h.deafN k hk'
  · refine htr.past (ad := stA S.Wg) (q := t.size) (fun k h1 h2 => ?_) (norel_app h.nor fun e he => (hev e he).2.2) (by rw [act?_of hq]) (by simp [Trace.g?, hq]) ⟨0, by simp [Trace.g?, hq], by rw [deaf_old (Nat.le_refl _)]; exact hd0⟩ ?_
    · obtain ⟨r, hr⟩ := h.rel (k - S.j0) (by omega) (by rw [hall (k - S.j0) (by omega)]; omega)
      rw [show S.j0 + (k - S.j0) = k by omega] at hr
      exact ⟨r, RelBy.appOther hr hgu (by omega), lt_of_act? hr.act⟩
    · rw [Deaf_own, hd0]
      rfl
  · obtain ⟨cs, h1, h2, h3⟩ := h.pay
    have hrc : rcOf S M = S.m := by simp [rcOf, hk]
    refine ⟨cs, h1, h2, fun p hp => ?_⟩
    rcases h3 p (by omega) with h4 | ⟨i, h4, _, h6⟩
    · exact h4
    · have := hall i h4
      omega
theorem Inv.look (X : ScOk S) (h : Inv S c D M ob oc q cl st sm gs w t) {a : Goroutine} {n : Nat} (sl : Option (Nat × Nat)) (ha : gs[0]? = some a) (hk : M.kind = 8 ∨ (M.kind = 7 ∧ n ≤ M.fuel)) (hcn : c = S.n) (hw : WkM S (AtW1 S) n a) :
    ∃ m' ops μ', runT S.E.P (crowd gs w sl) 0 = (.next m', ops) ∧ Less (Nx S.E) S.n μ' (meas S c D M q) ∧ InvE S μ' m' (t ++ ops) := by
  have hcl : cl = true := h.clo.2 (by omega)
  have hsz0 := h.kw.size
  have hW := X.hW
  have hB : S.Wg < w.heap.size := by omega
  have hVc := Vc_le (c := c) (D := D)
  obtain ⟨m2, m3, m4, _⟩ := h.mode.open_ (by omega)
  have hp : pend M.kind = 0 := by unfold pend; rw [if_neg (by omega)]
  have hph : 8 * Vc c D + 5 ≤ phi S (Vc c D) M := by
    unfold phi
    rcases hk with e | ⟨e, _⟩ <;> simp [e]
  have hrc : ∀ M' : MD, M'.kind ≤ 9 → rcOf S M' = rcOf S M := fun M' hm => by
    unfold rcOf
    rw [if_neg (by omega), if_neg (by omega), if_neg (by omega), if_neg (by omega)]
  have hd1 : mdeaf M.kind = 1 := by unfold mdeaf; rw [if_pos (by omega)]
  rcases wk_cases hw with hstop | ⟨n', g', es, hn, k1, k2, k3⟩
  · obtain ⟨_, hstop⟩ := hstop
    obtain ⟨g', k1, k2, k3⟩ := hstop (Vc c D) (by omega)
    have hst : WgAt S.ty S.Wg w ((Vc c D : Nat) * KK) 0 := by
      have := h.grp
      rw [m3, m4, hp] at this
      simpa using this
    have hev : ∀ e ∈ (#[rd (stA S.Wg)] : Array Event), EvM S w.heap.size e := fun e he => by
      simp only [List.mem_toArray, List.mem_cons, List.not_mem_nil, or_false] at he
      subst he
      exact evm_at rfl hB
    by_cases hv : Vc c D = 0
    · obtain ⟨n', hn'⟩ := k2 hv
      refine h.says X sl ha (k1 w h.kw hst) hev (M' := ⟨2, 0, n'⟩) (.inr (.inr (.inr (.inr (.inr (.inr (.inr (.inr (.inr (.inr (.inr (.inr (.inr (.inr (.inl ⟨rfl, hcn, hn'⟩))))))))))))))) (by rw [hd1]; rfl) (.inr (.inr (.inr (.inr ⟨by simp, fun i hi => ?_, ?_, m4⟩)))) (hrc _ (by simp)) (by rw [hcl]; simp) (by simp) (.inl (by simp [phi] at hph ⊢; omega))
      · have := m2 i hi
        have := Vc_zero hv hi
        omega
      · rw [m3, hp, hv]; rfl
    · obtain ⟨n', hn'⟩ := k3 hv
      refine h.says X sl ha (k1 w h.kw hst) hev (M' := ⟨6, Vc c D, n'⟩) (.inr (.inr (.inr (.inr (.inr (.inr (.inr (.inr (.inr (.inr (.inl ⟨rfl, hcn, hn'⟩))))))))))) (by rw [hd1]; rfl) (.inl ⟨by simp, m2, ?_, m4, fun _ => ⟨Nat.le_refl _, by simp; omega⟩⟩) (hrc _ (by simp)) (by rw [hcl]; simp) (by simp) (.inl ?_)
      · rw [m3, hp]; rfl
      · have : phi S (Vc c D) ⟨6, Vc c D, n'⟩ = 8 * Vc c D + 4 := by simp [phi]
        omega
  · refine h.silent0 X sl ha k1 k2 (M' := ⟨7, 0, n'⟩) (.inr (.inr (.inr (.inr (.inr (.inr (.inr (.inr (.inr (.inl ⟨rfl, hcn, k3⟩)))))))))) (by rw [hd1]; rfl) (.inl ⟨by simp, m2, ?_, m4, fun e => by simp at e⟩) (hrc _ (by simp)) (by rw [hcl]; simp) (by simp) ?_
    · rw [m3, hp]; rfl
    · have : phi S (Vc c D) ⟨7, 0, n'⟩ = 8 * Vc c D + 5 := by simp [phi]
      rcases hk with e | ⟨e, e'⟩
      · left
        have : phi S (Vc c D) M = 8 * Vc c D + 6 := by simp [phi, e]
        omega
      · right
        have : phi S (Vc c D) M = 8 * Vc c D + 5 := by simp [phi, e]
        exact ⟨by omega, by simp; omega⟩
theorem Inv.mainStep (X : ScOk S) (h : Inv S c D M ob oc q cl st sm gs w t) {a : Goroutine} (sl : Option (Nat × Nat)) (ha : gs[0]? = some a) (hrun : a.status = .running) :
    (∃ gs' ops, runT S.E.P (crowd gs w sl) 0 = (.next (crowd gs' w sl), ops) ∧ Ends S gs' w (t ++ ops)) ∨ ∃ m' ops μ', runT S.E.P (crowd gs w sl) 0 = (.next m', ops) ∧ Less (Nx S.E) S.n μ' (meas S c D M q) ∧ InvE S μ' m' (t ++ ops) := by
  have hsz0 := h.kw.size
  have hW := X.hW
  have hB : S.Wg < w.heap.size := by omega
  have hVc := Vc_le (c := c) (D := D)
  obtain ⟨a1, ha1, hm⟩ := h.main
  rw [ha] at ha1
  cases ha1
  have hmode := h.mode
  have hclo := h.clo
  have hd0 : ∀ {m : Mark}, (m = .disable ∨ m = .enable ∨ m = .releaseMerge (stA S.Wg) ∨ m = .acquire (stA S.Wg)) → ∀ e ∈ (#[Go.ConcR.mk m] : Array Event), EvM S w.heap.size e := fun hm e he => by
    simp only [List.mem_toArray, List.mem_cons, List.not_mem_nil, or_false] at he
    subst he
    exact evm_mk hm hB
  have hrd : ∀ e ∈ (#[rd (stA S.Wg)] : Array Event), EvM S w.heap.size e := fun e he => by
    simp only [List.mem_toArray, List.mem_cons, List.not_mem_nil, or_false] at he
    subst he
    exact evm_at rfl hB
  have hrw : ∀ e ∈ (#[rd (stA S.Wg), wr (stA S.Wg)] : Array Event), EvM S w.heap.size e := fun e he => by
    simp only [List.mem_toArray, List.mem_cons, List.not_mem_nil, or_false] at he
    rcases he with rfl | rfl <;> exact evm_at rfl hB
  have hsm : ∀ e ∈ semEvents (smA S.Wg), EvM S w.heap.size e := fun e he => by
    simp only [semEvents, List.mem_toArray, List.mem_cons, List.not_mem_nil, or_false] at he
    rcases he with rfl | rfl | rfl | rfl
    · exact evm_mk (.inl rfl) hB
    · exact evm_at rfl hB
    · exact evm_at rfl hB
    · exact evm_mk (.inr (.inl rfl)) hB
  have hwalk : ∀ {a' : Goroutine} {es : Array Event} {n : Nat}, (∀ w, KW S w → stepG S.E.P true a w = .go a' w es) → (∀ e ∈ es, RdM S e) → MSit S ⟨M.kind, M.r, n⟩ c a' → n < M.fuel → M.kind ≠ 11 →
      ∃ m' ops μ', runT S.E.P (crowd gs w sl) 0 = (.next m', ops) ∧ Less (Nx S.E) S.n μ' (meas S c D M q) ∧ InvE S μ' m' (t ++ ops) := fun k1 k2 k3 k4 k5 =>
    h.silent0 X sl ha k1 k2 k3 rfl hmode rfl hclo k5 (.inr ⟨rfl, k4⟩)
  rcases hm with ⟨h1, h2, h3, hw⟩ | ⟨h1, h2, h3, hw⟩ | ⟨h1, h2, h3, hw⟩ | ⟨h1, h2, h3, hw⟩ | ⟨h1, h2, h3, f, hf, hw⟩ | ⟨h1, _, _, g, _, _, rfl⟩ | ⟨h1, h2, hw⟩ | ⟨h1, h2, hw⟩ | ⟨h1, h2, hw⟩ | ⟨h1, h2, hw⟩ | ⟨h1, h2, hw⟩ | ⟨h1, h2, f, hf, hw⟩ | ⟨h1, _, g, _, _, rfl⟩ | ⟨h1, h2, hw⟩ | ⟨h1, h2, hw⟩ | ⟨h1, h2, hw⟩
  ·
    right
    rcases wk_cases hw with hstop | ⟨n, g', es, hn, k1, k2, k3⟩
    · obtain ⟨_, g', k1, n, hn⟩ := hstop
      obtain ⟨m2, m3, m4, _⟩ := hmode.open_ (by omega)
      exact h.says X sl ha (k1 w h.kw) (hd0 (.inl rfl)) (M' := ⟨15, M.r, n⟩) (.inr (.inl ⟨rfl, h2, h3, hn⟩)) (by rw [h1]; rfl) (.inl ⟨by simp, m2, by rw [m3, h1]; rfl, m4, fun e => by simp at e⟩) (by simp [rcOf, h1]) (by rw [hclo, h1]; simp) (by simp) (.inl (by simp [phi, h1]))
    · exact hwalk k1 k2 (n := n) (.inl ⟨h1, h2, h3, k3⟩) (by omega) (by omega)
  ·
    right
    rcases wk_cases hw with hstop | ⟨n, g', es, hn, k1, k2, k3⟩
    · obtain ⟨_, hstop⟩ := hstop
      obtain ⟨m2, m3, m4, _⟩ := hmode.open_ (by omega)
      obtain ⟨g', k1, n, hn⟩ := hstop (Vc c D) (by omega)
      have hst : WgAt S.ty S.Wg w ((Vc c D : Nat) * KK) 0 := by
        have := h.grp
        rw [m3, m4, h1] at this
        simpa [pend] using this
      exact h.turns X sl ha (k1 w h.kw hst) rfl (hst.setSt _) hrw (M' := ⟨14, M.r, n⟩) (.inr (.inr (.inl ⟨rfl, h2, h3, hn⟩))) (by rw [h1]; rfl) (.inl ⟨by simp, m2, by simp [pend], rfl, fun e => by simp at e⟩) (by simp [rcOf, h1]) (by rw [hclo, h1]; simp) (by simp) (.inl (by simp [phi, h1]))
    · exact hwalk k1 k2 (n := n) (.inr (.inl ⟨h1, h2, h3, k3⟩)) (by omega) (by omega)
  ·
    right
    rcases wk_cases hw with hstop | ⟨n, g', es, hn, k1, k2, k3⟩
    · obtain ⟨_, g', k1, n, hn⟩ := hstop
      obtain ⟨m2, m3, m4, _⟩ := hmode.open_ (by omega)
      exact h.says X sl ha (k1 w h.kw) (hd0 (.inr (.inl rfl))) (M' := ⟨13, M.r, n⟩) (.inr (.inr (.inr (.inl ⟨rfl, h2, h3, hn⟩)))) (by rw [h1]; rfl) (.inl ⟨by simp, m2, by rw [m3, h1]; rfl, m4, fun e => by simp at e⟩) (by simp [rcOf, h1]) (by rw [hclo, h1]; simp) (by simp) (.inl (by simp [phi, h1]))
    · exact hwalk k1 k2 (n := n) (.inr (.inr (.inl ⟨h1, h2, h3, k3⟩))) (by omega) (by omega)
  ·
    right
    rcases wk_cases hw with hstop | ⟨n, g', es, hn, k1, k2, k3⟩
    · obtain ⟨_, g', x, k1, _, ⟨n, hn⟩, k2⟩ := hstop
      exact h.spawn X sl ha h1 (.inr (.inr (.inr (.inl ⟨h1, h2, h3, hw⟩)))) (k1 w h.kw) hn k2
    · exact hwalk k1 k2 (n := n) (.inr (.inr (.inr (.inl ⟨h1, h2, h3, k3⟩)))) (by omega) (by omega)
  ·
    right
    rcases wk_cases hw with hstop | ⟨n, g', es, hn, k1, k2, k3⟩
    · exact h.send X sl ha h1 h3 h2 (by omega) hstop
    · exact hwalk k1 k2 (n := n + 1) (.inr (.inr (.inr (.inr (.inl ⟨h1, h2, h3, n, rfl, k3⟩))))) (by omega) (by omega)
  · cases hrun
  ·
    right
    rcases wk_cases hw with hstop | ⟨n, g', es, hn, k1, k2, k3⟩
    · obtain ⟨_, hmw, g', hst, k1, n, hn⟩ := hstop
      obtain ⟨s, r, hch⟩ := h.chn
      have hcl := h.open_ (by omega)
      rw [hcl] at hch
      exact h.close X sl ha h1 hmw hst hch (k1 w s r h.kw hch) hn
    · exact hwalk k1 k2 (n := n) (.inr (.inr (.inr (.inr (.inr (.inr (.inl ⟨h1, h2, k3⟩))))))) (by omega) (by omega)
  ·
    right
    rcases wk_cases hw with hstop | ⟨n, g', es, hn, k1, k2, k3⟩
    · obtain ⟨_, g', k1, n, hn⟩ := hstop
      obtain ⟨m2, m3, m4, _⟩ := hmode.open_ (by omega)
      exact h.says X sl ha (k1 w h.kw) (hd0 (.inl rfl)) (M' := ⟨8, M.r, n⟩) (.inr (.inr (.inr (.inr (.inr (.inr (.inr (.inr (.inl ⟨rfl, h2, hn⟩))))))))) (by rw [h1]; rfl) (.inl ⟨by simp, m2, by rw [m3, h1]; rfl, m4, fun e => by simp at e⟩) (by simp [rcOf, h1]) (by rw [hclo, h1]; simp) (by simp) (.inl (by simp [phi, h1]; omega))
    · exact hwalk k1 k2 (n := n) (.inr (.inr (.inr (.inr (.inr (.inr (.inr (.inl ⟨h1, h2, k3⟩)))))))) (by omega) (by omega)
  ·
    right
    rcases wk_cases hw with hstop | ⟨n, g', es, hn, k1, k2, k3⟩
    · obtain ⟨_, n, hn⟩ := X.aw a hstop
      exact h.look X sl ha (.inl h1) h2 hn
    · exact hwalk k1 k2 (n := n) (.inr (.inr (.inr (.inr (.inr (.inr (.inr (.inr (.inl ⟨h1, h2, k3⟩))))))))) (by omega) (by omega)
  ·
    right
    exact h.look X sl ha (.inr ⟨h1, Nat.le_refl _⟩) h2 hw
  ·
    right
    rcases wk_cases hw with hstop | ⟨n, g', es, hn, k1, k2, k3⟩
    · obtain ⟨_, hstop⟩ := hstop
      obtain ⟨m2, m3, m4, m5⟩ := hmode.open_ (by omega)
      obtain ⟨m5, m6⟩ := m5 h1
      obtain ⟨k1, k2⟩ := hstop (Vc c D) (by omega)
      have hst : WgAt S.ty S.Wg w ((Vc c D : Nat) * KK) 0 := by
        have := h.grp
        rw [m3, m4, h1] at this
        simpa [pend] using this
      by_cases hv : Vc c D = M.r
      · obtain ⟨g', k3, n, hn⟩ := k1 hv
        exact h.turns X sl ha (k3 w h.kw hst) rfl (hst.setSt _) hrw (M' := ⟨5, 0, n + 1⟩) (.inr (.inr (.inr (.inr (.inr (.inr (.inr (.inr (.inr (.inr (.inr (.inl ⟨rfl, h2, n, rfl, hn⟩)))))))))))) (by rw [h1]; rfl) (.inr (.inl ⟨.inl rfl, m2, by omega, rfl, rfl⟩)) (by simp [rcOf, h1]) (by rw [hclo, h1]; simp) (by simp) (.inl (by simp [phi, h1]; omega))
      · obtain ⟨g', k3, n, hn⟩ := k2 hv
        exact h.says X sl ha (k3 w h.kw hst) hrd (M' := ⟨8, M.r, n⟩) (.inr (.inr (.inr (.inr (.inr (.inr (.inr (.inr (.inl ⟨rfl, h2, hn⟩))))))))) (by rw [h1]; rfl) (.inl ⟨by simp, m2, by rw [m3, h1]; rfl, m4, fun e => by simp at e⟩) (by simp [rcOf, h1]) (by rw [hclo, h1]; simp) (by simp) (.inl (by simp [phi, h1]; omega))
    · exact hwalk k1 k2 (n := n) (.inr (.inr (.inr (.inr (.inr (.inr (.inr (.inr (.inr (.inr (.inl ⟨h1, h2, k3⟩))))))))))) (by omega) (by omega)
  ·
    right
    rcases wk_cases hw with hstop | ⟨n, g', es, hn, k1, k2, k3⟩
    · have hstop' := hstop
      obtain ⟨_, _, k1, g', k2, n, hn⟩ := hstop
      have hblk : ∀ {st' : Int}, WgAt S.ty S.Wg w st' 0 → Mode c D 4 M.r st sm → ∃ m' ops μ', runT S.E.P (crowd gs w sl) 0 = (.next m', ops) ∧ Less (Nx S.E) S.n μ' (meas S c D M q) ∧ InvE S μ' m' (t ++ ops) := fun {st'} hst hmo =>
        h.says X sl ha (k1 w h.kw st' hst) (fun e he => by simp at he) (M' := ⟨4, M.r, 0⟩) (.inr (.inr (.inr (.inr (.inr (.inr (.inr (.inr (.inr (.inr (.inr (.inr (.inl ⟨rfl, h2, a, rfl, hstop', rfl⟩))))))))))))) (by rw [h1]; rfl) hmo (by simp [rcOf, h1]) (by rw [hclo, h1]; simp) (by simp) (.inr ⟨by simp [phi, h1], by simp; omega⟩)
      have hg := h.grp
      rcases hmode with ⟨m1, _⟩ | ⟨m1, m2, m3, m4, m5⟩ | ⟨m1, m2, m3⟩ | ⟨m1, m2, m3, m4⟩ | ⟨m1, _⟩
      · omega
      · rw [m5] at hg
        exact hblk hg (.inr (.inl ⟨.inr rfl, m2, m3, m4, m5⟩))
      · rw [m2] at hg
        exact hblk hg (.inr (.inr (.inl ⟨.inr rfl, m2, m3⟩)))
      · rw [m3, m4] at hg
        exact h.turns X sl ha (k2 w h.kw hg) rfl (hg.setSm _) hsm (M' := ⟨3, 0, n⟩) (.inr (.inr (.inr (.inr (.inr (.inr (.inr (.inr (.inr (.inr (.inr (.inr (.inr (.inl ⟨rfl, h2, hn⟩)))))))))))))) (by rw [h1]; rfl) (.inr (.inr (.inr (.inr ⟨by simp, m2, rfl, rfl⟩)))) (by simp [rcOf, h1]) (by rw [hclo, h1]; simp) (by simp) (.inl (by simp [phi, h1]))
      · omega
    · exact hwalk k1 k2 (n := n + 1) (.inr (.inr (.inr (.inr (.inr (.inr (.inr (.inr (.inr (.inr (.inr (.inl ⟨h1, h2, n, rfl, k3⟩)))))))))))) (by omega) (by omega)
  · cases hrun
  ·
    right
    rcases wk_cases hw with hstop | ⟨n, g', es, hn, k1, k2, k3⟩
    · obtain ⟨_, g', k1, n, hn⟩ := hstop
      obtain ⟨m1, m2, m3⟩ := hmode.fin (by omega)
      have hg := h.grp
      rw [m2, m3] at hg
      exact h.says X sl ha (k1 w h.kw hg) hrd (M' := ⟨2, 0, n⟩) (.inr (.inr (.inr (.inr (.inr (.inr (.inr (.inr (.inr (.inr (.inr (.inr (.inr (.inr (.inl ⟨rfl, h2, hn⟩))))))))))))))) (by rw [h1]; rfl) (.inr (.inr (.inr (.inr ⟨by simp, m1, m2, m3⟩)))) (by simp [rcOf, h1]) (by rw [hclo, h1]; simp) (by simp) (.inl (by simp [phi, h1]))
    · exact hwalk k1 k2 (n := n) (.inr (.inr (.inr (.inr (.inr (.inr (.inr (.inr (.inr (.inr (.inr (.inr (.inr (.inl ⟨h1, h2, k3⟩)))))))))))))) (by omega) (by omega)
  ·
    right
    rcases wk_cases hw with hstop | ⟨n, g', es, hn, k1, k2, k3⟩
    · obtain ⟨_, g', k1, n, hn⟩ := hstop
      obtain ⟨m1, m2, m3⟩ := hmode.fin (by omega)
      exact h.says X sl ha (k1 w h.kw) (hd0 (.inr (.inl rfl))) (M' := ⟨1, 0, n⟩) (.inr (.inr (.inr (.inr (.inr (.inr (.inr (.inr (.inr (.inr (.inr (.inr (.inr (.inr (.inr ⟨rfl, h2, hn⟩))))))))))))))) (by rw [h1]; rfl) (.inr (.inr (.inr (.inr ⟨by simp, m1, m2, m3⟩)))) (by simp [rcOf, h1]) (by rw [hclo, h1]; simp) (by simp) (.inl (by simp [phi, h1]))
    · exact hwalk k1 k2 (n := n) (.inr (.inr (.inr (.inr (.inr (.inr (.inr (.inr (.inr (.inr (.inr (.inr (.inr (.inr (.inl ⟨h1, h2, k3⟩))))))))))))))) (by omega) (by omega)
  ·
    rcases wk_cases hw with hstop | ⟨n, g', es, hn, k1, k2, k3⟩
    · obtain ⟨_, g', k1, k2⟩ := hstop
      exact .inl (h.ends X sl ha h1 h2 (k1 w h.kw) k2)
    · exact .inr (hwalk k1 k2 (n := n) (.inr (.inr (.inr (.inr (.inr (.inr (.inr (.inr (.inr (.inr (.inr (.inr (.inr (.inr (.inr ⟨h1, h2, k3⟩))))))))))))))) (by omega) (by omega))
end
end Go.Proofs.YtaablbmgagiajabGreatDoor.Ren
namespace Go.Proofs.YtaablbmgagiajabGreatDoor.Ren
open Go Go.Conc
open Go.ConcR (KK WgAt stA smA rd wr)
open Go.ConcN (RelBy sumTo upd upd_same upd_ne sumTo_upd sumTo_congr le_sumTo get_map_set get_map_set_same)
section
variable {S : Sc} {c : Nat} {D : Nat → WD} {M : MD} {ob oc q : Nat → Nat} {cl : Bool} {st sm : Int} {gs : Array Goroutine} {w : World} {t : Trace}
theorem Inv.oldStep (X : ScOk S) (h : Inv S c D M ob oc q cl st sm gs w t) {k : Nat} (hk0 : 0 < k) (hkj : k < S.j0) {g : Goroutine} (sl : Option (Nat × Nat)) (hg : gs[k]? = some g) (hrun : g.status = .running) :
    ∃ m' ops μ', runT S.E.P (crowd gs w sl) k = (.next m', ops) ∧ Less (Nx S.E) S.n μ' (meas S c D M q) ∧ InvE S μ' m' (t ++ ops) := by
  obtain ⟨g1, hg1, hq⟩ := h.old k hk0 hkj
  rw [hg] at hg1
  cases hg1
  generalize hn : q k = n at hq
  cases n with
  | zero =>
    rw [hq.1] at hrun
    cases hrun
  | succ n =>
    rcases hq with ⟨hq, _⟩ | ⟨_, g', es, k1, k2, k3⟩
    · rw [hq] at hrun
      cases hrun
    · have hb : (k == 0) = false := by simp; omega
      have hrunT := runT_crowd_go (P := S.E.P) (sl := sl) (i := k) hg (by rw [hb]; exact k2 w)
      have hgu : ∀ op ∈ MemOp.ofEvents k g.frame.fn g.frame.place es, op.g = k := fun op hop => by
        obtain ⟨e, _, rfl⟩ := Go.Conc.mem_ofEvents hop
        rfl
      have hnt : ∀ op ∈ MemOp.ofEvents k g.frame.fn g.frame.place es, op.act.touch? = none ∧ (∀ B, op.act.low B) ∧ op.act ≠ .mark (.release (stA S.Wg)) := fun op hop => by
        obtain ⟨e, he, rfl⟩ := Go.Conc.mem_ofEvents hop
        refine ⟨touch_mute (k1 e he), fun B => low_mute (k1 e he) B, ?_⟩
        have hmu := k1 e he
        intro hx
        obtain ⟨loc, wr, sy⟩ := e
        cases loc with
        | mark m =>
          simp only [MemAct.ofEvent, MemAct.mark.injEq] at hx
          subst hx
          cases hmu
        | obj c => cases wr <;> cases sy <;> simp [MemAct.ofEvent] at hx
        | _ => simp [MemAct.ofEvent] at hx
      obtain ⟨s, r, hcn⟩ := h.chn
      obtain ⟨a, ha, hm⟩ := h.main
      obtain ⟨M', hm', hM', _⟩ := hm.woken X g g' hcn h.clo
      have hcr : rcOf S M' = rcOf S M := rcOf_woken S hM'
      have hkd : M'.kind = M.kind ∨ (M.kind = 4 ∧ M'.kind = 5) := by
        rcases hM' with rfl | ⟨h1, _, rfl⟩
        · exact .inl rfl
        · exact .inr ⟨h1, rfl⟩
      have hr' : M'.r = M.r := by
        rcases hM' with rfl | ⟨_, _, rfl⟩ <;> rfl
      have hf' : M'.fuel ≤ M.fuel + 1 := by
        rcases hM' with rfl | ⟨_, _, rfl⟩
        · omega
        · simp
      have hne : ∀ k', k' ≠ k → ∀ x, gs[k']? = some x → ((gs.map (Go.Conc.woken S.E.P g g' w)).setIfInBounds k g')[k']? = some (Go.Conc.woken S.E.P g g' w x) := fun k' hk x hx => by
        rw [get_map_set _ _ _ _ (fun e => hk e.symm), hx]
        rfl
      have hdo : ∀ k', k' ≠ k → Deaf (t ++ MemOp.ofEvents k g.frame.fn g.frame.place es) k' = Deaf t k' := fun k' hk' => Deaf_other t (g' := k) (fun e => hk' e.symm) _ hgu
      refine ⟨_, _, meas S c D M' (upd q k n), hrunT, ?_, c, D, M', ob, oc, upd q k n, cl, st, sm, _, w, sl, rfl, ⟨?_, ?_, ?_, ?_, ?_, ?_, ?_, h.kw, ?_, h.obl, ?_, ?_, ?_, ?_, h.grp, ?_, h.chn, ?_, h.opn, ?_, ?_, ?_, h.acc⟩, rfl⟩
      · have e1 : sumTo S.j0 (upd q k n) + q k = sumTo S.j0 q + n := sumTo_upd q n (fun x => x) hkj
        unfold Less meas
        simp only [hcr, phi_woken S _ hM']
        right
        exact ⟨by first | rfl | trivial, .inr ⟨by first | rfl | trivial, by omega⟩⟩
      · simp [h.size]
      · exact ⟨_, hne 0 (by omega) a ha, hm'⟩
      · intro k' hk0' hkj'
        by_cases hkk : k' = k
        · subst hkk
          rw [upd_same, Deaf_own]
          exact ⟨g', get_map_set_same _ _ _ (by rw [h.size]; omega), k3⟩
        · obtain ⟨x, hx, hqx⟩ := h.old k' hk0' hkj'
          refine ⟨_, hne k' hkk x hx, ?_⟩
          rw [woken_quitsD hqx, upd_ne q n hkk, hdo k' hkk]
          exact hqx
      · intro i' hi'
        obtain ⟨x, hx, hs⟩ := h.wk i' hi'
        refine ⟨_, hne _ (by omega) x hx, ?_⟩
        rw [hs.woken X g g' hcn]
        exact hs
      · rw [hdo 0 (by omega), h.deaf0]
        rcases hkd with h1 | ⟨h1, h2⟩
        · rw [h1]
        · rw [h1, h2]; rfl
      · intro i' hi'
        rw [hdo _ (by omega)]
        exact h.deafW i' hi'
      · intro k' hk'
        rw [hdo _ (by omega)]
        exact h.deafN k' hk'
      · have := Tr.appNs (MemOp.ofEvents k g.frame.fn g.frame.place es).toList h.tr fun y hy => by
          have hy : y ∈ MemOp.ofEvents k g.frame.fn g.frame.place es := by simpa using hy
          exact ⟨by rw [hgu y hy]; omega, (hnt y hy).2.1 _, (hnt y hy).1⟩
        simpa using this
      · rw [hcr]; exact h.ocl
      · rw [hcr]
        intro op hop b hb p' hp' ad h1 h2
        rcases Array.mem_append.1 hop with hop | hop
        · exact h.oct op hop b hb p' hp' ad h1 h2
        · rw [(hnt op hop).1] at hb
          cases hb
      · intro i' hi' hs
        obtain ⟨r, hr⟩ := h.rel i' hi' hs
        exact ⟨r, RelBy.appOther hr hgu (by omega)⟩
      · exact NoRelease.app h.nor fun op hop => (hnt op hop).2.2
      · rw [hr']
        rcases hkd with h1 | ⟨h1, h2⟩
        · rw [h1]; exact h.mode
        · have := h.mode
          rw [h1] at this
          rw [h2]
          exact this.wake
      · rw [h.clo]
        rcases hkd with h1 | ⟨h1, h2⟩ <;> omega
      · rw [hcr]; exact h.pay
      · rw [hcr]; exact h.plc
      · intro e
        exact h.npk (by omega)
theorem Inv.at (h : Inv S c D M ob oc q cl st sm gs w t) (d : Nat) : Inv S c D M ob oc q cl st sm gs (w.at d) t where
  size := h.size
  main := h.main
  old := h.old
  wk i hi := by
    obtain ⟨g, hg, hs⟩ := h.wk i hi
    exact ⟨g, hg, hs.other (Ch.at (fun _ => False) w d) (fun _ hb => hb.elim) (fun _ _ hb => hb.elim) fun _ _ he => he⟩
  deaf0 := h.deaf0
  deafW := h.deafW
  deafN := h.deafN
  kw := h.kw.at d
  tr := h.tr
  obl := h.obl
  ocl := h.ocl
  oct := h.oct
  rel := h.rel
  nor := h.nor
  grp := h.grp
  mode := h.mode
  chn := h.chn
  clo := h.clo
  opn := h.opn
  pay := h.pay
  plc := h.plc
  npk := h.npk
  acc := h.acc
end
theorem all_step {S : Sc} (X : ScOk S) (μ : Nat × (Nat → Cfg) × Nat) (m : Machine) (t : Trace) (h : InvE S μ m t) :
    (∃ gs' w' sl' ops, stepT S.E.P m = (.next (crowd gs' w' sl'), ops) ∧ Ends S gs' w' (t ++ ops)) ∨ ∃ m' ops μ', stepT S.E.P m = (.next m', ops) ∧ Less (Nx S.E) S.n μ' μ ∧ InvE S μ' m' (t ++ ops) := by
  obtain ⟨c, D, M, ob, oc, q, cl, st, sm, gs, w, sl, rfl, h, rfl⟩ := h
  obtain ⟨haw, hsome⟩ := h.awake X
  obtain ⟨k, g, d, sl', hg, hrun, hstep⟩ := crowd_pick (P := S.E.P) (w := w) (sl := sl) haw hsome
  rw [hstep]
  have h' := h.at d
  have hj := X.j0
  have hlt := (Array.getElem?_eq_some_iff.1 hg).1
  rw [h.size] at hlt
  rcases Nat.eq_zero_or_pos k with rfl | hpos
  · rcases h'.mainStep X sl' hg hrun with ⟨gs', ops, h1, h2⟩ | h1
    · exact .inl ⟨gs', _, sl', ops, h1, h2⟩
    · exact .inr h1
  · rcases Nat.lt_or_ge k S.j0 with hl | hl
    · exact .inr (h'.oldStep X hpos hl sl' hg hrun)
    · have e : S.j0 + (k - S.j0) = k := by omega
      rw [← e] at hg ⊢
      rcases Nat.lt_or_ge 16 (D (k - S.j0)).stage with h17 | h17
      · exact .inr (h'.upper X (by omega) sl' hg hrun h17)
      · exact .inr (h'.lower X (by omega) sl' hg hrun h17)
theorem all_run {S : Sc} (X : ScOk S) {μ : Nat × (Nat → Cfg) × Nat} {m : Machine} {t : Trace} (h : InvE S μ m t) : ∃ N gs' w' sl' t', runNT S.E.P N m t = (.next (crowd gs' w' sl'), t') ∧ Ends S gs' w' t' := by
  have hG : ∀ {μ m t}, InvE S μ m t → ∀ i, Acc (Nx S.E) (μ.2.1 i) := fun h => by
    obtain ⟨c, D, M, ob, oc, q, cl, st, sm, gs, w, sl, rfl, h, rfl⟩ := h
    exact h.acc
  have hwf := wf_less (r := Nx S.E) (n := S.n) (fun x => ∀ i, Acc (Nx S.E) (x.2.1 i)) fun x hx i _ => hx i
  have key : ∀ x : {x : Nat × (Nat → Cfg) × Nat // ∀ i, Acc (Nx S.E) (x.2.1 i)}, ∀ m t, InvE S x.1 m t → ∃ N gs' w' sl' t', runNT S.E.P N m t = (.next (crowd gs' w' sl'), t') ∧ Ends S gs' w' t' := fun x => by
    induction x using hwf.induction with
    | h x ih =>
      intro m t h
      rcases all_step X x.1 m t h with ⟨gs', w', sl', ops, h1, h2⟩ | ⟨m', ops, μ', h1, h2, h3⟩
      · exact ⟨1, gs', w', sl', t ++ ops, by simp [runNT, h1], h2⟩
      · obtain ⟨N, gs', w', sl', t', k1, k2⟩ := ih ⟨μ', hG h3⟩ h2 m' (t ++ ops) h3
        exact ⟨N + 1, gs', w', sl', t', by simp only [runNT, h1]; exact k1, k2⟩
  exact key ⟨μ, hG h⟩ m t h
theorem all_start {S : Sc} (X : ScOk S) {gs : Array Goroutine} {a : Goroutine} {t : Trace} {q : Nat → Nat} {B : Nat} (sl : Option (Nat × Nat)) (hsz : gs.size = S.j0) (ha : gs[0]? = some a) (hL : Leavers S.E.P t gs q) (hP : Past S.Shun B t) (hB : B ≤ S.w0.heap.size) (hWB : B ≤ S.Wg) (hs0 : S.s0 = t.size)
    (hAn : ∀ op ∈ t, ∀ a, op.act.touch? = some a → ∀ ad : Addr, ad.block = S.An → a.loc ≠ .cell ad) (hkw : KW S S.w0) (hwg : WgAt S.ty S.Wg S.w0 0 0) {s r : Nat} (hch : S.w0.heap[S.Cn]? = some (.chan 0 #[] false s r false)) (hm : Spw S S.n a) :
    ∃ N gs' w' sl' t', runNT S.E.P N (crowd gs S.w0 sl) t = (.next (crowd gs' w' sl'), t') ∧ Ends S gs' w' t' := by
  have hj := X.j0
  have hn := X.hn
  obtain ⟨M, hM, hrc, _, hkd⟩ := spw_sit hm (Nat.le_refl _)
  rw [Nat.sub_self] at hM
  have h13 : M.kind = 16 := by
    have := hM.range.2.2.2.1
    omega
  refine all_run X (μ := _) ⟨0, fun _ => ⟨1, 0, 0, 0, ([], #[])⟩, M, fun _ => 0, fun _ => 0, q, false, 0, 0, gs, S.w0, sl, rfl, ⟨by omega, ⟨a, ha, hM⟩, fun k h1 h2 => ?_, fun i hi => by omega, ?_, fun i hi => by omega, fun k hk => hL.above k (by omega), hkw, ?_, fun b hb => absurd rfl hb, fun _ _ => rfl, fun op hop b hb p _ ad h1 _ => hAn op hop b hb ad h1, fun i hi => by omega, ?_, hwg, ?_, ⟨s, r, hch⟩, ?_, fun _ i hi => by omega, ?_, fun i hi => by omega, fun e => by omega, fun i => Acc.intro _ fun y hy => absurd rfl hy.1⟩, rfl⟩
  · have hlt : k < gs.size := by omega
    exact ⟨gs[k], Array.getElem?_eq_getElem hlt, hL.old k _ h1 (Array.getElem?_eq_getElem hlt)⟩
  · rw [hP.hears, h13]; rfl
  · have h1 := Tr.of_past (Sh := S.Sh) (Rd := S.Rd) hP hj (by
      rintro l ⟨ad, rfl, h1⟩ h2
      have h2 : ad.block < B := h2
      omega)
    have h2 : Tr S.Sh S.Shun S.Rd (fun _ _ => False) S.s0 S.j0 (S.j0 + 0) B t := by rw [hs0]; exact h1
    refine (h2.give (fun k l hf => hf.elim) fun k l hl => ?_).more hB
    obtain ⟨hk, ⟨ad, rfl, ⟨_, h1⟩ | ⟨_, h1⟩⟩ | ⟨b, rfl, h1⟩⟩ := hl <;> exact absurd h1.symm hk
  · intro i hi
    obtain ⟨op, hop, he⟩ := Option.map_eq_some_iff.1 hi
    have := hP.seen op (Go.Conc.mem_of_getElem? hop)
    rw [he] at this
    have h2 : S.Wg < B := this
    omega
  · refine .inl ⟨by omega, fun i hi => by omega, ?_, rfl, fun e => by omega⟩
    rw [h13]
    rfl
  · rw [h13]; simp
  · obtain ⟨cs, h1, h2⟩ := hkw.pay
    exact ⟨cs, h1, h2, fun p hp => by omega⟩
end Go.Proofs.YtaablbmgagiajabGreatDoor.Ren
namespace Go.Proofs.YtaablbmgagiajabGreatDoor.Ren
open Go Go.Extern
structure XtOk (E : Env) : Prop where
  r : ∃ t, E.K t = true ∧ ∀ w es, (cutType "internal/reflectlite.rtype").runT E.P w es = (.ok t w, es)
  v : ∃ t e, E.K t = true ∧ (∀ w es, (cutType "*internal/reflectlite.ValueError").runT E.P w es = (.ok t w, es)) ∧ ∀ w es, (elemOf t).runT E.P w es = (.ok e w, es)
section
variable {E : Env} {f : Nat → Nat} {n : Nat}
theorem sim_known {α β : Type} {Q : Nat → β → β → Prop} {t : Sem α} {a : α} {g g' : α → Sem β} (h : ∀ w es, t.runT E.P w es = (.ok a w, es)) (hg : Sim E f n Q (g a) (g' a)) : Sim E f n Q (t >>= g) (t >>= g') := by
  have h1 : Sim E f n (fun _ x x' => x = a ∧ x' = a) t t := by
    intro hl w hr hn hos
    exact Sim.good [] (a := a) (a' := a) #[] (Nat.le_refl _) ⟨rfl, rfl⟩ (.refl hr) (fun v es hv _ => ⟨es, by rw [h v es]; subst hv; rfl⟩) (fun es => by rw [h w es, Array.append_empty])
  refine h1.bind fun m x x' hm hx => ?_
  obtain ⟨rfl, rfl⟩ := hx
  exact hg.mono hm fun _ _ _ _ h => h
theorem handle_same (F : Fit E f) (H : RtOk E) (h : Value) : handleType E.P (rV f h) = handleType E.P h := by
  cases h with
  | pointer a =>
    cases a with
    | none => rw [rV]; rfl
    | some a =>
      rw [rV]
      show (if (f a.block == E.P.globals.size) = true then some a.off else none) = (if (a.block == E.P.globals.size) = true then some a.off else none)
      have hg := F.low _ (F.ro _ H.g)
      have : (f a.block == E.P.globals.size) = (a.block == E.P.globals.size) := by
        rw [Bool.eq_iff_iff]
        simp only [beq_iff_eq]
        constructor
        · intro e
          exact F.inj _ _ (e.trans hg.symm)
        · intro e
          rw [e, hg]
      rw [this]
  | _ => simp [rV, handleType]
theorem sim_ofHandle (F : Fit E f) (H : RtOk E) (h : Value) : Sim E f n EQ (Rtype.ofHandle h) (Rtype.ofHandle (rV f h)) := by
  unfold Rtype.ofHandle
  refine Sim.program ?_
  rw [handle_same F H h]
  cases handleType E.P h with
  | none => exact Sim.stuck
  | some t => exact Sim.pure fun _ _ => rfl
theorem calm_noPack (s : String) (t : TypeId) : Calm E (Rtype.noPack s t) := by
  unfold Rtype.noPack
  exact .program (.ite (.unsupported (by simp)) (.pure _))
theorem calm_noPackNamed (s : String) (t : TypeId) : Calm E (Rtype.noPackNamed s t) := by
  unfold Rtype.noPackNamed
  exact .program (.program (.ite (.unsupported (by simp)) (.pure _)))
theorem calm_noPackMethods (s : String) (t : TypeId) : Calm E (Rtype.noPackMethods s t) := by
  unfold Rtype.noPackMethods
  exact .program (.program (.ite (.unsupported (by simp)) (.pure _)))
theorem calm_spelt (t : TypeId) : Calm E (Rtype.spelt t) := (calm_noPackNamed _ t).bind fun _ => calm_typeStr t
theorem calm_under (t : TypeId) : Calm E (Rtype.under t) := by
  unfold Rtype.under
  refine (calm_typeInfo t).bind fun i => ?_
  cases i.desc <;> first | exact .pure _ | exact (calm_typeInfo _).bind fun _ => .pure _
theorem calm_kind (t : TypeId) : Calm E (Rtype.kind t) := by
  unfold Rtype.kind
  refine (calm_under t).bind fun p => ?_
  obtain ⟨_, i⟩ := p
  dsimp only
  cases i.desc with
  | int k => cases k <;> exact .pure _
  | float k => cases k <;> exact .pure _
  | complex k => cases k <;> exact .pure _
  | _ => first | exact .pure _ | exact .stuck _
theorem calm_hasName (t : TypeId) : Calm E (Rtype.hasName t) := by
  unfold Rtype.hasName
  refine (calm_typeInfo t).bind fun i => ?_
  cases i.desc <;> exact .pure _
theorem calm_elem (t : TypeId) : Calm E (Rtype.elem? t) := by
  unfold Rtype.elem?
  refine (calm_under t).bind fun p => ?_
  cases p.2.desc <;> exact .pure _
theorem calm_implements (t u : TypeId) : Calm E (Rtype.implements t u) := by
  unfold Rtype.implements
  refine (calm_noPackMethods _ _).bind fun _ => (calm_noPackMethods _ _).bind fun _ => (calm_under t).bind fun p => (calm_under u).bind fun q => ?_
  cases p.2.desc with
  | interface want =>
    cases q.2.desc with
    | interface got => exact .pure _
    | _ => exact (calm_typeInfo u).bind fun _ => .pure _
  | _ => exact .pure _
theorem calm_direct (t u : TypeId) : Calm E (Rtype.directlyAssignable t u) := by
  unfold Rtype.directlyAssignable
  refine .ite (.pure _) ?_
  refine (calm_hasName t).bind fun a => (calm_hasName u).bind fun b => .ite (.pure _) ?_
  refine (calm_under t).bind fun p => ?_
  obtain ⟨p1, p2⟩ := p
  refine (calm_under u).bind fun q => ?_
  obtain ⟨q1, q2⟩ := q
  dsimp only
  split <;> exact .pure _
theorem vq_handle (F : Fit E f) (H : RtOk E) (t : TypeId) (m : Nat) : rV f (typeHandle E.P t) = typeHandle E.P t ∧ okV E m (typeHandle E.P t) := ⟨(sim_handle F H t m).1.symm, (sim_handle F H t m).2⟩
theorem sim_toType (F : Fit E f) (H : RtOk E) (Y : XtOk E) (t : TypeId) : Sim E f n (VQ E f) (ReflectliteType.toType t) (ReflectliteType.toType t) := by
  obtain ⟨t0, hK, hc⟩ := Y.r
  unfold ReflectliteType.toType
  refine sim_known hc ?_
  unfold Rtype.handle
  rw [bind_assoc]
  refine Sim.program ?_
  rw [pure_bind]
  refine Sim.pure fun m _ => ?_
  obtain ⟨h1, h2⟩ := vq_handle (E := E) F H t m
  refine ⟨?_, ?_⟩
  · rw [rV, rV]
    simp [h1]
  · rw [okV, okV]
    refine ⟨hK, fun x hx => ?_⟩
    simp only [List.mem_toArray, List.mem_cons, List.not_mem_nil, or_false] at hx
    subst hx
    exact h2
theorem sim_valueError {α : Type} {Q : Nat → α → α → Prop} (Y : XtOk E) (s : String) (k : Nat) : Sim E f n Q (ReflectliteValue.valueError s k) (ReflectliteValue.valueError s k) := by
  obtain ⟨t0, e0, hK, hc, he⟩ := Y.v
  unfold ReflectliteValue.valueError
  refine sim_known hc (sim_known he ?_)
  have hp : plainV (.agg #[strVal s, .int .u8 (Int.ofNat k)]) = true := by simp [plainV, plain0, strVal]
  have h1 := sim_newVar (f := f) (okV_plain (E := E) (n := n) hp) e0
  rw [rV_plain hp] at h1
  refine h1.bind fun m a a' hm ha => ?_
  obtain ⟨rfl, hI⟩ := ha
  have := Sim.goPanic (E := E) (f := f) (n := m) (Q := Q) (v := .iface t0 (.pointer (some a))) (by rw [okV, okV]; exact ⟨hK, .inl hI⟩)
  rw [rV, rV] at this
  exact this
def PtQ (E : Env) (f : Nat → Nat) (m : Nat) (x x' : Option (TypeId × Addr × Nat)) : Prop := x' = x.map (fun p => (p.1, rA f p.2.1, p.2.2)) ∧ ∀ t a k, x = some (t, a, k) → E.A m a.block
theorem sim_partsAny (F : Fit E f) (H : RtOk E) {x : Value} (hx : okV E n x) : Sim E f n (PtQ E f) (ReflectliteValue.partsAny x) (ReflectliteValue.partsAny (rV f x)) := by
  cases x with
  | agg cs =>
    obtain ⟨l⟩ := cs
    rw [rV, List.map_toArray]
    rw [okV] at hx
    match l with
    | [] => exact Sim.stuck
    | [_] => exact Sim.stuck
    | [_, _] => exact Sim.stuck
    | _ :: _ :: _ :: _ :: _ => exact Sim.stuck
    | [h, p, q] =>
      rw [List.map_cons, List.map_cons, List.map_cons, List.map_nil]
      have hp : okV E n p := hx p (by simp)
      have fin : ∀ a (z : Nat), p = .pointer (some a) → Sim E f n (PtQ E f) (Rtype.ofHandle h >>= fun t => Pure.pure (some (t, a, z))) (Rtype.ofHandle (rV f h) >>= fun t => Pure.pure (some (t, rA f a, z))) := fun a z e => by
        subst e
        rw [okV] at hp
        refine (sim_ofHandle F H h).bind fun m t t' hm ht => ?_
        obtain rfl := ht
        exact Sim.pure fun m2 hm2 => ⟨rfl, fun _ _ _ h => by cases h; exact Env.A.mono hp (Nat.le_trans hm hm2)⟩
      cases q with
      | int k z =>
        rw [rV]
        cases k with
        | u64 =>
          cases z with
          | ofNat z =>
            cases z with
            | zero => exact Sim.pure fun _ _ => ⟨rfl, fun _ _ _ h => by cases h⟩
            | succ z =>
              cases p with
              | pointer a =>
                cases a with
                | none => exact Sim.stuck
                | some a => rw [rV]; exact fin a (z + 1) rfl
              | _ => exact Sim.stuck
          | negSucc z =>
            cases p with
            | pointer a =>
              cases a with
              | none => exact Sim.stuck
              | some a => rw [rV]; exact fin a 0 rfl
            | _ => exact Sim.stuck
        | _ =>
          cases p with
          | pointer a => cases a <;> exact Sim.stuck
          | _ => exact Sim.stuck
      | _ =>
        cases p with
        | pointer a => cases a <;> exact Sim.stuck
        | _ => exact Sim.stuck
  | _ => exact Sim.stuck
theorem sim_parts (F : Fit E f) (H : RtOk E) {x : Value} (hx : okV E n x) : Sim E f n (PtQ E f) (ReflectliteValue.parts x) (ReflectliteValue.parts (rV f x)) := by
  unfold ReflectliteValue.parts
  refine (sim_partsAny F H hx).bind fun m p p' hm hp => ?_
  obtain ⟨rfl, hA⟩ := hp
  cases p with
  | none => exact Sim.pure fun _ _ => ⟨rfl, fun _ _ _ h => by cases h⟩
  | some p =>
    obtain ⟨t, a, k⟩ := p
    dsimp only [Option.map_some]
    refine Sim.same (calm_noPack _ _) fun _ => ?_
    exact Sim.pure fun m2 hm2 => ⟨rfl, fun _ _ _ h => by cases h; exact (hA t a k rfl).mono hm2⟩
theorem one_arg {g : Value → Sem Value} {k : Array Value → Sem Value} (h1 : ∀ v, k #[v] = g v) (h0 : k #[] = stuck "x" ∨ ∃ s, k #[] = stuck s) (h2 : ∀ a b l, ∃ s, k (a :: b :: l).toArray = stuck s) {args : Array Value} (ha : okAll E n args) (hg : ∀ v, okV E n v → Sim E f n (VQ E f) (g v) (g (rV f v))) : Sim E f n (VQ E f) (k args) (k (args.map (rV f))) := by
  obtain ⟨l⟩ := args
  match l with
  | [] =>
    rcases h0 with h | ⟨s, h⟩
    · show Sim E f n _ (k #[]) _
      rw [h]
      exact Sim.stuck
    · show Sim E f n _ (k #[]) _
      rw [h]
      exact Sim.stuck
  | [v] =>
    rw [List.map_toArray, List.map_cons, List.map_nil]
    show Sim E f n _ (k #[v]) (k #[rV f v])
    rw [h1, h1]
    exact hg v (ha v (by simp))
  | a :: b :: l =>
    obtain ⟨s, h⟩ := h2 a b l
    rw [h]
    exact Sim.stuck
theorem sim_methodAny (F : Fit E f) (H : RtOk E) {z : Sem Value} {g : TypeId → Addr → Nat → Nat → Sem Value} {args : Array Value} (ha : okAll E n args) (hz : ∀ m, Sim E f m (VQ E f) z z) (hg : ∀ m t a k j, n ≤ m → E.A m a.block → Sim E f m (VQ E f) (g t a k j) (g t (rA f a) k j)) : Sim E f n (VQ E f) (ReflectliteValue.methodAny z g args) (ReflectliteValue.methodAny z g (args.map (rV f))) := by
  refine one_arg (g := fun v => ReflectliteValue.partsAny v >>= fun p => match p with | none => z | some (t, a, fl) => g t a fl (fl % 32)) (fun v => rfl) (.inr ⟨_, rfl⟩) (fun a b l => ⟨_, rfl⟩) ha fun v hv => ?_
  refine (sim_partsAny F H hv).bind fun m p p' hm hp => ?_
  obtain ⟨rfl, hA⟩ := hp
  cases p with
  | none => exact hz m
  | some p => exact hg m p.1 p.2.1 p.2.2 _ hm (hA _ _ _ rfl)
theorem sim_methodV (F : Fit E f) (H : RtOk E) {z : Sem Value} {g : TypeId → Addr → Nat → Nat → Sem Value} {args : Array Value} (ha : okAll E n args) (hz : ∀ m, Sim E f m (VQ E f) z z) (hg : ∀ m t a k j, n ≤ m → E.A m a.block → Sim E f m (VQ E f) (g t a k j) (g t (rA f a) k j)) : Sim E f n (VQ E f) (ReflectliteValue.method z g args) (ReflectliteValue.method z g (args.map (rV f))) := by
  refine one_arg (g := fun v => ReflectliteValue.parts v >>= fun p => match p with | none => z | some (t, a, fl) => g t a fl (fl % 32)) (fun v => rfl) (.inr ⟨_, rfl⟩) (fun a b l => ⟨_, rfl⟩) ha fun v hv => ?_
  refine (sim_parts F H hv).bind fun m p p' hm hp => ?_
  obtain ⟨rfl, hA⟩ := hp
  cases p with
  | none => exact hz m
  | some p => exact hg m p.1 p.2.1 p.2.2 _ hm (hA _ _ _ rfl)
theorem sim_isNil (F : Fit E f) (_ : RtOk E) (Y : XtOk E) {t : TypeId} {a : Addr} {k j : Nat} (hA : E.A n a.block) : Sim E f n (VQ E f) (ReflectliteValue.isNil t a k j) (ReflectliteValue.isNil t (rA f a) k j) := by
  unfold ReflectliteValue.isNil
  have rest : Sim E f n (VQ E f) (loadVar t a >>= fun v => (match v with | .chan none | .nilFunc | .nilIface | .map none | .pointer none | .slice none _ _ => Pure.pure (.bool true) | _ => Pure.pure (.bool false) : Sem Value)) (loadVar t (rA f a) >>= fun v => (match v with | .chan none | .nilFunc | .nilIface | .map none | .pointer none | .slice none _ _ => Pure.pure (.bool true) | _ => Pure.pure (.bool false) : Sem Value)) := by
    refine (sim_loadVar F hA t).bind fun m v v' hm hv => ?_
    obtain ⟨rfl, hv⟩ := hv
    cases v with
    | chan r => cases r <;> (rw [rV]; exact Sim.pure fun _ _ => vq_plain rfl)
    | map r => cases r <;> (rw [rV]; exact Sim.pure fun _ _ => vq_plain rfl)
    | pointer r => cases r <;> (rw [rV]; exact Sim.pure fun _ _ => vq_plain rfl)
    | slice r _ _ => cases r <;> (rw [rV]; exact Sim.pure fun _ _ => vq_plain rfl)
    | _ => rw [rV]; exact Sim.pure fun _ _ => vq_plain rfl
  refine Sim.ite (fun _ => ?_) fun _ => rest
  exact (sim_valueError (Q := fun _ _ _ => False) Y _ _).bind fun _ _ _ _ h => h.elim
theorem vq_zeroV (m : Nat) : VQ E f m ReflectliteValue.zeroV ReflectliteValue.zeroV := by
  have : plainV ReflectliteValue.zeroV = true := by simp [ReflectliteValue.zeroV, plainV, plain0]
  exact ⟨(rV_plain this).symm, okV_plain this⟩
theorem sim_mk (F : Fit E f) (H : RtOk E) {t : TypeId} {a : Addr} {k : Nat} (hA : E.A n a.block) : Sim E f n (VQ E f) (ReflectliteValue.mk t a k) (ReflectliteValue.mk t (rA f a) k) := by
  unfold ReflectliteValue.mk Rtype.handle
  rw [bind_assoc, bind_assoc]
  refine Sim.program ?_
  rw [pure_bind, pure_bind]
  refine Sim.same (calm_kind t) fun kk => ?_
  refine Sim.pure fun m hm => ?_
  obtain ⟨h1, h2⟩ := vq_handle (E := E) F H t m
  refine ⟨?_, ?_⟩
  · rw [rV]
    simp [h1, rV]
  · rw [okV]
    intro x hx
    simp only [List.mem_toArray, List.mem_cons, List.not_mem_nil, or_false] at hx
    rcases hx with rfl | rfl | rfl
    · exact h2
    · rw [okV]; exact hA.mono hm
    · rw [okV] <;> simp
theorem sim_unpack (F : Fit E f) (H : RtOk E) {v : Value} (hv : okV E n v) : Sim E f n (VQ E f) (ReflectliteValue.unpack v) (ReflectliteValue.unpack (rV f v)) := by
  cases v with
  | nilIface => rw [rV]; exact Sim.pure fun m _ => vq_zeroV m
  | iface t v =>
    rw [rV]
    rw [okV] at hv
    unfold ReflectliteValue.unpack
    refine (sim_newVar hv.2 t).bind fun m a a' hm ha => ?_
    obtain ⟨rfl, hI⟩ := ha
    exact sim_mk F H (.inl hI)
  | _ => exact Sim.stuck
theorem sim_elemV (F : Fit E f) (H : RtOk E) (Y : XtOk E) {t : TypeId} {a : Addr} {k j : Nat} (hA : E.A n a.block) : Sim E f n (VQ E f) (ReflectliteValue.elem t a k j) (ReflectliteValue.elem t (rA f a) k j) := by
  unfold ReflectliteValue.elem
  refine Sim.ite (fun _ => (sim_valueError (Q := fun _ _ _ => False) Y _ _).bind fun _ _ _ _ h => h.elim) fun hc => ?_
  have hj : j = 20 ∨ j = 22 := by
    rcases Nat.decEq j 20 with h | h
    · rcases Nat.decEq j 22 with h2 | h2
      · exact absurd (by simp [h, h2]) hc
      · exact .inr h2
    · exact .inl h
  refine (sim_loadVar F hA t).bind fun m v v' hm hv => ?_
  obtain ⟨rfl, hv⟩ := hv
  refine Sim.same (calm_elem t) fun e => ?_
  rcases hj with rfl | rfl
  · exact sim_unpack F H hv
  · have bad : Sim E f m (VQ E f) (ReflectliteValue.valueError "reflectlite.Value.Elem" 22) (ReflectliteValue.valueError "reflectlite.Value.Elem" 22) := sim_valueError Y _ _
    cases v with
    | pointer p =>
      rw [okV] at hv
      rw [rV]
      cases p with
      | none => exact Sim.pure fun m _ => vq_zeroV m
      | some p =>
        cases e with
        | none => exact bad
        | some e => exact sim_mk F H hv
    | _ => rw [rV]; exact bad
theorem sim_set (F : Fit E f) (H : RtOk E) {args : Array Value} (hK : ∀ t, E.K t = true) (ha : okAll E n args) : Sim E f n (VQ E f) (ReflectliteValue.set args) (ReflectliteValue.set (args.map (rV f))) := by
  obtain ⟨l⟩ := args
  match l with
  | [] => exact Sim.stuck
  | [_] => exact Sim.stuck
  | _ :: _ :: _ :: _ => exact Sim.stuck
  | [v, x] =>
    have hv : okV E n v := ha v (by simp)
    have hx : okV E n x := ha x (by simp)
    rw [List.map_toArray, List.map_cons, List.map_cons, List.map_nil]
    unfold ReflectliteValue.set
    dsimp only
    refine (sim_parts F H hv).bind fun m p p' hm hp => ?_
    obtain ⟨rfl, hA⟩ := hp
    refine (sim_parts F H (okV_mono hm _ hx)).bind fun m2 q q' hm2 hq => ?_
    obtain ⟨rfl, hB⟩ := hq
    cases p with
    | none => exact Sim.unsupported (by simp)
    | some p =>
      obtain ⟨dst, a, fl⟩ := p
      cases q with
      | none => exact Sim.unsupported (by simp)
      | some q =>
        obtain ⟨src, b, k⟩ := q
        have hA := (hA dst a fl rfl).mono hm2
        have hB := hB src b k rfl
        dsimp only [Option.map_some]
        refine Sim.ite (fun _ => Sim.unsB (by simp)) fun _ => ?_
        refine (sim_loadVar F hB src).bind fun m3 val val' hm3 hval => ?_
        obtain ⟨rfl, hval⟩ := hval
        refine Sim.same (calm_direct dst src) fun d => ?_
        have st : ∀ y, okV E m3 y → Sim E f m3 (VQ E f) (storeVar dst a y >>= fun _ => Pure.pure (.tuple #[])) (storeVar dst (rA f a) (rV f y) >>= fun _ => Pure.pure (.tuple #[])) := fun y hy =>
          (sim_storeVar F (hA.mono hm3) hy dst).bind fun _ _ _ _ _ => Sim.pure fun _ _ => vq_undef _
        refine Sim.ite (fun _ => st val hval) fun _ => ?_
        refine Sim.same (calm_implements dst src) fun i => ?_
        refine Sim.ite (fun _ => ?_) fun _ => ?_
        · refine Sim.same (calm_kind src) fun kk => ?_
          refine Sim.ite (fun _ => ?_) fun _ => ?_
          · cases val with
            | nilIface => exact Sim.unsB (by simp)
            | _ =>
              have := st _ hval
              rw [rV] at this ⊢
              exact this
          · have := st (.iface src val) (by rw [okV]; exact ⟨hK src, hval⟩)
            rw [rV] at this
            exact this
        · refine Sim.same (calm_spelt src) fun s1 => Sim.same (calm_spelt dst) fun s2 => ?_
          exact (sim_panicString (Q := fun _ _ _ => False) H _).bind fun _ _ _ _ h => h.elim
theorem sim_ofRtype (F : Fit E f) (H : RtOk E) {x : Value} : Sim E f n EQ (ReflectliteType.ofRtype x) (ReflectliteType.ofRtype (rV f x)) := by
  cases x with
  | agg cs =>
    obtain ⟨l⟩ := cs
    rw [rV, List.map_toArray]
    match l with
    | [] => exact Sim.stuck
    | [h] =>
      rw [List.map_cons, List.map_nil]
      show Sim E f n EQ (Rtype.ofHandle h >>= _) (Rtype.ofHandle (rV f h) >>= _)
      refine (sim_ofHandle F H h).bind fun m t t' hm ht => ?_
      obtain rfl := ht
      refine Sim.same (calm_noPack _ _) fun _ => Sim.pure fun _ _ => rfl
    | _ :: _ :: _ => exact Sim.stuck
  | _ => exact Sim.stuck
theorem sim_typeOf (F : Fit E f) (H : RtOk E) (Y : XtOk E) {args : Array Value} (ha : okAll E n args) : Sim E f n (VQ E f) (ReflectliteType.typeOf args) (ReflectliteType.typeOf (args.map (rV f))) := by
  obtain ⟨l⟩ := args
  match l with
  | [] => exact Sim.stuck
  | [v] =>
    rw [List.map_toArray, List.map_cons, List.map_nil]
    cases v with
    | nilIface => rw [rV]; exact Sim.pure fun _ _ => vq_plain rfl
    | iface t v => rw [rV]; exact sim_toType F H Y t
    | _ => exact Sim.stuck
  | a :: b :: l =>
    cases a <;> exact Sim.stuck
theorem sim_elemT (F : Fit E f) (H : RtOk E) (Y : XtOk E) (t : TypeId) : Sim E f n (VQ E f) (ReflectliteType.elem t) (ReflectliteType.elem t) := by
  unfold ReflectliteType.elem
  refine Sim.same (calm_elem t) fun e => ?_
  cases e with
  | some e => exact sim_toType F H Y e
  | none => exact Sim.same (calm_spelt t) fun s => sim_panicString H _
theorem sim_methodT (F : Fit E f) (H : RtOk E) {g : TypeId → Sem Value} {args : Array Value} (ha : okAll E n args) (hg : ∀ m t, Sim E f m (VQ E f) (g t) (g t)) : Sim E f n (VQ E f) (ReflectliteType.method g args) (ReflectliteType.method g (args.map (rV f))) := by
  refine one_arg (g := fun v => ReflectliteType.ofRtype v >>= g) (fun v => rfl) (.inr ⟨_, rfl⟩) (fun a b l => ⟨_, rfl⟩) ha fun v hv => ?_
  refine (sim_ofRtype F H).bind fun m t t' hm ht => ?_
  obtain rfl := ht
  exact hg m t'
theorem sim_abiMethod (F : Fit E f) (H : RtOk E) {g : TypeId → Sem Value} {args : Array Value} (ha : okAll E n args) (hg : ∀ m t, Sim E f m (VQ E f) (g t) (g t)) : Sim E f n (VQ E f) (ReflectliteType.abiMethod g args) (ReflectliteType.abiMethod g (args.map (rV f))) := by
  refine one_arg (g := fun v => Rtype.ofHandle v >>= fun t => Rtype.noPack "a method of abi.Type" t >>= fun _ => g t) (fun v => rfl) (.inr ⟨_, rfl⟩) (fun a b l => ⟨_, rfl⟩) ha fun v hv => ?_
  refine (sim_ofHandle F H v).bind fun m t t' hm ht => ?_
  obtain rfl := ht
  exact Sim.same (calm_noPack _ _) fun _ => hg m t'
theorem sim_implements (H : RtOk E) (u t : TypeId) : Sim E f n EQ (ReflectliteType.implements_ u t) (ReflectliteType.implements_ u t) := by
  unfold ReflectliteType.implements_
  refine Sim.same (calm_kind u) fun k => ?_
  refine Sim.ite (fun _ => (sim_panicString (Q := fun _ _ _ => False) H _).bind fun _ _ _ _ h => h.elim) fun _ => ?_
  exact Sim.same (calm_noPackMethods _ _) fun _ => Sim.same (calm_noPack _ _) fun _ => (calm_implements u t).sim
theorem calm_assignable (u t : TypeId) : Calm E (ReflectliteType.assignableTo u t) := by
  unfold ReflectliteType.assignableTo
  have rest : Calm E (Rtype.directlyAssignable u t >>= fun a => Rtype.implements u t >>= fun b => Pure.pure (a || b)) := (calm_direct u t).bind fun _ => (calm_implements u t).bind fun _ => .pure _
  refine .ite ?_ rest
  exact (calm_noPackMethods _ _).bind fun _ => (calm_noPackMethods _ _).bind fun _ => rest
theorem sim_relation (F : Fit E f) (H : RtOk E) {s : String} {g : TypeId → TypeId → Sem Bool} {args : Array Value} (hg : ∀ m u t, Sim E f m EQ (g u t) (g u t)) : Sim E f n (VQ E f) (ReflectliteType.relation s g args) (ReflectliteType.relation s g (args.map (rV f))) := by
  obtain ⟨l⟩ := args
  match l with
  | [] => exact Sim.stuck
  | [_] => exact Sim.stuck
  | a :: b :: c :: l => cases b <;> exact Sim.stuck
  | [r, u] =>
    rw [List.map_toArray, List.map_cons, List.map_cons, List.map_nil]
    cases u with
    | nilIface => rw [rV]; exact sim_panicString H _
    | iface t u =>
      rw [rV]
      show Sim E f n (VQ E f) (ReflectliteType.ofRtype u >>= fun x => ReflectliteType.ofRtype r >>= fun y => g x y >>= fun b => Pure.pure (.bool b)) (ReflectliteType.ofRtype (rV f u) >>= fun x => ReflectliteType.ofRtype (rV f r) >>= fun y => g x y >>= fun b => Pure.pure (.bool b))
      refine (sim_ofRtype F H).bind fun m x x' hm hx => ?_
      obtain rfl := hx
      refine (sim_ofRtype F H).bind fun m2 y y' hm2 hy => ?_
      obtain rfl := hy
      refine (hg m2 x' y').bind fun m3 b b' _ hb => ?_
      obtain rfl := hb
      exact Sim.pure fun _ _ => vq_plain rfl
    | _ => exact Sim.stuck
theorem sim_noEscape {args : Array Value} (ha : okAll E n args) : Sim E f n (VQ E f) (AbiNoEscape.same args) (AbiNoEscape.same (args.map (rV f))) :=
  one_arg (g := fun v => Pure.pure v) (fun _ => rfl) (.inr ⟨_, rfl⟩) (fun _ _ _ => ⟨_, rfl⟩) ha fun _ hv => Sim.pure fun _ hm => ⟨rfl, okV_mono hm _ hv⟩
theorem sim_bytesX (F : Fit E f) : ∀ (k n : Nat) (a : Addr) (acc : ByteArray), E.A n a.block → Sim E f n EQ (Bytes.loadBytes a k acc) (Bytes.loadBytes (rA f a) k acc)
  | 0, n, a, acc, hA => Sim.pure fun _ _ => rfl
  | k + 1, n, a, acc, hA => by
    unfold Bytes.loadBytes
    refine (sim_load F hA).bind fun m v v' hm hv => ?_
    obtain ⟨rfl, hv⟩ := hv
    cases v with
    | int kk b =>
      rw [rV]
      cases kk with
      | u8 =>
        rw [rA_add]
        exact sim_bytesX F k m (a.add 1) _ (by rw [block_add]; exact hA.mono hm)
      | _ => exact Sim.stuck
    | _ => exact Sim.stuck
theorem sim_bytesOf (F : Fit E f) {v : Value} (hv : okV E n v) : Sim E f n EQ (Bytes.bytesOf v) (Bytes.bytesOf (rV f v)) := by
  cases v with
  | string s => rw [rV]; exact Sim.pure fun _ _ => rfl
  | slice a l c =>
    rw [rV]
    rw [okV] at hv
    cases a with
    | none => exact Sim.pure fun _ _ => rfl
    | some a => exact sim_bytesX F l n a _ hv
  | _ => exact Sim.stuck
theorem sim_asByte {c : Value} : Sim E f n EQ (Bytes.asByte c) (Bytes.asByte (rV f c)) := by
  cases c with
  | int k z =>
    rw [rV]
    cases k with
    | u8 => exact Sim.pure fun _ _ => rfl
    | _ => exact Sim.stuck
  | _ => exact Sim.stuck
theorem sim_indexByte (F : Fit E f) {args : Array Value} (ha : okAll E n args) : Sim E f n (VQ E f) (BytealgIndexByte.indexByte args) (BytealgIndexByte.indexByte (args.map (rV f))) := by
  obtain ⟨l⟩ := args
  match l with
  | [] => exact Sim.stuck
  | [_] => exact Sim.stuck
  | a :: b :: c :: l => exact Sim.stuck
  | [b, c] =>
    rw [List.map_toArray, List.map_cons, List.map_cons, List.map_nil]
    unfold BytealgIndexByte.indexByte
    refine (sim_bytesOf F (ha b (by simp))).bind fun m s s' hm hs => ?_
    obtain rfl := hs
    show Sim E f m (VQ E f) (Bytes.asByte c >>= _) (Bytes.asByte (rV f c) >>= _)
    refine sim_asByte.bind fun m2 x x' _ hx => ?_
    obtain rfl := hx
    split <;> exact Sim.pure fun _ _ => vq_plain rfl
theorem sim_maxLen (F : Fit E f) (hG : ∀ g, g < E.P.globals.size → E.R g ∨ E.O g) : Sim E f n EQ BytealgIndex.maxLen BytealgIndex.maxLen := by
  unfold BytealgIndex.maxLen globalAddr
  rw [bind_assoc]
  refine Sim.program ?_
  cases hg : E.P.globals.findIdx? (·.name == "internal/bytealg.MaxLen") with
  | none => exact Sim.stuckB
  | some g =>
    dsimp only
    rw [pure_bind]
    have hlt : g < E.P.globals.size := by
      obtain ⟨h, _⟩ := Array.findIdx?_eq_some_iff_getElem.1 hg
      exact h
    have hA : E.A n (⟨g, 0, none⟩ : Addr).block := .inr (hG g hlt)
    have h1 := sim_load F hA
    rw [show rA f ⟨g, 0, none⟩ = ⟨g, 0, none⟩ by
      unfold rA
      rw [F.low g ((hG g hlt).elim (F.ro g) (F.op g))]] at h1
    refine h1.bind fun m v v' hm hv => ?_
    obtain ⟨rfl, hv⟩ := hv
    exact sim_asInt
theorem sim_index2 (F : Fit E f) (hG : ∀ g, g < E.P.globals.size → E.R g ∨ E.O g) {args : Array Value} (ha : okAll E n args) : Sim E f n (VQ E f) (BytealgIndex.index args) (BytealgIndex.index (args.map (rV f))) := by
  obtain ⟨l⟩ := args
  match l with
  | [] => exact Sim.stuck
  | [_] => exact Sim.stuck
  | a :: b :: c :: l => exact Sim.stuck
  | [b, c] =>
    rw [List.map_toArray, List.map_cons, List.map_cons, List.map_nil]
    unfold BytealgIndex.index
    refine (sim_bytesOf F (ha b (by simp))).bind fun m s s' hm hs => ?_
    obtain rfl := hs
    refine (sim_bytesOf F (okV_mono hm _ (ha c (by simp)))).bind fun m2 t t' hm2 ht => ?_
    obtain rfl := ht
    have rest : ∀ m, Sim E f m (VQ E f) (match (List.range (s'.size + 1 - t'.size)).find? fun i => s'.extract i (i + t'.size) == t' with | some i => Pure.pure (goInt i) | none => Pure.pure (goInt (-1))) (match (List.range (s'.size + 1 - t'.size)).find? fun i => s'.extract i (i + t'.size) == t' with | some i => Pure.pure (goInt i) | none => Pure.pure (goInt (-1))) := fun m => by
      split <;> exact Sim.pure fun _ _ => vq_plain rfl
    refine (sim_maxLen F hG).bind fun m3 x x' hm3 hx => ?_
    obtain rfl := hx
    refine Sim.ite (fun _ => Sim.unsB (by simp)) fun _ => ?_
    refine Sim.ite (fun _ => Sim.unsB (by simp)) fun _ => ?_
    exact rest m3
theorem digits_plain : ∀ (k t : Nat) (acc : Array Value), (∀ x ∈ acc, plain0 x = true) → ∀ x ∈ BytealgMakeNoZero.digits k t acc, plain0 x = true
  | 0, _, _, h => h
  | k + 1, t, acc, h => digits_plain k (t / 256) _ fun x hx => by
    rcases Array.mem_push.1 hx with h1 | rfl
    · exact h x h1
    · rfl
theorem sim_makeNoZero (F : Fit E f) (H : RtOk E) {ps rs : Array TypeId} {args : Array Value} : Sim E f n (VQ E f) (BytealgMakeNoZero.makeNoZero ps rs args) (BytealgMakeNoZero.makeNoZero ps rs (args.map (rV f))) := by
  obtain ⟨l⟩ := args
  match l with
  | [] => exact Sim.stuck
  | a :: b :: l =>
    cases a with
    | int k z => cases k <;> exact Sim.stuck
    | _ => exact Sim.stuck
  | [v] =>
    rw [List.map_toArray, List.map_cons, List.map_nil]
    cases v with
    | int k z =>
      rw [rV]
      cases k with
      | i64 =>
        unfold BytealgMakeNoZero.makeNoZero
        dsimp only
        cases rs[0]? with
        | none => exact Sim.stuck
        | some t =>
          dsimp only
          refine sim_under fun d hd => ?_
          cases d with
          | slice e =>
            dsimp only
            refine Sim.ite (fun _ => sim_panB F H) fun _ => ?_
            refine (Sim.choose _).bind fun m c c' hm hc => ?_
            obtain rfl := hc
            refine (sim_askRoom _).bind fun m2 _ _ hm2 _ => ?_
            refine (Sim.choose _).bind fun m3 b b' hm3 hb => ?_
            obtain rfl := hb
            refine sim_newPlain (digits_plain c' b' #[] fun x hx => by simp at hx) fun m4 a hm4 hI => ?_
            exact Sim.pure fun m5 hm5 => vq_slice (a := some a) (.inl (hI.mono hm5))
          | _ => exact Sim.stuck
      | _ => exact Sim.stuck
    | _ => exact Sim.stuck
theorem sim_extern {g : FuncId} {fn : Func} {e : Array Value → Sem Value} {args : Array Value} (hf : E.P.funcs[g]? = some fn) (hn : (fn.name == "runtime.NumGoroutine") = false) (hb : fn.body.isNone = true) (h1 : Extern.findNext fn = none) (h2 : Extern.find fn = some e) (he : Sim E f n (VQ E f) (e args) (e (args.map (rV f)))) : Sim E f n (NQ E f) (callFunc g args) (callFunc g (args.map (rV f))) := by
  unfold callFunc
  refine Sim.program ?_
  rw [hf]
  dsimp only
  rw [hn, hb]
  simp only [Bool.false_eq_true, if_false, if_true]
  refine (Sim.mark (m := .extern g) trivial).bind fun m _ _ hm _ => ?_
  rw [h1, h2]
  exact (sim_value he).mono hm fun _ _ _ _ h => h
theorem sim_externNo {g : FuncId} {fn : Func} {args args' : Array Value} (hf : E.P.funcs[g]? = some fn) (hn : (fn.name == "runtime.NumGoroutine") = false) (hb : fn.body.isNone = true) (h1 : Extern.findNext fn = none) (h2 : Extern.find fn = none) (h3 : (fn.name.endsWith ".init" && !fn.name.startsWith "(" && !fn.name.startsWith "gosem.") = false) : Sim E f n (NQ E f) (callFunc g args) (callFunc g args') := by
  unfold callFunc
  refine Sim.program ?_
  rw [hf]
  dsimp only
  rw [hn, hb]
  simp only [Bool.false_eq_true, if_false, if_true]
  refine (Sim.mark (m := .extern g) trivial).bind fun m _ _ hm _ => ?_
  rw [h1, h2]
  dsimp only
  rw [h3]
  exact Sim.unsupported (by simp)
end
end Go.Proofs.YtaablbmgagiajabGreatDoor.Ren
