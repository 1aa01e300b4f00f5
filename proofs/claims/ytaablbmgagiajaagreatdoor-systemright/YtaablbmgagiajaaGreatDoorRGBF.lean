import Derived.Test.YtaablbmgagiajaaGreatDoorRGBE
namespace Go.Proofs.YtaablbmgagiajaaGreatDoor
open Go.RowKit Go.Deep
section
variable {L : RC} {W : Seen} {liar win T n k : Nat} {tr : List Cm} {R : RS}
theorem seen_zero (j : Nat) : SeenN W j n 0 0 := ⟨fun b hb => by simp at hb, fun b hb => by simp at hb⟩
theorem RpInv.see (h : RpInv L W liar tr T k R) (x y : Int) : RpInv L W liar tr T k (seeR x y R) := ⟨h.id, h.ticks, h.came, h.smp, h.cyc, h.told, h.me, h.ahead⟩
theorem RpInv.new : RpInv L W liar tr T k (new0 k) := by
  refine ⟨rfl, ⟨Int.le_refl _, by show (0 : Int) ≤ _; omega⟩, fun _ _ => ⟨Int.le_refl _, Int.le_refl _⟩, fun _ _ => ⟨Nat.two_pow_pos _, Nat.two_pow_pos _⟩, ⟨0, rfl, Nat.zero_le _, rfl, fun j _ _ => seen_zero j⟩, fun _ _ _ => .inl fun _ _ => rfl, fun _ _ => rfl, Int.le_refl _, .inr rfl⟩
theorem RpInv.put (h : RpInv L W liar tr T k R) {j : Nat} {x y : Int} (hc : R.cycle = n) (hs : j ≠ liar → SeenN W j n (fitN L.s x) (fitN L.n y)) : RpInv L W liar tr T k (putR j (fitN L.s x) (fitN L.n y) R) := by
  obtain ⟨m, c1, c2, c3, c4⟩ := h.cyc
  have e : m = n := by omega
  subst e
  refine ⟨h.id, h.ticks, fun i hi => ?_, fun i hi => ?_, ⟨m, c1, c2, c3, fun i hi hl => ?_⟩, h.told, h.me, h.ahead⟩
  · show 0 ≤ (upd R.smp j _ i).came ∧ (upd R.smp j _ i).came ≤ R.ticks
    by_cases e : i = j
    · rw [e, upd_same]; exact ⟨h.ticks.1, Int.le_refl _⟩
    · rw [upd_other _ _ e]; exact h.came i hi
  · show (upd R.smp j _ i).c < _ ∧ (upd R.smp j _ i).v < _
    by_cases e : i = j
    · rw [e, upd_same]; exact ⟨fitN_lt _ _, fitN_lt _ _⟩
    · rw [upd_other _ _ e]; exact h.smp i hi
  · show SeenN W i m (upd R.smp j _ i).c (upd R.smp j _ i).v
    by_cases e : i = j
    · rw [e, upd_same]; exact hs (e ▸ hl)
    · rw [upd_other _ _ e]; exact c4 i hi hl
theorem RpInv.tick (h : RpInv L W liar tr T k R) (hc : R.cycle = n) (hs : k ≠ liar → SeenN W k n (fitN L.s R.sx) (fitN L.n R.sy)) : RpInv L W liar tr (T + 1) k (tickS L R) := by
  have h1 : RpInv L W liar tr (T + 1) k (forgetR { R with ticks := R.ticks + 1 }) := by
    obtain ⟨m, c1, c2, c3, c4⟩ := h.cyc
    have hg : ∀ j, j < 3 → (fgTo (R.ticks + 1) R.smp 3 j) = smp0 ∨ (fgTo (R.ticks + 1) R.smp 3 j) = R.smp j := fun j hj => by rw [fgTo_at, if_pos hj]; exact fg_cases _ _
    have ht := h.ticks
    refine ⟨h.id, ⟨by show 0 ≤ R.ticks + 1; omega, by show R.ticks + 1 ≤ ((T + 1 : Nat) : Int); omega⟩, fun j hj => ?_, fun j hj => ?_, ⟨m, c1, c2, c3, fun j hj hl => ?_⟩, h.told, h.me, h.ahead⟩
    · show 0 ≤ (fgTo (R.ticks + 1) R.smp 3 j).came ∧ (fgTo (R.ticks + 1) R.smp 3 j).came ≤ R.ticks + 1
      rcases hg j hj with e | e
      · rw [e]; exact ⟨Int.le_refl _, by show (0 : Int) ≤ _; omega⟩
      · rw [e]; have := h.came j hj; omega
    · show (fgTo (R.ticks + 1) R.smp 3 j).c < _ ∧ (fgTo (R.ticks + 1) R.smp 3 j).v < _
      rcases hg j hj with e | e
      · rw [e]; exact ⟨Nat.two_pow_pos _, Nat.two_pow_pos _⟩
      · rw [e]; exact h.smp j hj
    · show SeenN W j m (fgTo (R.ticks + 1) R.smp 3 j).c (fgTo (R.ticks + 1) R.smp 3 j).v
      rcases hg j hj with e | e
      · rw [e]; exact seen_zero j
      · rw [e]; exact c4 j hj hl
  have h2 := h1.put (j := R.id) (x := R.sx) (y := R.sy) (n := n) hc (by rw [h.id]; exact hs)
  exact h2
theorem RpInv.goes (h : RpInv L W liar tr T k R) {X : St} {c : Int} (hc : c = n) (hn : n ≤ tr.length) (hX : X = stAt L tr n) : RpInv L W liar tr T k (goR c X R) := by
  have ht := h.ticks
  exact ⟨h.id, ⟨Int.le_refl _, by show (0 : Int) ≤ _; omega⟩, fun _ _ => ⟨Int.le_refl _, Int.le_refl _⟩, fun _ _ => ⟨Nat.two_pow_pos _, Nat.two_pow_pos _⟩, ⟨n, hc, hn, hX, fun j _ _ => seen_zero j⟩, fun _ _ _ => .inl fun _ _ => rfl, fun _ _ => rfl, h.ahead⟩
theorem RpInv.aheads (h : RpInv L W liar tr T k R) {x : Int} (hx : x = n) (hn : n < tr.length) : RpInv L W liar tr T k (aheadR x R) := by
  refine ⟨h.id, h.ticks, h.came, h.smp, h.cyc, h.told, h.me, ?_⟩
  have := h.ahead
  show 0 ≤ (if R.ahead < x then x else R.ahead) ∧ ((if R.ahead < x then x else R.ahead) < _ ∨ (if R.ahead < x then x else R.ahead) = 0)
  split <;> omega
theorem RpInv.done (h : RpInv L W liar tr T k R) {F : FR} (h2 : F 2 = n) (hn : n < tr.length) (h3 : F 3 = (cmAt tr n).c) (h4 : F 4 = (cmAt tr n).v) : RpInv L W liar tr T k (doneR L F R) := by
  unfold doneR
  split
  · exact h
  · split
    · rename_i _ he
      obtain ⟨m, c1, c2, c3, _⟩ := h.cyc
      have e : m = n := by omega
      subst e
      refine (h.aheads h2 hn).goes (n := m + 1) (by omega) (by omega) ?_
      rw [stAt_succ hn, ← c3, ← h3, ← h4]
      rfl
    · exact h.aheads h2 hn
theorem St.ext' {X Y : St} (h1 : X.set = Y.set) (h2 : ∀ k, X.used k = Y.used k) (h3 : ∀ k, X.idle k = Y.idle k) : X = Y := by
  cases X; cases Y
  simp only [St.mk.injEq]
  exact ⟨h1, funext h2, funext h3⟩
theorem told_state {F : FR} {X : St} (hL : LOk L) {B : Int} (hX : Good (rt L.zs) L.n B X) (h : ∀ j, j < 17 → F (6 + j) = stN X j) : gSt (gF F) = X := by
  have hf := hL.few
  apply St.ext'
  · show (F 6).toNat = X.set
    rw [h 0 (by omega)]
    exact Int.toNat_natCast _
  · intro k
    show ((if k < 8 then F (7 + k) else 0) : Int).toNat = X.used k
    by_cases hk : k < 8
    · rw [if_pos hk, show 7 + k = 6 + (1 + k) by omega, h (1 + k) (by omega)]
      unfold stN
      rw [if_neg (by omega), if_pos (by omega), show 1 + k - 1 = k by omega]
      exact Int.toNat_natCast _
    · rw [if_neg hk, (hX.rest k (.inl (by omega))).1]; rfl
  · intro k
    show (if k < 8 then F (15 + k) else 0) = X.idle k
    by_cases hk : k < 8
    · rw [if_pos hk, show 15 + k = 6 + (9 + k) by omega, h (9 + k) (by omega)]
      unfold stN
      rw [if_neg (by omega), if_neg (by omega), show 9 + k - 9 = k by omega]
    · rw [if_neg hk, (hX.rest k (.inl (by omega))).2]
theorem tells_some {f : Nat → Nat → Int} {j : Nat} {U : Nat → Int} : ∀ {m : Nat}, tellsB f j U m = true → ∃ i, i < m ∧ i ≠ j ∧ ∀ x, x < 18 → f i x = U x
  | 0, h => by simp [tellsB] at h
  | m + 1, h => by
    unfold tellsB at h
    rw [Bool.or_eq_true] at h
    rcases h with h | h
    · obtain ⟨i, h1, h2⟩ := tells_some h
      exact ⟨i, by omega, h2⟩
    · rw [Bool.and_eq_true] at h
      exact ⟨m, by omega, by simpa using h.1, (eqK_iff _ _).1 h.2⟩
theorem knT_state (F : FR) (i : Nat) : knT F (1 + i) = F (6 + i) := by
  unfold knT
  rw [if_neg (by omega), show 5 + (1 + i) = 6 + i by omega]
theorem RpInv.learn (h : RpInv L W liar tr T k R) (hL : LOk L) {F : FR} {src : Nat} (hk : src ≠ k) (h0 : F 0 = 5) (hon : src = liar ∨ HonF L W liar tr src F) (hc : R.cycle < F 2) : RpInv L W liar tr T k (learnR src (knT F) (gSt (gF F)) R) := by
  have hsr : src ≠ liar → ToldOk L tr (knT F) := fun hl => by
    rcases hon with e | e
    · exact absurd e hl
    · obtain ⟨n, h1, h2, h3⟩ := e.known h0
      exact .inr ⟨n, h2, h1, fun i hi => by rw [knT_state]; exact h3 i hi⟩
  have ht : RpInv L W liar tr T k (toldR src (knT F) R) := by
    refine ⟨h.id, h.ticks, h.came, h.smp, h.cyc, fun j hj hl => ?_, fun i hi => ?_, h.ahead⟩
    · show ToldOk L tr (upd R.told src (knT F) j)
      by_cases e : j = src
      · rw [e, upd_same]; exact hsr (e ▸ hl)
      · rw [upd_other _ _ e]; exact h.told j hj hl
    · show upd R.told src (knT F) k i = 0
      rw [upd_other _ _ (fun e => hk e.symm)]; exact h.me i hi
  unfold learnR
  split
  · rename_i ht3
    obtain ⟨i, i1, i2, i3⟩ := tells_some ht3
    have hcy : ∃ m : Nat, R.cycle = m := by obtain ⟨m, c1, _⟩ := h.cyc; exact ⟨m, c1⟩
    obtain ⟨m0, hm0⟩ := hcy
    have hz : ∀ U, ToldOk L tr U → (∀ x, x < 18 → U x = knT F x) → ∃ n : Nat, n ≤ tr.length ∧ F 2 = n ∧ ∀ i, i < 17 → F (6 + i) = stN (stAt L tr n) i := by
      intro U hU e
      rcases hU with hU | ⟨n, h1, h2, h3⟩
      · have := (e 0 (by omega)).symm.trans (hU 0 (by omega))
        have h20 : F 2 = 0 := this
        omega
      · refine ⟨n, h1, ?_, fun i hi => ?_⟩
        · have := (e 0 (by omega)).symm.trans h2
          exact this
        · rw [← knT_state F i, ← e _ (by omega)]; exact h3 i hi
    have hok : ∃ n : Nat, n ≤ tr.length ∧ F 2 = n ∧ ∀ i, i < 17 → F (6 + i) = stN (stAt L tr n) i := by
      by_cases e : src = liar
      · exact hz _ (ht.told i i1 (fun e2 => i2 (e2.trans e.symm))) i3
      · exact hz _ (hsr e) fun _ _ => rfl
    obtain ⟨n, h1, h2, h3⟩ := hok
    exact ht.goes (n := n) h2 h1 (told_state hL (stAt_good hL tr n h1) h3)
  · exact ht
theorem fit_small {m c : Nat} (h : c < 2 ^ m) (hm : m ≤ 12) : fitN m (c : Int) = c := by
  have hp : 2 ^ m ≤ 2 ^ 12 := Nat.pow_le_pow_right (by decide) hm
  unfold fitN
  rw [u64_nat c (by omega), Nat.and_two_pow_sub_one_eq_mod, Nat.mod_eq_of_lt h]
theorem RpInv.take (h : RpInv L W liar tr T k R) (hL : LOk L) {F : FR} {src : Nat} (h1 : F 1 = (src : Int)) (hon : (src = liar ∧ src < 3) ∨ HonF L W liar tr src F) : RpInv L W liar tr T k (takeS L F R) := by
  have hf := hL.few
  unfold takeS
  split
  · rename_i hd
    have : src = 3 := by omega
    rcases hon with e | e
    · omega
    · obtain ⟨n, d1, d2, d3, d4⟩ := e.done hd.1
      exact h.done d1 d2 d3 d4
  · split
    · exact h
    · rename_i hr
      have hr' : isRep (F 1) = true ∧ F 1 ≠ (R.id : Int) := by
        refine ⟨?_, fun e => hr (.inr e)⟩
        cases hb : isRep (F 1)
        · exact absurd (.inl hb) hr
        · rfl
      have hs3 : src < 3 := by
        have := hr'.1
        unfold isRep at this
        simp only [Bool.and_eq_true, decide_eq_true_eq] at this
        omega
      have hsk : src ≠ k := by
        intro e
        apply hr'.2
        rw [h1, h.id, e]
      have hto : (F 1).toNat = src := by rw [h1]; exact Int.toNat_natCast _
      rw [hto]
      have hon' : src = liar ∨ HonF L W liar tr src F := hon.imp (fun e => e.1) fun e => e
      split
      · rename_i hs
        obtain ⟨m, c1, c2, c3, c4⟩ := h.cyc
        refine h.put (n := m) c1 fun hl => ?_
        rcases hon' with e | e
        · exact absurd e hl
        · obtain ⟨n, c, v, s1, s2, s3, s4, s5, s6⟩ := e.sample hs.1
          have e : n = m := by omega
          subst e
          rw [s2, s3, fit_small s4 (by omega), fit_small s5 (by omega)]
          exact s6
      · split
        · exact h
        · split
          · rename_i hc
            exact h.learn hL hsk hc.1 hon' hc.2.1
          · exact h
theorem RpInv.tells (h : RpInv L W liar tr T k R) {F : FR} : ∀ G ∈ takeT L F R, HonF L W liar tr k G := by
  intro G hG
  unfold takeT at hG
  obtain ⟨n, c1, c2, c3, _⟩ := h.cyc
  split at hG
  · unfold doneT at hG
    split at hG
    · simp at hG
    · split at hG
      · rw [List.mem_singleton.1 hG]; exact hon_ask _ _ _
      · simp at hG
  · split at hG
    · simp at hG
    · split at hG
      · rw [List.mem_singleton.1 hG]; exact hon_known c1 c2 c3
      · simp at hG
structure VInv (L : RC) (W : Seen) (liar win : Nat) (V : VS) : Prop where
  vok : VOk win V
  tr : ∀ i, i < V.tr.length → VoteOk L W liar V.tr i (cmAt V.tr i)
  votes : ∀ k, k < 3 → k ≠ liar → V.b k = true → VoteOk L W liar V.tr V.tr.length (V.x k)
  out : ∀ k, k < 3 → k ≠ liar → V.out.testBit k = false
  apart : ∀ i j, i ≠ j → V.b i = true → V.b j = true → V.x i ≠ V.x j
  few : ∀ i, 3 ≤ i → V.b i = false
theorem sec_none {b : Nat → Bool} {x : Nat → Cm} {d : Cm} {r : Nat} : ∀ {m : Nat}, secTo b x d r m = false → ∀ i, i < m → i ≠ r → b i = true → x i ≠ d
  | 0, _, i, hi, _, _ => absurd hi (by omega)
  | m + 1, h, i, hi, hr, hb => by
    unfold secTo at h
    rw [Bool.or_eq_false_iff] at h
    by_cases e : i = m
    · subst e
      intro hx
      have h2 := h.2
      unfold likeB at h2
      rw [hb, eqCm_iff.2 hx] at h2
      simp at h2
      exact hr h2
    · exact sec_none h.1 i (by omega) hr hb
theorem sec_some {b : Nat → Bool} {x : Nat → Cm} {d : Cm} {r : Nat} : ∀ {m : Nat}, secTo b x d r m = true → ∃ i, i < m ∧ i ≠ r ∧ b i = true ∧ x i = d
  | 0, h => by simp [secTo] at h
  | m + 1, h => by
    unfold secTo at h
    rw [Bool.or_eq_true] at h
    rcases h with h | h
    · obtain ⟨i, h1, h2⟩ := sec_some h
      exact ⟨i, by omega, h2⟩
    · unfold likeB at h
      simp only [Bool.and_eq_true, bne_iff_ne] at h
      exact ⟨m, by omega, h.1, h.2.1, eqCm_iff.1 h.2.2⟩
theorem vote_same {d e : Cm} (h1 : VoteOk L W liar tr n d) (h2 : VoteOk L W liar tr n e) (h : eqIn d e = true) : d.o = e.o := by
  obtain ⟨c, v, rfl, _⟩ := h1
  obtain ⟨c', v', rfl, _⟩ := h2
  unfold eqIn at h
  simp only [Bool.and_eq_true, beq_iff_eq] at h
  simp only [h.1, h.2]
theorem VInv.take {V : VS} (h : VInv L W liar win V) {F : FR} {src : Nat} (h1 : F 1 = (src : Int)) (hon : (src = liar ∧ src < 3) ∨ HonF L W liar V.tr src F) :
    VInv L W liar win (takeF win V F).1 ∧ (∀ G ∈ (takeF win V F).2.1, HonF L W liar (takeF win V F).1.tr 3 G) ∧ ∃ a, (takeF win V F).1.tr = V.tr ++ a := by
  have hv := h.vok.take F
  unfold takeF at hv ⊢
  split
  · exact ⟨h, fun G hG => by simp at hG, [], by simp⟩
  · rename_i hh
    have hh' : hearB V F = true := by simpa using hh
    unfold hearB kindB fromB at hh'
    simp only [Bool.and_eq_true, Bool.or_eq_true, beq_iff_eq, decide_eq_true_eq] at hh'
    obtain ⟨hk, ⟨hf0, hf3⟩, _, h20⟩ := hh'
    have hto : (F 1).toNat = src := by rw [h1]; exact Int.toNat_natCast _
    have hs3 : src < 3 := by omega
    split
    · rename_i hp
      have hm : (F 2).toNat < V.tr.length := by omega
      refine ⟨h, fun G hG => ?_, [], by simp⟩
      unfold pastF at hG
      split at hG
      · rw [List.mem_singleton.1 hG]; exact hon_done hm
      · simp only [List.mem_cons, List.not_mem_nil, or_false] at hG
        rcases hG with rfl | rfl
        · exact hon_done hm
        · exact hon_done (show V.tr.length - 1 < V.tr.length by omega)
    · rename_i hnp
      split
      · exact ⟨h, fun G hG => by simp at hG, [], by simp⟩
      · rename_i hps
        have hps' : passB V F = false := by simpa using hps
        unfold passB at hps'
        simp only [Bool.or_eq_false_iff, decide_eq_false_iff_not, beq_eq_false_iff_ne] at hps'
        obtain ⟨⟨hp1, hp2⟩, hp3⟩ := hps'
        have hF0 : F 0 = 2 := by rcases hk with e | e; exact e; exact absurd e hp2
        have hF2 : F 2 = V.tr.length := by omega
        have hmine : src ≠ liar → VoteOk L W liar V.tr V.tr.length (cmF F) := fun hl => by
          rcases hon with e | e
          · exact absurd e.1 hl
          · obtain ⟨n, n1, n2, n3⟩ := e.vote hF0
            have e : n = V.tr.length := by omega
            rw [e] at n3; exact n3
        rw [hto] at hv ⊢
        have hcast : ∀ k, k < 3 → k ≠ liar → (castS V src (cmF F)).b k = true → VoteOk L W liar V.tr V.tr.length ((castS V src (cmF F)).x k) := fun k hk hl hb => by
          show VoteOk L W liar V.tr V.tr.length (upd V.x src (cmF F) k)
          by_cases e : k = src
          · rw [e, upd_same]; exact hmine (e ▸ hl)
          · rw [upd_other _ _ e]
            have hb' : upd V.b src true k = true := hb
            rw [upd_other _ _ e] at hb'
            exact h.votes k hk hl hb'
        split
        · rename_i hsec
          have hne : ∀ i, i ≠ src → (castS V src (cmF F)).b i = true → (castS V src (cmF F)).x i ≠ cmF F := fun i hi hb => by
            by_cases e : i < 3
            · exact sec_none hsec i e hi hb
            · have hb' : upd V.b src true i = true := hb
              rw [upd_other _ _ hi, h.few i (by omega)] at hb'
              exact absurd hb' (by decide)
          refine ⟨⟨h.vok.cast _ _, h.tr, hcast, h.out, fun i j hij hi hj => ?_, fun i hi => ?_⟩, fun G hG => by simp at hG, [], by simp [castS]⟩
          · by_cases e : i = src
            · subst e
              have := hne j (fun x => hij x.symm) hj
              show upd V.x i (cmF F) i ≠ _
              rw [upd_same]
              exact fun x => this x.symm
            · by_cases e2 : j = src
              · subst e2
                have := hne i e hi
                show _ ≠ upd V.x j (cmF F) j
                rw [upd_same]; exact this
              · show upd V.x src (cmF F) i ≠ upd V.x src (cmF F) j
                rw [upd_other _ _ e, upd_other _ _ e2]
                have hi' : upd V.b src true i = true := hi
                have hj' : upd V.b src true j = true := hj
                rw [upd_other _ _ e] at hi'
                rw [upd_other _ _ e2] at hj'
                exact h.apart i j hij hi' hj'
          · show upd V.b src true i = false
            rw [upd_other _ _ (by omega)]; exact h.few i hi
        · rename_i hsec
          have hsec' : secTo (castS V src (cmF F)).b (castS V src (cmF F)).x (cmF F) src 3 = true := by simpa using hsec
          obtain ⟨i, i1, i2, i3, i4⟩ := sec_some hsec'
          have hd : VoteOk L W liar V.tr V.tr.length (cmF F) := by
            by_cases e : src = liar
            · have := hcast i i1 (fun e2 => i2 (e2.trans e.symm)) i3
              rw [i4] at this; exact this
            · exact hmine e
          have hln : (V.tr ++ [cmF F]).length = V.tr.length + 1 := by simp
          refine ⟨⟨(h.vok.cast src (cmF F)).commit hp3 _, fun i hi => ?_, fun k _ _ hb => absurd hb (by show ¬ (false = true); decide), fun k hk hl => ?_, fun i j _ hi _ => absurd hi (by show ¬ (false = true); decide), fun _ _ => rfl⟩, fun G hG => ?_, [cmF F], rfl⟩
          · show VoteOk L W liar (V.tr ++ [cmF F]) i (cmAt (V.tr ++ [cmF F]) i)
            have hi' : i < (V.tr ++ [cmF F]).length := hi
            rw [hln] at hi'
            by_cases e : i < V.tr.length
            · rw [cmAt_app e]; exact (h.tr i e).app (by omega) _
            · have e : i = V.tr.length := by omega
              rw [e, cmAt_new]; exact hd.app (Nat.le_refl _) _
          · show (outN (castS V src (cmF F)) (cmF F)).testBit k = false
            unfold outN
            rw [Nat.testBit_or, agTo_bit, decide_eq_true hk, Bool.true_and]
            show (V.out.testBit k || _) = false
            rw [h.out k hk hl, Bool.false_or]
            cases hag : agB (castS V src (cmF F)).b (castS V src (cmF F)).x (cmF F) k
            · rfl
            · unfold agB at hag
              simp only [Bool.and_eq_true, bne_iff_ne] at hag
              exact absurd (vote_same (hcast k hk hl hag.1.1) hd hag.1.2) hag.2
          · rw [List.mem_singleton.1 hG]
            have := hon_done (L := L) (W := W) (liar := liar) (tr := V.tr ++ [cmF F]) (n := V.tr.length) (src := 3) (by omega)
            rw [cmAt_new] at this
            exact this
end
section
variable {L : RC} {W : Seen} {liar win T n k : Nat} {S : SY}
theorem SInv.vinv (h : SInv L W liar win T S) : VInv L W liar win S.v := ⟨h.vok, h.tr, h.votes, h.out, h.apart, h.few⟩
theorem SInv.nets (h : SInv L W liar win T S) : NetOk L W liar S.v.tr S.net := ⟨h.many, h.net⟩
theorem SInv.mk' {V : VS} {rp : Nat → RS} {net : List Pk} (h1 : ∀ k, k < 3 → RpInv L W liar V.tr T k (rp k)) (h2 : VInv L W liar win V) (h3 : NetOk L W liar V.tr net) : SInv L W liar win T ⟨rp, V, net⟩ := ⟨h1, h2.vok, h2.tr, h2.votes, h2.out, h2.apart, h2.few, h3.1, h3.2⟩
theorem SInv.updR (h : SInv L W liar win T S) {R : RS} {net : List Pk} (hR : RpInv L W liar S.v.tr T k R) (hn : NetOk L W liar S.v.tr net) : SInv L W liar win T ⟨upd S.rp k R, S.v, net⟩ := by
  refine SInv.mk' (fun j hj => ?_) h.vinv hn
  show RpInv L W liar S.v.tr T j (upd S.rp k R j)
  by_cases e : j = k
  · rw [e, upd_same]; exact hR
  · rw [upd_other _ _ e]; exact h.rp j hj
theorem SInv.come (h : SInv L W liar win T S) (hL : LOk L) {p : Pk} (hp : PkOk L W liar S.v.tr p) : SInv L W liar win T (comeSy L win p S) ∧ ∃ a, (comeSy L win p S).v.tr = S.v.tr ++ a := by
  unfold comeSy
  split
  · exact ⟨h, [], by simp⟩
  · rename_i hn
    have hn1 : (decF p.b).1 = 0 := by
      by_cases e : (decF p.b).1 = 0
      · exact e
      · exact absurd (.inl e) hn
    have hn2 : (decF p.b).2 1 = (p.src : Int) := by
      by_cases e : (decF p.b).2 1 = (p.src : Int)
      · exact e
      · exact absurd (.inr e) hn
    have hon : (p.src = liar ∧ p.src < 3) ∨ HonF L W liar S.v.tr p.src (decF p.b).2 := by
      rcases hp.hon with e | e | e
      · exact .inl e
      · exact absurd hn1 e
      · exact .inr e
    split
    · obtain ⟨v1, v2, a, va⟩ := h.vinv.take hn2 hon
      refine ⟨SInv.mk' (fun j hj => ?_) v1 ?_, a, va⟩
      · rw [va]; exact (h.rp j hj).app a
      · have hN : NetOk L W liar (takeF win S.v (decF p.b).2).1.tr S.net := by rw [va]; exact h.nets.app a
        unfold voteNet
        split
        · exact NetOk.alls (by omega) _ _ hN fun G hG => .inr (v2 G hG)
        · exact NetOk.sends (by omega) hp.src _ _ hN fun G hG => .inr (v2 G hG)
    · rename_i hd
      have hd3 : p.dst < 3 := by have := hp.dst; omega
      refine ⟨h.updR ((h.rp _ hd3).take hL hn2 hon) (NetOk.sends (by omega) hp.src _ _ h.nets fun G hG => .inr ((h.rp _ hd3).tells G hG)), [], by simp⟩
theorem pkAt_mem {l : List Pk} {i : Nat} (hi : i < l.length) : pkAt l i ∈ l := by
  unfold pkAt
  rw [List.getElem?_eq_getElem hi]
  exact List.getElem_mem hi
theorem SInv.outs (h : SInv L W liar win T S) (i : Nat) : SInv L W liar win T (outSy i S) := SInv.mk' h.rp h.vinv (h.nets.erase i)
theorem SInv.arrive (h : SInv L W liar win T S) (hL : LOk L) {i : Nat} (hi : i < S.net.length) : SInv L W liar win T (arriveSy L win i S) ∧ ∃ a, (arriveSy L win i S).v.tr = S.v.tr ++ a :=
  (h.outs i).come hL (h.net _ (pkAt_mem hi))
theorem SInv.puts (h : SInv L W liar win T S) {p : Pk} (hp : PkOk L W liar S.v.tr p) : SInv L W liar win T (putSy p S) := SInv.mk' h.rp h.vinv (h.nets.put hp)
theorem SInv.see (h : SInv L W liar win T S) (hk : k < 3) (x y : Int) : SInv L W liar win T (seeSy k x y S) := h.updR ((h.rp k hk).see x y) h.nets
theorem SInv.crash (h : SInv L W liar win T S) : SInv L W liar win T (crashSy k S) := h.updR RpInv.new h.nets
theorem SInv.asks (h : SInv L W liar win T S) (hk : k < 3) : SInv L W liar win T (asksSy k S) := SInv.mk' h.rp h.vinv (h.nets.others (by omega) (.inr (hon_ask _ _ _)) 3 (by omega))
theorem VInv.tick {V : VS} (h : VInv L W liar win V) : VInv L W liar win (tickF V) := by
  have hv := h.vok.tick
  unfold tickF at hv ⊢
  split
  · exact h
  · rename_i hl
    rw [if_neg hl] at hv
    exact ⟨hv, h.tr, h.votes, h.out, h.apart, h.few⟩
theorem tickF_tr (V : VS) : (tickF V).tr = V.tr := by unfold tickF; split <;> rfl
theorem SInv.vtick (h : SInv L W liar win T S) : SInv L W liar win T (vtickSy S) := SInv.mk' (by rw [tickF_tr]; exact h.rp) h.vinv.tick (by rw [tickF_tr]; exact h.nets)
theorem SInv.latch (h : SInv L W liar win T S) : SInv L W liar win T (latchSy S) := SInv.mk' h.rp ⟨h.vok.latch, h.tr, h.votes, h.out, h.apart, h.few⟩ h.nets
theorem SInv.tick (h : SInv L W liar win T S) (hk : k < 3) (hc : (S.rp k).cycle = n) (hs : k ≠ liar → SeenN W k n (fitN L.s (S.rp k).sx) (fitN L.n (S.rp k).sy)) : SInv L W liar win (T + 1) (tickSy L k S) := by
  have hR := (h.rp k hk).tick hc hs
  have h' := h.later (T' := T + 1) (by omega)
  refine h'.updR hR ?_
  obtain ⟨m, c1, c2, c3, c4⟩ := hR.cyc
  obtain ⟨hsa, hse⟩ : SaysF L W liar S.v.tr k (sampleR (tickS L (S.rp k))) ∧ (saysB (tickS L (S.rp k)) = true → SaysF L W liar S.v.tr k (secondR L (tickS L (S.rp k)))) := by
    by_cases hl : k = liar
    · exact ⟨.inl ⟨hl, hk⟩, fun _ => .inl ⟨hl, hk⟩⟩
    · refine ⟨.inr ?_, fun hsay => .inr ?_⟩
      · unfold sampleR
        rw [hR.id, c1]
        exact hon_sample _ (hR.smp k hk).1 (hR.smp k hk).2 (c4 k hk hl)
      · unfold secondR
        split
        · unfold voteR
          rw [c1]
          exact hon_vote (d := ⟨(fuseC (tickS L (S.rp k)) : Nat), (fuseV (tickS L (S.rp k)) : Nat), (outR L (tickS L (S.rp k)) (fuseC (tickS L (S.rp k))) (fuseV (tickS L (S.rp k))) : Nat)⟩) _ c2 ⟨fuseC (tickS L (S.rp k)), fuseV (tickS L (S.rp k)), by unfold outR outOf; rw [c3], two3_lt (hR.smp 0 (by omega)).1 (hR.smp 1 (by omega)).1, two3_lt (hR.smp 0 (by omega)).2 (hR.smp 1 (by omega)).2, fuse_seen c4⟩
        · rename_i hv
          split
          · exact hon_ask _ _ _
          · rename_i ht
            unfold saysB at hsay
            rw [Bool.or_eq_true] at hsay
            rcases hsay with e | e
            · exact absurd e hv
            · exact absurd (of_decide_eq_true e) ht
  have hN := h.nets.others (src := k) (by omega) hsa 3 (by omega)
  unfold tickNet
  split
  · rename_i hsay
    exact hN.send (by omega) (by omega) (hse hsay)
  · exact hN
end
def cyOf (S : SY) (k : Nat) : Int := (S.rp k).cycle
abbrev progP (cy : Nat → Int) (p : Pk) : Prop := ¬ isNone p ∧ p.dst ≠ 3 ∧ (decF p.b).2 0 = 3 ∧ (decF p.b).2 1 = 3 ∧ (decF p.b).2 2 = cy p.dst
def wtP (cy : Nat → Int) (p : Pk) : Nat :=
  if isNone p then 1
  else if p.dst = 3 then (if (decF p.b).2 2 = cy p.src then 2 else 7)
  else if (decF p.b).2 0 = 3 ∧ (decF p.b).2 1 = 3 then (if (decF p.b).2 2 < cy p.dst then 1 else 3)
  else if (decF p.b).2 0 = 4 then 2 else 1
def pwP (cy : Nat → Int) (p : Pk) : Nat := if progP cy p then 1 else wtP cy p
def wts (cy : Nat → Int) : List Pk → Nat
  | [] => 0
  | p :: r => if progP cy p then 1 else wtP cy p + wts cy r
theorem wts_cons (cy : Nat → Int) (p : Pk) (r : List Pk) : wts cy (p :: r) = if progP cy p then 1 else wtP cy p + wts cy r := rfl
theorem wtP_le (cy : Nat → Int) (p : Pk) : wtP cy p ≤ 7 := by
  unfold wtP
  repeat' split
  all_goals omega
theorem wtP_pos (cy : Nat → Int) (p : Pk) : 1 ≤ wtP cy p := by
  unfold wtP
  repeat' split
  all_goals omega
theorem wts_le (cy : Nat → Int) (l : List Pk) : wts cy l ≤ 7 * l.length := by
  induction l with
  | nil => exact Nat.le_refl _
  | cons p r ih =>
    have := wtP_le cy p
    rw [wts_cons, List.length_cons]
    split <;> omega
theorem wts_app (cy : Nat → Int) (l m : List Pk) : wts cy (l ++ m) ≤ wts cy l + wts cy m := by
  induction l with
  | nil => simp [wts]
  | cons p r ih =>
    rw [List.cons_append, wts_cons, wts_cons]
    split <;> omega
theorem wts_stop (cy : Nat → Int) {l : List Pk} (m : List Pk) {p : Pk} (hp : p ∈ l) (h : progP cy p) : wts cy (l ++ m) = wts cy l := by
  induction l with
  | nil => simp at hp
  | cons q r ih =>
    rw [List.cons_append, wts_cons, wts_cons]
    split
    · rfl
    · rename_i hq
      rcases List.mem_cons.1 hp with e | e
      · rw [← e] at hq; exact absurd h hq
      · rw [ih e]
theorem wts_one (cy : Nat → Int) (p : Pk) : wts cy [p] = pwP cy p := by
  unfold pwP
  rw [wts_cons]
  split
  · rfl
  · simp [wts]
theorem wts_put (cy : Nat → Int) (p : Pk) (l : List Pk) : wts cy (putP p l) ≤ wts cy l + pwP cy p := by
  unfold putP
  split
  · omega
  · have := wts_app cy l [p]
    rw [wts_one] at this
    exact this
theorem wts_two (cy : Nat → Int) (p q : Pk) (l : List Pk) (h : progP cy p) : wts cy (putP q (putP p l)) ≤ wts cy l + 1 := by
  by_cases hl : 120 ≤ l.length
  · have e : putP p l = l := if_pos hl
    rw [e, show putP q l = l from if_pos hl]; omega
  · have e : putP p l = l ++ [p] := if_neg hl
    have h1 : wts cy (l ++ [p]) ≤ wts cy l + 1 := by
      have := wts_app cy l [p]
      rw [wts_one] at this
      unfold pwP at this
      rw [if_pos h] at this
      exact this
    rw [e]
    unfold putP
    split
    · exact h1
    · rw [wts_stop cy [q] (p := p) (by simp) h]; exact h1
section
variable {L : RC} {W : Seen} {liar win T n k : Nat} {S : SY}
theorem may_three {x c v o : Int} {k : Int} (hk : k = 2 ∨ k = 3) (h1 : 0 ≤ x ∧ x ≤ 3) (hn : 0 ≤ n ∧ (n : Int) ≤ 1048576) (hc : 0 ≤ c ∧ c ≤ 1048576) (hv : 0 ≤ v ∧ v ≤ 1048576) (ho : 0 ≤ o ∧ o ≤ 1048576) : mayB (votF k x (n : Int) c v o) = true := by
  have e0 : votF k x (n : Int) c v o 0 = k := rfl
  have hnum : numsF (votF k x (n : Int) c v o) = [k, x, (n : Int), c, v, o] := nums_mid (by rw [e0]; exact hk)
  unfold mayB
  rw [hnum]
  have hfr : framedF [k, x, (n : Int), c, v, o] = votF k x (n : Int) c v o := framed_mid (l := [k, x, (n : Int), c, v, o]) hk
  rw [hfr]
  have hh : headB (votF k x (n : Int) c v o) = true := by
    unfold headB
    show ((decide (1 ≤ k) && decide (k ≤ 5)) && (decide (0 ≤ x) && decide (x ≤ 3))) = true
    simp only [Bool.and_eq_true, decide_eq_true_eq]
    omega
  rw [hh, (eqB_iff _ _).2 fun _ _ => rfl]
  simp only [List.all_cons, List.all_nil, fitsB, Bool.and_eq_true, decide_eq_true_eq, and_true, true_and]
  omega
theorem vote_in {tr : List Cm} {d : Cm} (hL : LOk L) (h : VoteOk L W liar tr n d) : (0 ≤ d.c ∧ d.c ≤ 1048576) ∧ (0 ≤ d.v ∧ d.v ≤ 1048576) ∧ 0 ≤ d.o ∧ d.o ≤ 1048576 := by
  obtain ⟨c, v, rfl, h1, h2, _⟩ := h
  have hf := hL.few
  have p1 : 2 ^ L.s ≤ 2 ^ 12 := Nat.pow_le_pow_right (by decide) (by omega)
  have p2 : 2 ^ L.n ≤ 2 ^ 8 := Nat.pow_le_pow_right (by decide) (by omega)
  have h3 : outOf L (stAt L tr n) (c : Int) (v : Int) < 2 ^ L.n := showTo_lt _ _ _ _ _ _ (Nat.le_refl _)
  show (0 ≤ (c : Int) ∧ (c : Int) ≤ 1048576) ∧ (0 ≤ (v : Int) ∧ (v : Int) ≤ 1048576) ∧ 0 ≤ ((outOf L (stAt L tr n) (c : Int) (v : Int) : Nat) : Int) ∧ ((outOf L (stAt L tr n) (c : Int) (v : Int) : Nat) : Int) ≤ 1048576
  omega
theorem SInv.done_may (h : SInv L W liar win T S) (hL : LOk L) (hn : n < S.v.tr.length) : mayB (doneF n (cmAt S.v.tr n)) = true := by
  obtain ⟨h1, h2, h3⟩ := vote_in hL (h.tr n hn)
  have := h.vok.few
  exact may_three (.inr rfl) (by omega) (by omega) h1 h2 h3
theorem bytes_may {F : FR} (h : mayB F = true) : (decF (bytesF F)).1 = 0 ∧ ∀ k, k < 23 → (decF (bytesF F)).2 k = F k := by
  unfold bytesF
  rw [if_pos h]
  obtain ⟨G, h1, h2⟩ := dec_enc h
  rw [h1]
  exact ⟨rfl, h2⟩
theorem SInv.done_dec (h : SInv L W liar win T S) (hL : LOk L) (hn : n < S.v.tr.length) : (decF (bytesF (doneF n (cmAt S.v.tr n)))).1 = 0 ∧ ∀ k, k < 23 → (decF (bytesF (doneF n (cmAt S.v.tr n)))).2 k = doneF n (cmAt S.v.tr n) k := bytes_may (h.done_may hL hn)
def goneOn (S S' : SY) : Prop := S.v.tr.length < S'.v.tr.length ∨ ∃ k, k < 3 ∧ cyOf S k < cyOf S' k
structure Comes (S S' : SY) : Prop where
  tr : ∃ a, S'.v.tr = S.v.tr ++ a
  cy : ∀ k, k < 3 → cyOf S k ≤ cyOf S' k
  less : goneOn S S' ∨ cyOf S' = cyOf S ∧ wts (cyOf S) S'.net < wts (cyOf S) S.net
theorem takeS_cycle (F : FR) (R : RS) : R.cycle ≤ (takeS L F R).cycle := by
  unfold takeS
  split
  · unfold doneR
    split
    · exact Int.le_refl _
    · split
      · show R.cycle ≤ R.cycle + 1; omega
      · exact Int.le_refl _
  · split
    · exact Int.le_refl _
    · split
      · exact Int.le_refl _
      · split
        · exact Int.le_refl _
        · split
          · rename_i hc
            unfold learnR
            split
            · show R.cycle ≤ F 2; omega
            · exact Int.le_refl _
          · exact Int.le_refl _
theorem wt_done (cy : Nat → Int) (src : Nat) (hs : src ≠ 3) (F : FR) : pwP cy ⟨3, src, bytesF F⟩ ≤ 3 := by
  unfold pwP
  split
  · omega
  · unfold wtP
    split
    · omega
    · repeat' split
      all_goals first | omega | contradiction
theorem SInv.comes (h : SInv L W liar win T S) (hL : LOk L) {p : Pk} {l : List Pk} (he : S.net = p :: l) : Comes S (arriveSy L win 0 S) := by
  have hpk : pkAt S.net 0 = p := by rw [he]; rfl
  have hou : outSy 0 S = ⟨S.rp, S.v, l⟩ := by unfold outSy; rw [he]; rfl
  have hp : PkOk L W liar S.v.tr p := h.net p (by rw [he]; simp)
  have hI : SInv L W liar win T ⟨S.rp, S.v, l⟩ := hou ▸ h.outs 0
  unfold arriveSy
  rw [hpk, hou]
  obtain ⟨_, htr⟩ := hI.come hL hp
  refine ⟨htr, ?_, ?_⟩
  · intro k hk
    unfold comeSy cyOf
    split
    · exact Int.le_refl _
    · split
      · exact Int.le_refl _
      · show (S.rp k).cycle ≤ (upd S.rp p.dst _ k).cycle
        by_cases e : k = p.dst
        · subst e; rw [upd_same]; exact takeS_cycle _ _
        · rw [upd_other _ _ e]; exact Int.le_refl _
  · by_cases hn : isNone p
    · right
      unfold comeSy
      rw [if_pos hn]
      refine ⟨rfl, ?_⟩
      generalize cyOf S = cy
      rw [he]
      show wts cy l < wts cy (p :: l)
      have hnp : ¬ progP cy p := fun e => e.1 hn
      rw [wts_cons, if_neg hnp]
      have := wtP_pos cy p
      omega
    · have hn1 : (decF p.b).1 = 0 := by
        by_cases e : (decF p.b).1 = 0
        · exact e
        · exact absurd (.inl e) hn
      have hn2 : (decF p.b).2 1 = (p.src : Int) := by
        by_cases e : (decF p.b).2 1 = (p.src : Int)
        · exact e
        · exact absurd (.inr e) hn
      have hs3 := hp.src
      by_cases hd : p.dst = 3
      · have hcs : comeSy L win p ⟨S.rp, S.v, l⟩ = ⟨S.rp, (takeF win S.v (decF p.b).2).1, voteNet win p.src ⟨S.rp, S.v, l⟩ (decF p.b).2⟩ := by
          unfold comeSy; rw [if_neg hn, if_pos hd]
        rw [hcs]
        have hnp : ∀ cy, ¬ progP cy p := fun cy e => e.2.1 hd
        have hwp : ∀ cy : Nat → Int, wts cy S.net = (if (decF p.b).2 2 = cy p.src then 2 else 7) + wts cy l := fun cy => by
          rw [he]
          show (if progP cy p then 1 else wtP cy p + wts cy l) = _
          rw [if_neg (hnp cy)]
          unfold wtP
          rw [if_neg hn, if_pos hd]
        generalize (decF p.b).2 = F at hcs hn2 hwp ⊢
        have nothing : ∀ V : VS, (takeF win S.v F) = (V, [], false) → V.tr = S.v.tr → goneOn S ⟨S.rp, (takeF win S.v F).1, voteNet win p.src ⟨S.rp, S.v, l⟩ F⟩ ∨ cyOf ⟨S.rp, (takeF win S.v F).1, voteNet win p.src ⟨S.rp, S.v, l⟩ F⟩ = cyOf S ∧ wts (cyOf S) (voteNet win p.src ⟨S.rp, S.v, l⟩ F) < wts (cyOf S) S.net := by
          intro V e _
          right
          refine ⟨rfl, ?_⟩
          generalize cyOf S = cy
          unfold voteNet
          show wts cy (if (takeF win S.v F).2.2 then _ else _) < _
          rw [hwp]
          simp only [e, Bool.false_eq_true, if_false, sendsN]
          split <;> omega
        by_cases h1 : hearB S.v F = false
        · exact nothing S.v (by unfold takeF; rw [if_pos h1]) rfl
        · have hh' : hearB S.v F = true := by simpa using h1
          unfold hearB kindB fromB at hh'
          simp only [Bool.and_eq_true, Bool.or_eq_true, beq_iff_eq, decide_eq_true_eq] at hh'
          obtain ⟨_, ⟨hf0, hf3⟩, _, h20⟩ := hh'
          by_cases h2 : F 2 < S.v.tr.length
          · right
            refine ⟨rfl, ?_⟩
            generalize cyOf S = cy
            have hm : (F 2).toNat < S.v.tr.length := by omega
            have et : takeF win S.v F = (S.v, pastF S.v.tr (F 2).toNat, false) := by unfold takeF; rw [if_neg h1, if_pos h2]
            have ev : voteNet win p.src ⟨S.rp, S.v, l⟩ F = sendsN 3 p.src (pastF S.v.tr (F 2).toNat) l := by
              unfold voteNet
              show (if (takeF win S.v F).2.2 then allsN 3 (takeF win S.v F).2.1 l else sendsN 3 p.src (takeF win S.v F).2.1 l) = _
              rw [et]
              simp
            show wts cy (voteNet win p.src ⟨S.rp, S.v, l⟩ F) < _
            rw [ev, hwp]
            have hsr : p.src ≠ 3 := by omega
            have d1 := wt_done cy p.src hsr (doneF (F 2).toNat (cmAt S.v.tr (F 2).toNat))
            have d2 := wt_done cy p.src hsr (doneF (S.v.tr.length - 1) (cmAt S.v.tr (S.v.tr.length - 1)))
            have w1 := wts_put cy ⟨3, p.src, bytesF (doneF (F 2).toNat (cmAt S.v.tr (F 2).toNat))⟩ l
            have hpg : F 2 = cy p.src → progP cy ⟨3, p.src, bytesF (doneF (F 2).toNat (cmAt S.v.tr (F 2).toNat))⟩ := fun e => by
              obtain ⟨q1, q2⟩ := h.done_dec hL hm
              refine ⟨?_, hsr, ?_, ?_, ?_⟩
              · rintro (e | e)
                · exact e q1
                · exact e (q2 1 (by omega))
              · exact q2 0 (by omega)
              · exact q2 1 (by omega)
              · have := q2 2 (by omega)
                show (decF (bytesF (doneF (F 2).toNat (cmAt S.v.tr (F 2).toNat)))).2 2 = cy p.src
                rw [this, ← e]
                show ((F 2).toNat : Int) = F 2
                omega
            unfold pastF
            split
            · show wts cy (putP _ l) < _
              split
              · rename_i e
                have := hpg e
                unfold pwP at w1
                rw [if_pos this] at w1
                omega
              · omega
            · show wts cy (putP _ (putP _ l)) < _
              split
              · rename_i e
                have := wts_two cy _ ⟨3, p.src, bytesF (doneF (S.v.tr.length - 1) (cmAt S.v.tr (S.v.tr.length - 1)))⟩ l (hpg e)
                omega
              · have w2 := wts_put cy ⟨3, p.src, bytesF (doneF (S.v.tr.length - 1) (cmAt S.v.tr (S.v.tr.length - 1)))⟩ (putP ⟨3, p.src, bytesF (doneF (F 2).toNat (cmAt S.v.tr (F 2).toNat))⟩ l)
                omega
          · by_cases h3 : passB S.v F = true
            · exact nothing S.v (by unfold takeF; rw [if_neg h1, if_neg h2, if_pos h3]) rfl
            · by_cases h4 : secTo (castS S.v (F 1).toNat (cmF F)).b (castS S.v (F 1).toNat (cmF F)).x (cmF F) (F 1).toNat 3 = false
              · exact nothing (castS S.v (F 1).toNat (cmF F)) (by unfold takeF; rw [if_neg h1, if_neg h2, if_neg h3, if_pos h4]) rfl
              · left; left
                have et : (takeF win S.v F).1.tr = S.v.tr ++ [cmF F] := by unfold takeF; rw [if_neg h1, if_neg h2, if_neg h3, if_neg h4]; rfl
                show S.v.tr.length < (takeF win S.v F).1.tr.length
                rw [et]; simp
      · have hd3 : p.dst < 3 := by have := hp.dst; omega
        have hcs : comeSy L win p ⟨S.rp, S.v, l⟩ = ⟨upd S.rp p.dst (takeS L (decF p.b).2 (S.rp p.dst)), S.v, sendsN p.dst p.src (takeT L (decF p.b).2 (S.rp p.dst)) l⟩ := by
          unfold comeSy; rw [if_neg hn, if_neg hd]
        rw [hcs]
        by_cases hup : (S.rp p.dst).cycle < (takeS L (decF p.b).2 (S.rp p.dst)).cycle
        · left; right
          refine ⟨p.dst, hd3, ?_⟩
          show (S.rp p.dst).cycle < (upd S.rp p.dst _ p.dst).cycle
          rw [upd_same]; exact hup
        · right
          have hsame : (takeS L (decF p.b).2 (S.rp p.dst)).cycle = (S.rp p.dst).cycle := by have := takeS_cycle (L := L) (decF p.b).2 (S.rp p.dst); omega
          refine ⟨funext fun k => ?_, ?_⟩
          · show (upd S.rp p.dst _ k).cycle = (S.rp k).cycle
            by_cases e : k = p.dst
            · subst e; rw [upd_same]; exact hsame
            · rw [upd_other _ _ e]
          · have hcd : cyOf S p.dst = (S.rp p.dst).cycle := rfl
            generalize cyOf S = cy at hcd ⊢
            have hid := (h.rp _ hd3).id
            have hnp : ¬ progP cy p := by
              rintro ⟨_, _, q1, q2, q3⟩
              apply hup
              have : takeS L (decF p.b).2 (S.rp p.dst) = doneR L (decF p.b).2 (S.rp p.dst) := by unfold takeS; rw [if_pos ⟨q1, q2⟩]
              rw [this]
              unfold doneR
              rw [hcd] at q3
              rw [if_neg (by omega), if_pos q3]
              show _ < (S.rp p.dst).cycle + 1
              omega
            have hwp : wts cy S.net = wtP cy p + wts cy l := by
              rw [he]
              show (if progP cy p then 1 else wtP cy p + wts cy l) = _
              rw [if_neg hnp]
            rw [hwp]
            have hpos := wtP_pos cy p
            show wts cy (sendsN p.dst p.src (takeT L (decF p.b).2 (S.rp p.dst)) l) < _
            unfold takeT
            split
            · rename_i hdn
              have hs : p.src = 3 := by omega
              unfold doneT
              split
              · show wts cy l < _; omega
              · rename_i hlt
                split
                · have hw3 : wtP cy p = 3 := by
                    unfold wtP
                    rw [if_neg hn, if_neg hd, if_pos hdn, if_neg (by omega)]
                  have hcyc : (doneR L (decF p.b).2 (S.rp p.dst)).cycle = (S.rp p.dst).cycle := by
                    have : takeS L (decF p.b).2 (S.rp p.dst) = doneR L (decF p.b).2 (S.rp p.dst) := by unfold takeS; rw [if_pos hdn]
                    rw [← this]; exact hsame
                  have hw := wts_put cy ⟨p.dst, p.src, bytesF (asksR (doneR L (decF p.b).2 (S.rp p.dst)))⟩ l
                  have hpw : pwP cy ⟨p.dst, p.src, bytesF (asksR (doneR L (decF p.b).2 (S.rp p.dst)))⟩ ≤ 2 := by
                    unfold pwP
                    split
                    · omega
                    · unfold wtP
                      split
                      · omega
                      · rename_i hn'
                        split
                        · omega
                        · rename_i hne
                          exfalso
                          apply hne
                          rcases dec_bytes (asksR (doneR L (decF p.b).2 (S.rp p.dst))) with e | e
                          · exact absurd (.inl e) hn'
                          · show (decF (bytesF (asksR (doneR L (decF p.b).2 (S.rp p.dst))))).2 2 = cy p.dst
                            rw [e 2 (by omega), hcd]
                            exact hcyc
                  show wts cy (putP _ l) < _
                  omega
                · show wts cy l < _; omega
            · rename_i hdn
              split
              · show wts cy l < _; omega
              · split
                · rename_i h4
                  have hw2 : wtP cy p = 2 := by
                    unfold wtP
                    rw [if_neg hn, if_neg hd, if_neg hdn, if_pos h4]
                  have hw := wts_put cy ⟨p.dst, p.src, bytesF (knownR (S.rp p.dst))⟩ l
                  have hs3' : p.src ≠ 3 := by
                    intro e
                    rename_i hr
                    apply hr
                    left
                    rw [hn2, e]
                    rfl
                  have hpw : pwP cy ⟨p.dst, p.src, bytesF (knownR (S.rp p.dst))⟩ ≤ 1 := by
                    unfold pwP
                    split
                    · omega
                    · unfold wtP
                      split
                      · omega
                      · rename_i hn'
                        rcases dec_bytes (knownR (S.rp p.dst)) with e | e
                        · exact absurd (.inl e) hn'
                        · have e0 : (decF (bytesF (knownR (S.rp p.dst)))).2 0 = 5 := e 0 (by omega)
                          rw [if_neg (fun x => by rw [e0] at x; exact absurd x.1 (by decide)), if_neg (fun x => by rw [e0] at x; exact absurd x (by decide))]
                          omega
                  show wts cy (putP _ l) < _
                  omega
                · show wts cy l < _; omega
def cySum (S : SY) : Nat := (cyOf S 0).toNat + (cyOf S 1).toNat + (cyOf S 2).toNat
theorem SInv.cyc_le (h : SInv L W liar win T S) (hk : k < 3) : 0 ≤ cyOf S k ∧ cyOf S k ≤ S.v.tr.length := by
  obtain ⟨n, c1, c2, _⟩ := (h.rp k hk).cyc
  unfold cyOf
  omega
theorem ends_aux (hL : LOk L) : ∀ (m : Nat) (S : SY), SInv L W liar win T S → 1000 * (4000 - (S.v.tr.length + cySum S)) + wts (cyOf S) S.net ≤ m → ∃ j, (runAll L win j S).net = [] := by
  intro m
  induction m with
  | zero =>
    intro S h hm
    cases hnet : S.net with
    | nil => exact ⟨0, hnet⟩
    | cons p l =>
      rw [hnet] at hm
      have : 1 ≤ wts (cyOf S) (p :: l) := by
        rw [wts_cons]
        split
        · omega
        · have := wtP_pos (cyOf S) p; omega
      omega
  | succ m ih =>
    intro S h hm
    cases hnet : S.net with
    | nil => exact ⟨0, hnet⟩
    | cons p l =>
      have hc := h.comes hL hnet
      obtain ⟨hA, _⟩ := h.arrive hL (i := 0) (by rw [hnet]; simp)
      obtain ⟨j, hj⟩ := ih (arriveSy L win 0 S) hA (by
        have b0 := h.cyc_le (k := 0) (by omega)
        have b1 := h.cyc_le (k := 1) (by omega)
        have b2 := h.cyc_le (k := 2) (by omega)
        have e0 := hA.cyc_le (k := 0) (by omega)
        have e1 := hA.cyc_le (k := 1) (by omega)
        have e2 := hA.cyc_le (k := 2) (by omega)
        have g0 := hc.cy 0 (by omega)
        have g1 := hc.cy 1 (by omega)
        have g2 := hc.cy 2 (by omega)
        have f1 := hA.vok.few
        have l1 := wts_le (cyOf (arriveSy L win 0 S)) (arriveSy L win 0 S).net
        have l2 := hA.many
        obtain ⟨a, ha⟩ := hc.tr
        have hlen : S.v.tr.length ≤ (arriveSy L win 0 S).v.tr.length := by rw [ha, List.length_append]; omega
        unfold cySum at hm ⊢
        rcases hc.less with hg | ⟨hs, hw⟩
        · rcases hg with hg | ⟨k, hk, hg⟩
          · omega
          · rcases (by omega : k = 0 ∨ k = 1 ∨ k = 2) with rfl | rfl | rfl <;> omega
        · rw [hs]
          omega)
      exact ⟨j + 1, hj⟩
theorem SInv.ends (h : SInv L W liar win T S) (hL : LOk L) : ∃ j, (runAll L win j S).net = [] := ends_aux hL _ S h (Nat.le_refl _)
theorem runAll_nil (h : S.net = []) : ∀ m, runAll L win m S = S
  | 0 => rfl
  | m + 1 => by
    have e : arriveSy L win 0 S = S := by
      unfold arriveSy outSy comeSy
      rw [h]
      have : isNone (pkAt [] 0) := .inl (by show (decF []).1 ≠ 0; rw [dec_form (by left; simp)]; decide)
      rw [if_pos this]
      cases S
      simp only [] at h
      rw [h]
      rfl
    show runAll L win m (arriveSy L win 0 S) = S
    rw [e]; exact runAll_nil h m
end
end Go.Proofs.YtaablbmgagiajaaGreatDoor
