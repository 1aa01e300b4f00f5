/- Proved: for every input triumvirkeep.SystemCalm returns true and leaves its arguments as they were, math/bits.deBruijn32tab being as the program's text lays it (the card ties it). No other condition beyond the form's own. -/
import Derived.Test.YtaablbmgagiajabGreatDoorGAQ
import Derived.Deep.RegionHeld3
import Derived.Deep.DeepCutAuto
import Derived.Test.YtaablbmgagiajabGreatDoorCards
import Derived.Test.YtaablbmgagiajabGreatDoorTie
import Derived.Lib.LaidTab
import Derived.MakeChecks
import Derived.WalkKit
import Derived.ProofKit
import Derived.OpenShut
import Derived.ChangeOld
import Derived.ChangeSame
import Derived.ChangeVars
import Derived.JoinedOf
import Derived.Conc.Holds
import Derived.RowKit
import Derived.RowKitTokens
import Derived.LaidLaws
import Derived.LaidHandle
import Derived.Stop.Joined
import Derived.Lib.SmallJoins
/- It goes on: what the law asks of rounds in which nothing is lost. Plain facts. -/
namespace Go.Proofs.YtaablbmgagiajabGreatDoor
open Go.RowKit Go.Deep

section
variable {L : RC} {W : Seen} {win T n k : Nat} {S S' : SY} {A B : TS}
/-! ### A voter that was not ticked -/
theorem take_fresh {V : VS} (hl : V.lat = false) (hw : V.left = win) (F : FR) : (takeF win V F).1.left = win ∧ (((takeF win V F).1.tr = V.tr ∧ (takeF win V F).1.lat = false) ∨ (F 0 = 2 ∧ (takeF win V F).1.tr.length = V.tr.length + 1 ∧ ((takeF win V F).1.out = 0 → V.tr.length + 1 < 1000 → (takeF win V F).1.lat = false))) := by
  unfold takeF
  split
  · exact ⟨hw, .inl ⟨rfl, hl⟩⟩
  · rename_i hh
    split
    · exact ⟨hw, .inl ⟨rfl, hl⟩⟩
    · split
      · exact ⟨hw, .inl ⟨rfl, hl⟩⟩
      · rename_i hp
        split
        · exact ⟨hw, .inl ⟨rfl, hl⟩⟩
        · refine ⟨rfl, .inr ⟨?_, ?_, fun ho hc => ?_⟩⟩
          · have h1 : hearB V F = true := by simpa using hh
            unfold hearB kindB at h1
            unfold passB at hp
            simp only [Bool.and_eq_true, Bool.or_eq_true, beq_iff_eq] at h1 hp
            rcases h1.1 with e | e
            · exact e
            · exact absurd (.inl (.inr e)) hp
          · show (V.tr ++ [cmF F]).length = _
            simp
          · show (decide (2 ≤ pop 8 (outN _ _)) || decide (1000 ≤ V.tr.length + 1)) = false
            have e0 : outN (castS V (F 1).toNat (cmF F)) (cmF F) = 0 := ho
            rw [e0, decide_eq_false (by decide), decide_eq_false (by omega)]
            rfl
/-- A vote that is under way. -/
def voteB (p : Pk) : Bool := decide (p.dst = 3) && (decide ((decF p.b).1 = 0) && decide ((decF p.b).2 0 = 2))
def votesIn (l : List Pk) : Nat := (l.filter voteB).length
theorem votesIn_le (l : List Pk) : votesIn l ≤ l.length := List.length_filter_le _ _
theorem votesIn_put {p : Pk} (h : voteB p = false) (l : List Pk) : votesIn (putP p l) = votesIn l := by
  unfold putP votesIn
  split
  · rfl
  · rw [List.filter_append, List.filter_cons, h]; simp
theorem voteB_sent {src dst : Nat} {F : FR} (h : F 0 ≠ 2) : voteB ⟨src, dst, bytesF F⟩ = false := by
  unfold voteB
  rcases dec_bytes F with e | e
  · rw [decide_eq_false e]; simp
  · have e0 : (decF (bytesF F)).2 0 = F 0 := e 0 (by omega)
    show (_ && (_ && decide ((decF (bytesF F)).2 0 = 2))) = false
    rw [e0, decide_eq_false h]; simp
theorem votesIn_sends {src dst : Nat} : ∀ (Fs : List FR) (l : List Pk), (∀ F ∈ Fs, F 0 ≠ 2) → votesIn (sendsN src dst Fs l) = votesIn l
  | [], _, _ => rfl
  | F :: r, l, h => (votesIn_sends r _ fun G hG => h G (by simp [hG])).trans (votesIn_put (voteB_sent (h F (by simp))) l)
theorem votesIn_others {src : Nat} {F : FR} (h : F 0 ≠ 2) (l : List Pk) : ∀ k, votesIn (othersN src F l k) = votesIn l
  | 0 => rfl
  | k + 1 => by
    unfold othersN
    split
    · exact votesIn_others h l k
    · exact (votesIn_put (voteB_sent h) _).trans (votesIn_others h l k)
theorem votesIn_alls {src : Nat} : ∀ (Fs : List FR) (l : List Pk), (∀ F ∈ Fs, F 0 ≠ 2) → votesIn (allsN src Fs l) = votesIn l
  | [], _, _ => rfl
  | F :: r, l, h => (votesIn_alls r _ fun G hG => h G (by simp [hG])).trans (votesIn_others (h F (by simp)) l 3)
theorem take_told (V : VS) (F : FR) : ∀ G ∈ (takeF win V F).2.1, G 0 ≠ 2 := by
  have hd : ∀ k d, doneF k d 0 ≠ 2 := fun k d => by show (3 : Int) ≠ 2; decide
  intro G hG
  unfold takeF at hG
  split at hG
  · simp at hG
  · split at hG
    · unfold pastF at hG
      split at hG
      · simp only [List.mem_cons, List.not_mem_nil, or_false] at hG
        rw [hG]; exact hd _ _
      · simp only [List.mem_cons, List.not_mem_nil, or_false] at hG
        rcases hG with e | e <;> rw [e] <;> exact hd _ _
    · split at hG
      · simp at hG
      · split at hG
        · simp at hG
        · simp only [List.mem_cons, List.not_mem_nil, or_false] at hG
          rw [hG]; exact hd _ _
theorem takeT_told (F : FR) (R : RS) : ∀ G ∈ takeT L F R, G 0 ≠ 2 := by
  intro G hG
  unfold takeT doneT at hG
  split at hG
  · split at hG
    · simp at hG
    · split at hG
      · simp only [List.mem_cons, List.not_mem_nil, or_false] at hG
        rw [hG]; show (4 : Int) ≠ 2; decide
      · simp at hG
  · split at hG
    · simp at hG
    · split at hG
      · simp only [List.mem_cons, List.not_mem_nil, or_false] at hG
        rw [hG]; show (5 : Int) ≠ 2; decide
      · simp at hG

/-- The voter has all its time. -/
structure Time (win : Nat) (S : SY) : Prop where
  lat : S.v.lat = false
  left : S.v.left = win
theorem Time.arrive (h : Time win S) (hI : SInv L W 3 win T S) (hL : LOk L) {i : Nat} (hi : i < S.net.length) (hc : S.v.tr.length + 1 < 1000) : Time win (arriveSy L win i S) ∧ (arriveSy L win i S).v.tr.length ≤ S.v.tr.length + 1 := by
  have hA := (hI.arrive hL hi).1.out0
  unfold arriveSy comeSy at hA ⊢
  split
  · exact ⟨⟨h.lat, h.left⟩, by show S.v.tr.length ≤ _; omega⟩
  · rename_i hn
    rw [if_neg hn] at hA
    split
    · rename_i hd
      rw [if_pos hd] at hA
      have ho : (takeF win S.v (decF (pkAt S.net i).b).2).1.out = 0 := hA
      obtain ⟨a, b⟩ := take_fresh h.lat h.left (decF (pkAt S.net i).b).2
      rcases b with ⟨b1, b2⟩ | ⟨_, b1, b2⟩
      · exact ⟨⟨b2, a⟩, by show (takeF win S.v _).1.tr.length ≤ _; rw [b1]; omega⟩
      · exact ⟨⟨b2 ho hc, a⟩, by show (takeF win S.v _).1.tr.length ≤ _; omega⟩
    · exact ⟨⟨h.lat, h.left⟩, by show S.v.tr.length ≤ _; omega⟩
theorem Time.first (h : Time win S) (hI : SInv L W 3 win T S) (hL : LOk L) {p : Pk} {l : List Pk} (he : S.net = p :: l) (hc : S.v.tr.length + votesIn S.net < 999) : Time win (arriveSy L win 0 S) ∧ (arriveSy L win 0 S).v.tr.length + votesIn (arriveSy L win 0 S).net ≤ S.v.tr.length + votesIn S.net := by
  have hA := (hI.arrive hL (i := 0) (by rw [he]; simp)).1.out0
  have hpk : pkAt S.net 0 = p := by rw [he]; rfl
  have hou : outSy 0 S = ⟨S.rp, S.v, l⟩ := by unfold outSy; rw [he]; rfl
  have hvl : votesIn S.net = (if voteB p then 1 else 0) + votesIn l := by
    rw [he]; unfold votesIn
    rw [List.filter_cons]
    split <;> simp <;> omega
  unfold arriveSy at hA ⊢
  rw [hpk, hou] at hA ⊢
  unfold comeSy at hA ⊢
  split
  · exact ⟨⟨h.lat, h.left⟩, by show S.v.tr.length + votesIn l ≤ _; omega⟩
  · rename_i hn
    rw [if_neg hn] at hA
    split
    · rename_i hd
      rw [if_pos hd] at hA
      have ho : (takeF win S.v (decF p.b).2).1.out = 0 := hA
      obtain ⟨a, b⟩ := take_fresh h.lat h.left (decF p.b).2
      have hnet : votesIn (voteNet win p.src ⟨S.rp, S.v, l⟩ (decF p.b).2) = votesIn l := by
        unfold voteNet
        split
        · exact votesIn_alls _ _ (take_told S.v _)
        · exact votesIn_sends _ _ (take_told S.v _)
      rcases b with ⟨b1, b2⟩ | ⟨b0, b1, b2⟩
      · exact ⟨⟨b2, a⟩, by show (takeF win S.v _).1.tr.length + votesIn (voteNet win p.src ⟨S.rp, S.v, l⟩ _) ≤ _; rw [b1, hnet]; omega⟩
      · have hv : voteB p = true := by
          unfold voteB
          have h1 : (decF p.b).1 = 0 := by
            by_cases e : (decF p.b).1 = 0
            · exact e
            · exact absurd (.inl e) hn
          rw [hd, h1, b0]; rfl
        rw [hv, if_pos rfl] at hvl
        exact ⟨⟨b2 ho (by omega), a⟩, by show (takeF win S.v _).1.tr.length + votesIn (voteNet win p.src ⟨S.rp, S.v, l⟩ _) ≤ _; rw [hnet]; omega⟩
    · refine ⟨⟨h.lat, h.left⟩, ?_⟩
      show S.v.tr.length + votesIn (sendsN p.dst p.src (takeT L (decF p.b).2 (S.rp p.dst)) l) ≤ _
      rw [votesIn_sends _ _ (takeT_told _ _)]; omega
theorem Time.all (hL : LOk L) : ∀ (m : Nat) (S : SY), Time win S → SInv L W 3 win T S → S.v.tr.length + votesIn S.net < 999 → Time win (runAll L win m S) ∧ SInv L W 3 win T (runAll L win m S) ∧ (runAll L win m S).v.tr.length ≤ S.v.tr.length + votesIn S.net
  | 0, S, h, hI, _ => ⟨h, hI, by show S.v.tr.length ≤ _; omega⟩
  | m + 1, S, h, hI, hc => by
    cases hnet : S.net with
    | nil => rw [runAll_nil hnet]; exact ⟨h, hI, by omega⟩
    | cons p l =>
      obtain ⟨a, b⟩ := h.first hI hL hnet hc
      obtain ⟨q1, q2, q3⟩ := Time.all hL m _ a (hI.arrive hL (by rw [hnet]; simp)).1 (by omega)
      rw [← hnet]
      exact ⟨q1, q2, Nat.le_trans q3 b⟩
/-- A step that is none of the voter's. -/
theorem StepTo.time {wh : Int} (hs : StepTo L win 3 wh A B) (hw : wh < 10) (hL : LOk L) (hI : TlInv L 3 win T A) (h : Time win A.S) (hc : A.S.v.tr.length + 1 < 1000) : Time win B.S ∧ B.S.v.tr.length ≤ A.S.v.tr.length + 1 := by
  cases hs with
  | same => exact ⟨h, by omega⟩
  | see => exact ⟨⟨h.lat, h.left⟩, by show A.S.v.tr.length ≤ _; omega⟩
  | tick => exact ⟨⟨h.lat, h.left⟩, by show A.S.v.tr.length ≤ _; omega⟩
  | asks => exact ⟨⟨h.lat, h.left⟩, by show A.S.v.tr.length ≤ _; omega⟩
  | arrive i hi => exact h.arrive hI.inv hL hi hc
  | lose => exact ⟨⟨h.lat, h.left⟩, by show A.S.v.tr.length ≤ _; omega⟩
  | twice => exact ⟨⟨h.lat, h.left⟩, by show A.S.v.tr.length ≤ _; omega⟩
  | spoil => exact ⟨⟨h.lat, h.left⟩, by show A.S.v.tr.length ≤ _; omega⟩
  | crash => exact ⟨⟨h.lat, h.left⟩, by show A.S.v.tr.length ≤ _; omega⟩
  | says => exact ⟨⟨h.lat, h.left⟩, by show A.S.v.tr.length ≤ _; omega⟩
  | calm _ _ hx => omega
  | vtick hx => omega
  | latch hx => omega

/-! ### Rounds, with time left -/
theorem roundsC {P : Nat → SY → Prop} (c : Nat) (hL : LOk L) (hW : ∀ j n x b, W j n x b)
    (hP : ∀ i S S' T, SInv L W 3 win T S → S.net = [] → P i S → Half L W win (T + 3) (ticksSy L S) S' → P (i + 1) S')
    (hV : ∀ i S, P i S → P i (vtickSy S)) : ∀ (n i T : Nat) (S S' : SY), Stand L W win T (c + n + 1) S → S.v.tr.length + 2 * n < 1000 → P i S → calmTo L win n S S' → P (i + 2 * n) S' ∧ Stand L W win (T + 6 * n) (c + 1) S' ∧ S'.v.tr.length ≤ S.v.tr.length + 2 * n
  | 0, i, T, S, S', h, _, hp, hc => by
    have e : S' = S := hc
    subst e
    exact ⟨hp, h, by omega⟩
  | n + 1, i, T, S, S', h, hcap, hp, hc => by
    obtain ⟨S1, ⟨m0, m1, m2, e0, e1, e2, e⟩, hc1⟩ := hc
    rw [runAll_nil h.net] at e0 e1 e2 e
    have h1 := half_step hL hW h.inv h.net h.lat (by omega) e1
    have p1 := hP i S _ T h.inv h.net hp h1
    have f1 := h1.few
    generalize runAll L win m1 (ticksSy L S) = A at h1 p1 f1 e1 e2 e
    have s1 : Stand L W win (T + 3) (c + n + 2) A := h1.stand h.left h.wins
    have h2 := half_step hL hW s1.inv s1.net s1.lat (by omega) e2
    have p2 := hP (i + 1) A _ (T + 3) s1.inv s1.net p1 h2
    have f2 := h2.few
    generalize runAll L win m2 (ticksSy L A) = B at h2 p2 f2 e2 e
    have s2 : Stand L W win (T + 3 + 3) (c + n + 2) B := h2.stand s1.left s1.wins
    subst e
    have s3 := s2.tick
    have hl := vtick_tr B
    obtain ⟨q1, q2, q3⟩ := roundsC c hL hW hP hV n (i + 1 + 1) (T + 3 + 3) (vtickSy B) S' s3 (by rw [hl]; omega) (hV _ _ p2) hc1
    refine ⟨?_, ?_, ?_⟩
    · rw [show i + 2 * (n + 1) = i + 1 + 1 + 2 * n by omega]; exact q1
    · rw [show T + 6 * (n + 1) = T + 3 + 3 + 6 * n by omega]; exact q2
    · rw [hl] at q3; omega
theorem calm_ran {m0 : Nat} (hm : (runAll L win m0 S).net = []) (h : calmTo L win (n + 1) S S') (hmin : ∀ j, (runAll L win j S).net = [] → runAll L win j S = runAll L win m0 S) : calmTo L win (n + 1) (runAll L win m0 S) S' := by
  obtain ⟨S1, ⟨j0, m1, m2, e0, e1, e2, e⟩, hc⟩ := h
  rw [hmin j0 e0] at e1 e2 e
  refine ⟨S1, ⟨0, m1, m2, hm, e1, e2, e⟩, hc⟩
theorem runAll_uniq {a b : Nat} (ha : (runAll L win a S).net = []) (hb : (runAll L win b S).net = []) : runAll L win a S = runAll L win b S := by
  rcases Nat.le_total a b with h | h
  · obtain ⟨d, rfl⟩ := Nat.exists_eq_add_of_le h
    rw [runAll_add, runAll_nil ha]
  · obtain ⟨d, rfl⟩ := Nat.exists_eq_add_of_le h
    rw [runAll_add, runAll_nil hb]
theorem two3_self (a : Nat) : two3 a a a = a := by
  unfold two3
  rw [Nat.and_self, Nat.or_self, Nat.or_self]
theorem goes_sync {t0 i : Nat} (h : Goes L t0 i S) (hi : 5 ≤ i) : Sync S ∧ t0 < S.v.tr.length := by
  rcases h with ⟨_, ⟨e, _⟩ | ⟨e, _⟩ | ⟨e, _⟩⟩ | ⟨hf, ht⟩
  · omega
  · omega
  · omega
  · exact ⟨hf.elim (·.sync) (·.sync), ht⟩
/-- Six rounds commit something. -/
theorem calm_six (hL : LOk L) (hI : SInv L WT 3 20 T S) (h : Time 20 S) (ht : S.v.tr.length ≤ 120) (hc : calmTo L 20 6 S S') : Stand L WT 20 (T + 36) 14 S' ∧ Sync S' ∧ S.v.tr.length < S'.v.tr.length ∧ S'.v.tr.length ≤ 300 := by
  obtain ⟨m0, hm⟩ := hI.ends hL
  have hn := hI.many
  have hv := votesIn_le S.net
  obtain ⟨a, b, c⟩ := Time.all hL m0 S h hI (by omega)
  have hrun := (SInv.runsAll hL m0 S hI).tr
  have hc' := calm_ran hm hc fun j hj => runAll_uniq hj hm
  have hst : Stand L WT 20 T (13 + 6 + 1) (runAll L 20 m0 S) := ⟨b, hm, a.lat, by rw [a.left]; omega, by omega⟩
  obtain ⟨q1, q2, q3⟩ := roundsC (P := Goes L (runAll L 20 m0 S).v.tr.length) 13 hL (fun _ _ _ _ => trivial) (fun i S S' T h0 _ hp h => goes_half h0 hp h) (fun i S hp => goes_tick hp) 6 0 T _ S' hst (by omega) (.inl ⟨Nat.le_refl _, .inl ⟨by omega, level_zero b⟩⟩) hc'
  obtain ⟨s1, s2⟩ := goes_sync q1 (by omega)
  obtain ⟨x, hx⟩ := hrun
  have hlen : S.v.tr.length ≤ (runAll L 20 m0 S).v.tr.length := by rw [hx]; simp
  exact ⟨q2, s1, by omega, by omega⟩
/-- Five rounds commit what all see. -/
theorem calm_five {x y : Int} (hL : LOk L) (hst : Stand L WT 20 T 14 S) (hs : Sync S) (ht : S.v.tr.length ≤ 300) (hsee : ∀ r, r < 3 → (S.rp r).sx = x ∧ (S.rp r).sy = y) (hc : calmTo L 20 5 S S') : Stand L WT 20 (T + 30) 1 S' ∧ Sync S' ∧ ∃ d o, S'.v.tr = d ++ [⟨(fitN L.s x : Nat), (fitN L.n y : Nat), o⟩] := by
  have hw : wantC L S = fitN L.s x ∧ wantV L S = fitN L.n y := by
    unfold wantC wantV
    rw [(hsee 0 (by omega)).1, (hsee 1 (by omega)).1, (hsee 2 (by omega)).1, (hsee 0 (by omega)).2, (hsee 1 (by omega)).2, (hsee 2 (by omega)).2]
    exact ⟨two3_self _, two3_self _⟩
  obtain ⟨q1, q2, q3⟩ := roundsC (P := Lasts L (fitN L.s x) (fitN L.n y)) 8 hL (fun _ _ _ _ => trivial) (fun i S S' T h0 _ hp h => lasts_half h0 hp h) (fun i S hp => lasts_tick hp) 5 0 T S S' hst (by omega) ⟨hw, .inl ⟨rfl, hs⟩⟩ hc
  obtain ⟨_, q⟩ := q1
  rcases q with ⟨e, _⟩ | ⟨hf, hl⟩
  · omega
  · refine ⟨⟨q2.inv, q2.net, q2.lat, by have := q2.left; omega, by omega⟩, hf.elim (·.sync) (·.sync), ?_⟩
    rcases hl with e | e | e
    · exact e
    · omega
    · omega
end
end Go.Proofs.YtaablbmgagiajabGreatDoor

/- It goes on: a tale from step to step, and then the system's rounds. -/
namespace Go.Proofs.YtaablbmgagiajabGreatDoor
open Go.RowKit Go.Deep

/-- From step to step; the voter has all its time. -/
structure CmInv (w wr : World) (N q : Nat) (L : RC) (k : Nat) : Prop where
  old : Below w.heap.size w wr
  ge : w.heap.size ≤ q
  ok : LOk L
  is : ∃ E' A, TaIs wr N q E' L 20 3 A ∧ TlInv L 3 20 (18 * k) A ∧ A.seen.length ≤ 3 * k ∧ Time 20 A.S ∧ A.S.v.tr.length ≤ k
theorem CmInv.does {w wr : World} {N q : Nat} {L : RC} {k : Nat} {X : SD} (h : CmInv w wr N q L k) (hk : k ≤ 120) (hx : X.wh < 10) (htab : HasTab w) (h0 : 0 < w.heap.size) (hby : IsB w X.ba X.bl X.bc X.bs) (hbl : X.bl ≤ 200) :
    Calls Tryz.prog 12 #[.pointer (some ⟨q, 0, none⟩), .agg (sdL X).toArray] wr fun e w' => e = .returned (.tuple #[]) ∧ Hid (CmInv w w' N q L (k + 1)) := by
  obtain ⟨E', A, hT, hI, hs, hti, htr⟩ := h.is
  refine (does_any N q E' L 20 3 (18 * k) A wr X hT hI h.ok (by omega) (by omega) (htab.below h.old h0) (hby.below h.old) hbl).mono ?_
  rintro e w' ⟨he, A', hst, hg⟩
  have hold := TaGo.old hT h.old h.ge hg
  obtain ⟨E2, _, _, _, _, hT2, _⟩ := hg
  obtain ⟨t1, t2⟩ := hst.time hx h.ok hI hti (by omega)
  refine ⟨he, hide ⟨hold, h.ge, h.ok, E2, A', hT2, ?_, ?_, t1, by omega⟩⟩
  · rw [show 18 * (k + 1) = 18 * k + 18 by omega]
    exact (hst.keeps h.ok hI).1
  · have := hst.few; omega
theorem CmInv.skip {w wr : World} {N q : Nat} {L : RC} {k : Nat} (h : CmInv w wr N q L k) : CmInv w wr N q L (k + 1) := by
  obtain ⟨E', A, hT, hI, hs, hti, htr⟩ := h.is
  exact ⟨h.old, h.ge, h.ok, E', A, hT, hI.later (by omega), by omega, hti, by omega⟩

/-- The system behind the steps, and the line. -/
structure CpInv (w wr : World) (N q p b off cap : Nat) (L : RC) (T : Nat) (S : SY) : Prop where
  old : Below w.heap.size w wr
  ge : w.heap.size ≤ q
  is : ∃ E A, TaIs wr N q E L 20 3 A ∧ A.S = S ∧ E.D.p = p ∧ E.b = b ∧ E.off = off ∧ E.cap = cap
  inv : SInv L WT 3 20 T S
section
variable {w wr wx : World} {N q p b off cap : Nat} {L : RC} {T : Nat} {S S' : SY}
theorem CmInv.cp {k : Nat} (h : CmInv w wr N q L k) (hk : k ≤ 120) : ∃ p b off cap S, CpInv w wr N q p b off cap L 2200 S ∧ Time 20 S ∧ S.v.tr.length ≤ 120 := by
  obtain ⟨E', A, hT, hI, hs, hti, htr⟩ := h.is
  exact ⟨_, _, _, _, A.S, ⟨h.old, h.ge, ⟨E', A, hT, rfl, rfl, rfl, rfl, rfl⟩, (hI.inv.le fun _ _ _ _ _ => trivial).later (by omega)⟩, hti, by omega⟩
theorem CpInv.below (h : CpInv w wr N q p b off cap L T S) (hB : Below wr.heap.size wr wx) : CpInv w wx N q p b off cap L T S := by
  obtain ⟨E, A, hT, e⟩ := h.is
  exact ⟨h.old.trans (hB.mono h.old.size), h.ge, ⟨E, A, hT.below hB, e⟩, h.inv⟩
theorem CpInv.at (h : CpInv w wr N q p b off cap L T S) : wr.cell? ⟨q, 0, none⟩ = some (.pointer (some ⟨p, 0, none⟩)) ∧ wr.cell? ⟨q, 1, none⟩ = some (.int .i64 (L.s : Int)) ∧ wr.cell? ⟨q, 2, none⟩ = some (.slice (some ⟨b, off, none⟩) L.n cap) ∧ wr.cell? ⟨q, 3, none⟩ = some (.int .i64 (L.d : Int)) := by
  obtain ⟨E, A, hT, _, rfl, rfl, rfl, rfl⟩ := h.is
  exact ⟨(hT.at 0).trans rfl, (hT.at 1).trans rfl, (hT.at 2).trans rfl, (hT.at 3).trans rfl⟩
theorem CpInv.go (h : CpInv w wr N q p b off cap L T S) {T' : Nat} (hI : SInv L WT 3 20 T' S') : ∃ D, D.p = p ∧ SyIs wr N D L 20 S ∧ N ≤ wr.heap.size ∧ ∀ wx, SyGo wr wx N D L 20 S' → CpInv w wx N q p b off cap L T' S' := by
  obtain ⟨E, A, hT, rfl, rfl, rfl, rfl, rfl⟩ := h.is
  refine ⟨E.D, rfl, hT.sy, hT.size, fun wx hg => ?_⟩
  have hg2 := hT.went hg
  have hold := TaGo.old hT h.old h.ge hg2
  obtain ⟨E2, e1, e2, e3, e4, hT2, _⟩ := hg2
  exact ⟨hold, h.ge, ⟨E2, _, hT2, rfl, e4, e1, e2, congrArg Prod.fst e3⟩, hI⟩
theorem CpInv.calm (h : CpInv w wr N q p b off cap L T S) (hL : LOk L) (n : Nat) (hn : n ≤ 6) (hT : T ≤ 3000) : Calls Tryz.prog 16 #[.pointer (some ⟨p, 0, none⟩), .int .i64 (n : Int)] wr fun e w' => e = .returned (.tuple #[]) ∧ Hid (∃ S', calmTo L 20 n S S' ∧ CpInv w w' N q p b off cap L (T + 6 * n) S') := by
  obtain ⟨E, A, hTA, hS, hp, hb, ho, hc⟩ := h.is
  subst hS
  have hcl : ClInv L WT 3 20 T A.S := ⟨h.inv, fun _ _ _ _ _ => ⟨fun _ _ => trivial, fun _ _ => trivial⟩⟩
  have key := calm_any (W := WT) (liar := 3) (T := T) N E.D L 20 A.S wr n hTA.sy hcl hL (by omega) (by omega) hTA.size
  rw [hp] at key
  refine key.mono ?_
  rintro e w2 ⟨he, S', hc', hI, hg⟩
  refine ⟨he, hide ⟨S', hc', ?_⟩⟩
  have hg2 := hTA.went hg
  have hold := TaGo.old hTA h.old h.ge hg2
  obtain ⟨E2, e1, e2, e3, e4, hT2, _⟩ := hg2
  exact ⟨hold, h.ge, ⟨E2, _, hT2, rfl, e4.trans hp, e1.trans hb, e2.trans ho, (congrArg Prod.fst e3).trans hc⟩, hI.inv⟩
theorem CpInv.see (h : CpInv w wr N q p b off cap L T S) (k : Nat) (hk : k < 3) (x y : Int) : Calls Tryz.prog 18 #[.pointer (some ⟨p, 0, none⟩), .int .i64 (k : Int), .agg #[.int .i64 x, .int .i64 y]] wr fun e w' => e = .returned .nilIface ∧ Hid (CpInv w w' N q p b off cap L T (seeSy k x y S)) := by
  obtain ⟨D, rfl, hS, _, hgo⟩ := h.go (h.inv.see hk x y)
  refine (sysee_any N D L 20 S wr k x y hk hS).mono ?_
  rintro e w' ⟨he, hg⟩
  exact ⟨he, hide (hgo w' hg)⟩
theorem CpInv.trace (h : CpInv w wr N q p b off cap L T S) : Calls Tryz.prog 13 #[.pointer (some ⟨p, 0, none⟩)] wr fun e w' => (∃ v, e = .returned v ∧ TIs w' wr.heap.size v S.v.tr) ∧ Below wr.heap.size wr w' := by
  obtain ⟨D, rfl, hS, _, _⟩ := h.go h.inv
  exact strace_any N D L 20 S wr hS h.inv.vok
theorem CpInv.latched (h : CpInv w wr N q p b off cap L T S) : Calls Tryz.prog 14 #[.pointer (some ⟨p, 0, none⟩)] wr fun e w' => e = .returned (.bool S.v.lat) ∧ w' = wr := by
  obtain ⟨D, rfl, hS, _, _⟩ := h.go h.inv
  exact slatched_any N D L 20 S wr hS
theorem CpInv.out (h : CpInv w wr N q p b off cap L T S) : Calls Tryz.prog 17 #[.pointer (some ⟨p, 0, none⟩)] wr fun e w' => e = .returned (.int .i64 (S.v.out : Int)) ∧ w' = wr := by
  obtain ⟨D, rfl, hS, _, _⟩ := h.go h.inv
  exact sout_any N D L 20 S wr hS
theorem CpInv.shown (h : CpInv w wr N q p b off cap L T S) : Calls Tryz.prog 15 #[.pointer (some ⟨p, 0, none⟩)] wr fun e w' => e = .returned (.int .i64 (shownF S.v)) ∧ Below wr.heap.size wr w' := by
  obtain ⟨D, rfl, hS, _, _⟩ := h.go h.inv
  exact sshown_any N D L 20 S wr hS h.inv.vok
theorem CpInv.replica (h : CpInv w wr N q p b off cap L T S) (k : Nat) (hk : k < 3) : Calls Tryz.prog 20 #[.pointer (some ⟨p, 0, none⟩), .int .i64 (k : Int)] wr fun e w' => e = .returned (.tuple #[.int .i64 (S.rp k).cycle, .agg (stCells (S.rp k).st), .nilIface]) ∧ Below wr.heap.size wr w' := by
  obtain ⟨D, rfl, hS, _, _⟩ := h.go h.inv
  exact sreplica_any N D L 20 S wr k hk hS
theorem CpInv.line (h : CpInv w wr N q p b off cap L T S) : Row wr b off L.zs ∧ b < wr.heap.size ∧ L.n ≤ cap := by
  obtain ⟨E, A, hT, _, rfl, rfl, rfl, rfl⟩ := h.is
  exact ⟨hT.row, Nat.lt_of_lt_of_le hT.lb.1 hT.size, hT.cap⟩
end
theorem pop_all : ∀ n : Fin 9, ∀ s : Fin 256, s.val < 2 ^ n.val → pop 8 s.val ≤ n.val := by decide +kernel
theorem pop_at {n s : Nat} (hn : n ≤ 8) (h : s < 2 ^ n) : pop 8 s ≤ n := pop_all ⟨n, by omega⟩ ⟨s, Nat.lt_of_lt_of_le h (Nat.pow_le_pow_right (n := 2) (by decide) (show n ≤ 8 by omega))⟩ h
end Go.Proofs.YtaablbmgagiajabGreatDoor

/- triumvirkeep.SystemCalm: the walk. -/
namespace Go.Proofs.YtaablbmgagiajabGreatDoor
open Go.RowKit Go.Deep

theorem fit_line (s d : Nat) (x0 x1 : Int) (b off n cap : Nat) (zs : List Int) (w : World) (hn : zs.length = n) (hok : checkF s zs d = (0, -1)) (hb : b < w.heap.size) (hc : Row w b off zs) (hcap : n ≤ cap) :
    Calls Tryz.prog 19 #[.agg #[.int .i64 (s : Int), .slice (some ⟨b, off, none⟩) n cap, .int .i64 (d : Int)], .agg #[.int .i64 x0, .int .i64 x1]] w fun e w' =>
      e = .returned (.tuple #[.agg #[.int .i64 ((fitN s x0 : Nat) : Int), .int .i64 ((fitN n x1 : Nat) : Int)], .nilIface]) ∧ Below w.heap.size w w' := by
  have hr := range_pos hok
  unfold rangeB at hr
  simp only [Bool.and_eq_true, inB_iff] at hr
  have h1 := fit_ok (s : Int) (d : Int) x0 x1 b off cap zs w hok hb hc (by omega)
  rw [fitN_eq s x0 (by omega), fitN_eq zs.length x1 (by omega), hn] at h1
  exact h1

/-- While all see the same. -/
def seesTo (x y : Int) (S : SY) : Nat → SY
  | 0 => S
  | k + 1 => seeSy k x y (seesTo x y S k)
theorem seesTo_v (x y : Int) (S : SY) : ∀ k, (seesTo x y S k).v = S.v ∧ (seesTo x y S k).net = S.net ∧ ∀ r, ((seesTo x y S k).rp r).cycle = (S.rp r).cycle
  | 0 => ⟨rfl, rfl, fun _ => rfl⟩
  | k + 1 => by
    obtain ⟨h1, h2, h3⟩ := seesTo_v x y S k
    refine ⟨h1, h2, fun r => ?_⟩
    show (upd (seesTo x y S k).rp k _ r).cycle = _
    by_cases e : r = k
    · subst e; rw [upd_same]; exact h3 r
    · rw [upd_other _ _ e]; exact h3 r
theorem seesTo_sees (x y : Int) (S : SY) : ∀ k r, r < k → ((seesTo x y S k).rp r).sx = x ∧ ((seesTo x y S k).rp r).sy = y
  | 0, r, h => by omega
  | k + 1, r, h => by
    show (upd (seesTo x y S k).rp k _ r).sx = x ∧ (upd (seesTo x y S k).rp k _ r).sy = y
    by_cases e : r = k
    · subst e; rw [upd_same]; exact ⟨rfl, rfl⟩
    · rw [upd_other _ _ e]; exact seesTo_sees x y S k r (by omega)
theorem pick17 : 3 + (pickF 17 18).toNat = 20 := by decide +kernel
theorem pick3 : (pickF 3 4).toNat = 3 := by decide +kernel
theorem infoIn2 : (Tryz.prog.info? 31).map (·.size) = some 2 := by kernel_rfl
theorem row_same2 {w : World} {g : Nat} {old : Array Value} {t : TypeId} (h : w.heap[g]? = some (.cells old t (0, 0))) (cells : Array Value) : (w.setRow g cells).heap[g]? = some (.cells cells t (0, 0)) := by
  exact setRow_heap w g _ _ _ _ h

set_option maxHeartbeats 4000000 in
set_option maxRecDepth 20000 in
theorem scalm_any (x0 x1 : Int) (a : Option Addr) (len cap : Nat) (al : Option Addr) (ll cl : Nat) (ix iy : Int) (w : World) (hm : len ≤ maxLen) (hrt : ∀ i, i < len → ∃ b off z, a = some ⟨b, off, none⟩ ∧ b < w.heap.size ∧ w.cell? ⟨b, off + i, none⟩ = some (.int .i64 z)) (hs : StepAt w al ll) (hml : ll ≤ maxLen) (htab : HasTab w) (h0 : 0 < w.heap.size) :
    Calls Tryz.prog 4 #[.int .i64 x0, .int .i64 x1, .slice a len cap, .slice al ll cl, .agg #[.int .i64 ix, .int .i64 iy]] w fun e w' => e = .returned (.bool true) ∧ Below w.heap.size w w' := by
  unfold maxLen at hm
  obtain ⟨W, hW⟩ : ∃ W, Hid (w.alloc (.cells #[.int .i64 ix, .int .i64 iy] 31) = W) := ⟨_, hide rfl⟩
  have hBW : Below w.heap.size w W := by rw [← hW.out]; exact (Below.refl _ _).alloc (Nat.le_refl _) _
  have hbx : W.heap[w.heap.size]? = some (.cells #[.int .i64 ix, .int .i64 iy] 31 (0, 0)) := by rw [← hW.out]; exact blk_new _ _
  have hws : w.heap.size < W.heap.size := blk_lt hbx
  have hs' := hs.below hBW
  have HFT := hide (fits_any al ll cl W hs' hml)
  by_cases hl : 30 < len
  · clear hrt hs HFT htab hs'
    go_enter Tryz.func4, Tryz.ntmps4
    go_wp2
    go_ret
    exact ⟨rfl, by rw [show w.alloc (.cells #[.int .i64 ix, .int .i64 iy] 31) = W from hW.out]; exact hBW⟩
  · have hl' : ¬ (30 : Int) < (len : Int) := by omega
    have HRT : Hid (∀ i, i < len → ∃ b off z, a = some ⟨b, off, none⟩ ∧ b < W.heap.size ∧ W.cell? ⟨b, off + i, none⟩ = some (.int .i64 z)) := hide fun i hi => by
      obtain ⟨b, off, z, h1, h2, h3⟩ := hrt i hi
      exact ⟨b, off, z, h1, Nat.lt_of_lt_of_le h2 hBW.size, (hBW.cell (p := ⟨b, off + i, none⟩) h2).trans h3⟩
    have HS := hide hs'
    have HTB := hide (htab.below hBW h0)
    have HBX : Hid (∀ wx, Below W.heap.size W wx → wx.cell? ⟨w.heap.size, 0, none⟩ = some (.int .i64 ix) ∧ wx.cell? ⟨w.heap.size, 1, none⟩ = some (.int .i64 iy)) := hide fun wx hx => by
      have hb := (hx.block _ hws).trans hbx
      exact ⟨(blk_cell hb 0).trans rfl, (blk_cell hb 1).trans rfl⟩
    have HBW := hide hBW
    have h0W : 0 < W.heap.size := by omega
    clear hrt hs htab hs' hbx hBW
    go_enter Tryz.func4, Tryz.ntmps4
    go_wp2_with fail
    rw [show w.alloc (.cells #[.int .i64 ix, .int .i64 iy] 31) = W from hW.out]
    clear hW
    refine HFT.out.mono ?_
    rintro e wz ⟨⟨r, rfl, hr⟩, hwz⟩
    subst wz
    clear HFT
    cases r
    · go_wp2
      go_ret
      exact ⟨rfl, HBW.out⟩
    · obtain ⟨hll, hby⟩ := hr rfl
      have HBY := hide hby
      clear hr hby
      have HRN := hide (ran_any W)
      go_wp2_with (go_at_call 10; refine HRN.out.mono ?_)
      rintro e w1 ⟨rfl, hB1⟩
      have hs1 := hB1.size
      have HTL := hide (tells_any x0 x1 17 3 a len cap w1 (by omega) fun i hi => by
        obtain ⟨b, off, z, h1, h2, h3⟩ := HRT.out i hi
        exact ⟨b, off, z, h1, Nat.lt_of_lt_of_le h2 hB1.size, (hB1.cell (p := ⟨b, off + i, none⟩) h2).trans h3⟩)
      rw [pick17, pick3] at HTL
      have HB1 := hide hB1
      clear HRN hB1 HRT
      go_wp2_with (go_at_call 11; refine HTL.out.mono ?_)
      rintro e w2 ⟨⟨N, q, E, L, rfl, hq, hL, hT⟩, hB2⟩
      have HP : Hid (CmInv W w2 N q L 0) := hide ⟨HB1.out.trans (hB2.mono HB1.out.size), Nat.le_trans hs1 hq, hL, E, _, hT, ⟨SInv.new (by decide) (by decide), fun _ _ => ⟨rfl, rfl⟩⟩, Nat.le_refl _, ⟨rfl, rfl⟩, Nat.le_refl _⟩
      have HL := hide hL
      clear HTL HB1 hB2 hT hq hL
      go_wp2_with fail
      go_loopw [12] (fun i wr => ∃ k : Nat, k ≤ ll ∧ i = .int .i64 k ∧ CmInv W wr N q L k) (fun i _ => ll - (intOf i).toNat)
      case atStart => exact ⟨0, Nat.zero_le _, rfl, HP.out⟩
      case round =>
        clear HP
        obtain ⟨k, hk, rfl, hP⟩ := hrel
        by_cases hlt : k < ll
        · obtain ⟨b, off, X, rfl, hb, hr1, hr2, hby⟩ := HS.out.load hP.old hlt
          have g0 : wr.cell? ⟨b, off + k * 29, none⟩ = some (.int .i64 X.wh) := hr2 0 _ (by simp [sdL])
          by_cases hx : X.wh < 10
          · have HC := hide (hP.does (X := X) (by omega) hx HTB.out h0W hby (HBY.out k b off X hlt rfl hr1))
            have HR := hide hr2
            clear hP hr1 hr2 hby
            go_wp2_with (first
              | (refine wpList_load_mid rfl 39 _ rfl b (off + k * 29) rfl (sdL X) _ HR.out Tryz.underlying39 rfl (by rw [infoStep, sdL_len]) ?_)
              | (go_at_call 12; refine HC.out.mono ?_))
            rintro e w3 ⟨rfl, HG⟩
            go_wp2
            go_roundw
            case rel => exact ⟨k + 1, by omega, by go_num, HG.out⟩
            case measure => simp [intOf]; omega
          · have HG := hide hP.skip
            clear hP hr1 hr2 hby
            go_wp2
            go_roundw
            case rel => exact ⟨k + 1, by omega, by go_num, HG.out⟩
            case measure => simp [intOf]; omega
        · have e2 : k = ll := by omega
          subst e2
          obtain ⟨p, b, off, cp, S, hC, hti, htr⟩ := hP.cp (by omega)
          obtain ⟨c0, _⟩ := hC.at
          have HTR := hide hC.trace
          have HC0 := hide hC
          clear hP HS HBY hC
          go_wp2_with (go_at_call 13; refine HTR.out.mono ?_)
          rintro e w3 ⟨⟨v, rfl, hTr⟩, hB3⟩
          obtain ⟨ta, tc, rfl⟩ := hTr.shape
          have hC3 := HC0.out.below hB3
          obtain ⟨d0, _⟩ := hC3.at
          have HCM : Hid (Calls Tryz.prog 16 #[.pointer (some ⟨p, 0, none⟩), .int .i64 6] w3 fun e w' => e = .returned (.tuple #[]) ∧ Hid (∃ S', calmTo L 20 6 S S' ∧ CpInv W w' N q p b off cp L (2200 + 6 * 6) S')) := hide (hC3.calm HL.out 6 (by omega) (by omega))
          have HI := hide hC3.inv
          have HTI := hide hti
          obtain ⟨n0, hn0⟩ : ∃ n0, Hid (S.v.tr.length = n0) := ⟨_, hide rfl⟩
          rw [hn0.out] at htr ⊢
          clear hTr hB3 hC3 HC0 HTR c0 hti
          go_wp2_with (go_at_call 16; refine HCM.out.mono ?_)
          rintro e w4 ⟨rfl, HG⟩
          obtain ⟨S1, hc1, hC4⟩ := HG.out
          obtain ⟨hst1, hsy1, hlt1, hle1⟩ := calm_six HL.out HI.out HTI.out (by rw [hn0.out]; exact htr) hc1
          have HLAT := hide hC4.latched
          rw [hst1.lat] at HLAT
          have HOUT := hide hC4.inv.out0
          obtain ⟨c0, _⟩ := hC4.at
          have HTR := hide hC4.trace
          have HST := hide hst1
          have HSY := hide hsy1
          have HC4 := hide hC4
          rw [hn0.out] at hlt1
          clear HG HCM hC4 hst1 hsy1 hc1 d0 HI HTI
          go_wp2_with (go_at_call 14; refine HLAT.out.mono ?_)
          rintro e wz ⟨rfl, hwz⟩
          subst wz
          go_wp2_with (go_at_call 13; refine HTR.out.mono ?_)
          rintro e w5 ⟨⟨v, rfl, hTr⟩, hB5⟩
          obtain ⟨ta5, tc5, rfl⟩ := hTr.shape
          have hC5 := HC4.out.below hB5
          obtain ⟨d0, _⟩ := hC5.at
          have HOU := hide hC5.out
          rw [HOUT.out] at HOU
          have HC5 := hide hC5
          have hlt2 : ¬ (S1.v.tr.length : Int) ≤ (n0 : Int) := by omega
          have hlt3 : decide (S1.v.tr.length ≤ n0) = false := by simp; omega
          clear hTr hB5 HTR hC5 HC4 HLAT c0 HOUT
          go_wp2_with (go_at_call 17; refine HOU.out.mono ?_)
          rintro e wz ⟨rfl, hwz⟩
          subst wz
          clear HOU d0
          go_wp2_with fail
          go_loopw [15] (fun j wr => ∃ r : Nat, r ≤ 3 ∧ j = .int .i64 r ∧ CpInv W wr N q p b off cp L (2200 + 6 * 6) (seesTo ix iy S1 r)) (fun j _ => 3 - (intOf j).toNat)
          case atStart => exact ⟨0, by omega, rfl, HC5.out⟩
          case round =>
            clear HC5
            obtain ⟨r, hr3, rfl, hC⟩ := hrel
            by_cases hr : r < 3
            · have hr' : (r : Int) < 3 := by omega
              obtain ⟨c0, _⟩ := hC.at
              obtain ⟨g0, g1⟩ := HBX.out wr hC.old
              have HSE := hide ((hC.below (Below.refl _ _).drew).see r hr ix iy)
              clear hC
              go_wp2_with fail
              refine wp_region_held_drew (S := fun w' => w'.cell? ⟨q, 0, none⟩ = some (.pointer (some ⟨p, 0, none⟩)) ∧ w'.cell? ⟨w.heap.size, 0, none⟩ = some (.int .i64 ix) ∧ w'.cell? ⟨w.heap.size, 1, none⟩ = some (.int .i64 iy)) (by kernel_rfl) ⟨c0, g0, g1⟩ (fun hHeld => ?_)
              refine wpAnyH_take (i := 0) (oi := _) (v := .pointer (some ⟨q, 0, none⟩)) rfl (by kernel_rfl) (by kernel_rfl) (by kernel_rfl) (fun _ _ _ h => h) (Or.inl ⟨by kernel_rfl, fun w _ => by go_simp⟩) hHeld ?_
              simp only [Act.put, List.getElem_toArray, List.getElem_cons_zero, List.setIfInBounds_toArray, List.set_cons_succ, List.set_cons_zero]
              refine wpAnyH_take (i := 1) (oi := _) (v := .pointer (some ⟨q, 0, none⟩)) rfl (by kernel_rfl) (by kernel_rfl) (by kernel_rfl) (fun _ _ _ h => h) (Or.inl ⟨by kernel_rfl, fun w _ => by go_simp⟩) hHeld ?_
              simp only [Act.put, List.getElem_toArray, List.getElem_cons_succ, List.getElem_cons_zero, List.setIfInBounds_toArray, List.set_cons_succ, List.set_cons_zero]
              refine wpAnyH_take (i := 2) (oi := _) (v := .pointer (some ⟨q, 0, none⟩)) rfl (by kernel_rfl) (by kernel_rfl) (by kernel_rfl) (fun _ _ _ h => h) (Or.inl ⟨by kernel_rfl, fun w _ => by go_simp⟩) hHeld ?_
              simp only [Act.put, List.getElem_toArray, List.getElem_cons_succ, List.getElem_cons_zero, List.setIfInBounds_toArray, List.set_cons_succ, List.set_cons_zero]
              refine wpAnyH_take (i := 3) (oi := _) (v := .pointer (some ⟨p, 0, none⟩)) rfl (by kernel_rfl) (by kernel_rfl) (by kernel_rfl) (fun _ _ _ h => h) (Or.inl ⟨by kernel_rfl, fun w h => by obtain ⟨h1, h2, h3⟩ := h; go_simp⟩) hHeld ?_
              simp only [Act.put, List.getElem_toArray, List.getElem_cons_succ, List.getElem_cons_zero, List.setIfInBounds_toArray, List.set_cons_succ, List.set_cons_zero]
              refine wpAnyH_take (i := 4) (oi := _) (v := .int .i64 (r : Int)) rfl (by kernel_rfl) (by kernel_rfl) (by kernel_rfl) (fun _ _ _ h => h) (Or.inl ⟨by kernel_rfl, fun w _ => by go_simp⟩) hHeld ?_
              simp only [Act.put, List.getElem_toArray, List.getElem_cons_succ, List.getElem_cons_zero, List.setIfInBounds_toArray, List.set_cons_succ, List.set_cons_zero]
              refine wpAnyH_take (i := 5) (oi := _) (v := .agg #[.int .i64 ix, .int .i64 iy]) rfl (by kernel_rfl) (by kernel_rfl) (by kernel_rfl) (fun _ _ _ h => h) (Or.inl ⟨by kernel_rfl, fun w h => by obtain ⟨h1, h2, h3⟩ := h; go_simp⟩) hHeld ?_
              simp only [Act.put, List.getElem_toArray, List.getElem_cons_succ, List.getElem_cons_zero, List.setIfInBounds_toArray, List.set_cons_succ, List.set_cons_zero]
              refine wpAnyH_ready (rs := [6]) (by kernel_rfl) (by simp) ?_
              refine AllReadyH.cons (o := _) rfl (fun K hK => ?_) AllReadyH.nil
              rw [if_pos (by rfl)]
              go_simp
              go_at_call 18
              refine HSE.out.mono ?_
              rintro e w6 ⟨rfl, HG⟩
              dsimp only
              obtain ⟨c0', _⟩ := HG.out.at
              obtain ⟨g0', g1'⟩ := HBX.out w6 HG.out.old
              refine hK.out _ _ ⟨c0', g0', g1'⟩ (fun hHeld => ?_)
              clear hK K
              refine wpAnyH_take (i := 7) (oi := _) (v := .bool false) rfl (by kernel_rfl) (by kernel_rfl) (by kernel_rfl) (fun _ _ _ h => h) (Or.inl ⟨by kernel_rfl, fun w _ => by go_simp⟩) hHeld ?_
              simp only [Act.put, List.getElem_toArray, List.getElem_cons_succ, List.getElem_cons_zero, List.setIfInBounds_toArray, List.set_cons_succ, List.set_cons_zero]
              refine wpAnyH_done (by kernel_rfl) ?_ _
              clear c0' g0' g1'
              go_wp2
              go_roundw
              case rel => exact ⟨r + 1, by omega, by go_num, HG.out⟩
              case measure => simp [intOf]; omega
            · have er : r = 3 := by omega
              subst er
              obtain ⟨sv1, sv2, sv3⟩ := seesTo_v ix iy S1 3
              have hst3 : Stand L WT 20 (2200 + 6 * 6) 14 (seesTo ix iy S1 3) := ⟨hC.inv, sv2.trans HST.out.net, by rw [sv1]; exact HST.out.lat, by rw [sv1]; exact HST.out.left, HST.out.wins⟩
              have hsy3 : Sync (seesTo ix iy S1 3) := fun r hr => by rw [sv1, sv3]; exact HSY.out r hr
              have hse3 := seesTo_sees ix iy S1 3
              have hle3 : (seesTo ix iy S1 3).v.tr.length ≤ 300 := by rw [sv1]; exact hle1
              obtain ⟨c0, _⟩ := hC.at
              have HCM : Hid (Calls Tryz.prog 16 #[.pointer (some ⟨p, 0, none⟩), .int .i64 5] wr fun e w' => e = .returned (.tuple #[]) ∧ Hid (∃ S', calmTo L 20 5 (seesTo ix iy S1 3) S' ∧ CpInv W w' N q p b off cp L (2200 + 6 * 6 + 6 * 5) S')) := hide (hC.calm HL.out 5 (by omega) (by omega))
              have HS3 := hide hst3
              have HY3 := hide hsy3
              clear hC hst3 hsy3 sv1 sv2 sv3 HST HSY
              go_wp2_with (go_at_call 16; refine HCM.out.mono ?_)
              rintro e w6 ⟨rfl, HG⟩
              obtain ⟨S2, hc2, hC6⟩ := HG.out
              obtain ⟨hst4, hsy4, dd, oo, htr4⟩ := calm_five HL.out HS3.out HY3.out hle3 hse3 hc2
              clear HG HCM HS3 HY3 hse3 hle3 hc2 c0
              have hLF := HL.out.few
              -- what the layout lets through
              have HFIT : Hid (∀ wx, Below w6.heap.size w6 wx → Calls Tryz.prog 19 #[.agg #[.int .i64 (L.s : Int), .slice (some ⟨b, off, none⟩) L.n cp, .int .i64 (L.d : Int)], .agg #[.int .i64 ix, .int .i64 iy]] wx fun e w' =>
                  e = .returned (.tuple #[.agg #[.int .i64 ((fitN L.s ix : Nat) : Int), .int .i64 ((fitN L.n iy : Nat) : Int)], .nilIface]) ∧ Hid (Below wx.heap.size wx w')) := hide fun wx hx => by
                obtain ⟨hrow, hbl, hcp⟩ := (hC6.below hx).line
                refine (fit_line L.s L.d ix iy b off L.n cp L.zs wx HL.out.len HL.out.ok hbl hrow hcp).mono ?_
                rintro e w' ⟨he, hB⟩
                exact ⟨he, hide hB⟩
              have HCELL : Hid (∀ wx, Below w6.heap.size w6 wx → wx.cell? ⟨q, 1, none⟩ = some (.int .i64 (L.s : Int)) ∧ wx.cell? ⟨q, 2, none⟩ = some (.slice (some ⟨b, off, none⟩) L.n cp) ∧ wx.cell? ⟨q, 3, none⟩ = some (.int .i64 (L.d : Int)) ∧ wx.cell? ⟨w.heap.size, 0, none⟩ = some (.int .i64 ix) ∧ wx.cell? ⟨w.heap.size, 1, none⟩ = some (.int .i64 iy)) := hide fun wx hx => by
                obtain ⟨_, e1, e2, e3⟩ := (hC6.below hx).at
                obtain ⟨g0, g1⟩ := HBX.out wx (hC6.below hx).old
                exact ⟨e1, e2, e3, g0, g1⟩
              obtain ⟨fc, hfc⟩ : ∃ fc, Hid (fitN L.s ix = fc) := ⟨_, hide rfl⟩
              obtain ⟨fv, hfv⟩ : ∃ fv, Hid (fitN L.n iy = fv) := ⟨_, hide rfl⟩
              rw [hfc.out, hfv.out] at HFIT htr4
              have HC6 := hide hC6
              have HST4 := hide hst4
              have HSY4 := hide hsy4
              have HTR4 := hide htr4
              clear hC6 hst4 hsy4 htr4
              go_wp2_with fail
              go_cut [16, 17] from 104 to 117 (fun b e wc => ∃ g, b = .pointer (some ⟨g, 0, none⟩) ∧ e = .nilIface ∧ w6.heap.size ≤ g ∧ Below w6.heap.size w6 wc ∧ wc.heap[g]? = some (.cells #[.int .i64 (fc : Int), .int .i64 (fv : Int)] 31 (0, 0)))
              case first =>
                have hss : ∀ wx, Below w6.heap.size w6 wx → wx.cell? ⟨q, 1, none⟩ = some (.int .i64 (L.s : Int)) ∧ wx.cell? ⟨q, 2, none⟩ = some (.slice (some ⟨b, off, none⟩) L.n cp) ∧ wx.cell? ⟨q, 3, none⟩ = some (.int .i64 (L.d : Int)) ∧ wx.cell? ⟨w.heap.size, 0, none⟩ = some (.int .i64 ix) ∧ wx.cell? ⟨w.heap.size, 1, none⟩ = some (.int .i64 iy) := fun wx hx => HCELL.out wx hx
                refine wp_region_held_drew (S := fun w' => w'.cell? ⟨q, 1, none⟩ = some (.int .i64 (L.s : Int)) ∧ w'.cell? ⟨q, 2, none⟩ = some (.slice (some ⟨b, off, none⟩) L.n cp) ∧ w'.cell? ⟨q, 3, none⟩ = some (.int .i64 (L.d : Int)) ∧ w'.cell? ⟨w.heap.size, 0, none⟩ = some (.int .i64 ix) ∧ w'.cell? ⟨w.heap.size, 1, none⟩ = some (.int .i64 iy)) (by kernel_rfl) (hss _ (Below.refl _ _).drew) (fun hHeld => ?_)
                refine wpAnyH_take (i := 0) (oi := _) (v := .pointer (some ⟨q, 0, none⟩)) rfl (by kernel_rfl) (by kernel_rfl) (by kernel_rfl) (fun _ _ _ h => h) (Or.inl ⟨by kernel_rfl, fun w _ => by go_simp⟩) hHeld ?_
                simp only [Act.put, List.getElem_toArray, List.getElem_cons_zero, List.setIfInBounds_toArray, List.set_cons_succ, List.set_cons_zero]
                refine wpAnyH_take (i := 1) (oi := _) (v := .pointer (some ⟨q, 0, none⟩)) rfl (by kernel_rfl) (by kernel_rfl) (by kernel_rfl) (fun _ _ _ h => h) (Or.inl ⟨by kernel_rfl, fun w _ => by go_simp⟩) hHeld ?_
                simp only [Act.put, List.getElem_toArray, List.getElem_cons_succ, List.getElem_cons_zero, List.setIfInBounds_toArray, List.set_cons_succ, List.set_cons_zero]
                refine wpAnyH_take (i := 2) (oi := _) (v := .pointer (some ⟨q, 1, none⟩)) rfl (by kernel_rfl) (by kernel_rfl) (by kernel_rfl) (fun _ _ _ h => h) (Or.inl ⟨by kernel_rfl, fun w _ => by go_simp⟩) hHeld ?_
                simp only [Act.put, List.getElem_toArray, List.getElem_cons_succ, List.getElem_cons_zero, List.setIfInBounds_toArray, List.set_cons_succ, List.set_cons_zero]
                refine wpAnyH_take (i := 3) (oi := _) (v := .agg #[.int .i64 (L.s : Int), .slice (some ⟨b, off, none⟩) L.n cp, .int .i64 (L.d : Int)]) rfl (by kernel_rfl) (by kernel_rfl) (by kernel_rfl) (fun _ _ _ h => h) (Or.inl ⟨by kernel_rfl, fun w h => by obtain ⟨h1, h2, h3, h4, h5⟩ := h; go_simp⟩) hHeld ?_
                simp only [Act.put, List.getElem_toArray, List.getElem_cons_succ, List.getElem_cons_zero, List.setIfInBounds_toArray, List.set_cons_succ, List.set_cons_zero]
                refine wpAnyH_take (i := 4) (oi := _) (v := .agg #[.int .i64 ix, .int .i64 iy]) rfl (by kernel_rfl) (by kernel_rfl) (by kernel_rfl) (fun _ _ _ h => h) (Or.inl ⟨by kernel_rfl, fun w h => by obtain ⟨h1, h2, h3, h4, h5⟩ := h; go_simp⟩) hHeld ?_
                simp only [Act.put, List.getElem_toArray, List.getElem_cons_succ, List.getElem_cons_zero, List.setIfInBounds_toArray, List.set_cons_succ, List.set_cons_zero]
                refine wpAnyH_ready (rs := [5, 9]) (by kernel_rfl) (by simp) ?_
                refine AllReadyH.cons (o := _) rfl (fun K hK => ?_) (AllReadyH.cons (o := _) rfl (fun K hK => ?_) AllReadyH.nil)
                · rw [if_pos (by rfl)]
                  go_simp
                  go_at_call 19
                  refine (unhide HFIT _ (Below.refl _ _).drew).mono ?_
                  rintro e w7 ⟨rfl, HB7⟩
                  dsimp only
                  have hB7 : Below w6.heap.size w6 w7 := (Below.refl _ _).drew.trans HB7.out
                  refine hK.out _ _ (hss _ hB7) (fun hHeld => ?_)
                  clear hK K
                  refine wpAnyH_take (i := 6) (oi := _) (v := .tuple #[.agg #[.int .i64 (fc : Int), .int .i64 (fv : Int)], .nilIface]) rfl (by kernel_rfl) (by kernel_rfl) (by kernel_rfl) (fun _ _ _ h => h) (Or.inl ⟨by kernel_rfl, fun w _ => by go_simp⟩) hHeld ?_
                  simp only [Act.put, List.getElem_toArray, List.getElem_cons_succ, List.getElem_cons_zero, List.setIfInBounds_toArray, List.set_cons_succ, List.set_cons_zero]
                  refine wpAnyH_take (i := 7) (oi := _) (v := .agg #[.int .i64 (fc : Int), .int .i64 (fv : Int)]) rfl (by kernel_rfl) (by kernel_rfl) (by kernel_rfl) (fun _ _ _ h => h) (Or.inl ⟨by kernel_rfl, fun w _ => by go_simp⟩) hHeld ?_
                  simp only [Act.put, List.getElem_toArray, List.getElem_cons_succ, List.getElem_cons_zero, List.setIfInBounds_toArray, List.set_cons_succ, List.set_cons_zero]
                  refine wpAnyH_take (i := 8) (oi := _) (v := .nilIface) rfl (by kernel_rfl) (by kernel_rfl) (by kernel_rfl) (fun _ _ _ h => h) (Or.inl ⟨by kernel_rfl, fun w _ => by go_simp⟩) hHeld ?_
                  simp only [Act.put, List.getElem_toArray, List.getElem_cons_succ, List.getElem_cons_zero, List.setIfInBounds_toArray, List.set_cons_succ, List.set_cons_zero]
                  refine wpAnyH_ready (rs := [9]) (by kernel_rfl) (by simp) ?_
                  refine AllReadyH.cons (o := _) rfl (fun K hK => ?_) AllReadyH.nil
                  rw [if_pos (by rfl)]
                  go_simp
                  have hz : (w7.alloc (.cells #[.int .i64 0, .int .i64 0] 31)).heap[w7.heap.size]? = some (.cells #[.int .i64 0, .int .i64 0] 31 (0, 0)) := blk_new _ _
                  have hB8 : Below w6.heap.size w6 (w7.alloc (.cells #[.int .i64 0, .int .i64 0] 31)) := hB7.alloc hB7.size _
                  refine hK.out _ _ (hss _ hB8) (fun hHeld => ?_)
                  clear hK K
                  refine wpAnyH_ready (rs := [10]) (by kernel_rfl) (by simp) ?_
                  refine AllReadyH.cons (o := _) rfl (fun K hK => ?_) AllReadyH.nil
                  rw [if_pos (by rfl)]
                  refine wp_store_row _ _ _ rfl _ #[.int .i64 (fc : Int), .int .i64 (fv : Int)] rfl rfl _ _ hz (by rw [infoIn2]; rfl) rfl (by simp [Value.oneCell']) ?_
                  have hB9 := below_row hB8 hB7.size #[.int .i64 (fc : Int), .int .i64 (fv : Int)]
                  have hz9 := row_same2 hz #[.int .i64 (fc : Int), .int .i64 (fv : Int)]
                  refine hK.out _ _ (hss _ hB9) (fun hHeld => ?_)
                  clear hK K
                  refine wpAnyH_take (i := 11) (oi := _) (v := .nilIface) rfl (by kernel_rfl) (by kernel_rfl) (by kernel_rfl) (fun _ _ _ h => h) (Or.inl ⟨by kernel_rfl, fun w _ => by go_simp⟩) hHeld ?_
                  simp only [Act.put, List.getElem_toArray, List.getElem_cons_succ, List.getElem_cons_zero, List.setIfInBounds_toArray, List.set_cons_succ, List.set_cons_zero]
                  refine wpAnyH_done (by kernel_rfl) ?_ _
                  go_wp2_with fail
                  go_meet
                  exact ⟨_, rfl, rfl, hB7.size, hB9, hz9⟩
                · rw [if_pos (by rfl)]
                  go_simp
                  have hz : (w6.alloc (.cells #[.int .i64 0, .int .i64 0] 31)).drew.heap[w6.heap.size]? = some (.cells #[.int .i64 0, .int .i64 0] 31 (0, 0)) := blk_new _ _
                  have hB7 : Below w6.heap.size w6 (w6.alloc (.cells #[.int .i64 0, .int .i64 0] 31)).drew := ((Below.refl _ _).alloc (Nat.le_refl _) _).drew
                  refine hK.out _ _ (hss _ hB7) (fun hHeld => ?_)
                  clear hK K
                  refine wpAnyH_ready (rs := [5]) (by kernel_rfl) (by simp) ?_
                  refine AllReadyH.cons (o := _) rfl (fun K hK => ?_) AllReadyH.nil
                  rw [if_pos (by rfl)]
                  go_simp
                  go_at_call 19
                  refine (unhide HFIT _ hB7).mono ?_
                  rintro e w7 ⟨rfl, HB7⟩
                  dsimp only
                  have hB8 : Below w6.heap.size w6 w7 := hB7.trans (HB7.out.mono hB7.size)
                  have hz8 : w7.heap[w6.heap.size]? = some (.cells #[.int .i64 0, .int .i64 0] 31 (0, 0)) := (HB7.out.block _ (blk_lt hz)).trans hz
                  refine hK.out _ _ (hss _ hB8) (fun hHeld => ?_)
                  clear hK K
                  refine wpAnyH_take (i := 6) (oi := _) (v := .tuple #[.agg #[.int .i64 (fc : Int), .int .i64 (fv : Int)], .nilIface]) rfl (by kernel_rfl) (by kernel_rfl) (by kernel_rfl) (fun _ _ _ h => h) (Or.inl ⟨by kernel_rfl, fun w _ => by go_simp⟩) hHeld ?_
                  simp only [Act.put, List.getElem_toArray, List.getElem_cons_succ, List.getElem_cons_zero, List.setIfInBounds_toArray, List.set_cons_succ, List.set_cons_zero]
                  refine wpAnyH_take (i := 7) (oi := _) (v := .agg #[.int .i64 (fc : Int), .int .i64 (fv : Int)]) rfl (by kernel_rfl) (by kernel_rfl) (by kernel_rfl) (fun _ _ _ h => h) (Or.inl ⟨by kernel_rfl, fun w _ => by go_simp⟩) hHeld ?_
                  simp only [Act.put, List.getElem_toArray, List.getElem_cons_succ, List.getElem_cons_zero, List.setIfInBounds_toArray, List.set_cons_succ, List.set_cons_zero]
                  refine wpAnyH_take (i := 8) (oi := _) (v := .nilIface) rfl (by kernel_rfl) (by kernel_rfl) (by kernel_rfl) (fun _ _ _ h => h) (Or.inl ⟨by kernel_rfl, fun w _ => by go_simp⟩) hHeld ?_
                  simp only [Act.put, List.getElem_toArray, List.getElem_cons_succ, List.getElem_cons_zero, List.setIfInBounds_toArray, List.set_cons_succ, List.set_cons_zero]
                  refine wpAnyH_ready (rs := [10]) (by kernel_rfl) (by simp) ?_
                  refine AllReadyH.cons (o := _) rfl (fun K hK => ?_) AllReadyH.nil
                  rw [if_pos (by rfl)]
                  refine wp_store_row _ _ _ rfl _ #[.int .i64 (fc : Int), .int .i64 (fv : Int)] rfl rfl _ _ hz8 (by rw [infoIn2]; rfl) rfl (by simp [Value.oneCell']) ?_
                  have hB9 := below_row hB8 (Nat.le_refl _) #[.int .i64 (fc : Int), .int .i64 (fv : Int)]
                  have hz9 := row_same2 hz8 #[.int .i64 (fc : Int), .int .i64 (fv : Int)]
                  refine hK.out _ _ (hss _ hB9) (fun hHeld => ?_)
                  clear hK K
                  refine wpAnyH_take (i := 11) (oi := _) (v := .nilIface) rfl (by kernel_rfl) (by kernel_rfl) (by kernel_rfl) (fun _ _ _ h => h) (Or.inl ⟨by kernel_rfl, fun w _ => by go_simp⟩) hHeld ?_
                  simp only [Act.put, List.getElem_toArray, List.getElem_cons_succ, List.getElem_cons_zero, List.setIfInBounds_toArray, List.set_cons_succ, List.set_cons_zero]
                  refine wpAnyH_done (by kernel_rfl) ?_ _
                  go_wp2_with fail
                  go_meet
                  exact ⟨_, rfl, rfl, Nat.le_refl _, hB9, hz9⟩
              case rest =>
                obtain ⟨g, rfl, rfl, hg, hBc, hzc⟩ := hcut
                have hgl := blk_lt hzc
                have hCc := HC6.out.below hBc
                obtain ⟨c0, _⟩ := hCc.at
                have HTR := hide hCc.trace
                have HCc := hide hCc
                have HZC := hide hzc
                obtain ⟨tr, htr⟩ : ∃ tr, Hid (S2.v.tr = tr) := ⟨_, hide rfl⟩
                rw [htr.out] at HTR HTR4
                have hnn : tr.length = dd.length + 1 := by rw [HTR4.out]; simp
                have hcm : cmAt tr dd.length = ⟨(fc : Int), (fv : Int), oo⟩ := by rw [HTR4.out]; exact cmAt_new _ _
                have hsh : shownF S2.v = oo := by
                  unfold shownF
                  rw [HST4.out.lat, htr.out, hnn, show dd.length + 1 - 1 = dd.length by omega, hcm]
                  rfl
                have hoo : ∃ o : Nat, oo = (o : Int) ∧ o < 2 ^ L.n := by
                  obtain ⟨c', v', hd, _⟩ := HST4.out.inv.tr dd.length (by rw [htr.out, hnn]; omega)
                  rw [htr.out, hcm] at hd
                  exact ⟨_, congrArg Cm.o hd, showTo_lt _ _ _ _ _ _ (Nat.le_refl _)⟩
                obtain ⟨o, ho, hol⟩ := hoo
                subst ho
                have hpop := pop_at (n := L.n) (s := o) (by omega) hol
                have ho8 : o < 256 := Nat.lt_of_lt_of_le hol (Nat.pow_le_pow_right (n := 2) (by decide) (show L.n ≤ 8 by omega))
                have hcyc : ∀ r, r < 3 → (S2.rp r).cycle = ((dd.length + 1 : Nat) : Int) := fun r hr => by
                  have := HSY4.out r hr
                  rw [htr.out, hnn] at this
                  exact this
                have HCY := hide hcyc
                have HSHW := hide hsh
                have hfew := HST4.out.inv.vok.few
                rw [htr.out, hnn] at hfew
                clear hBc hCc HFIT HCELL hcyc hsh HST4 HSY4 HC6 hzc
                go_wp2_with (go_at_call 13; refine HTR.out.mono ?_)
                rintro e w8 ⟨⟨v, rfl, hTr⟩, hB8⟩
                obtain ⟨g2, c2, rfl, hg2, hgl2, hc2⟩ := hTr.has (by omega)
                rw [hnn] at hTr hc2 ⊢
                obtain ⟨m, hm'⟩ : ∃ m, Hid (dd.length = m) := ⟨_, hide rfl⟩
                rw [hm'.out] at hnn hcm HCY hfew hTr hc2 ⊢
                have hC8 := HCc.out.below hB8
                have HX : Hid (∀ wx, Below w8.heap.size w8 wx → (wx.cell? ⟨g2, m * 3, none⟩ = some (.int .i64 (fc : Int)) ∧ wx.cell? ⟨g2, m * 3 + 1, none⟩ = some (.int .i64 (fv : Int)) ∧ wx.cell? ⟨g2, m * 3 + 2, none⟩ = some (.int .i64 (o : Int))) ∧ wx.cell? ⟨g, 0, none⟩ = some (.int .i64 (fc : Int)) ∧ wx.cell? ⟨g, 1, none⟩ = some (.int .i64 (fv : Int))) := hide fun wx hx => by
                  have hr := (hTr.same (w' := wx) fun g' hg' => by
                    have : g2 = g' := by simpa [Value.ownBlock] using hg'
                    exact hx.block g' (by omega)).range (k := m) (by omega)
                  rw [hcm] at hr
                  have hb := (hx.block g (Nat.lt_of_lt_of_le hgl hB8.size)).trans ((hB8.block g hgl).trans HZC.out)
                  exact ⟨⟨hr 0 _ rfl, hr 1 _ rfl, hr 2 _ rfl⟩, (blk_cell hb 0).trans rfl, (blk_cell hb 1).trans rfl⟩
                have HC8 := hide hC8
                obtain ⟨⟨t0, t1, t2⟩, z0, z1⟩ := HX.out w8 (Below.refl _ _)
                have q1 : ((m : Int) + 1 - 1) = (m : Int) := by omega
                have q2 : (m : Int) < ((m + 1 : Nat) : Int) := by omega
                clear hTr hB8 HTR c0 hC8 hcm HCc HZC
                go_wp2_with fail
                go_quiet (fail)
                go_wp2_with fail
                have HBD : Hid (Below w8.heap.size w8 w8.drew) := hide (Below.refl _ _).drew
                go_loopw [19] (fun j wr => ∃ r : Nat, r ≤ 3 ∧ j = .int .i64 r ∧ Below w8.heap.size w8 wr) (fun j _ => 3 - (intOf j).toNat)
                case atStart => exact ⟨0, by omega, rfl, below_drewN (Below.refl _ _) _⟩
                case round =>
                  obtain ⟨r, hr3, rfl, hBr⟩ := hrel
                  have hCr := HC8.out.below hBr
                  obtain ⟨c0, e1, e2, e3⟩ := hCr.at
                  by_cases hr : r < 3
                  · have hr' : (r : Int) < 3 := by omega
                    have HRP := hide (hCr.replica r hr)
                    rw [HCY.out r hr] at HRP
                    obtain ⟨X, hX⟩ : ∃ X, Hid ((S2.rp r).st = X) := ⟨_, hide rfl⟩
                    rw [hX.out] at HRP
                    have HBR := hide hBr
                    clear hCr hBr e1 e2 e3
                    go_wp2_with (go_at_call 20; refine HRP.out.mono ?_)
                    rintro e w9 ⟨rfl, hB9⟩
                    have HS0 : Hid (StIs (w9.alloc (.cells (stCells st0) 34)) w9.heap.size st0) := hide (blk_new _ _)
                    have HB9 := hide hB9
                    clear HRP c0 hB9
                    go_wp2_with (refine wpList_store_s rfl _ _ rfl w9.heap.size st0 X rfl rfl HS0.out ?_)
                    intro V HF
                    have hBV : Below w9.heap.size w9 V := ((Below.refl _ _).alloc (Nat.le_refl _) _).trans (HF.out.2.2 w9.heap.size (Nat.le_refl _))
                    have HBV := hide (HBR.out.trans ((HB9.out.trans (hBV.mono HB9.out.size)).mono HBR.out.size))
                    clear HF HS0 hBV HB9 HBR
                    go_wp2
                    go_roundw
                    case rel => exact ⟨r + 1, by omega, by go_num, HBV.out⟩
                    case measure => simp [intOf]; omega
                  · have er : r = 3 := by omega
                    subst er
                    have HSHN : Hid (∀ wx, Below wr.heap.size wr wx → Calls Tryz.prog 15 #[.pointer (some ⟨p, 0, none⟩)] wx fun e w' => e = .returned (.int .i64 (o : Int)) ∧ Hid (Below wx.heap.size wx w')) := hide fun wx hx => by
                      have h := (hCr.below hx).shown
                      rw [HSHW.out] at h
                      refine h.mono ?_
                      rintro e w' ⟨he, hB⟩
                      exact ⟨he, hide hB⟩
                    have HSS : Hid (∀ wx, Below wr.heap.size wr wx → wx.cell? ⟨q, 0, none⟩ = some (.pointer (some ⟨p, 0, none⟩)) ∧ wx.cell? ⟨q, 2, none⟩ = some (.slice (some ⟨b, off, none⟩) L.n cp) ∧ wx.cell? ⟨g2, m * 3 + 2, none⟩ = some (.int .i64 (o : Int))) := hide fun wx hx => by
                      obtain ⟨d0, _, d2, _⟩ := (hCr.below hx).at
                      exact ⟨d0, d2, (HX.out wx (hBr.trans (hx.mono hBr.size))).1.2.2⟩
                    have HE := hide hCr.old
                    have HBWW := hide (HBW.out.trans (hCr.old.mono HBW.out.size))
                    clear hCr c0 e1 e2 e3 t0 t1 t2 z0 z1 HX HC8
                    go_wp2_with fail
                    refine wp_region_held_drew (S := fun w' => w'.cell? ⟨q, 0, none⟩ = some (.pointer (some ⟨p, 0, none⟩)) ∧ w'.cell? ⟨q, 2, none⟩ = some (.slice (some ⟨b, off, none⟩) L.n cp) ∧ w'.cell? ⟨g2, m * 3 + 2, none⟩ = some (.int .i64 (o : Int))) (by kernel_rfl) (HSS.out _ (Below.refl _ _).drew) (fun hHeld => ?_)
                    refine wpAnyH_take (i := 0) (oi := _) (v := .pointer (some ⟨q, 0, none⟩)) rfl (by kernel_rfl) (by kernel_rfl) (by kernel_rfl) (fun _ _ _ h => h) (Or.inl ⟨by kernel_rfl, fun w _ => by go_simp⟩) hHeld ?_
                    simp only [Act.put, List.getElem_toArray, List.getElem_cons_zero, List.setIfInBounds_toArray, List.set_cons_succ, List.set_cons_zero]
                    refine wpAnyH_take (i := 1) (oi := _) (v := .pointer (some ⟨q, 0, none⟩)) rfl (by kernel_rfl) (by kernel_rfl) (by kernel_rfl) (fun _ _ _ h => h) (Or.inl ⟨by kernel_rfl, fun w _ => by go_simp⟩) hHeld ?_
                    simp only [Act.put, List.getElem_toArray, List.getElem_cons_succ, List.getElem_cons_zero, List.setIfInBounds_toArray, List.set_cons_succ, List.set_cons_zero]
                    refine wpAnyH_take (i := 2) (oi := _) (v := .pointer (some ⟨q, 0, none⟩)) rfl (by kernel_rfl) (by kernel_rfl) (by kernel_rfl) (fun _ _ _ h => h) (Or.inl ⟨by kernel_rfl, fun w _ => by go_simp⟩) hHeld ?_
                    simp only [Act.put, List.getElem_toArray, List.getElem_cons_succ, List.getElem_cons_zero, List.setIfInBounds_toArray, List.set_cons_succ, List.set_cons_zero]
                    refine wpAnyH_take (i := 3) (oi := _) (v := .pointer (some ⟨p, 0, none⟩)) rfl (by kernel_rfl) (by kernel_rfl) (by kernel_rfl) (fun _ _ _ h => h) (Or.inl ⟨by kernel_rfl, fun w h => by obtain ⟨h1, h2, h3⟩ := h; go_simp⟩) hHeld ?_
                    simp only [Act.put, List.getElem_toArray, List.getElem_cons_succ, List.getElem_cons_zero, List.setIfInBounds_toArray, List.set_cons_succ, List.set_cons_zero]
                    refine wpAnyH_take (i := 5) (oi := _) (v := .slice (some ⟨g2, 0, none⟩) (m + 1) c2) rfl (by kernel_rfl) (by kernel_rfl) (by kernel_rfl) (fun _ _ _ h => h) (Or.inl ⟨by kernel_rfl, fun w _ => by go_simp⟩) hHeld ?_
                    simp only [Act.put, List.getElem_toArray, List.getElem_cons_succ, List.getElem_cons_zero, List.setIfInBounds_toArray, List.set_cons_succ, List.set_cons_zero]
                    refine wpAnyH_take (i := 6) (oi := _) (v := .slice (some ⟨g2, 0, none⟩) (m + 1) c2) rfl (by kernel_rfl) (by kernel_rfl) (by kernel_rfl) (fun _ _ _ h => h) (Or.inl ⟨by kernel_rfl, fun w _ => by go_simp⟩) hHeld ?_
                    simp only [Act.put, List.getElem_toArray, List.getElem_cons_succ, List.getElem_cons_zero, List.setIfInBounds_toArray, List.set_cons_succ, List.set_cons_zero]
                    refine wpAnyH_take (i := 7) (oi := _) (v := .int .i64 ((m + 1 : Nat) : Int)) rfl (by kernel_rfl) (by kernel_rfl) (by kernel_rfl) (fun _ _ _ h => h) (Or.inl ⟨by kernel_rfl, fun w _ => by go_simp⟩) hHeld ?_
                    simp only [Act.put, List.getElem_toArray, List.getElem_cons_succ, List.getElem_cons_zero, List.setIfInBounds_toArray, List.set_cons_succ, List.set_cons_zero]
                    refine wpAnyH_take (i := 8) (oi := _) (v := .int .i64 (m : Int)) rfl (by kernel_rfl) (by kernel_rfl) (by kernel_rfl) (fun _ _ _ h => h) (Or.inl ⟨by kernel_rfl, fun w _ => by go_simp; simp [IntKind.wrap, IntKind.bits, IntKind.signed]; omega⟩) hHeld ?_
                    simp only [Act.put, List.getElem_toArray, List.getElem_cons_succ, List.getElem_cons_zero, List.setIfInBounds_toArray, List.set_cons_succ, List.set_cons_zero]
                    refine wpAnyH_take (i := 9) (oi := _) (v := .pointer (some ⟨g2, m * 3, none⟩)) rfl (by kernel_rfl) (by kernel_rfl) (by kernel_rfl) (fun _ _ _ h => h) (Or.inl ⟨by kernel_rfl, fun w _ => by go_simp; intro hh; omega⟩) hHeld ?_
                    simp only [Act.put, List.getElem_toArray, List.getElem_cons_succ, List.getElem_cons_zero, List.setIfInBounds_toArray, List.set_cons_succ, List.set_cons_zero]
                    refine wpAnyH_take (i := 10) (oi := _) (v := .pointer (some ⟨g2, m * 3 + 2, none⟩)) rfl (by kernel_rfl) (by kernel_rfl) (by kernel_rfl) (fun _ _ _ h => h) (Or.inl ⟨by kernel_rfl, fun w _ => by go_simp⟩) hHeld ?_
                    simp only [Act.put, List.getElem_toArray, List.getElem_cons_succ, List.getElem_cons_zero, List.setIfInBounds_toArray, List.set_cons_succ, List.set_cons_zero]
                    refine wpAnyH_take (i := 11) (oi := _) (v := .int .i64 (o : Int)) rfl (by kernel_rfl) (by kernel_rfl) (by kernel_rfl) (fun _ _ _ h => h) (Or.inl ⟨by kernel_rfl, fun w h => by obtain ⟨h1, h2, h3⟩ := h; go_simp⟩) hHeld ?_
                    simp only [Act.put, List.getElem_toArray, List.getElem_cons_succ, List.getElem_cons_zero, List.setIfInBounds_toArray, List.set_cons_succ, List.set_cons_zero]
                    refine wpAnyH_ready (rs := [4]) (by kernel_rfl) (by simp) ?_
                    refine AllReadyH.cons (o := _) rfl (fun K hK => ?_) AllReadyH.nil
                    rw [if_pos (by rfl)]
                    go_simp
                    go_at_call 15
                    refine (unhide HSHN _ (Below.refl _ _).drew).mono ?_
                    rintro e wa ⟨rfl, HBa⟩
                    dsimp only
                    have hBa : Below wr.heap.size wr wa := (Below.refl _ _).drew.trans HBa.out
                    refine hK.out _ _ (HSS.out _ hBa) (fun hHeld => ?_)
                    clear hK K
                    refine wpAnyH_take (i := 12) (oi := _) (v := .bool true) rfl (by kernel_rfl) (by kernel_rfl) (by kernel_rfl) (fun _ _ _ h => h) (Or.inl ⟨by kernel_rfl, fun w _ => by go_simp⟩) hHeld ?_
                    simp only [Act.put, List.getElem_toArray, List.getElem_cons_succ, List.getElem_cons_zero, List.setIfInBounds_toArray, List.set_cons_succ, List.set_cons_zero]
                    refine wpAnyH_take (i := 13) (oi := _) (v := .bool true) rfl (by kernel_rfl) (by kernel_rfl) (by kernel_rfl) (fun _ _ _ h => h) (Or.inl ⟨by kernel_rfl, fun w _ => by go_simp⟩) hHeld ?_
                    simp only [Act.put, List.getElem_toArray, List.getElem_cons_succ, List.getElem_cons_zero, List.setIfInBounds_toArray, List.set_cons_succ, List.set_cons_zero]
                    refine wpAnyH_take (i := 14) (oi := _) (v := .pointer (some ⟨q, 0, none⟩)) rfl (by kernel_rfl) (by kernel_rfl) (by kernel_rfl) (fun _ _ _ h => h) (Or.inl ⟨by kernel_rfl, fun w _ => by go_simp⟩) hHeld ?_
                    simp only [Act.put, List.getElem_toArray, List.getElem_cons_succ, List.getElem_cons_zero, List.setIfInBounds_toArray, List.set_cons_succ, List.set_cons_zero]
                    refine wpAnyH_take (i := 15) (oi := _) (v := .pointer (some ⟨q, 0, none⟩)) rfl (by kernel_rfl) (by kernel_rfl) (by kernel_rfl) (fun _ _ _ h => h) (Or.inl ⟨by kernel_rfl, fun w _ => by go_simp⟩) hHeld ?_
                    simp only [Act.put, List.getElem_toArray, List.getElem_cons_succ, List.getElem_cons_zero, List.setIfInBounds_toArray, List.set_cons_succ, List.set_cons_zero]
                    refine wpAnyH_take (i := 16) (oi := _) (v := .pointer (some ⟨q, 0, none⟩)) rfl (by kernel_rfl) (by kernel_rfl) (by kernel_rfl) (fun _ _ _ h => h) (Or.inl ⟨by kernel_rfl, fun w _ => by go_simp⟩) hHeld ?_
                    simp only [Act.put, List.getElem_toArray, List.getElem_cons_succ, List.getElem_cons_zero, List.setIfInBounds_toArray, List.set_cons_succ, List.set_cons_zero]
                    refine wpAnyH_take (i := 17) (oi := _) (v := .pointer (some ⟨p, 0, none⟩)) rfl (by kernel_rfl) (by kernel_rfl) (by kernel_rfl) (fun _ _ _ h => h) (Or.inl ⟨by kernel_rfl, fun w h => by obtain ⟨h1, h2, h3⟩ := h; go_simp⟩) hHeld ?_
                    simp only [Act.put, List.getElem_toArray, List.getElem_cons_succ, List.getElem_cons_zero, List.setIfInBounds_toArray, List.set_cons_succ, List.set_cons_zero]
                    refine wpAnyH_take (i := 21) (oi := _) (v := .pointer (some ⟨q, 0, none⟩)) rfl (by kernel_rfl) (by kernel_rfl) (by kernel_rfl) (fun _ _ _ h => h) (Or.inl ⟨by kernel_rfl, fun w _ => by go_simp⟩) hHeld ?_
                    simp only [Act.put, List.getElem_toArray, List.getElem_cons_succ, List.getElem_cons_zero, List.setIfInBounds_toArray, List.set_cons_succ, List.set_cons_zero]
                    refine wpAnyH_take (i := 22) (oi := _) (v := .pointer (some ⟨q, 0, none⟩)) rfl (by kernel_rfl) (by kernel_rfl) (by kernel_rfl) (fun _ _ _ h => h) (Or.inl ⟨by kernel_rfl, fun w _ => by go_simp⟩) hHeld ?_
                    simp only [Act.put, List.getElem_toArray, List.getElem_cons_succ, List.getElem_cons_zero, List.setIfInBounds_toArray, List.set_cons_succ, List.set_cons_zero]
                    refine wpAnyH_take (i := 23) (oi := _) (v := .pointer (some ⟨q, 1, none⟩)) rfl (by kernel_rfl) (by kernel_rfl) (by kernel_rfl) (fun _ _ _ h => h) (Or.inl ⟨by kernel_rfl, fun w _ => by go_simp⟩) hHeld ?_
                    simp only [Act.put, List.getElem_toArray, List.getElem_cons_succ, List.getElem_cons_zero, List.setIfInBounds_toArray, List.set_cons_succ, List.set_cons_zero]
                    refine wpAnyH_take (i := 24) (oi := _) (v := .pointer (some ⟨q, 2, none⟩)) rfl (by kernel_rfl) (by kernel_rfl) (by kernel_rfl) (fun _ _ _ h => h) (Or.inl ⟨by kernel_rfl, fun w _ => by go_simp⟩) hHeld ?_
                    simp only [Act.put, List.getElem_toArray, List.getElem_cons_succ, List.getElem_cons_zero, List.setIfInBounds_toArray, List.set_cons_succ, List.set_cons_zero]
                    refine wpAnyH_take (i := 25) (oi := _) (v := .slice (some ⟨b, off, none⟩) L.n cp) rfl (by kernel_rfl) (by kernel_rfl) (by kernel_rfl) (fun _ _ _ h => h) (Or.inl ⟨by kernel_rfl, fun w h => by obtain ⟨h1, h2, h3⟩ := h; go_simp⟩) hHeld ?_
                    simp only [Act.put, List.getElem_toArray, List.getElem_cons_succ, List.getElem_cons_zero, List.setIfInBounds_toArray, List.set_cons_succ, List.set_cons_zero]
                    refine wpAnyH_take (i := 26) (oi := _) (v := .int .i64 (L.n : Int)) rfl (by kernel_rfl) (by kernel_rfl) (by kernel_rfl) (fun _ _ _ h => h) (Or.inl ⟨by kernel_rfl, fun w _ => by go_simp⟩) hHeld ?_
                    simp only [Act.put, List.getElem_toArray, List.getElem_cons_succ, List.getElem_cons_zero, List.setIfInBounds_toArray, List.set_cons_succ, List.set_cons_zero]
                    refine wpAnyH_ready (rs := [18]) (by kernel_rfl) (by simp) ?_
                    refine AllReadyH.cons (o := _) rfl (fun K hK => ?_) AllReadyH.nil
                    rw [if_pos (by rfl)]
                    go_simp
                    go_at_call 15
                    refine (unhide HSHN _ hBa).mono ?_
                    rintro e wb ⟨rfl, HBb⟩
                    dsimp only
                    have hBb : Below wr.heap.size wr wb := hBa.trans (HBb.out.mono hBa.size)
                    refine hK.out _ _ (HSS.out _ hBb) (fun hHeld => ?_)
                    clear hK K
                    refine wpAnyH_take (i := 19) (oi := _) (v := .int .u64 (o : Int)) rfl (by kernel_rfl) (by kernel_rfl) (by kernel_rfl) (fun _ _ _ h => h) (Or.inl ⟨by kernel_rfl, fun w _ => by go_simp; simp [IntKind.wrap, IntKind.bits, IntKind.signed]; omega⟩) hHeld ?_
                    simp only [Act.put, List.getElem_toArray, List.getElem_cons_succ, List.getElem_cons_zero, List.setIfInBounds_toArray, List.set_cons_succ, List.set_cons_zero]
                    refine wpAnyH_ready (rs := [20]) (by kernel_rfl) (by simp) ?_
                    refine AllReadyH.cons (o := _) rfl (fun K hK => ?_) AllReadyH.nil
                    rw [if_pos (by rfl)]
                    go_simp
                    go_at_call 21
                    refine (ones_any o _ ho8).mono ?_
                    rintro e wz ⟨rfl, hwz⟩
                    subst wz
                    dsimp only
                    refine hK.out _ _ (HSS.out _ hBb) (fun hHeld => ?_)
                    clear hK K
                    have hpp : ((pop 8 o : Nat) : Int) ≤ (L.n : Int) := by omega
                    refine wpAnyH_take (i := 27) (oi := _) (v := .bool true) rfl (by kernel_rfl) (by kernel_rfl) (by kernel_rfl) (fun _ _ _ h => h) (Or.inl ⟨by kernel_rfl, fun w _ => by go_simp⟩) hHeld ?_
                    simp only [Act.put, List.getElem_toArray, List.getElem_cons_succ, List.getElem_cons_zero, List.setIfInBounds_toArray, List.set_cons_succ, List.set_cons_zero]
                    refine wpAnyH_take (i := 28) (oi := _) (v := .bool true) rfl (by kernel_rfl) (by kernel_rfl) (by kernel_rfl) (fun _ _ _ h => h) (Or.inl ⟨by kernel_rfl, fun w _ => by go_simp⟩) hHeld ?_
                    simp only [Act.put, List.getElem_toArray, List.getElem_cons_succ, List.getElem_cons_zero, List.setIfInBounds_toArray, List.set_cons_succ, List.set_cons_zero]
                    refine wpAnyH_take (i := 29) (oi := _) (v := .bool true) rfl (by kernel_rfl) (by kernel_rfl) (by kernel_rfl) (fun _ _ _ h => h) (Or.inl ⟨by kernel_rfl, fun w _ => by go_simp⟩) hHeld ?_
                    simp only [Act.put, List.getElem_toArray, List.getElem_cons_succ, List.getElem_cons_zero, List.setIfInBounds_toArray, List.set_cons_succ, List.set_cons_zero]
                    refine wpAnyH_done (by kernel_rfl) ?_ _
                    go_wp2_with fail
                    go_ret
                    exact ⟨rfl, HBWW.out.trans (hBb.mono HBWW.out.size)⟩
end Go.Proofs.YtaablbmgagiajabGreatDoor

namespace Go.Proofs.YtaablbmgagiajabGreatDoor
open Go.ChangeShapes Go.WideShapes Go.ChangeAt Go.RowKit Go.Joins

set_option maxRecDepth 10000 in
/-- An input, as it is handed in. -/
theorem open_in {H : Type} {enc : TypeId × Value → H} {W : World} {base b0 : Nat} {spare : Nat → Bool} {held : Bool} {r : Reach} {v : Value} {d : DataW H} {p : List MemPlace} (hv : Value.okWide Tryz.prog W r b0 31 v)
    (h : DataW.Trod enc Tryz.prog W base spare held 31 v d p) : ∃ ix iy : Int, v = .agg #[.int .i64 ix, .int .i64 iy] := by
  have c2 : Tryz.prog.cellsOf 31 = 2 := by kernel_rfl
  have c1 : Tryz.prog.cellsOf 3 = 1 := by kernel_rfl
  obtain ⟨cs, rfl, hsz⟩ := okWide_struct Tryz.underlying31 hv
  rw [c2] at hsz
  obtain ⟨fuel, hf⟩ := h
  obtain ⟨xs, n, _, _, _, hlen, hx⟩ := DataW.trod_struct Tryz.underlying31 hf
  have hl2 : xs.length = 2 := hlen
  obtain ⟨y0, y1, rfl⟩ := two hl2
  have h0 : DataW.trod enc Tryz.prog W base spare held n 3 ((cs.toList.drop 0).take (Tryz.prog.cellsOf 3)) = some y0 := hx 0 _ rfl
  have h1 : DataW.trod enc Tryz.prog W base spare held n 3 ((cs.toList.drop 1).take (Tryz.prog.cellsOf 3)) = some y1 := hx 1 _ rfl
  rw [c1] at h0 h1
  obtain ⟨z0, e0, _, _⟩ := DataW.trod_int Tryz.underlying3 h0
  obtain ⟨z1, e1, _, _⟩ := DataW.trod_int Tryz.underlying3 h1
  obtain ⟨l⟩ := cs
  match l, hsz with
  | [u, v], _ =>
    simp at e0 e1
    rw [e0, e1]
    exact ⟨z0, z1, rfl⟩
/-- Whoever is alone at the return leaves nobody behind. -/
theorem leaving_of_alone {P : Program} {last : Machine} {w : World} {t : Trace} (h : aloneAtReturn P last w t) : leavingAtReturn P last w t := by
  obtain ⟨⟨h1, h2⟩, h3, h4⟩ := h
  refine ⟨h3, ⟨fun g hg => ⟨0, ?_⟩, h2⟩, h4⟩
  have := List.all_eq_true.1 h1 g hg
  exact eq_of_beq this
theorem leaving_of_handed {a : Assume} {C : Checked} {os : Os} {f : FuncId} {r : Reach} {Pre : World → Array Value → Prop} {Post : World → Array Value → Value → World → Prop} (h : ReturnsInHanded a C os f r Pre Post) : ReturnsInLeavingWide a C os f r Pre Post := fun enter => by
  obtain ⟨g0, g1, g2, g3, all1⟩ := h enter
  refine ⟨g0, g1, g2, g3, fun w tape i hf => ?_⟩
  obtain ⟨n, v, w', hn, hc, hr, hp, ⟨j, last, hj, hs, hq⟩, ha⟩ := all1 w tape i hf
  exact ⟨n, v, w', hn, hc, hr, hp, ⟨j, last, hj, hs, leaving_of_alone hq⟩, ha⟩

theorem own : ownKnob Tryz.prog.godebug = none := by kernel_rfl
theorem laidOut : laidOutB Tryz.prog = true := by kernel_rfl
theorem tabG : Tryz.prog.globalNamed "math/bits.deBruijn32tab" = some 1 := by kernel_rfl
theorem tabT : (Tryz.prog.globals[1]?).map (·.type) = some 276 := by kernel_rfl
theorem tabN : Tryz.prog.cellsOf 276 = 32 := by kernel_rfl
theorem byteN : Tryz.prog.cellsOf 5 = 1 := by kernel_rfl
/-- The listed variable's cells. -/
theorem hasTab_of_laid {W : World} (h : laidMetH Tryz.prog Rows.systemCalmRow.laid W) : HasTab W := by
  rw [Go.MakeChecks.laidMetH_plain _ _ _ (by kernel_rfl)] at h
  obtain ⟨ps, hv, _⟩ := h
  obtain ⟨g, t, cs, fuel, p, q, h1, h2, h3, h4, _, _⟩ := hv
  obtain rfl := Option.some.inj (tabG.symm.trans h1)
  obtain rfl := Option.some.inj (tabT.symm.trans h2)
  have hcs := Go.Lib.cells_of_tab (zs := tabL.map fun (z : Nat) => (z : Int)) (k := .u8) Tryz.underlying276 Tryz.underlying5 byteN tabN h4
  intro k hk
  have := World.var?_cell tabG h3 k
  rw [this, ← Array.getElem?_toList, hcs]
  rw [List.getElem?_map, List.getElem?_map, List.getElem?_eq_getElem (show k < tabL.length from hk)]
  rfl
/-- A world that meets the condition: the settled one, the variable's cells laid. -/
theorem laidWorld_met (os : Os) (args : Array Value) : laidMetH Tryz.prog Rows.systemCalmRow.laid ((({ World.holding Tryz.prog os ⟨#[], #[], []⟩ with heap := (World.holding Tryz.prog os ⟨#[], #[], []⟩).heap.modify 1 fun | .cells _ t frozen => .cells (tabL.map fun (z : Nat) => Value.int .u8 (z : Int)).toArray t frozen | o => o } : World)).forCall (fun _ _ => 0) ⟨#[], args, []⟩).memory := by
  rw [Go.MakeChecks.laidMetH_plain _ _ _ (by kernel_rfl)]
  exact laidMet_of_run' 8 (by kernel_rfl) (by kernel_rfl)

set_option maxRecDepth 100000 in
theorem systemCalm_lifted (os : Os) (started : os.Started) (H : Type) (enc : TypeId × Value → H) :
    ReturnsInHanded {} Tryz.checked os 4 .any (fun w args => (Rows.systemCalmSpec.pre enc Tryz.prog Tryz.f4 [] false w args ∧ laidMetH Tryz.prog Rows.systemCalmRow.laid w) ∧ sizedMet enc Tryz.prog Tryz.f4 (OpenSpec.ofChange Rows.systemCalmSpec) false w args)
      (Rows.systemCalmSpec.post enc Tryz.prog Tryz.f4 false true false false) := by
  refine returnsInHanded_of_change_and (C := Tryz.checked) (X := fun w _ => laidMetH Tryz.prog Rows.systemCalmRow.laid w) (fun _ _ _ hh h => h.of_heap hh) own started (by kernel_rfl) Tryz.func4
    (ChangeSpec.witness_at (enc := enc) (C := Tryz.checked) (os := os) (X := fun w _ => laidMetH Tryz.prog Rows.systemCalmRow.laid w) false ({ World.holding Tryz.prog os ⟨#[], #[], []⟩ with heap := (World.holding Tryz.prog os ⟨#[], #[], []⟩).heap.modify 1 fun | .cells _ t frozen => .cells (tabL.map fun (z : Nat) => Value.int .u8 (z : Int)).toArray t frozen | o => o } : World) #[.int .i64 0, .int .i64 0, .slice none 0 0, .slice none 0 0, .agg #[.int .i64 0, .int .i64 0]] 8 rfl (by kernel_rfl) (by kernel_rfl) (by kernel_rfl) (by kernel_rfl) (by kernel_rfl) (laidWorld_met os _)) ?_
  intro W base args ds gs before hval0 hW _ _ hL _
  have hval : ∀ (j : Nat) t v, Tryz.f4.params[j]? = some t → args[j]? = some v → Value.okWide Tryz.prog W .any base t v := hval0
  have hW' := hW
  obtain ⟨p, q, hA0, hV, rfl, hfz, hnd⟩ := hW
  have hA : DataW.TrodAll enc Tryz.prog W 0 (fun _ => true) true Tryz.f4.params.toList args.toList ds p := hA0
  rw [Tryz.params4] at hA hval
  obtain ⟨v0, vs0, d0, ds0, p0, q0, hargs, rfl, rfl, h0, r0⟩ := trodAll_cons hA
  obtain ⟨v1, vs1, d1, ds1, p1, q1, rfl, rfl, rfl, h1, r1⟩ := trodAll_cons r0
  obtain ⟨v2, vs2, d2, ds2, p2, q2, rfl, rfl, rfl, h2, r2⟩ := trodAll_cons r1
  obtain ⟨v3, vs3, d3, ds3, p3, q3, rfl, rfl, rfl, h3, r3⟩ := trodAll_cons r2
  obtain ⟨v4, vs4, d4, ds4, p4, q4, rfl, rfl, rfl, h4, r4⟩ := trodAll_cons r3
  obtain ⟨rfl, rfl, rfl⟩ := trodAll_nil r4
  obtain rfl : args = #[v0, v1, v2, v3, v4] := by cases args; simp_all
  obtain ⟨rfl, rfl⟩ := trodVars_none hV
  have k0 := h0
  have lt0 : ∀ x ∈ p0, x.block < W.heap.size := by obtain ⟨m, hm⟩ := k0; exact DataW.trod_lt m _ _ _ hm
  have k1 := h1
  have lt1 : ∀ x ∈ p1, x.block < W.heap.size := by obtain ⟨m, hm⟩ := k1; exact DataW.trod_lt m _ _ _ hm
  have k2 := h2
  have lt2 : ∀ x ∈ p2, x.block < W.heap.size := by obtain ⟨m, hm⟩ := k2; exact DataW.trod_lt m _ _ _ hm
  have k3 := h3
  have lt3 : ∀ x ∈ p3, x.block < W.heap.size := by obtain ⟨m, hm⟩ := k3; exact DataW.trod_lt m _ _ _ hm
  have k4 := h4
  have lt4 : ∀ x ∈ p4, x.block < W.heap.size := by obtain ⟨m, hm⟩ := k4; exact DataW.trod_lt m _ _ _ hm
  obtain ⟨x0, rfl⟩ := okWide_int Tryz.underlying3 (hval 0 3 v0 rfl rfl)
  obtain ⟨x1, rfl⟩ := okWide_int Tryz.underlying3 (hval 1 3 v1 rfl rfl)
  obtain ⟨a2, len2, cap2, rfl⟩ := okWide_slice Tryz.underlying22 (hval 2 22 v2 rfl rfl)
  have o2 : len2 ≤ maxLen ∧ ∀ i, i < len2 → ∃ b off z, a2 = some ⟨b, off, none⟩ ∧ b < W.heap.size ∧ W.cell? ⟨b, off + i, none⟩ = some (.int .i64 z) := by
    obtain ⟨fuel, hf⟩ := h2
    rcases open_ints Tryz.underlying22 Tryz.underlying3 (by kernel_rfl) hf with ⟨hcs, _⟩ | ⟨x, l, c, zs, hcs, _, hl, hm, hz, _, hcell, hwz⟩
    · simp [Value.cells] at hcs
      obtain ⟨rfl, rfl, rfl⟩ := hcs
      exact ⟨by unfold maxLen; omega, fun i hi => by omega⟩
    · simp [Value.cells] at hcs
      obtain ⟨rfl, rfl, rfl⟩ := hcs
      refine ⟨by omega, fun i hi => ?_⟩
      have hzl : i < zs.length := by rw [hz]; split <;> omega
      obtain ⟨b, off, rfl, hc⟩ := ints_at hcell (by omega)
      exact ⟨b, off, _, rfl, World.block_lt_of_cell? _ _ (hc 0 (by omega)), hc i hzl⟩
  obtain ⟨a3, len3, cap3, rfl⟩ := okWide_slice Tryz.underlying23 (hval 3 23 v3 rfl rfl)
  have o3 : len3 ≤ maxLen ∧ StepAt W a3 len3 := by obtain ⟨fuel, hf⟩ := h3; exact open_steps hf
  obtain ⟨ix, iy, rfl⟩ := open_in (hval 4 31 v4 rfl rfl) h4
  have hg := hasTab_of_laid hL
  have hpos : 0 < W.heap.size := Nat.lt_of_le_of_lt (Nat.zero_le _) (World.block_lt_of_cell? _ _ (hg 0 (by decide)))
  clear hA0 hval0
  refine (scalm_any x0 x1 a2 len2 cap2 a3 len3 cap3 ix iy W o2.1 o2.2 o3.2 o3.1 hg hpos).mono fun e W' ⟨he, bel⟩ => ?_
  subst he
  exact ⟨_, rfl, _, _, _, [], _, [], hW', trodAll_mk1 (shut_bool Tryz.underlying4 _), (trodAll_cons_mk (Below.trod laidOut (by kernel_rfl) (of_decide_eq_true (by kernel_rfl)) k0 bel lt0) (trodAll_cons_mk (Below.trod laidOut (by kernel_rfl) (of_decide_eq_true (by kernel_rfl)) k1 bel lt1) (trodAll_cons_mk (Below.trod laidOut (by kernel_rfl) (of_decide_eq_true (by kernel_rfl)) k2 bel lt2) (trodAll_cons_mk (Below.trod laidOut (by kernel_rfl) (of_decide_eq_true (by kernel_rfl)) k3 bel lt3) (trodAll_cons_mk (Below.trod laidOut (by kernel_rfl) (of_decide_eq_true (by kernel_rfl)) k4 bel lt4) trodAll_mk0))))), rfl, bel.frame _, fun h => by cases h⟩

theorem systemCalm_said : Rows.SystemCalmSaid :=
  OpenClaim.holds_of_wide_leaving 4 Tryz.f4 rfl rfl rfl rfl rfl rfl rfl ⟨rfl, rfl, rfl, rfl, rfl⟩ rfl rfl rfl rfl rfl (by kernel_rfl) Tryz.func4 (by kernel_rfl)
    (of_decide_eq_true (by kernel_rfl)) (by unfold Func.isWrapper; rw [if_neg (of_decide_eq_false (by kernel_rfl))]; exact ⟨rfl, rfl⟩)
    (fun os started H enc _ => leaving_of_handed (systemCalm_lifted os started H enc))

theorem systemCalm_plain (f : FuncId) (fn : Func) (hf : Tryz.pinned.checked.prog.funcNamed "triumvir/triumvirkeep.SystemCalm" = some f) (hfn : Tryz.pinned.checked.prog.funcs[f]? = some fn) :
    true = Tryz.pinned.checked.prog.looks [] ∧ ∀ (j : Nat) t, fn.params[j]? = some t → Tryz.pinned.checked.prog.wantsStandIn t = false := by
  obtain rfl : f = 4 := Option.some.inj ((show Tryz.prog.funcNamed "triumvir/triumvirkeep.SystemCalm" = some 4 by kernel_rfl).symm.trans hf) |>.symm
  obtain rfl : fn = Tryz.f4 := (Option.some.inj (Tryz.func4.symm.trans hfn)).symm
  refine ⟨by kernel_rfl, fun j t ht => ?_⟩
  rw [Tryz.params4] at ht
  rcases j with _ | _ | _ | _ | _ | j
  · obtain rfl : 3 = t := by simpa using ht
    exact (show Tryz.prog.wantsStandIn 3 = false by kernel_rfl)
  · obtain rfl : 3 = t := by simpa using ht
    exact (show Tryz.prog.wantsStandIn 3 = false by kernel_rfl)
  · obtain rfl : 22 = t := by simpa using ht
    exact (show Tryz.prog.wantsStandIn 22 = false by kernel_rfl)
  · obtain rfl : 23 = t := by simpa using ht
    exact (show Tryz.prog.wantsStandIn 23 = false by kernel_rfl)
  · obtain rfl : 31 = t := by simpa using ht
    exact (show Tryz.prog.wantsStandIn 31 = false by kernel_rfl)
  · simp at ht

/-- The statement. -/
theorem systemCalm_holds : Rows.SystemCalmCardSaid :=
  ⟨Claim7.tied_new_at .later [.data] true (Claim7.new_of_sixth systemCalm_said Rows.systemCalmCard.stood.harness true rfl ⟨rfl, rfl⟩ (by kernel_rfl) (by kernel_rfl) systemCalm_plain) (by kernel_rfl), fun _ hD => (by cases hD), systemCalm_row_tie, fun h => (by cases h), by kernel_rfl⟩
#print axioms systemCalm_holds
end Go.Proofs.YtaablbmgagiajabGreatDoor
