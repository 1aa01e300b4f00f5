import Derived.Test.YtaablbmgagiajabGreatDoorGAN
import Derived.Test.YtaablbmgagiajabGreatDoorGAO
import Derived.Test.YtaablbmgagiajabGreatDoorMost
import Derived.Deep.QuietTactic
import Derived.BigQuiet
/- The session of DeskSees: its lines and their words. -/
namespace Go.Proofs.YtaablbmgagiajabGreatDoor
open Go.RowKit Go.Deep

def seeL (k c v : Nat) : List UInt8 := [115, 101, 101, 32] ++ Lib.itoa (k : Int) ++ [32] ++ Lib.itoa (c : Int) ++ [32] ++ Lib.itoa (v : Int)
def calmL (r : Nat) : List UInt8 := [99, 97, 108, 109, 32] ++ Lib.itoa (r : Int)
def wSee : List UInt8 := [115, 101, 101]
def wCalm : List UInt8 := [99, 97, 108, 109]
def wTrace : List UInt8 := [116, 114, 97, 99, 101]
def t1 (c v r : Nat) : List UInt8 := seeL 0 c v ++ [10] ++ (seeL 1 c v ++ [10] ++ (seeL 2 c v ++ [10] ++ (calmL r ++ [10] ++ wTrace)))
theorem splitNl_app (l r : List UInt8) (h : (10 : UInt8) ∉ l) : splitNl (l ++ 10 :: r) = l :: splitNl r := by
  induction l with
  | nil => simp [splitNl]
  | cons c l ih =>
    have hc : c ≠ 10 := fun e => h (by simp [e])
    have := ih (fun hm => h (by simp [hm]))
    simp [splitNl, hc, this]
theorem splitNl_one (l : List UInt8) (h : (10 : UInt8) ∉ l) : splitNl l = [l] := by
  induction l with
  | nil => simp [splitNl]
  | cons c l ih =>
    have hc : c ≠ 10 := fun e => h (by simp [e])
    have := ih (fun hm => h (by simp [hm]))
    simp [splitNl, hc, this]
theorem see_facts : ∀ k : Fin 3, ∀ c : Fin 16, ∀ v : Fin 8, wordsF (seeL k c v) = [wSee, Lib.itoa (k : Nat), Lib.itoa (c : Nat), Lib.itoa (v : Nat)] ∧ sayF [Lib.itoa (k : Nat), Lib.itoa (c : Nat), Lib.itoa (v : Nat)] = some [((k : Nat) : Int), ((c : Nat) : Int), ((v : Nat) : Int)] ∧ (10 : UInt8) ∉ seeL k c v ∧ (seeL k c v).length ≤ 20 := of_decide_eq_true (by kernel_rfl)
theorem calm_facts : ∀ r : Fin 8, wordsF (calmL r) = [wCalm, Lib.itoa (r : Nat)] ∧ sayF [Lib.itoa (r : Nat)] = some [((r : Nat) : Int)] ∧ (10 : UInt8) ∉ calmL r ∧ (calmL r).length ≤ 20 := of_decide_eq_true (by kernel_rfl)
theorem words_trace : wordsF wTrace = [wTrace] := by decide
end Go.Proofs.YtaablbmgagiajabGreatDoor

/- What the law's own run comes to: plain facts. -/
namespace Go.Proofs.YtaablbmgagiajabGreatDoor
open Go.RowKit Go.Deep

def rL : RC := ⟨4, 2, 3, [3, 12, 6], 0, 0, 0, 0, 0, 0⟩
theorem rL_ok : LOk rL := ⟨by decide +kernel, rfl⟩
def rD : Cm := ⟨15, 5, 1⟩
theorem ran_out0 : outOf rL st0 15 5 = 1 := by decide +kernel
theorem ran_out1 : outOf rL (inSt rL st0 15 5) 15 5 = 1 := by decide +kernel
def seeTo : Nat → SY
  | 0 => sy0 10
  | k + 1 => seeSy k 15 5 (seeTo k)
abbrev WT : Seen := fun _ _ _ _ => True
theorem seeTo_inv : ∀ k, k ≤ 3 → SInv rL WT 3 10 0 (seeTo k)
  | 0, _ => SInv.new (by decide) (by decide)
  | k + 1, hk => (seeTo_inv k (by omega)).see (by omega) 15 5
theorem seeTo_cl : ClInv rL WT 3 10 0 (seeTo 3) := ⟨seeTo_inv 3 (Nat.le_refl _), fun _ _ _ _ _ => ⟨fun _ _ => trivial, fun _ _ => trivial⟩⟩
def Sees15 (S : SY) : Prop := ∀ r, r < 3 → (S.rp r).sx = 15 ∧ (S.rp r).sy = 5
def RanP (i : Nat) (S : SY) : Prop := Sees15 S ∧ ((i = 0 ∧ AllFresh S ∧ S.v.tr = []) ∨ (i = 1 ∧ Mid rL S ∧ S.v.tr = []) ∨ (i = 2 ∧ AllFresh S ∧ S.v.tr = [rD]) ∨ (i = 3 ∧ Mid rL S ∧ S.v.tr = [rD]) ∨ (i = 4 ∧ S.v.tr = [rD, rD]) ∨ 5 ≤ i)
theorem ran_want {S : SY} (h : Sees15 S) : wantC rL S = 15 ∧ wantV rL S = 5 := by
  unfold wantC wantV
  rw [(h 0 (by omega)).1, (h 1 (by omega)).1, (h 2 (by omega)).1, (h 0 (by omega)).2, (h 1 (by omega)).2, (h 2 (by omega)).2]
  decide
theorem ran_half {i T : Nat} {S S' : SY} (h0 : SInv rL WT 3 10 T S) (hp : RanP i S) (h : Half rL WT 10 (T + 3) (ticksSy rL S) S') : RanP (i + 1) S' := by
  obtain ⟨hs, hp⟩ := hp
  have hw := ran_want hs
  refine ⟨fun r hr => by have := h.want r hr; exact ⟨this.1.trans (hs r hr).1, this.2.trans (hs r hr).2⟩, ?_⟩
  rcases hp with ⟨rfl, hf, ht⟩ | ⟨rfl, hm, ht⟩ | ⟨rfl, hf, ht⟩ | ⟨rfl, hm, ht⟩ | ⟨rfl, _⟩ | h5
  · obtain ⟨e, hm⟩ := h.fresh h0 hf
    exact .inr (.inl ⟨rfl, hm, e.trans ht⟩)
  · obtain ⟨hf, e⟩ := h.mid h0 hm
    refine .inr (.inr (.inl ⟨rfl, hf, ?_⟩))
    rw [e, ht]
    unfold wantD
    rw [hw.1, hw.2, ht, show outOf rL (stAt rL [] [].length) ((15 : Nat) : Int) ((5 : Nat) : Int) = 1 from ran_out0]
    rfl
  · obtain ⟨e, hm⟩ := h.fresh h0 hf
    exact .inr (.inr (.inr (.inl ⟨rfl, hm, e.trans ht⟩)))
  · obtain ⟨_, e⟩ := h.mid h0 hm
    refine .inr (.inr (.inr (.inr (.inl ⟨rfl, ?_⟩))))
    rw [e, ht]
    unfold wantD
    rw [hw.1, hw.2, ht, show outOf rL (stAt rL [rD] [rD].length) ((15 : Nat) : Int) ((5 : Nat) : Int) = 1 from ran_out1]
    rfl
  · exact .inr (.inr (.inr (.inr (.inr (by omega)))))
  · exact .inr (.inr (.inr (.inr (.inr (by omega)))))
theorem ran_tick {i : Nat} {S : SY} (hp : RanP i S) : RanP i (vtickSy S) := by
  obtain ⟨hs, hp⟩ := hp
  have e := vtick_tr S
  have hf : AllFresh S → AllFresh (vtickSy S) := fun h r hr => by
    have := h r hr
    exact ⟨by rw [e]; exact this.cyc, this.ticks, this.smp⟩
  have hm : Mid rL S → Mid rL (vtickSy S) := fun h r hr => by
    have := h r hr
    rw [e]; exact this
  refine ⟨hs, ?_⟩
  rw [e]
  rcases hp with ⟨h1, h2, h3⟩ | ⟨h1, h2, h3⟩ | ⟨h1, h2, h3⟩ | ⟨h1, h2, h3⟩ | h | h
  · exact .inl ⟨h1, hf h2, h3⟩
  · exact .inr (.inl ⟨h1, hm h2, h3⟩)
  · exact .inr (.inr (.inl ⟨h1, hf h2, h3⟩))
  · exact .inr (.inr (.inr (.inl ⟨h1, hm h2, h3⟩)))
  · exact .inr (.inr (.inr (.inr (.inl h))))
  · exact .inr (.inr (.inr (.inr (.inr h))))
theorem ran_calm {S' : SY} (h : calmTo rL 10 2 (seeTo 3) S') : S'.v.tr = [rD, rD] ∧ S'.v.lat = false := by
  have hst : Stand rL WT 10 0 3 (seeTo 3) := ⟨seeTo_inv 3 (Nat.le_refl _), rfl, rfl, by show 3 ≤ 10; omega, by omega⟩
  have hp : RanP 0 (seeTo 3) := by
    refine ⟨fun r hr => ?_, .inl ⟨rfl, fun r hr => ?_, rfl⟩⟩
    · rcases (by omega : r = 0 ∨ r = 1 ∨ r = 2) with rfl | rfl | rfl <;> exact ⟨rfl, rfl⟩
    · rcases (by omega : r = 0 ∨ r = 1 ∨ r = 2) with rfl | rfl | rfl <;> exact ⟨rfl, rfl, rfl⟩
  obtain ⟨⟨_, q⟩, s, _⟩ := rounds rL_ok (fun _ _ _ _ => trivial) (fun i S S' T h0 _ hp h => ran_half h0 hp h) (fun i S hp => ran_tick hp) 2 0 0 (seeTo 3) S' hst (by show 0 + 2 * 2 < 1000; omega) hp h
  refine ⟨?_, s.lat⟩
  rcases q with q | q | q | q | q | q
  · omega
  · omega
  · omega
  · omega
  · exact q.2
  · omega
end Go.Proofs.YtaablbmgagiajabGreatDoor

/- The session of DeskSees: what each line makes of a system, and what it answers. -/
namespace Go.Proofs.YtaablbmgagiajabGreatDoor
open Go.RowKit Go.Deep
variable {c v r : Nat}

/-- One line. -/
def StepS (c v r : Nat) (x : List UInt8) (S S' : SY) (s : List UInt8) : Prop :=
  (∃ k, k < 3 ∧ x = seeL k c v ∧ S' = seeSy k (c : Int) (v : Int) S ∧ s = wSee) ∨ (x = calmL r ∧ calmTo L0 10 r S S' ∧ s = wCalm) ∨ (x = wTrace ∧ S' = S ∧ s = traceF S.v.tr)
/-- Some lines. -/
def RunS (c v r : Nat) : List (List UInt8) → SY → List UInt8 → SY → List UInt8 → Prop
  | [], S, l, S', l' => S' = S ∧ l' = l
  | x :: xs, S, l, S', l' => ∃ S1 s, StepS c v r x S S1 s ∧ RunS c v r xs S1 (l ++ s ++ [10]) S' l'
theorem RunS.snoc : ∀ {xs : List (List UInt8)} {S S1 S2 : SY} {l l1 s x : List UInt8}, RunS c v r xs S l S1 l1 → StepS c v r x S1 S2 s → RunS c v r (xs ++ [x]) S l S2 (l1 ++ s ++ [10])
  | [], _, _, _, _, _, _, _, ⟨e1, e2⟩, hs => by subst e1 e2; exact ⟨_, _, hs, rfl, rfl⟩
  | _ :: _, _, _, _, _, _, _, _, ⟨S', s', h1, h2⟩, hs => ⟨S', s', h1, RunS.snoc h2 hs⟩
theorem lines_t1 (hc : c < 16) (hv : v < 8) (hr : r < 8) : linesOf (t1 c v r) = [seeL 0 c v, seeL 1 c v, seeL 2 c v, calmL r, wTrace] := by
  have h0 : (10 : UInt8) ∉ seeL 0 c v := (see_facts 0 ⟨c, hc⟩ ⟨v, hv⟩).2.2.1
  have h1 : (10 : UInt8) ∉ seeL 1 c v := (see_facts 1 ⟨c, hc⟩ ⟨v, hv⟩).2.2.1
  have h2 : (10 : UInt8) ∉ seeL 2 c v := (see_facts 2 ⟨c, hc⟩ ⟨v, hv⟩).2.2.1
  have h3 : (10 : UInt8) ∉ calmL r := (calm_facts ⟨r, hr⟩).2.2.1
  have e : Lib.trimSuffix (t1 c v r) [10] = t1 c v r := by
    unfold Lib.trimSuffix
    rw [if_neg]
    simp [Lib.hasSuffix, List.isSuffixOf, t1, wTrace]
  unfold linesOf
  rw [e]
  unfold t1
  rw [List.append_assoc, List.singleton_append, splitNl_app _ _ h0, List.append_assoc, List.singleton_append, splitNl_app _ _ h1, List.append_assoc, List.singleton_append, splitNl_app _ _ h2, List.append_assoc, List.singleton_append, splitNl_app _ _ h3, splitNl_one wTrace (by decide)]
structure InS (T : Nat) (S : SY) : Prop where
  cl : ClInv L0 WT 3 10 T S
  net : S.net = []
theorem clWT {T : Nat} {S : SY} (h : SInv L0 WT 3 10 T S) : ClInv L0 WT 3 10 T S := ⟨h, fun _ _ _ _ _ => ⟨fun _ _ => trivial, fun _ _ => trivial⟩⟩
theorem InS.new : InS 0 (sy0 10) := ⟨clWT (SInv.new (by omega) (by omega)), rfl⟩
theorem InS.see {T k : Nat} {S : SY} (h : InS T S) (hk : k < 3) (x y : Int) : InS T (seeSy k x y S) := ⟨clWT (h.cl.inv.see hk x y), h.net⟩
theorem InS.calm {T n : Nat} {S S' : SY} (h : InS T S) (hc : calmTo L0 10 n S S') : InS (T + 6 * n) S' := ⟨ClInv.calm L0_ok n T S S' h.cl hc, calm_net n h.net hc⟩

theorem InS.few {T : Nat} {S : SY} (h : InS T S) : S.v.tr.length ≤ 1000 ∧ ∀ d ∈ S.v.tr, CmIn d := by
  refine ⟨h.cl.inv.vok.few, fun d hd => ?_⟩
  obtain ⟨i, hi, rfl⟩ := List.mem_iff_getElem.1 hd
  obtain ⟨x, y, e, h1, h2, _⟩ := h.cl.inv.tr i hi
  have ec : cmAt S.v.tr i = S.v.tr[i] := by unfold cmAt; rw [List.getElem?_eq_getElem hi]; rfl
  rw [ec] at e
  rw [e]
  have h3 : outOf L0 (stAt L0 S.v.tr i) (x : Int) (y : Int) < 2 ^ 3 := showTo_lt _ _ _ _ _ _ (by decide)
  have h1' : x < 16 := h1
  have h2' : y < 8 := h2
  have i1 : IntIn (x : Int) := intIn_small (by omega) (by omega)
  have i2 : IntIn (y : Int) := intIn_small (by omega) (by omega)
  have i3 : IntIn ((outOf L0 (stAt L0 S.v.tr i) (x : Int) (y : Int) : Nat) : Int) := intIn_small (by omega) (by omega)
  exact ⟨i1, i2, i3⟩
theorem trace_few {tr : List Cm} (h : tr.length ≤ 1000) (hin : ∀ d ∈ tr, CmIn d) : (traceF tr).length ≤ 100000 := by
  have hjs := join_short (tr.map cmT) [44, 32] 100 fun x hx => by
    obtain ⟨d, hd, rfl⟩ := List.mem_map.1 hx
    obtain ⟨q0, q1, q2⟩ := hin d hd
    have := join_few [d.c, d.v, d.o] (fun z hz => by
      simp only [List.mem_cons, List.not_mem_nil, or_false] at hz
      rcases hz with rfl | rfl | rfl
      · exact q0
      · exact q1
      · exact q2)
    unfold cmT
    simp at this ⊢
    omega
  rw [List.length_map] at hjs
  unfold traceF
  omega
/-- Behind so many lines. -/
def RelS (c v r : Nat) (pre : List {x : List UInt8 // x ∈ linesOf (t1 c v r)}) (S : SY) (l : List UInt8) : Prop :=
  RunS c v r (pre.map Subtype.val) (sy0 10) [] S l ∧ InS (42 * pre.length) S ∧ l.length ≤ 200000 * pre.length ∧ pre.length ≤ 5
theorem RelS.step {pre : List {x : List UInt8 // x ∈ linesOf (t1 c v r)}} {S S' : SY} {l s : List UInt8} (h : RelS c v r pre S l) (x : {x : List UInt8 // x ∈ linesOf (t1 c v r)}) (hs : StepS c v r x.1 S S' s) (hI : InS (42 * (pre.length + 1)) S') (hl : s.length ≤ 100000) (hp : pre.length < 5) : RelS c v r (pre ++ [x]) S' (l ++ s ++ [10]) := by
  obtain ⟨h1, _, h3, _⟩ := h
  refine ⟨?_, ?_, ?_, ?_⟩
  · rw [List.map_append]
    exact h1.snoc hs
  · rw [List.length_append]; exact hI
  · simp only [List.length_append, List.length_cons, List.length_nil]; omega
  · simp only [List.length_append, List.length_cons, List.length_nil]; omega
theorem InS.le {T U : Nat} {S : SY} (h : InS T S) (hTU : T ≤ U) : InS U S := ⟨clWT (h.cl.inv.later hTU), h.net⟩
end Go.Proofs.YtaablbmgagiajabGreatDoor

/- The session of DeskSees. -/
namespace Go.Proofs.YtaablbmgagiajabGreatDoor
open Go.RowKit Go.Deep

set_option maxHeartbeats 1000000 in
theorem sees_ans {c v r : Nat} (hc : c < 16) (hv : v < 8) (hr : r < 8) : AnsOk (t1 c v r) (RelS c v r) := by
  rintro pre ⟨x, hx⟩ S l W N cc D hR hlen hdk
  have h5 : (linesOf (t1 c v r)).length = 5 := by rw [lines_t1 hc hv hr]; rfl
  have hp : pre.length < 5 := by omega
  have hI := hR.2.1
  have hin := hI.few
  have hx' := hx
  rw [lines_t1 hc hv hr] at hx'
  simp only [List.mem_cons, List.not_mem_nil, or_false] at hx'
  have see : ∀ k, k < 3 → x = seeL k c v → Calls Tryz.prog 61 #[.pointer (some ⟨cc.d, 0, none⟩), .string (txt x)] W fun e W' => ∃ s S' D', e = .returned (.string (txt s)) ∧ RelS c v r (pre ++ [⟨x, hx⟩]) S' (l ++ s ++ [10]) ∧ DkIs W' N cc D' L0 10 S' ∧ Mod W W' (Wr D) ∧ Gr W.heap.size D D' := by
    intro k hk e
    obtain ⟨f1, f2, _, f4⟩ := see_facts ⟨k, hk⟩ ⟨c, hc⟩ ⟨v, hv⟩
    refine (ans_does (fun S' => S' = seeSy k (c : Int) (v : Int) S) x wSee wSee _ hdk (by rw [e]; exact Nat.le_trans f4 (by decide)) (by rw [e]; exact f1) 3 3 154 _ rfl (by simp) (by simp) f2 (enters_of Tryz.func154 (by kernel_rfl) rfl) fun V M h hsl => ?_).mono ?_
    · have hrow : Row V M 0 [(k : Int), (c : Int), (v : Int)] := by
        rcases hsl.2.2 with e | ⟨b, o, e1, _, hr⟩
        · cases e
        · simp only [Option.some.injEq, Addr.mk.injEq] at e1
          obtain ⟨rfl, rfl, _⟩ := e1
          exact hr
      refine (see_ord V M 0 3 k (c : Int) (v : Int) h hk hrow).mono ?_
      rintro e V' ⟨rfl, hg⟩
      exact ⟨rfl, _, rfl, (hI.see hk _ _).net, hg⟩
    · rintro e W' ⟨rfl, S', rfl, D', g1, g2, g3⟩
      exact ⟨_, _, D', rfl, hR.step ⟨x, hx⟩ (.inl ⟨k, hk, e, rfl, rfl⟩) ((hI.see hk _ _).le (by omega)) (by decide) hp, g1, g2, g3⟩
  rcases hx' with e | e | e | e | e
  · exact see 0 (by omega) e
  · exact see 1 (by omega) e
  · exact see 2 (by omega) e
  · obtain ⟨f1, f2, _, f4⟩ := calm_facts ⟨r, hr⟩
    refine (ans_does (fun S' => calmTo L0 10 r S S') x wCalm wCalm _ hdk (by rw [e]; exact Nat.le_trans f4 (by decide)) (by rw [e]; exact f1) 1 1 144 _ rfl (by simp) (by simp) f2 (enters_of Tryz.func144 (by kernel_rfl) rfl) fun V M h hsl => ?_).mono ?_
    · have hrow : Row V M 0 [(r : Int)] := by
        rcases hsl.2.2 with e | ⟨b, o, e1, _, hr⟩
        · cases e
        · simp only [Option.some.injEq, Addr.mk.injEq] at e1
          obtain ⟨rfl, rfl, _⟩ := e1
          exact hr
      refine (calm_ord V M 0 1 r h (by omega) hrow hI.cl L0_ok (by omega)).mono ?_
      rintro e V' ⟨rfl, S', h1, h2, hg⟩
      exact ⟨rfl, S', h1, calm_net r hI.net h1, hg⟩
    · rintro e' W' ⟨rfl, S', hS', D', g1, g2, g3⟩
      exact ⟨_, _, D', rfl, hR.step ⟨x, hx⟩ (.inr (.inl ⟨e, hS', rfl⟩)) ((hI.calm hS').le (by omega)) (by decide) hp, g1, g2, g3⟩
  · refine (ans_tells x wTrace (traceF S.v.tr) [] hdk (by rw [e]; decide) (by rw [e]; exact words_trace) 0 0 157 [] rfl (by decide) (by decide) say_nil (enters_of Tryz.func157 (by kernel_rfl) rfl) fun V a h => trace_ord V a h hI.cl.inv.vok (by omega) hin.2).mono ?_
    rintro e' W' ⟨rfl, D', g1, g2, g3⟩
    exact ⟨_, _, D', rfl, hR.step ⟨x, hx⟩ (.inr (.inr ⟨e, rfl, rfl⟩)) (hI.le (by omega)) (trace_few hin.1 hin.2) hp, g1, g2, g3⟩

theorem itoa3 : ∀ k : Fin 3, (Lib.itoa ((k : Nat) : Int))[0]? = some (48 + UInt8.ofNat k) ∧ (Lib.itoa ((k : Nat) : Int)).length = 1 := of_decide_eq_true (by kernel_rfl)
theorem see_inj {k k' c v : Nat} (hk : k < 3) (hk' : k' < 3) (e : seeL k c v = seeL k' c v) : k = k' := by
  have h1 := (itoa3 ⟨k, hk⟩)
  have h2 := (itoa3 ⟨k', hk'⟩)
  have e4 := congrArg (fun l : List UInt8 => l[4]?) e
  have s1 : (seeL k c v)[4]? = some (48 + UInt8.ofNat k) := by
    unfold seeL
    simp only [List.append_assoc]
    rw [List.getElem?_append_right (by simp), List.getElem?_append_left (by rw [h1.2]; simp)]
    exact h1.1
  have s2 : (seeL k' c v)[4]? = some (48 + UInt8.ofNat k') := by
    unfold seeL
    simp only [List.append_assoc]
    rw [List.getElem?_append_right (by simp), List.getElem?_append_left (by rw [h2.2]; simp)]
    exact h2.1
  rw [s1, s2] at e4
  have hd : ∀ a b : Fin 3, some ((48 : UInt8) + UInt8.ofNat a) = some (48 + UInt8.ofNat b) → a = b := by decide
  exact congrArg Fin.val (hd ⟨k, hk⟩ ⟨k', hk'⟩ e4)
theorem see_ne_calm {k c v r : Nat} (e : seeL k c v = calmL r) : False := by
  have := congrArg List.head? e
  simp [seeL, calmL] at this
theorem see_ne_trace {k c v : Nat} (e : seeL k c v = wTrace) : False := by
  have := congrArg List.head? e
  simp [seeL, wTrace] at this
theorem calm_ne_trace {r : Nat} (e : calmL r = wTrace) : False := by
  have := congrArg List.head? e
  simp [calmL, wTrace] at this
theorem step_see {k c v r : Nat} {A A' : SY} {s : List UInt8} (hk : k < 3) (h : StepS c v r (seeL k c v) A A' s) : A' = seeSy k (c : Int) (v : Int) A ∧ s = wSee := by
  rcases h with ⟨k', hk', e, e1, e2⟩ | ⟨e, _⟩ | ⟨e, _⟩
  · obtain rfl := see_inj hk hk' e
    exact ⟨e1, e2⟩
  · exact (see_ne_calm e).elim
  · exact (see_ne_trace e).elim
theorem step_calm {c v r : Nat} {A A' : SY} {s : List UInt8} (h : StepS c v r (calmL r) A A' s) : calmTo L0 10 r A A' ∧ s = wCalm := by
  rcases h with ⟨k', hk', e, _⟩ | ⟨_, e1, e2⟩ | ⟨e, _⟩
  · exact (see_ne_calm e.symm).elim
  · exact ⟨e1, e2⟩
  · exact (calm_ne_trace e).elim
theorem step_trace {c v r : Nat} {A A' : SY} {s : List UInt8} (h : StepS c v r wTrace A A' s) : A' = A ∧ s = traceF A.v.tr := by
  rcases h with ⟨k', hk', e, _⟩ | ⟨e, _⟩ | ⟨_, e1, e2⟩
  · exact (see_ne_trace e.symm).elim
  · exact (calm_ne_trace e.symm).elim
  · exact ⟨e1, e2⟩
/-- What DeskSees's session answers. -/
theorem sees_session {c v r : Nat} (hc : c < 16) (hv : v < 8) (hr : r < 8) {Z : SY} (hZ : calmTo L0 10 r (seeSy 2 (c : Int) (v : Int) (seeSy 1 (c : Int) (v : Int) (seeSy 0 (c : Int) (v : Int) (sy0 10)))) Z) (w : World) (hn : HasNum w) (h7 : 7 ≤ w.heap.size) :
    Calls Tryz.prog 23 #[.string (txt (t1 c v r))] w fun e w' => e = .returned (.string (txt (wSee ++ [10] ++ wSee ++ [10] ++ wSee ++ [10] ++ wCalm ++ [10] ++ traceF Z.v.tr ++ [10]))) ∧ Below w.heap.size w w' := by
  have hlen : (t1 c v r).length ≤ 20000 := by
    have f0 : (seeL 0 c v).length ≤ 20 := (see_facts 0 ⟨c, hc⟩ ⟨v, hv⟩).2.2.2
    have f1 : (seeL 1 c v).length ≤ 20 := (see_facts 1 ⟨c, hc⟩ ⟨v, hv⟩).2.2.2
    have f2 : (seeL 2 c v).length ≤ 20 := (see_facts 2 ⟨c, hc⟩ ⟨v, hv⟩).2.2.2
    have f3 : (calmL r).length ≤ 20 := (calm_facts ⟨r, hr⟩).2.2.2
    unfold t1 wTrace
    simp only [List.length_append, List.length_cons, List.length_nil]
    omega
  refine (session_any (t1 c v r) w hlen hn h7 (RelS c v r) ⟨⟨rfl, rfl⟩, InS.new, by simp, by simp⟩ (fun pre S l h => ⟨h.2.1.net, by have := h.2.2.1; have := h.2.2.2; omega⟩) (sees_ans hc hv hr)).mono ?_
  rintro e w' ⟨⟨xs, S, l, hxs, hR, rfl⟩, hB⟩
  refine ⟨?_, hB⟩
  have hrun := hR.1
  rw [hxs, lines_t1 hc hv hr] at hrun
  obtain ⟨S1, s1, a1, S2, s2, a2, S3, s3, a3, S4, s4, a4, S5, s5, a5, rfl, rfl⟩ := hrun
  obtain ⟨rfl, rfl⟩ := step_see (by omega) a1
  obtain ⟨rfl, rfl⟩ := step_see (by omega) a2
  obtain ⟨rfl, rfl⟩ := step_see (by omega) a3
  obtain ⟨b4, rfl⟩ := step_calm a4
  obtain ⟨rfl, rfl⟩ := step_trace a5
  obtain rfl := calm_det r hZ b4
  simp
end Go.Proofs.YtaablbmgagiajabGreatDoor

/- digits, of small numbers. -/
namespace Go.Proofs.YtaablbmgagiajabGreatDoor
open Go.RowKit Go.Deep

theorem dig_small : ∀ n : Fin 10, Lib.itoa ((n : Nat) : Int) = [UInt8.ofNat (48 + n)] := of_decide_eq_true (by kernel_rfl)
set_option maxRecDepth 20000 in
set_option maxHeartbeats 1000000 in
theorem digits_one (n : Nat) (hn : n < 10) (w : World) : Calls Tryz.prog 26 #[.int .i64 (n : Int)] w fun e w' => e = .returned (.string (txt (Lib.itoa (n : Int)))) ∧ Below w.heap.size w w' := by
  have hc : n = 0 ∨ n = 1 ∨ n = 2 ∨ n = 3 ∨ n = 4 ∨ n = 5 ∨ n = 6 ∨ n = 7 ∨ n = 8 ∨ n = 9 := by omega
  have hd := dig_small ⟨n, hn⟩
  dsimp only at hd
  rw [hd]
  clear hd hn
  have hcv : ∀ q : UInt8, (convert 37 9 (.slice (some ⟨w.heap.size, 0, none⟩) 1 1)).run Tryz.prog (w.alloc (.cells #[.int .u8 (q.toNat : Int)] 5)) = .ok (.string (txt [q])) (w.alloc (.cells #[.int .u8 (q.toNat : Int)] 5)) := fun q =>
    run_convert_bytes_back _ 37 9 5 ⟨w.heap.size, 0, none⟩ 1 [q] Tryz.underlying37 Tryz.underlying5 Tryz.underlying9 (by
      intro i hi
      have h0 : i = 0 := by simpa using hi
      subst h0
      exact World.cell?_alloc_at _ _ _ _ rfl)
  have hB : ∀ o, Below w.heap.size w (w.alloc o) := fun o => (Below.refl _ _).alloc (Nat.le_refl _) _
  rcases hc with rfl | rfl | rfl | rfl | rfl | rfl | rfl | rfl | rfl | rfl
  · have hv : (convert 37 9 (.slice (some ⟨w.heap.size, 0, none⟩) 1 1)).run Tryz.prog (w.alloc (.cells #[.int .u8 48] 5)) = .ok (.string ⟨#[48]⟩) (w.alloc (.cells #[.int .u8 48] 5)) := hcv 48
    go_enter Tryz.func26, Tryz.ntmps26
    go_wp2
    go_ret
    exact ⟨rfl, hB _⟩
  · have hv : (convert 37 9 (.slice (some ⟨w.heap.size, 0, none⟩) 1 1)).run Tryz.prog (w.alloc (.cells #[.int .u8 49] 5)) = .ok (.string ⟨#[49]⟩) (w.alloc (.cells #[.int .u8 49] 5)) := hcv 49
    go_enter Tryz.func26, Tryz.ntmps26
    go_wp2
    go_ret
    exact ⟨rfl, hB _⟩
  · have hv : (convert 37 9 (.slice (some ⟨w.heap.size, 0, none⟩) 1 1)).run Tryz.prog (w.alloc (.cells #[.int .u8 50] 5)) = .ok (.string ⟨#[50]⟩) (w.alloc (.cells #[.int .u8 50] 5)) := hcv 50
    go_enter Tryz.func26, Tryz.ntmps26
    go_wp2
    go_ret
    exact ⟨rfl, hB _⟩
  · have hv : (convert 37 9 (.slice (some ⟨w.heap.size, 0, none⟩) 1 1)).run Tryz.prog (w.alloc (.cells #[.int .u8 51] 5)) = .ok (.string ⟨#[51]⟩) (w.alloc (.cells #[.int .u8 51] 5)) := hcv 51
    go_enter Tryz.func26, Tryz.ntmps26
    go_wp2
    go_ret
    exact ⟨rfl, hB _⟩
  · have hv : (convert 37 9 (.slice (some ⟨w.heap.size, 0, none⟩) 1 1)).run Tryz.prog (w.alloc (.cells #[.int .u8 52] 5)) = .ok (.string ⟨#[52]⟩) (w.alloc (.cells #[.int .u8 52] 5)) := hcv 52
    go_enter Tryz.func26, Tryz.ntmps26
    go_wp2
    go_ret
    exact ⟨rfl, hB _⟩
  · have hv : (convert 37 9 (.slice (some ⟨w.heap.size, 0, none⟩) 1 1)).run Tryz.prog (w.alloc (.cells #[.int .u8 53] 5)) = .ok (.string ⟨#[53]⟩) (w.alloc (.cells #[.int .u8 53] 5)) := hcv 53
    go_enter Tryz.func26, Tryz.ntmps26
    go_wp2
    go_ret
    exact ⟨rfl, hB _⟩
  · have hv : (convert 37 9 (.slice (some ⟨w.heap.size, 0, none⟩) 1 1)).run Tryz.prog (w.alloc (.cells #[.int .u8 54] 5)) = .ok (.string ⟨#[54]⟩) (w.alloc (.cells #[.int .u8 54] 5)) := hcv 54
    go_enter Tryz.func26, Tryz.ntmps26
    go_wp2
    go_ret
    exact ⟨rfl, hB _⟩
  · have hv : (convert 37 9 (.slice (some ⟨w.heap.size, 0, none⟩) 1 1)).run Tryz.prog (w.alloc (.cells #[.int .u8 55] 5)) = .ok (.string ⟨#[55]⟩) (w.alloc (.cells #[.int .u8 55] 5)) := hcv 55
    go_enter Tryz.func26, Tryz.ntmps26
    go_wp2
    go_ret
    exact ⟨rfl, hB _⟩
  · have hv : (convert 37 9 (.slice (some ⟨w.heap.size, 0, none⟩) 1 1)).run Tryz.prog (w.alloc (.cells #[.int .u8 56] 5)) = .ok (.string ⟨#[56]⟩) (w.alloc (.cells #[.int .u8 56] 5)) := hcv 56
    go_enter Tryz.func26, Tryz.ntmps26
    go_wp2
    go_ret
    exact ⟨rfl, hB _⟩
  · have hv : (convert 37 9 (.slice (some ⟨w.heap.size, 0, none⟩) 1 1)).run Tryz.prog (w.alloc (.cells #[.int .u8 57] 5)) = .ok (.string ⟨#[57]⟩) (w.alloc (.cells #[.int .u8 57] 5)) := hcv 57
    go_enter Tryz.func26, Tryz.ntmps26
    go_wp2
    go_ret
    exact ⟨rfl, hB _⟩
theorem dig_two : ∀ n : Fin 6, Lib.itoa ((10 + (n : Nat) : Nat) : Int) = Lib.itoa ((1 : Nat) : Int) ++ Lib.itoa ((n : Nat) : Int) ∧ (Lib.itoa ((n : Nat) : Int)).length = 1 := of_decide_eq_true (by kernel_rfl)
set_option maxRecDepth 20000 in
set_option maxHeartbeats 1000000 in
theorem digits_any (n : Nat) (hn : n < 16) (w : World) : Calls Tryz.prog 26 #[.int .i64 (n : Int)] w fun e w' => e = .returned (.string (txt (Lib.itoa (n : Int)))) ∧ Below w.heap.size w w' := by
  by_cases h : n < 10
  · exact digits_one n h w
  · obtain ⟨m, rfl⟩ := Nat.exists_eq_add_of_le (Nat.le_of_not_lt h)
    have hm : m < 6 := by omega
    obtain ⟨e1, e2⟩ := dig_two ⟨m, hm⟩
    dsimp only at e1 e2
    rw [e1]
    have H1 := hide (fun W => digits_one 1 (by omega) W)
    have H2 := hide (fun W => digits_one m (by omega) W)
    have hl : (Lib.itoa ((1 : Nat) : Int)).length = 1 := by decide +kernel
    have hni : ¬ 9223372036854775807 < (Lib.itoa ((1 : Nat) : Int)).length + (Lib.itoa ((m : Nat) : Int)).length := by omega
    clear e1 e2 hn h
    have hc : m = 0 ∨ m = 1 ∨ m = 2 ∨ m = 3 ∨ m = 4 ∨ m = 5 := by omega
    rcases hc with rfl | rfl | rfl | rfl | rfl | rfl
    all_goals
      go_enter Tryz.func26, Tryz.ntmps26
      go_wp2_with fail
      refine (H1.out _).mono ?_
      rintro e w1 ⟨rfl, hB1⟩
      go_wp2_with fail
      refine (H2.out _).mono ?_
      rintro e w2 ⟨rfl, hB2⟩
      go_wp2
      go_ret
      exact ⟨by rw [← txt_add]; rfl, hB1.trans (hB2.mono hB1.size)⟩
end Go.Proofs.YtaablbmgagiajabGreatDoor

/- The law's own texts. -/
namespace Go.Proofs.YtaablbmgagiajabGreatDoor
open Go.RowKit Go.Deep

theorem cmT_eq (d : Cm) : cmT d = Lib.itoa d.c ++ [32] ++ Lib.itoa d.v ++ [32] ++ Lib.itoa d.o := by
  unfold cmT spF
  simp [Lib.join, List.intercalate, List.intersperse]
theorem join_snoc (sep x : List UInt8) : ∀ (l : List (List UInt8)), l ≠ [] → Lib.join (l ++ [x]) sep = Lib.join l sep ++ sep ++ x
  | [], h => absurd rfl h
  | [a], _ => by simp [Lib.join, List.intercalate, List.intersperse]
  | a :: b :: l, _ => by
    have ih := join_snoc sep x (b :: l) (by simp)
    have e1 : Lib.join (a :: b :: l ++ [x]) sep = a ++ sep ++ Lib.join (b :: l ++ [x]) sep := by
      cases l <;> simp [Lib.join, List.intercalate, List.intersperse]
    have e2 : Lib.join (a :: b :: l) sep = a ++ sep ++ Lib.join (b :: l) sep := by
      cases l <;> simp [Lib.join, List.intercalate, List.intersperse]
    rw [e1, e2, ih]
    simp
theorem traceF_nil : traceF [] = [] := rfl
theorem traceF_one (d : Cm) : traceF [d] = cmT d := by simp [traceF, Lib.join, List.intercalate]
theorem traceF_snoc (l : List Cm) (d : Cm) (h : l ≠ []) : traceF (l ++ [d]) = traceF l ++ [44, 32] ++ cmT d := by
  unfold traceF
  rw [List.map_append]
  exact join_snoc _ _ _ (by simpa using h)
/-- The text of the first so many. -/
def seesT (c v : Nat) : Nat → List UInt8
  | 0 => []
  | k + 1 => seesT c v k ++ (seeL k c v ++ [10])
theorem seesT_t1 (c v r : Nat) : seesT c v 3 ++ [99, 97, 108, 109, 32] ++ Lib.itoa (r : Int) ++ [10, 116, 114, 97, 99, 101] = t1 c v r := by
  simp [seesT, t1, calmL, wTrace]
end Go.Proofs.YtaablbmgagiajabGreatDoor

/- The contract of triumvirkeep.laid: it says yes. -/
namespace Go.Proofs.YtaablbmgagiajabGreatDoor
open Go.RowKit Go.Deep

theorem laid_check : checkF 4 [3, 12, 6] 0 = (0, -1) := by decide +kernel
theorem laid_most : most (confs [3, 12, 6]) = 2 := by decide +kernel
theorem laid_conf0 : conf [3, 12, 6] 0 = 4 := by decide +kernel
theorem laid_conf1 : conf [3, 12, 6] 1 = 4 := by decide +kernel
theorem laid_conf2 : conf [3, 12, 6] 2 = 3 := by decide +kernel

theorem laid_row {w wx : World} (h : Below (w.heap.size + 1) (w.alloc (.cells #[.int .i64 3, .int .i64 12, .int .i64 6] 3)) wx) : Row wx w.heap.size 0 [3, 12, 6] := by
  intro k hk
  rw [h.cell (p := ⟨w.heap.size, 0 + k, none⟩) (Nat.lt_succ_self _)]
  match k, hk with
  | 0, _ => simp
  | 1, _ => simp
  | 2, _ => simp

end Go.Proofs.YtaablbmgagiajabGreatDoor

/- The contract of triumvirkeep.pick, and what holds while triumvirkeep.line lays a layout. -/
namespace Go.Proofs.YtaablbmgagiajabGreatDoor
open Go.RowKit Go.Deep

/-- What 'pick' answers. -/
def pickF (a n : Int) : Int := wrap64 ((IntKind.u64.wrap a).tmod n)
theorem pickF_in (a n : Int) (h : 0 < n) (hn : n ≤ 5000) : 0 ≤ pickF a n ∧ pickF a n < n := by
  unfold pickF
  have h0 : 0 ≤ IntKind.u64.wrap a := wrap_u64_nonneg a
  rw [Int.tmod_eq_emod_of_nonneg h0]
  have h1 := Int.emod_nonneg (IntKind.u64.wrap a) (show n ≠ 0 by omega)
  have h2 := Int.emod_lt_of_pos (IntKind.u64.wrap a) h
  rw [IntWalk.wrap64_in _ ⟨by omega, by omega⟩]
  exact ⟨h1, h2⟩

set_option maxHeartbeats 400000 in
theorem pick_any (a n : Int) (w : World) (h : 0 < n) (hn : n ≤ 5000) :
    Calls Tryz.prog 25 #[.int .i64 a, .int .i64 n] w fun e w' => e = .returned (.int .i64 (pickF a n)) ∧ w' = w := by
  go_enter Tryz.func25, Tryz.ntmps25
  go_wp2
  go_ret
  exact ⟨rfl, rfl⟩

theorem firstTo_none {p : Nat → Bool} {n : Nat} (h : ∀ k, k < n → p k = false) : firstTo p n = none := by
  induction n with
  | zero => rfl
  | succ n ih => exact first_none (ih fun k hk => h k (by omega)) (h n (by omega))

theorem nodup_take {zs : List Int} (h : zs.Nodup) (k : Nat) (hk : k < zs.length) : zs[k]?.getD 0 ∉ zs.take k := by
  intro hm
  have e : zs.take (k + 1) = zs.take k ++ [zs[k]?.getD 0] := by rw [List.take_add_one, List.getElem?_eq_getElem hk]; rfl
  have hn : (zs.take (k + 1)).Nodup := h.sublist (List.take_sublist _ _)
  rw [e, List.nodup_append] at hn
  exact hn.2.2 _ hm _ (by simp) rfl

/-- A layout in which nothing is wrong. -/
theorem check_good (s d : Int) (zs : List Int) (hr : rangeB s zs.length d = true) (hg : ∀ z ∈ zs, 1 ≤ z ∧ z ≤ top s) (hn : zs.Nodup) : checkF s zs d = (0, -1) := by
  unfold checkF
  rw [if_pos hr, firstTo_none, firstTo_none]
  · intro k hk; unfold twiceAt; exact decide_eq_false (nodup_take hn k hk)
  · intro k hk
    have hm : zs[k]?.getD 0 ∈ zs := by rw [List.getElem?_eq_getElem hk]; exact List.getElem_mem hk
    have := hg _ hm
    unfold badAt
    rw [(inB_iff _ _ _).2 this]; rfl

theorem block_set {w : World} {b : Nat} {c : Array Value} {t : TypeId} (h : w.heap[b]? = some (.cells c t (0, 0))) (i : Nat) (u : Value) : (w.setCell ⟨b, i, none⟩ u).heap[b]? = some (.cells (c.setIfInBounds i u) t (0, 0)) := by
  simp [World.setCell, Array.getElem?_modify, h]
theorem block_cell {w : World} {b : Nat} {c : Array Value} {t : TypeId} (h : w.heap[b]? = some (.cells c t (0, 0))) (i : Nat) : w.cell? ⟨b, i, none⟩ = c[i]? := by
  simp [World.cell?, h]
theorem block_free {w : World} {b : Nat} {c : Array Value} {t : TypeId} (h : w.heap[b]? = some (.cells c t (0, 0))) (i : Nat) : w.frozen? ⟨b, i, none⟩ = false := by
  simp [World.frozen?, h]
theorem block_lt {w : World} {b : Nat} {o : Obj} (h : w.heap[b]? = some o) : b < w.heap.size := by
  obtain ⟨hlt, _⟩ := Array.getElem?_eq_some_iff.1 h
  exact hlt

/-- What holds while the layout is laid: block N is the result's, block N + 1 the layout's. -/
structure LInv (w wr : World) (N s d : Nat) (v : Value) (zs : List Int) : Prop where
  old : Below N w wr
  res : wr.heap[N]? = some (.cells #[.int .i64 0, .slice none 0 0, .int .i64 0] 42 (0, 0))
  box : wr.heap[N + 1]? = some (.cells #[.int .i64 (s : Int), v, .int .i64 (d : Int)] 42 (0, 0))
  own : wr.ownsRow (N + 2) 3 1 v zs.length (zs.map (Value.int .i64))
  good : ∀ z ∈ zs, 1 ≤ z ∧ z ≤ top s
  nodup : zs.Nodup
  few : zs.length ≤ 8

theorem LInv.shape {w wr : World} {N s d : Nat} {v : Value} {zs : List Int} (h : LInv w wr N s d v zs) :
    ∃ a cap, v = .slice a zs.length cap ∧ zs.length ≤ cap ∧ ∀ k, k < zs.length → ∃ g, a = some ⟨g, 0, none⟩ ∧ N + 2 ≤ g ∧ g < wr.heap.size ∧ wr.cell? ⟨g, k, none⟩ = some (.int .i64 (zs[k]?.getD 0)) := by
  obtain ⟨_, ho⟩ := h.own
  rcases ho with ⟨rfl, h0⟩ | ⟨g, cap, cur, rfl, hg, hh, hc, hm, hs, ht⟩
  · exact ⟨none, 0, by rw [h0], by omega, fun k hk => by omega⟩
  · refine ⟨_, cap, rfl, hc, fun k hk => ⟨g, rfl, hg, block_lt hh, ?_⟩⟩
    have := h.own.cellAt k (by omega)
    rw [this]
    simp [hk]

theorem LInv.drew {w wr : World} {N s d : Nat} {v : Value} {zs : List Int} (h : LInv w wr N s d v zs) : LInv w wr.drew N s d v zs := ⟨h.old.drew, h.res, h.box, h.own, h.good, h.nodup, h.few⟩

theorem LInv.put {w wr w1 : World} {N s d : Nat} {v v' : Value} {zs : List Int} {r : Int} {o : Obj} (h : LInv w wr N s d v zs) (hown : w1.ownsRow (N + 2) 3 1 v' (zs.length + 1) (zs.map (Value.int .i64) ++ [.int .i64 r]))
    (hg : (wr.alloc o).grownBy w1 v.ownBlock) (hr : 1 ≤ r ∧ r ≤ top s) (hn : r ∉ zs) (hl : zs.length < 8) : LInv w (w1.setCell ⟨N + 1, 1, none⟩ v') N s d v' (zs ++ [r]) := by
  have hN1 : N + 1 < wr.heap.size := block_lt h.box
  have hne : ∀ j, j < N + 2 → some j ≠ v.ownBlock := fun j hj e => by have := h.own.lt j e.symm; omega
  have hb : ∀ j, j < N + 2 → w1.heap[j]? = wr.heap[j]? := fun j hj => (hg.block j (by simp; omega) (hne j hj)).trans (Below.heap_alloc _ _ _ (by omega))
  have old1 : Below N w w1 := (h.old.alloc (by omega) o).grown hg (by simp; omega) (fun j hj => by have := (h.own.lt j hj).1; omega)
  refine ⟨old1.setCell (by show N ≤ N + 1; omega) _, ?_, ?_, ?_, ?_, ?_, by simp; omega⟩
  · rw [Below.heap_setCell _ _ _ _ (by show N ≠ N + 1; omega), hb N (by omega)]; exact h.res
  · rw [block_set ((hb (N + 1) (by omega)).trans h.box)]; simp
  · have := ownsRow_setCell_below hown (a := ⟨N + 1, 1, none⟩) (by show N + 1 < N + 2; omega) v'
    simpa using this
  · intro z hz
    rcases List.mem_append.1 hz with hz | hz
    · exact h.good z hz
    · rw [List.mem_singleton.1 hz]; exact hr
  · rw [List.nodup_append]
    refine ⟨h.nodup, by simp, fun a ha b hb e => hn ?_⟩
    rw [List.mem_singleton.1 hb] at e; rw [← e]; exact ha

end Go.Proofs.YtaablbmgagiajabGreatDoor

/- The contract of triumvirkeep.line: whatever it is told, it hands back a layout in which Check finds nothing wrong. -/
namespace Go.Proofs.YtaablbmgagiajabGreatDoor
open Go.RowKit Go.Deep

/-- A layout that is handed back: nothing is wrong with it, and its routes lie in memory. -/
def GoodLayout (w' : World) (x : Value) : Prop :=
  ∃ (s d : Int) (b off n cap : Nat) (zs : List Int), x = .agg #[.int .i64 s, .slice (some ⟨b, off, none⟩) n cap, .int .i64 d] ∧ zs.length = n ∧ n ≤ cap ∧ b < w'.heap.size ∧ Row w' b off zs ∧ checkF s zs d = (0, -1)

theorem top_pow (s : Nat) (h1 : s ≤ 12) : wrap64 (wrap64 (2 ^ s) - 1) = top s := by
  have hp : 2 ^ s ≤ 2 ^ 12 := Nat.pow_le_pow_right (by decide) h1
  have hq : 0 < 2 ^ s := Nat.two_pow_pos s
  rw [wrap_two_pow s (by omega), IntWalk.wrap64_in _ ⟨by omega, by omega⟩]
  unfold top
  rw [Int.toNat_natCast]
  omega
theorem top_in (s : Nat) (h0 : 1 ≤ s) (h1 : s ≤ 12) : 1 ≤ top s ∧ top s ≤ 4095 := by
  have hp : 2 ^ s ≤ 2 ^ 12 := Nat.pow_le_pow_right (by decide) h1
  have hq : 2 ^ 1 ≤ 2 ^ s := Nat.pow_le_pow_right (by decide) h0
  unfold top
  rw [Int.toNat_natCast]
  omega

theorem mem_take_succ (zs : List Int) (m : Nat) (r : Int) (h : m < zs.length) : decide (r ∈ zs.take (m + 1)) = (decide (r ∈ zs.take m) || zs[m]?.getD 0 == r) := by
  have e : zs.take (m + 1) = zs.take m ++ [zs[m]?.getD 0] := by rw [List.take_add_one, List.getElem?_eq_getElem h]; rfl
  rw [e, Bool.eq_iff_iff]
  simp only [decide_eq_true_eq, Bool.or_eq_true, beq_iff_eq, List.mem_append, List.mem_singleton]
  exact or_congr Iff.rfl ⟨Eq.symm, Eq.symm⟩

theorem LInv.drewN {w wr : World} {N s d n : Nat} {v : Value} {zs : List Int} (h : LInv w wr N s d v zs) : LInv w (wr.drewN n) N s d v zs := ⟨below_drewN h.old n, h.res, h.box, h.own, h.good, h.nodup, h.few⟩

theorem LInv.put_box {w wr w1 : World} {N s d n : Nat} {v : Value} {zs : List Int} {o : Obj} (h : LInv w wr N s d v zs) (hg : ((wr.drewN n).alloc o).grownBy w1 v.ownBlock) :
    w1.heap[N + 1]? = some (.cells #[.int .i64 (s : Int), v, .int .i64 (d : Int)] 42 (0, 0)) := by
  have hN1 : N + 1 < wr.heap.size := block_lt h.box
  refine ((hg.block (N + 1) (by simp; omega) (fun e => by have := h.own.lt (N + 1) e.symm; omega)).trans (Below.heap_alloc _ _ _ (by simp; omega))).trans h.box

/-- The layout is laid. -/
theorem linv_done {w wr w' : World} {N sn d g cv : Nat} {zs : List Int} (h : LInv w wr N sn d (.slice (some ⟨g, 0, none⟩) zs.length cv) zs) (h1 : 1 ≤ sn) (h2 : sn ≤ 12) (hd : d ≤ 20) (hz : zs.length ≠ 0)
    (hh : ∀ j, N < j → w'.heap[j]? = wr.heap[j]?) : GoodLayout w' (.agg #[.int .i64 (sn : Int), .slice (some ⟨g, 0, none⟩) zs.length cv, .int .i64 (d : Int)]) := by
  obtain ⟨_, ho⟩ := h.own
  rcases ho with ⟨e, _⟩ | ⟨g', cap, cur, e, hg, hb, hc, hm, hs, ht⟩
  · simp at e
  · simp at e
    obtain ⟨rfl, rfl⟩ := e
    have hb' : w'.heap[g]? = some (.cells cur 3 (0, 0)) := (hh g (by omega)).trans hb
    refine ⟨_, _, g, 0, _, _, zs, rfl, rfl, hc, block_lt hb', fun k hk => ?_, check_good _ _ _ ?_ h.good h.nodup⟩
    · rw [World.cell?_of_block (w := wr) (hh g (by omega)), Nat.zero_add, h.own.cellAt k (by omega)]
      simp [hk]
    · have := h.few
      unfold rangeB
      rw [(inB_iff _ _ _).2 ⟨by omega, by omega⟩, (inB_iff _ _ _).2 ⟨by omega, by omega⟩, (inB_iff _ _ _).2 ⟨by omega, by omega⟩]
      rfl

theorem linv_one {w' : World} {sn d G : Nat} (h1 : 1 ≤ sn) (h2 : sn ≤ 12) (hd : d ≤ 20) (hc : w'.cell? ⟨G, 0, none⟩ = some (.int .i64 1)) (hG : G < w'.heap.size) :
    GoodLayout w' (.agg #[.int .i64 (sn : Int), .slice (some ⟨G, 0, none⟩) 1 1, .int .i64 (d : Int)]) := by
  refine ⟨_, _, G, 0, 1, 1, [1], rfl, rfl, by decide, hG, fun k hk => ?_, check_good _ _ _ ?_ ?_ (by simp)⟩
  · have : k = 0 := by simp at hk; omega
    subst this
    simpa using hc
  · unfold rangeB
    rw [(inB_iff _ _ _).2 ⟨by omega, by omega⟩, (inB_iff _ _ _).2 ⟨by simp, by simp⟩, (inB_iff _ _ _).2 ⟨by omega, by omega⟩]
    rfl
  · intro z hz
    rw [List.mem_singleton.1 hz]
    exact ⟨by omega, (top_in sn h1 h2).1⟩

theorem linv_start (w : World) (p d : Nat) : LInv w ((w.alloc (.cells #[.int .i64 0, .slice none 0 0, .int .i64 0] 42)).alloc (.cells #[.int .i64 (1 + (p : Int)), .slice none 0 0, .int .i64 (d : Int)] 42)) w.heap.size (p + 1) d (.slice none 0 0) [] := by
  refine ⟨((Below.refl _ _).alloc (Nat.le_refl _) _).alloc (by simp) _, ?_, ?_, World.ownsRow_nil _ _ _ _, by simp, by simp, by simp⟩
  · rw [Below.heap_alloc _ _ _ (by simp)]
    exact heap_alloc_new _ _
  · have := heap_alloc_new (w.alloc (.cells #[.int .i64 0, .slice none 0 0, .int .i64 0] 42)) (.cells #[.int .i64 (1 + (p : Int)), .slice none 0 0, .int .i64 (d : Int)] 42)
    rw [show (w.alloc (.cells #[.int .i64 0, .slice none 0 0, .int .i64 0] 42)).heap.size = w.heap.size + 1 by simp] at this
    rw [this, show 1 + (p : Int) = ((p + 1 : Nat) : Int) by omega]

set_option maxHeartbeats 1000000 in
set_option maxRecDepth 20000 in
theorem line_any (x0 x1 : Int) (a : Option Addr) (len cap : Nat) (w : World) (hl : len ≤ 30) (hrt : ∀ i, i < len → ∃ b off z, a = some ⟨b, off, none⟩ ∧ b < w.heap.size ∧ w.cell? ⟨b, off + i, none⟩ = some (.int .i64 z)) :
    Calls Tryz.prog 29 #[.int .i64 x0, .int .i64 x1, .slice a len cap] w fun e w' => (∃ x, e = .returned x ∧ GoodLayout w' x) ∧ Below w.heap.size w w' := by
  have hs1 := pickF_in x0 12 (by decide) (by decide)
  have hd1 := pickF_in x1 21 (by decide) (by decide)
  have hpk0 := fun wx => pick_any x0 12 wx (by decide) (by decide)
  have hpk1 := fun wx => pick_any x1 21 wx (by decide) (by decide)
  obtain ⟨p, hp⟩ := Int.eq_ofNat_of_zero_le hs1.1
  obtain ⟨d, hd⟩ := Int.eq_ofNat_of_zero_le hd1.1
  rw [hp] at hs1 hpk0
  rw [hd] at hd1 hpk1
  have HP0 := hide hpk0
  have HP1 := hide hpk1
  clear hp hd hpk0 hpk1
  obtain ⟨hs0, hs1⟩ := hs1
  obtain ⟨hd0, hd1⟩ := hd1
  go_enter Tryz.func29, Tryz.ntmps29
  go_wp2_with fail
  refine (unhide HP0 _).mono ?_
  rintro e w' ⟨rfl, rfl⟩
  go_wp2_with fail
  refine (unhide HP1 _).mono ?_
  rintro e w' ⟨rfl, rfl⟩
  clear HP0 HP1
  go_wp2
  have HS := hide (linv_start w p d)
  obtain ⟨sn, hsn⟩ : ∃ sn, Hid (p + 1 = sn) := ⟨_, hide rfl⟩
  rw [hsn.out] at HS
  have hsb : 1 ≤ sn ∧ sn ≤ 12 := by have := hsn.out; omega
  obtain ⟨hsb1, hsb2⟩ := hsb
  have hdb : d ≤ 20 := by omega
  have htop := top_in sn hsb1 hsb2
  have htp := top_pow sn hsb2
  obtain ⟨T, hT⟩ : ∃ T, Hid (top sn = T) := ⟨_, hide rfl⟩
  rw [hT.out] at htop htp
  obtain ⟨ht1, ht2⟩ := htop
  obtain ⟨i0, hi, hz0, hz1, hz2⟩ := info_parts infoInt
  have HI := hide hi
  have HZ0 := hide hz0
  have HZ1 := hide hz1
  have HZ2 := hide hz2
  have HT := hide htp
  clear hi hz0 hz1 hz2 htp
  go_loopw [8] (fun i wr => ∃ k : Nat, k ≤ len ∧ i = .int .i64 k ∧ ∃ v zs, LInv w wr w.heap.size sn d v zs) (fun i _ => len - (intOf i).toNat)
  case atStart => exact ⟨0, Nat.zero_le _, rfl, _, _, HS.out⟩
  case round =>
    clear HS
    obtain ⟨k, hk, rfl, v, zs, hI⟩ := hrel
    obtain ⟨av, cv, rfl, hcv, hvc⟩ := hI.shape
    have HVC := hide hvc
    clear hvc
    have hfew := hI.few
    have hb1 : wr.cell? ⟨w.heap.size + 1, 1, none⟩ = some (.slice av zs.length cv) := by rw [block_cell hI.box]; rfl
    by_cases hgo : k < len ∧ zs.length < 8
    · obtain ⟨hgo1, hgo2⟩ := hgo
      obtain ⟨b, off, z, rfl, hbb, hcz⟩ := hrt k hgo1
      clear hrt
      have hcz' : wr.cell? ⟨b, off + k, none⟩ = some (.int .i64 z) := (hI.old.cell (p := ⟨b, off + k, none⟩) hbb).trans hcz
      have hb0 : wr.cell? ⟨w.heap.size + 1, 0, none⟩ = some (.int .i64 (sn : Int)) := by rw [block_cell hI.box]; rfl
      clear hcz
      have hpk := fun wx => pick_any z T wx (by omega) (by omega)
      have hpb := pickF_in z T (by omega) (by omega)
      obtain ⟨q, hq⟩ : ∃ q, Hid (pickF z T = q) := ⟨_, hide rfl⟩
      rw [hq.out] at hpk hpb
      rw [← HT.out] at hpk
      obtain ⟨hpb1, hpb2⟩ := hpb
      have HPK := hide hpk
      clear hpk
      go_wp2_with fail
      go_quiet ((go_at_call 25; exact Calls.quiet_of_same (unhide HPK _)))
      clear HPK hcz' hb0
      go_wp2
      go_loop [10, 11] (fun t i => ∃ m : Nat, m ≤ zs.length ∧ i = .int .i64 m ∧ ∃ tb, t = .bool tb ∧ Hid (decide (1 + q ∈ zs.take m) = tb)) (fun _ i => zs.length - (intOf i).toNat)
      case atStart => exact ⟨0, Nat.zero_le _, rfl, false, rfl, by simp [Hid]⟩
      case round =>
        obtain ⟨m, hm, rfl, tb, rfl, Htb⟩ := hrel
        by_cases hlt : m < zs.length
        · obtain ⟨g, rfl, _, _, hcg⟩ := unhide HVC m hlt
          obtain ⟨y, hy⟩ : ∃ y, Hid (zs[m]?.getD 0 = y) := ⟨_, hide rfl⟩
          rw [hy.out] at hcg
          have hmem := mem_take_succ zs m (1 + q) hlt
          rw [hy.out, Htb.out] at hmem
          have HM := hide hmem
          clear hmem
          cases tb
          · go_wp2
            go_round
            case rel => exact ⟨m + 1, by omega, by go_num, _, rfl, by rw [Hid, HM.out]; rfl⟩
            case measure => simp [intOf]; omega
          · go_wp2
            go_round
            case rel => exact ⟨m + 1, by omega, by go_num, _, rfl, by rw [Hid, HM.out]; rfl⟩
            case measure => simp [intOf]; omega
        · have hme : m = zs.length := by omega
          subst hme
          clear hlt
          rw [List.take_length] at Htb
          cases tb
          · go_wp2_with (at_builtin; refine wpList_append_own _ rfl _ _ 22 rfl (w.heap.size + 2) 3 i0 (.int .i64 0) 1 8 Tryz.underlying22 HI.out HZ0.out HZ1.out HZ2.out rfl (by decide) _ _ _ rfl (hI.drewN.own.alloc _) ⟨_, 0, none⟩ 1 1 [.int .i64 (1 + q)] rfl rfl ?c1 ?c2 ?c3 ?c4 ?c5 ?_)
            case c1 =>
              intro j u hj
              match j, hj with
              | 0, hj => simp at hj; subst hj; exact World.cell?_alloc_at _ _ _ _ rfl
            case c2 => rfl
            case c3 => unfold maxLen; omega
            case c4 => omega
            case c5 => have := block_lt hI.box; omega
            intro v' w1 hown hgrow _
            have hnot : 1 + q ∉ zs := of_decide_eq_false Htb.out
            obtain ⟨g', cap', rfl⟩ : ∃ g' cap', v' = .slice (some ⟨g', 0, none⟩) (zs.length + 1) cap' := by
              rcases hown.2 with ⟨_, h0⟩ | ⟨g', cap', _, h0, _⟩
              · omega
              · exact ⟨g', cap', h0⟩
            have R := LInv.put hI.drewN hown hgrow (by rw [hT.out]; omega) hnot hgo2
            have hx := hI.put_box (n := nq) hgrow
            have hx1 : w1.cell? ⟨w.heap.size + 1, 1, none⟩ = some (.slice av zs.length cv) := by rw [block_cell hx]; rfl
            have hx2 : w1.frozen? ⟨w.heap.size + 1, 1, none⟩ = false := block_free hx 1
            clear hx hown hgrow hb1 hnot
            go_wp2
            go_roundw
            case rel => exact ⟨k + 1, by omega, by go_num, _, _, R⟩
            case measure => simp [intOf]; omega
          · go_wp2
            go_roundw
            case rel => exact ⟨k + 1, by omega, by go_num, _, _, hI.drewN⟩
            case measure => simp [intOf]; omega
    · clear hrt HI HZ0 HZ1 HZ2 HT
      have hb0 : wr.cell? ⟨w.heap.size + 1, 0, none⟩ = some (.int .i64 (sn : Int)) := by rw [block_cell hI.box]; rfl
      have hb2 : wr.cell? ⟨w.heap.size + 1, 2, none⟩ = some (.int .i64 (d : Int)) := by rw [block_cell hI.box]; rfl
      have hbf : wr.frozen? ⟨w.heap.size + 1, 1, none⟩ = false := block_free hI.box 1
      have hr0 : wr.cell? ⟨w.heap.size, 0, none⟩ = some (.int .i64 0) := by rw [block_cell hI.res]; rfl
      have hr1 : wr.cell? ⟨w.heap.size, 1, none⟩ = some (.slice none 0 0) := by rw [block_cell hI.res]; rfl
      have hr2 : wr.cell? ⟨w.heap.size, 2, none⟩ = some (.int .i64 0) := by rw [block_cell hI.res]; rfl
      have hf0 : wr.frozen? ⟨w.heap.size, 0, none⟩ = false := block_free hI.res 0
      have hf1 : wr.frozen? ⟨w.heap.size, 1, none⟩ = false := block_free hI.res 1
      have hf2 : wr.frozen? ⟨w.heap.size, 2, none⟩ = false := block_free hI.res 2
      have hsz : w.heap.size + 1 < wr.heap.size := block_lt hI.box
      have hsz0 : w.heap.size < wr.heap.size := by omega
      by_cases hz : zs.length = 0
      · have hzs : zs = [] := List.length_eq_zero_iff.1 hz
        subst hzs
        have hkn : ¬ k < len := fun h => hgo ⟨h, by simp⟩
        clear hgo hz
        go_wp2
        refine bodyPost_ret (v := .agg #[.int .i64 (sn : Int), .slice (some ⟨wr.heap.size, 0, none⟩) 1 1, .int .i64 (d : Int)]) (by simp [results, Tryz.results29, go_sem, hr0, hr1, hr2, hsz0]) rfl ⟨⟨_, rfl, linv_one hsb1 hsb2 hdb ?_ ?_⟩, ?_⟩
        · exact World.cell?_alloc_at _ _ _ _ (by simp [World.setCell])
        · simp [World.setCell]
        · exact ((((hI.old.setCell (Nat.le_succ _) _).setCell (Nat.le_refl _) _).setCell (Nat.le_refl _) _).setCell (Nat.le_refl _) _).alloc (by simp [World.setCell]; omega) _
      · by_cases hkn : k < len
        · have hz8 : ¬ zs.length < 8 := fun h => hgo ⟨hkn, h⟩
          obtain ⟨g, rfl, _, _, _⟩ := unhide HVC 0 (by omega)
          clear hgo
          go_wp2
          refine bodyPost_ret (v := .agg #[.int .i64 (sn : Int), .slice (some ⟨g, 0, none⟩) zs.length cv, .int .i64 (d : Int)]) (by simp [results, Tryz.results29, go_sem, hr0, hr1, hr2]) rfl ⟨⟨_, rfl, linv_done hI hsb1 hsb2 hdb hz ?_⟩, ?_⟩
          · intro j hj
            rw [Below.heap_setCell _ _ _ _ (by show j ≠ w.heap.size; omega), Below.heap_setCell _ _ _ _ (by show j ≠ w.heap.size; omega), Below.heap_setCell _ _ _ _ (by show j ≠ w.heap.size; omega)]
          · exact ((hI.old.setCell (Nat.le_refl _) _).setCell (Nat.le_refl _) _).setCell (Nat.le_refl _) _
        · obtain ⟨g, rfl, _, _, _⟩ := unhide HVC 0 (by omega)
          clear hgo
          go_wp2
          refine bodyPost_ret (v := .agg #[.int .i64 (sn : Int), .slice (some ⟨g, 0, none⟩) zs.length cv, .int .i64 (d : Int)]) (by simp [results, Tryz.results29, go_sem, hr0, hr1, hr2]) rfl ⟨⟨_, rfl, linv_done hI hsb1 hsb2 hdb hz ?_⟩, ?_⟩
          · intro j hj
            rw [Below.heap_setCell _ _ _ _ (by show j ≠ w.heap.size; omega), Below.heap_setCell _ _ _ _ (by show j ≠ w.heap.size; omega), Below.heap_setCell _ _ _ _ (by show j ≠ w.heap.size; omega)]
          · exact ((hI.old.setCell (Nat.le_refl _) _).setCell (Nat.le_refl _) _).setCell (Nat.le_refl _) _

end Go.Proofs.YtaablbmgagiajabGreatDoor

/- DeskSees's walk: what holds of the law's own system from step to step. -/
namespace Go.Proofs.YtaablbmgagiajabGreatDoor
open Go.RowKit Go.Deep

/-- The law's system, and its input in the box that the law made of it. -/
def LwAt (w : World) (p : Nat) (x y : Int) (S : SY) (Y : World) : Prop :=
  ∃ N D, D.p = p ∧ SyIs Y N D L0 10 S ∧ w.heap.size < N ∧ N ≤ Y.heap.size ∧ Below w.heap.size w Y ∧ Y.heap[w.heap.size]? = some (.cells #[.int .i64 x, .int .i64 y] 31 (0, 0))
section
variable {w Y Y' : World} {p : Nat} {x y : Int} {S : SY}
theorem LwAt.below (h : LwAt w p x y S Y) (hB : Below Y.heap.size Y Y') : LwAt w p x y S Y' := by
  obtain ⟨N, D, e, hS, h1, h2, h3, h4⟩ := h
  exact ⟨N, D, e, hS.below hB, h1, Nat.le_trans h2 hB.size, h3.trans (hB.mono h3.size), (hB.block _ (blk_lt h4)).trans h4⟩
theorem LwAt.drew (h : LwAt w p x y S Y) : LwAt w p x y S Y.drew := h.below (Below.refl _ _).drew
theorem LwAt.old (h : LwAt w p x y S Y) : Below w.heap.size w Y := by
  obtain ⟨N, D, e, hS, h1, h2, h3, h4⟩ := h
  exact h3
theorem LwAt.cells (h : LwAt w p x y S Y) : Y.cell? ⟨w.heap.size, 0, none⟩ = some (.int .i64 x) ∧ Y.cell? ⟨w.heap.size, 1, none⟩ = some (.int .i64 y) := by
  obtain ⟨_, _, _, _, _, _, _, h4⟩ := h
  exact ⟨blk_cell h4 0, blk_cell h4 1⟩
theorem LwAt.free (h : LwAt w p x y S Y) : Y.frozen? ⟨w.heap.size, 0, none⟩ = false ∧ Y.frozen? ⟨w.heap.size, 1, none⟩ = false := by
  obtain ⟨_, _, _, _, _, _, _, h4⟩ := h
  exact ⟨blk_free h4 0, blk_free h4 1⟩
theorem LwAt.put (h : LwAt w p x y S Y) (hn : S.net = []) (c v : Int) : LwAt w p c v S ((Y.setCell ⟨w.heap.size, 0, none⟩ (.int .i64 c)).setCell ⟨w.heap.size, 1, none⟩ (.int .i64 v)) := by
  obtain ⟨N, D, e, hS, h1, h2, h3, h4⟩ := h
  have hm : Mod Y ((Y.setCell ⟨w.heap.size, 0, none⟩ (.int .i64 c)).setCell ⟨w.heap.size, 1, none⟩ (.int .i64 v)) (· = w.heap.size) :=
    ((Mod.refl Y (· = w.heap.size)).set ⟨w.heap.size, 0, none⟩ _ (fun _ => rfl)).set ⟨w.heap.size, 1, none⟩ _ (fun _ => rfl)
  refine ⟨N, D, e, hS.others hm (fun k hk => ?_) (fun i hi => by rw [hn] at hi; cases hi), h1, Nat.le_trans h2 hm.size, two_sets h3 (Nat.le_refl _) _ _, blk_set (blk_set h4 0 _) 1 _⟩
  rcases hk with hk | hk
  · have := hS.base k hk; omega
  · have := hS.sbase k hk; omega
theorem LwAt.go {N : Nat} {D : SC} {S' : SY} (hS : SyIs Y N D L0 10 S) (h1 : w.heap.size < N) (h2 : N ≤ Y.heap.size) (h3 : Below w.heap.size w Y) (h4 : Y.heap[w.heap.size]? = some (.cells #[.int .i64 x, .int .i64 y] 31 (0, 0))) (hg : SyGo Y Y' N D L0 10 S') : LwAt w D.p x y S' Y' := by
  obtain ⟨D', e', hS', hm, _⟩ := hg
  have hb : Below N Y Y' := hm.toBelow h2 (fun k hk hw => by have := hS.base k hw; omega)
  exact ⟨N, D', e', hS', h1, Nat.le_trans h2 hm.size, h3.trans (hb.mono (by omega)), (hb.block _ h1).trans h4⟩
theorem lw_see (h : LwAt w p x y S Y) {k : Nat} (hk : k < 3) (c v : Int) :
    Calls Tryz.prog 18 #[.pointer (some ⟨p, 0, none⟩), .int .i64 (k : Int), .agg #[.int .i64 c, .int .i64 v]] Y fun e w' => e = .returned .nilIface ∧ LwAt w p x y (seeSy k c v S) w' := by
  obtain ⟨N, D, rfl, hS, h1, h2, h3, h4⟩ := h
  refine (sysee_any N D L0 10 S Y k c v hk hS).mono ?_
  rintro e w' ⟨rfl, hg⟩
  exact ⟨rfl, LwAt.go hS h1 h2 h3 h4 hg⟩
theorem lw_calm {T : Nat} (h : LwAt w p x y S Y) (hI : InS T S) (n : Nat) (hT : T + 6 * n < 700000) (hn : n ≤ 1000) :
    Calls Tryz.prog 16 #[.pointer (some ⟨p, 0, none⟩), .int .i64 (n : Int)] Y fun e w' => e = .returned (.tuple #[]) ∧ ∃ S', calmTo L0 10 n S S' ∧ InS (T + 6 * n) S' ∧ LwAt w p x y S' w' := by
  obtain ⟨N, D, rfl, hS, h1, h2, h3, h4⟩ := h
  refine (calm_any N D L0 10 S Y n hS hI.cl L0_ok hT hn h2).mono ?_
  rintro e w' ⟨rfl, S', hc, _, hg⟩
  exact ⟨rfl, S', hc, hI.calm hc, LwAt.go hS h1 h2 h3 h4 hg⟩
theorem lw_trace {T : Nat} (h : LwAt w p x y S Y) (hI : InS T S) :
    Calls Tryz.prog 13 #[.pointer (some ⟨p, 0, none⟩)] Y fun e w' => (∃ v, e = .returned v ∧ TIs w' Y.heap.size v S.v.tr) ∧ Below Y.heap.size Y w' := by
  obtain ⟨N, D, rfl, hS, h1, h2, h3, h4⟩ := h
  exact strace_any N D L0 10 S Y hS hI.cl.inv.vok
end
/-- What is committed is small. -/
theorem InS.small {T : Nat} {S : SY} (h : InS T S) (i : Nat) (hi : i < S.v.tr.length) : ∃ a b o : Nat, a < 16 ∧ b < 8 ∧ o < 8 ∧ cmAt S.v.tr i = ⟨(a : Int), (b : Int), (o : Int)⟩ := by
  obtain ⟨x, y, e, h1, h2, _⟩ := h.cl.inv.tr i hi
  have h3 : outOf L0 (stAt L0 S.v.tr i) (x : Int) (y : Int) < 2 ^ 3 := showTo_lt _ _ _ _ _ _ (by decide)
  exact ⟨x, y, _, h1, h2, h3, e⟩
/-- One more. -/
theorem trace_more (tr : List Cm) (k : Nat) (hk : k < tr.length) : traceF (tr.take (k + 1)) = (if k = 0 then [] else traceF (tr.take k) ++ [44, 32]) ++ cmT (cmAt tr k) := by
  have e : tr.take (k + 1) = tr.take k ++ [cmAt tr k] := by
    rw [List.take_add_one, List.getElem?_eq_getElem hk]
    unfold cmAt
    rw [List.getElem?_eq_getElem hk]
    rfl
  rw [e]
  cases k with
  | zero => simp [traceF_one]
  | succ k =>
    rw [traceF_snoc _ _ (by intro h0; have := congrArg List.length h0; rw [List.length_take, List.length_nil] at this; omega)]
    simp
/-- What the law's system is behind so many See. -/
def seesSy (c v : Nat) : Nat → SY
  | 0 => sy0 10
  | k + 1 => seeSy k (c : Int) (v : Int) (seesSy c v k)
theorem InS.sees (c v : Nat) : ∀ k, k ≤ 3 → InS 0 (seesSy c v k)
  | 0, _ => InS.new
  | k + 1, h => (InS.sees c v k (by omega)).see (by omega) _ _
theorem itoa_two : ∀ k : Fin 16, (Lib.itoa ((k : Nat) : Int)).length ≤ 2 := of_decide_eq_true (by kernel_rfl)
theorem itoa_le {k : Nat} (hk : k < 16) : (Lib.itoa (k : Int)).length ≤ 2 := itoa_two ⟨k, hk⟩
theorem seesT_len {c v : Nat} (hc : c < 16) (hv : v < 8) : ∀ k, k ≤ 3 → (seesT c v k).length ≤ 20 * k
  | 0, _ => Nat.le_refl _
  | k + 1, h => by
    have ih := seesT_len hc hv k (by omega)
    have h1 := itoa_le (k := k) (by omega)
    have h2 := itoa_le (k := c) (by omega)
    have h3 := itoa_le (k := v) (by omega)
    unfold seesT seeL
    simp only [List.length_append, List.length_cons, List.length_nil]
    omega
theorem seesT_txt (c v k : Nat) : txt (seesT c v (k + 1)) = txt (seesT c v k) ++ (⟨#[115, 101, 101, 32]⟩ ++ txt (Lib.itoa (k : Int)) ++ ⟨#[32]⟩ ++ txt (Lib.itoa (c : Int)) ++ ⟨#[32]⟩ ++ txt (Lib.itoa (v : Int)) ++ ⟨#[10]⟩) := by
  show txt (seesT c v (k + 1)) = txt (seesT c v k) ++ (txt [115, 101, 101, 32] ++ txt (Lib.itoa (k : Int)) ++ txt [32] ++ txt (Lib.itoa (c : Int)) ++ txt [32] ++ txt (Lib.itoa (v : Int)) ++ txt [10])
  simp only [txt_add]
  rfl
theorem t1_txt (c v r : Nat) : txt (seesT c v 3) ++ ⟨#[99, 97, 108, 109, 32]⟩ ++ txt (Lib.itoa (r : Int)) ++ ⟨#[10, 116, 114, 97, 99, 101]⟩ = txt (t1 c v r) := by
  show txt (seesT c v 3) ++ txt [99, 97, 108, 109, 32] ++ txt (Lib.itoa (r : Int)) ++ txt [10, 116, 114, 97, 99, 101] = txt (t1 c v r)
  rw [← seesT_t1]
  simp only [txt_add]
theorem said_txt (l : List UInt8) : txt (wSee ++ [10] ++ wSee ++ [10] ++ wSee ++ [10] ++ wCalm ++ [10] ++ l ++ [10]) = ⟨#[115, 101, 101, 10, 115, 101, 101, 10, 115, 101, 101, 10, 99, 97, 108, 109, 10]⟩ ++ txt l ++ ⟨#[10]⟩ := by
  show _ = txt [115, 101, 101, 10, 115, 101, 101, 10, 115, 101, 101, 10, 99, 97, 108, 109, 10] ++ txt l ++ txt [10]
  simp only [txt_add]
  rfl
theorem trace_txt0 (tr : List Cm) (k : Nat) (hk : k < tr.length) (h0 : k = 0) {a b o : Nat} (e : cmAt tr k = ⟨(a : Int), (b : Int), (o : Int)⟩) : txt (traceF (tr.take (k + 1))) = txt (traceF (tr.take k)) ++ (txt (Lib.itoa (a : Int)) ++ ⟨#[32]⟩ ++ txt (Lib.itoa (b : Int)) ++ ⟨#[32]⟩ ++ txt (Lib.itoa (o : Int))) := by
  subst h0
  show _ = txt [] ++ (txt (Lib.itoa (a : Int)) ++ txt [32] ++ txt (Lib.itoa (b : Int)) ++ txt [32] ++ txt (Lib.itoa (o : Int)))
  rw [trace_more tr 0 hk, cmT_eq, e]
  simp only [txt_add]
  simp
theorem trace_txt (tr : List Cm) (k : Nat) (hk : k < tr.length) (h0 : k ≠ 0) {a b o : Nat} (e : cmAt tr k = ⟨(a : Int), (b : Int), (o : Int)⟩) : txt (traceF (tr.take (k + 1))) = txt (traceF (tr.take k)) ++ ⟨#[44, 32]⟩ ++ (txt (Lib.itoa (a : Int)) ++ ⟨#[32]⟩ ++ txt (Lib.itoa (b : Int)) ++ ⟨#[32]⟩ ++ txt (Lib.itoa (o : Int))) := by
  show _ = txt (traceF (tr.take k)) ++ txt [44, 32] ++ (txt (Lib.itoa (a : Int)) ++ txt [32] ++ txt (Lib.itoa (b : Int)) ++ txt [32] ++ txt (Lib.itoa (o : Int)))
  rw [trace_more tr k hk, cmT_eq, e, if_neg h0]
  simp only [txt_add]
theorem InS.takeLen {T : Nat} {S : SY} (h : InS T S) (k : Nat) : (traceF (S.v.tr.take k)).length ≤ 100000 := by
  obtain ⟨h1, h2⟩ := h.few
  exact trace_few (by rw [List.length_take]; omega) fun d hd => h2 d (List.mem_of_mem_take hd)
end Go.Proofs.YtaablbmgagiajabGreatDoor
