import Derived.Test.YtaablbmgagiajabGreatDoorSGBE
import Derived.Test.YtaablbmgagiajabGreatDoorSGBF
import Derived.Test.YtaablbmgagiajabGreatDoorSGAX
namespace Go.Proofs.YtaablbmgagiajabGreatDoor
open Go.RowKit Go.Deep
def seeL (k c v : Nat) : List UInt8 := [115, 101, 101, 32] ++ Lib.itoa (k : Int) ++ [32] ++ Lib.itoa (c : Int) ++ [32] ++ Lib.itoa (v : Int)
def calmL (r : Nat) : List UInt8 := [99, 97, 108, 109, 32] ++ Lib.itoa (r : Int)
def wSee : List UInt8 := [115, 101, 101]
def wCalm : List UInt8 := [99, 97, 108, 109]
def wTrace : List UInt8 := [116, 114, 97, 99, 101]
def t1 (c v r : Nat) : List UInt8 := seeL 0 c v ++ [10] ++ (seeL 1 c v ++ [10] ++ (seeL 2 c v ++ [10] ++ (calmL r ++ [10] ++ wTrace)))
theorem splitNl_app (l r : List UInt8) (h : (10 : UInt8) ∉ l) : splitNl (l ++ 10 :: r) = l :: splitNl r := by
  induction l with
  | nil => simp [splitNl]
  | cons c l ih =>
    have hc : c ≠ 10 := fun e => h (by simp [e])
    have := ih (fun hm => h (by simp [hm]))
    simp [splitNl, hc, this]
theorem splitNl_one (l : List UInt8) (h : (10 : UInt8) ∉ l) : splitNl l = [l] := by
  induction l with
  | nil => simp [splitNl]
  | cons c l ih =>
    have hc : c ≠ 10 := fun e => h (by simp [e])
    have := ih (fun hm => h (by simp [hm]))
    simp [splitNl, hc, this]
theorem see_facts : ∀ k : Fin 3, ∀ c : Fin 16, ∀ v : Fin 8, wordsF (seeL k c v) = [wSee, Lib.itoa (k : Nat), Lib.itoa (c : Nat), Lib.itoa (v : Nat)] ∧ sayF [Lib.itoa (k : Nat), Lib.itoa (c : Nat), Lib.itoa (v : Nat)] = some [((k : Nat) : Int), ((c : Nat) : Int), ((v : Nat) : Int)] ∧ (10 : UInt8) ∉ seeL k c v ∧ (seeL k c v).length ≤ 20 := of_decide_eq_true (by kernel_rfl)
theorem calm_facts : ∀ r : Fin 8, wordsF (calmL r) = [wCalm, Lib.itoa (r : Nat)] ∧ sayF [Lib.itoa (r : Nat)] = some [((r : Nat) : Int)] ∧ (10 : UInt8) ∉ calmL r ∧ (calmL r).length ≤ 20 := of_decide_eq_true (by kernel_rfl)
theorem words_trace : wordsF wTrace = [wTrace] := by decide
end Go.Proofs.YtaablbmgagiajabGreatDoor
namespace Go.Proofs.YtaablbmgagiajabGreatDoor
open Go.RowKit Go.Deep
variable {c v r : Nat}
def StepS (c v r : Nat) (x : List UInt8) (S S' : SY) (s : List UInt8) : Prop :=
  (∃ k, k < 3 ∧ x = seeL k c v ∧ S' = seeSy k (c : Int) (v : Int) S ∧ s = wSee) ∨ (x = calmL r ∧ calmTo L0 10 r S S' ∧ s = wCalm) ∨ (x = wTrace ∧ S' = S ∧ s = traceF S.v.tr)
def RunS (c v r : Nat) : List (List UInt8) → SY → List UInt8 → SY → List UInt8 → Prop
  | [], S, l, S', l' => S' = S ∧ l' = l
  | x :: xs, S, l, S', l' => ∃ S1 s, StepS c v r x S S1 s ∧ RunS c v r xs S1 (l ++ s ++ [10]) S' l'
theorem RunS.snoc : ∀ {xs : List (List UInt8)} {S S1 S2 : SY} {l l1 s x : List UInt8}, RunS c v r xs S l S1 l1 → StepS c v r x S1 S2 s → RunS c v r (xs ++ [x]) S l S2 (l1 ++ s ++ [10])
  | [], _, _, _, _, _, _, _, ⟨e1, e2⟩, hs => by subst e1 e2; exact ⟨_, _, hs, rfl, rfl⟩
  | _ :: _, _, _, _, _, _, _, _, ⟨S', s', h1, h2⟩, hs => ⟨S', s', h1, RunS.snoc h2 hs⟩
theorem lines_t1 (hc : c < 16) (hv : v < 8) (hr : r < 8) : linesOf (t1 c v r) = [seeL 0 c v, seeL 1 c v, seeL 2 c v, calmL r, wTrace] := by
  have h0 : (10 : UInt8) ∉ seeL 0 c v := (see_facts 0 ⟨c, hc⟩ ⟨v, hv⟩).2.2.1
  have h1 : (10 : UInt8) ∉ seeL 1 c v := (see_facts 1 ⟨c, hc⟩ ⟨v, hv⟩).2.2.1
  have h2 : (10 : UInt8) ∉ seeL 2 c v := (see_facts 2 ⟨c, hc⟩ ⟨v, hv⟩).2.2.1
  have h3 : (10 : UInt8) ∉ calmL r := (calm_facts ⟨r, hr⟩).2.2.1
  have e : Lib.trimSuffix (t1 c v r) [10] = t1 c v r := by
    unfold Lib.trimSuffix
    rw [if_neg]
    simp [Lib.hasSuffix, List.isSuffixOf, t1, wTrace]
  unfold linesOf
  rw [e]
  unfold t1
  rw [List.append_assoc, List.singleton_append, splitNl_app _ _ h0, List.append_assoc, List.singleton_append, splitNl_app _ _ h1, List.append_assoc, List.singleton_append, splitNl_app _ _ h2, List.append_assoc, List.singleton_append, splitNl_app _ _ h3, splitNl_one wTrace (by decide)]
structure InS (T : Nat) (S : SY) : Prop where
  cl : ClInv L0 WT 3 10 T S
  net : S.net = []
theorem clWT {T : Nat} {S : SY} (h : SInv L0 WT 3 10 T S) : ClInv L0 WT 3 10 T S := ⟨h, fun _ _ _ _ _ => ⟨fun _ _ => trivial, fun _ _ => trivial⟩⟩
theorem InS.new : InS 0 (sy0 10) := ⟨clWT (SInv.new (by omega) (by omega)), rfl⟩
theorem InS.see {T k : Nat} {S : SY} (h : InS T S) (hk : k < 3) (x y : Int) : InS T (seeSy k x y S) := ⟨clWT (h.cl.inv.see hk x y), h.net⟩
theorem InS.calm {T n : Nat} {S S' : SY} (h : InS T S) (hc : calmTo L0 10 n S S') : InS (T + 6 * n) S' := ⟨ClInv.calm L0_ok n T S S' h.cl hc, calm_net n h.net hc⟩
theorem InS.few {T : Nat} {S : SY} (h : InS T S) : S.v.tr.length ≤ 1000 ∧ ∀ d ∈ S.v.tr, CmIn d := by
  refine ⟨h.cl.inv.vok.few, fun d hd => ?_⟩
  obtain ⟨i, hi, rfl⟩ := List.mem_iff_getElem.1 hd
  obtain ⟨x, y, e, h1, h2, _⟩ := h.cl.inv.tr i hi
  have ec : cmAt S.v.tr i = S.v.tr[i] := by unfold cmAt; rw [List.getElem?_eq_getElem hi]; rfl
  rw [ec] at e
  rw [e]
  have h3 : outOf L0 (stAt L0 S.v.tr i) (x : Int) (y : Int) < 2 ^ 3 := showTo_lt _ _ _ _ _ _ (by decide)
  have h1' : x < 16 := h1
  have h2' : y < 8 := h2
  have i1 : IntIn (x : Int) := intIn_small (by omega) (by omega)
  have i2 : IntIn (y : Int) := intIn_small (by omega) (by omega)
  have i3 : IntIn ((outOf L0 (stAt L0 S.v.tr i) (x : Int) (y : Int) : Nat) : Int) := intIn_small (by omega) (by omega)
  exact ⟨i1, i2, i3⟩
theorem trace_few {tr : List Cm} (h : tr.length ≤ 1000) (hin : ∀ d ∈ tr, CmIn d) : (traceF tr).length ≤ 100000 := by
  have hjs := join_short (tr.map cmT) [44, 32] 100 fun x hx => by
    obtain ⟨d, hd, rfl⟩ := List.mem_map.1 hx
    obtain ⟨q0, q1, q2⟩ := hin d hd
    have := join_few [d.c, d.v, d.o] (fun z hz => by
      simp only [List.mem_cons, List.not_mem_nil, or_false] at hz
      rcases hz with rfl | rfl | rfl
      · exact q0
      · exact q1
      · exact q2)
    unfold cmT
    simp at this ⊢
    omega
  rw [List.length_map] at hjs
  unfold traceF
  omega
def RelS (c v r : Nat) (pre : List {x : List UInt8 // x ∈ linesOf (t1 c v r)}) (S : SY) (l : List UInt8) : Prop :=
  RunS c v r (pre.map Subtype.val) (sy0 10) [] S l ∧ InS (42 * pre.length) S ∧ l.length ≤ 200000 * pre.length ∧ pre.length ≤ 5
theorem RelS.step {pre : List {x : List UInt8 // x ∈ linesOf (t1 c v r)}} {S S' : SY} {l s : List UInt8} (h : RelS c v r pre S l) (x : {x : List UInt8 // x ∈ linesOf (t1 c v r)}) (hs : StepS c v r x.1 S S' s) (hI : InS (42 * (pre.length + 1)) S') (hl : s.length ≤ 100000) (hp : pre.length < 5) : RelS c v r (pre ++ [x]) S' (l ++ s ++ [10]) := by
  obtain ⟨h1, _, h3, _⟩ := h
  refine ⟨?_, ?_, ?_, ?_⟩
  · rw [List.map_append]
    exact h1.snoc hs
  · rw [List.length_append]; exact hI
  · simp only [List.length_append, List.length_cons, List.length_nil]; omega
  · simp only [List.length_append, List.length_cons, List.length_nil]; omega
theorem InS.le {T U : Nat} {S : SY} (h : InS T S) (hTU : T ≤ U) : InS U S := ⟨clWT (h.cl.inv.later hTU), h.net⟩
end Go.Proofs.YtaablbmgagiajabGreatDoor
namespace Go.Proofs.YtaablbmgagiajabGreatDoor
open Go.RowKit Go.Deep
set_option maxHeartbeats 1000000 in
theorem sees_ans {c v r : Nat} (hc : c < 16) (hv : v < 8) (hr : r < 8) : AnsOk (t1 c v r) (RelS c v r) := by
  rintro pre ⟨x, hx⟩ S l W N cc D hR hlen hdk
  have h5 : (linesOf (t1 c v r)).length = 5 := by rw [lines_t1 hc hv hr]; rfl
  have hp : pre.length < 5 := by omega
  have hI := hR.2.1
  have hin := hI.few
  have hx' := hx
  rw [lines_t1 hc hv hr] at hx'
  simp only [List.mem_cons, List.not_mem_nil, or_false] at hx'
  have see : ∀ k, k < 3 → x = seeL k c v → Calls Tryz.prog 61 #[.pointer (some ⟨cc.d, 0, none⟩), .string (txt x)] W fun e W' => ∃ s S' D', e = .returned (.string (txt s)) ∧ RelS c v r (pre ++ [⟨x, hx⟩]) S' (l ++ s ++ [10]) ∧ DkIs W' N cc D' L0 10 S' ∧ Mod W W' (Wr D) ∧ Gr W.heap.size D D' := by
    intro k hk e
    obtain ⟨f1, f2, _, f4⟩ := see_facts ⟨k, hk⟩ ⟨c, hc⟩ ⟨v, hv⟩
    refine (ans_does (fun S' => S' = seeSy k (c : Int) (v : Int) S) x wSee wSee _ hdk (by rw [e]; exact Nat.le_trans f4 (by decide)) (by rw [e]; exact f1) 3 3 154 _ rfl (by simp) (by simp) f2 (enters_of Tryz.func154 (by kernel_rfl) rfl) fun V M h hsl => ?_).mono ?_
    · have hrow : Row V M 0 [(k : Int), (c : Int), (v : Int)] := by
        rcases hsl.2.2 with e | ⟨b, o, e1, _, hr⟩
        · cases e
        · simp only [Option.some.injEq, Addr.mk.injEq] at e1
          obtain ⟨rfl, rfl, _⟩ := e1
          exact hr
      refine (see_ord V M 0 3 k (c : Int) (v : Int) h hk hrow).mono ?_
      rintro e V' ⟨rfl, hg⟩
      exact ⟨rfl, _, rfl, (hI.see hk _ _).net, hg⟩
    · rintro e W' ⟨rfl, S', rfl, D', g1, g2, g3⟩
      exact ⟨_, _, D', rfl, hR.step ⟨x, hx⟩ (.inl ⟨k, hk, e, rfl, rfl⟩) ((hI.see hk _ _).le (by omega)) (by decide) hp, g1, g2, g3⟩
  rcases hx' with e | e | e | e | e
  · exact see 0 (by omega) e
  · exact see 1 (by omega) e
  · exact see 2 (by omega) e
  · obtain ⟨f1, f2, _, f4⟩ := calm_facts ⟨r, hr⟩
    refine (ans_does (fun S' => calmTo L0 10 r S S') x wCalm wCalm _ hdk (by rw [e]; exact Nat.le_trans f4 (by decide)) (by rw [e]; exact f1) 1 1 144 _ rfl (by simp) (by simp) f2 (enters_of Tryz.func144 (by kernel_rfl) rfl) fun V M h hsl => ?_).mono ?_
    · have hrow : Row V M 0 [(r : Int)] := by
        rcases hsl.2.2 with e | ⟨b, o, e1, _, hr⟩
        · cases e
        · simp only [Option.some.injEq, Addr.mk.injEq] at e1
          obtain ⟨rfl, rfl, _⟩ := e1
          exact hr
      refine (calm_ord V M 0 1 r h (by omega) hrow hI.cl L0_ok (by omega)).mono ?_
      rintro e V' ⟨rfl, S', h1, h2, hg⟩
      exact ⟨rfl, S', h1, calm_net r hI.net h1, hg⟩
    · rintro e' W' ⟨rfl, S', hS', D', g1, g2, g3⟩
      exact ⟨_, _, D', rfl, hR.step ⟨x, hx⟩ (.inr (.inl ⟨e, hS', rfl⟩)) ((hI.calm hS').le (by omega)) (by decide) hp, g1, g2, g3⟩
  · refine (ans_tells x wTrace (traceF S.v.tr) [] hdk (by rw [e]; decide) (by rw [e]; exact words_trace) 0 0 157 [] rfl (by decide) (by decide) say_nil (enters_of Tryz.func157 (by kernel_rfl) rfl) fun V a h => trace_ord V a h hI.cl.inv.vok (by omega) hin.2).mono ?_
    rintro e' W' ⟨rfl, D', g1, g2, g3⟩
    exact ⟨_, _, D', rfl, hR.step ⟨x, hx⟩ (.inr (.inr ⟨e, rfl, rfl⟩)) (hI.le (by omega)) (trace_few hin.1 hin.2) hp, g1, g2, g3⟩
theorem itoa3 : ∀ k : Fin 3, (Lib.itoa ((k : Nat) : Int))[0]? = some (48 + UInt8.ofNat k) ∧ (Lib.itoa ((k : Nat) : Int)).length = 1 := of_decide_eq_true (by kernel_rfl)
theorem see_inj {k k' c v : Nat} (hk : k < 3) (hk' : k' < 3) (e : seeL k c v = seeL k' c v) : k = k' := by
  have h1 := (itoa3 ⟨k, hk⟩)
  have h2 := (itoa3 ⟨k', hk'⟩)
  have e4 := congrArg (fun l : List UInt8 => l[4]?) e
  have s1 : (seeL k c v)[4]? = some (48 + UInt8.ofNat k) := by
    unfold seeL
    simp only [List.append_assoc]
    rw [List.getElem?_append_right (by simp), List.getElem?_append_left (by rw [h1.2]; simp)]
    exact h1.1
  have s2 : (seeL k' c v)[4]? = some (48 + UInt8.ofNat k') := by
    unfold seeL
    simp only [List.append_assoc]
    rw [List.getElem?_append_right (by simp), List.getElem?_append_left (by rw [h2.2]; simp)]
    exact h2.1
  rw [s1, s2] at e4
  have hd : ∀ a b : Fin 3, some ((48 : UInt8) + UInt8.ofNat a) = some (48 + UInt8.ofNat b) → a = b := by decide
  exact congrArg Fin.val (hd ⟨k, hk⟩ ⟨k', hk'⟩ e4)
theorem see_ne_calm {k c v r : Nat} (e : seeL k c v = calmL r) : False := by
  have := congrArg List.head? e
  simp [seeL, calmL] at this
theorem see_ne_trace {k c v : Nat} (e : seeL k c v = wTrace) : False := by
  have := congrArg List.head? e
  simp [seeL, wTrace] at this
theorem calm_ne_trace {r : Nat} (e : calmL r = wTrace) : False := by
  have := congrArg List.head? e
  simp [calmL, wTrace] at this
theorem step_see {k c v r : Nat} {A A' : SY} {s : List UInt8} (hk : k < 3) (h : StepS c v r (seeL k c v) A A' s) : A' = seeSy k (c : Int) (v : Int) A ∧ s = wSee := by
  rcases h with ⟨k', hk', e, e1, e2⟩ | ⟨e, _⟩ | ⟨e, _⟩
  · obtain rfl := see_inj hk hk' e
    exact ⟨e1, e2⟩
  · exact (see_ne_calm e).elim
  · exact (see_ne_trace e).elim
theorem step_calm {c v r : Nat} {A A' : SY} {s : List UInt8} (h : StepS c v r (calmL r) A A' s) : calmTo L0 10 r A A' ∧ s = wCalm := by
  rcases h with ⟨k', hk', e, _⟩ | ⟨_, e1, e2⟩ | ⟨e, _⟩
  · exact (see_ne_calm e.symm).elim
  · exact ⟨e1, e2⟩
  · exact (calm_ne_trace e).elim
theorem step_trace {c v r : Nat} {A A' : SY} {s : List UInt8} (h : StepS c v r wTrace A A' s) : A' = A ∧ s = traceF A.v.tr := by
  rcases h with ⟨k', hk', e, _⟩ | ⟨e, _⟩ | ⟨_, e1, e2⟩
  · exact (see_ne_trace e.symm).elim
  · exact (calm_ne_trace e.symm).elim
  · exact ⟨e1, e2⟩
theorem sees_session {c v r : Nat} (hc : c < 16) (hv : v < 8) (hr : r < 8) {Z : SY} (hZ : calmTo L0 10 r (seeSy 2 (c : Int) (v : Int) (seeSy 1 (c : Int) (v : Int) (seeSy 0 (c : Int) (v : Int) (sy0 10)))) Z) (w : World) (hn : HasNum w) (h7 : 7 ≤ w.heap.size) :
    Calls Tryz.prog 23 #[.string (txt (t1 c v r))] w fun e w' => e = .returned (.string (txt (wSee ++ [10] ++ wSee ++ [10] ++ wSee ++ [10] ++ wCalm ++ [10] ++ traceF Z.v.tr ++ [10]))) ∧ Below w.heap.size w w' := by
  have hlen : (t1 c v r).length ≤ 20000 := by
    have f0 : (seeL 0 c v).length ≤ 20 := (see_facts 0 ⟨c, hc⟩ ⟨v, hv⟩).2.2.2
    have f1 : (seeL 1 c v).length ≤ 20 := (see_facts 1 ⟨c, hc⟩ ⟨v, hv⟩).2.2.2
    have f2 : (seeL 2 c v).length ≤ 20 := (see_facts 2 ⟨c, hc⟩ ⟨v, hv⟩).2.2.2
    have f3 : (calmL r).length ≤ 20 := (calm_facts ⟨r, hr⟩).2.2.2
    unfold t1 wTrace
    simp only [List.length_append, List.length_cons, List.length_nil]
    omega
  refine (session_any (t1 c v r) w hlen hn h7 (RelS c v r) ⟨⟨rfl, rfl⟩, InS.new, by simp, by simp⟩ (fun pre S l h => ⟨h.2.1.net, by have := h.2.2.1; have := h.2.2.2; omega⟩) (sees_ans hc hv hr)).mono ?_
  rintro e w' ⟨⟨xs, S, l, hxs, hR, rfl⟩, hB⟩
  refine ⟨?_, hB⟩
  have hrun := hR.1
  rw [hxs, lines_t1 hc hv hr] at hrun
  obtain ⟨S1, s1, a1, S2, s2, a2, S3, s3, a3, S4, s4, a4, S5, s5, a5, rfl, rfl⟩ := hrun
  obtain ⟨rfl, rfl⟩ := step_see (by omega) a1
  obtain ⟨rfl, rfl⟩ := step_see (by omega) a2
  obtain ⟨rfl, rfl⟩ := step_see (by omega) a3
  obtain ⟨b4, rfl⟩ := step_calm a4
  obtain ⟨rfl, rfl⟩ := step_trace a5
  obtain rfl := calm_det r hZ b4
  simp
end Go.Proofs.YtaablbmgagiajabGreatDoor
namespace Go.Proofs.YtaablbmgagiajabGreatDoor
open Go.RowKit Go.Deep
theorem dig_small : ∀ n : Fin 10, Lib.itoa ((n : Nat) : Int) = [UInt8.ofNat (48 + n)] := of_decide_eq_true (by kernel_rfl)
set_option maxRecDepth 20000 in
set_option maxHeartbeats 1000000 in
theorem digits_one (n : Nat) (hn : n < 10) (w : World) : Calls Tryz.prog 26 #[.int .i64 (n : Int)] w fun e w' => e = .returned (.string (txt (Lib.itoa (n : Int)))) ∧ Below w.heap.size w w' := by
  have hc : n = 0 ∨ n = 1 ∨ n = 2 ∨ n = 3 ∨ n = 4 ∨ n = 5 ∨ n = 6 ∨ n = 7 ∨ n = 8 ∨ n = 9 := by omega
  have hd := dig_small ⟨n, hn⟩
  dsimp only at hd
  rw [hd]
  clear hd hn
  have hcv : ∀ q : UInt8, (convert 37 9 (.slice (some ⟨w.heap.size, 0, none⟩) 1 1)).run Tryz.prog (w.alloc (.cells #[.int .u8 (q.toNat : Int)] 5)) = .ok (.string (txt [q])) (w.alloc (.cells #[.int .u8 (q.toNat : Int)] 5)) := fun q =>
    run_convert_bytes_back _ 37 9 5 ⟨w.heap.size, 0, none⟩ 1 [q] Tryz.underlying37 Tryz.underlying5 Tryz.underlying9 (by
      intro i hi
      have h0 : i = 0 := by simpa using hi
      subst h0
      exact World.cell?_alloc_at _ _ _ _ rfl)
  have hB : ∀ o, Below w.heap.size w (w.alloc o) := fun o => (Below.refl _ _).alloc (Nat.le_refl _) _
  rcases hc with rfl | rfl | rfl | rfl | rfl | rfl | rfl | rfl | rfl | rfl
  · have hv : (convert 37 9 (.slice (some ⟨w.heap.size, 0, none⟩) 1 1)).run Tryz.prog (w.alloc (.cells #[.int .u8 48] 5)) = .ok (.string ⟨#[48]⟩) (w.alloc (.cells #[.int .u8 48] 5)) := hcv 48
    go_enter Tryz.func26, Tryz.ntmps26
    go_wp2
    go_ret
    exact ⟨rfl, hB _⟩
  · have hv : (convert 37 9 (.slice (some ⟨w.heap.size, 0, none⟩) 1 1)).run Tryz.prog (w.alloc (.cells #[.int .u8 49] 5)) = .ok (.string ⟨#[49]⟩) (w.alloc (.cells #[.int .u8 49] 5)) := hcv 49
    go_enter Tryz.func26, Tryz.ntmps26
    go_wp2
    go_ret
    exact ⟨rfl, hB _⟩
  · have hv : (convert 37 9 (.slice (some ⟨w.heap.size, 0, none⟩) 1 1)).run Tryz.prog (w.alloc (.cells #[.int .u8 50] 5)) = .ok (.string ⟨#[50]⟩) (w.alloc (.cells #[.int .u8 50] 5)) := hcv 50
    go_enter Tryz.func26, Tryz.ntmps26
    go_wp2
    go_ret
    exact ⟨rfl, hB _⟩
  · have hv : (convert 37 9 (.slice (some ⟨w.heap.size, 0, none⟩) 1 1)).run Tryz.prog (w.alloc (.cells #[.int .u8 51] 5)) = .ok (.string ⟨#[51]⟩) (w.alloc (.cells #[.int .u8 51] 5)) := hcv 51
    go_enter Tryz.func26, Tryz.ntmps26
    go_wp2
    go_ret
    exact ⟨rfl, hB _⟩
  · have hv : (convert 37 9 (.slice (some ⟨w.heap.size, 0, none⟩) 1 1)).run Tryz.prog (w.alloc (.cells #[.int .u8 52] 5)) = .ok (.string ⟨#[52]⟩) (w.alloc (.cells #[.int .u8 52] 5)) := hcv 52
    go_enter Tryz.func26, Tryz.ntmps26
    go_wp2
    go_ret
    exact ⟨rfl, hB _⟩
  · have hv : (convert 37 9 (.slice (some ⟨w.heap.size, 0, none⟩) 1 1)).run Tryz.prog (w.alloc (.cells #[.int .u8 53] 5)) = .ok (.string ⟨#[53]⟩) (w.alloc (.cells #[.int .u8 53] 5)) := hcv 53
    go_enter Tryz.func26, Tryz.ntmps26
    go_wp2
    go_ret
    exact ⟨rfl, hB _⟩
  · have hv : (convert 37 9 (.slice (some ⟨w.heap.size, 0, none⟩) 1 1)).run Tryz.prog (w.alloc (.cells #[.int .u8 54] 5)) = .ok (.string ⟨#[54]⟩) (w.alloc (.cells #[.int .u8 54] 5)) := hcv 54
    go_enter Tryz.func26, Tryz.ntmps26
    go_wp2
    go_ret
    exact ⟨rfl, hB _⟩
  · have hv : (convert 37 9 (.slice (some ⟨w.heap.size, 0, none⟩) 1 1)).run Tryz.prog (w.alloc (.cells #[.int .u8 55] 5)) = .ok (.string ⟨#[55]⟩) (w.alloc (.cells #[.int .u8 55] 5)) := hcv 55
    go_enter Tryz.func26, Tryz.ntmps26
    go_wp2
    go_ret
    exact ⟨rfl, hB _⟩
  · have hv : (convert 37 9 (.slice (some ⟨w.heap.size, 0, none⟩) 1 1)).run Tryz.prog (w.alloc (.cells #[.int .u8 56] 5)) = .ok (.string ⟨#[56]⟩) (w.alloc (.cells #[.int .u8 56] 5)) := hcv 56
    go_enter Tryz.func26, Tryz.ntmps26
    go_wp2
    go_ret
    exact ⟨rfl, hB _⟩
  · have hv : (convert 37 9 (.slice (some ⟨w.heap.size, 0, none⟩) 1 1)).run Tryz.prog (w.alloc (.cells #[.int .u8 57] 5)) = .ok (.string ⟨#[57]⟩) (w.alloc (.cells #[.int .u8 57] 5)) := hcv 57
    go_enter Tryz.func26, Tryz.ntmps26
    go_wp2
    go_ret
    exact ⟨rfl, hB _⟩
theorem dig_two : ∀ n : Fin 6, Lib.itoa ((10 + (n : Nat) : Nat) : Int) = Lib.itoa ((1 : Nat) : Int) ++ Lib.itoa ((n : Nat) : Int) ∧ (Lib.itoa ((n : Nat) : Int)).length = 1 := of_decide_eq_true (by kernel_rfl)
set_option maxRecDepth 20000 in
set_option maxHeartbeats 1000000 in
theorem digits_any (n : Nat) (hn : n < 16) (w : World) : Calls Tryz.prog 26 #[.int .i64 (n : Int)] w fun e w' => e = .returned (.string (txt (Lib.itoa (n : Int)))) ∧ Below w.heap.size w w' := by
  by_cases h : n < 10
  · exact digits_one n h w
  · obtain ⟨m, rfl⟩ := Nat.exists_eq_add_of_le (Nat.le_of_not_lt h)
    have hm : m < 6 := by omega
    obtain ⟨e1, e2⟩ := dig_two ⟨m, hm⟩
    dsimp only at e1 e2
    rw [e1]
    have H1 := hide (fun W => digits_one 1 (by omega) W)
    have H2 := hide (fun W => digits_one m (by omega) W)
    have hl : (Lib.itoa ((1 : Nat) : Int)).length = 1 := by decide +kernel
    have hni : ¬ 9223372036854775807 < (Lib.itoa ((1 : Nat) : Int)).length + (Lib.itoa ((m : Nat) : Int)).length := by omega
    clear e1 e2 hn h
    have hc : m = 0 ∨ m = 1 ∨ m = 2 ∨ m = 3 ∨ m = 4 ∨ m = 5 := by omega
    rcases hc with rfl | rfl | rfl | rfl | rfl | rfl
    all_goals
      go_enter Tryz.func26, Tryz.ntmps26
      go_wp2_with fail
      refine (H1.out _).mono ?_
      rintro e w1 ⟨rfl, hB1⟩
      go_wp2_with fail
      refine (H2.out _).mono ?_
      rintro e w2 ⟨rfl, hB2⟩
      go_wp2
      go_ret
      exact ⟨by rw [← txt_add]; rfl, hB1.trans (hB2.mono hB1.size)⟩
end Go.Proofs.YtaablbmgagiajabGreatDoor
namespace Go.Proofs.YtaablbmgagiajabGreatDoor
open Go.RowKit Go.Deep
theorem cmT_eq (d : Cm) : cmT d = Lib.itoa d.c ++ [32] ++ Lib.itoa d.v ++ [32] ++ Lib.itoa d.o := by
  unfold cmT spF
  simp [Lib.join, List.intercalate, List.intersperse]
theorem join_snoc (sep x : List UInt8) : ∀ (l : List (List UInt8)), l ≠ [] → Lib.join (l ++ [x]) sep = Lib.join l sep ++ sep ++ x
  | [], h => absurd rfl h
  | [a], _ => by simp [Lib.join, List.intercalate, List.intersperse]
  | a :: b :: l, _ => by
    have ih := join_snoc sep x (b :: l) (by simp)
    have e1 : Lib.join (a :: b :: l ++ [x]) sep = a ++ sep ++ Lib.join (b :: l ++ [x]) sep := by
      cases l <;> simp [Lib.join, List.intercalate, List.intersperse]
    have e2 : Lib.join (a :: b :: l) sep = a ++ sep ++ Lib.join (b :: l) sep := by
      cases l <;> simp [Lib.join, List.intercalate, List.intersperse]
    rw [e1, e2, ih]
    simp
theorem traceF_one (d : Cm) : traceF [d] = cmT d := by simp [traceF, Lib.join, List.intercalate]
theorem traceF_snoc (l : List Cm) (d : Cm) (h : l ≠ []) : traceF (l ++ [d]) = traceF l ++ [44, 32] ++ cmT d := by
  unfold traceF
  rw [List.map_append]
  exact join_snoc _ _ _ (by simpa using h)
def seesT (c v : Nat) : Nat → List UInt8
  | 0 => []
  | k + 1 => seesT c v k ++ (seeL k c v ++ [10])
theorem seesT_t1 (c v r : Nat) : seesT c v 3 ++ [99, 97, 108, 109, 32] ++ Lib.itoa (r : Int) ++ [10, 116, 114, 97, 99, 101] = t1 c v r := by
  simp [seesT, t1, calmL, wTrace]
end Go.Proofs.YtaablbmgagiajabGreatDoor
namespace Go.Proofs.YtaablbmgagiajabGreatDoor
open Go.RowKit Go.Deep
def LwAt (w : World) (p : Nat) (x y : Int) (S : SY) (Y : World) : Prop :=
  ∃ N D, D.p = p ∧ SyIs Y N D L0 10 S ∧ w.heap.size < N ∧ N ≤ Y.heap.size ∧ Below w.heap.size w Y ∧ Y.heap[w.heap.size]? = some (.cells #[.int .i64 x, .int .i64 y] 31 (0, 0))
section
variable {w Y Y' : World} {p : Nat} {x y : Int} {S : SY}
theorem LwAt.below (h : LwAt w p x y S Y) (hB : Below Y.heap.size Y Y') : LwAt w p x y S Y' := by
  obtain ⟨N, D, e, hS, h1, h2, h3, h4⟩ := h
  exact ⟨N, D, e, hS.below hB, h1, Nat.le_trans h2 hB.size, h3.trans (hB.mono h3.size), (hB.block _ (blk_lt h4)).trans h4⟩
theorem LwAt.drew (h : LwAt w p x y S Y) : LwAt w p x y S Y.drew := h.below (Below.refl _ _).drew
theorem LwAt.old (h : LwAt w p x y S Y) : Below w.heap.size w Y := by
  obtain ⟨N, D, e, hS, h1, h2, h3, h4⟩ := h
  exact h3
theorem LwAt.cells (h : LwAt w p x y S Y) : Y.cell? ⟨w.heap.size, 0, none⟩ = some (.int .i64 x) ∧ Y.cell? ⟨w.heap.size, 1, none⟩ = some (.int .i64 y) := by
  obtain ⟨_, _, _, _, _, _, _, h4⟩ := h
  exact ⟨blk_cell h4 0, blk_cell h4 1⟩
theorem LwAt.free (h : LwAt w p x y S Y) : Y.frozen? ⟨w.heap.size, 0, none⟩ = false ∧ Y.frozen? ⟨w.heap.size, 1, none⟩ = false := by
  obtain ⟨_, _, _, _, _, _, _, h4⟩ := h
  exact ⟨blk_free h4 0, blk_free h4 1⟩
theorem LwAt.put (h : LwAt w p x y S Y) (hn : S.net = []) (c v : Int) : LwAt w p c v S ((Y.setCell ⟨w.heap.size, 0, none⟩ (.int .i64 c)).setCell ⟨w.heap.size, 1, none⟩ (.int .i64 v)) := by
  obtain ⟨N, D, e, hS, h1, h2, h3, h4⟩ := h
  have hm : Mod Y ((Y.setCell ⟨w.heap.size, 0, none⟩ (.int .i64 c)).setCell ⟨w.heap.size, 1, none⟩ (.int .i64 v)) (· = w.heap.size) :=
    ((Mod.refl Y (· = w.heap.size)).set ⟨w.heap.size, 0, none⟩ _ (fun _ => rfl)).set ⟨w.heap.size, 1, none⟩ _ (fun _ => rfl)
  refine ⟨N, D, e, hS.others hm (fun k hk => ?_) (fun i hi => by rw [hn] at hi; cases hi), h1, Nat.le_trans h2 hm.size, two_sets h3 (Nat.le_refl _) _ _, blk_set (blk_set h4 0 _) 1 _⟩
  rcases hk with hk | hk
  · have := hS.base k hk; omega
  · have := hS.sbase k hk; omega
theorem LwAt.go {N : Nat} {D : SC} {S' : SY} (hS : SyIs Y N D L0 10 S) (h1 : w.heap.size < N) (h2 : N ≤ Y.heap.size) (h3 : Below w.heap.size w Y) (h4 : Y.heap[w.heap.size]? = some (.cells #[.int .i64 x, .int .i64 y] 31 (0, 0))) (hg : SyGo Y Y' N D L0 10 S') : LwAt w D.p x y S' Y' := by
  obtain ⟨D', e', hS', hm, _⟩ := hg
  have hb : Below N Y Y' := hm.toBelow h2 (fun k hk hw => by have := hS.base k hw; omega)
  exact ⟨N, D', e', hS', h1, Nat.le_trans h2 hm.size, h3.trans (hb.mono (by omega)), (hb.block _ h1).trans h4⟩
theorem lw_see (h : LwAt w p x y S Y) {k : Nat} (hk : k < 3) (c v : Int) :
    Calls Tryz.prog 18 #[.pointer (some ⟨p, 0, none⟩), .int .i64 (k : Int), .agg #[.int .i64 c, .int .i64 v]] Y fun e w' => e = .returned .nilIface ∧ LwAt w p x y (seeSy k c v S) w' := by
  obtain ⟨N, D, rfl, hS, h1, h2, h3, h4⟩ := h
  refine (sysee_any N D L0 10 S Y k c v hk hS).mono ?_
  rintro e w' ⟨rfl, hg⟩
  exact ⟨rfl, LwAt.go hS h1 h2 h3 h4 hg⟩
theorem lw_calm {T : Nat} (h : LwAt w p x y S Y) (hI : InS T S) (n : Nat) (hT : T + 6 * n < 700000) (hn : n ≤ 1000) :
    Calls Tryz.prog 16 #[.pointer (some ⟨p, 0, none⟩), .int .i64 (n : Int)] Y fun e w' => e = .returned (.tuple #[]) ∧ ∃ S', calmTo L0 10 n S S' ∧ InS (T + 6 * n) S' ∧ LwAt w p x y S' w' := by
  obtain ⟨N, D, rfl, hS, h1, h2, h3, h4⟩ := h
  refine (calm_any N D L0 10 S Y n hS hI.cl L0_ok (by omega) hn h2).mono ?_
  rintro e w' ⟨rfl, S', hc, _, hg⟩
  exact ⟨rfl, S', hc, hI.calm hc, LwAt.go hS h1 h2 h3 h4 hg⟩
theorem lw_trace {T : Nat} (h : LwAt w p x y S Y) (hI : InS T S) :
    Calls Tryz.prog 13 #[.pointer (some ⟨p, 0, none⟩)] Y fun e w' => (∃ v, e = .returned v ∧ TIs w' Y.heap.size v S.v.tr) ∧ Below Y.heap.size Y w' := by
  obtain ⟨N, D, rfl, hS, h1, h2, h3, h4⟩ := h
  exact strace_any N D L0 10 S Y hS hI.cl.inv.vok
end
theorem InS.small {T : Nat} {S : SY} (h : InS T S) (i : Nat) (hi : i < S.v.tr.length) : ∃ a b o : Nat, a < 16 ∧ b < 8 ∧ o < 8 ∧ cmAt S.v.tr i = ⟨(a : Int), (b : Int), (o : Int)⟩ := by
  obtain ⟨x, y, e, h1, h2, _⟩ := h.cl.inv.tr i hi
  have h3 : outOf L0 (stAt L0 S.v.tr i) (x : Int) (y : Int) < 2 ^ 3 := showTo_lt _ _ _ _ _ _ (by decide)
  exact ⟨x, y, _, h1, h2, h3, e⟩
theorem trace_more (tr : List Cm) (k : Nat) (hk : k < tr.length) : traceF (tr.take (k + 1)) = (if k = 0 then [] else traceF (tr.take k) ++ [44, 32]) ++ cmT (cmAt tr k) := by
  have e : tr.take (k + 1) = tr.take k ++ [cmAt tr k] := by
    rw [List.take_add_one, List.getElem?_eq_getElem hk]
    unfold cmAt
    rw [List.getElem?_eq_getElem hk]
    rfl
  rw [e]
  cases k with
  | zero => simp [traceF_one]
  | succ k =>
    rw [traceF_snoc _ _ (by intro h0; have := congrArg List.length h0; rw [List.length_take, List.length_nil] at this; omega)]
    simp
def seesSy (c v : Nat) : Nat → SY
  | 0 => sy0 10
  | k + 1 => seeSy k (c : Int) (v : Int) (seesSy c v k)
theorem InS.sees (c v : Nat) : ∀ k, k ≤ 3 → InS 0 (seesSy c v k)
  | 0, _ => InS.new
  | k + 1, h => (InS.sees c v k (by omega)).see (by omega) _ _
theorem itoa_two : ∀ k : Fin 16, (Lib.itoa ((k : Nat) : Int)).length ≤ 2 := of_decide_eq_true (by kernel_rfl)
theorem itoa_le {k : Nat} (hk : k < 16) : (Lib.itoa (k : Int)).length ≤ 2 := itoa_two ⟨k, hk⟩
theorem seesT_len {c v : Nat} (hc : c < 16) (hv : v < 8) : ∀ k, k ≤ 3 → (seesT c v k).length ≤ 20 * k
  | 0, _ => Nat.le_refl _
  | k + 1, h => by
    have ih := seesT_len hc hv k (by omega)
    have h1 := itoa_le (k := k) (by omega)
    have h2 := itoa_le (k := c) (by omega)
    have h3 := itoa_le (k := v) (by omega)
    unfold seesT seeL
    simp only [List.length_append, List.length_cons, List.length_nil]
    omega
theorem seesT_txt (c v k : Nat) : txt (seesT c v (k + 1)) = txt (seesT c v k) ++ (⟨#[115, 101, 101, 32]⟩ ++ txt (Lib.itoa (k : Int)) ++ ⟨#[32]⟩ ++ txt (Lib.itoa (c : Int)) ++ ⟨#[32]⟩ ++ txt (Lib.itoa (v : Int)) ++ ⟨#[10]⟩) := by
  show txt (seesT c v (k + 1)) = txt (seesT c v k) ++ (txt [115, 101, 101, 32] ++ txt (Lib.itoa (k : Int)) ++ txt [32] ++ txt (Lib.itoa (c : Int)) ++ txt [32] ++ txt (Lib.itoa (v : Int)) ++ txt [10])
  simp only [txt_add]
  rfl
theorem t1_txt (c v r : Nat) : txt (seesT c v 3) ++ ⟨#[99, 97, 108, 109, 32]⟩ ++ txt (Lib.itoa (r : Int)) ++ ⟨#[10, 116, 114, 97, 99, 101]⟩ = txt (t1 c v r) := by
  show txt (seesT c v 3) ++ txt [99, 97, 108, 109, 32] ++ txt (Lib.itoa (r : Int)) ++ txt [10, 116, 114, 97, 99, 101] = txt (t1 c v r)
  rw [← seesT_t1]
  simp only [txt_add]
theorem said_txt (l : List UInt8) : txt (wSee ++ [10] ++ wSee ++ [10] ++ wSee ++ [10] ++ wCalm ++ [10] ++ l ++ [10]) = ⟨#[115, 101, 101, 10, 115, 101, 101, 10, 115, 101, 101, 10, 99, 97, 108, 109, 10]⟩ ++ txt l ++ ⟨#[10]⟩ := by
  show _ = txt [115, 101, 101, 10, 115, 101, 101, 10, 115, 101, 101, 10, 99, 97, 108, 109, 10] ++ txt l ++ txt [10]
  simp only [txt_add]
  rfl
theorem trace_txt0 (tr : List Cm) (k : Nat) (hk : k < tr.length) (h0 : k = 0) {a b o : Nat} (e : cmAt tr k = ⟨(a : Int), (b : Int), (o : Int)⟩) : txt (traceF (tr.take (k + 1))) = txt (traceF (tr.take k)) ++ (txt (Lib.itoa (a : Int)) ++ ⟨#[32]⟩ ++ txt (Lib.itoa (b : Int)) ++ ⟨#[32]⟩ ++ txt (Lib.itoa (o : Int))) := by
  subst h0
  show _ = txt [] ++ (txt (Lib.itoa (a : Int)) ++ txt [32] ++ txt (Lib.itoa (b : Int)) ++ txt [32] ++ txt (Lib.itoa (o : Int)))
  rw [trace_more tr 0 hk, cmT_eq, e]
  simp only [txt_add]
  simp
theorem trace_txt (tr : List Cm) (k : Nat) (hk : k < tr.length) (h0 : k ≠ 0) {a b o : Nat} (e : cmAt tr k = ⟨(a : Int), (b : Int), (o : Int)⟩) : txt (traceF (tr.take (k + 1))) = txt (traceF (tr.take k)) ++ ⟨#[44, 32]⟩ ++ (txt (Lib.itoa (a : Int)) ++ ⟨#[32]⟩ ++ txt (Lib.itoa (b : Int)) ++ ⟨#[32]⟩ ++ txt (Lib.itoa (o : Int))) := by
  show _ = txt (traceF (tr.take k)) ++ txt [44, 32] ++ (txt (Lib.itoa (a : Int)) ++ txt [32] ++ txt (Lib.itoa (b : Int)) ++ txt [32] ++ txt (Lib.itoa (o : Int)))
  rw [trace_more tr k hk, cmT_eq, e, if_neg h0]
  simp only [txt_add]
theorem InS.takeLen {T : Nat} {S : SY} (h : InS T S) (k : Nat) : (traceF (S.v.tr.take k)).length ≤ 100000 := by
  obtain ⟨h1, h2⟩ := h.few
  exact trace_few (by rw [List.length_take]; omega) fun d hd => h2 d (List.mem_of_mem_take hd)
end Go.Proofs.YtaablbmgagiajabGreatDoor
