/- The reference's maps: who is out (ints to bools), and votes (ints to what is committed). -/
import Derived.Test.YtbiacknbaefccaaDoorVtEq
import Derived.Test.YtbiacknbaefccaaDoorLeaf
import Derived.Maps.OwnSet
import Derived.Maps.RangeWalk
namespace Go.Proofs.YtbiacknbaefccaaDoor
open Go.RowKit Go.Deep Go.Maps

theorem keyI : Keyed Tryd.prog 3 := int_keyed Tryd.underlying3
theorem zeroB (w : World) : (zeroValue 4).run Tryd.prog w = .ok (.bool false) w := by kernel_rfl
theorem pop_put (n U k : Nat) (hk : k < n) : pop n (U ||| 2 ^ k) = pop n U + (if U.testBit k then 0 else 1) := by
  induction n with
  | zero => omega
  | succ n ih =>
    unfold pop
    rw [Nat.testBit_or, two_bit]
    by_cases e : k = n
    · subst e
      have h : pop k (U ||| 2 ^ k) = pop k U := pop_congr k _ _ fun i hi => by rw [Nat.testBit_or, two_bit, decide_eq_false (by omega)]; simp
      rw [h]
      cases U.testBit k <;> simp
    · rw [ih (by omega), decide_eq_false e, Bool.or_false]
      omega
theorem pop_nil (n : Nat) : pop n 0 = 0 := by
  induction n with
  | zero => rfl
  | succ n ih => unfold pop; rw [ih]; simp

/-- Block b is a map that holds just those of a set. -/
def OSet (w : World) (b U : Nat) : Prop := ∃ D : DataW Unit, w.ownsMap Tryd.prog 3 (plainElem Tryd.prog 4) b 8 D ∧
  (∀ k : Nat, k < 8 → D.atKey (.int .i64 (k : Int)) (.lit (.bool false)) = .lit (.bool (U.testBit k)) ∧ Maps.has D (.int .i64 (k : Int)) = U.testBit k) ∧ Maps.size D = pop 8 U
theorem OSet.lt {w : World} {b U : Nat} (h : OSet w b U) : b < w.heap.size := by obtain ⟨D, h1, _⟩ := h; exact h1.lt
theorem OSet.same {w w' : World} {b U : Nat} (h : OSet w b U) (hb : w'.heap[b]? = w.heap[b]?) : OSet w' b U := by
  obtain ⟨D, ⟨es, clock, h0, h1⟩, h2⟩ := h
  exact ⟨D, ⟨es, clock, hb.trans h0, h1⟩, h2⟩
theorem OSet.notCells {w : World} {b U : Nat} {cs : Array Value} {t : TypeId} {f : Nat × Nat} (h : OSet w b U) (hc : w.heap[b]? = some (.cells cs t f)) : False := by
  obtain ⟨D, ⟨es, clock, h0, _⟩, _⟩ := h
  rw [h0] at hc
  cases hc
theorem OSet.made (w : World) : OSet (w.alloc (.map #[] 0)) w.heap.size 0 := by
  refine ⟨.map [], (World.ownsMap_made w _ _ _).mono (by decide), fun k _ => ?_, (pop_nil 8).symm⟩
  rw [Nat.zero_testBit]
  exact ⟨rfl, rfl⟩
theorem litk_ne {k j : Nat} (h : j ≠ k) : (Lit.int .i64 (j : Int)) ≠ .int .i64 (k : Int) := by
  intro e
  injection e with _ e2
  omega
theorem keyK (k : Nat) (hk : k < 8) : keyOf Tryd.prog 3 (.int .i64 (k : Int)) = some (.int .i64 (k : Int)) := keyOf_int_mk Tryd.underlying3 (WalkArith.wf_i64 (by omega))
theorem OSet.put {w : World} {b U k : Nat} (h : OSet w b U) (hk : k < 8) : ∃ w', (Instr.mapUpdate 103 (.map (some b)) (.int .i64 (k : Int)) (.bool true)).run Tryd.prog w = .ok () w' ∧ OSet w' b (U ||| 2 ^ k) ∧ w.grownBy w' (some b) := by
  obtain ⟨D, hw, hD, hs⟩ := h
  obtain ⟨w', hrun, h', hg⟩ := hw.update keyI Tryd.underlying103 (by decide) (keyK k hk) (plainElem_bool Tryd.underlying4 true)
  refine ⟨w', hrun, ?_, hg⟩
  have hsz : Maps.size (D.put (.int .i64 (k : Int)) (.lit (.bool true))) = pop 8 (U ||| 2 ^ k) := by
    rw [Maps.size_put (hw.tidy keyI), (hD k hk).2, hs, pop_put 8 U k hk]
    cases U.testBit k <;> rfl
  refine ⟨_, ?_, fun j hj => ?_, hsz⟩
  · obtain ⟨es, clock, h0, h1, _, h3⟩ := h'
    refine ⟨es, clock, h0, h1, ?_, h3⟩
    have e1 : Maps.size (D.put (.int .i64 (k : Int)) (.lit (.bool true))) = es.size := by rw [h3]; simp [Maps.size, length_sorted]
    rw [← e1, hsz]
    exact pop_le 8 _
  · rw [Nat.testBit_or, two_bit]
    by_cases e : j = k
    · subst e
      rw [Maps.atKey_put_same hw.isMap (by trivial), Maps.has_put_same hw.isMap (by trivial)]
      simp
    · rw [Maps.atKey_put_other (litk_ne e), Maps.has_put_other (litk_ne e), (hD j hj).1, (hD j hj).2, decide_eq_false (by omega)]
      simp
theorem plainB_inv {P : Program} {e : TypeId} (he : P.underlying e = some .bool) {v : Value} {x : Bool} {ps : List MemPlace} (h : plainElem (H := Unit) P e v = some (.lit (.bool x), ps)) : v = .bool x := by
  unfold plainElem at h
  rw [he] at h
  cases v <;> simp at h
  rw [h.1]
theorem OSet.look {w : World} {b U k : Nat} (hS : OSet w b U) (hk : k < 8) : (Instr.lookup 103 (.map (some b)) (.int .i64 (k : Int)) false).run Tryd.prog w = .ok (.bool (U.testBit k)) w := by
  obtain ⟨D, h1, h2, h3⟩ := hS
  obtain ⟨v, ps, hrun, hv⟩ := h1.lookup keyI Tryd.underlying103 (zeroB w) (plainElem_bool Tryd.underlying4 false) (keyK k hk)
  rw [(h2 k hk).1] at hv
  rw [hrun, plainB_inv Tryd.underlying4 hv]
theorem OSet.len {w : World} {b U : Nat} (hS : OSet w b U) (ty : TypeId) : (Builtin.len_ #[103] ty #[.map (some b)]).run Tryd.prog w = .ok (.int .i64 ((pop 8 U : Nat) : Int)) w := by
  obtain ⟨D, h1, h2, h3⟩ := hS
  rw [h1.len Tryd.underlying103 ty, h3]

/-! ### Votes -/
def cmD (d : Cm) : DataW Unit := .agg [.lit (.int .i64 d.c), .lit (.int .i64 d.v), .lit (.int .i64 d.o)]
theorem cmD_inj {a b : Cm} (h : cmD a = cmD b) : a = b := by
  unfold cmD at h
  injection h with h
  cases a; cases b
  simpa using h
def cmVal (d : Cm) : Value := .agg #[.int .i64 d.c, .int .i64 d.v, .int .i64 d.o]
def cmR (v : Value) : Option (DataW Unit × List MemPlace) :=
  match v with
  | .agg ⟨[.int .i64 c, .int .i64 x, .int .i64 o]⟩ => some (cmD ⟨c, x, o⟩, [])
  | _ => none
theorem cmR_mk (d : Cm) : cmR (cmVal d) = some (cmD d, []) := rfl
theorem cmR_inv {v : Value} {y : DataW Unit × List MemPlace} (h : cmR v = some y) : ∃ d, v = cmVal d ∧ y = (cmD d, []) := by
  unfold cmR at h
  split at h
  · simp only [Option.some.injEq] at h
    exact ⟨_, rfl, h.symm⟩
  · cases h
def VD (D : DataW Unit) (b : Nat → Bool) (x : Nat → Cm) : Prop :=
  (∀ k : Nat, k < 3 → Maps.has D (.int .i64 (k : Int)) = b k ∧ (b k = true → ∀ zd, D.atKey (.int .i64 (k : Int)) zd = cmD (x k))) ∧
  (∀ kl, Maps.has D kl = true → ∃ k : Nat, k < 3 ∧ kl = .int .i64 (k : Int)) ∧ Maps.size D = cnt3 b
def Votes (w : World) (m : Nat) (b : Nat → Bool) (x : Nat → Cm) : Prop := ∃ D : DataW Unit, w.ownsMap Tryd.prog 3 cmR m 3 D ∧ VD D b x
theorem Votes.lt {w : World} {m : Nat} {b : Nat → Bool} {x : Nat → Cm} (h : Votes w m b x) : m < w.heap.size := by obtain ⟨D, h1, _⟩ := h; exact h1.lt
theorem Votes.same {w w' : World} {m : Nat} {b : Nat → Bool} {x : Nat → Cm} (h : Votes w m b x) (hb : w'.heap[m]? = w.heap[m]?) : Votes w' m b x := by
  obtain ⟨D, ⟨es, clock, h0, h1⟩, h2⟩ := h
  exact ⟨D, ⟨es, clock, hb.trans h0, h1⟩, h2⟩
theorem Votes.notCells {w : World} {m : Nat} {b : Nat → Bool} {x : Nat → Cm} {cs : Array Value} {t : TypeId} {f : Nat × Nat} (h : Votes w m b x) (hc : w.heap[m]? = some (.cells cs t f)) : False := by
  obtain ⟨D, ⟨es, clock, h0, _⟩, _⟩ := h
  rw [h0] at hc
  cases hc
theorem Votes.made (w : World) (x : Nat → Cm) : Votes (w.alloc (.map #[] 0)) w.heap.size (fun _ => false) x :=
  ⟨.map [], (World.ownsMap_made w _ _ _).mono (by decide), fun k _ => ⟨rfl, fun h => (by cases h)⟩, fun kl h => (by cases h), rfl⟩
theorem cnt3_put (b : Nat → Bool) (k : Nat) (hk : k < 3) : cnt3 (upd b k true) = cnt3 b + (if b k then 0 else 1) := by
  unfold cnt3 upd
  match k, hk with
  | 0, _ => cases b 0 <;> simp <;> omega
  | 1, _ => cases b 1 <;> simp <;> omega
  | 2, _ => cases b 2 <;> simp
theorem cnt3_le (b : Nat → Bool) : cnt3 b ≤ 3 := by
  unfold cnt3
  cases b 0 <;> cases b 1 <;> cases b 2 <;> decide
theorem Votes.put {w : World} {m k : Nat} {b : Nat → Bool} {x : Nat → Cm} (h : Votes w m b x) (hk : k < 3) (d : Cm) : ∃ w', (Instr.mapUpdate 102 (.map (some m)) (.int .i64 (k : Int)) (cmVal d)).run Tryd.prog w = .ok () w' ∧ Votes w' m (upd b k true) (upd x k d) ∧ w.grownBy w' (some m) := by
  obtain ⟨D, hw, hD, hks, hs⟩ := h
  obtain ⟨w', hrun, h', hg⟩ := hw.update keyI Tryd.underlying102 (by decide) (keyK k (by omega)) (cmR_mk d)
  refine ⟨w', hrun, ?_, hg⟩
  have hsz : Maps.size (D.put (.int .i64 (k : Int)) (cmD d)) = cnt3 (upd b k true) := by
    rw [Maps.size_put (hw.tidy keyI), (hD k hk).1, hs, cnt3_put b k hk]
    cases b k <;> rfl
  refine ⟨_, ?_, fun j hj => ?_, fun kl hkl => ?_, hsz⟩
  · obtain ⟨es, clock, h0, h1, _, h3⟩ := h'
    refine ⟨es, clock, h0, h1, ?_, h3⟩
    have e1 : Maps.size (D.put (.int .i64 (k : Int)) (cmD d)) = es.size := by rw [h3]; simp [Maps.size, length_sorted]
    rw [← e1, hsz]
    exact cnt3_le _
  · by_cases e : j = k
    · subst e
      rw [Maps.has_put_same hw.isMap (by trivial), upd_same, upd_same]
      exact ⟨rfl, fun _ zd => Maps.atKey_put_same hw.isMap (show WideAt.IsKeyLit (.int .i64 (j : Int)) from trivial) _ _⟩
    · rw [Maps.has_put_other (litk_ne e), upd_other _ _ e, upd_other _ _ e]
      refine ⟨(hD j hj).1, fun hb zd => ?_⟩
      rw [Maps.atKey_put_other (litk_ne e)]
      exact (hD j hj).2 hb zd
  · by_cases e : kl = .int .i64 (k : Int)
    · exact ⟨k, hk, e⟩
    · rw [Maps.has_put_other e] at hkl
      exact hks kl hkl

theorem same_k (j k : Nat) : (Lit.int .i64 (j : Int)).sameKey (.int .i64 (k : Int)) = decide (j = k) := by
  by_cases e : j = k
  · subst e
    rw [WideAt.sameKey_self (by trivial)]
    simp
  · rw [decide_eq_false e]
    cases hs : (Lit.int .i64 (j : Int)).sameKey (.int .i64 (k : Int))
    · rfl
    · exact absurd (WideAt.sameKey_eq hs) (litk_ne e)

/-- Votes that are gone through: lf k says whether k's is still to come. -/
def VRg (w : World) (m r : Nat) (b : Nat → Bool) (x : Nat → Cm) (lf : Nat → Bool) (cnt : Nat) : Prop :=
  ∃ D left, w.ranges Tryd.prog 3 cmR m r 3 D left cnt ∧ VD D b x ∧ (∀ kl, left kl = true → Maps.has D kl = true) ∧ ∀ k : Nat, k < 3 → left (.int .i64 (k : Int)) = lf k
theorem VRg.votes {w : World} {m r cnt : Nat} {b lf : Nat → Bool} {x : Nat → Cm} (h : VRg w m r b x lf cnt) : Votes w m b x := by
  obtain ⟨D, left, h1, h2, _⟩ := h
  exact ⟨D, h1.owns, h2⟩
theorem VRg.left_eq {w : World} {m r cnt : Nat} {b lf : Nat → Bool} {x : Nat → Cm} (h : VRg w m r b x lf cnt) : w.rangeLeft m r = cnt := by
  obtain ⟨D, left, h1, _⟩ := h
  exact h1.left_eq
theorem VRg.kept {w w' : World} {m r cnt : Nat} {b lf : Nat → Bool} {x : Nat → Cm} (h : VRg w m r b x lf cnt) {row : Option Nat} (hg : w.grownBy w' row) (h1 : some m ≠ row) (h2 : some r ≠ row) : VRg w' m r b x lf cnt := by
  obtain ⟨D, left, h3, h4⟩ := h
  exact ⟨D, left, h3.kept hg h1 h2, h4⟩
theorem VRg.lt {w : World} {m r cnt : Nat} {b lf : Nat → Bool} {x : Nat → Cm} (h : VRg w m r b x lf cnt) : r < w.heap.size := by
  obtain ⟨D, left, h1, _⟩ := h
  exact h1.lt
section
variable {ops : Array Oper} {rest : List Oper} {o : Oper} {a : Act} {w : World} {Q : Exit → Act → World → Prop}
theorem wpList_range_votes (hg : o.guard = none) (mo : Operand) (hop : o.op = Op.range 102 mo) (m : Nat) (b : Nat → Bool) (x : Nat → Cm) (hm : a.eval mo = .map (some m)) (hV : Votes w m b x)
    (hK : ∀ w', VRg w' m w.heap.size b x b (cnt3 b) → Below w.heap.size w w' → wpList Tryd.prog ops Q rest (a.put o.dst (.pointer (some ⟨w.heap.size, 0, none⟩))) w') : wpList Tryd.prog ops Q (o :: rest) a w := by
  obtain ⟨D, hown, hD⟩ := hV
  refine wpList_range_own w hg mo _ hop _ _ keyI Tryd.underlying102 cmR m 3 D hm hown fun w' h1 h2 _ => hK w' ⟨D, _, hD.2.2 ▸ h1, hD, fun _ h => h, fun k hk => (hD.1 k hk).1⟩ ⟨h2.os, h2.tape, h2.output, h2.size, fun k hk => h2.block k hk (by simp)⟩
theorem wpList_next_votes (hg : o.guard = none) (it : Operand) (hop : o.op = Op.next it false) (m r : Nat) (b : Nat → Bool) (x : Nat → Cm) (lf : Nat → Bool) (cnt : Nat) (hit : a.eval it = .pointer (some ⟨r, 0, none⟩)) (h : VRg w m r b x lf cnt)
    (hDone : Hid (∀ k, k < 3 → lf k = false) → wpList Tryd.prog ops Q rest (a.put o.dst (.tuple #[.bool false])) w)
    (hMore : ∀ (k : Nat) (d : Cm) (w' : World) (lf' : Nat → Bool) (cnt' : Nat), k < 3 → Hid (b k = true ∧ x k = d ∧ lf k = true ∧ lf' k = false ∧ (∀ j, j < 3 → j ≠ k → lf' j = lf j) ∧ VRg w' m r b x lf' cnt' ∧ cnt' < cnt ∧ w.grownBy w' (some r) ∧ w'.heap.size = w.heap.size) → (Instr.entry (.pointer (some ⟨r, 0, none⟩))).run Tryd.prog w' = .ok (.tuple #[.int .i64 (k : Int), .agg #[.int .i64 d.c, .int .i64 d.v, .int .i64 d.o]]) w' → wpList Tryd.prog ops Q rest (a.put o.dst (.tuple #[.bool true, .int .i64 (k : Int), .agg #[.int .i64 d.c, .int .i64 d.v, .int .i64 d.o]])) w') :
    wpList Tryd.prog ops Q (o :: rest) a w := by
  obtain ⟨D, left, hrg, hD, hsub, hlf⟩ := h
  refine wpList_next_ranges w hg it hop 3 keyI cmR (Value.int .i64) cmVal (fun key kl hkey => by obtain ⟨z, rfl, _⟩ := Maps.keyOf_int_inv Tryd.underlying3 hkey; exact ⟨z, rfl⟩) (fun v y hv => by obtain ⟨c, rfl, _⟩ := cmR_inv hv; exact ⟨c, rfl⟩) m r 3 D left cnt hit hrg (fun _ hl => hDone (hide fun k hk => by rw [← hlf k hk]; exact hl _)) ?_
  intro z d kl y w' cnt' hkey hlk hv hat hrg' hlt hgr hsz hen
  obtain ⟨z', ez, rfl, _⟩ := Maps.keyOf_int_inv Tryd.underlying3 hkey
  cases ez
  obtain ⟨k, hk, ek⟩ := hD.2.1 _ (hsub _ hlk)
  injection ek with _ ek
  subst ek
  obtain ⟨d', ed, rfl⟩ := cmR_inv hv
  have hbk : b k = true := by rw [← (hD.1 k hk).1]; exact hsub _ hlk
  have hdd : x k = d' := cmD_inj (by rw [← (hD.1 k hk).2 hbk (cmD d'), hat])
  have edd : d = d' := cmD_inj (by
    have := congrArg cmR ed
    rw [cmR_mk, cmR_mk] at this
    exact (Prod.ext_iff.1 (Option.some.inj this)).1)
  subst edd
  refine hMore k d w' (fun j => lf j && decide (j ≠ k)) cnt' hk (hide ⟨hbk, hdd, by rw [← hlf k hk]; exact hlk, by simp, fun j _ hj => by simp [hj], ⟨D, _, hrg', hD, fun kl h => hsub kl (by simp at h; exact h.1), fun j hj => ?_⟩, hlt, hgr, hsz⟩) hen
  show (left (.int .i64 (j : Int)) && !(Lit.int .i64 (j : Int)).sameKey (.int .i64 (k : Int))) = (lf j && decide (j ≠ k))
  rw [hlf j hj, same_k, decide_not]
end
end Go.Proofs.YtbiacknbaefccaaDoor
