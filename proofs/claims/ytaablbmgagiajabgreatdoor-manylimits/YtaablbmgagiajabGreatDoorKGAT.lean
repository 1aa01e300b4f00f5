import Derived.Test.YtaablbmgagiajabGreatDoorKGAS
import Derived.Conc.AtomicLaws2
import Derived.Conc.MarkLaws
import Derived.Conc.SmallLaws
import Derived.Conc.Own2
import Derived.KernelRfl
import Derived.Test.YtaablbmgagiajabGreatDoorKGAQ
namespace Go.Proofs.YtaablbmgagiajabGreatDoor.Ren
open Go Go.Conc
theorem rV_id : ∀ v : Value, rV id v = v
  | .pointer a => by rw [rV]; cases a <;> rfl
  | .slice a n c => by rw [rV]; cases a <;> rfl
  | .map r => by rw [rV]; cases r <;> rfl
  | .chan r => by rw [rV]; cases r <;> rfl
  | .func fn a b => by
    rw [rV, map_same fun x hx => rV_id x, map_same fun x hx => rV_id x]
    cases fn <;> rfl
  | .iface t v => by rw [rV, rV_id v]
  | .agg cs => by rw [rV, map_same fun x hx => rV_id x]
  | .tuple cs => by rw [rV, map_same fun x hx => rV_id x]
  | .bool _ | .int _ _ | .float _ _ | .complex _ _ _ | .string _ | .nilFunc | .nilIface => by rw [rV]
theorem cont_of_calls {E : Env} {g : FuncId} {args : Array Value} {h0 : Array Obj} {R : Value → World → Prop} (h : ∀ wl : World, wl.heap = h0 → wl.os = E.os → Calls E.P g args wl fun e w' => ∃ v, e = .returned v ∧ R v w') : Cont E ([Frame.enter E.P g args .normal], h0) R := by
  intro wl hw hos
  obtain ⟨e, w', fr, ⟨v, rfl, hR⟩, ⟨k, hk⟩, _, hl⟩ := h wl hw hos [c0]
  exact ⟨v, w', fr, k, hR, hk, hl⟩
def h0Of (dG : ∀ p : Prop, Decidable p) (R O : Nat → Prop) (B : Nat) (hc : Array Obj) : Array Obj := Array.ofFn (n := B) fun k =>
  match hc[k.1]? with
  | some (.cells c t _) => @ite _ (R k.1) (dG _) ( .cells c t (0, c.size)) (@ite _ (O k.1) (dG _) (.pending c t) (.cells #[] 0))
  | _ => .cells #[] 0
theorem h0Of_size (R O : Nat → Prop) (B : Nat) (hc : Array Obj) : (h0Of Classical.propDecidable R O B hc).size = B := by simp [h0Of]
theorem h0Of_get {R O : Nat → Prop} {B : Nat} {hc : Array Obj} {k : Nat} (hk : k < B) {c : Array Value} {t : TypeId} {z : Nat × Nat} (h : hc[k]? = some (.cells c t z)) : (R k → (h0Of Classical.propDecidable R O B hc)[k]? = some (.cells c t (0, c.size))) ∧ (¬ R k → O k → (h0Of Classical.propDecidable R O B hc)[k]? = some (.pending c t)) := by
  have hlt : k < (h0Of Classical.propDecidable R O B hc).size := by rw [h0Of_size]; exact hk
  rw [Array.getElem?_eq_getElem hlt]
  simp only [h0Of, Array.getElem_ofFn, h]
  exact ⟨fun hR => by rw [if_pos hR], fun hR hO => by rw [if_neg hR, if_pos hO]⟩
structure LowOk (R O : Nat → Prop) (B : Nat) (os : Os) (hc : Array Obj) : Prop where
  ro : ∀ k, R k → k < B ∧ ∃ c t, hc[k]? = some (.cells c t (0, 0)) ∧ ∀ v, v ∈ c → okV (env Tryz.prog B R O os) B v ∧ roV v
  op : ∀ k, O k → k < B ∧ ∃ c t, hc[k]? = some (.cells c t (0, 0)) ∧ 0 < c.size
  no : ∀ k, R k → ¬ O k
  g : R Tryz.prog.globals.size
  gs : ∀ g, g < Tryz.prog.globals.size → R g ∨ O g
section
variable {R O : Nat → Prop} {B : Nat} {os : Os}
theorem Follows.begin {w0 w : World} (h : LowOk R O B os w0.heap) (he : ∀ k, R k ∨ O k → w.heap[k]? = w0.heap[k]?) (hB : B ≤ w.heap.size) (hos : w.os = os) {g : FuncId} {args : Array Value} (hT : tF.contains g = true) (ha : okAll (env Tryz.prog B R O os) B args) :
    Follows (env Tryz.prog B R O os) tM ([Frame.enter Tryz.prog g args .normal], (h0Of Classical.propDecidable) R O B w0.heap) (fun j => if j < B then j else w.heap.size + (j - B)) ([Frame.enter Tryz.prog g args .normal], (h0Of Classical.propDecidable) R O B w0.heap) w := by
  have hf : ∀ k, k < B → (fun j => if j < B then j else w.heap.size + (j - B)) k = k := fun k hk => if_pos hk
  have F : Fit (env Tryz.prog B R O os) (fun j => if j < B then j else w.heap.size + (j - B)) := by
    refine ⟨fun a b e => ?_, hf, fun k hk => (h.ro k hk).1, fun k hk => (h.op k hk).1, h.no, env_pt⟩
    split at e <;> split at e <;> omega
  have hsz := h0Of_size R O B w0.heap
  refine ⟨F, ⟨fun k o hk ho => ?_, fun k hk => ?_, fun k hk => ?_, by rw [hsz]; exact Nat.le_refl _, fun j hj => ?_⟩, hos, ⟨fun fr hfr => ?_, ?_⟩, 0, [], Reach.zero⟩
  · have : k < B := by
      rcases Nat.lt_or_ge k (h0Of Classical.propDecidable R O B w0.heap).size with hlt | hge
      · omega
      · rw [Array.getElem?_eq_none hge] at ho; cases ho
    exact absurd this (Nat.not_lt.2 hk)
  · obtain ⟨h1, c, t, h2, h3⟩ := h.ro k hk
    refine ⟨c, t, (h0Of_get h1 h2).1 hk, (he k (.inl hk)).trans h2, fun v hv => ?_⟩
    obtain ⟨q1, q2⟩ := h3 v hv
    have hAg : Ag (env Tryz.prog B R O os) B (fun j => if j < B then j else w.heap.size + (j - B)) id := ⟨fun k hk => hf k (h.ro k hk).1, fun k hk => hf k (h.op k hk).1, fun k hk => hf k hk.2⟩
    refine ⟨by rw [hsz]; exact q1, q2, ?_⟩
    rw [rV_eq hAg v q1]
    exact rV_id v
  · obtain ⟨h1, c, t, h2, h3⟩ := h.op k hk
    exact ⟨c, t, c, (h0Of_get h1 h2).2 (fun hR => h.no k hR hk) hk, (he k (.inr hk)).trans h2, rfl, h3⟩
  · rw [hsz] at hj ⊢
    rw [if_neg (by omega)]
    omega
  · cases hfr with
    | head => exact okF.enter (codeOk h.gs) hT (by rw [hsz]; exact ha) (.inl rfl)
    | tail _ h => cases h
  · exact ⟨rfl, rfl⟩
end
variable (pG : Program)
def nxt (main : Bool) (g : Goroutine) : Goroutine := match stepG pG main g default with
  | .go g' _ _ => g'
  | _ => g
def nxts (main : Bool) : Nat → Goroutine → Goroutine
  | 0, g => g
  | n + 1, g => nxts main n (nxt pG main g)
def SilP (main : Bool) : Nat → Goroutine → Prop
  | 0, _ => True
  | n + 1, g => (g.status = .running ∧ ∀ w, stepG Tryz.prog main g w = .go (nxt Tryz.prog main g) w #[]) ∧ SilP main n (nxt Tryz.prog main g)
theorem Wk.sil {main : Bool} {K : World → Prop} {Ok : Event → Prop} {Stop : Goroutine → Prop} {m : Nat} : ∀ (n : Nat) (g : Goroutine), SilP main n g → Wk Tryz.prog main K Ok Stop m (nxts Tryz.prog main n g) → Wk Tryz.prog main K Ok Stop (m + n) g
  | 0, _, _, h => h
  | n + 1, g, hs, h => Wk.step hs.1.1 (fun w _ => hs.1.2 w) (fun e he => by simp at he) (Wk.sil n (nxt Tryz.prog main g) hs.2 h)
theorem QuitsD.sil {d m : Nat} : ∀ (n : Nat) (g : Goroutine), SilP false n g → QuitsD Tryz.prog m d (nxts Tryz.prog false n g) → QuitsD Tryz.prog (m + n) d g
  | 0, _, _, h => h
  | n + 1, g, hs, h => QuitsD.ctl hs.1.1 hs.1.2 (QuitsD.sil n (nxt Tryz.prog false g) hs.2 h)
def fin (g : Goroutine) (v : Value) : Goroutine := { frame := g.frame.finish v, callers := g.callers, status := .running, dying := none }
def opAt (g : Goroutine) : Oper := match g.frame.todo with
  | .inRegion ops (i :: _) :: _ => ops.getD i default
  | _ => default
def atOp (g : Goroutine) : Bool := match g.status, g.dying, g.offers, g.frame.mode, g.frame.roundOf, g.frame.todo with
  | .running, none, none, .run, none, .inRegion ops (i :: _) :: _ => (ops[i]?).isSome && Region.wanted (ops.getD i default) (yielded ops g.frame.tmps) && g.frame.kind != .early
  | _, _, _, _, _, _ => false
def typesOf : Op → Array TypeId
  | .call c => c.argTypes
  | _ => #[]
theorem atOp_form {g : Goroutine} (h : atOp g = true) : ∃ ops i rest k, g = G (g.frame.at ⟨g.frame.tmps, g.frame.defers⟩ (.inRegion ops (i :: rest) :: k)) g.callers ∧ ops[i]? = some (opAt g) ∧ Region.wanted (opAt g) (yielded ops g.frame.tmps) = true ∧ g.frame.kind ≠ .early ∧ ∀ v, G (g.frame.at (Act.put ⟨g.frame.tmps, g.frame.defers⟩ (opAt g).dst v) (.inRegion ops rest :: k)) g.callers = fin g v := by
  obtain ⟨fr, cs, st, dy, of⟩ := g
  unfold atOp at h
  simp only at h
  split at h
  · rename_i ops i rest k hm hro ht
    simp only [Bool.and_eq_true, bne_iff_ne, ne_eq] at h
    obtain ⟨⟨h1, h2⟩, h3⟩ := h
    obtain ⟨o, ho⟩ := Option.isSome_iff_exists.1 h1
    have e1 : opAt ⟨fr, cs, .running, none, none⟩ = o := by
      simp only [opAt, ht, Array.getD_eq_getD_getElem?, ho, Option.getD_some]
    have e2 : ops.getD i default = o := by rw [Array.getD_eq_getD_getElem?, ho]; rfl
    rw [e2] at h2
    have e3 : fr.at ⟨fr.tmps, fr.defers⟩ (.inRegion ops (i :: rest) :: k) = fr := by
      rw [← ht]
      obtain ⟨a1, a2, a3, a4, a5, a6, a7⟩ := fr
      simp only at hm hro
      subst hm
      subst hro
      rfl
    refine ⟨ops, i, rest, k, ?_, by rw [e1]; exact ho, by rw [e1]; exact h2, h3, fun v => ?_⟩
    · show _ = G _ _
      rw [e3]
      rfl
    · have := Frame.finish_at fr ⟨fr.tmps, fr.defers⟩ ops i rest k v
      rw [e3, ho] at this
      rw [e1]
      simp only [Option.bind_some] at this
      unfold fin
      simp only [this]
      rfl
  · cases h
section
variable {main : Bool} {g : Goroutine} {w : World} {f : FuncId} {fn : Func}
theorem k_value (h : atOp g = true) {v : Value} {w' : World} (hr : (execOp g.frame.eval (opAt g)).run Tryz.prog w = .ok (.value v) w') : stepG Tryz.prog main g w = .go (fin g v) w' (seen Tryz.prog g.frame.fn ((execOp g.frame.eval (opAt g)).events Tryz.prog w #[])) := by
  obtain ⟨ops, i, rest, k, e, h1, h2, h3, h4⟩ := atOp_form h
  have he : Act.eval ⟨g.frame.tmps, g.frame.defers⟩ = g.frame.eval := rfl
  have := stepG_value (P := Tryz.prog) (main := main) (b := g.frame) (a := ⟨g.frame.tmps, g.frame.defers⟩) (k := k) (cs := g.callers) (rest := rest) (w := w) (v := v) (w' := w') h1 h2 h3 (by rw [he]; exact hr)
  rw [← e, h4] at this
  exact this
theorem k_skip (h : atOp g = true) {w' : World} (hr : (execOp g.frame.eval (opAt g)).run Tryz.prog w = .ok .skip w') : stepG Tryz.prog main g w = .go (fin g undef) w' (seen Tryz.prog g.frame.fn ((execOp g.frame.eval (opAt g)).events Tryz.prog w #[])) := by
  obtain ⟨ops, i, rest, k, e, h1, h2, h3, h4⟩ := atOp_form h
  have he : Act.eval ⟨g.frame.tmps, g.frame.defers⟩ = g.frame.eval := rfl
  have := stepG_none (P := Tryz.prog) (main := main) (b := g.frame) (a := ⟨g.frame.tmps, g.frame.defers⟩) (k := k) (cs := g.callers) (rest := rest) (w := w) (w' := w') h1 h2 h3 (by rw [he]; exact hr)
  rw [← e, h4] at this
  exact this
variable {x y z : Operand}
theorem k_load (h : atOp g = true) (hf : Tryz.prog.funcs[f]? = some fn) (hname : (fn.name == "runtime.NumGoroutine") = false) (hb : fn.body.isNone = true) (hn : Extern.findNext fn = none) (hop : (opAt g).op = .call { callee := .value (.func f), args := #[x], argTypes := typesOf (opAt g).op }) (he : Extern.find fn = some (Extern.Atomic.loadT (.int .u64))) {ad : Addr} {v : Int} (hx : g.frame.eval x = .pointer (some ad)) (hc : w.cell? ad = some (.int .u64 v)) :
    stepG Tryz.prog main g w = .go (fin g (.int .u64 v)) w #[⟨.cell ad, false, true⟩] := by
  obtain ⟨ops, i, rest, k, e, h1, h2, h3, h4⟩ := atOp_form h
  have := stepG_load_atomic (P := Tryz.prog) (main := main) (b := g.frame) (a := ⟨g.frame.tmps, g.frame.defers⟩) (kk := k) (cs := g.callers) (rest := rest) h1 h2 h3 hop hf hname hb hn .u64 he hx hc
  rw [← e, h4] at this
  exact this
theorem k_store (h : atOp g = true) (hf : Tryz.prog.funcs[f]? = some fn) (hname : (fn.name == "runtime.NumGoroutine") = false) (hb : fn.body.isNone = true) (hn : Extern.findNext fn = none) (hop : (opAt g).op = .call { callee := .value (.func f), args := #[x, y], argTypes := typesOf (opAt g).op }) (he : Extern.find fn = some Extern.Atomic.storeT) {ad : Addr} {v : Int} {u : Value} (hx : g.frame.eval x = .pointer (some ad)) (hy : g.frame.eval y = .int .u64 v) (hc : w.cell? ad = some u) (hz : w.frozen? ad = false) :
    stepG Tryz.prog main g w = .go (fin g (.tuple #[])) (w.setCell ad (.int .u64 v)) #[⟨.cell ad, true, true⟩] := by
  obtain ⟨ops, i, rest, k, e, h1, h2, h3, h4⟩ := atOp_form h
  have := stepG_store_atomic (P := Tryz.prog) (main := main) (b := g.frame) (a := ⟨g.frame.tmps, g.frame.defers⟩) (kk := k) (cs := g.callers) (rest := rest) h1 h2 h3 hop hf hname hb hn he hx hy hc hz
  rw [← e, h4] at this
  exact this
theorem k_add (h : atOp g = true) (hf : Tryz.prog.funcs[f]? = some fn) (hname : (fn.name == "runtime.NumGoroutine") = false) (hb : fn.body.isNone = true) (hn : Extern.findNext fn = none) (hop : (opAt g).op = .call { callee := .value (.func f), args := #[x, y], argTypes := typesOf (opAt g).op }) (he : Extern.find fn = some (Extern.Atomic.update (Op.intArith .add) .u64 true)) {ad : Addr} {v d n : Int} (hx : g.frame.eval x = .pointer (some ad)) (hy : g.frame.eval y = .int .u64 d) (hc : w.cell? ad = some (.int .u64 v)) (hz : w.frozen? ad = false) (hs : IntKind.u64.wrap (v + d) = n) :
    stepG Tryz.prog main g w = .go (fin g (.int .u64 n)) (w.setCell ad (.int .u64 n)) #[⟨.cell ad, false, true⟩, ⟨.cell ad, true, true⟩] := by
  obtain ⟨ops, i, rest, k, e, h1, h2, h3, h4⟩ := atOp_form h
  have := stepG_add_atomic (P := Tryz.prog) (main := main) (b := g.frame) (a := ⟨g.frame.tmps, g.frame.defers⟩) (kk := k) (cs := g.callers) (rest := rest) h1 h2 h3 hop hf hname hb hn .u64 he hx hy hc hz
  rw [← e, h4, hs] at this
  exact this
theorem k_hit (h : atOp g = true) (hf : Tryz.prog.funcs[f]? = some fn) (hname : (fn.name == "runtime.NumGoroutine") = false) (hb : fn.body.isNone = true) (hn : Extern.findNext fn = none) (hop : (opAt g).op = .call { callee := .value (.func f), args := #[x, y, z], argTypes := typesOf (opAt g).op }) (he : Extern.find fn = some (Extern.Atomic.casT (.int .u64))) {ad : Addr} {v n : Int} (hx : g.frame.eval x = .pointer (some ad)) (hy : g.frame.eval y = .int .u64 v) (hzz : g.frame.eval z = .int .u64 n) (hc : w.cell? ad = some (.int .u64 v)) (hz : w.frozen? ad = false) :
    stepG Tryz.prog main g w = .go (fin g (.bool true)) (w.setCell ad (.int .u64 n)) #[⟨.cell ad, false, true⟩, ⟨.cell ad, true, true⟩] := by
  obtain ⟨ops, i, rest, k, e, h1, h2, h3, h4⟩ := atOp_form h
  have := stepG_cas_hit (P := Tryz.prog) (main := main) (b := g.frame) (a := ⟨g.frame.tmps, g.frame.defers⟩) (kk := k) (cs := g.callers) (rest := rest) h1 h2 h3 hop hf hname hb hn .u64 he hx hy hzz hc hz
  rw [← e, h4] at this
  exact this
theorem k_miss (h : atOp g = true) (hf : Tryz.prog.funcs[f]? = some fn) (hname : (fn.name == "runtime.NumGoroutine") = false) (hb : fn.body.isNone = true) (hn : Extern.findNext fn = none) (hop : (opAt g).op = .call { callee := .value (.func f), args := #[x, y, z], argTypes := typesOf (opAt g).op }) (he : Extern.find fn = some (Extern.Atomic.casT (.int .u64))) {ad : Addr} {v old n : Int} (hx : g.frame.eval x = .pointer (some ad)) (hy : g.frame.eval y = .int .u64 old) (hzz : g.frame.eval z = .int .u64 n) (hc : w.cell? ad = some (.int .u64 v)) (hz : w.frozen? ad = false) (hne : ¬ v = old) :
    stepG Tryz.prog main g w = .go (fin g (.bool false)) w #[⟨.cell ad, false, true⟩] := by
  obtain ⟨ops, i, rest, k, e, h1, h2, h3, h4⟩ := atOp_form h
  have := stepG_cas_miss (P := Tryz.prog) (main := main) (b := g.frame) (a := ⟨g.frame.tmps, g.frame.defers⟩) (kk := k) (cs := g.callers) (rest := rest) h1 h2 h3 hop hf hname hb hn .u64 he hx hy hzz hc hz hne
  rw [← e, h4] at this
  exact this
variable {xs : Array Operand}
theorem k_acquire (h : atOp g = true) (hf : Tryz.prog.funcs[f]? = some fn) (hname : (fn.name == "runtime.NumGoroutine") = false) (hb : fn.body.isNone = true) (hn : Extern.findNext fn = none) (hop : (opAt g).op = .call { callee := .value (.func f), args := xs, argTypes := typesOf (opAt g).op }) (he : Extern.find fn = some Extern.Sync.semacquire) {ad : Addr} (hx : (xs.map g.frame.eval)[0]? = some (.pointer (some ad))) (hc : w.cell? ad = some (.int .u32 1)) (hz : w.frozen? ad = false) :
    stepG Tryz.prog main g w = .go (fin g (.tuple #[])) (w.setCell ad (.int .u32 0)) (semEvents ad) := by
  obtain ⟨ops, i, rest, k, e, h1, h2, h3, h4⟩ := atOp_form h
  have := stepG_semacquire (P := Tryz.prog) (main := main) (b := g.frame) (a := ⟨g.frame.tmps, g.frame.defers⟩) (kk := k) (cs := g.callers) (rest := rest) h1 h2 h3 hop hf hname hb hn he hx hc (by decide) hz
  rw [← e, h4] at this
  exact this
theorem k_waits (h : atOp g = true) (hf : Tryz.prog.funcs[f]? = some fn) (hname : (fn.name == "runtime.NumGoroutine") = false) (hb : fn.body.isNone = true) (hn : Extern.findNext fn = none) (hop : (opAt g).op = .call { callee := .value (.func f), args := xs, argTypes := typesOf (opAt g).op }) (he : Extern.find fn = some Extern.Sync.semacquire) {ad : Addr} (hx : (xs.map g.frame.eval)[0]? = some (.pointer (some ad))) (hc : w.cell? ad = some (.int .u32 0)) :
    stepG Tryz.prog main g w = .go { g with status := .blocked } w #[] := by
  obtain ⟨ops, i, rest, k, e, h1, h2, h3, h4⟩ := atOp_form h
  have := stepG_semacquire_wait (P := Tryz.prog) (main := main) (b := g.frame) (a := ⟨g.frame.tmps, g.frame.defers⟩) (kk := k) (cs := g.callers) (rest := rest) h1 h2 hop hf hname hb hn he hx hc
  rw [← e] at this
  exact this
theorem k_release (h : atOp g = true) (hf : Tryz.prog.funcs[f]? = some fn) (hname : (fn.name == "runtime.NumGoroutine") = false) (hb : fn.body.isNone = true) (hn : Extern.findNext fn = none) (hop : (opAt g).op = .call { callee := .value (.func f), args := xs, argTypes := typesOf (opAt g).op }) (he : Extern.find fn = some Extern.Sync.semrelease) {ad : Addr} (hx : (xs.map g.frame.eval)[0]? = some (.pointer (some ad))) (hc : w.cell? ad = some (.int .u32 0)) (hz : w.frozen? ad = false) :
    stepG Tryz.prog main g w = .go (fin g (.tuple #[])) (w.setCell ad (.int .u32 1)) (semEvents ad) := by
  obtain ⟨ops, i, rest, k, e, h1, h2, h3, h4⟩ := atOp_form h
  have := stepG_semrelease (P := Tryz.prog) (main := main) (b := g.frame) (a := ⟨g.frame.tmps, g.frame.defers⟩) (kk := k) (cs := g.callers) (rest := rest) h1 h2 h3 hop hf hname hb hn he hx hc hz
  rw [← e, h4] at this
  exact this
end
def ldS (a : Addr) : Sem Next := load a .plain >>= fun v => pure (.value v)
def stS (a : Addr) (v : Value) : Sem Next := store a v .plain >>= fun _ => pure .skip
def st2S (a b : Addr) (v u : Value) : Sem Next := store a v .plain >>= fun _ => store b u .plain >>= fun _ => pure .skip
section
variable {main : Bool} {g : Goroutine} {w : World}
theorem runT_pair {s s' : Sem Next} {w : World} (h : s.runT Tryz.prog w #[] = s'.runT Tryz.prog w #[]) : s.run Tryz.prog w = s'.run Tryz.prog w ∧ s.events Tryz.prog w #[] = s'.events Tryz.prog w #[] := by
  refine ⟨?_, ?_⟩
  · rw [← Sem.runT_fst Tryz.prog s w #[], ← Sem.runT_fst Tryz.prog s' w #[], h]
  · exact congrArg Prod.snd h
theorem k_ld (h : atOp g = true) {a : Addr} (hs : (execOp g.frame.eval (opAt g)).runT Tryz.prog w #[] = (ldS a).runT Tryz.prog w #[]) {v : Value} (hc : w.cell? a = some v) (hq : seen Tryz.prog g.frame.fn #[⟨.cell a, false, false⟩] = #[⟨.cell a, false, false⟩]) : stepG Tryz.prog main g w = .go (fin g v) w #[⟨.cell a, false, false⟩] := by
  obtain ⟨h1, h2⟩ := runT_pair hs
  have e1 : (ldS a).run Tryz.prog w = .ok (.value v) w := by simp [ldS, hc]
  have e2 : (ldS a).events Tryz.prog w #[] = #[⟨.cell a, false, false⟩] := by simp [ldS, hc]
  have := k_value (main := main) h (h1.trans e1)
  rw [h2, e2, hq] at this
  exact this
theorem k_st (h : atOp g = true) {a : Addr} {u : Value} (hs : (execOp g.frame.eval (opAt g)).runT Tryz.prog w #[] = (stS a u).runT Tryz.prog w #[]) {v : Value} (hu : u.oneCell' = true) (hc : w.cell? a = some v) (hz : w.frozen? a = false) (hq : seen Tryz.prog g.frame.fn #[⟨.cell a, true, false⟩] = #[⟨.cell a, true, false⟩]) : stepG Tryz.prog main g w = .go (fin g undef) (w.setCell a u) #[⟨.cell a, true, false⟩] := by
  obtain ⟨h1, h2⟩ := runT_pair hs
  have e1 : (stS a u).run Tryz.prog w = .ok .skip (w.setCell a u) := by simp [stS, run_store _ w a u .plain hu, hc, hz]
  have e2 : (stS a u).events Tryz.prog w #[] = #[⟨.cell a, true, false⟩] := by simp [stS, events_store _ w _ a u .plain hu, hc, hz]
  have := k_skip (main := main) h (h1.trans e1)
  rw [h2, e2, hq] at this
  exact this
theorem k_st2 (h : atOp g = true) {a b : Addr} {u u' : Value} (hs : (execOp g.frame.eval (opAt g)).runT Tryz.prog w #[] = (st2S a b u u').runT Tryz.prog w #[]) {v v' : Value} (hu : u.oneCell' = true) (hu' : u'.oneCell' = true) (hab : a ≠ b) (hc : w.cell? a = some v) (hc' : w.cell? b = some v') (hz : w.frozen? a = false) (hz' : w.frozen? b = false) (hq : seen Tryz.prog g.frame.fn #[⟨.cell a, true, false⟩, ⟨.cell b, true, false⟩] = #[⟨.cell a, true, false⟩, ⟨.cell b, true, false⟩]) :
    stepG Tryz.prog main g w = .go (fin g undef) ((w.setCell a u).setCell b u') #[⟨.cell a, true, false⟩, ⟨.cell b, true, false⟩] := by
  obtain ⟨h1, h2⟩ := runT_pair hs
  have hc2 : (w.setCell a u).cell? b = some v' := by rw [World.cell?_setCell_other _ _ _ _ hab]; exact hc'
  have hz2 : (w.setCell a u).frozen? b = false := by rw [World.frozen?_setCell]; exact hz'
  have e1 : (st2S a b u u').run Tryz.prog w = .ok .skip ((w.setCell a u).setCell b u') := by simp [st2S, run_store _ w a u .plain hu, run_store _ (w.setCell a u) b u' .plain hu', hc, hz, hc2, hz2]
  have e2 : (st2S a b u u').events Tryz.prog w #[] = #[⟨.cell a, true, false⟩, ⟨.cell b, true, false⟩] := by simp [st2S, events_store _ w _ a u .plain hu, events_store _ (w.setCell a u) _ b u' .plain hu', run_store _ w a u .plain hu, hc, hz, hc2, hz2]
  have := k_skip (main := main) h (h1.trans e1)
  rw [h2, e2, hq] at this
  exact this
end
end Go.Proofs.YtaablbmgagiajabGreatDoor.Ren
