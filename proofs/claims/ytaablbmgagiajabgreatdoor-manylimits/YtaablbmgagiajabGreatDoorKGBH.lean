import Derived.Test.YtaablbmgagiajabGreatDoorKGBG
import Derived.Conc.LeavingOf
import Derived.Handed
namespace Go.Proofs.YtaablbmgagiajabGreatDoor.Ren
open Go Go.Conc
def EndsW (P : Program) (Post : Value → World → Prop) (m : Machine) (t : Trace) : Prop := ∃ N last o w' t', runNT P (N + 1) m t = (.ended o w', t') ∧ runN P N m = .next last ∧ Go.step P last = .ended o w' ∧ Go.Conc.Good P Post last o w' t'
theorem EndsW.after {P : Program} {Post : Value → World → Prop} {k : Nat} {m m' : Machine} {t t' : Trace} (h : runNT P k m t = (.next m', t')) (he : EndsW P Post m' t') : EndsW P Post m t := by
  obtain ⟨N, last, o, w', t'', h1, h2, h3, h4⟩ := he
  refine ⟨k + N, last, o, w', t'', ?_, ?_, h3, h4⟩
  · rw [Nat.add_assoc, runNT_add, h]; exact h1
  · rw [runN_add, ← runNT_fst P k _ t, h]; exact h2
theorem good_imp {P : Program} {Post Post' : Value → World → Prop} {m : Machine} {o : Outcome} {w : World} {t : Trace} (hp : ∀ v w, Post v w → Post' v w) (h : Go.Conc.Good P Post m o w t) : Go.Conc.Good P Post' m o w t := by
  obtain ⟨v, h1, h2, h3⟩ := h
  exact ⟨v, h1, hp v w h2, h3⟩
theorem EndsW.imp {P : Program} {Post Post' : Value → World → Prop} {m : Machine} {t : Trace} (hp : ∀ v w, Post v w → Post' v w) (he : EndsW P Post m t) : EndsW P Post' m t := by
  obtain ⟨N, last, o, w', t', h1, h2, h3, h4⟩ := he
  exact ⟨N, last, o, w', t', h1, h2, h3, good_imp hp h4⟩
def D0 (w w' : World) (es : Array Event) : Prop := w' = w ∧ es = #[]
theorem goes_sil {Stop : Goroutine → World → Prop} {m : Nat} : ∀ (n : Nat) (g : Goroutine) (w : World), SilP true n g → (∀ w', AtRel w w' → Go.Conc.Goes Tryz.prog true AtRel D0 Stop m (nxts Tryz.prog true n g) w') → Go.Conc.Goes Tryz.prog true AtRel D0 Stop (m + n) g w
  | 0, _, w, _, h => h w (atRel_refl w)
  | n + 1, g, w, hs, h => .inr ⟨hs.1.1, fun w1 hw => by
      rw [hs.1.2 w1, goes_go]
      exact ⟨⟨rfl, rfl⟩, goes_sil n (nxt Tryz.prog true g) w1 hs.2 fun w' hw' => h w' (atRel_trans _ _ _ hw hw')⟩⟩
theorem end_sil {Shun : Loc → Prop} {Post : Value → World → Prop} {n : Nat} {g : Goroutine} {w : World} {v : Value} (hs : SilP true n g) (he : (nxts Tryz.prog true n g).status = .running ∧ ∀ w, stepG Tryz.prog true (nxts Tryz.prog true n g) w = .ended (.done v) w #[]) (hp : ∀ d, Post v (w.at d)) {gs : Array Goroutine} {t : Trace} {q : Nat → Nat} (sl : Option (Nat × Nat)) (h0 : gs[0]? = some g) (hL : Leavers Tryz.prog t gs q) (hP : Past Shun w.heap.size t) : EndsW Tryz.prog Post (crowd gs w sl) t :=
  beside_ends (D := D0) (Post := Post) (Shun := Shun) (B := w.heap.size) (fun w w' es hd e hme => by rw [hd.2] at hme; simp at hme) h0 hL hP (goes_sil (m := 0) n g w hs fun w' hw => fun w1 hw1 => by
    obtain ⟨d, rfl⟩ := atRel_trans _ _ _ hw hw1
    exact ⟨he.1, v, #[], he.2 _, fun e hme => by simp at hme, hp d⟩)
section
variable {R O : Nat → Prop} {B : Nat} {os : Os} {W0 H : World} {Shun : Loc → Prop} {n : Nat}
theorem law_end (rd : RdLow R O B os W0) (same : ∀ k, R k ∨ O k → H.heap[k]? = W0.heap[k]?) (hB : B ≤ H.heap.size) (hos : H.os = os) (hS : ShunLow Shun H.heap.size) (hR : ∀ a : Addr, R a.block → ¬ Shun (.cell a)) (hn : n ≤ 30000) {J : Nat → Value} {gs : Array Goroutine} {t : Trace} {q : Nat → Nat} (sl : Option (Nat × Nat)) (h0 : gs[0]? = some (lr Tryz.prog n J)) (hL : Leavers Tryz.prog t gs q) (hP : Past Shun H.heap.size t) :
    EndsW Tryz.prog (fun v w => v = .bool true ∧ Grew H w) (crowd gs H sl) t := by
  obtain ⟨m, hm⟩ := lr_walk (J := J) hS hn
  obtain ⟨N1, gs1, a1, w1, sl1, t1, q1, r1, r2, r3, ⟨r4, J1, rfl⟩, r5, r6, _⟩ := wm_run (sl := sl) (fun w d => rfl) (K := Fx H []) (fun w d h => Fx.at h d) hm (Fx.refl H) h0 hL ⟨hP, fun _ _ _ _ _ hf => hf.elim⟩
  refine EndsW.after r1 ?_
  have hlt : ∀ k, R k ∨ O k → k < B := fun k hk => hk.elim (fun x => (rd.low.ro k x).1) (fun x => (rd.low.op k x).1)
  have hs1 := r4.size
  obtain ⟨N2, gs2, w2, sl2, t2, q2, v, e1, e2, rfl, e4, e5, e6⟩ := ses_beside (H := w1) (An := fun v => v = .string (txt (ansL n))) rd.low (fun k hk => by
    have := hlt k hk
    rw [r4.low k (by omega)]
    exact same k hk) (by omega) (r4.os.trans hos) (cont_xs rd n) (fun v w h => h) (fun v h => ⟨_, h⟩) (fun l hl => by
    obtain ⟨a, h1, h2⟩ := hS l hl
    exact ⟨a, h1, by omega⟩) hR sl1 r3 r5 r6
  refine EndsW.after e1 ?_
  have hg := r4.trans e6
  have hp : ∀ d, (fun v w => v = Value.bool true ∧ Grew H w) (.bool true) (w2.at d) := fun d => ⟨rfl, hg.at d⟩
  by_cases h1 : n ≤ 20000
  · by_cases h2 : n = 0
    · have e : txt (ansL n) = txt [111, 107, 10] := by
        unfold ansL ansX
        rw [if_pos h1, if_pos h2]
      rw [e] at e2
      exact end_sil (Post := fun v w => v = .bool true ∧ Grew H w) (sil_leC n J1 H.heap.size _) (end_leC n J1 H.heap.size _) hp sl2 e2 e4 e5
    · have e : txt (ansL n) = txt [101, 114, 114, 111, 114, 32, 51, 10] := by
        unfold ansL ansX
        rw [if_pos h1, if_neg h2]
        kernel_rfl
      rw [e] at e2
      exact end_sil (Post := fun v w => v = .bool true ∧ Grew H w) (sil_leB n J1 H.heap.size _) (end_leB n J1 H.heap.size _) hp sl2 e2 e4 e5
  · have e : txt (ansL n) = txt [101, 114, 114, 111, 114, 32, 52, 10] := by
      unfold ansL
      rw [if_neg h1]
      kernel_rfl
    rw [e] at e2
    exact end_sil (Post := fun v w => v = .bool true ∧ Grew H w) (sil_leA n J1 H.heap.size _) (end_leA n J1 H.heap.size _) hp sl2 e2 e4 e5
end
def pL (dG : ∀ p : Prop, Decidable p) (R O : Nat → Prop) (B : Nat) (os : Os) (W0 : World) (Shun : Loc → Prop) (n m : Nat) : Pa where
  B := B
  R := R
  O := O
  os := os
  w0 := W0
  Wg := 0
  Cn := 0
  An := 0
  Bt := 0
  Ba := 0
  n := n
  m := m
  Shun := Shun
  tx _ := txt (xsOf 0)
  h0 := (h0Of dG) R O B W0.heap
  Rr _ v _ := v = .string (txt (ansL 0))
  ans _ v := v = .string (txt [111, 107, 10])
  j0 := 0
  s0 := 0
theorem made_get {m k : Nat} (h : k < m) : (madeCells #[.string .empty] m)[k]? = some (.string (txt (xsOf 0))) := by
  unfold madeCells
  rw [Array.getElem?_map, Array.getElem?_range, if_pos h]
  simp [Nat.mod_one]
  rfl
theorem seen_rd8 (a : Addr) : seen Tryz.prog 8 #[⟨.cell a, false, false⟩] = #[⟨.cell a, false, false⟩] := by kernel_rfl
section
variable {p : Pa} {H : World} {Shun : Loc → Prop} {b n : Int}
theorem lh_walk (hm : p.m ≤ 60) (J : Nat → Value) : ∃ k, WmL Shun (fun g w => Fx H [.cells (madeCells #[.string .empty] p.m) 9] w ∧ g = (al0 Tryz.prog) p (ldz Tryz.prog p b n J H.heap.size :: []) (some ⟨H.heap.size, 0, none⟩) p.m b) k (Fx H []) (lh Tryz.prog p.m b n J) := by
  have hat : ∀ {l : List Obj} (w : World) (d : Nat), Fx H l w → Fx H l (w.at d) := fun w d h => h.at d
  have a0 : WmL Shun (fun g w => Fx H [.cells (madeCells #[.string .empty] p.m) 9] w ∧ g = (al0 Tryz.prog) p (ldz Tryz.prog p b n J H.heap.size :: []) (some ⟨H.heap.size, 0, none⟩) p.m b) 0 (Fx H [.cells (madeCells #[.string .empty] p.m) 9]) (nxts Tryz.prog true 7 (lb2 Tryz.prog p b n J H.heap.size)) := fun w hw => ⟨hw, lb2_all p b n J H.heap.size⟩
  have a1 := wm_sil (fun w => DB.none w) hat 7 _ (sil_lb2 p b n J H.heap.size) a0
  have a2 : WmL Shun (fun g w => Fx H [.cells (madeCells #[.string .empty] p.m) 9] w ∧ g = (al0 Tryz.prog) p (ldz Tryz.prog p b n J H.heap.size :: []) (some ⟨H.heap.size, 0, none⟩) p.m b) (0 + 7 + 1) (Fx H []) (lb1 Tryz.prog p b n J) := by
    refine ⟨(ms_lb1 p b n J H).2.1, _, _, hat, fun w hw => ?_, a1⟩
    obtain ⟨e1, _, e3⟩ := ms_lb1 p b n J w
    obtain ⟨k1, k2⟩ := runT_pair e3
    obtain ⟨q1, q2⟩ := run_ms hm w
    have h3 := k_value (main := true) e1 (k1.trans q1)
    rw [k2, q2, seen_none] at h3
    have hs : w.heap.size = H.heap.size := by rw [hw.size]; rfl
    rw [hs] at h3
    exact ⟨_, _, h3, DB.quiet (by simp), hw.push _⟩
  exact ⟨_, wm_sil (fun w => DB.none w) hat 3 _ (sil_lh p b n J) a2⟩
theorem lq_walk (hm : p.m ≤ 50) (hSH : ¬ ∃ i, Shun (.cell ⟨H.heap.size, i, none⟩)) (hans : ∀ i v, p.ans i v → v = .string (txt [111, 107, 10])) : ∀ k, k ≤ p.m → ∀ J, ∃ m, WmL Shun (fun g w => AlEnd p H w ∧ ∃ J, g = (lr Tryz.prog) n J) m (AlEnd p H) (lq Tryz.prog p b n H.heap.size ((p.m - k : Nat) : Int) J) := by
  have hat : ∀ (w : World) (d : Nat), AlEnd p H w → AlEnd p H (w.at d) := fun w d h => h.at d
  intro k
  induction k with
  | zero =>
    intro _ J
    have a0 : WmL Shun (fun g w => AlEnd p H w ∧ ∃ J, g = (lr Tryz.prog) n J) 0 (AlEnd p H) (nxts Tryz.prog true 3 (fin (lq1 Tryz.prog p b n J H.heap.size p.m) (.bool false))) := fun w hw => ⟨hw, _, lr_lq5 p b n J H.heap.size p.m⟩
    have a1 := wm_sil (fun w => DB.none w) hat 3 _ (sil_lq5 p b n J H.heap.size p.m) a0
    have a2 : WmL Shun (fun g w => AlEnd p H w ∧ ∃ J, g = (lr Tryz.prog) n J) (0 + 3 + 1) (AlEnd p H) (lq1 Tryz.prog p b n J H.heap.size p.m) := wm_sym (fun w => DB.none w) hat (run_lq p b n J .nilIface .nilIface H.heap.size p.m default).2.2.2.2.1 (v := .bool false) (fun w => by
      have := sym_lq1 p b n J H.heap.size p.m w
      rw [show decide ((p.m : Int) < (p.m : Int)) = false from decide_eq_false (by omega)] at this
      exact this) a1
    exact ⟨_, wm_sil (fun w => DB.none w) hat 5 _ (sil_lq p b n J H.heap.size p.m) a2⟩
  | succ k ih =>
    intro hk J
    have hi : p.m - (k + 1) < p.m := by omega
    have ei : (((p.m - (k + 1) : Nat) : Int) + 1) = ((p.m - k : Nat) : Int) := by omega
    have ih := ih (by omega)
    generalize p.m - (k + 1) = i at *
    have ad : (⟨H.heap.size, 0, none⟩ : Addr).add i = ⟨H.heap.size, i, none⟩ := by rw [Addr.add_mid, Nat.zero_add]
    obtain ⟨m, hm2⟩ := ih (gJ (nxts Tryz.prog true 3 (fin (lq4 Tryz.prog p b n J H.heap.size i ⟨H.heap.size, i, none⟩) (.int .i64 ((p.m - k : Nat) : Int)))))
    rw [← lq_lq4] at hm2
    obtain ⟨_, _, _, _, r1, r4⟩ := run_lq p b n J .nilIface .nilIface H.heap.size i ⟨H.heap.size, i, none⟩
    have a4' := wm_sil (fun w => DB.none w) hat 3 _ (sil_lq4 p b n J H.heap.size i ⟨H.heap.size, i, none⟩ ((p.m - k : Nat) : Int)) hm2
    have a4 : WmL Shun (fun g w => AlEnd p H w ∧ ∃ J, g = (lr Tryz.prog) n J) (m + 3 + 1) (AlEnd p H) (lq4 Tryz.prog p b n J H.heap.size i ⟨H.heap.size, i, none⟩) := wm_sym (fun w => DB.none w) hat r4 (fun w => by
      have := sym_lq4 p b n J H.heap.size i ⟨H.heap.size, i, none⟩ w
      rw [ei, show IntKind.i64.wrap ((p.m - k : Nat) : Int) = ((p.m - k : Nat) : Int) by rw [IntKind.wrap_i64]; omega] at this
      exact this) a4'
    have a3' := wm_sil (fun w => DB.none w) hat 7 _ (sil_lq3 p b n J H.heap.size i ⟨H.heap.size, i, none⟩) a4
    have a3 : WmL Shun (fun g w => AlEnd p H w ∧ ∃ J, g = (lr Tryz.prog) n J) (m + 3 + 1 + 7 + 1) (AlEnd p H) (lq3 Tryz.prog p b n J H.heap.size i ⟨H.heap.size, i, none⟩) := by
      refine ⟨rfl, _, _, hat, fun w hw => ?_, a3'⟩
      obtain ⟨cs, h1, h2, h3⟩ := hw.ans
      obtain ⟨v, h4, h5⟩ := h3 i hi
      have h5 := hans i v h5
      subst h5
      obtain ⟨e1, e2, e3⟩ := ld_lq3 p b n J H.heap.size i ⟨H.heap.size, i, none⟩ w
      refine ⟨w, _, k_ld (main := true) e1 e3 (by rw [cells_cell h1]; exact h4) (by rw [e2]; exact seen_rd8 _), DB.cell (Nat.le_refl _) (fun hs => hSH ⟨i, hs⟩) ?_ id, hw⟩
      have := hw.size
      show H.heap.size < w.heap.size
      omega
    have a2 : WmL Shun (fun g w => AlEnd p H w ∧ ∃ J, g = (lr Tryz.prog) n J) (m + 3 + 1 + 7 + 1 + 1) (AlEnd p H) (lq2 Tryz.prog p b n J H.heap.size i) := by
      refine ⟨(ix_lq2 p b n J H.heap.size i H).2.1, _, _, hat, fun w hw => ⟨w, #[], ?_, DB.none w, hw⟩, a3⟩
      obtain ⟨e1, _, e3⟩ := ix_lq2 p b n J H.heap.size i w
      obtain ⟨k1, k2⟩ := runT_pair e3
      obtain ⟨q1, q2⟩ := run_idx2 (a := ⟨H.heap.size, 0, none⟩) (tc := p.m) hi w
      have h3 := k_value (main := true) e1 (k1.trans q1)
      rw [k2, q2, seen_none, ad] at h3
      exact h3
    have a1' := wm_sil (fun w => DB.none w) hat 9 _ (sil_lq1 p b n J H.heap.size i) a2
    have a1 : WmL Shun (fun g w => AlEnd p H w ∧ ∃ J, g = (lr Tryz.prog) n J) (m + 3 + 1 + 7 + 1 + 1 + 9 + 1) (AlEnd p H) (lq1 Tryz.prog p b n J H.heap.size i) := wm_sym (fun w => DB.none w) hat r1 (v := .bool true) (fun w => by
      have := sym_lq1 p b n J H.heap.size i w
      rw [show decide ((i : Int) < (p.m : Int)) = true from decide_eq_true (by omega)] at this
      exact this) a1'
    exact ⟨_, wm_sil (fun w => DB.none w) hat 5 _ (sil_lq p b n J H.heap.size i) a1⟩
theorem lk_walk (hm : p.m ≤ 50) (hb1 : 1 ≤ b) (hb : b ≤ 16) (hSH : ¬ ∃ i, Shun (.cell ⟨H.heap.size, i, none⟩)) (hans : ∀ i v, p.ans i v → v = .string (txt [111, 107, 10])) (J : Nat → Value) (T : Nat) : ∃ m, WmL Shun (fun g w => AlEnd p H w ∧ ∃ J, g = (lr Tryz.prog) n J) m (AlEnd p H) (alOut p H (ldz Tryz.prog p b n J T) []) := by
  have hat : ∀ (w : World) (d : Nat), AlEnd p H w → AlEnd p H (w.at d) := fun w d h => h.at d
  have key : ∀ J, ∃ m, WmL Shun (fun g w => AlEnd p H w ∧ ∃ J, g = (lr Tryz.prog) n J) m (AlEnd p H) (lk Tryz.prog p b n .nilIface (.slice (some ⟨H.heap.size, 0, none⟩) p.m p.m) J) := fun J => by
    obtain ⟨r1, r2, r3, r4, _⟩ := run_lq p b n J .nilIface (.slice (some ⟨H.heap.size, 0, none⟩) p.m p.m) H.heap.size 0 default
    obtain ⟨m, h0⟩ := lq_walk (b := b) (n := n) hm hSH hans p.m (Nat.le_refl _) (gJ (nxts Tryz.prog true 10 (fin (lk4 Tryz.prog p b n J H.heap.size) (.bool false))))
    rw [Nat.sub_self] at h0
    have h0 : WmL Shun (fun g w => AlEnd p H w ∧ ∃ J, g = (lr Tryz.prog) n J) m (AlEnd p H) (lq Tryz.prog p b n H.heap.size 0 (gJ (nxts Tryz.prog true 10 (fin (lk4 Tryz.prog p b n J H.heap.size) (.bool false))))) := h0
    rw [← lq_lk4] at h0
    have a4' := wm_sil (fun w => DB.none w) hat 10 _ (sil_lk4 p b n J H.heap.size) h0
    have a4 := wm_sym (fun w => DB.none w) hat r4 (v := .bool false) (fun w => by
      have := sym_lk4 p b n J H.heap.size w
      rw [show (!((p.m : Int) == (p.m : Int))) = false by simp] at this
      exact this) a4'
    have a3' := wm_sil (fun w => DB.none w) hat 12 _ (sil_lk3 p b n J H.heap.size) a4
    have a3 := wm_sym (fun w => DB.none w) hat r3 (v := .bool false) (fun w => by
      have := sym_lk3 p b n J .nilIface (.slice (some ⟨H.heap.size, 0, none⟩) p.m p.m) w
      rw [show decide (b > 16) = false from decide_eq_false (by omega)] at this
      exact this) a3'
    have a2' := wm_sil (fun w => DB.none w) hat 3 _ (sil_lk2 p b n J .nilIface (.slice (some ⟨H.heap.size, 0, none⟩) p.m p.m)) a3
    have a2 := wm_sym (fun w => DB.none w) hat r2 (v := .bool false) (fun w => by
      have := sym_lk2 p b n J .nilIface (.slice (some ⟨H.heap.size, 0, none⟩) p.m p.m) w
      rw [show decide (b < 1) = false from decide_eq_false (by omega)] at this
      exact this) a2'
    have a1' := wm_sil (fun w => DB.none w) hat 2 _ (sil_lk1 p b n J .nilIface (.slice (some ⟨H.heap.size, 0, none⟩) p.m p.m)) a2
    have a1 := wm_sym (fun w => DB.none w) hat r1 (v := .bool false) (fun w => by
      have := sym_lk1 p b n J .nilIface (.slice (some ⟨H.heap.size, 0, none⟩) p.m p.m) w
      rw [show decide ((p.m : Int) > 50) = false from decide_eq_false (by omega)] at this
      exact this) a1'
    exact ⟨_, wm_sil (fun w => DB.none w) hat 4 _ (sil_lk p b n J .nilIface (.slice (some ⟨H.heap.size, 0, none⟩) p.m p.m)) a1⟩
  obtain ⟨m, h0⟩ := key (gJ (nxts Tryz.prog true 6 (sesOut (ldz Tryz.prog p b n J T) [] (.tuple #[.slice (some ⟨H.heap.size, 0, none⟩) p.m p.m, .nilIface]))))
  rw [← lk_lb3] at h0
  exact ⟨_, wm_sil (fun w => DB.none w) hat 6 _ (sil_lb3 p b n J T (.slice (some ⟨H.heap.size, 0, none⟩) p.m p.m) .nilIface) h0⟩
end
section
variable {R O : Nat → Prop} {B : Nat} {os : Os} {W0 H : World}
theorem ans0 : txt (ansL 0) = txt [111, 107, 10] := by kernel_rfl
theorem law_takes (rd : RdLow R O B os W0) (same : ∀ k, R k ∨ O k → H.heap[k]? = W0.heap[k]?) (hB : B ≤ H.heap.size) (hos : H.os = os) {m b n : Nat} (hm : m ≤ 50) (hb1 : 1 ≤ b) (hb : b ≤ 16) (hn : n ≤ 30000) {J : Nat → Value} {gs : Array Goroutine} {t : Trace} {q : Nat → Nat} (sl : Option (Nat × Nat)) (h0 : gs[0]? = some (lh Tryz.prog m b n J)) (hL : Leavers Tryz.prog t gs q) (hP : Past (fun _ => False) H.heap.size t) :
    EndsW Tryz.prog (fun v w => v = .bool true ∧ Grew H w) (crowd gs H sl) t := by
  have hlt : ∀ k, R k ∨ O k → k < B := fun k hk => hk.elim (fun x => (rd.low.ro k x).1) (fun x => (rd.low.op k x).1)
  obtain ⟨k, hk⟩ := lh_walk (p := (pL Classical.propDecidable) R O B os W0 (fun _ => False) b m) (H := H) (Shun := fun _ => False) (b := b) (n := n) (Nat.le_trans hm (by decide)) J
  obtain ⟨N1, gs1, a1, w1, sl1, t1, q1, r1, r2, r3, ⟨r4, rfl⟩, r5, r6, _⟩ := wm_run (sl := sl) (fun w d => rfl) (K := Fx H []) (fun w d h => Fx.at h d) hk (Fx.refl H) h0 hL ⟨hP, fun _ _ _ _ _ hf => hf.elim⟩
  refine EndsW.after r1 ?_
  have hg1 := r4.grew
  have hs1 : w1.heap.size = H.heap.size + 1 := by have := r4.size; simpa using this
  have X : AlOk (pL Classical.propDecidable R O B os W0 (fun _ => False) b m) (some ⟨H.heap.size, 0, none⟩) w1 W0 := {
    m50 := hm
    n1 := hb1
    n16 := hb
    shun := fun _ _ h => h
    rdshun := fun _ _ h => h
    low := rd.low
    same := fun k hk => by
      have h1 := hlt k hk
      rw [hg1.low k (by omega)]
      exact same k hk
    h0 := rfl
    B := by
      show B ≤ w1.heap.size
      omega
    os := hg1.os.trans hos
    txt := fun k hk => ⟨_, rfl, by
      have hl : w1.heap[H.heap.size]? = some (.cells (madeCells #[.string .empty] m) 9) := r4.new 0
      rw [Addr.add_mid, Nat.zero_add, cells_cell hl]
      exact made_get hk, by show H.heap.size < w1.heap.size; omega, id⟩
    cont := fun i _ => cont_xs rd 0
    val := fun i v w _ h => by
      have h : v = .string (txt (ansL 0)) := h
      show v = .string (txt [111, 107, 10])
      rw [h, ans0]
    ans := fun i v h => ⟨_, h⟩ }
  obtain ⟨N2, gs2, w2, sl2, t2, q2, e1, e2, e3, e4, e5⟩ := all_beside X sl1 r3 r5 r6
  refine EndsW.after e1 ?_
  have hS' : ∀ w : World, AlEnd (pL Classical.propDecidable R O B os W0 (fun _ => False) b m) w1 w → ShunLow (fun l => (pL Classical.propDecidable R O B os W0 (fun _ => False) b m).Shun l ∨ ∃ a : Addr, l = .cell a ∧ a.block = w1.heap.size + 4) w.heap.size := fun w hw l hl => by
    rcases hl with hl | ⟨a, h1, h2⟩
    · exact hl.elim
    · have := hw.size
      exact ⟨a, h1, by omega⟩
  obtain ⟨k2, hk2⟩ := lk_walk (p := (pL Classical.propDecidable) R O B os W0 (fun _ => False) b m) (H := w1) (Shun := fun l => (pL Classical.propDecidable R O B os W0 (fun _ => False) b m).Shun l ∨ ∃ a : Addr, l = .cell a ∧ a.block = w1.heap.size + 4) (b := b) (n := n) hm (by omega) (by omega) (by
    rintro ⟨i, hi | ⟨a, h1, h2⟩⟩
    · exact hi
    · cases h1
      have h2 : w1.heap.size = w1.heap.size + 4 := h2
      omega) (fun i v h => h) J H.heap.size
  obtain ⟨N3, gs3, a3, w3, sl3, t3, q3, f1, f2, f3, ⟨f4, J3, rfl⟩, f5, f6, _⟩ := wm_run (sl := sl2) (fun w d => rfl) (K := AlEnd (pL Classical.propDecidable R O B os W0 (fun _ => False) b m) w1) (fun w d h => AlEnd.at h d) hk2 e5 e2 e3 ⟨e4, fun _ _ _ _ _ hf => hf.elim⟩
  refine EndsW.after f1 ?_
  have hg3 := hg1.trans f4.grew
  have hs3 := f4.size
  refine (law_end (H := w3) rd (fun k hk => ?_) (by omega) (hg3.os.trans hos) (hS' w3 f4) ?_ hn sl3 f3 f5 f6).imp fun v w h => ⟨h.1, hg3.trans h.2⟩
  · have h1 := hlt k hk
    rw [hg3.low k (by omega)]
    exact same k hk
  · rintro a ha (h | ⟨a', h1, h2⟩)
    · exact h
    · cases h1
      have := hlt _ (.inl ha)
      omega
end
theorem pick_num (a : Int) (k : Int) (h1 : 0 < k) (h2 : k ≤ 30000) : ∃ m : Nat, (m : Int) < k ∧ (IntKind.u64.wrap a).tmod k = (m : Int) ∧ IntKind.i64.wrap ((m : Nat) : Int) = (m : Int) := by
  have h0 : 0 ≤ IntKind.u64.wrap a := by rw [IntKind.wrap_u64]; omega
  generalize IntKind.u64.wrap a = X at h0
  have e : X.tmod k = X % k := Int.tmod_eq_emod_of_nonneg h0
  have h3 : 0 ≤ X % k := Int.emod_nonneg _ (by omega)
  have h4 : X % k < k := Int.emod_lt_of_pos _ h1
  refine ⟨(X % k).toNat, by omega, by rw [e]; omega, ?_⟩
  rw [IntKind.wrap_i64]
  omega
section
variable {H : World} {Shun : Loc → Prop} {Stop : Goroutine → World → Prop} {K : World → Prop}
theorem wm_out {D : World → World → Array Event → Prop} (hD : ∀ w, D w w #[]) (hK : ∀ w d, K w → K (World.at w d)) {m : Nat} {g g' : Goroutine} (h : g.status = .running ∧ ∀ w, stepG Tryz.prog true g w = .go g' w #[]) (hn : Wm Tryz.prog D Stop m K g') : Wm Tryz.prog D Stop (m + 1) K g := ⟨h.1, g', K, hK, fun w hw => ⟨w, #[], h.2 w, hD w, hw⟩, hn⟩
theorem pickA (hK : ∀ w d, K w → K (World.at w d)) (z : Frame) (zs : List Frame) (a : Int) (h : ∀ m : Nat, m < 55 → ∃ k, WmL Shun Stop k K (sesOut z zs (.int .i64 m))) : ∃ k, WmL Shun Stop k K (pkA0 Tryz.prog z zs a) := by
  obtain ⟨m, h1, h2, h3⟩ := pick_num a 55 (by omega) (by omega)
  obtain ⟨k, hk⟩ := h m (by omega)
  generalize hX : IntKind.u64.wrap a = X at h2
  obtain ⟨r1, r2⟩ := run_pkA z zs a X
  have a5 := wm_out (fun w => DB.none w) hK (out_pkA z zs a X m m) hk
  have a4 := wm_sil (fun w => DB.none w) hK 3 _ (sil_pkA4 z zs a X m m) a5
  have a3 : WmL Shun Stop (k + 1 + 3 + 1) K (fin (pkA2 Tryz.prog z zs a X) (.int .u64 m)) := wm_sym (fun w => DB.none w) hK rfl (fun w => by
    have := sym_pkA3 z zs a X m w
    rw [h3] at this
    exact this) a4
  have a2 : WmL Shun Stop (k + 1 + 3 + 1 + 1) K (pkA2 Tryz.prog z zs a X) := wm_sym (fun w => DB.none w) hK r2 (fun w => by
    have := sym_pkA2 z zs a X w
    rw [h2] at this
    exact this) a3
  have a1' := wm_sil (fun w => DB.none w) hK 2 _ (sil_pkA1 z zs a X) a2
  have a1 : WmL Shun Stop (k + 1 + 3 + 1 + 1 + 2 + 1) K (pkA1 Tryz.prog z zs a) := wm_sym (fun w => DB.none w) hK r1 (fun w => by
    have := sym_pkA1 z zs a w
    rw [hX] at this
    exact this) a1'
  exact ⟨_, wm_sil (fun w => DB.none w) hK 7 _ (sil_pkA0 z zs a) a1⟩
theorem pickB (hK : ∀ w d, K w → K (World.at w d)) (z : Frame) (zs : List Frame) (a : Int) (h : ∀ m : Nat, m < 30000 → ∃ k, WmL Shun Stop k K (sesOut z zs (.int .i64 m))) : ∃ k, WmL Shun Stop k K (pkB0 Tryz.prog z zs a) := by
  obtain ⟨m, h1, h2, h3⟩ := pick_num a 30000 (by omega) (by omega)
  obtain ⟨k, hk⟩ := h m (by omega)
  generalize hX : IntKind.u64.wrap a = X at h2
  obtain ⟨r1, r2⟩ := run_pkB z zs a X
  have a5 := wm_out (fun w => DB.none w) hK (out_pkB z zs a X m m) hk
  have a4 := wm_sil (fun w => DB.none w) hK 3 _ (sil_pkB4 z zs a X m m) a5
  have a3 : WmL Shun Stop (k + 1 + 3 + 1) K (fin (pkB2 Tryz.prog z zs a X) (.int .u64 m)) := wm_sym (fun w => DB.none w) hK rfl (fun w => by
    have := sym_pkB3 z zs a X m w
    rw [h3] at this
    exact this) a4
  have a2 : WmL Shun Stop (k + 1 + 3 + 1 + 1) K (pkB2 Tryz.prog z zs a X) := wm_sym (fun w => DB.none w) hK r2 (fun w => by
    have := sym_pkB2 z zs a X w
    rw [h2] at this
    exact this) a3
  have a1' := wm_sil (fun w => DB.none w) hK 2 _ (sil_pkB1 z zs a X) a2
  have a1 : WmL Shun Stop (k + 1 + 3 + 1 + 1 + 2 + 1) K (pkB1 Tryz.prog z zs a) := wm_sym (fun w => DB.none w) hK r1 (fun w => by
    have := sym_pkB1 z zs a w
    rw [hX] at this
    exact this) a1'
  exact ⟨_, wm_sil (fun w => DB.none w) hK 7 _ (sil_pkB0 z zs a) a1⟩
theorem la_walk (a b c : Int) : ∃ k, WmL Shun (fun g w => Fx H [] w ∧ ∃ (m n : Nat) (J : Nat → Value), m < 55 ∧ n < 30000 ∧ g = (lh Tryz.prog) m b n J) k (Fx H []) (sesOut (laz Tryz.prog a b c) (lazs Tryz.prog a b c) (.string (txt tellT))) := by
  have hat : ∀ (w : World) (d : Nat), Fx H [] w → Fx H [] (w.at d) := fun w d h => h.at d
  have h1 : ∃ k, WmL Shun (fun g w => Fx H [] w ∧ ∃ (m n : Nat) (J : Nat → Value), m < 55 ∧ n < 30000 ∧ g = (lh Tryz.prog) m b n J) k (Fx H []) (pkA0 Tryz.prog (lbz Tryz.prog a b c) [] a) := pickA hat _ _ a fun m hm => by
    have h2 : ∃ k, WmL Shun (fun g w => Fx H [] w ∧ ∃ (m n : Nat) (J : Nat → Value), m < 55 ∧ n < 30000 ∧ g = (lh Tryz.prog) m b n J) k (Fx H []) (pkB0 Tryz.prog (lcz Tryz.prog a b c m) [] c) := pickB hat _ _ c fun n hn => by
      have a0 : WmL Shun (fun g w => Fx H [] w ∧ ∃ (m n : Nat) (J : Nat → Value), m < 55 ∧ n < 30000 ∧ g = (lh Tryz.prog) m b n J) 0 (Fx H []) (nxts Tryz.prog true 3 (sesOut (lcz Tryz.prog a b c m) [] (.int .i64 n))) := fun w hw => ⟨hw, m, n, _, hm, hn, lh_la4 a b c m n⟩
      exact ⟨_, wm_sil (fun w => DB.none w) hat 3 _ (sil_la4 a b c m n) a0⟩
    obtain ⟨k, hk⟩ := h2
    rw [← la3_pk] at hk
    exact ⟨_, wm_sil (fun w => DB.none w) hat 2 _ (sil_la3 a b c m) hk⟩
  obtain ⟨k, hk⟩ := h1
  rw [← la2_pk] at hk
  exact ⟨_, wm_sil (fun w => DB.none w) hat 13 _ (sil_la2 a b c) hk⟩
end
section
variable {R O : Nat → Prop} {B : Nat} {os : Os} {W0 : World}
theorem law_begins (rd : RdLow R O B os W0) (hB : B ≤ W0.heap.size) (hos : W0.os = os) (a b c : Int) {gs : Array Goroutine} {t : Trace} {q : Nat → Nat} (sl : Option (Nat × Nat)) (h0 : gs[0]? = some (la0 Tryz.prog a b c)) (hL : Leavers Tryz.prog t gs q) (hP : Past (fun _ => False) W0.heap.size t) :
    ∃ N gs' w' sl' t' q' m n J, runNT Tryz.prog N (crowd gs W0 sl) t = (.next (crowd gs' w' sl'), t') ∧ gs'[0]? = some (lh Tryz.prog (m : Nat) b (n : Nat) J) ∧ m < 55 ∧ n < 30000 ∧ Leavers Tryz.prog t' gs' q' ∧ Past (fun _ => False) w'.heap.size t' ∧ Grew W0 w' := by
  have hat : ∀ {H : World} (w : World) (d : Nat), Fx H [] w → Fx H [] (w.at d) := fun w d h => h.at d
  have a0 : WmL (fun _ => False) (fun g w => Fx W0 [] w ∧ g = (la1 Tryz.prog) a b c) 0 (Fx W0 []) (nxts Tryz.prog true 15 (la0 Tryz.prog a b c)) := fun w hw => ⟨hw, by unfold la1; rfl⟩
  have a1 := wm_sil (fun w => DB.none w) hat 15 _ (sil_la0 a b c) a0
  obtain ⟨N1, gs1, x1, w1, sl1, t1, q1, r1, r2, r3, ⟨r4, hx1⟩, r5, r6, _⟩ := wm_run (sl := sl) (fun w d => rfl) (K := Fx W0 []) hat a1 (Fx.refl W0) h0 hL ⟨hP, fun _ _ _ _ _ hf => hf.elim⟩
  have hg1 := r4.grew
  have hlt : ∀ k, R k ∨ O k → k < B := fun k hk => hk.elim (fun x => (rd.low.ro k x).1) (fun x => (rd.low.op k x).1)
  have hs1 := hg1.size
  rw [hx1, la1_ses] at r3
  obtain ⟨N2, gs2, w2, sl2, t2, q2, v, e1, e2, rfl, e4, e5, e6⟩ := ses_beside (H := w1) (An := fun v => v = .string (txt tellT)) rd.low (fun k hk => hg1.low k (by have := hlt k hk; omega)) (by omega) (hg1.os.trans hos) (cont_talk rd) (fun v w h => h) (fun v h => ⟨_, h⟩) (fun l hl => hl.elim) (fun _ _ h => h) sl1 r3 r5 r6
  obtain ⟨k, hk⟩ := la_walk (H := w2) (Shun := fun _ => False) a b c
  obtain ⟨N3, gs3, x3, w3, sl3, t3, q3, f1, f2, f3, ⟨f4, m, n, J, hm, hn, rfl⟩, f5, f6, _⟩ := wm_run (sl := sl2) (fun w d => rfl) (K := Fx w2 []) hat hk (Fx.refl w2) e2 e4 ⟨e5, fun _ _ _ _ _ hf => hf.elim⟩
  refine ⟨N1 + N2 + N3, gs3, w3, sl3, t3, q3, m, n, J, ?_, f3, hm, hn, f5, f6, (hg1.trans e6).trans f4.grew⟩
  have h12 : runNT Tryz.prog (N1 + N2) (crowd gs W0 sl) t = (.next (crowd gs2 w2 sl2), t2) := by
    rw [runNT_add, r1]
    exact e1
  rw [runNT_add, h12]
  exact f1
end
variable (pG : Program)
def limE : Value := .iface 74 (.int .i64 4)
section
variable (p : Pa) (z : Frame) (zs : List Frame) (ta : Option Addr) (tc : Nat) (n : Int)
set_option maxRecDepth 100000
theorem sil_no1 : SilP true 17 (fin (al1 Tryz.prog p (z :: zs) ta tc n) (.bool true)) := by
  iterate 17 (refine ⟨⟨by kernel_rfl, fun w => by kernel_rfl⟩, ?_⟩)
  trivial
theorem out_no1 : (nxts Tryz.prog true 17 (fin (al1 Tryz.prog p (z :: zs) ta tc n) (.bool true))).status = .running ∧ ∀ w, stepG Tryz.prog true (nxts Tryz.prog true 17 (fin (al1 Tryz.prog p (z :: zs) ta tc n) (.bool true))) w = .go (sesOut z zs (.tuple #[.slice none 0 0, limE])) w #[] := ⟨by kernel_rfl, fun w => by kernel_rfl⟩
theorem sil_no2 : SilP true 14 (fin (al2 Tryz.prog p (z :: zs) ta tc n) (.bool true)) := by
  iterate 14 (refine ⟨⟨by kernel_rfl, fun w => by kernel_rfl⟩, ?_⟩)
  trivial
theorem out_no2 : (nxts Tryz.prog true 14 (fin (al2 Tryz.prog p (z :: zs) ta tc n) (.bool true))).status = .running ∧ ∀ w, stepG Tryz.prog true (nxts Tryz.prog true 14 (fin (al2 Tryz.prog p (z :: zs) ta tc n) (.bool true))) w = .go (sesOut z zs (.tuple #[.slice none 0 0, limE])) w #[] := ⟨by kernel_rfl, fun w => by kernel_rfl⟩
theorem sil_no3 : SilP true 10 (fin (al3 Tryz.prog p (z :: zs) ta tc n) (.bool true)) := by
  iterate 10 (refine ⟨⟨by kernel_rfl, fun w => by kernel_rfl⟩, ?_⟩)
  trivial
theorem out_no3 : (nxts Tryz.prog true 10 (fin (al3 Tryz.prog p (z :: zs) ta tc n) (.bool true))).status = .running ∧ ∀ w, stepG Tryz.prog true (nxts Tryz.prog true 10 (fin (al3 Tryz.prog p (z :: zs) ta tc n) (.bool true))) w = .go (sesOut z zs (.tuple #[.slice none 0 0, limE])) w #[] := ⟨by kernel_rfl, fun w => by kernel_rfl⟩
end
section
variable (p : Pa) (b n : Int) (J : Nat → Value)
set_option maxRecDepth 100000
theorem sil_te1 : SilP true 14 (fin (lk1 Tryz.prog p b n J limE (.slice none 0 0)) (.bool true)) := by
  iterate 14 (refine ⟨⟨by kernel_rfl, fun w => by kernel_rfl⟩, ?_⟩)
  trivial
def tez1 : Frame := (nxts pG true 14 (fin (lk1 pG p b n J limE (.slice none 0 0)) (.bool true))).callers.headD default
theorem te1_tell : (nxts Tryz.prog) true 14 (fin (lk1 Tryz.prog p b n J limE (.slice none 0 0)) (.bool true)) = gor [Frame.enter Tryz.prog 28 #[limE] .normal] (tez1 Tryz.prog p b n J :: []) := by kernel_rfl
theorem sil_tf1 : SilP true 9 (sesOut (tez1 Tryz.prog p b n J) [] (.int .i64 4)) := by
  iterate 9 (refine ⟨⟨by kernel_rfl, fun w => by kernel_rfl⟩, ?_⟩)
  trivial
theorem lr_tf1 : (nxts Tryz.prog) true 9 (sesOut (tez1 Tryz.prog p b n J) [] (.int .i64 4)) = (lr Tryz.prog) n (gJ (nxts Tryz.prog true 9 (sesOut (tez1 Tryz.prog p b n J) [] (.int .i64 4)))) := by kernel_rfl
theorem sil_te2 : SilP true 11 (fin (lk2 Tryz.prog p b n J limE (.slice none 0 0)) (.bool true)) := by
  iterate 11 (refine ⟨⟨by kernel_rfl, fun w => by kernel_rfl⟩, ?_⟩)
  trivial
def tez2 : Frame := (nxts pG true 11 (fin (lk2 pG p b n J limE (.slice none 0 0)) (.bool true))).callers.headD default
theorem te2_tell : (nxts Tryz.prog) true 11 (fin (lk2 Tryz.prog p b n J limE (.slice none 0 0)) (.bool true)) = gor [Frame.enter Tryz.prog 28 #[limE] .normal] (tez2 Tryz.prog p b n J :: []) := by kernel_rfl
theorem sil_tf2 : SilP true 9 (sesOut (tez2 Tryz.prog p b n J) [] (.int .i64 4)) := by
  iterate 9 (refine ⟨⟨by kernel_rfl, fun w => by kernel_rfl⟩, ?_⟩)
  trivial
theorem lr_tf2 : (nxts Tryz.prog) true 9 (sesOut (tez2 Tryz.prog p b n J) [] (.int .i64 4)) = (lr Tryz.prog) n (gJ (nxts Tryz.prog true 9 (sesOut (tez2 Tryz.prog p b n J) [] (.int .i64 4)))) := by kernel_rfl
theorem sil_te3 : SilP true 7 (fin (lk3 Tryz.prog p b n J limE (.slice none 0 0)) (.bool true)) := by
  iterate 7 (refine ⟨⟨by kernel_rfl, fun w => by kernel_rfl⟩, ?_⟩)
  trivial
def tez3 : Frame := (nxts pG true 7 (fin (lk3 pG p b n J limE (.slice none 0 0)) (.bool true))).callers.headD default
theorem te3_tell : (nxts Tryz.prog) true 7 (fin (lk3 Tryz.prog p b n J limE (.slice none 0 0)) (.bool true)) = gor [Frame.enter Tryz.prog 28 #[limE] .normal] (tez3 Tryz.prog p b n J :: []) := by kernel_rfl
theorem sil_tf3 : SilP true 9 (sesOut (tez3 Tryz.prog p b n J) [] (.int .i64 4)) := by
  iterate 9 (refine ⟨⟨by kernel_rfl, fun w => by kernel_rfl⟩, ?_⟩)
  trivial
theorem lr_tf3 : (nxts Tryz.prog) true 9 (sesOut (tez3 Tryz.prog p b n J) [] (.int .i64 4)) = (lr Tryz.prog) n (gJ (nxts Tryz.prog true 9 (sesOut (tez3 Tryz.prog p b n J) [] (.int .i64 4)))) := by kernel_rfl
end
end Go.Proofs.YtaablbmgagiajabGreatDoor.Ren
namespace Go.Proofs.YtaablbmgagiajabGreatDoor.Ren
open Go Go.Conc Go.RowKit Go.Deep
section
variable {R O : Nat → Prop} {B : Nat} {os : Os} {W0 H : World}
theorem cont_tell (rd : RdLow R O B os W0) (hE : HasErrT W0) (h0 : R 0) : Cont (env Tryz.prog B R O os) ([Frame.enter Tryz.prog 28 #[limE] .normal], (h0Of Classical.propDecidable) R O B W0.heap) (fun v _ => v = .int .i64 4) := by
  refine cont_of_calls fun wl hw _ => ?_
  have hE' : HasErrT wl := by
    obtain ⟨c, t, h1, h2⟩ := lw_get rd.low hw h0
    have e : wl.cell? ⟨0, 0, none⟩ = W0.cell? ⟨0, 0, none⟩ := by simp only [World.cell?, h1, h2]
    unfold HasErrT at hE ⊢
    rw [e]
    exact hE
  refine (tell_any wl 0 (4, -1) limE (.inr (.inl ⟨by decide, rfl, rfl⟩)) hE').mono ?_
  rintro e w' ⟨rfl, _⟩
  exact ⟨_, rfl, rfl⟩
def AtTell (H : World) (n : Int) (g : Goroutine) (w : World) : Prop := Fx H [] w ∧ ∃ z, g = gor [Frame.enter Tryz.prog 28 #[limE] .normal] (z :: []) ∧ SilP true 9 (sesOut z [] (.int .i64 4)) ∧ ∃ J, (nxts Tryz.prog) true 9 (sesOut z [] (.int .i64 4)) = (lr Tryz.prog) n J
theorem te_walk {p : Pa} {Shun : Loc → Prop} {b n : Int} (hno : ¬ ((p.m : Int) ≤ 50 ∧ 1 ≤ b ∧ b ≤ 16)) (J : Nat → Value) : ∃ k, WmL Shun (AtTell H n) k (Fx H []) (lk Tryz.prog p b n limE (.slice none 0 0) J) := by
  have hat : ∀ (w : World) (d : Nat), Fx H [] w → Fx H [] (w.at d) := fun w d h => h.at d
  obtain ⟨r1, r2, r3, _⟩ := run_lq p b n J limE (.slice none 0 0) 0 0 default
  have key : ∃ k, WmL Shun (AtTell H n) k (Fx H []) (fin (lk1 Tryz.prog p b n J limE (.slice none 0 0)) (.bool (decide ((p.m : Int) > 50)))) := by
    by_cases h1 : (p.m : Int) > 50
    · rw [decide_eq_true h1]
      exact ⟨_, wm_sil (m := 0) (fun w => DB.none w) hat 14 _ (sil_te1 p b n J) fun w hw => ⟨hw, _, te1_tell p b n J, sil_tf1 p b n J, _, lr_tf1 p b n J⟩⟩
    · rw [decide_eq_false h1]
      have k2 : ∃ k, WmL Shun (AtTell H n) k (Fx H []) (fin (lk2 Tryz.prog p b n J limE (.slice none 0 0)) (.bool (decide (b < 1)))) := by
        by_cases h2 : b < 1
        · rw [decide_eq_true h2]
          exact ⟨_, wm_sil (m := 0) (fun w => DB.none w) hat 11 _ (sil_te2 p b n J) fun w hw => ⟨hw, _, te2_tell p b n J, sil_tf2 p b n J, _, lr_tf2 p b n J⟩⟩
        · rw [decide_eq_false h2]
          have h3 : b > 16 := by omega
          have k3 : WmL Shun (AtTell H n) (0 + 7) (Fx H []) (fin (lk3 Tryz.prog p b n J limE (.slice none 0 0)) (.bool true)) := wm_sil (m := 0) (fun w => DB.none w) hat 7 _ (sil_te3 p b n J) fun w hw => ⟨hw, _, te3_tell p b n J, sil_tf3 p b n J, _, lr_tf3 p b n J⟩
          exact ⟨_, wm_sil (fun w => DB.none w) hat 3 _ (sil_lk2 p b n J limE (.slice none 0 0)) (wm_sym (fun w => DB.none w) hat r3 (fun w => by
            have := sym_lk3 p b n J limE (.slice none 0 0) w
            rw [decide_eq_true h3] at this
            exact this) k3)⟩
      obtain ⟨k, hk⟩ := k2
      exact ⟨_, wm_sil (fun w => DB.none w) hat 2 _ (sil_lk1 p b n J limE (.slice none 0 0)) (wm_sym (fun w => DB.none w) hat r2 (sym_lk2 p b n J limE (.slice none 0 0)) hk)⟩
  obtain ⟨k, hk⟩ := key
  exact ⟨_, wm_sil (fun w => DB.none w) hat 4 _ (sil_lk p b n J limE (.slice none 0 0)) (wm_sym (fun w => DB.none w) hat r1 (sym_lk1 p b n J limE (.slice none 0 0)) hk)⟩
theorem no_walk {p : Pa} {Shun : Loc → Prop} {b n : Int} (hno : ¬ ((p.m : Int) ≤ 50 ∧ 1 ≤ b ∧ b ≤ 16)) (J : Nat → Value) (T : Nat) (ta : Option Addr) (tc : Nat) : ∃ k, WmL Shun (AtTell H n) k (Fx H []) (al0 Tryz.prog p (ldz Tryz.prog p b n J T :: []) ta tc b) := by
  have hat : ∀ (w : World) (d : Nat), Fx H [] w → Fx H [] (w.at d) := fun w d h => h.at d
  obtain ⟨r1, r2, r3, _⟩ := run_al p (ldz Tryz.prog p b n J T :: []) ta tc b 0 0 0 0
  obtain ⟨k0, hk0⟩ := te_walk (H := H) (Shun := Shun) (n := n) hno (gJ (nxts Tryz.prog true 6 (sesOut (ldz Tryz.prog p b n J T) [] (.tuple #[.slice none 0 0, limE]))))
  rw [← lk_lb3] at hk0
  have hk1 := wm_sil (fun w => DB.none w) hat 6 _ (sil_lb3 p b n J T (.slice none 0 0) limE) hk0
  have key : ∃ k, WmL Shun (AtTell H n) k (Fx H []) (fin (al1 Tryz.prog p (ldz Tryz.prog p b n J T :: []) ta tc b) (.bool (decide ((p.m : Int) > 50)))) := by
    by_cases h1 : (p.m : Int) > 50
    · rw [decide_eq_true h1]
      exact ⟨_, wm_sil (fun w => DB.none w) hat 17 _ (sil_no1 p (ldz Tryz.prog p b n J T) [] ta tc b) (wm_out (fun w => DB.none w) hat (out_no1 p (ldz Tryz.prog p b n J T) [] ta tc b) hk1)⟩
    · rw [decide_eq_false h1]
      have k2 : ∃ k, WmL Shun (AtTell H n) k (Fx H []) (fin (al2 Tryz.prog p (ldz Tryz.prog p b n J T :: []) ta tc b) (.bool (decide (b < 1)))) := by
        by_cases h2 : b < 1
        · rw [decide_eq_true h2]
          exact ⟨_, wm_sil (fun w => DB.none w) hat 14 _ (sil_no2 p (ldz Tryz.prog p b n J T) [] ta tc b) (wm_out (fun w => DB.none w) hat (out_no2 p (ldz Tryz.prog p b n J T) [] ta tc b) hk1)⟩
        · rw [decide_eq_false h2]
          have h3 : b > 16 := by omega
          have k3 := wm_sil (fun w => DB.none w) hat 10 _ (sil_no3 p (ldz Tryz.prog p b n J T) [] ta tc b) (wm_out (fun w => DB.none w) hat (out_no3 p (ldz Tryz.prog p b n J T) [] ta tc b) hk1)
          exact ⟨_, wm_sil (fun w => DB.none w) hat 3 _ (sil_al2 p (ldz Tryz.prog p b n J T :: []) ta tc b) (wm_sym (fun w => DB.none w) hat r3 (fun w => by
            have := sym_al3 p (ldz Tryz.prog p b n J T :: []) ta tc b w
            rw [decide_eq_true h3] at this
            exact this) k3)⟩
      obtain ⟨k, hk⟩ := k2
      exact ⟨_, wm_sil (fun w => DB.none w) hat 2 _ (sil_al1 p (ldz Tryz.prog p b n J T :: []) ta tc b) (wm_sym (fun w => DB.none w) hat r2 (sym_al2 p (ldz Tryz.prog p b n J T :: []) ta tc b) hk)⟩
  obtain ⟨k, hk⟩ := key
  exact ⟨_, wm_sil (fun w => DB.none w) hat 10 _ (sil_al0 p (ldz Tryz.prog p b n J T :: []) ta tc b) (wm_sym (fun w => DB.none w) hat r1 (sym_al1 p (ldz Tryz.prog p b n J T :: []) ta tc b) hk)⟩
theorem law_refuses (rd : RdLow R O B os W0) (hE : HasErrT W0) (hR0 : R 0) (same : ∀ k, R k ∨ O k → H.heap[k]? = W0.heap[k]?) (hB : B ≤ H.heap.size) (hos : H.os = os) {m n : Nat} {b : Int} (hm : m ≤ 60) (hno : ¬ ((m : Int) ≤ 50 ∧ 1 ≤ b ∧ b ≤ 16)) (hn : n ≤ 30000) {J : Nat → Value} {gs : Array Goroutine} {t : Trace} {q : Nat → Nat} (sl : Option (Nat × Nat)) (h0 : gs[0]? = some (lh Tryz.prog m b n J)) (hL : Leavers Tryz.prog t gs q) (hP : Past (fun _ => False) H.heap.size t) :
    EndsW Tryz.prog (fun v w => v = .bool true ∧ Grew H w) (crowd gs H sl) t := by
  have hlt : ∀ k, R k ∨ O k → k < B := fun k hk => hk.elim (fun x => (rd.low.ro k x).1) (fun x => (rd.low.op k x).1)
  obtain ⟨k, hk⟩ := lh_walk (p := (pL Classical.propDecidable) R O B os W0 (fun _ => False) 0 m) (H := H) (Shun := fun _ => False) (b := b) (n := n) hm J
  obtain ⟨N1, gs1, a1, w1, sl1, t1, q1, r1, r2, r3, ⟨r4, hx1⟩, r5, r6, _⟩ := wm_run (sl := sl) (fun w d => rfl) (K := Fx H []) (fun w d h => Fx.at h d) hk (Fx.refl H) h0 hL ⟨hP, fun _ _ _ _ _ hf => hf.elim⟩
  refine EndsW.after r1 ?_
  have hg1 := r4.grew
  rw [hx1] at r3
  obtain ⟨k2, hk2⟩ := no_walk (p := (pL Classical.propDecidable) R O B os W0 (fun _ => False) 0 m) (H := w1) (Shun := fun _ => False) (b := b) (n := n) hno J H.heap.size (some ⟨H.heap.size, 0, none⟩) m
  obtain ⟨N2, gs2, a2, w2, sl2, t2, q2, e1, e2, e3, ⟨e4, z, hx2, hz, J2, hJ⟩, e5, e6, _⟩ := wm_run (sl := sl1) (fun w d => rfl) (K := Fx w1 []) (fun w d h => Fx.at h d) hk2 (Fx.refl w1) r3 r5 ⟨r6, fun _ _ _ _ _ hf => hf.elim⟩
  refine EndsW.after e1 ?_
  have hg2 := hg1.trans e4.grew
  have hs2 := hg2.size
  rw [hx2] at e3
  obtain ⟨N3, gs3, w3, sl3, t3, q3, v, f1, f2, rfl, f4, f5, f6⟩ := fn_beside (H := w2) (gf := 28) (args := #[limE]) (An := fun v => v = .int .i64 4) (by kernel_rfl) (fun v hv => by
    simp only [List.mem_toArray, List.mem_cons, List.not_mem_nil, or_false] at hv
    subst hv
    simp [limE, okV, env]) (fun f => by simp [limE, rV]) rd.low (fun k hk => by
    have := hlt k hk
    rw [hg2.low k (by omega)]
    exact same k hk) (by omega) (hg2.os.trans hos) (cont_tell rd hE hR0) (fun v w h => h) (fun v f h => by rw [h, rV]) (fun l hl => hl.elim) (fun _ _ h => h) sl2 e3 e5 e6
  refine EndsW.after f1 ?_
  have hg3 := hg2.trans f6
  have a0 : WmL (fun _ => False) (fun g w => Fx w3 [] w ∧ g = (lr Tryz.prog) n J2) 0 (Fx w3 []) (nxts Tryz.prog true 9 (sesOut z [] (.int .i64 4))) := fun w hw => ⟨hw, hJ⟩
  have a1' := wm_sil (K := Fx w3 []) (fun w => DB.none w) (fun w d h => Fx.at h d) 9 _ hz a0
  obtain ⟨N4, gs4, a4, w4, sl4, t4, q4, g1, g2, g3, ⟨g4, hx4⟩, g5, g6, _⟩ := wm_run (sl := sl3) (fun w d => rfl) (K := Fx w3 []) (fun w d h => Fx.at h d) a1' (Fx.refl w3) f2 f4 ⟨f5, fun _ _ _ _ _ hf => hf.elim⟩
  refine EndsW.after g1 ?_
  have hg4 := hg3.trans g4.grew
  have hs4 := hg4.size
  rw [hx4] at g3
  refine (law_end (H := w4) (Shun := fun _ => False) rd (fun k hk => ?_) (by omega) (hg4.os.trans hos) (fun l hl => hl.elim) (fun _ _ h => h) hn sl4 g3 g5 g6).imp fun v w h => ⟨h.1, hg4.trans h.2⟩
  have := hlt k hk
  rw [hg4.low k (by omega)]
  exact same k hk
theorem law_runs (rd : RdLow R O B os W0) (hE : HasErrT W0) (hR0 : R 0) (hB : B ≤ W0.heap.size) (hos : W0.os = os) (a b c : Int) (sl : Option (Nat × Nat)) : EndsW Tryz.prog (fun v w => v = .bool true ∧ Grew W0 w) (crowd #[(la0 Tryz.prog) a b c] W0 sl) #[] := by
  obtain ⟨N, gs, w, sl', t, q, m, n, J, r1, r2, r3, r4, r5, r6, r7⟩ := law_begins rd hB hos a b c (gs := #[(la0 Tryz.prog) a b c]) (t := #[]) (q := fun _ => 0) sl rfl (leavers_one _ _) (past_nil.mono (Nat.zero_le _))
  refine EndsW.after r1 ?_
  have hlt : ∀ k, R k ∨ O k → k < B := fun k hk => hk.elim (fun x => (rd.low.ro k x).1) (fun x => (rd.low.op k x).1)
  have hs := r7.size
  have same : ∀ k, R k ∨ O k → w.heap[k]? = W0.heap[k]? := fun k hk => r7.low k (by have := hlt k hk; omega)
  by_cases hyes : (m : Int) ≤ 50 ∧ 1 ≤ b ∧ b ≤ 16
  · obtain ⟨h1, h2, h3⟩ := hyes
    obtain ⟨b, rfl⟩ : ∃ b' : Nat, b = (b' : Int) := ⟨b.toNat, by omega⟩
    exact (law_takes (H := w) rd same (by omega) (r7.os.trans hos) (m := m) (b := b) (n := n) (by omega) (by omega) (by omega) (by omega) sl' r2 r5 r6).imp fun v w' h => ⟨h.1, r7.trans h.2⟩
  · exact (law_refuses (H := w) rd hE hR0 same (by omega) (r7.os.trans hos) (m := m) (n := n) (by omega) hyes (by omega) sl' r2 r5 r6).imp fun v w' h => ⟨h.1, r7.trans h.2⟩
end
end Go.Proofs.YtaablbmgagiajabGreatDoor.Ren
namespace Go.Proofs.YtaablbmgagiajabGreatDoor
open Go.RowKit Go.Conc
theorem leaving_of_change_and {T : Type} {enc : TypeId × Value → T} {a : Assume} {C : Checked} {os : Os} {f : FuncId} {fn : Func} {s : ChangeSpec} {conds : List PathCond} {apart fresh handsOn again : Bool} {X : World → Array Value → Prop}
    (hX : ∀ (w w' : World) (args : Array Value), w.heap = w'.heap → X w args → X w' args)
    (own : ownKnob C.prog.godebug = none) (started : os.Started) (hfn : C.prog.funcs[f]? = some fn)
    (witness : ∃ (w : World) (tape : Tape) (i : Input), w.os = os ∧ (w.forCall tape i).Shaped C.prog ∧ i.vars = [] ∧ Input.okWide C.prog (w.forCall tape i) .any w.heap.size f i ∧
      ((s.pre enc C.prog fn conds apart (w.forCall tape i).memory i.args ∧ X (w.forCall tape i).memory i.args) ∧ sizedMet enc C.prog fn (OpenSpec.ofChange s) apart (w.forCall tape i).memory i.args) ∧ a.holds C.prog (lone (Frame.enter C.prog f i.args .normal) [] (w.forCall tape i)))
    (runs : ∀ (W : World) (base : Nat) (args : Array Value) (ds gs : List (DataW T)) (before : List MemPlace), W.ShapedOpen C.prog →
      (∀ (j : Nat) t v, fn.params[j]? = some t → args[j]? = some v → Value.okWide C.prog W .any base t v) →
      DataW.Whole enc C.prog fn.params.toList s.vars apart W args.toList ds gs before → X W args →
      ∃ M last o w' t', runNT C.prog (M + 1) (solo (G (Frame.enter C.prog f args .normal) []) W) #[] = (.ended o w', t') ∧ runN C.prog M (solo (G (Frame.enter C.prog f args .normal) []) W) = .next last ∧
        Go.step C.prog last = .ended o w' ∧ Go.Conc.Good C.prog (fun v W' => s.post enc C.prog fn apart fresh handsOn again W args v W') last o w' t') :
    ReturnsInLeavingWide a C os f .any (fun w args => (s.pre enc C.prog fn conds apart w args ∧ X w args) ∧ sizedMet enc C.prog fn (OpenSpec.ofChange s) apart w args) (s.post enc C.prog fn apart fresh handsOn again) := by
  refine returnsInLeavingWide_of_good own started witness ?_
  intro w tape i _ hsh _ hok hpre _
  obtain ⟨_, _, _, fn', hfn', _, _, _, _, hval⟩ := hok
  have e : fn' = fn := Option.some.inj (hfn'.symm.trans hfn)
  subst e
  obtain ⟨⟨⟨ds, gs, before, hw, hc⟩, hx⟩, hz⟩ := hpre
  have hw' := DataW.Whole.of_heap (w' := w.forCall tape i) (by rfl) hw
  obtain ⟨M, last, o, w', t', h1, h2, h3, h4⟩ := runs (w.forCall tape i) w.heap.size i.args ds gs before hsh hval hw' (hX _ _ _ (by rfl) hx)
  exact ⟨M, last, o, w', t', h1, h2, h3, h4.mono fun v hp => ChangeSpec.post_blind hp⟩
theorem limits_run {R O : Nat → Prop} {B : Nat} {W : World} (rd : Ren.RdLow R O B W.os W) (hE : HasErrT W) (hR0 : R 0) (hB : B ≤ W.heap.size) (a b c : Int) : Ren.EndsW Tryz.prog (fun v w => v = .bool true ∧ Ren.Grew W w) (solo (G (Frame.enter Tryz.prog 8 #[.int .i64 a, .int .i64 b, .int .i64 c] .normal) []) W) #[] := Ren.law_runs rd hE hR0 hB rfl a b c none
theorem below_of_grew {W w : World} (h : Ren.Grew W w) : Below W.heap.size W w := by
  exact ⟨h.os, h.tape, h.out, h.size, h.low⟩
end Go.Proofs.YtaablbmgagiajabGreatDoor
