import Derived.Test.YtaablbmgagiajaaGreatDoorTGBD
import Derived.Lib.SliceRun
import Derived.Laws.EntriesVeiled
namespace Go.Proofs.YtaablbmgagiajaaGreatDoor
open Go.RowKit Go.Deep
def BytesIs (w : World) (u : Value) (l : List Nat) : Prop := (∀ x ∈ l, x < 256) ∧ ∃ a cap, u = .slice a l.length cap ∧ l.length ≤ cap ∧ (l = [] ∨ ∃ g off cs, a = some ⟨g, off, none⟩ ∧ w.heap[g]? = some (.cells cs 5 (0, 0)) ∧ ∀ i, i < l.length → cs[off + i]? = some (.int .u8 ((l[i]?.getD 0 : Nat) : Int)))
def TyAt (w : World) (k t : Nat) : Prop := ∃ cs f, w.heap[k]? = some (.cells cs t f)
theorem TyAt.ne {w : World} {a b s t : Nat} (h1 : TyAt w a s) (h2 : TyAt w b t) (h : s ≠ t) : a ≠ b := by
  obtain ⟨_, _, h1⟩ := h1
  obtain ⟨_, _, h2⟩ := h2
  exact type_ne h1 h2 h
theorem TyAt.lt {w : World} {a s : Nat} (h : TyAt w a s) : a < w.heap.size := by obtain ⟨_, _, h⟩ := h; exact blk_lt h
theorem BytesIs.isB {w : World} {u : Value} {l : List Nat} (h : BytesIs w u l) : ∃ a cap, u = .slice a l.length cap ∧ IsB w a l.length cap l := by
  obtain ⟨h1, a, cap, rfl, h2, h3⟩ := h
  refine ⟨a, cap, rfl, rfl, h2, h1, ?_⟩
  rcases h3 with h3 | ⟨g, off, cs, rfl, h4, h5⟩
  · exact .inl h3
  · exact .inr ⟨g, off, rfl, blk_lt h4, fun i hi => by rw [blk_cell h4]; exact h5 i hi⟩
theorem BytesIs.mod {w w' : World} {u : Value} {l : List Nat} {T : Nat → Prop} (h : BytesIs w u l) (hm : Mod w w' T) (hT : ∀ k, T k → ¬ TyAt w k 5) : BytesIs w' u l := by
  obtain ⟨h1, a, cap, rfl, h2, h3⟩ := h
  refine ⟨h1, a, cap, rfl, h2, ?_⟩
  rcases h3 with h3 | ⟨g, off, cs, rfl, h4, h5⟩
  · exact .inl h3
  · exact .inr ⟨g, off, cs, rfl, (hm.block g (blk_lt h4) (fun ht => hT g ht ⟨_, _, h4⟩)).trans h4, h5⟩
theorem BytesIs.below {w w' : World} {u : Value} {l : List Nat} (h : BytesIs w u l) (hB : Below w.heap.size w w') : BytesIs w' u l := h.mod (Mod.ofBelow hB (fun _ => False)) (fun _ hf => hf.elim)
theorem bytes_own {w : World} {N : Nat} {u : Value} {l : List Nat} (hb : ∀ x ∈ l, x < 256) (h : w.ownsRow N 5 1 u l.length (u8s l)) : BytesIs w u l := by
  refine ⟨hb, ?_⟩
  rcases h.2 with ⟨rfl, h0⟩ | ⟨g, cap, cur, rfl, h1, h2, h3, h4, h5, h6⟩
  · have : l = [] := List.length_eq_zero_iff.1 h0
    subst this
    exact ⟨none, 0, rfl, Nat.le_refl _, .inl rfl⟩
  · refine ⟨_, cap, rfl, h3, .inr ⟨g, 0, cur, rfl, h2, fun i hi => ?_⟩⟩
    rw [Nat.zero_add, ← Array.getElem?_toList]
    have e : (cur.toList.take (l.length * 1))[i]? = (u8s l)[i]? := by rw [h6]
    rw [List.getElem?_take, if_pos (by omega)] at e
    rw [e]
    unfold u8s
    rw [List.getElem?_map, List.getElem?_eq_getElem hi]
    rfl
theorem bytes_nil (w : World) (a : Option Addr) (cap : Nat) : BytesIs w (.slice a 0 cap) [] := ⟨fun _ hx => by simp at hx, a, cap, rfl, Nat.zero_le _, .inl rfl⟩
def pkC (p : Pk) (u : Value) : List Value := [.int .i64 (p.src : Int), .int .i64 (p.dst : Int), u]
def pkL : List Pk → List Value → List Value
  | [], _ => []
  | p :: r, us => pkC p (us.headD undef) ++ pkL r us.tail
theorem pkL_length : ∀ (l : List Pk) (us : List Value), (pkL l us).length = l.length * 3
  | [], _ => rfl
  | p :: r, us => by rw [pkL, List.length_append, pkL_length r]; simp [pkC]; omega
theorem pkL_app : ∀ (l m : List Pk) (us vs : List Value), us.length = l.length → pkL (l ++ m) (us ++ vs) = pkL l us ++ pkL m vs
  | [], m, us, vs, h => by
    have : us = [] := List.length_eq_zero_iff.1 (by simpa using h)
    subst this; rfl
  | p :: r, m, us, vs, h => by
    cases us with
    | nil => simp at h
    | cons u us => rw [List.cons_append, List.cons_append, pkL, pkL, List.append_assoc]; simp only [List.headD_cons, List.tail_cons]; rw [pkL_app r m us vs (by simpa using h)]
theorem pkL_at : ∀ (l : List Pk) (us : List Value) (k j : Nat), us.length = l.length → k < l.length → j < 3 → (pkL l us)[k * 3 + j]? = (pkC (pkAt l k) (us[k]?.getD undef))[j]?
  | [], _, k, _, _, hk, _ => by simp at hk
  | p :: r, us, k, j, h, hk, hj => by
    cases us with
    | nil => simp at h
    | cons u us =>
      cases k with
      | zero =>
        rw [pkL, List.getElem?_append_left (by simp [pkC]; omega), Nat.zero_mul, Nat.zero_add]
        rfl
      | succ k =>
        rw [pkL, List.getElem?_append_right (by simp [pkC]; omega), show (k + 1) * 3 + j - (pkC p ((u :: us).headD undef)).length = k * 3 + j by simp [pkC]; omega]
        simp only [List.tail_cons]
        rw [pkL_at r us k j (by simpa using h) (by simpa using hk) hj]
        rfl
theorem pkL_erase : ∀ (l : List Pk) (us : List Value) (i : Nat), us.length = l.length → i < l.length → pkL (l.eraseIdx i) (us.eraseIdx i) = (pkL l us).take (i * 3) ++ (pkL l us).drop ((i + 1) * 3)
  | [], _, i, _, hi => by simp at hi
  | p :: r, us, i, h, hi => by
    cases us with
    | nil => simp at h
    | cons u us =>
      cases i with
      | zero =>
        rw [List.eraseIdx_cons_zero, List.eraseIdx_cons_zero, pkL]
        simp [pkC]
      | succ i =>
        rw [List.eraseIdx_cons_succ, List.eraseIdx_cons_succ, pkL, pkL]
        simp only [List.headD_cons, List.tail_cons]
        rw [pkL_erase r us i (by simpa using h) (by simpa using hi)]
        have e1 : (pkC p u).length = 3 := rfl
        have e2 : List.take ((i + 1) * 3) (pkC p u) = pkC p u := List.take_of_length_le (by rw [e1]; omega)
        have e3 : List.drop ((i + 1 + 1) * 3) (pkC p u) = [] := List.drop_eq_nil_of_le (by rw [e1]; omega)
        rw [List.take_append, List.drop_append, e1, e2, e3, show (i + 1) * 3 - 3 = i * 3 by omega, show (i + 1 + 1) * 3 - 3 = (i + 1) * 3 by omega, List.nil_append, List.append_assoc]
structure NetIs (w : World) (N : Nat) (nv : Value) (l : List Pk) (us : List Value) : Prop where
  row : w.ownsRow N 103 3 nv l.length (pkL l us)
  len : us.length = l.length
  byt : ∀ i, i < l.length → BytesIs w (us[i]?.getD undef) (pkAt l i).b
theorem pk_one {w : World} {l : List Pk} {us : List Value} (h : us.length = l.length) (hb : ∀ i, i < l.length → BytesIs w (us[i]?.getD undef) (pkAt l i).b) : ∀ u ∈ pkL l us, u.oneCell' = true := by
  intro u hu
  obtain ⟨i, hi, rfl⟩ := List.getElem_of_mem hu
  rw [pkL_length] at hi
  have e := pkL_at l us (i / 3) (i % 3) h (by omega) (by omega)
  rw [show i / 3 * 3 + i % 3 = i by omega, List.getElem?_eq_getElem (by rw [pkL_length]; exact hi)] at e
  obtain ⟨_, a, cap, hv, _⟩ := hb (i / 3) (by omega)
  rw [hv] at e
  have hm : i % 3 = 0 ∨ i % 3 = 1 ∨ i % 3 = 2 := by omega
  rcases hm with m | m | m <;> rw [m] at e <;> simp [pkC] at e <;> rw [e] <;> rfl
structure SC where
  p : Nat
  g0 : Nat
  c0 : Nat
  rp : Nat → Nat
  C : Nat → RC
  vp : Nat
  tv : Value
  nv : Value
  us : List Value
  lost : Int
def syCells (D : SC) (L : RC) : Array Value := #[.int .i64 (L.s : Int), .slice (some ⟨D.g0, 0, none⟩) L.n D.c0, .int .i64 (L.d : Int), .pointer (some ⟨D.rp 0, 0, none⟩), .pointer (some ⟨D.rp 1, 0, none⟩), .pointer (some ⟨D.rp 2, 0, none⟩), .pointer (some ⟨D.vp, 0, none⟩), D.nv, .int .i64 D.lost]
def Wr (D : SC) (k : Nat) : Prop := k = D.p ∨ D.nv.ownBlock = some k ∨ (∃ j, j < 3 ∧ k = D.rp j) ∨ k = D.vp ∨ D.tv.ownBlock = some k
def Sta (D : SC) (k : Nat) : Prop := k = D.g0 ∨ ∃ j, j < 3 ∧ (k = (D.C j).pc ∨ k = (D.C j).g ∨ k = (D.C j).M ∨ k = (D.C j).g2)
structure LineIs (C L : RC) : Prop where
  s : C.s = L.s
  d : C.d = L.d
  n : C.n = L.n
  zs : C.zs = L.zs
structure SyIs (w : World) (N : Nat) (D : SC) (L : RC) (win : Nat) (S : SY) : Prop where
  blk : w.heap[D.p]? = some (.cells (syCells D L) 79 (0, 0))
  row : Row w D.g0 0 L.zs
  lt0 : D.g0 < w.heap.size
  cap0 : L.n ≤ D.c0
  rp : ∀ k, k < 3 → RpIs w (D.rp k) (D.C k) (S.rp k)
  ln : ∀ k, k < 3 → LineIs (D.C k) L
  ne : ∀ i j, i < 3 → j < 3 → i ≠ j → D.rp i ≠ D.rp j
  vt : VIs w N D.vp win D.tv S.v
  net : NetIs w N D.nv S.net D.us
  sep : ∀ x y, Wr D x → Sta D y → x ≠ y
  base : ∀ x, Wr D x → N ≤ x
  sbase : ∀ y, Sta D y → N ≤ y
section
variable {w w' : World} {N win : Nat} {D : SC} {L : RC} {S : SY}
theorem SyIs.lt (h : SyIs w N D L win S) : D.p < w.heap.size := blk_lt h.blk
theorem NetIs.own {nv : Value} {l : List Pk} {us : List Value} (h : NetIs w N nv l us) {g : Nat} (hg : nv.ownBlock = some g) : ∃ cur, w.heap[g]? = some (.cells cur 103 (0, 0)) := by
  rcases h.row.2 with ⟨rfl, h1⟩ | ⟨g', cap, cur, rfl, h1, h2, _⟩
  · simp [Value.ownBlock] at hg
  · simp only [Value.ownBlock, Option.some.injEq] at hg
    subst hg
    exact ⟨cur, h2⟩
theorem SyIs.tyP (h : SyIs w N D L win S) : TyAt w D.p 79 := ⟨_, _, h.blk⟩
theorem SyIs.tyN (h : SyIs w N D L win S) {g : Nat} (hg : D.nv.ownBlock = some g) : TyAt w g 103 := by obtain ⟨c, e⟩ := h.net.own hg; exact ⟨_, _, e⟩
theorem SyIs.tyR (h : SyIs w N D L win S) {j : Nat} (hj : j < 3) : TyAt w (D.rp j) 125 := by obtain ⟨cs, e, _⟩ := (h.rp j hj).blk; exact ⟨_, _, e⟩
theorem SyIs.tyV (h : SyIs w N D L win S) : TyAt w D.vp 116 := ⟨_, _, h.vt.blk⟩
theorem SyIs.tyT (h : SyIs w N D L win S) {g : Nat} (hg : D.tv.ownBlock = some g) : TyAt w g 59 := by obtain ⟨_, c, e⟩ := h.vt.row.own hg; exact ⟨_, _, e⟩
theorem SyIs.wrLt (h : SyIs w N D L win S) {k : Nat} (hk : Wr D k) : k < w.heap.size := by
  rcases hk with rfl | hk | ⟨j, hj, rfl⟩ | rfl | hk
  · exact h.tyP.lt
  · exact (h.tyN hk).lt
  · exact (h.tyR hj).lt
  · exact h.tyV.lt
  · exact (h.tyT hk).lt
theorem SyIs.wrByte (h : SyIs w N D L win S) {k : Nat} (hk : Wr D k) : ¬ TyAt w k 5 := by
  intro hb
  rcases hk with rfl | hk | ⟨j, hj, rfl⟩ | rfl | hk
  · exact h.tyP.ne hb (by decide) rfl
  · exact (h.tyN hk).ne hb (by decide) rfl
  · exact (h.tyR hj).ne hb (by decide) rfl
  · exact h.tyV.ne hb (by decide) rfl
  · exact (h.tyT hk).ne hb (by decide) rfl
theorem SyIs.staLt (h : SyIs w N D L win S) {k : Nat} (hk : Sta D k) : k < w.heap.size := by
  rcases hk with rfl | ⟨j, hj, rfl | rfl | rfl | rfl⟩
  · exact h.lt0
  · exact (h.rp j hj).core.plt
  · exact (h.rp j hj).core.glt
  · exact (h.rp j hj).core.mlt
  · exact (h.rp j hj).lt2
theorem SyIs.bytes (h : SyIs w N D L win S) {i : Nat} (hi : i < S.net.length) : BytesIs w (D.us[i]?.getD undef) (pkAt S.net i).b := h.net.byt i hi
theorem RpIs.staged {p : Nat} {C : RC} {R : RS} (h : RpIs w p C R) {T : Nat → Prop} (hm : Mod w w' T) (hp : ¬ T p) (hT : ∀ k, k = C.pc ∨ k = C.g ∨ k = C.M ∨ k = C.g2 → ¬ T k) : RpIs w' p C R := by
  have e : ∀ k, k < w.heap.size → ¬ T k → w'.heap[k]? = w.heap[k]? := fun k hk hp => hm.block k hk hp
  refine ⟨h.blk.same (e _ h.lt hp), h.core.blocks hm.size ?_, fun k hk => (World.cell?_of_block (w := w) (e _ h.lt2 (hT _ (.inr (.inr (.inr rfl)))))).trans (h.row k hk), Nat.lt_of_lt_of_le h.lt2 hm.size, h.cap2, h.ap⟩
  rintro k (rfl | rfl | rfl)
  · exact e _ h.core.plt (hT _ (.inl rfl))
  · exact e _ h.core.glt (hT _ (.inr (.inl rfl)))
  · exact e _ h.core.mlt (hT _ (.inr (.inr (.inl rfl))))
theorem NetIs.mod {nv : Value} {l : List Pk} {us : List Value} (h : NetIs w N nv l us) {T : Nat → Prop} (hm : Mod w w' T) (hn : ∀ g, nv.ownBlock = some g → ¬ T g) (hb : ∀ k, T k → ¬ TyAt w k 5) : NetIs w' N nv l us := by
  refine ⟨⟨h.row.1, ?_⟩, h.len, fun i hi => (h.byt i hi).mod hm hb⟩
  rcases h.row.2 with h2 | ⟨g, cap, cur, rfl, h3, h4, h5⟩
  · exact .inl h2
  · exact .inr ⟨g, cap, cur, rfl, h3, (hm.block g (blk_lt h4) (hn g rfl)).trans h4, h5⟩
theorem SyIs.part (h : SyIs w N D L win S) {T : Nat → Prop} (hm : Mod w w' T) (hT : ∀ k, T k → Wr D k) :
    (¬ T D.p → w'.heap[D.p]? = some (.cells (syCells D L) 79 (0, 0))) ∧ (Row w' D.g0 0 L.zs ∧ D.g0 < w'.heap.size) ∧ (∀ k, k < 3 → ¬ T (D.rp k) → RpIs w' (D.rp k) (D.C k) (S.rp k)) ∧
    ((∀ k, VB D.vp D.tv k → ¬ T k) → VIs w' N D.vp win D.tv S.v) ∧ ((∀ g, D.nv.ownBlock = some g → ¬ T g) → NetIs w' N D.nv S.net D.us) := by
  have hst : ∀ k, Sta D k → ¬ T k := fun k hk ht => h.sep k k (hT k ht) hk rfl
  refine ⟨fun hp => (hm.block _ h.lt hp).trans h.blk, ⟨fun k hk => (World.cell?_of_block (w := w) (hm.block _ h.lt0 (hst _ (.inl rfl)))).trans (h.row k hk), Nat.lt_of_lt_of_le h.lt0 hm.size⟩, fun k hk hp => (h.rp k hk).staged hm hp fun j hj => hst j (.inr ⟨k, hk, hj⟩), fun hv => h.vt.move hm hv, fun hn => h.net.mod hm hn fun k hk => h.wrByte (hT k hk)⟩
theorem SyIs.below (h : SyIs w N D L win S) (hB : Below w.heap.size w w') : SyIs w' N D L win S := by
  obtain ⟨h1, ⟨h2, h3⟩, h4, h5, h6⟩ := h.part (Mod.ofBelow hB (fun _ => False)) (fun _ hf => hf.elim)
  exact ⟨h1 (fun x => x), h2, h3, h.cap0, fun k hk => h4 k hk (fun x => x), h.ln, h.ne, h5 (fun _ _ x => x), h6 (fun _ _ x => x), h.sep, h.base, h.sbase⟩
structure Gr (n : Nat) (D D' : SC) : Prop where
  wr : ∀ k, Wr D' k → Wr D k ∨ n ≤ k
  st : ∀ k, Sta D' k → Sta D k ∨ n ≤ k
theorem Gr.refl (n : Nat) (D : SC) : Gr n D D := ⟨fun _ x => .inl x, fun _ x => .inl x⟩
theorem Gr.le {n m : Nat} {D D' : SC} (h : Gr n D D') (hm : m ≤ n) : Gr m D D' := ⟨fun k hk => (h.wr k hk).imp id fun x => Nat.le_trans hm x, fun k hk => (h.st k hk).imp id fun x => Nat.le_trans hm x⟩
theorem Gr.trans {n m : Nat} {D D1 D2 : SC} (h : Gr n D D1) (g : Gr m D1 D2) (hm : n ≤ m) : Gr n D D2 := by
  refine ⟨fun k hk => ?_, fun k hk => ?_⟩
  · rcases g.wr k hk with x | x
    · exact h.wr k x
    · exact .inr (Nat.le_trans hm x)
  · rcases g.st k hk with x | x
    · exact h.st k x
    · exact .inr (Nat.le_trans hm x)
def SyGo (w w' : World) (N : Nat) (D : SC) (L : RC) (win : Nat) (S' : SY) : Prop := ∃ D', D'.p = D.p ∧ SyIs w' N D' L win S' ∧ Mod w w' (Wr D) ∧ Gr w.heap.size D D'
theorem SyIs.goes (h : SyIs w N D L win S) : SyGo w w N D L win S := ⟨D, rfl, h, Mod.refl _ _, Gr.refl _ _⟩
theorem SyGo.pre {w0 : World} {S' : SY} (h : SyGo w w' N D L win S') (hB : Below w0.heap.size w0 w) : SyGo w0 w' N D L win S' := by
  obtain ⟨D', e, h1, h2, h3⟩ := h
  exact ⟨D', e, h1, (Mod.ofBelow hB (Wr D)).then h2 (fun _ _ x => x), h3.le hB.size⟩
theorem SyGo.below {w2 : World} {S' : SY} (h : SyGo w w' N D L win S') (hB : Below w'.heap.size w' w2) : SyGo w w2 N D L win S' := by
  obtain ⟨D', e, h1, h2, h3⟩ := h
  exact ⟨D', e, h1.below hB, h2.below hB, h3⟩
theorem SyGo.then {w2 : World} {S2 : SY} {D1 : SC} (hp : D1.p = D.p) (hm : Mod w w' (Wr D)) (hg : Gr w.heap.size D D1) (h : SyGo w' w2 N D1 L win S2) : SyGo w w2 N D L win S2 := by
  obtain ⟨D', e, h1, h2, h3⟩ := h
  refine ⟨D', e.trans hp, h1, hm.then h2 (fun i hi hw => ?_), hg.trans h3 hm.size⟩
  rcases hg.wr i hw with x | x
  · exact x
  · omega
theorem SyIs.putR (h : SyIs w N D L win S) {k : Nat} (hk : k < 3) {R : RS} (hm : Mod w w' (· = D.rp k)) (hR : RpIs w' (D.rp k) (D.C k) R) : SyIs w' N D L win ⟨upd S.rp k R, S.v, S.net⟩ ∧ Mod w w' (Wr D) := by
  have hT : ∀ j, j = D.rp k → Wr D j := fun j hj => .inr (.inr (.inl ⟨k, hk, hj⟩))
  obtain ⟨h1, ⟨h2, h3⟩, h4, h5, h6⟩ := h.part hm hT
  refine ⟨⟨h1 (fun e => h.tyP.ne (h.tyR hk) (by decide) e), h2, h3, h.cap0, fun j hj => ?_, h.ln, h.ne, h5 fun j hj e => ?_, h6 fun g hg e => (h.tyN hg).ne (h.tyR hk) (by decide) e, h.sep, h.base, h.sbase⟩, hm.mono fun i _ hi => hT i hi⟩
  · show RpIs w' (D.rp j) (D.C j) (upd S.rp k R j)
    by_cases e : j = k
    · subst e; rw [upd_same]; exact hR
    · rw [upd_other _ _ e]; exact h4 j hj (h.ne j k hj hk e)
  · rcases hj with rfl | hj
    · exact h.tyV.ne (h.tyR hk) (by decide) e
    · exact (h.tyT hj).ne (h.tyR hk) (by decide) e
theorem SyIs.putV (h : SyIs w N D L win S) {V : VS} {tv' : Value} (hm : Mod w w' (VB D.vp D.tv)) (hV : VIs w' N D.vp win tv' V) (hmv : Moved w D.tv tv') : SyGo w w' N D L win ⟨S.rp, V, S.net⟩ := by
  have hT : ∀ j, VB D.vp D.tv j → Wr D j := fun j hj => .inr (.inr (.inr hj))
  obtain ⟨h1, ⟨h2, h3⟩, h4, h5, h6⟩ := h.part hm hT
  have hw : ∀ k, Wr ⟨D.p, D.g0, D.c0, D.rp, D.C, D.vp, tv', D.nv, D.us, D.lost⟩ k → Wr D k ∨ w.heap.size ≤ k := fun k hk => by
    rcases hk with x | x | x | x | x
    · exact .inl (.inl x)
    · exact .inl (.inr (.inl x))
    · exact .inl (.inr (.inr (.inl x)))
    · exact .inl (.inr (.inr (.inr (.inl x))))
    · rcases hmv k x with y | y
      · exact .inl (.inr (.inr (.inr (.inr y))))
      · exact .inr y
  refine ⟨⟨D.p, D.g0, D.c0, D.rp, D.C, D.vp, tv', D.nv, D.us, D.lost⟩, rfl, ⟨h1 fun e => ?_, h2, h3, h.cap0, fun k hk => h4 k hk fun e => ?_, h.ln, h.ne, hV, h6 fun g hg e => ?_, fun x y hx hy e => ?_, fun x hx => ?_, fun y hy => h.sbase y hy⟩, hm.mono fun i _ hi => hT i hi, hw, fun _ x => .inl x⟩
  · rcases e with e | e
    · exact h.tyP.ne h.tyV (by decide) e
    · exact h.tyP.ne (h.tyT e) (by decide) rfl
  · rcases e with e | e
    · exact (h.tyR hk).ne h.tyV (by decide) e
    · exact (h.tyR hk).ne (h.tyT e) (by decide) rfl
  · rcases e with e | e
    · exact (h.tyN hg).ne h.tyV (by decide) e
    · exact (h.tyN hg).ne (h.tyT e) (by decide) rfl
  · rcases hw x hx with z | z
    · exact h.sep x y z hy e
    · have := h.staLt (k := y) hy
      omega
  · rcases hx with x' | x' | x' | x' | x'
    · exact h.base x (.inl x')
    · exact h.base x (.inr (.inl x'))
    · exact h.base x (.inr (.inr (.inl x')))
    · exact h.base x (.inr (.inr (.inr (.inl x'))))
    · exact (hV.row.own x').1
def NB (D : SC) (k : Nat) : Prop := k = D.p ∨ D.nv.ownBlock = some k
theorem SyIs.putN (h : SyIs w N D L win S) {l : List Pk} {nv' : Value} {us' : List Value} {lost' : Int} (hm : Mod w w' (NB D)) (hb : w'.heap[D.p]? = some (.cells (syCells ⟨D.p, D.g0, D.c0, D.rp, D.C, D.vp, D.tv, nv', us', lost'⟩ L) 79 (0, 0)))
    (hN : NetIs w' N nv' l us') (hmv : ∀ g, nv'.ownBlock = some g → D.nv.ownBlock = some g ∨ w.heap.size ≤ g) : SyGo w w' N D L win ⟨S.rp, S.v, l⟩ := by
  have hT : ∀ j, NB D j → Wr D j := fun j hj => hj.imp id .inl
  obtain ⟨_, ⟨h2, h3⟩, h4, h5, _⟩ := h.part hm hT
  have hw : ∀ k, Wr ⟨D.p, D.g0, D.c0, D.rp, D.C, D.vp, D.tv, nv', us', lost'⟩ k → Wr D k ∨ w.heap.size ≤ k := fun k hk => by
    rcases hk with x | x | x | x | x
    · exact .inl (.inl x)
    · rcases hmv k x with y | y
      · exact .inl (.inr (.inl y))
      · exact .inr y
    · exact .inl (.inr (.inr (.inl x)))
    · exact .inl (.inr (.inr (.inr (.inl x))))
    · exact .inl (.inr (.inr (.inr (.inr x))))
  refine ⟨⟨D.p, D.g0, D.c0, D.rp, D.C, D.vp, D.tv, nv', us', lost'⟩, rfl, ⟨hb, h2, h3, h.cap0, fun k hk => h4 k hk fun e => ?_, h.ln, h.ne, h5 fun k hk e => ?_, hN, fun x y hx hy e => ?_, fun x hx => ?_, fun y hy => h.sbase y hy⟩, hm.mono fun i _ hi => hT i hi, hw, fun _ x => .inl x⟩
  · rcases e with e | e
    · exact (h.tyR hk).ne h.tyP (by decide) e
    · exact (h.tyR hk).ne (h.tyN e) (by decide) rfl
  · rcases e with e | e
    · rcases hk with hk | hk
      · exact h.tyV.ne h.tyP (by decide) (hk.symm.trans e)
      · exact (h.tyT hk).ne h.tyP (by decide) e
    · rcases hk with hk | hk
      · exact h.tyV.ne (h.tyN e) (by decide) hk.symm
      · exact (h.tyT hk).ne (h.tyN e) (by decide) rfl
  · rcases hw x hx with z | z
    · exact h.sep x y z hy e
    · have := h.staLt (k := y) hy
      omega
  · rcases hx with x' | x' | x' | x' | x'
    · exact h.base x (.inl x')
    · have := hN.row.2
      rcases this with ⟨e, _⟩ | ⟨g, cap, cur, e, h1, _⟩
      · have e' : nv' = .slice none 0 0 := e
        rw [show (⟨D.p, D.g0, D.c0, D.rp, D.C, D.vp, D.tv, nv', us', lost'⟩ : SC).nv = nv' from rfl, e'] at x'
        simp [Value.ownBlock] at x'
      · rw [show (⟨D.p, D.g0, D.c0, D.rp, D.C, D.vp, D.tv, nv', us', lost'⟩ : SC).nv = nv' from rfl, e] at x'
        simp only [Value.ownBlock, Option.some.injEq] at x'
        omega
    · exact h.base x (.inr (.inr (.inl x')))
    · exact h.base x (.inr (.inr (.inr (.inl x'))))
    · exact h.base x (.inr (.inr (.inr (.inr x'))))
theorem SyIs.at (h : SyIs w N D L win S) (k : Nat) : w.cell? ⟨D.p, k, none⟩ = (syCells D L)[k]? := blk_cell h.blk k
theorem SyIs.free (h : SyIs w N D L win S) (k : Nat) : w.frozen? ⟨D.p, k, none⟩ = false := blk_free h.blk k
theorem SyIs.drew (h : SyIs w N D L win S) : SyIs w.drew N D L win S := h.below (Below.refl _ _).drew
end
theorem infoPacket : (Tryz.prog.info? 103).map (fun i => (i.zero, i.size, i.bytes)) = some (some (.agg #[.int .i64 0, .int .i64 0, .slice none 0 0]), 3, 40) := by kernel_rfl
section
variable {w w' : World} {N win : Nat} {D : SC} {L : RC} {S : SY}
theorem NetIs.shape {nv : Value} {l : List Pk} {us : List Value} (h : NetIs w N nv l us) : ∃ a cap, nv = .slice a l.length cap := by
  rcases h.row.2 with ⟨rfl, h0⟩ | ⟨g, cap, cur, rfl, _⟩
  · exact ⟨none, 0, by rw [h0]⟩
  · exact ⟨_, _, rfl⟩
theorem SyIs.ne7 (h : SyIs w N D L win S) : ∀ g, D.nv.ownBlock = some g → g ≠ D.p := fun _ hg => (h.tyN hg).ne h.tyP (by decide)
theorem SyIs.lost8 (h : SyIs w N D L win S) (x : Int) : SyGo w (w.setCell ⟨D.p, 8, none⟩ (.int .i64 x)) N D L win S := by
  have hm : Mod w (w.setCell ⟨D.p, 8, none⟩ (.int .i64 x)) (NB D) := (Mod.refl w _).set _ _ (fun _ => .inl rfl)
  have hm1 : Mod w (w.setCell ⟨D.p, 8, none⟩ (.int .i64 x)) (· = D.p) := (Mod.refl w _).set _ _ (fun _ => rfl)
  exact h.putN (lost' := x) hm ((blk_set h.blk 8 _).trans rfl) (h.net.mod hm1 (fun g hg => h.ne7 g hg) (fun k hk hb => by subst hk; exact h.wrByte (.inl rfl) hb)) (fun _ hg => .inl hg)
theorem NetIs.grown {nv : Value} {l : List Pk} {us : List Value} {q : Pk} {u : Value} {wb w3 : World} {g cap' : Nat} (h : NetIs wb N nv l us) (hu : BytesIs wb u q.b) (hown : w3.ownsRow N 103 3 (.slice (some ⟨g, 0, none⟩) (l.length + 1) cap') (l.length + 1) (pkL l us ++ pkC q u)) (hg : wb.grownBy w3 nv.ownBlock) : NetIs w3 N (.slice (some ⟨g, 0, none⟩) (l.length + 1) cap') (l ++ [q]) (us ++ [u]) := by
  have hm : Mod wb w3 (fun k => nv.ownBlock = some k) := (Mod.refl wb _).grown hg (fun k _ e => e)
  have hty : ∀ k, nv.ownBlock = some k → ¬ TyAt wb k 5 := fun k hk hb => by
    obtain ⟨cur, hc⟩ := h.own hk
    exact TyAt.ne ⟨_, _, hc⟩ hb (by decide) rfl
  refine ⟨?_, by rw [List.length_append, List.length_append, h.len]; rfl, fun i hi => ?_⟩
  · rw [List.length_append, pkL_app _ _ _ _ h.len]
    exact hown
  · rw [List.length_append] at hi
    have hi' : i < l.length + 1 := hi
    by_cases e : i < l.length
    · rw [List.getElem?_append_left (by rw [h.len]; exact e), show pkAt (l ++ [q]) i = pkAt l i by unfold pkAt; rw [List.getElem?_append_left e]]
      exact (h.byt i e).mod hm hty
    · have e : i = l.length := by omega
      subst e
      rw [show (us ++ [u])[l.length]? = some u by rw [← h.len]; simp, show pkAt (l ++ [q]) l.length = q by unfold pkAt; simp]
      exact hu.mod hm hty
end
set_option maxHeartbeats 2000000 in
set_option maxRecDepth 20000 in
theorem syput_any (N : Nat) (D : SC) (L : RC) (win : Nat) (S : SY) (w : World) (q : Pk) (u : Value) (h : SyIs w N D L win S) (hu : BytesIs w u q.b) (hN : N ≤ w.heap.size) (hle : S.net.length ≤ 120) :
    Calls Tryz.prog 58 #[.pointer (some ⟨D.p, 0, none⟩), .agg #[.int .i64 (q.src : Int), .int .i64 (q.dst : Int), u]] w fun e w' => e = .returned (.tuple #[]) ∧ SyGo w w' N D L win ⟨S.rp, S.v, putP q S.net⟩ := by
  obtain ⟨W, hW⟩ : ∃ W, Hid (w.alloc (.cells #[.int .i64 (q.src : Int), .int .i64 (q.dst : Int), u] 103) = W) := ⟨_, hide rfl⟩
  have hBW : Below w.heap.size w W := by rw [← hW.out]; exact (Below.refl _ _).alloc (Nat.le_refl _) _
  have hbx : W.heap[w.heap.size]? = some (.cells #[.int .i64 (q.src : Int), .int .i64 (q.dst : Int), u] 103 (0, 0)) := by rw [← hW.out]; exact blk_new _ _
  have hS := h.below hBW
  have hu' := hu.below hBW
  obtain ⟨a, cap, hnv⟩ := h.net.shape
  have HUE : Hid (u.oneCell' = true) := by obtain ⟨_, ua, uc, e, _⟩ := hu; rw [Hid, e]; rfl
  have c7 : w.cell? ⟨D.p, 7, none⟩ = some (.slice a S.net.length cap) := (h.at 7).trans (by show some D.nv = _; rw [hnv])
  have c8 : w.cell? ⟨D.p, 8, none⟩ = some (.int .i64 D.lost) := (h.at 8).trans rfl
  have f8 := h.free 8
  have hpl := h.lt
  by_cases hfull : 120 ≤ S.net.length
  · have hge : (120 : Int) ≤ (S.net.length : Int) := by omega
    have HG : Hid (∀ x o, SyGo w ((w.setCell ⟨D.p, 8, none⟩ (.int .i64 x)).alloc o) N D L win ⟨S.rp, S.v, putP q S.net⟩) := hide fun x o => by
      rw [show putP q S.net = S.net from if_pos hfull]
      exact (h.lost8 x).below ((Below.refl _ _).alloc (Nat.le_refl _) _)
    clear h hu hbx hS hu' hBW hnv hW
    go_enter Tryz.func58, Tryz.ntmps58
    go_wp2
    exact bodyPost_ret (results_none rfl _ _ _) rfl ⟨rfl, HG.out _ _⟩
  · have hlt : ¬ (120 : Int) ≤ (S.net.length : Int) := by omega
    have x0 : W.cell? ⟨w.heap.size, 0, none⟩ = some (.int .i64 (q.src : Int)) := (blk_cell hbx 0).trans rfl
    have x1 : W.cell? ⟨w.heap.size, 1, none⟩ = some (.int .i64 (q.dst : Int)) := (blk_cell hbx 1).trans rfl
    have x2 : W.cell? ⟨w.heap.size, 2, none⟩ = some u := (blk_cell hbx 2).trans rfl
    obtain ⟨i0, hi, hz0, hz1, hz2⟩ := info_parts infoPacket
    have HI := hide hi
    have HZ0 := hide hz0
    have HZ1 := hide hz1
    have HZ2 := hide hz2
    have hpn : some D.p ≠ (Value.slice a S.net.length cap).ownBlock := fun e => hS.ne7 D.p (by rw [hnv]; exact e.symm) rfl
    have hs1 : w.heap.size < W.heap.size := blk_lt hbx
    have hplW := hS.lt
    have d7 : W.cell? ⟨D.p, 7, none⟩ = some (.slice a S.net.length cap) := (hS.at 7).trans (by show some D.nv = _; rw [hnv])
    have FRZ : Hid ((W.alloc (.cells #[.int .i64 (q.src : Int), .int .i64 (q.dst : Int), u] 103)).drew.frozen? ⟨D.p, 7, none⟩ = false) := hide ((World.frozen?_of_block (w := W) (Below.heap_alloc _ _ _ hplW)).trans (hS.free 7))
    have CEL : Hid ((W.alloc (.cells #[.int .i64 (q.src : Int), .int .i64 (q.dst : Int), u] 103)).drew.cell? ⟨D.p, 7, none⟩ = some (.slice a S.net.length cap)) := hide ((World.cell?_of_block (w := W) (Below.heap_alloc _ _ _ hplW)).trans d7)
    have HNET := hide hS.net
    have HS := hide hS
    have HU := hide hu'
    have HB := hide hBW
    obtain ⟨n, hnn⟩ : ∃ n, Hid (S.net.length = n) := ⟨_, hide rfl⟩
    rw [hnn.out] at hle hfull hlt c7 hpn CEL hnv d7
    have HNV := hide hnv
    have HK1 : Hid (n + 1 ≤ maxLen) := by rw [Hid]; unfold maxLen; omega
    have HK2 : Hid ((n + 1) * 40 ≤ 140737488355328) := by rw [Hid]; omega
    have HK3 : Hid (N ≤ (W.alloc (.cells #[.int .i64 (q.src : Int), .int .i64 (q.dst : Int), u] 103)).drew.heap.size) := by rw [Hid]; simp; omega
    have HOWN : Hid (W.ownsRow N 103 3 (.slice a n cap) n (pkL S.net D.us)) := by
      have := HNET.out.row
      rw [hnv, hnn.out] at this
      exact this
    have HNEW : Hid (∀ v ∈ pkC q u, v.oneCell' = true) := by
      rw [Hid]
      intro v hv
      simp [pkC] at hv
      rcases hv with rfl | rfl | rfl
      · rfl
      · rfl
      · exact HUE.out
    have HPUT : Hid (putP q S.net = S.net ++ [q]) := by rw [Hid]; exact if_neg (by rw [hnn.out]; exact hfull)
    have HEND : Hid (∀ (o : Obj) (w3 : World) (g cap' : Nat), w3.ownsRow N 103 3 (.slice (some ⟨g, 0, none⟩) (n + 1) cap') (n + 1) (pkL S.net D.us ++ pkC q u) → (W.alloc o).drew.grownBy w3 (Value.slice a n cap).ownBlock → ((Value.slice a n cap).ownBlock = some g ∨ w.heap.size ≤ g) →
        SyGo w (w3.setCell ⟨D.p, 7, none⟩ (.slice (some ⟨g, 0, none⟩) (n + 1) cap')) N D L win ⟨S.rp, S.v, S.net ++ [q]⟩) := hide fun o w3 g cap' ho hgr hat => by
      have hBo : Below W.heap.size W (W.alloc o).drew := ((Below.refl _ _).alloc (Nat.le_refl _) _).drew
      have hSo := HS.out.below hBo
      have hnvo : D.nv = .slice a n cap := HNV.out
      have hmg : Mod (W.alloc o).drew w3 (fun k => D.nv.ownBlock = some k) := by rw [hnvo]; exact (Mod.refl _ _).grown hgr (fun k _ e => e)
      have hN3 : NetIs w3 N (.slice (some ⟨g, 0, none⟩) (n + 1) cap') (S.net ++ [q]) (D.us ++ [u]) := by
        have hlen := hnn.out
        subst hlen
        exact hSo.net.grown (HU.out.below hBo) ho (by rw [hnvo]; exact hgr)
      have hb3 : w3.heap[D.p]? = some (.cells (syCells D L) 79 (0, 0)) := (hmg.block _ hSo.lt (fun e => hSo.ne7 _ e rfl)).trans hSo.blk
      have hg3 : ∃ cur, w3.heap[g]? = some (.cells cur 103 (0, 0)) := hN3.own rfl
      have hm4 : Mod w3 (w3.setCell ⟨D.p, 7, none⟩ (.slice (some ⟨g, 0, none⟩) (n + 1) cap')) (· = D.p) := (Mod.refl _ _).set _ _ (fun _ => rfl)
      have hN4 : NetIs (w3.setCell ⟨D.p, 7, none⟩ (.slice (some ⟨g, 0, none⟩) (n + 1) cap')) N (.slice (some ⟨g, 0, none⟩) (n + 1) cap') (S.net ++ [q]) (D.us ++ [u]) := by
        refine hN3.mod hm4 (fun x hx e => ?_) (fun k hk hb => ?_)
        · obtain ⟨cur, hc⟩ := hg3
          have : g = x := by simpa [Value.ownBlock] using hx
          subst this
          exact TyAt.ne ⟨_, _, hc⟩ ⟨_, _, hb3⟩ (by decide) e
        · subst hk
          exact TyAt.ne ⟨_, _, hb3⟩ hb (by decide) rfl
      refine h.putN (nv' := .slice (some ⟨g, 0, none⟩) (n + 1) cap') (us' := D.us ++ [u]) (lost' := D.lost) ?_ ((blk_set hb3 7 _).trans rfl) hN4 (fun x hx => ?_)
      · have m1 : Mod w (W.alloc o).drew (NB D) := (Mod.ofBelow HB.out _).below hBo
        have m2 : Mod w w3 (NB D) := m1.then hmg (fun i _ e => .inr e)
        exact m2.set _ _ (fun _ => .inl rfl)
      · have e : g = x := by simpa [Value.ownBlock] using hx
        rw [hnvo, ← e]; exact hat
    clear h hu hbx hS hu' hBW hi hz0 hz1 hz2 hnv d7 f8 c8
    go_enter Tryz.func58, Tryz.ntmps58
    go_wp2_with fail
    rw [show w.alloc (.cells #[.int .i64 (q.src : Int), .int .i64 (q.dst : Int), u] 103) = W from hW.out]
    have d7 : W.cell? ⟨D.p, 7, none⟩ = some (.slice a n cap) := by rw [← hW.out]; exact (World.cell?_of_block (w := w) (Below.heap_alloc _ _ _ hpl)).trans c7
    clear c7 hW
    go_region_law
      ((refine step_append_lies _ (by rfl) _ _ _ (by rfl) N 103 i0 _ 3 40 Tryz.underlying77 HI.out HZ0.out HZ1.out HZ2.out rfl (by omega) (.slice a n cap) n (pkL S.net D.us) (by rfl) ((HOWN.out.alloc _).drew)
          ⟨W.heap.size, 0, none⟩ 1 1 (pkC q u) (by rfl) (by rfl) (World.news_of_block (cs := #[.int .i64 (q.src : Int), .int .i64 (q.dst : Int), u]) (t := 103) (fr := (0, 0)) (heap_alloc_new W _)) HNEW.out
          (by omega) HK1.out HK2.out HK3.out (W.heap.size + 1) (by simp) ?_; intro g cap' w3 hown3 hgrow hat hlt3; have fz : w3.frozen? ⟨D.p, 7, none⟩ = false := (hgrow.frozen_far ⟨D.p, 7, none⟩ (by simp; omega) hpn).trans FRZ.out; have cz : w3.cell? ⟨D.p, 7, none⟩ = some (.slice a n cap) := (hgrow.cell_far ⟨D.p, 7, none⟩ (by simp; omega) hpn).trans CEL.out))
    all_goals
      go_wp2_with fail
      go_end0
      rw [HPUT.out]
      exact ⟨rfl, HEND.out _ w3 g cap' hown3 hgrow (hat.imp id (fun e => by omega))⟩
def pkZ : List Value := [.int .i64 0, .int .i64 0, .slice none 0 0]
theorem run_clear_pk (w : World) (ty : TypeId) (b o c : Nat) (ht : w.there b o 3) :
    (Builtin.clear_ #[77] ty #[.slice (some ⟨b, o, none⟩) 1 c]).run Tryz.prog w = .ok (.tuple #[]) (w.setCells b o pkZ) := by
  have hst := run_storeCells_cells (P := Tryz.prog) b o pkZ 0 w (by intro j hj; rw [Nat.add_zero]; exact (ht j hj).1) (by intro j hj; rw [Nat.add_zero]; exact (ht j hj).2) (by intro v hv; simp [pkZ] at hv; rcases hv with rfl | rfl | rfl <;> rfl)
  simp only [Nat.add_zero] at hst
  have hzc : (Builtin.zeroCells (Value.agg #[.int .i64 0, .int .i64 0, .slice none 0 0]).cells 1).toList = pkZ := by kernel_rfl
  simp [Builtin.clear_, run_underlying Tryz.underlying77, hzc, hst]
section
variable {ops : Array Oper} {rest : List Oper} {op : Oper} {a : Act} {w : World} {Q : Exit → Act → World → Prop}
theorem wpList_clear_pk (hgd : op.guard = none) (x : Operand) (ho : op.op = Op.call { callee := Callee.builtin Builtin.clear, args := #[x], argTypes := #[77] }) (b o c : Nat) (hx : a.eval x = .slice (some ⟨b, o, none⟩) 1 c) (ht : w.there b o 3)
    (h : ∀ w', Hid (w.setCells b o pkZ = w') → wpList Tryz.prog ops Q rest (a.put op.dst (.tuple #[])) w') : wpList Tryz.prog ops Q (op :: rest) a w :=
  wpList_plain hgd fun _ hK => by
    have hrun := run_clear_pk w op.type b o c ht
    unfold Oper.wp
    simp [execOp, ho, resolve, invoke, builtin, hx, hrun, Result.andThen]
    exact hK _ _ (h _ rfl)
end
theorem blk_bis {w : World} {g t n : Nat} {cur : Array Value} (h : w.heap[g]? = some (.cells cur t (0, 0))) (hs : cur.size = n) : BIs w g t n (fun k => cur[k]?.getD undef) := by
  refine ⟨cur, h, hs, fun k hk => ?_⟩
  have : k < cur.size := by omega
  simp [this]
theorem row_del {w w2 : World} {N g cap : Nat} {l : List Pk} {us : List Value} {i : Nat} (h : NetIs w N (.slice (some ⟨g, 0, none⟩) l.length cap) l us) (hi : i < l.length)
    (hw : w2 = (w.setCells g (i * 3) ((pkL l us).drop ((i + 1) * 3))).setCells g ((l.length - 1) * 3) pkZ) : w2.ownsRow N 103 3 (.slice (some ⟨g, 0, none⟩) (l.length - 1) cap) (l.length - 1) (pkL (l.eraseIdx i) (us.eraseIdx i)) ∧ Mod w w2 (· = g) := by
  have hlp := pkL_length l us
  have hle : (l.eraseIdx i).length = l.length - 1 := List.length_eraseIdx_of_lt hi
  rcases h.row.2 with ⟨e, _⟩ | ⟨g', cap', cur, e, h1, h2, h3, h4, h5, h6⟩
  · simp at e
  · simp only [Value.slice.injEq, Option.some.injEq, Addr.mk.injEq, and_true] at e
    obtain ⟨rfl, _, rfl⟩ := e
    have hB : BIs w g 103 (cap * 3) (fun k => cur[k]?.getD undef) := blk_bis h2 h5
    have hB2 := BIs.sets ((pkL l us).drop ((i + 1) * 3)) (i * 3) w _ hB (by rw [List.length_drop, hlp]; omega)
    have hB3 := BIs.sets pkZ ((l.length - 1) * 3) _ _ hB2 (by show (l.length - 1) * 3 + 3 ≤ cap * 3; omega)
    rw [← hw] at hB3
    obtain ⟨cs, b1, b2, b3⟩ := hB3
    refine ⟨⟨by rw [pkL_length, hle], .inr ⟨g, cap, cs, rfl, h1, b1, by omega, h4, b2, ?_⟩⟩, ?_⟩
    · rw [pkL_erase l us i h.len hi]
      apply List.ext_getElem?
      intro j
      rw [List.getElem?_take]
      by_cases hj : j < (l.length - 1) * 3
      · rw [if_pos hj, Array.getElem?_toList, b3 j (by omega)]
        show some (if (l.length - 1) * 3 ≤ j then _ else if i * 3 ≤ j then _ else _) = _
        rw [if_neg (by omega)]
        have hcur : ∀ x, x < l.length * 3 → cur[x]? = (pkL l us)[x]? := fun x hx => by rw [← h6, List.getElem?_take, if_pos hx, Array.getElem?_toList]
        by_cases hji : i * 3 ≤ j
        · rw [if_pos hji, List.getElem?_append_right (by rw [List.length_take, hlp]; omega), List.length_take, hlp, show min (i * 3) (l.length * 3) = i * 3 by omega, List.getElem?_drop, List.getElem?_eq_getElem (by rw [hlp]; omega)]
          rfl
        · rw [if_neg hji, List.getElem?_append_left (by rw [List.length_take, hlp]; omega), List.getElem?_take, if_pos (by omega)]
          show some (cur[j]?.getD undef) = _
          rw [hcur j (by omega), List.getElem?_eq_getElem (by rw [hlp]; omega)]
          rfl
      · rw [if_neg hj, List.getElem?_eq_none]
        rw [List.length_append, List.length_take, List.length_drop, hlp]
        omega
    · rw [hw]
      exact ((Mod.refl w (· = g)).sets g _ _ rfl).sets g _ _ rfl
theorem NetIs.del {w w2 : World} {N g cap : Nat} {l : List Pk} {us : List Value} {i : Nat} (h : NetIs w N (.slice (some ⟨g, 0, none⟩) l.length cap) l us) (hi : i < l.length)
    (hw : w2 = (w.setCells g (i * 3) ((pkL l us).drop ((i + 1) * 3))).setCells g ((l.length - 1) * 3) pkZ) : NetIs w2 N (.slice (some ⟨g, 0, none⟩) (l.length - 1) cap) (l.eraseIdx i) (us.eraseIdx i) ∧ Mod w w2 (· = g) := by
  obtain ⟨h1, h2⟩ := row_del h hi hw
  have hle : (l.eraseIdx i).length = l.length - 1 := List.length_eraseIdx_of_lt hi
  have hlu : (us.eraseIdx i).length = us.length - 1 := List.length_eraseIdx_of_lt (by rw [h.len]; exact hi)
  refine ⟨⟨by rw [hle]; exact h1, by rw [hle, hlu, h.len], fun j hj => ?_⟩, h2⟩
  rw [hle] at hj
  have key : ∃ m, m < l.length ∧ (us.eraseIdx i)[j]? = us[m]? ∧ (l.eraseIdx i)[j]? = l[m]? := by
    by_cases e : j < i
    · exact ⟨j, by omega, List.getElem?_eraseIdx_of_lt e, List.getElem?_eraseIdx_of_lt e⟩
    · exact ⟨j + 1, by omega, List.getElem?_eraseIdx_of_ge (by omega), List.getElem?_eraseIdx_of_ge (by omega)⟩
  obtain ⟨m, m1, m2, m3⟩ := key
  rw [m2, show pkAt (l.eraseIdx i) j = pkAt l m by unfold pkAt; rw [m3]]
  refine (h.byt m m1).mod h2 fun k hk hb => ?_
  subst hk
  obtain ⟨cur, hc⟩ := h.own rfl
  exact TyAt.ne ⟨_, _, hc⟩ hb (by decide) rfl
set_option maxHeartbeats 2000000 in
set_option maxRecDepth 20000 in
theorem delete_any (N g cap : Nat) (l : List Pk) (us : List Value) (i : Nat) (w : World) (h : NetIs w N (.slice (some ⟨g, 0, none⟩) l.length cap) l us) (hi : i < l.length) (hle : l.length ≤ 120) :
    Calls Tryz.prog 77 #[.slice (some ⟨g, 0, none⟩) l.length cap, .int .i64 (i : Int), .int .i64 ((i : Int) + 1)] w fun e w' =>
      e = .returned (.slice (some ⟨g, 0, none⟩) (l.length - 1) cap) ∧ NetIs w' N (.slice (some ⟨g, 0, none⟩) (l.length - 1) cap) (l.eraseIdx i) (us.eraseIdx i) ∧ Mod w w' (· = g) := by
  have hlp := pkL_length l us
  obtain ⟨hcp, hcm, hblk, hrow⟩ : l.length ≤ cap ∧ cap ≤ maxLen ∧ (∃ cur, w.heap[g]? = some (.cells cur 103 (0, 0)) ∧ cur.size = cap * 3) ∧ ∀ j u, (pkL l us)[j]? = some u → w.cell? ⟨g, j, none⟩ = some u := by
    rcases h.row.2 with ⟨e, _⟩ | ⟨g', cap', cur, e, h1, h2, h3, h4, h5, h6⟩
    · simp at e
    · simp only [Value.slice.injEq, Option.some.injEq, Addr.mk.injEq, and_true] at e
      obtain ⟨rfl, _, rfl⟩ := e
      refine ⟨h3, h4, ⟨cur, h2, h5⟩, fun j u hu => ?_⟩
      have hj : j < l.length * 3 := by have := (List.getElem?_eq_some_iff.1 hu).1; rwa [hlp] at this
      rw [blk_cell h2, ← Array.getElem?_toList, ← hu, ← h6, List.getElem?_take, if_pos hj]
  obtain ⟨cur, hcur, hsz⟩ := hblk
  obtain ⟨i0, hi0, hz0, hz1, hz2⟩ := info_parts infoPacket
  obtain ⟨news, hnews⟩ : ∃ news, Hid ((pkL l us).drop ((i + 1) * 3) = news) := ⟨_, hide rfl⟩
  obtain ⟨A, hA, hnw⟩ : ∃ A : Addr, (if cap = i + 1 then some (⟨g, 0, none⟩ : Addr) else some ⟨g, (i + 1) * 3, none⟩) = some A ∧ Hid (∀ j u, news[j]? = some u → w.drew.cell? (A.add j) = some u) := by
    rw [← hnews.out]
    by_cases e : cap = i + 1
    · refine ⟨⟨g, 0, none⟩, by simp [e], fun j u hu => ?_⟩
      have h0 : ((pkL l us).drop ((i + 1) * 3)).length = 0 := by rw [List.length_drop, hlp]; omega
      rw [List.length_eq_zero_iff.1 h0] at hu
      simp at hu
    · refine ⟨⟨g, (i + 1) * 3, none⟩, by simp [e], fun j u hu => ?_⟩
      rw [List.getElem?_drop] at hu
      rw [Addr.add_lit]
      exact hrow _ u hu
  have s1 : Hid (news.length = (l.length - (i + 1)) * 3) := by rw [Hid, ← hnews.out, List.length_drop, hlp]; omega
  have s2 : Hid (∀ u ∈ news, u.oneCell' = true) := by rw [Hid, ← hnews.out]; exact fun u hu => pk_one h.len h.byt u (List.mem_of_mem_drop hu)
  have s3 : Hid (∀ j, j < news.length → (w.drew.cell? ⟨g, 0 + i * 3 + j, none⟩).isSome = true ∧ w.drew.frozen? ⟨g, 0 + i * 3 + j, none⟩ = false) := by
    rw [Hid]
    intro j hj
    rw [s1.out] at hj
    refine ⟨?_, blk_free (w := w) hcur _⟩
    show (w.cell? _).isSome = true
    rw [blk_cell hcur, Array.getElem?_eq_getElem (by omega)]; rfl
  have HDEL : Hid (∀ w2, w2 = (w.drew.setCells g (i * 3) news).setCells g ((l.length - 1) * 3) pkZ → NetIs w2 N (.slice (some ⟨g, 0, none⟩) (l.length - 1) cap) (l.eraseIdx i) (us.eraseIdx i) ∧ Mod w w2 (· = g)) := hide fun w2 e => by
    have hd : NetIs w.drew N (.slice (some ⟨g, 0, none⟩) l.length cap) l us := h.mod (T := fun _ => False) ⟨rfl, rfl, rfl, Nat.le_refl _, fun _ _ _ => rfl⟩ (fun _ _ x => x) (fun _ x => x.elim)
    obtain ⟨a1, a2⟩ := hd.del hi (w2 := w2) (by rw [e, hnews.out])
    exact ⟨a1, ⟨a2.os, a2.tape, a2.output, a2.size, a2.block⟩⟩
  have HTH : Hid ((w.drew.setCells g (i * 3) news).there g ((l.length - 1) * 3) 3) := by
    rw [Hid]
    have hB : BIs w.drew g 103 (cap * 3) (fun k => cur[k]?.getD undef) := blk_bis (w := w.drew) hcur hsz
    exact (BIs.sets news (i * 3) w.drew _ hB (by rw [s1.out]; omega)).there (by omega)
  have hwr : IntKind.i64.wrap ((i : Int) + 1) = (i : Int) + 1 := by rw [IntKind.wrap_i64]; omega
  have hp0 : (0 : Int) ≤ (i : Int) + 1 := by omega
  have hp1 : (i : Int) + 1 ≤ (l.length : Int) := by omega
  have hp2 : ((i : Int) + 1).toNat = i + 1 := by omega
  have hp3 : (i : Int) ≤ (i : Int) + 1 := by omega
  have hp4 : (l.length : Int) ≤ (cap : Int) := by omega
  have hic : i ≤ cap := by omega
  have hm : cap ≤ 9223372036854775807 := by unfold maxLen at hcm; omega
  have hne : ((i : Int) == (i : Int) + 1) = false := by simp; omega
  clear h hrow hcur hsz hnews
  go_enter Tryz.func77, Tryz.ntmps77
  go_wp2_with fail
  go_region_law (refine step_append_room rfl (.tmp 22) (.tmp 25) 77 rfl 103 i0 3 Tryz.underlying77 hi0 hz1 g 0 i cap (by simp [Act.eval, Act.put]) A (l.length - (i + 1)) (cap - (i + 1)) news (by simp [Act.eval, Act.put]) s1.out hnw.out s2.out (by omega) s3.out ?_)
  rw [show i + (l.length - (i + 1)) = l.length - 1 by omega]
  generalize HWx : w.drew.setCells g (i * 3) news = W1
  rw [HWx] at HTH HDEL
  clear HWx s1 s2 s3 hnw hA hwr hp0 hp1 hp2 hp3 hne
  obtain ⟨m, hm1⟩ : ∃ m, l.length = m + 1 := ⟨l.length - 1, by omega⟩
  have HML : Hid (l.length - 1 = m) := by rw [Hid]; omega
  rw [hm1] at HTH HDEL hcp hp4 hle hi ⊢
  rw [show m + 1 - 1 = m by omega] at HTH HDEL ⊢
  clear hm1 hlp
  have hq1 : ¬ cap = m := by omega
  have hq2 : m ≤ m + 1 := by omega
  have hq3 : (m : Int) ≤ (m : Int) + 1 := by omega
  have hq4 : m + 1 - m = 1 := by omega
  go_wp2_with (refine wpList_clear_pk rfl _ rfl g (m * 3) _ rfl HTH.out ?_)
  intro W2 HW2
  go_wp2
  go_ret
  rw [HML.out]
  exact ⟨rfl, HDEL.out _ HW2.out.symm⟩
section
variable {w : World} {N win : Nat} {D : SC} {L : RC} {S : SY}
theorem SyIs.netHas (h : SyIs w N D L win S) (h0 : 0 < S.net.length) : ∃ g cap, D.nv = .slice (some ⟨g, 0, none⟩) S.net.length cap := by
  rcases h.net.row.2 with ⟨_, e⟩ | ⟨g, cap, cur, e, _⟩
  · omega
  · exact ⟨g, cap, e⟩
end
set_option maxHeartbeats 1000000 in
set_option maxRecDepth 20000 in
theorem remove_any (N : Nat) (D : SC) (L : RC) (win : Nat) (S : SY) (w : World) (i : Nat) (h : SyIs w N D L win S) (hi : i < S.net.length) (hle : S.net.length ≤ 120) :
    Calls Tryz.prog 57 #[.pointer (some ⟨D.p, 0, none⟩), .int .i64 (i : Int)] w fun e w' => e = .returned (.tuple #[]) ∧ SyGo w w' N D L win (outSy i S) := by
  obtain ⟨g, cap, hnv⟩ := h.netHas (by omega)
  have hdel := delete_any N g cap S.net D.us i w (by have := h.net; rw [hnv] at this; exact this) hi hle
  have c7 : w.cell? ⟨D.p, 7, none⟩ = some (.slice (some ⟨g, 0, none⟩) S.net.length cap) := (h.at 7).trans (by show some D.nv = _; rw [hnv])
  have hgp : g ≠ D.p := h.ne7 g (by rw [hnv]; rfl)
  have hwr : IntKind.i64.wrap ((i : Int) + 1) = (i : Int) + 1 := by rw [IntKind.wrap_i64]; omega
  have hcall : Calls Tryz.prog 77 #[.slice (some ⟨g, 0, none⟩) S.net.length cap, .int .i64 (i : Int), .int .i64 ((i : Int) + 1)] w fun e w1 =>
      e = .returned (.slice (some ⟨g, 0, none⟩) (S.net.length - 1) cap) ∧ (w1.cell? ⟨D.p, 7, none⟩ = some (.slice (some ⟨g, 0, none⟩) S.net.length cap) ∧ w1.frozen? ⟨D.p, 7, none⟩ = false) ∧ Hid (SyGo w (w1.setCell ⟨D.p, 7, none⟩ (.slice (some ⟨g, 0, none⟩) (S.net.length - 1) cap)) N D L win (outSy i S)) := by
    refine hdel.mono ?_
    rintro e w1 ⟨rfl, hN1, hm1⟩
    have hb1 : w1.heap[D.p]? = some (.cells (syCells D L) 79 (0, 0)) := (hm1.block _ h.lt (fun e => hgp e.symm)).trans h.blk
    refine ⟨rfl, ⟨(World.cell?_of_block (w := w) (hm1.block _ h.lt (fun e => hgp e.symm))).trans c7, blk_free hb1 7⟩, hide ?_⟩
    have hg1 : ∃ cur, w1.heap[g]? = some (.cells cur 103 (0, 0)) := hN1.own rfl
    have hm4 : Mod w1 (w1.setCell ⟨D.p, 7, none⟩ (.slice (some ⟨g, 0, none⟩) (S.net.length - 1) cap)) (· = D.p) := (Mod.refl _ _).set _ _ (fun _ => rfl)
    have hN4 : NetIs (w1.setCell ⟨D.p, 7, none⟩ (.slice (some ⟨g, 0, none⟩) (S.net.length - 1) cap)) N (.slice (some ⟨g, 0, none⟩) (S.net.length - 1) cap) (S.net.eraseIdx i) (D.us.eraseIdx i) := by
      refine hN1.mod hm4 (fun x hx e => ?_) (fun k hk hb => ?_)
      · have : g = x := by simpa [Value.ownBlock] using hx
        exact hgp (this.trans e)
      · subst hk
        exact TyAt.ne ⟨_, _, hb1⟩ hb (by decide) rfl
    refine h.putN (nv' := .slice (some ⟨g, 0, none⟩) (S.net.length - 1) cap) (us' := D.us.eraseIdx i) (lost' := D.lost) ?_ ((blk_set hb1 7 _).trans rfl) hN4 (fun x hx => ?_)
    · have m2 : Mod w w1 (NB D) := hm1.mono fun k _ e => .inr (by rw [hnv, e]; rfl)
      exact m2.set _ _ (fun _ => .inl rfl)
    · left; rw [hnv]; exact hx
  have HC := hide hcall
  have hpl := h.lt
  clear hcall hdel h
  go_enter Tryz.func57, Tryz.ntmps57
  go_wp2_with (go_at_call 77; refine HC.out.mono ?_; rintro e w1 ⟨rfl, ⟨z0, z1⟩, HM⟩)
  go_end0
  exact ⟨rfl, HM.out⟩
theorem isNot_any (x : Int) (w : World) :
    Calls Tryz.prog 73 #[.int .i64 x] w fun e w' => e = .returned (.func (Fn.func 91) #[] #[.pointer (some ⟨w.heap.size, 0, none⟩)]) ∧ w' = w.alloc (.cells #[.int .i64 x] 3) := by
  go_enter Tryz.func73, Tryz.ntmps73
  go_wp2
  go_ret
  exact ⟨rfl, rfl⟩
theorem isNot1_any (x y : Int) (b : Nat) (w : World) (hc : w.cell? ⟨b, 0, none⟩ = some (.int .i64 y)) :
    Calls Tryz.prog 91 #[.int .i64 x, .pointer (some ⟨b, 0, none⟩)] w fun e w' => e = .returned (.bool (x != y)) ∧ w' = w := by
  go_enter Tryz.func91, Tryz.ntmps91
  go_wp2
  go_ret
  exact ⟨rfl, rfl⟩
theorem sysRep_any (x : Int) (w : World) :
    Calls Tryz.prog 37 #[.int .i64 x] w fun e w' => e = .returned (.bool (isRep x)) ∧ w' = w := by
  by_cases h0 : 0 ≤ x
  · by_cases h3 : x < 3
    · have e : isRep x = true := by unfold isRep; simp [h0, h3]
      rw [e]
      go_enter Tryz.func37, Tryz.ntmps37
      go_wp2
      go_ret
      exact ⟨rfl, rfl⟩
    · have e : isRep x = false := by unfold isRep; simp [h0, h3]
      rw [e]
      go_enter Tryz.func37, Tryz.ntmps37
      go_wp2
      go_ret
      exact ⟨rfl, rfl⟩
  · have e : isRep x = false := by unfold isRep; simp [h0]
    rw [e]
    go_enter Tryz.func37, Tryz.ntmps37
    go_wp2
    go_ret
    exact ⟨rfl, rfl⟩
theorem underWay_any (N : Nat) (D : SC) (L : RC) (win : Nat) (S : SY) (w : World) (i : Nat) (h : SyIs w N D L win S) :
    Calls Tryz.prog 55 #[.pointer (some ⟨D.p, 0, none⟩), .int .i64 (i : Int)] w fun e w' => e = .returned (.bool (decide (i < S.net.length))) ∧ w' = w := by
  obtain ⟨a, cap, hnv⟩ := h.net.shape
  have c7 : w.cell? ⟨D.p, 7, none⟩ = some (.slice a S.net.length cap) := (h.at 7).trans (by show some D.nv = _; rw [hnv])
  have h0 : (0 : Int) ≤ (i : Int) := by omega
  clear h hnv
  by_cases hi : i < S.net.length
  · have hi' : (i : Int) < (S.net.length : Int) := by omega
    rw [decide_eq_true hi]
    go_enter Tryz.func55, Tryz.ntmps55
    go_wp2
    go_ret
    exact ⟨rfl, rfl⟩
  · have hi' : ¬ (i : Int) < (S.net.length : Int) := by omega
    rw [decide_eq_false hi]
    go_enter Tryz.func55, Tryz.ntmps55
    go_wp2
    go_ret
    exact ⟨rfl, rfl⟩
theorem enc_any (F : FR) (w : World) :
    Calls Tryz.prog 32 #[.agg (fCells F)] w fun e w' => (∃ v ev, e = .returned (.tuple #[v, ev]) ∧ BytesIs w' v (bytesF F) ∧ (mayB F = true → ev = .nilIface) ∧ (mayB F = false → ev = .iface 81 (.int .i64 1))) ∧ Below w.heap.size w w' := by
  cases hm : mayB F
  · refine (encode_bad F w hm).mono ?_
    rintro e w1 ⟨rfl, hB⟩
    refine ⟨⟨_, _, rfl, ?_, fun h => by simp at h, fun _ => rfl⟩, hB⟩
    unfold bytesF
    rw [hm, if_neg (by decide)]
    exact bytes_nil _ _ _
  · refine (encode_ok F w hm).mono ?_
    rintro e w1 ⟨⟨v, rfl, hv⟩, hB⟩
    refine ⟨⟨_, _, rfl, ?_, fun _ => rfl, fun h => by simp at h⟩, hB⟩
    unfold bytesF
    rw [hm, if_pos rfl]
    exact bytes_own (withSum_lt (bytesN_lt _)) hv
end Go.Proofs.YtaablbmgagiajaaGreatDoor
