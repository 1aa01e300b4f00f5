import Derived.Test.YtaablbmgagiajabGreatDoorCGBD
import Derived.Test.YtaablbmgagiajabGreatDoorCLineInv
import Derived.Test.YtaablbmgagiajabGreatDoorCLine
namespace Go.Proofs.YtaablbmgagiajabGreatDoor
open Go.RowKit Go.Deep
def sgC (s : Sg) : List Value := [.int .i64 (s.who : Int), .int .i64 s.cyc, .bool s.on, .int .i64 s.x, .int .i64 s.y]
def sgL : List Sg → List Value
  | [] => []
  | s :: r => sgC s ++ sgL r
theorem sgL_append (l m : List Sg) : sgL (l ++ m) = sgL l ++ sgL m := by
  induction l with
  | nil => rfl
  | cons s r ih => rw [List.cons_append, sgL, sgL, ih, List.append_assoc]
theorem sgC_one (s : Sg) : ∀ u ∈ sgC s, u.oneCell' = true := by
  intro u hu
  simp [sgC] at hu
  rcases hu with rfl | rfl | rfl | rfl | rfl <;> rfl
structure TC where
  D : SC
  b : Nat
  off : Nat
  cap : Nat
  sv : Value
  z : Nat
def taC (E : TC) (L : RC) (liar : Nat) (A : TS) : Array Value := #[.pointer (some ⟨E.D.p, 0, none⟩), .int .i64 (L.s : Int), .slice (some ⟨E.b, E.off, none⟩) L.n E.cap, .int .i64 (L.d : Int), .int .i64 (liar : Int), .int .i64 (A.fx 0), .int .i64 (A.fy 0), .int .i64 (A.fx 1), .int .i64 (A.fy 1), .int .i64 (A.fx 2), .int .i64 (A.fy 2), E.sv]
structure TaIs (w : World) (N q : Nat) (E : TC) (L : RC) (win liar : Nat) (A : TS) : Prop where
  blk : w.heap[q]? = some (.cells (taC E L liar A) 46 (0, 0))
  row : Row w E.b E.off L.zs
  sy : SyIs w N E.D L win A.S
  seen : w.ownsRow N 129 5 E.sv A.seen.length (sgL A.seen)
  lb : E.b < N ∧ E.b ≠ q
  lq : q < N
  far : ∀ y, Sta E.D y → E.sv.ownBlock ≠ some y
  cap : L.n ≤ E.cap
  size : N ≤ w.heap.size
  zz : (¬ Wr E.D E.z ∧ E.z ≠ q) ∧ E.sv.ownBlock ≠ some E.z ∧ E.z < w.heap.size
def TaW (N q z k : Nat) : Prop := k = q ∨ N ≤ k ∧ k ≠ z
def TaGo (w w' : World) (N q : Nat) (E : TC) (L : RC) (win liar : Nat) (A' : TS) : Prop := ∃ E', E'.b = E.b ∧ E'.off = E.off ∧ (E'.cap, E'.z) = (E.cap, E.z) ∧ E'.D.p = E.D.p ∧ TaIs w' N q E' L win liar A' ∧ Mod w w' (TaW N q E.z)
section
variable {w w' : World} {N q win liar : Nat} {E : TC} {L : RC} {A : TS}
theorem TaIs.at (h : TaIs w N q E L win liar A) (k : Nat) : w.cell? ⟨q, k, none⟩ = (taC E L liar A)[k]? := blk_cell h.blk k
theorem TaIs.free (h : TaIs w N q E L win liar A) (k : Nat) : w.frozen? ⟨q, k, none⟩ = false := blk_free h.blk k
theorem TaIs.lt (h : TaIs w N q E L win liar A) : q < w.heap.size := blk_lt h.blk
theorem TaIs.own (h : TaIs w N q E L win liar A) {g : Nat} (hg : E.sv.ownBlock = some g) : TyAt w g 129 := by
  rcases h.seen.2 with ⟨e, _⟩ | ⟨g', cap, cur, e, _, hc, _⟩
  · rw [e] at hg; simp [Value.ownBlock] at hg
  · rw [e] at hg
    have : g' = g := by simpa [Value.ownBlock] using hg
    subst this
    exact ⟨_, _, hc⟩
theorem TaIs.shape (h : TaIs w N q E L win liar A) : ∃ a cap, E.sv = .slice a A.seen.length cap := by
  rcases h.seen.2 with ⟨e, h0⟩ | ⟨g, cap, cur, e, _⟩
  · exact ⟨none, 0, by rw [e, h0]⟩
  · exact ⟨_, _, e⟩
theorem ownsRow_mod {w w' : World} {B : Nat} {t : TypeId} {m : Nat} {v : Value} {n : Nat} {xs : List Value} {T : Nat → Prop} (h : w.ownsRow B t m v n xs) (hm : Mod w w' T) (hT : ∀ g, v.ownBlock = some g → ¬ T g) : w'.ownsRow B t m v n xs := by
  refine ⟨h.1, ?_⟩
  rcases h.2 with h2 | ⟨g, cap, cur, e, h3, hc, h5⟩
  · exact .inl h2
  · exact .inr ⟨g, cap, cur, e, h3, (hm.block g (blk_lt hc) (hT g (by rw [e]; rfl))).trans hc, h5⟩
theorem TaIs.below (h : TaIs w N q E L win liar A) (hB : Below w.heap.size w w') : TaIs w' N q E L win liar A := by
  have hm := Mod.ofBelow hB (fun _ => False)
  exact ⟨(hB.block _ h.lt).trans h.blk, h.row.below (B := w.heap.size) (Nat.lt_of_lt_of_le h.lb.1 h.size) hB, h.sy.below hB, ownsRow_mod h.seen hm (fun _ _ hf => hf), h.lb, h.lq, h.far, h.cap, Nat.le_trans h.size hB.size, h.zz.1, h.zz.2.1, Nat.lt_of_lt_of_le h.zz.2.2 hB.size⟩
theorem TaIs.went (h : TaIs w N q E L win liar A) {S' : SY} (hg : SyGo w w' N E.D L win S') : TaGo w w' N q E L win liar ⟨S', A.fx, A.fy, A.seen⟩ := by
  obtain ⟨D', hp, hS, hm, hgr⟩ := hg
  have hb : ∀ k, k < N → ¬ Wr E.D k := fun k hk hw => by have := h.sy.base k hw; omega
  have hns : ∀ g, E.sv.ownBlock = some g → ¬ Wr E.D g := fun g hg hw => by
    have t := h.own hg
    rcases hw with rfl | hw | ⟨j, hj, rfl⟩ | rfl | hw
    · exact t.ne h.sy.tyP (by decide) rfl
    · exact t.ne (h.sy.tyN hw) (by decide) rfl
    · exact t.ne (h.sy.tyR hj) (by decide) rfl
    · exact t.ne h.sy.tyV (by decide) rfl
    · exact t.ne (h.sy.tyT hw) (by decide) rfl
  refine ⟨⟨D', E.b, E.off, E.cap, E.sv, E.z⟩, rfl, rfl, rfl, hp, ⟨?_, ?_, hS, ownsRow_mod h.seen hm hns, h.lb, h.lq, fun y hy e => ?_, h.cap, Nat.le_trans h.size hm.size, ⟨fun x => ?_, h.zz.1.2⟩, h.zz.2.1, Nat.lt_of_lt_of_le h.zz.2.2 hm.size⟩, hm.mono fun k _ hw => .inr ⟨h.sy.base k hw, fun e => h.zz.1.1 (e ▸ hw)⟩⟩
  · rw [hm.block q h.lt (hb q h.lq), h.blk]
    unfold taC
    rw [hp]
  · intro k hk
    rw [World.cell?_of_block (w := w) (hm.block E.b (Nat.lt_of_lt_of_le h.lb.1 h.size) (hb _ h.lb.1))]
    exact h.row k hk
  · rcases hgr.st y hy with z | z
    · exact h.far y z e
    · have := (h.own e).lt
      omega
  · have hz := h.zz.2.2
    rcases hgr.wr _ x with y | y
    · exact h.zz.1.1 y
    · have y' : w.heap.size ≤ E.z := y
      omega
theorem TaGo.then {w2 : World} {A2 : TS} {E1 : TC} (he : E1.b = E.b ∧ E1.off = E.off ∧ (E1.cap, E1.z) = (E.cap, E.z) ∧ E1.D.p = E.D.p) (hm : Mod w w' (TaW N q E.z)) (h : TaGo w' w2 N q E1 L win liar A2) : TaGo w w2 N q E L win liar A2 := by
  obtain ⟨E2, e1, e2, e3, e4, hT, hm2⟩ := h
  exact ⟨E2, e1.trans he.1, e2.trans he.2.1, e3.trans he.2.2.1, e4.trans he.2.2.2, hT, hm.then hm2 fun _ _ h => by rw [← show E1.z = E.z from congrArg Prod.snd he.2.2.1]; exact h⟩
theorem TaGo.pre {w0 : World} {A' : TS} (h : TaGo w w' N q E L win liar A') (hB : Below w0.heap.size w0 w) : TaGo w0 w' N q E L win liar A' := by
  obtain ⟨E2, e1, e2, e3, e4, hT, hm2⟩ := h
  exact ⟨E2, e1, e2, e3, e4, hT, (Mod.ofBelow hB _).then hm2 fun _ _ h => h⟩
theorem TaIs.goes (h : TaIs w N q E L win liar A) : TaGo w w N q E L win liar A := ⟨E, rfl, rfl, rfl, rfl, h, Mod.refl _ _⟩
theorem SyIs.far {D : SC} {S : SY} (h : SyIs w N D L win S) {T : Nat → Prop} (hm : Mod w w' T) (hw : ∀ k, T k → ¬ Wr D k) (hs : ∀ k, T k → ¬ Sta D k) (hb : ∀ k, T k → ¬ TyAt w k 5) : SyIs w' N D L win S := by
  refine ⟨(hm.block _ h.lt fun x => hw _ x (.inl rfl)).trans h.blk, fun k hk => (World.cell?_of_block (w := w) (hm.block _ h.lt0 fun x => hs _ x (.inl rfl))).trans (h.row k hk), Nat.lt_of_lt_of_le h.lt0 hm.size, h.cap0, fun k hk => ?_, h.ln, h.ne, ?_, ?_, h.sep, h.base, h.sbase⟩
  · exact (h.rp k hk).staged hm (fun x => hw _ x (.inr (.inr (.inl ⟨k, hk, rfl⟩)))) fun j hj x => hs j x (.inr ⟨k, hk, hj⟩)
  · exact h.vt.move hm fun k hk x => hw k x (.inr (.inr (.inr hk)))
  · exact h.net.mod hm (fun g hg x => hw g x (.inr (.inl hg))) hb
theorem TaIs.put (h : TaIs w N q E L win liar A) (hm : Mod w w' (· = q)) {A' : TS} (hS : A'.S = A.S) (hs : A'.seen = A.seen) (hb : w'.heap[q]? = some (.cells (taC E L liar A') 46 (0, 0))) : TaGo w w' N q E L win liar A' := by
  have lq := h.lq
  refine ⟨E, rfl, rfl, rfl, rfl, ⟨hb, ?_, ?_, ?_, h.lb, h.lq, h.far, h.cap, Nat.le_trans h.size hm.size, h.zz.1, h.zz.2.1, Nat.lt_of_lt_of_le h.zz.2.2 hm.size⟩, hm.mono fun k _ e => .inl e⟩
  · intro k hk
    rw [World.cell?_of_block (w := w) (hm.block E.b (Nat.lt_of_lt_of_le h.lb.1 h.size) h.lb.2)]
    exact h.row k hk
  · rw [hS]
    refine h.sy.far hm (fun k e x => ?_) (fun k e x => ?_) (fun k e x => ?_)
    · have := h.sy.base k x; omega
    · have := h.sy.sbase k x; omega
    · subst e
      exact TyAt.ne ⟨_, _, h.blk⟩ x (by decide) rfl
  · rw [hs]
    exact ownsRow_mod h.seen hm fun g hg e => by have := (h.seen.lt g hg).1; omega
theorem TaIs.grown (h : TaIs w N q E L win liar A) {o : Obj} {w3 : World} {g cap' n : Nat} {s : Sg} (hn : A.seen.length = n) (hown : w3.ownsRow N 129 5 (.slice (some ⟨g, 0, none⟩) (n + 1) cap') (n + 1) (sgL A.seen ++ sgC s)) (hg : (w.alloc o).drew.grownBy w3 E.sv.ownBlock) (hat : E.sv.ownBlock = some g ∨ w.heap.size ≤ g) :
    TaGo w (w3.setCell ⟨q, 11, none⟩ (.slice (some ⟨g, 0, none⟩) (n + 1) cap')) N q E L win liar ⟨A.S, A.fx, A.fy, A.seen ++ [s]⟩ := by
  have hBo : Below w.heap.size w (w.alloc o).drew := ((Below.refl _ _).alloc (Nat.le_refl _) _).drew
  have lq := h.lq
  have hmg : Mod (w.alloc o).drew w3 (fun k => E.sv.ownBlock = some k) := (Mod.refl _ _).grown hg (fun k _ e => e)
  have hm1 : Mod w w3 (fun k => E.sv.ownBlock = some k) := (Mod.ofBelow hBo _).then hmg fun _ _ x => x
  have hm4 : Mod w3 (w3.setCell ⟨q, 11, none⟩ (.slice (some ⟨g, 0, none⟩) (n + 1) cap')) (· = q) := (Mod.refl _ _).set _ _ (fun _ => rfl)
  have hm : Mod w (w3.setCell ⟨q, 11, none⟩ (.slice (some ⟨g, 0, none⟩) (n + 1) cap')) (fun k => k = q ∨ E.sv.ownBlock = some k) := (hm1.mono fun _ _ x => .inr x).then hm4 fun _ _ x => .inl x
  have hge : ∀ k, E.sv.ownBlock = some k → N ≤ k := fun k hk => (h.seen.lt k hk).1
  have hb3 : w3.heap[q]? = some (.cells (taC E L liar A) 46 (0, 0)) := (hm1.block q h.lt fun e => by have := hge q e; omega).trans h.blk
  refine ⟨⟨E.D, E.b, E.off, E.cap, .slice (some ⟨g, 0, none⟩) (n + 1) cap', E.z⟩, rfl, rfl, rfl, rfl, ⟨(blk_set hb3 11 _).trans rfl, ?_, ?_, ?_, h.lb, h.lq, fun y hy e => ?_, h.cap, Nat.le_trans h.size hm.size, h.zz.1, fun e => ?_, Nat.lt_of_lt_of_le h.zz.2.2 hm.size⟩, hm.mono fun k _ x => x.imp id fun y => ⟨hge k y, fun e => h.zz.2.1 (e ▸ y)⟩⟩
  · intro k hk
    have hlb := h.lb
    rw [World.cell?_of_block (w := w) (hm.block E.b (Nat.lt_of_lt_of_le h.lb.1 h.size) fun x => x.elim hlb.2 fun x => absurd (hge _ x) (by omega))]
    exact h.row k hk
  · refine h.sy.far hm (fun k e x => ?_) (fun k e x => ?_) (fun k e x => ?_)
    · rcases e with e | e
      · have := h.sy.base k x; omega
      · exact h.sy.notWr (h.own e) (by decide) x
    · rcases e with e | e
      · have := h.sy.sbase k x; omega
      · exact h.far k x e
    · rcases e with e | e
      · subst e
        exact TyAt.ne ⟨_, _, h.blk⟩ x (by decide) rfl
      · exact (h.own e).ne x (by decide) rfl
  · rw [sgL_append, List.length_append, hn]
    have e0 : sgL [s] = sgC s := List.append_nil _
    rw [e0]
    refine ownsRow_mod hown hm4 fun k hk e => ?_
    have : g = k := by simpa [Value.ownBlock] using hk
    rcases hat with hat | hat
    · have := hge g hat; omega
    · have := h.size; omega
  · have : g = y := by simpa [Value.ownBlock] using e
    subst this
    rcases hat with hat | hat
    · exact h.far g hy hat
    · have := h.sy.staLt hy; omega
  · have e' : g = E.z := by simpa [Value.ownBlock] using e
    have hz := h.zz.2.2
    rcases hat with hat | hat
    · exact h.zz.2.1 (e' ▸ hat)
    · omega
end
end Go.Proofs.YtaablbmgagiajabGreatDoor
namespace Go.Proofs.YtaablbmgagiajabGreatDoor
open Go.RowKit Go.Deep
theorem infoSeen : (Tryz.prog.info? 129).map (fun i => (i.zero, i.size, i.bytes)) = some (some (.agg #[.int .i64 0, .int .i64 0, .bool false, .int .i64 0, .int .i64 0]), 5, 40) := by kernel_rfl
theorem TaIs.fld {w : World} {N q win liar : Nat} {E : TC} {L : RC} {A : TS} (h : TaIs w N q E L win liar A) {k : Nat} (hk : k < 3) : w.cell? ⟨q, 5 + k * 2, none⟩ = some (.int .i64 (A.fx k)) ∧ w.cell? ⟨q, 5 + k * 2 + 1, none⟩ = some (.int .i64 (A.fy k)) := by
  rw [h.at, h.at]
  rcases (by omega : k = 0 ∨ k = 1 ∨ k = 2) with rfl | rfl | rfl <;> exact ⟨rfl, rfl⟩
set_option maxHeartbeats 2000000 in
set_option maxRecDepth 20000 in
theorem looks_any (N q : Nat) (E : TC) (L : RC) (win liar : Nat) (A : TS) (w : World) (k : Nat) (on : Bool) (hk : k < 3) (h : TaIs w N q E L win liar A) (hm : A.seen.length ≤ 1000) :
    Calls Tryz.prog 31 #[.pointer (some ⟨q, 0, none⟩), .int .i64 (k : Int), .bool on] w fun e w' => e = .returned (.tuple #[]) ∧ TaGo w w' N q E L win liar ⟨A.S, A.fx, A.fy, A.seen ++ [sgOf A k on]⟩ ∧ ∀ j, TyAt w j 39 → w'.heap[j]? = w.heap[j]? := by
  have c0 : w.cell? ⟨q, 0, none⟩ = some (.pointer (some ⟨E.D.p, 0, none⟩)) := (h.at 0).trans rfl
  have HRP := hide (sreplica_any N E.D L win A.S w k hk h.sy)
  obtain ⟨cy, hcy⟩ : ∃ cy, Hid ((A.S.rp k).cycle = cy) := ⟨_, hide rfl⟩
  obtain ⟨X, hX⟩ : ∃ X, Hid ((A.S.rp k).st = X) := ⟨_, hide rfl⟩
  rw [hcy.out, hX.out] at HRP
  have HT := hide h
  have hk' : (k : Int) < 3 := by omega
  clear h hX
  go_enter Tryz.func31, Tryz.ntmps31
  go_wp2_with (go_at_call 20; refine HRP.out.mono ?_)
  rintro e w1 ⟨rfl, hB1⟩
  have HS0 : Hid (StIs (w1.alloc (.cells (stCells st0) 34)) w1.heap.size st0) := hide (blk_new _ _)
  have HB1 := hide hB1
  clear HRP c0 hB1
  go_wp2_with (refine wpList_store_s rfl _ _ rfl w1.heap.size st0 X rfl rfl HS0.out ?_)
  intro W HF
  have hBW : Below w.heap.size w W := HB1.out.trans (((Below.refl _ _).alloc (Nat.le_refl _) _).trans (HF.out.2.2 w1.heap.size (Nat.le_refl _)) |>.mono HB1.out.size)
  have hW := HT.out.below hBW
  clear HS0 HF
  have HGO : Hid (∀ w', TaGo W w' N q E L win liar ⟨A.S, A.fx, A.fy, A.seen ++ [sgOf A k on]⟩ → TaGo w w' N q E L win liar ⟨A.S, A.fx, A.fy, A.seen ++ [sgOf A k on]⟩) := hide fun w' hg => hg.pre hBW
  have HOLD : Hid (∀ j, j < w.heap.size → W.heap[j]? = w.heap[j]?) := hide fun j hj => hBW.block j hj
  clear HB1 hBW
  obtain ⟨a, cap, hsv⟩ := hW.shape
  obtain ⟨i0, hi, hz0, hz1, hz2⟩ := info_parts infoSeen
  have HI := hide hi
  have HZ0 := hide hz0
  have HZ1 := hide hz1
  have HZ2 := hide hz2
  obtain ⟨x, hx⟩ : ∃ x, Hid (A.fx k = x) := ⟨_, hide rfl⟩
  obtain ⟨y, hy⟩ : ∃ y, Hid (A.fy k = y) := ⟨_, hide rfl⟩
  obtain ⟨f0, f1⟩ := hW.fld hk
  rw [hx.out] at f0
  rw [hy.out] at f1
  obtain ⟨n, hnn⟩ : ∃ n, Hid (A.seen.length = n) := ⟨_, hide rfl⟩
  rw [hnn.out] at hsv hm
  have c11 : W.cell? ⟨q, 11, none⟩ = some (.slice a n cap) := (hW.at 11).trans (by show some E.sv = _; rw [hsv])
  have hql := hW.lt
  have hpn : some q ≠ (Value.slice a n cap).ownBlock := fun e => by
    have := (hW.seen.lt q (by rw [hsv]; exact e.symm)).1
    have := hW.lq
    omega
  have FRZ : Hid ((W.alloc (.cells #[.int .i64 (k : Int), .int .i64 cy, .bool on, .int .i64 x, .int .i64 y] 129)).drew.frozen? ⟨q, 11, none⟩ = false) := hide ((World.frozen?_of_block (w := W) (Below.heap_alloc _ _ _ hql)).trans (hW.free 11))
  have CEL : Hid ((W.alloc (.cells #[.int .i64 (k : Int), .int .i64 cy, .bool on, .int .i64 x, .int .i64 y] 129)).drew.cell? ⟨q, 11, none⟩ = some (.slice a n cap)) := hide ((World.cell?_of_block (w := W) (Below.heap_alloc _ _ _ hql)).trans c11)
  have HK1 : Hid (n + 1 ≤ maxLen) := by rw [Hid]; unfold maxLen; omega
  have HK2 : Hid ((n + 1) * 40 ≤ 140737488355328) := by rw [Hid]; omega
  have HK3 : Hid (N ≤ (W.alloc (.cells #[.int .i64 (k : Int), .int .i64 cy, .bool on, .int .i64 x, .int .i64 y] 129)).drew.heap.size) := by rw [Hid]; have := hW.size; simp; omega
  have HOWN : Hid (W.ownsRow N 129 5 (.slice a n cap) n (sgL A.seen)) := by
    have := hW.seen
    rw [hsv, hnn.out] at this
    exact this
  have HEND : Hid (∀ (o : Obj) (w3 : World) (g cap' : Nat), w3.ownsRow N 129 5 (.slice (some ⟨g, 0, none⟩) (n + 1) cap') (n + 1) (sgL A.seen ++ sgC ⟨k, cy, on, x, y⟩) → (W.alloc o).drew.grownBy w3 (Value.slice a n cap).ownBlock → ((Value.slice a n cap).ownBlock = some g ∨ W.heap.size ≤ g) →
      TaGo w (w3.setCell ⟨q, 11, none⟩ (.slice (some ⟨g, 0, none⟩) (n + 1) cap')) N q E L win liar ⟨A.S, A.fx, A.fy, A.seen ++ [sgOf A k on]⟩ ∧ ∀ j, TyAt w j 39 → (w3.setCell ⟨q, 11, none⟩ (.slice (some ⟨g, 0, none⟩) (n + 1) cap')).heap[j]? = w.heap[j]?) := hide fun o w3 g cap' h1 h2 h3 => by
    refine ⟨HGO.out _ ?_, fun j hj => ?_⟩
    rotate_left
    · have hjW : W.heap[j]? = w.heap[j]? := HOLD.out j hj.lt
      have hjT : TyAt W j 39 := by obtain ⟨cs, f, e⟩ := hj; exact ⟨cs, f, hjW.trans e⟩
      rw [Below.heap_setCell _ _ _ _ (show j ≠ q from hjT.ne ⟨_, _, hW.blk⟩ (by decide)), ← hjW]
      refine (h2.block j (by have := hjT.lt; simp [World.drew]; omega) fun e => ?_).trans (Below.heap_alloc _ _ _ hjT.lt)
      exact hjT.ne (hW.own (by rw [hsv]; exact e.symm)) (by decide) rfl
    have e1 : sgOf A k on = ⟨k, cy, on, x, y⟩ := by unfold sgOf; rw [hcy.out, hx.out, hy.out]
    rw [e1]
    rw [← hsv] at h2 h3
    exact hW.grown hnn.out h1 h2 h3
  clear HT HGO hW hcy hx hy hnn hsv hi hz0 hz1 hz2
  go_wp2_with fail
  go_region_law
    ((refine step_append_lies _ (by rfl) _ _ _ (by rfl) N 129 i0 _ 5 40 Tryz.underlying44 HI.out HZ0.out HZ1.out HZ2.out rfl (by omega) (.slice a n cap) n (sgL A.seen) (by rfl) ((HOWN.out.alloc _).drew)
        ⟨W.heap.size, 0, none⟩ 1 1 (sgC ⟨k, cy, on, x, y⟩) (by rfl) (by rfl) (World.news_of_block (cs := #[.int .i64 (k : Int), .int .i64 cy, .bool on, .int .i64 x, .int .i64 y]) (t := 129) (fr := (0, 0)) (heap_alloc_new W _)) (sgC_one _)
        (by omega) HK1.out HK2.out HK3.out (W.heap.size + 1) (by simp) ?_; intro g cap' w3 hown3 hgrow hat hlt3; have fz : w3.frozen? ⟨q, 11, none⟩ = false := (hgrow.frozen_far ⟨q, 11, none⟩ (by simp; omega) hpn).trans FRZ.out; have cz : w3.cell? ⟨q, 11, none⟩ = some (.slice a n cap) := (hgrow.cell_far ⟨q, 11, none⟩ (by simp; omega) hpn).trans CEL.out))
  all_goals
    go_wp2_with fail
    go_end0
    exact ⟨rfl, HEND.out _ w3 g cap' hown3 hgrow (hat.imp id (fun e => by omega))⟩
end Go.Proofs.YtaablbmgagiajabGreatDoor
namespace Go.Proofs.YtaablbmgagiajabGreatDoor
open Go.RowKit Go.Deep
structure SD where
  wh : Int
  k : Int
  n : Int
  x : Int
  y : Int
  F : FR
  ba : Option Addr
  bl : Nat
  bc : Nat
  bs : List Nat
def sdL (X : SD) : List Value := [.int .i64 X.wh, .int .i64 X.k, .int .i64 X.n, .int .i64 X.x, .int .i64 X.y] ++ (fCells X.F).toList ++ [.slice X.ba X.bl X.bc]
theorem sdL_len (X : SD) : (sdL X).length = 29 := by simp [sdL, fCells_size]
theorem sdL_bytes (X : SD) : (sdL X)[28]? = some (.slice X.ba X.bl X.bc) := by
  unfold sdL
  rw [List.getElem?_append_right (by simp [fCells_size])]
  simp [fCells_size]
def StepAt (w : World) (al : Option Addr) (ll : Nat) : Prop := ∀ i, i < ll → ∃ (b off : Nat) (X : SD), al = some ⟨b, off, none⟩ ∧ b < w.heap.size ∧ w.rangeAt b (off + i * 29) (sdL X) ∧ IsB w X.ba X.bl X.bc X.bs ∧ X.bl ≤ maxLen
theorem StepAt.below {w wx : World} {al : Option Addr} {ll : Nat} (h : StepAt w al ll) (hB : Below w.heap.size w wx) : StepAt wx al ll := fun i hi => by
  obtain ⟨b, off, X, h1, h2, h3, h4, h5⟩ := h i hi
  exact ⟨b, off, X, h1, Nat.lt_of_lt_of_le h2 hB.size, fun j v hv => (hB.cell (p := ⟨b, off + i * 29 + j, none⟩) h2).trans (h3 j v hv), h4.below hB, h5⟩
set_option maxHeartbeats 2000000 in
set_option maxRecDepth 20000 in
theorem fits_any (al : Option Addr) (ll cl : Nat) (w : World) (h : StepAt w al ll) (hm : ll ≤ maxLen) :
    Calls Tryz.prog 9 #[.slice al ll cl] w fun e w' => (∃ r : Bool, e = .returned (.bool r) ∧ (r = true → ll ≤ 120 ∧ ∀ i b off X, i < ll → al = some ⟨b, off, none⟩ → w.rangeAt b (off + i * 29) (sdL X) → X.bl ≤ 200)) ∧ w' = w := by
  unfold maxLen at hm
  by_cases hl : 120 < ll
  · clear h
    go_enter Tryz.func9, Tryz.ntmps9
    go_wp2
    go_ret
    exact ⟨⟨false, rfl, fun h => Bool.noConfusion h⟩, rfl⟩
  · have HS := hide h
    clear h
    go_enter Tryz.func9, Tryz.ntmps9
    go_wp2
    go_loopw [3] (fun i wr => ∃ k : Nat, k ≤ ll ∧ i = .int .i64 k ∧ wr = w ∧ ∀ i b off X, i < k → al = some ⟨b, off, none⟩ → w.rangeAt b (off + i * 29) (sdL X) → X.bl ≤ 200) (fun i _ => ll - (intOf i).toNat)
    case atStart => exact ⟨0, Nat.zero_le _, rfl, rfl, fun i b off X hi => absurd hi (Nat.not_lt_zero _)⟩
    case round =>
      obtain ⟨k, hk, rfl, rfl, hall⟩ := hrel
      have HA := hide hall
      clear hall
      by_cases hlt : k < ll
      · obtain ⟨b, off, X, rfl, hb, hr, hB, hX⟩ := HS.out k hlt
        have c28 : wr.cell? ⟨b, off + k * 29 + 28, none⟩ = some (.slice X.ba X.bl X.bc) := hr 28 _ (sdL_bytes X)
        have HR := hide hr
        unfold maxLen at hX
        obtain ⟨bl, hbl⟩ : ∃ bl, Hid (X.bl = bl) := ⟨_, hide rfl⟩
        rw [hbl.out] at c28 hX
        clear hr hB
        by_cases h2 : 200 < bl
        · go_wp2
          go_ret
          exact ⟨⟨false, rfl, fun h => Bool.noConfusion h⟩, rfl⟩
        · go_wp2
          go_roundw
          case rel =>
            refine ⟨k + 1, by omega, by go_num, by first | rfl | trivial, fun i b' off' X' hi he hr' => ?_⟩
            by_cases e : i < k
            · exact HA.out i b' off' X' e he hr'
            · have ei : i = k := by omega
              subst ei
              simp at he
              obtain ⟨rfl, rfl⟩ := he
              have c1 := hr' 28 _ (sdL_bytes X')
              rw [c28] at c1
              simp at c1
              omega
          case measure => simp [intOf]; omega
      · have hke : k = ll := by omega
        subst hke
        go_wp2
        go_ret
        exact ⟨⟨true, rfl, fun _ => ⟨by omega, HA.out⟩⟩, rfl⟩
end Go.Proofs.YtaablbmgagiajabGreatDoor
