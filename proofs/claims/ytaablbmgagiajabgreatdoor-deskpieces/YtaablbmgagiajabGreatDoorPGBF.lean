import Derived.Test.YtaablbmgagiajabGreatDoorPGAZ
namespace Go.Proofs.YtaablbmgagiajabGreatDoor
open Go.RowKit Go.Deep
def ByV (u : Value) (k : Nat) : Prop := ∃ a n cap, u = .slice (some a) n cap ∧ a.block = k ∧ 0 < n
def By (D : SC) (k : Nat) : Prop := ∃ u ∈ D.us, ByV u k
def cI (D : SC) (S : SY) (c : Int) : Prop := D.lost = wrap64 (c - (S.net.length : Int))
theorem wrap_put (c n : Int) : wrap64 (wrap64 (c - n) + 1) = wrap64 (c + 1 - n) := by
  unfold wrap64
  omega
structure GrC (n : Nat) (D D' : SC) : Prop where
  gr : Gr n D D'
  lies : ∀ k, By D' k → By D k ∨ n ≤ k
theorem GrC.refl (n : Nat) (D : SC) : GrC n D D := ⟨Gr.refl n D, fun _ x => .inl x⟩
theorem GrC.le {n m : Nat} {D D' : SC} (h : GrC n D D') (hm : m ≤ n) : GrC m D D' := ⟨h.gr.le hm, fun k hk => (h.lies k hk).imp id fun x => Nat.le_trans hm x⟩
theorem GrC.trans {n m : Nat} {D D1 D2 : SC} (h : GrC n D D1) (g : GrC m D1 D2) (hm : n ≤ m) : GrC n D D2 := by
  refine ⟨h.gr.trans g.gr hm, fun k hk => ?_⟩
  rcases g.lies k hk with x | x
  · exact h.lies k x
  · exact .inr (Nat.le_trans hm x)
def SyGoB (m : Nat) (w w' : World) (N : Nat) (D : SC) (L : RC) (win : Nat) (S' : SY) (c : Int) : Prop := ∃ D', D'.p = D.p ∧ SyIs w' N D' L win S' ∧ Mod w w' (Wr D) ∧ GrC m D D' ∧ cI D' S' c
def SyGoC (w w' : World) (N : Nat) (D : SC) (L : RC) (win : Nat) (S' : SY) (c : Int) : Prop := SyGoB w.heap.size w w' N D L win S' c
section
variable {w w' : World} {N win : Nat} {D : SC} {L : RC} {S : SY} {c : Int}
theorem SyGoC.go {S' : SY} (h : SyGoC w w' N D L win S' c) : SyGo w w' N D L win S' := by
  obtain ⟨D', e, h1, h2, h3, _⟩ := h
  exact ⟨D', e, h1, h2, h3.gr⟩
theorem SyIs.goesC (h : SyIs w N D L win S) (hc : cI D S c) : SyGoC w w N D L win S c := ⟨D, rfl, h, Mod.refl _ _, GrC.refl _ _, hc⟩
theorem SyGoB.of {m : Nat} {w0 : World} {S' : SY} (h : SyGoB m w w' N D L win S' c) (hB : Below w0.heap.size w0 w) (hm : m = w0.heap.size) : SyGoC w0 w' N D L win S' c := by
  subst hm
  obtain ⟨D', e, h1, h2, h3, h4⟩ := h
  exact ⟨D', e, h1, (Mod.ofBelow hB (Wr D)).then h2 (fun _ _ x => x), h3, h4⟩
theorem SyGoC.cast {c' : Int} {S' : SY} (h : SyGoC w w' N D L win S' c) (e : c = c') : SyGoC w w' N D L win S' c' := e ▸ h
theorem SyGoC.pre {w0 : World} {S' : SY} (h : SyGoC w w' N D L win S' c) (hB : Below w0.heap.size w0 w) : SyGoC w0 w' N D L win S' c := by
  obtain ⟨D', e, h1, h2, h3, h4⟩ := h
  exact ⟨D', e, h1, (Mod.ofBelow hB (Wr D)).then h2 (fun _ _ x => x), h3.le hB.size, h4⟩
theorem SyGoC.below {w2 : World} {S' : SY} (h : SyGoC w w' N D L win S' c) (hB : Below w'.heap.size w' w2) : SyGoC w w2 N D L win S' c := by
  obtain ⟨D', e, h1, h2, h3, h4⟩ := h
  exact ⟨D', e, h1.below hB, h2.below hB, h3, h4⟩
theorem SyGoC.then {w2 : World} {S2 : SY} {D1 : SC} (hp : D1.p = D.p) (hm : Mod w w' (Wr D)) (hg : GrC w.heap.size D D1) (h : SyGoC w' w2 N D1 L win S2 c) : SyGoC w w2 N D L win S2 c := by
  obtain ⟨D', e, h1, h2, h3, h4⟩ := h
  refine ⟨D', e.trans hp, h1, hm.then h2 (fun i hi hw => ?_), hg.trans h3 hm.size, h4⟩
  rcases hg.gr.wr i hw with x | x
  · exact x
  · omega
theorem SyGoC.stays (h : SyGoC w w' N D L win S c) {S0 : SY} (h0 : SyIs w N D L win S0) {k t : Nat} {cs : Array Value} {f : Nat × Nat} (hk : w.heap[k]? = some (.cells cs t f)) (ht : 90 ≠ t ∧ 134 ≠ t ∧ 160 ≠ t ∧ 148 ≠ t ∧ 49 ≠ t) : w'.heap[k]? = some (.cells cs t f) := h.go.stays h0 hk ht
theorem SyIs.putVC (h : SyIs w N D L win S) {V : VS} {tv' : Value} (hm : Mod w w' (VB D.vp D.tv)) (hV : VIs w' N D.vp win tv' V) (hc : cI D S c) (hmv : Moved w D.tv tv') : SyGoC w w' N D L win ⟨S.rp, V, S.net⟩ c := by
  have hT : ∀ j, VB D.vp D.tv j → Wr D j := fun j hj => .inr (.inr (.inr hj))
  obtain ⟨h1, ⟨h2, h3⟩, h4, h5, h6⟩ := h.part hm hT
  have hw : ∀ k, Wr ⟨D.p, D.g0, D.c0, D.rp, D.C, D.vp, tv', D.nv, D.us, D.lost⟩ k → Wr D k ∨ w.heap.size ≤ k := fun k hk => by
    rcases hk with x | x | x | x | x
    · exact .inl (.inl x)
    · exact .inl (.inr (.inl x))
    · exact .inl (.inr (.inr (.inl x)))
    · exact .inl (.inr (.inr (.inr (.inl x))))
    · rcases hmv k x with y | y
      · exact .inl (.inr (.inr (.inr (.inr y))))
      · exact .inr y
  refine ⟨⟨D.p, D.g0, D.c0, D.rp, D.C, D.vp, tv', D.nv, D.us, D.lost⟩, rfl, ⟨h1 fun e => ?_, h2, h3, h.cap0, fun k hk => h4 k hk fun e => ?_, h.ln, h.ne, hV, h6 fun g hg e => ?_, fun x y hx hy e => ?_, fun x hx => ?_, fun y hy => h.sbase y hy⟩, hm.mono fun i _ hi => hT i hi, ⟨⟨hw, fun _ x => .inl x⟩, fun _ x => .inl x⟩, hc⟩
  · rcases e with e | e
    · exact h.tyP.ne h.tyV (by decide) e
    · exact h.tyP.ne (h.tyT e) (by decide) rfl
  · rcases e with e | e
    · exact (h.tyR hk).ne h.tyV (by decide) e
    · exact (h.tyR hk).ne (h.tyT e) (by decide) rfl
  · rcases e with e | e
    · exact (h.tyN hg).ne h.tyV (by decide) e
    · exact (h.tyN hg).ne (h.tyT e) (by decide) rfl
  · rcases hw x hx with z | z
    · exact h.sep x y z hy e
    · have := h.staLt (k := y) hy
      omega
  · rcases hx with x' | x' | x' | x' | x'
    · exact h.base x (.inl x')
    · exact h.base x (.inr (.inl x'))
    · exact h.base x (.inr (.inr (.inl x')))
    · exact h.base x (.inr (.inr (.inr (.inl x'))))
    · exact (hV.row.own x').1
theorem SyIs.putNC (h : SyIs w N D L win S) {l : List Pk} {nv' : Value} {us' : List Value} {lost' : Int} (hm : Mod w w' (NB D)) (hb : w'.heap[D.p]? = some (.cells (syCells ⟨D.p, D.g0, D.c0, D.rp, D.C, D.vp, D.tv, nv', us', lost'⟩ L) 90 (0, 0)))
    (hN : NetIs w' N nv' l us') (m : Nat) (hmw : m ≤ w.heap.size) (hby : ∀ k, (∃ u ∈ us', ByV u k) → By D k ∨ m ≤ k) {c : Int} (hc : lost' = wrap64 (c - (l.length : Int))) (hmv : ∀ g, nv'.ownBlock = some g → D.nv.ownBlock = some g ∨ w.heap.size ≤ g) : SyGoB m w w' N D L win ⟨S.rp, S.v, l⟩ c := by
  have hT : ∀ j, NB D j → Wr D j := fun j hj => hj.imp id .inl
  obtain ⟨_, ⟨h2, h3⟩, h4, h5, _⟩ := h.part hm hT
  have hw : ∀ k, Wr ⟨D.p, D.g0, D.c0, D.rp, D.C, D.vp, D.tv, nv', us', lost'⟩ k → Wr D k ∨ w.heap.size ≤ k := fun k hk => by
    rcases hk with x | x | x | x | x
    · exact .inl (.inl x)
    · rcases hmv k x with y | y
      · exact .inl (.inr (.inl y))
      · exact .inr y
    · exact .inl (.inr (.inr (.inl x)))
    · exact .inl (.inr (.inr (.inr (.inl x))))
    · exact .inl (.inr (.inr (.inr (.inr x))))
  refine ⟨⟨D.p, D.g0, D.c0, D.rp, D.C, D.vp, D.tv, nv', us', lost'⟩, rfl, ⟨hb, h2, h3, h.cap0, fun k hk => h4 k hk fun e => ?_, h.ln, h.ne, h5 fun k hk e => ?_, hN, fun x y hx hy e => ?_, fun x hx => ?_, fun y hy => h.sbase y hy⟩, hm.mono fun i _ hi => hT i hi, ⟨Gr.le ⟨hw, fun _ x => .inl x⟩ hmw, hby⟩, hc⟩
  · rcases e with e | e
    · exact (h.tyR hk).ne h.tyP (by decide) e
    · exact (h.tyR hk).ne (h.tyN e) (by decide) rfl
  · rcases e with e | e
    · rcases hk with hk | hk
      · exact h.tyV.ne h.tyP (by decide) (hk.symm.trans e)
      · exact (h.tyT hk).ne h.tyP (by decide) e
    · rcases hk with hk | hk
      · exact h.tyV.ne (h.tyN e) (by decide) hk.symm
      · exact (h.tyT hk).ne (h.tyN e) (by decide) rfl
  · rcases hw x hx with z | z
    · exact h.sep x y z hy e
    · have := h.staLt (k := y) hy
      omega
  · rcases hx with x' | x' | x' | x' | x'
    · exact h.base x (.inl x')
    · have := hN.row.2
      rcases this with ⟨e, _⟩ | ⟨g, cap, cur, e, h1, _⟩
      · have e' : nv' = .slice none 0 0 := e
        rw [show (⟨D.p, D.g0, D.c0, D.rp, D.C, D.vp, D.tv, nv', us', lost'⟩ : SC).nv = nv' from rfl, e'] at x'
        simp [Value.ownBlock] at x'
      · rw [show (⟨D.p, D.g0, D.c0, D.rp, D.C, D.vp, D.tv, nv', us', lost'⟩ : SC).nv = nv' from rfl, e] at x'
        simp only [Value.ownBlock, Option.some.injEq] at x'
        omega
    · exact h.base x (.inr (.inr (.inl x')))
    · exact h.base x (.inr (.inr (.inr (.inl x'))))
    · exact h.base x (.inr (.inr (.inr (.inr x'))))
end
section
variable {w w' : World} {N win : Nat} {D : SC} {L : RC} {S : SY} {c : Int}
theorem SyGoB.below' {m : Nat} {w2 : World} {S' : SY} (h : SyGoB m w w' N D L win S' c) (hB : Below w'.heap.size w' w2) : SyGoB m w w2 N D L win S' c := by
  obtain ⟨D', e, h1, h2, h3, h4⟩ := h
  exact ⟨D', e, h1.below hB, h2.below hB, h3, h4⟩
theorem SyIs.lost8C (h : SyIs w N D L win S) (m : Nat) (hmw : m ≤ w.heap.size) (x c : Int) (hx : x = wrap64 (c - (S.net.length : Int))) : SyGoB m w (w.setCell ⟨D.p, 8, none⟩ (.int .i64 x)) N D L win S c := by
  have hm : Mod w (w.setCell ⟨D.p, 8, none⟩ (.int .i64 x)) (NB D) := (Mod.refl w _).set _ _ (fun _ => .inl rfl)
  have hm1 : Mod w (w.setCell ⟨D.p, 8, none⟩ (.int .i64 x)) (· = D.p) := (Mod.refl w _).set _ _ (fun _ => rfl)
  exact h.putNC (m := m) (hmw := hmw) (lost' := x) hm ((blk_set h.blk 8 _).trans rfl) (h.net.mod hm1 (fun g hg => h.ne7 g hg) (fun k hk hb => by subst hk; exact h.wrByte (.inl rfl) hb)) (hby := fun _ hk => .inl hk) (hc := hx) (fun _ hg => .inl hg)
end
set_option maxHeartbeats 2000000 in
set_option maxRecDepth 20000 in
theorem syputC (N : Nat) (D : SC) (L : RC) (win : Nat) (S : SY) (w : World) (q : Pk) (u : Value) (h : SyIs w N D L win S) (hu : BytesIs w u q.b) (hN : N ≤ w.heap.size) (hle : S.net.length ≤ 120) (m : Nat) (hmw : m ≤ w.heap.size) (hub : ∀ k, ByV u k → By D k ∨ m ≤ k) (c : Int) (hc : cI D S c) :
    Calls Tryz.prog 77 #[.pointer (some ⟨D.p, 0, none⟩), .agg #[.int .i64 (q.src : Int), .int .i64 (q.dst : Int), u]] w fun e w' => e = .returned (.tuple #[]) ∧ SyGoB m w w' N D L win ⟨S.rp, S.v, putP q S.net⟩ (c + 1) := by
  obtain ⟨W, hW⟩ : ∃ W, Hid (w.alloc (.cells #[.int .i64 (q.src : Int), .int .i64 (q.dst : Int), u] 134) = W) := ⟨_, hide rfl⟩
  have hBW : Below w.heap.size w W := by rw [← hW.out]; exact (Below.refl _ _).alloc (Nat.le_refl _) _
  have hbx : W.heap[w.heap.size]? = some (.cells #[.int .i64 (q.src : Int), .int .i64 (q.dst : Int), u] 134 (0, 0)) := by rw [← hW.out]; exact blk_new _ _
  have hS := h.below hBW
  have hu' := hu.below hBW
  obtain ⟨a, cap, hnv⟩ := h.net.shape
  have HUE : Hid (u.oneCell' = true) := by obtain ⟨_, ua, uc, e, _⟩ := hu; rw [Hid, e]; rfl
  have c7 : w.cell? ⟨D.p, 7, none⟩ = some (.slice a S.net.length cap) := (h.at 7).trans (by show some D.nv = _; rw [hnv])
  have c8 : w.cell? ⟨D.p, 8, none⟩ = some (.int .i64 D.lost) := (h.at 8).trans rfl
  have f8 := h.free 8
  have hpl := h.lt
  by_cases hfull : 120 ≤ S.net.length
  · have hge : (120 : Int) ≤ (S.net.length : Int) := by omega
    have HG : Hid (∀ o, SyGoB m w ((w.setCell ⟨D.p, 8, none⟩ (.int .i64 (wrap64 (D.lost + 1)))).alloc o) N D L win ⟨S.rp, S.v, putP q S.net⟩ (c + 1)) := hide fun o => by
      rw [show putP q S.net = S.net from if_pos hfull]
      exact (h.lost8C m hmw _ _ (by rw [show D.lost = _ from hc]; exact wrap_put _ _)).below' ((Below.refl _ _).alloc (Nat.le_refl _) _)
    clear h hu hbx hS hu' hBW hnv hW
    go_enter Tryz.func77, Tryz.ntmps77
    go_wp2
    exact bodyPost_ret (results_none rfl _ _ _) rfl ⟨rfl, HG.out _⟩
  · have hlt : ¬ (120 : Int) ≤ (S.net.length : Int) := by omega
    have x0 : W.cell? ⟨w.heap.size, 0, none⟩ = some (.int .i64 (q.src : Int)) := (blk_cell hbx 0).trans rfl
    have x1 : W.cell? ⟨w.heap.size, 1, none⟩ = some (.int .i64 (q.dst : Int)) := (blk_cell hbx 1).trans rfl
    have x2 : W.cell? ⟨w.heap.size, 2, none⟩ = some u := (blk_cell hbx 2).trans rfl
    obtain ⟨i0, hi, hz0, hz1, hz2⟩ := info_parts infoPacket
    have HI := hide hi
    have HZ0 := hide hz0
    have HZ1 := hide hz1
    have HZ2 := hide hz2
    have hpn : some D.p ≠ (Value.slice a S.net.length cap).ownBlock := fun e => hS.ne7 D.p (by rw [hnv]; exact e.symm) rfl
    have hs1 : w.heap.size < W.heap.size := blk_lt hbx
    have hplW := hS.lt
    have d7 : W.cell? ⟨D.p, 7, none⟩ = some (.slice a S.net.length cap) := (hS.at 7).trans (by show some D.nv = _; rw [hnv])
    have FRZ : Hid ((W.alloc (.cells #[.int .i64 (q.src : Int), .int .i64 (q.dst : Int), u] 134)).drew.frozen? ⟨D.p, 7, none⟩ = false) := hide ((World.frozen?_of_block (w := W) (Below.heap_alloc _ _ _ hplW)).trans (hS.free 7))
    have CEL : Hid ((W.alloc (.cells #[.int .i64 (q.src : Int), .int .i64 (q.dst : Int), u] 134)).drew.cell? ⟨D.p, 7, none⟩ = some (.slice a S.net.length cap)) := hide ((World.cell?_of_block (w := W) (Below.heap_alloc _ _ _ hplW)).trans d7)
    have HNET := hide hS.net
    have HS := hide hS
    have HU := hide hu'
    have HB := hide hBW
    obtain ⟨n, hnn⟩ : ∃ n, Hid (S.net.length = n) := ⟨_, hide rfl⟩
    rw [hnn.out] at hle hfull hlt c7 hpn CEL hnv d7
    have HNV := hide hnv
    have HK1 : Hid (n + 1 ≤ maxLen) := by rw [Hid]; unfold maxLen; omega
    have HK2 : Hid ((n + 1) * 40 ≤ 140737488355328) := by rw [Hid]; omega
    have HK3 : Hid (N ≤ (W.alloc (.cells #[.int .i64 (q.src : Int), .int .i64 (q.dst : Int), u] 134)).drew.heap.size) := by rw [Hid]; simp; omega
    have HOWN : Hid (W.ownsRow N 134 3 (.slice a n cap) n (pkL S.net D.us)) := by
      have := HNET.out.row
      rw [hnv, hnn.out] at this
      exact this
    have HNEW : Hid (∀ v ∈ pkC q u, v.oneCell' = true) := by
      rw [Hid]
      intro v hv
      simp [pkC] at hv
      rcases hv with rfl | rfl | rfl
      · rfl
      · rfl
      · exact HUE.out
    have HPUT : Hid (putP q S.net = S.net ++ [q]) := by rw [Hid]; exact if_neg (by rw [hnn.out]; exact hfull)
    have HEND : Hid (∀ (o : Obj) (w3 : World) (g cap' : Nat), w3.ownsRow N 134 3 (.slice (some ⟨g, 0, none⟩) (n + 1) cap') (n + 1) (pkL S.net D.us ++ pkC q u) → (W.alloc o).drew.grownBy w3 (Value.slice a n cap).ownBlock → ((Value.slice a n cap).ownBlock = some g ∨ w.heap.size ≤ g) →
        SyGoB m w (w3.setCell ⟨D.p, 7, none⟩ (.slice (some ⟨g, 0, none⟩) (n + 1) cap')) N D L win ⟨S.rp, S.v, S.net ++ [q]⟩ (c + 1)) := hide fun o w3 g cap' ho hgr hat => by
      have hBo : Below W.heap.size W (W.alloc o).drew := ((Below.refl _ _).alloc (Nat.le_refl _) _).drew
      have hSo := HS.out.below hBo
      have hnvo : D.nv = .slice a n cap := HNV.out
      have hmg : Mod (W.alloc o).drew w3 (fun k => D.nv.ownBlock = some k) := by rw [hnvo]; exact (Mod.refl _ _).grown hgr (fun k _ e => e)
      have hN3 : NetIs w3 N (.slice (some ⟨g, 0, none⟩) (n + 1) cap') (S.net ++ [q]) (D.us ++ [u]) := by
        have hlen := hnn.out
        subst hlen
        exact hSo.net.grown (HU.out.below hBo) ho (by rw [hnvo]; exact hgr)
      have hb3 : w3.heap[D.p]? = some (.cells (syCells D L) 90 (0, 0)) := (hmg.block _ hSo.lt (fun e => hSo.ne7 _ e rfl)).trans hSo.blk
      have hg3 : ∃ cur, w3.heap[g]? = some (.cells cur 134 (0, 0)) := hN3.own rfl
      have hm4 : Mod w3 (w3.setCell ⟨D.p, 7, none⟩ (.slice (some ⟨g, 0, none⟩) (n + 1) cap')) (· = D.p) := (Mod.refl _ _).set _ _ (fun _ => rfl)
      have hN4 : NetIs (w3.setCell ⟨D.p, 7, none⟩ (.slice (some ⟨g, 0, none⟩) (n + 1) cap')) N (.slice (some ⟨g, 0, none⟩) (n + 1) cap') (S.net ++ [q]) (D.us ++ [u]) := by
        refine hN3.mod hm4 (fun x hx e => ?_) (fun k hk hb => ?_)
        · obtain ⟨cur, hc⟩ := hg3
          have : g = x := by simpa [Value.ownBlock] using hx
          subst this
          exact TyAt.ne ⟨_, _, hc⟩ ⟨_, _, hb3⟩ (by decide) e
        · subst hk
          exact TyAt.ne ⟨_, _, hb3⟩ hb (by decide) rfl
      refine h.putNC (m := m) (hmw := hmw) (nv' := .slice (some ⟨g, 0, none⟩) (n + 1) cap') (us' := D.us ++ [u]) (lost' := D.lost) ?_ ((blk_set hb3 7 _).trans rfl) hN4 (hby := fun k hk => ?_) (hc := ?_) (fun x hx => ?_)
      · have m1 : Mod w (W.alloc o).drew (NB D) := (Mod.ofBelow HB.out _).below hBo
        have m2 : Mod w w3 (NB D) := m1.then hmg (fun i _ e => .inr e)
        exact m2.set _ _ (fun _ => .inl rfl)
      · obtain ⟨u', hu', hv'⟩ := hk
        rcases List.mem_append.1 hu' with x | x
        · exact .inl ⟨u', x, hv'⟩
        · rw [List.mem_singleton.1 x] at hv'; exact hub k hv'
      · rw [show D.lost = _ from hc, List.length_append]
        congr 1
        simp
        omega
      · have e : g = x := by simpa [Value.ownBlock] using hx
        rw [hnvo, ← e]; exact hat
    clear h hu hbx hS hu' hBW hi hz0 hz1 hz2 hnv d7 f8 c8
    go_enter Tryz.func77, Tryz.ntmps77
    go_wp2_with fail
    rw [show w.alloc (.cells #[.int .i64 (q.src : Int), .int .i64 (q.dst : Int), u] 134) = W from hW.out]
    have d7 : W.cell? ⟨D.p, 7, none⟩ = some (.slice a n cap) := by rw [← hW.out]; exact (World.cell?_of_block (w := w) (Below.heap_alloc _ _ _ hpl)).trans c7
    clear c7 hW
    go_region_law
      ((refine step_append_lies _ (by rfl) _ _ _ (by rfl) N 134 i0 _ 3 40 Tryz.underlying88 HI.out HZ0.out HZ1.out HZ2.out rfl (by omega) (.slice a n cap) n (pkL S.net D.us) (by rfl) ((HOWN.out.alloc _).drew)
          ⟨W.heap.size, 0, none⟩ 1 1 (pkC q u) (by rfl) (by rfl) (World.news_of_block (cs := #[.int .i64 (q.src : Int), .int .i64 (q.dst : Int), u]) (t := 134) (fr := (0, 0)) (heap_alloc_new W _)) HNEW.out
          (by omega) HK1.out HK2.out HK3.out (W.heap.size + 1) (by simp) ?_; intro g cap' w3 hown3 hgrow hat hlt3; have fz : w3.frozen? ⟨D.p, 7, none⟩ = false := (hgrow.frozen_far ⟨D.p, 7, none⟩ (by simp; omega) hpn).trans FRZ.out; have cz : w3.cell? ⟨D.p, 7, none⟩ = some (.slice a n cap) := (hgrow.cell_far ⟨D.p, 7, none⟩ (by simp; omega) hpn).trans CEL.out))
    all_goals
      go_wp2_with fail
      go_end0
      rw [HPUT.out]
      exact ⟨rfl, HEND.out _ w3 g cap' hown3 hgrow (hat.imp id (fun e => by omega))⟩
def othC (src : Nat) : Nat → Int
  | 0 => 0
  | k + 1 => if k = src then othC src k else othC src k + 1
theorem encC (F : FR) (w : World) :
    Calls Tryz.prog 39 #[.agg (fCells F)] w fun e w' => (∃ v ev, e = .returned (.tuple #[v, ev]) ∧ BytesIs w' v (bytesF F) ∧ ∀ k, ByV v k → w.heap.size ≤ k) ∧ Below w.heap.size w w' := by
  cases hm : mayB F
  · refine (encode_bad F w hm).mono ?_
    rintro e w1 ⟨rfl, hB⟩
    refine ⟨⟨_, _, rfl, ?_, fun k hk => ?_⟩, hB⟩
    · unfold bytesF
      rw [hm, if_neg (by decide)]
      exact bytes_nil _ _ _
    · obtain ⟨a, n, cap, e, _⟩ := hk
      simp at e
  · refine (encode_ok F w hm).mono ?_
    rintro e w1 ⟨⟨v, rfl, hv⟩, hB⟩
    refine ⟨⟨_, _, rfl, ?_, fun k hk => ?_⟩, hB⟩
    · unfold bytesF
      rw [hm, if_pos rfl]
      exact bytes_own (withSum_lt (bytesN_lt _)) hv
    · obtain ⟨a, n, cap, e, rfl, _⟩ := hk
      rcases hv.2 with ⟨e', _⟩ | ⟨g, cap', cur, e', h1, _⟩
      · rw [e] at e'; simp at e'
      · rw [e] at e'
        simp only [Value.slice.injEq, Option.some.injEq] at e'
        rw [e'.1]
        exact h1
set_option maxHeartbeats 1000000 in
set_option maxRecDepth 20000 in
theorem removeC (N : Nat) (D : SC) (L : RC) (win : Nat) (S : SY) (w : World) (i : Nat) (h : SyIs w N D L win S) (hi : i < S.net.length) (hle : S.net.length ≤ 120) (c : Int) (hc : cI D S c) :
    Calls Tryz.prog 76 #[.pointer (some ⟨D.p, 0, none⟩), .int .i64 (i : Int)] w fun e w' => e = .returned (.tuple #[]) ∧ SyGoC w w' N D L win (outSy i S) (c - 1) := by
  obtain ⟨g, cap, hnv⟩ := h.netHas (by omega)
  have hdel := delete_any N g cap S.net D.us i w (by have := h.net; rw [hnv] at this; exact this) hi hle
  have c7 : w.cell? ⟨D.p, 7, none⟩ = some (.slice (some ⟨g, 0, none⟩) S.net.length cap) := (h.at 7).trans (by show some D.nv = _; rw [hnv])
  have hgp : g ≠ D.p := h.ne7 g (by rw [hnv]; rfl)
  have hwr : IntKind.i64.wrap ((i : Int) + 1) = (i : Int) + 1 := by rw [IntKind.wrap_i64]; omega
  have hcall : Calls Tryz.prog 128 #[.slice (some ⟨g, 0, none⟩) S.net.length cap, .int .i64 (i : Int), .int .i64 ((i : Int) + 1)] w fun e w1 =>
      e = .returned (.slice (some ⟨g, 0, none⟩) (S.net.length - 1) cap) ∧ (w1.cell? ⟨D.p, 7, none⟩ = some (.slice (some ⟨g, 0, none⟩) S.net.length cap) ∧ w1.frozen? ⟨D.p, 7, none⟩ = false) ∧ Hid (SyGoC w (w1.setCell ⟨D.p, 7, none⟩ (.slice (some ⟨g, 0, none⟩) (S.net.length - 1) cap)) N D L win (outSy i S) (c - 1)) := by
    refine hdel.mono ?_
    rintro e w1 ⟨rfl, hN1, hm1⟩
    have hb1 : w1.heap[D.p]? = some (.cells (syCells D L) 90 (0, 0)) := (hm1.block _ h.lt (fun e => hgp e.symm)).trans h.blk
    refine ⟨rfl, ⟨(World.cell?_of_block (w := w) (hm1.block _ h.lt (fun e => hgp e.symm))).trans c7, blk_free hb1 7⟩, hide ?_⟩
    have hg1 : ∃ cur, w1.heap[g]? = some (.cells cur 134 (0, 0)) := hN1.own rfl
    have hm4 : Mod w1 (w1.setCell ⟨D.p, 7, none⟩ (.slice (some ⟨g, 0, none⟩) (S.net.length - 1) cap)) (· = D.p) := (Mod.refl _ _).set _ _ (fun _ => rfl)
    have hN4 : NetIs (w1.setCell ⟨D.p, 7, none⟩ (.slice (some ⟨g, 0, none⟩) (S.net.length - 1) cap)) N (.slice (some ⟨g, 0, none⟩) (S.net.length - 1) cap) (S.net.eraseIdx i) (D.us.eraseIdx i) := by
      refine hN1.mod hm4 (fun x hx e => ?_) (fun k hk hb => ?_)
      · have : g = x := by simpa [Value.ownBlock] using hx
        exact hgp (this.trans e)
      · subst hk
        exact TyAt.ne ⟨_, _, hb1⟩ hb (by decide) rfl
    refine h.putNC (m := w.heap.size) (hmw := Nat.le_refl _) (nv' := .slice (some ⟨g, 0, none⟩) (S.net.length - 1) cap) (us' := D.us.eraseIdx i) (lost' := D.lost) ?_ ((blk_set hb1 7 _).trans rfl) hN4 (hby := fun k hk => ?_) (hc := ?_) (fun x hx => ?_)
    · have m2 : Mod w w1 (NB D) := hm1.mono fun k _ e => .inr (by rw [hnv, e]; rfl)
      exact m2.set _ _ (fun _ => .inl rfl)
    · obtain ⟨u', hu', hv'⟩ := hk
      exact .inl ⟨u', List.mem_of_mem_eraseIdx hu', hv'⟩
    · rw [show D.lost = _ from hc, List.length_eraseIdx_of_lt hi]
      congr 1
      omega
    · left; rw [hnv]; exact hx
  have HC := hide hcall
  have hpl := h.lt
  clear hcall hdel h
  go_enter Tryz.func76, Tryz.ntmps76
  go_wp2_with (go_at_call 128; refine HC.out.mono ?_; rintro e w1 ⟨rfl, ⟨z0, z1⟩, HM⟩)
  go_end0
  exact ⟨rfl, HM.out⟩
set_option maxHeartbeats 1000000 in
set_option maxRecDepth 20000 in
theorem sendC (N : Nat) (D : SC) (L : RC) (win : Nat) (S : SY) (w : World) (F : FR) (src dst : Nat) (h : SyIs w N D L win S) (hF : F 1 = (src : Int)) (hN : N ≤ w.heap.size) (hle : S.net.length ≤ 120) (c : Int) (hc : cI D S c) :
    Calls Tryz.prog 88 #[.pointer (some ⟨D.p, 0, none⟩), .agg (fCells F), .int .i64 (dst : Int)] w fun e w' => e = .returned (.tuple #[]) ∧ SyGoC w w' N D L win ⟨S.rp, S.v, sendN src F dst S.net⟩ (c + 1) := by
  have hB0 : Below w.heap.size w (w.alloc (.cells (fCells F) 36)) := (Below.refl _ _).alloc (Nat.le_refl _) _
  have hbx : FIs (w.alloc (.cells (fCells F) 36)) w.heap.size 36 F := blk_new _ _
  have hcall : Calls Tryz.prog 39 #[.agg (fCells F)] (w.alloc (.cells (fCells F) 36)) fun e w1 =>
      ∃ va vn vc ev, e = .returned (.tuple #[.slice va vn vc, ev]) ∧ w1.cell? ⟨w.heap.size, 1, none⟩ = some (.int .i64 (src : Int)) ∧
        Hid (Calls Tryz.prog 77 #[.pointer (some ⟨D.p, 0, none⟩), .agg #[.int .i64 (src : Int), .int .i64 (dst : Int), .slice va vn vc]] w1 fun e w' => e = .returned (.tuple #[]) ∧ SyGoC w w' N D L win ⟨S.rp, S.v, sendN src F dst S.net⟩ (c + 1)) := by
    refine (encC F _).mono ?_
    rintro e w1 ⟨⟨v, ev, rfl, hv, hfr⟩, hB1⟩
    have hbx1 := hbx.below (by simp) hB1
    have hBw : Below w.heap.size w w1 := hB0.trans (hB1.mono (by simp))
    obtain ⟨va, vc, hve⟩ : ∃ va vc, v = .slice va (bytesF F).length vc := by obtain ⟨_, a, c, e, _⟩ := hv; exact ⟨a, c, e⟩
    subst hve
    refine ⟨va, _, vc, ev, rfl, by rw [hbx1.at (by omega), hF], hide ?_⟩
    refine (syputC N D L win S w1 ⟨src, dst, bytesF F⟩ _ (h.below hBw) hv (Nat.le_trans hN hBw.size) hle w.heap.size hBw.size (fun k hk => .inr (Nat.le_trans (by simp) (hfr k hk))) c hc).mono ?_
    rintro e w2 ⟨rfl, hg⟩
    exact ⟨rfl, hg.of hBw rfl⟩
  have HC := hide hcall
  have HBX := hide hbx
  clear hcall hbx hB0 h hF
  go_enter Tryz.func88, Tryz.ntmps88
  go_wp2_with (refine wpList_load_f rfl _ rfl w.heap.size rfl F HBX.out ?_)
  refine HC.out.mono ?_
  rintro e w1 ⟨va, vn, vc, ev, rfl, z1, HP⟩
  clear HC HBX
  go_wp2_with fail
  refine HP.out.mono ?_
  rintro e w2 ⟨rfl, hg⟩
  go_wp2
  go_end0
  exact ⟨rfl, hg⟩
set_option maxHeartbeats 2000000 in
set_option maxRecDepth 20000 in
theorem sendOthersC (N : Nat) (D : SC) (L : RC) (win : Nat) (S : SY) (w : World) (F : FR) (src : Nat) (h : SyIs w N D L win S) (hF : F 1 = (src : Int)) (hN : N ≤ w.heap.size) (hle : S.net.length ≤ 120) (c : Int) (hc : cI D S c) :
    Calls Tryz.prog 72 #[.pointer (some ⟨D.p, 0, none⟩), .agg (fCells F)] w fun e w' => e = .returned (.tuple #[]) ∧ SyGoC w w' N D L win ⟨S.rp, S.v, othersN src F S.net 3⟩ (c + othC src 3) := by
  obtain ⟨W0, hW0⟩ : ∃ W, Hid (w.alloc (.cells (fCells F) 36) = W) := ⟨_, hide rfl⟩
  have hB0 : Below w.heap.size w W0 := by rw [← hW0.out]; exact (Below.refl _ _).alloc (Nat.le_refl _) _
  have hbx : FIs W0 w.heap.size 36 F := by rw [← hW0.out]; exact blk_new _ _
  have hs0 : W0.heap.size = w.heap.size + 1 := by rw [← hW0.out]; simp
  have z1 : (w.alloc (.cells (fCells F) 36)).cell? ⟨w.heap.size, 1, none⟩ = some (.int .i64 (src : Int)) := by rw [hW0.out, hbx.at (by omega), hF]
  have hrep := isNot_any (src : Int) W0
  have HI := hide hrep
  have HZ := hide z1
  have H := hide h
  have hc0 := hide hc
  have HB0 := hide hB0
  have HBX := hide hbx
  clear h hB0 hbx hrep
  go_enter Tryz.func72, Tryz.ntmps72
  go_wp2_with fail
  rw [show w.alloc (.cells (fCells F) 36) = W0 from hW0.out]
  refine HI.out.mono ?_
  rintro e W1 ⟨rfl, hW1⟩
  rw [hs0]
  have hB1 : Below W0.heap.size W0 W1 := by rw [hW1]; exact (Below.refl _ _).alloc (Nat.le_refl _) _
  have hcap : W1.heap[w.heap.size + 1]? = some (.cells #[.int .i64 (src : Int)] 3 (0, 0)) := by rw [hW1, ← hs0]; exact blk_new _ _
  have hBw : Below w.heap.size w W1 := HB0.out.trans (hB1.mono (by omega))
  have HST : Hid (SyGoC w W1 N D L win ⟨S.rp, S.v, othersN src F S.net 0⟩ (c + othC src 0) ∧ FIs W1 w.heap.size 36 F ∧ W1.heap[w.heap.size + 1]? = some (.cells #[.int .i64 (src : Int)] 3 (0, 0))) :=
    hide ⟨(H.out.goesC hc0.out).below hBw |>.cast (by simp [othC]), HBX.out.below (by omega) hB1, hcap⟩
  clear hW1 hB1 hcap hBw HI HZ z1 HBX HB0 hW0
  go_wp2_with fail
  go_loopw [9] (fun j wr => ∃ k : Nat, k ≤ 3 ∧ j = .int .i64 k ∧ SyGoC w wr N D L win ⟨S.rp, S.v, othersN src F S.net k⟩ (c + othC src k) ∧ FIs wr w.heap.size 36 F ∧ wr.heap[w.heap.size + 1]? = some (.cells #[.int .i64 (src : Int)] 3 (0, 0))) (fun j _ => 3 - (intOf j).toNat)
  case atStart => exact ⟨0, by omega, rfl, HST.out⟩
  case round =>
    obtain ⟨k, hk, rfl, hgo, hfr, hcp⟩ := hrel
    clear HST
    by_cases hk3 : k < 3
    · have hk' : (k : Int) < 3 := by omega
      have hcl := isNot1_any (k : Int) (src : Int) (w.heap.size + 1) wr ((blk_cell hcp 0).trans rfl)
      have HCL := hide hcl
      obtain ⟨D1, hp1, hS1, hm1, hg1, hc1⟩ := hgo
      have hsz := hm1.size
      by_cases hks : k = src
      · have e1 : ((k : Int) != (src : Int)) = false := by simp; omega
        rw [e1] at HCL
        have HR : Hid (SyGoC w wr N D L win ⟨S.rp, S.v, othersN src F S.net (k + 1)⟩ (c + othC src (k + 1)) ∧ FIs wr w.heap.size 36 F ∧ wr.heap[w.heap.size + 1]? = some (.cells #[.int .i64 (src : Int)] 3 (0, 0))) := hide ⟨by rw [show othersN src F S.net (k + 1) = othersN src F S.net k from if_pos hks, show othC src (k + 1) = othC src k from if_pos hks]; exact ⟨D1, hp1, hS1, hm1, hg1, hc1⟩, hfr, hcp⟩
        clear hS1 hm1 hg1 hc1 hfr hcp hcl hks e1
        go_wp2_with fail
        refine HCL.out.mono ?_
        rintro e wz ⟨rfl, rfl⟩
        go_wp2
        go_roundw
        case rel => exact ⟨k + 1, by omega, by go_num, HR.out⟩
        case measure => simp [intOf]; omega
      · have e1 : ((k : Int) != (src : Int)) = true := by simp; omega
        rw [e1] at HCL
        have hsnd := sendC N D1 L win ⟨S.rp, S.v, othersN src F S.net k⟩ wr F src k hS1 hF (Nat.le_trans hN hsz) (othersN_len hle k) _ hc1
        rw [hp1] at hsnd
        have HSN : Hid (Calls Tryz.prog 88 #[.pointer (some ⟨D.p, 0, none⟩), .agg (fCells F), .int .i64 (k : Int)] wr fun e w' => e = .returned (.tuple #[]) ∧ Hid (SyGoC w w' N D L win ⟨S.rp, S.v, othersN src F S.net (k + 1)⟩ (c + othC src (k + 1)) ∧ FIs w' w.heap.size 36 F ∧ w'.heap[w.heap.size + 1]? = some (.cells #[.int .i64 (src : Int)] 3 (0, 0)))) := hide (by
          refine hsnd.mono ?_
          rintro e w2 ⟨rfl, hg2⟩
          refine ⟨rfl, hide ⟨?_, hg2.stays hS1 hfr (by decide), hg2.stays hS1 hcp (by decide)⟩⟩
          have e2 : othersN src F S.net (k + 1) = sendN src F k (othersN src F S.net k) := if_neg hks
          rw [e2]
          exact (SyGoC.then hp1 hm1 hg1 hg2).cast (by rw [show othC src (k + 1) = othC src k + 1 from if_neg hks]; omega))
        have HFR := hide hfr
        clear hS1 hm1 hg1 hc1 hfr hcp hcl hks e1 hsnd
        go_wp2_with fail
        refine HCL.out.mono ?_
        rintro e wz ⟨rfl, rfl⟩
        go_wp2_with (refine wpList_load_f rfl _ rfl w.heap.size rfl F HFR.out ?_)
        refine HSN.out.mono ?_
        rintro e w2 ⟨rfl, HR⟩
        go_wp2
        go_roundw
        case rel => exact ⟨k + 1, by omega, by go_num, HR.out⟩
        case measure => simp [intOf]; omega
    · have e3 : k = 3 := by omega
      subst e3
      have HG := hide hgo
      clear hgo hfr hcp
      go_wp2
      go_end0
      exact ⟨rfl, HG.out⟩
def tickC (L : RC) (k : Nat) (S : SY) : Int := if saysB (tickS L (S.rp k)) then othC k 3 + 1 else othC k 3
set_option maxHeartbeats 2000000 in
set_option maxRecDepth 20000 in
theorem tickRepC (N : Nat) (D : SC) (L : RC) (win : Nat) (S : SY) (w : World) (k : Nat) (hk : k < 3) (h : SyIs w N D L win S) (hok : RpOk (S.rp k)) (hid : (S.rp k).id = k) (hN : N ≤ w.heap.size) (hle : S.net.length ≤ 120) (c : Int) (hc : cI D S c) :
    Calls Tryz.prog 46 #[.pointer (some ⟨D.p, 0, none⟩), .int .i64 (k : Int)] w fun e w' => e = .returned (.tuple #[]) ∧ SyGoC w w' N D L win (tickSy L k S) (c + tickC L k S) := by
  have hln := h.ln k hk
  have hcall := rtick_any (D.rp k) (D.C k) (S.rp k) w (h.rp k hk) hok
  rw [hln.tick, hln.second] at hcall
  have cr := h.rpAt hk
  have hk' : (k : Int) < 3 := by omega
  have hpl := h.lt
  have HC := hide hcall
  have H := hide h
  obtain ⟨R1, hR1⟩ : ∃ R, Hid (tickS L (S.rp k) = R) := ⟨_, hide rfl⟩
  have hid1 : R1.id = k := by rw [← hR1.out]; exact hid
  have HTC : Hid (tickC L k S = if saysB R1 then othC k 3 + 1 else othC k 3) := by rw [Hid]; unfold tickC; rw [hR1.out]
  have HEQ : Hid (tickSy L k S = ⟨upd S.rp k R1, S.v, tickNet L k R1 S.net⟩) := by rw [Hid]; unfold tickSy; rw [hR1.out]
  rw [hR1.out] at HC
  clear hcall h hR1 hok
  go_enter Tryz.func46, Tryz.ntmps46
  go_wp2_with fail
  refine HC.out.mono ?_
  rintro e w1 ⟨rfl, hR, hm⟩
  obtain ⟨hS1, hM1⟩ := H.out.putR hk hm hR
  have HS1 := hide hS1
  have HM1 := hide hM1
  have q1 : FIs ((w1.alloc (.cells (fCells fr0) 36)).alloc (.cells (fCells fr0) 36)) w1.heap.size 36 fr0 := (Below.heap_alloc _ _ _ (by simp)).trans (blk_new _ _)
  have q2 : FIs ((w1.alloc (.cells (fCells fr0) 36)).alloc (.cells (fCells fr0) 36)) (w1.heap.size + 1) 36 fr0 := by
    have := blk_new (w1.alloc (.cells (fCells fr0) 36)) (.cells (fCells fr0) 36)
    rwa [show (w1.alloc (.cells (fCells fr0) 36)).heap.size = w1.heap.size + 1 by simp] at this
  have HQ1 := hide q1
  have HQ2 := hide q2
  clear q1 q2 hS1 hM1 hR hm HC
  go_wp2_with (refine wpList_store_fl rfl _ _ rfl w1.heap.size (sampleR R1) rfl rfl fr0 HQ1.out ?_)
  intro w2 HF2
  have HQ3 : Hid (FIs w2 (w1.heap.size + 1) 36 fr0) := hide ((HF2.out.2.1 _ (by omega)).trans HQ2.out)
  go_wp2_with (refine wpList_store_fl rfl _ _ rfl (w1.heap.size + 1) (secondR L R1) rfl rfl fr0 HQ3.out ?_)
  intro w3 HF3
  have HA : Hid (FIs w3 w1.heap.size 36 (sampleR R1)) := hide ((HF3.out.2.1 _ (by omega)).trans HF2.out.1)
  have HB : Hid (FIs w3 (w1.heap.size + 1) 36 (secondR L R1)) := hide HF3.out.1
  have hB3 : Below w1.heap.size w1 w3 := (((Below.refl _ _).alloc (Nat.le_refl _) _).alloc (by simp) _).trans ((HF2.out.2.2 _ (Nat.le_refl _)).trans (HF3.out.2.2 _ (by omega)))
  have hS3 := HS1.out.below hB3
  have hM3 : Mod w w3 (Wr D) := HM1.out.below hB3
  have hso := sendOthersC N D L win ⟨upd S.rp k R1, S.v, S.net⟩ w3 (sampleR R1) k hS3 (by rw [sampleR_from, hid1]) (Nat.le_trans hN hM3.size) hle c hc
  have HSO : Hid (Calls Tryz.prog 72 #[.pointer (some ⟨D.p, 0, none⟩), .agg (fCells (sampleR R1))] w3 fun e w' => e = .returned (.tuple #[]) ∧ Hid (SyGoC w w' N D L win ⟨upd S.rp k R1, S.v, othersN k (sampleR R1) S.net 3⟩ (c + othC k 3) ∧ FIs w' (w1.heap.size + 1) 36 (secondR L R1))) := hide (by
    refine hso.mono ?_
    rintro e w4 ⟨rfl, hg⟩
    exact ⟨rfl, hide ⟨SyGoC.then rfl hM3 (GrC.refl _ _) hg, hg.stays hS3 HB.out (by decide)⟩⟩)
  clear hso hS3 hM3 hB3 HB HF3 HF2 HQ3 HQ2 HQ1 HS1 HM1 H
  go_wp2_with (refine wpList_load_f rfl _ rfl w1.heap.size rfl (sampleR R1) HA.out ?_)
  refine HSO.out.mono ?_
  rintro e w4 ⟨rfl, HG4⟩
  clear HSO HA
  cases hs : saysB R1
  · have HE : Hid (tickNet L k R1 S.net = othersN k (sampleR R1) S.net 3) := by rw [Hid]; unfold tickNet; rw [hs]; rfl
    go_wp2
    go_end0
    rw [HEQ.out, HE.out, HTC.out, hs]
    exact ⟨rfl, HG4.out.1⟩
  · have HE : Hid (tickNet L k R1 S.net = sendN k (secondR L R1) 3 (othersN k (sampleR R1) S.net 3)) := by rw [Hid]; unfold tickNet; rw [hs]; rfl
    obtain ⟨⟨D4, hp4, hS4, hm4, hg4, hc4⟩, hf4⟩ := HG4.out
    have hF1 : secondR L R1 1 = (k : Int) := by
      have := hs
      unfold saysB at this
      unfold secondR
      split
      · show (R1.id : Int) = _; rw [hid1]
      · rename_i hv
        split
        · show (R1.id : Int) = _; rw [hid1]
        · rename_i ht
          rw [Bool.or_eq_true] at this
          rcases this with x | x
          · exact absurd x hv
          · exact absurd (of_decide_eq_true x) ht
    have hsd := sendC N D4 L win _ w4 (secondR L R1) k 3 hS4 hF1 (Nat.le_trans hN hm4.size) (othersN_len hle 3) _ hc4
    rw [hp4] at hsd
    have HSD : Hid (Calls Tryz.prog 88 #[.pointer (some ⟨D.p, 0, none⟩), .agg (fCells (secondR L R1)), .int .i64 3] w4 fun e w' => e = .returned (.tuple #[]) ∧ SyGoC w w' N D L win ⟨upd S.rp k R1, S.v, tickNet L k R1 S.net⟩ (c + (othC k 3 + 1))) := hide (by
      rw [HE.out]
      refine hsd.mono ?_
      rintro e w5 ⟨rfl, hg⟩
      exact ⟨rfl, (SyGoC.then hp4 hm4 hg4 hg).cast (by omega)⟩)
    have HF4 := hide hf4
    clear hsd hS4 hm4 hg4 hc4 hf4 HG4 HE
    go_wp2_with (refine wpList_load_f rfl _ rfl (w1.heap.size + 1) rfl (secondR L R1) HF4.out ?_)
    refine HSD.out.mono ?_
    rintro e w5 ⟨rfl, hg5⟩
    go_wp2
    go_end0
    rw [HEQ.out, HTC.out, hs]
    exact ⟨rfl, hg5⟩
def tellsC (al : Bool) (n : Nat) : Int := (if al then othC 3 3 else 1) * (n : Int)
theorem tellsC_succ (al : Bool) (n : Nat) : tellsC al (n + 1) = tellsC al n + if al then othC 3 3 else 1 := by
  unfold tellsC
  rw [Int.natCast_add, Int.mul_add]
  simp
def voteC (win : Nat) (S : SY) (F : FR) : Int := tellsC (takeF win S.v F).2.2 (takeF win S.v F).2.1.length
set_option maxHeartbeats 4000000 in
set_option maxRecDepth 20000 in
theorem tellVoterC (N : Nat) (D : SC) (L : RC) (win : Nat) (S : SY) (w : World) (F : FR) (src : Nat) (h : SyIs w N D L win S) (hF : F 1 = (src : Int)) (hok : VOk win S.v) (hN : N ≤ w.heap.size) (hle : S.net.length ≤ 120) (c : Int) (hc : cI D S c) :
    Calls Tryz.prog 126 #[.pointer (some ⟨D.p, 0, none⟩), .agg (fCells F)] w fun e w' => e = .returned (.tuple #[]) ∧ SyGoC w w' N D L win ⟨S.rp, (takeF win S.v F).1, voteNet win src S F⟩ (c + voteC win S F) := by
  obtain ⟨W, hW⟩ : ∃ W, Hid (w.alloc (.cells (fCells F) 36) = W) := ⟨_, hide rfl⟩
  have hB0 : Below w.heap.size w W := by rw [← hW.out]; exact (Below.refl _ _).alloc (Nat.le_refl _) _
  have hbx : FIs W w.heap.size 36 F := by rw [← hW.out]; exact blk_new _ _
  have hSW := h.below hB0
  have hSd := hSW.drew
  have hbd : FIs W.drew w.heap.size 36 F := hbx
  have hfr := take_from win S.v F
  have hfw := take_few win S.v F
  obtain ⟨T, hT⟩ : ∃ T, Hid (takeF win S.v F = T) := ⟨_, hide rfl⟩
  rw [hT.out] at hfr hfw
  obtain ⟨V1, Fs, al⟩ := T
  have hfw : Fs.length ≤ 2 := hfw
  have HEQ : Hid (voteNet win src S F = tellsN al src Fs S.net) := by rw [Hid]; unfold voteNet tellsN; rw [hT.out]
  have HVC : Hid (voteC win S F = tellsC al Fs.length) := by rw [Hid]; unfold voteC; rw [hT.out]
  have HV : Hid ((takeF win S.v F).1 = V1) := by rw [Hid, hT.out]
  have HSS : Hid (∀ wx, SyIs wx N D L win S → FIs wx w.heap.size 36 F → wx.cell? ⟨D.p, 6, none⟩ = some (.pointer (some ⟨D.vp, 0, none⟩)) ∧ FIs wx w.heap.size 36 F) := hide fun wx hx hf => ⟨(hx.at 6).trans rfl, hf⟩
  have hcall : Calls Tryz.prog 173 #[.pointer (some ⟨D.vp, 0, none⟩), .agg (fCells F)] W.drew fun e w1 => ∃ va vn vc, e = .returned (.tuple #[.slice va vn vc, .bool al]) ∧ vn = Fs.length ∧ (w1.cell? ⟨D.p, 6, none⟩ = some (.pointer (some ⟨D.vp, 0, none⟩)) ∧ FIs w1 w.heap.size 36 F) ∧ Hid (SyGoC w w1 N D L win ⟨S.rp, V1, S.net⟩ c ∧ FRow w1 36 (.slice va vn vc) Fs) := by
    refine (take_any N D.vp win D.tv S.v W.drew F hSd.vt hok (Nat.le_trans hN hB0.size)).mono ?_
    rw [hT.out]
    rintro e w1 ⟨v, tv', rfl, hr, hV, hmv, hm⟩
    have hgo := hSd.putVC hm hV hc hmv
    obtain ⟨va, vc, hve⟩ := hr.shape
    subst hve
    refine ⟨va, _, vc, rfl, rfl, ⟨?_, hgo.stays hSd hbd (by decide)⟩, hide ⟨?_, hr⟩⟩
    · have : w1.heap[D.p]? = W.drew.heap[D.p]? := hm.block D.p hSd.lt (fun e => by
        rcases e with e | e
        · exact hSd.tyP.ne hSd.tyV (by decide) e
        · exact hSd.tyP.ne (hSd.tyT e) (by decide) rfl)
      rw [World.cell?_of_block (w := W.drew) this]
      exact (hSd.at 6).trans rfl
    · exact (hgo.pre ((Below.refl _ _).drew)).pre hB0
  have HC := hide hcall
  have HS0 : Hid (W.drew.cell? ⟨D.p, 6, none⟩ = some (.pointer (some ⟨D.vp, 0, none⟩)) ∧ FIs W.drew w.heap.size 36 F) := hide (unhide HSS _ hSd hbd)
  clear hcall hSd hbd hSW hbx hB0 h hT hok HSS
  go_enter Tryz.func126, Tryz.ntmps126
  go_wp2_with fail
  rw [show w.alloc (.cells (fCells F) 36) = W from hW.out]
  clear hW
  refine wp_region_held_drew (S := fun w' => w'.cell? ⟨D.p, 6, none⟩ = some (.pointer (some ⟨D.vp, 0, none⟩)) ∧ FIs w' w.heap.size 36 F) (by kernel_rfl) HS0.out (fun hHeld => ?_)
  refine wpAnyH_take (i := 0) (oi := _) (v := .pointer (some ⟨D.p, 0, none⟩)) rfl (by kernel_rfl) (by kernel_rfl) (by kernel_rfl) (fun _ _ _ h => h) (Or.inl ⟨by rfl, fun w _ => by go_simp⟩) hHeld ?_
  simp only [Act.put, List.getElem_toArray, List.getElem_cons_zero, List.setIfInBounds_toArray, List.set_cons_succ, List.set_cons_zero]
  refine wpAnyH_take (i := 1) (oi := _) (v := .pointer (some ⟨D.p, 0, none⟩)) rfl (by kernel_rfl) (by kernel_rfl) (by kernel_rfl) (fun _ _ _ h => h) (Or.inl ⟨by rfl, fun w _ => by go_simp⟩) hHeld ?_
  simp only [Act.put, List.getElem_toArray, List.getElem_cons_succ, List.getElem_cons_zero, List.setIfInBounds_toArray, List.set_cons_succ, List.set_cons_zero]
  refine wpAnyH_take (i := 2) (oi := _) (v := .pointer (some ⟨D.p, 6, none⟩)) rfl (by kernel_rfl) (by kernel_rfl) (by kernel_rfl) (fun _ _ _ h => h) (Or.inl ⟨by rfl, fun w _ => by go_simp⟩) hHeld ?_
  simp only [Act.put, List.getElem_toArray, List.getElem_cons_succ, List.getElem_cons_zero, List.setIfInBounds_toArray, List.set_cons_succ, List.set_cons_zero]
  refine wpAnyH_take (i := 3) (oi := _) (v := .pointer (some ⟨D.vp, 0, none⟩)) rfl (by kernel_rfl) (by kernel_rfl) (by kernel_rfl) (fun _ _ _ h => h) (Or.inl ⟨by rfl, fun w h => by obtain ⟨h1, _⟩ := h; go_simp⟩) hHeld ?_
  simp only [Act.put, List.getElem_toArray, List.getElem_cons_succ, List.getElem_cons_zero, List.setIfInBounds_toArray, List.set_cons_succ, List.set_cons_zero]
  refine wpAnyH_take (i := 4) (oi := _) (v := .agg (fCells F)) rfl (by kernel_rfl) (by kernel_rfl) (by kernel_rfl) (fun _ _ _ h => h) (yields_f (by rfl) _ rfl w.heap.size rfl F (fun w h => h.2)) hHeld ?_
  simp only [Act.put, List.getElem_toArray, List.getElem_cons_succ, List.getElem_cons_zero, List.setIfInBounds_toArray, List.set_cons_succ, List.set_cons_zero]
  refine wpAnyH_ready (rs := [5]) (by kernel_rfl) (by simp) ?_
  refine AllReadyH.cons (o := _) rfl (fun K hK => ?_) AllReadyH.nil
  rw [if_pos (by rfl)]
  go_simp
  go_at_call 173
  refine HC.out.mono ?_
  rintro e w1 ⟨va, vn, vc, rfl, hvn, hS1, HG1⟩
  have hvn2 : vn ≤ 2 := by omega
  have HVN := hide hvn
  clear hvn
  dsimp only
  refine hK.out _ _ hS1 (fun hHeld => ?_)
  clear hK K
  refine wpAnyH_take (i := 6) (oi := _) (v := .tuple #[.slice va vn vc, .bool al]) rfl (by kernel_rfl) (by kernel_rfl) (by kernel_rfl) (fun _ _ _ h => h) (Or.inl ⟨by rfl, fun w _ => by go_simp⟩) hHeld ?_
  simp only [Act.put, List.getElem_toArray, List.getElem_cons_succ, List.getElem_cons_zero, List.setIfInBounds_toArray, List.set_cons_succ, List.set_cons_zero]
  refine wpAnyH_take (i := 7) (oi := _) (v := .slice va vn vc) rfl (by kernel_rfl) (by kernel_rfl) (by kernel_rfl) (fun _ _ _ h => h) (Or.inl ⟨by rfl, fun w _ => by go_simp⟩) hHeld ?_
  simp only [Act.put, List.getElem_toArray, List.getElem_cons_succ, List.getElem_cons_zero, List.setIfInBounds_toArray, List.set_cons_succ, List.set_cons_zero]
  refine wpAnyH_take (i := 8) (oi := _) (v := .bool al) rfl (by kernel_rfl) (by kernel_rfl) (by kernel_rfl) (fun _ _ _ h => h) (Or.inl ⟨by rfl, fun w _ => by go_simp⟩) hHeld ?_
  simp only [Act.put, List.getElem_toArray, List.getElem_cons_succ, List.getElem_cons_zero, List.setIfInBounds_toArray, List.set_cons_succ, List.set_cons_zero]
  refine wpAnyH_take (i := 9) (oi := _) (v := .slice va vn vc) rfl (by kernel_rfl) (by kernel_rfl) (by kernel_rfl) (fun _ _ _ h => h) (Or.inl ⟨by rfl, fun w _ => by go_simp⟩) hHeld ?_
  simp only [Act.put, List.getElem_toArray, List.getElem_cons_succ, List.getElem_cons_zero, List.setIfInBounds_toArray, List.set_cons_succ, List.set_cons_zero]
  refine wpAnyH_take (i := 10) (oi := _) (v := .bool al) rfl (by kernel_rfl) (by kernel_rfl) (by kernel_rfl) (fun _ _ _ h => h) (Or.inl ⟨by rfl, fun w _ => by go_simp⟩) hHeld ?_
  simp only [Act.put, List.getElem_toArray, List.getElem_cons_succ, List.getElem_cons_zero, List.setIfInBounds_toArray, List.set_cons_succ, List.set_cons_zero]
  refine wpAnyH_done (by kernel_rfl) ?_ _
  have HB1 := hide hS1.2
  clear hHeld HS0 HC hS1
  go_wp2_with fail
  have HST : Hid (SyGoC w w1 N D L win ⟨S.rp, V1, tellsN al src (Fs.take 0) S.net⟩ (c + tellsC al 0) ∧ FRow w1 36 (.slice va vn vc) Fs ∧ FIs w1 w.heap.size 36 F) := hide ⟨by unfold tellsN; cases al <;> exact HG1.out.1.cast (by simp [tellsC]), HG1.out.2, HB1.out⟩
  go_loopw [19] (fun j wr => ∃ k : Nat, k ≤ vn ∧ j = .int .i64 k ∧ SyGoC w wr N D L win ⟨S.rp, V1, tellsN al src (Fs.take k) S.net⟩ (c + tellsC al k) ∧ FRow wr 36 (.slice va vn vc) Fs ∧ FIs wr w.heap.size 36 F) (fun j _ => vn - (intOf j).toNat)
  case atStart => exact ⟨0, by omega, rfl, HST.out⟩
  case round =>
    obtain ⟨k, hk, rfl, hgo, hrow, hfb⟩ := hrel
    clear HST HG1 HB1
    by_cases hk3 : k < vn
    · have hk' : (k : Int) < (vn : Int) := by omega
      have hkl : k < Fs.length := by rw [← HVN.out]; exact hk3
      obtain ⟨g, rfl⟩ := hrow.some (by omega)
      have hrg := hrow.range hkl
      have hnx := take_next hkl
      have hG1 : (Fs[k]?.getD fr0) 1 = 3 := by rw [List.getElem?_eq_getElem hkl]; exact hfr _ (List.getElem_mem hkl)
      obtain ⟨G, hG⟩ : ∃ G, Hid (Fs[k]?.getD fr0 = G) := ⟨_, hide rfl⟩
      rw [hG.out] at hrg hnx hG1
      have HRG := hide hrg
      have hB2 : Below wr.heap.size wr (wr.alloc (.cells (fCells fr0) 36)) := (Below.refl _ _).alloc (Nat.le_refl _) _
      have q1 : FIs (wr.alloc (.cells (fCells fr0) 36)) wr.heap.size 36 fr0 := blk_new _ _
      have HQ1 := hide q1
      have HRW := hide hrow
      have HFB := hide hfb
      have HGO := hide hgo
      clear hrg q1 hrow hfb hgo
      go_wp2_with (first
        | (refine wpList_load_mid rfl 36 _ rfl g (k * 23) rfl (fCells G).toList _ HRG.out Tryz.underlying36 rfl (by rw [infoFrame]; rfl) ?_)
        | (refine wpList_store_fl rfl _ _ rfl wr.heap.size G rfl rfl fr0 HQ1.out ?_))
      intro w2 HF2
      have hB3 : Below wr.heap.size wr w2 := hB2.trans (HF2.out.2.2 _ (Nat.le_refl _))
      obtain ⟨D2, hp2, hS2, hm2, hg2, hc2⟩ := HGO.out.below hB3
      have HF := hide HF2.out.1
      have z1 : w2.cell? ⟨w.heap.size, 1, none⟩ = some (.int .i64 (src : Int)) := by
        have hb := HFB.out.below HFB.out.lt hB3
        rw [hb.at (by omega), hF]
      have HRW2 := hide (HRW.out.below hB3)
      have HFB2 := hide (HFB.out.below HFB.out.lt hB3)
      clear HRG HQ1 HRW HFB HGO HF2 hB2 hB3
      have HNX : Hid (tellsN al src (Fs.take (k + 1)) S.net = if al then othersN 3 G (tellsN al src (Fs.take k) S.net) 3 else sendN 3 G src (tellsN al src (Fs.take k) S.net)) := by
        rw [Hid]
        unfold tellsN
        rw [hnx]
        cases al
        · exact sendsN_app _ _ _ _ _
        · exact allsN_app _ _ _ _
      have hend : ∀ (w3 : World) (net : List Pk) (c' : Int), SyGoC w2 w3 N D2 L win ⟨S.rp, V1, net⟩ c' → net = tellsN al src (Fs.take (k + 1)) S.net → c' = c + tellsC al (k + 1) → SyGoC w w3 N D L win ⟨S.rp, V1, tellsN al src (Fs.take (k + 1)) S.net⟩ (c + tellsC al (k + 1)) ∧ FRow w3 36 (.slice (some ⟨g, 0, none⟩) vn vc) Fs ∧ FIs w3 w.heap.size 36 F := fun w3 net c' hg e ec => by
        rw [← e, ← ec]
        exact ⟨SyGoC.then hp2 hm2 hg2 hg, HRW2.out.stays hg.go hS2, hg.stays hS2 HFB2.out (by decide)⟩
      have hlen := tellsN_len al src (Fs.take k) hle
      cases al
      · have hsd := sendC N D2 L win _ w2 G 3 src hS2 hG1 (Nat.le_trans hN hm2.size) hlen _ hc2
        rw [hp2] at hsd
        have HSD : Hid (Calls Tryz.prog 88 #[.pointer (some ⟨D.p, 0, none⟩), .agg (fCells G), .int .i64 (src : Int)] w2 fun e w' => e = .returned (.tuple #[]) ∧ Hid (SyGoC w w' N D L win ⟨S.rp, V1, tellsN false src (Fs.take (k + 1)) S.net⟩ (c + tellsC false (k + 1)) ∧ FRow w' 36 (.slice (some ⟨g, 0, none⟩) vn vc) Fs ∧ FIs w' w.heap.size 36 F)) := hide (by
          refine hsd.mono ?_
          rintro e w5 ⟨rfl, hg⟩
          exact ⟨rfl, hide (hend _ _ _ hg (by rw [HNX.out]; rfl) (by rw [tellsC_succ]; simp; omega))⟩)
        clear hsd hend hS2 hm2 hg2 hc2 hnx
        go_wp2_with (refine wpList_load_f rfl _ rfl wr.heap.size rfl G HF.out ?_)
        refine HSD.out.mono ?_
        rintro e w5 ⟨rfl, HR⟩
        go_wp2
        go_roundw
        case rel => exact ⟨k + 1, by omega, by go_num, HR.out⟩
        case measure => simp [intOf]; omega
      · have hsd := sendOthersC N D2 L win _ w2 G 3 hS2 hG1 (Nat.le_trans hN hm2.size) hlen _ hc2
        rw [hp2] at hsd
        have HSD : Hid (Calls Tryz.prog 72 #[.pointer (some ⟨D.p, 0, none⟩), .agg (fCells G)] w2 fun e w' => e = .returned (.tuple #[]) ∧ Hid (SyGoC w w' N D L win ⟨S.rp, V1, tellsN true src (Fs.take (k + 1)) S.net⟩ (c + tellsC true (k + 1)) ∧ FRow w' 36 (.slice (some ⟨g, 0, none⟩) vn vc) Fs ∧ FIs w' w.heap.size 36 F)) := hide (by
          refine hsd.mono ?_
          rintro e w5 ⟨rfl, hg⟩
          exact ⟨rfl, hide (hend _ _ _ hg (by rw [HNX.out]; rfl) (by rw [tellsC_succ]; simp; omega))⟩)
        clear hsd hend hS2 hm2 hg2 hc2 hnx
        go_wp2_with (refine wpList_load_f rfl _ rfl wr.heap.size rfl G HF.out ?_)
        refine HSD.out.mono ?_
        rintro e w5 ⟨rfl, HR⟩
        go_wp2
        go_roundw
        case rel => exact ⟨k + 1, by omega, by go_num, HR.out⟩
        case measure => simp [intOf]; omega
    · have hk' : ¬ (k : Int) < (vn : Int) := by omega
      have HG : Hid (SyGoC w wr N D L win ⟨S.rp, V1, tellsN al src Fs S.net⟩ (c + tellsC al Fs.length)) := hide (by
        have := hgo
        rw [show k = Fs.length by have := HVN.out; omega, List.take_length] at this
        exact this)
      clear hgo hrow hfb
      go_wp2
      go_end0
      rw [HV.out, HEQ.out, HVC.out]
      exact ⟨rfl, HG.out⟩
end Go.Proofs.YtaablbmgagiajabGreatDoor
