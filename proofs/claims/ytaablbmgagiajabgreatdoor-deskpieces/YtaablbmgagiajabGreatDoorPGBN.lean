import Derived.Test.YtaablbmgagiajabGreatDoorPGBK
import Derived.Great.BuildSlice
namespace Go.Proofs.YtaablbmgagiajabGreatDoor
open Go.RowKit Go.Deep
theorem SyIs.others {w w' : World} {N win : Nat} {D : SC} {L : RC} {S : SY} (h : SyIs w N D L win S) {T : Nat → Prop} (hm : Mod w w' T) (hT : ∀ k, Wr D k ∨ Sta D k → ¬ T k)
    (hby : ∀ i, i < S.net.length → BytesIs w' (D.us[i]?.getD undef) (pkAt S.net i).b) : SyIs w' N D L win S := by
  have hst : ∀ k, Sta D k → ¬ T k := fun k hk => hT k (.inr hk)
  have hwr : ∀ k, Wr D k → ¬ T k := fun k hk => hT k (.inl hk)
  refine ⟨(hm.block _ h.lt (hwr _ (.inl rfl))).trans h.blk, fun k hk => (World.cell?_of_block (w := w) (hm.block _ h.lt0 (hst _ (.inl rfl)))).trans (h.row k hk), Nat.lt_of_lt_of_le h.lt0 hm.size, h.cap0, fun k hk => (h.rp k hk).staged hm (hwr _ (.inr (.inr (.inl ⟨k, hk, rfl⟩)))) fun j hj => hst j (.inr ⟨k, hk, hj⟩), h.ln, h.ne, h.vt.move hm fun k hk => hwr k (.inr (.inr (.inr hk))), ⟨⟨h.net.row.1, ?_⟩, h.net.len, hby⟩, h.sep, h.base, h.sbase⟩
  rcases h.net.row.2 with h2 | ⟨g, cap, cur, hg, h3, h4, h5⟩
  · exact .inl h2
  · exact .inr ⟨g, cap, cur, hg, h3, (hm.block g (blk_lt h4) (hwr g (.inr (.inl (by rw [hg]; rfl))))).trans h4, h5⟩
theorem var_lo {w w' : World} {n : String} {g B : Nat} (hg : Tryz.prog.globalNamed n = some g) {cs : Array Value} (h : w.var? Tryz.prog n = some cs) (hB : Below B w w') (hlt : g < B) : w'.var? Tryz.prog n = some cs := by
  unfold World.var? at h ⊢
  rw [hg] at h ⊢
  simp only [Option.bind_some] at h ⊢
  rw [hB.block g hlt]; exact h
theorem HasNum.lo {w w' : World} {B : Nat} (h : HasNum w) (hB : Below B w w') (h7 : 7 ≤ B) : HasNum w' := by
  obtain ⟨t, p, h1⟩ := h.syn
  obtain ⟨t2, p2, h2⟩ := h.rng
  exact ⟨var_lo powG h.pow hB (Nat.lt_of_lt_of_le (by decide) h7), ⟨t, p, var_lo synG h1 hB (Nat.lt_of_lt_of_le (by decide) h7)⟩, ⟨t2, p2, var_lo rngG h2 hB (Nat.lt_of_lt_of_le (by decide) h7)⟩⟩
structure DkC where
  d : Nat
  m : Nat
  g : Nat
  o : Nat
  cp : Nat
structure DkIs (w : World) (N : Nat) (c : DkC) (D : SC) (L : RC) (win : Nat) (S : SY) : Prop where
  blk : w.heap[c.d]? = some (.cells #[.int .i64 (L.s : Int), .slice (some ⟨c.g, c.o, none⟩) L.n c.cp, .int .i64 (L.d : Int), .pointer (some ⟨D.p, 0, none⟩), .map (some c.m)] 167 (0, 0))
  row : Row w c.g c.o L.zs
  room : L.n ≤ c.cp
  dlt : c.d < N
  mlt : c.m < N
  glt : c.g < N
  low : 7 ≤ N
  le : N ≤ w.heap.size
  map : MpIs w c.m (ordTab c.d)
  num : HasNum w
  sys : SyIs w N D L win S
section
variable {w w' : World} {N win : Nat} {c : DkC} {D : SC} {L : RC} {S : SY}
theorem DkIs.c3 (h : DkIs w N c D L win S) : w.cell? ⟨c.d, 3, none⟩ = some (.pointer (some ⟨D.p, 0, none⟩)) := by simp [World.cell?, h.blk]
theorem DkIs.c4 (h : DkIs w N c D L win S) : w.cell? ⟨c.d, 4, none⟩ = some (.map (some c.m)) := by simp [World.cell?, h.blk]
theorem DkIs.c0 (h : DkIs w N c D L win S) : w.cell? ⟨c.d, 0, none⟩ = some (.int .i64 (L.s : Int)) ∧ w.cell? ⟨c.d, 1, none⟩ = some (.slice (some ⟨c.g, c.o, none⟩) L.n c.cp) ∧ w.cell? ⟨c.d, 2, none⟩ = some (.int .i64 (L.d : Int)) := by
  refine ⟨?_, ?_, ?_⟩ <;> simp [World.cell?, h.blk]
theorem DkIs.lo (h : DkIs w N c D L win S) (hB : Below N w w') {D' : SC} {S' : SY} (hp : D'.p = D.p) (hs : SyIs w' N D' L win S') : DkIs w' N c D' L win S' :=
  ⟨by rw [hB.block _ h.dlt, hp]; exact h.blk, h.row.below h.glt hB, h.room, h.dlt, h.mlt, h.glt, h.low, Nat.le_trans h.le hB.size, h.map.same (hB.block _ h.mlt), h.num.lo hB h.low, hs⟩
theorem DkIs.below (h : DkIs w N c D L win S) (hB : Below w.heap.size w w') : DkIs w' N c D L win S := h.lo (hB.mono h.le) rfl (h.sys.below hB)
theorem DkIs.others (h : DkIs w N c D L win S) (hn : S.net = []) {T : Nat → Prop} (hm : Mod w w' T) (hT : ∀ k, Wr D k ∨ Sta D k → ¬ T k) (hlo : ∀ k, T k → N ≤ k) : DkIs w' N c D L win S :=
  h.lo (hm.toBelow h.le fun k hk ht => by have := hlo k ht; omega) rfl (h.sys.others hm hT fun i hi => by rw [hn] at hi; simp at hi)
theorem DkIs.atW (h : DkIs w N c D L win S) : DkAt w c.d c.m := ⟨Nat.lt_of_lt_of_le h.dlt h.le, h.c4, h.map, h.num⟩
end
def L0 : RC := ⟨4, 2, 3, [3, 12, 6], 0, 0, 0, 0, 0, 0⟩
theorem L0_ok : LOk L0 := ⟨by decide, rfl⟩
theorem begin_set {V w2 : World} {d m b p : Nat} (h : ∃ D, D.p = p ∧ SyIs w2 V.heap.size D L0 10 (sy0 10) ∧ Below V.heap.size V w2 ∧ w2.heap[d]? = some (.cells #[.int .i64 0, .slice none 0 0, .int .i64 0, .pointer none, .map (some m)] 167 (0, 0)) ∧ d < V.heap.size) :
    ∃ D, SyIs ((((w2.setCell ⟨d, 0, none⟩ (.int .i64 4)).setCell ⟨d, 1, none⟩ (.slice (some ⟨b, 3, none⟩) 3 3)).setCell ⟨d, 2, none⟩ (.int .i64 2)).setCell ⟨d, 3, none⟩ (.pointer (some ⟨p, 0, none⟩))) V.heap.size D L0 10 (sy0 10) ∧
      ((((w2.setCell ⟨d, 0, none⟩ (.int .i64 4)).setCell ⟨d, 1, none⟩ (.slice (some ⟨b, 3, none⟩) 3 3)).setCell ⟨d, 2, none⟩ (.int .i64 2)).setCell ⟨d, 3, none⟩ (.pointer (some ⟨p, 0, none⟩))).heap[d]? = some (.cells #[.int .i64 4, .slice (some ⟨b, 3, none⟩) 3 3, .int .i64 2, .pointer (some ⟨D.p, 0, none⟩), .map (some m)] 167 (0, 0)) ∧
      Mod V ((((w2.setCell ⟨d, 0, none⟩ (.int .i64 4)).setCell ⟨d, 1, none⟩ (.slice (some ⟨b, 3, none⟩) 3 3)).setCell ⟨d, 2, none⟩ (.int .i64 2)).setCell ⟨d, 3, none⟩ (.pointer (some ⟨p, 0, none⟩))) (· = d) := by
  obtain ⟨D, hp, hS, hB, hdw, hdl⟩ := h
  have b1 := blk_set hdw 0 (.int .i64 4)
  have m1 : Mod w2 (w2.setCell ⟨d, 0, none⟩ (.int .i64 4)) (· = d) := (Mod.refl w2 _).set ⟨d, 0, none⟩ _ (fun _ => rfl)
  generalize w2.setCell ⟨d, 0, none⟩ (.int .i64 4) = x1 at b1 m1 ⊢
  have b2 := blk_set b1 1 (.slice (some ⟨b, 3, none⟩) 3 3)
  have m2 : Mod w2 (x1.setCell ⟨d, 1, none⟩ (.slice (some ⟨b, 3, none⟩) 3 3)) (· = d) := m1.set ⟨d, 1, none⟩ _ (fun _ => rfl)
  generalize x1.setCell ⟨d, 1, none⟩ (.slice (some ⟨b, 3, none⟩) 3 3) = x2 at b2 m2 ⊢
  have b3 := blk_set b2 2 (.int .i64 2)
  have m3 : Mod w2 (x2.setCell ⟨d, 2, none⟩ (.int .i64 2)) (· = d) := m2.set ⟨d, 2, none⟩ _ (fun _ => rfl)
  generalize x2.setCell ⟨d, 2, none⟩ (.int .i64 2) = x3 at b3 m3 ⊢
  have b4 := blk_set b3 3 (.pointer (some ⟨p, 0, none⟩))
  have m4 : Mod w2 (x3.setCell ⟨d, 3, none⟩ (.pointer (some ⟨p, 0, none⟩))) (· = d) := m3.set ⟨d, 3, none⟩ _ (fun _ => rfl)
  generalize x3.setCell ⟨d, 3, none⟩ (.pointer (some ⟨p, 0, none⟩)) = x4 at b4 m4 ⊢
  refine ⟨D, hS.others m4 ?_ (fun i hi => absurd hi (Nat.not_lt_zero i)), by rw [hp]; exact b4, (Mod.ofBelow hB _).then m4 (fun _ _ e => e)⟩
  rintro k (hk | hk) e
  · have := hS.base k hk; omega
  · have := hS.sbase k hk; omega
set_option maxHeartbeats 4000000 in
set_option maxRecDepth 100000 in
theorem begin0 (V : World) (d m b : Nat) (hd : V.heap[d]? = some (.cells #[.int .i64 0, .slice none 0 0, .int .i64 0, .pointer none, .map (some m)] 167 (0, 0))) (hb : b < V.heap.size) (hr : Row V b 0 [10, 2, 4, 3, 12, 6]) :
    Calls Tryz.prog 93 #[.pointer (some ⟨d, 0, none⟩), .slice (some ⟨b, 0, none⟩) 6 6] V fun e V' => e = .returned (.string (txt [98, 101, 103, 105, 110])) ∧ ∃ D, SyIs V' V.heap.size D L0 10 (sy0 10) ∧
      V'.heap[d]? = some (.cells #[.int .i64 4, .slice (some ⟨b, 3, none⟩) 3 3, .int .i64 2, .pointer (some ⟨D.p, 0, none⟩), .map (some m)] 167 (0, 0)) ∧ Mod V V' (· = d) := by
  have hdl : d < V.heap.size := blk_lt hd
  have r0 : V.cell? ⟨b, 0, none⟩ = some (.int .i64 10) := hr 0 (by simp)
  have r1 : V.cell? ⟨b, 1, none⟩ = some (.int .i64 2) := hr 1 (by simp)
  have r2 : V.cell? ⟨b, 2, none⟩ = some (.int .i64 4) := hr 2 (by simp)
  obtain ⟨V1, hV1⟩ : ∃ V1, Hid ((V.alloc (.cells #[.int .i64 4, .slice (some ⟨b, 3, none⟩) 3 3, .int .i64 2] 42)).drew = V1) := ⟨_, hide rfl⟩
  have hB1 : Below V.heap.size V V1 := by rw [← hV1.out]; exact ((Below.refl _ _).alloc (Nat.le_refl _) _).drew
  have hbx : V1.heap[V.heap.size]? = some (.cells #[.int .i64 4, .slice (some ⟨b, 3, none⟩) 3 3, .int .i64 2] 42 (0, 0)) := by rw [← hV1.out]; exact World.alloc_heap_new V _
  have x0 : V1.cell? ⟨V.heap.size, 0, none⟩ = some (.int .i64 4) ∧ V1.cell? ⟨V.heap.size, 1, none⟩ = some (.slice (some ⟨b, 3, none⟩) 3 3) ∧ V1.cell? ⟨V.heap.size, 2, none⟩ = some (.int .i64 2) := by refine ⟨?_, ?_, ?_⟩ <;> simp [World.cell?, hbx]
  obtain ⟨y0, y1, y2⟩ := x0
  have r0' : V1.cell? ⟨b, 0, none⟩ = some (.int .i64 10) := (hB1.cell (p := ⟨b, 0, none⟩) hb).trans r0
  have HN : Hid (Calls Tryz.prog 24 #[.agg #[.int .i64 4, .slice (some ⟨b, 3, none⟩) 3 3, .int .i64 2], .int .i64 10] V1.drew fun e w' => ∃ p, e = .returned (.tuple #[.pointer (some ⟨p, 0, none⟩), .nilIface]) ∧
      ((w'.cell? ⟨V.heap.size, 0, none⟩ = some (.int .i64 4) ∧ w'.cell? ⟨V.heap.size, 1, none⟩ = some (.slice (some ⟨b, 3, none⟩) 3 3) ∧ w'.cell? ⟨V.heap.size, 2, none⟩ = some (.int .i64 2)) ∧
       (w'.cell? ⟨d, 0, none⟩ = some (.int .i64 0) ∧ w'.cell? ⟨d, 1, none⟩ = some (.slice none 0 0) ∧ w'.cell? ⟨d, 2, none⟩ = some (.int .i64 0) ∧ w'.cell? ⟨d, 3, none⟩ = some (.pointer none)) ∧
       (w'.frozen? ⟨d, 0, none⟩ = false ∧ w'.frozen? ⟨d, 1, none⟩ = false ∧ w'.frozen? ⟨d, 2, none⟩ = false ∧ w'.frozen? ⟨d, 3, none⟩ = false)) ∧
      Hid (∃ D, D.p = p ∧ SyIs w' V.heap.size D L0 10 (sy0 10) ∧ Below V.heap.size V w' ∧ w'.heap[d]? = some (.cells #[.int .i64 0, .slice none 0 0, .int .i64 0, .pointer none, .map (some m)] 167 (0, 0)) ∧ d < V.heap.size)) := hide (by
    have hrow : Row V1.drew b 3 L0.zs := fun k hk => by
      have hk3 : k < 3 := hk
      have h1 := hr (k + 3) (by simp; omega)
      rw [Nat.zero_add, Nat.add_comm] at h1
      refine ((hB1.drew.cell (p := ⟨b, 3 + k, none⟩) hb).trans h1).trans ?_
      rw [Nat.add_comm]
      rfl
    refine (synew_any V.heap.size L0 10 b 3 3 V1.drew L0_ok (by omega) (by omega) (Nat.lt_of_lt_of_le hb hB1.drew.size) hrow hB1.drew.size).mono ?_
    rintro e w' ⟨⟨D, rfl, _, hS⟩, hB⟩
    have hBv : Below V1.heap.size V1 w' := (Below.refl _ _).drew.trans hB
    have hBw : Below V.heap.size V w' := hB1.trans (hBv.mono hB1.size)
    have hvl : V.heap.size < V1.heap.size := blk_lt hbx
    have hdw : w'.heap[d]? = some (.cells #[.int .i64 0, .slice none 0 0, .int .i64 0, .pointer none, .map (some m)] 167 (0, 0)) := (hBw.block d hdl).trans hd
    refine ⟨D.p, rfl, ⟨⟨(hBv.cell (p := ⟨V.heap.size, 0, none⟩) hvl).trans y0, (hBv.cell (p := ⟨V.heap.size, 1, none⟩) hvl).trans y1, (hBv.cell (p := ⟨V.heap.size, 2, none⟩) hvl).trans y2⟩, ?_, ?_⟩, hide ⟨D, rfl, hS, hBw, hdw, hdl⟩⟩
    · refine ⟨?_, ?_, ?_, ?_⟩ <;> simp [World.cell?, hdw]
    · refine ⟨?_, ?_, ?_, ?_⟩ <;> simp [World.frozen?, hdw])
  clear hr hd hB1 hbx
  go_enter Tryz.func93, Tryz.ntmps93
  go_wp2
  go_region
  all_goals
    go_wp2
    rw [hV1.out]
    go_region_with (go_at_call 24; refine HN.out.mono ?_; rintro e w1 ⟨p, rfl, ⟨⟨z0, z1, z2⟩, ⟨d0, d1, d2, d3⟩, f0, f1, f2, f3⟩, hg⟩)
  all_goals
    go_wp2_with fail
    refine (throw_nil _).mono ?_
    rintro e w2 ⟨rfl, rfl⟩
    go_wp2
    go_ret
    exact ⟨rfl, begin_set hg.out⟩
end Go.Proofs.YtaablbmgagiajabGreatDoor
