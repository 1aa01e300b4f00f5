import Derived.Test.YtaablbmgagiajabGreatDoorSGBB
import Derived.Test.YtaablbmgagiajabGreatDoorSGAW
import Derived.Great.BuildSlice
import Derived.Deep.RegionHeld3
namespace Go.Proofs.YtaablbmgagiajabGreatDoor
open Go.RowKit Go.Deep
theorem SyIs.others {w w' : World} {N win : Nat} {D : SC} {L : RC} {S : SY} (h : SyIs w N D L win S) {T : Nat → Prop} (hm : Mod w w' T) (hT : ∀ k, Wr D k ∨ Sta D k → ¬ T k)
    (hby : ∀ i, i < S.net.length → BytesIs w' (D.us[i]?.getD undef) (pkAt S.net i).b) : SyIs w' N D L win S := by
  have hst : ∀ k, Sta D k → ¬ T k := fun k hk => hT k (.inr hk)
  have hwr : ∀ k, Wr D k → ¬ T k := fun k hk => hT k (.inl hk)
  refine ⟨(hm.block _ h.lt (hwr _ (.inl rfl))).trans h.blk, fun k hk => (World.cell?_of_block (w := w) (hm.block _ h.lt0 (hst _ (.inl rfl)))).trans (h.row k hk), Nat.lt_of_lt_of_le h.lt0 hm.size, h.cap0, fun k hk => (h.rp k hk).staged hm (hwr _ (.inr (.inr (.inl ⟨k, hk, rfl⟩)))) fun j hj => hst j (.inr ⟨k, hk, hj⟩), h.ln, h.ne, h.vt.move hm fun k hk => hwr k (.inr (.inr (.inr hk))), ⟨⟨h.net.row.1, ?_⟩, h.net.len, hby⟩, h.sep, h.base, h.sbase⟩
  rcases h.net.row.2 with h2 | ⟨g, cap, cur, hg, h3, h4, h5⟩
  · exact .inl h2
  · exact .inr ⟨g, cap, cur, hg, h3, (hm.block g (blk_lt h4) (hwr g (.inr (.inl (by rw [hg]; rfl))))).trans h4, h5⟩
theorem var_lo {w w' : World} {n : String} {g B : Nat} (hg : Tryz.prog.globalNamed n = some g) {cs : Array Value} (h : w.var? Tryz.prog n = some cs) (hB : Below B w w') (hlt : g < B) : w'.var? Tryz.prog n = some cs := by
  unfold World.var? at h ⊢
  rw [hg] at h ⊢
  simp only [Option.bind_some] at h ⊢
  rw [hB.block g hlt]; exact h
theorem HasNum.lo {w w' : World} {B : Nat} (h : HasNum w) (hB : Below B w w') (h7 : 7 ≤ B) : HasNum w' := by
  obtain ⟨t, p, h1⟩ := h.syn
  obtain ⟨t2, p2, h2⟩ := h.rng
  exact ⟨var_lo powG h.pow hB (Nat.lt_of_lt_of_le (by decide) h7), ⟨t, p, var_lo synG h1 hB (Nat.lt_of_lt_of_le (by decide) h7)⟩, ⟨t2, p2, var_lo rngG h2 hB (Nat.lt_of_lt_of_le (by decide) h7)⟩⟩
structure DkC where
  d : Nat
  m : Nat
  g : Nat
  o : Nat
  cp : Nat
structure DkIs (w : World) (N : Nat) (c : DkC) (D : SC) (L : RC) (win : Nat) (S : SY) : Prop where
  blk : w.heap[c.d]? = some (.cells #[.int .i64 (L.s : Int), .slice (some ⟨c.g, c.o, none⟩) L.n c.cp, .int .i64 (L.d : Int), .pointer (some ⟨D.p, 0, none⟩), .map (some c.m)] 167 (0, 0))
  row : Row w c.g c.o L.zs
  room : L.n ≤ c.cp
  dlt : c.d < N
  mlt : c.m < N
  glt : c.g < N
  low : 7 ≤ N
  le : N ≤ w.heap.size
  map : MpIs w c.m (ordTab c.d)
  num : HasNum w
  sys : SyIs w N D L win S
section
variable {w w' : World} {N win : Nat} {c : DkC} {D : SC} {L : RC} {S : SY}
theorem DkIs.c3 (h : DkIs w N c D L win S) : w.cell? ⟨c.d, 3, none⟩ = some (.pointer (some ⟨D.p, 0, none⟩)) := by simp [World.cell?, h.blk]
theorem DkIs.c4 (h : DkIs w N c D L win S) : w.cell? ⟨c.d, 4, none⟩ = some (.map (some c.m)) := by simp [World.cell?, h.blk]
theorem DkIs.c0 (h : DkIs w N c D L win S) : w.cell? ⟨c.d, 0, none⟩ = some (.int .i64 (L.s : Int)) ∧ w.cell? ⟨c.d, 1, none⟩ = some (.slice (some ⟨c.g, c.o, none⟩) L.n c.cp) ∧ w.cell? ⟨c.d, 2, none⟩ = some (.int .i64 (L.d : Int)) := by
  refine ⟨?_, ?_, ?_⟩ <;> simp [World.cell?, h.blk]
theorem DkIs.lo (h : DkIs w N c D L win S) (hB : Below N w w') {D' : SC} {S' : SY} (hp : D'.p = D.p) (hs : SyIs w' N D' L win S') : DkIs w' N c D' L win S' :=
  ⟨by rw [hB.block _ h.dlt, hp]; exact h.blk, h.row.below h.glt hB, h.room, h.dlt, h.mlt, h.glt, h.low, Nat.le_trans h.le hB.size, h.map.same (hB.block _ h.mlt), h.num.lo hB h.low, hs⟩
theorem DkIs.below (h : DkIs w N c D L win S) (hB : Below w.heap.size w w') : DkIs w' N c D L win S := h.lo (hB.mono h.le) rfl (h.sys.below hB)
theorem DkIs.went (h : DkIs w N c D L win S) {S' : SY} (hg : SyGo w w' N D L win S') : ∃ D', DkIs w' N c D' L win S' ∧ Mod w w' (Wr D) ∧ Gr w.heap.size D D' := by
  obtain ⟨D', hp, hs, hm, hgr⟩ := hg
  exact ⟨D', h.lo (hm.toBelow h.le fun k hk hw => by have := h.sys.base k hw; omega) hp hs, hm, hgr⟩
theorem DkIs.others (h : DkIs w N c D L win S) (hn : S.net = []) {T : Nat → Prop} (hm : Mod w w' T) (hT : ∀ k, Wr D k ∨ Sta D k → ¬ T k) (hlo : ∀ k, T k → N ≤ k) : DkIs w' N c D L win S :=
  h.lo (hm.toBelow h.le fun k hk ht => by have := hlo k ht; omega) rfl (h.sys.others hm hT fun i hi => by rw [hn] at hi; simp at hi)
theorem DkIs.atW (h : DkIs w N c D L win S) : DkAt w c.d c.m := ⟨Nat.lt_of_lt_of_le h.dlt h.le, h.c4, h.map, h.num⟩
end
end Go.Proofs.YtaablbmgagiajabGreatDoor
namespace Go.Proofs.YtaablbmgagiajabGreatDoor
open Go.RowKit Go.Deep
def L0 : RC := ⟨4, 2, 3, [3, 12, 6], 0, 0, 0, 0, 0, 0⟩
theorem L0_ok : LOk L0 := ⟨by decide, rfl⟩
theorem begin_set {V w2 : World} {d m b p : Nat} (h : ∃ D, D.p = p ∧ SyIs w2 V.heap.size D L0 10 (sy0 10) ∧ Below V.heap.size V w2 ∧ w2.heap[d]? = some (.cells #[.int .i64 0, .slice none 0 0, .int .i64 0, .pointer none, .map (some m)] 167 (0, 0)) ∧ d < V.heap.size) :
    ∃ D, SyIs ((((w2.setCell ⟨d, 0, none⟩ (.int .i64 4)).setCell ⟨d, 1, none⟩ (.slice (some ⟨b, 3, none⟩) 3 3)).setCell ⟨d, 2, none⟩ (.int .i64 2)).setCell ⟨d, 3, none⟩ (.pointer (some ⟨p, 0, none⟩))) V.heap.size D L0 10 (sy0 10) ∧
      ((((w2.setCell ⟨d, 0, none⟩ (.int .i64 4)).setCell ⟨d, 1, none⟩ (.slice (some ⟨b, 3, none⟩) 3 3)).setCell ⟨d, 2, none⟩ (.int .i64 2)).setCell ⟨d, 3, none⟩ (.pointer (some ⟨p, 0, none⟩))).heap[d]? = some (.cells #[.int .i64 4, .slice (some ⟨b, 3, none⟩) 3 3, .int .i64 2, .pointer (some ⟨D.p, 0, none⟩), .map (some m)] 167 (0, 0)) ∧
      Mod V ((((w2.setCell ⟨d, 0, none⟩ (.int .i64 4)).setCell ⟨d, 1, none⟩ (.slice (some ⟨b, 3, none⟩) 3 3)).setCell ⟨d, 2, none⟩ (.int .i64 2)).setCell ⟨d, 3, none⟩ (.pointer (some ⟨p, 0, none⟩))) (· = d) := by
  obtain ⟨D, hp, hS, hB, hdw, hdl⟩ := h
  have b1 := blk_set hdw 0 (.int .i64 4)
  have m1 : Mod w2 (w2.setCell ⟨d, 0, none⟩ (.int .i64 4)) (· = d) := (Mod.refl w2 _).set ⟨d, 0, none⟩ _ (fun _ => rfl)
  generalize w2.setCell ⟨d, 0, none⟩ (.int .i64 4) = x1 at b1 m1 ⊢
  have b2 := blk_set b1 1 (.slice (some ⟨b, 3, none⟩) 3 3)
  have m2 : Mod w2 (x1.setCell ⟨d, 1, none⟩ (.slice (some ⟨b, 3, none⟩) 3 3)) (· = d) := m1.set ⟨d, 1, none⟩ _ (fun _ => rfl)
  generalize x1.setCell ⟨d, 1, none⟩ (.slice (some ⟨b, 3, none⟩) 3 3) = x2 at b2 m2 ⊢
  have b3 := blk_set b2 2 (.int .i64 2)
  have m3 : Mod w2 (x2.setCell ⟨d, 2, none⟩ (.int .i64 2)) (· = d) := m2.set ⟨d, 2, none⟩ _ (fun _ => rfl)
  generalize x2.setCell ⟨d, 2, none⟩ (.int .i64 2) = x3 at b3 m3 ⊢
  have b4 := blk_set b3 3 (.pointer (some ⟨p, 0, none⟩))
  have m4 : Mod w2 (x3.setCell ⟨d, 3, none⟩ (.pointer (some ⟨p, 0, none⟩))) (· = d) := m3.set ⟨d, 3, none⟩ _ (fun _ => rfl)
  generalize x3.setCell ⟨d, 3, none⟩ (.pointer (some ⟨p, 0, none⟩)) = x4 at b4 m4 ⊢
  refine ⟨D, hS.others m4 ?_ (fun i hi => absurd hi (Nat.not_lt_zero i)), by rw [hp]; exact b4, (Mod.ofBelow hB _).then m4 (fun _ _ e => e)⟩
  rintro k (hk | hk) e
  · have := hS.base k hk; omega
  · have := hS.sbase k hk; omega
set_option maxHeartbeats 4000000 in
set_option maxRecDepth 100000 in
theorem begin0 (V : World) (d m b : Nat) (hd : V.heap[d]? = some (.cells #[.int .i64 0, .slice none 0 0, .int .i64 0, .pointer none, .map (some m)] 167 (0, 0))) (hb : b < V.heap.size) (hr : Row V b 0 [10, 2, 4, 3, 12, 6]) :
    Calls Tryz.prog 93 #[.pointer (some ⟨d, 0, none⟩), .slice (some ⟨b, 0, none⟩) 6 6] V fun e V' => e = .returned (.string (txt [98, 101, 103, 105, 110])) ∧ ∃ D, SyIs V' V.heap.size D L0 10 (sy0 10) ∧
      V'.heap[d]? = some (.cells #[.int .i64 4, .slice (some ⟨b, 3, none⟩) 3 3, .int .i64 2, .pointer (some ⟨D.p, 0, none⟩), .map (some m)] 167 (0, 0)) ∧ Mod V V' (· = d) := by
  have hdl : d < V.heap.size := blk_lt hd
  have r0 : V.cell? ⟨b, 0, none⟩ = some (.int .i64 10) := hr 0 (by simp)
  have r1 : V.cell? ⟨b, 1, none⟩ = some (.int .i64 2) := hr 1 (by simp)
  have r2 : V.cell? ⟨b, 2, none⟩ = some (.int .i64 4) := hr 2 (by simp)
  obtain ⟨V1, hV1⟩ : ∃ V1, Hid ((V.alloc (.cells #[.int .i64 4, .slice (some ⟨b, 3, none⟩) 3 3, .int .i64 2] 42)).drew = V1) := ⟨_, hide rfl⟩
  have hB1 : Below V.heap.size V V1 := by rw [← hV1.out]; exact ((Below.refl _ _).alloc (Nat.le_refl _) _).drew
  have hbx : V1.heap[V.heap.size]? = some (.cells #[.int .i64 4, .slice (some ⟨b, 3, none⟩) 3 3, .int .i64 2] 42 (0, 0)) := by rw [← hV1.out]; exact World.alloc_heap_new V _
  have x0 : V1.cell? ⟨V.heap.size, 0, none⟩ = some (.int .i64 4) ∧ V1.cell? ⟨V.heap.size, 1, none⟩ = some (.slice (some ⟨b, 3, none⟩) 3 3) ∧ V1.cell? ⟨V.heap.size, 2, none⟩ = some (.int .i64 2) := by refine ⟨?_, ?_, ?_⟩ <;> simp [World.cell?, hbx]
  obtain ⟨y0, y1, y2⟩ := x0
  have r0' : V1.cell? ⟨b, 0, none⟩ = some (.int .i64 10) := (hB1.cell (p := ⟨b, 0, none⟩) hb).trans r0
  have HN : Hid (Calls Tryz.prog 24 #[.agg #[.int .i64 4, .slice (some ⟨b, 3, none⟩) 3 3, .int .i64 2], .int .i64 10] V1.drew fun e w' => ∃ p, e = .returned (.tuple #[.pointer (some ⟨p, 0, none⟩), .nilIface]) ∧
      ((w'.cell? ⟨V.heap.size, 0, none⟩ = some (.int .i64 4) ∧ w'.cell? ⟨V.heap.size, 1, none⟩ = some (.slice (some ⟨b, 3, none⟩) 3 3) ∧ w'.cell? ⟨V.heap.size, 2, none⟩ = some (.int .i64 2)) ∧
       (w'.cell? ⟨d, 0, none⟩ = some (.int .i64 0) ∧ w'.cell? ⟨d, 1, none⟩ = some (.slice none 0 0) ∧ w'.cell? ⟨d, 2, none⟩ = some (.int .i64 0) ∧ w'.cell? ⟨d, 3, none⟩ = some (.pointer none)) ∧
       (w'.frozen? ⟨d, 0, none⟩ = false ∧ w'.frozen? ⟨d, 1, none⟩ = false ∧ w'.frozen? ⟨d, 2, none⟩ = false ∧ w'.frozen? ⟨d, 3, none⟩ = false)) ∧
      Hid (∃ D, D.p = p ∧ SyIs w' V.heap.size D L0 10 (sy0 10) ∧ Below V.heap.size V w' ∧ w'.heap[d]? = some (.cells #[.int .i64 0, .slice none 0 0, .int .i64 0, .pointer none, .map (some m)] 167 (0, 0)) ∧ d < V.heap.size)) := hide (by
    have hrow : Row V1.drew b 3 L0.zs := fun k hk => by
      have hk3 : k < 3 := hk
      have h1 := hr (k + 3) (by simp; omega)
      rw [Nat.zero_add, Nat.add_comm] at h1
      refine ((hB1.drew.cell (p := ⟨b, 3 + k, none⟩) hb).trans h1).trans ?_
      rw [Nat.add_comm]
      rfl
    refine (synew_any V.heap.size L0 10 b 3 3 V1.drew L0_ok (by omega) (by omega) (Nat.lt_of_lt_of_le hb hB1.drew.size) hrow hB1.drew.size).mono ?_
    rintro e w' ⟨⟨D, rfl, _, hS⟩, hB⟩
    have hBv : Below V1.heap.size V1 w' := (Below.refl _ _).drew.trans hB
    have hBw : Below V.heap.size V w' := hB1.trans (hBv.mono hB1.size)
    have hvl : V.heap.size < V1.heap.size := blk_lt hbx
    have hdw : w'.heap[d]? = some (.cells #[.int .i64 0, .slice none 0 0, .int .i64 0, .pointer none, .map (some m)] 167 (0, 0)) := (hBw.block d hdl).trans hd
    refine ⟨D.p, rfl, ⟨⟨(hBv.cell (p := ⟨V.heap.size, 0, none⟩) hvl).trans y0, (hBv.cell (p := ⟨V.heap.size, 1, none⟩) hvl).trans y1, (hBv.cell (p := ⟨V.heap.size, 2, none⟩) hvl).trans y2⟩, ?_, ?_⟩, hide ⟨D, rfl, hS, hBw, hdw, hdl⟩⟩
    · refine ⟨?_, ?_, ?_, ?_⟩ <;> simp [World.cell?, hdw]
    · refine ⟨?_, ?_, ?_, ?_⟩ <;> simp [World.frozen?, hdw])
  clear hr hd hB1 hbx
  go_enter Tryz.func93, Tryz.ntmps93
  go_wp2
  go_region
  all_goals
    go_wp2
    rw [hV1.out]
    go_region_with (go_at_call 24; refine HN.out.mono ?_; rintro e w1 ⟨p, rfl, ⟨⟨z0, z1, z2⟩, ⟨d0, d1, d2, d3⟩, f0, f1, f2, f3⟩, hg⟩)
  all_goals
    go_wp2_with fail
    refine (throw_nil _).mono ?_
    rintro e w2 ⟨rfl, rfl⟩
    go_wp2
    go_ret
    exact ⟨rfl, begin_set hg.out⟩
end Go.Proofs.YtaablbmgagiajabGreatDoor
namespace Go.Proofs.YtaablbmgagiajabGreatDoor
open Go.RowKit Go.Deep
variable {N win : Nat} {c : DkC} {D : SC} {L : RC} {S : SY}
theorem isSl_new (w : World) (xs : List Int) (n : Nat) (hn : xs.length = n) : IsSl (w.alloc (.cells (xs.map (Value.int .i64)).toArray 3)) (some ⟨w.heap.size, 0, none⟩) n n xs := by
  refine ⟨hn, Nat.le_refl _, .inr ⟨w.heap.size, 0, rfl, by simp, fun k hk => ?_⟩⟩
  have hb : (w.alloc (.cells (xs.map (Value.int .i64)).toArray 3)).heap[w.heap.size]? = some (.cells (xs.map (Value.int .i64)).toArray 3 (0, 0)) := World.alloc_heap_new w _
  unfold World.cell?
  rw [hb]
  simp [hk]
def confL (L : RC) : List Int := (List.range L.n).map fun k => ((conf L.zs k : Nat) : Int)
set_option maxHeartbeats 2000000 in
theorem conflicts_ord (V : World) (a : Value) (h : DkIs V N c D L win S) (hL : LOk L) (hc : ∀ z ∈ confL L, IntIn z) :
    Calls Tryz.prog 145 #[.pointer (some ⟨c.d, 0, none⟩), a] V fun e V' => e = .returned (.string (txt (spF (confL L)))) ∧ Below V.heap.size V V' := by
  obtain ⟨c0, c1, c2⟩ := h.c0
  have hf := hL.few
  have HC : Hid (Calls Tryz.prog 178 #[.agg #[.int .i64 (L.s : Int), .slice (some ⟨c.g, c.o, none⟩) L.n c.cp, .int .i64 (L.d : Int)]] V fun e w' => ∃ M, e = .returned (.tuple #[.slice (some ⟨M, 0, none⟩) L.n L.n, .nilIface]) ∧ Hid (Below V.heap.size V w' ∧ IsSl w' (some ⟨M, 0, none⟩) L.n L.n (confL L))) := hide (by
    have hk := conf_ok (L.s : Int) (L.d : Int) c.g c.o c.cp L.zs V hL.ok (Nat.lt_of_lt_of_le h.glt h.le) h.row (by rw [hL.len]; exact h.room)
    rw [hL.len] at hk
    refine hk.mono ?_
    rintro e w' ⟨⟨M, hM, rfl, hrow⟩, hB⟩
    refine ⟨M, rfl, hide ⟨hB, by unfold confL; simp, Nat.le_refl _, .inr ⟨M, 0, rfl, hrow.lt, fun k hk => ?_⟩⟩⟩
    have hk2 : k < L.n := by unfold confL at hk; simpa using hk
    rw [Nat.zero_add, hrow.cell hk2]
    unfold confL
    simp [hk2])
  have HN := hide h.num
  clear h
  go_enter Tryz.func145, Tryz.ntmps145
  go_wp2_with (go_at_call 178; refine HC.out.mono ?_; rintro e w1 ⟨M, rfl, hb⟩)
  go_wp2_with fail
  refine (throw_nil _).mono ?_
  rintro e w2 ⟨rfl, rfl⟩
  have HS := hide (spaced_any (confL L) (some ⟨M, 0, none⟩) L.n L.n _ hb.out.2 hc (by omega) (HN.out.below hb.out.1).pow)
  go_wp2_with (go_at_call 182; refine HS.out.mono ?_; rintro e w3 ⟨rfl, hB3⟩)
  go_ret
  exact ⟨rfl, hb.out.1.trans (hB3.mono hb.out.1.size)⟩
set_option maxHeartbeats 2000000 in
theorem most_ord (V : World) (a : Value) (h : DkIs V N c D L win S) (hL : LOk L) (hc : IntIn ((most (confs L.zs) : Nat) : Int)) :
    Calls Tryz.prog 152 #[.pointer (some ⟨c.d, 0, none⟩), a] V fun e V' => e = .returned (.string (txt (spF [((most (confs L.zs) : Nat) : Int)]))) ∧ Below V.heap.size V V' := by
  obtain ⟨c0, c1, c2⟩ := h.c0
  have HC := hide (most_n (L.s : Int) (L.d : Int) c.g c.o L.n c.cp L.zs V hL.len hL.ok (Nat.lt_of_lt_of_le h.glt h.le) h.row h.room)
  have HN := hide h.num
  clear h
  generalize hq : ((most (confs L.zs) : Nat) : Int) = q at hc HC ⊢
  go_enter Tryz.func152, Tryz.ntmps152
  go_wp2_with (go_at_call 184; refine HC.out.mono ?_; rintro e w1 ⟨rfl, hB1⟩)
  go_wp2_with fail
  refine (throw_nil _).mono ?_
  rintro e w2 ⟨rfl, rfl⟩
  have HS := hide (spaced_any [q] (some ⟨w2.heap.size, 0, none⟩) 1 1 _ (isSl_new w2 [q] 1 rfl) (by intro z hz; simp only [List.mem_cons, List.not_mem_nil, or_false] at hz; rw [hz]; exact hc) (by omega) ((HN.out.below hB1).below ((Below.refl _ _).alloc (Nat.le_refl _) _)).pow)
  have hB2 : Below V.heap.size V (w2.alloc (.cells #[.int .i64 q] 3)) := hB1.trans (((Below.refl _ _).alloc (Nat.le_refl _) _).mono hB1.size)
  go_wp2_with (go_at_call 182; refine HS.out.mono ?_; rintro e w3 ⟨rfl, hB3⟩)
  go_ret
  exact ⟨rfl, hB2.trans (hB3.mono hB2.size)⟩
def showF (v : VS) : List UInt8 := spF [shownF v, (v.out : Int)] ++ [32] ++ Lib.formatBool v.lat
set_option maxHeartbeats 4000000 in
set_option maxRecDepth 100000 in
theorem show_ord (V : World) (a : Value) (h : DkIs V N c D L win S) (hok : VOk win S.v) (hs : IntIn (shownF S.v)) (ho : IntIn (S.v.out : Int)) :
    Calls Tryz.prog 155 #[.pointer (some ⟨c.d, 0, none⟩), a] V fun e V' => e = .returned (.string (txt (showF S.v))) ∧ Below V.heap.size V V' := by
  have HH : Hid (∀ W, Below V.heap.size V W → DkIs W N c D L win S) := hide fun W hB => h.below hB
  have c3 := h.c3
  have hSd : V.drew.cell? ⟨c.d, 3, none⟩ = some (.pointer (some ⟨D.p, 0, none⟩)) := by simpa using c3
  have HOK := hide hok
  obtain ⟨q1, hq1⟩ : ∃ q, Hid (shownF S.v = q) := ⟨_, hide rfl⟩
  obtain ⟨q2, hq2⟩ : ∃ q, Hid ((S.v.out : Int) = q) := ⟨_, hide rfl⟩
  obtain ⟨bl, hbl⟩ : ∃ q, Hid (S.v.lat = q) := ⟨_, hide rfl⟩
  have HI : Hid (∀ z ∈ [q1, q2], IntIn z) := hide (by
    intro z hz
    simp only [List.mem_cons, List.not_mem_nil, or_false] at hz
    rcases hz with rfl | rfl
    · rw [← hq1.out]; exact hs
    · rw [← hq2.out]; exact ho)
  have hl2 : ¬ 9223372036854775807 < (spF [q1, q2]).length + 1 := by
    have := join_few [q1, q2] HI.out
    simp at this
    omega
  have hl3 : ¬ 9223372036854775807 < (spF [q1, q2]).length + 1 + (Lib.formatBool bl).length := by
    have := join_few [q1, q2] HI.out
    simp at this
    have hfb : (Lib.formatBool bl).length ≤ 5 := by cases bl <;> decide
    omega
  have HT : Hid (showF S.v = spF [q1, q2] ++ [32] ++ Lib.formatBool bl) := hide (by unfold showF; rw [hq1.out, hq2.out, hbl.out])
  clear h hok hs ho
  go_enter Tryz.func155, Tryz.ntmps155
  go_wp2
  refine wp_region_held_drew (S := fun W => W.cell? ⟨c.d, 3, none⟩ = some (.pointer (some ⟨D.p, 0, none⟩))) (by kernel_rfl) hSd (fun hHeld => ?_)
  refine wpAnyH_take (i := 0) (oi := _) (v := .pointer (some ⟨c.d, 0, none⟩)) rfl (by kernel_rfl) (by kernel_rfl) (by kernel_rfl) (fun _ _ _ h => h) (Or.inl ⟨by rfl, fun w _ => by go_simp⟩) hHeld ?_
  simp only [Act.put, List.getElem_toArray, List.getElem_cons_zero, List.setIfInBounds_toArray, List.set_cons_succ, List.set_cons_zero]
  refine wpAnyH_take (i := 1) (oi := _) (v := .pointer (some ⟨c.d, 0, none⟩)) rfl (by kernel_rfl) (by kernel_rfl) (by kernel_rfl) (fun _ _ _ h => h) (Or.inl ⟨by rfl, fun w _ => by go_simp⟩) hHeld ?_
  simp only [Act.put, List.getElem_toArray, List.getElem_cons_succ, List.getElem_cons_zero, List.setIfInBounds_toArray, List.set_cons_succ, List.set_cons_zero]
  refine wpAnyH_take (i := 2) (oi := _) (v := .pointer (some ⟨c.d, 3, none⟩)) rfl (by kernel_rfl) (by kernel_rfl) (by kernel_rfl) (fun _ _ _ h => h) (Or.inl ⟨by rfl, fun w _ => by go_simp⟩) hHeld ?_
  simp only [Act.put, List.getElem_toArray, List.getElem_cons_succ, List.getElem_cons_zero, List.setIfInBounds_toArray, List.set_cons_succ, List.set_cons_zero]
  refine wpAnyH_take (i := 3) (oi := _) (v := .pointer (some ⟨D.p, 0, none⟩)) rfl (by kernel_rfl) (by kernel_rfl) (by kernel_rfl) (fun _ _ _ h => h) (Or.inl ⟨by rfl, fun w h => by go_simp⟩) hHeld ?_
  simp only [Act.put, List.getElem_toArray, List.getElem_cons_succ, List.getElem_cons_zero, List.setIfInBounds_toArray, List.set_cons_succ, List.set_cons_zero]
  refine wpAnyH_take (i := 5) (oi := _) (v := .pointer (some ⟨c.d, 0, none⟩)) rfl (by kernel_rfl) (by kernel_rfl) (by kernel_rfl) (fun _ _ _ h => h) (Or.inl ⟨by rfl, fun w _ => by go_simp⟩) hHeld ?_
  simp only [Act.put, List.getElem_toArray, List.getElem_cons_succ, List.getElem_cons_zero, List.setIfInBounds_toArray, List.set_cons_succ, List.set_cons_zero]
  refine wpAnyH_take (i := 6) (oi := _) (v := .pointer (some ⟨c.d, 0, none⟩)) rfl (by kernel_rfl) (by kernel_rfl) (by kernel_rfl) (fun _ _ _ h => h) (Or.inl ⟨by rfl, fun w _ => by go_simp⟩) hHeld ?_
  simp only [Act.put, List.getElem_toArray, List.getElem_cons_succ, List.getElem_cons_zero, List.setIfInBounds_toArray, List.set_cons_succ, List.set_cons_zero]
  refine wpAnyH_take (i := 7) (oi := _) (v := .pointer (some ⟨c.d, 3, none⟩)) rfl (by kernel_rfl) (by kernel_rfl) (by kernel_rfl) (fun _ _ _ h => h) (Or.inl ⟨by rfl, fun w _ => by go_simp⟩) hHeld ?_
  simp only [Act.put, List.getElem_toArray, List.getElem_cons_succ, List.getElem_cons_zero, List.setIfInBounds_toArray, List.set_cons_succ, List.set_cons_zero]
  refine wpAnyH_take (i := 8) (oi := _) (v := .pointer (some ⟨D.p, 0, none⟩)) rfl (by kernel_rfl) (by kernel_rfl) (by kernel_rfl) (fun _ _ _ h => h) (Or.inl ⟨by rfl, fun w h => by go_simp⟩) hHeld ?_
  simp only [Act.put, List.getElem_toArray, List.getElem_cons_succ, List.getElem_cons_zero, List.setIfInBounds_toArray, List.set_cons_succ, List.set_cons_zero]
  refine wpAnyH_take (i := 13) (oi := _) (v := .pointer (some ⟨c.d, 0, none⟩)) rfl (by kernel_rfl) (by kernel_rfl) (by kernel_rfl) (fun _ _ _ h => h) (Or.inl ⟨by rfl, fun w _ => by go_simp⟩) hHeld ?_
  simp only [Act.put, List.getElem_toArray, List.getElem_cons_succ, List.getElem_cons_zero, List.setIfInBounds_toArray, List.set_cons_succ, List.set_cons_zero]
  refine wpAnyH_take (i := 14) (oi := _) (v := .pointer (some ⟨c.d, 0, none⟩)) rfl (by kernel_rfl) (by kernel_rfl) (by kernel_rfl) (fun _ _ _ h => h) (Or.inl ⟨by rfl, fun w _ => by go_simp⟩) hHeld ?_
  simp only [Act.put, List.getElem_toArray, List.getElem_cons_succ, List.getElem_cons_zero, List.setIfInBounds_toArray, List.set_cons_succ, List.set_cons_zero]
  refine wpAnyH_take (i := 15) (oi := _) (v := .pointer (some ⟨c.d, 3, none⟩)) rfl (by kernel_rfl) (by kernel_rfl) (by kernel_rfl) (fun _ _ _ h => h) (Or.inl ⟨by rfl, fun w _ => by go_simp⟩) hHeld ?_
  simp only [Act.put, List.getElem_toArray, List.getElem_cons_succ, List.getElem_cons_zero, List.setIfInBounds_toArray, List.set_cons_succ, List.set_cons_zero]
  refine wpAnyH_take (i := 16) (oi := _) (v := .pointer (some ⟨D.p, 0, none⟩)) rfl (by kernel_rfl) (by kernel_rfl) (by kernel_rfl) (fun _ _ _ h => h) (Or.inl ⟨by rfl, fun w h => by go_simp⟩) hHeld ?_
  simp only [Act.put, List.getElem_toArray, List.getElem_cons_succ, List.getElem_cons_zero, List.setIfInBounds_toArray, List.set_cons_succ, List.set_cons_zero]
  refine wpAnyH_ready (rs := [4]) (by kernel_rfl) (by simp) ?_
  refine AllReadyH.cons (o := _) rfl (fun K hK => ?_) AllReadyH.nil
  rw [if_pos (by rfl)]
  go_simp
  go_at_call 15
  refine (sshown_any N D L win S _ (HH.out _ (Below.refl _ _).drew).sys HOK.out).mono ?_
  rintro e w1 ⟨rfl, hB1⟩
  rw [hq1.out]
  dsimp only
  have HB1 := hide ((Below.refl _ _).drew.trans hB1 : Below V.heap.size V w1)
  clear hB1
  refine hK.out _ _ (HH.out w1 HB1.out).c3 (fun hHeld => ?_)
  clear hK K
  refine wpAnyH_ready (rs := [9]) (by kernel_rfl) (by simp) ?_
  refine AllReadyH.cons (o := _) rfl (fun K hK => ?_) AllReadyH.nil
  rw [if_pos (by rfl)]
  go_simp
  go_at_call 17
  refine (sout_any N D L win S _ (HH.out w1 HB1.out).sys).mono ?_
  rintro e w2 ⟨rfl, rfl⟩
  rw [hq2.out]
  dsimp only
  refine hK.out _ _ (HH.out _ HB1.out).c3 (fun hHeld => ?_)
  clear hK K
  refine wpAnyH_ready (rs := [10]) (by kernel_rfl) (by simp) ?_
  refine AllReadyH.cons (o := _) rfl (fun K hK => ?_) AllReadyH.nil
  rw [if_pos (by rfl)]
  go_simp
  have HB2 : Hid (Below V.heap.size V (w2.alloc (.cells #[.int .i64 q1, .int .i64 q2] 3))) := hide (HB1.out.trans (((Below.refl _ _).alloc (Nat.le_refl _) _).mono HB1.out.size))
  have HP : Hid (Calls Tryz.prog 182 #[.slice (some ⟨w2.heap.size, 0, none⟩) 2 2] (w2.alloc (.cells #[.int .i64 q1, .int .i64 q2] 3)) fun e w' => e = .returned (.string (txt (spF [q1, q2]))) ∧ Hid (Below V.heap.size V w')) := hide (by
    refine (spaced_any [q1, q2] (some ⟨w2.heap.size, 0, none⟩) 2 2 _ (isSl_new w2 [q1, q2] 2 rfl) HI.out (by omega) (HH.out _ HB2.out).num.pow).mono ?_
    rintro e w' ⟨rfl, hB⟩
    exact ⟨rfl, hide (HB2.out.trans (hB.mono HB2.out.size))⟩)
  refine hK.out _ _ (HH.out _ HB2.out).c3 (fun hHeld => ?_)
  clear hK K
  refine wpAnyH_ready (rs := [11]) (by kernel_rfl) (by simp) ?_
  refine AllReadyH.cons (o := _) rfl (fun K hK => ?_) AllReadyH.nil
  rw [if_pos (by rfl)]
  go_simp
  go_at_call 182
  refine HP.out.mono ?_
  rintro e w3 ⟨rfl, HB3⟩
  dsimp only
  refine hK.out _ _ (HH.out _ HB3.out).c3 (fun hHeld => ?_)
  clear hK K HP
  refine wpAnyH_take (i := 12) (oi := _) (v := .string (txt (spF [q1, q2]) ++ ⟨#[32]⟩)) rfl (by kernel_rfl) (by kernel_rfl) (by kernel_rfl) (fun _ _ _ h => h) (Or.inl ⟨by rfl, fun w _ => by go_simp⟩) hHeld ?_
  simp only [Act.put, List.getElem_toArray, List.getElem_cons_succ, List.getElem_cons_zero, List.setIfInBounds_toArray, List.set_cons_succ, List.set_cons_zero]
  refine wpAnyH_ready (rs := [17]) (by kernel_rfl) (by simp) ?_
  refine AllReadyH.cons (o := _) rfl (fun K hK => ?_) AllReadyH.nil
  rw [if_pos (by rfl)]
  go_simp
  go_at_call 14
  refine (slatched_any N D L win S _ (HH.out _ HB3.out).sys).mono ?_
  rintro e w4 ⟨rfl, rfl⟩
  rw [hbl.out]
  dsimp only
  refine hK.out _ _ (HH.out _ HB3.out).c3 (fun hHeld => ?_)
  clear hK K
  refine wpAnyH_ready (rs := [18]) (by kernel_rfl) (by simp) ?_
  refine AllReadyH.cons (o := _) rfl (fun K hK => ?_) AllReadyH.nil
  rw [if_pos (by rfl)]
  go_simp
  go_at_call 185
  refine (Tryz.strconv_FormatBool bl _).mono ?_
  rintro e w5 ⟨rfl, rfl⟩
  dsimp only
  refine hK.out _ _ (HH.out _ HB3.out).c3 (fun hHeld => ?_)
  clear hK K
  refine wpAnyH_take (i := 19) (oi := _) (v := .string (txt (spF [q1, q2]) ++ ⟨#[32]⟩ ++ ⟨(Lib.formatBool bl).toArray⟩)) rfl (by kernel_rfl) (by kernel_rfl) (by kernel_rfl) (fun _ _ _ h => h) (Or.inl ⟨by rfl, fun w _ => by go_simp⟩) hHeld ?_
  simp only [Act.put, List.getElem_toArray, List.getElem_cons_succ, List.getElem_cons_zero, List.setIfInBounds_toArray, List.set_cons_succ, List.set_cons_zero]
  refine wpAnyH_take (i := 20) (oi := _) (v := .string (txt (spF [q1, q2]) ++ ⟨#[32]⟩ ++ ⟨(Lib.formatBool bl).toArray⟩)) rfl (by kernel_rfl) (by kernel_rfl) (by kernel_rfl) (fun _ _ _ h => h) (Or.inl ⟨by rfl, fun w _ => by go_simp⟩) hHeld ?_
  simp only [Act.put, List.getElem_toArray, List.getElem_cons_succ, List.getElem_cons_zero, List.setIfInBounds_toArray, List.set_cons_succ, List.set_cons_zero]
  refine wpAnyH_done (by kernel_rfl) ?_ _
  go_wp2
  go_ret
  refine ⟨?_, HB3.out⟩
  rw [HT.out, ← txt_add, ← txt_add]
  rfl
end Go.Proofs.YtaablbmgagiajabGreatDoor
