import Derived.Test.YtaablbmgagiajabGreatDoorKGAJ
import Derived.Deep.MidRow
import Derived.Deep.QuietTactic
import Derived.BigQuiet
import Derived.Great.BuildSlice
import Derived.Deep.RegionWith
import Derived.Deep.RegionHeld3
import Derived.Deep.RegionLaw
import Derived.Deep.CutRange
import Derived.Lib.SliceRun
import Derived.Laws.CopyOwn
import Derived.BigRegion
import Derived.OrdersHeld
import Derived.Laws.EntriesVeiled
import Derived.Deep.LoopGhost
import Derived.Deep.RegionHeld
namespace Go.Proofs.YtaablbmgagiajabGreatDoor
open Go.RowKit Go.Deep
set_option maxHeartbeats 2000000 in
theorem layout_any (p : Nat) (s d : Int) (n : Nat) (zs : List Int) (g cg M : Nat) (w : World) (hK : CoreIs w p s d n zs g cg M) :
    Calls Tryz.prog 135 #[.pointer (some ⟨p, 0, none⟩)] w fun e w' =>
      (∃ g2 c2, w.heap.size ≤ g2 ∧ n ≤ c2 ∧ e = .returned (.agg #[.int .i64 s, .slice (some ⟨g2, 0, none⟩) n c2, .int .i64 d]) ∧ g2 < w'.heap.size ∧ Row w' g2 0 zs) ∧ Below w.heap.size w w' := by
  obtain ⟨f1, f8, fs1, fs2, fd1, fd2⟩ := hK.few
  have hpl := hK.plt
  have k0 : w.cell? ⟨p, 0, none⟩ = some (.int .i64 s) := by rw [blk_cell hK.blk]; rfl
  have k1 : w.cell? ⟨p, 1, none⟩ = some (.slice (some ⟨g, 0, none⟩) n cg) := by rw [blk_cell hK.blk]; rfl
  have k2 : w.cell? ⟨p, 2, none⟩ = some (.int .i64 d) := by rw [blk_cell hK.blk]; rfl
  have hcl : ∀ wx, Below w.heap.size w wx → Calls Tryz.prog 64 #[.slice (some ⟨g, 0, none⟩) n cg] wx fun e w' =>
      (∃ g2 c2, wx.heap.size ≤ g2 ∧ g2 < w'.heap.size ∧ n ≤ c2 ∧ e = .returned (.slice (some ⟨g2, 0, none⟩) n c2) ∧ Row w' g2 0 zs) ∧ Below wx.heap.size wx w' :=
    fun wx hx => clone_any g 0 n cg zs wx hK.len (by omega) f8 (Nat.lt_of_lt_of_le hK.glt hx.size) (hK.row.below hK.glt hx)
  have HCL := hide hcl
  clear hcl hK
  go_enter Tryz.func135, Tryz.ntmps135
  go_wp2_with fail
  have hB0 : Below w.heap.size w ((w.alloc (.cells #[.int .i64 0, .slice none 0 0, .int .i64 0] 42)).alloc (.cells #[.int .i64 s, .slice (some ⟨g, 0, none⟩) n cg, .int .i64 d] 42)) := ((Below.refl _ _).alloc (Nat.le_refl _) _).alloc (by simp) _
  refine (unhide HCL _ hB0).mono ?_
  rintro e w2 ⟨⟨g2, c2, h1, h2, h3, rfl, hrow⟩, hB2⟩
  have hn2 : w.heap.size + 2 ≤ w2.heap.size := by have := hB2.size; simp at this; omega
  have q0 : w2.heap[w.heap.size]? = some (.cells #[.int .i64 0, .slice none 0 0, .int .i64 0] 42 (0, 0)) := (hB2.block _ (by simp; omega)).trans ((Below.heap_alloc _ _ _ (by simp)).trans (blk_new _ _))
  have q1 : w2.heap[w.heap.size + 1]? = some (.cells #[.int .i64 s, .slice (some ⟨g, 0, none⟩) n cg, .int .i64 d] 42 (0, 0)) := by
    refine (hB2.block _ (by simp)).trans ?_
    have := blk_new (w.alloc (.cells #[.int .i64 0, .slice none 0 0, .int .i64 0] 42)) (.cells #[.int .i64 s, .slice (some ⟨g, 0, none⟩) n cg, .int .i64 d] 42)
    simpa using this
  have r0 : w2.cell? ⟨w.heap.size, 0, none⟩ = some (.int .i64 0) := by rw [blk_cell q0]; rfl
  have r1 : w2.cell? ⟨w.heap.size, 1, none⟩ = some (.slice none 0 0) := by rw [blk_cell q0]; rfl
  have r2 : w2.cell? ⟨w.heap.size, 2, none⟩ = some (.int .i64 0) := by rw [blk_cell q0]; rfl
  have l0 : w2.cell? ⟨w.heap.size + 1, 0, none⟩ = some (.int .i64 s) := by rw [blk_cell q1]; rfl
  have l1 : w2.cell? ⟨w.heap.size + 1, 1, none⟩ = some (.slice (some ⟨g, 0, none⟩) n cg) := by rw [blk_cell q1]; rfl
  have l2 : w2.cell? ⟨w.heap.size + 1, 2, none⟩ = some (.int .i64 d) := by rw [blk_cell q1]; rfl
  have fr0 : w2.frozen? ⟨w.heap.size, 0, none⟩ = false := blk_free q0 0
  have fr1 : w2.frozen? ⟨w.heap.size, 1, none⟩ = false := blk_free q0 1
  have fr2 : w2.frozen? ⟨w.heap.size, 2, none⟩ = false := blk_free q0 2
  have fl1 : w2.frozen? ⟨w.heap.size + 1, 1, none⟩ = false := blk_free q1 1
  have HB2 := hide (hB0.trans (hB2.mono (by simp; omega)))
  have HROW := hide hrow
  have h1' : w.heap.size + 2 ≤ g2 := by simp at h1; omega
  clear hB0 hB2 hrow HCL q0 q1 h1
  go_wp2
  refine bodyPost_ret (v := .agg #[.int .i64 s, .slice (some ⟨g2, 0, none⟩) n c2, .int .i64 d]) (by simp [results, Tryz.results135, go_sem, r0, r1, r2]) rfl ⟨⟨g2, c2, by omega, h3, rfl, ?_, ?_⟩, ?_⟩
  · simp [World.setCell]; exact h2
  · intro k hk
    refine Eq.trans (World.cell?_of_block (w := w2) ?_) (HROW.out k hk)
    rw [Below.heap_setCell _ _ _ _ (by show g2 ≠ w.heap.size; omega), Below.heap_setCell _ _ _ _ (by show g2 ≠ w.heap.size; omega), Below.heap_setCell _ _ _ _ (by show g2 ≠ w.heap.size; omega), Below.heap_setCell _ _ _ _ (by show g2 ≠ w.heap.size + 1; omega)]
  · exact (((HB2.out.setCell (by show w.heap.size ≤ w.heap.size + 1; omega) _).setCell (Nat.le_refl _) _).setCell (Nat.le_refl _) _).setCell (Nat.le_refl _) _
def new0 (id : Nat) : RS := ⟨id, 0, 0, 0, st0, 0, 0, fun _ => smp0, fun _ _ => 0⟩
theorem BIs_new (w : World) (C : RC) (R : RS) : BIs (w.alloc (.cells ((List.range 93).map (rpF C R)).toArray 160)) w.heap.size 160 93 (rpF C R) :=
  ⟨_, blk_new _ _, by simp, fun k hk => by simp [hk]⟩
set_option maxHeartbeats 2000000 in
set_option maxRecDepth 20000 in
theorem rnew_ok (id s d b off n cap : Nat) (zs : List Int) (w : World) (hid : id < 3) (hn : zs.length = n) (hok : checkF (s : Int) zs (d : Int) = (0, -1)) (hb : b < w.heap.size) (hc : Row w b off zs) (hcap : n ≤ cap) :
    Calls Tryz.prog 80 #[.int .i64 (id : Int), .agg #[.int .i64 (s : Int), .slice (some ⟨b, off, none⟩) n cap, .int .i64 (d : Int)]] w fun e w' =>
      (∃ p C, w.heap.size ≤ p ∧ w.heap.size ≤ C.pc ∧ w.heap.size ≤ C.g ∧ w.heap.size ≤ C.M ∧ w.heap.size ≤ C.g2 ∧ C.s = s ∧ C.d = d ∧ C.n = n ∧ C.zs = zs ∧ e = .returned (.tuple #[.pointer (some ⟨p, 0, none⟩), .nilIface]) ∧ RpIs w' p C (new0 id)) ∧ Below w.heap.size w w' := by
  have hB0 : Below w.heap.size w (w.alloc (.cells #[.int .i64 (s : Int), .slice (some ⟨b, off, none⟩) n cap, .int .i64 (d : Int)] 42)) := (Below.refl _ _).alloc (Nat.le_refl _) _
  have hcn := new_ok (s : Int) (d : Int) b off n cap zs _ hn hok (by simp; omega) (hc.below hb hB0) hcap
  have hrep : isRep (id : Int) = true := by unfold isRep; simp; omega
  have HCN := hide hcn
  have HB0 := hide hB0
  clear hcn hB0 hc
  go_enter Tryz.func80, Tryz.ntmps80
  go_wp2_with fail
  refine HCN.out.mono ?_
  rintro e w1 ⟨⟨pc, g, cg, M, h1, h2, h3, rfl, hK⟩, hB1⟩
  simp at h1 h2 h3
  have hBw : Below w.heap.size w w1 := HB0.out.trans (hB1.mono (by simp))
  have hly := layout_any pc (s : Int) (d : Int) n zs g cg M w1 hK
  have HLY := hide hly
  have HK := hide hK
  have HBW := hide hBw
  clear hly hK hBw hB1 HCN
  go_wp2_with (go_at_call 134; refine (isReplica_any _ _).mono ?_; rintro e wz ⟨rfl, hwz⟩; rw [hrep, hwz])
  refine HLY.out.mono ?_
  rintro e w2 ⟨⟨g2, c2, q1, q2, rfl, q3, q4⟩, hB2⟩
  have hs2 : w1.heap.size ≤ w2.heap.size := hB2.size
  have hs1 : w.heap.size ≤ w1.heap.size := HBW.out.size
  have HR : Hid (RpIs (w2.alloc (.cells ((List.range 93).map (rpF ⟨s, d, n, zs, pc, g, cg, M, g2, c2⟩ (new0 id))).toArray 160)) w2.heap.size ⟨s, d, n, zs, pc, g, cg, M, g2, c2⟩ (new0 id)) := hide (by
    have hB3 : Below w2.heap.size w2 (w2.alloc (.cells ((List.range 93).map (rpF ⟨s, d, n, zs, pc, g, cg, M, g2, c2⟩ (new0 id))).toArray 160)) := (Below.refl _ _).alloc (Nat.le_refl _) _
    have l1 := HK.out.plt
    have l2 := HK.out.glt
    have l3 := HK.out.mlt
    have hK2 := HK.out.below l1 l2 l3 hB2
    exact ⟨BIs_new _ _ _, hK2.below (by omega) (by omega) (by omega) hB3, q4.below q3 hB3, Nat.lt_of_lt_of_le q3 hB3.size, q2, by show w2.heap.size ≠ pc; omega, by show w2.heap.size ≠ g; omega, by show w2.heap.size ≠ M; omega, by show w2.heap.size ≠ g2; omega⟩)
  have HB : Hid (Below w.heap.size w (w2.alloc (.cells ((List.range 93).map (rpF ⟨s, d, n, zs, pc, g, cg, M, g2, c2⟩ (new0 id))).toArray 160))) := hide ((HBW.out.trans (hB2.mono hs1)).alloc (by omega) _)
  clear hB2 q4
  go_wp2
  go_ret2
  exact ⟨⟨w2.heap.size, ⟨s, d, n, zs, pc, g, cg, M, g2, c2⟩, by omega, by show _ ≤ pc; omega, by show _ ≤ g; omega, by show _ ≤ M; omega, by show _ ≤ g2; omega, rfl, rfl, rfl, rfl, rfl, HR.out⟩, HB.out⟩
structure Pk where
  src : Nat
  dst : Nat
  b : List Nat
structure SY where
  rp : Nat → RS
  v : VS
  net : List Pk
def pkAt (l : List Pk) (i : Nat) : Pk := l[i]?.getD ⟨0, 0, []⟩
def inSt (L : RC) (X : St) (c v : Int) : St := nextF (rt L.zs) (conf L.zs) L.n L.d (fitN L.s c) (fitN L.n v) X
def outOf (L : RC) (X : St) (c v : Int) : Nat := outF (rt L.zs) (conf L.zs) L.n L.d (fitN L.s c) (fitN L.n v) X
def stOf (L : RC) : List Cm → St → St
  | [], X => X
  | d :: r, X => stOf L r (inSt L X d.c d.v)
def stAt (L : RC) (tr : List Cm) (n : Nat) : St := stOf L (tr.take n) st0
structure LOk (L : RC) : Prop where
  ok : checkF (L.s : Int) L.zs (L.d : Int) = (0, -1)
  len : L.zs.length = L.n
theorem LOk.few {L : RC} (h : LOk L) : 1 ≤ L.s ∧ L.s ≤ 12 ∧ 1 ≤ L.n ∧ L.n ≤ 8 ∧ L.d ≤ 20 := by
  have hr := range_pos h.ok
  unfold rangeB at hr
  simp only [Bool.and_eq_true, inB_iff] at hr
  have := h.len
  omega
set_option maxHeartbeats 1000000 in
theorem latched_any (N p win : Nat) (tv : Value) (S : VS) (w : World) (h : VIs w N p win tv S) :
    Calls Tryz.prog 43 #[.pointer (some ⟨p, 0, none⟩)] w fun e w' => e = .returned (.bool S.lat) ∧ w' = w := by
  have hc := h.at 16
  rw [show (vCells tv win S)[16]? = some (.bool S.lat) from rfl] at hc
  clear h
  go_enter Tryz.func43, Tryz.ntmps43
  go_wp2
  go_ret
  exact ⟨rfl, rfl⟩
set_option maxHeartbeats 1000000 in
theorem out_any (N p win : Nat) (tv : Value) (S : VS) (w : World) (h : VIs w N p win tv S) :
    Calls Tryz.prog 48 #[.pointer (some ⟨p, 0, none⟩)] w fun e w' => e = .returned (.int .i64 (S.out : Int)) ∧ w' = w := by
  have hc := h.at 15
  rw [show (vCells tv win S)[15]? = some (.int .i64 (S.out : Int)) from rfl] at hc
  clear h
  go_enter Tryz.func48, Tryz.ntmps48
  go_wp2
  go_ret
  exact ⟨rfl, rfl⟩
set_option maxHeartbeats 1000000 in
theorem shown_any (N p win : Nat) (tv : Value) (S : VS) (w : World) (h : VIs w N p win tv S) (hok : VOk win S) :
    Calls Tryz.prog 44 #[.pointer (some ⟨p, 0, none⟩)] w fun e w' => e = .returned (.int .i64 (shownF S)) ∧ Below w.heap.size w w' := by
  have hc := h.at 16
  rw [show (vCells tv win S)[16]? = some (.bool S.lat) from rfl] at hc
  have c0 := h.at 0
  rw [show (vCells tv win S)[0]? = some tv from rfl] at c0
  cases hl : S.lat
  · rw [hl] at hc
    have hf := hok.few
    by_cases h0 : S.tr.length = 0
    · have e : shownF S = 0 := by unfold shownF; rw [hl, h0]; rfl
      rw [e]
      obtain ⟨a, cap, rfl⟩ := h.row.shape
      rw [h0] at c0
      clear h hl hok e
      go_enter Tryz.func44, Tryz.ntmps44
      go_wp2
      go_ret
      exact ⟨rfl, Below.refl _ _⟩
    · obtain ⟨g, cap, rfl, _, _, hcap⟩ := h.row.has (by omega)
      obtain ⟨m, hm⟩ : ∃ m, S.tr.length = m + 1 := ⟨S.tr.length - 1, by omega⟩
      have c1 := h.row.range (k := m) (by omega) 2 _ rfl
      have e : shownF S = (cmAt S.tr m).o := by unfold shownF; rw [hl, hm]; rfl
      rw [e]
      rw [hm] at c0 hcap hf
      generalize (cmAt S.tr m).o = z at c1
      clear h hl hok e hm h0
      go_enter Tryz.func44, Tryz.ntmps44
      go_wp2_with fail
      go_quiet (fail)
      go_wp2
      go_ret
      exact ⟨rfl, ⟨rfl, rfl, rfl, Nat.le_refl _, fun _ _ => rfl⟩⟩
  · have e : shownF S = 0 := by unfold shownF; rw [hl]; rfl
    rw [e]
    rw [hl] at hc
    clear h hl hok e c0
    go_enter Tryz.func44, Tryz.ntmps44
    go_wp2
    go_ret
    exact ⟨rfl, Below.refl _ _⟩
set_option maxHeartbeats 1000000 in
theorem vnew_ok (win : Nat) (w : World) (h1 : 1 ≤ win) (h2 : win ≤ 20) :
    Calls Tryz.prog 65 #[.int .i64 (win : Int)] w fun e w' => e = .returned (.tuple #[.pointer (some ⟨w.heap.size, 0, none⟩), .nilIface]) ∧ VIs w' w.heap.size w.heap.size win (.slice none 0 0) (vs0 win) ∧ w'.heap.size = w.heap.size + 1 ∧ Below w.heap.size w w' := by
  go_enter Tryz.func65, Tryz.ntmps65
  go_wp2
  go_ret2
  exact ⟨rfl, ⟨blk_new _ _, World.ownsRow_nil _ _ _ _, Nat.le_refl _⟩, by simp, (Below.refl _ _).alloc (Nat.le_refl _) _⟩
def BytesIs (w : World) (u : Value) (l : List Nat) : Prop := (∀ x ∈ l, x < 256) ∧ ∃ a cap, u = .slice a l.length cap ∧ l.length ≤ cap ∧ (l = [] ∨ ∃ g off cs, a = some ⟨g, off, none⟩ ∧ w.heap[g]? = some (.cells cs 5 (0, 0)) ∧ ∀ i, i < l.length → cs[off + i]? = some (.int .u8 ((l[i]?.getD 0 : Nat) : Int)))
def TyAt (w : World) (k t : Nat) : Prop := ∃ cs f, w.heap[k]? = some (.cells cs t f)
theorem TyAt.ne {w : World} {a b s t : Nat} (h1 : TyAt w a s) (h2 : TyAt w b t) (h : s ≠ t) : a ≠ b := by
  obtain ⟨_, _, h1⟩ := h1
  obtain ⟨_, _, h2⟩ := h2
  exact type_ne h1 h2 h
theorem TyAt.lt {w : World} {a s : Nat} (h : TyAt w a s) : a < w.heap.size := by obtain ⟨_, _, h⟩ := h; exact blk_lt h
theorem BytesIs.mod {w w' : World} {u : Value} {l : List Nat} {T : Nat → Prop} (h : BytesIs w u l) (hm : Mod w w' T) (hT : ∀ k, T k → ¬ TyAt w k 5) : BytesIs w' u l := by
  obtain ⟨h1, a, cap, rfl, h2, h3⟩ := h
  refine ⟨h1, a, cap, rfl, h2, ?_⟩
  rcases h3 with h3 | ⟨g, off, cs, rfl, h4, h5⟩
  · exact .inl h3
  · exact .inr ⟨g, off, cs, rfl, (hm.block g (blk_lt h4) (fun ht => hT g ht ⟨_, _, h4⟩)).trans h4, h5⟩
def pkC (p : Pk) (u : Value) : List Value := [.int .i64 (p.src : Int), .int .i64 (p.dst : Int), u]
def pkL : List Pk → List Value → List Value
  | [], _ => []
  | p :: r, us => pkC p (us.headD undef) ++ pkL r us.tail
structure NetIs (w : World) (N : Nat) (nv : Value) (l : List Pk) (us : List Value) : Prop where
  row : w.ownsRow N 134 3 nv l.length (pkL l us)
  len : us.length = l.length
  byt : ∀ i, i < l.length → BytesIs w (us[i]?.getD undef) (pkAt l i).b
structure SC where
  p : Nat
  g0 : Nat
  c0 : Nat
  rp : Nat → Nat
  C : Nat → RC
  vp : Nat
  tv : Value
  nv : Value
  us : List Value
  lost : Int
def syCells (D : SC) (L : RC) : Array Value := #[.int .i64 (L.s : Int), .slice (some ⟨D.g0, 0, none⟩) L.n D.c0, .int .i64 (L.d : Int), .pointer (some ⟨D.rp 0, 0, none⟩), .pointer (some ⟨D.rp 1, 0, none⟩), .pointer (some ⟨D.rp 2, 0, none⟩), .pointer (some ⟨D.vp, 0, none⟩), D.nv, .int .i64 D.lost]
def Wr (D : SC) (k : Nat) : Prop := k = D.p ∨ D.nv.ownBlock = some k ∨ (∃ j, j < 3 ∧ k = D.rp j) ∨ k = D.vp ∨ D.tv.ownBlock = some k
def Sta (D : SC) (k : Nat) : Prop := k = D.g0 ∨ ∃ j, j < 3 ∧ (k = (D.C j).pc ∨ k = (D.C j).g ∨ k = (D.C j).M ∨ k = (D.C j).g2)
structure LineIs (C L : RC) : Prop where
  s : C.s = L.s
  d : C.d = L.d
  n : C.n = L.n
  zs : C.zs = L.zs
structure SyIs (w : World) (N : Nat) (D : SC) (L : RC) (win : Nat) (S : SY) : Prop where
  blk : w.heap[D.p]? = some (.cells (syCells D L) 90 (0, 0))
  row : Row w D.g0 0 L.zs
  lt0 : D.g0 < w.heap.size
  cap0 : L.n ≤ D.c0
  rp : ∀ k, k < 3 → RpIs w (D.rp k) (D.C k) (S.rp k)
  ln : ∀ k, k < 3 → LineIs (D.C k) L
  ne : ∀ i j, i < 3 → j < 3 → i ≠ j → D.rp i ≠ D.rp j
  vt : VIs w N D.vp win D.tv S.v
  net : NetIs w N D.nv S.net D.us
  sep : ∀ x y, Wr D x → Sta D y → x ≠ y
  base : ∀ x, Wr D x → N ≤ x
  sbase : ∀ y, Sta D y → N ≤ y
section
variable {w w' : World} {N win : Nat} {D : SC} {L : RC} {S : SY}
theorem SyIs.lt (h : SyIs w N D L win S) : D.p < w.heap.size := blk_lt h.blk
theorem NetIs.own {nv : Value} {l : List Pk} {us : List Value} (h : NetIs w N nv l us) {g : Nat} (hg : nv.ownBlock = some g) : ∃ cur, w.heap[g]? = some (.cells cur 134 (0, 0)) := by
  rcases h.row.2 with ⟨rfl, h1⟩ | ⟨g', cap, cur, rfl, h1, h2, _⟩
  · simp [Value.ownBlock] at hg
  · simp only [Value.ownBlock, Option.some.injEq] at hg
    subst hg
    exact ⟨cur, h2⟩
theorem SyIs.tyP (h : SyIs w N D L win S) : TyAt w D.p 90 := ⟨_, _, h.blk⟩
theorem SyIs.tyN (h : SyIs w N D L win S) {g : Nat} (hg : D.nv.ownBlock = some g) : TyAt w g 134 := by obtain ⟨c, e⟩ := h.net.own hg; exact ⟨_, _, e⟩
theorem SyIs.tyR (h : SyIs w N D L win S) {j : Nat} (hj : j < 3) : TyAt w (D.rp j) 160 := by obtain ⟨cs, e, _⟩ := (h.rp j hj).blk; exact ⟨_, _, e⟩
theorem SyIs.tyV (h : SyIs w N D L win S) : TyAt w D.vp 148 := ⟨_, _, h.vt.blk⟩
theorem SyIs.tyT (h : SyIs w N D L win S) {g : Nat} (hg : D.tv.ownBlock = some g) : TyAt w g 49 := by obtain ⟨_, c, e⟩ := h.vt.row.own hg; exact ⟨_, _, e⟩
theorem SyIs.wrLt (h : SyIs w N D L win S) {k : Nat} (hk : Wr D k) : k < w.heap.size := by
  rcases hk with rfl | hk | ⟨j, hj, rfl⟩ | rfl | hk
  · exact h.tyP.lt
  · exact (h.tyN hk).lt
  · exact (h.tyR hj).lt
  · exact h.tyV.lt
  · exact (h.tyT hk).lt
theorem SyIs.wrByte (h : SyIs w N D L win S) {k : Nat} (hk : Wr D k) : ¬ TyAt w k 5 := by
  intro hb
  rcases hk with rfl | hk | ⟨j, hj, rfl⟩ | rfl | hk
  · exact h.tyP.ne hb (by decide) rfl
  · exact (h.tyN hk).ne hb (by decide) rfl
  · exact (h.tyR hj).ne hb (by decide) rfl
  · exact h.tyV.ne hb (by decide) rfl
  · exact (h.tyT hk).ne hb (by decide) rfl
theorem SyIs.staLt (h : SyIs w N D L win S) {k : Nat} (hk : Sta D k) : k < w.heap.size := by
  rcases hk with rfl | ⟨j, hj, rfl | rfl | rfl | rfl⟩
  · exact h.lt0
  · exact (h.rp j hj).core.plt
  · exact (h.rp j hj).core.glt
  · exact (h.rp j hj).core.mlt
  · exact (h.rp j hj).lt2
theorem RpIs.staged {p : Nat} {C : RC} {R : RS} (h : RpIs w p C R) {T : Nat → Prop} (hm : Mod w w' T) (hp : ¬ T p) (hT : ∀ k, k = C.pc ∨ k = C.g ∨ k = C.M ∨ k = C.g2 → ¬ T k) : RpIs w' p C R := by
  have e : ∀ k, k < w.heap.size → ¬ T k → w'.heap[k]? = w.heap[k]? := fun k hk hp => hm.block k hk hp
  refine ⟨h.blk.same (e _ h.lt hp), h.core.blocks hm.size ?_, fun k hk => (World.cell?_of_block (w := w) (e _ h.lt2 (hT _ (.inr (.inr (.inr rfl)))))).trans (h.row k hk), Nat.lt_of_lt_of_le h.lt2 hm.size, h.cap2, h.ap⟩
  rintro k (rfl | rfl | rfl)
  · exact e _ h.core.plt (hT _ (.inl rfl))
  · exact e _ h.core.glt (hT _ (.inr (.inl rfl)))
  · exact e _ h.core.mlt (hT _ (.inr (.inr (.inl rfl))))
theorem NetIs.mod {nv : Value} {l : List Pk} {us : List Value} (h : NetIs w N nv l us) {T : Nat → Prop} (hm : Mod w w' T) (hn : ∀ g, nv.ownBlock = some g → ¬ T g) (hb : ∀ k, T k → ¬ TyAt w k 5) : NetIs w' N nv l us := by
  refine ⟨⟨h.row.1, ?_⟩, h.len, fun i hi => (h.byt i hi).mod hm hb⟩
  rcases h.row.2 with h2 | ⟨g, cap, cur, rfl, h3, h4, h5⟩
  · exact .inl h2
  · exact .inr ⟨g, cap, cur, rfl, h3, (hm.block g (blk_lt h4) (hn g rfl)).trans h4, h5⟩
theorem SyIs.part (h : SyIs w N D L win S) {T : Nat → Prop} (hm : Mod w w' T) (hT : ∀ k, T k → Wr D k) :
    (¬ T D.p → w'.heap[D.p]? = some (.cells (syCells D L) 90 (0, 0))) ∧ (Row w' D.g0 0 L.zs ∧ D.g0 < w'.heap.size) ∧ (∀ k, k < 3 → ¬ T (D.rp k) → RpIs w' (D.rp k) (D.C k) (S.rp k)) ∧
    ((∀ k, VB D.vp D.tv k → ¬ T k) → VIs w' N D.vp win D.tv S.v) ∧ ((∀ g, D.nv.ownBlock = some g → ¬ T g) → NetIs w' N D.nv S.net D.us) := by
  have hst : ∀ k, Sta D k → ¬ T k := fun k hk ht => h.sep k k (hT k ht) hk rfl
  refine ⟨fun hp => (hm.block _ h.lt hp).trans h.blk, ⟨fun k hk => (World.cell?_of_block (w := w) (hm.block _ h.lt0 (hst _ (.inl rfl)))).trans (h.row k hk), Nat.lt_of_lt_of_le h.lt0 hm.size⟩, fun k hk hp => (h.rp k hk).staged hm hp fun j hj => hst j (.inr ⟨k, hk, hj⟩), fun hv => h.vt.move hm hv, fun hn => h.net.mod hm hn fun k hk => h.wrByte (hT k hk)⟩
theorem SyIs.below (h : SyIs w N D L win S) (hB : Below w.heap.size w w') : SyIs w' N D L win S := by
  obtain ⟨h1, ⟨h2, h3⟩, h4, h5, h6⟩ := h.part (Mod.ofBelow hB (fun _ => False)) (fun _ hf => hf.elim)
  exact ⟨h1 (fun x => x), h2, h3, h.cap0, fun k hk => h4 k hk (fun x => x), h.ln, h.ne, h5 (fun _ _ x => x), h6 (fun _ _ x => x), h.sep, h.base, h.sbase⟩
structure Gr (n : Nat) (D D' : SC) : Prop where
  wr : ∀ k, Wr D' k → Wr D k ∨ n ≤ k
  st : ∀ k, Sta D' k → Sta D k ∨ n ≤ k
theorem Gr.refl (n : Nat) (D : SC) : Gr n D D := ⟨fun _ x => .inl x, fun _ x => .inl x⟩
def NB (D : SC) (k : Nat) : Prop := k = D.p ∨ D.nv.ownBlock = some k
theorem SyIs.at (h : SyIs w N D L win S) (k : Nat) : w.cell? ⟨D.p, k, none⟩ = (syCells D L)[k]? := blk_cell h.blk k
end
abbrev Seen := Nat → Nat → Bool → Nat → Prop
def SeenN (W : Seen) (j n c v : Nat) : Prop := (∀ b, c.testBit b = true → W j n false b) ∧ ∀ b, v.testBit b = true → W j n true b
def SeenA (W : Seen) (liar n c v : Nat) : Prop := (∀ b, c.testBit b = true → ∃ j, j < 3 ∧ j ≠ liar ∧ W j n false b) ∧ ∀ b, v.testBit b = true → ∃ j, j < 3 ∧ j ≠ liar ∧ W j n true b
def VoteOk (L : RC) (W : Seen) (liar : Nat) (tr : List Cm) (n : Nat) (d : Cm) : Prop := ∃ c v : Nat, d = ⟨c, v, (outOf L (stAt L tr n) c v : Nat)⟩ ∧ c < 2 ^ L.s ∧ v < 2 ^ L.n ∧ SeenA W liar n c v
structure HonF (L : RC) (W : Seen) (liar : Nat) (tr : List Cm) (src : Nat) (F : FR) : Prop where
  sample : F 0 = 1 → ∃ n c v : Nat, F 2 = n ∧ F 3 = c ∧ F 4 = v ∧ c < 2 ^ L.s ∧ v < 2 ^ L.n ∧ SeenN W src n c v
  vote : F 0 = 2 → ∃ n : Nat, F 2 = n ∧ n ≤ tr.length ∧ VoteOk L W liar tr n (cmF F)
  done : F 0 = 3 → ∃ n : Nat, F 2 = n ∧ n < tr.length ∧ F 3 = (cmAt tr n).c ∧ F 4 = (cmAt tr n).v
  known : F 0 = 5 → ∃ n : Nat, F 2 = n ∧ n ≤ tr.length ∧ ∀ j, j < 17 → F (6 + j) = stN (stAt L tr n) j
structure PkOk (L : RC) (W : Seen) (liar : Nat) (tr : List Cm) (p : Pk) : Prop where
  src : p.src ≤ 3
  dst : p.dst ≤ 3
  len : p.b.length ≤ 80
  byte : ∀ x ∈ p.b, x < 256
  hon : (p.src = liar ∧ p.src < 3) ∨ (decF p.b).1 ≠ 0 ∨ HonF L W liar tr p.src (decF p.b).2
def ToldOk (L : RC) (tr : List Cm) (T : Nat → Int) : Prop := (∀ i, i < 18 → T i = 0) ∨ ∃ n : Nat, n ≤ tr.length ∧ T 0 = n ∧ ∀ i, i < 17 → T (1 + i) = stN (stAt L tr n) i
structure RpInv (L : RC) (W : Seen) (liar : Nat) (tr : List Cm) (T k : Nat) (R : RS) : Prop where
  id : R.id = k
  ticks : 0 ≤ R.ticks ∧ R.ticks ≤ (T : Int)
  came : ∀ j, j < 3 → 0 ≤ (R.smp j).came ∧ (R.smp j).came ≤ R.ticks
  smp : ∀ j, j < 3 → (R.smp j).c < 2 ^ L.s ∧ (R.smp j).v < 2 ^ L.n
  cyc : ∃ n : Nat, R.cycle = n ∧ n ≤ tr.length ∧ R.st = stAt L tr n ∧ ∀ j, j < 3 → j ≠ liar → SeenN W j n (R.smp j).c (R.smp j).v
  told : ∀ j, j < 3 → j ≠ liar → ToldOk L tr (R.told j)
  me : ∀ i, i < 18 → R.told k i = 0
  ahead : 0 ≤ R.ahead ∧ (R.ahead < (tr.length : Int) ∨ R.ahead = 0)
structure SInv (L : RC) (W : Seen) (liar win T : Nat) (S : SY) : Prop where
  rp : ∀ k, k < 3 → RpInv L W liar S.v.tr T k (S.rp k)
  vok : VOk win S.v
  tr : ∀ i, i < S.v.tr.length → VoteOk L W liar S.v.tr i (cmAt S.v.tr i)
  votes : ∀ k, k < 3 → k ≠ liar → S.v.b k = true → VoteOk L W liar S.v.tr S.v.tr.length (S.v.x k)
  out : ∀ k, k < 3 → k ≠ liar → S.v.out.testBit k = false
  apart : ∀ i j, i ≠ j → S.v.b i = true → S.v.b j = true → S.v.x i ≠ S.v.x j
  few : ∀ i, 3 ≤ i → S.v.b i = false
  many : S.net.length ≤ 120
  net : ∀ p ∈ S.net, PkOk L W liar S.v.tr p
section
variable {L : RC} {W : Seen} {liar win T n k : Nat} {tr : List Cm} {R : RS}
theorem seen_zero (j : Nat) : SeenN W j n 0 0 := ⟨fun b hb => by simp at hb, fun b hb => by simp at hb⟩
theorem RpInv.new : RpInv L W liar tr T k (new0 k) := by
  refine ⟨rfl, ⟨Int.le_refl _, by show (0 : Int) ≤ _; omega⟩, fun _ _ => ⟨Int.le_refl _, Int.le_refl _⟩, fun _ _ => ⟨Nat.two_pow_pos _, Nat.two_pow_pos _⟩, ⟨0, rfl, Nat.zero_le _, rfl, fun j _ _ => seen_zero j⟩, fun _ _ _ => .inl fun _ _ => rfl, fun _ _ => rfl, Int.le_refl _, .inr rfl⟩
end
theorem SyIs.vt6 {w : World} {N win : Nat} {D : SC} {L : RC} {S : SY} (h : SyIs w N D L win S) : w.cell? ⟨D.p, 6, none⟩ = some (.pointer (some ⟨D.vp, 0, none⟩)) := (h.at 6).trans rfl
theorem slatched_any (N : Nat) (D : SC) (L : RC) (win : Nat) (S : SY) (w : World) (h : SyIs w N D L win S) :
    Calls Tryz.prog 14 #[.pointer (some ⟨D.p, 0, none⟩)] w fun e w' => e = .returned (.bool S.v.lat) ∧ w' = w := by
  have c6 := h.vt6
  have HC := hide (latched_any N D.vp win D.tv S.v w h.vt)
  clear h
  go_enter Tryz.func14, Tryz.ntmps14
  go_wp2_with fail
  refine HC.out.mono ?_
  rintro e w2 ⟨rfl, rfl⟩
  go_wp2
  go_ret
  exact ⟨rfl, rfl⟩
theorem sout_any (N : Nat) (D : SC) (L : RC) (win : Nat) (S : SY) (w : World) (h : SyIs w N D L win S) :
    Calls Tryz.prog 17 #[.pointer (some ⟨D.p, 0, none⟩)] w fun e w' => e = .returned (.int .i64 (S.v.out : Int)) ∧ w' = w := by
  have c6 := h.vt6
  have HC := hide (out_any N D.vp win D.tv S.v w h.vt)
  clear h
  go_enter Tryz.func17, Tryz.ntmps17
  go_wp2_with fail
  refine HC.out.mono ?_
  rintro e w2 ⟨rfl, rfl⟩
  go_wp2
  go_ret
  exact ⟨rfl, rfl⟩
end Go.Proofs.YtaablbmgagiajabGreatDoor
