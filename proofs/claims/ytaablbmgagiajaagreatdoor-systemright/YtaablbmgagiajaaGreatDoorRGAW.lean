import Derived.Test.YtaablbmgagiajaaGreatDoorRGAV
import Derived.Deep.MidRow
import Derived.Deep.QuietTactic
import Derived.BigQuiet
namespace Go.Proofs.YtaablbmgagiajaaGreatDoor
open Go.RowKit Go.Deep
set_option maxHeartbeats 2000000 in
theorem layout_any (p : Nat) (s d : Int) (n : Nat) (zs : List Int) (g cg M : Nat) (w : World) (hK : CoreIs w p s d n zs g cg M) :
    Calls Tryz.prog 83 #[.pointer (some ⟨p, 0, none⟩)] w fun e w' =>
      (∃ g2 c2, w.heap.size ≤ g2 ∧ n ≤ c2 ∧ e = .returned (.agg #[.int .i64 s, .slice (some ⟨g2, 0, none⟩) n c2, .int .i64 d]) ∧ g2 < w'.heap.size ∧ Row w' g2 0 zs) ∧ Below w.heap.size w w' := by
  obtain ⟨f1, f8, fs1, fs2, fd1, fd2⟩ := hK.few
  have hpl := hK.plt
  have k0 : w.cell? ⟨p, 0, none⟩ = some (.int .i64 s) := by rw [blk_cell hK.blk]; rfl
  have k1 : w.cell? ⟨p, 1, none⟩ = some (.slice (some ⟨g, 0, none⟩) n cg) := by rw [blk_cell hK.blk]; rfl
  have k2 : w.cell? ⟨p, 2, none⟩ = some (.int .i64 d) := by rw [blk_cell hK.blk]; rfl
  have hcl : ∀ wx, Below w.heap.size w wx → Calls Tryz.prog 41 #[.slice (some ⟨g, 0, none⟩) n cg] wx fun e w' =>
      (∃ g2 c2, wx.heap.size ≤ g2 ∧ g2 < w'.heap.size ∧ n ≤ c2 ∧ e = .returned (.slice (some ⟨g2, 0, none⟩) n c2) ∧ Row w' g2 0 zs) ∧ Below wx.heap.size wx w' :=
    fun wx hx => clone_any g 0 n cg zs wx hK.len (by omega) f8 (Nat.lt_of_lt_of_le hK.glt hx.size) (hK.row.below hK.glt hx)
  have HCL := hide hcl
  clear hcl hK
  go_enter Tryz.func83, Tryz.ntmps83
  go_wp2_with fail
  have hB0 : Below w.heap.size w ((w.alloc (.cells #[.int .i64 0, .slice none 0 0, .int .i64 0] 41)).alloc (.cells #[.int .i64 s, .slice (some ⟨g, 0, none⟩) n cg, .int .i64 d] 41)) := ((Below.refl _ _).alloc (Nat.le_refl _) _).alloc (by simp) _
  refine (unhide HCL _ hB0).mono ?_
  rintro e w2 ⟨⟨g2, c2, h1, h2, h3, rfl, hrow⟩, hB2⟩
  have hn2 : w.heap.size + 2 ≤ w2.heap.size := by have := hB2.size; simp at this; omega
  have q0 : w2.heap[w.heap.size]? = some (.cells #[.int .i64 0, .slice none 0 0, .int .i64 0] 41 (0, 0)) := (hB2.block _ (by simp; omega)).trans ((Below.heap_alloc _ _ _ (by simp)).trans (blk_new _ _))
  have q1 : w2.heap[w.heap.size + 1]? = some (.cells #[.int .i64 s, .slice (some ⟨g, 0, none⟩) n cg, .int .i64 d] 41 (0, 0)) := by
    refine (hB2.block _ (by simp)).trans ?_
    have := blk_new (w.alloc (.cells #[.int .i64 0, .slice none 0 0, .int .i64 0] 41)) (.cells #[.int .i64 s, .slice (some ⟨g, 0, none⟩) n cg, .int .i64 d] 41)
    simpa using this
  have r0 : w2.cell? ⟨w.heap.size, 0, none⟩ = some (.int .i64 0) := by rw [blk_cell q0]; rfl
  have r1 : w2.cell? ⟨w.heap.size, 1, none⟩ = some (.slice none 0 0) := by rw [blk_cell q0]; rfl
  have r2 : w2.cell? ⟨w.heap.size, 2, none⟩ = some (.int .i64 0) := by rw [blk_cell q0]; rfl
  have l0 : w2.cell? ⟨w.heap.size + 1, 0, none⟩ = some (.int .i64 s) := by rw [blk_cell q1]; rfl
  have l1 : w2.cell? ⟨w.heap.size + 1, 1, none⟩ = some (.slice (some ⟨g, 0, none⟩) n cg) := by rw [blk_cell q1]; rfl
  have l2 : w2.cell? ⟨w.heap.size + 1, 2, none⟩ = some (.int .i64 d) := by rw [blk_cell q1]; rfl
  have fr0 : w2.frozen? ⟨w.heap.size, 0, none⟩ = false := blk_free q0 0
  have fr1 : w2.frozen? ⟨w.heap.size, 1, none⟩ = false := blk_free q0 1
  have fr2 : w2.frozen? ⟨w.heap.size, 2, none⟩ = false := blk_free q0 2
  have fl1 : w2.frozen? ⟨w.heap.size + 1, 1, none⟩ = false := blk_free q1 1
  have HB2 := hide (hB0.trans (hB2.mono (by simp; omega)))
  have HROW := hide hrow
  have h1' : w.heap.size + 2 ≤ g2 := by simp at h1; omega
  clear hB0 hB2 hrow HCL q0 q1 h1
  go_wp2
  refine bodyPost_ret (v := .agg #[.int .i64 s, .slice (some ⟨g2, 0, none⟩) n c2, .int .i64 d]) (by simp [results, Tryz.results83, go_sem, r0, r1, r2]) rfl ⟨⟨g2, c2, by omega, h3, rfl, ?_, ?_⟩, ?_⟩
  · simp [World.setCell]; exact h2
  · intro k hk
    refine Eq.trans (World.cell?_of_block (w := w2) ?_) (HROW.out k hk)
    rw [Below.heap_setCell _ _ _ _ (by show g2 ≠ w.heap.size; omega), Below.heap_setCell _ _ _ _ (by show g2 ≠ w.heap.size; omega), Below.heap_setCell _ _ _ _ (by show g2 ≠ w.heap.size; omega), Below.heap_setCell _ _ _ _ (by show g2 ≠ w.heap.size + 1; omega)]
  · exact (((HB2.out.setCell (by show w.heap.size ≤ w.heap.size + 1; omega) _).setCell (Nat.le_refl _) _).setCell (Nat.le_refl _) _).setCell (Nat.le_refl _) _
def new0 (id : Nat) : RS := ⟨id, 0, 0, 0, st0, 0, 0, fun _ => smp0, fun _ _ => 0⟩
theorem BIs_new (w : World) (C : RC) (R : RS) : BIs (w.alloc (.cells ((List.range 93).map (rpF C R)).toArray 125)) w.heap.size 125 93 (rpF C R) :=
  ⟨_, blk_new _ _, by simp, fun k hk => by simp [hk]⟩
set_option maxHeartbeats 2000000 in
set_option maxRecDepth 20000 in
theorem rnew_ok (id s d b off n cap : Nat) (zs : List Int) (w : World) (hid : id < 3) (hn : zs.length = n) (hok : checkF (s : Int) zs (d : Int) = (0, -1)) (hb : b < w.heap.size) (hc : Row w b off zs) (hcap : n ≤ cap) :
    Calls Tryz.prog 61 #[.int .i64 (id : Int), .agg #[.int .i64 (s : Int), .slice (some ⟨b, off, none⟩) n cap, .int .i64 (d : Int)]] w fun e w' =>
      (∃ p C, w.heap.size ≤ p ∧ w.heap.size ≤ C.pc ∧ w.heap.size ≤ C.g ∧ w.heap.size ≤ C.M ∧ w.heap.size ≤ C.g2 ∧ C.s = s ∧ C.d = d ∧ C.n = n ∧ C.zs = zs ∧ e = .returned (.tuple #[.pointer (some ⟨p, 0, none⟩), .nilIface]) ∧ RpIs w' p C (new0 id)) ∧ Below w.heap.size w w' := by
  have hB0 : Below w.heap.size w (w.alloc (.cells #[.int .i64 (s : Int), .slice (some ⟨b, off, none⟩) n cap, .int .i64 (d : Int)] 41)) := (Below.refl _ _).alloc (Nat.le_refl _) _
  have hcn := new_ok (s : Int) (d : Int) b off n cap zs _ hn hok (by simp; omega) (hc.below hb hB0) hcap
  have hrep : isRep (id : Int) = true := by unfold isRep; simp; omega
  have HCN := hide hcn
  have HB0 := hide hB0
  clear hcn hB0 hc
  go_enter Tryz.func61, Tryz.ntmps61
  go_wp2_with fail
  refine HCN.out.mono ?_
  rintro e w1 ⟨⟨pc, g, cg, M, h1, h2, h3, rfl, hK⟩, hB1⟩
  simp at h1 h2 h3
  have hBw : Below w.heap.size w w1 := HB0.out.trans (hB1.mono (by simp))
  have hly := layout_any pc (s : Int) (d : Int) n zs g cg M w1 hK
  have HLY := hide hly
  have HK := hide hK
  have HBW := hide hBw
  clear hly hK hBw hB1 HCN
  go_wp2_with (go_at_call 82; refine (isReplica_any _ _).mono ?_; rintro e wz ⟨rfl, hwz⟩; rw [hrep, hwz])
  refine HLY.out.mono ?_
  rintro e w2 ⟨⟨g2, c2, q1, q2, rfl, q3, q4⟩, hB2⟩
  have hs2 : w1.heap.size ≤ w2.heap.size := hB2.size
  have hs1 : w.heap.size ≤ w1.heap.size := HBW.out.size
  have HR : Hid (RpIs (w2.alloc (.cells ((List.range 93).map (rpF ⟨s, d, n, zs, pc, g, cg, M, g2, c2⟩ (new0 id))).toArray 125)) w2.heap.size ⟨s, d, n, zs, pc, g, cg, M, g2, c2⟩ (new0 id)) := hide (by
    have hB3 : Below w2.heap.size w2 (w2.alloc (.cells ((List.range 93).map (rpF ⟨s, d, n, zs, pc, g, cg, M, g2, c2⟩ (new0 id))).toArray 125)) := (Below.refl _ _).alloc (Nat.le_refl _) _
    have l1 := HK.out.plt
    have l2 := HK.out.glt
    have l3 := HK.out.mlt
    have hK2 := HK.out.below l1 l2 l3 hB2
    exact ⟨BIs_new _ _ _, hK2.below (by omega) (by omega) (by omega) hB3, q4.below q3 hB3, Nat.lt_of_lt_of_le q3 hB3.size, q2, by show w2.heap.size ≠ pc; omega, by show w2.heap.size ≠ g; omega, by show w2.heap.size ≠ M; omega, by show w2.heap.size ≠ g2; omega⟩)
  have HB : Hid (Below w.heap.size w (w2.alloc (.cells ((List.range 93).map (rpF ⟨s, d, n, zs, pc, g, cg, M, g2, c2⟩ (new0 id))).toArray 125))) := hide ((HBW.out.trans (hB2.mono hs1)).alloc (by omega) _)
  clear hB2 q4
  go_wp2
  go_ret2
  exact ⟨⟨w2.heap.size, ⟨s, d, n, zs, pc, g, cg, M, g2, c2⟩, by omega, by show _ ≤ pc; omega, by show _ ≤ g; omega, by show _ ≤ M; omega, by show _ ≤ g2; omega, rfl, rfl, rfl, rfl, rfl, HR.out⟩, HB.out⟩
theorem Good.mono {R : Nat → Nat} {n : Nat} {B B' : Int} {S : St} (h : Good R n B S) (hB : B ≤ B') : Good R n B' S :=
  ⟨h.set, h.apart, h.used, h.rest, fun k => ⟨(h.idle k).1, Int.le_trans (h.idle k).2 hB⟩⟩
theorem good_zero (R : Nat → Nat) (n : Nat) (B : Int) (hB : 0 ≤ B) : Good R n B st0 :=
  ⟨Nat.two_pow_pos n, fun i k _ _ _ h _ => absurd h (by show ¬ (Nat.testBit 0 i = true); simp), fun k _ => by show wo 0 _ = 0; simp [wo], fun k _ => ⟨rfl, rfl⟩, fun k => ⟨Int.le_refl _, hB⟩⟩
section
variable {C : RC} {m : Nat} {R : RS}
theorem fg_cases (t : Int) (x : Smp) : fgone t x = smp0 ∨ fgone t x = x := by unfold fgone; split; exact .inl rfl; exact .inr rfl
end
structure Pk where
  src : Nat
  dst : Nat
  b : List Nat
structure SY where
  rp : Nat → RS
  v : VS
  net : List Pk
def bytesF (F : FR) : List Nat := if mayB F = true then encF F else []
def putP (p : Pk) (l : List Pk) : List Pk := if 120 ≤ l.length then l else l ++ [p]
def sendN (src : Nat) (F : FR) (dst : Nat) (l : List Pk) : List Pk := putP ⟨src, dst, bytesF F⟩ l
def othersN (src : Nat) (F : FR) (l : List Pk) : Nat → List Pk
  | 0 => l
  | k + 1 => if k = src then othersN src F l k else sendN src F k (othersN src F l k)
def sendsN (src dst : Nat) : List FR → List Pk → List Pk
  | [], l => l
  | F :: r, l => sendsN src dst r (sendN src F dst l)
def allsN (src : Nat) : List FR → List Pk → List Pk
  | [], l => l
  | F :: r, l => allsN src r (othersN src F l 3)
def tickNet (L : RC) (k : Nat) (R : RS) (l : List Pk) : List Pk := if saysB R then sendN k (secondR L R) 3 (othersN k (sampleR R) l 3) else othersN k (sampleR R) l 3
def tickSy (L : RC) (k : Nat) (S : SY) : SY := ⟨upd S.rp k (tickS L (S.rp k)), S.v, tickNet L k (tickS L (S.rp k)) S.net⟩
def asksSy (k : Nat) (S : SY) : SY := ⟨S.rp, S.v, othersN k (asksR (S.rp k)) S.net 3⟩
def seeSy (k : Nat) (x y : Int) (S : SY) : SY := ⟨upd S.rp k (seeR x y (S.rp k)), S.v, S.net⟩
def crashSy (k : Nat) (S : SY) : SY := ⟨upd S.rp k (new0 k), S.v, S.net⟩
def vtickSy (S : SY) : SY := ⟨S.rp, tickF S.v, S.net⟩
def latchSy (S : SY) : SY := ⟨S.rp, latchF S.v, S.net⟩
def putSy (p : Pk) (S : SY) : SY := ⟨S.rp, S.v, putP p S.net⟩
def outSy (i : Nat) (S : SY) : SY := ⟨S.rp, S.v, S.net.eraseIdx i⟩
def pkAt (l : List Pk) (i : Nat) : Pk := l[i]?.getD ⟨0, 0, []⟩
abbrev isNone (p : Pk) : Prop := (decF p.b).1 ≠ 0 ∨ (decF p.b).2 1 ≠ (p.src : Int)
def voteNet (win src : Nat) (S : SY) (F : FR) : List Pk := if (takeF win S.v F).2.2 then allsN 3 (takeF win S.v F).2.1 S.net else sendsN 3 src (takeF win S.v F).2.1 S.net
def comeSy (L : RC) (win : Nat) (p : Pk) (S : SY) : SY :=
  if isNone p then S
  else if p.dst = 3 then ⟨S.rp, (takeF win S.v (decF p.b).2).1, voteNet win p.src S (decF p.b).2⟩
  else ⟨upd S.rp p.dst (takeS L (decF p.b).2 (S.rp p.dst)), S.v, sendsN p.dst p.src (takeT L (decF p.b).2 (S.rp p.dst)) S.net⟩
def arriveSy (L : RC) (win i : Nat) (S : SY) : SY := comeSy L win (pkAt S.net i) (outSy i S)
def runAll (L : RC) (win : Nat) : Nat → SY → SY
  | 0, S => S
  | m + 1, S => runAll L win m (arriveSy L win 0 S)
def inSt (L : RC) (X : St) (c v : Int) : St := nextF (rt L.zs) (conf L.zs) L.n L.d (fitN L.s c) (fitN L.n v) X
def outOf (L : RC) (X : St) (c v : Int) : Nat := outF (rt L.zs) (conf L.zs) L.n L.d (fitN L.s c) (fitN L.n v) X
def stOf (L : RC) : List Cm → St → St
  | [], X => X
  | d :: r, X => stOf L r (inSt L X d.c d.v)
def stAt (L : RC) (tr : List Cm) (n : Nat) : St := stOf L (tr.take n) st0
theorem stOf_app (L : RC) (a b : List Cm) (X : St) : stOf L (a ++ b) X = stOf L b (stOf L a X) := by
  induction a generalizing X with
  | nil => rfl
  | cons d r ih => exact ih _
theorem stAt_succ {L : RC} {tr : List Cm} {n : Nat} (h : n < tr.length) : stAt L tr (n + 1) = inSt L (stAt L tr n) (cmAt tr n).c (cmAt tr n).v := by
  unfold stAt cmAt
  rw [List.take_add_one, stOf_app, List.getElem?_eq_getElem h]
  rfl
theorem stAt_app {L : RC} {tr : List Cm} {n : Nat} (h : n ≤ tr.length) (a : List Cm) : stAt L (tr ++ a) n = stAt L tr n := by
  unfold stAt
  rw [List.take_append_of_le_length h]
theorem cmAt_app {tr : List Cm} {n : Nat} (h : n < tr.length) (a : List Cm) : cmAt (tr ++ a) n = cmAt tr n := by
  unfold cmAt
  rw [List.getElem?_append_left h]
theorem cmAt_new (tr : List Cm) (d : Cm) : cmAt (tr ++ [d]) tr.length = d := by
  unfold cmAt
  simp
structure LOk (L : RC) : Prop where
  ok : checkF (L.s : Int) L.zs (L.d : Int) = (0, -1)
  len : L.zs.length = L.n
theorem LOk.few {L : RC} (h : LOk L) : 1 ≤ L.s ∧ L.s ≤ 12 ∧ 1 ≤ L.n ∧ L.n ≤ 8 ∧ L.d ≤ 20 := by
  have hr := range_pos h.ok
  unfold rangeB at hr
  simp only [Bool.and_eq_true, inB_iff] at hr
  have := h.len
  omega
theorem inSt_good {L : RC} (h : LOk L) {B : Int} {X : St} (hX : Good (rt L.zs) L.n B X) (c v : Int) : Good (rt L.zs) L.n (B + 1) (inSt L X c v) := by
  have := next_good (d := L.d) (c := fitN L.s c) (v := fitN L.n v) (conf_conf h.ok) (by rw [h.len]; exact hX)
  rw [h.len] at this
  exact this
theorem stAt_good {L : RC} (h : LOk L) (tr : List Cm) : ∀ n, n ≤ tr.length → Good (rt L.zs) L.n (n : Int) (stAt L tr n)
  | 0, _ => good_zero _ _ _ (Int.le_refl _)
  | n + 1, hn => by
    rw [stAt_succ (by omega)]
    have := inSt_good h (stAt_good h tr n (by omega)) (cmAt tr n).c (cmAt tr n).v
    exact this.mono (by omega)
set_option maxHeartbeats 1000000 in
theorem latch_any (N p win : Nat) (tv : Value) (S : VS) (w : World) (h : VIs w N p win tv S) :
    Calls Tryz.prog 66 #[.pointer (some ⟨p, 0, none⟩)] w fun e w' => e = .returned (.tuple #[]) ∧ VIs w' N p win tv (latchF S) ∧ Mod w w' (VB p tv) := by
  have R := hide (h.put (S' := latchF S) 16 (.bool true) rfl rfl)
  have M := hide ((Mod.refl w (VB p tv)).set ⟨p, 16, none⟩ (.bool true) (fun _ => .inl rfl))
  have hf := h.free 16
  have hc := h.at 16
  rw [show (vCells tv win S)[16]? = some (.bool S.lat) from rfl] at hc
  clear h
  go_enter Tryz.func66, Tryz.ntmps66
  go_wp2
  go_end0
  exact ⟨rfl, R.out, M.out⟩
set_option maxHeartbeats 1000000 in
theorem latched_any (N p win : Nat) (tv : Value) (S : VS) (w : World) (h : VIs w N p win tv S) :
    Calls Tryz.prog 51 #[.pointer (some ⟨p, 0, none⟩)] w fun e w' => e = .returned (.bool S.lat) ∧ w' = w := by
  have hc := h.at 16
  rw [show (vCells tv win S)[16]? = some (.bool S.lat) from rfl] at hc
  clear h
  go_enter Tryz.func51, Tryz.ntmps51
  go_wp2
  go_ret
  exact ⟨rfl, rfl⟩
set_option maxHeartbeats 1000000 in
theorem out_any (N p win : Nat) (tv : Value) (S : VS) (w : World) (h : VIs w N p win tv S) :
    Calls Tryz.prog 35 #[.pointer (some ⟨p, 0, none⟩)] w fun e w' => e = .returned (.int .i64 (S.out : Int)) ∧ w' = w := by
  have hc := h.at 15
  rw [show (vCells tv win S)[15]? = some (.int .i64 (S.out : Int)) from rfl] at hc
  clear h
  go_enter Tryz.func35, Tryz.ntmps35
  go_wp2
  go_ret
  exact ⟨rfl, rfl⟩
set_option maxHeartbeats 1000000 in
theorem tick_any (N p win : Nat) (tv : Value) (S : VS) (w : World) (h : VIs w N p win tv S) (hok : VOk win S) :
    Calls Tryz.prog 50 #[.pointer (some ⟨p, 0, none⟩)] w fun e w' => e = .returned (.tuple #[]) ∧ VIs w' N p win tv (tickF S) ∧ Mod w w' (VB p tv) := by
  have hc := h.at 16
  rw [show (vCells tv win S)[16]? = some (.bool S.lat) from rfl] at hc
  cases hl : S.lat
  · have hp := hok.pos hl
    have hf := hok.left
    have h1 := h.put (S' := ⟨S.tr, S.b, S.x, S.left - 1, S.out, S.lat⟩) 14 (.int .i64 ((S.left - 1 : Nat) : Int)) rfl rfl
    have h2 := h1.put (S' := tickF S) 16 (.bool (S.left - 1 == 0)) (by unfold tickF; rw [hl]; rfl) (by unfold tickF; split <;> rfl)
    have M := hide (((Mod.refl w (VB p tv)).set ⟨p, 14, none⟩ (.int .i64 ((S.left - 1 : Nat) : Int)) (fun _ => .inl rfl)).set ⟨p, 16, none⟩ (.bool (S.left - 1 == 0)) (fun _ => .inl rfl))
    have c3 := h.at 14
    rw [show (vCells tv win S)[14]? = some (.int .i64 (S.left : Int)) from rfl] at c3
    have f3 := h.free 14
    have f6 := h.free 16
    obtain ⟨m, hm⟩ : ∃ m : Nat, S.left = m + 1 := ⟨S.left - 1, by omega⟩
    rw [hm] at c3 h2 M hf
    rw [hl] at hc
    simp only [Nat.add_sub_cancel] at h2 M
    have H2 := hide h2
    clear h h1 h2 hok hp hm hl
    have hz : (m == 0) = ((m : Int) == 0) := by rw [Bool.eq_iff_iff]; simp
    rw [hz] at H2 M
    clear hz
    go_enter Tryz.func50, Tryz.ntmps50
    go_wp2
    go_end0
    exact ⟨rfl, H2.out, M.out⟩
  · rw [hl] at hc
    have e : tickF S = S := by unfold tickF; rw [hl]; rfl
    rw [e]
    have H := hide h
    clear h hl hok e
    go_enter Tryz.func50, Tryz.ntmps50
    go_wp2
    refine bodyPost_ret (results_none rfl _ _ _) rfl ?_
    exact ⟨rfl, H.out, Mod.refl _ _⟩
set_option maxHeartbeats 1000000 in
theorem shown_any (N p win : Nat) (tv : Value) (S : VS) (w : World) (h : VIs w N p win tv S) (hok : VOk win S) :
    Calls Tryz.prog 52 #[.pointer (some ⟨p, 0, none⟩)] w fun e w' => e = .returned (.int .i64 (shownF S)) ∧ Below w.heap.size w w' := by
  have hc := h.at 16
  rw [show (vCells tv win S)[16]? = some (.bool S.lat) from rfl] at hc
  have c0 := h.at 0
  rw [show (vCells tv win S)[0]? = some tv from rfl] at c0
  cases hl : S.lat
  · rw [hl] at hc
    have hf := hok.few
    by_cases h0 : S.tr.length = 0
    · have e : shownF S = 0 := by unfold shownF; rw [hl, h0]; rfl
      rw [e]
      obtain ⟨a, cap, rfl⟩ := h.row.shape
      rw [h0] at c0
      clear h hl hok e
      go_enter Tryz.func52, Tryz.ntmps52
      go_wp2
      go_ret
      exact ⟨rfl, Below.refl _ _⟩
    · obtain ⟨g, cap, rfl, _, _, hcap⟩ := h.row.has (by omega)
      obtain ⟨m, hm⟩ : ∃ m, S.tr.length = m + 1 := ⟨S.tr.length - 1, by omega⟩
      have c1 := h.row.range (k := m) (by omega) 2 _ rfl
      have e : shownF S = (cmAt S.tr m).o := by unfold shownF; rw [hl, hm]; rfl
      rw [e]
      rw [hm] at c0 hcap hf
      generalize (cmAt S.tr m).o = z at c1
      clear h hl hok e hm h0
      go_enter Tryz.func52, Tryz.ntmps52
      go_wp2_with fail
      go_quiet (fail)
      go_wp2
      go_ret
      exact ⟨rfl, ⟨rfl, rfl, rfl, Nat.le_refl _, fun _ _ => rfl⟩⟩
  · have e : shownF S = 0 := by unfold shownF; rw [hl]; rfl
    rw [e]
    rw [hl] at hc
    clear h hl hok e c0
    go_enter Tryz.func52, Tryz.ntmps52
    go_wp2
    go_ret
    exact ⟨rfl, Below.refl _ _⟩
set_option maxHeartbeats 1000000 in
theorem spent_any (m n : Nat) (w : World) (hm : m < 256) :
    Calls Tryz.prog 108 #[.int .i64 (m : Int), .int .i64 (n : Int)] w fun e w' => e = .returned (.bool (decide (2 ≤ pop 8 m) || decide (1000 ≤ n))) ∧ w' = w := by
  have HO := hide (ones_any m w hm)
  have hp := pop_le 8 m
  go_enter Tryz.func108, Tryz.ntmps108
  go_wp2_with (go_at_call 109; refine HO.out.mono ?_; rintro e w' ⟨rfl, rfl⟩)
  all_goals
    go_ret
    refine ⟨ret_bool ?_, rfl⟩
    rw [Bool.eq_iff_iff]
    simp
    try omega
set_option maxHeartbeats 1000000 in
theorem vnew_ok (win : Nat) (w : World) (h1 : 1 ≤ win) (h2 : win ≤ 20) :
    Calls Tryz.prog 46 #[.int .i64 (win : Int)] w fun e w' => e = .returned (.tuple #[.pointer (some ⟨w.heap.size, 0, none⟩), .nilIface]) ∧ VIs w' w.heap.size w.heap.size win (.slice none 0 0) (vs0 win) ∧ w'.heap.size = w.heap.size + 1 ∧ Below w.heap.size w w' := by
  go_enter Tryz.func46, Tryz.ntmps46
  go_wp2
  go_ret2
  exact ⟨rfl, ⟨blk_new _ _, World.ownsRow_nil _ _ _ _, Nat.le_refl _⟩, by simp, (Below.refl _ _).alloc (Nat.le_refl _) _⟩
end Go.Proofs.YtaablbmgagiajaaGreatDoor
