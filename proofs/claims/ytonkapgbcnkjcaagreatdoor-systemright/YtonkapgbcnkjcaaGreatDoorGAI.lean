import Derived.Test.YtonkapgbcnkjcaaGreatDoorGAA
import Derived.Test.YtonkapgbcnkjcaaGreatDoorGAH
import Derived.Test.YtonkapgbcnkjcaaGreatDoorVtDef
import Derived.Test.YtonkapgbcnkjcaaGreatDoorVtDone
/- The contract of replica.New. -/
namespace Go.Proofs.YtonkapgbcnkjcaaGreatDoor
open Go.RowKit Go.Deep

/-- A replica that knows nothing. -/
def new0 (id : Nat) : RS := ⟨id, 0, 0, 0, st0, 0, 0, fun _ => smp0, fun _ _ => 0⟩
theorem BIs_new (w : World) (C : RC) (R : RS) : BIs (w.alloc (.cells ((List.range 93).map (rpF C R)).toArray 125)) w.heap.size 125 93 (rpF C R) :=
  ⟨_, blk_new _ _, by simp, fun k hk => by simp [hk]⟩

set_option maxHeartbeats 2000000 in
set_option maxRecDepth 20000 in
theorem rnew_ok (id s d b off n cap : Nat) (zs : List Int) (w : World) (hid : id < 3) (hn : zs.length = n) (hok : checkF (s : Int) zs (d : Int) = (0, -1)) (hb : b < w.heap.size) (hc : Row w b off zs) (hcap : n ≤ cap) :
    Calls Tryz.prog 61 #[.int .i64 (id : Int), .agg #[.int .i64 (s : Int), .slice (some ⟨b, off, none⟩) n cap, .int .i64 (d : Int)]] w fun e w' =>
      (∃ p C, w.heap.size ≤ p ∧ w.heap.size ≤ C.pc ∧ w.heap.size ≤ C.g ∧ w.heap.size ≤ C.M ∧ w.heap.size ≤ C.g2 ∧ C.s = s ∧ C.d = d ∧ C.n = n ∧ C.zs = zs ∧ e = .returned (.tuple #[.pointer (some ⟨p, 0, none⟩), .nilIface]) ∧ RpIs w' p C (new0 id)) ∧ Below w.heap.size w w' := by
  have hB0 : Below w.heap.size w (w.alloc (.cells #[.int .i64 (s : Int), .slice (some ⟨b, off, none⟩) n cap, .int .i64 (d : Int)] 41)) := (Below.refl _ _).alloc (Nat.le_refl _) _
  have hcn := new_ok (s : Int) (d : Int) b off n cap zs _ hn hok (by simp; omega) (hc.below hb hB0) hcap
  have hrep : isRep (id : Int) = true := by unfold isRep; simp; omega
  have HCN := hide hcn
  have HB0 := hide hB0
  clear hcn hB0 hc
  go_enter Tryz.func61, Tryz.ntmps61
  go_wp2_with fail
  refine HCN.out.mono ?_
  rintro e w1 ⟨⟨pc, g, cg, M, h1, h2, h3, rfl, hK⟩, hB1⟩
  simp at h1 h2 h3
  have hBw : Below w.heap.size w w1 := HB0.out.trans (hB1.mono (by simp))
  have hly := layout_any pc (s : Int) (d : Int) n zs g cg M w1 hK
  have HLY := hide hly
  have HK := hide hK
  have HBW := hide hBw
  clear hly hK hBw hB1 HCN
  go_wp2_with (go_at_call 82; refine (isReplica_any _ _).mono ?_; rintro e wz ⟨rfl, hwz⟩; rw [hrep, hwz])
  refine HLY.out.mono ?_
  rintro e w2 ⟨⟨g2, c2, q1, q2, rfl, q3, q4⟩, hB2⟩
  have hs2 : w1.heap.size ≤ w2.heap.size := hB2.size
  have hs1 : w.heap.size ≤ w1.heap.size := HBW.out.size
  have HR : Hid (RpIs (w2.alloc (.cells ((List.range 93).map (rpF ⟨s, d, n, zs, pc, g, cg, M, g2, c2⟩ (new0 id))).toArray 125)) w2.heap.size ⟨s, d, n, zs, pc, g, cg, M, g2, c2⟩ (new0 id)) := hide (by
    have hB3 : Below w2.heap.size w2 (w2.alloc (.cells ((List.range 93).map (rpF ⟨s, d, n, zs, pc, g, cg, M, g2, c2⟩ (new0 id))).toArray 125)) := (Below.refl _ _).alloc (Nat.le_refl _) _
    have l1 := HK.out.plt
    have l2 := HK.out.glt
    have l3 := HK.out.mlt
    have hK2 := HK.out.below l1 l2 l3 hB2
    exact ⟨BIs_new _ _ _, hK2.below (by omega) (by omega) (by omega) hB3, q4.below q3 hB3, Nat.lt_of_lt_of_le q3 hB3.size, q2, by show w2.heap.size ≠ pc; omega, by show w2.heap.size ≠ g; omega, by show w2.heap.size ≠ M; omega, by show w2.heap.size ≠ g2; omega⟩)
  have HB : Hid (Below w.heap.size w (w2.alloc (.cells ((List.range 93).map (rpF ⟨s, d, n, zs, pc, g, cg, M, g2, c2⟩ (new0 id))).toArray 125))) := hide ((HBW.out.trans (hB2.mono hs1)).alloc (by omega) _)
  clear hB2 q4
  go_wp2
  go_ret2
  exact ⟨⟨w2.heap.size, ⟨s, d, n, zs, pc, g, cg, M, g2, c2⟩, by omega, by show _ ≤ pc; omega, by show _ ≤ g; omega, by show _ ≤ M; omega, by show _ ≤ g2; omega, rfl, rfl, rfl, rfl, rfl, HR.out⟩, HB.out⟩

set_option maxHeartbeats 2000000 in
theorem rnew_id (x : Int) (s d b off n cap : Nat) (zs : List Int) (w : World) (hid : isRep x = false) (hn : zs.length = n) (hok : checkF (s : Int) zs (d : Int) = (0, -1)) (hb : b < w.heap.size) (hc : Row w b off zs) (hcap : n ≤ cap) :
    Calls Tryz.prog 61 #[.int .i64 x, .agg #[.int .i64 (s : Int), .slice (some ⟨b, off, none⟩) n cap, .int .i64 (d : Int)]] w fun e w' =>
      e = .returned (.tuple #[.pointer none, .iface 81 (.int .i64 2)]) ∧ Below w.heap.size w w' := by
  have hB0 : Below w.heap.size w (w.alloc (.cells #[.int .i64 (s : Int), .slice (some ⟨b, off, none⟩) n cap, .int .i64 (d : Int)] 41)) := (Below.refl _ _).alloc (Nat.le_refl _) _
  have hcn := new_ok (s : Int) (d : Int) b off n cap zs _ hn hok (by simp; omega) (hc.below hb hB0) hcap
  have HCN := hide hcn
  have HB0 := hide hB0
  clear hcn hB0 hc
  go_enter Tryz.func61, Tryz.ntmps61
  go_wp2_with fail
  refine HCN.out.mono ?_
  rintro e w1 ⟨⟨pc, g, cg, M, h1, h2, h3, rfl, hK⟩, hB1⟩
  have HBW := hide (HB0.out.trans (hB1.mono (by simp)))
  clear hK hB1 HCN h1 h2 h3
  go_wp2_with (go_at_call 82; refine (isReplica_any _ _).mono ?_; rintro e wz ⟨rfl, hwz⟩; rw [hid, hwz])
  go_ret2
  exact ⟨rfl, HBW.out⟩

set_option maxHeartbeats 2000000 in
theorem rnew_bad (x s d : Int) (a : Option Addr) (len cap : Nat) (zs : List Int) (w : World) (h : IsSl w a len cap zs) (hbad : checkF s zs d ≠ (0, -1)) :
    Calls Tryz.prog 61 #[.int .i64 x, .agg #[.int .i64 s, .slice a len cap, .int .i64 d]] w fun e w' => (∃ v, e = .returned (.tuple #[.pointer none, v]) ∧ IsErr w' w.heap.size (checkF s zs d) v) ∧ Below w.heap.size w w' := by
  have hB0 : Below w.heap.size w (w.alloc (.cells #[.int .i64 s, .slice a len cap, .int .i64 d] 41)) := (Below.refl _ _).alloc (Nat.le_refl _) _
  have hck := new_bad s d a len cap zs _ (h.below hB0) hbad
  have HCK := hide hck
  have HBAD := hide hbad
  clear hck hbad
  go_enter Tryz.func61, Tryz.ntmps61
  go_wp2_with fail
  refine HCK.out.mono ?_
  rintro e w1 ⟨⟨v, rfl, hv⟩, hB⟩
  have hv' : IsErr w1 w.heap.size (checkF s zs d) v := hv.lower (by simp)
  have HV := hide hv'
  have HB := hide (hB0.trans (hB.mono (by simp)))
  obtain ⟨t, x', rfl, _⟩ := hv.bad HBAD.out
  clear hv hv' hB hB0 HCK
  go_wp2
  go_ret2
  exact ⟨⟨_, rfl, HV.out⟩, HB.out⟩
end Go.Proofs.YtonkapgbcnkjcaaGreatDoor

/- What a replica keeps from call to call: plain facts. -/
namespace Go.Proofs.YtonkapgbcnkjcaaGreatDoor
open Go.RowKit Go.Deep

theorem Good.mono {R : Nat → Nat} {n : Nat} {B B' : Int} {S : St} (h : Good R n B S) (hB : B ≤ B') : Good R n B' S :=
  ⟨h.set, h.apart, h.used, h.rest, fun k => ⟨(h.idle k).1, Int.le_trans (h.idle k).2 hB⟩⟩
theorem good_zero (R : Nat → Nat) (n : Nat) (B : Int) (hB : 0 ≤ B) : Good R n B st0 :=
  ⟨Nat.two_pow_pos n, fun i k _ _ _ h _ => absurd h (by show ¬ (Nat.testBit 0 i = true); simp), fun k _ => by show wo 0 _ = 0; simp [wo], fun k _ => ⟨rfl, rfl⟩, fun k => ⟨Int.le_refl _, hB⟩⟩

/-- What is kept: m calls went by. -/
structure RKeep (C : RC) (m : Nat) (R : RS) : Prop where
  id : R.id < 3
  ticks : 0 ≤ R.ticks ∧ R.ticks ≤ (m : Int)
  came : ∀ k, k < 3 → 0 ≤ (R.smp k).came ∧ (R.smp k).came ≤ (m : Int)
  smp : ∀ k, k < 3 → (R.smp k).c < 2 ^ C.s ∧ (R.smp k).v < 2 ^ C.n
  cyc : 0 ≤ R.cycle ∧ R.cycle ≤ 1048576 + (m : Int)
  st : Good (rt C.zs) C.n (1000 + (m : Int)) R.st

section
variable {C : RC} {m : Nat} {R : RS}
theorem RKeep.mono (h : RKeep C m R) {m' : Nat} (hm : m ≤ m') : RKeep C m' R :=
  ⟨h.id, ⟨h.ticks.1, by have := h.ticks.2; omega⟩, fun k hk => ⟨(h.came k hk).1, by have := (h.came k hk).2; omega⟩, h.smp, ⟨h.cyc.1, by have := h.cyc.2; omega⟩, h.st.mono (by omega)⟩
theorem RKeep.ok (h : RKeep C m R) (hm : m < 800000) (hok : checkF (C.s : Int) C.zs (C.d : Int) = (0, -1)) (hn : C.zs.length = C.n) : RpOk R := by
  have hr := range_pos hok
  unfold rangeB at hr
  simp only [Bool.and_eq_true, inB_iff] at hr
  refine ⟨h.id, ⟨h.ticks.1, by have := h.ticks.2; omega⟩, fun k hk => ⟨(h.came k hk).1, by have := (h.came k hk).2; omega⟩, ⟨fun k hk => ?_, fun k hk => ?_⟩, good_ok hok (by rw [hn]; exact h.st) (by omega)⟩
  · exact Nat.lt_of_lt_of_le (h.smp k hk).1 (Nat.pow_le_pow_right (n := 2) (by decide) (show C.s ≤ 12 by omega))
  · exact Nat.lt_of_lt_of_le (h.smp k hk).2 (Nat.pow_le_pow_right (n := 2) (by decide) (show C.n ≤ 8 by omega))
theorem keep_new {id : Nat} (hid : id < 3) : RKeep C 0 (new0 id) :=
  ⟨hid, ⟨Int.le_refl _, Int.le_refl _⟩, fun _ _ => ⟨Int.le_refl _, Int.le_refl _⟩, fun _ _ => ⟨Nat.two_pow_pos _, Nat.two_pow_pos _⟩, ⟨Int.le_refl _, by show (0 : Int) ≤ 1048576 + ((0 : Nat) : Int); omega⟩, good_zero _ _ _ (by omega)⟩
theorem RKeep.see (h : RKeep C m R) (x y : Int) : RKeep C m (seeR x y R) := ⟨h.id, h.ticks, h.came, h.smp, h.cyc, h.st⟩
theorem RKeep.put (h : RKeep C m R) (k : Nat) (x y : Int) : RKeep C m (putR k (fitN C.s x) (fitN C.n y) R) := by
  refine ⟨h.id, h.ticks, fun j hj => ?_, fun j hj => ?_, h.cyc, h.st⟩
  · show 0 ≤ (upd R.smp k _ j).came ∧ (upd R.smp k _ j).came ≤ (m : Int)
    by_cases e : j = k
    · rw [e, upd_same]; exact h.ticks
    · rw [upd_other _ _ e]; exact h.came j hj
  · show (upd R.smp k _ j).c < _ ∧ (upd R.smp k _ j).v < _
    by_cases e : j = k
    · rw [e, upd_same]; exact ⟨fitN_lt _ _, fitN_lt _ _⟩
    · rw [upd_other _ _ e]; exact h.smp j hj
theorem fg_cases (t : Int) (x : Smp) : fgone t x = smp0 ∨ fgone t x = x := by unfold fgone; split; exact .inl rfl; exact .inr rfl
theorem RKeep.tick (h : RKeep C m R) : RKeep C (m + 1) (tickS C R) := by
  have h1 : RKeep C (m + 1) (forgetR { R with ticks := R.ticks + 1 }) := by
    refine ⟨h.id, ⟨by have := h.ticks.1; show 0 ≤ R.ticks + 1; omega, by have := h.ticks.2; show R.ticks + 1 ≤ ((m + 1 : Nat) : Int); omega⟩, fun j hj => ?_, fun j hj => ?_, ⟨h.cyc.1, by have := h.cyc.2; show R.cycle ≤ _; omega⟩, h.st.mono (by omega)⟩
    · show 0 ≤ (fgTo (R.ticks + 1) R.smp 3 j).came ∧ (fgTo (R.ticks + 1) R.smp 3 j).came ≤ ((m + 1 : Nat) : Int)
      rw [fgTo_at, if_pos hj]
      rcases fg_cases (R.ticks + 1) (R.smp j) with e | e
      · rw [e]; exact ⟨Int.le_refl _, by show (0 : Int) ≤ _; omega⟩
      · rw [e]; exact ⟨(h.came j hj).1, by have := (h.came j hj).2; omega⟩
    · show (fgTo (R.ticks + 1) R.smp 3 j).c < _ ∧ (fgTo (R.ticks + 1) R.smp 3 j).v < _
      rw [fgTo_at, if_pos hj]
      rcases fg_cases (R.ticks + 1) (R.smp j) with e | e
      · rw [e]; exact ⟨Nat.two_pow_pos _, Nat.two_pow_pos _⟩
      · rw [e]; exact h.smp j hj
  exact h1.put R.id R.sx R.sy
theorem RKeep.goes (h : RKeep C m R) {c : Int} {X : St} {m' : Nat} (hc : 0 ≤ c ∧ c ≤ 1048576 + (m' : Int)) (hX : Good (rt C.zs) C.n (1000 + (m' : Int)) X) : RKeep C m' (goR c X R) :=
  ⟨h.id, ⟨Int.le_refl _, by show (0 : Int) ≤ _; omega⟩, fun _ _ => ⟨Int.le_refl _, by show (0 : Int) ≤ _; omega⟩, fun _ _ => ⟨Nat.two_pow_pos _, Nat.two_pow_pos _⟩, hc, hX⟩
theorem RKeep.ahead (h : RKeep C m R) (x : Int) : RKeep C m (aheadR x R) := ⟨h.id, h.ticks, h.came, h.smp, h.cyc, h.st⟩
theorem RKeep.told (h : RKeep C m R) (k : Nat) (T : Nat → Int) : RKeep C m (toldR k T R) := ⟨h.id, h.ticks, h.came, h.smp, h.cyc, h.st⟩
theorem RKeep.take (h : RKeep C m R) (hok : checkF (C.s : Int) C.zs (C.d : Int) = (0, -1)) (hn : C.zs.length = C.n) {F : FR} (hF : ∀ k, k < 23 → 0 ≤ F k ∧ F k ≤ 1048576) : RKeep C (m + 1) (takeS C F R) := by
  have hin : FIn F := fun k hk => by have := hF k hk; omega
  have h1 := h.mono (Nat.le_succ m)
  unfold takeS
  split
  · unfold doneR
    split
    · exact h1
    · split
      · have hg : Good (rt C.zs) C.n (1000 + (m : Int) + 1) (nextR C R (F 3) (F 4)) := by
          have := next_good (d := C.d) (c := fitN C.s (F 3)) (v := fitN C.n (F 4)) (conf_conf hok) (by rw [hn]; exact h.st)
          rw [hn] at this
          exact this
        exact (h.ahead (F 2)).goes (m' := m + 1) ⟨by have := h.cyc.1; omega, by have := h.cyc.2; omega⟩ (hg.mono (by omega))
      · exact h1.ahead _
  · split
    · exact h1
    · split
      · exact h1.put _ _ _
      · split
        · exact h1
        · split
          · rename_i hc
            unfold learnR
            split
            · have hg := (right_state hok hn (gF_in hin) (gF_far F) hc.2.2).2
              have h2 := hF 2 (by omega)
              exact (h1.told _ _).goes ⟨by show 0 ≤ F 2; omega, by show F 2 ≤ _; omega⟩ (hg.mono (by omega))
            · exact h1.told _ _
          · exact h1
end
end Go.Proofs.YtonkapgbcnkjcaaGreatDoor

/- A system as numbers: three replicas, a voter, what is under way. No program is named here. -/
namespace Go.Proofs.YtonkapgbcnkjcaaGreatDoor
open Go.RowKit Go.Deep

/-- What is under way: of whom, for whom, its bytes. -/
structure Pk where
  src : Nat
  dst : Nat
  b : List Nat
structure SY where
  rp : Nat → RS
  v : VS
  net : List Pk

def bytesF (F : FR) : List Nat := if mayB F = true then encF F else []
def putP (p : Pk) (l : List Pk) : List Pk := if 120 ≤ l.length then l else l ++ [p]
def sendN (src : Nat) (F : FR) (dst : Nat) (l : List Pk) : List Pk := putP ⟨src, dst, bytesF F⟩ l
/-- To those below k that it is not by. -/
def othersN (src : Nat) (F : FR) (l : List Pk) : Nat → List Pk
  | 0 => l
  | k + 1 => if k = src then othersN src F l k else sendN src F k (othersN src F l k)
def sendsN (src dst : Nat) : List FR → List Pk → List Pk
  | [], l => l
  | F :: r, l => sendsN src dst r (sendN src F dst l)
def allsN (src : Nat) : List FR → List Pk → List Pk
  | [], l => l
  | F :: r, l => allsN src r (othersN src F l 3)

def tickNet (L : RC) (k : Nat) (R : RS) (l : List Pk) : List Pk := if saysB R then sendN k (secondR L R) 3 (othersN k (sampleR R) l 3) else othersN k (sampleR R) l 3
def tickSy (L : RC) (k : Nat) (S : SY) : SY := ⟨upd S.rp k (tickS L (S.rp k)), S.v, tickNet L k (tickS L (S.rp k)) S.net⟩
def asksSy (k : Nat) (S : SY) : SY := ⟨S.rp, S.v, othersN k (asksR (S.rp k)) S.net 3⟩
def seeSy (k : Nat) (x y : Int) (S : SY) : SY := ⟨upd S.rp k (seeR x y (S.rp k)), S.v, S.net⟩
def crashSy (k : Nat) (S : SY) : SY := ⟨upd S.rp k (new0 k), S.v, S.net⟩
def vtickSy (S : SY) : SY := ⟨S.rp, tickF S.v, S.net⟩
def latchSy (S : SY) : SY := ⟨S.rp, latchF S.v, S.net⟩
def putSy (p : Pk) (S : SY) : SY := ⟨S.rp, S.v, putP p S.net⟩
def outSy (i : Nat) (S : SY) : SY := ⟨S.rp, S.v, S.net.eraseIdx i⟩
def pkAt (l : List Pk) (i : Nat) : Pk := l[i]?.getD ⟨0, 0, []⟩
/-- Is it nothing? -/
def isNone (p : Pk) : Prop := (decF p.b).1 ≠ 0 ∨ (decF p.b).2 1 ≠ (p.src : Int)
instance (p : Pk) : Decidable (isNone p) := by unfold isNone; infer_instance
def voteNet (win src : Nat) (S : SY) (F : FR) : List Pk := if (takeF win S.v F).2.2 then allsN 3 (takeF win S.v F).2.1 S.net else sendsN 3 src (takeF win S.v F).2.1 S.net
/-- One comes, that is not under way any more. -/
def comeSy (L : RC) (win : Nat) (p : Pk) (S : SY) : SY :=
  if isNone p then S
  else if p.dst = 3 then ⟨S.rp, (takeF win S.v (decF p.b).2).1, voteNet win p.src S (decF p.b).2⟩
  else ⟨upd S.rp p.dst (takeS L (decF p.b).2 (S.rp p.dst)), S.v, sendsN p.dst p.src (takeT L (decF p.b).2 (S.rp p.dst)) S.net⟩
def arriveSy (L : RC) (win i : Nat) (S : SY) : SY := comeSy L win (pkAt S.net i) (outSy i S)
def runAll (L : RC) (win : Nat) : Nat → SY → SY
  | 0, S => S
  | m + 1, S => runAll L win m (arriveSy L win 0 S)

/-! ### What is known behind what was committed -/
def inSt (L : RC) (X : St) (c v : Int) : St := nextF (rt L.zs) (conf L.zs) L.n L.d (fitN L.s c) (fitN L.n v) X
def outOf (L : RC) (X : St) (c v : Int) : Nat := outF (rt L.zs) (conf L.zs) L.n L.d (fitN L.s c) (fitN L.n v) X
def stOf (L : RC) : List Cm → St → St
  | [], X => X
  | d :: r, X => stOf L r (inSt L X d.c d.v)
def stAt (L : RC) (tr : List Cm) (n : Nat) : St := stOf L (tr.take n) st0
theorem stOf_app (L : RC) (a b : List Cm) (X : St) : stOf L (a ++ b) X = stOf L b (stOf L a X) := by
  induction a generalizing X with
  | nil => rfl
  | cons d r ih => exact ih _
theorem stAt_zero (L : RC) (tr : List Cm) : stAt L tr 0 = st0 := rfl
theorem stAt_succ {L : RC} {tr : List Cm} {n : Nat} (h : n < tr.length) : stAt L tr (n + 1) = inSt L (stAt L tr n) (cmAt tr n).c (cmAt tr n).v := by
  unfold stAt cmAt
  rw [List.take_add_one, stOf_app, List.getElem?_eq_getElem h]
  rfl
theorem stAt_app {L : RC} {tr : List Cm} {n : Nat} (h : n ≤ tr.length) (a : List Cm) : stAt L (tr ++ a) n = stAt L tr n := by
  unfold stAt
  rw [List.take_append_of_le_length h]
theorem cmAt_app {tr : List Cm} {n : Nat} (h : n < tr.length) (a : List Cm) : cmAt (tr ++ a) n = cmAt tr n := by
  unfold cmAt
  rw [List.getElem?_append_left h]
theorem cmAt_new (tr : List Cm) (d : Cm) : cmAt (tr ++ [d]) tr.length = d := by
  unfold cmAt
  simp
structure LOk (L : RC) : Prop where
  ok : checkF (L.s : Int) L.zs (L.d : Int) = (0, -1)
  len : L.zs.length = L.n
theorem LOk.few {L : RC} (h : LOk L) : 1 ≤ L.s ∧ L.s ≤ 12 ∧ 1 ≤ L.n ∧ L.n ≤ 8 ∧ L.d ≤ 20 := by
  have hr := range_pos h.ok
  unfold rangeB at hr
  simp only [Bool.and_eq_true, inB_iff] at hr
  have := h.len
  omega
theorem inSt_good {L : RC} (h : LOk L) {B : Int} {X : St} (hX : Good (rt L.zs) L.n B X) (c v : Int) : Good (rt L.zs) L.n (B + 1) (inSt L X c v) := by
  have := next_good (d := L.d) (c := fitN L.s c) (v := fitN L.n v) (conf_conf h.ok) (by rw [h.len]; exact hX)
  rw [h.len] at this
  exact this
theorem stAt_good {L : RC} (h : LOk L) (tr : List Cm) : ∀ n, n ≤ tr.length → Good (rt L.zs) L.n (n : Int) (stAt L tr n)
  | 0, _ => good_zero _ _ _ (Int.le_refl _)
  | n + 1, hn => by
    rw [stAt_succ (by omega)]
    have := inSt_good h (stAt_good h tr n (by omega)) (cmAt tr n).c (cmAt tr n).v
    exact this.mono (by omega)
end Go.Proofs.YtonkapgbcnkjcaaGreatDoor

/- The contract of a voter's past. -/
namespace Go.Proofs.YtonkapgbcnkjcaaGreatDoor
open Go.RowKit Go.Deep

/-- One frame that is told, in a block that the call owns. -/
theorem own_one {w : World} {g base : Nat} {t : TypeId} {F : FR} (h : w.heap[g]? = some (.cells (fCells F) t (0, 0))) (hb : base ≤ g) : w.ownsRow base t 23 (.slice (some ⟨g, 0, none⟩) 1 1) 1 (fCells F).toList :=
  ⟨by simp [fCells_size], .inr ⟨g, 1, fCells F, rfl, hb, h, Nat.le_refl _, by unfold maxLen; omega, by rw [fCells_size], by rw [List.take_of_length_le (by simp [fCells_size])]⟩⟩
theorem fCells_oneCell (F : FR) : ∀ u ∈ (fCells F).toList, u.oneCell' = true := by
  intro u hu
  have := fOne F
  rw [Array.all_eq_true'] at this
  exact this u (by simpa using hu)

set_option maxHeartbeats 1000000 in
set_option maxRecDepth 20000 in
theorem past_any (N p win : Nat) (tv : Value) (S : VS) (w : World) (k : Nat) (h : VIs w N p win tv S) (hok : VOk win S) (hk : k < S.tr.length) :
    Calls Tryz.prog 100 #[.pointer (some ⟨p, 0, none⟩), .int .i64 (k : Int)] w fun e w' => (∃ v, e = .returned v ∧ FRow w' 35 v (pastF S.tr k)) ∧ Below w.heap.size w w' := by
  have hf := hok.few
  obtain ⟨a, cap, rfl⟩ := h.row.shape
  obtain ⟨n, hn⟩ : ∃ n, S.tr.length = n + 1 := ⟨S.tr.length - 1, by omega⟩
  have HD := hide (done_any N p win _ S w k h hok hk)
  obtain ⟨F, hF⟩ : ∃ F, Hid (doneF k (cmAt S.tr k) = F) := ⟨_, hide rfl⟩
  rw [hF.out] at HD
  have HV := hide h
  obtain ⟨L, hL⟩ : ∃ L, Hid (pastF S.tr k = L) := ⟨_, hide rfl⟩
  rw [hL.out]
  clear h
  go_enter Tryz.func100, Tryz.ntmps100
  go_wp2_with (first
    | (go_at_call 103; refine HD.out.mono ?_; rintro e w1 ⟨rfl, hB1⟩)
    | (refine wpList_one_f rfl _ rfl F rfl _ rfl ?_))
  have hv1 := HV.out.below hB1
  have c0 := hv1.at 0
  rw [show (vCells (.slice a S.tr.length cap) win S)[0]? = some (.slice a S.tr.length cap) from rfl, hn] at c0
  have HV1 := hide hv1
  have HB1 := hide hB1
  have hp := hv1.lt
  clear hv1 hB1 HD
  intro w2 HW2
  obtain ⟨hblk, hsz2, hB2⟩ := HW2.out
  have hv2 := HV1.out.below hB2
  have c02 := hv2.at 0
  rw [show (vCells (.slice a S.tr.length cap) win S)[0]? = some (.slice a S.tr.length cap) from rfl, hn] at c02
  have HV2 := hide hv2
  have HBLK := hide hblk
  have HB2 := hide (HB1.out.trans (hB2.mono HB1.out.size))
  have hp2 := hv2.lt
  obtain ⟨q, hq⟩ : ∃ q, Hid (w1.heap.size = q) := ⟨_, hide rfl⟩
  rw [hq.out] at hsz2 HBLK ⊢
  have hwq : Hid (w.heap.size ≤ q) := hide (hq.out ▸ HB1.out.size)
  clear hblk hB2 hv2 HW2 c0 hp HV1 HV HB1 hq
  by_cases he : k = n
  · have hP : pastF S.tr k = [F] := by unfold pastF; rw [if_pos (by omega), hF.out]
    have HL := hide (hL.out.symm.trans hP)
    subst he
    have hk1 : k ≤ 1000 := by omega
    clear hP hL hn hk hf HV2 hok hF
    go_wp2
    go_ret
    exact ⟨⟨_, rfl, by rw [HL.out]; exact FRow.one HBLK.out⟩, HB2.out⟩
  · have hP : pastF S.tr k = [F, doneF n (cmAt S.tr n)] := by unfold pastF; rw [if_neg (by omega), hF.out, hn, Nat.add_sub_cancel]
    have HL := hide (hL.out.symm.trans hP)
    have HD := hide (done_any N p win _ S w2 n HV2.out hok (by omega))
    generalize doneF n (cmAt S.tr n) = G at HD HL
    obtain ⟨i0, hi, hz0, hz1, hz2⟩ := info_parts infoFrameZ
    have HI := hide hi
    have HZ0 := hide hz0
    have HZ1 := hide hz1
    have HZ2 := hide hz2
    have hk1 : k ≤ 1000 := by omega
    have hn1 : n ≤ 1000 := by omega
    clear hP hL hn hk hf hok hF HV2 hi hz0 hz1 hz2
    go_wp2_with (first
      | (go_at_call 103; refine HD.out.mono ?_; rintro e w3 ⟨rfl, hB3⟩)
      | (refine wpList_one_f rfl _ rfl G rfl _ rfl ?_))
    intro w4 HW4
    obtain ⟨hblk4, hsz4, hB4⟩ := HW4.out
    have h24 : Below w2.heap.size w2 w4 := hB3.trans (hB4.mono hB3.size)
    have HO := hide (own_one (base := w.heap.size) ((h24.block q (by omega)).trans HBLK.out) hwq.out)
    have HB4 := hide (HB2.out.trans (h24.mono HB2.out.size))
    have HN4 := hide hblk4
    have hs3 := hB3.size
    clear hblk4 hB3 hB4 h24 HW4 HD
    go_wp2_with (at_builtin; refine wpList_append_lies _ rfl _ _ 134 rfl w.heap.size 35 i0 (.agg (fCells fr0)) 23 184 Tryz.underlying134 HI.out HZ0.out HZ1.out HZ2.out rfl (by decide) _ _ _ rfl HO.out ⟨w3.heap.size, 0, none⟩ 1 1 (fCells G).toList rfl (by simp [fCells_size]) (World.news_of_block HN4.out) (fCells_oneCell G) (by decide) (by unfold maxLen; omega) (by omega) HB4.out.size _ rfl ?_)
    intro g cap' w5 hown hgrow hat hlt
    have HO5 := hide hown
    have HB5 := hide (HB4.out.grown hgrow HB4.out.size (fun j hj => by
      have : q = j := by simpa [Value.ownBlock] using hj
      have := hwq.out
      omega))
    clear hown hgrow hat hlt
    go_wp2
    go_ret
    exact ⟨⟨_, rfl, by rw [HL.out]; exact FRow.two HO5.out⟩, HB5.out⟩
end Go.Proofs.YtonkapgbcnkjcaaGreatDoor
