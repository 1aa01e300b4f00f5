import Derived.Test.YtaablbmgagiajabGreatDoorGAF
import Derived.Test.YtaablbmgagiajabGreatDoorVtDef
import Derived.Test.YtaablbmgagiajabGreatDoorGAA
import Derived.Test.YtaablbmgagiajabGreatDoorVtSmall
import Derived.Test.YtaablbmgagiajabGreatDoorFrDec
import Derived.Test.YtaablbmgagiajabGreatDoorVtAg
import Derived.Deep.RegionWith
import Derived.Deep.RegionHeld3
import Derived.Deep.RegionLaw
import Derived.Deep.CutRange
/- What a replica keeps from call to call: plain facts. -/
namespace Go.Proofs.YtaablbmgagiajabGreatDoor
open Go.RowKit Go.Deep

theorem Good.mono {R : Nat → Nat} {n : Nat} {B B' : Int} {S : St} (h : Good R n B S) (hB : B ≤ B') : Good R n B' S :=
  ⟨h.set, h.apart, h.used, h.rest, fun k => ⟨(h.idle k).1, Int.le_trans (h.idle k).2 hB⟩⟩
theorem good_zero (R : Nat → Nat) (n : Nat) (B : Int) (hB : 0 ≤ B) : Good R n B st0 :=
  ⟨Nat.two_pow_pos n, fun i k _ _ _ h _ => absurd h (by show ¬ (Nat.testBit 0 i = true); simp), fun k _ => by show wo 0 _ = 0; simp [wo], fun k _ => ⟨rfl, rfl⟩, fun k => ⟨Int.le_refl _, hB⟩⟩

/-- What is kept: m calls went by. -/
structure RKeep (C : RC) (m : Nat) (R : RS) : Prop where
  id : R.id < 3
  ticks : 0 ≤ R.ticks ∧ R.ticks ≤ (m : Int)
  came : ∀ k, k < 3 → 0 ≤ (R.smp k).came ∧ (R.smp k).came ≤ (m : Int)
  smp : ∀ k, k < 3 → (R.smp k).c < 2 ^ C.s ∧ (R.smp k).v < 2 ^ C.n
  cyc : 0 ≤ R.cycle ∧ R.cycle ≤ 1048576 + (m : Int)
  st : Good (rt C.zs) C.n (1000 + (m : Int)) R.st

section
variable {C : RC} {m : Nat} {R : RS}
theorem RKeep.mono (h : RKeep C m R) {m' : Nat} (hm : m ≤ m') : RKeep C m' R :=
  ⟨h.id, ⟨h.ticks.1, by have := h.ticks.2; omega⟩, fun k hk => ⟨(h.came k hk).1, by have := (h.came k hk).2; omega⟩, h.smp, ⟨h.cyc.1, by have := h.cyc.2; omega⟩, h.st.mono (by omega)⟩
theorem RKeep.ok (h : RKeep C m R) (hm : m < 800000) (hok : checkF (C.s : Int) C.zs (C.d : Int) = (0, -1)) (hn : C.zs.length = C.n) : RpOk R := by
  have hr := range_pos hok
  unfold rangeB at hr
  simp only [Bool.and_eq_true, inB_iff] at hr
  refine ⟨h.id, ⟨h.ticks.1, by have := h.ticks.2; omega⟩, fun k hk => ⟨(h.came k hk).1, by have := (h.came k hk).2; omega⟩, ⟨fun k hk => ?_, fun k hk => ?_⟩, good_ok hok (by rw [hn]; exact h.st) (by omega)⟩
  · exact Nat.lt_of_lt_of_le (h.smp k hk).1 (Nat.pow_le_pow_right (n := 2) (by decide) (show C.s ≤ 12 by omega))
  · exact Nat.lt_of_lt_of_le (h.smp k hk).2 (Nat.pow_le_pow_right (n := 2) (by decide) (show C.n ≤ 8 by omega))
theorem keep_new {id : Nat} (hid : id < 3) : RKeep C 0 (new0 id) :=
  ⟨hid, ⟨Int.le_refl _, Int.le_refl _⟩, fun _ _ => ⟨Int.le_refl _, Int.le_refl _⟩, fun _ _ => ⟨Nat.two_pow_pos _, Nat.two_pow_pos _⟩, ⟨Int.le_refl _, by show (0 : Int) ≤ 1048576 + ((0 : Nat) : Int); omega⟩, good_zero _ _ _ (by omega)⟩
theorem RKeep.see (h : RKeep C m R) (x y : Int) : RKeep C m (seeR x y R) := ⟨h.id, h.ticks, h.came, h.smp, h.cyc, h.st⟩
theorem RKeep.put (h : RKeep C m R) (k : Nat) (x y : Int) : RKeep C m (putR k (fitN C.s x) (fitN C.n y) R) := by
  refine ⟨h.id, h.ticks, fun j hj => ?_, fun j hj => ?_, h.cyc, h.st⟩
  · show 0 ≤ (upd R.smp k _ j).came ∧ (upd R.smp k _ j).came ≤ (m : Int)
    by_cases e : j = k
    · rw [e, upd_same]; exact h.ticks
    · rw [upd_other _ _ e]; exact h.came j hj
  · show (upd R.smp k _ j).c < _ ∧ (upd R.smp k _ j).v < _
    by_cases e : j = k
    · rw [e, upd_same]; exact ⟨fitN_lt _ _, fitN_lt _ _⟩
    · rw [upd_other _ _ e]; exact h.smp j hj
theorem fg_cases (t : Int) (x : Smp) : fgone t x = smp0 ∨ fgone t x = x := by unfold fgone; split; exact .inl rfl; exact .inr rfl
theorem RKeep.tick (h : RKeep C m R) : RKeep C (m + 1) (tickS C R) := by
  have h1 : RKeep C (m + 1) (forgetR { R with ticks := R.ticks + 1 }) := by
    refine ⟨h.id, ⟨by have := h.ticks.1; show 0 ≤ R.ticks + 1; omega, by have := h.ticks.2; show R.ticks + 1 ≤ ((m + 1 : Nat) : Int); omega⟩, fun j hj => ?_, fun j hj => ?_, ⟨h.cyc.1, by have := h.cyc.2; show R.cycle ≤ _; omega⟩, h.st.mono (by omega)⟩
    · show 0 ≤ (fgTo (R.ticks + 1) R.smp 3 j).came ∧ (fgTo (R.ticks + 1) R.smp 3 j).came ≤ ((m + 1 : Nat) : Int)
      rw [fgTo_at, if_pos hj]
      rcases fg_cases (R.ticks + 1) (R.smp j) with e | e
      · rw [e]; exact ⟨Int.le_refl _, by show (0 : Int) ≤ _; omega⟩
      · rw [e]; exact ⟨(h.came j hj).1, by have := (h.came j hj).2; omega⟩
    · show (fgTo (R.ticks + 1) R.smp 3 j).c < _ ∧ (fgTo (R.ticks + 1) R.smp 3 j).v < _
      rw [fgTo_at, if_pos hj]
      rcases fg_cases (R.ticks + 1) (R.smp j) with e | e
      · rw [e]; exact ⟨Nat.two_pow_pos _, Nat.two_pow_pos _⟩
      · rw [e]; exact h.smp j hj
  exact h1.put R.id R.sx R.sy
theorem RKeep.goes (h : RKeep C m R) {c : Int} {X : St} {m' : Nat} (hc : 0 ≤ c ∧ c ≤ 1048576 + (m' : Int)) (hX : Good (rt C.zs) C.n (1000 + (m' : Int)) X) : RKeep C m' (goR c X R) :=
  ⟨h.id, ⟨Int.le_refl _, by show (0 : Int) ≤ _; omega⟩, fun _ _ => ⟨Int.le_refl _, by show (0 : Int) ≤ _; omega⟩, fun _ _ => ⟨Nat.two_pow_pos _, Nat.two_pow_pos _⟩, hc, hX⟩
theorem RKeep.ahead (h : RKeep C m R) (x : Int) : RKeep C m (aheadR x R) := ⟨h.id, h.ticks, h.came, h.smp, h.cyc, h.st⟩
theorem RKeep.told (h : RKeep C m R) (k : Nat) (T : Nat → Int) : RKeep C m (toldR k T R) := ⟨h.id, h.ticks, h.came, h.smp, h.cyc, h.st⟩
theorem RKeep.take (h : RKeep C m R) (hok : checkF (C.s : Int) C.zs (C.d : Int) = (0, -1)) (hn : C.zs.length = C.n) {F : FR} (hF : ∀ k, k < 23 → 0 ≤ F k ∧ F k ≤ 1048576) : RKeep C (m + 1) (takeS C F R) := by
  have hin : FIn F := fun k hk => by have := hF k hk; omega
  have h1 := h.mono (Nat.le_succ m)
  unfold takeS
  split
  · unfold doneR
    split
    · exact h1
    · split
      · have hg : Good (rt C.zs) C.n (1000 + (m : Int) + 1) (nextR C R (F 3) (F 4)) := by
          have := next_good (d := C.d) (c := fitN C.s (F 3)) (v := fitN C.n (F 4)) (conf_conf hok) (by rw [hn]; exact h.st)
          rw [hn] at this
          exact this
        exact (h.ahead (F 2)).goes (m' := m + 1) ⟨by have := h.cyc.1; omega, by have := h.cyc.2; omega⟩ (hg.mono (by omega))
      · exact h1.ahead _
  · split
    · exact h1
    · split
      · exact h1.put _ _ _
      · split
        · exact h1
        · split
          · rename_i hc
            unfold learnR
            split
            · have hg := (right_state hok hn (gF_in hin) (gF_far F) hc.2.2).2
              have h2 := hF 2 (by omega)
              exact (h1.told _ _).goes ⟨by show 0 ≤ F 2; omega, by show F 2 ≤ _; omega⟩ (hg.mono (by omega))
            · exact h1.told _ _
          · exact h1
end
end Go.Proofs.YtaablbmgagiajabGreatDoor

/- A system as numbers: three replicas, a voter, what is under way. No program is named here. -/
namespace Go.Proofs.YtaablbmgagiajabGreatDoor
open Go.RowKit Go.Deep

/-- What is under way: of whom, for whom, its bytes. -/
structure Pk where
  src : Nat
  dst : Nat
  b : List Nat
structure SY where
  rp : Nat → RS
  v : VS
  net : List Pk

def bytesF (F : FR) : List Nat := if mayB F = true then encF F else []
def putP (p : Pk) (l : List Pk) : List Pk := if 120 ≤ l.length then l else l ++ [p]
def sendN (src : Nat) (F : FR) (dst : Nat) (l : List Pk) : List Pk := putP ⟨src, dst, bytesF F⟩ l
/-- To those below k that it is not by. -/
def othersN (src : Nat) (F : FR) (l : List Pk) : Nat → List Pk
  | 0 => l
  | k + 1 => if k = src then othersN src F l k else sendN src F k (othersN src F l k)
def sendsN (src dst : Nat) : List FR → List Pk → List Pk
  | [], l => l
  | F :: r, l => sendsN src dst r (sendN src F dst l)
def allsN (src : Nat) : List FR → List Pk → List Pk
  | [], l => l
  | F :: r, l => allsN src r (othersN src F l 3)

def tickNet (L : RC) (k : Nat) (R : RS) (l : List Pk) : List Pk := if saysB R then sendN k (secondR L R) 3 (othersN k (sampleR R) l 3) else othersN k (sampleR R) l 3
def tickSy (L : RC) (k : Nat) (S : SY) : SY := ⟨upd S.rp k (tickS L (S.rp k)), S.v, tickNet L k (tickS L (S.rp k)) S.net⟩
def asksSy (k : Nat) (S : SY) : SY := ⟨S.rp, S.v, othersN k (asksR (S.rp k)) S.net 3⟩
def seeSy (k : Nat) (x y : Int) (S : SY) : SY := ⟨upd S.rp k (seeR x y (S.rp k)), S.v, S.net⟩
def crashSy (k : Nat) (S : SY) : SY := ⟨upd S.rp k (new0 k), S.v, S.net⟩
def vtickSy (S : SY) : SY := ⟨S.rp, tickF S.v, S.net⟩
def latchSy (S : SY) : SY := ⟨S.rp, latchF S.v, S.net⟩
def putSy (p : Pk) (S : SY) : SY := ⟨S.rp, S.v, putP p S.net⟩
def outSy (i : Nat) (S : SY) : SY := ⟨S.rp, S.v, S.net.eraseIdx i⟩
def pkAt (l : List Pk) (i : Nat) : Pk := l[i]?.getD ⟨0, 0, []⟩
/-- Is it nothing? -/
def isNone (p : Pk) : Prop := (decF p.b).1 ≠ 0 ∨ (decF p.b).2 1 ≠ (p.src : Int)
instance (p : Pk) : Decidable (isNone p) := by unfold isNone; infer_instance
def voteNet (win src : Nat) (S : SY) (F : FR) : List Pk := if (takeF win S.v F).2.2 then allsN 3 (takeF win S.v F).2.1 S.net else sendsN 3 src (takeF win S.v F).2.1 S.net
/-- One comes, that is not under way any more. -/
def comeSy (L : RC) (win : Nat) (p : Pk) (S : SY) : SY :=
  if isNone p then S
  else if p.dst = 3 then ⟨S.rp, (takeF win S.v (decF p.b).2).1, voteNet win p.src S (decF p.b).2⟩
  else ⟨upd S.rp p.dst (takeS L (decF p.b).2 (S.rp p.dst)), S.v, sendsN p.dst p.src (takeT L (decF p.b).2 (S.rp p.dst)) S.net⟩
def arriveSy (L : RC) (win i : Nat) (S : SY) : SY := comeSy L win (pkAt S.net i) (outSy i S)
def runAll (L : RC) (win : Nat) : Nat → SY → SY
  | 0, S => S
  | m + 1, S => runAll L win m (arriveSy L win 0 S)

/-! ### What is known behind what was committed -/
def inSt (L : RC) (X : St) (c v : Int) : St := nextF (rt L.zs) (conf L.zs) L.n L.d (fitN L.s c) (fitN L.n v) X
def outOf (L : RC) (X : St) (c v : Int) : Nat := outF (rt L.zs) (conf L.zs) L.n L.d (fitN L.s c) (fitN L.n v) X
def stOf (L : RC) : List Cm → St → St
  | [], X => X
  | d :: r, X => stOf L r (inSt L X d.c d.v)
def stAt (L : RC) (tr : List Cm) (n : Nat) : St := stOf L (tr.take n) st0
theorem stOf_app (L : RC) (a b : List Cm) (X : St) : stOf L (a ++ b) X = stOf L b (stOf L a X) := by
  induction a generalizing X with
  | nil => rfl
  | cons d r ih => exact ih _
theorem stAt_zero (L : RC) (tr : List Cm) : stAt L tr 0 = st0 := rfl
theorem stAt_succ {L : RC} {tr : List Cm} {n : Nat} (h : n < tr.length) : stAt L tr (n + 1) = inSt L (stAt L tr n) (cmAt tr n).c (cmAt tr n).v := by
  unfold stAt cmAt
  rw [List.take_add_one, stOf_app, List.getElem?_eq_getElem h]
  rfl
theorem stAt_app {L : RC} {tr : List Cm} {n : Nat} (h : n ≤ tr.length) (a : List Cm) : stAt L (tr ++ a) n = stAt L tr n := by
  unfold stAt
  rw [List.take_append_of_le_length h]
theorem cmAt_app {tr : List Cm} {n : Nat} (h : n < tr.length) (a : List Cm) : cmAt (tr ++ a) n = cmAt tr n := by
  unfold cmAt
  rw [List.getElem?_append_left h]
theorem cmAt_new (tr : List Cm) (d : Cm) : cmAt (tr ++ [d]) tr.length = d := by
  unfold cmAt
  simp
structure LOk (L : RC) : Prop where
  ok : checkF (L.s : Int) L.zs (L.d : Int) = (0, -1)
  len : L.zs.length = L.n
theorem LOk.few {L : RC} (h : LOk L) : 1 ≤ L.s ∧ L.s ≤ 12 ∧ 1 ≤ L.n ∧ L.n ≤ 8 ∧ L.d ≤ 20 := by
  have hr := range_pos h.ok
  unfold rangeB at hr
  simp only [Bool.and_eq_true, inB_iff] at hr
  have := h.len
  omega
theorem inSt_good {L : RC} (h : LOk L) {B : Int} {X : St} (hX : Good (rt L.zs) L.n B X) (c v : Int) : Good (rt L.zs) L.n (B + 1) (inSt L X c v) := by
  have := next_good (d := L.d) (c := fitN L.s c) (v := fitN L.n v) (conf_conf h.ok) (by rw [h.len]; exact hX)
  rw [h.len] at this
  exact this
theorem stAt_good {L : RC} (h : LOk L) (tr : List Cm) : ∀ n, n ≤ tr.length → Good (rt L.zs) L.n (n : Int) (stAt L tr n)
  | 0, _ => good_zero _ _ _ (Int.le_refl _)
  | n + 1, hn => by
    rw [stAt_succ (by omega)]
    have := inSt_good h (stAt_good h tr n (by omega)) (cmAt tr n).c (cmAt tr n).v
    exact this.mono (by omega)
end Go.Proofs.YtaablbmgagiajabGreatDoor

/- The contracts of a voter's done and past. -/
namespace Go.Proofs.YtaablbmgagiajabGreatDoor
open Go.RowKit Go.Deep

theorem infoCommit : (Tryz.prog.info? 49).map (fun i => (i.zero, i.size, i.bytes)) = some (some (.agg #[.int .i64 0, .int .i64 0, .int .i64 0]), 3, 24) := by kernel_rfl
theorem infoCommit3 : (Tryz.prog.info? 49).map (·.size) = some 3 := by kernel_rfl

set_option maxHeartbeats 1000000 in
set_option maxRecDepth 20000 in
theorem done_any (N p win : Nat) (tv : Value) (S : VS) (w : World) (k : Nat) (h : VIs w N p win tv S) (hok : VOk win S) (hk : k < S.tr.length) :
    Calls Tryz.prog 195 #[.pointer (some ⟨p, 0, none⟩), .int .i64 (k : Int)] w fun e w' => e = .returned (.agg (fCells (doneF k (cmAt S.tr k)))) ∧ Below w.heap.size w w' := by
  have hf := hok.few
  obtain ⟨g, cap, rfl, _, hg, hcap⟩ := h.row.has (by omega)
  have c0 := h.at 0
  rw [show (vCells (.slice (some ⟨g, 0, none⟩) S.tr.length cap) win S)[0]? = some (.slice (some ⟨g, 0, none⟩) S.tr.length cap) from rfl] at c0
  have hW : FIs (w.alloc (.cells (fCells fr0) 36)) w.heap.size 36 fr0 := blk_new _ _
  have hrow := (h.below ((Below.refl _ _).alloc (Nat.le_refl _) (.cells (fCells fr0) 36))).row.range hk
  have HROW := hide hrow
  obtain ⟨n, hn⟩ : ∃ n, S.tr.length = n := ⟨_, rfl⟩
  rw [hn] at c0 hk hf hcap
  generalize cmAt S.tr k = d at HROW hrow ⊢
  obtain ⟨d1, d2, d3⟩ := d
  have hres : FIs ((w.alloc (.cells (fCells fr0) 36)).alloc (.cells #[.int .i64 d1, .int .i64 d2, .int .i64 d3] 49)) w.heap.size 36 fr0 := (Below.heap_alloc _ _ _ (by simp)).trans hW
  have HRES := hide hres
  have HB := hide (((Below.refl w.heap.size w).alloc (Nat.le_refl _) (.cells (fCells fr0) 36)).alloc (by simp) (.cells #[.int .i64 d1, .int .i64 d2, .int .i64 d3] 49))
  have hN : fCells (doneF k ⟨d1, d2, d3⟩) = #[.int .i64 3, .int .i64 3, .int .i64 (k : Int), .int .i64 d1, .int .i64 d2, .int .i64 d3, .int .i64 0, .int .i64 0, .int .i64 0, .int .i64 0, .int .i64 0, .int .i64 0, .int .i64 0, .int .i64 0, .int .i64 0, .int .i64 0, .int .i64 0, .int .i64 0, .int .i64 0, .int .i64 0, .int .i64 0, .int .i64 0, .int .i64 0] := by
    simp [fCells, doneF, votF]
  have HN := hide hN
  have hpl := h.lt
  clear h hok hn hW hrow hres hN
  go_enter Tryz.func195, Tryz.ntmps195
  go_wp2_with (first
    | (refine wpList_load_mid rfl 49 _ rfl g (k * 3) rfl _ _ HROW.out Tryz.underlying49 rfl (by rw [infoCommit3]; rfl) ?_)
    | (refine wpList_store_fl rfl _ _ rfl w.heap.size (doneF k ⟨d1, d2, d3⟩) rfl (by rw [HN.out]; rfl) fr0 HRES.out ?_))
  intro w9 HF9
  go_wp2
  refine bodyPost_ret (v := .agg (fCells (doneF k ⟨d1, d2, d3⟩))) ?_ rfl ⟨rfl, HB.out.trans (HF9.out.2.2 _ (Nat.le_refl _))⟩
  exact results_cell1 Tryz.results195 rfl (load_f HF9.out.1)
end Go.Proofs.YtaablbmgagiajabGreatDoor

/- The contract of a voter's past. -/
namespace Go.Proofs.YtaablbmgagiajabGreatDoor
open Go.RowKit Go.Deep

/-- One frame that is told, in a block that the call owns. -/
theorem own_one {w : World} {g base : Nat} {t : TypeId} {F : FR} (h : w.heap[g]? = some (.cells (fCells F) t (0, 0))) (hb : base ≤ g) : w.ownsRow base t 23 (.slice (some ⟨g, 0, none⟩) 1 1) 1 (fCells F).toList :=
  ⟨by simp [fCells_size], .inr ⟨g, 1, fCells F, rfl, hb, h, Nat.le_refl _, by unfold maxLen; omega, by rw [fCells_size], by rw [List.take_of_length_le (by simp [fCells_size])]⟩⟩
theorem fCells_oneCell (F : FR) : ∀ u ∈ (fCells F).toList, u.oneCell' = true := by
  intro u hu
  have := fOne F
  rw [Array.all_eq_true'] at this
  exact this u (by simpa using hu)

set_option maxHeartbeats 1000000 in
set_option maxRecDepth 20000 in
theorem past_any (N p win : Nat) (tv : Value) (S : VS) (w : World) (k : Nat) (h : VIs w N p win tv S) (hok : VOk win S) (hk : k < S.tr.length) :
    Calls Tryz.prog 192 #[.pointer (some ⟨p, 0, none⟩), .int .i64 (k : Int)] w fun e w' => (∃ v, e = .returned v ∧ FRow w' 36 v (pastF S.tr k)) ∧ Below w.heap.size w w' := by
  have hf := hok.few
  obtain ⟨a, cap, rfl⟩ := h.row.shape
  obtain ⟨n, hn⟩ : ∃ n, S.tr.length = n + 1 := ⟨S.tr.length - 1, by omega⟩
  have HD := hide (done_any N p win _ S w k h hok hk)
  obtain ⟨F, hF⟩ : ∃ F, Hid (doneF k (cmAt S.tr k) = F) := ⟨_, hide rfl⟩
  rw [hF.out] at HD
  have HV := hide h
  obtain ⟨L, hL⟩ : ∃ L, Hid (pastF S.tr k = L) := ⟨_, hide rfl⟩
  rw [hL.out]
  clear h
  go_enter Tryz.func192, Tryz.ntmps192
  go_wp2_with (first
    | (go_at_call 195; refine HD.out.mono ?_; rintro e w1 ⟨rfl, hB1⟩)
    | (refine wpList_one_f rfl _ rfl F rfl _ rfl ?_))
  have hv1 := HV.out.below hB1
  have c0 := hv1.at 0
  rw [show (vCells (.slice a S.tr.length cap) win S)[0]? = some (.slice a S.tr.length cap) from rfl, hn] at c0
  have HV1 := hide hv1
  have HB1 := hide hB1
  have hp := hv1.lt
  clear hv1 hB1 HD
  intro w2 HW2
  obtain ⟨hblk, hsz2, hB2⟩ := HW2.out
  have hv2 := HV1.out.below hB2
  have c02 := hv2.at 0
  rw [show (vCells (.slice a S.tr.length cap) win S)[0]? = some (.slice a S.tr.length cap) from rfl, hn] at c02
  have HV2 := hide hv2
  have HBLK := hide hblk
  have HB2 := hide (HB1.out.trans (hB2.mono HB1.out.size))
  have hp2 := hv2.lt
  obtain ⟨q, hq⟩ : ∃ q, Hid (w1.heap.size = q) := ⟨_, hide rfl⟩
  rw [hq.out] at hsz2 HBLK ⊢
  have hwq : Hid (w.heap.size ≤ q) := hide (hq.out ▸ HB1.out.size)
  clear hblk hB2 hv2 HW2 c0 hp HV1 HV HB1 hq
  by_cases he : k = n
  · have hP : pastF S.tr k = [F] := by unfold pastF; rw [if_pos (by omega), hF.out]
    have HL := hide (hL.out.symm.trans hP)
    subst he
    have hk1 : k ≤ 1000 := by omega
    clear hP hL hn hk hf HV2 hok hF
    go_wp2
    go_ret
    exact ⟨⟨_, rfl, by rw [HL.out]; exact FRow.one HBLK.out⟩, HB2.out⟩
  · have hP : pastF S.tr k = [F, doneF n (cmAt S.tr n)] := by unfold pastF; rw [if_neg (by omega), hF.out, hn, Nat.add_sub_cancel]
    have HL := hide (hL.out.symm.trans hP)
    have HD := hide (done_any N p win _ S w2 n HV2.out hok (by omega))
    generalize doneF n (cmAt S.tr n) = G at HD HL
    obtain ⟨i0, hi, hz0, hz1, hz2⟩ := info_parts infoFrameZ
    have HI := hide hi
    have HZ0 := hide hz0
    have HZ1 := hide hz1
    have HZ2 := hide hz2
    have hk1 : k ≤ 1000 := by omega
    have hn1 : n ≤ 1000 := by omega
    clear hP hL hn hk hf hok hF HV2 hi hz0 hz1 hz2
    go_wp2_with (first
      | (go_at_call 195; refine HD.out.mono ?_; rintro e w3 ⟨rfl, hB3⟩)
      | (refine wpList_one_f rfl _ rfl G rfl _ rfl ?_))
    intro w4 HW4
    obtain ⟨hblk4, hsz4, hB4⟩ := HW4.out
    have h24 : Below w2.heap.size w2 w4 := hB3.trans (hB4.mono hB3.size)
    have HO := hide (own_one (base := w.heap.size) ((h24.block q (by omega)).trans HBLK.out) hwq.out)
    have HB4 := hide (HB2.out.trans (h24.mono HB2.out.size))
    have HN4 := hide hblk4
    have hs3 := hB3.size
    clear hblk4 hB3 hB4 h24 HW4 HD
    go_wp2_with (at_builtin; refine wpList_append_lies _ rfl _ _ 211 rfl w.heap.size 36 i0 (.agg (fCells fr0)) 23 184 Tryz.underlying211 HI.out HZ0.out HZ1.out HZ2.out rfl (by decide) _ _ _ rfl HO.out ⟨w3.heap.size, 0, none⟩ 1 1 (fCells G).toList rfl (by simp [fCells_size]) (World.news_of_block HN4.out) (fCells_oneCell G) (by decide) (by unfold maxLen; omega) (by omega) HB4.out.size _ rfl ?_)
    intro g cap' w5 hown hgrow hat hlt
    have HO5 := hide hown
    have HB5 := hide (HB4.out.grown hgrow HB4.out.size (fun j hj => by
      have : q = j := by simpa [Value.ownBlock] using hj
      have := hwq.out
      omega))
    clear hown hgrow hat hlt
    go_wp2
    go_ret
    exact ⟨⟨_, rfl, by rw [HL.out]; exact FRow.two HO5.out⟩, HB5.out⟩
end Go.Proofs.YtaablbmgagiajabGreatDoor

/- The contract of a voter's commit. -/
namespace Go.Proofs.YtaablbmgagiajabGreatDoor
open Go.RowKit Go.Deep

theorem below_drewN {B : Nat} {w w' : World} (h : Below B w w') (n : Nat) : Below B w (w'.drewN n) := ⟨h.os, h.tape, h.output, h.size, h.block⟩

theorem VIs.app {w2 w3 : World} {N p win n cap g cap' : Nat} {a : Option Addr} {S : VS} {d : Cm} {o : Obj} (h : VIs w2 N p win (.slice a n cap) S) (hn : S.tr.length = n) (hown : w3.ownsRow N 49 3 (.slice (some ⟨g, 0, none⟩) (n + 1) cap') (n + 1) (cmL S.tr ++ cmC d))
    (hg : (w2.alloc o).drew.grownBy w3 (Value.slice a n cap).ownBlock) : VIs (w3.setCell ⟨p, 0, none⟩ (.slice (some ⟨g, 0, none⟩) (n + 1) cap')) N p win (.slice (some ⟨g, 0, none⟩) (n + 1) cap') ⟨S.tr ++ [d], S.b, S.x, S.left, S.out, S.lat⟩ := by
  have hp : w3.heap[p]? = some (.cells (vCells (.slice a n cap) win S) 148 (0, 0)) := (hg.block p (by have := h.lt; simp [World.drew]; omega) (fun e => h.ne p e.symm rfl)).trans ((Below.heap_alloc _ _ _ h.lt).trans h.blk)
  have ht : TIs w3 N (.slice (some ⟨g, 0, none⟩) (n + 1) cap') (S.tr ++ [d]) := by
    unfold TIs
    rw [cmL_append, List.length_append, hn]
    exact hown
  refine ⟨(blk_set hp 0 _).trans rfl, ht.same fun g' hg' => ?_, h.np⟩
  obtain ⟨_, cur, hc⟩ := ht.own hg'
  exact Below.heap_setCell _ _ _ _ (type_ne hc hp (by decide))
theorem app_mod {w w2 w3 : World} {p n cap : Nat} {a : Option Addr} {o : Obj} {u : Value} (h : Mod w w2 (VB p (.slice a n cap))) (hg : (w2.alloc o).drew.grownBy w3 (Value.slice a n cap).ownBlock) : Mod w (w3.setCell ⟨p, 0, none⟩ u) (VB p (.slice a n cap)) := by
  have h1 : Mod w (w2.alloc o).drew (VB p (.slice a n cap)) := h.below ⟨rfl, rfl, rfl, by simp [World.drew], fun k hk => Below.heap_alloc _ _ _ hk⟩
  exact (h1.grown hg (fun k _ e => .inr e)).set _ _ (fun _ => .inl rfl)

/-- No votes are left. -/
def noVotes : List Value := [.bool false, .int .i64 0, .int .i64 0, .int .i64 0, .bool false, .int .i64 0, .int .i64 0, .int .i64 0, .bool false, .int .i64 0, .int .i64 0, .int .i64 0]
theorem noVotes_one : noVotes.toArray.all (·.oneCell') = true := by simp [noVotes, Value.oneCell']
def putL (c : Array Value) : Nat → List Value → Array Value
  | _, [] => c
  | o, v :: r => putL (c.setIfInBounds o v) (o + 1) r
theorem mod_setCells {w w1 : World} {T : Nat → Prop} {b : Nat} (hb : T b) (vs : List Value) (h : Mod w w1 T) (o : Nat) : Mod w (w1.setCells b o vs) T := by
  induction vs generalizing o w1 with
  | nil => exact h
  | cons v r ih => exact ih (h.set ⟨b, o, none⟩ v (fun _ => hb)) (o + 1)
theorem blk_setCells {w : World} {b : Nat} {t : TypeId} (vs : List Value) {c : Array Value} (h : w.heap[b]? = some (.cells c t (0, 0))) (o : Nat) : (w.setCells b o vs).heap[b]? = some (.cells (putL c o vs) t (0, 0)) := by
  induction vs generalizing o w c with
  | nil => exact h
  | cons v r ih => exact ih (blk_set h o v) (o + 1)
theorem put_noVotes (tv : Value) (win : Nat) (S : VS) : putL (vCells tv win S) 1 noVotes = vCells tv win ⟨S.tr, fun _ => false, fun _ => cm0, S.left, S.out, S.lat⟩ := by
  simp [noVotes, putL, vCells, cm0]
theorem VIs.wipe {w : World} {N p win : Nat} {tv : Value} {S : VS} (h : VIs w N p win tv S) : VIs (w.setCells p 1 noVotes) N p win tv ⟨S.tr, fun _ => false, fun _ => cm0, S.left, S.out, S.lat⟩ ∧ Mod w (w.setCells p 1 noVotes) (VB p tv) := by
  have hm2 : Mod w (w.setCells p 1 noVotes) (fun k => k = p) := mod_setCells (T := fun k => k = p) (b := p) rfl _ (Mod.refl _ _) _
  refine ⟨⟨?_, h.row.same fun g hg => hm2.block g (by obtain ⟨_, _, hc⟩ := h.row.own hg; exact blk_lt hc) (h.ne g hg), h.np⟩, mod_setCells (.inl rfl) _ (Mod.refl _ _) _⟩
  rw [blk_setCells noVotes h.blk 1, put_noVotes]
theorem VIs.there {w : World} {N p win : Nat} {tv : Value} {S : VS} (h : VIs w N p win tv S) : w.there p 1 12 := fun j hj => by
  refine ⟨?_, h.free _⟩
  rw [h.at, Array.getElem?_eq_getElem (by show 1 + j < 17; omega)]
  rfl

theorem wpList_wipe {ops : Array Oper} {rest : List Oper} {op : Oper} {a : Act} {w : World} {Q : Exit → Act → World → Prop} (hgd : op.guard = none) (x y : Operand) (ho : op.op = .store 146 x y) (p : Nat) (hx : a.eval x = .pointer (some ⟨p, 1, none⟩)) (hy : a.eval y = .agg #[.bool false, .int .i64 0, .int .i64 0, .int .i64 0, .bool false, .int .i64 0, .int .i64 0, .int .i64 0, .bool false, .int .i64 0, .int .i64 0, .int .i64 0])
    (ht : w.there p 1 12) (h : ∀ w', Hid (w.setCells p 1 noVotes = w') → wpList Tryz.prog ops Q rest (a.put op.dst undef) w') : wpList Tryz.prog ops Q (op :: rest) a w :=
  wpList_store_mid hgd 146 x y ho p 1 noVotes.toArray hx hy ht (by rw [infoVotes]; rfl) noVotes_one (h _ rfl)

set_option maxHeartbeats 1000000 in
set_option maxRecDepth 20000 in
theorem commit_any (N p win : Nat) (tv : Value) (S : VS) (w : World) (d : Cm) (h : VIs w N p win tv S) (hok : VOk win S) (hl : S.lat = false) (hN : N ≤ w.heap.size) :
    Calls Tryz.prog 194 #[.pointer (some ⟨p, 0, none⟩), .agg #[.int .i64 d.c, .int .i64 d.v, .int .i64 d.o]] w fun e w' => e = .returned (.tuple #[]) ∧ ∃ tv', VIs w' N p win tv' (commitS win S d) ∧ Moved w tv tv' ∧ Mod w w' (VB p tv) := by
  obtain ⟨W, hW⟩ : ∃ W, Hid (w.alloc (.cells #[.int .i64 d.c, .int .i64 d.v, .int .i64 d.o] 49) = W) := ⟨_, hide rfl⟩
  have hBW : Below w.heap.size w W := by rw [← hW.out]; exact (Below.refl _ _).alloc (Nat.le_refl _) _
  have hbx : W.heap[w.heap.size]? = some (.cells #[.int .i64 d.c, .int .i64 d.v, .int .i64 d.o] 49 (0, 0)) := by rw [← hW.out]; exact blk_new _ _
  have hWs : W.heap.size = w.heap.size + 1 := by rw [← hW.out]; simp
  have hVW := h.below hBW
  have ho := hok.out
  have hag := agTo_lt S.b S.x d 3 3 (Nat.le_refl _)
  have hon := outN_lt hok d
  obtain ⟨ag, hga⟩ : ∃ z, Hid (agTo S.b S.x d 3 = z) := ⟨_, hide rfl⟩
  obtain ⟨on, hno⟩ : ∃ z, Hid (outN S d = z) := ⟨_, hide rfl⟩
  have eo : bits BinOp.or IntKind.i64 (S.out : Int) (ag : Int) = (on : Int) := by
    rw [hga.out] at hag
    rw [or_lit S.out ag ho hag, ← hno.out, outN, hga.out]
  rw [hno.out] at hon
  have hcall : ∀ wx, Below W.heap.size W wx → Calls Tryz.prog 216 #[.pointer (some ⟨p, 0, none⟩), .agg #[.int .i64 d.c, .int .i64 d.v, .int .i64 d.o]] wx fun e w1 => e = .returned (.int .i64 (ag : Int)) ∧
      (w1.cell? ⟨p, 15, none⟩ = some (.int .i64 (S.out : Int)) ∧ w1.frozen? ⟨p, 15, none⟩ = false) ∧ Hid (VIs (w1.setCell ⟨p, 15, none⟩ (.int .i64 (on : Int))) N p win tv ⟨S.tr, S.b, S.x, S.left, on, S.lat⟩ ∧ Mod w (w1.setCell ⟨p, 15, none⟩ (.int .i64 (on : Int))) (VB p tv) ∧ (w1.setCell ⟨p, 15, none⟩ (.int .i64 (on : Int))).heap[w.heap.size]? = some (.cells #[.int .i64 d.c, .int .i64 d.v, .int .i64 d.o] 49 (0, 0))) := by
    intro wx hx
    have hV := hVW.below hx
    refine (against_any N p win tv S wx d hV).mono ?_
    rintro e w1 ⟨rfl, hB1⟩
    have hV1 := hV.below hB1
    have hBx : Below w.heap.size w w1 := hBW.trans ((hx.mono (by omega)).trans (hB1.mono (by have := hx.size; omega)))
    refine ⟨by rw [hga.out], ⟨(hV1.at 15).trans rfl, hV1.free 15⟩, hide ⟨hV1.put 15 _ rfl rfl, (Mod.ofBelow hBx _).set _ _ (fun _ => .inl rfl), ?_⟩⟩
    rw [Below.heap_setCell _ _ _ _ (by show w.heap.size ≠ p; have := h.lt; omega), hB1.block _ (by have := hx.size; omega), hx.block _ (by omega), hbx]
  have HC := hide hcall
  have c15 : W.cell? ⟨p, 15, none⟩ = some (.int .i64 (S.out : Int)) := (hVW.at 15).trans rfl
  have y0 : W.cell? ⟨w.heap.size, 0, none⟩ = some (.int .i64 d.c) := (blk_cell hbx 0).trans rfl
  have y1 : W.cell? ⟨w.heap.size, 1, none⟩ = some (.int .i64 d.v) := (blk_cell hbx 1).trans rfl
  have y2 : W.cell? ⟨w.heap.size, 2, none⟩ = some (.int .i64 d.o) := (blk_cell hbx 2).trans rfl
  have hp := h.lt
  have hf := hok.few
  have hOld : ∀ g, tv.ownBlock = some g → g < w.heap.size := fun g hg => by obtain ⟨_, cur, hc⟩ := h.row.own hg; exact blk_lt hc
  obtain ⟨a, cap, rfl⟩ := h.row.shape
  obtain ⟨i0, hi, hz0, hz1, hz2⟩ := info_parts infoCommit
  have HI := hide hi
  have HZ0 := hide hz0
  have HZ1 := hide hz1
  have HZ2 := hide hz2
  clear hi hz0 hz1 hz2
  have hn : ¬ S.tr.length = 1000 := fun e => by rw [hok.full e] at hl; cases hl
  have HOK := hide hok
  have HNO := hno
  clear hcall hVW hbx hBW h hok hga hno hag
  go_enter Tryz.func194, Tryz.ntmps194
  go_wp2_with fail
  rw [show w.alloc (.cells #[.int .i64 d.c, .int .i64 d.v, .int .i64 d.o] 49) = W from hW.out]
  clear hW
  go_cut [] from 4 to 13 (fun wc => VIs wc N p win (.slice a S.tr.length cap) ⟨S.tr, S.b, S.x, S.left, on, S.lat⟩ ∧ Mod w wc (VB p (.slice a S.tr.length cap)) ∧ wc.heap[w.heap.size]? = some (.cells #[.int .i64 d.c, .int .i64 d.v, .int .i64 d.o] 49 (0, 0)))
  case first =>
    go_region_with ((go_at_call 216; refine (unhide HC _ (by first | exact Below.refl _ _ | exact (Below.refl _ _).drew | exact below_drewN (Below.refl _ _) _)).mono ?_; rintro e w1 ⟨rfl, ⟨z0, z1⟩, HM⟩))
    all_goals
      go_wp2_with fail
      go_meet
      exact HM.out
  case rest =>
    obtain ⟨hV2, hM2, hb2⟩ := hcut
    have c0 : wc.cell? ⟨p, 0, none⟩ = some (.slice a S.tr.length cap) := (hV2.at 0).trans rfl
    have f0 : wc.frozen? ⟨p, 0, none⟩ = false := hV2.free 0
    have x0 : wc.cell? ⟨w.heap.size, 0, none⟩ = some (.int .i64 d.c) := (blk_cell hb2 0).trans rfl
    have x1 : wc.cell? ⟨w.heap.size, 1, none⟩ = some (.int .i64 d.v) := (blk_cell hb2 1).trans rfl
    have x2 : wc.cell? ⟨w.heap.size, 2, none⟩ = some (.int .i64 d.o) := (blk_cell hb2 2).trans rfl
    have hs2 : w.heap.size < wc.heap.size := blk_lt hb2
    have hpn : some p ≠ (Value.slice a S.tr.length cap).ownBlock := fun e => hV2.ne p e.symm rfl
    have FRZ : Hid ((wc.alloc (.cells #[.int .i64 d.c, .int .i64 d.v, .int .i64 d.o] 49)).drew.frozen? ⟨p, 0, none⟩ = false) := hide ((World.frozen?_of_block (w := wc) (Below.heap_alloc _ _ _ hV2.lt)).trans (hV2.free 0))
    have hpl := hV2.lt
    have CEL : Hid ((wc.alloc (.cells #[.int .i64 d.c, .int .i64 d.v, .int .i64 d.o] 49)).drew.cell? ⟨p, 0, none⟩ = some (.slice a S.tr.length cap)) := hide ((World.cell?_of_block (w := wc) (Below.heap_alloc _ _ _ hpl)).trans c0)
    have HOWN0 := hide hV2.row
    have HV2 := hide hV2
    have HM2 := hide hM2
    obtain ⟨n, hnn⟩ : ∃ n, Hid (S.tr.length = n) := ⟨_, hide rfl⟩
    rw [hnn.out] at hn hf c0 hpn HV2 HM2 CEL hOld
    have HK1 : Hid (n + 1 ≤ maxLen) := by rw [Hid]; unfold maxLen; omega
    have HK2 : Hid ((n + 1) * 24 ≤ 140737488355328) := by rw [Hid]; omega
    have HK3 : Hid (N ≤ (wc.alloc (.cells #[.int .i64 d.c, .int .i64 d.v, .int .i64 d.o] 49)).drew.heap.size) := by rw [Hid]; simp; omega
    have HOWN : Hid (wc.ownsRow N 49 3 (.slice a n cap) n (cmL S.tr)) := by
      have := HOWN0.out
      unfold TIs at this
      rw [hnn.out] at this
      exact this
    clear HOWN0 hV2 hM2 hb2 HC c15 y0 y1 y2
    go_wp2_with fail
    go_cut [] from 14 to 23 (fun wz => ∃ g cap', VIs wz N p win (.slice (some ⟨g, 0, none⟩) (n + 1) cap') ⟨S.tr ++ [d], S.b, S.x, S.left, on, S.lat⟩ ∧ Mod w wz (VB p (.slice a n cap)) ∧ ((Value.slice a n cap).ownBlock = some g ∨ w.heap.size ≤ g))
    case first =>
      go_region_law
        ((refine step_append_lies _ (by rfl) _ _ _ (by rfl) N 49 i0 _ 3 24 Tryz.underlying28 HI.out HZ0.out HZ1.out HZ2.out rfl (by omega) (.slice a n cap) n (cmL S.tr) (by rfl) ((HOWN.out.alloc _).drew)
            ⟨wc.heap.size, 0, none⟩ 1 1 (cmC d) (by rfl) (by rfl) (World.news_of_block (cs := #[.int .i64 d.c, .int .i64 d.v, .int .i64 d.o]) (t := 49) (fr := (0, 0)) (heap_alloc_new wc _)) (fun u hu => by simp [cmC] at hu; rcases hu with rfl | rfl | rfl <;> rfl)
            (by omega) HK1.out HK2.out HK3.out (wc.heap.size + 1) (by simp) ?_; intro g cap' w3 hown3 hgrow hat hlt; have fz : w3.frozen? ⟨p, 0, none⟩ = false := (hgrow.frozen_far ⟨p, 0, none⟩ (by simp; omega) hpn).trans FRZ.out; have cz : w3.cell? ⟨p, 0, none⟩ = some (.slice a n cap) := (hgrow.cell_far ⟨p, 0, none⟩ (by simp; omega) hpn).trans CEL.out))
      all_goals
        go_wp2_with fail
        go_meet
        exact ⟨g, cap', HV2.out.app hnn.out hown3 hgrow, app_mod HM2.out hgrow, hat.imp id (fun e => by omega)⟩
    case rest =>
      obtain ⟨g, cap', hV3, hM3, hat⟩ := hcut
      clear HK1 HK2 HK3 HOWN CEL FRZ c0 f0 x0 x1 x2 hpn HV2 HM2
      obtain ⟨hV4, hM4⟩ := hV3.wipe
      have HTH := hide hV3.there
      have HW4 := hide hV4
      have HM4 := hide (hM3.then hM4 (fun i hi hu => by
        rcases hu with hu | hu
        · exact .inl hu
        · right
          have e : g = i := by simpa [Value.ownBlock] using hu
          rcases hat with h | h
          · rw [h, e]
          · omega))
      have HAT := hide hat
      clear hV3 hM3 hV4 hM4 hat
      go_wp2_with (refine wpList_wipe rfl _ _ rfl p rfl rfl HTH.out ?_)
      intro w4 hw4
      rw [hw4.out] at HW4 HM4
      have k0 : w4.cell? ⟨p, 0, none⟩ = some (.slice (some ⟨g, 0, none⟩) (n + 1) cap') := (HW4.out.at 0).trans rfl
      have k13 : w4.cell? ⟨p, 13, none⟩ = some (.int .i64 (win : Int)) := (HW4.out.at 13).trans rfl
      have k14 : w4.cell? ⟨p, 14, none⟩ = some (.int .i64 (S.left : Int)) := (HW4.out.at 14).trans rfl
      have k15 : w4.cell? ⟨p, 15, none⟩ = some (.int .i64 (on : Int)) := (HW4.out.at 15).trans rfl
      have k16 : w4.cell? ⟨p, 16, none⟩ = some (.bool S.lat) := (HW4.out.at 16).trans rfl
      have l14 := HW4.out.free 14
      have l16 := HW4.out.free 16
      have hsp := fun wx => spent_any on (n + 1) wx (by omega)
      obtain ⟨z, hz⟩ : ∃ z, Hid ((decide (2 ≤ pop 8 on) || decide (1000 ≤ n + 1)) = z) := ⟨_, hide rfl⟩
      rw [hz.out] at hsp
      have HSP := hide hsp
      have e5 := (HW4.out.put (S' := ⟨S.tr ++ [d], fun _ => false, fun _ => cm0, win, on, S.lat⟩) 14 (.int .i64 (win : Int)) rfl rfl).put (S' := ⟨S.tr ++ [d], fun _ => false, fun _ => cm0, win, on, z⟩) 16 (.bool z) rfl rfl
      have HE5 := hide e5
      have HE6 := hide ((HM4.out.set ⟨p, 14, none⟩ (.int .i64 (win : Int)) (fun _ => .inl rfl)).set ⟨p, 16, none⟩ (.bool z) (fun _ => .inl rfl))
      have HFIN : Hid (commitS win S d = ⟨S.tr ++ [d], fun _ => false, fun _ => cm0, win, on, z⟩) := by
        rw [Hid]
        unfold commitS
        rw [HNO.out, hnn.out, hz.out]
      clear hsp e5 hw4 HW4 HM4 HTH hOld
      go_wp2_with fail
      go_region_with ((go_at_call 217; refine (unhide HSP _).mono ?_; rintro e w5 ⟨rfl, hw5⟩; subst w5))
      all_goals go_wp2_with fail
      all_goals
        go_end0
        rw [HFIN.out, hnn.out]
        refine ⟨rfl, _, ⟨HE5.out.blk, HE5.out.row, HE5.out.np⟩, fun g' hg' => ?_, ⟨HE6.out.os, HE6.out.tape, HE6.out.output, HE6.out.size, HE6.out.block⟩⟩
        have e : g = g' := by simpa [Value.ownBlock] using hg'
        rw [← e]
        exact HAT.out
end Go.Proofs.YtaablbmgagiajabGreatDoor
