import Derived.Deep.QuietTactic
import Derived.BigQuiet
import Derived.Test.YtaablbmgagiajaaGreatDoorTGAH
namespace Go.Proofs.YtaablbmgagiajaaGreatDoor
open Go.RowKit Go.Deep
def stCells (S : St) : Array Value := #[.int .i64 (S.set : Int), .int .i64 (S.used 0 : Int), .int .i64 (S.used 1 : Int), .int .i64 (S.used 2 : Int), .int .i64 (S.used 3 : Int), .int .i64 (S.used 4 : Int), .int .i64 (S.used 5 : Int), .int .i64 (S.used 6 : Int), .int .i64 (S.used 7 : Int),
  .int .i64 (S.idle 0), .int .i64 (S.idle 1), .int .i64 (S.idle 2), .int .i64 (S.idle 3), .int .i64 (S.idle 4), .int .i64 (S.idle 5), .int .i64 (S.idle 6), .int .i64 (S.idle 7)]
theorem stCells_set (S : St) : (stCells S)[0]? = some (.int .i64 (S.set : Int)) := rfl
theorem stCells_used (S : St) (i : Nat) (h : i < 8) : (stCells S)[1 + i]? = some (.int .i64 (S.used i : Int)) := by
  match i, h with
  | 0, _ => rfl | 1, _ => rfl | 2, _ => rfl | 3, _ => rfl | 4, _ => rfl | 5, _ => rfl | 6, _ => rfl | 7, _ => rfl
theorem stCells_idle (S : St) (i : Nat) (h : i < 8) : (stCells S)[9 + i]? = some (.int .i64 (S.idle i)) := by
  match i, h with
  | 0, _ => rfl | 1, _ => rfl | 2, _ => rfl | 3, _ => rfl | 4, _ => rfl | 5, _ => rfl | 6, _ => rfl | 7, _ => rfl
theorem stCells_putSet (S : St) (m : Nat) : (stCells S).setIfInBounds 0 (.int .i64 (m : Int)) = stCells ⟨m, S.used, S.idle⟩ := rfl
theorem stCells_putUsed (S : St) (i u : Nat) (h : i < 8) : (stCells S).setIfInBounds (1 + i) (.int .i64 (u : Int)) = stCells ⟨S.set, upd S.used i u, S.idle⟩ := by
  match i, h with
  | 0, _ => rfl | 1, _ => rfl | 2, _ => rfl | 3, _ => rfl | 4, _ => rfl | 5, _ => rfl | 6, _ => rfl | 7, _ => rfl
theorem stCells_putIdle (S : St) (i : Nat) (t : Int) (h : i < 8) : (stCells S).setIfInBounds (9 + i) (.int .i64 t) = stCells ⟨S.set, S.used, upd S.idle i t⟩ := by
  match i, h with
  | 0, _ => rfl | 1, _ => rfl | 2, _ => rfl | 3, _ => rfl | 4, _ => rfl | 5, _ => rfl | 6, _ => rfl | 7, _ => rfl
def StIs (w : World) (q : Nat) (S : St) : Prop := w.heap[q]? = some (.cells (stCells S) 33 (0, 0))
theorem StIs.set {w : World} {q : Nat} {S : St} (h : StIs w q S) : w.cell? ⟨q, 0, none⟩ = some (.int .i64 (S.set : Int)) := (blk_cell h 0).trans (stCells_set S)
theorem StIs.used {w : World} {q : Nat} {S : St} (h : StIs w q S) {i : Nat} (hi : i < 8) : w.cell? ⟨q, 1 + i, none⟩ = some (.int .i64 (S.used i : Int)) := (blk_cell h _).trans (stCells_used S i hi)
theorem StIs.idle {w : World} {q : Nat} {S : St} (h : StIs w q S) {i : Nat} (hi : i < 8) : w.cell? ⟨q, 9 + i, none⟩ = some (.int .i64 (S.idle i)) := (blk_cell h _).trans (stCells_idle S i hi)
theorem StIs.free {w : World} {q : Nat} {S : St} (h : StIs w q S) (i : Nat) : w.frozen? ⟨q, i, none⟩ = false := blk_free h i
theorem StIs.putSet {w : World} {q : Nat} {S : St} (h : StIs w q S) (m : Nat) : StIs (w.setCell ⟨q, 0, none⟩ (.int .i64 (m : Int))) q ⟨m, S.used, S.idle⟩ := (blk_set h _ _).trans (by rw [stCells_putSet])
theorem StIs.putUsed {w : World} {q : Nat} {S : St} (h : StIs w q S) {i : Nat} (hi : i < 8) (u : Nat) : StIs (w.setCell ⟨q, 1 + i, none⟩ (.int .i64 (u : Int))) q ⟨S.set, upd S.used i u, S.idle⟩ := (blk_set h _ _).trans (by rw [stCells_putUsed S i u hi])
theorem StIs.putIdle {w : World} {q : Nat} {S : St} (h : StIs w q S) {i : Nat} (hi : i < 8) (t : Int) : StIs (w.setCell ⟨q, 9 + i, none⟩ (.int .i64 t)) q ⟨S.set, S.used, upd S.idle i t⟩ := (blk_set h _ _).trans (by rw [stCells_putIdle S i t hi])
theorem StIs.lt {w : World} {q : Nat} {S : St} (h : StIs w q S) : q < w.heap.size := blk_lt h
theorem grown_trans {w w1 w2 : World} {r : Option Nat} (h : w.grownBy w1 r) (k : w1.grownBy w2 r) : w.grownBy w2 r :=
  ⟨k.os.trans h.os, k.tape.trans h.tape, k.output.trans h.output, Nat.le_trans h.size k.size, fun i hi hne => (k.block i (Nat.lt_of_lt_of_le hi h.size) hne).trans (h.block i hi hne)⟩
theorem grown_set (w : World) (q i : Nat) (u : Value) : w.grownBy (w.setCell ⟨q, i, none⟩ u) (some q) :=
  ⟨rfl, rfl, rfl, by simp [World.setCell], fun k _ hne => Below.heap_setCell _ _ _ _ (fun e => hne (by rw [show k = q from e]))⟩
theorem grown_drewN {w w1 : World} {r : Option Nat} (h : w.grownBy w1 r) (k : Nat) : w.grownBy (w1.drewN k) r := ⟨h.os, h.tape, h.output, h.size, h.block⟩
def rt (zs : List Int) (i : Nat) : Nat := (zs[i]?.getD 0).toNat
theorem CoreIs.grown {w wx : World} {p q : Nat} {s d : Int} {n : Nat} {zs : List Int} {g cg M : Nat} (h : CoreIs w p s d n zs g cg M) (hp : p ≠ q) (hg : g ≠ q) (hM : M ≠ q) (hB : w.grownBy wx (some q)) : CoreIs wx p s d n zs g cg M :=
  ⟨(hB.block p h.plt (by simpa using hp)).trans h.blk, h.len, h.cap, Nat.lt_of_lt_of_le h.glt hB.size, fun k hk => (World.cell?_of_block (w := w) (hB.block g h.glt (by simpa using hg))).trans (h.row k hk), h.con.of_block (hB.block M h.mlt (by simpa using hM)), h.ok⟩
theorem core_good {s : Int} {zs : List Int} {d : Int} (h : checkF s zs d = (0, -1)) (k : Nat) (hk : k < zs.length) : 1 ≤ zs[k]?.getD 0 ∧ zs[k]?.getD 0 ≤ top s := by
  have hr := range_pos h
  unfold checkF at h
  rw [if_pos hr] at h
  have hn : firstTo (badAt s zs) zs.length = none := by
    cases hf : firstTo (badAt s zs) zs.length with
    | none => rfl
    | some i => rw [hf] at h; simp at h
  have hall : ∀ n, firstTo (badAt s zs) n = none → ∀ k, k < n → badAt s zs k = false := by
    intro n
    induction n with
    | zero => intro _ k hk; omega
    | succ n ih =>
      intro hn k hk
      unfold firstTo at hn
      cases hf : firstTo (badAt s zs) n with
      | some i => rw [hf] at hn; simp at hn
      | none =>
        rw [hf] at hn
        by_cases e : k = n
        · subst e
          cases hb : badAt s zs k
          · rfl
          · rw [hb] at hn; simp at hn
        · exact ih hf k (by omega)
  have := hall _ hn k hk
  unfold badAt at this
  exact (inB_iff _ _ _).1 (by simpa using this)
theorem rt_in {s : Int} {zs : List Int} {d : Int} (h : checkF s zs d = (0, -1)) {k : Nat} (hk : k < zs.length) : zs[k]?.getD 0 = ((rt zs k : Nat) : Int) ∧ rt zs k < 2 ^ s.toNat ∧ rt zs k < 4096 ∧ 0 < rt zs k := by
  obtain ⟨h1, h2⟩ := core_good h k hk
  have hr := range_pos h
  unfold rangeB at hr
  simp only [Bool.and_eq_true, inB_iff] at hr
  unfold rt
  unfold top at h2
  have hp : 2 ^ s.toNat ≤ 2 ^ 12 := Nat.pow_le_pow_right (by decide) (by omega)
  have hq : 0 < 2 ^ s.toNat := Nat.two_pow_pos _
  omega
theorem CoreIs.at {w : World} {p : Nat} {s d : Int} {n : Nat} {zs : List Int} {g cg M : Nat} (h : CoreIs w p s d n zs g cg M) {k : Nat} (hk : k < n) : ∃ r : Nat, Hid (rt zs k = r) ∧ (r < 4096 ∧ 0 < r) ∧ w.cell? ⟨g, k, none⟩ = some (.int .i64 (r : Int)) := by
  have hk' : k < zs.length := by rw [h.len]; exact hk
  obtain ⟨h1, _, h3⟩ := rt_in h.ok hk'
  refine ⟨_, hide rfl, h3, ?_⟩
  have := h.row k hk'
  rw [Nat.zero_add, h1] at this
  exact this
theorem CoreIs.conAt {w : World} {p : Nat} {s d : Int} {n : Nat} {zs : List Int} {g cg M : Nat} (h : CoreIs w p s d n zs g cg M) {k : Nat} (hk : k < n) : ∃ c : Nat, Hid (conf zs k = c) ∧ c < 256 ∧ w.cell? ⟨M, k, none⟩ = some (.int .i64 (c : Int)) := by
  have h8 := h.few
  refine ⟨_, hide rfl, ?_, h.con.cell hk⟩
  have := confTo_lt zs k zs.length
  rw [h.len] at this
  have h2 : 2 ^ n ≤ 2 ^ 8 := Nat.pow_le_pow_right (by decide) (by omega)
  unfold conf
  rw [h.len]
  omega
structure StOk (S : St) : Prop where
  set : S.set < 256
  used : ∀ k, S.used k < 4096
  idle : ∀ k, 0 ≤ S.idle k ∧ S.idle k ≤ 1000000000
theorem nat_beq (u : Nat) : ((u : Int) == 0) = (u == 0) := by rw [Bool.eq_iff_iff, beq_iff_eq, beq_iff_eq]; omega
theorem letOne_gone {r d c v i u1 : Nat} {T : St} {t1 : Int} (hs : T.set.testBit i = true) (hu : usedOf r c (T.used i) = u1) (ht : idleOf v i (T.idle i) = t1) (hl : ((wo r u1 == 0 && wo r c == 0) || (u1 == 0 && decide ((d : Int) < t1))) = true) :
    letOne r d c v i T = ⟨wo T.set (2 ^ i), upd T.used i 0, upd T.idle i 0⟩ := by
  unfold letOne leavesB
  rw [if_pos hs, hu, ht, hl]
  rfl
theorem letOne_kept {r d c v i u1 : Nat} {T : St} {t1 : Int} (hs : T.set.testBit i = true) (hu : usedOf r c (T.used i) = u1) (ht : idleOf v i (T.idle i) = t1) (hl : ((wo r u1 == 0 && wo r c == 0) || (u1 == 0 && decide ((d : Int) < t1))) = false) :
    letOne r d c v i T = ⟨T.set, upd T.used i u1, upd T.idle i t1⟩ := by
  unfold letOne leavesB
  rw [if_pos hs, hu, ht, hl]
  rfl
structure GMid (w wr : World) (q c v : Nat) (T : St) : Prop where
  old : w.grownBy wr (some q)
  st : StIs wr q T
  bx : wr.heap[w.heap.size]? = some (.cells #[.int .i64 (c : Int), .int .i64 (v : Int)] 30 (0, 0))
theorem GMid.putUsed {w wr : World} {q c v : Nat} {T : St} (h : GMid w wr q c v T) (hq : q < w.heap.size) {i : Nat} (hi : i < 8) (u : Nat) : GMid w (wr.setCell ⟨q, 1 + i, none⟩ (.int .i64 (u : Int))) q c v ⟨T.set, upd T.used i u, T.idle⟩ :=
  ⟨grown_trans h.old (grown_set _ _ _ _), h.st.putUsed hi u, (Below.heap_setCell _ _ _ _ (by show w.heap.size ≠ q; omega)).trans h.bx⟩
theorem GMid.putIdle {w wr : World} {q c v : Nat} {T : St} (h : GMid w wr q c v T) (hq : q < w.heap.size) {i : Nat} (hi : i < 8) (t : Int) : GMid w (wr.setCell ⟨q, 9 + i, none⟩ (.int .i64 t)) q c v ⟨T.set, T.used, upd T.idle i t⟩ :=
  ⟨grown_trans h.old (grown_set _ _ _ _), h.st.putIdle hi t, (Below.heap_setCell _ _ _ _ (by show w.heap.size ≠ q; omega)).trans h.bx⟩
theorem GMid.putSet {w wr : World} {q c v : Nat} {T : St} (h : GMid w wr q c v T) (hq : q < w.heap.size) (m : Nat) : GMid w (wr.setCell ⟨q, 0, none⟩ (.int .i64 (m : Int))) q c v ⟨m, T.used, T.idle⟩ :=
  ⟨grown_trans h.old (grown_set _ _ _ _), h.st.putSet m, (Below.heap_setCell _ _ _ _ (by show w.heap.size ≠ q; omega)).trans h.bx⟩
theorem GMid.drew {w wr : World} {q c v : Nat} {T : St} (h : GMid w wr q c v T) : GMid w wr.drew q c v T := ⟨grown_drewN h.old 1, h.st, h.bx⟩
theorem GMid.drewN {w wr : World} {q c v : Nat} {T : St} (h : GMid w wr q c v T) (k : Nat) : GMid w (wr.drewN k) q c v T := ⟨grown_drewN h.old k, h.st, h.bx⟩
theorem GMid.x0 {w wr : World} {q c v : Nat} {T : St} (h : GMid w wr q c v T) : wr.cell? ⟨w.heap.size, 0, none⟩ = some (.int .i64 (c : Int)) := by rw [blk_cell h.bx]; rfl
theorem GMid.x1 {w wr : World} {q c v : Nat} {T : St} (h : GMid w wr q c v T) : wr.cell? ⟨w.heap.size, 1, none⟩ = some (.int .i64 (v : Int)) := by rw [blk_cell h.bx]; rfl
set_option maxHeartbeats 4000000 in
set_option maxRecDepth 20000 in
theorem letGo_any (p q : Nat) (s : Int) (d n : Nat) (zs : List Int) (g cg M : Nat) (c v : Nat) (S : St) (w : World) (hK : CoreIs w p s (d : Int) n zs g cg M) (hS : StIs w q S) (hp : p ≠ q) (hg : g ≠ q) (hM : M ≠ q) (hok : StOk S) (hc : c < 4096) (hv : v < 256) :
    Calls Tryz.prog 43 #[.pointer (some ⟨p, 0, none⟩), .pointer (some ⟨q, 0, none⟩), .agg #[.int .i64 (c : Int), .int .i64 (v : Int)]] w fun e w' =>
      e = .returned (.tuple #[]) ∧ StIs w' q (letTo (rt zs) d c v S n) ∧ w.grownBy w' (some q) := by
  obtain ⟨f1, f8, fs1, fs2, fd1, fd2⟩ := hK.few
  have hpl := hK.plt
  have hgl := hK.glt
  have hql := hS.lt
  have hbox : ∀ i, w.cell? ⟨p, i, none⟩ = _ := fun i => blk_cell hK.blk i
  have k1 : w.cell? ⟨p, 1, none⟩ = some (.slice (some ⟨g, 0, none⟩) n cg) := hbox 1
  have hI0 : GMid w (w.alloc (.cells #[.int .i64 (c : Int), .int .i64 (v : Int)] 30)) q c v S := ⟨World.grownBy_alloc _ _ _, (Below.heap_alloc _ _ _ hql).trans hS, blk_new _ _⟩
  have HK := hide hK
  have HOK := hide hok
  have HI0 := hide hI0
  clear hbox hK hok hI0 hS
  go_enter Tryz.func43, Tryz.ntmps43
  go_wp2_with fail
  clear k1
  go_loopw [17] (fun i wr => ∃ k : Nat, k ≤ n ∧ i = .int .i64 k ∧ GMid w wr q c v (letTo (rt zs) d c v S k)) (fun i _ => n - (intOf i).toNat)
  case atStart => exact ⟨0, Nat.zero_le _, rfl, HI0.out⟩
  case round =>
    clear HI0
    obtain ⟨i, hi, rfl, hI⟩ := hrel
    by_cases hlt : i < n
    · have hi8 : i < 8 := by omega
      have hKr := HK.out.grown hp hg hM hI.old
      obtain ⟨r, hr, ⟨hr4, hr0⟩, hcr⟩ := hKr.at hlt
      clear hKr
      have x0 := hI.x0
      obtain ⟨T, hT⟩ : ∃ T, Hid (letTo (rt zs) d c v S i = T) := ⟨_, hide rfl⟩
      rw [hT.out] at hI
      have hTs : T.set < 256 := by rw [← hT.out]; exact letTo_set_lt _ _ _ _ _ _ 8 HOK.out.set
      have hhas := fun wx => chas_nat T.set i wx (by omega) (by omega)
      have s0 := hI.st.set
      have hstep : letTo (rt zs) d c v S (i + 1) = letOne r d c v i T := by rw [← hT.out, ← hr.out]; rfl
      have HSTEP := hide hstep
      clear hstep
      cases hb : T.set.testBit i
      · rw [hb] at hhas
        have HH := hide hhas
        have HBB := hide hb
        clear hhas hb
        go_wp2_with (go_at_call 70; refine (unhide HH _).mono ?_; rintro e w' ⟨rfl, hw⟩; obtain rfl := hw.symm)
        go_roundw
        case rel => exact ⟨i + 1, by omega, by go_num, by rw [HSTEP.out, letOne, HBB.out]; exact hI⟩
        case measure => simp [intOf]; omega
      · rw [hb] at hhas
        have HBB := hide hb
        have HH := hide hhas
        clear hhas hb
        obtain ⟨bz, hbz⟩ : ∃ bz, Hid (wo r c = bz) := ⟨_, hide rfl⟩
        have e1 : bits BinOp.andNot IntKind.i64 (r : Int) (c : Int) = (bz : Int) := by rw [andnot_nat r c (by omega) (by omega), hbz.out]
        have hbz4 : bz < 4096 := by rw [← hbz.out]; exact wo_lt _ hr4
        have hTu : T.used i < 4096 := by rw [← hT.out]; rw [(letTo_other _ _ _ _ _ _ _ (Nat.le_refl _)).2.1]; exact HOK.out.used i
        have hTi : T.idle i = S.idle i := by rw [← hT.out]; exact (letTo_other _ _ _ _ _ _ _ (Nat.le_refl _)).2.2
        have hTi2 := HOK.out.idle i
        rw [← hTi] at hTi2
        obtain ⟨hTi3, hTi4⟩ := hTi2
        have su := hI.st.used hi8
        obtain ⟨u0, hu0⟩ : ∃ u, Hid (T.used i = u) := ⟨_, hide rfl⟩
        obtain ⟨t0, ht0⟩ : ∃ t, Hid (T.idle i = t) := ⟨_, hide rfl⟩
        rw [hu0.out] at su hTu
        rw [ht0.out] at hTi3 hTi4
        obtain ⟨u1, hu1⟩ : ∃ u, Hid (u0 ||| bz = u) := ⟨_, hide rfl⟩
        have hu14 : u1 < 4096 := by rw [← hu1.out]; exact Nat.or_lt_two_pow (n := 12) hTu hbz4
        have e2 : bits BinOp.or IntKind.i64 (u0 : Int) (bz : Int) = (u1 : Int) := by rw [or_nat _ _ (by omega) (by omega), hu1.out]
        have fu := hI.st.free (1 + i)
        have HI := hide hI
        clear hTi hI
        go_wp2_with (go_at_call 70; refine (unhide HH _).mono ?_; rintro e w' ⟨rfl, hw⟩; obtain rfl := hw.symm)
        go_region
        have hI1 := (HI.out.putUsed hql hi8 u1).drew
        clear HI fu su s0 e1 e2 hcr x0 HH
        generalize ((wr.setCell ⟨q, 1 + i, none⟩ (.int .i64 (u1 : Int))).drew) = w1 at hI1 ⊢
        have si : w1.cell? ⟨q, 9 + i, none⟩ = some (.int .i64 t0) := by rw [hI1.st.idle hi8]; show some (Value.int .i64 (T.idle i)) = _; rw [ht0.out]
        have fi := hI1.st.free (9 + i)
        have HI1 := hide hI1
        clear hI1
        go_wp2
        go_region
        have hI2 := (HI1.out.putIdle hql hi8 (t0 + 1)).drew
        clear HI1 si fi
        generalize ((w1.setCell ⟨q, 9 + i, none⟩ (.int .i64 (t0 + 1))).drew) = w2 at hI2 ⊢
        have x1 := hI2.x1
        have fi := hI2.st.free (9 + i)
        have si := hI2.st.idle hi8
        have hhv := fun wx => chas_nat v i wx (by omega) (by omega)
        have hA : wo r u1 < 4096 := wo_lt _ hr4
        obtain ⟨a, ha⟩ : ∃ a, Hid (wo r u1 = a) := ⟨_, hide rfl⟩
        rw [ha.out] at hA
        have e3 : bits BinOp.andNot IntKind.i64 (r : Int) (u1 : Int) = (a : Int) := by rw [andnot_nat r u1 (by omega) (by omega), ha.out]
        have hu1' : usedOf r c (T.used i) = u1 := by unfold usedOf; rw [hu0.out, hbz.out, hu1.out]
        have HU1 := hide hu1'
        have hAC : (u1 == 0) = true → (a == 0) = false := fun h => by
          rw [beq_iff_eq] at h
          have : a = r := by rw [← ha.out, h]; simp [wo]
          rw [this]; simp; omega
        have HAC := hide hAC
        have HI2 := hide hI2
        clear hI2 hu1' hAC
        cases hvb : v.testBit i
        · rw [hvb] at hhv
          have HV := hide hhv
          have hid1 : idleOf v i (T.idle i) = (t0 + 1) := by unfold idleOf; rw [hvb, ht0.out]; rfl
          have HID := hide hid1
          clear hhv hvb hid1
          have su' : w2.cell? ⟨q, 1 + i, none⟩ = some (.int .i64 (u1 : Int)) := by rw [HI2.out.st.used hi8]; show some (Value.int .i64 ((upd T.used i u1 i : Nat) : Int)) = _; rw [upd_same]
          have si' : w2.cell? ⟨q, 9 + i, none⟩ = some (.int .i64 (t0 + 1)) := by rw [si]; show some (Value.int .i64 (upd T.idle i (t0 + 1) i)) = _; rw [upd_same]
          have k2 : w2.cell? ⟨p, 2, none⟩ = some (.int .i64 (d : Int)) := by rw [blk_cell (HK.out.grown hp hg hM HI2.out.old).blk]; rfl
          clear si fi
          cases hC : (u1 == 0)
          · have hC' : ((u1 : Int) == 0) = false := by rw [nat_beq]; exact hC
            cases hA' : (a == 0)
            · have hAb : ((a : Int) == 0) = false := by rw [nat_beq]; exact hA'
              have hlo := letOne_kept (d := d) HBB.out HU1.out HID.out (by rw [ha.out, hbz.out, hC, hA']; rfl)
              have HLO := hide hlo
              clear hlo
              clear hC hA'
              go_wp2_with (go_at_call 70; refine (unhide HV _).mono ?_; rintro e w' ⟨rfl, hw⟩; obtain rfl := hw.symm)
              have HI3 := HI2
              have s0 := HI3.out.st.set
              clear HV x1 HI2
              go_quiet (fail)
              clear su' si' k2 s0
              go_wp2
              go_roundw
              case rel => exact ⟨i + 1, by omega, by go_num, by rw [HSTEP.out, HLO.out]; exact HI3.out.drewN _⟩
              case measure => simp [intOf]; omega
            · have hAb : ((a : Int) == 0) = true := by rw [nat_beq]; exact hA'
              cases hB' : (bz == 0)
              · have hBb : ((bz : Int) == 0) = false := by rw [nat_beq]; exact hB'
                have hlo := letOne_kept (d := d) HBB.out HU1.out HID.out (by rw [ha.out, hbz.out, hC, hA', hB']; rfl)
                have HLO := hide hlo
                clear hlo
                clear hC hA' hB'
                go_wp2_with (go_at_call 70; refine (unhide HV _).mono ?_; rintro e w' ⟨rfl, hw⟩; obtain rfl := hw.symm)
                have HI3 := HI2
                have s0 := HI3.out.st.set
                clear HV x1 HI2
                go_quiet (fail)
                clear su' si' k2 s0
                go_wp2
                go_roundw
                case rel => exact ⟨i + 1, by omega, by go_num, by rw [HSTEP.out, HLO.out]; exact HI3.out.drewN _⟩
                case measure => simp [intOf]; omega
              · have hBb : ((bz : Int) == 0) = true := by rw [nat_beq]; exact hB'
                have hlo := letOne_gone (d := d) HBB.out HU1.out HID.out (by rw [ha.out, hbz.out, hC, hA', hB']; rfl)
                have HLO := hide hlo
                clear hlo
                clear hC hA' hB'
                go_wp2_with (go_at_call 70; refine (unhide HV _).mono ?_; rintro e w' ⟨rfl, hw⟩; obtain rfl := hw.symm)
                have HI3 := HI2
                have s0 := HI3.out.st.set
                clear HV x1 HI2
                go_quiet (fail)
                have hI4 := HI3.out.drewN nq
                clear su' si' k2 s0 HI3
                generalize w2.drewN nq = w4 at hI4 ⊢
                have s0 := hI4.st.set
                have fs := hI4.st.free 0
                have e4 : bits BinOp.andNot IntKind.i64 (T.set : Int) (wrap64 (2 ^ i)) = ((wo T.set (2 ^ i) : Nat) : Int) := by rw [wrap_two_pow i (by omega), andnot_nat _ _ (by omega) (two_pow_lt i (by omega))]
                have HI4 := hide hI4
                obtain ⟨m, hm⟩ : ∃ m, Hid (wo T.set (2 ^ i) = m) := ⟨_, hide rfl⟩
                rw [hm.out] at e4
                clear hI4
                go_wp2
                go_region
                have hI5 := (HI4.out.putSet hql m).drew
                clear s0 fs e4 HI4
                generalize (w4.setCell ⟨q, 0, none⟩ (.int .i64 (m : Int))).drew = w5 at hI5 ⊢
                have fu := hI5.st.free (1 + i)
                have fi := hI5.st.free (9 + i)
                have su := hI5.st.used hi8
                have si := hI5.st.idle hi8
                have HI5 := hide hI5
                clear hI5
                go_wp2
                go_region
                all_goals go_wp2
                all_goals go_roundw
                all_goals first
                  | exact ⟨i + 1, by omega, by go_num, by rw [HSTEP.out, HLO.out, hm.out, ← upd_upd T.used i u1 0, ← upd_upd T.idle i (t0 + 1) 0]; exact ((HI5.out.putUsed hql hi8 0).putIdle hql hi8 0).drew⟩
                  | exact ⟨i + 1, by omega, by go_num, by rw [HSTEP.out, HLO.out, hm.out, ← upd_upd T.used i u1 0, ← upd_upd T.idle i (t0 + 1) 0]; exact ((HI5.out.putIdle hql hi8 0).putUsed hql hi8 0).drew⟩
                  | (simp [intOf]; omega)
          · have hC' : ((u1 : Int) == 0) = true := by rw [nat_beq]; exact hC
            have hA' := HAC.out hC
            have hAb : ((a : Int) == 0) = false := by rw [nat_beq]; exact hA'
            cases hD : decide ((d : Int) < (t0 + 1))
            · have hlo := letOne_kept (d := d) HBB.out HU1.out HID.out (by rw [ha.out, hbz.out, hC, hA', hD]; rfl)
              have HLO := hide hlo
              clear hlo
              clear hC hA'
              go_wp2_with (go_at_call 70; refine (unhide HV _).mono ?_; rintro e w' ⟨rfl, hw⟩; obtain rfl := hw.symm)
              have HI3 := HI2
              have s0 := HI3.out.st.set
              clear HV x1 HI2
              go_quiet (fail)
              clear su' si' k2 s0
              go_wp2
              go_roundw
              case rel => exact ⟨i + 1, by omega, by go_num, by rw [HSTEP.out, HLO.out]; exact HI3.out.drewN _⟩
              case measure => simp [intOf]; omega
            · have hlo := letOne_gone (d := d) HBB.out HU1.out HID.out (by rw [ha.out, hbz.out, hC, hA', hD]; rfl)
              have HLO := hide hlo
              clear hlo
              clear hC hA'
              go_wp2_with (go_at_call 70; refine (unhide HV _).mono ?_; rintro e w' ⟨rfl, hw⟩; obtain rfl := hw.symm)
              have HI3 := HI2
              have s0 := HI3.out.st.set
              clear HV x1 HI2
              go_quiet (fail)
              have hI4 := HI3.out.drewN nq
              clear su' si' k2 s0 HI3
              generalize w2.drewN nq = w4 at hI4 ⊢
              have s0 := hI4.st.set
              have fs := hI4.st.free 0
              have e4 : bits BinOp.andNot IntKind.i64 (T.set : Int) (wrap64 (2 ^ i)) = ((wo T.set (2 ^ i) : Nat) : Int) := by rw [wrap_two_pow i (by omega), andnot_nat _ _ (by omega) (two_pow_lt i (by omega))]
              have HI4 := hide hI4
              obtain ⟨m, hm⟩ : ∃ m, Hid (wo T.set (2 ^ i) = m) := ⟨_, hide rfl⟩
              rw [hm.out] at e4
              clear hI4
              go_wp2
              go_region
              have hI5 := (HI4.out.putSet hql m).drew
              clear s0 fs e4 HI4
              generalize (w4.setCell ⟨q, 0, none⟩ (.int .i64 (m : Int))).drew = w5 at hI5 ⊢
              have fu := hI5.st.free (1 + i)
              have fi := hI5.st.free (9 + i)
              have su := hI5.st.used hi8
              have si := hI5.st.idle hi8
              have HI5 := hide hI5
              clear hI5
              go_wp2
              go_region
              all_goals go_wp2
              all_goals go_roundw
              all_goals first
                | exact ⟨i + 1, by omega, by go_num, by rw [HSTEP.out, HLO.out, hm.out, ← upd_upd T.used i u1 0, ← upd_upd T.idle i (t0 + 1) 0]; exact ((HI5.out.putUsed hql hi8 0).putIdle hql hi8 0).drew⟩
                | exact ⟨i + 1, by omega, by go_num, by rw [HSTEP.out, HLO.out, hm.out, ← upd_upd T.used i u1 0, ← upd_upd T.idle i (t0 + 1) 0]; exact ((HI5.out.putIdle hql hi8 0).putUsed hql hi8 0).drew⟩
                | (simp [intOf]; omega)
        · rw [hvb] at hhv
          have HV := hide hhv
          have hid1 : idleOf v i (T.idle i) = 0 := by unfold idleOf; rw [hvb, ht0.out]; rfl
          have HID := hide hid1
          clear hhv hvb hid1
          have su' : w2.cell? ⟨q, 1 + i, none⟩ = some (.int .i64 (u1 : Int)) := by rw [HI2.out.st.used hi8]; show some (Value.int .i64 ((upd T.used i u1 i : Nat) : Int)) = _; rw [upd_same]
          cases hC : (u1 == 0)
          · have hC' : ((u1 : Int) == 0) = false := by rw [nat_beq]; exact hC
            cases hA' : (a == 0)
            · have hAb : ((a : Int) == 0) = false := by rw [nat_beq]; exact hA'
              have hlo := letOne_kept (d := d) HBB.out HU1.out HID.out (by rw [ha.out, hbz.out, hC, hA']; rfl)
              have HLO := hide hlo
              clear hlo
              clear hC hA'
              go_wp2_with (go_at_call 70; refine (unhide HV _).mono ?_; rintro e w' ⟨rfl, hw⟩; obtain rfl := hw.symm)
              have hI3 := HI2.out.putIdle hql hi8 0
              generalize (w2.setCell ⟨q, 9 + i, none⟩ (.int .i64 0)) = w3 at hI3 ⊢
              have hI3 : GMid w w3 q c v ⟨T.set, upd T.used i u1, upd T.idle i 0⟩ := by rw [← upd_upd T.idle i (t0 + 1) 0]; exact hI3
              have su' : w3.cell? ⟨q, 1 + i, none⟩ = some (.int .i64 (u1 : Int)) := by rw [hI3.st.used hi8]; show some (Value.int .i64 ((upd T.used i u1 i : Nat) : Int)) = _; rw [upd_same]
              have si' : w3.cell? ⟨q, 9 + i, none⟩ = some (.int .i64 0) := by rw [hI3.st.idle hi8]; show some (Value.int .i64 (upd T.idle i 0 i)) = _; rw [upd_same]
              have k2 : w3.cell? ⟨p, 2, none⟩ = some (.int .i64 (d : Int)) := by rw [blk_cell (HK.out.grown hp hg hM hI3.old).blk]; rfl
              have s0 := hI3.st.set
              have HI3 := hide hI3
              clear hI3 x1 HV HI2
              go_quiet (fail)
              clear su' si' k2 s0
              go_wp2
              go_roundw
              case rel => exact ⟨i + 1, by omega, by go_num, by rw [HSTEP.out, HLO.out]; exact HI3.out.drewN _⟩
              case measure => simp [intOf]; omega
            · have hAb : ((a : Int) == 0) = true := by rw [nat_beq]; exact hA'
              cases hB' : (bz == 0)
              · have hBb : ((bz : Int) == 0) = false := by rw [nat_beq]; exact hB'
                have hlo := letOne_kept (d := d) HBB.out HU1.out HID.out (by rw [ha.out, hbz.out, hC, hA', hB']; rfl)
                have HLO := hide hlo
                clear hlo
                clear hC hA' hB'
                go_wp2_with (go_at_call 70; refine (unhide HV _).mono ?_; rintro e w' ⟨rfl, hw⟩; obtain rfl := hw.symm)
                have hI3 := HI2.out.putIdle hql hi8 0
                generalize (w2.setCell ⟨q, 9 + i, none⟩ (.int .i64 0)) = w3 at hI3 ⊢
                have hI3 : GMid w w3 q c v ⟨T.set, upd T.used i u1, upd T.idle i 0⟩ := by rw [← upd_upd T.idle i (t0 + 1) 0]; exact hI3
                have su' : w3.cell? ⟨q, 1 + i, none⟩ = some (.int .i64 (u1 : Int)) := by rw [hI3.st.used hi8]; show some (Value.int .i64 ((upd T.used i u1 i : Nat) : Int)) = _; rw [upd_same]
                have si' : w3.cell? ⟨q, 9 + i, none⟩ = some (.int .i64 0) := by rw [hI3.st.idle hi8]; show some (Value.int .i64 (upd T.idle i 0 i)) = _; rw [upd_same]
                have k2 : w3.cell? ⟨p, 2, none⟩ = some (.int .i64 (d : Int)) := by rw [blk_cell (HK.out.grown hp hg hM hI3.old).blk]; rfl
                have s0 := hI3.st.set
                have HI3 := hide hI3
                clear hI3 x1 HV HI2
                go_quiet (fail)
                clear su' si' k2 s0
                go_wp2
                go_roundw
                case rel => exact ⟨i + 1, by omega, by go_num, by rw [HSTEP.out, HLO.out]; exact HI3.out.drewN _⟩
                case measure => simp [intOf]; omega
              · have hBb : ((bz : Int) == 0) = true := by rw [nat_beq]; exact hB'
                have hlo := letOne_gone (d := d) HBB.out HU1.out HID.out (by rw [ha.out, hbz.out, hC, hA', hB']; rfl)
                have HLO := hide hlo
                clear hlo
                clear hC hA' hB'
                go_wp2_with (go_at_call 70; refine (unhide HV _).mono ?_; rintro e w' ⟨rfl, hw⟩; obtain rfl := hw.symm)
                have hI3 := HI2.out.putIdle hql hi8 0
                generalize (w2.setCell ⟨q, 9 + i, none⟩ (.int .i64 0)) = w3 at hI3 ⊢
                have hI3 : GMid w w3 q c v ⟨T.set, upd T.used i u1, upd T.idle i 0⟩ := by rw [← upd_upd T.idle i (t0 + 1) 0]; exact hI3
                have su' : w3.cell? ⟨q, 1 + i, none⟩ = some (.int .i64 (u1 : Int)) := by rw [hI3.st.used hi8]; show some (Value.int .i64 ((upd T.used i u1 i : Nat) : Int)) = _; rw [upd_same]
                have si' : w3.cell? ⟨q, 9 + i, none⟩ = some (.int .i64 0) := by rw [hI3.st.idle hi8]; show some (Value.int .i64 (upd T.idle i 0 i)) = _; rw [upd_same]
                have k2 : w3.cell? ⟨p, 2, none⟩ = some (.int .i64 (d : Int)) := by rw [blk_cell (HK.out.grown hp hg hM hI3.old).blk]; rfl
                have s0 := hI3.st.set
                have HI3 := hide hI3
                clear hI3 x1 HV HI2
                go_quiet (fail)
                have hI4 := HI3.out.drewN nq
                clear su' si' k2 s0 HI3
                generalize w3.drewN nq = w4 at hI4 ⊢
                have s0 := hI4.st.set
                have fs := hI4.st.free 0
                have e4 : bits BinOp.andNot IntKind.i64 (T.set : Int) (wrap64 (2 ^ i)) = ((wo T.set (2 ^ i) : Nat) : Int) := by rw [wrap_two_pow i (by omega), andnot_nat _ _ (by omega) (two_pow_lt i (by omega))]
                have HI4 := hide hI4
                obtain ⟨m, hm⟩ : ∃ m, Hid (wo T.set (2 ^ i) = m) := ⟨_, hide rfl⟩
                rw [hm.out] at e4
                clear hI4
                go_wp2
                go_region
                have hI5 := (HI4.out.putSet hql m).drew
                clear s0 fs e4 HI4
                generalize (w4.setCell ⟨q, 0, none⟩ (.int .i64 (m : Int))).drew = w5 at hI5 ⊢
                have fu := hI5.st.free (1 + i)
                have fi := hI5.st.free (9 + i)
                have su := hI5.st.used hi8
                have si := hI5.st.idle hi8
                have HI5 := hide hI5
                clear hI5
                go_wp2
                go_region
                all_goals go_wp2
                all_goals go_roundw
                all_goals first
                  | exact ⟨i + 1, by omega, by go_num, by rw [HSTEP.out, HLO.out, hm.out, ← upd_upd T.used i u1 0, ← upd_upd T.idle i 0 0]; exact ((HI5.out.putUsed hql hi8 0).putIdle hql hi8 0).drew⟩
                  | exact ⟨i + 1, by omega, by go_num, by rw [HSTEP.out, HLO.out, hm.out, ← upd_upd T.used i u1 0, ← upd_upd T.idle i 0 0]; exact ((HI5.out.putIdle hql hi8 0).putUsed hql hi8 0).drew⟩
                  | (simp [intOf]; omega)
          · have hC' : ((u1 : Int) == 0) = true := by rw [nat_beq]; exact hC
            have hA' := HAC.out hC
            have hAb : ((a : Int) == 0) = false := by rw [nat_beq]; exact hA'
            cases hD : decide ((d : Int) < 0)
            · have hlo := letOne_kept (d := d) HBB.out HU1.out HID.out (by rw [ha.out, hbz.out, hC, hA', hD]; rfl)
              have HLO := hide hlo
              clear hlo
              clear hC hA'
              go_wp2_with (go_at_call 70; refine (unhide HV _).mono ?_; rintro e w' ⟨rfl, hw⟩; obtain rfl := hw.symm)
              have hI3 := HI2.out.putIdle hql hi8 0
              generalize (w2.setCell ⟨q, 9 + i, none⟩ (.int .i64 0)) = w3 at hI3 ⊢
              have hI3 : GMid w w3 q c v ⟨T.set, upd T.used i u1, upd T.idle i 0⟩ := by rw [← upd_upd T.idle i (t0 + 1) 0]; exact hI3
              have su' : w3.cell? ⟨q, 1 + i, none⟩ = some (.int .i64 (u1 : Int)) := by rw [hI3.st.used hi8]; show some (Value.int .i64 ((upd T.used i u1 i : Nat) : Int)) = _; rw [upd_same]
              have si' : w3.cell? ⟨q, 9 + i, none⟩ = some (.int .i64 0) := by rw [hI3.st.idle hi8]; show some (Value.int .i64 (upd T.idle i 0 i)) = _; rw [upd_same]
              have k2 : w3.cell? ⟨p, 2, none⟩ = some (.int .i64 (d : Int)) := by rw [blk_cell (HK.out.grown hp hg hM hI3.old).blk]; rfl
              have s0 := hI3.st.set
              have HI3 := hide hI3
              clear hI3 x1 HV HI2
              go_quiet (fail)
              clear su' si' k2 s0
              go_wp2
              go_roundw
              case rel => exact ⟨i + 1, by omega, by go_num, by rw [HSTEP.out, HLO.out]; exact HI3.out.drewN _⟩
              case measure => simp [intOf]; omega
            · have hlo := letOne_gone (d := d) HBB.out HU1.out HID.out (by rw [ha.out, hbz.out, hC, hA', hD]; rfl)
              have HLO := hide hlo
              clear hlo
              clear hC hA'
              go_wp2_with (go_at_call 70; refine (unhide HV _).mono ?_; rintro e w' ⟨rfl, hw⟩; obtain rfl := hw.symm)
              have hI3 := HI2.out.putIdle hql hi8 0
              generalize (w2.setCell ⟨q, 9 + i, none⟩ (.int .i64 0)) = w3 at hI3 ⊢
              have hI3 : GMid w w3 q c v ⟨T.set, upd T.used i u1, upd T.idle i 0⟩ := by rw [← upd_upd T.idle i (t0 + 1) 0]; exact hI3
              have su' : w3.cell? ⟨q, 1 + i, none⟩ = some (.int .i64 (u1 : Int)) := by rw [hI3.st.used hi8]; show some (Value.int .i64 ((upd T.used i u1 i : Nat) : Int)) = _; rw [upd_same]
              have si' : w3.cell? ⟨q, 9 + i, none⟩ = some (.int .i64 0) := by rw [hI3.st.idle hi8]; show some (Value.int .i64 (upd T.idle i 0 i)) = _; rw [upd_same]
              have k2 : w3.cell? ⟨p, 2, none⟩ = some (.int .i64 (d : Int)) := by rw [blk_cell (HK.out.grown hp hg hM hI3.old).blk]; rfl
              have s0 := hI3.st.set
              have HI3 := hide hI3
              clear hI3 x1 HV HI2
              go_quiet (fail)
              have hI4 := HI3.out.drewN nq
              clear su' si' k2 s0 HI3
              generalize w3.drewN nq = w4 at hI4 ⊢
              have s0 := hI4.st.set
              have fs := hI4.st.free 0
              have e4 : bits BinOp.andNot IntKind.i64 (T.set : Int) (wrap64 (2 ^ i)) = ((wo T.set (2 ^ i) : Nat) : Int) := by rw [wrap_two_pow i (by omega), andnot_nat _ _ (by omega) (two_pow_lt i (by omega))]
              have HI4 := hide hI4
              obtain ⟨m, hm⟩ : ∃ m, Hid (wo T.set (2 ^ i) = m) := ⟨_, hide rfl⟩
              rw [hm.out] at e4
              clear hI4
              go_wp2
              go_region
              have hI5 := (HI4.out.putSet hql m).drew
              clear s0 fs e4 HI4
              generalize (w4.setCell ⟨q, 0, none⟩ (.int .i64 (m : Int))).drew = w5 at hI5 ⊢
              have fu := hI5.st.free (1 + i)
              have fi := hI5.st.free (9 + i)
              have su := hI5.st.used hi8
              have si := hI5.st.idle hi8
              have HI5 := hide hI5
              clear hI5
              go_wp2
              go_region
              all_goals go_wp2
              all_goals go_roundw
              all_goals first
                | exact ⟨i + 1, by omega, by go_num, by rw [HSTEP.out, HLO.out, hm.out, ← upd_upd T.used i u1 0, ← upd_upd T.idle i 0 0]; exact ((HI5.out.putUsed hql hi8 0).putIdle hql hi8 0).drew⟩
                | exact ⟨i + 1, by omega, by go_num, by rw [HSTEP.out, HLO.out, hm.out, ← upd_upd T.used i u1 0, ← upd_upd T.idle i 0 0]; exact ((HI5.out.putIdle hql hi8 0).putUsed hql hi8 0).drew⟩
                | (simp [intOf]; omega)
    · have hin : i = n := by omega
      subst hin
      clear hlt
      go_wp2
      go_end0
      exact ⟨rfl, hI.st, hI.old⟩
end Go.Proofs.YtaablbmgagiajaaGreatDoor
