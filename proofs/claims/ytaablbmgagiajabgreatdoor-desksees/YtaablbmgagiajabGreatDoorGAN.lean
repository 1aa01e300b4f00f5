import Derived.Test.YtaablbmgagiajabGreatDoorGAM
import Derived.Test.YtaablbmgagiajabGreatDoorGAL
/- The contract of a system's Spoil. -/
namespace Go.Proofs.YtaablbmgagiajabGreatDoor
open Go.RowKit Go.Deep

def spoilSy (i : Nat) (b : List Nat) (S : SY) : SY := ⟨S.rp, S.v, S.net.set i ⟨(pkAt S.net i).src, (pkAt S.net i).dst, b⟩⟩
theorem pkL_set : ∀ (l : List Pk) (us : List Value) (i : Nat) (b : List Nat) (v : Value), us.length = l.length → i < l.length → pkL (l.set i ⟨(pkAt l i).src, (pkAt l i).dst, b⟩) (us.set i v) = (pkL l us).set (i * 3 + 2) v
  | [], _, i, _, _, _, hi => by simp at hi
  | p :: r, us, i, b, v, h, hi => by
    cases us with
    | nil => simp at h
    | cons u us =>
      cases i with
      | zero => rfl
      | succ i =>
        rw [List.set_cons_succ, List.set_cons_succ, pkL, pkL]
        simp only [List.headD_cons, List.tail_cons]
        rw [List.set_append_right _ _ (by simp [pkC]; omega), show (i + 1) * 3 + 2 - (pkC p u).length = i * 3 + 2 by simp [pkC]; omega, ← pkL_set r us i b v (by simpa using h) (by simpa using hi)]
        rfl
section
variable {w : World} {N win : Nat} {D : SC} {L : RC} {S : SY}
theorem NetIs.spoil {g cap i : Nat} {l : List Pk} {us : List Value} {b : List Nat} {v : Value} (h : NetIs w N (.slice (some ⟨g, 0, none⟩) l.length cap) l us) (hi : i < l.length) (hv : BytesIs w v b) : NetIs (w.setCell ⟨g, i * 3 + 2, none⟩ v) N (.slice (some ⟨g, 0, none⟩) l.length cap) (l.set i ⟨(pkAt l i).src, (pkAt l i).dst, b⟩) (us.set i v) := by
  have hm : Mod w (w.setCell ⟨g, i * 3 + 2, none⟩ v) (· = g) := (Mod.refl _ _).set _ _ (fun _ => rfl)
  have hty : ∀ k, k = g → ¬ TyAt w k 5 := fun k hk hb => by
    subst hk
    obtain ⟨cur, hc⟩ := h.own rfl
    exact TyAt.ne ⟨_, _, hc⟩ hb (by decide) rfl
  refine ⟨?_, by rw [List.length_set, List.length_set, h.len], fun j hj => ?_⟩
  · rw [List.length_set, pkL_set l us i b v h.len hi]
    refine ⟨by rw [List.length_set]; exact h.row.1, .inr ?_⟩
    rcases h.row.2 with ⟨e, _⟩ | ⟨g', cap', cur, e, h1, h2, h3, h4, h5, h6⟩
    · simp at e
    · simp only [Value.slice.injEq, Option.some.injEq, Addr.mk.injEq, and_true] at e
      obtain ⟨rfl, _, rfl⟩ := e
      refine ⟨g, cap, cur.setIfInBounds (i * 3 + 2) v, rfl, h1, blk_set h2 _ _, h3, h4, by simpa using h5, ?_⟩
      rw [Array.toList_setIfInBounds, List.take_set, h6]
  · rw [List.length_set] at hj
    by_cases e : j = i
    · subst e
      rw [List.getElem?_set_self (by rw [h.len]; exact hj), show pkAt (l.set j ⟨(pkAt l j).src, (pkAt l j).dst, b⟩) j = ⟨(pkAt l j).src, (pkAt l j).dst, b⟩ by unfold pkAt; rw [List.getElem?_set_self hj]; rfl]
      exact hv.mod hm hty
    · rw [List.getElem?_set_ne (fun x => e x.symm), show pkAt (l.set i ⟨(pkAt l i).src, (pkAt l i).dst, b⟩) j = pkAt l j by unfold pkAt; rw [List.getElem?_set_ne (fun x => e x.symm)]]
      exact (h.byt j hj).mod hm hty
theorem SyIs.spoils (h : SyIs w N D L win S) {g cap i : Nat} (hnv : D.nv = .slice (some ⟨g, 0, none⟩) S.net.length cap) (hi : i < S.net.length) {b : List Nat} {v : Value} (hv : BytesIs w v b) : SyGo w (w.setCell ⟨g, i * 3 + 2, none⟩ v) N D L win (spoilSy i b S) := by
  have hn := h.net
  rw [hnv] at hn
  have hN := hn.spoil hi hv
  have hgp : g ≠ D.p := h.ne7 g (by rw [hnv]; rfl)
  refine h.putN (nv' := D.nv) (us' := D.us.set i v) (lost' := D.lost) ((Mod.refl _ _).set _ _ (fun _ => .inr (by rw [hnv]; rfl))) ((Below.heap_setCell _ _ _ _ (fun e => hgp e.symm)).trans h.blk) (by rw [hnv]; exact hN) (fun _ hg => .inl hg)
theorem SyIs.pkCell (h : SyIs w N D L win S) {g n cap i : Nat} (hnv : D.nv = .slice (some ⟨g, 0, none⟩) n cap) (hi : i < S.net.length) : w.cell? ⟨g, i * 3 + 2, none⟩ = some (D.us[i]?.getD undef) := h.pkRange hnv hi 2 _ rfl
theorem SyIs.pkFree (h : SyIs w N D L win S) {g n cap : Nat} (hnv : D.nv = .slice (some ⟨g, 0, none⟩) n cap) (k : Nat) : w.frozen? ⟨g, k, none⟩ = false := by
  obtain ⟨cur, hc⟩ := h.net.own (g := g) (by rw [hnv]; rfl)
  exact blk_free hc k
end

set_option maxHeartbeats 4000000 in
set_option maxRecDepth 20000 in
theorem spoil_any (N : Nat) (D : SC) (L : RC) (win : Nat) (S : SY) (w : World) (i a what t m : Nat) (h : SyIs w N D L win S) (hlen : ∀ p ∈ S.net, p.b.length ≤ 80) (hw : what < 4294967296) (hwt : what = 2 ^ (t + 1) * m + 2 ^ t) (ha : a ≤ 100000) (hT : HasTab w) :
    Calls Tryz.prog 37 #[.pointer (some ⟨D.p, 0, none⟩), .int .i64 (i : Int), .int .i64 (a : Int), .int .u32 (what : Int)] w fun e w' => (∃ v, e = .returned v) ∧ ∃ S', SyGo w w' N D L win S' ∧ (S' = S ∨ i < S.net.length ∧ (decF (pkAt S.net i).b).1 = 0 ∧ a + (31 - t) < 8 * (pkAt S.net i).b.length ∧ S' = spoilSy i (flipTo (pkAt S.net i).b a what 32) S) := by
  have HR := hide (underWay_any N D L win S w i h)
  by_cases hi : i < S.net.length
  · rw [decide_eq_true hi] at HR
    have hi' : (i : Int) < (S.net.length : Int) := by omega
    obtain ⟨g, cap, hnv⟩ := h.netHas (by omega)
    have hby := h.bytes hi
    have hpc := h.pkCell hnv hi
    have c7 : w.cell? ⟨D.p, 7, none⟩ = some (.slice (some ⟨g, 0, none⟩) S.net.length cap) := (h.at 7).trans (by show some D.nv = _; rw [hnv])
    have hl80 := hlen _ (pkAt_mem hi)
    obtain ⟨l, hl⟩ : ∃ l, Hid ((pkAt S.net i).b = l) := ⟨_, hide rfl⟩
    obtain ⟨u, hu⟩ : ∃ u, Hid (D.us[i]?.getD undef = u) := ⟨_, hide rfl⟩
    rw [hl.out, hu.out] at hby
    rw [hl.out] at hl80 ⊢
    rw [hu.out] at hpc
    obtain ⟨ua, uc, hue, hib⟩ := hby.isB
    subst hue
    by_cases hin : a + (31 - t) < 8 * l.length
    · have HOF : Hid (Calls Tryz.prog 78 #[.slice ua l.length uc, .int .i64 (a : Int), .int .u32 (what : Int)] w fun e w1 => ∃ va vn vc, e = .returned (.tuple #[.slice va vn vc, .nilIface]) ∧ (w1.cell? ⟨D.p, 7, none⟩ = some (.slice (some ⟨g, 0, none⟩) S.net.length cap) ∧ w1.cell? ⟨g, i * 3 + 2, none⟩ = some (.slice ua l.length uc)) ∧
          Hid (Calls Tryz.prog 79 #[.slice ua l.length uc] w1 fun e w2 => e = .returned (.tuple #[.agg (fCells (decF l).2), errV (decF l).1]) ∧ Hid (∀ w3, Below w2.heap.size w2 w3 → (w3.cell? ⟨D.p, 7, none⟩ = some (.slice (some ⟨g, 0, none⟩) S.net.length cap) ∧ w3.cell? ⟨g, i * 3 + 2, none⟩ = some (.slice ua l.length uc) ∧ w3.frozen? ⟨g, i * 3 + 2, none⟩ = false) ∧ SyGo w w3 N D L win S ∧ SyGo w (w3.setCell ⟨g, i * 3 + 2, none⟩ (.slice va vn vc)) N D L win (spoilSy i (flipTo l a what 32) S)))) := hide (by
        refine (bof_in ua l.length uc l a what t m w hib (by omega) hw hwt ha hT hin).mono ?_
        rintro e w1 ⟨⟨v, rfl, hv⟩, hB1⟩
        have hfl : (flipTo l a what 32).length = l.length := flipTo_length _ _ _ _
        have hbs : BytesIs w1 v (flipTo l a what 32) := bytes_own (flipTo_lt a what 32 hib.2.2.1) (by rw [hfl]; exact hv)
        obtain ⟨va, vc, hve⟩ : ∃ va vc, v = .slice va (flipTo l a what 32).length vc := by obtain ⟨_, x, c, e, _⟩ := hbs; exact ⟨x, c, e⟩
        subst hve
        have hS1 := h.below hB1
        refine ⟨va, _, vc, rfl, ⟨(hS1.at 7).trans (by show some D.nv = _; rw [hnv]), by rw [hS1.pkCell hnv hi, hu.out]⟩, hide ?_⟩
        have hib1 := hib.below hB1
        refine (decode_any ua _ uc l w1 (by omega) hib1).mono ?_
        rintro e w2 ⟨rfl, hB2⟩
        refine ⟨rfl, hide fun w3 hB3 => ?_⟩
        have hB23 : Below w1.heap.size w1 w3 := hB2.trans (hB3.mono hB2.size)
        have hBw : Below w.heap.size w w3 := hB1.trans (hB23.mono hB1.size)
        have hS3 := h.below hBw
        exact ⟨⟨(hS3.at 7).trans (by show some D.nv = _; rw [hnv]), by rw [hS3.pkCell hnv hi, hu.out], hS3.pkFree hnv _⟩, hS3.goes.pre hBw, (hS3.spoils hnv hi (hbs.below hB23)).pre hBw⟩)
      have hiN : i < S.net.length := hi
      have HIN : Hid (i < S.net.length ∧ a + (31 - t) < 8 * l.length) := hide ⟨hi, hin⟩
      clear h hby hib hT hwt hin
      go_enter Tryz.func37, Tryz.ntmps37
      go_wp2_with fail
      refine HR.out.mono ?_
      rintro e wz ⟨rfl, rfl⟩
      go_wp2_with fail
      refine HOF.out.mono ?_
      rintro e w1 ⟨va, vn, vc, rfl, ⟨z7, zg⟩, HDE⟩
      clear HOF
      go_wp2_with fail
      refine HDE.out.mono ?_
      rintro e w2 ⟨rfl, HG⟩
      clear HDE z7 zg
      have q1 : FIs (w2.alloc (.cells (fCells fr0) 36)) w2.heap.size 36 fr0 := blk_new _ _
      have HQ1 := hide q1
      clear q1
      obtain ⟨F, hF⟩ : ∃ F, Hid ((decF l).2 = F) := ⟨_, hide rfl⟩
      obtain ⟨er, her⟩ : ∃ er, Hid ((decF l).1 = er) := ⟨_, hide rfl⟩
      rw [hF.out, her.out]
      go_wp2_with (refine wpList_store_fl rfl _ _ rfl w2.heap.size F rfl rfl fr0 HQ1.out ?_)
      intro w3 HF3
      have hB3 : Below w2.heap.size w2 w3 := ((Below.refl _ _).alloc (Nat.le_refl _) _).trans (HF3.out.2.2 _ (Nat.le_refl _))
      obtain ⟨⟨k7, kg, kf⟩, hg1, hg2⟩ := HG.out w3 hB3
      have HG1 := hide hg1
      have HG2 := hide hg2
      clear HG HF3 HQ1 hB3 hg1 hg2
      by_cases he : er = 0
      · have HE0 := hide he
        rw [he, show errV 0 = .nilIface from rfl]
        clear he
        go_wp2
        go_ret
        exact ⟨⟨_, rfl⟩, _, HG2.out, .inr ⟨HIN.out.1, her.out.trans HE0.out, HIN.out.2, rfl⟩⟩
      · rw [show errV er = .iface 74 (.int .i64 (er : Int)) from if_neg he]
        clear he
        go_wp2
        go_ret
        exact ⟨⟨_, rfl⟩, S, HG1.out, .inl rfl⟩
    · have HOF := hide (bof_no ua l.length uc a what t m w (by omega) hw hwt ha hT hin)
      have HG := hide h.goes
      clear h hby hib hT hwt hin
      go_enter Tryz.func37, Tryz.ntmps37
      go_wp2_with fail
      refine HR.out.mono ?_
      rintro e wz ⟨rfl, rfl⟩
      go_wp2_with fail
      refine HOF.out.mono ?_
      rintro e w1 ⟨rfl, rfl⟩
      go_wp2
      go_ret
      exact ⟨⟨_, rfl⟩, S, HG.out, .inl rfl⟩
  · rw [decide_eq_false hi] at HR
    have HG := hide h.goes
    clear h hT hwt
    go_enter Tryz.func37, Tryz.ntmps37
    go_wp2_with fail
    refine HR.out.mono ?_
    rintro e wz ⟨rfl, rfl⟩
    go_wp2
    go_ret
    exact ⟨⟨_, rfl⟩, S, HG.out, .inl rfl⟩
end Go.Proofs.YtaablbmgagiajabGreatDoor

/- A system, and what was seen in it, step by step: plain facts. -/
namespace Go.Proofs.YtaablbmgagiajabGreatDoor
open Go.RowKit Go.Deep

structure Sg where
  who : Nat
  cyc : Int
  on : Bool
  x : Int
  y : Int
structure TS where
  S : SY
  fx : Nat → Int
  fy : Nat → Int
  seen : List Sg
def WOf (L : RC) (l : List Sg) : Seen := fun j n z b => ∃ s ∈ l, s.who = j ∧ (s.cyc = (n : Int) ∨ s.on = true ∧ s.cyc ≤ (n : Int)) ∧ (if z then fitN L.n s.y else fitN L.s s.x).testBit b = true
theorem WOf_le (L : RC) (l a : List Sg) : Seen.le (WOf L l) (WOf L (l ++ a)) := fun _ _ _ _ ⟨s, h1, h2⟩ => ⟨s, List.mem_append_left _ h1, h2⟩
def sgOf (A : TS) (k : Nat) (on : Bool) : Sg := ⟨k, (A.S.rp k).cycle, on, A.fx k, A.fy k⟩
structure TlInv (L : RC) (liar win T : Nat) (A : TS) : Prop where
  inv : SInv L (WOf L A.seen) liar win T A.S
  sees : ∀ k, k < 3 → (A.S.rp k).sx = A.fx k ∧ (A.S.rp k).sy = A.fy k
def sees3 (A : TS) : List Sg := A.seen ++ [sgOf A 0 true, sgOf A 1 true, sgOf A 2 true]

/-- What a step may do. -/
inductive StepTo (L : RC) (win liar : Nat) (wh : Int) : TS → TS → Prop
  | same (A : TS) : StepTo L win liar wh A A
  | see (A : TS) (k : Nat) (x y : Int) (hk : k < 3) : StepTo L win liar wh A ⟨seeSy k x y A.S, upd A.fx k x, upd A.fy k y, A.seen⟩
  | tick (A : TS) (k : Nat) (hk : k < 3) : StepTo L win liar wh A ⟨tickSy L k A.S, A.fx, A.fy, A.seen ++ [sgOf A k false]⟩
  | asks (A : TS) (k : Nat) (hk : k < 3) : StepTo L win liar wh A ⟨asksSy k A.S, A.fx, A.fy, A.seen⟩
  | arrive (A : TS) (i : Nat) (hi : i < A.S.net.length) : StepTo L win liar wh A ⟨arriveSy L win i A.S, A.fx, A.fy, A.seen⟩
  | lose (A : TS) (i : Nat) : StepTo L win liar wh A ⟨outSy i A.S, A.fx, A.fy, A.seen⟩
  | twice (A : TS) (i : Nat) (hi : i < A.S.net.length) : StepTo L win liar wh A ⟨putSy (pkAt A.S.net i) A.S, A.fx, A.fy, A.seen⟩
  | spoil (A : TS) (i a what t m : Nat) (hi : i < A.S.net.length) (hd : (decF (pkAt A.S.net i).b).1 = 0) (hw : what < 4294967296) (hwt : what = 2 ^ (t + 1) * m + 2 ^ t) (ha : a + (31 - t) < 8 * (pkAt A.S.net i).b.length) :
      StepTo L win liar wh A ⟨spoilSy i (flipTo (pkAt A.S.net i).b a what 32) A.S, A.fx, A.fy, A.seen⟩
  | crash (A : TS) (k : Nat) (hk : k < 3) : StepTo L win liar wh A ⟨crashSy k A.S, upd A.fx k 0, upd A.fy k 0, A.seen⟩
  | says (A : TS) (dst : Nat) (l : List Nat) (hl : liar < 3) (hd : dst ≤ 3) (hb : ∀ x ∈ l, x < 256) (hn : l.length ≤ 80) : StepTo L win liar wh A ⟨putSy ⟨liar, dst, l⟩ A.S, A.fx, A.fy, A.seen⟩
  | calm (A : TS) (n : Nat) (S' : SY) (hw : 10 ≤ wh) (hn : n ≤ 3) (h : calmTo L win n A.S S') : StepTo L win liar wh A ⟨S', A.fx, A.fy, sees3 A⟩
  | vtick (A : TS) (hw : 10 ≤ wh) : StepTo L win liar wh A ⟨vtickSy A.S, A.fx, A.fy, A.seen⟩
  | latch (A : TS) (hw : 10 ≤ wh) : StepTo L win liar wh A ⟨latchSy A.S, A.fx, A.fy, A.seen⟩

section
variable {L : RC} {W : Seen} {liar win T n k : Nat} {S : SY} {A B : TS}
/-! ### A spoilt one, a new one -/
theorem SInv.spoil (h : SInv L W liar win T S) {i a what t m : Nat} (hi : i < S.net.length) (hd : (decF (pkAt S.net i).b).1 = 0) (hw : what < 4294967296) (hwt : what = 2 ^ (t + 1) * m + 2 ^ t) (ha : a + (31 - t) < 8 * (pkAt S.net i).b.length) :
    SInv L W liar win T (spoilSy i (flipTo (pkAt S.net i).b a what 32) S) := by
  have hp := h.net _ (pkAt_mem hi)
  have ht : t < 32 := by
    rcases Nat.lt_or_ge t 32 with q | q
    · exact q
    · have := Nat.pow_le_pow_right (n := 2) (by decide) q
      omega
  have key : PkOk L W liar S.v.tr ⟨(pkAt S.net i).src, (pkAt S.net i).dst, flipTo (pkAt S.net i).b a what 32⟩ := by
    refine ⟨hp.src, hp.dst, ?_, ?_, .inr (.inl ?_)⟩
    · show (flipTo _ _ _ _).length ≤ 80
      rw [flipTo_length]; exact hp.len
    · exact flipTo_lt a what 32 hp.byte
    · rcases dec_cases (pkAt S.net i).b with ⟨q, _⟩ | ⟨_, _, q, _⟩
      · exact absurd hd q
      · show (decF (flipTo (pkAt S.net i).b a what 32)).1 ≠ 0
        rw [← q] at ha ⊢
        exact (dec_flip _ a what (some_flip hwt ht ha)).1
  refine SInv.mk' h.rp h.vinv ⟨?_, fun p hp => ?_⟩
  · rw [List.length_set]; exact h.many
  · rcases List.mem_or_eq_of_mem_set hp with q | q
    · exact h.net p q
    · rw [q]; exact key
theorem SInv.new (h1 : 1 ≤ win) (h2 : win ≤ 20) : SInv L W liar win T (sy0 win) :=
  ⟨fun _ _ => RpInv.new, VOk.new h1 h2, fun i hi => absurd hi (Nat.not_lt_zero _), fun _ _ _ hb => Bool.noConfusion hb, fun k _ _ => by show (0 : Nat).testBit k = false; simp, fun _ _ _ hb => Bool.noConfusion hb, fun _ _ => rfl, Nat.zero_le _, fun p hp => absurd hp (List.not_mem_nil)⟩

/-! ### Rounds -/
theorem ClInv.round (h : ClInv L W liar win T S) (hL : LOk L) {S' : SY} (hr : roundTo L win S S') : ClInv L W liar win (T + 6) S' := by
  obtain ⟨m0, m1, m2, _, _, _, e⟩ := hr
  subst e
  have h0 := ClInv.runAll hL m0 _ h
  have h1 := ClInv.runAll hL m1 _ (h0.ticks 3 (by omega))
  have h2 := ClInv.runAll hL m2 _ (h1.ticks 3 (by omega))
  exact h2.vtick
theorem ClInv.calm (hL : LOk L) : ∀ (n T : Nat) (S S' : SY), ClInv L W liar win T S → calmTo L win n S S' → ClInv L W liar win (T + 6 * n) S'
  | 0, _, _, _, h, e => by
    have e' : _ = _ := e
    subst e'
    exact h
  | n + 1, T, S, S', h, ⟨S1, hr, hc⟩ => by
    have := ClInv.calm hL n (T + 6) S1 S' (h.round hL hr) hc
    rw [show T + 6 * (n + 1) = T + 6 + 6 * n by omega]
    exact this
/-- What two have alike: what each sees, and all that was committed is a beginning. -/
structure Runs (S S' : SY) : Prop where
  sees : ∀ k, (S'.rp k).sx = (S.rp k).sx ∧ (S'.rp k).sy = (S.rp k).sy
  tr : ∃ a, S'.v.tr = S.v.tr ++ a
theorem Runs.refl (S : SY) : Runs S S := ⟨fun _ => ⟨rfl, rfl⟩, [], (List.append_nil _).symm⟩
theorem Runs.trans {S1 S2 : SY} (h : Runs S S1) (g : Runs S1 S2) : Runs S S2 := by
  obtain ⟨a, ha⟩ := h.tr
  obtain ⟨b, hb⟩ := g.tr
  exact ⟨fun k => ⟨(g.sees k).1.trans (h.sees k).1, (g.sees k).2.trans (h.sees k).2⟩, a ++ b, by rw [hb, ha, List.append_assoc]⟩
theorem Runs.tick (S : SY) (k : Nat) : Runs S (tickSy L k S) := by
  refine ⟨fun j => ?_, [], (List.append_nil _).symm⟩
  show (upd S.rp k _ j).sx = _ ∧ (upd S.rp k _ j).sy = _
  by_cases e : j = k
  · subst e; rw [upd_same]; exact ⟨rfl, rfl⟩
  · rw [upd_other _ _ e]; exact ⟨rfl, rfl⟩
theorem Runs.ticks (S : SY) : Runs S (ticksSy L S) := ((Runs.tick S 0).trans (Runs.tick _ 1)).trans (Runs.tick _ 2)
theorem SInv.runs (h : SInv L W liar win T S) (hL : LOk L) {i : Nat} (hi : i < S.net.length) : Runs S (arriveSy L win i S) := by
  refine ⟨fun k => ?_, (h.arrive hL hi).2⟩
  unfold arriveSy comeSy
  split
  · exact ⟨rfl, rfl⟩
  · split
    · exact ⟨rfl, rfl⟩
    · show (upd S.rp _ _ k).sx = _ ∧ (upd S.rp _ _ k).sy = _
      by_cases e : k = (pkAt S.net i).dst
      · rw [← e, upd_same]; exact takeS_sees _ _
      · rw [upd_other _ _ e]; exact ⟨rfl, rfl⟩
theorem SInv.runsAll (hL : LOk L) : ∀ (m : Nat) (S : SY), SInv L W liar win T S → Runs S (runAll L win m S)
  | 0, S, _ => Runs.refl S
  | m + 1, S, h => by
    cases hnet : S.net with
    | nil => rw [runAll_nil hnet]; exact Runs.refl S
    | cons p l =>
      have hi : 0 < S.net.length := by rw [hnet]; simp
      exact (h.runs hL hi).trans (SInv.runsAll hL m _ (h.arrive hL hi).1)
theorem vtick_runs (S : SY) : Runs S (vtickSy S) := ⟨fun _ => ⟨rfl, rfl⟩, [], by rw [List.append_nil]; exact tickF_tr _⟩
theorem ClInv.runsR (h : ClInv L W liar win T S) (hL : LOk L) {S' : SY} (hr : roundTo L win S S') : Runs S S' := by
  obtain ⟨m0, m1, m2, _, _, _, e⟩ := hr
  subst e
  have h0 := ClInv.runAll hL m0 _ h
  have h1 := ClInv.runAll hL m1 _ (h0.ticks 3 (by omega))
  exact ((((SInv.runsAll hL m0 _ h.inv).trans (Runs.ticks _)).trans (SInv.runsAll hL m1 _ (h0.ticks 3 (by omega)).inv)).trans (Runs.ticks _)).trans ((SInv.runsAll hL m2 _ (h1.ticks 3 (by omega)).inv).trans (vtick_runs _))
theorem ClInv.runsC (hL : LOk L) : ∀ (n T : Nat) (S S' : SY), ClInv L W liar win T S → calmTo L win n S S' → Runs S S'
  | 0, _, S, _, _, e => by
    have e' : _ = _ := e
    subst e'
    exact Runs.refl _
  | n + 1, _, _, S', h, ⟨S1, hr, hc⟩ => (h.runsR hL hr).trans (ClInv.runsC hL n _ S1 S' (h.round hL hr) hc)

/-! ### A step keeps it -/
theorem seen_sg (l : List Sg) (s : Sg) (hs : s ∈ l) {n : Nat} (hn : s.cyc = (n : Int) ∨ s.on = true ∧ s.cyc ≤ (n : Int)) : SeenN (WOf L l) s.who n (fitN L.s s.x) (fitN L.n s.y) :=
  ⟨fun _ hb => ⟨s, hs, rfl, hn, hb⟩, fun _ hb => ⟨s, hs, rfl, hn, hb⟩⟩
theorem TlInv.cseen (h : TlInv L liar win T A) : CSeen L (WOf L (sees3 A)) liar A.S := by
  intro k hk _ n hn
  have hm : sgOf A k true ∈ sees3 A := by
    unfold sees3
    have : k = 0 ∨ k = 1 ∨ k = 2 := by omega
    rcases this with e | e | e <;> subst e <;> simp
  have := seen_sg (L := L) _ _ hm (n := n) (.inr ⟨rfl, hn⟩)
  rw [(h.sees k hk).1, (h.sees k hk).2]
  exact this
theorem TlInv.cl (h : TlInv L liar win T A) : ClInv L (WOf L (sees3 A)) liar win T A.S := ⟨h.inv.le (WOf_le _ _ _), h.cseen⟩
theorem TlInv.later (h : TlInv L liar win T A) {T' : Nat} (hT : T ≤ T') : TlInv L liar win T' A := ⟨h.inv.later hT, h.sees⟩
theorem StepTo.keeps {wh : Int} (hs : StepTo L win liar wh A B) (hL : LOk L) (h : TlInv L liar win T A) : TlInv L liar win (T + 18) B ∧ ∃ a, B.S.v.tr = A.S.v.tr ++ a := by
  have nil : ∀ {l : List Cm}, ∃ a, l = l ++ a := ⟨[], (List.append_nil _).symm⟩
  have later : ∀ {C : TS} {T' : Nat}, TlInv L liar win T' C → T' ≤ T + 18 → TlInv L liar win (T + 18) C := fun h hT => h.later hT
  cases hs with
  | same => exact ⟨later h (by omega), nil⟩
  | see k x y hk =>
    refine ⟨later ⟨h.inv.see hk x y, fun j hj => ?_⟩ (by omega), nil⟩
    show (upd A.S.rp k _ j).sx = upd A.fx k x j ∧ (upd A.S.rp k _ j).sy = upd A.fy k y j
    by_cases e : j = k
    · subst e; rw [upd_same, upd_same, upd_same]; exact ⟨rfl, rfl⟩
    · rw [upd_other _ _ e, upd_other _ _ e, upd_other _ _ e]; exact h.sees j hj
  | tick k hk =>
    obtain ⟨n, c1, _⟩ := (h.inv.rp k hk).cyc
    refine ⟨later (T' := T + 1) ⟨(h.inv.le (WOf_le L A.seen [sgOf A k false])).tick hk c1 fun _ => ?_, fun j hj => ?_⟩ (by omega), nil⟩
    · have := seen_sg (L := L) (A.seen ++ [sgOf A k false]) (sgOf A k false) (by simp) (n := n) (.inl c1)
      rw [(h.sees k hk).1, (h.sees k hk).2]
      exact this
    · have := (Runs.tick (L := L) A.S k).sees j
      exact ⟨this.1.trans (h.sees j hj).1, this.2.trans (h.sees j hj).2⟩
  | asks k hk => exact ⟨later ⟨h.inv.asks hk, h.sees⟩ (by omega), nil⟩
  | arrive i hi =>
    have := (h.inv.runs hL hi)
    exact ⟨later ⟨(h.inv.arrive hL hi).1, fun j hj => ⟨(this.sees j).1.trans (h.sees j hj).1, (this.sees j).2.trans (h.sees j hj).2⟩⟩ (by omega), this.tr⟩
  | lose i => exact ⟨later ⟨h.inv.outs i, h.sees⟩ (by omega), nil⟩
  | twice i hi => exact ⟨later ⟨h.inv.puts (h.inv.net _ (pkAt_mem hi)), h.sees⟩ (by omega), nil⟩
  | spoil i a what t m hi hd hw hwt ha => exact ⟨later ⟨h.inv.spoil hi hd hw hwt ha, h.sees⟩ (by omega), nil⟩
  | crash k hk =>
    refine ⟨later ⟨h.inv.crash, fun j hj => ?_⟩ (by omega), nil⟩
    show (upd A.S.rp k _ j).sx = upd A.fx k 0 j ∧ (upd A.S.rp k _ j).sy = upd A.fy k 0 j
    by_cases e : j = k
    · subst e; rw [upd_same, upd_same, upd_same]; exact ⟨rfl, rfl⟩
    · rw [upd_other _ _ e, upd_other _ _ e, upd_other _ _ e]; exact h.sees j hj
  | says dst l hl hd hb hn => exact ⟨later ⟨h.inv.puts ⟨by show liar ≤ 3; omega, hd, hn, hb, .inl ⟨rfl, hl⟩⟩, h.sees⟩ (by omega), nil⟩
  | calm n S' hw hn hc =>
    have h1 := ClInv.calm hL n T A.S S' h.cl hc
    have h2 := ClInv.runsC hL n T A.S S' h.cl hc
    exact ⟨later (T' := T + 6 * n) ⟨h1.inv, fun j hj => ⟨(h2.sees j).1.trans (h.sees j hj).1, (h2.sees j).2.trans (h.sees j hj).2⟩⟩ (by omega), h2.tr⟩
  | vtick hw => exact ⟨later ⟨h.inv.vtick, h.sees⟩ (by omega), (vtick_runs A.S).tr⟩
  | latch hw => exact ⟨later ⟨h.inv.latch, h.sees⟩ (by omega), nil⟩
end
end Go.Proofs.YtaablbmgagiajabGreatDoor

/- The session that talks has. -/
namespace Go.Proofs.YtaablbmgagiajabGreatDoor
open Go.RowKit Go.Deep

def wConf : List UInt8 := [99, 111, 110, 102, 108, 105, 99, 116, 115]
def wMost : List UInt8 := [109, 111, 115, 116]
def wShow : List UInt8 := [115, 104, 111, 119]
def t0 : List UInt8 := wConf ++ [10] ++ wMost ++ [10] ++ wShow ++ [10, 120, 10]
theorem lines_t0 : linesOf t0 = [wConf, wMost, wShow, [120]] := by decide
theorem words_conf : wordsF wConf = [wConf] := by decide
theorem words_most : wordsF wMost = [wMost] := by decide
theorem words_show : wordsF wShow = [wShow] := by decide
theorem words_x : wordsF [120] = [[120]] := by decide
theorem say_nil : sayF [] = some [] := rfl
theorem confL_L0 : confL L0 = [4, 4, 3] := by decide
theorem most_L0 : most (confs L0.zs) = 2 := by decide
theorem told_t0 : spF [4, 4, 3] ++ [10] ++ (spF [2] ++ [10]) ++ (showF (sy0 10).v ++ [10]) ++ (errF 3 ++ [10]) = [52, 32, 52, 32, 51, 10, 50, 10, 48, 32, 48, 32, 102, 97, 108, 115, 101, 10, 101, 114, 114, 111, 114, 32, 51, 10] := by kernel_rfl

def ansT (x : List UInt8) : List UInt8 := if x = wConf then spF (confL L0) else if x = wMost then spF [((most (confs L0.zs) : Nat) : Int)] else if x = wShow then showF (sy0 10).v else errF 3
def RelT (pre : List {x : List UInt8 // x ∈ linesOf t0}) (S : SY) (l : List UInt8) : Prop := S = sy0 10 ∧ l = (pre.map fun x => ansT x.1 ++ [10]).flatten ∧ pre.length ≤ 4
theorem ansT_few (x : List UInt8) (h : x ∈ linesOf t0) : (ansT x).length ≤ 20 := by
  rw [lines_t0] at h
  simp only [List.mem_cons, List.not_mem_nil, or_false] at h
  rcases h with rfl | rfl | rfl | rfl <;> exact of_decide_eq_true (by kernel_rfl)
theorem relT_few (pre : List {x : List UInt8 // x ∈ linesOf t0}) : ((pre.map fun x => ansT x.1 ++ [10]).flatten).length ≤ 21 * pre.length := by
  induction pre with
  | nil => simp
  | cons x pre ih =>
    have := ansT_few x.1 x.2
    simp only [List.map_cons, List.flatten_cons, List.length_append, List.length_cons, List.length_nil] at ih ⊢
    omega

theorem intIn_small {z : Int} (h0 : -1000 ≤ z) (h1 : z ≤ 100000) : IntIn z := ⟨by omega, by omega⟩
set_option maxHeartbeats 1000000 in
theorem talk_ans : AnsOk t0 RelT := by
  rintro pre ⟨x, hx⟩ S l W N c D ⟨rfl, rfl, hp⟩ hlen hdk
  have hx' := hx
  rw [lines_t0] at hx'
  have h4 : (linesOf t0).length = 4 := by decide
  have hlen' : pre.length < 4 := by omega
  have fin : ∀ s, s = ansT x → ∀ (e : Ending) (W' : World), e = Ending.returned (.string (txt s)) ∧ AnsGo W W' N c D (sy0 10) → ∃ s S' D', e = .returned (.string (txt s)) ∧ RelT (pre ++ [⟨x, hx⟩]) S' ((pre.map fun x => ansT x.1 ++ [10]).flatten ++ s ++ [10]) ∧ DkIs W' N c D' L0 10 S' ∧ Mod W W' (Wr D) ∧ Gr W.heap.size D D' := by
    rintro s rfl e W' ⟨rfl, D', h1, h2, h3⟩
    exact ⟨_, _, D', rfl, ⟨rfl, by simp, by simp; omega⟩, h1, h2, h3⟩
  have hvok : VOk 10 (sy0 10).v := (SInv.new (L := L0) (W := fun _ _ _ _ => True) (liar := 3) (T := 0) (by omega) (by omega)).vok
  simp only [List.mem_cons, List.not_mem_nil, or_false] at hx'
  rcases hx' with rfl | rfl | rfl | rfl
  · refine (ans_tells wConf wConf _ [] hdk (by decide) words_conf 0 0 145 [] rfl (by decide) (by decide) say_nil (enters_of Tryz.func145 (by kernel_rfl) rfl) (fun V a h => conflicts_ord V a h L0_ok ?_)).mono (fin _ rfl)
    rw [confL_L0]
    intro z hz
    simp only [List.mem_cons, List.not_mem_nil, or_false] at hz
    rcases hz with rfl | rfl | rfl <;> exact intIn_small (by decide) (by decide)
  · exact (ans_tells wMost wMost _ [] hdk (by decide) words_most 0 0 152 [] rfl (by decide) (by decide) say_nil (enters_of Tryz.func152 (by kernel_rfl) rfl) (fun V a h => most_ord V a h L0_ok (by rw [most_L0]; exact intIn_small (by decide) (by decide)))).mono (fin _ rfl)
  · exact (ans_tells wShow wShow _ [] hdk (by decide) words_show 0 0 155 [] rfl (by decide) (by decide) say_nil (enters_of Tryz.func155 (by kernel_rfl) rfl) (fun V a h => show_ord V a h hvok (by exact intIn_small (by decide) (by decide)) (by exact intIn_small (by decide) (by decide)))).mono (fin _ rfl)
  · exact (ans_no [120] [120] [] hdk (by decide) words_x rfl).mono (fin _ rfl)
theorem talk_session (w : World) (hn : HasNum w) (h7 : 7 ≤ w.heap.size) :
    Calls Tryz.prog 23 #[.string (txt t0)] w fun e w' => e = .returned (.string (txt [52, 32, 52, 32, 51, 10, 50, 10, 48, 32, 48, 32, 102, 97, 108, 115, 101, 10, 101, 114, 114, 111, 114, 32, 51, 10])) ∧ Below w.heap.size w w' := by
  refine (session_any t0 w (by decide) hn h7 RelT ⟨rfl, rfl, by decide⟩ (fun pre S l h => ⟨by rw [h.1]; rfl, by have := relT_few pre; rw [← h.2.1] at this; have := h.2.2; omega⟩) talk_ans).mono ?_
  rintro e w' ⟨⟨xs, S, l, hxs, hR, rfl⟩, hB⟩
  refine ⟨?_, hB⟩
  have e1 : (xs.map fun x => ansT x.1 ++ [10]) = (xs.map Subtype.val).map fun x => ansT x ++ [10] := by rw [List.map_map]; rfl
  have e2 : ([wConf, wMost, wShow, [120]].map fun x => ansT x ++ [10]).flatten = [52, 32, 52, 32, 51, 10, 50, 10, 48, 32, 48, 32, 102, 97, 108, 115, 101, 10, 101, 114, 114, 111, 114, 32, 51, 10] := by kernel_rfl
  rw [hR.2.1, e1, hxs, lines_t0, e2]
set_option maxHeartbeats 1000000 in
theorem talks_any (w : World) (hn : HasNum w) (h7 : 7 ≤ w.heap.size) :
    Calls Tryz.prog 22 #[] w fun e w' => e = .returned (.bool true) ∧ Below w.heap.size w w' := by
  have HT := hide (talk_session w hn h7)
  clear hn h7
  go_enter Tryz.func22, Tryz.ntmps22
  go_wp2_with (go_at_call 23; refine HT.out.mono ?_; rintro e w1 ⟨rfl, hB⟩)
  go_ret
  exact ⟨rfl, hB⟩
end Go.Proofs.YtaablbmgagiajabGreatDoor

/- Calm is a function: whoever lets all come ends alike; and nothing is under way behind it. -/
namespace Go.Proofs.YtaablbmgagiajabGreatDoor
open Go.RowKit Go.Deep
variable {L : RC} {win : Nat} {S S1 S2 : SY}

theorem isNone_nil : isNone ⟨0, 0, []⟩ := .inl (by decide)
theorem arrive_nil (h : S.net = []) : arriveSy L win 0 S = S := by
  obtain ⟨rp, v, net⟩ := S
  subst h
  show comeSy L win ⟨0, 0, []⟩ ⟨rp, v, []⟩ = ⟨rp, v, []⟩
  unfold comeSy
  rw [if_pos isNone_nil]
theorem run_nil : ∀ (m : Nat), S.net = [] → runAll L win m S = S
  | 0, _ => rfl
  | m + 1, h => by
    show runAll L win m (arriveSy L win 0 S) = S
    rw [arrive_nil h]
    exact run_nil m h
theorem run_more : ∀ (m n : Nat) (S : SY), runAll L win (m + n) S = runAll L win n (runAll L win m S)
  | 0, n, S => by rw [Nat.zero_add]; rfl
  | m + 1, n, S => by
    rw [Nat.add_right_comm]
    exact run_more m n _
theorem run_det {m n : Nat} (h1 : (runAll L win m S).net = []) (h2 : (runAll L win n S).net = []) : runAll L win m S = runAll L win n S := by
  rcases Nat.le_total m n with h | h
  · obtain ⟨q, rfl⟩ := Nat.exists_eq_add_of_le h
    rw [run_more, run_nil q h1]
  · obtain ⟨q, rfl⟩ := Nat.exists_eq_add_of_le h
    rw [run_more, run_nil q h2]
theorem round_det (h1 : roundTo L win S S1) (h2 : roundTo L win S S2) : S1 = S2 := by
  obtain ⟨a0, a1, a2, p0, p1, p2, rfl⟩ := h1
  obtain ⟨b0, b1, b2, q0, q1, q2, rfl⟩ := h2
  have e0 := run_det p0 q0
  rw [e0] at p1 p2 ⊢
  have e1 := run_det p1 q1
  rw [e1] at p2 ⊢
  have e2 := run_det p2 q2
  rw [e2]
theorem round_net (h : roundTo L win S S1) : S1.net = [] := by
  obtain ⟨a0, a1, a2, p0, p1, p2, rfl⟩ := h
  exact p2
theorem calm_det : ∀ (n : Nat) {S S1 S2 : SY}, calmTo L win n S S1 → calmTo L win n S S2 → S1 = S2
  | 0, _, _, _, h1, h2 => by
    have e1 : _ = _ := h1
    have e2 : _ = _ := h2
    rw [e1, e2]
  | n + 1, _, _, _, ⟨a, p, p'⟩, ⟨b, q, q'⟩ => by
    obtain rfl := round_det p q
    exact calm_det n p' q'
theorem calm_net : ∀ (n : Nat) {S S1 : SY}, S.net = [] → calmTo L win n S S1 → S1.net = []
  | 0, _, _, h, h1 => by
    have e1 : _ = _ := h1
    rw [e1]; exact h
  | n + 1, _, _, _, ⟨_, p, p'⟩ => calm_net n (round_net p) p'
end Go.Proofs.YtaablbmgagiajabGreatDoor

/- The order trace. -/
namespace Go.Proofs.YtaablbmgagiajabGreatDoor
open Go.RowKit Go.Deep
variable {N win : Nat} {c : DkC} {D : SC} {L : RC} {S : SY}

def cmT (d : Cm) : List UInt8 := spF [d.c, d.v, d.o]
/-- What trace tells. -/
def traceF (tr : List Cm) : List UInt8 := Lib.join (tr.map cmT) [44, 32]
def CmIn (d : Cm) : Prop := IntIn d.c ∧ IntIn d.v ∧ IntIn d.o
structure TrInv (w1 wr : World) (cv : Value) (tr : List Cm) (k : Nat) : Prop where
  old : Below w1.heap.size w1 wr
  own : wr.ownsRow w1.heap.size 9 1 cv k ((tr.take k).map fun d => Value.string (txt (cmT d)))
theorem TrInv.below {w1 wr wx : World} {cv : Value} {tr : List Cm} {k : Nat} (h : TrInv w1 wr cv tr k) (hB : Below wr.heap.size wr wx) : TrInv w1 wx cv tr k := by
  refine ⟨h.old.trans (hB.mono h.old.size), h.own.1, ?_⟩
  rcases h.own.2 with h2 | ⟨g, cap, cur, hg, h3, h4, h5⟩
  · exact .inl h2
  · exact .inr ⟨g, cap, cur, hg, h3, (hB.block g (blk_lt h4)).trans h4, h5⟩
theorem infoStrR : (Tryz.prog.info? 9).map (fun i => (i.zero, i.size, i.bytes)) = some (some (.string ⟨#[]⟩), 1, 16) := by kernel_rfl
theorem join_short (xs : List (List UInt8)) (sep : List UInt8) (m : Nat) (h : ∀ x ∈ xs, x.length + sep.length ≤ m) : (Lib.join xs sep).length ≤ m * xs.length := by
  induction xs with
  | nil => simp [Lib.join, List.intercalate]
  | cons x r ih =>
    have h1 := h x (by simp)
    have h2 := ih fun y hy => h y (by simp [hy])
    cases r with
    | nil => simp [Lib.join, List.intercalate]; omega
    | cons y r =>
      rw [Lib.join_cons] at h2 ⊢
      have e : Lib.joinTail sep (y :: r) = sep ++ (y ++ Lib.joinTail sep r) := by simp [Lib.joinTail]
      rw [e]
      simp only [List.length_append, List.length_cons, Nat.mul_add, Nat.mul_one] at h2 ⊢
      omega
set_option maxHeartbeats 4000000 in
set_option maxRecDepth 100000 in
theorem trace_ord (V : World) (a : Value) (h : DkIs V N c D L win S) (hok : VOk win S.v) (hn : S.v.tr.length ≤ 20000) (hin : ∀ d ∈ S.v.tr, CmIn d) :
    Calls Tryz.prog 157 #[.pointer (some ⟨c.d, 0, none⟩), a] V fun e V' => e = .returned (.string (txt (traceF S.v.tr))) ∧ Below V.heap.size V V' := by
  have c3 := h.c3
  have HT := hide (strace_any N D L win S V h.sys hok)
  have HNU := hide h.num
  obtain ⟨tr, htr⟩ : ∃ tr, S.v.tr = tr := ⟨_, rfl⟩
  rw [htr] at HT hn hin ⊢
  have HIN := hide hin
  obtain ⟨i0, hi, hz0, hz1, hz2⟩ := info_parts infoStrR
  have HI := hide hi
  have HZ0 := hide hz0
  have HZ1 := hide hz1
  have HZ2 := hide hz2
  clear h hok hin hi hz0 hz1 hz2 htr
  go_enter Tryz.func157, Tryz.ntmps157
  go_wp2_with fail
  go_at_call 13
  refine HT.out.mono ?_
  rintro e w1 ⟨⟨tv, rfl, hTI⟩, hB⟩
  obtain ⟨ta, tc, rfl⟩ := hTI.shape
  have HTI := hide hTI
  have HB := hide hB
  clear hTI hB HT
  have HI0 : Hid (TrInv w1 w1 (.slice none 0 0) tr 0) := hide ⟨Below.refl _ _, rfl, .inl ⟨rfl, rfl⟩⟩
  go_wp2
  go_loopw [5, 14] (fun cv i wr => ∃ k : Nat, k ≤ tr.length ∧ i = .int .i64 k ∧ TrInv w1 wr cv tr k) (fun _ i _ => tr.length - (intOf i).toNat)
  case atStart => exact ⟨0, Nat.zero_le _, rfl, HI0.out⟩
  case round =>
    clear HI0
    obtain ⟨k, hk, rfl, hI⟩ := hrel
    by_cases hlt : k < tr.length
    · obtain ⟨g, cap, he, hg1, hg2, hcap⟩ := HTI.out.has (by omega)
      simp only [Value.slice.injEq] at he
      obtain ⟨rfl, _, rfl⟩ := he
      have hr := (HTI.out.same (w' := wr) fun g' hg' => by cases hg'; exact hI.old.block _ hg2).range hlt
      have hmem : cmAt tr k ∈ tr := by unfold cmAt; rw [List.getElem?_eq_getElem hlt]; exact List.getElem_mem hlt
      have HCI := hide (HIN.out _ hmem)
      have HTK : Hid ((tr.take (k + 1)).map (fun d => Value.string (txt (cmT d))) = (tr.take k).map (fun d => Value.string (txt (cmT d))) ++ [Value.string (txt (cmT (cmAt tr k)))]) := hide (by
        rw [List.take_add_one, List.map_append, List.getElem?_eq_getElem hlt]
        unfold cmAt
        rw [List.getElem?_eq_getElem hlt]
        rfl)
      obtain ⟨x0, h0⟩ : ∃ x, Hid ((cmAt tr k).c = x) := ⟨_, hide rfl⟩
      obtain ⟨x1, h1⟩ : ∃ x, Hid ((cmAt tr k).v = x) := ⟨_, hide rfl⟩
      obtain ⟨x2, h2⟩ : ∃ x, Hid ((cmAt tr k).o = x) := ⟨_, hide rfl⟩
      rw [h0.out, h1.out, h2.out] at hr
      have r0 : wr.cell? ⟨g, k * 3, none⟩ = some (.int .i64 x0) := hr 0 _ rfl
      have r1 : wr.cell? ⟨g, k * 3 + 1, none⟩ = some (.int .i64 x1) := hr 1 _ rfl
      have r2 : wr.cell? ⟨g, k * 3 + 2, none⟩ = some (.int .i64 x2) := hr 2 _ rfl
      have t1 : (k : Int) < (tr.length : Int) := by omega
      have t2 : (0 : Int) ≤ (k : Int) := by omega
      have t3 : decide ((k : Int) < (tr.length : Int)) = true := decide_eq_true t1
      have HI1 := hide hI
      obtain ⟨X, hX⟩ : ∃ X, Hid ((wr.alloc (.cells #[.int .i64 x0, .int .i64 x1, .int .i64 x2] 49)).alloc (.cells #[.int .i64 x0, .int .i64 x1, .int .i64 x2] 3) = X) := ⟨_, hide rfl⟩
      clear hI hr hmem
      have HS : Hid (Calls Tryz.prog 182 #[.slice (some ⟨wr.heap.size + 1, 0, none⟩) 3 3] X fun e w' => e = .returned (.string (txt (cmT (cmAt tr k)))) ∧ Hid (TrInv w1 w' u5 tr k)) := hide (by
        have hb1 : Below wr.heap.size wr (wr.alloc (.cells #[.int .i64 x0, .int .i64 x1, .int .i64 x2] 49)) := (Below.refl _ _).alloc (Nat.le_refl _) _
        have hs1 : (wr.alloc (.cells #[.int .i64 x0, .int .i64 x1, .int .i64 x2] 49)).heap.size = wr.heap.size + 1 := World.size_alloc _ _
        generalize wr.alloc (.cells #[.int .i64 x0, .int .i64 x1, .int .i64 x2] 49) = y1 at hb1 hs1 hX
        have hb2 : Below y1.heap.size y1 X := by rw [← hX.out]; exact (Below.refl _ _).alloc (Nat.le_refl _) _
        have hsl : IsSl X (some ⟨wr.heap.size + 1, 0, none⟩) 3 3 [x0, x1, x2] := by
          rw [← hX.out, ← hs1]
          exact isSl_new y1 [x0, x1, x2] 3 rfl
        have hI2 := (HI1.out.below hb1).below hb2
        have hnX : HasNum X := (HNU.out.below HB.out).below hI2.old
        refine (spaced_any [x0, x1, x2] (some ⟨wr.heap.size + 1, 0, none⟩) 3 3 X hsl ?_ (by omega) hnX.pow).mono ?_
        · intro z hz
          simp only [List.mem_cons, List.not_mem_nil, or_false] at hz
          obtain ⟨q0, q1, q2⟩ := HCI.out
          rw [h0.out] at q0
          rw [h1.out] at q1
          rw [h2.out] at q2
          rcases hz with rfl | rfl | rfl
          · exact q0
          · exact q1
          · exact q2
        · rintro e w' ⟨rfl, hB'⟩
          refine ⟨?_, hide (hI2.below hB')⟩
          unfold cmT
          rw [h0.out, h1.out, h2.out])
      go_wp2_with fail
      rw [hX.out]
      refine HS.out.mono ?_
      rintro e w3 ⟨rfl, hI3⟩
      obtain ⟨s, hs⟩ : ∃ s, Hid (cmT (cmAt tr k) = s) := ⟨_, hide rfl⟩
      rw [hs.out]
      rw [hs.out] at HTK
      have hYb : Below w3.heap.size w3 (w3.alloc (.cells #[.string (txt s)] 9)) := (Below.refl _ _).alloc (Nat.le_refl _) _
      have HIY := hide (hI3.out.below hYb)
      clear HS hI3 r0 r1 r2 HCI h0 h1 h2 hX HI1 hYb
      go_wp2_with (at_builtin; refine wpList_append_own _ rfl _ _ 70 rfl w1.heap.size 9 i0 (.string ⟨#[]⟩) 1 16 Tryz.underlying70 HI.out HZ0.out HZ1.out HZ2.out rfl (by decide) _ _ _ rfl HIY.out.own ⟨_, 0, none⟩ 1 1 [.string (txt s)] rfl rfl ?c1 ?c2 ?c3 ?c4 ?c5 ?_)
      case c1 =>
        intro j u hj
        match j, hj with
        | 0, hj => simp at hj; subst hj; exact World.cell?_alloc_at _ _ _ _ rfl
      case c2 => intro u hu; simp at hu; subst hu; rfl
      case c3 => unfold maxLen; omega
      case c4 => omega
      case c5 => exact HIY.out.old.size
      intro v' w4 hown hgrow _
      have HI4 : Hid (TrInv w1 w4 v' tr (k + 1)) := hide ⟨⟨hgrow.os.trans HIY.out.old.os, hgrow.tape.trans HIY.out.old.tape, hgrow.output.trans HIY.out.old.output, Nat.le_trans HIY.out.old.size hgrow.size, fun q hq => (hgrow.block q (Nat.lt_of_lt_of_le hq HIY.out.old.size) (fun e => by have := (HIY.out.own.lt q e.symm).1; omega)).trans (HIY.out.old.block q hq)⟩, by rw [HTK.out]; simpa only [List.map_take] using hown⟩
      clear hown hgrow HIY
      go_wp2
      go_roundw
      case rel => exact ⟨k + 1, by omega, by go_num, HI4.out⟩
      case measure => simp [intOf]; omega
    · have ek : k = tr.length := by omega
      subst ek
      have t3 : decide ((tr.length : Int) < (tr.length : Int)) = false := decide_eq_false (by omega)
      have hall : tr.take tr.length = tr := List.take_length
      have HO := hide hI.old
      have HW := hide hI.own
      rw [hall] at HW
      have HJ : Hid (Calls Tryz.prog 186 #[u5, .string ⟨#[44, 32]⟩] wr fun e w' => e = .returned (.string (txt (traceF tr))) ∧ Below wr.heap.size wr w') := hide (by
        rcases HW.out.2 with ⟨rfl, hnil⟩ | ⟨g, cap, cur, rfl, _, hg, hnc, _⟩
        · have h0 : tr = [] := by
            cases tr with
            | nil => rfl
            | cons d r => simp at hnil
          subst h0
          refine (Tryz.strings_Join_none none 0 ⟨#[44, 32]⟩ wr).mono ?_
          rintro e w' ⟨rfl, rfl⟩
          exact ⟨rfl, Below.refl _ _⟩
        · have hcs := HW.out.cells (g := g) rfl
          have hj := Tryz.strings_Join g 0 cap (tr.map fun d => txt (cmT d)) ⟨#[44, 32]⟩ wr (fun j x hx => by
            rw [List.getElem?_map] at hx
            obtain ⟨d, hd, rfl⟩ := Option.map_eq_some_iff.1 hx
            have := hcs j (.string (txt (cmT d))) (by rw [List.getElem?_map, hd]; rfl)
            rw [Addr.add_mid] at this
            exact this) (blk_lt hg) (by rw [List.length_map]; omega) (by rw [List.length_map]; exact hnc) ?_
          · rw [List.length_map] at hj
            refine hj.mono ?_
            rintro e w' ⟨rfl, hB'⟩
            refine ⟨?_, hB'⟩
            unfold traceF
            rw [List.map_map]
            rfl
          · have hjs := join_short (tr.map cmT) [44, 32] 100 fun x hx => by
              obtain ⟨d, hd, rfl⟩ := List.mem_map.1 hx
              obtain ⟨q0, q1, q2⟩ := HIN.out d hd
              have := join_few [d.c, d.v, d.o] (fun z hz => by
                simp only [List.mem_cons, List.not_mem_nil, or_false] at hz
                rcases hz with rfl | rfl | rfl
                · exact q0
                · exact q1
                · exact q2)
              unfold cmT
              simp at this ⊢
              omega
            rw [List.length_map] at hjs
            have e : ((tr.map fun d => txt (cmT d)).map (·.data.toList)) = tr.map cmT := by rw [List.map_map]; rfl
            rw [e]
            show (Lib.join (tr.map cmT) [44, 32]).length ≤ _
            omega)
      clear hI HW hall HIN
      go_wp2_with (go_at_call 186; refine HJ.out.mono ?_; rintro e w9 ⟨rfl, hB9⟩)
      go_ret
      have hq := HB.out.trans (HO.out.mono HB.out.size)
      exact ⟨rfl, hq.trans (hB9.mono hq.size)⟩
end Go.Proofs.YtaablbmgagiajabGreatDoor
