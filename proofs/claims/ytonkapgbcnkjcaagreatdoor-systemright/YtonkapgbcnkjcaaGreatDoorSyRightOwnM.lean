/- Proved: for every input triumvirkeep.SystemRight returns true and leaves its arguments as they were, math/bits.deBruijn32tab being as the program's text lays it (the card ties it). No other condition beyond the form's own. -/
import Derived.Test.YtonkapgbcnkjcaaGreatDoorCoreStep
import Derived.Test.YtonkapgbcnkjcaaGreatDoorGAE
import Derived.Test.YtonkapgbcnkjcaaGreatDoorGAN
import Derived.Laws.StructEq
import Derived.ChangeKeysEq
import Derived.Test.YtonkapgbcnkjcaaGreatDoorGAQ
import Derived.Test.YtonkapgbcnkjcaaGreatDoorCards
import Derived.Test.YtonkapgbcnkjcaaGreatDoorTie
import Derived.Lib.LaidTab
import Derived.MakeChecks
import Derived.WalkKit
import Derived.ProofKit
import Derived.OpenShut
import Derived.ChangeOld
import Derived.ChangeSame
import Derived.ChangeVars
import Derived.JoinedOf
import Derived.RowKit
import Derived.RowKitTokens
import Derived.LaidLaws
import Derived.LaidHandle
import Derived.Stop.Joined
import Derived.Lib.SmallJoins
/- Laws for a whole state that is read or written; the contract of triumvirkeep.shown: it says yes. -/
namespace Go.Proofs.YtonkapgbcnkjcaaGreatDoor
open Go.RowKit Go.Deep

theorem wpList_load_st {ops : Array Oper} {rest : List Oper} {op : Oper} {a : Act} {w : World} {Q : Exit → Act → World → Prop} (hgd : op.guard = none) (x : Operand) (ho : op.op = .load 33 x)
    (b : Nat) (hx : a.eval x = .pointer (some ⟨b, 0, none⟩)) (S : St) (hS : StIs w b S)
    (h : wpList Tryz.prog ops Q rest (a.put op.dst (.agg (stCells S))) w) : wpList Tryz.prog ops Q (op :: rest) a w :=
  wpList_plain hgd fun _ hK => wp_load_row _ x ho b hx _ _ _ _ hS Tryz.underlying33 rfl (by rw [stateInfo]; rfl) (hK _ _ h)
theorem wpList_store_st {ops : Array Oper} {rest : List Oper} {op : Oper} {a : Act} {w : World} {Q : Exit → Act → World → Prop} (hgd : op.guard = none) (x y : Operand) (ho : op.op = .store 33 x y)
    (b : Nat) (X : St) (hx : a.eval x = .pointer (some ⟨b, 0, none⟩)) (hy : a.eval y = .agg (stCells X)) (S : St) (hS : StIs w b S)
    (h : wpList Tryz.prog ops Q rest (a.put op.dst undef) (w.setRow b (stCells X))) : wpList Tryz.prog ops Q (op :: rest) a w :=
  wpList_plain hgd fun _ hK => wp_store_row _ x y ho b _ hx hy _ _ hS (by rw [stateInfo]; rfl) rfl (oneCells X) (hK _ _ h)

/-- What is known behind k steps of the fact, and what was shown. -/
def factIn (k : Nat) : Int := if k = 0 then 3 else if k = 1 then 2 else if k = 2 then 1 else 3
def factSt : Nat → St
  | 0 => st0
  | k + 1 => nextF (rt [3]) (conf [3]) 1 1 (fitN 2 (factIn k)) (fitN 1 1) (factSt k)
def factOut (k : Nat) : Nat := outF (rt [3]) (conf [3]) 1 1 (fitN 2 (factIn k)) (fitN 1 1) (factSt k)
theorem fact_check : checkF 2 [3] 1 = (0, -1) := by decide +kernel
theorem fact0 : factOut 0 = 1 := by decide +kernel
theorem fact1 : factOut 1 = 0 := by decide +kernel
theorem fact2 : factOut 2 = 0 := by decide +kernel
theorem fact3 : factOut 3 = 1 := by decide +kernel
theorem fact_good (k : Nat) : Good (rt [3]) 1 (k : Int) (factSt k) := by
  induction k with
  | zero => exact good0 _ _
  | succ k ih => exact next_good (conf_conf fact_check) ih
/-- The outputs so far, as one number. -/
def factSum : Nat → Nat
  | 0 => 0
  | 1 => 1
  | 2 => 2
  | 3 => 4
  | _ => 9

theorem fact_step (p g cg M : Nat) (k : Nat) (z : Int) (w : World) (hk : k < 4) (hz : factIn k = z) (hK : CoreIs w p 2 1 1 [3] g cg M) :
    Calls Tryz.prog 14 #[.pointer (some ⟨p, 0, none⟩), .agg (stCells (factSt k)), .agg #[.int .i64 z, .int .i64 1]] w fun e w' =>
      e = .returned (.tuple #[.agg (stCells (factSt (k + 1))), .int .i64 ((factOut k : Nat) : Int)]) ∧ Below w.heap.size w w' := by
  have h := step_any p 2 1 1 [3] g cg M z 1 (factSt k) w hK (good_ok fact_check (fact_good k) (by omega))
  rw [← hz] at h ⊢
  exact h

theorem fact_row {w wx : World} (h : Below (w.heap.size + 1) (w.alloc (.cells #[.int .i64 3] 3)) wx) : Row wx w.heap.size 0 [3] := by
  intro k hk
  rw [h.cell (p := ⟨w.heap.size, 0 + k, none⟩) (Nat.lt_succ_self _)]
  match k, hk with
  | 0, _ => simp

/-- What holds while the fact is gone through. -/
structure FInv (w wr : World) (b p g cg M k : Nat) : Prop where
  old : Below w.heap.size w wr
  K : CoreIs wr p 2 1 1 [3] g cg M
  st : StIs wr b (factSt k)

theorem FInv.below {w wr wx : World} {b p g cg M k : Nat} (h : FInv w wr b p g cg M k) (hB : Below wr.heap.size wr wx) : FInv w wx b p g cg M k :=
  ⟨h.old.trans (hB.mono h.old.size), h.K.below h.K.plt h.K.glt h.K.mlt hB, (hB.block _ h.st.lt).trans h.st⟩
theorem FInv.next {w wr : World} {b p g cg M k : Nat} (h : FInv w wr b p g cg M k) (hb : w.heap.size ≤ b) (hp : p < b) (hg : g < b) (hM : M < b) : FInv w (wr.setRow b (stCells (factSt (k + 1)))) b p g cg M (k + 1) :=
  ⟨below_row h.old hb _, h.K.below (B := b) hp hg hM (below_row (Below.refl _ _) (Nat.le_refl _) _), row_same h.st _⟩

end Go.Proofs.YtonkapgbcnkjcaaGreatDoor

/- The contract of a tale's right: it says yes. -/
namespace Go.Proofs.YtonkapgbcnkjcaaGreatDoor
open Go.RowKit Go.Deep

theorem yields_sst {ops : Array Oper} {S' : World → Prop} {op : Oper} {a : Act} (hw : Region.wanted op (yielded ops a.tmps) = true) (x : Operand) (ho : op.op = .load 33 x)
    (b : Nat) (hx : a.eval x = .pointer (some ⟨b, 0, none⟩)) (S : St) (hS : ∀ w, S' w → StIs w b S) : YieldsIf Tryz.prog ops S' op (.agg (stCells S)) a :=
  .inl ⟨hw, fun w h => by
    unfold execOp
    simp only [ho, hx, Instr.loadAt, Instr.sureAddr, Sem.run_bind, Sem.run_pure, Result.andThen_ok, run_loadVar_row (P := Tryz.prog) w b _ 33 _ _ _ (hS w h) Tryz.underlying33 rfl (by rw [stateInfo]; rfl)]⟩
/-- A state that is stepped on; all that lay there ahead is as it was. -/
structure StInv (w3 wr : World) (P : Nat) (S : St) : Prop where
  old : Below w3.heap.size w3 wr
  st : StIs wr P S
  ge : w3.heap.size ≤ P
theorem StInv.drew {w3 wr : World} {P : Nat} {S : St} (h : StInv w3 wr P S) : StInv w3 wr.drew P S := ⟨h.old.drew, h.st, h.ge⟩
theorem StInv.below {w3 wr wx : World} {P : Nat} {S : St} (h : StInv w3 wr P S) (hB : Below wr.heap.size wr wx) : StInv w3 wx P S := ⟨h.old.trans (hB.mono h.old.size), (hB.block _ h.st.lt).trans h.st, h.ge⟩
theorem StInv.row {w3 wr : World} {P : Nat} {S : St} (h : StInv w3 wr P S) {N : Nat} (hN : w3.heap.size ≤ N) (hne : N ≠ P) (cs : Array Value) : StInv w3 (wr.setRow N cs) P S := ⟨below_row h.old hN cs, (row_other _ _ _ _ (by omega)).trans h.st, h.ge⟩
theorem StInv.put {w3 wr : World} {P : Nat} {S : St} (h : StInv w3 wr P S) (X : St) : StInv w3 (wr.setRow P (stCells X)) P X := ⟨below_row h.old h.ge _, row_same h.st X, h.ge⟩

set_option maxHeartbeats 4000000 in
set_option maxRecDepth 20000 in
theorem taright_any (N q : Nat) (E : TC) (L : RC) (win liar T : Nat) (A : TS) (w : World) (h : TaIs w N q E L win liar A) (hI : TlInv L liar win T A) (hL : LOk L) :
    Calls Tryz.prog 9 #[.pointer (some ⟨q, 0, none⟩)] w fun e w' => e = .returned (.bool true) ∧ Below w.heap.size w w' := by
  have c0 : w.cell? ⟨q, 0, none⟩ = some (.pointer (some ⟨E.D.p, 0, none⟩)) := (h.at 0).trans rfl
  have c1 : w.cell? ⟨q, 1, none⟩ = some (.int .i64 (L.s : Int)) := (h.at 1).trans rfl
  have c2 : w.cell? ⟨q, 2, none⟩ = some (.slice (some ⟨E.b, E.off, none⟩) L.n E.cap) := (h.at 2).trans rfl
  have c3 : w.cell? ⟨q, 3, none⟩ = some (.int .i64 (L.d : Int)) := (h.at 3).trans rfl
  have HNW := hide (new_ok (L.s : Int) (L.d : Int) E.b E.off L.n E.cap L.zs w hL.len hL.ok (Nat.lt_of_lt_of_le h.lb.1 h.size) h.row h.cap)
  have HT := hide h
  have HI := hide hI
  have HL := hide hL
  have hql := h.lt
  have hf := hI.inv.vok.few
  clear h hI hL
  go_enter Tryz.func9, Tryz.ntmps9
  go_wp2_with (go_at_call 13; refine HNW.out.mono ?_)
  rintro e w1 ⟨⟨p, g, cg, M, hp, hg, hM, rfl, hK⟩, hB1⟩
  have HK := hide hK
  have hsz1 := hB1.size
  obtain ⟨W, hW⟩ : ∃ W, Hid (w1.alloc (.cells (stCells st0) 33) = W) := ⟨_, hide rfl⟩
  have hBW1 : Below w1.heap.size w1 W := by rw [← hW.out]; exact (Below.refl _ _).alloc (Nat.le_refl _) _
  have HST : Hid (StIs W w1.heap.size st0) := by rw [← hW.out]; exact hide (blk_new _ _)
  have hBW : Below w.heap.size w W := hB1.trans (hBW1.mono hsz1)
  have hTW := HT.out.below hBW
  have d0 : w1.cell? ⟨q, 0, none⟩ = some (.pointer (some ⟨E.D.p, 0, none⟩)) := ((HT.out.below hB1).at 0).trans rfl
  have hq1 : q < w1.heap.size := (HT.out.below hB1).lt
  have HTR := hide (strace_any N E.D L win A.S W hTW.sy HI.out.inv.vok)
  have HBW := hide hBW
  have HBW1 := hide hBW1
  clear hK hBW1 hBW hTW hB1 c0 c1 c2 c3 HNW HT
  go_wp2_with fail
  rw [show w1.alloc (.cells #[.int .i64 0, .int .i64 0, .int .i64 0, .int .i64 0, .int .i64 0, .int .i64 0, .int .i64 0, .int .i64 0, .int .i64 0, .int .i64 0, .int .i64 0, .int .i64 0, .int .i64 0, .int .i64 0, .int .i64 0, .int .i64 0, .int .i64 0] 33) = W from hW.out]
  clear hW
  refine HTR.out.mono ?_
  rintro e w2 ⟨⟨v, rfl, hTr⟩, hB2⟩
  obtain ⟨a, cap, rfl⟩ := hTr.shape
  have hs2 := hB2.size
  have hsW : w1.heap.size < W.heap.size := HST.out.lt
  have HI0 : Hid (StInv w1 w2 w1.heap.size st0) := hide ⟨HBW1.out.trans (hB2.mono HBW1.out.size), (hB2.block _ hsW).trans HST.out, Nat.le_refl _⟩
  have HTI := hide hTr
  have HB2 := hide (HBW.out.trans (hB2.mono HBW.out.size))
  obtain ⟨tr, htr⟩ : ∃ tr, Hid (A.S.v.tr = tr) := ⟨_, hide rfl⟩
  rw [htr.out] at hf HTI ⊢
  obtain ⟨n, hnn⟩ : ∃ n, Hid (tr.length = n) := ⟨_, hide rfl⟩
  rw [hnn.out] at hf HTI ⊢
  clear hTr hB2 d0 HTR HBW HBW1 HST
  go_wp2_with fail
  go_loopw [7] (fun i wr => ∃ k : Nat, k ≤ n ∧ i = .int .i64 k ∧ StInv w1 wr w1.heap.size (stAt L tr k) ∧ Mod w2 wr (· = w1.heap.size)) (fun i _ => n - (intOf i).toNat)
  case atStart => exact ⟨0, Nat.zero_le _, rfl, HI0.out, Mod.refl _ _⟩
  case round =>
    clear HI0
    obtain ⟨k, hk, rfl, hV, hMo⟩ := hrel
    by_cases hlt : k < n
    · have hkl : k < tr.length := by rw [hnn.out]; exact hlt
      obtain ⟨gt, cap', hsl, hgt, hgl, _⟩ := HTI.out.has (by rw [hnn.out]; omega)
      have HSL := hide hsl
      have ea : a = some ⟨gt, 0, none⟩ := by simp at hsl; exact hsl.1
      subst ea
      have HTX : Hid (∀ wx, Mod w2 wx (· = w1.heap.size) → wx.cell? ⟨gt, k * 3, none⟩ = some (.int .i64 (cmAt tr k).c) ∧ wx.cell? ⟨gt, k * 3 + 1, none⟩ = some (.int .i64 (cmAt tr k).v) ∧ wx.cell? ⟨gt, k * 3 + 2, none⟩ = some (.int .i64 (cmAt tr k).o)) := hide fun wx hm => by
        have hr := (HTI.out.same (w' := wx) fun g' hg' => by
          have : gt = g' := by simpa [Value.ownBlock] using hg'
          exact hm.block g' (by omega) (by omega)).range hkl
        exact ⟨hr 0 _ rfl, hr 1 _ rfl, hr 2 _ rfl⟩
      have hst := HI.out.inv.tr k (by rw [htr.out]; exact hkl)
      rw [htr.out] at hst
      obtain ⟨c, v, hcv, _⟩ := hst
      obtain ⟨x, hx⟩ : ∃ x, Hid ((cmAt tr k).c = x) := ⟨_, hide rfl⟩
      obtain ⟨y, hy⟩ : ∃ y, Hid ((cmAt tr k).v = y) := ⟨_, hide rfl⟩
      obtain ⟨out, hout⟩ : ∃ out, Hid (outOf L (stAt L tr k) x y = out) := ⟨_, hide rfl⟩
      have HO : Hid ((cmAt tr k).o = (out : Int)) := by
        rw [Hid, ← hout.out, ← hx.out, ← hy.out, hcv]
      rw [hx.out, hy.out, HO.out] at HTX
      obtain ⟨NX, hNX⟩ : ∃ NX, Hid (stAt L tr (k + 1) = NX) := ⟨_, hide rfl⟩
      have HNX : Hid (inSt L (stAt L tr k) x y = NX) := by
        rw [Hid, ← hNX.out, stAt_succ hkl, hx.out, hy.out]
      have HGD := hide (stAt_good HL.out tr k (by omega))
      have HSTP : Hid (∀ wx, Below w1.heap.size w1 wx → Calls Tryz.prog 14 #[.pointer (some ⟨p, 0, none⟩), .agg (stCells (stAt L tr k)), .agg #[.int .i64 x, .int .i64 y]] wx fun e w' =>
          e = .returned (.tuple #[.agg (stCells NX), .int .i64 (out : Int)]) ∧ Hid (Below wx.heap.size wx w')) := hide fun wx hwx => by
        rw [← HNX.out, ← hout.out]
        refine (step_any p L.s L.d L.n L.zs g cg M x y (stAt L tr k) wx (HK.out.below HK.out.plt HK.out.glt HK.out.mlt hwx) (good_ok HL.out.ok (by rw [HL.out.len]; exact HGD.out) (by omega))).mono ?_
        rintro e w' ⟨he, hB⟩
        exact ⟨he, hB⟩
      obtain ⟨S, hS⟩ : ∃ S, Hid (stAt L tr k = S) := ⟨_, hide rfl⟩
      rw [hS.out] at HSTP hV
      have HV := hide hV
      have HMo := hide hMo
      clear hV hMo hx hy hcv hsl hS HNX hout HO HGD
      go_wp2_with fail
      go_cut [8, 9] from 29 to 53 (fun q' o wc => ∃ N', q' = .pointer (some ⟨N', 0, none⟩) ∧ o = .int .i64 (out : Int) ∧ w1.heap.size < N' ∧ StInv w1 wc w1.heap.size S ∧ Mod w2 wc (· = w1.heap.size) ∧ StIs wc N' NX)
      case first =>
        have hss : ∀ wx, StInv w1 wx w1.heap.size S → Mod w2 wx (· = w1.heap.size) → StIs wx w1.heap.size S ∧ wx.cell? ⟨gt, k * 3, none⟩ = some (.int .i64 x) ∧ wx.cell? ⟨gt, k * 3 + 1, none⟩ = some (.int .i64 y) := fun wx h hm => ⟨h.st, (HTX.out wx hm).1, (HTX.out wx hm).2.1⟩
        have hMd : Mod w2 wr.drew (· = w1.heap.size) := HMo.out.below (Below.refl _ _).drew
        refine wp_region_held_drew (S := (fun w' => StIs w' w1.heap.size S ∧ w'.cell? ⟨gt, k * 3, none⟩ = some (.int .i64 x) ∧ w'.cell? ⟨gt, k * 3 + 1, none⟩ = some (.int .i64 y))) (by kernel_rfl) (hss _ HV.out.drew hMd) (fun hHeld => ?_)
        refine wpAnyH_take (i := 0) (oi := _) (v := .pointer (some ⟨p, 0, none⟩)) rfl (by kernel_rfl) (by kernel_rfl) (by kernel_rfl) (fun _ _ _ h => h) (Or.inl ⟨by rfl, fun w _ => by go_simp⟩) hHeld ?_
        refine wpAnyH_take (i := 1) (oi := _) (v := .agg (stCells S)) rfl (by kernel_rfl) (by kernel_rfl) (by kernel_rfl) (fun _ _ _ h => h) (yields_sst (by rfl) _ rfl _ rfl _ (fun w h => h.1)) hHeld ?_
        refine wpAnyH_take (i := 2) (oi := _) (v := .slice (some ⟨gt, 0, none⟩) n cap) rfl (by kernel_rfl) (by kernel_rfl) (by kernel_rfl) (fun _ _ _ h => h) (Or.inl ⟨by rfl, fun w _ => by go_simp⟩) hHeld ?_
        refine wpAnyH_take (i := 3) (oi := _) (v := .int .i64 (k : Int)) rfl (by kernel_rfl) (by kernel_rfl) (by kernel_rfl) (fun _ _ _ h => h) (Or.inl ⟨by rfl, fun w _ => by go_simp⟩) hHeld ?_
        refine wpAnyH_take (i := 4) (oi := _) (v := .pointer (some ⟨gt, k * 3, none⟩)) rfl (by kernel_rfl) (by kernel_rfl) (by kernel_rfl) (fun _ _ _ h => h) (Or.inl ⟨by rfl, fun w _ => by go_simp⟩) hHeld ?_
        refine wpAnyH_take (i := 5) (oi := _) (v := .pointer (some ⟨gt, k * 3, none⟩)) rfl (by kernel_rfl) (by kernel_rfl) (by kernel_rfl) (fun _ _ _ h => h) (Or.inl ⟨by rfl, fun w _ => by go_simp⟩) hHeld ?_
        refine wpAnyH_take (i := 6) (oi := _) (v := .agg #[.int .i64 x, .int .i64 y]) rfl (by kernel_rfl) (by kernel_rfl) (by kernel_rfl) (fun _ _ _ h => h) (Or.inl ⟨by rfl, fun w h => by obtain ⟨_, h1, h2⟩ := h; go_simp⟩) hHeld ?_
        refine wpAnyH_ready (rs := [7, 11]) (by kernel_rfl) (by simp) ?_
        refine AllReadyH.cons (o := _) rfl (fun K hK => ?_) (AllReadyH.cons (o := _) rfl (fun K hK => ?_) AllReadyH.nil)
        · rw [if_pos (by rfl)]
          go_simp
          go_at_call 14
          refine (unhide HSTP _ HV.out.old.drew).mono ?_
          rintro e w5 ⟨rfl, HB5⟩
          dsimp only
          have hV5 := HV.out.drew.below HB5.out
          have hM5 : Mod w2 w5 (· = w1.heap.size) := hMd.below HB5.out
          refine hK.out _ _ (hss _ hV5 hM5) (fun hHeld => ?_)
          clear hK K
          refine wpAnyH_take (i := 8) (oi := _) (v := .tuple #[.agg (stCells NX), .int .i64 (out : Int)]) rfl (by kernel_rfl) (by kernel_rfl) (by kernel_rfl) (fun _ _ _ h => h) (Or.inl ⟨by rfl, fun w _ => by go_simp⟩) hHeld ?_
          refine wpAnyH_take (i := 9) (oi := _) (v := .agg (stCells NX)) rfl (by kernel_rfl) (by kernel_rfl) (by kernel_rfl) (fun _ _ _ h => h) (Or.inl ⟨by rfl, fun w _ => by go_simp⟩) hHeld ?_
          refine wpAnyH_take (i := 10) (oi := _) (v := .int .i64 (out : Int)) rfl (by kernel_rfl) (by kernel_rfl) (by kernel_rfl) (fun _ _ _ h => h) (Or.inl ⟨by rfl, fun w _ => by go_simp⟩) hHeld ?_
          refine wpAnyH_ready (rs := [11]) (by kernel_rfl) (by simp) ?_
          refine AllReadyH.cons (o := _) rfl (fun K hK => ?_) AllReadyH.nil
          rw [if_pos (by rfl)]
          go_simp
          have hBa : Below w5.heap.size w5 (w5.alloc (.cells (stCells st0) 33)) := (Below.refl _ _).alloc (Nat.le_refl _) _
          have hV6 := hV5.below hBa
          have hM6 := hM5.below hBa
          have hz6 : StIs (w5.alloc (.cells (stCells st0) 33)) w5.heap.size st0 := blk_new _ _
          have hN6 : w1.heap.size < w5.heap.size := hV5.st.lt
          refine hK.out _ _ (hss _ hV6 hM6) (fun hHeld => ?_)
          clear hK K
          refine wpAnyH_ready (rs := [12]) (by kernel_rfl) (by simp) ?_
          refine AllReadyH.cons (o := _) rfl (fun K hK => ?_) AllReadyH.nil
          rw [if_pos (by rfl)]
          refine wp_store_row _ _ _ rfl _ (stCells NX) rfl rfl _ _ hz6 (by rw [stateInfo]; rfl) rfl (oneCells NX) ?_
          have hV7 := hV6.row (Nat.le_of_lt hN6) (by omega) (stCells NX)
          have hM7 : Mod w2 ((w5.alloc (.cells (stCells st0) 33)).setRow w5.heap.size (stCells NX)) (· = w1.heap.size) := hM5.below (below_row hBa (Nat.le_refl _) _)
          have hz7 := row_same hz6 NX
          refine hK.out _ _ (hss _ hV7 hM7) (fun hHeld => ?_)
          clear hK K
          refine wpAnyH_take (i := 13) (oi := _) (v := .int .i64 (out : Int)) rfl (by kernel_rfl) (by kernel_rfl) (by kernel_rfl) (fun _ _ _ h => h) (Or.inl ⟨by rfl, fun w _ => by go_simp⟩) hHeld ?_
          refine wpAnyH_done (by kernel_rfl) ?_ _
          go_wp2_with fail
          go_meet
          exact ⟨_, rfl, rfl, hN6, hV7, hM7, hz7⟩
        · rw [if_pos (by rfl)]
          go_simp
          have hN6 : w1.heap.size < wr.heap.size := HV.out.st.lt
          have hBa : Below wr.heap.size wr (wr.alloc (.cells (stCells st0) 33)).drew := ((Below.refl _ _).alloc (Nat.le_refl _) _).drew
          have hV5 := HV.out.below hBa
          have hM5 := HMo.out.below hBa
          have hz5 : StIs (wr.alloc (.cells (stCells st0) 33)).drew wr.heap.size st0 := blk_new _ _
          refine hK.out _ _ (hss _ hV5 hM5) (fun hHeld => ?_)
          clear hK K
          refine wpAnyH_ready (rs := [7]) (by kernel_rfl) (by simp) ?_
          refine AllReadyH.cons (o := _) rfl (fun K hK => ?_) AllReadyH.nil
          rw [if_pos (by rfl)]
          go_simp
          go_at_call 14
          refine (unhide HSTP _ hV5.old).mono ?_
          rintro e w6 ⟨rfl, HB6⟩
          dsimp only
          have hV6 := hV5.below HB6.out
          have hM6 := hM5.below HB6.out
          have hz6 : StIs w6 wr.heap.size st0 := (HB6.out.block _ hz5.lt).trans hz5
          refine hK.out _ _ (hss _ hV6 hM6) (fun hHeld => ?_)
          clear hK K
          refine wpAnyH_take (i := 8) (oi := _) (v := .tuple #[.agg (stCells NX), .int .i64 (out : Int)]) rfl (by kernel_rfl) (by kernel_rfl) (by kernel_rfl) (fun _ _ _ h => h) (Or.inl ⟨by rfl, fun w _ => by go_simp⟩) hHeld ?_
          refine wpAnyH_take (i := 9) (oi := _) (v := .agg (stCells NX)) rfl (by kernel_rfl) (by kernel_rfl) (by kernel_rfl) (fun _ _ _ h => h) (Or.inl ⟨by rfl, fun w _ => by go_simp⟩) hHeld ?_
          refine wpAnyH_take (i := 10) (oi := _) (v := .int .i64 (out : Int)) rfl (by kernel_rfl) (by kernel_rfl) (by kernel_rfl) (fun _ _ _ h => h) (Or.inl ⟨by rfl, fun w _ => by go_simp⟩) hHeld ?_
          refine wpAnyH_ready (rs := [12]) (by kernel_rfl) (by simp) ?_
          refine AllReadyH.cons (o := _) rfl (fun K hK => ?_) AllReadyH.nil
          rw [if_pos (by rfl)]
          refine wp_store_row _ _ _ rfl _ (stCells NX) rfl rfl _ _ hz6 (by rw [stateInfo]; rfl) rfl (oneCells NX) ?_
          have hV7 := hV6.row (Nat.le_of_lt hN6) (by omega) (stCells NX)
          have hM7 : Mod w2 (w6.setRow wr.heap.size (stCells NX)) (· = w1.heap.size) := HMo.out.below (below_row (hBa.trans (HB6.out.mono hBa.size)) (Nat.le_refl _) _)
          have hz7 := row_same hz6 NX
          refine hK.out _ _ (hss _ hV7 hM7) (fun hHeld => ?_)
          clear hK K
          refine wpAnyH_take (i := 13) (oi := _) (v := .int .i64 (out : Int)) rfl (by kernel_rfl) (by kernel_rfl) (by kernel_rfl) (fun _ _ _ h => h) (Or.inl ⟨by rfl, fun w _ => by go_simp⟩) hHeld ?_
          refine wpAnyH_done (by kernel_rfl) ?_ _
          go_wp2_with fail
          go_meet
          exact ⟨_, rfl, rfl, hN6, hV7, hM7, hz7⟩
      case rest =>
        obtain ⟨N', rfl, rfl, hN', hVc, hMc, hNc⟩ := hcut
        have o3 := (HTX.out _ hMc).2.2
        have HNc := hide hNc
        have HVc := hide hVc
        have HMc := hide hMc
        have HS1 := hide hVc.st
        clear hVc hMc hNc HTX HSTP HV HMo
        go_wp2_with (first
          | (refine wpList_load_st rfl _ rfl N' rfl NX HNc.out ?_)
          | (refine wpList_store_st rfl _ _ rfl w1.heap.size NX rfl rfl S HS1.out ?_))
        go_roundw
        case rel => exact ⟨k + 1, by omega, by go_num, by rw [hNX.out]; exact HVc.out.put NX, HMc.out.then (U := (· = w1.heap.size)) ⟨rfl, rfl, rfl, by simp [World.setRow], fun i _ hi => row_other _ _ _ _ hi⟩ (fun _ _ x => x)⟩
        case measure => simp [intOf]; omega
    · have hke : k = n := by omega
      have HBE : Hid (Below w.heap.size w wr) := hide (HB2.out.trans (hMo.toBelow (Nat.le_trans hsz1 (by omega)) fun j hj e => by omega))
      clear hV hMo
      subst hke
      go_wp2
      go_ret
      exact ⟨rfl, HBE.out⟩
end Go.Proofs.YtonkapgbcnkjcaaGreatDoor

/- Two states that hold the same are equal, as Go compares them. -/
namespace Go.Proofs.YtonkapgbcnkjcaaGreatDoor
open Go.RowKit Go.Deep

theorem eqIntQ (w : World) (d : Nat) (a : Int) : (Op.equalIn (d + 1) 3 (.int .i64 a) (.int .i64 a)).run Tryz.prog w = .ok true w := by
  simp [Op.equalIn, run_underlying Tryz.underlying3]
theorem partIntQ (w : World) (xs : Array Value) (k : Nat) (v : Value) (h : xs[k]? = some v) : (part 3 xs k).run Tryz.prog w = .ok v w := by
  simp [part, isAgg, run_underlying Tryz.underlying3, h]
theorem eqItsQ (w : World) (d : Nat) (xs : Array Value) : ∀ is : List Nat, (∀ i ∈ is, ∃ a : Int, xs[i]? = some (.int .i64 a)) → (Op.eqItems (d + 1) 3 1 xs xs is).run Tryz.prog w = .ok true w
  | [], _ => by simp [Op.eqItems]
  | i :: is, h => by
    obtain ⟨a, ha⟩ := h i (by simp)
    have ih := eqItsQ w d xs is fun j hj => h j (by simp [hj])
    simp only [Op.eqItems, Sem.run_bind, Nat.mul_one, partIntQ w xs i _ ha, Result.andThen_ok, eqIntQ]
    simpa using ih
theorem eqIntsQ (w : World) (d : Nat) (xs : Array Value) (h : ∀ i, i < 8 → ∃ a : Int, xs[i]? = some (.int .i64 a)) : (Op.equalIn (d + 1 + 1) 31 (.agg xs) (.agg xs)).run Tryz.prog w = .ok true w := by
  obtain ⟨i0, hi, hz0, hz1, hz2⟩ := info_parts infoInt
  rw [run_equalIn_array w (d + 1) xs xs Tryz.underlying31 hi, show Tryz.prog.cellsOf 3 = 1 by kernel_rfl]
  exact eqItsQ w d xs _ fun i hi => h i (by simpa using hi)
theorem partIntsQ (w : World) (xs : Array Value) (k : Nat) : (part 31 xs k).run Tryz.prog w = .ok (.agg (xs.extract k (k + 8))) w := by
  simp [part, isAgg, run_underlying Tryz.underlying31]
theorem fields3Q : (Tryz.prog.fieldsOf 33).toList.map (fun f => (f.type, f.offset, f.name != "_")) = [(3, 0, true), (31, 1, true), (31, 9, true)] := by kernel_rfl

theorem threeQ {α : Type} {l : List α} (h : l.length = 3) : ∃ a b c, l = [a, b, c] := by
  match l, h with
  | [a, b, c], _ => exact ⟨a, b, c, rfl⟩

theorem eqStateQ (w : World) (G : St) : (Op.equalIn (9997 + 1 + 1 + 1) 33 (.agg (stCells G)) (.agg (stCells G))).run Tryz.prog w = .ok true w := by
  rw [run_equalIn_struct w _ _ _ _ (by kernel_rfl) (by kernel_rfl)]
  have hf := fields3Q
  generalize (Tryz.prog.fieldsOf 33).toList = fs at hf
  obtain ⟨f0, f1, f2, rfl⟩ : ∃ f0 f1 f2, fs = [f0, f1, f2] := threeQ (by simpa using congrArg List.length hf)
  simp only [List.map_cons, List.map_nil, List.cons.injEq, Prod.mk.injEq, and_true] at hf
  obtain ⟨⟨a1, a2, a3⟩, ⟨b1, b2, b3⟩, c1, c2, c3⟩ := hf
  have n0 : f0.name ≠ "_" := by simpa using a3
  have n1 : f1.name ≠ "_" := by simpa using b3
  have n2 : f2.name ≠ "_" := by simpa using c3
  have e1 : ∀ i, i < 8 → ∃ a : Int, ((stCells G).extract 1 (1 + 8))[i]? = some (.int .i64 a) := fun i hi => ⟨(G.used i : Int), by
    match i, hi with
    | 0, _ => rfl | 1, _ => rfl | 2, _ => rfl | 3, _ => rfl | 4, _ => rfl | 5, _ => rfl | 6, _ => rfl | 7, _ => rfl⟩
  have e2 : ∀ i, i < 8 → ∃ a : Int, ((stCells G).extract 9 (9 + 8))[i]? = some (.int .i64 a) := fun i hi => ⟨(G.idle i : Int), by
    match i, hi with
    | 0, _ => rfl | 1, _ => rfl | 2, _ => rfl | 3, _ => rfl | 4, _ => rfl | 5, _ => rfl | 6, _ => rfl | 7, _ => rfl⟩
  simp only [Op.eqFields, n0, n1, n2, ne_eq, not_false_eq_true, if_true, Sem.run_bind, a1, a2, b1, b2, c1, c2]
  rw [partIntQ w (stCells G) 0 (.int .i64 (G.set : Int)) rfl]
  simp only [Result.andThen_ok, partIntQ w (stCells G) 0 (.int .i64 (G.set : Int)) rfl, eqIntQ, Bool.not_true, Bool.false_eq_true, if_false, Sem.run_bind, partIntsQ, eqIntsQ w 9997 _ e1, eqIntsQ w 9997 _ e2]
  rfl

theorem neqStateQ (w : World) (G : St) : (binOp .neq 33 (.agg (stCells G)) (.agg (stCells G))).run Tryz.prog w = .ok (.bool false) w := by
  have h := eqStateQ w G
  simp only [binOp]
  simp [Op.equal, Op.maxDepth, h]

theorem wpList_neq_same {ops : Array Oper} {rest : List Oper} {op : Oper} {a : Act} {w : World} {Q : Exit → Act → World → Prop} (hw : Region.wanted op (yielded ops a.tmps) = true) (x y : Operand) (ho : op.op = .binOp .neq 33 x y 33) (S : St) (hx : a.eval x = .agg (stCells S)) (hy : a.eval y = .agg (stCells S))
    (h : wpList Tryz.prog ops Q rest (a.put op.dst (.bool false)) w) : wpList Tryz.prog ops Q (op :: rest) a w := by
  unfold wpList
  rw [if_pos hw]
  refine .inl ?_
  have h1 := neqStateQ w S
  have hq : (eqGuard BinOp.neq 33 x y (.agg (stCells S)) (.agg (stCells S))).run Tryz.prog w = .ok () w := run_eqGuard_agg w _ _ _ _ _ _ (by kernel_rfl)
  unfold Oper.wp execOp
  simp only [ho, hx, hy, Sem.run_bind, hq, h1, Result.andThen_ok, Sem.run_pure]
  exact h
end Go.Proofs.YtonkapgbcnkjcaaGreatDoor

/- triumvirkeep.SystemRight: the walk. -/
namespace Go.Proofs.YtonkapgbcnkjcaaGreatDoor
open Go.RowKit Go.Deep

theorem out_liar {out liar : Nat} (hl : liar ≤ 3) (h8 : out < 8) (h : ∀ k, k < 3 → k ≠ liar → out.testBit k = false) : bits .andNot .i64 (out : Int) ((2 : Int) ^ liar) = 0 := by
  rw [show ((2 : Int) ^ liar) = ((2 ^ liar : Nat) : Int) by simp]
  have h2 : 2 ^ liar ≤ 2 ^ 3 := Nat.pow_le_pow_right (by decide) hl
  rw [andnot_left out _ (by omega), u64_nat _ (by omega), wo_zero.2 fun k hk => ?_]
  · rfl
  · rw [Nat.testBit_two_pow]
    by_cases e : k < 3
    · by_cases e2 : k = liar
      · simp [e2]
      · rw [h k e e2] at hk; cases hk
    · have : out.testBit k = false := Nat.testBit_lt_two_pow (Nat.lt_of_lt_of_le h8 (Nat.le_trans (by decide) (Nat.pow_le_pow_right (n := 2) (by decide) (show 3 ≤ k by omega))))
      rw [this] at hk; cases hk

set_option maxHeartbeats 2000000 in
set_option maxRecDepth 20000 in
theorem sright_any (x0 x1 x2 x3 : Int) (a : Option Addr) (len cap : Nat) (al : Option Addr) (ll cl : Nat) (w : World) (hm : len ≤ maxLen) (hrt : ∀ i, i < len → ∃ b off z, a = some ⟨b, off, none⟩ ∧ b < w.heap.size ∧ w.cell? ⟨b, off + i, none⟩ = some (.int .i64 z)) (hs : StepAt w al ll) (hml : ll ≤ maxLen) (htab : HasTab w) (h0 : 0 < w.heap.size) :
    Calls Tryz.prog 3 #[.int .i64 x0, .int .i64 x1, .slice a len cap, .int .i64 x2, .int .i64 x3, .slice al ll cl] w fun e w' => e = .returned (.bool true) ∧ Below w.heap.size w w' := by
  have HFT := hide (fits_any al ll cl w hs hml)
  unfold maxLen at hm
  by_cases hl : 30 < len
  · clear hrt hs HFT htab
    go_enter Tryz.func3, Tryz.ntmps3
    go_wp2
    go_ret
    exact ⟨rfl, Below.refl _ _⟩
  · have hl' : ¬ (30 : Int) < (len : Int) := by omega
    have HRT := hide hrt
    have HS := hide hs
    have HTB := hide htab
    clear hrt hs htab
    go_enter Tryz.func3, Tryz.ntmps3
    go_wp2_with fail
    refine HFT.out.mono ?_
    rintro e wz ⟨⟨r, rfl, hr⟩, hwz⟩
    subst wz
    clear HFT
    cases r
    · go_wp2
      go_ret
      exact ⟨rfl, Below.refl _ _⟩
    · obtain ⟨hll, hby⟩ := hr rfl
      have HBY := hide hby
      clear hr hby
      have HRN := hide (ran_any w)
      go_wp2_with (go_at_call 6; refine HRN.out.mono ?_)
      rintro e w1 ⟨rfl, hB1⟩
      have hs1 := hB1.size
      have HTL := hide (tells_any x0 x1 x2 x3 a len cap w1 (by omega) fun i hi => by
        obtain ⟨b, off, z, h1, h2, h3⟩ := HRT.out i hi
        exact ⟨b, off, z, h1, Nat.lt_of_lt_of_le h2 hB1.size, (hB1.cell (p := ⟨b, off + i, none⟩) h2).trans h3⟩)
      have HB1 := hide hB1
      clear HRN hB1 HRT
      obtain ⟨w1', w2'⟩ := pickF_in x2 18 (by decide) (by decide)
      obtain ⟨win, hwin⟩ : ∃ win, Hid (3 + (pickF x2 18).toNat = win) := ⟨_, hide rfl⟩
      obtain ⟨liar, hliar⟩ : ∃ liar, Hid ((pickF x3 4).toNat = liar) := ⟨_, hide rfl⟩
      rw [hwin.out, hliar.out] at HTL
      have hw3 : 1 ≤ win ∧ win ≤ 20 := by rw [← hwin.out]; omega
      have hl3 : liar ≤ 3 := by rw [← hliar.out]; have := pickF_in x3 4 (by decide) (by decide); omega
      clear hwin hliar w1' w2'
      go_wp2_with (go_at_call 7; refine HTL.out.mono ?_)
      rintro e w2 ⟨⟨N, q, E, L, rfl, hq, hL, hT⟩, hB2⟩
      have HP : Hid (PlInv w w2 N q L win liar 0) := hide ⟨HB1.out.trans (hB2.mono HB1.out.size), Nat.le_trans hs1 hq, hL, E, _, hT, ⟨SInv.new hw3.1 hw3.2, fun _ _ => ⟨rfl, rfl⟩⟩, Nat.le_refl _⟩
      clear HTL HB1 hB2 hT hq hL
      go_wp2_with fail
      go_loopw [14] (fun i wr => ∃ k : Nat, k ≤ ll ∧ i = .int .i64 k ∧ PlInv w wr N q L win liar k) (fun i _ => ll - (intOf i).toNat)
      case atStart => exact ⟨0, Nat.zero_le _, rfl, HP.out⟩
      case round =>
        clear HP
        obtain ⟨k, hk, rfl, hP⟩ := hrel
        by_cases hlt : k < ll
        · obtain ⟨b, off, X, rfl, hb, hr1, hr2, hby⟩ := HS.out.load hP.old hlt
          have HC := hide (hP.does (X := X) (by omega) HTB.out h0 hby (HBY.out k b off X hlt rfl hr1))
          have HR := hide hr2
          clear hP hr1 hr2 hby
          go_wp2_with (first
            | (refine wpList_load_mid rfl 38 _ rfl b (off + k * 29) rfl (sdL X) _ HR.out Tryz.underlying38 rfl (by rw [infoStep, sdL_len]) ?_)
            | (go_at_call 8; refine HC.out.mono ?_))
          rintro e w3 ⟨rfl, HG⟩
          go_wp2
          go_roundw
          case rel => exact ⟨k + 1, by omega, by go_num, HG.out⟩
          case measure => simp [intOf]; omega
        · have e2 : k = ll := by omega
          subst e2
          have hold := hP.old
          have hok := hP.ok
          obtain ⟨E', A, hTA, hIA, hsl⟩ := hP.is
          have HX : Hid (∀ wx, Below wr.heap.size wr wx → wx.cell? ⟨q, 0, none⟩ = some (.pointer (some ⟨E'.D.p, 0, none⟩)) ∧ wx.cell? ⟨q, 4, none⟩ = some (.int .i64 (liar : Int))) := hide fun wx hx => ⟨((hTA.below hx).at 0).trans rfl, ((hTA.below hx).at 4).trans rfl⟩
          have HRG : Hid (Calls Tryz.prog 9 #[.pointer (some ⟨q, 0, none⟩)] wr.drew fun e w' => e = .returned (.bool true) ∧ Hid (Below wr.heap.size wr w')) := hide (by
            refine (taright_any N q E' L win liar (18 * k) A wr.drew (hTA.below (Below.refl _ _).drew) hIA hok).mono ?_
            rintro e w' ⟨he, hB⟩
            exact ⟨he, hide ((Below.refl _ _).drew.trans hB)⟩)
          have HOU : Hid (∀ wx, Below wr.heap.size wr wx → Calls Tryz.prog 10 #[.pointer (some ⟨E'.D.p, 0, none⟩)] wx fun e w' => e = .returned (.int .i64 (A.S.v.out : Int)) ∧ w' = wx) := hide fun wx hx => sout_any N E'.D L win A.S wx (hTA.below hx).sy
          have hout := out_liar hl3 hIA.inv.vok.out hIA.inv.out
          obtain ⟨out, hoo⟩ : ∃ out, Hid (A.S.v.out = out) := ⟨_, hide rfl⟩
          rw [hoo.out] at HOU hout
          have HTA := hide hTA
          have HIA := hide hIA
          have HOK := hide hok
          have HO := hide hold
          clear hP hold hTA hIA hsl hok hoo
          go_wp2_with fail
          refine wp_region_held_drew (S := fun w' => w'.cell? ⟨q, 0, none⟩ = some (.pointer (some ⟨E'.D.p, 0, none⟩)) ∧ w'.cell? ⟨q, 4, none⟩ = some (.int .i64 (liar : Int))) (by kernel_rfl) (HX.out _ (Below.refl _ _).drew) (fun hHeld => ?_)
          refine wpAnyH_take (i := 0) (oi := _) (v := .pointer (some ⟨q, 0, none⟩)) rfl (by kernel_rfl) (by kernel_rfl) (by kernel_rfl) (fun _ _ _ h => h) (Or.inl ⟨by rfl, fun w _ => by go_simp⟩) hHeld ?_
          simp only [Act.put, List.getElem_toArray, List.getElem_cons_zero, List.setIfInBounds_toArray, List.set_cons_succ, List.set_cons_zero]
          refine wpAnyH_ready (rs := [1]) (by kernel_rfl) (by simp) ?_
          refine AllReadyH.cons (o := _) rfl (fun K hK => ?_) AllReadyH.nil
          rw [if_pos (by rfl)]
          go_simp
          go_at_call 9
          refine HRG.out.mono ?_
          rintro e w5 ⟨rfl, HB5⟩
          dsimp only
          refine hK.out _ _ (HX.out _ HB5.out) (fun hHeld => ?_)
          clear hK K
          refine wpAnyH_take (i := 2) (oi := _) (v := .bool false) rfl (by kernel_rfl) (by kernel_rfl) (by kernel_rfl) (fun _ _ _ h => h) (Or.inl ⟨by rfl, fun w _ => by go_simp⟩) hHeld ?_
          simp only [Act.put, List.getElem_toArray, List.getElem_cons_succ, List.getElem_cons_zero, List.setIfInBounds_toArray, List.set_cons_succ, List.set_cons_zero]
          refine wpAnyH_take (i := 3) (oi := _) (v := .bool false) rfl (by kernel_rfl) (by kernel_rfl) (by kernel_rfl) (fun _ _ _ h => h) (Or.inl ⟨by rfl, fun w _ => by go_simp⟩) hHeld ?_
          simp only [Act.put, List.getElem_toArray, List.getElem_cons_succ, List.getElem_cons_zero, List.setIfInBounds_toArray, List.set_cons_succ, List.set_cons_zero]
          refine wpAnyH_take (i := 4) (oi := _) (v := .pointer (some ⟨q, 0, none⟩)) rfl (by kernel_rfl) (by kernel_rfl) (by kernel_rfl) (fun _ _ _ h => h) (Or.inl ⟨by rfl, fun w _ => by go_simp⟩) hHeld ?_
          simp only [Act.put, List.getElem_toArray, List.getElem_cons_succ, List.getElem_cons_zero, List.setIfInBounds_toArray, List.set_cons_succ, List.set_cons_zero]
          refine wpAnyH_take (i := 5) (oi := _) (v := .pointer (some ⟨q, 0, none⟩)) rfl (by kernel_rfl) (by kernel_rfl) (by kernel_rfl) (fun _ _ _ h => h) (Or.inl ⟨by rfl, fun w _ => by go_simp⟩) hHeld ?_
          simp only [Act.put, List.getElem_toArray, List.getElem_cons_succ, List.getElem_cons_zero, List.setIfInBounds_toArray, List.set_cons_succ, List.set_cons_zero]
          refine wpAnyH_take (i := 6) (oi := _) (v := .pointer (some ⟨q, 0, none⟩)) rfl (by kernel_rfl) (by kernel_rfl) (by kernel_rfl) (fun _ _ _ h => h) (Or.inl ⟨by rfl, fun w _ => by go_simp⟩) hHeld ?_
          simp only [Act.put, List.getElem_toArray, List.getElem_cons_succ, List.getElem_cons_zero, List.setIfInBounds_toArray, List.set_cons_succ, List.set_cons_zero]
          refine wpAnyH_take (i := 7) (oi := _) (v := .pointer (some ⟨E'.D.p, 0, none⟩)) rfl (by kernel_rfl) (by kernel_rfl) (by kernel_rfl) (fun _ _ _ h => h) (Or.inl ⟨by rfl, fun w h => by obtain ⟨h1, h2⟩ := h; go_simp⟩) hHeld ?_
          simp only [Act.put, List.getElem_toArray, List.getElem_cons_succ, List.getElem_cons_zero, List.setIfInBounds_toArray, List.set_cons_succ, List.set_cons_zero]
          refine wpAnyH_take (i := 9) (oi := _) (v := .pointer (some ⟨q, 0, none⟩)) rfl (by kernel_rfl) (by kernel_rfl) (by kernel_rfl) (fun _ _ _ h => h) (Or.inl ⟨by rfl, fun w _ => by go_simp⟩) hHeld ?_
          simp only [Act.put, List.getElem_toArray, List.getElem_cons_succ, List.getElem_cons_zero, List.setIfInBounds_toArray, List.set_cons_succ, List.set_cons_zero]
          refine wpAnyH_take (i := 10) (oi := _) (v := .pointer (some ⟨q, 0, none⟩)) rfl (by kernel_rfl) (by kernel_rfl) (by kernel_rfl) (fun _ _ _ h => h) (Or.inl ⟨by rfl, fun w _ => by go_simp⟩) hHeld ?_
          simp only [Act.put, List.getElem_toArray, List.getElem_cons_succ, List.getElem_cons_zero, List.setIfInBounds_toArray, List.set_cons_succ, List.set_cons_zero]
          refine wpAnyH_take (i := 11) (oi := _) (v := .pointer (some ⟨q, 4, none⟩)) rfl (by kernel_rfl) (by kernel_rfl) (by kernel_rfl) (fun _ _ _ h => h) (Or.inl ⟨by rfl, fun w _ => by go_simp⟩) hHeld ?_
          simp only [Act.put, List.getElem_toArray, List.getElem_cons_succ, List.getElem_cons_zero, List.setIfInBounds_toArray, List.set_cons_succ, List.set_cons_zero]
          refine wpAnyH_take (i := 12) (oi := _) (v := .int .i64 (liar : Int)) rfl (by kernel_rfl) (by kernel_rfl) (by kernel_rfl) (fun _ _ _ h => h) (Or.inl ⟨by rfl, fun w h => by obtain ⟨h1, h2⟩ := h; go_simp⟩) hHeld ?_
          simp only [Act.put, List.getElem_toArray, List.getElem_cons_succ, List.getElem_cons_zero, List.setIfInBounds_toArray, List.set_cons_succ, List.set_cons_zero]
          refine wpAnyH_take (i := 13) (oi := _) (v := .int .i64 ((2 : Int) ^ liar)) rfl (by kernel_rfl) (by kernel_rfl) (by kernel_rfl) (fun _ _ _ h => h) (Or.inl ⟨by rfl, fun w _ => by rcases (by omega : liar = 0 ∨ liar = 1 ∨ liar = 2 ∨ liar = 3) with e | e | e | e <;> subst e <;> go_simp <;> first | rfl | decide⟩) hHeld ?_
          simp only [Act.put, List.getElem_toArray, List.getElem_cons_succ, List.getElem_cons_zero, List.setIfInBounds_toArray, List.set_cons_succ, List.set_cons_zero]
          refine wpAnyH_ready (rs := [8]) (by kernel_rfl) (by simp) ?_
          refine AllReadyH.cons (o := _) rfl (fun K hK => ?_) AllReadyH.nil
          rw [if_pos (by rfl)]
          go_simp
          go_at_call 10
          refine (unhide HOU _ HB5.out).mono ?_
          rintro e w6 ⟨rfl, hw6⟩
          subst w6
          dsimp only
          refine hK.out _ _ (HX.out _ HB5.out) (fun hHeld => ?_)
          clear hK K
          refine wpAnyH_take (i := 14) (oi := _) (v := .int .i64 0) rfl (by kernel_rfl) (by kernel_rfl) (by kernel_rfl) (fun _ _ _ h => h) (Or.inl ⟨by rfl, fun w _ => by go_simp⟩) hHeld ?_
          simp only [Act.put, List.getElem_toArray, List.getElem_cons_succ, List.getElem_cons_zero, List.setIfInBounds_toArray, List.set_cons_succ, List.set_cons_zero]
          refine wpAnyH_take (i := 15) (oi := _) (v := .bool false) rfl (by kernel_rfl) (by kernel_rfl) (by kernel_rfl) (fun _ _ _ h => h) (Or.inl ⟨by rfl, fun w _ => by go_simp⟩) hHeld ?_
          simp only [Act.put, List.getElem_toArray, List.getElem_cons_succ, List.getElem_cons_zero, List.setIfInBounds_toArray, List.set_cons_succ, List.set_cons_zero]
          refine wpAnyH_take (i := 16) (oi := _) (v := .bool false) rfl (by kernel_rfl) (by kernel_rfl) (by kernel_rfl) (fun _ _ _ h => h) (Or.inl ⟨by rfl, fun w _ => by go_simp⟩) hHeld ?_
          simp only [Act.put, List.getElem_toArray, List.getElem_cons_succ, List.getElem_cons_zero, List.setIfInBounds_toArray, List.set_cons_succ, List.set_cons_zero]
          refine wpAnyH_done (by kernel_rfl) ?_ _
          obtain ⟨g0, g4⟩ := HX.out _ HB5.out
          have HTR := hide (strace_any N E'.D L win A.S w5 (HTA.out.below HB5.out).sy HIA.out.inv.vok)
          go_wp2_with (go_at_call 11; refine HTR.out.mono ?_)
          rintro e w6 ⟨⟨v, rfl, hTr⟩, hB6⟩
          obtain ⟨ta, tc, rfl⟩ := hTr.shape
          have hB56 : Below wr.heap.size wr w6 := HB5.out.trans (hB6.mono HB5.out.size)
          have HT6 := hide (HTA.out.below hB56)
          have HTI := hide hTr
          have HO6 := hide (HO.out.trans (hB56.mono HO.out.size))
          have hs6 := hB6.size
          have hf := HIA.out.inv.vok.few
          obtain ⟨tr, htr⟩ : ∃ tr, Hid (A.S.v.tr = tr) := ⟨_, hide rfl⟩
          rw [htr.out] at hf HTI ⊢
          obtain ⟨n, hnn⟩ : ∃ n, Hid (tr.length = n) := ⟨_, hide rfl⟩
          rw [hnn.out] at hf HTI ⊢
          clear hTr hB6 hB56 HTR HX HRG HOU hout HTA HO HB5 g0 g4
          go_wp2_with fail
          go_loopw [16] (fun j wr => ∃ r : Nat, r ≤ 3 ∧ j = .int .i64 r ∧ Below w6.heap.size w6 wr) (fun j _ => 3 - (intOf j).toNat)
          case atStart => exact ⟨0, by omega, rfl, Below.refl _ _⟩
          case round =>
            obtain ⟨r, hr3, rfl, hBr⟩ := hrel
            by_cases hr : r < 3
            · have hr' : (r : Int) < 3 := by omega
              have hTr6 := HT6.out.below hBr
              obtain ⟨m, hm1, hm2, hm3, _⟩ := (HIA.out.inv.rp r hr).cyc
              rw [htr.out] at hm2 hm3
              have HRP := hide (sreplica_any N E'.D L win A.S wr r hr hTr6.sy)
              rw [hm1, hm3] at HRP
              have hml' : m ≤ n := by rw [← hnn.out]; exact hm2
              have c0 : wr.cell? ⟨q, 0, none⟩ = some (.pointer (some ⟨E'.D.p, 0, none⟩)) := (hTr6.at 0).trans rfl
              obtain ⟨X, hX⟩ : ∃ X, Hid (stAt L tr m = X) := ⟨_, hide rfl⟩
              rw [hX.out] at HRP
              have HBR := hide hBr
              clear hTr6 hm1 hm3 hBr
              go_wp2_with (go_at_call 12; refine HRP.out.mono ?_)
              rintro e w7 ⟨rfl, hB7⟩
              have HS0 : Hid (StIs (w7.alloc (.cells (stCells st0) 33)) w7.heap.size st0) := hide (blk_new _ _)
              have HB7 := hide hB7
              clear HRP c0 hB7
              go_wp2_with (refine wpList_store_s rfl _ _ rfl w7.heap.size st0 X rfl rfl HS0.out ?_)
              intro W HF
              have hBW7 : Below w7.heap.size w7 W := ((Below.refl _ _).alloc (Nat.le_refl _) _).trans (HF.out.2.2 w7.heap.size (Nat.le_refl _))
              have hB67 : Below w6.heap.size w6 w7 := HBR.out.trans (HB7.out.mono HBR.out.size)
              have hBW : Below w6.heap.size w6 W := hB67.trans (hBW7.mono hB67.size)
              have HSX := hide HF.out.1
              have hs7 : w7.heap.size < W.heap.size := HF.out.1.lt
              have hs67 := hB67.size
              have hTW := HT6.out.below hBW
              have c1 : W.cell? ⟨q, 1, none⟩ = some (.int .i64 (L.s : Int)) := (hTW.at 1).trans rfl
              have c2 : W.cell? ⟨q, 2, none⟩ = some (.slice (some ⟨E'.b, E'.off, none⟩) L.n E'.cap) := (hTW.at 2).trans rfl
              have c3 : W.cell? ⟨q, 3, none⟩ = some (.int .i64 (L.d : Int)) := (hTW.at 3).trans rfl
              have c4 : W.cell? ⟨q, 4, none⟩ = some (.int .i64 (liar : Int)) := (hTW.at 4).trans rfl
              have HBW := hide hBW
              have hmn : ¬ (n : Int) < (m : Int) := by omega
              have HNW := hide (new_ok (L.s : Int) (L.d : Int) E'.b E'.off L.n E'.cap L.zs W HOK.out.len HOK.out.ok (Nat.lt_of_lt_of_le hTW.lb.1 hTW.size) hTW.row hTW.cap)
              clear HF HS0 hBW7 hB67 hBW hTW HB7 HBR
              by_cases hrl : r = liar
              · have hrl' : ((r : Int) == (liar : Int)) = true := by simp [hrl]
                clear hrl HNW
                go_wp2
                go_roundw
                case rel => exact ⟨r + 1, by omega, by go_num, HBW.out⟩
                case measure => simp [intOf]; omega
              · have hrl' : ((r : Int) == (liar : Int)) = false := by simp; omega
                clear hrl
                go_wp2_with fail
                refine HNW.out.mono ?_
                rintro e w8 ⟨⟨p, g, cg, M, hp, hg, hM, rfl, hK⟩, hB8⟩
                have HK := hide hK
                have hs8 := hB8.size
                obtain ⟨V, hV⟩ : ∃ V, Hid (w8.alloc (.cells (stCells st0) 33) = V) := ⟨_, hide rfl⟩
                have HI0 : Hid (StInv w8 V w8.heap.size (stAt L tr 0)) := by rw [← hV.out]; exact hide ⟨(Below.refl _ _).alloc (Nat.le_refl _) _, blk_new _ _, Nat.le_refl _⟩
                have HB8 : Hid (Below w6.heap.size w6 w8) := hide (HBW.out.trans (hB8.mono HBW.out.size))
                have HX8 : Hid (StIs w8 w7.heap.size X) := hide ((hB8.block _ hs7).trans HSX.out)
                clear hK hB8 HNW c1 c2 c3 c4 hp hg hM HSX HBW
                go_wp2_with fail
                rw [show w8.alloc (.cells #[.int .i64 0, .int .i64 0, .int .i64 0, .int .i64 0, .int .i64 0, .int .i64 0, .int .i64 0, .int .i64 0, .int .i64 0, .int .i64 0, .int .i64 0, .int .i64 0, .int .i64 0, .int .i64 0, .int .i64 0, .int .i64 0, .int .i64 0] 33) = V from hV.out]
                clear hV
                go_loopw [22] (fun j wr => ∃ i : Nat, i ≤ m ∧ j = .int .i64 i ∧ StInv w8 wr w8.heap.size (stAt L tr i)) (fun j _ => m - (intOf j).toNat)
                case atStart => exact ⟨0, Nat.zero_le _, rfl, HI0.out⟩
                case round =>
                  clear HI0
                  obtain ⟨i, hi, rfl, hSt⟩ := hrel
                  by_cases hlt : i < m
                  · have hil : i < tr.length := by rw [hnn.out]; omega
                    have hin : i < n := by omega
                    obtain ⟨gt, cap', hsl, hgt, hgl, _⟩ := HTI.out.has (by rw [hnn.out]; omega)
                    have ea : ta = some ⟨gt, 0, none⟩ := by simp at hsl; exact hsl.1
                    subst ea
                    have HTX : Hid (∀ wx, Below w8.heap.size w8 wx → wx.cell? ⟨gt, i * 3, none⟩ = some (.int .i64 (cmAt tr i).c) ∧ wx.cell? ⟨gt, i * 3 + 1, none⟩ = some (.int .i64 (cmAt tr i).v)) := hide fun wx hm => by
                      have hB6x : Below w6.heap.size w6 wx := HB8.out.trans (hm.mono HB8.out.size)
                      have hr := (HTI.out.same (w' := wx) fun g' hg' => by
                        have : gt = g' := by simpa [Value.ownBlock] using hg'
                        exact hB6x.block g' (by omega)).range hil
                      exact ⟨hr 0 _ rfl, hr 1 _ rfl⟩
                    obtain ⟨x, hx⟩ : ∃ x, Hid ((cmAt tr i).c = x) := ⟨_, hide rfl⟩
                    obtain ⟨y, hy⟩ : ∃ y, Hid ((cmAt tr i).v = y) := ⟨_, hide rfl⟩
                    rw [hx.out, hy.out] at HTX
                    obtain ⟨NX, hNX⟩ : ∃ NX, Hid (stAt L tr (i + 1) = NX) := ⟨_, hide rfl⟩
                    have HNX : Hid (inSt L (stAt L tr i) x y = NX) := by rw [Hid, ← hNX.out, stAt_succ hil, hx.out, hy.out]
                    obtain ⟨ou, hou⟩ : ∃ ou, Hid (outOf L (stAt L tr i) x y = ou) := ⟨_, hide rfl⟩
                    have HGD := hide (stAt_good HOK.out tr i (by omega))
                    have HSTP : Hid (∀ wx, Below w8.heap.size w8 wx → Calls Tryz.prog 14 #[.pointer (some ⟨p, 0, none⟩), .agg (stCells (stAt L tr i)), .agg #[.int .i64 x, .int .i64 y]] wx fun e w' =>
                        e = .returned (.tuple #[.agg (stCells NX), .int .i64 (ou : Int)]) ∧ Hid (Below wx.heap.size wx w')) := hide fun wx hwx => by
                      rw [← HNX.out, ← hou.out]
                      refine (step_any p L.s L.d L.n L.zs g cg M x y (stAt L tr i) wx (HK.out.below HK.out.plt HK.out.glt HK.out.mlt hwx) (good_ok HOK.out.ok (by rw [HOK.out.len]; exact HGD.out) (by omega))).mono ?_
                      rintro e w' ⟨he, hB⟩
                      exact ⟨he, hB⟩
                    obtain ⟨S, hS⟩ : ∃ S, Hid (stAt L tr i = S) := ⟨_, hide rfl⟩
                    rw [hS.out] at HSTP hSt
                    have HV := hide hSt
                    clear hSt hx hy hsl hS HNX hou HGD
                    go_wp2_with fail
                    have hss : ∀ wx, Below w8.heap.size w8 wx → (∃ Y, StIs wx w8.heap.size Y) → (∃ Y, StIs wx w8.heap.size Y) ∧ wx.cell? ⟨gt, i * 3, none⟩ = some (.int .i64 x) ∧ wx.cell? ⟨gt, i * 3 + 1, none⟩ = some (.int .i64 y) := fun wx h hy => ⟨hy, HTX.out wx h⟩
                    refine wp_region_held_drew (S := fun w' => (∃ Y, StIs w' w8.heap.size Y) ∧ w'.cell? ⟨gt, i * 3, none⟩ = some (.int .i64 x) ∧ w'.cell? ⟨gt, i * 3 + 1, none⟩ = some (.int .i64 y)) (by kernel_rfl) (hss _ HV.out.old.drew ⟨S, HV.out.st⟩) (fun hHeld => ?_)
                    refine wpAnyH_take (i := 0) (oi := _) (v := .pointer (some ⟨p, 0, none⟩)) rfl (by kernel_rfl) (by kernel_rfl) (by kernel_rfl) (fun _ _ _ h => h) (Or.inl ⟨by rfl, fun w _ => by go_simp⟩) hHeld ?_
                    simp only [Act.put, List.getElem_toArray, List.getElem_cons_zero, List.setIfInBounds_toArray, List.set_cons_succ, List.set_cons_zero]
                    refine wpAnyH_take (i := 2) (oi := _) (v := .slice (some ⟨gt, 0, none⟩) n tc) rfl (by kernel_rfl) (by kernel_rfl) (by kernel_rfl) (fun _ _ _ h => h) (Or.inl ⟨by rfl, fun w _ => by go_simp⟩) hHeld ?_
                    simp only [Act.put, List.getElem_toArray, List.getElem_cons_succ, List.getElem_cons_zero, List.setIfInBounds_toArray, List.set_cons_succ, List.set_cons_zero]
                    refine wpAnyH_take (i := 3) (oi := _) (v := .int .i64 (i : Int)) rfl (by kernel_rfl) (by kernel_rfl) (by kernel_rfl) (fun _ _ _ h => h) (Or.inl ⟨by rfl, fun w _ => by go_simp⟩) hHeld ?_
                    simp only [Act.put, List.getElem_toArray, List.getElem_cons_succ, List.getElem_cons_zero, List.setIfInBounds_toArray, List.set_cons_succ, List.set_cons_zero]
                    refine wpAnyH_take (i := 4) (oi := _) (v := .pointer (some ⟨gt, i * 3, none⟩)) rfl (by kernel_rfl) (by kernel_rfl) (by kernel_rfl) (fun _ _ _ h => h) (Or.inl ⟨by rfl, fun w _ => by go_simp⟩) hHeld ?_
                    simp only [Act.put, List.getElem_toArray, List.getElem_cons_succ, List.getElem_cons_zero, List.setIfInBounds_toArray, List.set_cons_succ, List.set_cons_zero]
                    refine wpAnyH_take (i := 5) (oi := _) (v := .pointer (some ⟨gt, i * 3, none⟩)) rfl (by kernel_rfl) (by kernel_rfl) (by kernel_rfl) (fun _ _ _ h => h) (Or.inl ⟨by rfl, fun w _ => by go_simp⟩) hHeld ?_
                    simp only [Act.put, List.getElem_toArray, List.getElem_cons_succ, List.getElem_cons_zero, List.setIfInBounds_toArray, List.set_cons_succ, List.set_cons_zero]
                    refine wpAnyH_take (i := 6) (oi := _) (v := .agg #[.int .i64 x, .int .i64 y]) rfl (by kernel_rfl) (by kernel_rfl) (by kernel_rfl) (fun _ _ _ h => h) (Or.inl ⟨by rfl, fun w h => by obtain ⟨_, h1, h2⟩ := h; go_simp⟩) hHeld ?_
                    simp only [Act.put, List.getElem_toArray, List.getElem_cons_succ, List.getElem_cons_zero, List.setIfInBounds_toArray, List.set_cons_succ, List.set_cons_zero]
                    refine wpAnyH_ready (rs := [1]) (by kernel_rfl) (by simp) ?_
                    refine AllReadyH.cons (o := _) rfl (fun K hK => ?_) AllReadyH.nil
                    rw [if_pos (by rfl)]
                    refine wp_load_row _ _ rfl w8.heap.size rfl _ _ _ _ (show StIs wr.drew w8.heap.size S from HV.out.st) Tryz.underlying33 rfl (by rw [stateInfo]; rfl) ?_
                    refine hK.out _ _ (hss _ HV.out.old.drew ⟨S, HV.out.st⟩) (fun hHeld => ?_)
                    clear hK K
                    simp only [Act.put, List.getElem_toArray, List.getElem_cons_succ, List.getElem_cons_zero, List.setIfInBounds_toArray, List.set_cons_succ, List.set_cons_zero]
                    refine wpAnyH_ready (rs := [7]) (by kernel_rfl) (by simp) ?_
                    refine AllReadyH.cons (o := _) rfl (fun K hK => ?_) AllReadyH.nil
                    rw [if_pos (by rfl)]
                    go_simp
                    go_at_call 14
                    refine (unhide HSTP _ HV.out.old.drew).mono ?_
                    rintro e w9 ⟨rfl, HB9⟩
                    dsimp only
                    have hV9 := HV.out.drew.below HB9.out
                    refine hK.out _ _ (hss _ hV9.old ⟨S, hV9.st⟩) (fun hHeld => ?_)
                    clear hK K
                    refine wpAnyH_take (i := 8) (oi := _) (v := .tuple #[.agg (stCells NX), .int .i64 (ou : Int)]) rfl (by kernel_rfl) (by kernel_rfl) (by kernel_rfl) (fun _ _ _ h => h) (Or.inl ⟨by rfl, fun w _ => by go_simp⟩) hHeld ?_
                    simp only [Act.put, List.getElem_toArray, List.getElem_cons_succ, List.getElem_cons_zero, List.setIfInBounds_toArray, List.set_cons_succ, List.set_cons_zero]
                    refine wpAnyH_take (i := 9) (oi := _) (v := .agg (stCells NX)) rfl (by kernel_rfl) (by kernel_rfl) (by kernel_rfl) (fun _ _ _ h => h) (Or.inl ⟨by rfl, fun w _ => by go_simp⟩) hHeld ?_
                    simp only [Act.put, List.getElem_toArray, List.getElem_cons_succ, List.getElem_cons_zero, List.setIfInBounds_toArray, List.set_cons_succ, List.set_cons_zero]
                    refine wpAnyH_take (i := 10) (oi := _) (v := .int .i64 (ou : Int)) rfl (by kernel_rfl) (by kernel_rfl) (by kernel_rfl) (fun _ _ _ h => h) (Or.inl ⟨by rfl, fun w _ => by go_simp⟩) hHeld ?_
                    simp only [Act.put, List.getElem_toArray, List.getElem_cons_succ, List.getElem_cons_zero, List.setIfInBounds_toArray, List.set_cons_succ, List.set_cons_zero]
                    refine wpAnyH_ready (rs := [11]) (by kernel_rfl) (by simp) ?_
                    refine AllReadyH.cons (o := _) rfl (fun K hK => ?_) AllReadyH.nil
                    rw [if_pos (by rfl)]
                    refine wp_store_row _ _ _ rfl _ (stCells NX) rfl rfl _ _ hV9.st (by rw [stateInfo]; rfl) rfl (oneCells NX) ?_
                    have hV10 := hV9.put NX
                    refine hK.out _ _ (hss _ hV10.old ⟨NX, hV10.st⟩) (fun hHeld => ?_)
                    clear hK K
                    refine wpAnyH_done (by kernel_rfl) ?_ _
                    go_wp2
                    go_roundw
                    case rel => exact ⟨i + 1, by omega, by go_num, by rw [hNX.out]; exact hV10⟩
                    case measure => simp [intOf]; omega
                  · have hie : i = m := by omega
                    subst hie
                    rw [hX.out] at hSt
                    have HP1 := hide hSt.st
                    have HP2 : Hid (StIs wr w7.heap.size X) := hide ((hSt.old.block _ (by omega)).trans HX8.out)
                    have HEB := hide (HB8.out.trans (hSt.old.mono HB8.out.size))
                    clear hSt
                    go_wp2_with (first
                      | (refine wpList_load_st rfl _ rfl w8.heap.size rfl X HP1.out ?_)
                      | (refine wpList_load_st rfl _ rfl w7.heap.size rfl X HP2.out ?_)
                      | (refine wpList_neq_same rfl _ _ rfl X rfl rfl ?_))
                    go_roundw
                    case rel => exact ⟨r + 1, by omega, by go_num, HEB.out⟩
                    case measure => simp [intOf]; omega
            · have e3 : r = 3 := by omega
              have HE := hide (HO6.out.trans (hBr.mono HO6.out.size))
              clear hBr
              subst e3
              go_wp2
              go_ret
              exact ⟨rfl, HE.out⟩
end Go.Proofs.YtonkapgbcnkjcaaGreatDoor

namespace Go.Proofs.YtonkapgbcnkjcaaGreatDoor
open Go.ChangeShapes Go.WideShapes Go.ChangeAt Go.RowKit Go.Joins

theorem own : ownKnob Tryz.prog.godebug = none := by kernel_rfl
theorem laidOut : laidOutB Tryz.prog = true := by kernel_rfl
theorem tabG : Tryz.prog.globalNamed "math/bits.deBruijn32tab" = some 0 := by kernel_rfl
theorem tabT : (Tryz.prog.globals[0]?).map (·.type) = some 162 := by kernel_rfl
theorem tabN : Tryz.prog.cellsOf 162 = 32 := by kernel_rfl
theorem byteN : Tryz.prog.cellsOf 5 = 1 := by kernel_rfl
/-- The listed variable's cells. -/
theorem hasTab_of_laid {W : World} (h : laidMetH Tryz.prog Rows.systemRightRow.laid W) : HasTab W := by
  rw [Go.MakeChecks.laidMetH_plain _ _ _ (by kernel_rfl)] at h
  obtain ⟨ps, hv, _⟩ := h
  obtain ⟨g, t, cs, fuel, p, q, h1, h2, h3, h4, _, _⟩ := hv
  obtain rfl := Option.some.inj (tabG.symm.trans h1)
  obtain rfl := Option.some.inj (tabT.symm.trans h2)
  have hcs := Go.Lib.cells_of_tab (zs := tabL.map fun (z : Nat) => (z : Int)) (k := .u8) Tryz.underlying162 Tryz.underlying5 byteN tabN h4
  intro k hk
  have := World.var?_cell tabG h3 k
  rw [this, ← Array.getElem?_toList, hcs]
  rw [List.getElem?_map, List.getElem?_map, List.getElem?_eq_getElem (show k < tabL.length from hk)]
  rfl
/-- A world that meets the condition: the settled one, the variable's cells laid. -/
theorem laidWorld_met (os : Os) (args : Array Value) : laidMetH Tryz.prog Rows.systemRightRow.laid ((({ World.holding Tryz.prog os ⟨#[], #[], []⟩ with heap := (World.holding Tryz.prog os ⟨#[], #[], []⟩).heap.modify 0 fun | .cells _ t frozen => .cells (tabL.map fun (z : Nat) => Value.int .u8 (z : Int)).toArray t frozen | o => o } : World)).forCall (fun _ _ => 0) ⟨#[], args, []⟩).memory := by
  rw [Go.MakeChecks.laidMetH_plain _ _ _ (by kernel_rfl)]
  exact laidMet_of_run' 8 (by kernel_rfl) (by kernel_rfl)

set_option maxRecDepth 100000 in
theorem systemRight_lifted (os : Os) (started : os.Started) (H : Type) (enc : TypeId × Value → H) :
    ReturnsInHanded {} Tryz.checked os 3 .any (fun w args => (Rows.systemRightSpec.pre enc Tryz.prog Tryz.f3 [] false w args ∧ laidMetH Tryz.prog Rows.systemRightRow.laid w) ∧ sizedMet enc Tryz.prog Tryz.f3 (OpenSpec.ofChange Rows.systemRightSpec) false w args)
      (Rows.systemRightSpec.post enc Tryz.prog Tryz.f3 false true false false) := by
  refine returnsInHanded_of_change_and (C := Tryz.checked) (X := fun w _ => laidMetH Tryz.prog Rows.systemRightRow.laid w) (fun _ _ _ hh h => h.of_heap hh) own started (by kernel_rfl) Tryz.func3
    (ChangeSpec.witness_at (enc := enc) (C := Tryz.checked) (os := os) (X := fun w _ => laidMetH Tryz.prog Rows.systemRightRow.laid w) false ({ World.holding Tryz.prog os ⟨#[], #[], []⟩ with heap := (World.holding Tryz.prog os ⟨#[], #[], []⟩).heap.modify 0 fun | .cells _ t frozen => .cells (tabL.map fun (z : Nat) => Value.int .u8 (z : Int)).toArray t frozen | o => o } : World) #[.int .i64 0, .int .i64 0, .slice none 0 0, .int .i64 0, .int .i64 0, .slice none 0 0] 8 rfl (by kernel_rfl) (by kernel_rfl) (by kernel_rfl) (by kernel_rfl) (by kernel_rfl) (laidWorld_met os _)) ?_
  intro W base args ds gs before hval0 hW _ _ hL _
  have hval : ∀ (j : Nat) t v, Tryz.f3.params[j]? = some t → args[j]? = some v → Value.okWide Tryz.prog W .any base t v := hval0
  have hW' := hW
  obtain ⟨p, q, hA0, hV, rfl, hfz, hnd⟩ := hW
  have hA : DataW.TrodAll enc Tryz.prog W 0 (fun _ => true) true Tryz.f3.params.toList args.toList ds p := hA0
  rw [Tryz.params3] at hA hval
  obtain ⟨v0, vs0, d0, ds0, p0, q0, hargs, rfl, rfl, h0, r0⟩ := trodAll_cons hA
  obtain ⟨v1, vs1, d1, ds1, p1, q1, rfl, rfl, rfl, h1, r1⟩ := trodAll_cons r0
  obtain ⟨v2, vs2, d2, ds2, p2, q2, rfl, rfl, rfl, h2, r2⟩ := trodAll_cons r1
  obtain ⟨v3, vs3, d3, ds3, p3, q3, rfl, rfl, rfl, h3, r3⟩ := trodAll_cons r2
  obtain ⟨v4, vs4, d4, ds4, p4, q4, rfl, rfl, rfl, h4, r4⟩ := trodAll_cons r3
  obtain ⟨v5, vs5, d5, ds5, p5, q5, rfl, rfl, rfl, h5, r5⟩ := trodAll_cons r4
  obtain ⟨rfl, rfl, rfl⟩ := trodAll_nil r5
  obtain rfl : args = #[v0, v1, v2, v3, v4, v5] := by cases args; simp_all
  obtain ⟨rfl, rfl⟩ := trodVars_none hV
  have k0 := h0
  have lt0 : ∀ x ∈ p0, x.block < W.heap.size := by obtain ⟨m, hm⟩ := k0; exact DataW.trod_lt m _ _ _ hm
  have k1 := h1
  have lt1 : ∀ x ∈ p1, x.block < W.heap.size := by obtain ⟨m, hm⟩ := k1; exact DataW.trod_lt m _ _ _ hm
  have k2 := h2
  have lt2 : ∀ x ∈ p2, x.block < W.heap.size := by obtain ⟨m, hm⟩ := k2; exact DataW.trod_lt m _ _ _ hm
  have k3 := h3
  have lt3 : ∀ x ∈ p3, x.block < W.heap.size := by obtain ⟨m, hm⟩ := k3; exact DataW.trod_lt m _ _ _ hm
  have k4 := h4
  have lt4 : ∀ x ∈ p4, x.block < W.heap.size := by obtain ⟨m, hm⟩ := k4; exact DataW.trod_lt m _ _ _ hm
  have k5 := h5
  have lt5 : ∀ x ∈ p5, x.block < W.heap.size := by obtain ⟨m, hm⟩ := k5; exact DataW.trod_lt m _ _ _ hm
  obtain ⟨x0, rfl⟩ := okWide_int Tryz.underlying3 (hval 0 3 v0 rfl rfl)
  obtain ⟨x1, rfl⟩ := okWide_int Tryz.underlying3 (hval 1 3 v1 rfl rfl)
  obtain ⟨a2, len2, cap2, rfl⟩ := okWide_slice Tryz.underlying22 (hval 2 22 v2 rfl rfl)
  have o2 : len2 ≤ maxLen ∧ ∀ i, i < len2 → ∃ b off z, a2 = some ⟨b, off, none⟩ ∧ b < W.heap.size ∧ W.cell? ⟨b, off + i, none⟩ = some (.int .i64 z) := by
    obtain ⟨fuel, hf⟩ := h2
    rcases open_ints Tryz.underlying22 Tryz.underlying3 (by kernel_rfl) hf with ⟨hcs, _⟩ | ⟨x, l, c, zs, hcs, _, hl, hm, hz, _, hcell, hwz⟩
    · simp [Value.cells] at hcs
      obtain ⟨rfl, rfl, rfl⟩ := hcs
      exact ⟨by unfold maxLen; omega, fun i hi => by omega⟩
    · simp [Value.cells] at hcs
      obtain ⟨rfl, rfl, rfl⟩ := hcs
      refine ⟨by omega, fun i hi => ?_⟩
      have hzl : i < zs.length := by rw [hz]; split <;> omega
      obtain ⟨b, off, rfl, hc⟩ := ints_at hcell (by omega)
      exact ⟨b, off, _, rfl, World.block_lt_of_cell? _ _ (hc 0 (by omega)), hc i hzl⟩
  obtain ⟨x3, rfl⟩ := okWide_int Tryz.underlying3 (hval 3 3 v3 rfl rfl)
  obtain ⟨x4, rfl⟩ := okWide_int Tryz.underlying3 (hval 4 3 v4 rfl rfl)
  obtain ⟨a5, len5, cap5, rfl⟩ := okWide_slice Tryz.underlying23 (hval 5 23 v5 rfl rfl)
  have o5 : len5 ≤ maxLen ∧ StepAt W a5 len5 := by obtain ⟨fuel, hf⟩ := h5; exact open_steps hf
  have hg := hasTab_of_laid hL
  have hpos : 0 < W.heap.size := World.block_lt_of_cell? _ _ (hg 0 (by decide))
  clear hA0 hval0
  refine (sright_any x0 x1 x3 x4 a2 len2 cap2 a5 len5 cap5 W o2.1 o2.2 o5.2 o5.1 hg hpos).mono fun e W' ⟨he, bel⟩ => ?_
  subst he
  exact ⟨_, rfl, _, _, _, [], _, [], hW', trodAll_mk1 (shut_bool Tryz.underlying4 _), (trodAll_cons_mk (Below.trod laidOut (by kernel_rfl) (of_decide_eq_true (by kernel_rfl)) k0 bel lt0) (trodAll_cons_mk (Below.trod laidOut (by kernel_rfl) (of_decide_eq_true (by kernel_rfl)) k1 bel lt1) (trodAll_cons_mk (Below.trod laidOut (by kernel_rfl) (of_decide_eq_true (by kernel_rfl)) k2 bel lt2) (trodAll_cons_mk (Below.trod laidOut (by kernel_rfl) (of_decide_eq_true (by kernel_rfl)) k3 bel lt3) (trodAll_cons_mk (Below.trod laidOut (by kernel_rfl) (of_decide_eq_true (by kernel_rfl)) k4 bel lt4) (trodAll_cons_mk (Below.trod laidOut (by kernel_rfl) (of_decide_eq_true (by kernel_rfl)) k5 bel lt5) trodAll_mk0)))))), rfl, bel.frame _, fun h => by cases h⟩

theorem systemRight_said : Rows.SystemRightSaid :=
  OpenClaim.holds_of_wide 3 Tryz.f3 rfl rfl rfl rfl rfl rfl rfl ⟨rfl, rfl, rfl, rfl, rfl⟩ rfl rfl rfl rfl rfl (by kernel_rfl) Tryz.func3 (by kernel_rfl)
    (of_decide_eq_true (by kernel_rfl)) (by unfold Func.isWrapper; rw [if_neg (of_decide_eq_false (by kernel_rfl))]; exact ⟨rfl, rfl⟩)
    (fun os started H enc _ => systemRight_lifted os started H enc)

theorem systemRight_plain (f : FuncId) (fn : Func) (hf : Tryz.pinned.checked.prog.funcNamed "triumvir/triumvirkeep.SystemRight" = some f) (hfn : Tryz.pinned.checked.prog.funcs[f]? = some fn) :
    false = Tryz.pinned.checked.prog.looks [] ∧ ∀ (j : Nat) t, fn.params[j]? = some t → Tryz.pinned.checked.prog.wantsStandIn t = false := by
  obtain rfl : f = 3 := Option.some.inj ((show Tryz.prog.funcNamed "triumvir/triumvirkeep.SystemRight" = some 3 by kernel_rfl).symm.trans hf) |>.symm
  obtain rfl : fn = Tryz.f3 := (Option.some.inj (Tryz.func3.symm.trans hfn)).symm
  refine ⟨by kernel_rfl, fun j t ht => ?_⟩
  rw [Tryz.params3] at ht
  rcases j with _ | _ | _ | _ | _ | _ | j
  · obtain rfl : 3 = t := by simpa using ht
    exact (show Tryz.prog.wantsStandIn 3 = false by kernel_rfl)
  · obtain rfl : 3 = t := by simpa using ht
    exact (show Tryz.prog.wantsStandIn 3 = false by kernel_rfl)
  · obtain rfl : 22 = t := by simpa using ht
    exact (show Tryz.prog.wantsStandIn 22 = false by kernel_rfl)
  · obtain rfl : 3 = t := by simpa using ht
    exact (show Tryz.prog.wantsStandIn 3 = false by kernel_rfl)
  · obtain rfl : 3 = t := by simpa using ht
    exact (show Tryz.prog.wantsStandIn 3 = false by kernel_rfl)
  · obtain rfl : 23 = t := by simpa using ht
    exact (show Tryz.prog.wantsStandIn 23 = false by kernel_rfl)
  · simp at ht

/-- The statement. -/
theorem systemRight_holds : Rows.SystemRightCardSaid :=
  Claim7.holds_tied_plain_at .later [] _ _ _ _ systemRight_said (fun _ h => by cases h) (by kernel_rfl) (fun _ h => by cases h) systemRight_row_tie rfl ⟨rfl, rfl⟩ (by kernel_rfl) rfl systemRight_plain (by kernel_rfl)
#print axioms systemRight_holds
end Go.Proofs.YtonkapgbcnkjcaaGreatDoor
