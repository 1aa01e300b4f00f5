import Derived.Test.YtaablbmgagiajabGreatDoorKGAV
import Derived.Orders
import Derived.Laws.LoneSync
namespace Go.Proofs.YtaablbmgagiajabGreatDoor.Ren
open Go Go.Conc
open Go.ConcR (KK WgAt stA smA rd wr mk)
theorem quits_wk {d : Nat} : ∀ {n : Nat} {g : Goroutine}, Wk Tryz.prog false (fun _ => True) (fun _ => False) (fun g => ∃ q, QuitsD Tryz.prog q d g) n g → ∃ q, QuitsD Tryz.prog q d g
  | 0, _, h => h
  | _ + 1, _, h => by
    rcases h with h | ⟨hs, g', es, h1, h2, h3⟩
    · exact h
    · obtain ⟨q, hq⟩ := quits_wk h3
      have he : es = #[] := by
        apply Array.eq_empty_of_size_eq_zero
        rcases Nat.eq_zero_or_pos es.size with e | e
        · exact e
        · exact (h2 _ (Array.getElem_mem e)).elim
      subst he
      exact ⟨q + 1, QuitsD.ctl hs (fun w => h1 w trivial) hq⟩
section
variable {Wg : Nat} {z : Frame} {zs : List Frame} {qt : Nat}
theorem quits_m0 (hT : QuitsD Tryz.prog qt 0 (back z zs)) (v wt : Nat) (hv : v ≤ 16) (hwt : wt ≤ 1) (hn : ¬ (v = 0 ∧ wt = 1)) : ∃ q, QuitsD Tryz.prog q 1 (m0 Tryz.prog Wg (z :: zs) (v * KK + wt)) := by
  have hlt : decide ((v : Int) < 0) = false := by simp
  have r0 := run_m4 (Wg := Wg) (z :: zs) (v * KK + wt) (v : Int)
  have r6 := run_m6 Wg z zs (v * KK + wt) (v : Int)
  refine quits_wk (wk_m3 (K := fun _ => True) (Ok := fun _ => False) (k := 1 + 25 + 1 + 23) v wt hv hwt (z :: zs) ?_)
  obtain rfl | rfl : wt = 0 ∨ wt = 1 := by omega
  · have h5 : ∀ b : Bool, decide ((v : Int) > 0) = b → (∃ q, QuitsD Tryz.prog q 1 (fin (m50 Tryz.prog Wg (z :: zs) (v * KK + (0 : Nat)) v) (.bool b))) → Wk Tryz.prog false (fun _ => True) (fun _ => False) (fun g => ∃ q, QuitsD Tryz.prog q 1 g) (1 + 25 + 1 + 23) (fin (m3 Tryz.prog Wg (z :: zs) (v * KK + (0 : Nat)) v) (.int .u64 (0 : Nat))) := fun b hb hq => by
      have a5 : Wk Tryz.prog false (fun _ => True) (fun _ => False) (fun g => ∃ q, QuitsD Tryz.prog q 1 g) 1 (m50 Tryz.prog Wg (z :: zs) (v * KK + (0 : Nat)) v) := wk_sym r0.2.2.1 (v := .bool b) (fun w => by
        have := sym_m50 Wg (z :: zs) (v * KK + (0 : Nat)) v w
        rw [hb] at this
        exact this) (Wk.stop hq)
      have a4 := Wk.sil 25 _ (sil_m50 Wg (z :: zs) (v * KK + (0 : Nat)) v) a5
      have a3 : Wk Tryz.prog false (fun _ => True) (fun _ => False) (fun g => ∃ q, QuitsD Tryz.prog q 1 g) (1 + 25 + 1) (m40 Tryz.prog Wg (z :: zs) (v * KK + (0 : Nat)) v) := wk_sym r0.1 (v := .bool false) (fun w => by
        have := sym_m40 Wg (z :: zs) (v * KK + (0 : Nat)) v w
        rw [hlt] at this
        exact this) a4
      exact Wk.sil 23 _ (sil_m40 Wg (z :: zs) (v * KK + (0 : Nat)) v) a3
    cases hb : decide ((v : Int) > 0) with
    | true => exact h5 true hb ⟨_, QuitsD.sil 7 _ (sil_m60t Wg (z :: zs) _ _) (quits_out r6.1 (ena_m60t Wg (z :: zs) _ _) (out_m60t Wg z zs _ _) hT)⟩
    | false => exact h5 false hb ⟨_, QuitsD.sil 7 _ (sil_m60f Wg (z :: zs) _ _) (quits_out r6.2.1 (ena_m60f Wg (z :: zs) _ _) (out_m60f Wg z zs _ _) hT)⟩
  · have hb : decide ((v : Int) > 0) = true := by simp; omega
    have a5 : Wk Tryz.prog false (fun _ => True) (fun _ => False) (fun g => ∃ q, QuitsD Tryz.prog q 1 g) 1 (m51 Tryz.prog Wg (z :: zs) (v * KK + (1 : Nat)) v) := wk_sym r0.2.2.2 (v := .bool true) (fun w => by
      have := sym_m51 Wg (z :: zs) (v * KK + (1 : Nat)) v w
      rw [hb] at this
      exact this) (Wk.stop ⟨_, QuitsD.sil 7 _ (sil_m61t Wg (z :: zs) _ _) (quits_out r6.2.2.1 (ena_m61t Wg (z :: zs) _ _) (out_m61t Wg z zs _ _) hT)⟩)
    have a4 := Wk.sil 25 _ (sil_m51 Wg (z :: zs) (v * KK + (1 : Nat)) v) a5
    have a3 : Wk Tryz.prog false (fun _ => True) (fun _ => False) (fun g => ∃ q, QuitsD Tryz.prog q 1 g) (1 + 25 + 1) (m41 Tryz.prog Wg (z :: zs) (v * KK + (1 : Nat)) v) := wk_sym r0.2.1 (v := .bool false) (fun w => by
      have := sym_m41 Wg (z :: zs) (v * KK + (1 : Nat)) v w
      rw [hlt] at this
      exact this) a4
    exact Wk.sil 23 _ (sil_m41 Wg (z :: zs) (v * KK + (1 : Nat)) v) a3
theorem last_m0 {K : World → Prop} {Ok : Event → Prop} {Stop : Goroutine → Prop} (hs : Stop (p0 Tryz.prog Wg (z :: zs))) : ∃ n, Wk Tryz.prog false K Ok Stop n (m0 Tryz.prog Wg (z :: zs) 1) := by
  have r0 := run_m4 (Wg := Wg) (z :: zs) 1 0
  have a6 : Wk Tryz.prog false K Ok Stop (0 + 23) (fin (m51 Tryz.prog Wg (z :: zs) 1 0) (.bool false)) := Wk.sil 23 _ (sil_p0 Wg (z :: zs)) (Wk.stop (n := 0) hs)
  have a5 : Wk Tryz.prog false K Ok Stop (0 + 23 + 1) (m51 Tryz.prog Wg (z :: zs) 1 0) := wk_sym r0.2.2.2 (v := .bool false) (fun w => sym_m51 Wg (z :: zs) 1 0 w) a6
  have a4 := Wk.sil 25 _ (sil_m51 Wg (z :: zs) 1 0) a5
  have a3 : Wk Tryz.prog false K Ok Stop (0 + 23 + 1 + 25 + 1) (m41 Tryz.prog Wg (z :: zs) 1 0) := wk_sym r0.2.1 (v := .bool false) (fun w => sym_m41 Wg (z :: zs) 1 0 w) a4
  have a2 := Wk.sil 23 _ (sil_m41 Wg (z :: zs) 1 0) a3
  have a1 := wk_m3 (K := K) (Ok := Ok) (Stop := Stop) (Wg := Wg) 0 1 (by omega) (by omega) (z :: zs) (k := 0 + 23 + 1 + 25 + 1 + 23) (by
    have e : ((0 : Nat) : Int) * KK + ((1 : Nat) : Int) = 1 := by simp
    rw [e]
    exact a2)
  have e : ((0 : Nat) : Int) * KK + ((1 : Nat) : Int) = 1 := by simp
  rw [e] at a1
  exact ⟨_, a1⟩
end
theorem at_done {S : Sc} (hP : S.E.P = Tryz.prog) (hn : S.n ≤ 16) {z : Frame} {zs : List Frame} {qt : Nat} (hT : QuitsD Tryz.prog qt 0 (back z zs)) : AtR0 S (n2 Tryz.prog S.Wg (z :: zs)) := by
  have hr : ∀ cs, (n2 Tryz.prog S.Wg cs).status = .running ∧ (n3 Tryz.prog S.Wg cs).status = .running ∧ (n4 Tryz.prog S.Wg cs).status = .running ∧ (p0 Tryz.prog S.Wg cs).status = .running ∧ (p1 Tryz.prog S.Wg cs).status = .running ∧ (p2 Tryz.prog S.Wg cs).status = .running := fun cs => ⟨by kernel_rfl, by kernel_rfl, by kernel_rfl, by kernel_rfl, by kernel_rfl, by kernel_rfl⟩
  obtain ⟨r2, r3, r4, q0, q1, q2⟩ := hr (z :: zs)
  have d4 : AtD4 S (p2 Tryz.prog S.Wg (z :: zs)) := ⟨q2, by rw [hP]; exact wake_p2 S.Wg (z :: zs), _, fun w _ hw => by rw [hP]; exact rel_p2 S.Wg (z :: zs) hw.cellSm (hw.thaw 1), by
    rw [hP]
    exact ⟨_, QuitsD.sil 17 _ (sil_p3 S.Wg (z :: zs)) (quits_out (run_m6 S.Wg z zs 0 0).2.2.2 (ena_p3 S.Wg (z :: zs)) (out_p3 S.Wg z zs) hT)⟩⟩
  have d3 : AtD3 S (p1 Tryz.prog S.Wg (z :: zs)) := ⟨q1, _, fun w _ hw => by rw [hP]; exact store_p1 S.Wg (z :: zs) hw.cellSt (hw.thaw 0), by
    unfold WkN
    rw [hP]
    exact ⟨_, Wk.sil 27 _ (sil_p2 S.Wg (z :: zs)) (Wk.stop (n := 0) d4)⟩⟩
  have d2 : AtD2 S (p0 Tryz.prog S.Wg (z :: zs)) := ⟨q0, _, fun w _ hw => by rw [hP]; exact load_p0 S.Wg (z :: zs) hw.cellSt, by
    unfold WkN
    rw [hP]
    exact ⟨_, Wk.sil 20 _ (sil_p1 S.Wg (z :: zs)) (Wk.stop (n := 0) d3)⟩⟩
  have d1 : AtD1 S (n4 Tryz.prog S.Wg (z :: zs)) := by
    refine ⟨r4, fun v wt hwt hv => ⟨(m0 Tryz.prog) S.Wg (z :: zs) (v * KK + wt), fun w _ hw => ?_, fun hl => ?_, fun hl => ?_⟩⟩
    · rw [hP]
      refine add_n4 S.Wg (z :: zs) hw.cellSt (hw.thaw 0) ?_
      show IntKind.u64.wrap (((v : Int) + 1) * 4294967296 + (wt : Int) + 18446744069414584320) = (v : Int) * 4294967296 + (wt : Int)
      rw [IntKind.wrap_u64]
      omega
    · obtain ⟨rfl, rfl⟩ := hl
      have e : ((0 : Nat) : Int) * KK + ((1 : Nat) : Int) = 1 := by simp
      rw [e]
      unfold WkN
      rw [hP]
      exact last_m0 d2
    · rw [hP]
      exact quits_m0 hT v wt (by omega) hwt hl
  have k1 : AtK1 S (n3 Tryz.prog S.Wg (z :: zs)) := ⟨r3, _, fun w _ => by rw [hP]; exact dis_n3 S.Wg (z :: zs) w, by
    unfold WkN
    rw [hP]
    exact ⟨_, Wk.sil 34 _ (sil_n4 S.Wg (z :: zs)) (Wk.stop (n := 0) d1)⟩⟩
  exact ⟨r2, _, fun w _ => by rw [hP]; exact rel_n2 S.Wg (z :: zs) w, by
    unfold WkN
    rw [hP]
    exact ⟨_, Wk.sil 3 _ (sil_n3 S.Wg (z :: zs)) (Wk.stop (n := 0) k1)⟩⟩
variable (pG : Program)
def zt : Value := .agg #[.int .i64 0, .string .empty]
def tval (i : Nat) (s : ByteArray) : Value := .agg #[.int .i64 i, .string s]
structure Pa where
  B : Nat
  R : Nat → Prop
  O : Nat → Prop
  os : Os
  w0 : World
  Wg : Nat
  Cn : Nat
  An : Nat
  Bt : Nat
  Ba : Nat
  n : Nat
  m : Nat
  Shun : Loc → Prop
  tx : Nat → ByteArray
  h0 : Array Obj
  Rr : Nat → Value → World → Prop
  ans : Nat → Value → Prop
  j0 : Nat
  s0 : Nat
section
variable (p : Pa)
def wb : Goroutine := born pG { target := .fn (.func 67) #[ptr p.Wg, ptr p.Bt, ptr p.Ba], args := #[] }
def w1 : Goroutine := (nxts pG) false 6 (wb pG p)
def w2 : Goroutine := fin (w1 pG p) (.chan (some p.Cn))
def w3 : Goroutine := fin (w2 pG p) (.slice (some ⟨p.An, 0, none⟩) p.m p.m)
def w4 : Goroutine := (nxts pG) false 9 (w3 pG p)
def rcv (J : Nat → Value) : Goroutine := { (w4 pG) p with frame := { (w4 pG p).frame with tmps := #[.chan (some p.Cn), .slice (some ⟨p.An, 0, none⟩) p.m p.m, J 2, J 3, J 4, .chan (some p.Cn), J 6, J 7, J 8, J 9, J 10, J 11, J 12, J 13, J 14, J 15] } }
set_option maxRecDepth 100000
theorem w4_rcv : (w4 Tryz.prog) p = (rcv Tryz.prog) p fun _ => undef := by kernel_rfl
theorem sil_wb : SilP false 6 (wb Tryz.prog p) := by
  iterate 6 (refine ⟨⟨by kernel_rfl, fun w => by kernel_rfl⟩, ?_⟩)
  trivial
theorem ld_w1 (w : World) : (execOp (w1 Tryz.prog p).frame.eval (opAt (w1 Tryz.prog p))).runT Tryz.prog w #[] = (ldS ⟨p.Bt, 0, none⟩).runT Tryz.prog w #[] := by kernel_rfl
theorem ld_w2 (w : World) : (execOp (w2 Tryz.prog p).frame.eval (opAt (w2 Tryz.prog p))).runT Tryz.prog w #[] = (ldS ⟨p.Ba, 0, none⟩).runT Tryz.prog w #[] := by kernel_rfl
theorem sil_w3 : SilP false 9 (w3 Tryz.prog p) := by
  iterate 9 (refine ⟨⟨by kernel_rfl, fun w => by kernel_rfl⟩, ?_⟩)
  trivial
theorem rcv_comm (J : Nat → Value) (w : World) : stepG Tryz.prog false (rcv Tryz.prog p J) w = .comm (rcv Tryz.prog p J) #[rcase p.Cn zt] true (.recv true) w #[] := by kernel_rfl
theorem rcv_run (J : Nat → Value) : (rcv Tryz.prog p J).status = .running ∧ (rcv Tryz.prog p J).offers = none := ⟨by kernel_rfl, by kernel_rfl⟩
def e0 (J : Nat → Value) : Goroutine := Go.Conc.served (rcv pG p J) (recvd true zt false)
def e1 (J : Nat → Value) : Goroutine := (nxts pG) false 13 (e0 pG p J)
theorem sil_e0 (J : Nat → Value) : SilP false 13 (e0 Tryz.prog p J) := by
  iterate 13 (refine ⟨⟨by kernel_rfl, fun w => by kernel_rfl⟩, ?_⟩)
  trivial
def ez (J : Nat → Value) : Frame := (e1 pG p J).callers.headD default
def ezs (J : Nat → Value) : List Frame := (e1 pG p J).callers.tail
theorem e1_n0 (J : Nat → Value) : (e1 Tryz.prog) p J = (n0 Tryz.prog) p.Wg (ez Tryz.prog p J :: (ezs Tryz.prog) p J) := by kernel_rfl
theorem sil_ez (J : Nat → Value) : SilP false 5 (back (ez Tryz.prog p J) (ezs Tryz.prog p J)) := by
  iterate 5 (refine ⟨⟨by kernel_rfl, fun w => by kernel_rfl⟩, ?_⟩)
  trivial
theorem fin_ez (J : Nat → Value) : (nxts Tryz.prog false 5 (back (ez Tryz.prog p J) (ezs Tryz.prog p J))).status = .finished := by kernel_rfl
theorem quits_ez (J : Nat → Value) : QuitsD Tryz.prog 5 0 (back (ez Tryz.prog p J) (ezs Tryz.prog p J)) := by
  have := QuitsD.sil (d := 0) (m := 0) 5 _ (sil_ez p J) ⟨fin_ez p J, rfl⟩
  simpa using this
end
variable (pG : Program)
def regOf (g : Goroutine) : Array Oper × List Item := match g.frame.todo with
  | .code (.region _ ops _) :: k => (ops, k)
  | _ => (#[], [])
section
variable (p : Pa) (J : Nat → Value) (i : Nat) (s : ByteArray) (q : Nat)
set_option maxRecDepth 100000
def t0 : Goroutine := Go.Conc.served (rcv pG p J) (recvd true (tval i s) true)
def t1 : Goroutine := (nxts pG) false 9 (t0 pG p J i s)
theorem sil_t0 : SilP false 9 (t0 Tryz.prog p J i s) := by
  iterate 9 (refine ⟨⟨by kernel_rfl, fun w => by kernel_rfl⟩, ?_⟩)
  trivial
def box0 : Obj := .cells #[.int .i64 0, .string .empty] 125
def boxI : Obj := .cells #[.int .i64 i, .string s] 125
theorem new_t1 (w : World) : stepG Tryz.prog false (t1 Tryz.prog p J i s) w = .go (fin (t1 Tryz.prog p J i s) (ptr w.heap.size)) { w with heap := w.heap.push box0 } #[] := by kernel_rfl
def t2 : Goroutine := fin (t1 pG p J i s) (ptr q)
theorem st_t2 (w : World) : (execOp (t2 Tryz.prog p J i s q).frame.eval (opAt (t2 Tryz.prog p J i s q))).runT Tryz.prog w #[] = (st2S ⟨q, 0, none⟩ ⟨q, 1, none⟩ (.int .i64 i) (.string s)).runT Tryz.prog w #[] := by kernel_rfl
def t3 : Goroutine := (nxts pG) false 1 (fin (t2 pG p J i s q) undef)
theorem sil_t3 : SilP false 1 (fin (t2 Tryz.prog p J i s q) undef) := by
  iterate 1 (refine ⟨⟨by kernel_rfl, fun w => by kernel_rfl⟩, ?_⟩)
  trivial
def dg (a9 a10 a11 a12 a13 a14 a15 : Value) (l : List Nat) : Goroutine := { (t3 pG) p J i s q with frame := { (t3 pG p J i s q).frame with
  tmps := #[.chan (some p.Cn), .slice (some ⟨p.An, 0, none⟩) p.m p.m, J 2, J 3, ptr q, .chan (some p.Cn), .tuple #[tval i s, .bool true], .bool true, tval i s, a9, a10, a11, a12, a13, a14, a15], todo := .inRegion (regOf (t3 pG p J i s q)).1 l :: (regOf (t3 pG p J i s q)).2 } }
theorem draw_t3 (w : World) : stepG Tryz.prog false (t3 Tryz.prog p J i s q) w = .go (dg Tryz.prog p J i s q (J 9) (J 10) (J 11) (J 12) (J 13) (J 14) (J 15) (Region.schedule (Tryz.prog.follows .mixedOrders) (regOf (t3 Tryz.prog p J i s q)).1 ((Question.order 69 3).cut (w.tape w.drawn (.order 69 3))))) (w.at (w.drawn + 1)) #[] := by kernel_rfl
variable (a9 a10 a11 a12 a13 a14 a15 : Value) (l : List Nat)
theorem dg0 (w : World) : stepG Tryz.prog false (dg Tryz.prog p J i s q a9 a10 a11 a12 a13 a14 a15 (0 :: l)) w = .go (dg Tryz.prog p J i s q (.slice (some ⟨p.An, 0, none⟩) p.m p.m) a10 a11 a12 a13 a14 a15 l) w #[] := by kernel_rfl
theorem dg1 (w : World) : stepG Tryz.prog false (dg Tryz.prog p J i s q a9 a10 a11 a12 a13 a14 a15 (1 :: l)) w = .go (dg Tryz.prog p J i s q a9 (ptr q) a11 a12 a13 a14 a15 l) w #[] := by kernel_rfl
theorem dg3 (w : World) : stepG Tryz.prog false (dg Tryz.prog p J i s q a9 a10 a11 a12 a13 a14 a15 (3 :: l)) w = .go (dg Tryz.prog p J i s q a9 a10 a11 (.pointer (some ⟨q, 1, none⟩)) a13 a14 a15 l) w #[] := by kernel_rfl
theorem ld_dg2 (w : World) : atOp (dg Tryz.prog p J i s q a9 (ptr q) a11 a12 a13 a14 a15 (2 :: l)) = true ∧ (execOp (dg Tryz.prog p J i s q a9 (ptr q) a11 a12 a13 a14 a15 (2 :: l)).frame.eval (opAt (dg Tryz.prog p J i s q a9 (ptr q) a11 a12 a13 a14 a15 (2 :: l)))).runT Tryz.prog w #[] = (ldS ⟨q, 0, none⟩).runT Tryz.prog w #[] := ⟨by kernel_rfl, by kernel_rfl⟩
theorem fin_dg2 (v : Value) : fin (dg Tryz.prog p J i s q a9 a10 a11 a12 a13 a14 a15 (2 :: l)) v = (dg Tryz.prog) p J i s q a9 a10 v a12 a13 a14 a15 l := by kernel_rfl
theorem ld_dg4 (w : World) : atOp (dg Tryz.prog p J i s q a9 a10 a11 (.pointer (some ⟨q, 1, none⟩)) a13 a14 a15 (4 :: l)) = true ∧ (execOp (dg Tryz.prog p J i s q a9 a10 a11 (.pointer (some ⟨q, 1, none⟩)) a13 a14 a15 (4 :: l)).frame.eval (opAt (dg Tryz.prog p J i s q a9 a10 a11 (.pointer (some ⟨q, 1, none⟩)) a13 a14 a15 (4 :: l)))).runT Tryz.prog w #[] = (ldS ⟨q, 1, none⟩).runT Tryz.prog w #[] := ⟨by kernel_rfl, by kernel_rfl⟩
theorem fin_dg4 (v : Value) : fin (dg Tryz.prog p J i s q a9 a10 a11 a12 a13 a14 a15 (4 :: l)) v = (dg Tryz.prog) p J i s q a9 a10 a11 a12 v a14 a15 l := by kernel_rfl
theorem call_dg5 (w : World) : stepG Tryz.prog false (dg Tryz.prog p J i s q a9 a10 a11 a12 (.string s) a14 a15 (5 :: l)) w = .go (gor [Frame.enter Tryz.prog 23 #[.string s] .normal] ((dg Tryz.prog p J i s q a9 a10 a11 a12 (.string s) a14 a15 (5 :: l)).frame :: (dg Tryz.prog p J i s q a9 a10 a11 a12 (.string s) a14 a15 (5 :: l)).callers)) w #[] := by kernel_rfl
theorem fin_dg5 (v : Value) : ({ frame := (dg Tryz.prog p J i s q a9 a10 a11 a12 a13 a14 a15 (5 :: l)).frame.finish v, callers := (dg Tryz.prog p J i s q a9 a10 a11 a12 a13 a14 a15 (5 :: l)).callers, status := .running, dying := none } : Goroutine) = (dg Tryz.prog) p J i s q a9 a10 a11 a12 a13 v a15 l := by kernel_rfl
def idxS (An m i : Nat) : Sem Next := Instr.indexAt 70 (.slice (some ⟨An, 0, none⟩) m m) (.int .i64 i) >>= fun v => pure (.value v)
theorem ix_dg6 (w : World) : atOp (dg Tryz.prog p J i s q (.slice (some ⟨p.An, 0, none⟩) p.m p.m) a10 (.int .i64 i) a12 a13 a14 a15 (6 :: l)) = true ∧ (execOp (dg Tryz.prog p J i s q (.slice (some ⟨p.An, 0, none⟩) p.m p.m) a10 (.int .i64 i) a12 a13 a14 a15 (6 :: l)).frame.eval (opAt (dg Tryz.prog p J i s q (.slice (some ⟨p.An, 0, none⟩) p.m p.m) a10 (.int .i64 i) a12 a13 a14 a15 (6 :: l)))).runT Tryz.prog w #[] = (idxS p.An p.m i).runT Tryz.prog w #[] := ⟨by kernel_rfl, by kernel_rfl⟩
theorem fin_dg6 (v : Value) : fin (dg Tryz.prog p J i s q a9 a10 a11 a12 a13 a14 a15 (6 :: l)) v = (dg Tryz.prog) p J i s q a9 a10 a11 a12 a13 a14 v l := by kernel_rfl
theorem st_dg7 (v : ByteArray) (w : World) : atOp (dg Tryz.prog p J i s q a9 a10 a11 a12 a13 (.string v) (.pointer (some ⟨p.An, i, none⟩)) [7]) = true ∧ (execOp (dg Tryz.prog p J i s q a9 a10 a11 a12 a13 (.string v) (.pointer (some ⟨p.An, i, none⟩)) [7]).frame.eval (opAt (dg Tryz.prog p J i s q a9 a10 a11 a12 a13 (.string v) (.pointer (some ⟨p.An, i, none⟩)) [7]))).runT Tryz.prog w #[] = (stS ⟨p.An, i, none⟩ (.string v)).runT Tryz.prog w #[] := ⟨by kernel_rfl, by kernel_rfl⟩
def t9 : Goroutine := fin (dg pG p J i s q a9 a10 a11 a12 a13 a14 a15 [7]) undef
theorem sil_t9 : SilP false 5 (t9 Tryz.prog p J i s q a9 a10 a11 a12 a13 a14 a15) := by
  iterate 5 (refine ⟨⟨by kernel_rfl, fun w => by kernel_rfl⟩, ?_⟩)
  trivial
theorem rcv_t9 : (nxts Tryz.prog) false 5 (t9 Tryz.prog p J i s q a9 a10 a11 a12 a13 a14 a15) = (rcv Tryz.prog) p fun k => (#[undef, undef, J 2, J 3, ptr q, undef, .tuple #[tval i s, .bool true], .bool true, tval i s, a9, a10, a11, a12, a13, a14, a15] : Array Value).getD k undef := by kernel_rfl
theorem run_dg : (dg Tryz.prog p J i s q a9 a10 a11 a12 a13 a14 a15 l).status = .running := by kernel_rfl
end
variable (pG : Program)
def ords (md : Region.Mode) (ops : Array Oper) : Nat → Array Bool → List Nat → List (List Nat)
  | 0, _, acc => [acc.reverse]
  | fuel + 1, listed, acc => match Region.ready md ops listed with
    | [] => [acc.reverse]
    | r :: rs => (r :: rs).flatMap fun i => ords md ops fuel (listed.setIfInBounds i true) (i :: acc)
theorem lin_mem (md : Region.Mode) (ops : Array Oper) : ∀ (fuel t : Nat) (listed : Array Bool) (acc : List Nat), Region.linearise.go md ops fuel t listed acc ∈ ords md ops fuel listed acc
  | 0, t, listed, acc => by simp [Region.linearise.go, ords]
  | fuel + 1, t, listed, acc => by
    simp only [Region.linearise.go]
    change (match (Region.ready md ops listed)[t % (Region.ready md ops listed).length]? with
      | some i => Region.linearise.go md ops fuel (t / (Region.ready md ops listed).length) (listed.setIfInBounds i true) (i :: acc)
      | none => acc.reverse) ∈ _
    unfold ords
    cases hr : Region.ready md ops listed with
    | nil => simp
    | cons r rs =>
      have hlt : t % (r :: rs).length < (r :: rs).length := Nat.mod_lt _ (by simp)
      rw [List.getElem?_eq_getElem hlt]
      simp only
      exact List.mem_flatMap.2 ⟨_, List.getElem_mem hlt, lin_mem md ops fuel _ _ _⟩
def pre : Nat → List Nat
  | 2 => [1]
  | 4 => [3]
  | 5 => [4]
  | 6 => [0, 2]
  | _ => []
def valid (dn : List Nat) : List Nat → Bool
  | [] => false
  | j :: r => if j == 7 then r.isEmpty && [0, 1, 2, 3, 4, 5, 6].all fun k => dn.contains k else decide (j < 7) && !dn.contains j && (pre j).all (fun k => dn.contains k) && valid (j :: dn) r
section
variable (p : Pa) (J : Nat → Value) (i : Nat) (s : ByteArray) (q : Nat)
set_option maxRecDepth 100000
theorem mixed : Tryz.prog.follows .mixedOrders = true := by kernel_rfl
theorem ords_valid : (ords .any (regOf (t3 Tryz.prog p J i s q)).1 (regOf (t3 Tryz.prog p J i s q)).1.size (Array.replicate (regOf (t3 Tryz.prog p J i s q)).1.size false) []).all (valid []) = true := by kernel_rfl
theorem sched_any (ops : Array Oper) (t : Nat) : Region.schedule true ops t = Region.linearise.go .any ops ops.size t (Array.replicate ops.size false) [] := rfl
theorem sched_valid (t : Nat) : valid [] (Region.schedule (Tryz.prog.follows .mixedOrders) (regOf (t3 Tryz.prog p J i s q)).1 t) = true := by
  have h := ords_valid p J i s q
  generalize (regOf (t3 Tryz.prog p J i s q)).1 = ops at h ⊢
  rw [mixed, sched_any]
  exact List.all_eq_true.1 h _ (lin_mem ..)
def gd (dn : List Nat) (v : ByteArray) (l : List Nat) : Goroutine := (dg pG) p J i s q (bif dn.contains 0 then .slice (some ⟨p.An, 0, none⟩) p.m p.m else J 9) (bif dn.contains 1 then ptr q else J 10) (bif dn.contains 2 then .int .i64 i else J 11) (bif dn.contains 3 then .pointer (some ⟨q, 1, none⟩) else J 12) (bif dn.contains 4 then .string s else J 13) (bif dn.contains 5 then .string v else J 14) (bif dn.contains 6 then .pointer (some ⟨p.An, i, none⟩) else J 15) l
end
def Pa.sc (p : Pa) (AW Out : Goroutine → Prop) : Sc where
  E := (env pG) p.B p.R p.O p.os
  M := tM
  w0 := p.w0
  ty := 122
  aty := 9
  Wg := p.Wg
  Cn := p.Cn
  An := p.An
  Shun := p.Shun
  n := p.n
  m := p.m
  z := zt
  zs := .tuple #[]
  tv i := tval i (p.tx i)
  box0 := box0
  box i := boxI i (p.tx i)
  x0 i := ([Frame.enter pG 23 #[.string (p.tx i)] .normal], p.h0)
  R := p.Rr
  ans := p.ans
  j0 := p.j0
  s0 := p.s0
  AR g := ∃ J, g = (rcv pG) p J
  AW := AW
  Out := Out
section
variable {p : Pa} {AW Out : Goroutine → Prop} {J : Nat → Value} {i q : Nat}
theorem cells_cell {w : World} {b k : Nat} {cs : Array Value} {t : TypeId} (h : w.heap[b]? = some (.cells cs t)) : w.cell? ⟨b, k, none⟩ = cs[k]? := by
  rw [cell_cells (a := ⟨b, k, none⟩) h]
  rfl
theorem cells_thaw {w : World} {b k : Nat} {cs : Array Value} {t : TypeId} (h : w.heap[b]? = some (.cells cs t)) : w.frozen? ⟨b, k, none⟩ = false := by simp [World.frozen?, h]
theorem box_q {w : World} (h : KQ ((p.sc Tryz.prog) AW Out) i q w) : w.cell? ⟨q, 0, none⟩ = some (.int .i64 i) ∧ w.cell? ⟨q, 1, none⟩ = some (.string (p.tx i)) := by
  have h2 : w.heap[q]? = some (.cells #[.int .i64 i, .string (p.tx i)] 125) := h.2
  exact ⟨by rw [cells_cell h2]; rfl, by rw [cells_cell h2]; rfl⟩
theorem seen_rd (a : Addr) : seen Tryz.prog 69 #[⟨.cell a, false, false⟩] = #[⟨.cell a, false, false⟩] := by kernel_rfl
theorem seen_wr (a : Addr) : seen Tryz.prog 69 #[⟨.cell a, true, false⟩] = #[⟨.cell a, true, false⟩] := by kernel_rfl
theorem fn_dg (s : ByteArray) (a9 a10 a11 a12 a13 a14 a15 : Value) (l : List Nat) : (dg Tryz.prog p J i s q a9 a10 a11 a12 a13 a14 a15 l).frame.fn = 69 := by kernel_rfl
theorem run_idx {An m i : Nat} (h : i < m) (w : World) : (idxS An m i).run Tryz.prog w = .ok (.value (.pointer (some ⟨An, i, none⟩))) w ∧ (idxS An m i).events Tryz.prog w #[] = #[] := by
  have hu : Tryz.prog.underlying 70 = some (.slice (Tryz.prog.elem 70)) := by kernel_rfl
  have hs : (sizeOf (Tryz.prog.elem 70)).run Tryz.prog w = .ok 1 w := by kernel_rfl
  have hi : (0 ≤ (i : Int) ∧ (i : Int) < (m : Int)) := by omega
  simp [idxS, run_indexAt_slice (h := hu), events_indexAt_slice (h := hu) (hi := hi), hi, hs, Addr.add]
  omega
theorem step_gd (dn : List Nat) (v : ByteArray) {j : Nat} {r : List Nat} (him : i < p.m) (hj : j < 7) (h5 : j ≠ 5) (hp : (pre j).all (fun k => dn.contains k) = true) : ∃ es, (∀ w, KQ ((p.sc Tryz.prog) AW Out) i q w → stepG Tryz.prog false (gd Tryz.prog p J i (p.tx i) q dn v (j :: r)) w = .go (gd Tryz.prog p J i (p.tx i) q (j :: dn) v r) w es) ∧ ∀ e ∈ es, RdQ ((p.sc Tryz.prog) AW Out) q e := by
  have hno : ∀ e ∈ (#[] : Array Event), RdQ ((p.sc Tryz.prog) AW Out) q e := fun e he => by simp at he
  match j, hj, h5, hp with
  | 0, _, _, _ => exact ⟨#[], fun w _ => dg0 p J i (p.tx i) q _ _ _ _ _ _ _ r w, hno⟩
  | 1, _, _, _ => exact ⟨#[], fun w _ => dg1 p J i (p.tx i) q _ _ _ _ _ _ _ r w, hno⟩
  | 3, _, _, _ => exact ⟨#[], fun w _ => dg3 p J i (p.tx i) q _ _ _ _ _ _ _ r w, hno⟩
  | 2, _, _, hp =>
    have h1 : dn.contains 1 = true := by simpa [pre] using hp
    refine ⟨#[⟨.cell ⟨q, 0, none⟩, false, false⟩], fun w hw => ?_, fun e he => ?_⟩
    · unfold gd
      rw [h1]
      have h2 := ld_dg2 p J i (p.tx i) q (bif dn.contains 0 then .slice (some ⟨p.An, 0, none⟩) p.m p.m else J 9) (bif dn.contains 2 then .int .i64 i else J 11) (bif dn.contains 3 then .pointer (some ⟨q, 1, none⟩) else J 12) (bif dn.contains 4 then .string (p.tx i) else J 13) (bif dn.contains 5 then .string v else J 14) (bif dn.contains 6 then .pointer (some ⟨p.An, i, none⟩) else J 15) r w
      have h3 := k_ld (main := false) h2.1 h2.2 (box_q hw).1 (by rw [fn_dg]; exact seen_rd _)
      rw [fin_dg2] at h3
      rw [show (List.contains (2 :: dn) 1) = true from h1]
      exact h3
    · simp only [List.mem_toArray, List.mem_cons, List.not_mem_nil, or_false] at he
      exact .inr ⟨_, rfl, he⟩
  | 4, _, _, hp =>
    have h1 : dn.contains 3 = true := by simpa [pre] using hp
    refine ⟨#[⟨.cell ⟨q, 1, none⟩, false, false⟩], fun w hw => ?_, fun e he => ?_⟩
    · unfold gd
      rw [h1]
      have h2 := ld_dg4 p J i (p.tx i) q (bif dn.contains 0 then .slice (some ⟨p.An, 0, none⟩) p.m p.m else J 9) (bif dn.contains 1 then ptr q else J 10) (bif dn.contains 2 then .int .i64 i else J 11) (bif dn.contains 4 then .string (p.tx i) else J 13) (bif dn.contains 5 then .string v else J 14) (bif dn.contains 6 then .pointer (some ⟨p.An, i, none⟩) else J 15) r w
      have h3 := k_ld (main := false) h2.1 h2.2 (box_q hw).2 (by rw [fn_dg]; exact seen_rd _)
      rw [fin_dg4] at h3
      rw [show (List.contains (4 :: dn) 3) = true from h1]
      exact h3
    · simp only [List.mem_toArray, List.mem_cons, List.not_mem_nil, or_false] at he
      exact .inr ⟨_, rfl, he⟩
  | 6, _, _, hp =>
    have h1 : dn.contains 0 = true ∧ dn.contains 2 = true := by simpa [pre] using hp
    refine ⟨#[], fun w hw => ?_, hno⟩
    unfold gd
    rw [h1.1, h1.2]
    have h2 := ix_dg6 p J i (p.tx i) q (bif dn.contains 1 then ptr q else J 10) (bif dn.contains 3 then .pointer (some ⟨q, 1, none⟩) else J 12) (bif dn.contains 4 then .string (p.tx i) else J 13) (bif dn.contains 5 then .string v else J 14) (bif dn.contains 6 then .pointer (some ⟨p.An, i, none⟩) else J 15) r w
    obtain ⟨h4, h5⟩ := runT_pair h2.2
    obtain ⟨h6, h7⟩ := run_idx him w
    have h3 := k_value (main := false) h2.1 (h4.trans h6)
    rw [h5, h7, fin_dg6, fn_dg, seen_none] at h3
    rw [show (List.contains (6 :: dn) 0) = true from h1.1, show (List.contains (6 :: dn) 2) = true from h1.2]
    exact h3
end
end Go.Proofs.YtaablbmgagiajabGreatDoor.Ren
namespace Go.Proofs.YtaablbmgagiajabGreatDoor.Ren
open Go Go.Conc
def cvS (src dst : TypeId) (v : Value) : Sem Next := convert src dst v >>= fun v => pure (.value v)
theorem k_conv {main : Bool} {g : Goroutine} {w : World} {src dst : TypeId} {a : Addr} {v : Value} (h : atOp g = true) (hs : (execOp g.frame.eval (opAt g)).runT Tryz.prog w #[] = (cvS src dst (.pointer (some a))).runT Tryz.prog w #[]) (ht : ∃ t, Tryz.prog.underlying src = some (.pointer t) ∧ Tryz.prog.underlying dst = some .unsafePointer ∧ (Tryz.prog.info? t).map (fun i => decide (i.size = 0)) = some false) (hc : w.cell? a = some v) :
    stepG Tryz.prog main g w = .go (fin g (.pointer (some a))) w #[] := by
  obtain ⟨t, h1, h2, h3⟩ := ht
  obtain ⟨e1, e2⟩ := runT_pair hs
  have e3 : (cvS src dst (.pointer (some a))).run Tryz.prog w = .ok (.value (.pointer (some a))) w := by simp [cvS, run_convert_to_unsafe h1 h2 h3 hc]
  have e4 : (cvS src dst (.pointer (some a))).events Tryz.prog w #[] = #[] := by simp [cvS, events_convert_to_unsafe h1 h2 h3 hc]
  have := k_value (main := main) h (e1.trans e3)
  rw [e2, e4, seen_none] at this
  exact this
end Go.Proofs.YtaablbmgagiajabGreatDoor.Ren
namespace Go.Proofs.YtaablbmgagiajabGreatDoor.Ren
open Go Go.Conc
open Go.ConcR (KK WgAt stA smA rd wr mk)
theorem cv_n1 (Wg : Nat) (cs : List Frame) (w : World) : atOp (n1 Tryz.prog Wg cs) = true ∧ (execOp (n1 Tryz.prog Wg cs).frame.eval (opAt (n1 Tryz.prog Wg cs))).runT Tryz.prog w #[] = (cvS 182 184 (.pointer (some (stA Wg)))).runT Tryz.prog w #[] := ⟨by kernel_rfl, by kernel_rfl⟩
theorem conv_wg : ∃ t, Tryz.prog.underlying 182 = some (.pointer t) ∧ Tryz.prog.underlying 184 = some .unsafePointer ∧ (Tryz.prog.info? t).map (fun i => decide (i.size = 0)) = some false := ⟨122, by kernel_rfl, by kernel_rfl, by kernel_rfl⟩
section
variable {p : Pa} {AW Out : Goroutine → Prop} {J : Nat → Value} {i q : Nat}
theorem run_gd (s : ByteArray) (dn : List Nat) (v : ByteArray) (l : List Nat) : (gd Tryz.prog p J i s q dn v l).status = .running := run_dg ..
theorem wk_store (v : ByteArray) (him : i < p.m) : ∀ (l dn : List Nat), valid dn l = true → dn.contains 5 = true → ∃ n, WkQ ((p.sc Tryz.prog) AW Out) i q (AtStore ((p.sc Tryz.prog) AW Out) i q (.string v)) n (gd Tryz.prog p J i (p.tx i) q dn v l)
  | [], _, h, _ => by cases h
  | j :: r, dn, h, h5 => by
    unfold valid at h
    by_cases hj : (j == 7) = true
    · rw [if_pos hj, Bool.and_eq_true] at h
      obtain ⟨hr, hall⟩ := h
      have hr : r = [] := by simpa using hr
      have hj : j = 7 := by simpa using hj
      subst hr
      subst hj
      have h6 : dn.contains 6 = true := (List.all_eq_true.1 hall) 6 (by decide)
      refine ⟨0, Wk.stop ⟨run_gd .., (t9 Tryz.prog) p J i (p.tx i) q (bif dn.contains 0 then .slice (some ⟨p.An, 0, none⟩) p.m p.m else J 9) (bif dn.contains 1 then ptr q else J 10) (bif dn.contains 2 then .int .i64 i else J 11) (bif dn.contains 3 then .pointer (some ⟨q, 1, none⟩) else J 12) (bif dn.contains 4 then .string (p.tx i) else J 13) (.string v) (.pointer (some ⟨p.An, i, none⟩)), fun w hw => ?_, _, Wk.sil 5 _ (sil_t9 ..) (Wk.stop (n := 0) ⟨_, rcv_t9 ..⟩)⟩⟩
      unfold gd
      rw [h5, h6]
      obtain ⟨cs, c1, c2⟩ := hw.1.pay
      have c1 : w.heap[p.An]? = some (.cells cs 9) := c1
      have c2 : cs.size = p.m := c2
      have h2 := st_dg7 p J i (p.tx i) q (bif dn.contains 0 then .slice (some ⟨p.An, 0, none⟩) p.m p.m else J 9) (bif dn.contains 1 then ptr q else J 10) (bif dn.contains 2 then .int .i64 i else J 11) (bif dn.contains 3 then .pointer (some ⟨q, 1, none⟩) else J 12) (bif dn.contains 4 then .string (p.tx i) else J 13) v w
      exact k_st (main := false) h2.1 h2.2 (v := cs[i]'(by omega)) rfl (by show w.cell? ⟨p.An, i, none⟩ = _; rw [cells_cell c1]; exact Array.getElem?_eq_getElem (by omega)) (cells_thaw c1) (by rw [fn_dg]; exact seen_wr _)
    · rw [if_neg hj] at h
      simp only [Bool.and_eq_true, decide_eq_true_eq] at h
      obtain ⟨⟨⟨h7, hn5⟩, hp⟩, hv⟩ := h
      by_cases hj5 : j = 5
      · subst hj5
        rw [h5] at hn5
        cases hn5
      · obtain ⟨es, k1, k2⟩ := step_gd (p := p) (AW := AW) (Out := Out) (J := J) (q := q) dn v (r := r) him h7 hj5 hp
        obtain ⟨n, hn⟩ := wk_store v him r (j :: dn) hv (by
          have : List.contains (j :: dn) 5 = (5 == j || dn.contains 5) := List.contains_cons
          rw [this, h5]; simp)
        exact ⟨n + 1, Wk.step (run_gd ..) k1 k2 hn⟩
theorem wk_call (him : i < p.m) (hans : ∀ v, p.ans i v → ∃ l, v = .string l) : ∀ (l dn : List Nat), valid dn l = true → dn.contains 5 = false → ∃ n, WkQ ((p.sc Tryz.prog) AW Out) i q (AtCall ((p.sc Tryz.prog) AW Out) i q) n (gd Tryz.prog p J i (p.tx i) q dn .empty l)
  | [], _, h, _ => by cases h
  | j :: r, dn, h, h5 => by
    unfold valid at h
    by_cases hj : (j == 7) = true
    · rw [if_pos hj, Bool.and_eq_true] at h
      obtain ⟨_, hall⟩ := h
      have := (List.all_eq_true.1 hall) 5 (by decide)
      rw [h5] at this
      cases this
    · rw [if_neg hj] at h
      simp only [Bool.and_eq_true, decide_eq_true_eq] at h
      obtain ⟨⟨⟨h7, _⟩, hp⟩, hv⟩ := h
      by_cases hj5 : j = 5
      · subst hj5
        have h4 : dn.contains 4 = true := by simpa [pre] using hp
        have e : (gd Tryz.prog) p J i (p.tx i) q dn .empty (5 :: r) = (dg Tryz.prog) p J i (p.tx i) q (bif dn.contains 0 then .slice (some ⟨p.An, 0, none⟩) p.m p.m else J 9) (bif dn.contains 1 then ptr q else J 10) (bif dn.contains 2 then .int .i64 i else J 11) (bif dn.contains 3 then .pointer (some ⟨q, 1, none⟩) else J 12) (.string (p.tx i)) (J 14) (bif dn.contains 6 then .pointer (some ⟨p.An, i, none⟩) else J 15) (5 :: r) := by
          unfold gd
          rw [h4, h5]
          rfl
        rw [e]
        refine ⟨0, Wk.stop ⟨run_dg .., _, _, fun w _ => call_dg5 p J i (p.tx i) q _ _ _ _ _ _ r w, fun v hv' => ?_⟩⟩
        obtain ⟨ans, rfl⟩ := hans v hv'
        rw [fin_dg5]
        obtain ⟨n, hn⟩ := wk_store (p := p) (AW := AW) (Out := Out) (J := J) (i := i) (q := q) ans him r (5 :: dn) hv rfl
        refine ⟨n, ?_⟩
        have e2 : (gd Tryz.prog) p J i (p.tx i) q (5 :: dn) ans r = (dg Tryz.prog) p J i (p.tx i) q (bif dn.contains 0 then .slice (some ⟨p.An, 0, none⟩) p.m p.m else J 9) (bif dn.contains 1 then ptr q else J 10) (bif dn.contains 2 then .int .i64 i else J 11) (bif dn.contains 3 then .pointer (some ⟨q, 1, none⟩) else J 12) (.string (p.tx i)) (.string ans) (bif dn.contains 6 then .pointer (some ⟨p.An, i, none⟩) else J 15) r := by
          unfold gd
          rw [show List.contains (5 :: dn) 4 = true from h4]
          rfl
        rw [e2] at hn
        exact hn
      · obtain ⟨es, k1, k2⟩ := step_gd (p := p) (AW := AW) (Out := Out) (J := J) (q := q) dn .empty (r := r) him h7 hj5 hp
        obtain ⟨n, hn⟩ := wk_call him hans r (j :: dn) hv (by
          have : List.contains (j :: dn) 5 = (5 == j || dn.contains 5) := List.contains_cons
          rw [this, h5]
          simp
          omega)
        exact ⟨n + 1, Wk.step (run_gd ..) k1 k2 hn⟩
theorem seen_wr2 (a b : Addr) : seen Tryz.prog 69 #[⟨.cell a, true, false⟩, ⟨.cell b, true, false⟩] = #[⟨.cell a, true, false⟩, ⟨.cell b, true, false⟩] := by kernel_rfl
theorem t2_at (s : ByteArray) : atOp (t2 Tryz.prog p J i s q) = true ∧ (t2 Tryz.prog p J i s q).status = .running ∧ (t2 Tryz.prog p J i s q).frame.fn = 69 ∧ (t1 Tryz.prog p J i s).status = .running ∧ (t3 Tryz.prog p J i s q).status = .running := ⟨by kernel_rfl, by kernel_rfl, by kernel_rfl, by kernel_rfl, by kernel_rfl⟩
theorem put_box {w : World} {a b : Value} (h : w.heap[q]? = some box0) : ((w.setCell ⟨q, 0, none⟩ a).setCell ⟨q, 1, none⟩ b).heap[q]? = some (.cells #[a, b] 125) := by
  have h1 := heap_setCell_same w q 0 #[.int .i64 0, .string .empty] 125 a h
  have h2 := heap_setCell_same (w.setCell ⟨q, 0, none⟩ a) q 1 _ 125 b h1
  rw [h2]
  rfl
theorem ar_ok (hn : p.n ≤ 16) (hans : ∀ i v, i < p.m → p.ans i v → ∃ l, v = .string l) (g : Goroutine) (hg : ((p.sc Tryz.prog) AW Out).AR g) : g.status = .running ∧ g.offers = none ∧ (∀ w, KW ((p.sc Tryz.prog) AW Out) w → stepG ((p.sc Tryz.prog) AW Out).E.P false g w = .comm g #[rcase ((p.sc Tryz.prog) AW Out).Cn ((p.sc Tryz.prog) AW Out).z] true (.recv true) w #[]) ∧
    (∀ i, i < ((p.sc Tryz.prog) AW Out).m → ∃ n, WkW ((p.sc Tryz.prog) AW Out) (AtNew ((p.sc Tryz.prog) AW Out) i) n (Go.Conc.served g (recvd true (((p.sc Tryz.prog) AW Out).tv i) true))) ∧ ∃ n, WkW ((p.sc Tryz.prog) AW Out) (AtR0 ((p.sc Tryz.prog) AW Out)) n (Go.Conc.served g (recvd true ((p.sc Tryz.prog) AW Out).z false)) := by
  obtain ⟨J, rfl⟩ := hg
  refine ⟨(rcv_run p J).1, (rcv_run p J).2, fun w _ => rcv_comm p J w, fun i him => ?_, ?_⟩
  · have draw : ∀ q, AtDraw ((p.sc Tryz.prog) AW Out) i q (t3 Tryz.prog p J i (p.tx i) q) := fun q => ⟨(t2_at (p.tx i)).2.2.2.2, fun w _ => ⟨_, _, draw_t3 p J i (p.tx i) q w, by
      obtain ⟨n, hn⟩ := wk_call (p := p) (AW := AW) (Out := Out) (J := J) (q := q) him (fun v => hans i v him) _ [] (sched_valid p J i (p.tx i) q ((Question.order 69 3).cut (w.tape w.drawn (.order 69 3)))) rfl
      exact ⟨n, hn⟩⟩⟩
    have put : ∀ q, AtPut ((p.sc Tryz.prog) AW Out) i q (t2 Tryz.prog p J i (p.tx i) q) := fun q => by
      obtain ⟨h1, h2, h3, _⟩ := t2_at (p := p) (J := J) (i := i) (q := q) (p.tx i)
      refine ⟨h2, fin (t2 Tryz.prog p J i (p.tx i) q) undef, fun w _ hb => ?_, _, Wk.sil 1 _ (sil_t3 p J i (p.tx i) q) (Wk.stop (n := 0) (draw q))⟩
      have hb : w.heap[q]? = some box0 := hb
      have hb' : w.heap[q]? = some (.cells #[.int .i64 0, .string .empty] 125) := hb
      refine ⟨_, _, k_st2 (main := false) h1 (st_t2 p J i (p.tx i) q w) (v := .int .i64 0) (v' := .string .empty) rfl rfl (by intro h; cases h) (by rw [cells_cell hb']; rfl) (by rw [cells_cell hb']; rfl) (cells_thaw hb') (cells_thaw hb') (by rw [h3]; exact seen_wr2 _ _), ?_, by rw [World.size_setCell, World.size_setCell], put_box hb, fun e he => ?_⟩
      · refine ⟨by rw [World.size_setCell, World.size_setCell]; exact Nat.le_refl _, fun b _ hne => ?_, rfl, rfl, rfl⟩
        rw [heap_setCell_other _ _ b _ hne, heap_setCell_other _ _ b _ hne]
      · simp only [List.mem_toArray, List.mem_cons, List.not_mem_nil, or_false] at he
        rcases he with rfl | rfl <;> exact ⟨_, rfl, rfl⟩
    refine ⟨_, Wk.sil 9 _ (sil_t0 p J i (p.tx i)) (Wk.stop (n := 0) ⟨(t2_at (q := 0) (p.tx i)).2.2.2.1, fun w _ => ⟨_, _, new_t1 p J i (p.tx i) w, ⟨by simp, fun b hb _ => ?_, rfl, rfl, rfl⟩, by simp, ?_, 0, Wk.stop (put w.heap.size)⟩⟩)⟩
    · exact Array.getElem?_push_lt hb ▸ (Array.getElem?_eq_getElem hb).symm
    · show (w.heap.push box0)[w.heap.size]? = _
      rw [Array.getElem?_push_size]
      rfl
  · have h0 := at_done (S := (p.sc Tryz.prog) AW Out) rfl hn (quits_ez p J)
    have s1 : Wk Tryz.prog false (KW ((p.sc Tryz.prog) AW Out)) (RdE ((p.sc Tryz.prog) AW Out)) (AtR0 ((p.sc Tryz.prog) AW Out)) 0 (n2 Tryz.prog p.Wg (ez Tryz.prog p J :: (ezs Tryz.prog) p J)) := Wk.stop h0
    have s2 : Wk Tryz.prog false (KW ((p.sc Tryz.prog) AW Out)) (RdE ((p.sc Tryz.prog) AW Out)) (AtR0 ((p.sc Tryz.prog) AW Out)) 1 (n1 Tryz.prog p.Wg (ez Tryz.prog p J :: (ezs Tryz.prog) p J)) := by
      refine Wk.step (es := #[]) (by kernel_rfl) (fun w hw => ?_) (fun e he => by simp at he) s1
      obtain ⟨st, sm, hwg⟩ := hw.grp
      exact k_conv (main := false) (cv_n1 p.Wg (ez Tryz.prog p J :: (ezs Tryz.prog) p J) w).1 (cv_n1 p.Wg (ez Tryz.prog p J :: (ezs Tryz.prog) p J) w).2 conv_wg hwg.cellSt
    have s3 := Wk.sil 11 _ (sil_n0 p.Wg (ez Tryz.prog p J :: (ezs Tryz.prog) p J)) s2
    rw [← e1_n0] at s3
    exact ⟨_, Wk.sil 13 _ (sil_e0 p J) s3⟩
end
end Go.Proofs.YtaablbmgagiajabGreatDoor.Ren
