import Derived.Laws.RangeString
import Derived.Test.YtaablbmgagiajabGreatDoorKGBF
import Derived.Test.YtaablbmgagiajabGreatDoorKGAZ
import Derived.Laws.BytesArg
import Derived.Conc.AppendEvents3
namespace Go.Proofs.YtaablbmgagiajabGreatDoor
open Go.RowKit Go.Deep
def xsOf (n : Nat) : List UInt8 := List.replicate n 120
theorem xs_len (n : Nat) : (xsOf n).length = n := by simp [xsOf]
theorem nl_xs (n : Nat) : splitNl (xsOf n) = [xsOf n] := by
  induction n with
  | zero => rfl
  | succ n ih =>
    have e : xsOf (n + 1) = 120 :: xsOf n := List.replicate_succ
    rw [e]
    unfold splitNl
    rw [ih]
    simp
theorem lines_xs (n : Nat) : linesOf (xsOf n) = [xsOf n] := by
  unfold linesOf Lib.trimSuffix
  rw [if_neg, nl_xs]
  intro h
  have h1 : ([10] : List UInt8) <:+ xsOf n := by simpa [Lib.hasSuffix] using h
  have h2 : (10 : UInt8) ∈ xsOf n := h1.subset (by simp)
  have h3 := List.eq_of_mem_replicate h2
  exact absurd h3 (by decide)
theorem dec_xs (n pos : Nat) (h : pos < n) : Utf8.decode (txt (xsOf n)) pos = (120, 1) := by
  have hlt : pos < (txt (xsOf n)).size := by rw [txt_size, xs_len]; exact h
  have e : (txt (xsOf n))[pos]'hlt = 120 := by
    show (xsOf n).toArray[pos]'_ = 120
    simp [xsOf]
  rw [decode_ascii _ pos hlt (by rw [e]; decide), e]
  rfl
theorem spans_xs (n : Nat) : ∀ (f pos a : Nat), pos + f = n → Lib.spansFromP isB (txt (xsOf n)) f pos (some a) [] = ([], some a)
  | 0, _, _, _ => rfl
  | f + 1, pos, a, h => by
    unfold Lib.spansFromP
    rw [if_pos (by rw [txt_size, xs_len]; omega), dec_xs n pos (by omega)]
    exact spans_xs n f (pos + 1) a (by omega)
theorem words_xs (n : Nat) (h : 0 < n) : wordsF (xsOf n) = [xsOf n] := by
  have hs : Lib.spansFromP isB (txt (xsOf n)) (txt (xsOf n)).size 0 none [] = ([], some 0) := by
    rw [txt_size, xs_len]
    cases n with
    | zero => omega
    | succ n =>
      unfold Lib.spansFromP
      rw [if_pos (by rw [txt_size, xs_len]; omega), dec_xs (n + 1) 0 (by omega)]
      exact spans_xs (n + 1) n 1 0 (by omega)
  unfold wordsF Lib.goFieldsP Lib.spansOfP
  rw [hs]
  simp only [Lib.closeSpans, List.nil_append, List.map_cons, List.map_nil]
  rw [txt_take]
  rw [txt_size, List.take_length]
theorem words_none : wordsF (xsOf 0) = [] := by decide
theorem look_xs (d n : Nat) (h : 0 < n) : (ordTab d).lookup (xsOf n) = none := by
  obtain ⟨n, rfl⟩ : ∃ m, n = m + 1 := ⟨n - 1, by omega⟩
  have e : xsOf (n + 1) = 120 :: xsOf n := List.replicate_succ
  rw [e]
  simp [ordTab, List.lookup, ordV]
def ansX (n : Nat) : List UInt8 := if n = 0 then [111, 107, 10] else errF 3 ++ [10]
def RelX (n : Nat) (pre : List {x : List UInt8 // x ∈ linesOf (xsOf n)}) (S : SY) (l : List UInt8) : Prop := S = sy0 10 ∧ ((pre = [] ∧ l = []) ∨ (pre.length = 1 ∧ l = ansX n))
set_option maxHeartbeats 1000000 in
theorem ans_xs (n : Nat) (hn : n ≤ 20000) : AnsOk (xsOf n) (RelX n) := by
  rintro pre ⟨x, hx⟩ S l W N c D ⟨rfl, hp⟩ hlen hdk
  have hx' := hx
  rw [lines_xs] at hx'
  have hlen : pre.length < 1 := by
    have : (linesOf (xsOf n)).length = 1 := by rw [lines_xs]; rfl
    omega
  simp only [List.mem_cons, List.not_mem_nil, or_false] at hx'
  have h1 : pre = [] ∧ l = [] := by
    rcases hp with hp | hp
    · exact hp
    · omega
  obtain ⟨rfl, rfl⟩ := h1
  subst hx'
  rcases Nat.eq_zero_or_pos n with rfl | hpos
  · refine (answer_none c.d (xsOf 0) W (by decide) words_none).mono ?_
    rintro e W' ⟨rfl, hB⟩
    obtain ⟨D', k1, k2, k3⟩ := hdk.stays hB
    exact ⟨_, _, D', rfl, ⟨rfl, .inr ⟨rfl, rfl⟩⟩, k1, k2, k3⟩
  · refine (ans_no (xsOf n) (xsOf n) [] hdk (by rw [xs_len]; omega) (words_xs n hpos) (look_xs _ n hpos)).mono ?_
    rintro e W' ⟨rfl, D', k1, k2, k3⟩
    exact ⟨_, _, D', rfl, ⟨rfl, .inr ⟨rfl, by simp [ansX]; omega⟩⟩, k1, k2, k3⟩
theorem ses_xs (n : Nat) (h : n ≤ 20000) (w : World) (hn : HasNum w) (h7 : 7 ≤ w.heap.size) :
    Calls Tryz.prog 23 #[.string (txt (xsOf n))] w fun e w' => e = .returned (.string (txt (ansX n))) ∧ Below w.heap.size w w' := by
  refine (session_any (xsOf n) w (by rw [xs_len]; exact h) hn h7 (RelX n) ⟨rfl, .inl ⟨rfl, rfl⟩⟩ (fun pre S l hr => ⟨by rw [hr.1]; rfl, ?_⟩) (ans_xs n h)).mono ?_
  · rcases hr.2 with ⟨_, rfl⟩ | ⟨_, rfl⟩
    · simp
    · unfold ansX
      split <;> exact of_decide_eq_true (by kernel_rfl)
  · rintro e w' ⟨⟨xs, S, l, hxs, hR, rfl⟩, hB⟩
    refine ⟨?_, hB⟩
    rcases hR.2 with ⟨rfl, _⟩ | ⟨_, rfl⟩
    · rw [lines_xs] at hxs
      simp at hxs
    · rfl
set_option maxRecDepth 100000 in
set_option maxHeartbeats 4000000 in
theorem ses_long (t : List UInt8) (w : World) (ht : 20000 < t.length) (hp : HasPow w) :
    Calls Tryz.prog 23 #[.string (txt t)] w fun e w' => e = .returned (.string (txt (errF 4 ++ [10]))) ∧ Below w.heap.size w w' := by
  have e4 : errF 4 = [101, 114, 114, 111, 114, 32, 52] := by kernel_rfl
  have HW := wrong_any 4 w (intIn_small (by decide) (by decide)) hp
  rw [e4] at HW ⊢
  have HW := hide HW
  have htl : (20000 : Int) < (t.length : Int) := by omega
  have htd : decide ((20000 : Int) < (t.length : Int)) = true := decide_eq_true htl
  refine (callsIn_wide (n := 3)).1 ?_
  refine callsIn_of_wp_marks Tryz.func23 rfl trivial ?_ rfl
  simp only [Tryz.ntmps23, List.size_toArray, List.length_cons, List.length_nil, Nat.reduceAdd, Nat.reduceSub, Array.replicate_succ, Array.replicate_zero, List.push_toArray, List.append_toArray, List.nil_append, List.cons_append]
  gi_wp2_with fail
  refine ⟨trivial, ?_⟩
  gi_at_call 57
  refine (callsIn_wide.2 HW.out).mono ?_
  rintro e w1 ⟨rfl, hB⟩
  gi_wp2_with fail
  exact ⟨_, results_tmp rfl _ _ _, by exact congrArg (fun x => Ending.returned (.string x)) (txt_add [101, 114, 114, 111, 114, 32, 52] [10]), hB⟩
end Go.Proofs.YtaablbmgagiajabGreatDoor
namespace Go.Proofs.YtaablbmgagiajabGreatDoor.Ren
open Go Go.Conc Go.RowKit Go.Deep
section
variable {R O : Nat → Prop} {B : Nat} {os : Os} {w0 wl : World}
theorem lw_get (h : LowOk R O B os w0.heap) (hw : wl.heap = (h0Of Classical.propDecidable) R O B w0.heap) {k : Nat} (hk : R k) : ∃ c t, w0.heap[k]? = some (.cells c t (0, 0)) ∧ wl.heap[k]? = some (.cells c t (0, c.size)) := by
  obtain ⟨h1, c, t, h2, _⟩ := h.ro k hk
  exact ⟨c, t, h2, by rw [hw]; exact (h0Of_get h1 h2).1 hk⟩
theorem lw_var (h : LowOk R O B os w0.heap) (hw : wl.heap = (h0Of Classical.propDecidable) R O B w0.heap) {s : String} {k : Nat} (hg : Tryz.prog.globalNamed s = some k) (hk : R k) : wl.var? Tryz.prog s = w0.var? Tryz.prog s := by
  obtain ⟨c, t, h1, h2⟩ := lw_get h hw hk
  simp only [World.var?, hg, Option.bind_some, h1, h2]
structure RdLow (R O : Nat → Prop) (B : Nat) (os : Os) (w0 : World) : Prop where
  low : LowOk R O B os w0.heap
  num : HasNum w0
  B : 7 ≤ B
  pow : R 3
  syn : R 4
  rng : R 5
theorem RdLow.hasNum (h : RdLow R O B os w0) (hw : wl.heap = (h0Of Classical.propDecidable) R O B w0.heap) : HasNum wl := by
  refine ⟨?_, ?_, ?_⟩
  · have := h.num.pow
    unfold HasPow Lib.TabIs at this ⊢
    rw [lw_var h.low hw powG h.pow]
    exact this
  · rw [lw_var h.low hw synG h.syn]
    exact h.num.syn
  · rw [lw_var h.low hw rngG h.rng]
    exact h.num.rng
theorem cont_ses (h : RdLow R O B os w0) (t l : List UInt8) (hc : ∀ w : World, HasNum w → 7 ≤ w.heap.size → Calls Tryz.prog 23 #[.string (txt t)] w fun e w' => e = .returned (.string (txt l)) ∧ Below w.heap.size w w') :
    Cont (env Tryz.prog B R O os) ([Frame.enter Tryz.prog 23 #[.string (txt t)] .normal], (h0Of Classical.propDecidable) R O B w0.heap) (fun v _ => v = .string (txt l)) := by
  refine cont_of_calls fun wl hw _ => ?_
  refine (hc wl (h.hasNum hw) (by rw [hw, h0Of_size]; exact h.B)).mono ?_
  rintro e w' ⟨rfl, _⟩
  exact ⟨_, rfl, rfl⟩
def tellT : List UInt8 := [52, 32, 52, 32, 51, 10, 50, 10, 48, 32, 48, 32, 102, 97, 108, 115, 101, 10, 101, 114, 114, 111, 114, 32, 51, 10]
theorem cont_talk (h : RdLow R O B os w0) : Cont (env Tryz.prog B R O os) ([Frame.enter Tryz.prog 23 #[.string (txt Go.Proofs.YtaablbmgagiajabGreatDoor.t0)] .normal], (h0Of Classical.propDecidable) R O B w0.heap) (fun v _ => v = .string (txt tellT)) := cont_ses h _ _ fun w hn h7 => talk_session w hn h7
def ansL (n : Nat) : List UInt8 := if n ≤ 20000 then ansX n else errF 4 ++ [10]
theorem cont_xs (h : RdLow R O B os w0) (n : Nat) : Cont (env Tryz.prog B R O os) ([Frame.enter Tryz.prog 23 #[.string (txt (xsOf n))] .normal], (h0Of Classical.propDecidable) R O B w0.heap) (fun v _ => v = .string (txt (ansL n))) := cont_ses h _ _ fun w hn h7 => by
  unfold ansL
  split
  · exact ses_xs n ‹_› w hn h7
  · exact ses_long (xsOf n) w (by rw [xs_len]; omega) hn.pow
end
end Go.Proofs.YtaablbmgagiajabGreatDoor.Ren
namespace Go.Proofs.YtaablbmgagiajabGreatDoor.Ren
open Go Go.Conc
variable (pG : Program)
section
variable (z : Frame) (zs : List Frame) (a : Int)
set_option maxRecDepth 100000
def pkA0 : Goroutine := { frame := Frame.enter pG 25 #[.int .i64 a, .int .i64 55] .normal, callers := z :: zs, status := .running, dying := none }
def pkA1 : Goroutine := (nxts pG) true 7 (pkA0 pG z zs a)
theorem sil_pkA0 : SilP true 7 (pkA0 Tryz.prog z zs a) := by
  iterate 7 (refine ⟨⟨by kernel_rfl, fun w => by kernel_rfl⟩, ?_⟩)
  trivial
theorem sym_pkA1 (w : World) : stepG Tryz.prog true (pkA1 Tryz.prog z zs a) w = .go (fin (pkA1 Tryz.prog z zs a) (.int .u64 (IntKind.u64.wrap a))) w #[] := by kernel_rfl
def pkA2 (X : Int) : Goroutine := (nxts pG) true 2 (fin (pkA1 pG z zs a) (.int .u64 X))
theorem sil_pkA1 (X : Int) : SilP true 2 (fin (pkA1 Tryz.prog z zs a) (.int .u64 X)) := by
  iterate 2 (refine ⟨⟨by kernel_rfl, fun w => by kernel_rfl⟩, ?_⟩)
  trivial
theorem sym_pkA2 (X : Int) (w : World) : stepG Tryz.prog true (pkA2 Tryz.prog z zs a X) w = .go (fin (pkA2 Tryz.prog z zs a X) (.int .u64 (X.tmod 55))) w #[] := by kernel_rfl
theorem sym_pkA3 (X Y : Int) (w : World) : stepG Tryz.prog true (fin (pkA2 Tryz.prog z zs a X) (.int .u64 Y)) w = .go (fin (fin (pkA2 Tryz.prog z zs a X) (.int .u64 Y)) (.int .i64 (IntKind.i64.wrap Y))) w #[] := by kernel_rfl
theorem sil_pkA4 (X Y m : Int) : SilP true 3 (fin (fin (pkA2 Tryz.prog z zs a X) (.int .u64 Y)) (.int .i64 m)) := by
  iterate 3 (refine ⟨⟨by kernel_rfl, fun w => by kernel_rfl⟩, ?_⟩)
  trivial
theorem out_pkA (X Y m : Int) : (nxts Tryz.prog true 3 (fin (fin (pkA2 Tryz.prog z zs a X) (.int .u64 Y)) (.int .i64 m))).status = .running ∧ ∀ w, stepG Tryz.prog true (nxts Tryz.prog true 3 (fin (fin (pkA2 Tryz.prog z zs a X) (.int .u64 Y)) (.int .i64 m))) w = .go (sesOut z zs (.int .i64 m)) w #[] := ⟨by kernel_rfl, fun w => by kernel_rfl⟩
theorem run_pkA (X : Int) : (pkA1 Tryz.prog z zs a).status = .running ∧ (pkA2 Tryz.prog z zs a X).status = .running := ⟨by kernel_rfl, by kernel_rfl⟩
def pkB0 : Goroutine := { frame := Frame.enter pG 25 #[.int .i64 a, .int .i64 30000] .normal, callers := z :: zs, status := .running, dying := none }
def pkB1 : Goroutine := (nxts pG) true 7 (pkB0 pG z zs a)
theorem sil_pkB0 : SilP true 7 (pkB0 Tryz.prog z zs a) := by
  iterate 7 (refine ⟨⟨by kernel_rfl, fun w => by kernel_rfl⟩, ?_⟩)
  trivial
theorem sym_pkB1 (w : World) : stepG Tryz.prog true (pkB1 Tryz.prog z zs a) w = .go (fin (pkB1 Tryz.prog z zs a) (.int .u64 (IntKind.u64.wrap a))) w #[] := by kernel_rfl
def pkB2 (X : Int) : Goroutine := (nxts pG) true 2 (fin (pkB1 pG z zs a) (.int .u64 X))
theorem sil_pkB1 (X : Int) : SilP true 2 (fin (pkB1 Tryz.prog z zs a) (.int .u64 X)) := by
  iterate 2 (refine ⟨⟨by kernel_rfl, fun w => by kernel_rfl⟩, ?_⟩)
  trivial
theorem sym_pkB2 (X : Int) (w : World) : stepG Tryz.prog true (pkB2 Tryz.prog z zs a X) w = .go (fin (pkB2 Tryz.prog z zs a X) (.int .u64 (X.tmod 30000))) w #[] := by kernel_rfl
theorem sym_pkB3 (X Y : Int) (w : World) : stepG Tryz.prog true (fin (pkB2 Tryz.prog z zs a X) (.int .u64 Y)) w = .go (fin (fin (pkB2 Tryz.prog z zs a X) (.int .u64 Y)) (.int .i64 (IntKind.i64.wrap Y))) w #[] := by kernel_rfl
theorem sil_pkB4 (X Y m : Int) : SilP true 3 (fin (fin (pkB2 Tryz.prog z zs a X) (.int .u64 Y)) (.int .i64 m)) := by
  iterate 3 (refine ⟨⟨by kernel_rfl, fun w => by kernel_rfl⟩, ?_⟩)
  trivial
theorem out_pkB (X Y m : Int) : (nxts Tryz.prog true 3 (fin (fin (pkB2 Tryz.prog z zs a X) (.int .u64 Y)) (.int .i64 m))).status = .running ∧ ∀ w, stepG Tryz.prog true (nxts Tryz.prog true 3 (fin (fin (pkB2 Tryz.prog z zs a X) (.int .u64 Y)) (.int .i64 m))) w = .go (sesOut z zs (.int .i64 m)) w #[] := ⟨by kernel_rfl, fun w => by kernel_rfl⟩
theorem run_pkB (X : Int) : (pkB1 Tryz.prog z zs a).status = .running ∧ (pkB2 Tryz.prog z zs a X).status = .running := ⟨by kernel_rfl, by kernel_rfl⟩
end
section
variable (a b c : Int)
set_option maxRecDepth 100000
def la0 : Goroutine := { frame := Frame.enter pG 8 #[.int .i64 a, .int .i64 b, .int .i64 c] .normal, callers := [], status := .running, dying := none }
def la1 : Goroutine := (nxts pG) true 15 (la0 pG a b c)
theorem sil_la0 : SilP true 15 (la0 Tryz.prog a b c) := by
  iterate 15 (refine ⟨⟨by kernel_rfl, fun w => by kernel_rfl⟩, ?_⟩)
  trivial
def laz : Frame := (la1 pG a b c).callers.headD default
def lazs : List Frame := (la1 pG a b c).callers.tail
theorem la1_ses : (la1 Tryz.prog) a b c = gor [Frame.enter Tryz.prog 23 #[.string (txt Go.Proofs.YtaablbmgagiajabGreatDoor.t0)] .normal] (laz Tryz.prog a b c :: (lazs Tryz.prog) a b c) := by kernel_rfl
def la2 : Goroutine := (nxts pG) true 13 (sesOut (laz pG a b c) (lazs pG a b c) (.string (txt tellT)))
theorem sil_la2 : SilP true 13 (sesOut (laz Tryz.prog a b c) (lazs Tryz.prog a b c) (.string (txt tellT))) := by
  iterate 13 (refine ⟨⟨by kernel_rfl, fun w => by kernel_rfl⟩, ?_⟩)
  trivial
def lbz : Frame := (la2 pG a b c).callers.headD default
theorem la2_pk : (la2 Tryz.prog) a b c = (pkA0 Tryz.prog) (lbz Tryz.prog a b c) [] a := by kernel_rfl
variable (m : Int)
theorem sil_la3 : SilP true 2 (sesOut (lbz Tryz.prog a b c) [] (.int .i64 m)) := by
  iterate 2 (refine ⟨⟨by kernel_rfl, fun w => by kernel_rfl⟩, ?_⟩)
  trivial
def lcz : Frame := (nxts pG true 2 (sesOut (lbz pG a b c) [] (.int .i64 m))).callers.headD default
theorem la3_pk : (nxts Tryz.prog) true 2 (sesOut (lbz Tryz.prog a b c) [] (.int .i64 m)) = (pkB0 Tryz.prog) (lcz Tryz.prog a b c m) [] c := by kernel_rfl
variable (n : Int)
theorem sil_la4 : SilP true 3 (sesOut (lcz Tryz.prog a b c m) [] (.int .i64 n)) := by
  iterate 3 (refine ⟨⟨by kernel_rfl, fun w => by kernel_rfl⟩, ?_⟩)
  trivial
end
def lbd : Code := (((pG.funcs[8]?).getD default).body.getD .skip)
def lg (x0 x1 x2 x7 x8 x9 x10 x11 x12 x13 : Value) (J : Nat → Value) (todo : List Item) : Goroutine := { frame := { fn := 8, tmps := #[x0, x1, x2, J 3, J 4, J 5, J 6, x7, x8, x9, x10, x11, x12, x13, J 14, J 15, J 16, J 17, J 18, J 19, J 20, J 21, J 22, J 23, J 24, J 25, J 26, J 27, J 28, J 29, J 30, J 31, J 32, J 33, J 34, J 35, J 36, J 37, J 38, J 39, J 40, J 41, J 42, J 43, J 44, J 45, J 46, J 47, J 48, J 49, J 50, J 51, J 52, J 53, J 54, J 55, J 56, J 57, J 58, J 59, J 60, J 61, J 62, J 63, J 64, J 65, J 66, J 67, J 68, J 69, J 70, J 71, J 72, J 73, J 74, J 75, J 76, J 77, J 78, J 79, J 80, J 81, J 82], todo, defers := [], mode := .run, kind := .normal }, callers := [], status := .running, dying := none }
def lh (m b n : Int) (J : Nat → Value) : Goroutine := lg (.int .i64 m) (.int .i64 b) (.int .i64 n) (J 7) (J 8) (J 9) (J 10) (J 11) (J 12) (J 13) J [.code (c2 (c2 (c2 (lbd pG))))]
section
variable (a b c m n : Int)
set_option maxRecDepth 100000
theorem lh_la4 : (nxts Tryz.prog) true 3 (sesOut (lcz Tryz.prog a b c m) [] (.int .i64 n)) = (lh Tryz.prog) m b n (gJ (nxts Tryz.prog true 3 (sesOut (lcz Tryz.prog a b c m) [] (.int .i64 n)))) := by kernel_rfl
end
variable (pG : Program)
def ce : Code → Code
  | .cond _ _ b => b
  | c => c
def l5 : Code := c2 (c2 (c2 (c2 (c2 (lbd pG)))))
def l6 : Code := c2 (l5 pG)
def lX : Code := ci (ci (c2 (c2 (ce (c2 (c1 (l5 pG)))))))
section
variable (p : Pa) (b n : Int) (J : Nat → Value)
set_option maxRecDepth 100000
def lb1 : Goroutine := (nxts pG) true 3 (lh pG p.m b n J)
theorem sil_lh : SilP true 3 (lh Tryz.prog p.m b n J) := by
  iterate 3 (refine ⟨⟨by kernel_rfl, fun w => by kernel_rfl⟩, ?_⟩)
  trivial
theorem ms_lb1 (w : World) : atOp (lb1 Tryz.prog p b n J) = true ∧ (lb1 Tryz.prog p b n J).status = .running ∧ (execOp (lb1 Tryz.prog p b n J).frame.eval (opAt (lb1 Tryz.prog p b n J))).runT Tryz.prog w #[] = (msS p.m).runT Tryz.prog w #[] := ⟨by kernel_rfl, by kernel_rfl, by kernel_rfl⟩
variable (T : Nat)
def lb2 : Goroutine := fin (lb1 pG p b n J) (.slice (some ⟨T, 0, none⟩) p.m p.m)
theorem sil_lb2 : SilP true 7 (lb2 Tryz.prog p b n J T) := by
  iterate 7 (refine ⟨⟨by kernel_rfl, fun w => by kernel_rfl⟩, ?_⟩)
  trivial
def ldz : Frame := (nxts pG true 7 (lb2 pG p b n J T)).callers.headD default
theorem lb2_all : (nxts Tryz.prog) true 7 (lb2 Tryz.prog p b n J T) = (al0 Tryz.prog) p (ldz Tryz.prog p b n J T :: []) (some ⟨T, 0, none⟩) p.m b := by kernel_rfl
variable (H : World) (S : Nat)
def lk (v9 : Value) (x8 : Value) (J : Nat → Value) : Goroutine := lg (.int .i64 p.m) (.int .i64 b) (.int .i64 n) (J 7) x8 v9 (J 10) (J 11) (J 12) (J 13) J [.code (l5 pG)]
theorem sil_lb3 (x8 v9 : Value) : SilP true 6 (sesOut (ldz Tryz.prog p b n J T) [] (.tuple #[x8, v9])) := by
  iterate 6 (refine ⟨⟨by kernel_rfl, fun w => by kernel_rfl⟩, ?_⟩)
  trivial
theorem lk_lb3 (x8 v9 : Value) : (nxts Tryz.prog) true 6 (sesOut (ldz Tryz.prog p b n J T) [] (.tuple #[x8, v9])) = (lk Tryz.prog) p b n v9 x8 (gJ (nxts Tryz.prog true 6 (sesOut (ldz Tryz.prog p b n J T) [] (.tuple #[x8, v9])))) := by kernel_rfl
variable (v9 x8 : Value)
def lk1 : Goroutine := (nxts pG) true 4 (lk pG p b n v9 x8 J)
theorem sil_lk : SilP true 4 (lk Tryz.prog p b n v9 x8 J) := by
  iterate 4 (refine ⟨⟨by kernel_rfl, fun w => by kernel_rfl⟩, ?_⟩)
  trivial
theorem sym_lk1 (w : World) : stepG Tryz.prog true (lk1 Tryz.prog p b n J v9 x8) w = .go (fin (lk1 Tryz.prog p b n J v9 x8) (.bool (decide ((p.m : Int) > 50)))) w #[] := by kernel_rfl
def lk2 : Goroutine := (nxts pG) true 2 (fin (lk1 pG p b n J v9 x8) (.bool false))
theorem sil_lk1 : SilP true 2 (fin (lk1 Tryz.prog p b n J v9 x8) (.bool false)) := by
  iterate 2 (refine ⟨⟨by kernel_rfl, fun w => by kernel_rfl⟩, ?_⟩)
  trivial
theorem sym_lk2 (w : World) : stepG Tryz.prog true (lk2 Tryz.prog p b n J v9 x8) w = .go (fin (lk2 Tryz.prog p b n J v9 x8) (.bool (decide (b < 1)))) w #[] := by kernel_rfl
def lk3 : Goroutine := (nxts pG) true 3 (fin (lk2 pG p b n J v9 x8) (.bool false))
theorem sil_lk2 : SilP true 3 (fin (lk2 Tryz.prog p b n J v9 x8) (.bool false)) := by
  iterate 3 (refine ⟨⟨by kernel_rfl, fun w => by kernel_rfl⟩, ?_⟩)
  trivial
theorem sym_lk3 (w : World) : stepG Tryz.prog true (lk3 Tryz.prog p b n J v9 x8) w = .go (fin (lk3 Tryz.prog p b n J v9 x8) (.bool (decide (b > 16)))) w #[] := by kernel_rfl
section
variable (s : Nat)
def lk4 : Goroutine := (nxts pG) true 12 (fin (lk3 pG p b n J .nilIface (.slice (some ⟨s, 0, none⟩) p.m p.m)) (.bool false))
theorem sil_lk3 : SilP true 12 (fin (lk3 Tryz.prog p b n J .nilIface (.slice (some ⟨s, 0, none⟩) p.m p.m)) (.bool false)) := by
  iterate 12 (refine ⟨⟨by kernel_rfl, fun w => by kernel_rfl⟩, ?_⟩)
  trivial
theorem sym_lk4 (w : World) : stepG Tryz.prog true (lk4 Tryz.prog p b n J s) w = .go (fin (lk4 Tryz.prog p b n J s) (.bool (!((p.m : Int) == (p.m : Int))))) w #[] := by kernel_rfl
def lq (s : Nat) (i : Int) (J : Nat → Value) : Goroutine := lg (.int .i64 p.m) (.int .i64 b) (.int .i64 n) (J 7) (.slice (some ⟨s, 0, none⟩) p.m p.m) .nilIface (.int .i64 i) (J 11) (J 12) (J 13) J [.code (lX pG), .inLoop (lX pG), .inBlock 0, .code (l6 pG)]
theorem sil_lk4 : SilP true 10 (fin (lk4 Tryz.prog p b n J s) (.bool false)) := by
  iterate 10 (refine ⟨⟨by kernel_rfl, fun w => by kernel_rfl⟩, ?_⟩)
  trivial
theorem lq_lk4 : (nxts Tryz.prog) true 10 (fin (lk4 Tryz.prog p b n J s) (.bool false)) = (lq Tryz.prog) p b n s 0 (gJ (nxts Tryz.prog true 10 (fin (lk4 Tryz.prog p b n J s) (.bool false)))) := by kernel_rfl
variable (i : Int)
def lq1 : Goroutine := (nxts pG) true 5 (lq pG p b n s i J)
theorem sil_lq : SilP true 5 (lq Tryz.prog p b n s i J) := by
  iterate 5 (refine ⟨⟨by kernel_rfl, fun w => by kernel_rfl⟩, ?_⟩)
  trivial
theorem sym_lq1 (w : World) : stepG Tryz.prog true (lq1 Tryz.prog p b n J s i) w = .go (fin (lq1 Tryz.prog p b n J s i) (.bool (decide (i < (p.m : Int))))) w #[] := by kernel_rfl
def lq2 : Goroutine := (nxts pG) true 9 (fin (lq1 pG p b n J s i) (.bool true))
theorem sil_lq1 : SilP true 9 (fin (lq1 Tryz.prog p b n J s i) (.bool true)) := by
  iterate 9 (refine ⟨⟨by kernel_rfl, fun w => by kernel_rfl⟩, ?_⟩)
  trivial
theorem ix_lq2 (w : World) : atOp (lq2 Tryz.prog p b n J s i) = true ∧ (lq2 Tryz.prog p b n J s i).status = .running ∧ (execOp (lq2 Tryz.prog p b n J s i).frame.eval (opAt (lq2 Tryz.prog p b n J s i))).runT Tryz.prog w #[] = (idx2S (some ⟨s, 0, none⟩) p.m p.m i).runT Tryz.prog w #[] := ⟨by kernel_rfl, by kernel_rfl, by kernel_rfl⟩
variable (d : Addr)
def lq3 : Goroutine := fin (lq2 pG p b n J s i) (.pointer (some d))
theorem ld_lq3 (w : World) : atOp (lq3 Tryz.prog p b n J s i d) = true ∧ (lq3 Tryz.prog p b n J s i d).frame.fn = 8 ∧ (execOp (lq3 Tryz.prog p b n J s i d).frame.eval (opAt (lq3 Tryz.prog p b n J s i d))).runT Tryz.prog w #[] = (ldS d).runT Tryz.prog w #[] := ⟨by kernel_rfl, by kernel_rfl, by kernel_rfl⟩
def lq4 : Goroutine := (nxts pG) true 7 (fin (lq3 pG p b n J s i d) (.string (txt [111, 107, 10])))
theorem sil_lq3 : SilP true 7 (fin (lq3 Tryz.prog p b n J s i d) (.string (txt [111, 107, 10]))) := by
  iterate 7 (refine ⟨⟨by kernel_rfl, fun w => by kernel_rfl⟩, ?_⟩)
  trivial
theorem sym_lq4 (w : World) : stepG Tryz.prog true (lq4 Tryz.prog p b n J s i d) w = .go (fin (lq4 Tryz.prog p b n J s i d) (.int .i64 (IntKind.i64.wrap (i + 1)))) w #[] := by kernel_rfl
theorem sil_lq4 (j : Int) : SilP true 3 (fin (lq4 Tryz.prog p b n J s i d) (.int .i64 j)) := by
  iterate 3 (refine ⟨⟨by kernel_rfl, fun w => by kernel_rfl⟩, ?_⟩)
  trivial
theorem lq_lq4 (j : Int) : (nxts Tryz.prog) true 3 (fin (lq4 Tryz.prog p b n J s i d) (.int .i64 j)) = (lq Tryz.prog) p b n s j (gJ (nxts Tryz.prog true 3 (fin (lq4 Tryz.prog p b n J s i d) (.int .i64 j)))) := by kernel_rfl
def lr (n : Int) (J : Nat → Value) : Goroutine := lg (J 0) (J 1) (.int .i64 n) (J 7) (J 8) (J 9) (J 10) (J 11) (J 12) (J 13) J [.code (l6 pG)]
theorem sil_lq5 : SilP true 3 (fin (lq1 Tryz.prog p b n J s i) (.bool false)) := by
  iterate 3 (refine ⟨⟨by kernel_rfl, fun w => by kernel_rfl⟩, ?_⟩)
  trivial
theorem lr_lq5 : (nxts Tryz.prog) true 3 (fin (lq1 Tryz.prog p b n J s i) (.bool false)) = (lr Tryz.prog) n (gJ (nxts Tryz.prog true 3 (fin (lq1 Tryz.prog p b n J s i) (.bool false)))) := by kernel_rfl
theorem run_lq : (lk1 Tryz.prog p b n J v9 x8).status = .running ∧ (lk2 Tryz.prog p b n J v9 x8).status = .running ∧ (lk3 Tryz.prog p b n J v9 x8).status = .running ∧ (lk4 Tryz.prog p b n J s).status = .running ∧ (lq1 Tryz.prog p b n J s i).status = .running ∧ (lq4 Tryz.prog p b n J s i d).status = .running := ⟨by kernel_rfl, by kernel_rfl, by kernel_rfl, by kernel_rfl, by kernel_rfl, by kernel_rfl⟩
end
end
variable (pG : Program)
def l7 : Code := c2 (c2 (l6 pG))
def lY : Code := ci (ci (c2 (c1 (c2 (l6 pG)))))
def msB (m : Int) : Sem Next := Instr.makeSlice 37 (.int .i64 m) (.int .i64 m) >>= fun v => pure (.value v)
def idxB (Q m : Nat) (k : Int) : Sem Next := Instr.indexAt 37 (.slice (some ⟨Q, 0, none⟩) m m) (.int .i64 k) >>= fun v => pure (.value v)
section
variable (n : Nat) (J : Nat → Value)
set_option maxRecDepth 100000
def lc1 : Goroutine := (nxts pG) true 3 (lr pG n J)
theorem sil_lr : SilP true 3 (lr Tryz.prog n J) := by
  iterate 3 (refine ⟨⟨by kernel_rfl, fun w => by kernel_rfl⟩, ?_⟩)
  trivial
theorem ms_lc1 (w : World) : atOp (lc1 Tryz.prog n J) = true ∧ (lc1 Tryz.prog n J).status = .running ∧ (execOp (lc1 Tryz.prog n J).frame.eval (opAt (lc1 Tryz.prog n J))).runT Tryz.prog w #[] = (msB n).runT Tryz.prog w #[] := ⟨by kernel_rfl, by kernel_rfl, by kernel_rfl⟩
variable (Q : Nat)
def ls (i : Int) (J : Nat → Value) : Goroutine := lg (J 0) (J 1) (.int .i64 n) (J 7) (J 8) (J 9) (J 10) (.slice (some ⟨Q, 0, none⟩) n n) (.int .i64 i) (J 13) J [.code (lY pG), .inLoop (lY pG), .inBlock 2, .code (l7 pG)]
def lc2 : Goroutine := fin (lc1 pG n J) (.slice (some ⟨Q, 0, none⟩) n n)
theorem sil_lc2 : SilP true 9 (lc2 Tryz.prog n J Q) := by
  iterate 9 (refine ⟨⟨by kernel_rfl, fun w => by kernel_rfl⟩, ?_⟩)
  trivial
theorem ls_lc2 : (nxts Tryz.prog) true 9 (lc2 Tryz.prog n J Q) = (ls Tryz.prog) n Q 0 (gJ (nxts Tryz.prog true 9 (lc2 Tryz.prog n J Q))) := by kernel_rfl
variable (i : Int)
def ls1 : Goroutine := (nxts pG) true 5 (ls pG n Q i J)
theorem sil_ls : SilP true 5 (ls Tryz.prog n Q i J) := by
  iterate 5 (refine ⟨⟨by kernel_rfl, fun w => by kernel_rfl⟩, ?_⟩)
  trivial
theorem sym_ls1 (w : World) : stepG Tryz.prog true (ls1 Tryz.prog n J Q i) w = .go (fin (ls1 Tryz.prog n J Q i) (.bool (decide (i < (n : Int))))) w #[] := by kernel_rfl
def ls2 : Goroutine := (nxts pG) true 8 (fin (ls1 pG n J Q i) (.bool true))
theorem sil_ls1 : SilP true 8 (fin (ls1 Tryz.prog n J Q i) (.bool true)) := by
  iterate 8 (refine ⟨⟨by kernel_rfl, fun w => by kernel_rfl⟩, ?_⟩)
  trivial
theorem ix_ls2 (w : World) : atOp (ls2 Tryz.prog n J Q i) = true ∧ (ls2 Tryz.prog n J Q i).status = .running ∧ (execOp (ls2 Tryz.prog n J Q i).frame.eval (opAt (ls2 Tryz.prog n J Q i))).runT Tryz.prog w #[] = (idxB Q n i).runT Tryz.prog w #[] := ⟨by kernel_rfl, by kernel_rfl, by kernel_rfl⟩
variable (d : Addr)
def ls3 : Goroutine := fin (ls2 pG n J Q i) (.pointer (some d))
theorem st_ls3 (w : World) : atOp (ls3 Tryz.prog n J Q i d) = true ∧ (ls3 Tryz.prog n J Q i d).frame.fn = 8 ∧ (execOp (ls3 Tryz.prog n J Q i d).frame.eval (opAt (ls3 Tryz.prog n J Q i d))).runT Tryz.prog w #[] = (stS d (.int .u8 120)).runT Tryz.prog w #[] := ⟨by kernel_rfl, by kernel_rfl, by kernel_rfl⟩
def ls4 : Goroutine := (nxts pG) true 4 (fin (ls3 pG n J Q i d) undef)
theorem sil_ls3 : SilP true 4 (fin (ls3 Tryz.prog n J Q i d) undef) := by
  iterate 4 (refine ⟨⟨by kernel_rfl, fun w => by kernel_rfl⟩, ?_⟩)
  trivial
theorem sym_ls4 (w : World) : stepG Tryz.prog true (ls4 Tryz.prog n J Q i d) w = .go (fin (ls4 Tryz.prog n J Q i d) (.int .i64 (IntKind.i64.wrap (i + 1)))) w #[] := by kernel_rfl
theorem sil_ls4 (j : Int) : SilP true 3 (fin (ls4 Tryz.prog n J Q i d) (.int .i64 j)) := by
  iterate 3 (refine ⟨⟨by kernel_rfl, fun w => by kernel_rfl⟩, ?_⟩)
  trivial
theorem ls_ls4 (j : Int) : (nxts Tryz.prog) true 3 (fin (ls4 Tryz.prog n J Q i d) (.int .i64 j)) = (ls Tryz.prog) n Q j (gJ (nxts Tryz.prog true 3 (fin (ls4 Tryz.prog n J Q i d) (.int .i64 j)))) := by kernel_rfl
def lu (J : Nat → Value) : Goroutine := lg (J 0) (J 1) (.int .i64 n) (J 7) (J 8) (J 9) (J 10) (.slice (some ⟨Q, 0, none⟩) n n) (J 12) (J 13) J [.code (l7 pG)]
theorem sil_ls5 : SilP true 3 (fin (ls1 Tryz.prog n J Q i) (.bool false)) := by
  iterate 3 (refine ⟨⟨by kernel_rfl, fun w => by kernel_rfl⟩, ?_⟩)
  trivial
theorem lu_ls5 : (nxts Tryz.prog) true 3 (fin (ls1 Tryz.prog n J Q i) (.bool false)) = (lu Tryz.prog) n Q (gJ (nxts Tryz.prog true 3 (fin (ls1 Tryz.prog n J Q i) (.bool false)))) := by kernel_rfl
def lu1 : Goroutine := (nxts pG) true 8 (lu pG n Q J)
theorem sil_lu : SilP true 8 (lu Tryz.prog n Q J) := by
  iterate 8 (refine ⟨⟨by kernel_rfl, fun w => by kernel_rfl⟩, ?_⟩)
  trivial
theorem sym_lu1 (w : World) : stepG Tryz.prog true (lu1 Tryz.prog n J Q) w = .go (fin (lu1 Tryz.prog n J Q) (.bool (decide ((n : Int) > 20000)))) w #[] := by kernel_rfl
def lu2t : Goroutine := (nxts pG) true 9 (fin (lu1 pG n J Q) (.bool true))
theorem sil_lu1t : SilP true 9 (fin (lu1 Tryz.prog n J Q) (.bool true)) := by
  iterate 9 (refine ⟨⟨by kernel_rfl, fun w => by kernel_rfl⟩, ?_⟩)
  trivial
theorem sym_lu2t (w : World) : stepG Tryz.prog true (lu2t Tryz.prog n J Q) w = .go (fin (lu2t Tryz.prog n J Q) (.bool ((n : Int) == 0))) w #[] := by kernel_rfl
def lu2f : Goroutine := (nxts pG) true 7 (fin (lu1 pG n J Q) (.bool false))
theorem sil_lu1f : SilP true 7 (fin (lu1 Tryz.prog n J Q) (.bool false)) := by
  iterate 7 (refine ⟨⟨by kernel_rfl, fun w => by kernel_rfl⟩, ?_⟩)
  trivial
theorem sym_lu2f (w : World) : stepG Tryz.prog true (lu2f Tryz.prog n J Q) w = .go (fin (lu2f Tryz.prog n J Q) (.bool ((n : Int) == 0))) w #[] := by kernel_rfl
def lv (v : ByteArray) (J : Nat → Value) : Goroutine := lg (J 0) (J 1) (J 2) (J 7) (J 8) (J 9) (J 10) (.slice (some ⟨Q, 0, none⟩) n n) (J 12) (.string v) J [.code (c2 (c2 (c2 (l7 pG))))]
theorem sil_lvA : SilP true 3 (fin (lu2t Tryz.prog n J Q) (.bool false)) := by
  iterate 3 (refine ⟨⟨by kernel_rfl, fun w => by kernel_rfl⟩, ?_⟩)
  trivial
theorem lvA_lv : (nxts Tryz.prog) true 3 (fin (lu2t Tryz.prog n J Q) (.bool false)) = (lv Tryz.prog) n Q (txt [101, 114, 114, 111, 114, 32, 52, 10]) (gJ (nxts Tryz.prog true 3 (fin (lu2t Tryz.prog n J Q) (.bool false)))) := by kernel_rfl
theorem sil_lvB : SilP true 3 (fin (lu2f Tryz.prog n J Q) (.bool false)) := by
  iterate 3 (refine ⟨⟨by kernel_rfl, fun w => by kernel_rfl⟩, ?_⟩)
  trivial
theorem lvB_lv : (nxts Tryz.prog) true 3 (fin (lu2f Tryz.prog n J Q) (.bool false)) = (lv Tryz.prog) n Q (txt [101, 114, 114, 111, 114, 32, 51, 10]) (gJ (nxts Tryz.prog true 3 (fin (lu2f Tryz.prog n J Q) (.bool false)))) := by kernel_rfl
theorem sil_lvC : SilP true 5 (fin (lu2f Tryz.prog n J Q) (.bool true)) := by
  iterate 5 (refine ⟨⟨by kernel_rfl, fun w => by kernel_rfl⟩, ?_⟩)
  trivial
theorem lvC_lv : (nxts Tryz.prog) true 5 (fin (lu2f Tryz.prog n J Q) (.bool true)) = (lv Tryz.prog) n Q (txt [111, 107, 10]) (gJ (nxts Tryz.prog true 5 (fin (lu2f Tryz.prog n J Q) (.bool true)))) := by kernel_rfl
variable (v : ByteArray)
def lv1 : Goroutine := (nxts pG) true 3 (lv pG n Q v J)
theorem sil_lv : SilP true 3 (lv Tryz.prog n Q v J) := by
  iterate 3 (refine ⟨⟨by kernel_rfl, fun w => by kernel_rfl⟩, ?_⟩)
  trivial
def cvB (Q m : Nat) : Sem Next := cvS 37 9 (.slice (some ⟨Q, 0, none⟩) m m)
theorem cv_lv1 (w : World) : atOp (lv1 Tryz.prog n J Q v) = true ∧ (lv1 Tryz.prog n J Q v).status = .running ∧ (lv1 Tryz.prog n J Q v).frame.fn = 8 ∧ (execOp (lv1 Tryz.prog n J Q v).frame.eval (opAt (lv1 Tryz.prog n J Q v))).runT Tryz.prog w #[] = (cvB Q n).runT Tryz.prog w #[] := ⟨by kernel_rfl, by kernel_rfl, by kernel_rfl, by kernel_rfl⟩
variable (s : ByteArray)
def lv2 : Goroutine := fin (lv1 pG n J Q v) (.string s)
theorem sil_lv2 : SilP true 1 (lv2 Tryz.prog n J Q v s) := by
  iterate 1 (refine ⟨⟨by kernel_rfl, fun w => by kernel_rfl⟩, ?_⟩)
  trivial
def lez : Frame := (nxts pG true 1 (lv2 pG n J Q v s)).callers.headD default
theorem lv2_ses : (nxts Tryz.prog) true 1 (lv2 Tryz.prog n J Q v s) = gor [Frame.enter Tryz.prog 23 #[.string s] .normal] (lez Tryz.prog n J Q v s :: []) := by kernel_rfl
theorem sil_leA : SilP true 5 (sesOut (lez Tryz.prog n J Q (txt [101, 114, 114, 111, 114, 32, 52, 10]) s) [] (.string (txt [101, 114, 114, 111, 114, 32, 52, 10]))) := by
  iterate 5 (refine ⟨⟨by kernel_rfl, fun w => by kernel_rfl⟩, ?_⟩)
  trivial
theorem end_leA : (nxts Tryz.prog true 5 (sesOut (lez Tryz.prog n J Q (txt [101, 114, 114, 111, 114, 32, 52, 10]) s) [] (.string (txt [101, 114, 114, 111, 114, 32, 52, 10])))).status = .running ∧ ∀ w, stepG Tryz.prog true (nxts Tryz.prog true 5 (sesOut (lez Tryz.prog n J Q (txt [101, 114, 114, 111, 114, 32, 52, 10]) s) [] (.string (txt [101, 114, 114, 111, 114, 32, 52, 10])))) w = .ended (.done (.bool true)) w #[] := ⟨by kernel_rfl, fun w => by kernel_rfl⟩
theorem sil_leB : SilP true 5 (sesOut (lez Tryz.prog n J Q (txt [101, 114, 114, 111, 114, 32, 51, 10]) s) [] (.string (txt [101, 114, 114, 111, 114, 32, 51, 10]))) := by
  iterate 5 (refine ⟨⟨by kernel_rfl, fun w => by kernel_rfl⟩, ?_⟩)
  trivial
theorem end_leB : (nxts Tryz.prog true 5 (sesOut (lez Tryz.prog n J Q (txt [101, 114, 114, 111, 114, 32, 51, 10]) s) [] (.string (txt [101, 114, 114, 111, 114, 32, 51, 10])))).status = .running ∧ ∀ w, stepG Tryz.prog true (nxts Tryz.prog true 5 (sesOut (lez Tryz.prog n J Q (txt [101, 114, 114, 111, 114, 32, 51, 10]) s) [] (.string (txt [101, 114, 114, 111, 114, 32, 51, 10])))) w = .ended (.done (.bool true)) w #[] := ⟨by kernel_rfl, fun w => by kernel_rfl⟩
theorem sil_leC : SilP true 5 (sesOut (lez Tryz.prog n J Q (txt [111, 107, 10]) s) [] (.string (txt [111, 107, 10]))) := by
  iterate 5 (refine ⟨⟨by kernel_rfl, fun w => by kernel_rfl⟩, ?_⟩)
  trivial
theorem end_leC : (nxts Tryz.prog true 5 (sesOut (lez Tryz.prog n J Q (txt [111, 107, 10]) s) [] (.string (txt [111, 107, 10])))).status = .running ∧ ∀ w, stepG Tryz.prog true (nxts Tryz.prog true 5 (sesOut (lez Tryz.prog n J Q (txt [111, 107, 10]) s) [] (.string (txt [111, 107, 10])))) w = .ended (.done (.bool true)) w #[] := ⟨by kernel_rfl, fun w => by kernel_rfl⟩
theorem run_ls : (ls1 Tryz.prog n J Q i).status = .running ∧ (ls4 Tryz.prog n J Q i d).status = .running ∧ (lu1 Tryz.prog n J Q).status = .running ∧ (lu2t Tryz.prog n J Q).status = .running ∧ (lu2f Tryz.prog n J Q).status = .running := ⟨by kernel_rfl, by kernel_rfl, by kernel_rfl, by kernel_rfl, by kernel_rfl⟩
end
theorem info_u8 : ∃ i, Tryz.prog.info? 5 = some i ∧ i.zero = some (.int .u8 0) ∧ i.size = 1 ∧ i.bytes = 1 := ⟨(Tryz.prog.info? 5).getD default, by kernel_rfl, by kernel_rfl, by kernel_rfl, by kernel_rfl⟩
theorem und_bs : Tryz.prog.underlying 37 = some (.slice 5) := by kernel_rfl
theorem run_msB {m : Nat} (hm : m ≤ 30000) (w : World) : (msB m).run Tryz.prog w = .ok (.value (.slice (some ⟨w.heap.size, 0, none⟩) m m)) { w with heap := w.heap.push (.cells (madeCells #[.int .u8 0] m) 5) } ∧ (msB m).events Tryz.prog w #[] = #[] := by
  obtain ⟨i, h1, h2, h3, h4⟩ := info_u8
  have hr := run_makeSlice (P := Tryz.prog) w 37 5 i (.int .u8 0) und_bs h1 h2 .i64 .i64 (m : Int) (m : Int) (by omega) (by omega) (by rw [h3]; simp; omega) (by rw [h4]; omega) (by omega)
  have he := events_make (P := Tryz.prog) w 37 5 i (.int .u8 0) und_bs h1 h2 .i64 .i64 (m : Int) (m : Int) (by omega) (by omega) (by rw [h4]; omega) (by omega) (by rw [h4]; simp; omega) #[]
  rw [h3] at hr
  refine ⟨?_, ?_⟩
  · simp only [msB, Sem.run_bind, hr]
    simp only [Int.toNat_natCast, Nat.mul_one]
    rfl
  · simp only [msB, Sem.events_bind, he, hr]
    simp
theorem run_idxB {Q m k : Nat} (h : k < m) (w : World) : (idxB Q m k).run Tryz.prog w = .ok (.value (.pointer (some ⟨Q, k, none⟩))) w ∧ (idxB Q m k).events Tryz.prog w #[] = #[] := by
  have hu : Tryz.prog.underlying 37 = some (.slice (Tryz.prog.elem 37)) := by kernel_rfl
  have hs : (sizeOf (Tryz.prog.elem 37)).run Tryz.prog w = .ok 1 w := by kernel_rfl
  have hi : (0 ≤ (k : Int) ∧ (k : Int) < (m : Int)) := by omega
  simp [idxB, run_indexAt_slice (h := hu), events_indexAt_slice (h := hu) (hi := hi), hi, hs, Addr.add]
  omega
theorem str_xs (n : Nat) : strOfNums (List.replicate n 120) = txt (xsOf n) := by
  unfold strOfNums
  rw [List.map_replicate]
  rfl
theorem events_forIn_bytes {P : Program} {w : World} (f : Value → ByteArray → Sem (ForInStep ByteArray))
    (hf : ∀ (n : Int) (r : ByteArray), (f (.int .u8 n) r).run P w = .ok (.yield (r.push (UInt8.ofNat n.toNat))) w) (he : ∀ (n : Int) (r : ByteArray) (es : Array Event), (f (.int .u8 n) r).events P w es = es) :
    ∀ (ns : List Int) (s : ByteArray) (es : Array Event), (forIn (ns.map (Value.int .u8)) s f).events P w es = es := by
  intro ns
  induction ns with
  | nil => intro s es; simp
  | cons n ns ih =>
    intro s es
    simp only [List.map_cons, List.forIn_cons, Sem.events_bind, hf, he]
    exact ih _ _
theorem cv_bytes {Q n : Nat} {w : World} (hc : ∀ j, j < n → w.cell? ⟨Q, j, none⟩ = some (.int .u8 120)) : (cvB Q n).run Tryz.prog w = .ok (.value (.string (txt (xsOf n)))) w ∧ ∀ e ∈ (cvB Q n).events Tryz.prog w #[], Event.readsIn (· = Q) e := by
  have he : Tryz.prog.underlying 5 = some (.int .u8) := by kernel_rfl
  have hd : Tryz.prog.underlying 9 = some .string := by kernel_rfl
  have hr := run_convert_bytes_arg (P := Tryz.prog) w 37 5 und_bs he Q 0 n n (List.replicate n 120) (by simp) (fun i hi => by
    rw [Nat.zero_add, hc i hi]
    simp [List.getD, hi]) 9 hd
  rw [str_xs] at hr
  refine ⟨by simp [cvB, cvS, hr], fun e hme => ?_⟩
  have e1 : (cvB Q n).events Tryz.prog w #[] = (convert 37 9 (.slice (some ⟨Q, 0, none⟩) n n)).events Tryz.prog w #[] := by simp [cvB, cvS]
  have e2 : (convert 37 9 (.slice (some ⟨Q, 0, none⟩) n n)).events Tryz.prog w #[] = (Conv.bytesToString (.slice (some ⟨Q, 0, none⟩) n n)).events Tryz.prog w #[] := by
    simp [convert, run_underlying und_bs, run_underlying hd, run_underlying he]
  have hl : (loadCells ⟨Q, 0, none⟩ n).run Tryz.prog w = .ok ((List.replicate n (120 : Int)).map (Value.int .u8)).toArray w := by
    have := run_loadCells_list (P := Tryz.prog) w ⟨Q, 0, none⟩ ((List.replicate n (120 : Int)).map (Value.int .u8)) (fun j v hj => by
      simp only [List.map_replicate, List.getElem?_replicate] at hj
      split at hj
      · rename_i hlt
        cases hj
        rw [Addr.add_mid, Nat.zero_add]
        exact hc j hlt
      · cases hj)
    simpa using this
  have e3 : (Conv.bytesToString (.slice (some ⟨Q, 0, none⟩) n n)).events Tryz.prog w #[] = (loadCells ⟨Q, 0, none⟩ n).events Tryz.prog w #[] := by
    unfold Conv.bytesToString
    simp only [Sem.events_bind, hl, Result.evThen_ok, List.forIn_toArray]
    rw [run_forIn_bytes _ (by intro n r; simp [Sem.run_pure])]
    simp only [Result.evThen_ok, Sem.events_pure]
    exact events_forIn_bytes _ (by intro n r; simp [Sem.run_pure]) (by intro n r es; simp) _ _ _
  rw [e1, e2, e3] at hme
  rcases events_loadCellsFrom_at (P := Tryz.prog) ⟨Q, 0, none⟩ (· = Q) rfl n 0 #[] w #[] (fun j hj => by
    rw [Addr.add_mid, Nat.zero_add, Nat.zero_add, hc j hj]
    rfl) e hme with h | h
  · simp at h
  · exact h
theorem Fx.grew {H w : World} {l : List Obj} (h : Fx H l w) : Grew H w := ⟨by rw [h.size]; omega, h.low, h.os, h.out, h.tape⟩
theorem Fx.setAt {H w : World} {cs : Array Value} {t : TypeId} {i : Nat} {v : Value} (h : Fx H [.cells cs t] w) : Fx H [.cells (cs.setIfInBounds i v) t] (w.setCell ⟨H.heap.size, i, none⟩ v) := by
  have hs := h.size
  have hl : w.heap[H.heap.size]? = some (.cells cs t) := by have := h.new 0; simpa using this
  refine ⟨by rw [World.size_setCell]; simpa using hs, fun b hb => ?_, fun j => ?_, h.os, h.out, h.tape⟩
  · rw [heap_setCell_other _ _ b _ (by show b ≠ H.heap.size; omega)]
    exact h.low b hb
  · cases j with
    | zero =>
      rw [Nat.add_zero, heap_setCell_same w _ i cs t v hl]
      rfl
    | succ j =>
      rw [heap_setCell_other _ _ _ _ (by show H.heap.size + (j + 1) ≠ H.heap.size; omega), h.new]
      rfl
def KB (H : World) (n i : Nat) (w : World) : Prop := ∃ cs, Fx H [.cells cs 5] w ∧ cs.size = n ∧ ∀ j, j < i → cs[j]? = some (.int .u8 120)
theorem KB.at {H : World} {n i : Nat} (w : World) (d : Nat) (h : KB H n i w) : KB H n i (w.at d) := by
  obtain ⟨cs, h1, h2⟩ := h
  exact ⟨cs, h1.at d, h2⟩
theorem seen_wr8 (a : Addr) : seen Tryz.prog 8 #[⟨.cell a, true, false⟩] = #[⟨.cell a, true, false⟩] := by kernel_rfl
section
variable {H : World} {Shun : Loc → Prop} {n : Nat} {Stop : Goroutine → World → Prop}
abbrev WmL (Shun : Loc → Prop) (Stop : Goroutine → World → Prop) : Nat → (World → Prop) → Goroutine → Prop := Wm Tryz.prog (DB (fun w => w.heap.size) Shun (fun _ => False)) Stop
theorem fill (hS : ShunLow Shun H.heap.size) (hn : n ≤ 30000) (hu : ∀ J, ∃ m, WmL Shun Stop m (KB H n n) (lu Tryz.prog n H.heap.size J)) : ∀ k, k ≤ n → ∀ J, ∃ m, WmL Shun Stop m (KB H n (n - k)) (ls Tryz.prog n H.heap.size ((n - k : Nat) : Int) J) := by
  intro k
  induction k with
  | zero =>
    intro _ J
    obtain ⟨m, hm⟩ := hu (gJ (nxts Tryz.prog true 3 (fin (ls1 Tryz.prog n J H.heap.size n) (.bool false))))
    rw [← lu_ls5] at hm
    have a1 := wm_sil (fun w => DB.none w) KB.at 3 _ (sil_ls5 n J H.heap.size n) hm
    have a2 : WmL Shun Stop (m + 3 + 1) (KB H n n) (ls1 Tryz.prog n J H.heap.size n) := wm_sym (fun w => DB.none w) KB.at (run_ls n J H.heap.size n default).1 (v := .bool false) (fun w => by
      have := sym_ls1 n J H.heap.size n w
      rw [show decide ((n : Int) < (n : Int)) = false from decide_eq_false (by omega)] at this
      exact this) a1
    exact ⟨_, wm_sil (fun w => DB.none w) KB.at 5 _ (sil_ls n J H.heap.size n) a2⟩
  | succ k ih =>
    intro hk J
    have hi : n - (k + 1) < n := by omega
    have ei : (((n - (k + 1) : Nat) : Int) + 1) = ((n - k : Nat) : Int) := by omega
    have ej : n - k = n - (k + 1) + 1 := by omega
    have ih := ih (by omega)
    generalize hii : n - (k + 1) = i at *
    obtain ⟨m, hm⟩ := ih (gJ (nxts Tryz.prog true 3 (fin (ls4 Tryz.prog n J H.heap.size i ⟨H.heap.size, i, none⟩) (.int .i64 ((n - k : Nat) : Int)))))
    rw [← ls_ls4] at hm
    obtain ⟨r1, r4, _⟩ := run_ls n J H.heap.size i ⟨H.heap.size, i, none⟩
    have a4' := wm_sil (fun w => DB.none w) KB.at 3 _ (sil_ls4 n J H.heap.size i ⟨H.heap.size, i, none⟩ ((n - k : Nat) : Int)) hm
    have a4 : WmL Shun Stop (m + 3 + 1) (KB H n (n - k)) (ls4 Tryz.prog n J H.heap.size i ⟨H.heap.size, i, none⟩) := wm_sym (fun w => DB.none w) KB.at r4 (fun w => by
      have := sym_ls4 n J H.heap.size i ⟨H.heap.size, i, none⟩ w
      rw [ei, show IntKind.i64.wrap ((n - k : Nat) : Int) = ((n - k : Nat) : Int) by rw [IntKind.wrap_i64]; omega] at this
      exact this) a4'
    have a3' := wm_sil (fun w => DB.none w) KB.at 4 _ (sil_ls3 n J H.heap.size i ⟨H.heap.size, i, none⟩) a4
    have a3 : WmL Shun Stop (m + 3 + 1 + 4 + 1) (KB H n i) (ls3 Tryz.prog n J H.heap.size i ⟨H.heap.size, i, none⟩) := by
      refine ⟨rfl, _, _, KB.at, fun w hw => ?_, a3'⟩
      obtain ⟨cs, h1, h2, h3⟩ := hw
      obtain ⟨e1, e2, e3⟩ := st_ls3 n J H.heap.size i ⟨H.heap.size, i, none⟩ w
      have hl : w.heap[H.heap.size]? = some (.cells cs 5) := by have := h1.new 0; simpa using this
      have hlt : i < cs.size := by omega
      refine ⟨_, _, k_st (main := true) e1 e3 (v := cs[i]) rfl (by rw [cells_cell hl]; exact Array.getElem?_eq_getElem hlt) (cells_thaw hl) (by rw [e2]; exact seen_wr8 _), DB.cell (by show w.heap.size ≤ _; rw [World.size_setCell]; exact Nat.le_refl _) (fun hs => ?_) ?_ id, _, h1.setAt, by simpa using h2, fun j hj => ?_⟩
      · obtain ⟨a, ha, hb⟩ := hS _ hs
        cases ha
        exact Nat.lt_irrefl _ hb
      · have := h1.size
        show H.heap.size < _
        rw [World.size_setCell]
        simp at this
        omega
      · rw [Array.getElem?_setIfInBounds]
        by_cases e : i = j
        · subst e
          rw [if_pos rfl, if_pos hlt]
        · rw [if_neg e]
          exact h3 j (by omega)
    have a2 : WmL Shun Stop (m + 3 + 1 + 4 + 1 + 1) (KB H n i) (ls2 Tryz.prog n J H.heap.size i) := by
      refine ⟨(ix_ls2 n J H.heap.size i H).2.1, _, _, KB.at, fun w hw => ⟨w, #[], ?_, DB.none w, hw⟩, a3⟩
      obtain ⟨e1, _, e3⟩ := ix_ls2 n J H.heap.size i w
      obtain ⟨k1, k2⟩ := runT_pair e3
      obtain ⟨q1, q2⟩ := run_idxB (Q := H.heap.size) hi w
      have h3 := k_value (main := true) e1 (k1.trans q1)
      rw [k2, q2, seen_none] at h3
      exact h3
    have a1' := wm_sil (fun w => DB.none w) KB.at 8 _ (sil_ls1 n J H.heap.size i) a2
    have a1 : WmL Shun Stop (m + 3 + 1 + 4 + 1 + 1 + 8 + 1) (KB H n i) (ls1 Tryz.prog n J H.heap.size i) := wm_sym (fun w => DB.none w) KB.at r1 (v := .bool true) (fun w => by
      have := sym_ls1 n J H.heap.size i w
      rw [show decide ((i : Int) < (n : Int)) = true from decide_eq_true (by omega)] at this
      exact this) a1'
    exact ⟨_, wm_sil (fun w => DB.none w) KB.at 5 _ (sil_ls n J H.heap.size i) a1⟩
end
section
variable {H : World} {Shun : Loc → Prop} {n : Nat}
def AtSes (H : World) (n : Nat) (g : Goroutine) (w : World) : Prop := Grew H w ∧ ∃ J, g = gor [Frame.enter Tryz.prog 23 #[.string (txt (xsOf n))] .normal] (lez Tryz.prog n J H.heap.size (txt (ansL n)) (txt (xsOf n)) :: [])
theorem lv_walk (hS : ShunLow Shun H.heap.size) (J : Nat → Value) : ∃ m, WmL Shun (AtSes H n) m (KB H n n) (lv Tryz.prog n H.heap.size (txt (ansL n)) J) := by
  have a3 : WmL Shun (AtSes H n) 0 (KB H n n) (nxts Tryz.prog true 1 (lv2 Tryz.prog n J H.heap.size (txt (ansL n)) (txt (xsOf n)))) := fun w hw => by
    obtain ⟨cs, h1, _⟩ := hw
    exact ⟨h1.grew, J, lv2_ses n J H.heap.size (txt (ansL n)) (txt (xsOf n))⟩
  have a2 := wm_sil (fun w => DB.none w) KB.at 1 _ (sil_lv2 n J H.heap.size (txt (ansL n)) (txt (xsOf n))) a3
  have a1 : WmL Shun (AtSes H n) (0 + 1 + 1) (KB H n n) (lv1 Tryz.prog n J H.heap.size (txt (ansL n))) := by
    refine ⟨(cv_lv1 n J H.heap.size (txt (ansL n)) H).2.1, _, _, KB.at, fun w hw => ?_, a2⟩
    have hw' := hw
    obtain ⟨cs, h1, h2, h3⟩ := hw
    obtain ⟨e1, _, e2, e3⟩ := cv_lv1 n J H.heap.size (txt (ansL n)) w
    have hl : w.heap[H.heap.size]? = some (.cells cs 5) := by have := h1.new 0; simpa using this
    obtain ⟨q1, q2⟩ := cv_bytes (Q := H.heap.size) (n := n) (w := w) (fun j hj => by rw [cells_cell hl]; exact h3 j hj)
    obtain ⟨k1, k2⟩ := runT_pair e3
    refine ⟨w, _, k_value (main := true) e1 (k1.trans q1), ⟨Nat.le_refl _, fun e he => ?_, fun _ _ _ _ _ hf => hf.elim⟩, hw'⟩
    have he := mem_seen he
    rw [k2] at he
    obtain ⟨ad, r1, r2, r3⟩ := q2 e he
    have r3 : ad.block = H.heap.size := r3
    obtain ⟨loc, wr, sy⟩ := e
    dsimp only at r1 r2
    subst r1
    subst r2
    refine ⟨fun x hx hs => ?_, by simp, by simp, ?_⟩
    · obtain ⟨a, ha, hb⟩ := hS _ hs
      simp only [ofEvent_cell0, MemAct.touch?, Option.some.injEq] at hx
      subst hx
      cases ha
      omega
    · have := h1.size
      rw [ofEvent_cell0]
      show ad.block < w.heap.size
      simp at this
      omega
  exact ⟨_, wm_sil (fun w => DB.none w) KB.at 3 _ (sil_lv n J H.heap.size (txt (ansL n))) a1⟩
theorem lu_walk (hS : ShunLow Shun H.heap.size) (J : Nat → Value) : ∃ m, WmL Shun (AtSes H n) m (KB H n n) (lu Tryz.prog n H.heap.size J) := by
  obtain ⟨_, _, r1, r2, r3⟩ := run_ls n J H.heap.size 0 default
  have key : ∃ m, WmL Shun (AtSes H n) m (KB H n n) (fin (lu1 Tryz.prog n J H.heap.size) (.bool (decide ((n : Int) > 20000)))) := by
    by_cases h1 : n ≤ 20000
    · rw [show decide ((n : Int) > 20000) = false from decide_eq_false (by omega)]
      have k2 : ∃ m, WmL Shun (AtSes H n) m (KB H n n) (fin (lu2f Tryz.prog n J H.heap.size) (.bool ((n : Int) == 0))) := by
        by_cases h2 : n = 0
        · have e : txt (ansL n) = txt [111, 107, 10] := by
            unfold ansL ansX
            rw [if_pos h1, if_pos h2]
          obtain ⟨m, hm⟩ := lv_walk hS (gJ (nxts Tryz.prog true 5 (fin (lu2f Tryz.prog n J H.heap.size) (.bool true))))
          rw [e, ← lvC_lv] at hm
          rw [show ((n : Int) == 0) = true by simp [h2]]
          exact ⟨_, wm_sil (fun w => DB.none w) KB.at 5 _ (sil_lvC n J H.heap.size) hm⟩
        · have e : txt (ansL n) = txt [101, 114, 114, 111, 114, 32, 51, 10] := by
            unfold ansL ansX
            rw [if_pos h1, if_neg h2]
            kernel_rfl
          obtain ⟨m, hm⟩ := lv_walk hS (gJ (nxts Tryz.prog true 3 (fin (lu2f Tryz.prog n J H.heap.size) (.bool false))))
          rw [e, ← lvB_lv] at hm
          rw [show ((n : Int) == 0) = false by simp [h2]]
          exact ⟨_, wm_sil (fun w => DB.none w) KB.at 3 _ (sil_lvB n J H.heap.size) hm⟩
      obtain ⟨m, hm⟩ := k2
      exact ⟨_, wm_sil (fun w => DB.none w) KB.at 7 _ (sil_lu1f n J H.heap.size) (wm_sym (fun w => DB.none w) KB.at r3 (sym_lu2f n J H.heap.size) hm)⟩
    · rw [show decide ((n : Int) > 20000) = true from decide_eq_true (by omega)]
      have e : txt (ansL n) = txt [101, 114, 114, 111, 114, 32, 52, 10] := by
        unfold ansL
        rw [if_neg h1]
        kernel_rfl
      obtain ⟨m, hm⟩ := lv_walk hS (gJ (nxts Tryz.prog true 3 (fin (lu2t Tryz.prog n J H.heap.size) (.bool false))))
      rw [e, ← lvA_lv] at hm
      have a1 := wm_sil (fun w => DB.none w) KB.at 3 _ (sil_lvA n J H.heap.size) hm
      exact ⟨_, wm_sil (fun w => DB.none w) KB.at 9 _ (sil_lu1t n J H.heap.size) (wm_sym (fun w => DB.none w) KB.at r2 (v := .bool false) (fun w => by
        have := sym_lu2t n J H.heap.size w
        rw [show ((n : Int) == 0) = false by simp; omega] at this
        exact this) a1)⟩
  obtain ⟨m, hm⟩ := key
  exact ⟨_, wm_sil (fun w => DB.none w) KB.at 8 _ (sil_lu n J H.heap.size) (wm_sym (fun w => DB.none w) KB.at r1 (sym_lu1 n J H.heap.size) hm)⟩
theorem lr_walk (hS : ShunLow Shun H.heap.size) (hn : n ≤ 30000) (J : Nat → Value) : ∃ m, WmL Shun (AtSes H n) m (Fx H []) (lr Tryz.prog n J) := by
  obtain ⟨m, hm⟩ := fill hS hn (lu_walk hS) n (Nat.le_refl _) (gJ (nxts Tryz.prog true 9 (lc2 Tryz.prog n J H.heap.size)))
  rw [Nat.sub_self] at hm
  have hm : WmL Shun (AtSes H n) m (KB H n 0) (ls Tryz.prog n H.heap.size 0 (gJ (nxts Tryz.prog true 9 (lc2 Tryz.prog n J H.heap.size)))) := hm
  rw [← ls_lc2] at hm
  have a2 := wm_sil (fun w => DB.none w) KB.at 9 _ (sil_lc2 n J H.heap.size) hm
  have a1 : WmL Shun (AtSes H n) (m + 9 + 1) (Fx H []) (lc1 Tryz.prog n J) := by
    refine ⟨(ms_lc1 n J H).2.1, _, _, KB.at, fun w hw => ?_, a2⟩
    obtain ⟨e1, _, e3⟩ := ms_lc1 n J w
    obtain ⟨k1, k2⟩ := runT_pair e3
    obtain ⟨q1, q2⟩ := run_msB hn w
    have h3 := k_value (main := true) e1 (k1.trans q1)
    rw [k2, q2, seen_none] at h3
    have hs : w.heap.size = H.heap.size := by rw [hw.size]; rfl
    rw [hs] at h3
    exact ⟨_, _, h3, DB.quiet (by simp), _, hw.push _, size_madeCells _ _, fun j hj => by omega⟩
  exact ⟨_, wm_sil (K := Fx H []) (fun w => DB.none w) (fun w d h => Fx.at h d) 3 _ (sil_lr n J) a1⟩
end
end Go.Proofs.YtaablbmgagiajabGreatDoor.Ren
