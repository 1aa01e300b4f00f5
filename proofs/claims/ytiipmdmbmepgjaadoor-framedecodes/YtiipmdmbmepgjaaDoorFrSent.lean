/- The contracts of triumvirkeep.pick and triumvirkeep.sent. -/
import Derived.Test.YtiipmdmbmepgjaaDoorFrBack
import Derived.Test.YtiipmdmbmepgjaaDoorTell
namespace Go.Proofs.YtiipmdmbmepgjaaDoor
open Go.RowKit Go.Deep Go.Extern.Stop Go.Stop Go.Extern

def pickF (a n : Int) : Int := wrap64 ((IntKind.u64.wrap a).tmod n)
theorem pickF_in (a n : Int) (h : 0 < n) (hn : n ≤ 5000) : 0 ≤ pickF a n ∧ pickF a n < n := by
  unfold pickF
  have h0 : 0 ≤ IntKind.u64.wrap a := by simp [IntKind.wrap, IntKind.bits, IntKind.signed]; omega
  rw [Int.tmod_eq_emod_of_nonneg h0]
  have h1 := Int.emod_nonneg (IntKind.u64.wrap a) (show n ≠ 0 by omega)
  have h2 := Int.emod_lt_of_pos (IntKind.u64.wrap a) h
  rw [IntWalk.wrap64_in _ ⟨by omega, by omega⟩]
  exact ⟨h1, h2⟩
set_option maxHeartbeats 400000 in
theorem pick_any (a n : Int) (w : World) (h : 0 < n) (hn : n ≤ 5000) :
    Calls Tryd.prog 36 #[.int .i64 a, .int .i64 n] w fun e w' => e = .returned (.int .i64 (pickF a n)) ∧ w' = w := by
  go_enter Tryd.func36, Tryd.ntmps36
  go_wp2
  go_ret
  exact ⟨rfl, rfl⟩

section
variable {ops : Array Oper} {rest : List Oper} {op : Oper} {a : Act} {w : World} {Q : Exit → Act → World → Prop}
theorem wpList_loadW (hw : Region.wanted op (yielded ops a.tmps) = true) (x : Operand) (ho : op.op = .load 63 x) (b : Nat) (hx : a.eval x = .pointer (some ⟨b, 0, none⟩)) (F : FR) (hS : FIs w b 63 F)
    (h : wpList Tryd.prog ops Q rest (a.put op.dst (.agg (fCells F))) w) : wpList Tryd.prog ops Q (op :: rest) a w := by
  unfold wpList
  rw [if_pos hw]
  exact .inl (wp_load_row _ x ho b hx _ _ _ _ hS Tryd.underlying63 rfl (by rw [infoFrame]; rfl) h)
theorem wpList_eqlW (hw : Region.wanted op (yielded ops a.tmps) = true) (x y : Operand) (ho : op.op = .binOp .eql 63 x y 63) (F G : FR) (hx : a.eval x = .agg (fCells F)) (hy : a.eval y = .agg (fCells G))
    (h : wpList Tryd.prog ops Q rest (a.put op.dst (.bool (eqB F G))) w) : wpList Tryd.prog ops Q (op :: rest) a w := by
  unfold wpList
  rw [if_pos hw]
  refine .inl ?_
  have h1 := eql_f w F G
  have hq : (eqGuard BinOp.eql 63 x y (.agg (fCells F)) (.agg (fCells G))).run Tryd.prog w = .ok () w := run_eqGuard_agg w _ _ _ _ _ _ (by kernel_rfl)
  unfold Oper.wp execOp
  simp only [ho, hx, hy, Sem.run_bind, hq, h1, Result.andThen_ok, Sem.run_pure]
  exact h
theorem wpList_neqW (hw : Region.wanted op (yielded ops a.tmps) = true) (x y : Operand) (ho : op.op = .binOp .neq 63 x y 63) (F G : FR) (hx : a.eval x = .agg (fCells F)) (hy : a.eval y = .agg (fCells G))
    (h : wpList Tryd.prog ops Q rest (a.put op.dst (.bool (!eqB F G))) w) : wpList Tryd.prog ops Q (op :: rest) a w := by
  unfold wpList
  rw [if_pos hw]
  refine .inl ?_
  have h1 := neq_f w F G
  have hq : (eqGuard BinOp.neq 63 x y (.agg (fCells F)) (.agg (fCells G))).run Tryd.prog w = .ok () w := run_eqGuard_agg w _ _ _ _ _ _ (by kernel_rfl)
  unfold Oper.wp execOp
  simp only [ho, hx, hy, Sem.run_bind, hq, h1, Result.andThen_ok, Sem.run_pure]
  exact h
end

/-- A list of bytes that the call itself made. -/
structure OwnB (w : World) (base g n cp : Nat) (l : List Nat) : Prop where
  own : w.ownsRow base 5 1 (.slice (some ⟨g, 0, none⟩) n cp) n (u8s l)
  len : l.length = n
  lt : ∀ c ∈ l, c < 256
theorem OwnB.parts {w : World} {base g n cp : Nat} {l : List Nat} (h : OwnB w base g n cp l) : base ≤ g ∧ g < w.heap.size ∧ n ≤ cp := by
  rcases h.own.2 with ⟨h', _⟩ | ⟨g', cap', cur, h', hb, hg, hnc, _⟩
  · simp at h'
  · simp only [Value.slice.injEq, Option.some.injEq, Addr.mk.injEq, and_true, true_and] at h'
    obtain ⟨rfl, rfl⟩ := h'
    exact ⟨hb, blk_lt hg, hnc⟩
theorem OwnB.at {w : World} {base g n cp : Nat} {l : List Nat} (h : OwnB w base g n cp l) {k : Nat} (hk : k < n) : w.cell? ⟨g, k, none⟩ = some (.int .u8 ((l[k]?.getD 0 : Nat) : Int)) := by
  rw [h.own.cellAt k (by omega)]
  simp [u8s, show k < l.length by rw [h.len]; exact hk]
theorem OwnB.isB {w : World} {base g n cp : Nat} {l : List Nat} (h : OwnB w base g n cp l) : IsB w (some ⟨g, 0, none⟩) n cp l := by
  obtain ⟨_, h2, h3⟩ := h.parts
  refine ⟨h.len, h3, h.lt, .inr ⟨g, 0, rfl, h2, fun k hk => ?_⟩⟩
  rw [Nat.zero_add]
  exact h.at (by rw [← h.len]; exact hk)
theorem OwnB.below {w wx : World} {base g n cp : Nat} {l : List Nat} (h : OwnB w base g n cp l) (hB : Below w.heap.size w wx) : OwnB wx base g n cp l := ⟨owns_below h.own hB, h.len, h.lt⟩
theorem OwnB.free {w : World} {base g n cp : Nat} {l : List Nat} (h : OwnB w base g n cp l) (k : Nat) : w.frozen? ⟨g, k, none⟩ = false := h.own.frozenAt k
theorem OwnB.set {w : World} {base g n cp : Nat} {l : List Nat} (h : OwnB w base g n cp l) (k c : Nat) (hc : c < 256) : OwnB (w.setCell ⟨g, k, none⟩ (.int .u8 (c : Int))) base g n cp (l.set k c) := by
  refine ⟨?_, by rw [List.length_set]; exact h.len, fun d hd => ?_⟩
  · have := (h.own.stored k (.int .u8 (c : Int))).1
    unfold u8s at this ⊢
    rwa [List.map_set]
  · rcases List.mem_or_eq_of_mem_set hd with q | q
    · exact h.lt d q
    · omega
theorem ownB_of {w : World} {base : Nat} {v : Value} {F : FR} (h : w.ownsRow base 5 1 v (encF F).length (u8s (encF F))) : ∃ g cp, v = .slice (some ⟨g, 0, none⟩) (encF F).length cp ∧ OwnB w base g (encF F).length cp (encF F) := by
  have ho := h
  rcases h.2 with ⟨_, h0⟩ | ⟨g, cap, cur, rfl, _⟩
  · have := enc_len F; omega
  · exact ⟨g, cap, rfl, ho, rfl, encF_lt F⟩

/-- The fact's frame. -/
def sF : FR := votF 2 1 300 7 2 2
theorem sF_may : mayB sF = true := by decide +kernel
theorem sF_len : (encF sF).length = 22 := by decide +kernel
theorem sF_at : (encF sF)[3]?.getD 0 = 0 := by decide +kernel
theorem sF_bad : decF ((encF sF).set 3 1) = (15, fr0) := by
  have h : ¬ b4 (crc (toldN ((encF sF).set 3 1))).toNat = lastN ((encF sF).set 3 1) := by decide +kernel
  exact dec_spoilt (by rw [List.length_set, sF_len]; omega) (by rw [List.length_set, sF_len]; omega) h

set_option maxHeartbeats 4000000 in
set_option maxRecDepth 20000 in
theorem sent_any (w : World) (hg : HasErrT w) :
    Calls Tryd.prog 35 #[] w fun e w' => e = .returned (.bool true) ∧ Below w.heap.size w w' := by
  go_enter Tryd.func35, Tryd.ntmps35
  go_wp2_with (refine wpList_store_fl rfl _ _ rfl w.heap.size sF rfl rfl fr0 (blk_new _ _) ?_)
  intro w1 HF1
  have hB1 : Below w.heap.size w w1 := ((Below.refl _ _).alloc (Nat.le_refl _) _).trans (HF1.out.2.2 _ (Nat.le_refl _))
  have HF := hide HF1.out.1
  have HO1 := hide hB1
  have hN := HF1.out.1.lt
  have HEN := hide (encode_ok sF w1 sF_may)
  clear hB1 HF1
  go_wp2_with (first
    | (refine wpList_load_f rfl _ rfl w.heap.size rfl sF HF.out ?_)
    | (go_at_call 29; refine HEN.out.mono ?_))
  rintro e w2 ⟨⟨v, rfl, hown⟩, hB2⟩
  obtain ⟨g, cp, rfl, hO⟩ := ownB_of hown
  rw [sF_len] at hO
  rw [sF_len]
  have HF2 := hide (HF.out.below hN hB2)
  have HO2 := hide (HO1.out.trans (hB2.mono (by omega)))
  have hgp := hO.parts
  obtain ⟨hg1, hg2, hg3⟩ := hgp
  obtain ⟨G, hG, hGF⟩ := dec_enc sF_may
  have hdec := decode_any _ 22 cp (encF sF) w2 (by omega) hO.isB
  rw [hG, show errV ((0, G) : Nat × FR).1 = Value.nilIface from rfl] at hdec
  have HDEC := hide hdec
  have HOB := hide hO
  have hs2 := hB2.size
  clear hdec hO hB2 hown HEN HF HO1
  go_wp2_with (go_at_call 34; refine HDEC.out.mono ?_)
  rintro e w3 ⟨rfl, hB3⟩
  have HF3 := hide (HF2.out.below (by omega) hB3)
  have HO3 := hide (HO2.out.trans (hB3.mono (by omega)))
  have HOB3 := hide (HOB.out.below hB3)
  have hs3 := hB3.size
  clear hB3 HDEC HF2 HO2 HOB
  go_wp2_with (refine wpList_store_fl rfl _ _ rfl w3.heap.size G rfl rfl fr0 (blk_new _ _) ?_)
  intro w4 HF4
  have hB4 : Below w3.heap.size w3 w4 := ((Below.refl _ _).alloc (Nat.le_refl _) _).trans (HF4.out.2.2 _ (Nat.le_refl _))
  have HFG := hide HF4.out.1
  have HF4' := hide (HF3.out.below (by omega) hB4)
  have HO4 := hide (HO3.out.trans (hB4.mono (by omega)))
  have HOB4 := hide (HOB3.out.below hB4)
  have hs4 := HFG.out.lt
  clear hB4 HF4 HF3 HO3 HOB3
  generalize w3.heap.size = P at HFG hs4 hs3 ⊢
  have k3 := HOB4.out.at (k := 3) (by omega)
  rw [sF_at] at k3
  have f3 := HOB4.out.free 3
  have hx : bits BinOp.xor IntKind.u8 (((0 : Nat) : Int)) 1 = 1 := by decide
  have hOB5 : OwnB (w4.setCell ⟨g, 3, none⟩ (.int .u8 1)) w1.heap.size g 22 cp ((encF sF).set 3 1) := HOB4.out.set 3 1 (by omega)
  have hgP : g < P := by omega
  have hF5 : FIs (w4.setCell ⟨g, 3, none⟩ (.int .u8 1)) w.heap.size 63 sF := (Below.heap_setCell _ _ _ _ (by show w.heap.size ≠ g; omega)).trans HF4'.out
  have hG5 : FIs (w4.setCell ⟨g, 3, none⟩ (.int .u8 1)) P 63 G := (Below.heap_setCell _ _ _ _ (by show P ≠ g; omega)).trans HFG.out
  have hO5 : Below w.heap.size w (w4.setCell ⟨g, 3, none⟩ (.int .u8 1)) := HO4.out.setCell (by show w.heap.size ≤ g; omega) _
  have hs5 : (w4.setCell ⟨g, 3, none⟩ (.int .u8 1)).heap.size = w4.heap.size := by simp [World.setCell]
  have hdec := decode_any _ 22 cp ((encF sF).set 3 1) _ (by omega) hOB5.isB
  rw [sF_bad, show errV ((15, fr0) : Nat × FR).1 = Value.iface 27 (.int .i64 15) from rfl] at hdec
  have HDEC := hide hdec
  have HF5 := hide hF5
  have HG5 := hide hG5
  have HO5 := hide hO5
  have HS5 := hide hs5
  clear hdec hF5 hG5 hO5 hs5 HF4' HFG HO4 HOB4 hOB5
  go_wp2_with (first
    | (go_at_call 34; refine HDEC.out.mono ?_; rintro e w6 ⟨rfl, hB6⟩)
    | (refine wpList_store_fl rfl _ _ rfl w6.heap.size fr0 rfl rfl fr0 (blk_new _ _) ?_))
  intro w7 HF7
  have hB6' : Below w4.heap.size (w4.setCell ⟨g, 3, none⟩ (.int .u8 1)) w6 := by first | exact hB6 | (have := hB6; rw [HS5.out] at this; exact this)
  have hs6 := hB6'.size
  rw [HS5.out] at hs6
  have hB7 : Below w6.heap.size w6 w7 := ((Below.refl _ _).alloc (Nat.le_refl _) _).trans (HF7.out.2.2 _ (Nat.le_refl _))
  have hB67 : Below w4.heap.size (w4.setCell ⟨g, 3, none⟩ (.int .u8 1)) w7 := hB6'.trans (hB7.mono (by omega))
  have HF8 := hide (HF5.out.below (by omega) hB67)
  have HG8 := hide (HG5.out.below (by omega) hB67)
  have hO8 := HO5.out.trans (hB67.mono (by omega))
  have hEQ : eqB G sF = true := (eqB_iff _ _).2 hGF
  have HO8 := hide hO8
  have HT := hide (tell_any w7 0 (15, -1) (.iface 27 (.int .i64 15)) (.inr (.inl ⟨by decide, rfl, rfl⟩)) (hg.below hO8 hg.pos))
  clear hB6 hB6' hB7 hB67 HF7 HDEC HF5 HG5 HO5 HS5 hO8 k3 f3 hx
  go_wp2_with (first
    | (refine wpList_loadW (by rfl) _ rfl P rfl G HG8.out ?_)
    | (refine wpList_loadW (by rfl) _ rfl w.heap.size rfl sF HF8.out ?_)
    | (refine wpList_eqlW (by rfl) _ _ rfl G sF rfl rfl ?_; rw [hEQ])
    | (go_at_call 69; refine HT.out.mono ?_; rintro e w9 ⟨rfl, hB9⟩))
  go_ret
  exact ⟨rfl, HO8.out.trans (hB9.mono HO8.out.size)⟩
end Go.Proofs.YtiipmdmbmepgjaaDoor
