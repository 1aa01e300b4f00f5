import Derived.OwnWalk
import Derived.Laws.OwnMore
import Derived.Test.YtaablbmgagiajabGreatDoorCCoreF
import Derived.Test.YtaablbmgagiajabGreatDoorCFit
namespace Go.Proofs.YtaablbmgagiajabGreatDoor
open Go.RowKit Go.Deep
theorem shr_bool (x : Int) (i : Nat) (hi : i ≤ 62) : (bits BinOp.and IntKind.i64 (x / 2 ^ i) 1 == 1) = (u64 x).testBit i := by
  rw [shr_bit x i hi, testBit_eq]
  cases (u64 x).testBit i <;> rfl
set_option maxHeartbeats 400000 in
theorem chas_any (x : Int) (i : Nat) (w : World) (hi : i ≤ 62) :
    Calls Tryz.prog 197 #[.int .i64 x, .int .i64 (i : Int)] w fun e w' => e = .returned (.bool ((u64 x).testBit i)) ∧ w' = w := by
  have hb := shr_bool x i hi
  have HB := hide hb
  clear hb
  go_enter Tryz.func197, Tryz.ntmps197
  go_wp2
  go_ret
  exact ⟨ret_bool HB.out, rfl⟩
theorem chas_nat (m i : Nat) (w : World) (hm : m < 9223372036854775808) (hi : i ≤ 62) :
    Calls Tryz.prog 197 #[.int .i64 (m : Int), .int .i64 (i : Int)] w fun e w' => e = .returned (.bool (m.testBit i)) ∧ w' = w := by
  have := chas_any (m : Int) i w hi
  rw [u64_nat m hm] at this
  exact this
set_option maxHeartbeats 1000000 in
theorem clone_any (b off n cap : Nat) (zs : List Int) (w : World) (hn : zs.length = n) (h0 : 0 < n) (h8 : n ≤ 8) (hb : b < w.heap.size) (hc : Row w b off zs) :
    Calls Tryz.prog 64 #[.slice (some ⟨b, off, none⟩) n cap] w fun e w' =>
      (∃ g cg, w.heap.size ≤ g ∧ g < w'.heap.size ∧ n ≤ cg ∧ e = .returned (.slice (some ⟨g, 0, none⟩) n cg) ∧ Row w' g 0 zs) ∧ Below w.heap.size w w' := by
  obtain ⟨i0, hi, hz0, hz1, hz2⟩ := info_parts infoInt
  have HI := hide hi
  have HZ0 := hide hz0
  have HZ1 := hide hz1
  have HZ2 := hide hz2
  have HC := hide hc
  clear hi hz0 hz1 hz2 hc
  have hq : ∀ wx : World, (binOp .eql 22 (.slice (some ⟨b, off, none⟩) n cap) (.slice none 0 0)).run Tryz.prog wx = .ok (.bool false) wx := fun wx => Lib.run_eql_slice_nil wx _ _ _ _ _ _ _ Tryz.underlying22
  go_enter Tryz.func64, Tryz.ntmps64
  go_wp2_with (at_builtin; refine wpList_append_own _ rfl _ _ 22 rfl w.heap.size 3 i0 (.int .i64 0) 1 8 Tryz.underlying22 HI.out HZ0.out HZ1.out HZ2.out rfl (by decide) _ _ _ rfl (World.ownsRow_made w #[] 0 (Nat.le_refl _) (by unfold maxLen; omega) rfl) ⟨b, off, none⟩ n cap (zs.map (Value.int .i64)) rfl (by rw [List.length_map, hn, Nat.mul_one]) ?c1 ?c2 ?c3 ?c4 ?c5 ?_)
  case c1 =>
    intro j u hj
    have hj' : j < zs.length := by
      have := (List.getElem?_eq_some_iff.1 hj).1
      simpa using this
    have e : (⟨b, off, none⟩ : Addr).add j = ⟨b, off + j, none⟩ := by unfold Addr.add; split <;> simp_all
    rw [e, World.cell?_alloc_past _ _ _ hb, HC.out j hj']
    rw [List.getElem?_map, List.getElem?_eq_getElem hj'] at hj
    rw [List.getElem?_eq_getElem hj']
    exact hj
  case c2 =>
    intro u hu
    obtain ⟨z, _, rfl⟩ := List.mem_map.1 hu
    rfl
  case c3 => unfold maxLen; omega
  case c4 => omega
  case c5 => simp
  intro v' w1 hown hgrow _
  obtain ⟨g, cg, rfl, hg1, hg2, hg3⟩ : ∃ g cg, v' = .slice (some ⟨g, 0, none⟩) n cg ∧ w.heap.size ≤ g ∧ g < w1.heap.size ∧ n ≤ cg := by
    rcases hown.2 with ⟨_, h0⟩ | ⟨g, cg, cur, h0, h1, h2, h3, _⟩
    · omega
    · exact ⟨g, cg, h0, h1, blk_lt h2, h3⟩
  have hrow : Row w1 g 0 zs := by
    intro k hk
    have := hown.cellAt k (by omega)
    rw [Nat.zero_add, this]
    simp [hk]
  have hold : Below w.heap.size w w1 := ((Below.refl _ _).alloc (Nat.le_refl _) _).grown hgrow (by simp) (fun j hj => by
    have : w.heap.size = j := by simpa [Value.ownBlock] using hj
    omega)
  have HROW := hide hrow
  have HOLD := hide hold
  clear hrow hold hown hgrow
  go_wp2
  go_ret
  exact ⟨⟨g, cg, hg1, hg2, hg3, rfl, HROW.out⟩, HOLD.out⟩
structure CoreIs (w : World) (p : Nat) (s d : Int) (n : Nat) (zs : List Int) (g cg M : Nat) : Prop where
  blk : w.heap[p]? = some (.cells #[.int .i64 s, .slice (some ⟨g, 0, none⟩) n cg, .int .i64 d, .slice (some ⟨M, 0, none⟩) n n] 258 (0, 0))
  len : zs.length = n
  cap : n ≤ cg
  glt : g < w.heap.size
  row : Row w g 0 zs
  con : w.rowIs M 3 n (fun k => .int .i64 ((conf zs k : Nat) : Int))
  ok : checkF s zs d = (0, -1)
theorem CoreIs.below {w wx : World} {B p : Nat} {s d : Int} {n : Nat} {zs : List Int} {g cg M : Nat} (h : CoreIs w p s d n zs g cg M) (hp : p < B) (hg : g < B) (hM : M < B) (hB : Below B w wx) : CoreIs wx p s d n zs g cg M :=
  ⟨(hB.block p hp).trans h.blk, h.len, h.cap, Nat.lt_of_lt_of_le h.glt hB.size, h.row.below hg hB, h.con.of_block (hB.block M hM), h.ok⟩
theorem CoreIs.plt {w : World} {p : Nat} {s d : Int} {n : Nat} {zs : List Int} {g cg M : Nat} (h : CoreIs w p s d n zs g cg M) : p < w.heap.size := blk_lt h.blk
theorem CoreIs.mlt {w : World} {p : Nat} {s d : Int} {n : Nat} {zs : List Int} {g cg M : Nat} (h : CoreIs w p s d n zs g cg M) : M < w.heap.size := h.con.lt
theorem CoreIs.few {w : World} {p : Nat} {s d : Int} {n : Nat} {zs : List Int} {g cg M : Nat} (h : CoreIs w p s d n zs g cg M) : 1 ≤ n ∧ n ≤ 8 ∧ 1 ≤ s ∧ s ≤ 12 ∧ 0 ≤ d ∧ d ≤ 20 := by
  have hr := range_pos h.ok
  unfold rangeB at hr
  simp only [Bool.and_eq_true, inB_iff] at hr
  have := h.len
  omega
set_option maxHeartbeats 1000000 in
theorem new_ok (s d : Int) (b off n cap : Nat) (zs : List Int) (w : World) (hn : zs.length = n) (hok : checkF s zs d = (0, -1)) (hb : b < w.heap.size) (hc : Row w b off zs) (hcap : n ≤ cap) :
    Calls Tryz.prog 133 #[.agg #[.int .i64 s, .slice (some ⟨b, off, none⟩) n cap, .int .i64 d]] w fun e w' =>
      (∃ p g cg M, w.heap.size ≤ p ∧ w.heap.size ≤ g ∧ w.heap.size ≤ M ∧ e = .returned (.tuple #[.pointer (some ⟨p, 0, none⟩), .nilIface]) ∧ CoreIs w' p s d n zs g cg M) ∧ Below w.heap.size w w' := by
  subst hn
  have hr := range_pos hok
  unfold rangeB at hr
  simp only [Bool.and_eq_true, inB_iff] at hr
  obtain ⟨⟨_, b21, b22⟩, _⟩ := hr
  have hB0 : Below w.heap.size w (w.alloc (.cells #[.int .i64 s, .slice (some ⟨b, off, none⟩) zs.length cap, .int .i64 d] 42)) := (Below.refl _ _).alloc (Nat.le_refl _) _
  have hcf := conf_ok s d b off cap zs _ hok (by simp; omega) (hc.below hb hB0) hcap
  have HCF := hide hcf
  have HOK := hide hok
  have HC := hide hc
  clear hcf hok hc
  go_enter Tryz.func133, Tryz.ntmps133
  go_wp2_with fail
  refine HCF.out.mono ?_
  rintro e w1 ⟨⟨M, hM, rfl, hrw⟩, hB⟩
  have hN1 : w.heap.size < w1.heap.size := by have := hB.size; simp at this; omega
  have hM1 : M < w1.heap.size := hrw.lt
  have hbox : w1.heap[w.heap.size]? = some (.cells #[.int .i64 s, .slice (some ⟨b, off, none⟩) zs.length cap, .int .i64 d] 42 (0, 0)) := (hB.block _ (by simp)).trans (blk_new _ _)
  have c1 : w1.cell? ⟨w.heap.size, 1, none⟩ = some (.slice (some ⟨b, off, none⟩) zs.length cap) := by rw [blk_cell hbox]; rfl
  have hB1 : Below w.heap.size w w1 := hB0.trans (hB.mono (by simp))
  have hcl := clone_any b off zs.length cap zs w1 rfl (by omega) (by omega) (by omega) (HC.out.below hb hB1)
  have HCL := hide hcl
  have HBOX := hide hbox
  have HRW := hide hrw
  have HB1 := hide hB1
  clear hcl hbox hrw hB hB1 hB0 HCF HC
  go_wp2_with fail
  refine HCL.out.mono ?_
  rintro e w2 ⟨⟨g, cg, hg1, hg2, hg3, rfl, hrow⟩, hB2⟩
  have hbox2 : w2.heap[w.heap.size]? = some (.cells #[.int .i64 s, .slice (some ⟨b, off, none⟩) zs.length cap, .int .i64 d] 42 (0, 0)) := (hB2.block _ hN1).trans HBOX.out
  have d0 : w2.cell? ⟨w.heap.size, 0, none⟩ = some (.int .i64 s) := by rw [blk_cell hbox2]; rfl
  have d1 : w2.cell? ⟨w.heap.size, 1, none⟩ = some (.slice (some ⟨b, off, none⟩) zs.length cap) := by rw [blk_cell hbox2]; rfl
  have d2 : w2.cell? ⟨w.heap.size, 2, none⟩ = some (.int .i64 d) := by rw [blk_cell hbox2]; rfl
  have f1 : w2.frozen? ⟨w.heap.size, 1, none⟩ = false := blk_free hbox2 1
  have HB2 := hide hB2
  have HROW := hide hrow
  clear hB2 hrow hbox2 HCL c1
  go_wp2
  go_ret2
  have hN2 : w.heap.size < w2.heap.size := Nat.lt_of_lt_of_le hN1 HB2.out.size
  have hM' : w.heap.size + 1 ≤ M := by simpa using hM
  have hset : Below w.heap.size w2 ((w2.setCell ⟨w.heap.size, 1, none⟩ (.slice (some ⟨g, 0, none⟩) zs.length cg)).alloc (.cells #[.int .i64 s, .slice (some ⟨g, 0, none⟩) zs.length cg, .int .i64 d, .slice (some ⟨M, 0, none⟩) zs.length zs.length] 258)) :=
    (show Below w.heap.size w2 (w2.setCell ⟨w.heap.size, 1, none⟩ (.slice (some ⟨g, 0, none⟩) zs.length cg)) from Below.setCell (Below.refl w.heap.size w2) (p := ⟨w.heap.size, 1, none⟩) (Nat.le_refl _) _).alloc (by simp [World.setCell]; omega) _
  have hk : ∀ k, k < w2.heap.size → k ≠ w.heap.size → ((w2.setCell ⟨w.heap.size, 1, none⟩ (.slice (some ⟨g, 0, none⟩) zs.length cg)).alloc (.cells #[.int .i64 s, .slice (some ⟨g, 0, none⟩) zs.length cg, .int .i64 d, .slice (some ⟨M, 0, none⟩) zs.length zs.length] 258)).heap[k]? = w2.heap[k]? := fun k h1 h2 => by
    rw [Below.heap_alloc _ _ _ (by simp [World.setCell]; omega), Below.heap_setCell _ _ _ _ h2]
  refine ⟨⟨w2.heap.size, g, cg, M, by omega, by omega, by omega, rfl, ?_⟩, (HB1.out.trans (HB2.out.mono (by omega))).trans hset⟩
  refine ⟨?_, rfl, hg3, ?_, fun k hk' => (World.cell?_of_block (w := w2) (hk g hg2 (by omega))).trans (HROW.out k hk'), ?_, HOK.out⟩
  · have := blk_new (w2.setCell ⟨w.heap.size, 1, none⟩ (.slice (some ⟨g, 0, none⟩) zs.length cg)) (.cells #[.int .i64 s, .slice (some ⟨g, 0, none⟩) zs.length cg, .int .i64 d, .slice (some ⟨M, 0, none⟩) zs.length zs.length] 258)
    simpa [World.setCell] using this
  · simp [World.setCell]; omega
  · refine HRW.out.of_block ((hk M ?_ (by omega)).trans (HB2.out.block M hM1))
    exact Nat.lt_of_lt_of_le hM1 HB2.out.size
end Go.Proofs.YtaablbmgagiajabGreatDoor
