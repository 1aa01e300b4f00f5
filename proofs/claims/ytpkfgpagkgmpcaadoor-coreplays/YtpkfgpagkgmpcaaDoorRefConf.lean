/- The contract of triumvirref.Conflicts. -/
import Derived.Test.YtpkfgpagkgmpcaaDoorRefMeet
import Derived.Test.YtpkfgpagkgmpcaaDoorRefCheck
namespace Go.Proofs.YtpkfgpagkgmpcaaDoor
open Go.RowKit

theorem infoInt' : (Tryd.prog.info? 3).map (fun i => (i.zero, i.size, i.bytes)) = some (some (.int .i64 0), 1, 8) := by kernel_rfl

theorem grown_of_below {w wx : World} (h : Below w.heap.size w wx) : w.grownBy wx none := ⟨h.os, h.tape, h.output, h.size, fun k hk _ => h.block k hk⟩
theorem owns_below {w wx : World} {base : Nat} {e : TypeId} {size : Nat} {v : Value} {n : Nat} {xs : List Value} (h : w.ownsRow base e size v n xs) (hB : Below w.heap.size w wx) : wx.ownsRow base e size v n xs :=
  h.kept (grown_of_below hB) (by cases hv : v.ownBlock with | none => exact .inl rfl | some k => exact .inr (by simp))

/-- The document's conflicts of the routes below i. -/
def hits (sn : Nat) (zs : List Int) (i : Nat) : Nat := setTo (hitB sn zs i) zs.length
def hitsTo (sn : Nat) (zs : List Int) (i : Nat) : List Nat := (List.range i).map (hits sn zs)
theorem hitsTo_succ (sn : Nat) (zs : List Int) (i : Nat) : hitsTo sn zs (i + 1) = hitsTo sn zs i ++ [hits sn zs i] := by simp [hitsTo, List.range_succ]
theorem hitsTo_length (sn : Nat) (zs : List Int) (i : Nat) : (hitsTo sn zs i).length = i := by simp [hitsTo]

def vals (c : List Nat) : List Value := c.map fun n => Value.int .i64 ((n : Nat) : Int)

/-- What holds while the document's conflicts are gathered. -/
structure FInv (w wr : World) (lay : Array Value) (v : Value) (c : List Nat) : Prop where
  old : Below w.heap.size w wr
  box : wr.heap[w.heap.size]? = some (.cells lay 24 (0, 0))
  own : wr.ownsRow (w.heap.size + 1) 3 1 v c.length (vals c)

theorem FInv.put {w wr w2 w3 : World} {lay : Array Value} {v v' : Value} {c : List Nat} {x : Nat} {o p : Obj} (h : FInv w wr lay v c) (h2 : Below (wr.alloc o).heap.size (wr.alloc o) w2)
    (hown : w3.ownsRow (w.heap.size + 1) 3 1 v' (c.length + 1) (vals c ++ [.int .i64 ((x : Nat) : Int)])) (hg : (w2.alloc p).grownBy w3 v.ownBlock) : FInv w w3 lay v' (c ++ [x]) := by
  have hN : w.heap.size < wr.heap.size := lt_block h.box
  have hs2 : wr.heap.size < w2.heap.size := by have := h2.size; simp at this; omega
  have hb2 : Below wr.heap.size wr w2 := ((Below.refl _ _).alloc (Nat.le_refl _) _).trans (h2.mono (by simp))
  have hb2' : Below wr.heap.size wr (w2.alloc p) := hb2.alloc (by omega) _
  refine ⟨(h.old.trans (hb2'.mono (by omega))).grown hg (by simp; omega) (fun k hk => by have := (h.own.lt k hk).1; omega), ?_, ?_⟩
  · rw [hg.block w.heap.size (by simp; omega) (fun e => by have := (h.own.lt _ e.symm).1; omega), hb2'.block _ hN]
    exact h.box
  · simpa [vals] using hown

set_option maxHeartbeats 2000000 in
theorem refConf_any (sn : Nat) (d : Int) (b off cap : Nat) (zs : List Int) (w : World) (hs : sn ≤ 12) (h1 : 1 ≤ zs.length) (hl : zs.length ≤ 8) (hb : b < w.heap.size) (hc : Row w b off zs) (hw : InI64 zs) :
    Calls Tryd.prog 12 #[.agg #[.int .i64 (sn : Int), .slice (some ⟨b, off, none⟩) zs.length cap, .int .i64 d]] w fun e w' =>
      (∃ g cp, e = .returned (.slice (some ⟨g, 0, none⟩) zs.length cp) ∧ g < w'.heap.size ∧ NRow w' g 0 (hitsTo sn zs zs.length)) ∧ Below w.heap.size w w' := by
  have hset := fun (i : Nat) (wr : World) (v : Value) (c : List Nat) (hi : i < zs.length) (hI : FInv w wr #[.int .i64 (sn : Int), .slice (some ⟨b, off, none⟩) zs.length cap, .int .i64 d] v c) =>
    set_conf zs.length (.pointer (some ⟨wr.heap.size, 0, none⟩)) (.pointer (some ⟨w.heap.size, 0, none⟩)) (hitB sn zs i) (wr.alloc (.cells #[.int .i64 (i : Int)] 3)) (by omega) (fun k wx hk hB => by
      have hN : w.heap.size < wr.heap.size := lt_block hI.box
      have hB0 : Below wr.heap.size wr wx := ((Below.refl _ _).alloc (Nat.le_refl _) _).trans (hB.mono (by simp))
      have hbx : wx.heap[w.heap.size]? = some (.cells #[.int .i64 (sn : Int), .slice (some ⟨b, off, none⟩) zs.length cap, .int .i64 d] 24 (0, 0)) := (hB0.block _ hN).trans hI.box
      have hBw : Below w.heap.size w wx := hI.old.trans (hB0.mono hI.old.size)
      exact conf1_any sn d b off cap zs i k wr.heap.size w.heap.size wx hs hi hk (Nat.lt_of_lt_of_le hb hBw.size) (hc.below hb hBw) hw
        ((hB.cell (p := ⟨wr.heap.size, 0, none⟩) (by simp)).trans (by simp)) (by rw [cell_block hbx]; rfl) (by rw [cell_block hbx]; rfl) (by rw [cell_block hbx]; rfl))
  have HSET := hide hset
  clear hset hw hc
  obtain ⟨i0, hi, hz0, hz1, hz2⟩ := info_parts infoInt'
  have HI := hide hi
  have HZ0 := hide hz0
  have HZ1 := hide hz1
  have HZ2 := hide hz2
  clear hi hz0 hz1 hz2
  go_enter Tryd.func12, Tryd.ntmps12
  go_wp2
  go_loopw [3, 8] (fun v i wr => ∃ k : Nat, k ≤ zs.length ∧ i = .int .i64 k ∧ FInv w wr #[.int .i64 (sn : Int), .slice (some ⟨b, off, none⟩) zs.length cap, .int .i64 d] v (hitsTo sn zs k)) (fun _ i _ => zs.length - (intOf i).toNat)
  case atStart => exact ⟨0, Nat.zero_le _, rfl, (Below.refl _ _).alloc (Nat.le_refl _) _, heap_alloc_new _ _, World.ownsRow_nil _ _ _ _⟩
  case round =>
    obtain ⟨i, hi, rfl, hI⟩ := hrel
    have hl1 : wr.cell? ⟨w.heap.size, 1, none⟩ = some (.slice (some ⟨b, off, none⟩) zs.length cap) := by rw [cell_block hI.box]; rfl
    have hN : w.heap.size < wr.heap.size := lt_block hI.box
    by_cases hlt : i < zs.length
    · have hcall := HSET.out i wr _ _ hlt hI
      have HC := hide hcall
      clear hcall
      obtain ⟨x, hx⟩ : ∃ x, Hid (hits sn zs i = x) := ⟨_, hide rfl⟩
      go_wp2_with fail
      refine HC.out.mono ?_
      rintro e w2 ⟨rfl, hB2⟩
      rw [show setTo (hitB sn zs i) zs.length = x from hx.out]
      have hs2 : wr.heap.size < w2.heap.size := by have := hB2.size; simp at this; omega
      have hown2 := owns_below (hI.own.alloc (.cells #[.int .i64 (i : Int)] 3)) hB2
      have HO := hide hown2
      have HB2 := hide hB2
      clear hown2 hB2 HC HSET hl1
      have hlen := hitsTo_length sn zs i
      go_wp2_with (at_builtin; refine wpList_append_own _ rfl _ _ 22 rfl (w.heap.size + 1) 3 i0 (.int .i64 0) 1 8 Tryd.underlying22 HI.out HZ0.out HZ1.out HZ2.out rfl (by decide) _ _ _ rfl (HO.out.alloc _) ⟨_, 0, none⟩ 1 1 [.int .i64 ((x : Nat) : Int)] rfl rfl ?c1 ?c2 ?c3 ?c4 ?c5 ?_)
      case c1 =>
        intro j u hj
        match j, hj with
        | 0, hj => simp at hj; subst hj; exact World.cell?_alloc_at _ _ _ _ rfl
      case c2 => intro u hu; simp at hu; subst hu; rfl
      case c3 => unfold maxLen; omega
      case c4 => omega
      case c5 => simp; omega
      intro v' w3 hown hgrow _
      have R := FInv.put hI HB2.out (by rw [hitsTo_length]; exact hown) hgrow
      clear hown hgrow hlen HO HB2
      go_wp2
      go_roundw
      case rel => exact ⟨i + 1, by omega, by go_num, by rw [hitsTo_succ, hx.out]; exact R⟩
      case measure => simp [intOf]; omega
    · have hin : zs.length = i := by omega
      obtain ⟨g, cp, rfl, hgs, hrow⟩ : ∃ g cp, u3 = .slice (some ⟨g, 0, none⟩) zs.length cp ∧ g < wr.heap.size ∧ NRow wr g 0 (hitsTo sn zs zs.length) := by
        rw [← hin] at hI
        obtain ⟨_, ho⟩ := hI.own
        rw [hitsTo_length] at ho
        rcases ho with ⟨_, h0⟩ | ⟨g, cp, cur, rfl, hg, hh, hcc, hm, hsz, ht⟩
        · omega
        · refine ⟨g, cp, rfl, lt_block hh, fun k hk => ?_⟩
          have ho := hI.own
          rw [hitsTo_length] at ho hk
          rw [Nat.zero_add, ho.cellAt k (by omega)]
          simp [vals, hitsTo, hk]
      have HO := hide hI.old
      clear hI hin HSET HI HZ0 HZ1 HZ2 hl1
      go_wp2
      go_ret
      exact ⟨⟨g, cp, rfl, hgs, hrow⟩, HO.out⟩

end Go.Proofs.YtpkfgpagkgmpcaaDoor
