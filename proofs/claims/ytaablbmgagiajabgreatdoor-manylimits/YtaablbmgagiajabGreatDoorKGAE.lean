import Derived.Deep.QuietTactic
import Derived.BigQuiet
import Derived.Test.YtaablbmgagiajabGreatDoorKGAD
import Derived.Test.YtaablbmgagiajabGreatDoorKGAA
import Derived.Deep.RegionWith
import Derived.WalkSmall
import Derived.OwnWalk
import Derived.Laws.OwnMore
namespace Go.Proofs.YtaablbmgagiajabGreatDoor
open Go.RowKit Go.Extern.Stop Go.Stop Go.Extern
set_option maxHeartbeats 1000000 in
theorem tell_any (w : World) (lo : Nat) (f : Nat × Int) (v : Value) (he : IsErr w lo f v) (hg : HasErrT w) :
    Calls Tryz.prog 28 #[v] w fun e w' => e = .returned (.int .i64 (f.1 : Int)) ∧ Below w.heap.size w w' := by
  obtain ⟨c, pl⟩ := f
  rcases he with ⟨h0, rfl⟩ | ⟨h0, _, rfl⟩ | ⟨h0, _, nb, _, hnb, rfl, hc0, _⟩
  · obtain ⟨rfl, rfl⟩ := Prod.mk.inj h0
    go_enter Tryz.func28, Tryz.ntmps28
    go_wp2
    go_ret
    exact ⟨rfl, Below.refl _ _⟩
  · have hB : Below w.heap.size w (w.alloc (.cells #[.int .i64 0] 74)) := (Below.refl _ _).alloc (Nat.le_refl _) _
    have hg' := hg.below hB hg.pos
    have HG := hide hg'
    clear hg'
    go_enter Tryz.func28, Tryz.ntmps28
    go_wp2_with fail
    refine (as_errno (c : Int) ⟨w.heap.size, 0, none⟩ (.int .i64 0) _ HG.out (by simp) (by simp)).mono ?_
    rintro e w1 ⟨rfl, hb1, hc1⟩
    have HB := hide (hB.trans hb1)
    clear hB hb1
    go_wp2
    go_ret
    exact ⟨rfl, HB.out⟩
  · have hB : Below w.heap.size w (w.alloc (.cells #[.int .i64 0] 74)) := (Below.refl _ _).alloc (Nat.le_refl _) _
    have hg' := hg.below hB hg.pos
    have HG := hide hg'
    have HC := hide ((hB.cell (p := ⟨nb, 0, none⟩) hnb).trans hc0)
    clear hg'
    go_enter Tryz.func28, Tryz.ntmps28
    go_wp2_with fail
    refine (as_at (c : Int) ⟨nb, 0, none⟩ ⟨w.heap.size, 0, none⟩ (.int .i64 0) _ HG.out (by simp) (by simp) HC.out).mono ?_
    rintro e w1 ⟨rfl, hb1, hc1⟩
    have HB := hide (hB.trans hb1)
    clear hB hb1
    go_wp2
    go_ret
    exact ⟨rfl, HB.out⟩
end Go.Proofs.YtaablbmgagiajabGreatDoor
namespace Go.Proofs.YtaablbmgagiajabGreatDoor
open Go.RowKit Go.Deep
def mostTo (c : List Nat) : Nat → Nat
  | 0 => 0
  | m + 1 => if apartB m c then max (mostTo c m) (pop 8 m) else mostTo c m
def most (c : List Nat) : Nat := mostTo c (2 ^ c.length)
def confs (zs : List Int) : List Nat := (List.range zs.length).map (conf zs)
theorem confs_length (zs : List Int) : (confs zs).length = zs.length := by simp [confs]
theorem confs_get (zs : List Int) (k : Nat) (h : k < zs.length) : (confs zs)[k]?.getD 0 = conf zs k := by simp [confs, h]
theorem conf_lt (zs : List Int) (k : Nat) (h : zs.length ≤ 8) : conf zs k < 256 := Nat.lt_of_lt_of_le (confTo_lt zs k zs.length) (Nat.pow_le_pow_right (by decide) h)
theorem confs_lt (zs : List Int) (h : zs.length ≤ 8) (k : Nat) : (confs zs)[k]?.getD 0 < 256 := by
  by_cases hk : k < zs.length
  · rw [confs_get zs k hk]; exact conf_lt zs k h
  · simp [confs, hk]
theorem nrow_confs {w : World} {M : Nat} {zs : List Int} (h : w.rowIs M 3 zs.length (fun k => .int .i64 ((conf zs k : Nat) : Int))) : NRow w M 0 (confs zs) := by
  intro k hk
  rw [confs_length] at hk
  rw [Nat.zero_add, h.cell hk, confs_get zs k hk]
theorem apart_n (s : Nat) (M n : Nat) (c : List Nat) (w : World) (hn : c.length = n) (hs : s < 256) (hl : c.length ≤ 8) (hz : ∀ k : Nat, c[k]?.getD 0 < 256) (hc : NRow w M 0 c) :
    Calls Tryz.prog 207 #[.int .i64 (s : Int), .slice (some ⟨M, 0, none⟩) n n] w fun e w' => e = .returned (.bool (apartB s c)) ∧ w' = w := by
  subst hn; exact apart_any s M 0 _ c w hs hl hz hc
set_option maxHeartbeats 1000000 in
theorem most_ok (s d : Int) (b off cap : Nat) (zs : List Int) (w : World) (hok : checkF s zs d = (0, -1)) (hb : b < w.heap.size) (hc : Row w b off zs) (hcap : zs.length ≤ cap) :
    Calls Tryz.prog 184 #[.agg #[.int .i64 s, .slice (some ⟨b, off, none⟩) zs.length cap, .int .i64 d]] w fun e w' =>
      e = .returned (.tuple #[.int .i64 ((most (confs zs) : Nat) : Int), .nilIface]) ∧ Below w.heap.size w w' := by
  have hr := range_pos hok
  unfold rangeB at hr
  simp only [Bool.and_eq_true, inB_iff] at hr
  obtain ⟨⟨_, b21, b22⟩, _⟩ := hr
  have hP : 2 ^ zs.length ≤ 256 := Nat.pow_le_pow_right (n := 2) (by decide) (by omega : zs.length ≤ 8)
  have hw := wrap_two_pow zs.length (by omega)
  obtain ⟨P, hPe⟩ : ∃ P, Hid (2 ^ zs.length = P) := ⟨_, hide rfl⟩
  rw [hPe.out] at hw hP
  go_enter Tryz.func184, Tryz.ntmps184
  go_wp2_with fail
  refine (conf_ok s d b off cap zs _ hok (by simp; omega) (hc.below hb ((Below.refl _ _).alloc (Nat.le_refl _) _)) hcap).mono ?_
  rintro e w1 ⟨⟨M, hM, rfl, hrow⟩, hB⟩
  have hbel : Below w.heap.size w w1 := ((Below.refl _ _).alloc (Nat.le_refl _) _).trans (hB.mono (by simp))
  have hap := fun (m : Nat) (hm : m < 256) => apart_n m M zs.length (confs zs) w1 (confs_length zs) hm (by rw [confs_length]; omega) (confs_lt zs (by omega)) (nrow_confs hrow)
  have HAP := hide hap
  clear hap hB hc hok hM hrow
  have HBEL := hide hbel
  clear hbel
  go_wp2
  rw [hw]
  clear hw
  go_loopw [6, 19] (fun t i wr => wr = w1 ∧ ∃ m : Nat, m ≤ P ∧ i = .int .i64 m ∧ ∃ q : Nat, q ≤ 8 ∧ t = .int .i64 q ∧ Hid (mostTo (confs zs) m = q)) (fun _ i _ => P - (intOf i).toNat)
  case atStart => exact ⟨rfl, 0, Nat.zero_le _, rfl, 0, by omega, rfl, rfl⟩
  case round =>
    obtain ⟨rfl, m, hm, rfl, q, hq, rfl, Hq⟩ := hrel
    by_cases hlt : m < P
    · cases hab : apartB m (confs zs)
      · go_wp2_with (go_at_call 207; refine (unhide HAP _ (by omega)).mono ?_; rintro e w' ⟨rfl, hw'⟩; subst w')
        go_roundw
        case rel => exact ⟨trivial, m + 1, by omega, by go_num, q, hq, rfl, by rw [mostTo, hab]; exact Hq.out⟩
        case measure => simp [intOf]; omega
      · have hp := pop_le 8 m
        by_cases hgt : q < pop 8 m
        · go_wp2_with (first
            | (go_at_call 207; refine (unhide HAP _ (by omega)).mono ?_; rintro e w' ⟨rfl, hw'⟩; subst w')
            | (go_at_call 21; refine (ones_any _ _ (by omega)).mono ?_; rintro e w' ⟨rfl, hw'⟩; subst w'))
          go_roundw
          case rel => exact ⟨trivial, m + 1, by omega, by go_num, pop 8 m, hp, rfl, by rw [mostTo, hab, Hq.out, if_pos rfl]; exact Nat.max_eq_right (by omega)⟩
          case measure => simp [intOf]; omega
        · go_wp2_with (first
            | (go_at_call 207; refine (unhide HAP _ (by omega)).mono ?_; rintro e w' ⟨rfl, hw'⟩; subst w')
            | (go_at_call 21; refine (ones_any _ _ (by omega)).mono ?_; rintro e w' ⟨rfl, hw'⟩; subst w'))
          go_roundw
          case rel => exact ⟨trivial, m + 1, by omega, by go_num, q, hq, rfl, by rw [mostTo, hab, Hq.out, if_pos rfl]; exact Nat.max_eq_left (by omega)⟩
          case measure => simp [intOf]; omega
    · go_wp2
      go_ret2
      have e : m = P := by omega
      subst e
      refine ⟨?_, HBEL.out⟩
      unfold most
      rw [confs_length, hPe.out, Hq.out]
      rfl
theorem most_n (s d : Int) (b off n cap : Nat) (zs : List Int) (w : World) (hn : zs.length = n) (hok : checkF s zs d = (0, -1)) (hb : b < w.heap.size) (hc : Row w b off zs) (hcap : n ≤ cap) :
    Calls Tryz.prog 184 #[.agg #[.int .i64 s, .slice (some ⟨b, off, none⟩) n cap, .int .i64 d]] w fun e w' =>
      e = .returned (.tuple #[.int .i64 ((most (confs zs) : Nat) : Int), .nilIface]) ∧ Below w.heap.size w w' := by
  subst hn; exact most_ok s d b off cap zs w hok hb hc hcap
set_option maxHeartbeats 1000000 in
theorem clone_any (b off n cap : Nat) (zs : List Int) (w : World) (hn : zs.length = n) (h0 : 0 < n) (h8 : n ≤ 8) (hb : b < w.heap.size) (hc : Row w b off zs) :
    Calls Tryz.prog 64 #[.slice (some ⟨b, off, none⟩) n cap] w fun e w' =>
      (∃ g cg, w.heap.size ≤ g ∧ g < w'.heap.size ∧ n ≤ cg ∧ e = .returned (.slice (some ⟨g, 0, none⟩) n cg) ∧ Row w' g 0 zs) ∧ Below w.heap.size w w' := by
  obtain ⟨i0, hi, hz0, hz1, hz2⟩ := info_parts infoInt
  have HI := hide hi
  have HZ0 := hide hz0
  have HZ1 := hide hz1
  have HZ2 := hide hz2
  have HC := hide hc
  clear hi hz0 hz1 hz2 hc
  have hq : ∀ wx : World, (binOp .eql 22 (.slice (some ⟨b, off, none⟩) n cap) (.slice none 0 0)).run Tryz.prog wx = .ok (.bool false) wx := fun wx => Lib.run_eql_slice_nil wx _ _ _ _ _ _ _ Tryz.underlying22
  go_enter Tryz.func64, Tryz.ntmps64
  go_wp2_with (at_builtin; refine wpList_append_own _ rfl _ _ 22 rfl w.heap.size 3 i0 (.int .i64 0) 1 8 Tryz.underlying22 HI.out HZ0.out HZ1.out HZ2.out rfl (by decide) _ _ _ rfl (World.ownsRow_made w #[] 0 (Nat.le_refl _) (by unfold maxLen; omega) rfl) ⟨b, off, none⟩ n cap (zs.map (Value.int .i64)) rfl (by rw [List.length_map, hn, Nat.mul_one]) ?c1 ?c2 ?c3 ?c4 ?c5 ?_)
  case c1 =>
    intro j u hj
    have hj' : j < zs.length := by
      have := (List.getElem?_eq_some_iff.1 hj).1
      simpa using this
    have e : (⟨b, off, none⟩ : Addr).add j = ⟨b, off + j, none⟩ := by unfold Addr.add; split <;> simp_all
    rw [e, World.cell?_alloc_past _ _ _ hb, HC.out j hj']
    rw [List.getElem?_map, List.getElem?_eq_getElem hj'] at hj
    rw [List.getElem?_eq_getElem hj']
    exact hj
  case c2 =>
    intro u hu
    obtain ⟨z, _, rfl⟩ := List.mem_map.1 hu
    rfl
  case c3 => unfold maxLen; omega
  case c4 => omega
  case c5 => simp
  intro v' w1 hown hgrow _
  obtain ⟨g, cg, rfl, hg1, hg2, hg3⟩ : ∃ g cg, v' = .slice (some ⟨g, 0, none⟩) n cg ∧ w.heap.size ≤ g ∧ g < w1.heap.size ∧ n ≤ cg := by
    rcases hown.2 with ⟨_, h0⟩ | ⟨g, cg, cur, h0, h1, h2, h3, _⟩
    · omega
    · exact ⟨g, cg, h0, h1, blk_lt h2, h3⟩
  have hrow : Row w1 g 0 zs := by
    intro k hk
    have := hown.cellAt k (by omega)
    rw [Nat.zero_add, this]
    simp [hk]
  have hold : Below w.heap.size w w1 := ((Below.refl _ _).alloc (Nat.le_refl _) _).grown hgrow (by simp) (fun j hj => by
    have : w.heap.size = j := by simpa [Value.ownBlock] using hj
    omega)
  have HROW := hide hrow
  have HOLD := hide hold
  clear hrow hold hown hgrow
  go_wp2
  go_ret
  exact ⟨⟨g, cg, hg1, hg2, hg3, rfl, HROW.out⟩, HOLD.out⟩
structure CoreIs (w : World) (p : Nat) (s d : Int) (n : Nat) (zs : List Int) (g cg M : Nat) : Prop where
  blk : w.heap[p]? = some (.cells #[.int .i64 s, .slice (some ⟨g, 0, none⟩) n cg, .int .i64 d, .slice (some ⟨M, 0, none⟩) n n] 258 (0, 0))
  len : zs.length = n
  cap : n ≤ cg
  glt : g < w.heap.size
  row : Row w g 0 zs
  con : w.rowIs M 3 n (fun k => .int .i64 ((conf zs k : Nat) : Int))
  ok : checkF s zs d = (0, -1)
theorem CoreIs.below {w wx : World} {B p : Nat} {s d : Int} {n : Nat} {zs : List Int} {g cg M : Nat} (h : CoreIs w p s d n zs g cg M) (hp : p < B) (hg : g < B) (hM : M < B) (hB : Below B w wx) : CoreIs wx p s d n zs g cg M :=
  ⟨(hB.block p hp).trans h.blk, h.len, h.cap, Nat.lt_of_lt_of_le h.glt hB.size, h.row.below hg hB, h.con.of_block (hB.block M hM), h.ok⟩
theorem CoreIs.plt {w : World} {p : Nat} {s d : Int} {n : Nat} {zs : List Int} {g cg M : Nat} (h : CoreIs w p s d n zs g cg M) : p < w.heap.size := blk_lt h.blk
theorem CoreIs.mlt {w : World} {p : Nat} {s d : Int} {n : Nat} {zs : List Int} {g cg M : Nat} (h : CoreIs w p s d n zs g cg M) : M < w.heap.size := h.con.lt
theorem CoreIs.few {w : World} {p : Nat} {s d : Int} {n : Nat} {zs : List Int} {g cg M : Nat} (h : CoreIs w p s d n zs g cg M) : 1 ≤ n ∧ n ≤ 8 ∧ 1 ≤ s ∧ s ≤ 12 ∧ 0 ≤ d ∧ d ≤ 20 := by
  have hr := range_pos h.ok
  unfold rangeB at hr
  simp only [Bool.and_eq_true, inB_iff] at hr
  have := h.len
  omega
set_option maxHeartbeats 1000000 in
theorem new_ok (s d : Int) (b off n cap : Nat) (zs : List Int) (w : World) (hn : zs.length = n) (hok : checkF s zs d = (0, -1)) (hb : b < w.heap.size) (hc : Row w b off zs) (hcap : n ≤ cap) :
    Calls Tryz.prog 133 #[.agg #[.int .i64 s, .slice (some ⟨b, off, none⟩) n cap, .int .i64 d]] w fun e w' =>
      (∃ p g cg M, w.heap.size ≤ p ∧ w.heap.size ≤ g ∧ w.heap.size ≤ M ∧ e = .returned (.tuple #[.pointer (some ⟨p, 0, none⟩), .nilIface]) ∧ CoreIs w' p s d n zs g cg M) ∧ Below w.heap.size w w' := by
  subst hn
  have hr := range_pos hok
  unfold rangeB at hr
  simp only [Bool.and_eq_true, inB_iff] at hr
  obtain ⟨⟨_, b21, b22⟩, _⟩ := hr
  have hB0 : Below w.heap.size w (w.alloc (.cells #[.int .i64 s, .slice (some ⟨b, off, none⟩) zs.length cap, .int .i64 d] 42)) := (Below.refl _ _).alloc (Nat.le_refl _) _
  have hcf := conf_ok s d b off cap zs _ hok (by simp; omega) (hc.below hb hB0) hcap
  have HCF := hide hcf
  have HOK := hide hok
  have HC := hide hc
  clear hcf hok hc
  go_enter Tryz.func133, Tryz.ntmps133
  go_wp2_with fail
  refine HCF.out.mono ?_
  rintro e w1 ⟨⟨M, hM, rfl, hrw⟩, hB⟩
  have hN1 : w.heap.size < w1.heap.size := by have := hB.size; simp at this; omega
  have hM1 : M < w1.heap.size := hrw.lt
  have hbox : w1.heap[w.heap.size]? = some (.cells #[.int .i64 s, .slice (some ⟨b, off, none⟩) zs.length cap, .int .i64 d] 42 (0, 0)) := (hB.block _ (by simp)).trans (blk_new _ _)
  have c1 : w1.cell? ⟨w.heap.size, 1, none⟩ = some (.slice (some ⟨b, off, none⟩) zs.length cap) := by rw [blk_cell hbox]; rfl
  have hB1 : Below w.heap.size w w1 := hB0.trans (hB.mono (by simp))
  have hcl := clone_any b off zs.length cap zs w1 rfl (by omega) (by omega) (by omega) (HC.out.below hb hB1)
  have HCL := hide hcl
  have HBOX := hide hbox
  have HRW := hide hrw
  have HB1 := hide hB1
  clear hcl hbox hrw hB hB1 hB0 HCF HC
  go_wp2_with fail
  refine HCL.out.mono ?_
  rintro e w2 ⟨⟨g, cg, hg1, hg2, hg3, rfl, hrow⟩, hB2⟩
  have hbox2 : w2.heap[w.heap.size]? = some (.cells #[.int .i64 s, .slice (some ⟨b, off, none⟩) zs.length cap, .int .i64 d] 42 (0, 0)) := (hB2.block _ hN1).trans HBOX.out
  have d0 : w2.cell? ⟨w.heap.size, 0, none⟩ = some (.int .i64 s) := by rw [blk_cell hbox2]; rfl
  have d1 : w2.cell? ⟨w.heap.size, 1, none⟩ = some (.slice (some ⟨b, off, none⟩) zs.length cap) := by rw [blk_cell hbox2]; rfl
  have d2 : w2.cell? ⟨w.heap.size, 2, none⟩ = some (.int .i64 d) := by rw [blk_cell hbox2]; rfl
  have f1 : w2.frozen? ⟨w.heap.size, 1, none⟩ = false := blk_free hbox2 1
  have HB2 := hide hB2
  have HROW := hide hrow
  clear hB2 hrow hbox2 HCL c1
  go_wp2
  go_ret2
  have hN2 : w.heap.size < w2.heap.size := Nat.lt_of_lt_of_le hN1 HB2.out.size
  have hM' : w.heap.size + 1 ≤ M := by simpa using hM
  have hset : Below w.heap.size w2 ((w2.setCell ⟨w.heap.size, 1, none⟩ (.slice (some ⟨g, 0, none⟩) zs.length cg)).alloc (.cells #[.int .i64 s, .slice (some ⟨g, 0, none⟩) zs.length cg, .int .i64 d, .slice (some ⟨M, 0, none⟩) zs.length zs.length] 258)) :=
    (show Below w.heap.size w2 (w2.setCell ⟨w.heap.size, 1, none⟩ (.slice (some ⟨g, 0, none⟩) zs.length cg)) from Below.setCell (Below.refl w.heap.size w2) (p := ⟨w.heap.size, 1, none⟩) (Nat.le_refl _) _).alloc (by simp [World.setCell]; omega) _
  have hk : ∀ k, k < w2.heap.size → k ≠ w.heap.size → ((w2.setCell ⟨w.heap.size, 1, none⟩ (.slice (some ⟨g, 0, none⟩) zs.length cg)).alloc (.cells #[.int .i64 s, .slice (some ⟨g, 0, none⟩) zs.length cg, .int .i64 d, .slice (some ⟨M, 0, none⟩) zs.length zs.length] 258)).heap[k]? = w2.heap[k]? := fun k h1 h2 => by
    rw [Below.heap_alloc _ _ _ (by simp [World.setCell]; omega), Below.heap_setCell _ _ _ _ h2]
  refine ⟨⟨w2.heap.size, g, cg, M, by omega, by omega, by omega, rfl, ?_⟩, (HB1.out.trans (HB2.out.mono (by omega))).trans hset⟩
  refine ⟨?_, rfl, hg3, ?_, fun k hk' => (World.cell?_of_block (w := w2) (hk g hg2 (by omega))).trans (HROW.out k hk'), ?_, HOK.out⟩
  · have := blk_new (w2.setCell ⟨w.heap.size, 1, none⟩ (.slice (some ⟨g, 0, none⟩) zs.length cg)) (.cells #[.int .i64 s, .slice (some ⟨g, 0, none⟩) zs.length cg, .int .i64 d, .slice (some ⟨M, 0, none⟩) zs.length zs.length] 258)
    simpa [World.setCell] using this
  · simp [World.setCell]; omega
  · refine HRW.out.of_block ((hk M ?_ (by omega)).trans (HB2.out.block M hM1))
    exact Nat.lt_of_lt_of_le hM1 HB2.out.size
end Go.Proofs.YtaablbmgagiajabGreatDoor
