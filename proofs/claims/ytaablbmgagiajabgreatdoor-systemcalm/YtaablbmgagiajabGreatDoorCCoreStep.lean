import Derived.Deep.RegionWith
import Derived.Deep.RegionHeld3
import Derived.Deep.MidRow
import Derived.Test.YtaablbmgagiajabGreatDoorCCoreSet
import Derived.Test.YtaablbmgagiajabGreatDoorCCoreShow
import Derived.Test.YtaablbmgagiajabGreatDoorCFitOk
namespace Go.Proofs.YtaablbmgagiajabGreatDoor
open Go.RowKit Go.Deep
def fitN (n : Nat) (x : Int) : Nat := u64 x &&& (2 ^ n - 1)
theorem fitN_eq (n : Nat) (x : Int) (h : n ≤ 12) : bits .and .i64 x (top (n : Int)) = ((fitN n x : Nat) : Int) := by
  have hp : 2 ^ n ≤ 2 ^ 12 := Nat.pow_le_pow_right (by decide) h
  have hq : 0 < 2 ^ n := Nat.two_pow_pos _
  unfold top fitN
  rw [Int.toNat_natCast, and_right _ _ (by rw [u64_nat _ (by omega)]; omega), u64_nat _ (by omega)]
theorem fitN_lt (n : Nat) (x : Int) : fitN n x < 2 ^ n := by
  have hq : 0 < 2 ^ n := Nat.two_pow_pos n
  exact Nat.lt_of_le_of_lt Nat.and_le_right (by omega)
theorem fit_core (s d : Nat) (x0 x1 : Int) (b n cap : Nat) (zs : List Int) (w : World) (hn : zs.length = n) (hok : checkF s zs d = (0, -1)) (hb : b < w.heap.size) (hc : Row w b 0 zs) (hcap : n ≤ cap) :
    Calls Tryz.prog 19 #[.agg #[.int .i64 (s : Int), .slice (some ⟨b, 0, none⟩) n cap, .int .i64 (d : Int)], .agg #[.int .i64 x0, .int .i64 x1]] w fun e w' =>
      e = .returned (.tuple #[.agg #[.int .i64 ((fitN s x0 : Nat) : Int), .int .i64 ((fitN n x1 : Nat) : Int)], .nilIface]) ∧ Below w.heap.size w w' := by
  have hr := range_pos hok
  unfold rangeB at hr
  simp only [Bool.and_eq_true, inB_iff] at hr
  have h1 := fit_ok (s : Int) (d : Int) x0 x1 b 0 cap zs w hok hb hc (by omega)
  rw [fitN_eq s x0 (by omega), fitN_eq zs.length x1 (by omega), hn] at h1
  exact h1
def st0 : St := ⟨0, fun _ => 0, fun _ => 0⟩
theorem oneCells (S : St) : (stCells S).all (·.oneCell') = true := by simp [stCells, Value.oneCell']
theorem stateInfo : (Tryz.prog.info? 34).map (·.size) = some 17 := by kernel_rfl
theorem row_other (w : World) (g k : Nat) (cs : Array Value) (h : k ≠ g) : (w.setRow g cs).heap[k]? = w.heap[k]? := by
  simp only [World.setRow, Array.getElem?_modify]
  rw [if_neg (by omega)]
theorem row_same {w : World} {g : Nat} {S : St} (h : StIs w g S) (X : St) : StIs (w.setRow g (stCells X)) g X := setRow_heap w g _ _ _ _ h
theorem below_row {B : Nat} {a w : World} (h : Below B a w) {g : Nat} (hg : B ≤ g) (cs : Array Value) : Below B a (w.setRow g cs) :=
  h.trans ⟨rfl, rfl, rfl, by simp [World.setRow], fun k hk => row_other _ _ _ _ (by omega)⟩
theorem results_cell2 {P : Program} {f : Func} {tmps : Array Value} {w : World} {a k : Tmp} {t : TypeId} {ad : Addr} {v : Value} (hf : f.results = #[.cell a t, .tmp k]) (ha : tmps.getD a undef = .pointer (some ad)) (hl : (loadVar t ad).run P w = .ok v w) :
    (results f tmps).run P w = .ok (.tuple #[v, tmps.getD k undef]) w := by
  have ha' : tmps[a]?.getD undef = .pointer (some ad) := by simpa using ha
  simp only [results, hf]
  simp [asAddr, ha', hl]
structure SMid (w wz : World) (N p s d n : Nat) (zs : List Int) (g cg M c v : Nat) (X : St) : Prop where
  old : Below N w wz
  K : CoreIs wz p (s : Int) (d : Int) n zs g cg M
  st : StIs wz N X
  bx : wz.heap[N + 1]? = some (.cells #[.int .i64 (c : Int), .int .i64 (v : Int)] 31 (0, 0))
  rs : StIs wz (N + 1 + 1) st0
theorem SMid.grown {w wz wy : World} {N p s d n : Nat} {zs : List Int} {g cg M c v : Nat} {X Y : St} (h : SMid w wz N p s d n zs g cg M c v X) (hw : N = w.heap.size) (hp : p ≠ N) (hg : g ≠ N) (hM : M ≠ N) (k : wz.grownBy wy (some N)) (hY : StIs wy N Y) : SMid w wy N p s d n zs g cg M c v Y :=
  ⟨h.old.grown k (by rw [hw]; exact h.old.size) (fun j e => by cases e; exact Nat.le_refl _), h.K.grown hp hg hM k, hY, (k.block _ (blk_lt h.bx) (by simp)).trans h.bx, (k.block _ (blk_lt h.rs) (by simp; omega)).trans h.rs⟩
theorem SMid.x0 {w wz : World} {N p s d n : Nat} {zs : List Int} {g cg M c v : Nat} {X : St} (h : SMid w wz N p s d n zs g cg M c v X) : wz.cell? ⟨N + 1, 0, none⟩ = some (.int .i64 (c : Int)) := by rw [blk_cell h.bx]; rfl
theorem SMid.x1 {w wz : World} {N p s d n : Nat} {zs : List Int} {g cg M c v : Nat} {X : St} (h : SMid w wz N p s d n zs g cg M c v X) : wz.cell? ⟨N + 1, 1, none⟩ = some (.int .i64 (v : Int)) := by rw [blk_cell h.bx]; rfl
set_option maxHeartbeats 4000000 in
set_option maxRecDepth 20000 in
theorem step_any (p s d n : Nat) (zs : List Int) (g cg M : Nat) (x0 x1 : Int) (S : St) (w : World) (hK : CoreIs w p (s : Int) (d : Int) n zs g cg M) (hok : StOk S) :
    Calls Tryz.prog 180 #[.pointer (some ⟨p, 0, none⟩), .agg (stCells S), .agg #[.int .i64 x0, .int .i64 x1]] w fun e w' =>
      e = .returned (.tuple #[.agg (stCells (nextF (rt zs) (conf zs) n d (fitN s x0) (fitN n x1) S)), .int .i64 ((outF (rt zs) (conf zs) n d (fitN s x0) (fitN n x1) S : Nat) : Int)]) ∧ Below w.heap.size w w' := by
  obtain ⟨f1, f8, fs1, fs2, fd1, fd2⟩ := hK.few
  have hc4 : fitN s x0 < 4096 := Nat.lt_of_lt_of_le (fitN_lt _ _) (Nat.pow_le_pow_right (n := 2) (by decide) (show s ≤ 12 by omega))
  have hv8 : fitN n x1 < 256 := Nat.lt_of_lt_of_le (fitN_lt _ _) (Nat.pow_le_pow_right (n := 2) (by decide) (show n ≤ 8 by omega))
  obtain ⟨W, hW⟩ : ∃ W, Hid ((((w.alloc (.cells (stCells S) 34)).alloc (.cells #[.int .i64 x0, .int .i64 x1] 31)).alloc (.cells (stCells st0) 34)) = W) := ⟨_, hide rfl⟩
  have hB0 : Below w.heap.size w W := by rw [← hW.out]; exact (((Below.refl _ _).alloc (Nat.le_refl _) _).alloc (by simp) _).alloc (by simp; omega) _
  have hWs : W.heap.size = w.heap.size + 1 + 1 + 1 := by rw [← hW.out]; simp
  have b0 : StIs W w.heap.size S := by rw [← hW.out]; exact (Below.heap_alloc _ _ _ (by simp; omega)).trans ((Below.heap_alloc _ _ _ (by simp)).trans (blk_new _ _))
  have b1 : W.heap[w.heap.size + 1]? = some (.cells #[.int .i64 x0, .int .i64 x1] 31 (0, 0)) := by
    rw [← hW.out]
    refine (Below.heap_alloc _ _ _ (by simp)).trans ?_
    have := blk_new (w.alloc (.cells (stCells S) 34)) (.cells #[.int .i64 x0, .int .i64 x1] 31)
    simpa using this
  have b2 : StIs W (w.heap.size + 1 + 1) st0 := by
    rw [← hW.out]
    have := blk_new ((w.alloc (.cells (stCells S) 34)).alloc (.cells #[.int .i64 x0, .int .i64 x1] 31)) (.cells (stCells st0) 34)
    unfold StIs
    simpa using this
  have hK0 := hK.below hK.plt hK.glt hK.mlt hB0
  have hpl := hK.plt
  have hgl := hK.glt
  have hml := hK.mlt
  obtain ⟨c, hc⟩ : ∃ c, Hid (fitN s x0 = c) := ⟨_, hide rfl⟩
  obtain ⟨v, hv⟩ : ∃ v, Hid (fitN n x1 = v) := ⟨_, hide rfl⟩
  rw [hc.out, hv.out]
  rw [hc.out] at hc4
  rw [hv.out] at hv8
  have hfit : ∀ wx, Below W.heap.size W wx → Calls Tryz.prog 19 #[.agg #[.int .i64 (s : Int), .slice (some ⟨g, 0, none⟩) n cg, .int .i64 (d : Int)], .agg #[.int .i64 x0, .int .i64 x1]] wx fun e w' =>
      e = .returned (.tuple #[.agg #[.int .i64 (c : Int), .int .i64 (v : Int)], .nilIface]) ∧ (w'.cell? ⟨w.heap.size + 1, 0, none⟩ = some (.int .i64 x0) ∧ w'.cell? ⟨w.heap.size + 1, 1, none⟩ = some (.int .i64 x1) ∧ w'.frozen? ⟨w.heap.size + 1, 0, none⟩ = false ∧ w'.frozen? ⟨w.heap.size + 1, 1, none⟩ = false) ∧
        Hid (SMid w ((w'.setCell ⟨w.heap.size + 1, 0, none⟩ (.int .i64 (c : Int))).setCell ⟨w.heap.size + 1, 1, none⟩ (.int .i64 (v : Int))) w.heap.size p s d n zs g cg M c v S) := by
    intro wx hx
    refine (fit_core s d x0 x1 g n cg zs wx hK0.len hK0.ok (Nat.lt_of_lt_of_le hK0.glt hx.size) (hK0.row.below hK0.glt hx) hK0.cap).mono ?_
    rw [hc.out, hv.out]
    rintro e w' ⟨he, hB⟩
    have hB' := hx.trans (hB.mono hx.size)
    have hb1 : w'.heap[w.heap.size + 1]? = some (.cells #[.int .i64 x0, .int .i64 x1] 31 (0, 0)) := (hB'.block _ (by omega)).trans b1
    have hne : ∀ k, k ≠ w.heap.size + 1 → ((w'.setCell ⟨w.heap.size + 1, 0, none⟩ (.int .i64 (c : Int))).setCell ⟨w.heap.size + 1, 1, none⟩ (.int .i64 (v : Int))).heap[k]? = w'.heap[k]? := fun k hk => by
      rw [Below.heap_setCell _ _ _ _ hk, Below.heap_setCell _ _ _ _ hk]
    refine ⟨he, ⟨by rw [blk_cell hb1]; rfl, by rw [blk_cell hb1]; rfl, blk_free hb1 0, blk_free hb1 1⟩, ?_, ?_, ?_, ?_, ?_⟩
    · exact ((hB0.trans (hB'.mono (by omega))).setCell (by show w.heap.size ≤ w.heap.size + 1; omega) _).setCell (by show w.heap.size ≤ w.heap.size + 1; omega) _
    · have hb : Below w.heap.size w' ((w'.setCell ⟨w.heap.size + 1, 0, none⟩ (.int .i64 (c : Int))).setCell ⟨w.heap.size + 1, 1, none⟩ (.int .i64 (v : Int))) := ((Below.refl w.heap.size w').setCell (p := ⟨w.heap.size + 1, 0, none⟩) (by show w.heap.size ≤ w.heap.size + 1; omega) _).setCell (by show w.heap.size ≤ w.heap.size + 1; omega) _
      exact (hK0.below (B := w.heap.size) hpl hgl hml (hB'.mono (by omega))).below hpl hgl hml hb
    · exact (hne _ (by omega)).trans ((hB'.block _ (by omega)).trans b0)
    · exact (blk_set (blk_set hb1 _ _) _ _).trans rfl
    · exact (hne _ (by omega)).trans ((hB'.block _ (by omega)).trans b2)
  have HFIT := hide hfit
  have k0 : W.cell? ⟨p, 0, none⟩ = some (.int .i64 (s : Int)) := by rw [blk_cell hK0.blk]; rfl
  have k1 : W.cell? ⟨p, 1, none⟩ = some (.slice (some ⟨g, 0, none⟩) n cg) := by rw [blk_cell hK0.blk]; rfl
  have k2 : W.cell? ⟨p, 2, none⟩ = some (.int .i64 (d : Int)) := by rw [blk_cell hK0.blk]; rfl
  have y0 : W.cell? ⟨w.heap.size + 1, 0, none⟩ = some (.int .i64 x0) := by rw [blk_cell b1]; rfl
  have y1 : W.cell? ⟨w.heap.size + 1, 1, none⟩ = some (.int .i64 x1) := by rw [blk_cell b1]; rfl
  have HOK := hide hok
  clear hfit hK hK0 hB0 b0 b1 b2 hok hc hv
  go_enter Tryz.func180, Tryz.ntmps180
  go_wp2_with fail
  rw [show (((w.alloc (.cells (stCells S) 34)).alloc (.cells #[.int .i64 x0, .int .i64 x1] 31)).alloc (.cells #[.int .i64 0, .int .i64 0, .int .i64 0, .int .i64 0, .int .i64 0, .int .i64 0, .int .i64 0, .int .i64 0, .int .i64 0, .int .i64 0, .int .i64 0, .int .i64 0, .int .i64 0, .int .i64 0, .int .i64 0, .int .i64 0, .int .i64 0] 34)) = W from hW.out]
  clear hW
  go_region_with ((go_at_call 19; refine (unhide HFIT _ (by first | exact Below.refl _ _ | exact (Below.refl _ _).drew | exact below_drewN (Below.refl _ _) _)).mono ?_; rintro e w1 ⟨rfl, ⟨z0, z1, z2, z3⟩, HM⟩))
  all_goals
    clear k0 k1 k2 y0 y1 z0 z1 z2 z3 HFIT
    generalize ((w1.setCell ⟨w.heap.size + 1, 0, none⟩ (.int .i64 (c : Int))).setCell ⟨w.heap.size + 1, 1, none⟩ (.int .i64 (v : Int))) = w2 at HM ⊢
    have y0 := HM.out.x0
    have y1 := HM.out.x1
    have hlg := letGo_any p w.heap.size (s : Int) d n zs g cg M c v S w2 HM.out.K HM.out.st (by omega) (by omega) (by omega) HOK.out hc4 hv8
    have HLG := hide hlg
    clear hlg
    go_wp2_with fail
    refine HLG.out.mono ?_
    rintro e w3 ⟨rfl, hs3, hg3⟩
    have hM3 := HM.out.grown rfl (by omega) (by omega) (by omega) hg3 hs3
    obtain ⟨L, hL⟩ : ∃ L, Hid (letTo (rt zs) d c v S n = L) := ⟨_, hide rfl⟩
    rw [hL.out] at hM3
    have hL8 : L.set < 256 := by rw [← hL.out]; exact letTo_set_lt _ _ _ _ _ _ 8 HOK.out.set
    have HM3 := hide hM3
    clear hs3 hg3 hM3 HLG HM y0 y1
    have y0 := HM3.out.x0
    have y1 := HM3.out.x1
    have hsw := setWanted_any p w.heap.size (s : Int) d n zs g cg M c v L w3 HM3.out.K HM3.out.st (by omega) (by omega) (by omega) hL8 hc4 hv8
    have HSW := hide hsw
    clear hsw
    go_wp2_with fail
    refine HSW.out.mono ?_
    rintro e w4 ⟨rfl, hs4, hg4⟩
    have hM4 := HM3.out.grown rfl (by omega) (by omega) (by omega) hg4 hs4
    have hX8 : putTo (rt zs) (conf zs) c v L.set n < 256 := putTo_lt _ _ _ _ _ _ 8 hL8 (by omega)
    obtain ⟨X, hX⟩ : ∃ X, Hid ((⟨putTo (rt zs) (conf zs) c v L.set n, L.used, L.idle⟩ : St) = X) := ⟨_, hide rfl⟩
    rw [hX.out] at hM4
    have hX8' : X.set < 256 := by rw [← hX.out]; exact hX8
    have HM4 := hide hM4
    clear hs4 hg4 hM4 HSW HM3 y0 y1 hX8
    have hnx : nextF (rt zs) (conf zs) n d c v S = X := by rw [← hX.out, ← hL.out]; rfl
    have hout : outF (rt zs) (conf zs) n d c v S = showTo (rt zs) c v X n := by unfold outF; rw [hnx]
    have HNX := hide hnx
    have HOUT := hide hout
    have hS4 : ∀ w' : World, Below w4.heap.size w4 w' → w'.rangeAt w.heap.size 0 (stCells X).toList ∧ w'.cell? ⟨w.heap.size + 1, 0, none⟩ = some (.int .i64 (c : Int)) ∧ w'.cell? ⟨w.heap.size + 1, 1, none⟩ = some (.int .i64 (v : Int)) ∧ (∃ Y, StIs w' (w.heap.size + 1 + 1) Y) := by
      intro w' hB'
      have q1 : w'.heap[w.heap.size]? = some (.cells (stCells X) 34 (0, 0)) := (hB'.block _ (blk_lt HM4.out.st)).trans HM4.out.st
      have q2 : w'.heap[w.heap.size + 1]? = _ := (hB'.block _ (blk_lt HM4.out.bx)).trans HM4.out.bx
      have q3 : w'.heap[w.heap.size + 1 + 1]? = some (.cells (stCells st0) 34 (0, 0)) := (hB'.block _ (blk_lt HM4.out.rs)).trans HM4.out.rs
      exact ⟨fun j u hj => by rw [Nat.zero_add, blk_cell q1]; simpa using hj, (blk_cell q2 0).trans rfl, (blk_cell q2 1).trans rfl, _, q3⟩
    have hpr : ∀ wx, Below w4.heap.size w4 wx → Calls Tryz.prog 202 #[.pointer (some ⟨p, 0, none⟩), .agg (stCells X).toList.toArray, .agg #[.int .i64 (c : Int), .int .i64 (v : Int)]] wx fun e w' =>
        e = .returned (.int .i64 ((showTo (rt zs) c v X n : Nat) : Int)) ∧ Hid (Below w4.heap.size w4 w') := by
      intro wx hx
      have hKx := HM4.out.K.below HM4.out.K.plt HM4.out.K.glt HM4.out.K.mlt hx
      refine (proceed_any p (s : Int) d n zs g cg M c v X wx hKx hX8' hc4 hv8).mono ?_
      rintro e w' ⟨he, hB⟩
      exact ⟨he, hx.trans (hB.mono hx.size)⟩
    have HPR := hide hpr
    have HS4 := hide hS4
    have hi : (Tryz.prog.info? 34).map (·.size) = some (stCells X).toList.length := by rw [stateInfo]; rfl
    have HI := hide hi
    clear hpr hnx hout hX hL hS4 hi
    go_wp2_with fail
    refine wp_region_held_drew (S := fun w' => w'.rangeAt w.heap.size 0 (stCells X).toList ∧ w'.cell? ⟨w.heap.size + 1, 0, none⟩ = some (.int .i64 (c : Int)) ∧ w'.cell? ⟨w.heap.size + 1, 1, none⟩ = some (.int .i64 (v : Int)) ∧ ∃ Y, StIs w' (w.heap.size + 1 + 1) Y) (by kernel_rfl) (HS4.out _ (Below.refl _ _).drew) (fun hHeld => ?_)
    refine wpAnyH_take (i := 0) (oi := _) (v := _) rfl (by kernel_rfl) (by kernel_rfl) (by kernel_rfl) (fun _ _ _ h => h) (yieldsIf_load_mid (by rfl) _ _ rfl _ _ rfl _ _ (fun w h => h.1) Tryz.underlying34 rfl HI.out) hHeld ?_
    simp only [Act.put]
    refine wpAnyH_take (i := 1) (oi := _) (v := .pointer (some ⟨p, 0, none⟩)) rfl (by kernel_rfl) (by kernel_rfl) (by kernel_rfl) (fun _ _ _ h => h) (Or.inl ⟨by rfl, fun w _ => by go_simp⟩) hHeld ?_
    simp only [Act.put]
    refine wpAnyH_take (i := 2) (oi := _) (v := _) rfl (by kernel_rfl) (by kernel_rfl) (by kernel_rfl) (fun _ _ _ h => h) (yieldsIf_load_mid (by rfl) _ _ rfl _ _ rfl _ _ (fun w h => h.1) Tryz.underlying34 rfl HI.out) hHeld ?_
    simp only [Act.put]
    refine wpAnyH_take (i := 3) (oi := _) (v := .agg #[.int .i64 (c : Int), .int .i64 (v : Int)]) rfl (by kernel_rfl) (by kernel_rfl) (by kernel_rfl) (fun _ _ _ h => h) (Or.inl ⟨by rfl, fun w h => by obtain ⟨_, h1, h2, _⟩ := h; go_simp⟩) hHeld ?_
    simp only [Act.put]
    refine wpAnyH_ready (rs := [4]) (by kernel_rfl) (by simp) ?_
    refine AllReadyH.cons (o := _) rfl (fun K hK => ?_) AllReadyH.nil
    rw [if_pos (by rfl)]
    go_simp
    go_at_call 202
    refine (unhide HPR _ (Below.refl _ _).drew).mono ?_
    rintro e w5 ⟨rfl, HB5⟩
    dsimp only
    refine hK.out _ _ (HS4.out _ HB5.out) (fun hHeld => ?_)
    clear hK K
    refine wpAnyH_ready (rs := [5]) (by kernel_rfl) (by simp) ?_
    refine AllReadyH.cons (o := _) rfl (fun K hK => ?_) AllReadyH.nil
    rw [if_pos (by rfl)]
    obtain ⟨hs51, hs52, hs53, Y, hst5⟩ := HS4.out _ HB5.out
    refine wp_store_row _ _ _ rfl _ _ rfl rfl _ _ hst5 (by rw [stateInfo]; rfl) rfl (oneCells X) ?_
    have hs6 : ∀ k, k ≠ w.heap.size + 1 + 1 → ∀ j, (w5.setRow (w.heap.size + 1 + 1) (stCells X)).cell? ⟨k, j, none⟩ = w5.cell? ⟨k, j, none⟩ := fun k hk j => World.cell?_of_block (w := w5) (row_other _ _ _ _ hk)
    refine hK.out _ _ ⟨fun j u hj => (hs6 _ (by omega) _).trans (hs51 j u hj), (hs6 _ (by omega) _).trans hs52, (hs6 _ (by omega) _).trans hs53, X, row_same hst5 X⟩ (fun hHeld => ?_)
    clear hK K
    simp only [Act.put]
    have hB6 := below_row (HM4.out.old.trans (HB5.out.mono (Nat.le_of_lt (blk_lt HM4.out.st)))) (show w.heap.size ≤ w.heap.size + 1 + 1 by omega) (stCells X)
    have hst6 := row_same hst5 X
    have HB6 := hide hB6
    clear hB6 hs6 hs51 hs52 hs53 hst5
    generalize w5.setRow (w.heap.size + 1 + 1) (stCells X) = w6 at HB6 hst6 hHeld ⊢
    refine wpAnyH_take (i := 6) (oi := _) (v := .int .i64 ((showTo (rt zs) c v X n : Nat) : Int)) rfl (by kernel_rfl) (by kernel_rfl) (by kernel_rfl) (fun _ _ _ h => h) (Or.inl ⟨by rfl, fun w _ => by go_simp⟩) hHeld ?_
    simp only [Act.put, List.getElem_toArray, List.getElem_cons_succ, List.getElem_cons_zero, List.setIfInBounds_toArray, List.set_cons_succ, List.set_cons_zero]
    refine wpAnyH_done (by kernel_rfl) ?_ _
    have HST6 := hide hst6
    clear hst6 hHeld
    go_wp2
    refine bodyPost_ret (v := .tuple #[.agg (stCells X), .int .i64 ((showTo (rt zs) c v X n : Nat) : Int)]) ?_ rfl ⟨by rw [HNX.out, HOUT.out], HB6.out⟩
    have hld := run_loadVar_row (P := Tryz.prog) w6 _ _ 34 _ _ _ HST6.out Tryz.underlying34 rfl (by rw [stateInfo]; rfl)
    exact results_cell2 Tryz.results180 rfl hld
end Go.Proofs.YtaablbmgagiajabGreatDoor
