import Derived.Deep.RegionWith
import Derived.Deep.RegionHeld3
import Derived.Deep.MidRow
import Derived.Test.YtaablbmgagiajaaGreatDoorTGAJ
import Derived.Test.YtaablbmgagiajaaGreatDoorTGAK
import Derived.Deep.Upon
import Derived.Test.YtaablbmgagiajaaGreatDoorTGAG
namespace Go.Proofs.YtaablbmgagiajaaGreatDoor
open Go.RowKit Go.Deep
def fitN (n : Nat) (x : Int) : Nat := u64 x &&& (2 ^ n - 1)
theorem fitN_eq (n : Nat) (x : Int) (h : n ≤ 12) : bits .and .i64 x (top (n : Int)) = ((fitN n x : Nat) : Int) := by
  have hp : 2 ^ n ≤ 2 ^ 12 := Nat.pow_le_pow_right (by decide) h
  have hq : 0 < 2 ^ n := Nat.two_pow_pos _
  unfold top fitN
  rw [Int.toNat_natCast, and_right _ _ (by rw [u64_nat _ (by omega)]; omega), u64_nat _ (by omega)]
theorem fitN_lt (n : Nat) (x : Int) : fitN n x < 2 ^ n := by
  have hq : 0 < 2 ^ n := Nat.two_pow_pos n
  exact Nat.lt_of_le_of_lt Nat.and_le_right (by omega)
theorem fitN_bit (n : Nat) (x : Int) (k : Nat) : (fitN n x).testBit k = (decide (k < n) && (u64 x).testBit k) := by
  unfold fitN
  rw [Nat.testBit_and, Nat.testBit_two_pow_sub_one]
  cases decide (k < n) <;> simp
theorem fit_core (s d : Nat) (x0 x1 : Int) (b n cap : Nat) (zs : List Int) (w : World) (hn : zs.length = n) (hok : checkF s zs d = (0, -1)) (hb : b < w.heap.size) (hc : Row w b 0 zs) (hcap : n ≤ cap) :
    Calls Tryz.prog 42 #[.agg #[.int .i64 (s : Int), .slice (some ⟨b, 0, none⟩) n cap, .int .i64 (d : Int)], .agg #[.int .i64 x0, .int .i64 x1]] w fun e w' =>
      e = .returned (.tuple #[.agg #[.int .i64 ((fitN s x0 : Nat) : Int), .int .i64 ((fitN n x1 : Nat) : Int)], .nilIface]) ∧ Below w.heap.size w w' := by
  have hr := range_pos hok
  unfold rangeB at hr
  simp only [Bool.and_eq_true, inB_iff] at hr
  have h1 := fit_ok (s : Int) (d : Int) x0 x1 b 0 cap zs w hok hb hc (by omega)
  rw [fitN_eq s x0 (by omega), fitN_eq zs.length x1 (by omega), hn] at h1
  exact h1
def st0 : St := ⟨0, fun _ => 0, fun _ => 0⟩
theorem oneCells (S : St) : (stCells S).all (·.oneCell') = true := by simp [stCells, Value.oneCell']
theorem stateInfo : (Tryz.prog.info? 33).map (·.size) = some 17 := by kernel_rfl
theorem row_other (w : World) (g k : Nat) (cs : Array Value) (h : k ≠ g) : (w.setRow g cs).heap[k]? = w.heap[k]? := by
  simp only [World.setRow, Array.getElem?_modify]
  rw [if_neg (by omega)]
theorem row_same {w : World} {g : Nat} {S : St} (h : StIs w g S) (X : St) : StIs (w.setRow g (stCells X)) g X := setRow_heap w g _ _ _ _ h
theorem below_row {B : Nat} {a w : World} (h : Below B a w) {g : Nat} (hg : B ≤ g) (cs : Array Value) : Below B a (w.setRow g cs) :=
  h.trans ⟨rfl, rfl, rfl, by simp [World.setRow], fun k hk => row_other _ _ _ _ (by omega)⟩
theorem results_cell2 {P : Program} {f : Func} {tmps : Array Value} {w : World} {a k : Tmp} {t : TypeId} {ad : Addr} {v : Value} (hf : f.results = #[.cell a t, .tmp k]) (ha : tmps.getD a undef = .pointer (some ad)) (hl : (loadVar t ad).run P w = .ok v w) :
    (results f tmps).run P w = .ok (.tuple #[v, tmps.getD k undef]) w := by
  have ha' : tmps[a]?.getD undef = .pointer (some ad) := by simpa using ha
  simp only [results, hf]
  simp [asAddr, ha', hl]
structure SMid (w wz : World) (N p s d n : Nat) (zs : List Int) (g cg M c v : Nat) (X : St) : Prop where
  old : Below N w wz
  K : CoreIs wz p (s : Int) (d : Int) n zs g cg M
  st : StIs wz N X
  bx : wz.heap[N + 1]? = some (.cells #[.int .i64 (c : Int), .int .i64 (v : Int)] 30 (0, 0))
  rs : StIs wz (N + 1 + 1) st0
theorem SMid.grown {w wz wy : World} {N p s d n : Nat} {zs : List Int} {g cg M c v : Nat} {X Y : St} (h : SMid w wz N p s d n zs g cg M c v X) (hw : N = w.heap.size) (hp : p ≠ N) (hg : g ≠ N) (hM : M ≠ N) (k : wz.grownBy wy (some N)) (hY : StIs wy N Y) : SMid w wy N p s d n zs g cg M c v Y :=
  ⟨h.old.grown k (by rw [hw]; exact h.old.size) (fun j e => by cases e; exact Nat.le_refl _), h.K.grown hp hg hM k, hY, (k.block _ (blk_lt h.bx) (by simp)).trans h.bx, (k.block _ (blk_lt h.rs) (by simp; omega)).trans h.rs⟩
theorem SMid.x0 {w wz : World} {N p s d n : Nat} {zs : List Int} {g cg M c v : Nat} {X : St} (h : SMid w wz N p s d n zs g cg M c v X) : wz.cell? ⟨N + 1, 0, none⟩ = some (.int .i64 (c : Int)) := by rw [blk_cell h.bx]; rfl
theorem SMid.x1 {w wz : World} {N p s d n : Nat} {zs : List Int} {g cg M c v : Nat} {X : St} (h : SMid w wz N p s d n zs g cg M c v X) : wz.cell? ⟨N + 1, 1, none⟩ = some (.int .i64 (v : Int)) := by rw [blk_cell h.bx]; rfl
set_option maxHeartbeats 4000000 in
set_option maxRecDepth 20000 in
theorem step_any (p s d n : Nat) (zs : List Int) (g cg M : Nat) (x0 x1 : Int) (S : St) (w : World) (hK : CoreIs w p (s : Int) (d : Int) n zs g cg M) (hok : StOk S) :
    Calls Tryz.prog 14 #[.pointer (some ⟨p, 0, none⟩), .agg (stCells S), .agg #[.int .i64 x0, .int .i64 x1]] w fun e w' =>
      e = .returned (.tuple #[.agg (stCells (nextF (rt zs) (conf zs) n d (fitN s x0) (fitN n x1) S)), .int .i64 ((outF (rt zs) (conf zs) n d (fitN s x0) (fitN n x1) S : Nat) : Int)]) ∧ Below w.heap.size w w' := by
  obtain ⟨f1, f8, fs1, fs2, fd1, fd2⟩ := hK.few
  have hc4 : fitN s x0 < 4096 := Nat.lt_of_lt_of_le (fitN_lt _ _) (Nat.pow_le_pow_right (n := 2) (by decide) (show s ≤ 12 by omega))
  have hv8 : fitN n x1 < 256 := Nat.lt_of_lt_of_le (fitN_lt _ _) (Nat.pow_le_pow_right (n := 2) (by decide) (show n ≤ 8 by omega))
  obtain ⟨W, hW⟩ : ∃ W, Hid ((((w.alloc (.cells (stCells S) 33)).alloc (.cells #[.int .i64 x0, .int .i64 x1] 30)).alloc (.cells (stCells st0) 33)) = W) := ⟨_, hide rfl⟩
  have hB0 : Below w.heap.size w W := by rw [← hW.out]; exact (((Below.refl _ _).alloc (Nat.le_refl _) _).alloc (by simp) _).alloc (by simp; omega) _
  have hWs : W.heap.size = w.heap.size + 1 + 1 + 1 := by rw [← hW.out]; simp
  have b0 : StIs W w.heap.size S := by rw [← hW.out]; exact (Below.heap_alloc _ _ _ (by simp; omega)).trans ((Below.heap_alloc _ _ _ (by simp)).trans (blk_new _ _))
  have b1 : W.heap[w.heap.size + 1]? = some (.cells #[.int .i64 x0, .int .i64 x1] 30 (0, 0)) := by
    rw [← hW.out]
    refine (Below.heap_alloc _ _ _ (by simp)).trans ?_
    have := blk_new (w.alloc (.cells (stCells S) 33)) (.cells #[.int .i64 x0, .int .i64 x1] 30)
    simpa using this
  have b2 : StIs W (w.heap.size + 1 + 1) st0 := by
    rw [← hW.out]
    have := blk_new ((w.alloc (.cells (stCells S) 33)).alloc (.cells #[.int .i64 x0, .int .i64 x1] 30)) (.cells (stCells st0) 33)
    unfold StIs
    simpa using this
  have hK0 := hK.below hK.plt hK.glt hK.mlt hB0
  have hpl := hK.plt
  have hgl := hK.glt
  have hml := hK.mlt
  obtain ⟨c, hc⟩ : ∃ c, Hid (fitN s x0 = c) := ⟨_, hide rfl⟩
  obtain ⟨v, hv⟩ : ∃ v, Hid (fitN n x1 = v) := ⟨_, hide rfl⟩
  rw [hc.out, hv.out]
  rw [hc.out] at hc4
  rw [hv.out] at hv8
  have hfit : ∀ wx, Below W.heap.size W wx → Calls Tryz.prog 42 #[.agg #[.int .i64 (s : Int), .slice (some ⟨g, 0, none⟩) n cg, .int .i64 (d : Int)], .agg #[.int .i64 x0, .int .i64 x1]] wx fun e w' =>
      e = .returned (.tuple #[.agg #[.int .i64 (c : Int), .int .i64 (v : Int)], .nilIface]) ∧ (w'.cell? ⟨w.heap.size + 1, 0, none⟩ = some (.int .i64 x0) ∧ w'.cell? ⟨w.heap.size + 1, 1, none⟩ = some (.int .i64 x1) ∧ w'.frozen? ⟨w.heap.size + 1, 0, none⟩ = false ∧ w'.frozen? ⟨w.heap.size + 1, 1, none⟩ = false) ∧
        Hid (SMid w ((w'.setCell ⟨w.heap.size + 1, 0, none⟩ (.int .i64 (c : Int))).setCell ⟨w.heap.size + 1, 1, none⟩ (.int .i64 (v : Int))) w.heap.size p s d n zs g cg M c v S) := by
    intro wx hx
    refine (fit_core s d x0 x1 g n cg zs wx hK0.len hK0.ok (Nat.lt_of_lt_of_le hK0.glt hx.size) (hK0.row.below hK0.glt hx) hK0.cap).mono ?_
    rw [hc.out, hv.out]
    rintro e w' ⟨he, hB⟩
    have hB' := hx.trans (hB.mono hx.size)
    have hb1 : w'.heap[w.heap.size + 1]? = some (.cells #[.int .i64 x0, .int .i64 x1] 30 (0, 0)) := (hB'.block _ (by omega)).trans b1
    have hne : ∀ k, k ≠ w.heap.size + 1 → ((w'.setCell ⟨w.heap.size + 1, 0, none⟩ (.int .i64 (c : Int))).setCell ⟨w.heap.size + 1, 1, none⟩ (.int .i64 (v : Int))).heap[k]? = w'.heap[k]? := fun k hk => by
      rw [Below.heap_setCell _ _ _ _ hk, Below.heap_setCell _ _ _ _ hk]
    refine ⟨he, ⟨by rw [blk_cell hb1]; rfl, by rw [blk_cell hb1]; rfl, blk_free hb1 0, blk_free hb1 1⟩, ?_, ?_, ?_, ?_, ?_⟩
    · exact ((hB0.trans (hB'.mono (by omega))).setCell (by show w.heap.size ≤ w.heap.size + 1; omega) _).setCell (by show w.heap.size ≤ w.heap.size + 1; omega) _
    · have hb : Below w.heap.size w' ((w'.setCell ⟨w.heap.size + 1, 0, none⟩ (.int .i64 (c : Int))).setCell ⟨w.heap.size + 1, 1, none⟩ (.int .i64 (v : Int))) := ((Below.refl w.heap.size w').setCell (p := ⟨w.heap.size + 1, 0, none⟩) (by show w.heap.size ≤ w.heap.size + 1; omega) _).setCell (by show w.heap.size ≤ w.heap.size + 1; omega) _
      exact (hK0.below (B := w.heap.size) hpl hgl hml (hB'.mono (by omega))).below hpl hgl hml hb
    · exact (hne _ (by omega)).trans ((hB'.block _ (by omega)).trans b0)
    · exact (blk_set (blk_set hb1 _ _) _ _).trans rfl
    · exact (hne _ (by omega)).trans ((hB'.block _ (by omega)).trans b2)
  have HFIT := hide hfit
  have k0 : W.cell? ⟨p, 0, none⟩ = some (.int .i64 (s : Int)) := by rw [blk_cell hK0.blk]; rfl
  have k1 : W.cell? ⟨p, 1, none⟩ = some (.slice (some ⟨g, 0, none⟩) n cg) := by rw [blk_cell hK0.blk]; rfl
  have k2 : W.cell? ⟨p, 2, none⟩ = some (.int .i64 (d : Int)) := by rw [blk_cell hK0.blk]; rfl
  have y0 : W.cell? ⟨w.heap.size + 1, 0, none⟩ = some (.int .i64 x0) := by rw [blk_cell b1]; rfl
  have y1 : W.cell? ⟨w.heap.size + 1, 1, none⟩ = some (.int .i64 x1) := by rw [blk_cell b1]; rfl
  have HOK := hide hok
  clear hfit hK hK0 hB0 b0 b1 b2 hok hc hv
  go_enter Tryz.func14, Tryz.ntmps14
  go_wp2_with fail
  rw [show (((w.alloc (.cells (stCells S) 33)).alloc (.cells #[.int .i64 x0, .int .i64 x1] 30)).alloc (.cells #[.int .i64 0, .int .i64 0, .int .i64 0, .int .i64 0, .int .i64 0, .int .i64 0, .int .i64 0, .int .i64 0, .int .i64 0, .int .i64 0, .int .i64 0, .int .i64 0, .int .i64 0, .int .i64 0, .int .i64 0, .int .i64 0, .int .i64 0] 33)) = W from hW.out]
  clear hW
  go_region_with ((go_at_call 42; refine (unhide HFIT _ (by first | exact Below.refl _ _ | exact (Below.refl _ _).drew | exact below_drewN (Below.refl _ _) _)).mono ?_; rintro e w1 ⟨rfl, ⟨z0, z1, z2, z3⟩, HM⟩))
  all_goals
    clear k0 k1 k2 y0 y1 z0 z1 z2 z3 HFIT
    generalize ((w1.setCell ⟨w.heap.size + 1, 0, none⟩ (.int .i64 (c : Int))).setCell ⟨w.heap.size + 1, 1, none⟩ (.int .i64 (v : Int))) = w2 at HM ⊢
    have y0 := HM.out.x0
    have y1 := HM.out.x1
    have hlg := letGo_any p w.heap.size (s : Int) d n zs g cg M c v S w2 HM.out.K HM.out.st (by omega) (by omega) (by omega) HOK.out hc4 hv8
    have HLG := hide hlg
    clear hlg
    go_wp2_with fail
    refine HLG.out.mono ?_
    rintro e w3 ⟨rfl, hs3, hg3⟩
    have hM3 := HM.out.grown rfl (by omega) (by omega) (by omega) hg3 hs3
    obtain ⟨L, hL⟩ : ∃ L, Hid (letTo (rt zs) d c v S n = L) := ⟨_, hide rfl⟩
    rw [hL.out] at hM3
    have hL8 : L.set < 256 := by rw [← hL.out]; exact letTo_set_lt _ _ _ _ _ _ 8 HOK.out.set
    have HM3 := hide hM3
    clear hs3 hg3 hM3 HLG HM y0 y1
    have y0 := HM3.out.x0
    have y1 := HM3.out.x1
    have hsw := setWanted_any p w.heap.size (s : Int) d n zs g cg M c v L w3 HM3.out.K HM3.out.st (by omega) (by omega) (by omega) hL8 hc4 hv8
    have HSW := hide hsw
    clear hsw
    go_wp2_with fail
    refine HSW.out.mono ?_
    rintro e w4 ⟨rfl, hs4, hg4⟩
    have hM4 := HM3.out.grown rfl (by omega) (by omega) (by omega) hg4 hs4
    have hX8 : putTo (rt zs) (conf zs) c v L.set n < 256 := putTo_lt _ _ _ _ _ _ 8 hL8 (by omega)
    obtain ⟨X, hX⟩ : ∃ X, Hid ((⟨putTo (rt zs) (conf zs) c v L.set n, L.used, L.idle⟩ : St) = X) := ⟨_, hide rfl⟩
    rw [hX.out] at hM4
    have hX8' : X.set < 256 := by rw [← hX.out]; exact hX8
    have HM4 := hide hM4
    clear hs4 hg4 hM4 HSW HM3 y0 y1 hX8
    have hnx : nextF (rt zs) (conf zs) n d c v S = X := by rw [← hX.out, ← hL.out]; rfl
    have hout : outF (rt zs) (conf zs) n d c v S = showTo (rt zs) c v X n := by unfold outF; rw [hnx]
    have HNX := hide hnx
    have HOUT := hide hout
    have hS4 : ∀ w' : World, Below w4.heap.size w4 w' → w'.rangeAt w.heap.size 0 (stCells X).toList ∧ w'.cell? ⟨w.heap.size + 1, 0, none⟩ = some (.int .i64 (c : Int)) ∧ w'.cell? ⟨w.heap.size + 1, 1, none⟩ = some (.int .i64 (v : Int)) ∧ (∃ Y, StIs w' (w.heap.size + 1 + 1) Y) := by
      intro w' hB'
      have q1 : w'.heap[w.heap.size]? = some (.cells (stCells X) 33 (0, 0)) := (hB'.block _ (blk_lt HM4.out.st)).trans HM4.out.st
      have q2 : w'.heap[w.heap.size + 1]? = _ := (hB'.block _ (blk_lt HM4.out.bx)).trans HM4.out.bx
      have q3 : w'.heap[w.heap.size + 1 + 1]? = some (.cells (stCells st0) 33 (0, 0)) := (hB'.block _ (blk_lt HM4.out.rs)).trans HM4.out.rs
      exact ⟨fun j u hj => by rw [Nat.zero_add, blk_cell q1]; simpa using hj, (blk_cell q2 0).trans rfl, (blk_cell q2 1).trans rfl, _, q3⟩
    have hpr : ∀ wx, Below w4.heap.size w4 wx → Calls Tryz.prog 45 #[.pointer (some ⟨p, 0, none⟩), .agg (stCells X).toList.toArray, .agg #[.int .i64 (c : Int), .int .i64 (v : Int)]] wx fun e w' =>
        e = .returned (.int .i64 ((showTo (rt zs) c v X n : Nat) : Int)) ∧ Hid (Below w4.heap.size w4 w') := by
      intro wx hx
      have hKx := HM4.out.K.below HM4.out.K.plt HM4.out.K.glt HM4.out.K.mlt hx
      refine (proceed_any p (s : Int) d n zs g cg M c v X wx hKx hX8' hc4 hv8).mono ?_
      rintro e w' ⟨he, hB⟩
      exact ⟨he, hx.trans (hB.mono hx.size)⟩
    have HPR := hide hpr
    have HS4 := hide hS4
    have hi : (Tryz.prog.info? 33).map (·.size) = some (stCells X).toList.length := by rw [stateInfo]; rfl
    have HI := hide hi
    clear hpr hnx hout hX hL hS4 hi
    go_wp2_with fail
    refine wp_region_held_drew (S := fun w' => w'.rangeAt w.heap.size 0 (stCells X).toList ∧ w'.cell? ⟨w.heap.size + 1, 0, none⟩ = some (.int .i64 (c : Int)) ∧ w'.cell? ⟨w.heap.size + 1, 1, none⟩ = some (.int .i64 (v : Int)) ∧ ∃ Y, StIs w' (w.heap.size + 1 + 1) Y) (by kernel_rfl) (HS4.out _ (Below.refl _ _).drew) (fun hHeld => ?_)
    refine wpAnyH_take (i := 0) (oi := _) (v := _) rfl (by kernel_rfl) (by kernel_rfl) (by kernel_rfl) (fun _ _ _ h => h) (yieldsIf_load_mid (by rfl) _ _ rfl _ _ rfl _ _ (fun w h => h.1) Tryz.underlying33 rfl HI.out) hHeld ?_
    simp only [Act.put]
    refine wpAnyH_take (i := 1) (oi := _) (v := .pointer (some ⟨p, 0, none⟩)) rfl (by kernel_rfl) (by kernel_rfl) (by kernel_rfl) (fun _ _ _ h => h) (Or.inl ⟨by rfl, fun w _ => by go_simp⟩) hHeld ?_
    simp only [Act.put]
    refine wpAnyH_take (i := 2) (oi := _) (v := _) rfl (by kernel_rfl) (by kernel_rfl) (by kernel_rfl) (fun _ _ _ h => h) (yieldsIf_load_mid (by rfl) _ _ rfl _ _ rfl _ _ (fun w h => h.1) Tryz.underlying33 rfl HI.out) hHeld ?_
    simp only [Act.put]
    refine wpAnyH_take (i := 3) (oi := _) (v := .agg #[.int .i64 (c : Int), .int .i64 (v : Int)]) rfl (by kernel_rfl) (by kernel_rfl) (by kernel_rfl) (fun _ _ _ h => h) (Or.inl ⟨by rfl, fun w h => by obtain ⟨_, h1, h2, _⟩ := h; go_simp⟩) hHeld ?_
    simp only [Act.put]
    refine wpAnyH_ready (rs := [4]) (by kernel_rfl) (by simp) ?_
    refine AllReadyH.cons (o := _) rfl (fun K hK => ?_) AllReadyH.nil
    rw [if_pos (by rfl)]
    go_simp
    go_at_call 45
    refine (unhide HPR _ (Below.refl _ _).drew).mono ?_
    rintro e w5 ⟨rfl, HB5⟩
    dsimp only
    refine hK.out _ _ (HS4.out _ HB5.out) (fun hHeld => ?_)
    clear hK K
    refine wpAnyH_ready (rs := [5]) (by kernel_rfl) (by simp) ?_
    refine AllReadyH.cons (o := _) rfl (fun K hK => ?_) AllReadyH.nil
    rw [if_pos (by rfl)]
    obtain ⟨hs51, hs52, hs53, Y, hst5⟩ := HS4.out _ HB5.out
    refine wp_store_row _ _ _ rfl _ _ rfl rfl _ _ hst5 (by rw [stateInfo]; rfl) rfl (oneCells X) ?_
    have hs6 : ∀ k, k ≠ w.heap.size + 1 + 1 → ∀ j, (w5.setRow (w.heap.size + 1 + 1) (stCells X)).cell? ⟨k, j, none⟩ = w5.cell? ⟨k, j, none⟩ := fun k hk j => World.cell?_of_block (w := w5) (row_other _ _ _ _ hk)
    refine hK.out _ _ ⟨fun j u hj => (hs6 _ (by omega) _).trans (hs51 j u hj), (hs6 _ (by omega) _).trans hs52, (hs6 _ (by omega) _).trans hs53, X, row_same hst5 X⟩ (fun hHeld => ?_)
    clear hK K
    simp only [Act.put]
    have hB6 := below_row (HM4.out.old.trans (HB5.out.mono (Nat.le_of_lt (blk_lt HM4.out.st)))) (show w.heap.size ≤ w.heap.size + 1 + 1 by omega) (stCells X)
    have hst6 := row_same hst5 X
    have HB6 := hide hB6
    clear hB6 hs6 hs51 hs52 hs53 hst5
    generalize w5.setRow (w.heap.size + 1 + 1) (stCells X) = w6 at HB6 hst6 hHeld ⊢
    refine wpAnyH_take (i := 6) (oi := _) (v := .int .i64 ((showTo (rt zs) c v X n : Nat) : Int)) rfl (by kernel_rfl) (by kernel_rfl) (by kernel_rfl) (fun _ _ _ h => h) (Or.inl ⟨by rfl, fun w _ => by go_simp⟩) hHeld ?_
    simp only [Act.put, List.getElem_toArray, List.getElem_cons_succ, List.getElem_cons_zero, List.setIfInBounds_toArray, List.set_cons_succ, List.set_cons_zero]
    refine wpAnyH_done (by kernel_rfl) ?_ _
    have HST6 := hide hst6
    clear hst6 hHeld
    go_wp2
    refine bodyPost_ret (v := .tuple #[.agg (stCells X), .int .i64 ((showTo (rt zs) c v X n : Nat) : Int)]) ?_ rfl ⟨by rw [HNX.out, HOUT.out], HB6.out⟩
    have hld := run_loadVar_row (P := Tryz.prog) w6 _ _ 33 _ _ _ HST6.out Tryz.underlying33 rfl (by rw [stateInfo]; rfl)
    exact results_cell2 Tryz.results14 rfl hld
def BIs (w : World) (p t n : Nat) (f : Nat → Value) : Prop := ∃ cs : Array Value, w.heap[p]? = some (.cells cs t (0, 0)) ∧ cs.size = n ∧ ∀ k, k < n → cs[k]? = some (f k)
section
variable {w w' : World} {p t n : Nat} {f g : Nat → Value}
theorem BIs.at (h : BIs w p t n f) {k : Nat} (hk : k < n) : w.cell? ⟨p, k, none⟩ = some (f k) := by
  obtain ⟨cs, h1, _, h3⟩ := h
  rw [blk_cell h1]
  exact h3 k hk
theorem BIs.free (h : BIs w p t n f) (k : Nat) : w.frozen? ⟨p, k, none⟩ = false := by
  obtain ⟨cs, h1, _⟩ := h
  exact blk_free h1 k
theorem BIs.lt (h : BIs w p t n f) : p < w.heap.size := by
  obtain ⟨cs, h1, _⟩ := h
  exact blk_lt h1
theorem BIs.same (h : BIs w p t n f) (hb : w'.heap[p]? = w.heap[p]?) : BIs w' p t n f := by
  obtain ⟨cs, h1, h2⟩ := h
  exact ⟨cs, hb.trans h1, h2⟩
theorem BIs.congr (h : BIs w p t n f) (e : ∀ k, k < n → f k = g k) : BIs w p t n g := by
  obtain ⟨cs, h1, h2, h3⟩ := h
  exact ⟨cs, h1, h2, fun k hk => by rw [h3 k hk, e k hk]⟩
theorem BIs.set (h : BIs w p t n f) {k : Nat} (hk : k < n) (v : Value) : BIs (w.setCell ⟨p, k, none⟩ v) p t n (upd f k v) := by
  obtain ⟨cs, h1, h2, h3⟩ := h
  refine ⟨_, blk_set h1 k v, by simpa using h2, fun j hj => ?_⟩
  rw [Array.getElem?_setIfInBounds]
  by_cases e : k = j
  · subst e; simp [h2, hk, upd_same]
  · rw [if_neg e, upd_other f v (fun h => e h.symm)]; exact h3 j hj
theorem BIs.sets : ∀ (vs : List Value) (o : Nat) (w : World) (f : Nat → Value), BIs w p t n f → o + vs.length ≤ n → BIs (w.setCells p o vs) p t n (fun k => if o ≤ k then (vs[k - o]?).getD (f k) else f k)
  | [], o, w, f, h, _ => h.congr fun k _ => by simp
  | v :: r, o, w, f, h, hl => by
    simp only [List.length_cons] at hl
    refine (BIs.sets r (o + 1) (w.setCell ⟨p, o, none⟩ v) (upd f o v) (h.set (by omega) v) (by omega)).congr fun k _ => ?_
    by_cases h1 : k < o
    · rw [if_neg (by omega), if_neg (by omega), upd_other _ _ (by omega)]
    · by_cases h2 : k = o
      · subst h2; rw [if_neg (by omega), if_pos (Nat.le_refl _)]; simp [upd_same]
      · rw [if_pos (by omega), if_pos (by omega), upd_other _ _ h2, show k - o = (k - (o + 1)) + 1 by omega, List.getElem?_cons_succ]
theorem BIs.range (h : BIs w p t n f) {o : Nat} {cs : List Value} (hl : o + cs.length ≤ n) (hc : ∀ j, j < cs.length → cs[j]? = some (f (o + j))) : w.rangeAt p o cs := by
  intro j v hv
  have hj : j < cs.length := (List.getElem?_eq_some_iff.1 hv).1
  rw [h.at (by omega), ← hc j hj, hv]
theorem BIs.there (h : BIs w p t n f) {o m : Nat} (hl : o + m ≤ n) : w.there p o m := fun j hj => ⟨by rw [h.at (by omega)]; rfl, h.free _⟩
end
structure Smp where
  there : Bool
  came : Int
  c : Nat
  v : Nat
def smp0 : Smp := ⟨false, 0, 0, 0⟩
def smpC (x : Smp) : List Value := [.bool x.there, .int .i64 x.came, .int .i64 (x.c : Int), .int .i64 (x.v : Int)]
structure RS where
  id : Nat
  cycle : Int
  ticks : Int
  ahead : Int
  st : St
  sx : Int
  sy : Int
  smp : Nat → Smp
  told : Nat → Nat → Int
def tlC (T : Nat → Int) : Array Value := #[.int .i64 (T 0), .int .i64 (T 1), .int .i64 (T 2), .int .i64 (T 3), .int .i64 (T 4), .int .i64 (T 5), .int .i64 (T 6), .int .i64 (T 7), .int .i64 (T 8), .int .i64 (T 9), .int .i64 (T 10), .int .i64 (T 11), .int .i64 (T 12), .int .i64 (T 13), .int .i64 (T 14), .int .i64 (T 15), .int .i64 (T 16), .int .i64 (T 17)]
theorem tlC_at (T : Nat → Int) (k : Nat) (h : k < 18) : (tlC T)[k]? = some (.int .i64 (T k)) := by
  match k, h with
  | 0, _ => rfl | 1, _ => rfl | 2, _ => rfl | 3, _ => rfl | 4, _ => rfl | 5, _ => rfl | 6, _ => rfl | 7, _ => rfl | 8, _ => rfl | 9, _ => rfl | 10, _ => rfl | 11, _ => rfl | 12, _ => rfl | 13, _ => rfl | 14, _ => rfl | 15, _ => rfl | 16, _ => rfl | 17, _ => rfl
  | _ + 18, h => exact absurd h (by omega)
structure RC where
  s : Nat
  d : Nat
  n : Nat
  zs : List Int
  pc : Nat
  g : Nat
  cg : Nat
  M : Nat
  g2 : Nat
  c2 : Nat
def rpF (C : RC) (R : RS) (k : Nat) : Value :=
  if k = 0 then .int .i64 (R.id : Int) else if k = 1 then .int .i64 (C.s : Int) else if k = 2 then .slice (some ⟨C.g2, 0, none⟩) C.n C.c2 else if k = 3 then .int .i64 (C.d : Int) else if k = 4 then .pointer (some ⟨C.pc, 0, none⟩)
  else if k = 5 then .int .i64 R.cycle else if k = 6 then .int .i64 R.ticks else if k = 7 then .int .i64 R.ahead
  else if k < 25 then ((stCells R.st)[k - 8]?).getD undef
  else if k = 25 then .int .i64 R.sx else if k = 26 then .int .i64 R.sy
  else if k < 39 then ((smpC (R.smp ((k - 27) / 4)))[(k - 27) % 4]?).getD undef
  else .int .i64 (R.told ((k - 39) / 18) ((k - 39) % 18))
structure RpIs (w : World) (p : Nat) (C : RC) (R : RS) : Prop where
  blk : BIs w p 125 93 (rpF C R)
  core : CoreIs w C.pc (C.s : Int) (C.d : Int) C.n C.zs C.g C.cg C.M
  row : Row w C.g2 0 C.zs
  lt2 : C.g2 < w.heap.size
  cap2 : C.n ≤ C.c2
  ap : p ≠ C.pc ∧ p ≠ C.g ∧ p ≠ C.M ∧ p ≠ C.g2
theorem CoreIs.blocks {w wx : World} {p : Nat} {s d : Int} {n : Nat} {zs : List Int} {g cg M : Nat} (h : CoreIs w p s d n zs g cg M) (hs : w.heap.size ≤ wx.heap.size) (hb : ∀ k, k = p ∨ k = g ∨ k = M → wx.heap[k]? = w.heap[k]?) : CoreIs wx p s d n zs g cg M :=
  ⟨(hb p (.inl rfl)).trans h.blk, h.len, h.cap, Nat.lt_of_lt_of_le h.glt hs, fun k hk => (World.cell?_of_block (w := w) (hb g (.inr (.inl rfl)))).trans (h.row k hk), h.con.of_block (hb M (.inr (.inr rfl))), h.ok⟩
section
variable {w w' : World} {p : Nat} {C : RC} {R R' : RS}
theorem RpIs.lt (h : RpIs w p C R) : p < w.heap.size := h.blk.lt
theorem RpIs.mod (h : RpIs w p C R) (hm : Mod w w' (· = p)) (hb : BIs w' p 125 93 (rpF C R')) : RpIs w' p C R' := by
  have e : ∀ k, k < w.heap.size → k ≠ p → w'.heap[k]? = w.heap[k]? := fun k hk hp => hm.block k hk hp
  obtain ⟨a1, a2, a3, a4⟩ := h.ap
  refine ⟨hb, h.core.blocks hm.size ?_, fun k hk => (World.cell?_of_block (w := w) (e _ h.lt2 (fun x => a4 x.symm))).trans (h.row k hk), Nat.lt_of_lt_of_le h.lt2 hm.size, h.cap2, h.ap⟩
  rintro k (rfl | rfl | rfl)
  · exact e _ h.core.plt (fun x => a1 x.symm)
  · exact e _ h.core.glt (fun x => a2 x.symm)
  · exact e _ h.core.mlt (fun x => a3 x.symm)
theorem RpIs.below (h : RpIs w p C R) (hB : Below w.heap.size w w') : RpIs w' p C R := h.mod (Mod.ofBelow hB _) (h.blk.same (hB.block _ h.lt))
theorem RpIs.other (h : RpIs w p C R) {q : Nat} (hm : Mod w w' (· = q)) (hq : q ≠ p ∧ q ≠ C.pc ∧ q ≠ C.g ∧ q ≠ C.M ∧ q ≠ C.g2) : RpIs w' p C R := by
  have e : ∀ k, k < w.heap.size → k ≠ q → w'.heap[k]? = w.heap[k]? := fun k hk hp => hm.block k hk hp
  obtain ⟨a0, a1, a2, a3, a4⟩ := hq
  refine ⟨h.blk.same (e _ h.lt (fun x => a0 x.symm)), h.core.blocks hm.size ?_, fun k hk => (World.cell?_of_block (w := w) (e _ h.lt2 (fun x => a4 x.symm))).trans (h.row k hk), Nat.lt_of_lt_of_le h.lt2 hm.size, h.cap2, h.ap⟩
  rintro k (rfl | rfl | rfl)
  · exact e _ h.core.plt (fun x => a1 x.symm)
  · exact e _ h.core.glt (fun x => a2 x.symm)
  · exact e _ h.core.mlt (fun x => a3 x.symm)
theorem RpIs.put (h : RpIs w p C R) {k : Nat} (hk : k < 93) (v : Value) (e : ∀ j, j < 93 → upd (rpF C R) k v j = rpF C R' j) : RpIs (w.setCell ⟨p, k, none⟩ v) p C R' :=
  h.mod ((Mod.refl w _).set ⟨p, k, none⟩ v (fun _ => rfl)) ((h.blk.set hk v).congr e)
theorem Mod.sets {T : Nat → Prop} {w w1 : World} (h : Mod w w1 T) (p o : Nat) (vs : List Value) (hp : T p) : Mod w (w1.setCells p o vs) T := by
  refine ⟨(World.os_setCells _ _ _ _).trans h.os, ?_, (World.output_setCells _ _ _ _).trans h.output, ?_, fun k hk ht => ?_⟩
  · have : ∀ (vs : List Value) (o : Nat) (x : World), (x.setCells p o vs).tape = x.tape := by
      intro vs
      induction vs with
      | nil => intro _ _; rfl
      | cons v r ih => intro o x; exact ih (o + 1) (x.setCell ⟨p, o, none⟩ v)
    rw [this]; exact h.tape
  · have : ∀ (vs : List Value) (o : Nat) (x : World), (x.setCells p o vs).heap.size = x.heap.size := by
      intro vs
      induction vs with
      | nil => intro _ _; rfl
      | cons v r ih => intro o x; exact (ih (o + 1) (x.setCell ⟨p, o, none⟩ v)).trans (by simp [World.setCell])
    rw [this]; exact h.size
  · have hne : k ≠ p := fun e => ht (e ▸ hp)
    exact (World.heap_setCells_other w1 p o vs (Nat.lt_of_lt_of_le hk h.size) hne).trans (h.block k hk ht)
theorem RpIs.puts (h : RpIs w p C R) (o : Nat) (vs : List Value) (hl : o + vs.length ≤ 93) (e : ∀ j, j < 93 → (if o ≤ j then (vs[j - o]?).getD (rpF C R j) else rpF C R j) = rpF C R' j) : RpIs (w.setCells p o vs) p C R' :=
  h.mod ((Mod.refl w _).sets p o vs rfl) ((BIs.sets vs o w _ h.blk hl).congr e)
theorem RpIs.c0 (h : RpIs w p C R) : w.cell? ⟨p, 0, none⟩ = some (.int .i64 (R.id : Int)) := h.blk.at (by decide)
theorem RpIs.c1 (h : RpIs w p C R) : w.cell? ⟨p, 1, none⟩ = some (.int .i64 (C.s : Int)) := h.blk.at (by decide)
theorem RpIs.c2 (h : RpIs w p C R) : w.cell? ⟨p, 2, none⟩ = some (.slice (some ⟨C.g2, 0, none⟩) C.n C.c2) := h.blk.at (by decide)
theorem RpIs.c3 (h : RpIs w p C R) : w.cell? ⟨p, 3, none⟩ = some (.int .i64 (C.d : Int)) := h.blk.at (by decide)
theorem RpIs.c4 (h : RpIs w p C R) : w.cell? ⟨p, 4, none⟩ = some (.pointer (some ⟨C.pc, 0, none⟩)) := h.blk.at (by decide)
theorem RpIs.c5 (h : RpIs w p C R) : w.cell? ⟨p, 5, none⟩ = some (.int .i64 R.cycle) := h.blk.at (by decide)
theorem RpIs.c6 (h : RpIs w p C R) : w.cell? ⟨p, 6, none⟩ = some (.int .i64 R.ticks) := h.blk.at (by decide)
theorem RpIs.c7 (h : RpIs w p C R) : w.cell? ⟨p, 7, none⟩ = some (.int .i64 R.ahead) := h.blk.at (by decide)
theorem RpIs.c25 (h : RpIs w p C R) : w.cell? ⟨p, 25, none⟩ = some (.int .i64 R.sx) := h.blk.at (by decide)
theorem RpIs.c26 (h : RpIs w p C R) : w.cell? ⟨p, 26, none⟩ = some (.int .i64 R.sy) := h.blk.at (by decide)
theorem RpIs.state (h : RpIs w p C R) : w.rangeAt p 8 (stCells R.st).toList := by
  refine h.blk.range (by show 8 + 17 ≤ 93; omega) fun j hj => ?_
  have hj' : j < 17 := hj
  unfold rpF
  rw [if_neg (by omega), if_neg (by omega), if_neg (by omega), if_neg (by omega), if_neg (by omega), if_neg (by omega), if_neg (by omega), if_neg (by omega), if_pos (by omega), show 8 + j - 8 = j by omega]
  have hs : j < (stCells R.st).size := hj'
  rw [Array.getElem?_toList, Array.getElem?_eq_getElem hs]
  rfl
theorem rpF_smp {k j : Nat} (hk : k < 3) (hj : j < 4) : rpF C R (27 + k * 4 + j) = ((smpC (R.smp k))[j]?).getD undef := by
  unfold rpF
  rw [if_neg (by omega), if_neg (by omega), if_neg (by omega), if_neg (by omega), if_neg (by omega), if_neg (by omega), if_neg (by omega), if_neg (by omega), if_neg (by omega), if_neg (by omega), if_neg (by omega), if_pos (by omega), show (27 + k * 4 + j - 27) / 4 = k by omega, show (27 + k * 4 + j - 27) % 4 = j by omega]
theorem rpF_told {k j : Nat} (hk : k < 3) (hj : j < 18) : rpF C R (39 + k * 18 + j) = .int .i64 (R.told k j) := by
  unfold rpF
  rw [if_neg (by omega), if_neg (by omega), if_neg (by omega), if_neg (by omega), if_neg (by omega), if_neg (by omega), if_neg (by omega), if_neg (by omega), if_neg (by omega), if_neg (by omega), if_neg (by omega), if_neg (by omega), show (39 + k * 18 + j - 39) / 18 = k by omega, show (39 + k * 18 + j - 39) % 18 = j by omega]
theorem RpIs.s2 (h : RpIs w p C R) {k : Nat} (hk : k < 3) : w.cell? ⟨p, 27 + k * 4 + 2, none⟩ = some (.int .i64 ((R.smp k).c : Int)) := (h.blk.at (by omega)).trans (congrArg some (rpF_smp (j := 2) hk (by omega)))
theorem RpIs.s3 (h : RpIs w p C R) {k : Nat} (hk : k < 3) : w.cell? ⟨p, 27 + k * 4 + 3, none⟩ = some (.int .i64 ((R.smp k).v : Int)) := (h.blk.at (by omega)).trans (congrArg some (rpF_smp (j := 3) hk (by omega)))
def smpL (f : Nat → Smp) : List Value := smpC (f 0) ++ smpC (f 1) ++ smpC (f 2)
theorem RpIs.samples (h : RpIs w p C R) : w.rangeAt p 27 (smpL R.smp) := by
  refine h.blk.range (by show 27 + 12 ≤ 93; omega) fun j hj => ?_
  have hj' : j < 12 := hj
  rcases (by omega : j < 4 ∨ (4 ≤ j ∧ j < 8) ∨ (8 ≤ j ∧ j < 12)) with h1 | h1 | h1
  · have := rpF_smp (C := C) (R := R) (k := 0) (j := j) (by omega) h1
    rw [show 27 + 0 * 4 + j = 27 + j by omega] at this
    rw [this]
    rcases (by omega : j = 0 ∨ j = 1 ∨ j = 2 ∨ j = 3) with rfl | rfl | rfl | rfl <;> rfl
  · have := rpF_smp (C := C) (R := R) (k := 1) (j := j - 4) (by omega) (by omega)
    rw [show 27 + 1 * 4 + (j - 4) = 27 + j by omega] at this
    rw [this]
    rcases (by omega : j = 4 ∨ j = 5 ∨ j = 6 ∨ j = 7) with rfl | rfl | rfl | rfl <;> rfl
  · have := rpF_smp (C := C) (R := R) (k := 2) (j := j - 8) (by omega) (by omega)
    rw [show 27 + 2 * 4 + (j - 8) = 27 + j by omega] at this
    rw [this]
    rcases (by omega : j = 8 ∨ j = 9 ∨ j = 10 ∨ j = 11) with rfl | rfl | rfl | rfl <;> rfl
def tlL (f : Nat → Nat → Int) : List Value := (tlC (f 0)).toList ++ (tlC (f 1)).toList ++ (tlC (f 2)).toList
theorem tlL_at (f : Nat → Nat → Int) {k j : Nat} (hk : k < 3) (hj : j < 18) : (tlL f)[k * 18 + j]? = some (.int .i64 (f k j)) := by
  have a : ∀ i, (tlC (f i)).toList[j]? = some (.int .i64 (f i j)) := fun i => by rw [Array.getElem?_toList]; exact tlC_at _ _ hj
  have l : ∀ i, (tlC (f i)).toList.length = 18 := fun _ => rfl
  unfold tlL
  rcases (by omega : k = 0 ∨ k = 1 ∨ k = 2) with rfl | rfl | rfl
  · rw [List.append_assoc, List.getElem?_append_left (by rw [l]; omega), Nat.zero_mul, Nat.zero_add, a]
  · rw [List.append_assoc, List.getElem?_append_right (by rw [l]; omega), List.getElem?_append_left (by rw [l, l]; omega), l, show 1 * 18 + j - 18 = j by omega, a]
  · rw [List.getElem?_append_right (by rw [List.length_append, l, l]; omega), List.length_append, l, l, show 2 * 18 + j - (18 + 18) = j by omega, a]
theorem RpIs.tolds (h : RpIs w p C R) : w.rangeAt p 39 (tlL R.told) := by
  refine h.blk.range (by show 39 + 54 ≤ 93; omega) fun j hj => ?_
  have hj' : j < 54 := hj
  have e := tlL_at R.told (k := j / 18) (j := j % 18) (by omega) (by omega)
  have e2 := rpF_told (C := C) (R := R) (k := j / 18) (j := j % 18) (by omega) (by omega)
  rw [show j / 18 * 18 + j % 18 = j by omega] at e
  rw [show 39 + j / 18 * 18 + j % 18 = 39 + j by omega] at e2
  rw [e, e2]
end
end Go.Proofs.YtaablbmgagiajaaGreatDoor
