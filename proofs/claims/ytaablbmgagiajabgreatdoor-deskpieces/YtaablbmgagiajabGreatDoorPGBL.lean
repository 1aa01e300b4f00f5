import Derived.Deep.RegionHeld3
import Derived.Test.YtaablbmgagiajabGreatDoorPGBK
namespace Go.Proofs.YtaablbmgagiajabGreatDoor
open Go.RowKit Go.Deep Go.Shelf Go.Extern.Stop Go.Stop Go.Extern
attribute [local go_sem] run_store_func run_store_nilFunc
theorem leaves_res {P : Program} {fn : Func} {t t' : Array Value} {R : Ending → World → Prop} (h : results fn t = results fn t') : ∀ (ds : List Deferred) (u : FrameMode) (w : World), Leaves P fn t R ds u w → Leaves P fn t' R ds u w
  | [], .returning, _, ⟨v, h1, h2⟩ => ⟨v, by rw [← h]; exact h1, h2⟩
  | [], .panicking _, _, k => k
  | [], .run, _, k => k.elim
  | _ :: ds, _, _, ⟨hu, fv, cap, f, args, h1, h2, h3⟩ => ⟨hu, fv, cap, f, args, h1, h2, h3.mono (by
      intro e u' w' hh
      cases e with
      | returned v => exact leaves_res h ds _ _ hh
      | panicked c => exact leaves_res h ds _ _ hh
      | outgrown => exact hh)⟩
theorem ans_res (t : Array Value) (k : Nat) (v : Value) (hk : k ≠ 4) : results Tryz.f61 (t.setIfInBounds k v) = results Tryz.f61 t := by
  have e : (t.setIfInBounds k v)[4]? = t[4]? := Array.getElem?_setIfInBounds_ne hk
  simp [results, Tryz.results61, e]
theorem ans_put {R : Ending → World → Prop} {k : Nat} {v : Value} (hk : k ≠ 4) (c : List PanicEntry) (a : Act) (w : World) (h : bodyPostD Tryz.prog Tryz.f61 R (.panic c) (a.put (some k) v) w) : bodyPostD Tryz.prog Tryz.f61 R (.panic c) a w :=
  leaves_res (ans_res a.tmps k v hk) _ _ _ h
set_option maxRecDepth 100000 in
set_option maxHeartbeats 4000000 in
theorem answer_do (d m : Nat) (line x : List UInt8) (r : List (List UInt8)) (w : World) (hl : line.length ≤ 1000000) (hd : DkAt w d m) (hw : wordsF line = x :: r) (a b : Int) (f : Nat) (l : List Int) (hk : (ordTab d).lookup x = some (ordV d a b f)) (ha : a ≤ (r.length : Int)) (hb : (r.length : Int) ≤ b) (hr : sayF r = some l)
    (hef : ∀ args w, (callFunc f args).run Tryz.prog w = .ok (.enter f args) w) (G : List UInt8 → World → Prop)
    (hord : ∀ V M, Below w.heap.size w V → w.heap.size < V.heap.size → IsSl V (some ⟨M, 0, none⟩) r.length r.length l → (∀ z ∈ l, IntIn z) → Calls Tryz.prog f #[.pointer (some ⟨d, 0, none⟩), .slice (some ⟨M, 0, none⟩) r.length r.length] V fun e V' => Mod V V' (fun k => k < w.heap.size) ∧ ∃ s, G s V' ∧ (e = .returned (.string (txt s)) ∨ ∃ z, s = errF z ∧ IntIn z ∧ HasPow V' ∧ e = thrown z)) :
    Calls Tryz.prog 61 #[.pointer (some ⟨d, 0, none⟩), .string (txt line)] w fun e w' => ∃ s V', G s V' ∧ e = .returned (.string (txt s)) ∧ Mod V' w' (fun k => k = w.heap.size) := by
  have hmf : ∀ (fn : Fn) (first cap : Array Value) (w : World), (Instr.makeFunc fn first cap).run Tryz.prog w = .ok (.func fn first cap) w := fun _ _ _ _ => rfl
  obtain ⟨W, hW⟩ : ∃ W, Hid (w.alloc (.cells #[.string ⟨#[]⟩] 9) = W) := ⟨_, hide rfl⟩
  have hB0 : Below w.heap.size w W := by rw [← hW.out]; exact (Below.refl _ _).alloc (Nat.le_refl _) _
  have hsz : W.heap.size = w.heap.size + 1 := by rw [← hW.out]; simp
  have hc0 : W.cell? ⟨w.heap.size, 0, none⟩ = some (.string ⟨#[]⟩) ∧ W.frozen? ⟨w.heap.size, 0, none⟩ = false := by rw [← hW.out]; constructor <;> simp
  have HF := hide (fields_any line W hl)
  rw [hw] at HF
  have HC : Hid (∀ w1, Below W.heap.size W w1 → (w1.cell? ⟨w.heap.size, 0, none⟩ = some (.string ⟨#[]⟩) ∧ w1.frozen? ⟨w.heap.size, 0, none⟩ = false)) := hide fun w1 h =>
    ⟨(h.cell (p := ⟨w.heap.size, 0, none⟩) (by show w.heap.size < _; omega)).trans hc0.1, (World.frozen?_of_block (h.block _ (by show w.heap.size < _; omega))).trans hc0.2⟩
  have HB := hide hB0
  have HS := hide hsz
  have HD := hide hd
  have HK := hide hk
  have HR := hide hr
  have HO := hide hord
  clear hB0 hsz hc0 hd hk hr hord
  go_enter_defers Tryz.func61, Tryz.ntmps61
  go_wp2_with fail
  rw [hW.out]
  refine HF.out.mono ?_
  rintro e w1 ⟨A, n, rfl, rfl, hA, hA2, hws, hB1⟩
  obtain ⟨g0, g1⟩ := HC.out w1 hB1
  have HBw := hide (HB.out.trans (hB1.mono HB.out.size))
  have c4 := (HD.out.below HBw.out).c4
  have cx : w1.cell? ⟨A, 0, none⟩ = some (.string (txt x)) := hws 0 x rfl
  have hbd : Below w.heap.size w w1.drew := HBw.out.drew
  have k1 := HD.out.look hbd x
  have hba : Below w1.heap.size w1 (w1.alloc (.cells #[.int .i64 0, .int .i64 0, .nilFunc] 178)) := (Below.refl _ _).alloc (Nat.le_refl _) _
  have k2 := HD.out.look (HBw.out.trans (hba.mono HBw.out.size)).drew x
  have c4' : (w1.alloc (.cells #[.int .i64 0, .int .i64 0, .nilFunc] 178)).cell? ⟨d, 4, none⟩ = some (.map (some m)) := (hba.cell (p := ⟨d, 4, none⟩) (HD.out.below HBw.out).lt).trans c4
  have cx' : (w1.alloc (.cells #[.int .i64 0, .int .i64 0, .nilFunc] 178)).cell? ⟨A, 0, none⟩ = some (.string (txt x)) := (hba.cell (p := ⟨A, 0, none⟩) hA2).trans cx
  rw [HK.out] at k1 k2
  simp only [Option.getD_some, Option.isSome_some, ordV] at k1 k2
  have hlen : (x :: r).length = r.length + 1 := rfl
  rw [hlen]
  obtain ⟨oA, hoA, hss⟩ : ∃ oA, Hid ((r = [] ∧ oA = 0) ∨ (¬ r = [] ∧ oA = 1)) ∧ IsSs w1 (some ⟨A, oA, none⟩) r.length r.length r := by
    by_cases hr0 : r = []
    · exact ⟨0, hide (.inl ⟨hr0, rfl⟩), ⟨rfl, Nat.le_refl _, .inl hr0⟩⟩
    · exact ⟨1, hide (.inr ⟨hr0, rfl⟩), ⟨rfl, Nat.le_refl _, .inr ⟨A, 1, rfl, hA2, fun j y hy => by rw [Nat.add_comm]; exact hws (j + 1) y (by rw [List.getElem?_cons_succ]; exact hy)⟩⟩⟩
  clear hws hbd HF HC hba
  have hn0 : (0 : Int) < (r.length : Int) + 1 := by omega
  have hn1 : 0 < r.length + 1 := by omega
  have hrl : r.length ≤ 1000001 := by
    have h1 := words_few line
    rw [hw, hlen] at h1
    omega
  have hwr : wrap64 (r.length : Int) = (r.length : Int) := IntWalk.wrap64_in _ ⟨by omega, by omega⟩
  have ht1 : decide ((r.length : Int) < a) = false := decide_eq_false (by omega)
  have ht2 : decide (b < (r.length : Int)) = false := decide_eq_false (by omega)
  have hs1 : (1 : Int) ≤ (r.length : Int) + 1 := by omega
  obtain ⟨V, hV⟩ : ∃ V, Hid ((w1.alloc (.cells #[.int .i64 a, .int .i64 b, .func (.func f) #[.pointer (some ⟨d, 0, none⟩)] #[]] 178)).drew = V) := ⟨_, hide rfl⟩
  have hBV : Below w1.heap.size w1 V := by rw [← hV.out]; exact ((Below.refl _ _).alloc (Nat.le_refl _) _).drew
  have hcf : V.cell? ⟨w1.heap.size, 2, none⟩ = some (.func (.func f) #[.pointer (some ⟨d, 0, none⟩)] #[]) := by rw [← hV.out]; simp
  have hVs : w1.heap.size < V.heap.size := by rw [← hV.out]; simp
  have hlt : w.heap.size < w1.heap.size := by have := HS.out; have := hB1.size; omega
  have HN : Hid (Calls Tryz.prog 101 #[.slice (some ⟨A, oA, none⟩) r.length r.length] V.drew fun e V' => ∃ M, e = .returned (.slice (some ⟨M, 0, none⟩) r.length r.length) ∧ (V'.cell? ⟨w1.heap.size, 2, none⟩ = some (.func (.func f) #[.pointer (some ⟨d, 0, none⟩)] #[])) ∧ Hid (Below w1.heap.size w1 V') ∧ Hid (IsSl V' (some ⟨M, 0, none⟩) r.length r.length l ∧ ∀ z ∈ l, IntIn z)) := hide (by
    refine (dnumbers_any r (some ⟨A, oA, none⟩) r.length r.length V.drew ((hss.below hBV).below (Below.refl _ _).drew) (fun y hy => ?_) (by omega) (((HD.out.below HBw.out).num.below hBV).below (Below.refl _ _).drew)).mono ?_
    · have hy2 : y ∈ wordsF line := by rw [hw]; exact List.mem_cons_of_mem _ hy
      exact Nat.le_trans (words_short hy2) hl
    rintro e V' ⟨hB, ⟨hno, _⟩ | ⟨l', M, hl', hM, rfl, hsl, hin⟩⟩
    · rw [HR.out] at hno; cases hno
    · rw [HR.out] at hl'
      obtain rfl : l = l' := by simpa using hl'
      have hBd : Below V.heap.size V V' := (Below.refl _ _).drew.trans hB
      exact ⟨M, rfl, (hBd.cell (p := ⟨w1.heap.size, 2, none⟩) hVs).trans hcf, hide (hBV.trans (hBd.mono hBV.size)), hide ⟨hsl, hin⟩⟩)
  have HG : Hid (∀ V' M, Below w1.heap.size w1 V' → IsSl V' (some ⟨M, 0, none⟩) r.length r.length l → (∀ z ∈ l, IntIn z) → V'.cell? ⟨w1.heap.size, 2, none⟩ = some (.func (.func f) #[.pointer (some ⟨d, 0, none⟩)] #[]) → Calls Tryz.prog f #[.pointer (some ⟨d, 0, none⟩), .slice (some ⟨M, 0, none⟩) r.length r.length] V' fun e U => U.cell? ⟨w1.heap.size, 2, none⟩ = some (.func (.func f) #[.pointer (some ⟨d, 0, none⟩)] #[]) ∧ (U.cell? ⟨w.heap.size, 0, none⟩ = some (.string ⟨#[]⟩) ∧ U.frozen? ⟨w.heap.size, 0, none⟩ = false) ∧ ∃ s, Hid (G s U ∧ w.heap.size < U.heap.size) ∧ (e = .returned (.string (txt s)) ∨ ∃ z, Hid (s = errF z ∧ IntIn z ∧ HasPow U) ∧ e = thrown z)) := hide fun V' M hB' hsl hin hcv => by
    have hlt' : w.heap.size < V'.heap.size := Nat.lt_of_lt_of_le hlt hB'.size
    refine (HO.out V' M (HBw.out.trans (hB'.mono HBw.out.size)) hlt' hsl hin).mono ?_
    rintro e U ⟨hm, s, hG, he⟩
    have hbk : U.heap[w.heap.size]? = V'.heap[w.heap.size]? := hm.block _ hlt' (Nat.lt_irrefl _)
    refine ⟨(World.cell?_of_block (w := V') (a := ⟨w1.heap.size, 2, none⟩) (hm.block _ (World.block_lt_of_cell? V' _ hcv) (by show ¬ w1.heap.size < w.heap.size; omega))).trans hcv, ⟨(World.cell?_of_block (w := V') (a := ⟨w.heap.size, 0, none⟩) hbk).trans ((hB'.cell (p := ⟨w.heap.size, 0, none⟩) hlt).trans g0), (World.frozen?_of_block (w := V') (a := ⟨w.heap.size, 0, none⟩) hbk).trans ((World.frozen?_of_block (hB'.block _ hlt)).trans g1)⟩, s, hide ⟨hG, Nat.lt_of_lt_of_le hlt' hm.size⟩, he.imp id fun ⟨z, h1, h2, h3, h4⟩ => ⟨z, hide ⟨h1, h2, h3⟩, h4⟩⟩
  clear ha hb hss hBV hVs
  have hSd : V.drew.cell? ⟨w1.heap.size, 2, none⟩ = some (.func (.func f) #[.pointer (some ⟨d, 0, none⟩)] #[]) := by simpa using hcf
  go_wp2
  go_region
  all_goals
    go_wp2
    rw [hV.out]
    refine wp_region_held_drew (S := fun W => W.cell? ⟨w1.heap.size, 2, none⟩ = some (.func (.func f) #[.pointer (some ⟨d, 0, none⟩)] #[])) (by kernel_rfl) hSd (fun hHeld => ?_)
    refine wpAnyH_take (i := 0) (oi := _) (v := .pointer (some ⟨w1.heap.size, 2, none⟩)) rfl (by kernel_rfl) (by kernel_rfl) (by kernel_rfl) (fun c a w h => ans_put (by decide) c a w h) (Or.inl ⟨by rfl, fun w _ => by go_simp⟩) hHeld ?_
    simp only [Act.put, List.getElem_toArray, List.getElem_cons_zero, List.setIfInBounds_toArray, List.set_cons_succ, List.set_cons_zero]
    refine wpAnyH_take (i := 1) (oi := _) (v := .func (.func f) #[.pointer (some ⟨d, 0, none⟩)] #[]) rfl (by kernel_rfl) (by kernel_rfl) (by kernel_rfl) (fun c a w h => ans_put (by decide) c a w h) (Or.inl ⟨by rfl, fun w h => by go_simp⟩) hHeld ?_
    simp only [Act.put, List.getElem_toArray, List.getElem_cons_succ, List.getElem_cons_zero, List.setIfInBounds_toArray, List.set_cons_succ, List.set_cons_zero]
    refine wpAnyH_take (i := 2) (oi := _) (v := .slice (some ⟨A, 0, none⟩) (r.length + 1) (r.length + 1)) rfl (by kernel_rfl) (by kernel_rfl) (by kernel_rfl) (fun c a w h => ans_put (by decide) c a w h) (Or.inl ⟨by rfl, fun w _ => by go_simp⟩) hHeld ?_
    simp only [Act.put, List.getElem_toArray, List.getElem_cons_succ, List.getElem_cons_zero, List.setIfInBounds_toArray, List.set_cons_succ, List.set_cons_zero]
    refine wpAnyH_take (i := 3) (oi := _) (v := .slice (some ⟨A, oA, none⟩) r.length r.length) rfl (by kernel_rfl) (by kernel_rfl) (by kernel_rfl) (fun c a w h => ans_put (by decide) c a w h) (Or.inl ⟨by rfl, fun w _ => by rcases hoA.out with ⟨h1, h2⟩ | ⟨h1, h2⟩ <;> subst h2 <;> go_simp <;> simp [h1]⟩) hHeld ?_
    simp only [Act.put, List.getElem_toArray, List.getElem_cons_succ, List.getElem_cons_zero, List.setIfInBounds_toArray, List.set_cons_succ, List.set_cons_zero]
    refine wpAnyH_ready (rs := [4]) (by kernel_rfl) (by simp) ?_
    refine AllReadyH.cons (o := _) rfl (fun K hK => ?_) AllReadyH.nil
    rw [if_pos (by rfl)]
    go_simp
    go_at_call 101
    refine HN.out.mono ?_
    rintro e V1 ⟨M, rfl, hcf1, hB1', hI⟩
    dsimp only
    refine hK.out _ _ hcf1 (fun hHeld => ?_)
    clear hK K
    refine wpAnyH_ready (rs := [5]) (by kernel_rfl) (by simp) ?_
    refine AllReadyH.cons (o := _) rfl (fun K hK => ?_) AllReadyH.nil
    rw [if_pos (by rfl)]
    go_simp
    refine (HG.out V1 M hB1'.out hI.out.1 hI.out.2 hcf1).mono ?_
    rintro e U ⟨hcU, ⟨u0, u1⟩, s, hs, rfl | ⟨z, hz, rfl⟩⟩
    · dsimp only
      refine hK.out _ _ hcU (fun hHeld => ?_)
      clear hK K
      refine wpAnyH_ready (rs := [6]) (by kernel_rfl) (by simp) ?_
      refine AllReadyH.cons (o := _) rfl (fun K hK => ?_) AllReadyH.nil
      rw [if_pos (by rfl)]
      go_simp
      refine hK.out _ _ ?_ (fun hHeld => ?_)
      · rw [World.cell?_setCell_far _ _ _ _ (by show w.heap.size ≠ w1.heap.size; omega)]; exact hcU
      clear hK K
      refine wpAnyH_done (by kernel_rfl) ?_ _
      go_wp2
      refine leaves_cons (f := 98) (args := #[.pointer (some ⟨w.heap.size, 0, none⟩)]) (by simp) (by simp [go_sem]) ?_
      refine (catch_idle _ _).mono ?_
      rintro e u' w2 ⟨rfl, rfl, rfl⟩
      simp [Leaves, settle, results, Tryz.results61, go_sem, u0]
      exact ⟨s, U, hs.out.1, rfl, (Mod.refl _ _).set _ _ (fun _ => rfl)⟩
    · unfold thrown
      dsimp only
      obtain ⟨hz1, hz2, hz3⟩ := hz.out
      refine leaves_cons (f := 98) (args := #[.pointer (some ⟨w.heap.size, 0, none⟩)]) (by simp) (by simp [go_sem]) ?_
      refine (catch_thrown ⟨w.heap.size, 0, none⟩ z (.string ⟨#[]⟩) U hz2 hz3 hs.out.2 u0 u1).mono ?_
      rintro e u' w2 ⟨rfl, rfl, w3, hB3, rfl⟩
      have q0 : w3.cell? ⟨w.heap.size, 0, none⟩ = some (.string ⟨#[]⟩) := (hB3.cell (p := ⟨w.heap.size, 0, none⟩) hs.out.2).trans u0
      simp [Leaves, settle, results, Tryz.results61, go_sem, q0]
      exact ⟨s, U, hs.out.1, by rw [hz1], (Mod.ofBelow hB3 _).set _ _ (fun _ => rfl)⟩
end Go.Proofs.YtaablbmgagiajabGreatDoor
