import Derived.Deep.QuietTactic
import Derived.BigQuiet
import Derived.Test.YtaablbmgagiajabGreatDoorCConf
namespace Go.Proofs.YtaablbmgagiajabGreatDoor
open Go.RowKit Go.Deep
def pickF (a n : Int) : Int := wrap64 ((IntKind.u64.wrap a).tmod n)
theorem pickF_in (a n : Int) (h : 0 < n) (hn : n ≤ 5000) : 0 ≤ pickF a n ∧ pickF a n < n := by
  unfold pickF
  have h0 : 0 ≤ IntKind.u64.wrap a := wrap_u64_nonneg a
  rw [Int.tmod_eq_emod_of_nonneg h0]
  have h1 := Int.emod_nonneg (IntKind.u64.wrap a) (show n ≠ 0 by omega)
  have h2 := Int.emod_lt_of_pos (IntKind.u64.wrap a) h
  rw [IntWalk.wrap64_in _ ⟨by omega, by omega⟩]
  exact ⟨h1, h2⟩
set_option maxHeartbeats 400000 in
theorem pick_any (a n : Int) (w : World) (h : 0 < n) (hn : n ≤ 5000) :
    Calls Tryz.prog 25 #[.int .i64 a, .int .i64 n] w fun e w' => e = .returned (.int .i64 (pickF a n)) ∧ w' = w := by
  go_enter Tryz.func25, Tryz.ntmps25
  go_wp2
  go_ret
  exact ⟨rfl, rfl⟩
theorem firstTo_none {p : Nat → Bool} {n : Nat} (h : ∀ k, k < n → p k = false) : firstTo p n = none := by
  induction n with
  | zero => rfl
  | succ n ih => exact first_none (ih fun k hk => h k (by omega)) (h n (by omega))
theorem nodup_take {zs : List Int} (h : zs.Nodup) (k : Nat) (hk : k < zs.length) : zs[k]?.getD 0 ∉ zs.take k := by
  intro hm
  have e : zs.take (k + 1) = zs.take k ++ [zs[k]?.getD 0] := by rw [List.take_add_one, List.getElem?_eq_getElem hk]; rfl
  have hn : (zs.take (k + 1)).Nodup := h.sublist (List.take_sublist _ _)
  rw [e, List.nodup_append] at hn
  exact hn.2.2 _ hm _ (by simp) rfl
theorem check_good (s d : Int) (zs : List Int) (hr : rangeB s zs.length d = true) (hg : ∀ z ∈ zs, 1 ≤ z ∧ z ≤ top s) (hn : zs.Nodup) : checkF s zs d = (0, -1) := by
  unfold checkF
  rw [if_pos hr, firstTo_none, firstTo_none]
  · intro k hk; unfold twiceAt; exact decide_eq_false (nodup_take hn k hk)
  · intro k hk
    have hm : zs[k]?.getD 0 ∈ zs := by rw [List.getElem?_eq_getElem hk]; exact List.getElem_mem hk
    have := hg _ hm
    unfold badAt
    rw [(inB_iff _ _ _).2 this]; rfl
theorem block_set {w : World} {b : Nat} {c : Array Value} {t : TypeId} (h : w.heap[b]? = some (.cells c t (0, 0))) (i : Nat) (u : Value) : (w.setCell ⟨b, i, none⟩ u).heap[b]? = some (.cells (c.setIfInBounds i u) t (0, 0)) := by
  simp [World.setCell, Array.getElem?_modify, h]
theorem block_cell {w : World} {b : Nat} {c : Array Value} {t : TypeId} (h : w.heap[b]? = some (.cells c t (0, 0))) (i : Nat) : w.cell? ⟨b, i, none⟩ = c[i]? := by
  simp [World.cell?, h]
theorem block_free {w : World} {b : Nat} {c : Array Value} {t : TypeId} (h : w.heap[b]? = some (.cells c t (0, 0))) (i : Nat) : w.frozen? ⟨b, i, none⟩ = false := by
  simp [World.frozen?, h]
theorem block_lt {w : World} {b : Nat} {o : Obj} (h : w.heap[b]? = some o) : b < w.heap.size := by
  obtain ⟨hlt, _⟩ := Array.getElem?_eq_some_iff.1 h
  exact hlt
structure LInv (w wr : World) (N s d : Nat) (v : Value) (zs : List Int) : Prop where
  old : Below N w wr
  res : wr.heap[N]? = some (.cells #[.int .i64 0, .slice none 0 0, .int .i64 0] 42 (0, 0))
  box : wr.heap[N + 1]? = some (.cells #[.int .i64 (s : Int), v, .int .i64 (d : Int)] 42 (0, 0))
  own : wr.ownsRow (N + 2) 3 1 v zs.length (zs.map (Value.int .i64))
  good : ∀ z ∈ zs, 1 ≤ z ∧ z ≤ top s
  nodup : zs.Nodup
  few : zs.length ≤ 8
theorem LInv.shape {w wr : World} {N s d : Nat} {v : Value} {zs : List Int} (h : LInv w wr N s d v zs) :
    ∃ a cap, v = .slice a zs.length cap ∧ zs.length ≤ cap ∧ ∀ k, k < zs.length → ∃ g, a = some ⟨g, 0, none⟩ ∧ N + 2 ≤ g ∧ g < wr.heap.size ∧ wr.cell? ⟨g, k, none⟩ = some (.int .i64 (zs[k]?.getD 0)) := by
  obtain ⟨_, ho⟩ := h.own
  rcases ho with ⟨rfl, h0⟩ | ⟨g, cap, cur, rfl, hg, hh, hc, hm, hs, ht⟩
  · exact ⟨none, 0, by rw [h0], by omega, fun k hk => by omega⟩
  · refine ⟨_, cap, rfl, hc, fun k hk => ⟨g, rfl, hg, block_lt hh, ?_⟩⟩
    have := h.own.cellAt k (by omega)
    rw [this]
    simp [hk]
theorem LInv.drew {w wr : World} {N s d : Nat} {v : Value} {zs : List Int} (h : LInv w wr N s d v zs) : LInv w wr.drew N s d v zs := ⟨h.old.drew, h.res, h.box, h.own, h.good, h.nodup, h.few⟩
theorem LInv.put {w wr w1 : World} {N s d : Nat} {v v' : Value} {zs : List Int} {r : Int} {o : Obj} (h : LInv w wr N s d v zs) (hown : w1.ownsRow (N + 2) 3 1 v' (zs.length + 1) (zs.map (Value.int .i64) ++ [.int .i64 r]))
    (hg : (wr.alloc o).grownBy w1 v.ownBlock) (hr : 1 ≤ r ∧ r ≤ top s) (hn : r ∉ zs) (hl : zs.length < 8) : LInv w (w1.setCell ⟨N + 1, 1, none⟩ v') N s d v' (zs ++ [r]) := by
  have hN1 : N + 1 < wr.heap.size := block_lt h.box
  have hne : ∀ j, j < N + 2 → some j ≠ v.ownBlock := fun j hj e => by have := h.own.lt j e.symm; omega
  have hb : ∀ j, j < N + 2 → w1.heap[j]? = wr.heap[j]? := fun j hj => (hg.block j (by simp; omega) (hne j hj)).trans (Below.heap_alloc _ _ _ (by omega))
  have old1 : Below N w w1 := (h.old.alloc (by omega) o).grown hg (by simp; omega) (fun j hj => by have := (h.own.lt j hj).1; omega)
  refine ⟨old1.setCell (by show N ≤ N + 1; omega) _, ?_, ?_, ?_, ?_, ?_, by simp; omega⟩
  · rw [Below.heap_setCell _ _ _ _ (by show N ≠ N + 1; omega), hb N (by omega)]; exact h.res
  · rw [block_set ((hb (N + 1) (by omega)).trans h.box)]; simp
  · have := ownsRow_setCell_below hown (a := ⟨N + 1, 1, none⟩) (by show N + 1 < N + 2; omega) v'
    simpa using this
  · intro z hz
    rcases List.mem_append.1 hz with hz | hz
    · exact h.good z hz
    · rw [List.mem_singleton.1 hz]; exact hr
  · rw [List.nodup_append]
    refine ⟨h.nodup, by simp, fun a ha b hb e => hn ?_⟩
    rw [List.mem_singleton.1 hb] at e; rw [← e]; exact ha
end Go.Proofs.YtaablbmgagiajabGreatDoor
