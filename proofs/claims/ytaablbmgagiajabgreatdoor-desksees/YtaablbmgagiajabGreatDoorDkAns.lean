/- The contract of answer. -/
import Derived.Test.YtaablbmgagiajabGreatDoorDkWd
import Derived.BigRegion
namespace Go.Proofs.YtaablbmgagiajabGreatDoor
open Go.RowKit Go.Deep Go.Shelf

theorem run_store_func {P : Program} {w : World} {a : Addr} {m : Mode} (f : Fn) (x y : Array Value) : (store a (.func f x y) m).run P w = stored P w a (.func f x y) m := run_store P w a _ m rfl
theorem run_store_nilFunc {P : Program} {w : World} {a : Addr} {m : Mode} : (store a .nilFunc m).run P w = stored P w a .nilFunc m := run_store P w a _ m rfl
attribute [local go_sem] run_store_func run_store_nilFunc
/-- What lies of a desk that answer reads. -/
structure DkAt (w : World) (d m : Nat) : Prop where
  lt : d < w.heap.size
  c4 : w.cell? ⟨d, 4, none⟩ = some (.map (some m))
  map : MpIs w m (ordTab d)
  num : HasNum w
theorem DkAt.below {w w' : World} {d m : Nat} (h : DkAt w d m) (hB : Below w.heap.size w w') : DkAt w' d m :=
  ⟨Nat.lt_of_lt_of_le h.lt hB.size, (hB.cell (p := ⟨d, 4, none⟩) h.lt).trans h.c4, h.map.same (hB.block _ h.map.lt), h.num.below hB⟩

set_option maxRecDepth 100000 in
set_option maxHeartbeats 2000000 in
/-- A line without words. -/
theorem answer_none (d : Nat) (line : List UInt8) (w : World) (hl : line.length ≤ 1000000) (hw : wordsF line = []) :
    Calls Tryz.prog 61 #[.pointer (some ⟨d, 0, none⟩), .string (txt line)] w fun e w' => e = .returned (.string (txt [111, 107])) ∧ Below w.heap.size w w' := by
  have hmf : ∀ (fn : Fn) (first cap : Array Value) (w : World), (Instr.makeFunc fn first cap).run Tryz.prog w = .ok (.func fn first cap) w := fun _ _ _ _ => rfl
  obtain ⟨W, hW⟩ : ∃ W, Hid (w.alloc (.cells #[.string ⟨#[]⟩] 9) = W) := ⟨_, hide rfl⟩
  have hB0 : Below w.heap.size w W := by rw [← hW.out]; exact (Below.refl _ _).alloc (Nat.le_refl _) _
  have hsz : W.heap.size = w.heap.size + 1 := by rw [← hW.out]; simp
  have hc0 : W.cell? ⟨w.heap.size, 0, none⟩ = some (.string ⟨#[]⟩) ∧ W.frozen? ⟨w.heap.size, 0, none⟩ = false := by rw [← hW.out]; constructor <;> simp
  have HF := hide (fields_any line W hl)
  rw [hw] at HF
  have HC : Hid (∀ w1, Below W.heap.size W w1 → (w1.cell? ⟨w.heap.size, 0, none⟩ = some (.string ⟨#[]⟩) ∧ w1.frozen? ⟨w.heap.size, 0, none⟩ = false)) := hide fun w1 h =>
    ⟨(h.cell (p := ⟨w.heap.size, 0, none⟩) (by show w.heap.size < _; omega)).trans hc0.1, (World.frozen?_of_block (h.block _ (by show w.heap.size < _; omega))).trans hc0.2⟩
  have HB := hide hB0
  have HS := hide hsz
  clear hB0 hsz hc0
  go_enter_defers Tryz.func61, Tryz.ntmps61
  go_wp2_with fail
  rw [hW.out]
  refine HF.out.mono ?_
  rintro e w1 ⟨A, n, rfl, rfl, hA, hA2, _, hB1⟩
  obtain ⟨g0, g1⟩ := HC.out w1 hB1
  go_wp2
  refine leaves_cons (f := 98) (args := #[.pointer (some ⟨w.heap.size, 0, none⟩)]) (by simp) (by simp [go_sem]) ?_
  refine (catch_idle _ _).mono ?_
  rintro e u' w2 ⟨rfl, rfl, rfl⟩
  simp [Leaves, settle, results, Tryz.results61, go_sem, g0]
  exact (HB.out.trans (hB1.mono HB.out.size)).setCell (Nat.le_refl _) _

/-- What a word leads to. -/
theorem DkAt.look {w W : World} {d m : Nat} (h : DkAt w d m) (hB : Below w.heap.size w W) (x : List UInt8) :
    (Instr.lookup 165 (.map (some m)) (.string (txt x)) true).run Tryz.prog W = .ok (.tuple #[((ordTab d).lookup x).getD (.agg #[.int .i64 0, .int .i64 0, .nilFunc]), .bool ((ordTab d).lookup x).isSome]) W := (h.below hB).map.look x

set_option maxRecDepth 100000 in
set_option maxHeartbeats 4000000 in
/-- A line whose first word is no order. -/
theorem answer_no (d m : Nat) (line x : List UInt8) (r : List (List UInt8)) (w : World) (hl : line.length ≤ 1000000) (hd : DkAt w d m) (hw : wordsF line = x :: r) (hk : (ordTab d).lookup x = none) :
    Calls Tryz.prog 61 #[.pointer (some ⟨d, 0, none⟩), .string (txt line)] w fun e w' => e = .returned (.string (txt (errF 3))) ∧ Below w.heap.size w w' := by
  have hmf : ∀ (fn : Fn) (first cap : Array Value) (w : World), (Instr.makeFunc fn first cap).run Tryz.prog w = .ok (.func fn first cap) w := fun _ _ _ _ => rfl
  obtain ⟨W, hW⟩ : ∃ W, Hid (w.alloc (.cells #[.string ⟨#[]⟩] 9) = W) := ⟨_, hide rfl⟩
  have hB0 : Below w.heap.size w W := by rw [← hW.out]; exact (Below.refl _ _).alloc (Nat.le_refl _) _
  have hsz : W.heap.size = w.heap.size + 1 := by rw [← hW.out]; simp
  have hc0 : W.cell? ⟨w.heap.size, 0, none⟩ = some (.string ⟨#[]⟩) ∧ W.frozen? ⟨w.heap.size, 0, none⟩ = false := by rw [← hW.out]; constructor <;> simp
  have HF := hide (fields_any line W hl)
  rw [hw] at HF
  have HC : Hid (∀ w1, Below W.heap.size W w1 → (w1.cell? ⟨w.heap.size, 0, none⟩ = some (.string ⟨#[]⟩) ∧ w1.frozen? ⟨w.heap.size, 0, none⟩ = false)) := hide fun w1 h =>
    ⟨(h.cell (p := ⟨w.heap.size, 0, none⟩) (by show w.heap.size < _; omega)).trans hc0.1, (World.frozen?_of_block (h.block _ (by show w.heap.size < _; omega))).trans hc0.2⟩
  have HB := hide hB0
  have HS := hide hsz
  have HD := hide hd
  have HK := hide hk
  clear hB0 hsz hc0 hd hk
  go_enter_defers Tryz.func61, Tryz.ntmps61
  go_wp2_with fail
  rw [hW.out]
  refine HF.out.mono ?_
  rintro e w1 ⟨A, n, rfl, rfl, hA, hA2, hws, hB1⟩
  obtain ⟨g0, g1⟩ := HC.out w1 hB1
  have HBw := hide (HB.out.trans (hB1.mono HB.out.size))
  have c4 := (HD.out.below HBw.out).c4
  have cx : w1.cell? ⟨A, 0, none⟩ = some (.string (txt x)) := hws 0 x rfl
  have hbd : Below w.heap.size w w1.drew := HBw.out.drew
  have k1 := HD.out.look hbd x
  have hba : Below w1.heap.size w1 (w1.alloc (.cells #[.int .i64 0, .int .i64 0, .nilFunc] 178)) := (Below.refl _ _).alloc (Nat.le_refl _) _
  have k2 := HD.out.look (HBw.out.trans (hba.mono HBw.out.size)).drew x
  have c4' : (w1.alloc (.cells #[.int .i64 0, .int .i64 0, .nilFunc] 178)).cell? ⟨d, 4, none⟩ = some (.map (some m)) := (hba.cell (p := ⟨d, 4, none⟩) (HD.out.below HBw.out).lt).trans c4
  have cx' : (w1.alloc (.cells #[.int .i64 0, .int .i64 0, .nilFunc] 178)).cell? ⟨A, 0, none⟩ = some (.string (txt x)) := (hba.cell (p := ⟨A, 0, none⟩) hA2).trans cx
  rw [HK.out] at k1 k2
  simp only [Option.getD_none, Option.isSome_none] at k1 k2
  have hlen : (x :: r).length = r.length + 1 := rfl
  rw [hlen]
  clear hws hbd HF HC hba
  have hn0 : (0 : Int) < (r.length : Int) + 1 := by omega
  have hn1 : 0 < r.length + 1 := by omega
  have HE : Hid (∀ V, Below w1.heap.size w1 V → CallsD Tryz.prog 98 #[.pointer (some ⟨w.heap.size, 0, none⟩)] (.panicking [{ v := .iface 74 (.int .i64 3), recovered := false }]) V fun e u' w' =>
      e = .returned (.tuple #[]) ∧ u' = .panicking [{ v := .iface 74 (.int .i64 3), recovered := true }] ∧ w'.cell? ⟨w.heap.size, 0, none⟩ = some (.string (txt (errF 3))) ∧ Below w.heap.size w w') := hide fun V hV => by
    have hlt : w.heap.size < w1.heap.size := by have := HS.out; have := hB1.size; omega
    refine (catch_thrown ⟨w.heap.size, 0, none⟩ 3 (.string ⟨#[]⟩) V (by constructor <;> decide) ((HD.out.below HBw.out).num.below hV).pow (Nat.lt_of_lt_of_le hlt hV.size) ((hV.cell (p := ⟨w.heap.size, 0, none⟩) hlt).trans g0) ((World.frozen?_of_block (hV.block _ hlt)).trans g1)).mono ?_
    rintro e u' w' ⟨rfl, rfl, w2, hB2, rfl⟩
    have hc2 : w2.cell? ⟨w.heap.size, 0, none⟩ = some (.string ⟨#[]⟩) := (hB2.cell (p := ⟨w.heap.size, 0, none⟩) (Nat.lt_of_lt_of_le hlt hV.size)).trans ((hV.cell (p := ⟨w.heap.size, 0, none⟩) hlt).trans g0)
    exact ⟨rfl, rfl, World.cell?_setCell_same' _ _ _ (by rw [hc2]; rfl), (HBw.out.trans ((hV.trans (hB2.mono hV.size)).mono HBw.out.size)).setCell (Nat.le_refl _) _⟩
  have hba2 : Below w1.heap.size w1 (w1.alloc (.cells #[.int .i64 0, .int .i64 0, .nilFunc] 178)).drew := ((Below.refl _ _).alloc (Nat.le_refl _) _).drew
  have HE2 := hide (HE.out _ hba2)
  clear HE hba2
  go_wp2
  go_region
  all_goals
    go_wp2
    refine leaves_cons (f := 98) (args := #[.pointer (some ⟨w.heap.size, 0, none⟩)]) (by simp) (by simp [go_sem]) ?_
    refine HE2.out.mono ?_
    rintro e u' w2 ⟨rfl, rfl, q0, q1⟩
    simp [Leaves, settle, results, Tryz.results61, go_sem, q0]
    exact q1
end Go.Proofs.YtaablbmgagiajabGreatDoor
