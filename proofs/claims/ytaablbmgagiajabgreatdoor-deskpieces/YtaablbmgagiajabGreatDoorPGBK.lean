import Derived.Test.YtaablbmgagiajabGreatDoorPGBJ
import Derived.BigRegion
namespace Go.Proofs.YtaablbmgagiajabGreatDoor
open Go.RowKit Go.Deep Go.Shelf
def wordsF (line : List UInt8) : List (List UInt8) := (Lib.goFieldsP isB (txt line)).map (·.data.toList)
theorem txt_back (b : ByteArray) : txt b.data.toList = b := by
  cases b; simp [txt]
theorem spans_few (p : Nat → Bool) (s : ByteArray) : ∀ (f pos : Nat) (st : Option Nat) (acc : List (Nat × Nat)), (Lib.spansFromP p s f pos st acc).1.length ≤ acc.length + f
  | 0, _, _, acc => by simp [Lib.spansFromP]
  | f + 1, pos, st, acc => by
    unfold Lib.spansFromP
    split
    · split
      · split
        · exact Nat.le_trans (spans_few p s f _ _ _) (by simp; omega)
        · exact Nat.le_trans (spans_few p s f _ _ _) (by omega)
      · split
        · exact Nat.le_trans (spans_few p s f _ _ _) (by omega)
        · exact Nat.le_trans (spans_few p s f _ _ _) (by omega)
    · simp
theorem words_few (line : List UInt8) : (wordsF line).length ≤ line.length + 1 := by
  unfold wordsF Lib.goFieldsP Lib.spansOfP
  rw [List.length_map, List.length_map]
  have h := spans_few isB (txt line) (txt line).size 0 none []
  generalize Lib.spansFromP isB (txt line) (txt line).size 0 none [] = r at h
  rw [txt_size] at h
  unfold Lib.closeSpans
  simp only [List.length_nil] at h
  split
  · simp only [List.length_append, List.length_cons, List.length_nil]; omega
  · omega
theorem words_short {line x : List UInt8} (h : x ∈ wordsF line) : x.length ≤ line.length := by
  unfold wordsF Lib.goFieldsP at h
  rw [List.map_map] at h
  obtain ⟨a, _, rfl⟩ := List.mem_map.1 h
  have := Lib.extract_eq (txt line) a.1 a.2
  simp only [Function.comp]
  rw [this]
  show (List.take _ (List.drop _ line)).length ≤ line.length
  rw [List.length_take, List.length_drop]
  omega
set_option maxHeartbeats 1000000 in
theorem fields_any (line : List UInt8) (w : World) (hl : line.length ≤ 1000000) :
    Calls Tryz.prog 99 #[.string (txt line), .func (.func 100) #[] #[]] w fun e w' => ∃ A n, n = (wordsF line).length ∧ e = .returned (.slice (some ⟨A, 0, none⟩) n n) ∧ w.heap.size ≤ A ∧ A < w'.heap.size ∧ (∀ (j : Nat) x, (wordsF line)[j]? = some x → w'.cell? ⟨A, j, none⟩ = some (.string (txt x))) ∧ Below w.heap.size w w' := by
  refine (Tryz.strings_FieldsFunc 100 #[] (enters_of Tryz.func100 (by kernel_rfl) rfl) isB (txt line) w (by rw [txt_size]; omega) (isBlank_at w)).mono ?_
  rintro e w' ⟨A, rfl, hA, hown, hB⟩
  refine ⟨A, _, by unfold wordsF; rw [List.length_map], rfl, hA, (hown.lt A rfl).2, fun j x hx => ?_, hB⟩
  unfold wordsF at hx
  rw [List.getElem?_map] at hx
  obtain ⟨b, hb, rfl⟩ := Option.map_eq_some_iff.1 hx
  rw [txt_back]
  have hc := hown.cells (g := A) rfl j (.string b) (by rw [List.getElem?_map, hb]; rfl)
  by_cases hj : j = 0
  · subst hj; simpa [Addr.add] using hc
  · simpa [Addr.add, hj] using hc
theorem run_store_func {P : Program} {w : World} {a : Addr} {m : Mode} (f : Fn) (x y : Array Value) : (store a (.func f x y) m).run P w = stored P w a (.func f x y) m := run_store P w a _ m rfl
theorem run_store_nilFunc {P : Program} {w : World} {a : Addr} {m : Mode} : (store a .nilFunc m).run P w = stored P w a .nilFunc m := run_store P w a _ m rfl
attribute [local go_sem] run_store_func run_store_nilFunc
structure DkAt (w : World) (d m : Nat) : Prop where
  lt : d < w.heap.size
  c4 : w.cell? ⟨d, 4, none⟩ = some (.map (some m))
  map : MpIs w m (ordTab d)
  num : HasNum w
theorem DkAt.below {w w' : World} {d m : Nat} (h : DkAt w d m) (hB : Below w.heap.size w w') : DkAt w' d m :=
  ⟨Nat.lt_of_lt_of_le h.lt hB.size, (hB.cell (p := ⟨d, 4, none⟩) h.lt).trans h.c4, h.map.same (hB.block _ h.map.lt), h.num.below hB⟩
set_option maxRecDepth 100000 in
set_option maxHeartbeats 2000000 in
theorem answer_none (d : Nat) (line : List UInt8) (w : World) (hl : line.length ≤ 1000000) (hw : wordsF line = []) :
    Calls Tryz.prog 61 #[.pointer (some ⟨d, 0, none⟩), .string (txt line)] w fun e w' => e = .returned (.string (txt [111, 107])) ∧ Below w.heap.size w w' := by
  have hmf : ∀ (fn : Fn) (first cap : Array Value) (w : World), (Instr.makeFunc fn first cap).run Tryz.prog w = .ok (.func fn first cap) w := fun _ _ _ _ => rfl
  obtain ⟨W, hW⟩ : ∃ W, Hid (w.alloc (.cells #[.string ⟨#[]⟩] 9) = W) := ⟨_, hide rfl⟩
  have hB0 : Below w.heap.size w W := by rw [← hW.out]; exact (Below.refl _ _).alloc (Nat.le_refl _) _
  have hsz : W.heap.size = w.heap.size + 1 := by rw [← hW.out]; simp
  have hc0 : W.cell? ⟨w.heap.size, 0, none⟩ = some (.string ⟨#[]⟩) ∧ W.frozen? ⟨w.heap.size, 0, none⟩ = false := by rw [← hW.out]; constructor <;> simp
  have HF := hide (fields_any line W hl)
  rw [hw] at HF
  have HC : Hid (∀ w1, Below W.heap.size W w1 → (w1.cell? ⟨w.heap.size, 0, none⟩ = some (.string ⟨#[]⟩) ∧ w1.frozen? ⟨w.heap.size, 0, none⟩ = false)) := hide fun w1 h =>
    ⟨(h.cell (p := ⟨w.heap.size, 0, none⟩) (by show w.heap.size < _; omega)).trans hc0.1, (World.frozen?_of_block (h.block _ (by show w.heap.size < _; omega))).trans hc0.2⟩
  have HB := hide hB0
  have HS := hide hsz
  clear hB0 hsz hc0
  go_enter_defers Tryz.func61, Tryz.ntmps61
  go_wp2_with fail
  rw [hW.out]
  refine HF.out.mono ?_
  rintro e w1 ⟨A, n, rfl, rfl, hA, hA2, _, hB1⟩
  obtain ⟨g0, g1⟩ := HC.out w1 hB1
  go_wp2
  refine leaves_cons (f := 98) (args := #[.pointer (some ⟨w.heap.size, 0, none⟩)]) (by simp) (by simp [go_sem]) ?_
  refine (catch_idle _ _).mono ?_
  rintro e u' w2 ⟨rfl, rfl, rfl⟩
  simp [Leaves, settle, results, Tryz.results61, go_sem, g0]
  exact (HB.out.trans (hB1.mono HB.out.size)).setCell (Nat.le_refl _) _
theorem DkAt.look {w W : World} {d m : Nat} (h : DkAt w d m) (hB : Below w.heap.size w W) (x : List UInt8) :
    (Instr.lookup 165 (.map (some m)) (.string (txt x)) true).run Tryz.prog W = .ok (.tuple #[((ordTab d).lookup x).getD (.agg #[.int .i64 0, .int .i64 0, .nilFunc]), .bool ((ordTab d).lookup x).isSome]) W := (h.below hB).map.look x
set_option maxRecDepth 100000 in
set_option maxHeartbeats 4000000 in
theorem answer_no (d m : Nat) (line x : List UInt8) (r : List (List UInt8)) (w : World) (hl : line.length ≤ 1000000) (hd : DkAt w d m) (hw : wordsF line = x :: r) (hk : (ordTab d).lookup x = none) :
    Calls Tryz.prog 61 #[.pointer (some ⟨d, 0, none⟩), .string (txt line)] w fun e w' => e = .returned (.string (txt (errF 3))) ∧ Below w.heap.size w w' := by
  have hmf : ∀ (fn : Fn) (first cap : Array Value) (w : World), (Instr.makeFunc fn first cap).run Tryz.prog w = .ok (.func fn first cap) w := fun _ _ _ _ => rfl
  obtain ⟨W, hW⟩ : ∃ W, Hid (w.alloc (.cells #[.string ⟨#[]⟩] 9) = W) := ⟨_, hide rfl⟩
  have hB0 : Below w.heap.size w W := by rw [← hW.out]; exact (Below.refl _ _).alloc (Nat.le_refl _) _
  have hsz : W.heap.size = w.heap.size + 1 := by rw [← hW.out]; simp
  have hc0 : W.cell? ⟨w.heap.size, 0, none⟩ = some (.string ⟨#[]⟩) ∧ W.frozen? ⟨w.heap.size, 0, none⟩ = false := by rw [← hW.out]; constructor <;> simp
  have HF := hide (fields_any line W hl)
  rw [hw] at HF
  have HC : Hid (∀ w1, Below W.heap.size W w1 → (w1.cell? ⟨w.heap.size, 0, none⟩ = some (.string ⟨#[]⟩) ∧ w1.frozen? ⟨w.heap.size, 0, none⟩ = false)) := hide fun w1 h =>
    ⟨(h.cell (p := ⟨w.heap.size, 0, none⟩) (by show w.heap.size < _; omega)).trans hc0.1, (World.frozen?_of_block (h.block _ (by show w.heap.size < _; omega))).trans hc0.2⟩
  have HB := hide hB0
  have HS := hide hsz
  have HD := hide hd
  have HK := hide hk
  clear hB0 hsz hc0 hd hk
  go_enter_defers Tryz.func61, Tryz.ntmps61
  go_wp2_with fail
  rw [hW.out]
  refine HF.out.mono ?_
  rintro e w1 ⟨A, n, rfl, rfl, hA, hA2, hws, hB1⟩
  obtain ⟨g0, g1⟩ := HC.out w1 hB1
  have HBw := hide (HB.out.trans (hB1.mono HB.out.size))
  have c4 := (HD.out.below HBw.out).c4
  have cx : w1.cell? ⟨A, 0, none⟩ = some (.string (txt x)) := hws 0 x rfl
  have hbd : Below w.heap.size w w1.drew := HBw.out.drew
  have k1 := HD.out.look hbd x
  have hba : Below w1.heap.size w1 (w1.alloc (.cells #[.int .i64 0, .int .i64 0, .nilFunc] 178)) := (Below.refl _ _).alloc (Nat.le_refl _) _
  have k2 := HD.out.look (HBw.out.trans (hba.mono HBw.out.size)).drew x
  have c4' : (w1.alloc (.cells #[.int .i64 0, .int .i64 0, .nilFunc] 178)).cell? ⟨d, 4, none⟩ = some (.map (some m)) := (hba.cell (p := ⟨d, 4, none⟩) (HD.out.below HBw.out).lt).trans c4
  have cx' : (w1.alloc (.cells #[.int .i64 0, .int .i64 0, .nilFunc] 178)).cell? ⟨A, 0, none⟩ = some (.string (txt x)) := (hba.cell (p := ⟨A, 0, none⟩) hA2).trans cx
  rw [HK.out] at k1 k2
  simp only [Option.getD_none, Option.isSome_none] at k1 k2
  have hlen : (x :: r).length = r.length + 1 := rfl
  rw [hlen]
  clear hws hbd HF HC hba
  have hn0 : (0 : Int) < (r.length : Int) + 1 := by omega
  have hn1 : 0 < r.length + 1 := by omega
  have HE : Hid (∀ V, Below w1.heap.size w1 V → CallsD Tryz.prog 98 #[.pointer (some ⟨w.heap.size, 0, none⟩)] (.panicking [{ v := .iface 74 (.int .i64 3), recovered := false }]) V fun e u' w' =>
      e = .returned (.tuple #[]) ∧ u' = .panicking [{ v := .iface 74 (.int .i64 3), recovered := true }] ∧ w'.cell? ⟨w.heap.size, 0, none⟩ = some (.string (txt (errF 3))) ∧ Below w.heap.size w w') := hide fun V hV => by
    have hlt : w.heap.size < w1.heap.size := by have := HS.out; have := hB1.size; omega
    refine (catch_thrown ⟨w.heap.size, 0, none⟩ 3 (.string ⟨#[]⟩) V (by constructor <;> decide) ((HD.out.below HBw.out).num.below hV).pow (Nat.lt_of_lt_of_le hlt hV.size) ((hV.cell (p := ⟨w.heap.size, 0, none⟩) hlt).trans g0) ((World.frozen?_of_block (hV.block _ hlt)).trans g1)).mono ?_
    rintro e u' w' ⟨rfl, rfl, w2, hB2, rfl⟩
    have hc2 : w2.cell? ⟨w.heap.size, 0, none⟩ = some (.string ⟨#[]⟩) := (hB2.cell (p := ⟨w.heap.size, 0, none⟩) (Nat.lt_of_lt_of_le hlt hV.size)).trans ((hV.cell (p := ⟨w.heap.size, 0, none⟩) hlt).trans g0)
    exact ⟨rfl, rfl, World.cell?_setCell_same' _ _ _ (by rw [hc2]; rfl), (HBw.out.trans ((hV.trans (hB2.mono hV.size)).mono HBw.out.size)).setCell (Nat.le_refl _) _⟩
  have hba2 : Below w1.heap.size w1 (w1.alloc (.cells #[.int .i64 0, .int .i64 0, .nilFunc] 178)).drew := ((Below.refl _ _).alloc (Nat.le_refl _) _).drew
  have HE2 := hide (HE.out _ hba2)
  clear HE hba2
  go_wp2
  go_region
  all_goals
    go_wp2
    refine leaves_cons (f := 98) (args := #[.pointer (some ⟨w.heap.size, 0, none⟩)]) (by simp) (by simp [go_sem]) ?_
    refine HE2.out.mono ?_
    rintro e u' w2 ⟨rfl, rfl, q0, q1⟩
    simp [Leaves, settle, results, Tryz.results61, go_sem, q0]
    exact q1
end Go.Proofs.YtaablbmgagiajabGreatDoor
