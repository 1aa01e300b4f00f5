/- The lines of a text: the contract of the iterator that lines hands back. -/
import Derived.Test.YtaablbmgagiajabGreatDoorDkBd
import Derived.RangeFuncWrites
import Derived.RangeFuncLeaves
import Derived.Shelf.Abstract
import Derived.OwnWalkIn
import Derived.TacticsInMore
import Derived.LoopNIn
import Derived.LoopIn
namespace Go.Proofs.YtaablbmgagiajabGreatDoor
open Go.RowKit Go.Deep Go.Shelf

/-- The lines. -/
def splitNl : List UInt8 → List (List UInt8)
  | [] => [[]]
  | c :: l => if c = 10 then [] :: splitNl l else (c :: (splitNl l).headD []) :: (splitNl l).tail
theorem splitNl_ne (l : List UInt8) : splitNl l ≠ [] := by
  cases l with
  | nil => simp [splitNl]
  | cons c l => unfold splitNl; split <;> simp
theorem nl_cases : ∀ (l : List UInt8), (Lib.indexByte l 10 = -1 ∧ splitNl l = [l]) ∨ ∃ i : Nat, Lib.indexByte l 10 = (i : Int) ∧ i < l.length ∧ splitNl l = l.take i :: splitNl (l.drop (i + 1))
  | [] => .inl ⟨rfl, rfl⟩
  | c :: l => by
    by_cases hc : c = 10
    · subst hc
      exact .inr ⟨0, by simp [Lib.indexByte], by simp, by simp [splitNl]⟩
    · have hcb : (c == 10) = false := by simpa using hc
      rcases nl_cases l with ⟨h1, h2⟩ | ⟨i, h1, h2, h3⟩
      · exact .inl ⟨by simp [Lib.indexByte, hcb, h1], by simp [splitNl, hc, h2]⟩
      · refine .inr ⟨i + 1, ?_, by simp; exact h2, ?_⟩
        · have hn : ((i : Int) == -1) = false := by simp
          simp [Lib.indexByte, hcb, h1, hn]
        · simp [splitNl, hc, h3]
/-- What is told of a text: its lines. -/
def linesOf (t : List UInt8) : List (List UInt8) := splitNl (Lib.trimSuffix t [10])

theorem txt_take (l : List UInt8) (i : Nat) : (txt l).extract 0 i = txt (l.take i) := by
  rw [Lib.extract_eq]; simp [txt]
theorem txt_drop (l : List UInt8) (i : Nat) : (txt l).extract i (txt l).size = txt (l.drop i) := by
  rw [Lib.extract_eq]
  simp only [txt_size]
  rw [List.take_of_length_le (by simp)]

set_option maxHeartbeats 2000000 in
set_option maxRecDepth 100000 in
theorem sliteCut_nl (l : List UInt8) (w : World) (hl : l.length < 4294967281) :
    Calls Tryz.prog 161 #[.string (txt l), .string ⟨#[10]⟩] w fun e w' => (∃ k, w' = w.drewN k) ∧
      ((Lib.indexByte l 10 = -1 ∧ e = .returned (.tuple #[.string (txt l), .string ⟨#[]⟩, .bool false])) ∨ ∃ i : Nat, Lib.indexByte l 10 = (i : Int) ∧ e = .returned (.tuple #[.string (txt (l.take i)), .string (txt (l.drop (i + 1))), .bool true])) := by
  rcases nl_cases l with ⟨hx, _⟩ | ⟨i, hx, hi, _⟩
  · go_enter Tryz.func161, Tryz.ntmps161
    go_wp2_with (go_at_call 188; refine (Tryz.stringslite_Index_one (txt l) 10 _).mono ?_; rintro e w' ⟨rfl, rfl⟩; rw [txt_list, hx])
    go_ret3
    exact ⟨⟨0, rfl⟩, .inl ⟨hx, rfl⟩⟩
  · have hs : (txt l).size = l.length := rfl
    have c1 : (0 : Int) ≤ ↑i := by omega
    have c2 : (↑i : Int) ≤ ↑(txt l).size := by omega
    have c3 : (0 : Int) ≤ ↑i + 1 := by omega
    have c4 : (↑i + 1 : Int) ≤ ↑(txt l).size := by omega
    have e1 := txt_take l i
    have e2 := txt_drop l (i + 1)
    clear hs
    generalize hT : txt l = T at c2 c4 e1 e2 ⊢
    have hx2 : Lib.indexByte T.data.toList 10 = (i : Int) := by rw [← hT]; exact hx
    go_enter Tryz.func161, Tryz.ntmps161
    go_wp2_with (go_at_call 188; refine (Tryz.stringslite_Index_one T 10 _).mono ?_; rintro e w' ⟨rfl, rfl⟩; rw [hx2])
    have E1 := hide e1
    have E2 := hide e2
    clear e1 e2
    go_region
    go_wp2
    go_ret3
    exact ⟨⟨1, rfl⟩, .inr ⟨i, hx, by rw [← E1.out, ← E2.out]; rfl⟩⟩

set_option maxHeartbeats 1000000 in
theorem cut_nl (l : List UInt8) (w : World) (hl : l.length < 4294967281) :
    Calls Tryz.prog 96 #[.string (txt l), .string ⟨#[10]⟩] w fun e w' => (∃ k, w' = w.drewN k) ∧
      ((Lib.indexByte l 10 = -1 ∧ e = .returned (.tuple #[.string (txt l), .string ⟨#[]⟩, .bool false])) ∨ ∃ i : Nat, Lib.indexByte l 10 = (i : Int) ∧ e = .returned (.tuple #[.string (txt (l.take i)), .string (txt (l.drop (i + 1))), .bool true])) := by
  have HC := hide (sliteCut_nl l w hl)
  go_enter Tryz.func96, Tryz.ntmps96
  go_wp2_with fail
  go_at_call 161
  refine HC.out.mono ?_
  rintro e w' ⟨⟨k, rfl⟩, ⟨hx, rfl⟩ | ⟨i, hx, rfl⟩⟩
  · go_wp2
    go_ret3
    exact ⟨⟨k, rfl⟩, .inl ⟨hx, rfl⟩⟩
  · go_wp2
    go_ret3
    exact ⟨⟨k, rfl⟩, .inr ⟨i, hx, rfl⟩⟩

theorem trim_le (t : List UInt8) : (Lib.trimSuffix t [10]).length ≤ t.length := by
  unfold Lib.trimSuffix
  split
  · simp
  · exact Nat.le_refl _
theorem nl_none {l : List UInt8} (h : Lib.indexByte l 10 = -1) : splitNl l = [l] := by
  rcases nl_cases l with ⟨_, h2⟩ | ⟨i, h1, _, _⟩
  · exact h2
  · omega
theorem nl_some {l : List UInt8} {i : Nat} (h : Lib.indexByte l 10 = (i : Int)) : i < l.length ∧ splitNl l = l.take i :: splitNl (l.drop (i + 1)) := by
  rcases nl_cases l with ⟨h1, _⟩ | ⟨j, h1, h2, h3⟩
  · omega
  · obtain rfl : i = j := by omega
    exact ⟨h2, h3⟩
theorem drewN_grown (w : World) (k : Nat) : w.grownBy (w.drewN k) none := ⟨rfl, rfl, rfl, Nat.le_refl _, fun _ _ _ => rfl⟩
/-- How much of the text is still to come. -/
def restLeft : Value → Value → Nat
  | .string s, .bool true => s.size + 1
  | _, _ => 0

set_option maxRecDepth 100000 in
set_option maxHeartbeats 2000000 in
theorem lines1_any (n : Nat) (hn : 1 ≤ n) (l B : Nat) (t : List UInt8) (ht : t.length < 4294967281) (J Jx : List {x : List UInt8 // x ∈ linesOf t} → World → Prop) (W : World)
    (hJ : AbidesFrom W.heap.size J)
    (hY : ∀ pre x W1, J pre W1 → pre.length < (linesOf t).length → YieldAt Fence.wide (n - 1) Tryz.prog l #[.string (txt x.1)] W1 fun e W' =>
      (e = .returned (.bool true) ∧ J (pre ++ [x]) W' ∧ True) ∨ (e = .returned (.bool false) ∧ Jx (pre ++ [x]) W'))
    (hB : W.cell? ⟨B, 0, none⟩ = some (.string (txt t))) (h0 : J [] W) :
    CallsIn Fence.wide n Tryz.prog 94 #[.func (.yield l) #[] #[], .pointer (some ⟨B, 0, none⟩)] W fun e W' => (∃ v, e = .returned v) ∧
      ((∃ ys, ys.map Subtype.val = linesOf t ∧ J ys W') ∨ (∃ pre, True ∧ Jx pre W')) := by
  refine callsIn_of_wp Tryz.func94 rfl trivial ?_ rfl
  simp only [Tryz.ntmps94, List.size_toArray, List.length_cons, List.length_nil, Nat.reduceAdd, Nat.reduceSub, Array.replicate_succ, Array.replicate_zero, List.push_toArray, List.append_toArray, List.nil_append, List.cons_append]
  have hsz : (txt t).size ≤ 9223372036854775807 := by rw [txt_size]; omega
  have HT := hide (Tryz.strings_TrimSuffix (txt t) ⟨#[10]⟩ W hsz)
  clear hsz
  gi_wp2_with fail
  refine ⟨trivial, ?_⟩
  gi_at_call 95
  refine (callsIn_wide.2 HT.out).mono ?_
  rintro e w' ⟨rfl, rfl⟩
  gi_wp2
  gi_loopw [3, 4] (fun v b wr => ∃ (pre : List {x : List UInt8 // x ∈ linesOf t}) (r : List UInt8) (m : Bool), v = .string (txt r) ∧ b = .bool m ∧ r.length ≤ t.length ∧ pre.map Subtype.val ++ (if m then splitNl r else []) = linesOf t ∧ J pre wr)
    (fun v b _ => restLeft v b)
  case atStart =>
    exact ⟨[], Lib.trimSuffix t [10], true, rfl, rfl, trim_le t, by simp [linesOf], h0⟩
  case round =>
    obtain ⟨pre, r, m, rfl, rfl, hr, hx, hJs⟩ := hrel
    cases m with
    | false =>
      gi_wp2
      go_end0
      exact ⟨⟨_, rfl⟩, .inl ⟨pre, by simpa using hx, hJs⟩⟩
    | true =>
      simp only [if_true] at hx
      have HC := hide (cut_nl r wr (by omega))
      gi_wp2_with fail
      refine ⟨trivial, ?_⟩
      gi_at_call 96
      refine (callsIn_wide.2 HC.out).mono ?_
      rintro e w1 ⟨⟨k, rfl⟩, ⟨hi, rfl⟩ | ⟨i, hi, rfl⟩⟩
      · have hs := nl_none hi
        rw [hs] at hx
        have hmem : r ∈ linesOf t := by rw [← hx]; simp
        have hJ1 : J pre (wr.drewN k) := hJ _ _ _ none hJs (drewN_grown wr k) (fun r e => by cases e)
        obtain ⟨fn, tmps, assign, body, hy, hR⟩ := hY pre ⟨r, hmem⟩ (wr.drewN k) hJ1 (by have hq := congrArg List.length hx; simp only [List.length_append, List.length_map, List.length_cons] at hq; omega)
        dsimp only at hy
        gi_wp2
        refine hR.mono ?_
        rintro e W3 (⟨rfl, hJ3, _⟩ | ⟨rfl, hJx3⟩)
        · gi_wp2
          go_roundw
          case rel => exact ⟨pre ++ [⟨r, hmem⟩], [], false, rfl, rfl, by simp, by rw [List.map_append, List.map_cons, List.map_nil, hx, if_neg (by simp), List.append_nil], hJ3⟩
          case measure => simp [restLeft]
        · gi_wp2
          refine bodyPost_ret (results_none rfl _ _ _) rfl ?_
          exact ⟨⟨_, rfl⟩, .inr ⟨pre ++ [⟨r, hmem⟩], trivial, hJx3⟩⟩
      · obtain ⟨hil, hs⟩ := nl_some hi
        rw [hs] at hx
        have hmem : r.take i ∈ linesOf t := by rw [← hx]; simp
        have hJ1 : J pre (wr.drewN k) := hJ _ _ _ none hJs (drewN_grown wr k) (fun r e => by cases e)
        obtain ⟨fn, tmps, assign, body, hy, hR⟩ := hY pre ⟨r.take i, hmem⟩ (wr.drewN k) hJ1 (by have hq := congrArg List.length hx; simp only [List.length_append, List.length_map, List.length_cons] at hq; omega)
        dsimp only at hy
        gi_wp2
        refine hR.mono ?_
        rintro e W3 (⟨rfl, hJ3, _⟩ | ⟨rfl, hJx3⟩)
        · gi_wp2
          go_roundw
          case rel => exact ⟨pre ++ [⟨r.take i, hmem⟩], r.drop (i + 1), true, rfl, rfl, by simp; omega, by rw [List.map_append, List.map_cons, List.map_nil, if_pos rfl, List.append_assoc, List.singleton_append, hx], hJ3⟩
          case measure => show (r.drop (i + 1)).length + 1 < r.length + 1; rw [List.length_drop]; omega
        · gi_wp2
          refine bodyPost_ret (results_none rfl _ _ _) rfl ?_
          exact ⟨⟨_, rfl⟩, .inr ⟨pre ++ [⟨r.take i, hmem⟩], trivial, hJx3⟩⟩

set_option maxHeartbeats 1000000 in
/-- lines hands back a value over the boxed text. -/
theorem lines_in (n : Nat) (t : List UInt8) (w : World) :
    CallsIn Fence.wide n Tryz.prog 59 #[.string (txt t)] w fun e w' => e = .returned (.func (.func 94) #[] #[.pointer (some ⟨w.heap.size, 0, none⟩)]) ∧ w' = w.alloc (.cells #[.string (txt t)] 9) := by
  refine callsIn_of_wp Tryz.func59 rfl trivial ?_ rfl
  simp only [Tryz.ntmps59, List.size_toArray, List.length_cons, List.length_nil, Nat.reduceAdd, Nat.reduceSub, Array.replicate_succ, Array.replicate_zero, List.push_toArray, List.append_toArray, List.nil_append, List.cons_append]
  gi_wp2
  go_ret
  exact ⟨rfl, rfl⟩
/-- The lines, one by one, for every body. -/
theorem lines_stops (n : Nat) (hn : 1 ≤ n) (B : Nat) (t : List UInt8) (ht : t.length < 4294967281) (w : World) (hB : B < w.heap.size) (hc : w.cell? ⟨B, 0, none⟩ = some (.string (txt t))) :
    SeqStopsK Fence.wide n Tryz.prog 94 #[.pointer (some ⟨B, 0, none⟩)] (fun x : {x : List UInt8 // x ∈ linesOf t} => #[Value.string (txt x.1)]) (fun _ _ => True) (fun ys => ys.map Subtype.val = linesOf t) (fun _ => True) (linesOf t).length w := fun l J Jx W hW hJ _ hY h0 =>
  lines1_any n hn l B t ht J Jx W hJ hY ((hW.cell (p := ⟨B, 0, none⟩) hB).trans hc) h0
end Go.Proofs.YtaablbmgagiajabGreatDoor
