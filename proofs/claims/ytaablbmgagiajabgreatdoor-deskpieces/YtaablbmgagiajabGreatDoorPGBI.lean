import Derived.RangeFuncWrites
import Derived.RangeFuncLeaves
import Derived.Shelf.Abstract
import Derived.OwnWalkIn
import Derived.TacticsInMore
import Derived.LoopNIn
import Derived.LoopIn
import Derived.Test.YtaablbmgagiajabGreatDoorPGBH
import Derived.Lib.ParseIntBTie
import Derived.Lib.AtoiErrMem
import Derived.Test.YtaablbmgagiajabGreatDoorPGBE
import Derived.Tactics
import Derived.Tactics2
import Derived.Defers
import Derived.Recover
import Derived.Laws.Pointers
namespace Go.Proofs.YtaablbmgagiajabGreatDoor
open Go.RowKit Go.Deep Go.Shelf
def splitNl : List UInt8 → List (List UInt8)
  | [] => [[]]
  | c :: l => if c = 10 then [] :: splitNl l else (c :: (splitNl l).headD []) :: (splitNl l).tail
theorem splitNl_ne (l : List UInt8) : splitNl l ≠ [] := by
  cases l with
  | nil => simp [splitNl]
  | cons c l => unfold splitNl; split <;> simp
theorem nl_cases : ∀ (l : List UInt8), (Lib.indexByte l 10 = -1 ∧ splitNl l = [l]) ∨ ∃ i : Nat, Lib.indexByte l 10 = (i : Int) ∧ i < l.length ∧ splitNl l = l.take i :: splitNl (l.drop (i + 1))
  | [] => .inl ⟨rfl, rfl⟩
  | c :: l => by
    by_cases hc : c = 10
    · subst hc
      exact .inr ⟨0, by simp [Lib.indexByte], by simp, by simp [splitNl]⟩
    · have hcb : (c == 10) = false := by simpa using hc
      rcases nl_cases l with ⟨h1, h2⟩ | ⟨i, h1, h2, h3⟩
      · exact .inl ⟨by simp [Lib.indexByte, hcb, h1], by simp [splitNl, hc, h2]⟩
      · refine .inr ⟨i + 1, ?_, by simp; exact h2, ?_⟩
        · have hn : ((i : Int) == -1) = false := by simp
          simp [Lib.indexByte, hcb, h1, hn]
        · simp [splitNl, hc, h3]
def linesOf (t : List UInt8) : List (List UInt8) := splitNl (Lib.trimSuffix t [10])
theorem txt_take (l : List UInt8) (i : Nat) : (txt l).extract 0 i = txt (l.take i) := by
  rw [Lib.extract_eq]; simp [txt]
theorem txt_drop (l : List UInt8) (i : Nat) : (txt l).extract i (txt l).size = txt (l.drop i) := by
  rw [Lib.extract_eq]
  simp only [txt_size]
  rw [List.take_of_length_le (by simp)]
set_option maxHeartbeats 2000000 in
set_option maxRecDepth 100000 in
theorem sliteCut_nl (l : List UInt8) (w : World) (hl : l.length < 4294967281) :
    Calls Tryz.prog 161 #[.string (txt l), .string ⟨#[10]⟩] w fun e w' => (∃ k, w' = w.drewN k) ∧
      ((Lib.indexByte l 10 = -1 ∧ e = .returned (.tuple #[.string (txt l), .string ⟨#[]⟩, .bool false])) ∨ ∃ i : Nat, Lib.indexByte l 10 = (i : Int) ∧ e = .returned (.tuple #[.string (txt (l.take i)), .string (txt (l.drop (i + 1))), .bool true])) := by
  rcases nl_cases l with ⟨hx, _⟩ | ⟨i, hx, hi, _⟩
  · go_enter Tryz.func161, Tryz.ntmps161
    go_wp2_with (go_at_call 188; refine (Tryz.stringslite_Index_one (txt l) 10 _).mono ?_; rintro e w' ⟨rfl, rfl⟩; rw [txt_list, hx])
    go_ret3
    exact ⟨⟨0, rfl⟩, .inl ⟨hx, rfl⟩⟩
  · have hs : (txt l).size = l.length := rfl
    have c1 : (0 : Int) ≤ ↑i := by omega
    have c2 : (↑i : Int) ≤ ↑(txt l).size := by omega
    have c3 : (0 : Int) ≤ ↑i + 1 := by omega
    have c4 : (↑i + 1 : Int) ≤ ↑(txt l).size := by omega
    have e1 := txt_take l i
    have e2 := txt_drop l (i + 1)
    clear hs
    generalize hT : txt l = T at c2 c4 e1 e2 ⊢
    have hx2 : Lib.indexByte T.data.toList 10 = (i : Int) := by rw [← hT]; exact hx
    go_enter Tryz.func161, Tryz.ntmps161
    go_wp2_with (go_at_call 188; refine (Tryz.stringslite_Index_one T 10 _).mono ?_; rintro e w' ⟨rfl, rfl⟩; rw [hx2])
    have E1 := hide e1
    have E2 := hide e2
    clear e1 e2
    go_region
    go_wp2
    go_ret3
    exact ⟨⟨1, rfl⟩, .inr ⟨i, hx, by rw [← E1.out, ← E2.out]; rfl⟩⟩
set_option maxHeartbeats 1000000 in
theorem cut_nl (l : List UInt8) (w : World) (hl : l.length < 4294967281) :
    Calls Tryz.prog 96 #[.string (txt l), .string ⟨#[10]⟩] w fun e w' => (∃ k, w' = w.drewN k) ∧
      ((Lib.indexByte l 10 = -1 ∧ e = .returned (.tuple #[.string (txt l), .string ⟨#[]⟩, .bool false])) ∨ ∃ i : Nat, Lib.indexByte l 10 = (i : Int) ∧ e = .returned (.tuple #[.string (txt (l.take i)), .string (txt (l.drop (i + 1))), .bool true])) := by
  have HC := hide (sliteCut_nl l w hl)
  go_enter Tryz.func96, Tryz.ntmps96
  go_wp2_with fail
  go_at_call 161
  refine HC.out.mono ?_
  rintro e w' ⟨⟨k, rfl⟩, ⟨hx, rfl⟩ | ⟨i, hx, rfl⟩⟩
  · go_wp2
    go_ret3
    exact ⟨⟨k, rfl⟩, .inl ⟨hx, rfl⟩⟩
  · go_wp2
    go_ret3
    exact ⟨⟨k, rfl⟩, .inr ⟨i, hx, rfl⟩⟩
theorem trim_le (t : List UInt8) : (Lib.trimSuffix t [10]).length ≤ t.length := by
  unfold Lib.trimSuffix
  split
  · simp
  · exact Nat.le_refl _
theorem nl_none {l : List UInt8} (h : Lib.indexByte l 10 = -1) : splitNl l = [l] := by
  rcases nl_cases l with ⟨_, h2⟩ | ⟨i, h1, _, _⟩
  · exact h2
  · omega
theorem nl_some {l : List UInt8} {i : Nat} (h : Lib.indexByte l 10 = (i : Int)) : i < l.length ∧ splitNl l = l.take i :: splitNl (l.drop (i + 1)) := by
  rcases nl_cases l with ⟨h1, _⟩ | ⟨j, h1, h2, h3⟩
  · omega
  · obtain rfl : i = j := by omega
    exact ⟨h2, h3⟩
theorem drewN_grown (w : World) (k : Nat) : w.grownBy (w.drewN k) none := ⟨rfl, rfl, rfl, Nat.le_refl _, fun _ _ _ => rfl⟩
def restLeft : Value → Value → Nat
  | .string s, .bool true => s.size + 1
  | _, _ => 0
set_option maxRecDepth 100000 in
set_option maxHeartbeats 2000000 in
theorem lines1_any (n : Nat) (hn : 1 ≤ n) (l B : Nat) (t : List UInt8) (ht : t.length < 4294967281) (J Jx : List {x : List UInt8 // x ∈ linesOf t} → World → Prop) (W : World)
    (hJ : AbidesFrom W.heap.size J)
    (hY : ∀ pre x W1, J pre W1 → pre.length < (linesOf t).length → YieldAt Fence.wide (n - 1) Tryz.prog l #[.string (txt x.1)] W1 fun e W' =>
      (e = .returned (.bool true) ∧ J (pre ++ [x]) W' ∧ True) ∨ (e = .returned (.bool false) ∧ Jx (pre ++ [x]) W'))
    (hB : W.cell? ⟨B, 0, none⟩ = some (.string (txt t))) (h0 : J [] W) :
    CallsIn Fence.wide n Tryz.prog 94 #[.func (.yield l) #[] #[], .pointer (some ⟨B, 0, none⟩)] W fun e W' => (∃ v, e = .returned v) ∧
      ((∃ ys, ys.map Subtype.val = linesOf t ∧ J ys W') ∨ (∃ pre, True ∧ Jx pre W')) := by
  refine callsIn_of_wp Tryz.func94 rfl trivial ?_ rfl
  simp only [Tryz.ntmps94, List.size_toArray, List.length_cons, List.length_nil, Nat.reduceAdd, Nat.reduceSub, Array.replicate_succ, Array.replicate_zero, List.push_toArray, List.append_toArray, List.nil_append, List.cons_append]
  have hsz : (txt t).size ≤ 9223372036854775807 := by rw [txt_size]; omega
  have HT := hide (Tryz.strings_TrimSuffix (txt t) ⟨#[10]⟩ W hsz)
  clear hsz
  gi_wp2_with fail
  refine ⟨trivial, ?_⟩
  gi_at_call 95
  refine (callsIn_wide.2 HT.out).mono ?_
  rintro e w' ⟨rfl, rfl⟩
  gi_wp2
  gi_loopw [3, 4] (fun v b wr => ∃ (pre : List {x : List UInt8 // x ∈ linesOf t}) (r : List UInt8) (m : Bool), v = .string (txt r) ∧ b = .bool m ∧ r.length ≤ t.length ∧ pre.map Subtype.val ++ (if m then splitNl r else []) = linesOf t ∧ J pre wr)
    (fun v b _ => restLeft v b)
  case atStart =>
    exact ⟨[], Lib.trimSuffix t [10], true, rfl, rfl, trim_le t, by simp [linesOf], h0⟩
  case round =>
    obtain ⟨pre, r, m, rfl, rfl, hr, hx, hJs⟩ := hrel
    cases m with
    | false =>
      gi_wp2
      go_end0
      exact ⟨⟨_, rfl⟩, .inl ⟨pre, by simpa using hx, hJs⟩⟩
    | true =>
      simp only [if_true] at hx
      have HC := hide (cut_nl r wr (by omega))
      gi_wp2_with fail
      refine ⟨trivial, ?_⟩
      gi_at_call 96
      refine (callsIn_wide.2 HC.out).mono ?_
      rintro e w1 ⟨⟨k, rfl⟩, ⟨hi, rfl⟩ | ⟨i, hi, rfl⟩⟩
      · have hs := nl_none hi
        rw [hs] at hx
        have hmem : r ∈ linesOf t := by rw [← hx]; simp
        have hJ1 : J pre (wr.drewN k) := hJ _ _ _ none hJs (drewN_grown wr k) (fun r e => by cases e)
        obtain ⟨fn, tmps, assign, body, hy, hR⟩ := hY pre ⟨r, hmem⟩ (wr.drewN k) hJ1 (by have hq := congrArg List.length hx; simp only [List.length_append, List.length_map, List.length_cons] at hq; omega)
        dsimp only at hy
        gi_wp2
        refine hR.mono ?_
        rintro e W3 (⟨rfl, hJ3, _⟩ | ⟨rfl, hJx3⟩)
        · gi_wp2
          go_roundw
          case rel => exact ⟨pre ++ [⟨r, hmem⟩], [], false, rfl, rfl, by simp, by rw [List.map_append, List.map_cons, List.map_nil, hx, if_neg (by simp), List.append_nil], hJ3⟩
          case measure => simp [restLeft]
        · gi_wp2
          refine bodyPost_ret (results_none rfl _ _ _) rfl ?_
          exact ⟨⟨_, rfl⟩, .inr ⟨pre ++ [⟨r, hmem⟩], trivial, hJx3⟩⟩
      · obtain ⟨hil, hs⟩ := nl_some hi
        rw [hs] at hx
        have hmem : r.take i ∈ linesOf t := by rw [← hx]; simp
        have hJ1 : J pre (wr.drewN k) := hJ _ _ _ none hJs (drewN_grown wr k) (fun r e => by cases e)
        obtain ⟨fn, tmps, assign, body, hy, hR⟩ := hY pre ⟨r.take i, hmem⟩ (wr.drewN k) hJ1 (by have hq := congrArg List.length hx; simp only [List.length_append, List.length_map, List.length_cons] at hq; omega)
        dsimp only at hy
        gi_wp2
        refine hR.mono ?_
        rintro e W3 (⟨rfl, hJ3, _⟩ | ⟨rfl, hJx3⟩)
        · gi_wp2
          go_roundw
          case rel => exact ⟨pre ++ [⟨r.take i, hmem⟩], r.drop (i + 1), true, rfl, rfl, by simp; omega, by rw [List.map_append, List.map_cons, List.map_nil, if_pos rfl, List.append_assoc, List.singleton_append, hx], hJ3⟩
          case measure => show (r.drop (i + 1)).length + 1 < r.length + 1; rw [List.length_drop]; omega
        · gi_wp2
          refine bodyPost_ret (results_none rfl _ _ _) rfl ?_
          exact ⟨⟨_, rfl⟩, .inr ⟨pre ++ [⟨r.take i, hmem⟩], trivial, hJx3⟩⟩
set_option maxHeartbeats 1000000 in
theorem lines_in (n : Nat) (t : List UInt8) (w : World) :
    CallsIn Fence.wide n Tryz.prog 59 #[.string (txt t)] w fun e w' => e = .returned (.func (.func 94) #[] #[.pointer (some ⟨w.heap.size, 0, none⟩)]) ∧ w' = w.alloc (.cells #[.string (txt t)] 9) := by
  refine callsIn_of_wp Tryz.func59 rfl trivial ?_ rfl
  simp only [Tryz.ntmps59, List.size_toArray, List.length_cons, List.length_nil, Nat.reduceAdd, Nat.reduceSub, Array.replicate_succ, Array.replicate_zero, List.push_toArray, List.append_toArray, List.nil_append, List.cons_append]
  gi_wp2
  go_ret
  exact ⟨rfl, rfl⟩
theorem lines_stops (n : Nat) (hn : 1 ≤ n) (B : Nat) (t : List UInt8) (ht : t.length < 4294967281) (w : World) (hB : B < w.heap.size) (hc : w.cell? ⟨B, 0, none⟩ = some (.string (txt t))) :
    SeqStopsK Fence.wide n Tryz.prog 94 #[.pointer (some ⟨B, 0, none⟩)] (fun x : {x : List UInt8 // x ∈ linesOf t} => #[Value.string (txt x.1)]) (fun _ _ => True) (fun ys => ys.map Subtype.val = linesOf t) (fun _ => True) (linesOf t).length w := fun l J Jx W hW hJ _ hY h0 =>
  lines1_any n hn l B t ht J Jx W hJ hY ((hW.cell (p := ⟨B, 0, none⟩) hB).trans hc) h0
end Go.Proofs.YtaablbmgagiajabGreatDoor
namespace Go.Proofs.YtaablbmgagiajabGreatDoor
open Go.RowKit Go.Deep
def numF (s : List UInt8) : Option Int := match Lib.parseIntB 64 s with
  | .ok v => if Lib.itoa v = s then some v else none
  | _ => none
theorem numF_in {s : List UInt8} {v : Int} (h : numF s = some v) : IntIn v := by
  unfold numF at h
  split at h
  · rename_i u hu
    split at h
    · have hb := Lib.parseIntB_bounds hu
      obtain rfl : u = v := by simpa using h
      have e : ((2 ^ (64 - 1) : Nat) : Int) = 9223372036854775808 := by decide
      rw [e] at hb
      exact ⟨hb.1, by omega⟩
    · cases h
  · cases h
def thrown (n : Int) : Ending := .panicked [{ v := .iface 74 (.int .i64 n), recovered := false }]
def numEnd : Option Int → Ending
  | some v => .returned (.int .i64 v)
  | none => thrown 3
theorem numF_ok {s : List UInt8} {v : Int} (h : Lib.parseIntB 64 s = .ok v) : numF s = if Lib.itoa v = s then some v else none := by
  unfold numF; rw [h]
theorem numF_no {s : List UInt8} (h : ∀ v, Lib.parseIntB 64 s ≠ .ok v) : numF s = none := by
  unfold numF
  split
  · rename_i v hv; exact absurd hv (h v)
  · rfl
structure HasNum (w : World) : Prop where
  pow : HasPow w
  syn : ∃ t p, w.var? Tryz.prog "strconv.ErrSyntax" = some #[.iface t p]
  rng : ∃ t p, w.var? Tryz.prog "strconv.ErrRange" = some #[.iface t p]
theorem synG : Tryz.prog.globalNamed "strconv.ErrSyntax" = some 4 := by kernel_rfl
theorem rngG : Tryz.prog.globalNamed "strconv.ErrRange" = some 5 := by kernel_rfl
theorem HasNum.below {w w' : World} (h : HasNum w) (hB : Below w.heap.size w w') : HasNum w' := by
  obtain ⟨t, p, h1⟩ := h.syn
  obtain ⟨t2, p2, h2⟩ := h.rng
  exact ⟨h.pow.below hB, ⟨t, p, var_below synG h1 hB⟩, ⟨t2, p2, var_below rngG h2 hB⟩⟩
theorem parse_any (s : List UInt8) (w : World) (hs : s.length ≤ 1000000) (hn : HasNum w) :
    Calls Tryz.prog 189 #[.string (txt s), .int .i64 10, .int .i64 64] w fun e w' => Below w.heap.size w w' ∧
      ((∃ v, Lib.parseIntB 64 s = .ok v ∧ e = .returned (.tuple #[.int .i64 v, .nilIface])) ∨ (∀ v, Lib.parseIntB 64 s ≠ .ok v) ∧ ∃ u N, e = .returned (.tuple #[.int .i64 u, .iface 297 (.pointer (some ⟨N, 0, none⟩))])) := by
  cases hp : Lib.parseIntB 64 s with
  | ok v =>
    refine (Tryz.strconv_ParseInt_10_at64_ok (txt s) (by rw [txt_size]; omega) v hp w).mono ?_
    rintro e w' ⟨rfl, rfl | ⟨t, rfl⟩⟩
    · exact ⟨Below.refl _ _, .inl ⟨v, rfl, rfl⟩⟩
    · exact ⟨Lib.bytesWorld_below _ _ _, .inl ⟨v, rfl, rfl⟩⟩
  | «syntax» =>
    obtain ⟨t, p, hv⟩ := hn.syn
    refine (Tryz.strconv_ParseInt_10_at64_syntax_var (txt s) (by rw [txt_size]; omega) hp t p w hv).mono ?_
    rintro e w' ⟨N, rfl, _, _, hB⟩
    exact ⟨hB, .inr ⟨(fun v h => by cases h), _, N, rfl⟩⟩
  | range =>
    obtain ⟨t, p, hv⟩ := hn.rng
    refine (Tryz.strconv_ParseInt_10_at64_range_var (txt s) (by rw [txt_size]; omega) hp t p w hv).mono ?_
    rintro e w' ⟨N, rfl, _, _, hB⟩
    exact ⟨hB, .inr ⟨(fun v h => by cases h), _, N, rfl⟩⟩
theorem txt_inj {a b : List UInt8} (h : txt a = txt b) : a = b := by
  have h2 := congrArg (fun x : ByteArray => x.data.toList) h
  exact h2
set_option maxHeartbeats 1000000 in
theorem number_any (s : List UInt8) (w : World) (hs : s.length ≤ 1000000) (hn : HasNum w) :
    Calls Tryz.prog 163 #[.string (txt s)] w fun e w' => Below w.heap.size w w' ∧ e = numEnd (numF s) := by
  have HP := hide (parse_any s w hs hn)
  have HN := hide hn
  clear hn
  go_enter Tryz.func163, Tryz.ntmps163
  go_wp2_with fail
  go_at_call 189
  refine HP.out.mono ?_
  rintro e w1 ⟨hB, ⟨v, hv, rfl⟩ | ⟨hv, u, N, rfl⟩⟩
  · have hb := Lib.parseIntB_bounds hv
    have e : ((2 ^ (64 - 1) : Nat) : Int) = 9223372036854775808 := by decide
    rw [e] at hb
    have HF := hide (Tryz.strconv_FormatInt_10 v hb.1 (by omega) w1 (HN.out.below hB).pow)
    have HV := hide hv
    have HB := hide hB
    clear hv hb e hB
    go_wp2_with fail
    go_at_call 190
    refine HF.out.mono ?_
    rintro e w2 ⟨rfl, k, os, rfl⟩
    have HB2 := hide (HB.out.trans ((below_grow w1 k os).mono HB.out.size))
    clear HB
    by_cases hq : Lib.itoa v = s
    · have hq2 : ((⟨(Lib.itoa v).toArray⟩ : ByteArray) = txt s) = True := by simp [hq]
      go_wp2
      go_ret
      exact ⟨HB2.out, by rw [numF_ok HV.out, if_pos hq]; rfl⟩
    · have hq2 : ((⟨(Lib.itoa v).toArray⟩ : ByteArray) = txt s) = False := by
        simp only [eq_iff_iff, iff_false]
        exact fun h => hq (txt_inj h)
      have hq3 : (Lib.itoa v == s) = false := by simpa using hq
      go_wp2
      exact ⟨rfl, HB2.out, by rw [numF_ok HV.out, if_neg hq]; rfl⟩
  · have HV := hide hv
    have HB := hide hB
    clear hv hB
    go_wp2
    exact ⟨rfl, HB.out, by rw [numF_no HV.out]; rfl⟩
structure IsSs (w : World) (a : Option Addr) (n cap : Nat) (xs : List (List UInt8)) : Prop where
  len : xs.length = n
  room : n ≤ cap
  lie : xs = [] ∨ ∃ b off, a = some ⟨b, off, none⟩ ∧ b < w.heap.size ∧ ∀ j x, xs[j]? = some x → w.cell? ⟨b, off + j, none⟩ = some (.string (txt x))
theorem IsSs.below {w w' : World} {a : Option Addr} {n cap : Nat} {xs : List (List UInt8)} (h : IsSs w a n cap xs) (hB : Below w.heap.size w w') : IsSs w' a n cap xs :=
  ⟨h.len, h.room, h.lie.imp id fun ⟨b, off, ha, hb, hc⟩ => ⟨b, off, ha, Nat.lt_of_lt_of_le hb hB.size, fun j x hx => (hB.cell (p := ⟨b, off + j, none⟩) hb).trans (hc j x hx)⟩⟩
def sayF (xs : List (List UInt8)) : Option (List Int) := if xs.all (fun x => (numF x).isSome) then some (xs.map fun x => (numF x).getD 0) else none
def nmRow (xs : List (List UInt8)) (k j : Nat) : Value := .int .i64 (if j < k then (numF (xs[j]?.getD [])).getD 0 else 0)
structure NmInv (w wr : World) (M n : Nat) (xs : List (List UInt8)) (k : Nat) : Prop where
  old : Below w.heap.size w wr
  row : wr.rowIs M 3 n (nmRow xs k)
  ok : ∀ j, j < k → (numF (xs[j]?.getD [])).isSome = true
theorem NmInv.put {w wr : World} {M n k : Nat} {xs : List (List UInt8)} (h : NmInv w wr M n xs k) (hM : w.heap.size ≤ M) {v : Int} (hv : numF (xs[k]?.getD []) = some v) : NmInv w (wr.setCell ⟨M, k, none⟩ (.int .i64 v)) M n xs (k + 1) := by
  refine ⟨h.old.setCell hM _, (h.row.set k _).congr fun j _ => ?_, fun j hj => ?_⟩
  · unfold nmRow
    by_cases e : j = k
    · subst e; rw [if_pos rfl, if_pos (by omega), hv]; rfl
    · rw [if_neg e]
      by_cases e2 : j < k
      · rw [if_pos e2, if_pos (by omega)]
      · rw [if_neg e2, if_neg (by omega)]
  · by_cases e : j = k
    · subst e; rw [hv]; rfl
    · exact h.ok j (by omega)
theorem NmInv.below {w wr wx : World} {M n k : Nat} {xs : List (List UInt8)} (h : NmInv w wr M n xs k) (hB : Below wr.heap.size wr wx) : NmInv w wx M n xs k :=
  ⟨h.old.trans (hB.mono h.old.size), h.row.of_block (hB.block _ h.row.lt), h.ok⟩
theorem infoIntD : (Tryz.prog.info? 3).map (fun i => (i.zero, i.size, i.bytes)) = some (some (.int .i64 0), 1, 8) := by kernel_rfl
set_option maxHeartbeats 1000000 in
theorem dnumbers_any (xs : List (List UInt8)) (a : Option Addr) (n cap : Nat) (w : World) (hs : IsSs w a n cap xs) (hl : ∀ x ∈ xs, x.length ≤ 1000000) (hn : n ≤ 2000000) (hN : HasNum w) :
    Calls Tryz.prog 101 #[.slice a n cap] w fun e w' => Below w.heap.size w w' ∧
      ((sayF xs = none ∧ e = thrown 3) ∨ ∃ l M, sayF xs = some l ∧ w.heap.size ≤ M ∧ e = .returned (.slice (some ⟨M, 0, none⟩) n n) ∧ IsSl w' (some ⟨M, 0, none⟩) n n l ∧ ∀ z ∈ l, IntIn z) := by
  obtain ⟨h1, h2, h3⟩ := hs
  have hmk := run_make_row' (P := Tryz.prog) 22 3 (.int .i64 0) 8 Tryz.underlying22 infoIntD rfl .i64 .i64 n (by omega) (by omega)
  have HI0 : Hid (NmInv w (w.alloc (.cells (madeCells #[.int .i64 0] n) 3)) w.heap.size n xs 0) := hide ⟨(Below.refl _ _).alloc (Nat.le_refl _) _, (World.rowIs_made w _ _ _).congr fun k _ => by unfold nmRow; rw [if_neg (by omega)], fun j hj => by omega⟩
  have HP := hide hN
  have HL := hide hl
  have H3 := hide h3
  clear hN hl h3
  go_enter Tryz.func101, Tryz.ntmps101
  go_wp2
  clear hmk
  obtain ⟨M, hM⟩ : ∃ M, Hid (w.heap.size = M) := ⟨_, hide rfl⟩
  rw [hM.out] at HI0 ⊢
  go_loopw [11] (fun i wr => ∃ k : Nat, k ≤ n ∧ i = .int .i64 k ∧ NmInv w wr M n xs k) (fun i _ => n - (intOf i).toNat)
  case atStart => exact ⟨0, Nat.zero_le _, rfl, HI0.out⟩
  case round =>
    clear HI0
    obtain ⟨k, hk, rfl, hI⟩ := hrel
    by_cases hlt : k < n
    · have hkl : k < xs.length := by omega
      obtain ⟨b, off, rfl, hb, hr⟩ : ∃ b off, a = some ⟨b, off, none⟩ ∧ b < w.heap.size ∧ ∀ j x, xs[j]? = some x → w.cell? ⟨b, off + j, none⟩ = some (.string (txt x)) := by
        rcases H3.out with e | e
        · rw [e] at hkl; simp at hkl
        · exact e
      obtain ⟨x, hx⟩ : ∃ x, Hid (xs[k]? = some x) := ⟨_, hide (List.getElem?_eq_getElem hkl)⟩
      have hcell := (hI.old.cell (p := ⟨b, off + k, none⟩) hb).trans (hr k x hx.out)
      have hxl : x.length ≤ 1000000 := HL.out x (List.mem_of_getElem? hx.out)
      have hgd : xs[k]?.getD [] = x := by rw [hx.out]; rfl
      have HC : Hid (Calls Tryz.prog 163 #[.string (txt x)] wr fun e w' => (Below w.heap.size w w' ∧ sayF xs = none ∧ e = thrown 3) ∨ ∃ v, e = .returned (.int .i64 v) ∧ (w'.cell? ⟨M, k, none⟩ = some (.int .i64 0) ∧ w'.frozen? ⟨M, k, none⟩ = false) ∧ Hid (NmInv w (w'.setCell ⟨M, k, none⟩ (.int .i64 v)) M n xs (k + 1))) := hide (by
        refine (number_any x wr hxl (HP.out.below hI.old)).mono ?_
        rintro e w' ⟨hB, rfl⟩
        cases hv : numF x with
        | none =>
          refine .inl ⟨hI.old.trans (hB.mono hI.old.size), ?_, rfl⟩
          unfold sayF
          rw [if_neg]
          intro h
          have := List.all_eq_true.1 h x (List.mem_of_getElem? hx.out)
          rw [hv] at this
          cases this
        | some v =>
          have hI' := hI.below hB
          refine .inr ⟨v, rfl, ⟨?_, hI'.row.frozen k⟩, hide ?_⟩
          · rw [hI'.row.cell hlt]; unfold nmRow; rw [if_neg (by omega)]
          · exact hI'.put (by rw [hM.out]; exact Nat.le_refl _) (by rw [hgd]; exact hv))
      clear hI hxl hr hgd
      go_wp2_with fail
      go_at_call 163
      refine HC.out.mono ?_
      rintro e w1 (⟨hB, hno, rfl⟩ | ⟨v, rfl, ⟨g0, g1⟩, HG⟩)
      · exact ⟨rfl, hB, .inl ⟨hno, rfl⟩⟩
      · go_wp2
        go_roundw
        case rel => exact ⟨k + 1, by omega, by go_num, HG.out⟩
        case measure => simp [intOf]; omega
    · have ek : k = n := by omega
      subst ek
      have hall : ∀ x ∈ xs, (numF x).isSome = true := fun x hx => by
        obtain ⟨j, hj, rfl⟩ := List.mem_iff_getElem.1 hx
        have := hI.ok j (by omega)
        rw [List.getElem?_eq_getElem hj] at this
        exact this
      have hnum : sayF xs = some (xs.map fun x => (numF x).getD 0) := by
        unfold sayF
        rw [if_pos (List.all_eq_true.2 hall)]
      have HE := hide hnum
      have HI := hide hI
      have HA := hide hall
      clear hnum hI hall
      go_wp2
      go_ret
      refine ⟨HI.out.old, .inr ⟨_, M, HE.out, by rw [hM.out]; exact Nat.le_refl _, rfl, ⟨by rw [List.length_map]; exact h1, Nat.le_refl _, .inr ⟨M, 0, rfl, HI.out.row.lt, ?_⟩⟩, fun z hz => ?_⟩⟩
      · intro j hj
        rw [List.length_map] at hj
        rw [Nat.zero_add, HI.out.row.cell (by omega), List.getElem?_map, List.getElem?_eq_getElem hj]
        unfold nmRow
        rw [if_pos (by omega), List.getElem?_eq_getElem hj]
        rfl
      · obtain ⟨x, hx, rfl⟩ := List.mem_map.1 hz
        obtain ⟨v, hv⟩ := Option.isSome_iff_exists.1 (HA.out x hx)
        rw [hv]
        exact numF_in hv
end Go.Proofs.YtaablbmgagiajabGreatDoor
namespace Go.Proofs.YtaablbmgagiajabGreatDoor
open Go.RowKit Go.Deep Go.Shelf
set_option maxHeartbeats 1000000 in
theorem throw_nil (w : World) : Calls Tryz.prog 159 #[.nilIface] w fun e w' => e = .returned (.tuple #[]) ∧ w' = w := by
  go_enter Tryz.func159, Tryz.ntmps159
  go_wp2
  go_end0
  exact ⟨rfl, rfl⟩
set_option maxHeartbeats 1000000 in
theorem throw_err (w : World) (lo : Nat) (f : Nat × Int) (v : Value) (he : IsErr w lo f v) (h0 : f.1 ≠ 0) (hg : HasErrT w) :
    Calls Tryz.prog 159 #[v] w fun e w' => e = thrown (f.1 : Int) ∧ Below w.heap.size w w' := by
  have HT := hide (tell_any w lo f v he hg)
  have hv : ∃ t x, v = .iface t x := by
    rcases he with ⟨e, rfl⟩ | ⟨_, _, rfl⟩ | ⟨_, _, nb, _, _, rfl, _⟩
    · rw [e] at h0; exact absurd rfl h0
    · exact ⟨_, _, rfl⟩
    · exact ⟨_, _, rfl⟩
  clear he hg
  obtain ⟨t, x, rfl⟩ := hv
  go_enter Tryz.func159, Tryz.ntmps159
  go_wp2_with fail
  go_at_call 28
  refine HT.out.mono ?_
  rintro e w1 ⟨rfl, hB⟩
  go_wp2
  exact ⟨rfl, rfl, hB⟩
def isB (r : Nat) : Bool := decide ((r : Int) = 32)
set_option maxHeartbeats 1000000 in
theorem isBlank_at (w : World) : PredAt Tryz.prog 100 #[] encR isB w := fun W r _ => by
  unfold FnGives
  go_enter Tryz.func100, Tryz.ntmps100
  go_wp2
  go_ret
  exact ⟨rfl, 0, rfl⟩
theorem assertErrno (v : Value) (w : World) : (Instr.typeAssert (.iface 74 v) 20 74 true).run Tryz.prog w = .ok (.tuple #[v, .bool true]) w := by kernel_rfl
theorem assertNil (w : World) : (Instr.typeAssert .nilIface 20 74 true).run Tryz.prog w = .ok (.tuple #[.int .i64 0, .bool false]) w := by kernel_rfl
set_option maxHeartbeats 1000000 in
theorem catch_idle (p : Addr) (w : World) :
    CallsD Tryz.prog 98 #[.pointer (some p)] .returning w fun e u' w' => e = .returned (.tuple #[]) ∧ u' = .returning ∧ w' = w := by
  refine callsD_of_wpS Tryz.func98 rfl fun c₀ cs hu => ?_
  apply wpS_seq
  apply wpS_region
  simp [wpOpsS, go_sem, recoverD, hu, Tryz.ntmps98, Exit.thenS, assertNil]
  refine wpS_of_wp ?_
  simp only [Array.replicate_succ, Array.replicate_zero, List.push_toArray, List.append_toArray, List.nil_append, List.cons_append, List.setIfInBounds_toArray, List.set_cons_succ, List.set_cons_zero]
  go_wp2
  cases c₀
  simp_all [bodyPostS, results, Tryz.results98]
set_option maxHeartbeats 1000000 in
theorem catch_thrown (p : Addr) (z : Int) (v : Value) (w : World) (hz : IntIn z) (hp : HasPow w) (hb : p.block < w.heap.size) (hc : w.cell? p = some v) (hf : w.frozen? p = false) :
    CallsD Tryz.prog 98 #[.pointer (some p)] (.panicking [{ v := .iface 74 (.int .i64 z), recovered := false }]) w fun e u' w' =>
      e = .returned (.tuple #[]) ∧ u' = .panicking [{ v := .iface 74 (.int .i64 z), recovered := true }] ∧ ∃ w1, Below w.heap.size w w1 ∧ w' = w1.setCell p (.string (txt (errF z))) := by
  refine callsD_of_wpS Tryz.func98 rfl fun c₀ cs hu => ?_
  apply wpS_seq
  apply wpS_region
  simp [wpOpsS, go_sem, recoverD, hu, Tryz.ntmps98, Exit.thenS, assertErrno]
  have HW := hide (wrong_any z w hz hp)
  clear hz hp
  have hbl : ∀ w1, Below w.heap.size w w1 → w1.cell? p = some v ∧ w1.frozen? p = false := fun w1 h => ⟨(h.cell hb).trans hc, (World.frozen?_of_block (h.block _ hb)).trans hf⟩
  have HBL := hide hbl
  clear hbl hc hf
  refine wpS_of_wp ?_
  simp only [Array.replicate_succ, Array.replicate_zero, List.push_toArray, List.append_toArray, List.nil_append, List.cons_append, List.setIfInBounds_toArray, List.set_cons_succ, List.set_cons_zero]
  go_wp2_with fail
  go_at_call 57
  refine HW.out.mono ?_
  rintro e w1 ⟨rfl, hB⟩
  obtain ⟨g0, g1⟩ := HBL.out w1 hB
  go_wp2
  simp only [bodyPostS]
  simp [results, Tryz.results98]
  exact ⟨w1, hB, rfl⟩
end Go.Proofs.YtaablbmgagiajabGreatDoor
