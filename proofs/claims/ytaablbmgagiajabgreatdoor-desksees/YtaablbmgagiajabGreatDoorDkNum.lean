/- What words say: the contracts of number and numbers; and of throw. -/
import Derived.Test.YtaablbmgagiajabGreatDoorDkLn
import Derived.Test.YtaablbmgagiajabGreatDoorTell
import Derived.Lib.ParseIntBTie
import Derived.Lib.AtoiErrMem
namespace Go.Proofs.YtaablbmgagiajabGreatDoor
open Go.RowKit Go.Deep

/-- What a word says, if it is a number. -/
def numF (s : List UInt8) : Option Int := match Lib.parseIntB 64 s with
  | .ok v => if Lib.itoa v = s then some v else none
  | _ => none
theorem numF_in {s : List UInt8} {v : Int} (h : numF s = some v) : IntIn v := by
  unfold numF at h
  split at h
  · rename_i u hu
    split at h
    · have hb := Lib.parseIntB_bounds hu
      obtain rfl : u = v := by simpa using h
      have e : ((2 ^ (64 - 1) : Nat) : Int) = 9223372036854775808 := by decide
      rw [e] at hb
      exact ⟨hb.1, by omega⟩
    · cases h
  · cases h
/-- An error is thrown. -/
def thrown (n : Int) : Ending := .panicked [{ v := .iface 74 (.int .i64 n), recovered := false }]
/-- How number ends. -/
def numEnd : Option Int → Ending
  | some v => .returned (.int .i64 v)
  | none => thrown 3
theorem numF_ok {s : List UInt8} {v : Int} (h : Lib.parseIntB 64 s = .ok v) : numF s = if Lib.itoa v = s then some v else none := by
  unfold numF; rw [h]
theorem numF_no {s : List UInt8} (h : ∀ v, Lib.parseIntB 64 s ≠ .ok v) : numF s = none := by
  unfold numF
  split
  · rename_i v hv; exact absurd hv (h v)
  · rfl
/-- What is told by the library of words that are no numbers. -/
structure HasNum (w : World) : Prop where
  pow : HasPow w
  syn : ∃ t p, w.var? Tryz.prog "strconv.ErrSyntax" = some #[.iface t p]
  rng : ∃ t p, w.var? Tryz.prog "strconv.ErrRange" = some #[.iface t p]
theorem synG : Tryz.prog.globalNamed "strconv.ErrSyntax" = some 4 := by kernel_rfl
theorem rngG : Tryz.prog.globalNamed "strconv.ErrRange" = some 5 := by kernel_rfl
theorem HasNum.below {w w' : World} (h : HasNum w) (hB : Below w.heap.size w w') : HasNum w' := by
  obtain ⟨t, p, h1⟩ := h.syn
  obtain ⟨t2, p2, h2⟩ := h.rng
  exact ⟨h.pow.below hB, ⟨t, p, var_below synG h1 hB⟩, ⟨t2, p2, var_below rngG h2 hB⟩⟩
theorem parse_any (s : List UInt8) (w : World) (hs : s.length ≤ 1000000) (hn : HasNum w) :
    Calls Tryz.prog 189 #[.string (txt s), .int .i64 10, .int .i64 64] w fun e w' => Below w.heap.size w w' ∧
      ((∃ v, Lib.parseIntB 64 s = .ok v ∧ e = .returned (.tuple #[.int .i64 v, .nilIface])) ∨ (∀ v, Lib.parseIntB 64 s ≠ .ok v) ∧ ∃ u N, e = .returned (.tuple #[.int .i64 u, .iface 297 (.pointer (some ⟨N, 0, none⟩))])) := by
  cases hp : Lib.parseIntB 64 s with
  | ok v =>
    refine (Tryz.strconv_ParseInt_10_at64_ok (txt s) (by rw [txt_size]; omega) v hp w).mono ?_
    rintro e w' ⟨rfl, rfl | ⟨t, rfl⟩⟩
    · exact ⟨Below.refl _ _, .inl ⟨v, rfl, rfl⟩⟩
    · exact ⟨Lib.bytesWorld_below _ _ _, .inl ⟨v, rfl, rfl⟩⟩
  | «syntax» =>
    obtain ⟨t, p, hv⟩ := hn.syn
    refine (Tryz.strconv_ParseInt_10_at64_syntax_var (txt s) (by rw [txt_size]; omega) hp t p w hv).mono ?_
    rintro e w' ⟨N, rfl, _, _, hB⟩
    exact ⟨hB, .inr ⟨(fun v h => by cases h), _, N, rfl⟩⟩
  | range =>
    obtain ⟨t, p, hv⟩ := hn.rng
    refine (Tryz.strconv_ParseInt_10_at64_range_var (txt s) (by rw [txt_size]; omega) hp t p w hv).mono ?_
    rintro e w' ⟨N, rfl, _, _, hB⟩
    exact ⟨hB, .inr ⟨(fun v h => by cases h), _, N, rfl⟩⟩

theorem txt_inj {a b : List UInt8} (h : txt a = txt b) : a = b := by
  have h2 := congrArg (fun x : ByteArray => x.data.toList) h
  exact h2
set_option maxHeartbeats 1000000 in
theorem number_any (s : List UInt8) (w : World) (hs : s.length ≤ 1000000) (hn : HasNum w) :
    Calls Tryz.prog 163 #[.string (txt s)] w fun e w' => Below w.heap.size w w' ∧ e = numEnd (numF s) := by
  have HP := hide (parse_any s w hs hn)
  have HN := hide hn
  clear hn
  go_enter Tryz.func163, Tryz.ntmps163
  go_wp2_with fail
  go_at_call 189
  refine HP.out.mono ?_
  rintro e w1 ⟨hB, ⟨v, hv, rfl⟩ | ⟨hv, u, N, rfl⟩⟩
  · have hb := Lib.parseIntB_bounds hv
    have e : ((2 ^ (64 - 1) : Nat) : Int) = 9223372036854775808 := by decide
    rw [e] at hb
    have HF := hide (Tryz.strconv_FormatInt_10 v hb.1 (by omega) w1 (HN.out.below hB).pow)
    have HV := hide hv
    have HB := hide hB
    clear hv hb e hB
    go_wp2_with fail
    go_at_call 190
    refine HF.out.mono ?_
    rintro e w2 ⟨rfl, k, os, rfl⟩
    have HB2 := hide (HB.out.trans ((below_grow w1 k os).mono HB.out.size))
    clear HB
    by_cases hq : Lib.itoa v = s
    · have hq2 : ((⟨(Lib.itoa v).toArray⟩ : ByteArray) = txt s) = True := by simp [hq]
      go_wp2
      go_ret
      exact ⟨HB2.out, by rw [numF_ok HV.out, if_pos hq]; rfl⟩
    · have hq2 : ((⟨(Lib.itoa v).toArray⟩ : ByteArray) = txt s) = False := by
        simp only [eq_iff_iff, iff_false]
        exact fun h => hq (txt_inj h)
      have hq3 : (Lib.itoa v == s) = false := by simpa using hq
      go_wp2
      exact ⟨rfl, HB2.out, by rw [numF_ok HV.out, if_neg hq]; rfl⟩
  · have HV := hide hv
    have HB := hide hB
    clear hv hB
    go_wp2
    exact ⟨rfl, HB.out, by rw [numF_no HV.out]; rfl⟩

/-- A list of words. -/
structure IsSs (w : World) (a : Option Addr) (n cap : Nat) (xs : List (List UInt8)) : Prop where
  len : xs.length = n
  room : n ≤ cap
  lie : xs = [] ∨ ∃ b off, a = some ⟨b, off, none⟩ ∧ b < w.heap.size ∧ ∀ j x, xs[j]? = some x → w.cell? ⟨b, off + j, none⟩ = some (.string (txt x))
theorem IsSs.below {w w' : World} {a : Option Addr} {n cap : Nat} {xs : List (List UInt8)} (h : IsSs w a n cap xs) (hB : Below w.heap.size w w') : IsSs w' a n cap xs :=
  ⟨h.len, h.room, h.lie.imp id fun ⟨b, off, ha, hb, hc⟩ => ⟨b, off, ha, Nat.lt_of_lt_of_le hb hB.size, fun j x hx => (hB.cell (p := ⟨b, off + j, none⟩) hb).trans (hc j x hx)⟩⟩
/-- What all of them say. -/
def sayF (xs : List (List UInt8)) : Option (List Int) := if xs.all (fun x => (numF x).isSome) then some (xs.map fun x => (numF x).getD 0) else none
def nmRow (xs : List (List UInt8)) (k j : Nat) : Value := .int .i64 (if j < k then (numF (xs[j]?.getD [])).getD 0 else 0)
structure NmInv (w wr : World) (M n : Nat) (xs : List (List UInt8)) (k : Nat) : Prop where
  old : Below w.heap.size w wr
  row : wr.rowIs M 3 n (nmRow xs k)
  ok : ∀ j, j < k → (numF (xs[j]?.getD [])).isSome = true
theorem NmInv.put {w wr : World} {M n k : Nat} {xs : List (List UInt8)} (h : NmInv w wr M n xs k) (hM : w.heap.size ≤ M) {v : Int} (hv : numF (xs[k]?.getD []) = some v) : NmInv w (wr.setCell ⟨M, k, none⟩ (.int .i64 v)) M n xs (k + 1) := by
  refine ⟨h.old.setCell hM _, (h.row.set k _).congr fun j _ => ?_, fun j hj => ?_⟩
  · unfold nmRow
    by_cases e : j = k
    · subst e; rw [if_pos rfl, if_pos (by omega), hv]; rfl
    · rw [if_neg e]
      by_cases e2 : j < k
      · rw [if_pos e2, if_pos (by omega)]
      · rw [if_neg e2, if_neg (by omega)]
  · by_cases e : j = k
    · subst e; rw [hv]; rfl
    · exact h.ok j (by omega)
theorem NmInv.below {w wr wx : World} {M n k : Nat} {xs : List (List UInt8)} (h : NmInv w wr M n xs k) (hB : Below wr.heap.size wr wx) : NmInv w wx M n xs k :=
  ⟨h.old.trans (hB.mono h.old.size), h.row.of_block (hB.block _ h.row.lt), h.ok⟩
theorem infoIntD : (Tryz.prog.info? 3).map (fun i => (i.zero, i.size, i.bytes)) = some (some (.int .i64 0), 1, 8) := by kernel_rfl

set_option maxHeartbeats 1000000 in
theorem dnumbers_any (xs : List (List UInt8)) (a : Option Addr) (n cap : Nat) (w : World) (hs : IsSs w a n cap xs) (hl : ∀ x ∈ xs, x.length ≤ 1000000) (hn : n ≤ 2000000) (hN : HasNum w) :
    Calls Tryz.prog 101 #[.slice a n cap] w fun e w' => Below w.heap.size w w' ∧
      ((sayF xs = none ∧ e = thrown 3) ∨ ∃ l M, sayF xs = some l ∧ w.heap.size ≤ M ∧ e = .returned (.slice (some ⟨M, 0, none⟩) n n) ∧ IsSl w' (some ⟨M, 0, none⟩) n n l ∧ ∀ z ∈ l, IntIn z) := by
  obtain ⟨h1, h2, h3⟩ := hs
  have hmk := run_make_row' (P := Tryz.prog) 22 3 (.int .i64 0) 8 Tryz.underlying22 infoIntD rfl .i64 .i64 n (by omega) (by omega)
  have HI0 : Hid (NmInv w (w.alloc (.cells (madeCells #[.int .i64 0] n) 3)) w.heap.size n xs 0) := hide ⟨(Below.refl _ _).alloc (Nat.le_refl _) _, (World.rowIs_made w _ _ _).congr fun k _ => by unfold nmRow; rw [if_neg (by omega)], fun j hj => by omega⟩
  have HP := hide hN
  have HL := hide hl
  have H3 := hide h3
  clear hN hl h3
  go_enter Tryz.func101, Tryz.ntmps101
  go_wp2
  clear hmk
  obtain ⟨M, hM⟩ : ∃ M, Hid (w.heap.size = M) := ⟨_, hide rfl⟩
  rw [hM.out] at HI0 ⊢
  go_loopw [11] (fun i wr => ∃ k : Nat, k ≤ n ∧ i = .int .i64 k ∧ NmInv w wr M n xs k) (fun i _ => n - (intOf i).toNat)
  case atStart => exact ⟨0, Nat.zero_le _, rfl, HI0.out⟩
  case round =>
    clear HI0
    obtain ⟨k, hk, rfl, hI⟩ := hrel
    by_cases hlt : k < n
    · have hkl : k < xs.length := by omega
      obtain ⟨b, off, rfl, hb, hr⟩ : ∃ b off, a = some ⟨b, off, none⟩ ∧ b < w.heap.size ∧ ∀ j x, xs[j]? = some x → w.cell? ⟨b, off + j, none⟩ = some (.string (txt x)) := by
        rcases H3.out with e | e
        · rw [e] at hkl; simp at hkl
        · exact e
      obtain ⟨x, hx⟩ : ∃ x, Hid (xs[k]? = some x) := ⟨_, hide (List.getElem?_eq_getElem hkl)⟩
      have hcell := (hI.old.cell (p := ⟨b, off + k, none⟩) hb).trans (hr k x hx.out)
      have hxl : x.length ≤ 1000000 := HL.out x (List.mem_of_getElem? hx.out)
      have hgd : xs[k]?.getD [] = x := by rw [hx.out]; rfl
      have HC : Hid (Calls Tryz.prog 163 #[.string (txt x)] wr fun e w' => (Below w.heap.size w w' ∧ sayF xs = none ∧ e = thrown 3) ∨ ∃ v, e = .returned (.int .i64 v) ∧ (w'.cell? ⟨M, k, none⟩ = some (.int .i64 0) ∧ w'.frozen? ⟨M, k, none⟩ = false) ∧ Hid (NmInv w (w'.setCell ⟨M, k, none⟩ (.int .i64 v)) M n xs (k + 1))) := hide (by
        refine (number_any x wr hxl (HP.out.below hI.old)).mono ?_
        rintro e w' ⟨hB, rfl⟩
        cases hv : numF x with
        | none =>
          refine .inl ⟨hI.old.trans (hB.mono hI.old.size), ?_, rfl⟩
          unfold sayF
          rw [if_neg]
          intro h
          have := List.all_eq_true.1 h x (List.mem_of_getElem? hx.out)
          rw [hv] at this
          cases this
        | some v =>
          have hI' := hI.below hB
          refine .inr ⟨v, rfl, ⟨?_, hI'.row.frozen k⟩, hide ?_⟩
          · rw [hI'.row.cell hlt]; unfold nmRow; rw [if_neg (by omega)]
          · exact hI'.put (by rw [hM.out]; exact Nat.le_refl _) (by rw [hgd]; exact hv))
      clear hI hxl hr hgd
      go_wp2_with fail
      go_at_call 163
      refine HC.out.mono ?_
      rintro e w1 (⟨hB, hno, rfl⟩ | ⟨v, rfl, ⟨g0, g1⟩, HG⟩)
      · exact ⟨rfl, hB, .inl ⟨hno, rfl⟩⟩
      · go_wp2
        go_roundw
        case rel => exact ⟨k + 1, by omega, by go_num, HG.out⟩
        case measure => simp [intOf]; omega
    · have ek : k = n := by omega
      subst ek
      have hall : ∀ x ∈ xs, (numF x).isSome = true := fun x hx => by
        obtain ⟨j, hj, rfl⟩ := List.mem_iff_getElem.1 hx
        have := hI.ok j (by omega)
        rw [List.getElem?_eq_getElem hj] at this
        exact this
      have hnum : sayF xs = some (xs.map fun x => (numF x).getD 0) := by
        unfold sayF
        rw [if_pos (List.all_eq_true.2 hall)]
      have HE := hide hnum
      have HI := hide hI
      have HA := hide hall
      clear hnum hI hall
      go_wp2
      go_ret
      refine ⟨HI.out.old, .inr ⟨_, M, HE.out, by rw [hM.out]; exact Nat.le_refl _, rfl, ⟨by rw [List.length_map]; exact h1, Nat.le_refl _, .inr ⟨M, 0, rfl, HI.out.row.lt, ?_⟩⟩, fun z hz => ?_⟩⟩
      · intro j hj
        rw [List.length_map] at hj
        rw [Nat.zero_add, HI.out.row.cell (by omega), List.getElem?_map, List.getElem?_eq_getElem hj]
        unfold nmRow
        rw [if_pos (by omega), List.getElem?_eq_getElem hj]
        rfl
      · obtain ⟨x, hx, rfl⟩ := List.mem_map.1 hz
        obtain ⟨v, hv⟩ := Option.isSome_iff_exists.1 (HA.out x hx)
        rw [hv]
        exact numF_in hv
end Go.Proofs.YtaablbmgagiajabGreatDoor
