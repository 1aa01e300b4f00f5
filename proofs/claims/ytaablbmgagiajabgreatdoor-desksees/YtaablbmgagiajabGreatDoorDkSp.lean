/- The desk's numbers as text: the contracts of spaced and wrong. -/
import Derived.Test.YtaablbmgagiajabGreatDoorShelf
import Derived.Test.YtaablbmgagiajabGreatDoorConf
import Derived.Lib.ItoaLen
namespace Go.Proofs.YtaablbmgagiajabGreatDoor
open Go.RowKit Go.Deep Go.Sort

/-- A text, by its bytes. -/
abbrev txt (l : List UInt8) : ByteArray := ⟨l.toArray⟩
theorem txt_add (a b : List UInt8) : txt a ++ txt b = txt (a ++ b) := by
  apply ByteArray.ext
  simp [txt, ByteArray.data_append]
theorem txt_list (l : List UInt8) : (txt l).data.toList = l := rfl
theorem txt_size (l : List UInt8) : (txt l).size = l.length := rfl
theorem below_grow (w : World) (k : Nat) (os : Array Obj) : Below w.heap.size w (grow (w.drewN k) os) :=
  ⟨rfl, rfl, rfl, by simp [grow], fun i hi => by
    show (w.heap ++ os)[i]? = w.heap[i]?
    rw [Array.getElem?_append_left hi]⟩
theorem var_below {w w' : World} {n : String} {g : Nat} (hg : Tryz.prog.globalNamed n = some g) {cs : Array Value} (h : w.var? Tryz.prog n = some cs) (hB : Below w.heap.size w w') : w'.var? Tryz.prog n = some cs := by
  unfold World.var? at h ⊢
  rw [hg] at h ⊢
  simp only [Option.bind_some] at h ⊢
  cases hh : w.heap[g]? with
  | none => rw [hh] at h; cases h
  | some o => rw [hB.block g (Array.getElem?_eq_some_iff.1 hh).1]; exact h
/-- The table of powers. -/
def HasPow (w : World) : Prop := Lib.TabIs Tryz.prog w "internal/strconv.uint64pow10" .u64 Lib.pow10Tab
theorem powG : Tryz.prog.globalNamed "internal/strconv.uint64pow10" = some 3 := by kernel_rfl
theorem HasPow.below {w w' : World} (h : HasPow w) (hB : Below w.heap.size w w') : HasPow w' := var_below powG h hB
def IntIn (z : Int) : Prop := -9223372036854775808 ≤ z ∧ z ≤ 9223372036854775807
/-- Numbers with blanks between. -/
def spF (l : List Int) : List UInt8 := Lib.join (l.map Lib.itoa) [32]
/-- How an error is told. -/
def errF (n : Int) : List UInt8 := [101, 114, 114, 111, 114, 32] ++ Lib.itoa n

theorem itoa_any (z : Int) (w : World) (hz : IntIn z) (hp : HasPow w) :
    Calls Tryz.prog 91 #[.int .i64 z] w fun e w' => e = .returned (.string (txt (Lib.itoa z))) ∧ Below w.heap.size w w' := by
  refine (Tryz.strconv_Itoa z hz.1 hz.2 w hp).mono ?_
  rintro e w' ⟨he, k, os, rfl⟩
  exact ⟨he, below_grow w k os⟩

set_option maxHeartbeats 1000000 in
theorem wrong_any (z : Int) (w : World) (hz : IntIn z) (hp : HasPow w) :
    Calls Tryz.prog 57 #[.int .i64 z] w fun e w' => e = .returned (.string (txt (errF z))) ∧ Below w.heap.size w w' := by
  have HI := hide (itoa_any z w hz hp)
  have hl := Lib.itoa_length_le z hz.1 hz.2
  have hni : ¬ 9223372036854775807 < 6 + (Lib.itoa z).length := by omega
  clear hp
  go_enter Tryz.func57, Tryz.ntmps57
  go_wp2_with (go_at_call 91; refine HI.out.mono ?_; rintro e w1 ⟨rfl, hB⟩)
  go_ret
  exact ⟨by rw [show errF z = [101, 114, 114, 111, 114, 32] ++ Lib.itoa z from rfl, ← txt_add]; rfl, hB⟩

/-- The list on the way: so many are laid. -/
def spRow (l : List Int) (k j : Nat) : Value := if j < k then .string (txt (Lib.itoa (l[j]?.getD 0))) else .string ⟨#[]⟩
structure SpInv (w wr : World) (M n : Nat) (l : List Int) (k : Nat) : Prop where
  old : Below w.heap.size w wr
  row : wr.rowIs M 9 n (spRow l k)
theorem SpInv.put {w wr : World} {M n k : Nat} {l : List Int} (h : SpInv w wr M n l k) (hM : w.heap.size ≤ M) : SpInv w (wr.setCell ⟨M, k, none⟩ (.string (txt (Lib.itoa (l[k]?.getD 0))))) M n l (k + 1) := by
  refine ⟨h.old.setCell hM _, (h.row.set k _).congr fun j _ => ?_⟩
  unfold spRow
  by_cases e : j = k
  · subst e; rw [if_pos rfl, if_pos (by omega)]
  · rw [if_neg e]
    by_cases e2 : j < k
    · rw [if_pos e2, if_pos (by omega)]
    · rw [if_neg e2, if_neg (by omega)]
theorem SpInv.below {w wr wx : World} {M n k : Nat} {l : List Int} (h : SpInv w wr M n l k) (hB : Below wr.heap.size wr wx) : SpInv w wx M n l k :=
  ⟨h.old.trans (hB.mono h.old.size), h.row.of_block (hB.block _ h.row.lt)⟩
theorem infoStr : (Tryz.prog.info? 9).map (fun i => (i.zero, i.size, i.bytes)) = some (some (.string ⟨#[]⟩), 1, 16) := by kernel_rfl
theorem join_few : ∀ (l : List Int), (∀ z ∈ l, IntIn z) → (spF l).length ≤ 22 * l.length
  | [], _ => by simp [spF, Lib.join, List.intercalate]
  | z :: r, h => by
    have hz := Lib.itoa_length_le z (h z (by simp)).1 (h z (by simp)).2
    have ih := join_few r fun y hy => h y (by simp [hy])
    unfold spF at ih ⊢
    rw [List.map_cons]
    cases r with
    | nil => simp [Lib.join, List.intercalate]; omega
    | cons y r =>
      rw [Lib.join_cons]
      rw [List.map_cons, Lib.join_cons] at ih
      rw [List.map_cons]
      have e : Lib.joinTail [32] (Lib.itoa y :: List.map Lib.itoa r) = [32] ++ (Lib.itoa y ++ Lib.joinTail [32] (List.map Lib.itoa r)) := by simp [Lib.joinTail]
      rw [e]
      simp only [List.length_append, List.length_cons, List.length_nil] at ih ⊢
      omega

set_option maxHeartbeats 1000000 in
theorem spaced_any (l : List Int) (a : Option Addr) (n cap : Nat) (w : World) (hs : IsSl w a n cap l) (hl : ∀ z ∈ l, IntIn z) (hn : n ≤ 20000) (hp : HasPow w) :
    Calls Tryz.prog 182 #[.slice a n cap] w fun e w' => e = .returned (.string (txt (spF l))) ∧ Below w.heap.size w w' := by
  obtain ⟨h1, h2, h3⟩ := hs
  have hmk := run_make_row' (P := Tryz.prog) 70 9 (.string ⟨#[]⟩) 16 Tryz.underlying70 infoStr rfl .i64 .i64 n (by omega) (by omega)
  have HI0 : Hid (SpInv w (w.alloc (.cells (madeCells #[.string ⟨#[]⟩] n) 9)) w.heap.size n l 0) := hide ⟨(Below.refl _ _).alloc (Nat.le_refl _) _, (World.rowIs_made w _ _ _).congr fun k _ => by unfold spRow; rw [if_neg (by omega)]⟩
  have HP := hide hp
  have HL := hide hl
  have H3 := hide h3
  clear hp hl h3
  go_enter Tryz.func182, Tryz.ntmps182
  go_wp2
  clear hmk
  obtain ⟨M, hM⟩ : ∃ M, Hid (w.heap.size = M) := ⟨_, hide rfl⟩
  rw [hM.out] at HI0 ⊢
  go_loopw [11] (fun i wr => ∃ k : Nat, k ≤ n ∧ i = .int .i64 k ∧ SpInv w wr M n l k) (fun i _ => n - (intOf i).toNat)
  case atStart => exact ⟨0, Nat.zero_le _, rfl, HI0.out⟩
  case round =>
    clear HI0
    obtain ⟨k, hk, rfl, hI⟩ := hrel
    by_cases hlt : k < n
    · have hkl : k < l.length := by omega
      obtain ⟨b, off, rfl, hb, hr⟩ : ∃ b off, a = some ⟨b, off, none⟩ ∧ b < w.heap.size ∧ Row w b off l := by
        rcases H3.out with e | e
        · rw [e] at hkl; simp at hkl
        · exact e
      obtain ⟨z, hz, hcell⟩ := Row.at (hr.below hb hI.old) hkl
      have hzi : IntIn z := by
        rw [← hz.out, List.getElem?_eq_getElem hkl]
        exact HL.out _ (List.getElem_mem hkl)
      have HC : Hid (Calls Tryz.prog 91 #[.int .i64 z] wr fun e w' => e = .returned (.string (txt (Lib.itoa z))) ∧ (w'.cell? ⟨M, k, none⟩ = some (.string ⟨#[]⟩) ∧ w'.frozen? ⟨M, k, none⟩ = false) ∧ Hid (SpInv w (w'.setCell ⟨M, k, none⟩ (.string (txt (Lib.itoa z)))) M n l (k + 1))) := hide (by
        refine (itoa_any z wr hzi (HP.out.below hI.old)).mono ?_
        rintro e w' ⟨he, hB⟩
        have hI' := hI.below hB
        refine ⟨he, ⟨?_, hI'.row.frozen k⟩, hide ?_⟩
        · rw [hI'.row.cell hlt]; unfold spRow; rw [if_neg (by omega)]
        · have := hI'.put (by rw [hM.out]; exact Nat.le_refl _)
          rw [hz.out] at this
          exact this)
      clear hI hzi hr
      go_wp2_with (go_at_call 91; refine HC.out.mono ?_; rintro e w1 ⟨rfl, ⟨g0, g1⟩, HG⟩)
      go_roundw
      case rel => exact ⟨k + 1, by omega, by go_num, HG.out⟩
      case measure => simp [intOf]; omega
    · have ek : k = n := by omega
      subst ek
      have hxs : ∀ (j : Nat) x, (l.map fun z => txt (Lib.itoa z))[j]? = some x → wr.cell? ⟨M, 0 + j, none⟩ = some (.string x) := fun j x hx => by
        rw [List.getElem?_map] at hx
        obtain ⟨z, hz1, rfl⟩ := Option.map_eq_some_iff.1 hx
        have hj := (List.getElem?_eq_some_iff.1 hz1).1
        rw [Nat.zero_add, hI.row.cell (by omega)]
        unfold spRow
        rw [if_pos (by omega), hz1]; rfl
      have hjl : Lib.join ((l.map fun z => txt (Lib.itoa z)).map (·.data.toList)) [32] = spF l := by
        unfold spF
        rw [List.map_map]
        rfl
      have HJ : Hid (Calls Tryz.prog 186 #[.slice (some ⟨M, 0, none⟩) k k, .string ⟨#[32]⟩] wr fun e w' => e = .returned (.string (txt (spF l))) ∧ Below wr.heap.size wr w') := hide (by
        have hlm : (l.map fun z => txt (Lib.itoa z)).length = k := by rw [List.length_map]; exact h1
        have hj := Tryz.strings_Join M 0 k (l.map fun z => txt (Lib.itoa z)) ⟨#[32]⟩ wr hxs hI.row.lt (by omega) (by omega) (by
          show (Lib.join _ [32]).length ≤ _
          rw [hjl]
          have := join_few l HL.out
          omega)
        rw [hlm] at hj
        show Calls _ _ _ _ fun e w' => e = .returned (.string (txt (spF l))) ∧ _
        rw [← hjl]
        exact hj)
      have HO := hide hI.old
      clear hI hxs hjl
      go_wp2_with (go_at_call 186; refine HJ.out.mono ?_; rintro e w1 ⟨rfl, hB1⟩)
      go_ret
      exact ⟨rfl, HO.out.trans (hB1.mono HO.out.size)⟩
end Go.Proofs.YtaablbmgagiajabGreatDoor
