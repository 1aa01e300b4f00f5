import Derived.Laws.BytesArg
import Derived.Laws.Strings
import Derived.Deep.AppendLies
import Derived.Deep.RegionHeld3
import Derived.Test.YtaablbmgagiajaaGreatDoorRGAD
namespace Go.Proofs.YtaablbmgagiajaaGreatDoor
open Go.RowKit Go.Deep
def strN (l : List Nat) : ByteArray := strOfNums (l.map fun (c : Nat) => (c : Int))
theorem strN_toList (l : List Nat) : (strN l).toList = l.map UInt8.ofNat := by
  unfold strN
  rw [ByteArray.toList_eq, strOfNums_data, List.map_map]
  apply List.map_congr_left
  intro c _
  simp
theorem map_u8_inj : ∀ (l m : List Nat), (∀ c ∈ l, c < 256) → (∀ c ∈ m, c < 256) → l.map UInt8.ofNat = m.map UInt8.ofNat → l = m
  | [], [], _, _, _ => rfl
  | [], _ :: _, _, _, h => by simp at h
  | _ :: _, [], _, _, h => by simp at h
  | a :: l, b :: m, hl, hm, h => by
    simp only [List.map_cons, List.cons.injEq] at h
    have e : a = b := by
      have h1 := congrArg UInt8.toNat h.1
      have ha := hl a (by simp)
      have hb := hm b (by simp)
      simp only [UInt8.toNat_ofNat'] at h1
      omega
    rw [e, map_u8_inj l m (fun c hc => hl c (by simp [hc])) (fun c hc => hm c (by simp [hc])) h.2]
theorem strN_eq (l m : List Nat) (hl : ∀ c ∈ l, c < 256) (hm : ∀ c ∈ m, c < 256) : ((strN l).toList == (strN m).toList) = decide (l = m) := by
  rw [strN_toList, strN_toList, Bool.eq_iff_iff, beq_iff_eq, decide_eq_true_iff]
  exact ⟨map_u8_inj l m hl hm, fun h => by rw [h]⟩
theorem conv_any {w : World} {a : Option Addr} {len cap : Nat} {l : List Nat} (h : IsB w a len cap l) : (convert 36 9 (.slice a len cap)).run Tryz.prog w = .ok (.string (strN l)) w := by
  obtain ⟨h1, h2, h3, h4⟩ := h
  rcases h4 with h4 | ⟨b, off, rfl, hb, hr⟩
  · subst h4
    have h0 : len = 0 := by simpa using h1.symm
    subst h0
    cases a with
    | none => exact run_convert_bytes_nil w 36 5 Tryz.underlying36 Tryz.underlying5 _ _ 9 Tryz.underlying9
    | some a =>
      rw [run_convert_bytes_string w 36 9 5 _ 0 cap Tryz.underlying36 Tryz.underlying5 Tryz.underlying9]
      rw [run_bytesToString w a 0 cap [] (by simpa using run_loadCells_list (P := Tryz.prog) w a [] (by simp))]
      rfl
  · refine run_convert_bytes_arg w 36 5 Tryz.underlying36 Tryz.underlying5 b off len cap _ (by simpa using h1) (fun i hi => ?_) 9 Tryz.underlying9
    rw [hr i (by omega)]
    simp [List.getD, show i < l.length by omega]
set_option maxHeartbeats 1000000 in
theorem equal_any (a1 a2 : Option Addr) (n1 n2 c1 c2 : Nat) (l m : List Nat) (w : World) (h1 : IsB w a1 n1 c1 l) (h2 : IsB w a2 n2 c2 m) :
    Calls Tryz.prog 79 #[.slice a1 n1 c1, .slice a2 n2 c2] w fun e w' => e = .returned (.bool (decide (l = m))) ∧ w' = w := by
  have q1 := conv_any h1
  have q2 := conv_any h2
  have HE := hide (strN_eq l m h1.2.2.1 h2.2.2.1)
  clear h1 h2
  go_enter Tryz.func79, Tryz.ntmps79
  go_wp2
  go_ret
  exact ⟨ret_bool (by rw [HE.out]), rfl⟩
def num3 (l : List Nat) (i : Nat) : Nat := l[3 * i]?.getD 0 * 65536 + l[3 * i + 1]?.getD 0 * 256 + l[3 * i + 2]?.getD 0
def readN (l : List Nat) (k : Nat) : List Int := (List.range k).map fun i => ((num3 l i : Nat) : Int)
theorem readN_succ (l : List Nat) (k : Nat) : readN l (k + 1) = readN l k ++ [((num3 l k : Nat) : Int)] := by simp [readN, List.range_succ]
theorem readN_length (l : List Nat) (k : Nat) : (readN l k).length = k := by simp [readN]
def readF (l : List Nat) : List Int := readN l (l.length / 3)
theorem or_low (a b i : Nat) (h : b < 2 ^ i) : a * 2 ^ i ||| b = a * 2 ^ i + b := by
  have := Nat.shiftLeft_add_eq_or_of_lt h a
  rw [Nat.shiftLeft_eq] at this
  exact this.symm
theorem or3 (a b c : Nat) (ha : a < 256) (hb : b < 256) (hc : c < 256) : bits .or .i64 (bits .or .i64 ((a : Int) * 65536) ((b : Int) * 256)) (c : Int) = ((a * 65536 + b * 256 + c : Nat) : Int) := by
  have e1 : (a : Int) * 65536 = ((a * 65536 : Nat) : Int) := by omega
  have e2 : (b : Int) * 256 = ((b * 256 : Nat) : Int) := by omega
  have p16 : (2 : Nat) ^ 16 = 65536 := by decide
  have p8 : (2 : Nat) ^ 8 = 256 := by decide
  have o1 := or_low a (b * 256) 16 (by rw [p16]; omega)
  have o2 := or_low (a * 256 + b) c 8 (by rw [p8]; omega)
  rw [p16] at o1
  rw [p8, show (a * 256 + b) * 256 = a * 65536 + b * 256 by omega] at o2
  rw [e1, e2, or_nat (a * 65536) (b * 256) (by omega) (by omega), o1, or_nat (a * 65536 + b * 256) c (by omega) (by omega), o2]
structure RInv (w wr : World) (v : Value) (l : List Int) : Prop where
  old : Below w.heap.size w wr
  own : wr.ownsRow w.heap.size 3 1 v l.length (ints l)
theorem RInv.put {w wr w3 : World} {v v' : Value} {l ms : List Int} {m : Nat} {p : Obj} (h : RInv w wr v l) (hm : ms.length = m)
    (hown : w3.ownsRow w.heap.size 3 1 v' (l.length + m) (ints l ++ ints ms)) (hg : (wr.alloc p).grownBy w3 v.ownBlock) : RInv w w3 v' (l ++ ms) := by
  have hb2 : Below wr.heap.size wr (wr.alloc p) := (Below.refl _ _).alloc (Nat.le_refl _) _
  have hs := h.old.size
  refine ⟨(h.old.trans (hb2.mono hs)).grown hg (by simp; omega) (fun k hk => by have := (h.own.lt k hk).1; omega), ?_⟩
  rw [List.length_append, hm]
  simpa [ints] using hown
set_option maxHeartbeats 4000000 in
set_option maxRecDepth 100000 in
theorem read_any (b off len cap : Nat) (l : List Nat) (w : World) (h3 : 3 ≤ len) (hl : len ≤ 100) (hcap : len + 4 ≤ cap) (h : IsB w (some ⟨b, off, none⟩) len cap l) :
    Calls Tryz.prog 81 #[.slice (some ⟨b, off, none⟩) len cap] w fun e w' => (∃ v, e = .returned v ∧ IsNums w w' (readF l) v) ∧ Below w.heap.size w w' := by
  have HX := hide h
  have hlen := h.1
  have hbw : b < w.heap.size := by
    obtain ⟨b', o', _, e', hb', _⟩ := h.at (k := 0) (by omega)
    have : b = b' := by simp at e'; exact e'.1
    omega
  clear h
  obtain ⟨i0, hi, hz0, hz1, hz2⟩ := info_parts infoIntF
  have HI := hide hi
  have HZ0 := hide hz0
  have HZ1 := hide hz1
  have HZ2 := hide hz2
  clear hi hz0 hz1 hz2
  go_enter Tryz.func81, Tryz.ntmps81
  go_wp2
  go_loopw [0, 3] (fun s v wr => ∃ k : Nat, 3 * k ≤ len ∧ s = .slice (some ⟨b, off + 3 * k, none⟩) (len - 3 * k) (cap - 3 * k) ∧ RInv w wr v (readN l k)) (fun s _ _ => match s with | .slice _ n _ => n | _ => 0)
  case atStart => exact ⟨0, by omega, rfl, Below.refl _ _, World.ownsRow_nil _ _ _ _⟩
  case round =>
    obtain ⟨k, hk, rfl, hI⟩ := hrel
    obtain ⟨o, ho⟩ : ∃ o, Hid (off + 3 * k = o) := ⟨_, hide rfl⟩
    obtain ⟨n, hn⟩ : ∃ n, Hid (len - 3 * k = n) := ⟨_, hide rfl⟩
    obtain ⟨c, hc⟩ : ∃ c, Hid (cap - 3 * k = c) := ⟨_, hide rfl⟩
    have hnc : n + 4 ≤ c := by have := hn.out; have := hc.out; omega
    have hn1 : n ≤ 100 := by have := hn.out; omega
    rw [ho.out, hn.out, hc.out]
    by_cases h3n : 3 ≤ n
    · obtain ⟨_, _, x0, e0, hb0, hx0, hxx0, hc0⟩ := (HX.out.below (w := w) (wx := wr) hI.old).at (k := 3 * k) (by have := hn.out; omega)
      obtain ⟨_, _, x1, e1, hb1, hx1, hxx1, hc1⟩ := (HX.out.below (w := w) (wx := wr) hI.old).at (k := 3 * k + 1) (by have := hn.out; omega)
      obtain ⟨_, _, x2, e2, hb2, hx2, hxx2, hc2⟩ := (HX.out.below (w := w) (wx := wr) hI.old).at (k := 3 * k + 2) (by have := hn.out; omega)
      obtain ⟨rfl, rfl⟩ : b = _ ∧ off = _ := by simpa using e0
      obtain ⟨rfl, rfl⟩ : b = _ ∧ off = _ := by simpa using e1
      obtain ⟨rfl, rfl⟩ : b = _ ∧ off = _ := by simpa using e2
      rw [← Nat.add_assoc, ho.out] at hc1 hc2
      rw [ho.out] at hc0
      clear e0 e1 e2 hb1 hb2
      have hor := or3 x0 x1 x2 hx0 hx1 hx2
      obtain ⟨y, hy⟩ : ∃ y, Hid (x0 * 65536 + x1 * 256 + x2 = y) := ⟨_, hide rfl⟩
      rw [hy.out] at hor
      have d0 : (0 : Int) < (n : Int) := by omega
      have d1 : (1 : Int) < (n : Int) := by omega
      have d2 : (2 : Int) < (n : Int) := by omega
      have r0 : IntKind.i64.wrap (x0 : Int) = x0 := wrap_small x0 (by omega)
      have r1 : IntKind.i64.wrap (x1 : Int) = x1 := wrap_small x1 (by omega)
      have r2 : IntKind.i64.wrap (x2 : Int) = x2 := wrap_small x2 (by omega)
      have r3 : IntKind.i64.wrap ((x0 : Int) * 65536) = (x0 : Int) * 65536 := by have := wrap_small (x0 * 65536) (by omega); rwa [Int.natCast_mul] at this
      have r4 : IntKind.i64.wrap ((x1 : Int) * 256) = (x1 : Int) * 256 := by have := wrap_small (x1 * 256) (by omega); rwa [Int.natCast_mul] at this
      have d00 : 0 < n := by omega
      have hown0 := hI.own
      rw [readN_length] at hown0
      have HOWN := hide hown0
      have hne : some b ≠ u3.ownBlock := fun e => by have := (hown0.lt b e.symm).1; omega
      have HK1 : Hid (k + 1 ≤ maxLen) := by rw [Hid]; unfold maxLen; omega
      have HK2 : Hid ((k + 1) * 8 ≤ 140737488355328) := by rw [Hid]; omega
      have hs1 := hI.old.size
      have HK3 : Hid (w.heap.size ≤ (wr.alloc (.cells #[.int .i64 (y : Int)] 3)).drew.heap.size) := by rw [Hid]; simp; omega
      clear hown0
      go_wp2_with fail
      go_region_held3 (fun w' => w'.cell? ⟨b, o, none⟩ = some (.int .u8 (x0 : Int)) ∧ w'.cell? ⟨b, o + 1, none⟩ = some (.int .u8 (x1 : Int)) ∧ w'.cell? ⟨b, o + 2, none⟩ = some (.int .u8 (x2 : Int)))
        (first
          | go_keep
          | (go_split_ands
             refine ⟨?_, ?_, ?_⟩
             · (rw [hgrow.cell_far _ (by simp; omega) hne]; assumption)
             · (rw [hgrow.cell_far _ (by simp; omega) hne]; assumption)
             · (rw [hgrow.cell_far _ (by simp; omega) hne]; assumption)))
        ((refine step_append_lies _ (by rfl) _ _ _ (by rfl) w.heap.size 3 i0 _ 1 8 Tryz.underlying22 HI.out HZ0.out HZ1.out HZ2.out rfl (by omega) u3 k (ints (readN l k)) (by rfl) ((HOWN.out.alloc _).drew)
            ⟨wr.heap.size, 0, none⟩ 1 1 (ints [(y : Int)]) (by rfl) (by rfl) (World.news_of_block (cs := #[.int .i64 (y : Int)]) (t := 3) (fr := (0, 0)) (heap_alloc_new wr _)) (ints_one _)
            (by omega) HK1.out HK2.out HK3.out (wr.heap.size + 1) (by simp) ?_; intro gg cap' w1 hown1 hgrow hat hlt))
      have R := RInv.put hI (ms := [(y : Int)]) rfl (by rw [readN_length]; exact hown1) (show (wr.alloc (.cells #[.int .i64 (y : Int)] 3)).grownBy w1 u3.ownBlock from ⟨hgrow.os, hgrow.tape, hgrow.output, hgrow.size, hgrow.block⟩)
      have hnum : num3 l k = y := by unfold num3; rw [hxx0.out, hxx1.out, hxx2.out, hy.out]
      have HR := hide R
      have HNUM := hide hnum
      clear R hnum hgrow hown1 hat hlt hc0 hc1 hc2 hor r0 r1 r2 r3 r4 HOWN HK1 HK2 HK3
      have hc3 : ¬ c = 3 := by omega
      go_wp2
      go_roundw
      case rel =>
        refine ⟨k + 1, by have := hn.out; omega, ?_, by rw [readN_succ, HNUM.out]; exact HR.out⟩
        have := hn.out
        have := hc.out
        have := ho.out
        rw [show off + 3 * (k + 1) = o + 3 by omega, show len - 3 * (k + 1) = n - 3 by omega, show cap - 3 * (k + 1) = c - 3 by omega]
      case measure => show n - 3 < n; omega
    · have hkk : k = l.length / 3 := by have := hn.out; omega
      have HD := hide hI
      clear hI
      have hne : readN l k ≠ [] := by
        intro e
        have := congrArg List.length e
        rw [readN_length] at this
        simp at this
        omega
      have HF : Hid (readF l = readN l k) := by rw [Hid, readF, ← hkk]
      have HD2 : Hid (IsNums w wr (readN l k) u3) := by
        have ho := HD.out.own
        obtain ⟨_, ho2⟩ := HD.out.own
        rcases ho2 with ⟨_, h0⟩ | ⟨g, cp, cur, rfl, hg, hh, hcc, hm, hsz, ht⟩
        · exact absurd (List.length_eq_zero_iff.1 h0) hne
        · refine ⟨g, cp, rfl, hg, blk_lt hh, hcc, fun k hk => ?_⟩
          rw [Nat.zero_add, ho.cellAt k (by omega)]
          simp [ints, hk]
      clear hne hkk
      go_wp2
      go_ret
      exact ⟨⟨_, rfl, by rw [HF.out]; exact HD2.out⟩, HD.out.old⟩
end Go.Proofs.YtaablbmgagiajaaGreatDoor
