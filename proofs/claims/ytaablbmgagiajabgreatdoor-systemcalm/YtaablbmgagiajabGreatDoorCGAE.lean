import Derived.Laws.BytesArg
import Derived.Laws.Strings
import Derived.Deep.AppendLies
import Derived.Deep.RegionHeld3
import Derived.Test.YtaablbmgagiajabGreatDoorCGAD
namespace Go.Proofs.YtaablbmgagiajabGreatDoor
open Go.RowKit Go.Deep
def strN (l : List Nat) : ByteArray := strOfNums (l.map fun (c : Nat) => (c : Int))
theorem strN_toList (l : List Nat) : (strN l).toList = l.map UInt8.ofNat := by
  unfold strN
  rw [ByteArray.toList_eq, strOfNums_data, List.map_map]
  apply List.map_congr_left
  intro c _
  simp
theorem map_u8_inj : ∀ (l m : List Nat), (∀ c ∈ l, c < 256) → (∀ c ∈ m, c < 256) → l.map UInt8.ofNat = m.map UInt8.ofNat → l = m
  | [], [], _, _, _ => rfl
  | [], _ :: _, _, _, h => by simp at h
  | _ :: _, [], _, _, h => by simp at h
  | a :: l, b :: m, hl, hm, h => by
    simp only [List.map_cons, List.cons.injEq] at h
    have e : a = b := by
      have h1 := congrArg UInt8.toNat h.1
      have ha := hl a (by simp)
      have hb := hm b (by simp)
      simp only [UInt8.toNat_ofNat'] at h1
      omega
    rw [e, map_u8_inj l m (fun c hc => hl c (by simp [hc])) (fun c hc => hm c (by simp [hc])) h.2]
theorem strN_eq (l m : List Nat) (hl : ∀ c ∈ l, c < 256) (hm : ∀ c ∈ m, c < 256) : ((strN l).toList == (strN m).toList) = decide (l = m) := by
  rw [strN_toList, strN_toList, Bool.eq_iff_iff, beq_iff_eq, decide_eq_true_iff]
  exact ⟨map_u8_inj l m hl hm, fun h => by rw [h]⟩
theorem conv_any {w : World} {a : Option Addr} {len cap : Nat} {l : List Nat} (h : IsB w a len cap l) : (convert 37 9 (.slice a len cap)).run Tryz.prog w = .ok (.string (strN l)) w := by
  obtain ⟨h1, h2, h3, h4⟩ := h
  rcases h4 with h4 | ⟨b, off, rfl, hb, hr⟩
  · subst h4
    have h0 : len = 0 := by simpa using h1.symm
    subst h0
    cases a with
    | none => exact run_convert_bytes_nil w 37 5 Tryz.underlying37 Tryz.underlying5 _ _ 9 Tryz.underlying9
    | some a =>
      rw [run_convert_bytes_string w 37 9 5 _ 0 cap Tryz.underlying37 Tryz.underlying5 Tryz.underlying9]
      rw [run_bytesToString w a 0 cap [] (by simpa using run_loadCells_list (P := Tryz.prog) w a [] (by simp))]
      rfl
  · refine run_convert_bytes_arg w 37 5 Tryz.underlying37 Tryz.underlying5 b off len cap _ (by simpa using h1) (fun i hi => ?_) 9 Tryz.underlying9
    rw [hr i (by omega)]
    simp [List.getD, show i < l.length by omega]
set_option maxHeartbeats 1000000 in
theorem equal_any (a1 a2 : Option Addr) (n1 n2 c1 c2 : Nat) (l m : List Nat) (w : World) (h1 : IsB w a1 n1 c1 l) (h2 : IsB w a2 n2 c2 m) :
    Calls Tryz.prog 130 #[.slice a1 n1 c1, .slice a2 n2 c2] w fun e w' => e = .returned (.bool (decide (l = m))) ∧ w' = w := by
  have q1 := conv_any h1
  have q2 := conv_any h2
  have HE := hide (strN_eq l m h1.2.2.1 h2.2.2.1)
  clear h1 h2
  go_enter Tryz.func130, Tryz.ntmps130
  go_wp2
  go_ret
  exact ⟨ret_bool (by rw [HE.out]), rfl⟩
def num3 (l : List Nat) (i : Nat) : Nat := l[3 * i]?.getD 0 * 65536 + l[3 * i + 1]?.getD 0 * 256 + l[3 * i + 2]?.getD 0
def readN (l : List Nat) (k : Nat) : List Int := (List.range k).map fun i => ((num3 l i : Nat) : Int)
theorem readN_succ (l : List Nat) (k : Nat) : readN l (k + 1) = readN l k ++ [((num3 l k : Nat) : Int)] := by simp [readN, List.range_succ]
theorem readN_length (l : List Nat) (k : Nat) : (readN l k).length = k := by simp [readN]
def readF (l : List Nat) : List Int := readN l (l.length / 3)
theorem or_low (a b i : Nat) (h : b < 2 ^ i) : a * 2 ^ i ||| b = a * 2 ^ i + b := by
  have := Nat.shiftLeft_add_eq_or_of_lt h a
  rw [Nat.shiftLeft_eq] at this
  exact this.symm
theorem or3 (a b c : Nat) (ha : a < 256) (hb : b < 256) (hc : c < 256) : bits .or .i64 (bits .or .i64 ((a : Int) * 65536) ((b : Int) * 256)) (c : Int) = ((a * 65536 + b * 256 + c : Nat) : Int) := by
  have e1 : (a : Int) * 65536 = ((a * 65536 : Nat) : Int) := by omega
  have e2 : (b : Int) * 256 = ((b * 256 : Nat) : Int) := by omega
  have p16 : (2 : Nat) ^ 16 = 65536 := by decide
  have p8 : (2 : Nat) ^ 8 = 256 := by decide
  have o1 := or_low a (b * 256) 16 (by rw [p16]; omega)
  have o2 := or_low (a * 256 + b) c 8 (by rw [p8]; omega)
  rw [p16] at o1
  rw [p8, show (a * 256 + b) * 256 = a * 65536 + b * 256 by omega] at o2
  rw [e1, e2, or_nat (a * 65536) (b * 256) (by omega) (by omega), o1, or_nat (a * 65536 + b * 256) c (by omega) (by omega), o2]
structure RInv (w wr : World) (v : Value) (l : List Int) : Prop where
  old : Below w.heap.size w wr
  own : wr.ownsRow w.heap.size 3 1 v l.length (ints l)
theorem RInv.put {w wr w3 : World} {v v' : Value} {l ms : List Int} {m : Nat} {p : Obj} (h : RInv w wr v l) (hm : ms.length = m)
    (hown : w3.ownsRow w.heap.size 3 1 v' (l.length + m) (ints l ++ ints ms)) (hg : (wr.alloc p).grownBy w3 v.ownBlock) : RInv w w3 v' (l ++ ms) := by
  have hb2 : Below wr.heap.size wr (wr.alloc p) := (Below.refl _ _).alloc (Nat.le_refl _) _
  have hs := h.old.size
  refine ⟨(h.old.trans (hb2.mono hs)).grown hg (by simp; omega) (fun k hk => by have := (h.own.lt k hk).1; omega), ?_⟩
  rw [List.length_append, hm]
  simpa [ints] using hown
theorem RInv.drewN {w wr : World} {v : Value} {l : List Int} (h : RInv w wr v l) (n : Nat) : RInv w (wr.drewN n) v l := ⟨below_drewN h.old n, h.own⟩
theorem RInv.drew {w wr : World} {v : Value} {l : List Int} (h : RInv w wr v l) : RInv w wr.drew v l := ⟨h.old.drew, h.own⟩
set_option maxHeartbeats 4000000 in
set_option maxRecDepth 100000 in
theorem read_any (b off len cap : Nat) (l : List Nat) (w : World) (h3 : 3 ≤ len) (hl : len ≤ 100) (hcap : len + 4 ≤ cap) (h : IsB w (some ⟨b, off, none⟩) len cap l) :
    Calls Tryz.prog 132 #[.slice (some ⟨b, off, none⟩) len cap] w fun e w' => (∃ v, e = .returned v ∧ IsNums w w' (readF l) v) ∧ Below w.heap.size w w' := by
  have HX := hide h
  have hlen := h.1
  have hbw : b < w.heap.size := by
    obtain ⟨b', o', _, e', hb', _⟩ := h.at (k := 0) (by omega)
    have : b = b' := by simp at e'; exact e'.1
    omega
  clear h
  obtain ⟨i0, hi, hz0, hz1, hz2⟩ := info_parts infoIntF
  have HI := hide hi
  have HZ0 := hide hz0
  have HZ1 := hide hz1
  have HZ2 := hide hz2
  clear hi hz0 hz1 hz2
  go_enter Tryz.func132, Tryz.ntmps132
  go_wp2
  go_loopw [0, 3] (fun s v wr => ∃ k : Nat, 3 * k ≤ len ∧ s = .slice (some ⟨b, off + 3 * k, none⟩) (len - 3 * k) (cap - 3 * k) ∧ RInv w wr v (readN l k)) (fun s _ _ => match s with | .slice _ n _ => n | _ => 0)
  case atStart => exact ⟨0, by omega, rfl, Below.refl _ _, World.ownsRow_nil _ _ _ _⟩
  case round =>
    obtain ⟨k, hk, rfl, hI⟩ := hrel
    obtain ⟨o, ho⟩ : ∃ o, Hid (off + 3 * k = o) := ⟨_, hide rfl⟩
    obtain ⟨n, hn⟩ : ∃ n, Hid (len - 3 * k = n) := ⟨_, hide rfl⟩
    obtain ⟨c, hc⟩ : ∃ c, Hid (cap - 3 * k = c) := ⟨_, hide rfl⟩
    have hnc : n + 4 ≤ c := by have := hn.out; have := hc.out; omega
    have hn1 : n ≤ 100 := by have := hn.out; omega
    rw [ho.out, hn.out, hc.out]
    by_cases h3n : 3 ≤ n
    · obtain ⟨_, _, x0, e0, hb0, hx0, hxx0, hc0⟩ := (HX.out.below (w := w) (wx := wr) hI.old).at (k := 3 * k) (by have := hn.out; omega)
      obtain ⟨_, _, x1, e1, hb1, hx1, hxx1, hc1⟩ := (HX.out.below (w := w) (wx := wr) hI.old).at (k := 3 * k + 1) (by have := hn.out; omega)
      obtain ⟨_, _, x2, e2, hb2, hx2, hxx2, hc2⟩ := (HX.out.below (w := w) (wx := wr) hI.old).at (k := 3 * k + 2) (by have := hn.out; omega)
      obtain ⟨rfl, rfl⟩ : b = _ ∧ off = _ := by simpa using e0
      obtain ⟨rfl, rfl⟩ : b = _ ∧ off = _ := by simpa using e1
      obtain ⟨rfl, rfl⟩ : b = _ ∧ off = _ := by simpa using e2
      rw [← Nat.add_assoc, ho.out] at hc1 hc2
      rw [ho.out] at hc0
      clear e0 e1 e2 hb1 hb2
      have hor := or3 x0 x1 x2 hx0 hx1 hx2
      obtain ⟨y, hy⟩ : ∃ y, Hid (x0 * 65536 + x1 * 256 + x2 = y) := ⟨_, hide rfl⟩
      rw [hy.out] at hor
      have d0 : (0 : Int) < (n : Int) := by omega
      have d1 : (1 : Int) < (n : Int) := by omega
      have d2 : (2 : Int) < (n : Int) := by omega
      have r0 : IntKind.i64.wrap (x0 : Int) = x0 := wrap_small x0 (by omega)
      have r1 : IntKind.i64.wrap (x1 : Int) = x1 := wrap_small x1 (by omega)
      have r2 : IntKind.i64.wrap (x2 : Int) = x2 := wrap_small x2 (by omega)
      have r3 : IntKind.i64.wrap ((x0 : Int) * 65536) = (x0 : Int) * 65536 := by have := wrap_small (x0 * 65536) (by omega); rwa [Int.natCast_mul] at this
      have r4 : IntKind.i64.wrap ((x1 : Int) * 256) = (x1 : Int) * 256 := by have := wrap_small (x1 * 256) (by omega); rwa [Int.natCast_mul] at this
      have d00 : 0 < n := by omega
      have hown0 := hI.own
      rw [readN_length] at hown0
      have HOWN := hide hown0
      have hne : some b ≠ u3.ownBlock := fun e => by have := (hown0.lt b e.symm).1; omega
      have HK1 : Hid (k + 1 ≤ maxLen) := by rw [Hid]; unfold maxLen; omega
      have HK2 : Hid ((k + 1) * 8 ≤ 140737488355328) := by rw [Hid]; omega
      have hs1 := hI.old.size
      have HK3 : Hid (w.heap.size ≤ (wr.alloc (.cells #[.int .i64 (y : Int)] 3)).drew.heap.size) := by rw [Hid]; simp; omega
      clear hown0
      go_wp2_with fail
      go_region_held3 (fun w' => w'.cell? ⟨b, o, none⟩ = some (.int .u8 (x0 : Int)) ∧ w'.cell? ⟨b, o + 1, none⟩ = some (.int .u8 (x1 : Int)) ∧ w'.cell? ⟨b, o + 2, none⟩ = some (.int .u8 (x2 : Int)))
        (first
          | go_keep
          | (go_split_ands
             refine ⟨?_, ?_, ?_⟩
             · (rw [hgrow.cell_far _ (by simp; omega) hne]; assumption)
             · (rw [hgrow.cell_far _ (by simp; omega) hne]; assumption)
             · (rw [hgrow.cell_far _ (by simp; omega) hne]; assumption)))
        ((refine step_append_lies _ (by rfl) _ _ _ (by rfl) w.heap.size 3 i0 _ 1 8 Tryz.underlying22 HI.out HZ0.out HZ1.out HZ2.out rfl (by omega) u3 k (ints (readN l k)) (by rfl) ((HOWN.out.alloc _).drew)
            ⟨wr.heap.size, 0, none⟩ 1 1 (ints [(y : Int)]) (by rfl) (by rfl) (World.news_of_block (cs := #[.int .i64 (y : Int)]) (t := 3) (fr := (0, 0)) (heap_alloc_new wr _)) (ints_one _)
            (by omega) HK1.out HK2.out HK3.out (wr.heap.size + 1) (by simp) ?_; intro gg cap' w1 hown1 hgrow hat hlt))
      have R := RInv.put hI (ms := [(y : Int)]) rfl (by rw [readN_length]; exact hown1) (show (wr.alloc (.cells #[.int .i64 (y : Int)] 3)).grownBy w1 u3.ownBlock from ⟨hgrow.os, hgrow.tape, hgrow.output, hgrow.size, hgrow.block⟩)
      have hnum : num3 l k = y := by unfold num3; rw [hxx0.out, hxx1.out, hxx2.out, hy.out]
      have HR := hide R
      have HNUM := hide hnum
      clear R hnum hgrow hown1 hat hlt hc0 hc1 hc2 hor r0 r1 r2 r3 r4 HOWN HK1 HK2 HK3
      have hc3 : ¬ c = 3 := by omega
      go_wp2
      go_roundw
      case rel =>
        refine ⟨k + 1, by have := hn.out; omega, ?_, by rw [readN_succ, HNUM.out]; exact HR.out⟩
        have := hn.out
        have := hc.out
        have := ho.out
        rw [show off + 3 * (k + 1) = o + 3 by omega, show len - 3 * (k + 1) = n - 3 by omega, show cap - 3 * (k + 1) = c - 3 by omega]
      case measure => show n - 3 < n; omega
    · have hkk : k = l.length / 3 := by have := hn.out; omega
      have HD := hide hI
      clear hI
      have hne : readN l k ≠ [] := by
        intro e
        have := congrArg List.length e
        rw [readN_length] at this
        simp at this
        omega
      have HF : Hid (readF l = readN l k) := by rw [Hid, readF, ← hkk]
      have HD2 : Hid (IsNums w wr (readN l k) u3) := by
        have ho := HD.out.own
        obtain ⟨_, ho2⟩ := HD.out.own
        rcases ho2 with ⟨_, h0⟩ | ⟨g, cp, cur, rfl, hg, hh, hcc, hm, hsz, ht⟩
        · exact absurd (List.length_eq_zero_iff.1 h0) hne
        · refine ⟨g, cp, rfl, hg, blk_lt hh, hcc, fun k hk => ?_⟩
          rw [Nat.zero_add, ho.cellAt k (by omega)]
          simp [ints, hk]
      clear hne hkk
      go_wp2
      go_ret
      exact ⟨⟨_, rfl, by rw [HF.out]; exact HD2.out⟩, HD.out.old⟩
end Go.Proofs.YtaablbmgagiajabGreatDoor
namespace Go.Proofs.YtaablbmgagiajabGreatDoor
open Go.RowKit Go.Deep
def toldN (l : List Nat) : List Nat := l.take (l.length - 4)
def lastN (l : List Nat) : List Nat := l.drop (l.length - 4)
def decF (l : List Nat) : Nat × FR :=
  if l.length < 7 ∨ 80 < l.length then (3, fr0)
  else if b4 (crc (toldN l)).toNat = lastN l then
    (if mayB (framedF (readF (toldN l))) = true ∧ encF (framedF (readF (toldN l))) = l then (0, framedF (readF (toldN l))) else (3, fr0))
  else (15, fr0)
def errV (e : Nat) : Value := if e = 0 then .nilIface else .iface 74 (.int .i64 (e : Int))
theorem dec_form {l : List Nat} (h : l.length < 7 ∨ 80 < l.length) : decF l = (3, fr0) := by unfold decF; rw [if_pos h]
theorem dec_spoilt {l : List Nat} (h1 : 7 ≤ l.length) (h2 : l.length ≤ 80) (h : ¬ b4 (crc (toldN l)).toNat = lastN l) : decF l = (15, fr0) := by unfold decF; rw [if_neg (by omega), if_neg h]
theorem dec_not {l : List Nat} (h1 : 7 ≤ l.length) (h2 : l.length ≤ 80) (h : b4 (crc (toldN l)).toNat = lastN l) (hn : ¬ (mayB (framedF (readF (toldN l))) = true ∧ encF (framedF (readF (toldN l))) = l)) : decF l = (3, fr0) := by unfold decF; rw [if_neg (by omega), if_pos h, if_neg hn]
theorem dec_ok {l : List Nat} (h1 : 7 ≤ l.length) (h2 : l.length ≤ 80) (h : b4 (crc (toldN l)).toNat = lastN l) (hn : mayB (framedF (readF (toldN l))) = true ∧ encF (framedF (readF (toldN l))) = l) : decF l = (0, framedF (readF (toldN l))) := by unfold decF; rw [if_neg (by omega), if_pos h, if_pos hn]
theorem IsB.row {w : World} {a : Option Addr} {len cap : Nat} {l : List Nat} (h : IsB w a len cap l) (h0 : 0 < len) : ∃ b off, a = some ⟨b, off, none⟩ ∧ b < w.heap.size ∧ BRow w b off l := by
  obtain ⟨h1, _, _, h4⟩ := h
  rcases h4 with h4 | h4
  · subst h4; simp at h1; omega
  · exact h4
theorem told_isB {w : World} {b off len cap m : Nat} {l : List Nat} (h : IsB w (some ⟨b, off, none⟩) len cap l) (h0 : 4 ≤ len) (hm : m + 4 = len) : IsB w (some ⟨b, off, none⟩) m cap (toldN l) := by
  obtain ⟨b', off', e, hb, hr⟩ := h.row (by omega)
  obtain ⟨rfl, rfl⟩ : b = b' ∧ off = off' := by simpa using e
  obtain ⟨h1, h2, h3, _⟩ := h
  refine ⟨by unfold toldN; rw [List.length_take]; omega, by omega, fun c hc => h3 c (List.mem_of_mem_take hc), .inr ⟨b, off, rfl, hb, fun k hk => ?_⟩⟩
  unfold toldN at hk ⊢
  rw [List.length_take] at hk
  rw [hr k (by omega), List.getElem?_take, if_pos (by omega)]
theorem last_isB {w : World} {b off len cap m : Nat} {l : List Nat} (h : IsB w (some ⟨b, off, none⟩) len cap l) (h0 : 4 ≤ len) (hm : m + 4 = len) : IsB w (some ⟨b, off + m, none⟩) 4 (cap - m) (lastN l) := by
  obtain ⟨b', off', e, hb, hr⟩ := h.row (by omega)
  obtain ⟨rfl, rfl⟩ : b = b' ∧ off = off' := by simpa using e
  obtain ⟨h1, h2, h3, _⟩ := h
  refine ⟨by unfold lastN; rw [List.length_drop]; omega, by omega, fun c hc => h3 c (List.mem_of_mem_drop hc), .inr ⟨b, off + m, rfl, hb, fun k hk => ?_⟩⟩
  unfold lastN at hk ⊢
  rw [List.length_drop] at hk
  rw [Nat.add_assoc, hr (m + k) (by omega), List.getElem?_drop, show l.length - 4 + k = m + k by omega]
theorem slice_from (b off len cap m : Nat) (hm : m ≤ len) (hc : m < cap) (wx : World) : (Instr.slice 37 (.slice (some ⟨b, off, none⟩) len cap) (some (.int .i64 (m : Int))) none none).run Tryz.prog wx = .ok (.slice (some ⟨b, off + m, none⟩) (len - m) (cap - m)) wx := by
  have ht : Tryz.prog.underlying 37 = some (.slice (Tryz.prog.elem 37)) := by simp [Program.elem, Tryz.underlying37]
  have he : Tryz.prog.elem 37 = 5 := by simp [Program.elem, Tryz.underlying37]
  have hz : (Go.sizeOf 5).run Tryz.prog wx = .ok 1 wx := by kernel_rfl
  rw [run_slice_l wx _ _ _ _ ht .i64 _ (by omega) (by omega), he, hz]
  have hne : ¬ cap = m := by omega
  have ha : (⟨b, off, none⟩ : Addr).add m = ⟨b, off + m, none⟩ := by unfold Addr.add; split <;> simp_all
  simp [Result.andThen, sliced, hne, ha]
theorem sum_isB (w : World) (l : List Nat) (hl : l.length = 4) (hb : ∀ c ∈ l, c < 256) : IsB (w.alloc (.cells (u8s l).toArray 5)) (some ⟨w.heap.size, 0, none⟩) 4 4 l := by
  refine ⟨hl, by omega, hb, .inr ⟨w.heap.size, 0, rfl, by simp, fun k hk => ?_⟩⟩
  rw [Nat.zero_add, blk_cell (blk_new _ _)]
  simp [u8s, hk]
set_option maxHeartbeats 2000000 in
set_option maxRecDepth 20000 in
theorem decode_form (a : Option Addr) (len cap : Nat) (l : List Nat) (w : World) (hlen : l.length = len) (hl : len ≤ 1000) (h : len < 7 ∨ 80 < len) :
    Calls Tryz.prog 79 #[.slice a len cap] w fun e w' => e = .returned (.tuple #[.agg (fCells (decF l).2), errV (decF l).1]) ∧ Below w.heap.size w w' := by
  have HD := hide (dec_form (l := l) (by omega))
  rw [HD.out]
  have hres : FIs (w.alloc (.cells (fCells fr0) 36)) w.heap.size 36 fr0 := blk_new _ _
  have HB := hide ((Below.refl w.heap.size w).alloc (Nat.le_refl _) (.cells (fCells fr0) 36))
  have HRES := hide hres
  clear hres hlen
  by_cases h1 : len < 7
  · clear h
    go_enter Tryz.func79, Tryz.ntmps79
    go_wp2_with (refine wpList_store_fl rfl _ _ rfl w.heap.size fr0 rfl rfl fr0 HRES.out ?_)
    intro w9 HF9
    go_wp2
    refine bodyPost_ret (v := .tuple #[.agg (fCells fr0), errV 3]) ?_ rfl ⟨rfl, HB.out.trans (HF9.out.2.2 _ (Nat.le_refl _))⟩
    exact results_cell2F Tryz.results79 rfl (load_f HF9.out.1)
  · have h2 : 80 < len := by omega
    clear h
    go_enter Tryz.func79, Tryz.ntmps79
    go_wp2_with (refine wpList_store_fl rfl _ _ rfl w.heap.size fr0 rfl rfl fr0 HRES.out ?_)
    intro w9 HF9
    go_wp2
    refine bodyPost_ret (v := .tuple #[.agg (fCells fr0), errV 3]) ?_ rfl ⟨rfl, HB.out.trans (HF9.out.2.2 _ (Nat.le_refl _))⟩
    exact results_cell2F Tryz.results79 rfl (load_f HF9.out.1)
set_option maxHeartbeats 4000000 in
set_option maxRecDepth 20000 in
theorem decode_main (b off len cap : Nat) (l : List Nat) (w : World) (h : IsB w (some ⟨b, off, none⟩) len cap l) (h7 : 7 ≤ len) (h80 : len ≤ 80) :
    Calls Tryz.prog 79 #[.slice (some ⟨b, off, none⟩) len cap] w fun e w' => e = .returned (.tuple #[.agg (fCells (decF l).2), errV (decF l).1]) ∧ Below w.heap.size w w' := by
  obtain ⟨m, hm⟩ : ∃ m, m + 4 = len := ⟨len - 4, by omega⟩
  have hlen := h.1
  have hcl := h.2.1
  have hB0 : Below w.heap.size w (w.alloc (.cells (fCells fr0) 36)) := (Below.refl w.heap.size w).alloc (Nat.le_refl _) _
  have hres : FIs (w.alloc (.cells (fCells fr0) 36)) w.heap.size 36 fr0 := blk_new _ _
  have HX := hide h
  obtain ⟨wA, hwA⟩ : ∃ wA, Hid (w.alloc (.cells (fCells fr0) 36) = wA) := ⟨_, hide rfl⟩
  rw [hwA.out] at hB0 hres
  have hXA := h.below hB0
  have hN : w.heap.size < wA.heap.size := hres.lt
  have HB0 := hide hB0
  have HRES := hide hres
  have HXA := hide hXA
  clear h hB0 hres hXA
  have t1 : wrap64 ((len : Int) - 4) = (m : Int) := by rw [IntWalk.wrap64_in _ ⟨by omega, by omega⟩]; omega
  go_enter Tryz.func79, Tryz.ntmps79
  go_wp2_with fail
  rw [show w.alloc (.cells #[.int .i64 0, .int .i64 0, .int .i64 0, .int .i64 0, .int .i64 0, .int .i64 0, .int .i64 0, .int .i64 0, .int .i64 0, .int .i64 0, .int .i64 0, .int .i64 0, .int .i64 0, .int .i64 0, .int .i64 0, .int .i64 0, .int .i64 0, .int .i64 0, .int .i64 0, .int .i64 0, .int .i64 0, .int .i64 0, .int .i64 0] 36) = wA from hwA.out, show len - 4 = m by omega]
  have hsl : ∀ wx : World, (Instr.slice 37 (.slice (some ⟨b, off, none⟩) len cap) (some (.int .i64 (m : Int))) none none).run Tryz.prog wx = .ok (.slice (some ⟨b, off + m, none⟩) 4 (cap - m)) wx := by
    intro wx
    have := slice_from b off len cap m (by omega) (by omega) wx
    rwa [show len - m = 4 by omega] at this
  have hsb : ∀ wx, Below wA.heap.size wA wx → Calls Tryz.prog 83 #[.slice (some ⟨b, off, none⟩) m cap] wx fun e w' => e = .returned (.slice (some ⟨wx.heap.size, 0, none⟩) 4 4) ∧ Hid (w' = wx.alloc (.cells (u8s (b4 (crc (toldN l)).toNat)).toArray 5)) :=
    fun wx hx => sumBytes_any _ m cap (toldN l) wx (by omega) (told_isB (HXA.out.below hx) (by omega) hm)
  have heq : ∀ wx, Below wA.heap.size wA wx → Calls Tryz.prog 130 #[.slice (some ⟨wx.heap.size, 0, none⟩) 4 4, .slice (some ⟨b, off + m, none⟩) 4 (cap - m)] (wx.alloc (.cells (u8s (b4 (crc (toldN l)).toNat)).toArray 5)) fun e w' => e = .returned (.bool (decide (b4 (crc (toldN l)).toNat = lastN l))) ∧ Hid (w' = wx.alloc (.cells (u8s (b4 (crc (toldN l)).toNat)).toArray 5)) :=
    fun wx hx => equal_any _ _ _ _ _ _ _ _ _ (sum_isB wx _ rfl (b4_lt _)) (last_isB (HXA.out.below (hx.alloc hx.size _)) (by omega) hm)
  have HSB := hide hsb
  have HEQ := hide heq
  clear hsb heq
  refine wp_region_held_drew (S := fun w' => Below wA.heap.size wA w') (by kernel_rfl) (Below.refl _ _).drew (fun hHeld => ?_)
  refine wpAnyH_take (i := 0) (oi := _) (v := .slice (some ⟨b, off, none⟩) m cap) rfl (by kernel_rfl) (by kernel_rfl) (by kernel_rfl) (fun _ _ _ h => h) (Or.inl ⟨by rfl, fun w _ => by go_simp⟩) hHeld ?_
  simp only [Act.put]
  refine wpAnyH_take (i := 2) (oi := _) (v := .slice (some ⟨b, off, none⟩) len cap) rfl (by kernel_rfl) (by kernel_rfl) (by kernel_rfl) (fun _ _ _ h => h) (Or.inl ⟨by rfl, fun w _ => by go_simp⟩) hHeld ?_
  simp only [Act.put]
  refine wpAnyH_take (i := 3) (oi := _) (v := .slice (some ⟨b, off, none⟩) m cap) rfl (by kernel_rfl) (by kernel_rfl) (by kernel_rfl) (fun _ _ _ h => h) (Or.inl ⟨by rfl, fun w _ => by go_simp⟩) hHeld ?_
  simp only [Act.put]
  refine wpAnyH_take (i := 4) (oi := _) (v := .int .i64 (m : Int)) rfl (by kernel_rfl) (by kernel_rfl) (by kernel_rfl) (fun _ _ _ h => h) (Or.inl ⟨by rfl, fun w _ => by go_simp⟩) hHeld ?_
  simp only [Act.put]
  refine wpAnyH_take (i := 5) (oi := _) (v := .slice (some ⟨b, off + m, none⟩) 4 (cap - m)) rfl (by kernel_rfl) (by kernel_rfl) (by kernel_rfl) (fun _ _ _ h => h) (Or.inl ⟨by rfl, fun w _ => by go_simp⟩) hHeld ?_
  simp only [Act.put]
  refine wpAnyH_ready (rs := [1]) (by kernel_rfl) (by simp) ?_
  refine AllReadyH.cons (o := _) rfl (fun K hK => ?_) AllReadyH.nil
  rw [if_pos (by rfl)]
  go_simp
  go_at_call 83
  refine (unhide HSB _ (Below.refl _ _).drew).mono ?_
  rintro e w5 ⟨rfl, HW5⟩
  dsimp only
  have hB5 : Below wA.heap.size wA w5 := by rw [HW5.out]; exact (Below.refl wA.heap.size wA).drew.alloc (Nat.le_refl _) _
  refine hK.out _ _ hB5 (fun hHeld => ?_)
  clear hK K
  refine wpAnyH_ready (rs := [6]) (by kernel_rfl) (by simp) ?_
  refine AllReadyH.cons (o := _) rfl (fun K hK => ?_) AllReadyH.nil
  rw [if_pos (by rfl)]
  go_simp
  go_at_call 130
  have heq5 := unhide HEQ _ ((Below.refl _ _).drew)
  rw [← HW5.out] at heq5
  refine heq5.mono ?_
  rintro e w6 ⟨rfl, HW6⟩
  dsimp only
  clear heq5
  have hw6 : w6 = w5 := HW6.out
  subst hw6
  refine hK.out _ _ hB5 (fun hHeld => ?_)
  clear hK K HW6
  obtain ⟨r, hr⟩ : ∃ r, Hid (decide (b4 (crc (toldN l)).toNat = lastN l) = r) := ⟨_, hide rfl⟩
  rw [hr.out]
  refine wpAnyH_take (i := 7) (oi := _) (v := .bool (!r)) rfl (by kernel_rfl) (by kernel_rfl) (by kernel_rfl) (fun _ _ _ h => h) (Or.inl ⟨by rfl, fun w _ => by go_simp⟩) hHeld ?_
  simp only [Act.put, List.getElem_toArray, List.getElem_cons_succ, List.getElem_cons_zero, List.setIfInBounds_toArray, List.set_cons_succ, List.set_cons_zero]
  refine wpAnyH_done (by kernel_rfl) ?_ _
  have HX6 := hide (HXA.out.below hB5)
  have HRS := hide (HRES.out.below hN hB5)
  have HOL := hide (HB0.out.trans (hB5.mono (by omega)))
  have hs6 := hB5.size
  clear hHeld hB5 HW5 HSB HEQ hsl HRES HXA HX
  cases r
  · have HD := hide (dec_spoilt (l := l) (by omega) (by omega) (of_decide_eq_false hr.out))
    go_wp2_with (refine wpList_store_fl rfl _ _ rfl w.heap.size fr0 rfl rfl fr0 HRS.out ?_)
    intro w9 HF9
    go_wp2
    refine bodyPost_ret (v := .tuple #[.agg (fCells fr0), errV 15]) ?_ rfl ⟨by rw [HD.out], HOL.out.trans (HF9.out.2.2 _ (Nat.le_refl _))⟩
    exact results_cell2F Tryz.results79 rfl (load_f HF9.out.1)
  · have hsum := of_decide_eq_true hr.out
    have HRD := hide (read_any b off m cap (toldN l) w6 (by omega) (by omega) (by omega) (told_isB HX6.out (by omega) hm))
    go_wp2_with (go_at_call 132; refine HRD.out.mono ?_)
    rintro e w7 ⟨⟨v7, rfl, g7, cp7, rfl, hg71, hg72, hcp7, hrow7⟩, hB7⟩
    have HFR := hide (framed_any g7 0 _ cp7 (readF (toldN l)) w7 rfl hg72 hrow7)
    have HX7 := hide (HX6.out.below hB7)
    have HRS7 := hide (HRS.out.below (by omega) hB7)
    have HOL7 := hide (HOL.out.trans (hB7.mono (by omega)))
    have hs7 := hB7.size
    clear hB7 HRD hrow7 HX6 HRS HOL hg71 hg72
    obtain ⟨G, hG⟩ : ∃ G, Hid (framedF (readF (toldN l)) = G) := ⟨_, hide rfl⟩
    rw [hG.out] at HFR
    go_wp2_with (go_at_call 131; refine HFR.out.mono ?_)
    rintro e w8 ⟨rfl, hB8⟩
    have HX8 := hide (HX7.out.below hB8)
    have HRS8 := hide (HRS7.out.below (by omega) hB8)
    have HOL8 := hide (HOL7.out.trans (hB8.mono (by omega)))
    have hs8 := hB8.size
    clear hB8 HFR HX7 HRS7 HOL7
    go_wp2_with (refine wpList_store_fl rfl _ _ rfl w8.heap.size G rfl rfl fr0 (blk_new _ _) ?_)
    intro wB HFB
    have hBB : Below w8.heap.size w8 wB := ((Below.refl _ _).alloc (Nat.le_refl _) _).trans (HFB.out.2.2 _ (Nat.le_refl _))
    have HFQ := hide HFB.out.1
    have HXB := hide (HX8.out.below hBB)
    have HRSB := hide (HRS8.out.below (by omega) hBB)
    have HOLB := hide (HOL8.out.trans (hBB.mono (by omega)))
    have hsB := HFQ.out.lt
    clear hBB HFB HX8 HRS8 HOL8
    generalize w8.heap.size = Q at HFQ hsB hs8 ⊢
    cases hmay : mayB G
    · have HEN := hide (encode_bad G wB hmay)
      have HD := hide (dec_not (l := l) (by omega) (by omega) hsum (by rw [hG.out, hmay]; simp))
      go_wp2_with (first
        | (refine wpList_load_f rfl _ rfl Q rfl G HFQ.out ?_)
        | (go_at_call 39; refine HEN.out.mono ?_))
      rintro e wC ⟨rfl, hBC⟩
      have HRS := hide (HRSB.out.below (by omega) hBC)
      have HOL := hide (HOLB.out.trans (hBC.mono (by omega)))
      clear hBC HEN HRSB HOLB HXB HFQ
      go_wp2_with (refine wpList_store_fl rfl _ _ rfl w.heap.size fr0 rfl rfl fr0 HRS.out ?_)
      intro w9 HF9
      go_wp2
      refine bodyPost_ret (v := .tuple #[.agg (fCells fr0), errV 3]) ?_ rfl ⟨by rw [HD.out], HOL.out.trans (HF9.out.2.2 _ (Nat.le_refl _))⟩
      exact results_cell2F Tryz.results79 rfl (load_f HF9.out.1)
    · have HEN := hide (encode_ok G wB hmay)
      go_wp2_with (first
        | (refine wpList_load_f rfl _ rfl Q rfl G HFQ.out ?_)
        | (go_at_call 39; refine HEN.out.mono ?_))
      rintro e wC ⟨⟨v, rfl, hown⟩, hBC⟩
      obtain ⟨gE, cE, rfl, _, _, hIsE⟩ := EInv.isB (⟨hBC, hown⟩ : EInv wB wC v (encF G)) (fun e => by have := encF_length G; rw [e] at this; simp at this) (encF_lt G)
      have HEQ := hide (equal_any _ _ _ _ _ _ _ _ _ hIsE (HXB.out.below hBC))
      have HRS := hide (HRSB.out.below (by omega) hBC)
      have HOL := hide (HOLB.out.trans (hBC.mono (by omega)))
      have HFQC := hide (HFQ.out.below hsB hBC)
      clear hBC HEN HRSB HOLB HXB HFQ hown hIsE
      cases hqe : decide (encF G = l)
      · rw [hqe] at HEQ
        have HD := hide (dec_not (l := l) (by omega) (by omega) hsum (by rw [hG.out]; exact fun h => of_decide_eq_false hqe h.2))
        go_wp2_with (first
          | (go_at_call 130; refine HEQ.out.mono ?_; rintro e wD ⟨rfl, rfl⟩)
          | (refine wpList_store_fl rfl _ _ rfl w.heap.size fr0 rfl rfl fr0 HRS.out ?_))
        intro w9 HF9
        go_wp2
        refine bodyPost_ret (v := .tuple #[.agg (fCells fr0), errV 3]) ?_ rfl ⟨by rw [HD.out], HOL.out.trans (HF9.out.2.2 _ (Nat.le_refl _))⟩
        exact results_cell2F Tryz.results79 rfl (load_f HF9.out.1)
      · rw [hqe] at HEQ
        have HD := hide (dec_ok (l := l) (by omega) (by omega) hsum (by rw [hG.out]; exact ⟨hmay, of_decide_eq_true hqe⟩))
        go_wp2_with (first
          | (go_at_call 130; refine HEQ.out.mono ?_; rintro e wD ⟨rfl, rfl⟩)
          | (refine wpList_load_f rfl _ rfl Q rfl G HFQC.out ?_)
          | (refine wpList_store_fl rfl _ _ rfl w.heap.size G rfl rfl fr0 HRS.out ?_))
        intro w9 HF9
        go_wp2
        refine bodyPost_ret (v := .tuple #[.agg (fCells G), errV 0]) ?_ rfl ⟨by rw [HD.out, hG.out], HOL.out.trans (HF9.out.2.2 _ (Nat.le_refl _))⟩
        exact results_cell2F Tryz.results79 rfl (load_f HF9.out.1)
theorem decode_any (a : Option Addr) (len cap : Nat) (l : List Nat) (w : World) (hl : len ≤ 1000) (h : IsB w a len cap l) :
    Calls Tryz.prog 79 #[.slice a len cap] w fun e w' => e = .returned (.tuple #[.agg (fCells (decF l).2), errV (decF l).1]) ∧ Below w.heap.size w w' := by
  by_cases hf : len < 7 ∨ 80 < len
  · exact decode_form a len cap l w h.1 hl hf
  · obtain ⟨b, off, rfl, _, _⟩ := h.row (by omega)
    exact decode_main b off len cap l w h (by omega) (by omega)
end Go.Proofs.YtaablbmgagiajabGreatDoor
