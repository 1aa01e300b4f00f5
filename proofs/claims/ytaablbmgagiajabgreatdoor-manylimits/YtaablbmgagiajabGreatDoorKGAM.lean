import Derived.Conc.Beside
import GoSem.Step
import Derived.Conc.Events
namespace Go.Proofs.YtaablbmgagiajabGreatDoor.Ren
open Go Go.Conc
open Go.ConcN (RelBy fork_knows)
structure Apt (Sh Shun Rd : Loc → Prop) (Own : Nat → Loc → Prop) : Prop where
  shRd : ∀ l, Sh l → ¬ Rd l
  shOwn : ∀ l k, Sh l → ¬ Own k l
  rdOwn : ∀ l k, Rd l → ¬ Own k l
  rdShun : ∀ l, Rd l → ¬ Shun l
  own : ∀ l k k', Own k l → Own k' l → k = k'
def Eld (s0 j0 i : Nat) (op : MemOp) : Prop := i < s0 ∨ op.g < j0
structure Tr (Sh Shun Rd : Loc → Prop) (Own : Nat → Loc → Prop) (s0 j0 N B : Nat) (t : Trace) : Prop where
  clean : ∀ said, ¬ Race said t
  old : ∀ (i : Nat) (op : MemOp) (a : Touch), t[i]? = some op → op.act.touch? = some a → a.loc.isMemory = true → Eld s0 j0 i op → (Knows t 0 i ∨ (Shun a.loc ∧ a.kind = .atomic)) ∧ (Sh a.loc → a.kind ≠ .plain ∧ (a.kind = .said → op.g = 0)) ∧ (∀ k, ¬ Own k a.loc) ∧ (Rd a.loc → a.write = true → ∀ k, j0 ≤ k → k < N → Knows t k i)
  new : ∀ (i : Nat) (op : MemOp) (a : Touch), t[i]? = some op → op.act.touch? = some a → a.loc.isMemory = true → ¬ Eld s0 j0 i op → (Sh a.loc ∧ a.kind = .atomic) ∨ (Own op.g a.loc ∧ a.kind = .plain) ∨ (Rd a.loc ∧ a.write = false ∧ a.kind = .plain)
  gs : ∀ (i : Nat) (op : MemOp), s0 ≤ i → t[i]? = some op → op.g < N
  seen : ∀ op ∈ t, op.act.low B
  over : ∀ (i g : Nat), t.g? i = some g → g ≠ 0 → (i < s0 ∨ g < j0) → t.counts i → ∃ j, t.g? j = some 0 ∧ HappensBefore t i j
  size : s0 ≤ t.size
  pos : 0 < j0
section
variable {Sh Shun Rd : Loc → Prop} {Own : Nat → Loc → Prop} {s0 j0 N B : Nat} {t u : Trace}
theorem over_app (h : ∀ (i g : Nat), t.g? i = some g → g ≠ 0 → (i < s0 ∨ g < j0) → t.counts i → ∃ j, t.g? j = some 0 ∧ HappensBefore t i j) (hs : s0 ≤ t.size) (hu : ∀ op ∈ u, op.g = 0 ∨ j0 ≤ op.g ∨ op.act.touch? = none) :
    ∀ (i g : Nat), (t ++ u).g? i = some g → g ≠ 0 → (i < s0 ∨ g < j0) → (t ++ u).counts i → ∃ j, (t ++ u).g? j = some 0 ∧ HappensBefore (t ++ u) i j := by
  intro i g hg hne he hc
  obtain ⟨x, hx, hx2⟩ := hc
  obtain ⟨op, hop, hox⟩ := touch_of hx
  rcases getElem?_append_cases hop with ⟨hi, hop'⟩ | ⟨hi, hopu⟩
  · obtain ⟨j, hj, hb⟩ := h i g (by simpa [Trace.g?, getElem?_append_old hi] using hg) hne he ((counts_old hi).1 ⟨x, hx, hx2⟩)
    have hjl : j < t.size := by
      unfold Trace.g? at hj
      obtain ⟨z, hz, _⟩ := Option.map_eq_some_iff.1 hj
      exact lt_size_of_getElem? hz
    exact ⟨j, by simpa [Trace.g?, getElem?_append_old hjl] using hj, hb_app u hb⟩
  · have hgo : op.g = g := by simpa [Trace.g?, hop] using hg
    rcases hu op hopu with h0 | h0 | h0
    · exact absurd (hgo.symm.trans h0) hne
    · rcases he with he | he <;> omega
    · rw [h0] at hox; cases hox
theorem Tr.appW (A : Apt Sh Shun Rd Own) (h : Tr Sh Shun Rd Own s0 j0 N B t) {k : Nat} (hk : j0 ≤ k) (hkN : k < N) (hg : ∀ op ∈ u, op.g = k) (hl : ∀ op ∈ u, op.act.low B)
    (hu : ∀ op ∈ u, ∀ a, op.act.touch? = some a → a.loc.isMemory = true → (Sh a.loc ∧ a.kind = .atomic) ∨ (Own k a.loc ∧ a.kind = .plain) ∨ (Rd a.loc ∧ a.write = false ∧ a.kind = .plain)) : Tr Sh Shun Rd Own s0 j0 N B (t ++ u) := by
  have hsz := h.size
  refine ⟨fun said => noRace_append (h.clean said) hg fun i a ha op hop b hb hc => ?_, fun i op a hi ha hm he => ?_, fun i op a hi ha hm he => ?_, fun i op hs hi => ?_, seen_app h.seen hl, over_app h.over hsz fun op hop => .inr (.inl (by rw [hg op hop]; exact hk)), by simp; omega, h.pos⟩
  · obtain ⟨x, hx, hxa⟩ := touch_of ha
    obtain ⟨e1, e2, e3, e4⟩ := hc
    have hmb : b.loc.isMemory = true := by rw [← e1]; exact e2
    by_cases hE : Eld s0 j0 i x
    · obtain ⟨o1, o2, o3, o4⟩ := h.old i x a hx hxa e2 hE
      rcases hu op hop b hb hmb with ⟨q1, q2⟩ | ⟨q1, q2⟩ | ⟨q1, q2, q3⟩
      · have := (o2 (e1 ▸ q1)).1
        rw [q2] at e4
        rcases e4 with e | e | ⟨_, _, e⟩
        · exact absurd e this
        · cases e
        · cases e
      · exact absurd (e1 ▸ q1) (o3 k)
      · exact o4 (e1 ▸ q1) (e3.resolve_right (by simp [q2])) k hk hkN
    · rcases h.new i x a hx hxa e2 hE with ⟨p1, p2⟩ | ⟨p1, p2⟩ | ⟨p1, p2, p3⟩ <;> rcases hu op hop b hb hmb with ⟨q1, q2⟩ | ⟨q1, q2⟩ | ⟨q1, q2, q3⟩
      · rw [p2, q2] at e4
        rcases e4 with e | e | ⟨_, e, _⟩ <;> cases e
      · exact absurd q1 (A.shOwn _ k (e1 ▸ p1))
      · exact absurd q1 (A.shRd _ (e1 ▸ p1))
      · exact absurd p1 (A.shOwn _ _ (e1 ▸ q1))
      · have := A.own _ _ _ (e1 ▸ p1) q1
        have hk := knows_own hx
        rwa [this] at hk
      · exact absurd (e1 ▸ p1) (A.rdOwn _ _ q1)
      · exact absurd (e1 ▸ p1) (A.shRd _ q1)
      · exact absurd q1 (A.rdOwn _ _ (e1 ▸ p1))
      · rw [p2, q2] at e3
        rcases e3 with e | e <;> cases e
  · rcases getElem?_append_cases hi with ⟨_, hi'⟩ | ⟨hi1, hiu⟩
    · obtain ⟨o1, o2, o3, o4⟩ := h.old i op a hi' ha hm he
      exact ⟨o1.imp (·.app u) id, o2, o3, fun q1 q2 k' q3 q4 => (o4 q1 q2 k' q3 q4).app u⟩
    · rcases he with he | he
      · omega
      · rw [hg op hiu] at he; omega
  · rcases getElem?_append_cases hi with ⟨_, hi'⟩ | ⟨_, hiu⟩
    · exact h.new i op a hi' ha hm he
    · rw [hg op hiu]
      exact hu op hiu a ha hm
  · rcases getElem?_append_cases hi with ⟨_, hi'⟩ | ⟨_, hiu⟩
    · exact h.gs i op hs hi'
    · rw [hg op hiu]; exact hkN
theorem Tr.app0 (A : Apt Sh Shun Rd Own) (h : Tr Sh Shun Rd Own s0 j0 N B t) (hN : 0 < N) (hg : ∀ op ∈ u, op.g = 0) (hl : ∀ op ∈ u, op.act.low B)
    (hu : ∀ op ∈ u, ∀ a, op.act.touch? = some a → a.loc.isMemory = true → (Sh a.loc ∧ a.kind ≠ .plain) ∨ (Rd a.loc ∧ a.write = false) ∨ (¬ Sh a.loc ∧ ¬ Rd a.loc ∧ (∀ k, ¬ Own k a.loc) ∧ (Shun a.loc → a.kind ≠ .plain))) : Tr Sh Shun Rd Own s0 j0 N B (t ++ u) := by
  have hsz := h.size
  have hj := h.pos
  refine ⟨fun said => noRace_append (h.clean said) hg fun i a ha op hop b hb hc => ?_, fun i op a hi ha hm he => ?_, fun i op a hi ha hm he => ?_, fun i op hs hi => ?_, seen_app h.seen hl, over_app h.over hsz fun op hop => .inl (hg op hop), by simp; omega, hj⟩
  · obtain ⟨x, hx, hxa⟩ := touch_of ha
    obtain ⟨e1, e2, e3, e4⟩ := hc
    have hmb : b.loc.isMemory = true := by rw [← e1]; exact e2
    by_cases hE : Eld s0 j0 i x
    · obtain ⟨o1, o2, o3, o4⟩ := h.old i x a hx hxa e2 hE
      rcases o1 with o1 | ⟨o1, o1'⟩
      · exact o1
      · rcases hu op hop b hb hmb with ⟨q1, q2⟩ | ⟨q1, q2⟩ | ⟨q1, q2, q3, q4⟩
        · rw [o1'] at e4
          rcases e4 with e | e | ⟨_, e, _⟩
          · cases e
          · exact absurd e q2
          · cases e
        · exact absurd (e1 ▸ o1) (A.rdShun _ q1)
        · rw [o1'] at e4
          rcases e4 with e | e | ⟨_, e, _⟩
          · cases e
          · exact absurd e (q4 (e1 ▸ o1))
          · cases e
    · rcases h.new i x a hx hxa e2 hE with ⟨p1, p2⟩ | ⟨p1, p2⟩ | ⟨p1, p2, p3⟩ <;> rcases hu op hop b hb hmb with ⟨q1, q2⟩ | ⟨q1, q2⟩ | ⟨q1, q2, q3, q4⟩
      · rw [p2] at e4
        rcases e4 with e | e | ⟨_, e, _⟩
        · cases e
        · exact absurd e q2
        · cases e
      · exact absurd q1 (A.shRd _ (e1 ▸ p1))
      · exact absurd (e1 ▸ p1) q1
      · exact absurd p1 (A.shOwn _ _ (e1 ▸ q1))
      · exact absurd p1 (A.rdOwn _ _ (e1 ▸ q1))
      · exact absurd (e1 ▸ p1) (q3 _)
      · exact absurd (e1 ▸ p1) (A.shRd _ q1)
      · rw [p2, q2] at e3
        rcases e3 with e | e <;> cases e
      · exact absurd (e1 ▸ p1) q2
  · rcases getElem?_append_cases hi with ⟨_, hi'⟩ | ⟨hi1, hiu⟩
    · obtain ⟨o1, o2, o3, o4⟩ := h.old i op a hi' ha hm he
      exact ⟨o1.imp (·.app u) id, o2, o3, fun q1 q2 k' q3 q4 => (o4 q1 q2 k' q3 q4).app u⟩
    · have hkn := knows_own hi
      rw [hg op hiu] at hkn
      rcases hu op hiu a ha hm with ⟨q1, q2⟩ | ⟨q1, q2⟩ | ⟨q1, q2, q3, q4⟩
      · exact ⟨.inl hkn, fun _ => ⟨q2, fun _ => hg op hiu⟩, fun k => A.shOwn _ k q1, fun r => absurd r (A.shRd _ q1)⟩
      · exact ⟨.inl hkn, fun s => absurd q1 (A.shRd _ s), fun k => A.rdOwn _ k q1, fun _ hw => by rw [q2] at hw; cases hw⟩
      · exact ⟨.inl hkn, fun s => absurd s q1, q3, fun r => absurd r q2⟩
  · rcases getElem?_append_cases hi with ⟨_, hi'⟩ | ⟨_, hiu⟩
    · exact h.new i op a hi' ha hm he
    · exact absurd (.inr (by rw [hg op hiu]; exact hj)) he
  · rcases getElem?_append_cases hi with ⟨_, hi'⟩ | ⟨_, hiu⟩
    · exact h.gs i op hs hi'
    · rw [hg op hiu]; exact hN
theorem Tr.appN (h : Tr Sh Shun Rd Own s0 j0 N B t) {y : MemOp} (hg : y.g < N) (hl : y.act.low B) (hn : y.act.touch? = none) : Tr Sh Shun Rd Own s0 j0 N B (t ++ #[y]) := by
  have hsz := h.size
  have hno : ∀ op ∈ #[y], op.act.touch? = none ∧ op.g < N ∧ op.act.low B := fun op hop => by
    simp only [List.mem_toArray, List.mem_cons, List.not_mem_nil, or_false] at hop
    subst hop
    exact ⟨hn, hg, hl⟩
  refine ⟨fun said => noRace_append (g := y.g) (h.clean said) (fun op hop => by simp at hop; rw [hop]) fun i a ha op hop b hb hc => (by rw [(hno op hop).1] at hb; cases hb), fun i op a hi ha hm he => ?_, fun i op a hi ha hm he => ?_, fun i op hs hi => ?_, seen_app h.seen fun op hop => (hno op hop).2.2, over_app h.over hsz fun op hop => .inr (.inr (hno op hop).1), by simp; omega, h.pos⟩
  · rcases getElem?_append_cases hi with ⟨_, hi'⟩ | ⟨hi1, hiu⟩
    · obtain ⟨o1, o2, o3, o4⟩ := h.old i op a hi' ha hm he
      exact ⟨o1.imp (·.app _) id, o2, o3, fun q1 q2 k' q3 q4 => (o4 q1 q2 k' q3 q4).app _⟩
    · rw [(hno op hiu).1] at ha; cases ha
  · rcases getElem?_append_cases hi with ⟨_, hi'⟩ | ⟨_, hiu⟩
    · exact h.new i op a hi' ha hm he
    · rw [(hno op hiu).1] at ha; cases ha
  · rcases getElem?_append_cases hi with ⟨_, hi'⟩ | ⟨_, hiu⟩
    · exact h.gs i op hs hi'
    · exact (hno op hiu).2.1
theorem Tr.appNs : ∀ (l : List MemOp) {t : Trace}, Tr Sh Shun Rd Own s0 j0 N B t → (∀ y ∈ l, y.g < N ∧ y.act.low B ∧ y.act.touch? = none) → Tr Sh Shun Rd Own s0 j0 N B (t ++ l.toArray)
  | [], t, h, _ => by simpa using h
  | y :: l, t, h, hl => by
    have e : t ++ (y :: l).toArray = (t ++ #[y]) ++ l.toArray := by simp
    rw [e]
    obtain ⟨h1, h2, h3⟩ := hl y (by simp)
    exact Tr.appNs l (h.appN h1 h2 h3) fun z hz => hl z (by simp [hz])
theorem Tr.give {Own' : Nat → Loc → Prop} (h : Tr Sh Shun Rd Own s0 j0 N B t) (hs : ∀ k l, Own k l → Own' k l) (hn : ∀ k l, Own' k l → Own k l ∨ ∀ op ∈ t, ∀ a, op.act.touch? = some a → a.loc ≠ l) : Tr Sh Shun Rd Own' s0 j0 N B t where
  clean := h.clean
  old i op a hi ha hm he := by
    obtain ⟨o1, o2, o3, o4⟩ := h.old i op a hi ha hm he
    refine ⟨o1, o2, fun k hk => ?_, o4⟩
    rcases hn k _ hk with q | q
    · exact o3 k q
    · exact q op (Go.Conc.mem_of_getElem? hi) a ha rfl
  new i op a hi ha hm he := by
    rcases h.new i op a hi ha hm he with q | ⟨q, q'⟩ | q
    · exact .inl q
    · exact .inr (.inl ⟨hs _ _ q, q'⟩)
    · exact .inr (.inr q)
  gs := h.gs
  seen := h.seen
  over := h.over
  size := h.size
  pos := h.pos
theorem Tr.more {B' : Nat} (h : Tr Sh Shun Rd Own s0 j0 N B t) (hB : B ≤ B') : Tr Sh Shun Rd Own s0 j0 N B' t where
  clean := h.clean
  old := h.old
  new := h.new
  gs := h.gs
  seen op hop := MemAct.low_mono hB (h.seen op hop)
  over := h.over
  size := h.size
  pos := h.pos
theorem untouched (h : ∀ op ∈ t, op.act.low B) {l : Loc} (hl : ¬ l.low B) : ∀ op ∈ t, ∀ a, op.act.touch? = some a → a.loc ≠ l := by
  intro op hop a ha e
  subst e
  have hx := h op hop
  generalize op.act = x at ha hx
  cases x with
  | access e =>
    simp only [MemAct.touch?, Option.some.injEq] at ha
    subst ha
    exact hl hx
  | mark m =>
    cases m <;> simp only [MemAct.touch?, Option.some.injEq, reduceCtorEq] at ha
    all_goals subst ha; exact hl hx
  | _ => simp [MemAct.touch?] at ha
theorem Tr.fork (A : Apt Sh Shun Rd Own) (h : Tr Sh Shun Rd Own s0 j0 N B t) {x y : MemOp} (hjN : j0 ≤ N) (hx : x.g = 0 ∧ x.act = .go N) (hy : y.g = N ∧ y.act = .start) (h0 : Deaf t 0 = 0) (hN : Deaf t N = 0) : Tr Sh Shun Rd Own s0 j0 (N + 1) B (t ++ #[x, y]) := by
  have hsz := h.size
  have hj := h.pos
  have hno : ∀ op ∈ #[x, y], op.act.touch? = none ∧ op.g < N + 1 ∧ op.act.low B := fun op hop => by
    simp only [List.mem_toArray, List.mem_cons, List.not_mem_nil, or_false] at hop
    rcases hop with rfl | rfl
    · rw [hx.1, hx.2]; exact ⟨rfl, by omega, trivial⟩
    · rw [hy.1, hy.2]; exact ⟨rfl, by omega, trivial⟩
  have e : t ++ #[x, y] = (t ++ #[x]) ++ #[y] := by apply Array.ext'; simp
  refine ⟨fun said => ?_, fun i op a hi ha hm he => ?_, fun i op a hi ha hm he => ?_, fun i op hs hi => ?_, seen_app h.seen fun op hop => (hno op hop).2.2, over_app h.over hsz fun op hop => .inr (.inr (hno op hop).1), by simp; omega, h.pos⟩
  · rw [e]
    exact noRace_append (g := N) (noRace_append (g := 0) (h.clean said) (fun op hop => by simp at hop; rw [hop]; exact hx.1) (fun i a _ op hop b hb _ => by rw [(hno op (by simp at hop ⊢; exact .inl hop)).1] at hb; cases hb))
      (fun op hop => by simp at hop; rw [hop]; exact hy.1) (fun i a _ op hop b hb _ => by rw [(hno op (by simp at hop ⊢; exact .inr hop)).1] at hb; cases hb)
  · rcases getElem?_append_cases hi with ⟨_, hi'⟩ | ⟨hi1, hiu⟩
    · obtain ⟨o1, o2, o3, o4⟩ := h.old i op a hi' ha hm he
      refine ⟨o1.imp (·.app _) id, o2, o3, fun q1 q2 k' q3 q4 => ?_⟩
      rcases Nat.lt_or_ge k' N with hk | hk
      · exact (o4 q1 q2 k' q3 hk).app _
      · obtain rfl : k' = N := by omega
        rcases o1 with o1 | ⟨o1, _⟩
        · exact fork_knows hx hy h0 hN o1
        · exact absurd o1 (A.rdShun _ q1)
    · rw [(hno op hiu).1] at ha; cases ha
  · rcases getElem?_append_cases hi with ⟨_, hi'⟩ | ⟨_, hiu⟩
    · exact h.new i op a hi' ha hm he
    · rw [(hno op hiu).1] at ha; cases ha
  · rcases getElem?_append_cases hi with ⟨_, hi'⟩ | ⟨_, hiu⟩
    · exact Nat.lt_succ_of_lt (h.gs i op hs hi')
    · exact (hno op hiu).2.1
theorem Tr.of_past (h : Past Shun B t) (hj : 0 < j0) (hSh : ∀ l, Sh l → ¬ l.low B) : Tr Sh Shun Rd (fun _ _ => False) t.size j0 j0 B t where
  clean := h.clean
  old i op a hi ha hm he := by
    refine ⟨h.known i a (by rw [touchAt_of hi]; exact ha) hm, fun hs => absurd rfl (untouched h.seen (hSh _ hs) op (Go.Conc.mem_of_getElem? hi) a ha), fun _ q => q, fun _ _ k q1 q2 => by omega⟩
  new i op a hi ha hm he := absurd (.inl (lt_size_of_getElem? hi)) he
  gs i op hs hi := by
    have := lt_size_of_getElem? hi
    omega
  seen := h.seen
  over i g h1 h2 _ h4 := h.over i g h1 h2 h4
  size := Nat.le_refl _
  pos := hj
theorem Tr.past (h : Tr Sh Shun Rd Own s0 j0 N B t) {ad : Addr} {q : Nat} (all : ∀ k, j0 ≤ k → k < N → ∃ r, RelBy ad t k r ∧ r < q) (hn : NoRelease ad t)
    (hq : t.act? q = some (.mark (.acquire ad))) (hg : t.g? q = some 0) (hh : t.heard q) (hd : Deaf t 0 = 0) : Past (fun l => Shun l ∨ Sh l) B t := by
  obtain ⟨z, hz, hzg⟩ := Option.map_eq_some_iff.1 hg
  have key : ∀ (i : Nat) (op : MemOp), t[i]? = some op → ¬ Eld s0 j0 i op → t.counts i → HappensBefore t i q := fun i op hi he hc => by
    have hk : j0 ≤ op.g := by
      rcases Nat.lt_or_ge op.g j0 with h1 | h1
      · exact absurd (.inr h1) he
      · exact h1
    have hs : s0 ≤ i := by
      rcases Nat.lt_or_ge i s0 with h1 | h1
      · exact absurd (.inl h1) he
      · exact h1
    obtain ⟨r, hr, hrq⟩ := all op.g hk (h.gs i op hs hi)
    have hgi : t.g? i = some op.g := by simp [Trace.g?, hi]
    have edge : HappensBefore t r q := .single (.inr ⟨.marked hrq (.inr hr.act) hq (fun k _ _ => hn k), hr.heard, hh⟩)
    have hle : i ≤ r := Nat.le_of_not_lt fun hlt => hr.after i hlt hgi hc
    rcases Nat.lt_or_ge i r with hlt | hge
    · exact .trans (.single (.inl ⟨hlt, op.g, hgi, hr.g⟩)) edge
    · obtain rfl : i = r := by omega
      exact edge
  refine ⟨h.clean, fun i a ha hm => ?_, fun i g hgi hne hc => ?_, hd, h.seen⟩
  · obtain ⟨op, hi, hop⟩ := touch_of ha
    by_cases he : Eld s0 j0 i op
    · exact (h.old i op a hi hop hm he).1.imp id fun x => ⟨.inl x.1, x.2⟩
    · rcases h.new i op a hi hop hm he with ⟨q1, q2⟩ | ⟨_, q2⟩ | ⟨_, _, q2⟩
      · exact .inr ⟨.inr q1, q2⟩
      · exact .inl ⟨q, z, hz, hzg, .inr (key i op hi he ⟨a, ha, hm, .inl (by rw [q2]; simp)⟩)⟩
      · exact .inl ⟨q, z, hz, hzg, .inr (key i op hi he ⟨a, ha, hm, .inl (by rw [q2]; simp)⟩)⟩
  · obtain ⟨op, hi, hog⟩ := Option.map_eq_some_iff.1 hgi
    by_cases he : Eld s0 j0 i op
    · exact h.over i g hgi hne (by rw [← hog]; exact he) hc
    · exact ⟨q, hg, key i op hi he hc⟩
end
end Go.Proofs.YtaablbmgagiajabGreatDoor.Ren
namespace Go.Proofs.YtaablbmgagiajabGreatDoor.Ren
open Go
structure Env where
  P : Program
  T : FuncId → Bool
  K : TypeId → Bool
  C : Code → Bool
  B : Nat
  R : Nat → Prop
  O : Nat → Prop
  os : Os
  V : TypeId → Bool
def Env.I (E : Env) (n k : Nat) : Prop := E.B ≤ k ∧ k < n
def Env.A (E : Env) (n k : Nat) : Prop := E.I n k ∨ E.R k ∨ E.O k
def rA (f : Nat → Nat) (a : Addr) : Addr := { a with block := f a.block }
def rFn (f : Nat → Nat) : Fn → Fn
  | .yield l => .yield (f l)
  | x => x
def rV (f : Nat → Nat) : Value → Value
  | .pointer a => .pointer (a.map (rA f))
  | .slice a n c => .slice (a.map (rA f)) n c
  | .map r => .map (r.map f)
  | .chan r => .chan (r.map f)
  | .func fn first cap => .func (rFn f fn) (first.map (rV f)) (cap.map (rV f))
  | .iface t v => .iface t (rV f v)
  | .agg cs => .agg (cs.map (rV f))
  | .tuple vs => .tuple (vs.map (rV f))
  | .bool b => .bool b
  | .int k n => .int k n
  | .float k n => .float k n
  | .complex k a b => .complex k a b
  | .string s => .string s
  | .nilFunc => .nilFunc
  | .nilIface => .nilIface
section
variable (E : Env) (n : Nat)
def okA : Option Addr → Prop
  | none => True
  | some a => E.A n a.block
def okFn : Fn → Prop
  | .func g => E.T g = true
  | .yield l => E.I n l
  | _ => False
def okV : Value → Prop
  | .func fn a b => okFn E n fn ∧ (∀ x, x ∈ a → okV x) ∧ (∀ x, x ∈ b → okV x)
  | .iface t v => E.K t = true ∧ okV v
  | .agg cs => ∀ x, x ∈ cs → okV x
  | .tuple cs => ∀ x, x ∈ cs → okV x
  | .pointer a => okA E n a
  | .slice a _ _ => okA E n a
  | .map r => ∀ k, r = some k → E.I n k
  | .chan r => r = none
  | .float _ _ => False
  | .complex _ _ _ => False
  | _ => True
end
def plain0 : Value → Bool
  | .bool _ | .int _ _ | .string _ | .pointer none | .slice none _ _ | .map none | .chan none | .nilFunc | .nilIface => true
  | _ => false
def plainV : Value → Bool
  | .agg cs => cs.all plain0
  | .tuple cs => cs.all plain0
  | v => plain0 v
def roV : Value → Prop
  | .int .u8 _ => False
  | _ => True
def rE (f : Nat → Nat) (e : MapEntry) : MapEntry := { key := rV f e.key, val := rV f e.val, born := e.born }
def rT (f : Nat → Nat) : Target → Target
  | .fn fn c => .fn (rFn f fn) (c.map (rV f))
  | .collected r => .collected (f r)
  | .coroexit c => .coroexit (f c)
  | t => t
def rD (f : Nat → Nat) (d : Deferred) : Deferred := { target := rT f d.target, args := d.args.map (rV f) }
def rL (f : Nat → Nat) (l : Loop) : Loop := { l with tmps := l.tmps.map (rV f), defers := f l.defers }
def rO (f : Nat → Nat) : Obj → Obj
  | .cells c t z => .cells (c.map (rV f)) t z
  | .map es k => .map (es.map (rE f)) k
  | .mapIter m s seen st => .mapIter (m.map f) s seen st
  | .loop l => .loop (rL f l)
  | .deferred ds => .deferred (ds.map (List.map (rD f)))
  | .view a t => .view (rA f a) t
  | .number a l => .number (rA f a) l
  | o => o
section
variable (E : Env) (n : Nat)
def okAll (cs : Array Value) : Prop := ∀ x, x ∈ cs → okV E n x
def okT : Target → Prop
  | .fn fn c => okFn E n fn ∧ okAll E n c
  | .nil => True
  | .builtin b _ _ _ => b = .recover ∨ b = .len
  | .collected r => E.I n r
  | .coroexit _ => False
def okD (d : Deferred) : Prop := okT E n d.target ∧ okAll E n d.args
def okL (l : Loop) : Prop := E.T l.fn = true ∧ okAll E n l.tmps ∧ E.C l.assign = true ∧ E.C l.body = true ∧ E.I n l.defers ∧ ∀ c, l.pending = some c → E.C c = true
def okO : Obj → Prop
  | .cells c _ _ => okAll E n c
  | .map es _ => ∀ e, e ∈ es → okV E n e.key ∧ okV E n e.val
  | .mapIter m _ _ _ => ∀ k, m = some k → E.I n k
  | .stringIter _ _ => True
  | .loop l => okL E n l
  | .deferred ds => ∀ l, ds = some l → ∀ d ∈ l, okD E n d
  | .view a u => E.A n a.block ∧ E.V u = true
  | .number a _ => E.A n a.block
  | _ => False
end
theorem rV_plain0 {f : Nat → Nat} {v : Value} (h : plain0 v = true) : rV f v = v := by
  unfold plain0 at h
  split at h <;> simp_all [rV]
theorem map_same {f : Nat → Nat} {cs : Array Value} (h : ∀ x ∈ cs, rV f x = x) : cs.map (rV f) = cs := by
  apply Array.ext'
  rw [Array.toList_map]
  exact (List.map_congr_left (fun x hx => h x (by simpa using hx))).trans (List.map_id _)
theorem rV_plain {f : Nat → Nat} {v : Value} (h : plainV v = true) : rV f v = v := by
  unfold plainV at h
  split at h
  · rw [rV, map_same]
    intro x hx
    exact rV_plain0 (Array.all_eq_true'.1 h x hx)
  · rw [rV, map_same]
    intro x hx
    exact rV_plain0 (Array.all_eq_true'.1 h x hx)
  · exact rV_plain0 h
theorem okV_plain0 {E : Env} {n : Nat} {v : Value} (h : plain0 v = true) : okV E n v := by
  unfold plain0 at h
  split at h <;> simp_all [okV, okA]
theorem okV_plain {E : Env} {n : Nat} {v : Value} (h : plainV v = true) : okV E n v := by
  unfold plainV at h
  split at h
  · rw [okV]
    intro x hx
    exact okV_plain0 (Array.all_eq_true'.1 h x hx)
  · rw [okV]
    intro x hx
    exact okV_plain0 (Array.all_eq_true'.1 h x hx)
  · exact okV_plain0 h
theorem cells_rV (f : Nat → Nat) (v : Value) : (rV f v).cells = v.cells.map (rV f) := by
  cases v <;> simp [rV, Value.cells]
theorem cells_size_rV (f : Nat → Nat) (v : Value) : (rV f v).cells.size = v.cells.size := by rw [cells_rV, Array.size_map]
theorem okV_cells {E : Env} {n : Nat} {v : Value} (h : okV E n v) : okAll E n v.cells := by
  intro x hx
  cases v <;> simp_all [Value.cells, okV]
theorem rA_add (f : Nat → Nat) (a : Addr) (k : Nat) : (rA f a).add k = rA f (a.add k) := by
  unfold Addr.add
  split <;> rfl
theorem block_add (a : Addr) (n : Nat) : (a.add n).block = a.block := by
  unfold Addr.add
  split <;> rfl
theorem rA_inj {f : Nat → Nat} (hf : ∀ a b, f a = f b → a = b) {a b : Addr} (h : rA f a = rA f b) : a = b := by
  obtain ⟨x, y, z⟩ := a
  obtain ⟨x', y', z'⟩ := b
  simp only [rA, Addr.mk.injEq] at h
  obtain ⟨h1, h2, h3⟩ := h
  rw [hf _ _ h1, h2, h3]
theorem bytes_rV (f : Nat → Nat) (v : Value) : (rV f v).bytes? = v.bytes? := by
  cases v <;> simp [rV, Value.bytes?]
def noF : Value → Bool
  | .float _ _ => false
  | .complex _ _ _ => false
  | _ => true
theorem okV_noF {E : Env} {n : Nat} {v : Value} (h : okV E n v) : noF v = true := by
  cases v <;> first | rfl | (rw [okV] at h; exact h.elim)
theorem noF_plain {v : Value} (h : plain0 v = true) : noF v = true := by
  cases v <;> first | rfl | cases h
theorem okAll_push {E : Env} {n : Nat} {cs : Array Value} {v : Value} (h : okAll E n cs) (hv : okV E n v) : okAll E n (cs.push v) := by
  intro x hx
  rcases Array.mem_push.1 hx with h1 | rfl
  · exact h x h1
  · exact hv
theorem okAll_append {E : Env} {n : Nat} {cs ds : Array Value} (h : okAll E n cs) (hd : okAll E n ds) : okAll E n (cs ++ ds) := by
  intro x hx
  rcases Array.mem_append.1 hx with h1 | h1
  · exact h x h1
  · exact hd x h1
theorem okAll_set {E : Env} {n : Nat} {cs : Array Value} {v : Value} (h : okAll E n cs) (hv : okV E n v) (i : Nat) : okAll E n (cs.setIfInBounds i v) := by
  intro x hx
  rcases Array.mem_or_eq_of_mem_setIfInBounds hx with h1 | rfl
  · exact h x h1
  · exact hv
theorem okAll_get {E : Env} {n : Nat} {cs : Array Value} (h : okAll E n cs) {i : Nat} {v : Value} (hv : cs[i]? = some v) : okV E n v := h v (Array.mem_of_getElem? hv)
theorem undef_rV (f : Nat → Nat) : rV f (.tuple #[]) = .tuple #[] := by simp [rV]
theorem undef_ok (E : Env) (n : Nat) : okV E n (.tuple #[]) := by simp [okV]
theorem okAll_getD {E : Env} {n : Nat} {cs : Array Value} (h : okAll E n cs) (i : Nat) : okV E n (cs.getD i (.tuple #[])) := by
  rw [Array.getD_eq_getD_getElem?]
  cases hv : cs[i]? with
  | none => exact undef_ok E n
  | some v => exact okAll_get h hv
theorem getD_rV (f : Nat → Nat) (cs : Array Value) (i : Nat) : (cs.map (rV f)).getD i (.tuple #[]) = rV f (cs.getD i (.tuple #[])) := by
  rw [Array.getD_eq_getD_getElem?, Array.getD_eq_getD_getElem?, Array.getElem?_map]
  cases cs[i]? with
  | none => exact (undef_rV f).symm
  | some v => rfl
section
variable {E : Env} {n m : Nat}
theorem Env.I.mono {k : Nat} (h : E.I n k) (hm : n ≤ m) : E.I m k := ⟨h.1, Nat.lt_of_lt_of_le h.2 hm⟩
theorem Env.A.mono {k : Nat} (h : E.A n k) (hm : n ≤ m) : E.A m k := h.imp (·.mono hm) id
theorem okA_mono {a : Option Addr} (h : okA E n a) (hm : n ≤ m) : okA E m a := by
  cases a with
  | none => trivial
  | some a => exact Env.A.mono h hm
theorem okFn_mono {fn : Fn} (h : okFn E n fn) (hm : n ≤ m) : okFn E m fn := by
  cases fn <;> first | exact h | exact Env.I.mono h hm
theorem okV_mono (hm : n ≤ m) : ∀ v : Value, okV E n v → okV E m v
  | .func fn a b, h => by
    rw [okV] at h ⊢
    exact ⟨okFn_mono h.1 hm, fun x hx => okV_mono hm x (h.2.1 x hx), fun x hx => okV_mono hm x (h.2.2 x hx)⟩
  | .iface t v, h => by
    rw [okV] at h ⊢
    exact ⟨h.1, okV_mono hm v h.2⟩
  | .agg cs, h => by
    rw [okV] at h ⊢
    exact fun x hx => okV_mono hm x (h x hx)
  | .tuple cs, h => by
    rw [okV] at h ⊢
    exact fun x hx => okV_mono hm x (h x hx)
  | .pointer a, h => by
    rw [okV] at h ⊢
    exact okA_mono h hm
  | .slice a _ _, h => by
    rw [okV] at h ⊢
    exact okA_mono h hm
  | .map r, h => by
    rw [okV] at h ⊢
    exact fun k hk => (h k hk).mono hm
  | .chan r, h => by
    rw [okV] at h ⊢
    exact h
  | .float _ _, h | .complex _ _ _, h => by rw [okV] at h; exact h.elim
  | .bool _, _ | .int _ _, _ | .string _, _ | .nilFunc, _ | .nilIface, _ => by rw [okV] <;> simp
theorem okAll_mono {cs : Array Value} (h : okAll E n cs) (hm : n ≤ m) : okAll E m cs := fun x hx => okV_mono hm x (h x hx)
theorem okT_mono {t : Target} (h : okT E n t) (hm : n ≤ m) : okT E m t := by
  cases t with
  | fn fn c => exact ⟨okFn_mono h.1 hm, okAll_mono h.2 hm⟩
  | collected r => exact Env.I.mono h hm
  | _ => exact h
theorem okD_mono {d : Deferred} (h : okD E n d) (hm : n ≤ m) : okD E m d := ⟨okT_mono h.1 hm, okAll_mono h.2 hm⟩
theorem okO_mono {o : Obj} (h : okO E n o) (hm : n ≤ m) : okO E m o := by
  cases o with
  | cells c t z => exact okAll_mono h hm
  | map es k => exact fun e he => ⟨okV_mono hm _ (h e he).1, okV_mono hm _ (h e he).2⟩
  | mapIter a _ _ _ => exact fun k hk => (h k hk).mono hm
  | stringIter _ _ => trivial
  | loop l => exact ⟨h.1, okAll_mono h.2.1 hm, h.2.2.1, h.2.2.2.1, h.2.2.2.2.1.mono hm, h.2.2.2.2.2⟩
  | deferred ds => exact fun l hl d hd => okD_mono (h l hl d hd) hm
  | view a _ => exact ⟨Env.A.mono h.1 hm, h.2⟩
  | number a _ => exact Env.A.mono h hm
  | _ => exact h
end
structure Ag (E : Env) (n : Nat) (f g : Nat → Nat) : Prop where
  R : ∀ k, E.R k → f k = g k
  O : ∀ k, E.O k → f k = g k
  I : ∀ k, E.I n k → f k = g k
section
variable {E : Env} {n : Nat} {f g : Nat → Nat}
theorem eqA (H : Ag E n f g) {k : Nat} (h : E.A n k) : f k = g k := by
  rcases h with h | h | h
  · exact H.I k h
  · exact H.R k h
  · exact H.O k h
theorem rA_eq (H : Ag E n f g) {a : Addr} (h : E.A n a.block) : rA f a = rA g a := by
  unfold rA
  rw [eqA H h]
theorem oA_eq (H : Ag E n f g) {a : Option Addr} (h : okA E n a) : a.map (rA f) = a.map (rA g) := by
  cases a with
  | none => rfl
  | some a => exact congrArg some (rA_eq H h)
theorem rFn_eq (H : Ag E n f g) {fn : Fn} (h : okFn E n fn) : rFn f fn = rFn g fn := by
  cases fn <;> first | rfl | exact h.elim | exact congrArg Fn.yield (H.I _ h)
theorem rV_eq (H : Ag E n f g) : ∀ v : Value, okV E n v → rV f v = rV g v
  | .func fn a b, h => by
    rw [okV] at h
    rw [rV, rV, rFn_eq H h.1, Array.map_congr_left (fun x hx => rV_eq H x (h.2.1 x hx)), Array.map_congr_left (fun x hx => rV_eq H x (h.2.2 x hx))]
  | .iface t v, h => by
    rw [okV] at h
    rw [rV, rV, rV_eq H v h.2]
  | .agg cs, h => by
    rw [okV] at h
    rw [rV, rV, Array.map_congr_left (fun x hx => rV_eq H x (h x hx))]
  | .tuple cs, h => by
    rw [okV] at h
    rw [rV, rV, Array.map_congr_left (fun x hx => rV_eq H x (h x hx))]
  | .pointer a, h => by
    rw [okV] at h
    rw [rV, rV, oA_eq H h]
  | .slice a _ _, h => by
    rw [okV] at h
    rw [rV, rV, oA_eq H h]
  | .map r, h => by
    rw [okV] at h
    rw [rV, rV]
    cases r with
    | none => rfl
    | some k => exact congrArg (fun x => Value.map (some x)) (H.I k (h k rfl))
  | .chan r, h => by
    rw [okV] at h
    subst h
    rw [rV, rV]
    rfl
  | .bool _, _ | .int _ _, _ | .float _ _, _ | .complex _ _ _, _ | .string _, _ | .nilFunc, _ | .nilIface, _ => by rw [rV, rV]
theorem rAll_eq (H : Ag E n f g) {cs : Array Value} (h : okAll E n cs) : cs.map (rV f) = cs.map (rV g) := Array.map_congr_left (fun x hx => rV_eq H x (h x hx))
theorem rT_eq (H : Ag E n f g) {t : Target} (h : okT E n t) : rT f t = rT g t := by
  cases t with
  | fn fn c => simp only [rT]; rw [rFn_eq H h.1, rAll_eq H h.2]
  | collected r => exact congrArg Target.collected (H.I _ h)
  | coroexit c => exact h.elim
  | _ => rfl
theorem rD_eq (H : Ag E n f g) {d : Deferred} (h : okD E n d) : rD f d = rD g d := by
  unfold rD
  rw [rT_eq H h.1, rAll_eq H h.2]
theorem rO_eq (H : Ag E n f g) {o : Obj} (h : okO E n o) : rO f o = rO g o := by
  cases o with
  | cells c t z => simp only [rO]; rw [rAll_eq H h]
  | map es k =>
    simp only [rO]
    rw [Array.map_congr_left (fun e he => ?_)]
    unfold rE
    rw [rV_eq H _ (h e he).1, rV_eq H _ (h e he).2]
  | mapIter a _ _ _ =>
    cases a with
    | none => rfl
    | some k => simp only [rO, Option.map_some]; rw [H.I k (h k rfl)]
  | loop l => simp only [rO, rL]; rw [rAll_eq H h.2.1, H.I _ h.2.2.2.2.1]
  | deferred ds =>
    cases ds with
    | none => rfl
    | some l =>
      simp only [rO, Option.map_some]
      rw [List.map_congr_left (fun d hd => rD_eq H (h l rfl d hd))]
  | view a _ => simp only [rO]; rw [rA_eq H h.1]
  | number a _ => simp only [rO]; rw [rA_eq H h]
  | _ => first | rfl | exact h.elim
end
structure Fit (E : Env) (f : Nat → Nat) : Prop where
  inj : ∀ a b, f a = f b → a = b
  low : ∀ k, k < E.B → f k = k
  ro : ∀ k, E.R k → k < E.B
  op : ∀ k, E.O k → k < E.B
  no : ∀ k, E.R k → ¬ E.O k
  pt : ∀ u, E.V u = true → ∀ off l, plainCell E.P E.P.depth u off = some l → noF l = true
theorem Fit.ge {E : Env} {f : Nat → Nat} (h : Fit E f) {k : Nat} (hk : E.B ≤ k) : E.B ≤ f k := by
  rcases Nat.lt_or_ge (f k) E.B with hlt | hge
  · have := h.inj (f k) k (h.low _ hlt)
    omega
  · exact hge
structure HRel (E : Env) (f : Nat → Nat) (hl hc : Array Obj) : Prop where
  own : ∀ k o, E.B ≤ k → hl[k]? = some o → okO E hl.size o ∧ hc[f k]? = some (rO f o)
  ro : ∀ k, E.R k → ∃ c t, hl[k]? = some (.cells c t (0, c.size)) ∧ hc[k]? = some (.cells c t (0, 0)) ∧ ∀ v, v ∈ c → okV E hl.size v ∧ roV v ∧ rV f v = v
  op : ∀ k, E.O k → ∃ c e c', hl[k]? = some (.pending c e) ∧ hc[k]? = some (.cells c' e (0, 0)) ∧ c'.size = c.size ∧ 0 < c.size
  base : E.B ≤ hl.size
  new : ∀ j, hl.size ≤ j → f j + hl.size = hc.size + j
def Listed (E : Env) (l : List Nat) (w : World) : Prop := w.os = E.os ∧ ∀ i q, i < l.length → w.tape (w.drawn + i) q = l.getD i 0
theorem Listed.left {E : Env} {l m : List Nat} {w : World} (h : Listed E (l ++ m) w) : Listed E l w := ⟨h.1, fun i q hi => by
  rw [h.2 i q (by simp; omega)]
  simp [List.getD_eq_getElem?_getD, List.getElem?_append_left hi]⟩
theorem Listed.right {E : Env} {l m : List Nat} {w w' : World} (h : Listed E (l ++ m) w) (ht : w'.tape = w.tape) (hd : w'.drawn = w.drawn + l.length) (ho : w'.os = w.os) : Listed E m w' := ⟨ho.trans h.1, fun i q hi => by
  rw [ht, hd, Nat.add_assoc, h.2 (l.length + i) q (by simp; omega)]
  simp [List.getD_eq_getElem?_getD, List.getElem?_append_right]⟩
def badH (E : Env) : Halt → Prop
  | .stuck _ => True
  | .unsupported (.initOrder k) => E.O k
  | .unsupported _ => True
  | _ => False
def resOf {α : Type} (E : Env) (w : World) : Option (Except Value α) → Result α → Prop
  | some (.ok a), x => x = .ok a w
  | some (.error v), x => x = .halt (.panic v) w
  | none, x => ∃ h w', badH E h ∧ x = .halt h w'
def resC {α : Type} (E : Env) (f : Nat → Nat) (n : Nat) (Q : Nat → α → α → Prop) (w : World) : Option (Except Value α) → Result α → Prop
  | some (.ok a), x => ∃ a', Q n a a' ∧ x = .ok a' w
  | some (.error v), x => okV E n v ∧ x = .halt (.panic (rV f v)) w
  | none, _ => True
def Alone {α : Type} (E : Env) (t : Sem α) (hl : Array Obj) (l : List Nat) (r : Option (Except Value α)) (hl' : Array Obj) : Prop :=
  ∀ (w : World) (es : Array Event), w.heap = hl → Listed E l w → ∃ x es', t.runT E.P w es = (x, es') ∧ resOf E { w with heap := hl', drawn := w.drawn + l.length } r x
def mild : Mark → Prop
  | .extern _ | .noRoom => True
  | _ => False
def EvOk (E : Env) (f : Nat → Nat) (n : Nat) (e : Event) : Prop :=
  (∃ m, e = ⟨.mark m, false, true⟩ ∧ mild m) ∨ (∃ k, E.I n k ∧ e.sync = false ∧ (e.loc = .obj (f k) ∨ ∃ a, a.block = f k ∧ e.loc = .cell a)) ∨ (∃ a, E.R a.block ∧ e = ⟨.cell a, false, false⟩) ∨ e.loc = .output
theorem EvOk.mono {E : Env} {f : Nat → Nat} {n m : Nat} {e : Event} (h : EvOk E f n e) (hn : n ≤ m) : EvOk E f m e := by
  rcases h with h | ⟨k, h1, h3⟩ | h | h
  · exact .inl h
  · exact .inr (.inl ⟨k, h1.mono hn, h3⟩)
  · exact .inr (.inr (.inl h))
  · exact .inr (.inr (.inr h))
structure Left (E : Env) (f : Nat → Nat) (hl hl' : Array Obj) (w w' : World) (es : Array Event) : Prop where
  rel : HRel E f hl' w'.heap
  size : w'.heap.size + hl.size = w.heap.size + hl'.size
  stay : ∀ b, b < w.heap.size → (∀ k, E.I hl.size k → f k ≠ b) → w'.heap[b]? = w.heap[b]?
  tape : w'.tape = w.tape
  os : w'.os = w.os
  out : w'.output = w.output
  evs : ∀ e, e ∈ es → EvOk E f hl'.size e
def Sim {α : Type} (E : Env) (f : Nat → Nat) (n : Nat) (Q : Nat → α → α → Prop) (t t' : Sem α) : Prop :=
  ∀ (hl : Array Obj) (w : World), HRel E f hl w.heap → n ≤ hl.size → w.os = E.os → ∃ (l : List Nat) (r : Option (Except Value α)) (hl' : Array Obj), Alone E t hl l r hl' ∧ hl.size ≤ hl'.size ∧
    (r ≠ none → ∃ (w' : World) (es' : Array Event), Left E f hl hl' w w' es' ∧ ∀ es, ∃ x, t'.runT E.P w es = (x, es ++ es') ∧ resC E f hl'.size Q w' r x)
def VQ (E : Env) (f : Nat → Nat) (n : Nat) (v v' : Value) : Prop := v' = rV f v ∧ okV E n v
def EQ {α : Type} (_ : Nat) (a a' : α) : Prop := a' = a
section
variable {E : Env} {f : Nat → Nat} {n : Nat}
theorem Left.refl {hl : Array Obj} {w : World} (h : HRel E f hl w.heap) : Left E f hl hl w w #[] := ⟨h, rfl, fun _ _ _ => rfl, rfl, rfl, rfl, fun e he => by simp at he⟩
theorem Left.trans {h0 h1 h2 : Array Obj} {w0 w1 w2 : World} {es es' : Array Event} (hr : HRel E f h0 w0.heap) (a : Left E f h0 h1 w0 w1 es) (b : Left E f h1 h2 w1 w2 es') (hs : h0.size ≤ h1.size) (hs2 : h1.size ≤ h2.size) : Left E f h0 h2 w0 w2 (es ++ es') := by
  have := a.size
  refine ⟨b.rel, by have := b.size; omega, fun x hx hk => ?_, b.tape.trans a.tape, b.os.trans a.os, b.out.trans a.out, fun e he => ?_⟩
  · refine (b.stay x (by omega) fun k hk1 => ?_).trans (a.stay x hx hk)
    rcases Nat.lt_or_ge k h0.size with hlt | hge
    · exact hk k ⟨hk1.1, hlt⟩
    · have := hr.new k hge
      omega
  · rcases Array.mem_append.1 he with he | he
    · exact (a.evs e he).mono hs2
    · exact b.evs e he
theorem Sim.mono {α : Type} {m : Nat} {Q Q' : Nat → α → α → Prop} {t t' : Sem α} (h : Sim E f n Q t t') (hm : n ≤ m) (hq : ∀ k a a', m ≤ k → Q k a a' → Q' k a a') : Sim E f m Q' t t' := by
  intro hl w hr hn hos
  obtain ⟨l, r, hl1, ha, hs, hc⟩ := h hl w hr (Nat.le_trans hm hn) hos
  refine ⟨l, r, hl1, ha, hs, fun hne => ?_⟩
  obtain ⟨w1, es1, hL, hx⟩ := hc hne
  refine ⟨w1, es1, hL, fun es => ?_⟩
  obtain ⟨x, hx, hres⟩ := hx es
  refine ⟨x, hx, ?_⟩
  match r, hres with
  | some (.ok a), ⟨a', hQ, e⟩ => exact ⟨a', hq _ _ _ (Nat.le_trans hn hs) hQ, e⟩
  | some (.error v), h => exact h
  | none, h => exact h
theorem Sim.pure {α : Type} {Q : Nat → α → α → Prop} {a a' : α} (h : ∀ m, n ≤ m → Q m a a') : Sim E f n Q (Pure.pure a) (Pure.pure a') := by
  intro hl w hr hn hos
  exact ⟨[], some (.ok a), hl, fun w es hw _ => ⟨_, _, rfl, by subst hw; rfl⟩, Nat.le_refl _, fun _ => ⟨w, #[], .refl hr, fun es => ⟨_, by rw [Array.append_empty]; rfl, a', h _ hn, rfl⟩⟩⟩
theorem Sim.halt {α : Type} {Q : Nat → α → α → Prop} {h : Halt} (hb : badH E h) {t : Sem α} : Sim E f n Q (.halt h) t := by
  intro hl w hr _ _
  exact ⟨[], none, hl, fun w es hw _ => ⟨_, _, rfl, h, w, hb, rfl⟩, Nat.le_refl _, fun h => absurd rfl h⟩
theorem Sim.stuck {α : Type} {Q : Nat → α → α → Prop} {s : String} {t : Sem α} : Sim E f n Q (stuck s) t := Sim.halt (h := .stuck s) trivial
theorem Sim.unsupported {α : Type} {Q : Nat → α → α → Prop} {u : Unsupported} (hu : ∀ k, u ≠ .initOrder k) {t : Sem α} : Sim E f n Q (unsupported u) t := by
  refine Sim.halt ?_
  cases u <;> first | trivial | exact absurd rfl (hu _)
theorem Sim.goPanic {α : Type} {Q : Nat → α → α → Prop} {v : Value} (h : okV E n v) : Sim E f n Q (goPanic v : Sem α) (goPanic (rV f v)) := by
  intro hl w hr hn hos
  exact ⟨[], some (.error v), hl, fun w es hw _ => ⟨_, _, rfl, by subst hw; rfl⟩, Nat.le_refl _, fun _ => ⟨w, #[], .refl hr, fun es => ⟨_, by rw [Array.append_empty]; rfl, okV_mono hn _ h, rfl⟩⟩⟩
theorem runT_bindM {α β : Type} (P : Program) (x : Sem α) (g : α → Sem β) (w : World) (es : Array Event) :
    (x >>= g).runT P w es = match x.runT P w es with
      | (.ok a w', es') => (g a).runT P w' es'
      | (.halt h w', es') => (.halt h w', es') := Sem.runT_bind' P x g w es
theorem runT_fst_same {α : Type} (P : Program) (x : Sem α) (w : World) (es es' : Array Event) : (x.runT P w es).1 = (x.runT P w es').1 := by rw [Sem.runT_fst, Sem.runT_fst]
theorem Sim.bind {α β : Type} {Q : Nat → α → α → Prop} {Q' : Nat → β → β → Prop} {t t' : Sem α} {g g' : α → Sem β} (h : Sim E f n Q t t') (hg : ∀ m a a', n ≤ m → Q m a a' → Sim E f m Q' (g a) (g' a')) : Sim E f n Q' (t >>= g) (t' >>= g') := by
  intro hl w hr hn hos
  obtain ⟨l, r, hl1, ha, hs, hc⟩ := h hl w hr hn hos
  match r, ha, hc with
  | none, ha, hc =>
    refine ⟨l, none, hl1, fun w es hw hl => ?_, hs, fun h => absurd rfl h⟩
    obtain ⟨x, es', hx, hh, w', hb, rfl⟩ := ha w es hw hl
    exact ⟨_, _, by rw [runT_bindM, hx], hh, w', hb, rfl⟩
  | some (.error v), ha, hc =>
    refine ⟨l, some (.error v), hl1, fun w es hw hl => ?_, hs, fun _ => ?_⟩
    · obtain ⟨x, es', hx, rfl⟩ := ha w es hw hl
      exact ⟨_, _, by rw [runT_bindM, hx], rfl⟩
    · obtain ⟨w1, es1, hL, hx⟩ := hc (by simp)
      refine ⟨w1, es1, hL, fun es => ?_⟩
      obtain ⟨x, hx, hv, rfl⟩ := hx es
      exact ⟨_, by rw [runT_bindM, hx], hv, rfl⟩
  | some (.ok a), ha, hc =>
    obtain ⟨w1, es1, hL, hx⟩ := hc (by simp)
    obtain ⟨x0, hx0, a', hQ, rfl⟩ := hx #[]
    obtain ⟨l2, r2, hl2, ha2, hs2, hc2⟩ := hg hl1.size a a' (Nat.le_trans hn hs) hQ hl1 w1 hL.rel (Nat.le_refl _) (hL.os.trans hos)
    refine ⟨l ++ l2, r2, hl2, fun v es hv hlst => ?_, Nat.le_trans hs hs2, fun hne => ?_⟩
    · obtain ⟨x, es', hx, rfl⟩ := ha v es hv hlst.left
      obtain ⟨y, es'', hy, hres⟩ := ha2 { v with heap := hl1, drawn := v.drawn + l.length } es' rfl (hlst.right rfl rfl rfl)
      refine ⟨y, es'', by rw [runT_bindM, hx]; exact hy, ?_⟩
      simpa [Nat.add_assoc] using hres
    · obtain ⟨w2, es2, hL2, hx2⟩ := hc2 hne
      refine ⟨w2, es1 ++ es2, hL.trans hr hL2 hs hs2, fun es => ?_⟩
      obtain ⟨x1, hx1, a1, _, rfl⟩ := hx es
      obtain ⟨y, hy, hres⟩ := hx2 (es ++ es1)
      have e1 : a1 = a' := by
        have h4 := runT_fst_same E.P t' w es #[]
        rw [hx1, hx0] at h4
        simpa using h4
      subst e1
      exact ⟨y, by rw [runT_bindM, hx1]; simpa [Array.append_assoc] using hy, hres⟩
theorem Sim.stuckB {α β : Type} {Q : Nat → β → β → Prop} {s : String} {g : α → Sem β} {t : Sem β} : Sim E f n Q (Go.stuck s >>= g) t := Sim.halt (h := .stuck s) trivial
theorem Sim.unsB {α β : Type} {Q : Nat → β → β → Prop} {u : Unsupported} (hu : ∀ k, u ≠ .initOrder k) {g : α → Sem β} {t : Sem β} : Sim E f n Q (Go.unsupported u >>= g) t := Sim.unsupported hu
theorem Sim.program {α : Type} {Q : Nat → α → α → Prop} {g g' : Program → Sem α} (h : Sim E f n Q (g E.P) (g' E.P)) : Sim E f n Q (Go.program >>= g) (Go.program >>= g') := h
theorem Sim.ite {α : Type} {Q : Nat → α → α → Prop} {c : Prop} [Decidable c] {a b a' b' : Sem α} (h : c → Sim E f n Q a a') (h' : ¬ c → Sim E f n Q b b') : Sim E f n Q (if c then a else b) (if c then a' else b') := by
  split
  · exact h ‹_›
  · exact h' ‹_›
end
section
variable {P : Program}
def Like (c c' : Array Value) : Prop := ∀ i : Nat, (c'[i]?).map Value.bytes? = (c[i]?).map Value.bytes?
theorem Like.map (f : Nat → Nat) (c : Array Value) : Like c (c.map (rV f)) := fun i => by
  rw [Array.getElem?_map]
  cases c[i]? <;> simp [bytes_rV]
theorem seenCells_like {c c' : Array Value} (h : Like c c') (e : TypeId) : ∀ n x stop, seenCells P c' e n x stop = seenCells P c e n x stop
  | 0, _, _ => rfl
  | n + 1, x, stop => by
    unfold seenCells
    simp only
    split
    · rfl
    · split
      · rfl
      · split
        · rfl
        · rename_i i s _
          have hi := h i
          cases h1 : c[i]? with
          | none =>
            rw [h1] at hi
            have : c'[i]? = none := by simpa using hi
            rw [this]
          | some v =>
            rw [h1] at hi
            cases h2 : c'[i]? with
            | none => rw [h2] at hi; cases hi
            | some v' =>
              rw [h2] at hi
              have hb : v'.bytes? = v.bytes? := by simpa using hi
              simp only [hb]
              split
              · rfl
              · rfl
              · rw [seenCells_like h e n]
theorem seen_like {w w' : World} {at_ at' : Addr} {u : TypeId} {k k' : Addr} {atomic : Bool} {c c' : Array Value} {e : TypeId} {z z' : Nat × Nat} (hc : w.heap[at_.block]? = some (.cells c e z)) (hc' : w'.heap[at'.block]? = some (.cells c' e z'))
    (hl : Like c c') (ho : at'.off = at_.off) (hs : at'.spot = at_.spot) (hk : k'.off = k.off) (hks : k'.spot = k.spot) :
    w'.seen P at' u k' atomic = (w.seen P at_ u k atomic).map fun x => (c', x.2.1, z', x.2.2.2.1, x.2.2.2.2.1, x.2.2.2.2.2) := by
  unfold World.seen
  simp only [hc, hc', ho, hs, hk, hks, seenCells_like hl, bind, Except.bind, pure, Except.pure, throwThe, MonadExceptOf.throw, MonadExcept.throw]
  cases hb : (k.spot.isSome || at_.spot.isSome) with
  | true => rfl
  | false =>
    simp only [Bool.false_eq_true, if_false]
    cases h1 : plainCell P P.depth u k.off with
    | none => rfl
    | some like =>
      simp only
      cases h2 : like.bytes?.map (·.length) with
      | none => rfl
      | some size =>
        simp only
        cases h3 : byteOfCell P P.depth u k.off with
        | none => rfl
        | some β =>
          simp only
          by_cases h4 : P.cellsOf e = 0
          · simp only [h4, if_true]; rfl
          · simp only [h4, if_false]
            cases h5 : byteOfCell P P.depth e (at_.off % P.cellsOf e) with
            | none => rfl
            | some b0 =>
              simp only
              cases h6 : seenCells P c e (size + 1) (at_.off / P.cellsOf e * P.bytesOf e + b0 + β) (at_.off / P.cellsOf e * P.bytesOf e + b0 + β + size) with
              | error x => rfl
              | ok l =>
                simp only
                cases atomic with
                | false => rfl
                | true =>
                  simp only [if_true]
                  match l with
                  | [] => rfl
                  | [(i, s, bs)] =>
                    simp only
                    split <;> rfl
                  | x :: y :: r => rfl
theorem seen_row {w : World} {at_ : Addr} {u : TypeId} {k : Addr} {atomic : Bool} {x : Array Value × TypeId × (Nat × Nat) × Nat × Value × List (Nat × Nat × List UInt8)} (h : w.seen P at_ u k atomic = .ok x) : w.heap[at_.block]? = some (.cells x.1 x.2.1 x.2.2.1) := by
  unfold World.seen at h
  simp only [bind, Except.bind, pure, Except.pure, throwThe, MonadExceptOf.throw, MonadExcept.throw] at h
  split at h
  · cases h
  · split at h
    · split at h
      · split at h
        · split at h
          · rename_i c e z hc
            split at h
            · cases h
            · split at h
              · split at h
                · cases h
                · split at h
                  · split at h
                    · split at h
                      · cases h
                      · cases h; exact hc
                    · cases h
                  · cases h; exact hc
              · cases h
          · cases h
        · cases h
      · cases h
    · cases h
theorem viewLoad_row {w : World} {at_ : Addr} {u : TypeId} {k : Addr} {atomic : Bool} {x : Value × List Addr} (h : w.viewLoad P at_ u k atomic = .ok x) : ∃ c e z, w.heap[at_.block]? = some (.cells c e z) := by
  unfold World.viewLoad at h
  simp only [bind, Except.bind] at h
  cases h1 : w.seen P at_ u k atomic with
  | error y => rw [h1] at h; cases h
  | ok y => exact ⟨_, _, _, seen_row h1⟩
theorem viewStore_row {w : World} {at_ : Addr} {u : TypeId} {k : Addr} {v : Value} {atomic : Bool} {x : World × List Addr} (h : w.viewStore P at_ u k v atomic = .ok x) : ∃ c e z, w.heap[at_.block]? = some (.cells c e z) := by
  unfold World.viewStore at h
  simp only [bind, Except.bind, throwThe, MonadExceptOf.throw, MonadExcept.throw] at h
  split at h
  · cases h
  · cases h1 : w.seen P at_ u k atomic with
    | error y => rw [h1] at h; cases h
    | ok y => exact ⟨_, _, _, seen_row h1⟩
theorem ofBytes_plain {like v : Value} {bs : List UInt8} (hn : noF like = true) (h : like.ofBytes bs = some v) : plain0 v = true := by
  unfold Value.ofBytes at h
  repeat' split at h
  all_goals first | (cases hn; done) | (cases h; rfl) | (cases h; done)
theorem seen_cell {w : World} {at_ : Addr} {u : TypeId} {k : Addr} {atomic : Bool} {x : Array Value × TypeId × (Nat × Nat) × Nat × Value × List (Nat × Nat × List UInt8)} (h : w.seen P at_ u k atomic = .ok x) : plainCell P P.depth u k.off = some x.2.2.2.2.1 := by
  unfold World.seen at h
  simp only [bind, Except.bind, pure, Except.pure, throwThe, MonadExceptOf.throw, MonadExcept.throw] at h
  split at h
  · cases h
  · split at h
    · rename_i like hl
      split at h
      · split at h
        · split at h
          · split at h
            · cases h
            · split at h
              · split at h
                · cases h
                · split at h
                  · split at h
                    · split at h
                      · cases h
                      · cases h; exact hl
                    · cases h
                  · cases h; exact hl
              · cases h
          · cases h
        · cases h
      · cases h
    · cases h
def Pt (P : Program) (u : TypeId) : Prop := ∀ off l, plainCell P P.depth u off = some l → noF l = true
theorem ofBytes_rV (f : Nat → Nat) (v : Value) (bs : List UInt8) : (rV f v).ofBytes bs = v.ofBytes bs := by
  cases v <;> simp [rV, Value.ofBytes]
theorem viewLoad_like {w w' : World} {at_ at' : Addr} {u : TypeId} {k k' : Addr} {atomic : Bool} {c c' : Array Value} {e : TypeId} {z z' : Nat × Nat} (hc : w.heap[at_.block]? = some (.cells c e z)) (hc' : w'.heap[at'.block]? = some (.cells c' e z'))
    (hV : Pt P u) (hl : Like c c') (ho : at'.off = at_.off) (hs : at'.spot = at_.spot) (hk : k'.off = k.off) (hks : k'.spot = k.spot) {v : Value} {tl : List Addr} (h : w.viewLoad P at_ u k atomic = .ok (v, tl)) :
    plain0 v = true ∧ ∃ tl', w'.viewLoad P at' u k' atomic = .ok (v, tl') ∧ ∀ a ∈ tl', a.block = at'.block := by
  unfold World.viewLoad at h ⊢
  rw [seen_like (P := P) (u := u) (atomic := atomic) hc hc' hl ho hs hk hks]
  simp only [bind, Except.bind, pure, Except.pure, throwThe, MonadExceptOf.throw, MonadExcept.throw] at h ⊢
  cases h1 : w.seen P at_ u k atomic with
  | error x => rw [h1] at h; cases h
  | ok x =>
    obtain ⟨c0, e0, z0, first, like, cells⟩ := x
    rw [h1] at h
    simp only [Except.map] at h ⊢
    split at h
    · rename_i v0 hv
      simp only [Except.ok.injEq, Prod.mk.injEq] at h
      obtain ⟨rfl, rfl⟩ := h
      refine ⟨ofBytes_plain (hV _ _ (seen_cell h1)) hv, _, rfl, ?_⟩
      intro a ha
      simp only [List.mem_map] at ha
      obtain ⟨x, _, rfl⟩ := ha
      rfl
    · cases h
theorem fold_like {f : Nat → Nat} {z : Nat × Nat} {first : Nat} {bytes : List UInt8} : ∀ (cells : List (Nat × Nat × List UInt8)) (c c2 : Array Value),
    cells.foldlM (init := c) (fun c ((i, s, bs) : Nat × Nat × List UInt8) => (do
      if s < first || s + bs.length > first + bytes.length then MonadExcept.throw "memory seen as another type: a part of a cell written"
      if z.1 ≤ i && i < z.2 then MonadExcept.throw "a write to bytes that a string shares"
      let some old := c[i]? | MonadExcept.throw "memory seen as another type: no such cell"
      let some new := old.ofBytes ((bytes.drop (s - first)).take bs.length) | MonadExcept.throw "memory seen as another type: a bool from a byte other than 0 or 1"
      pure (c.setIfInBounds i new) : Except String (Array Value))) = .ok c2 →
    cells.foldlM (init := c.map (rV f)) (fun c ((i, s, bs) : Nat × Nat × List UInt8) => (do
      if s < first || s + bs.length > first + bytes.length then MonadExcept.throw "memory seen as another type: a part of a cell written"
      if z.1 ≤ i && i < z.2 then MonadExcept.throw "a write to bytes that a string shares"
      let some old := c[i]? | MonadExcept.throw "memory seen as another type: no such cell"
      let some new := old.ofBytes ((bytes.drop (s - first)).take bs.length) | MonadExcept.throw "memory seen as another type: a bool from a byte other than 0 or 1"
      pure (c.setIfInBounds i new) : Except String (Array Value))) = .ok (c2.map (rV f)) ∧ c2.size = c.size ∧ ((∀ x ∈ c, noF x = true) → ∀ x ∈ c2, x ∈ c ∨ plain0 x = true)
  | [], c, c2, h => by
    cases h
    exact ⟨rfl, rfl, fun _ x hx => .inl hx⟩
  | (i, s, bs) :: r, c, c2, h => by
    rw [List.foldlM_cons] at h ⊢
    simp only [bind, Except.bind, pure, Except.pure, throwThe, MonadExceptOf.throw, MonadExcept.throw] at h ⊢
    cases h1 : (decide (s < first) || decide (s + bs.length > first + bytes.length)) with
    | true => simp only [h1, if_true] at h; cases h
    | false =>
      simp only [h1, Bool.false_eq_true, if_false] at h ⊢
      cases h2 : (decide (z.1 ≤ i) && decide (i < z.2)) with
      | true => simp only [h2, if_true] at h; cases h
      | false =>
        simp only [h2, Bool.false_eq_true, if_false] at h ⊢
        cases h3 : c[i]? with
        | none => simp only [h3] at h; cases h
        | some old =>
          rw [Array.getElem?_map, h3]
          simp only [h3, Option.map_some] at h ⊢
          rw [ofBytes_rV]
          cases h4 : old.ofBytes ((bytes.drop (s - first)).take bs.length) with
          | none => simp only [h4] at h; cases h
          | some new =>
            simp only [h4] at h ⊢
            have e1 : (c.map (rV f)).setIfInBounds i new = (c.setIfInBounds i new).map (rV f) := by
              have hb : rV f new = new := by
                unfold Value.ofBytes at h4
                repeat' split at h4
                all_goals first | (cases h4; simp [rV]) | cases h4
              rw [Array.map_setIfInBounds, hb]
            rw [e1]
            obtain ⟨k1, k2, k3⟩ := fold_like r _ _ h
            refine ⟨k1, by rw [k2, Array.size_setIfInBounds], fun hn x hx => ?_⟩
            have hp := ofBytes_plain (hn old (Array.mem_of_getElem? h3)) h4
            rcases k3 (fun y hy => by
              rcases Array.mem_or_eq_of_mem_setIfInBounds hy with k | rfl
              · exact hn y k
              · exact noF_plain hp) x hx with k | k
            · rcases Array.mem_or_eq_of_mem_setIfInBounds k with k | rfl
              · exact .inl k
              · exact .inr hp
            · exact .inr k
theorem viewStore_like {f : Nat → Nat} {w w' : World} {at_ at' : Addr} {u : TypeId} {k k' : Addr} {v : Value} {atomic : Bool} {c : Array Value} {e : TypeId} {z : Nat × Nat} (hc : w.heap[at_.block]? = some (.cells c e z)) (hc' : w'.heap[at'.block]? = some (.cells (c.map (rV f)) e z))
    (ho : at'.off = at_.off) (hs : at'.spot = at_.spot) (hk : k'.off = k.off) (hks : k'.spot = k.spot) {x : World} {tl : List Addr} (h : w.viewStore P at_ u k v atomic = .ok (x, tl)) :
    ∃ c2 tl', x = { w with heap := w.heap.setIfInBounds at_.block (.cells c2 e z) } ∧ c2.size = c.size ∧ ((∀ y ∈ c, noF y = true) → ∀ y ∈ c2, y ∈ c ∨ plain0 y = true) ∧
      w'.viewStore P at' u k' (rV f v) atomic = .ok ({ w' with heap := w'.heap.setIfInBounds at'.block (.cells (c2.map (rV f)) e z) }, tl') ∧ ∀ a ∈ tl', a.block = at'.block := by
  unfold World.viewStore at h ⊢
  rw [seen_like (P := P) (u := u) (atomic := atomic) hc hc' (Like.map f c) ho hs hk hks]
  simp only [bind, Except.bind, pure, Except.pure, throwThe, MonadExceptOf.throw, MonadExcept.throw, bytes_rV] at h ⊢
  cases h0 : tight P P.depth u with
  | false => rw [h0] at h; cases h
  | true =>
    simp only [h0, Bool.not_true, Bool.false_eq_true, if_false] at h ⊢
    cases h1 : w.seen P at_ u k atomic with
    | error x => rw [h1] at h; cases h
    | ok y =>
      have hy := seen_row h1
      obtain ⟨c0, e0, z0, first, like, cells⟩ := y
      rw [hc] at hy
      simp only [Option.some.injEq, Obj.cells.injEq] at hy
      obtain ⟨rfl, rfl, rfl⟩ := hy
      rw [h1] at h
      simp only [Except.map] at h ⊢
      cases h2 : v.bytes? with
      | none => rw [h2] at h; cases h
      | some bytes =>
        rw [h2] at h
        simp only at h ⊢
        split at h
        · cases h
        · rename_i h3
          rw [if_neg h3]
          split at h
          · cases h
          · rename_i c2 h4
            obtain ⟨k1, k2, k3⟩ := fold_like (f := f) (z := z) (first := first) (bytes := bytes) cells c c2 h4
            simp only [Except.ok.injEq, Prod.mk.injEq] at h
            obtain ⟨rfl, rfl⟩ := h
            refine ⟨c2, cells.map fun x => { block := at'.block, off := x.1 }, rfl, k2, k3, ?_, ?_⟩
            · exact congrArg (fun r : Except String (Array Value) => r.bind fun v => Except.ok (({ w' with heap := w'.heap.setIfInBounds at'.block (Obj.cells v e z) } : World), cells.map fun x => ({ block := at'.block, off := x.1 } : Addr))) k1
            intro a ha
            simp only [List.mem_map] at ha
            obtain ⟨x, _, rfl⟩ := ha
            rfl
theorem seen_heap {w w' : World} (h : w'.heap = w.heap) (at_ : Addr) (u : TypeId) (k : Addr) (atomic : Bool) : w'.seen P at_ u k atomic = w.seen P at_ u k atomic := by
  unfold World.seen
  rw [h]
theorem viewStore_heap {w w' : World} (h : w'.heap = w.heap) (at_ : Addr) (u : TypeId) (k : Addr) (v : Value) (atomic : Bool) : w'.viewStore P at_ u k v atomic = (w.viewStore P at_ u k v atomic).map fun x => ({ w' with heap := x.1.heap }, x.2) := by
  unfold World.viewStore
  simp only [seen_heap h, h, bind, Except.bind, pure, Except.pure, throwThe, MonadExceptOf.throw, MonadExcept.throw]
  cases tight P P.depth u with
  | false => rfl
  | true =>
    simp only [Bool.not_true, Bool.false_eq_true, if_false]
    cases w.seen P at_ u k atomic with
    | error x => rfl
    | ok y =>
      obtain ⟨c0, e0, z0, first, like, cells⟩ := y
      simp only
      cases v.bytes? with
      | none => rfl
      | some bytes =>
        simp only
        split
        · rfl
        · split <;> rfl
theorem viewStore_shared {w w' : World} {at_ : Addr} {u : TypeId} {k k' : Addr} {v v' : Value} {atomic : Bool} (hk : k'.off = k.off) (hks : k'.spot = k.spot) (hv : v'.bytes? = v.bytes?) {c : Array Value} {e : TypeId} (hc : w.heap[at_.block]? = some (.cells c e (0, c.size))) {x : World × List Addr} (h : w.viewStore P at_ u k v atomic = .ok x) (hc' : w'.heap[at_.block]? = some (.cells c e (0, 0))) :
    x = (w, []) ∧ w'.viewStore P at_ u k' v' atomic = .ok (w', []) := by
  have same : ∀ {w : World} {o : Obj}, w.heap[at_.block]? = some o → ({ w with heap := w.heap.setIfInBounds at_.block o } : World) = w := fun {w o} ho => by
    have : w.heap.setIfInBounds at_.block o = w.heap := by
      apply Array.ext_getElem?
      intro i
      by_cases e : at_.block = i
      · subst e
        rw [Array.getElem?_setIfInBounds_self_of_lt (Array.getElem?_eq_some_iff.1 ho).1, ho]
      · rw [Array.getElem?_setIfInBounds_ne e]
    rw [this]
  unfold World.viewStore at h ⊢
  rw [seen_like (P := P) (u := u) (atomic := atomic) (at' := at_) (k' := k') hc hc' (fun _ => rfl) rfl rfl hk hks]
  simp only [bind, Except.bind, pure, Except.pure, throwThe, MonadExceptOf.throw, MonadExcept.throw, hv] at h ⊢
  cases h0 : tight P P.depth u with
  | false => rw [h0] at h; cases h
  | true =>
    simp only [h0, Bool.not_true, Bool.false_eq_true, if_false] at h ⊢
    cases h1 : w.seen P at_ u k atomic with
    | error x => rw [h1] at h; cases h
    | ok y =>
      have hy := seen_row h1
      obtain ⟨c0, e0, z0, first, like, cells⟩ := y
      rw [hc] at hy
      simp only [Option.some.injEq, Obj.cells.injEq] at hy
      obtain ⟨rfl, rfl, rfl⟩ := hy
      rw [h1] at h
      simp only [Except.map] at h ⊢
      cases h2 : v.bytes? with
      | none => rw [h2] at h; cases h
      | some bytes =>
        rw [h2] at h
        simp only at h ⊢
        split at h
        · cases h
        · rename_i h3
          rw [if_neg h3]
          cases cells with
          | nil =>
            simp only [List.foldlM_nil, pure, Except.pure, Except.ok.injEq, List.map_nil] at h ⊢
            rw [same hc] at h
            exact ⟨h.symm, by rw [same hc']⟩
          | cons y r =>
            exfalso
            obtain ⟨i, s, bs⟩ := y
            rw [List.foldlM_cons] at h
            simp only [bind, Except.bind] at h
            cases h4 : (decide (s < first) || decide (s + bs.length > first + bytes.length)) with
            | true => simp only [h4, if_true] at h; cases h
            | false =>
              simp only [h4, Bool.false_eq_true, if_false] at h
              by_cases h5 : i < c.size
              · simp only [Nat.zero_le, decide_true, h5, Bool.and_self, if_true] at h; cases h
              · simp only [Nat.zero_le, decide_true, h5, decide_false, Bool.and_false, Bool.false_eq_true, if_false, Array.getElem?_eq_none (Nat.le_of_not_lt h5)] at h; cases h
end
section
variable {E : Env} {f : Nat → Nat} {n : Nat} (F : Fit E f)
theorem HRel.lt {hl hc : Array Obj} (h : HRel E f hl hc) {k : Nat} (hk : E.I hl.size k) : f k < hc.size := by
  obtain ⟨h1, h2⟩ := hk
  have := (h.own k hl[k] h1 (Array.getElem?_eq_getElem h2)).2
  rcases Nat.lt_or_ge (f k) hc.size with hlt | hge
  · exact hlt
  · rw [Array.getElem?_eq_none hge] at this; cases this
def isRow : Obj → Bool
  | .cells _ _ _ => true
  | _ => false
theorem runT_choose (P : Program) (q : Question) (w : World) (es : Array Event) : (Go.choose q).runT P w es = if q.forced then (.ok 0 w, es) else (.ok (q.cut (w.tape w.drawn q)) { w with drawn := w.drawn + 1 }, es) := by
  simp only [Go.choose, Sem.runT]
theorem runT_getObj (P : Program) {r : Nat} {w : World} {o : Obj} (h : w.heap[r]? = some o) (hc : isRow o = false) (es : Array Event) : (Go.getObj r).runT P w es = (.ok o w, es.push ⟨.obj r, false, o.isChan⟩) := by
  cases o <;> first | (cases hc; done) | simp only [Go.getObj, Sem.runT, h]
theorem runT_getObj_row (P : Program) {r : Nat} {w : World} {o : Obj} (h : w.heap[r]? = some o) (hc : isRow o = true) (es : Array Event) : (Go.getObj r).runT P w es = (.halt (.stuck "getObj: a row of cells") w, es) := by
  cases o <;> first | (cases hc; done) | simp only [Go.getObj, Sem.runT, h]
theorem runT_setObj (P : Program) {r : Nat} {w : World} {o o2 : Obj} (h : w.heap[r]? = some o) (hc : isRow o = false) (es : Array Event) : (Go.setObj r o2).runT P w es = (.ok () { w with heap := w.heap.setIfInBounds r o2 }, es.push ⟨.obj r, true, o2.isChan⟩) := by
  cases o <;> first | (cases hc; done) | simp only [Go.setObj, Sem.runT, h]
theorem runT_setObj_row (P : Program) {r : Nat} {w : World} {o o2 : Obj} (h : w.heap[r]? = some o) (hc : isRow o = true) (es : Array Event) : (Go.setObj r o2).runT P w es = (.halt (.stuck "setObj: a row of cells") w, es) := by
  cases o <;> first | (cases hc; done) | simp only [Go.setObj, Sem.runT, h]
theorem isRow_rO (f : Nat → Nat) (o : Obj) : isRow (rO f o) = isRow o := by cases o <;> rfl
theorem Sim.bad {α : Type} {Q : Nat → α → α → Prop} {t t' : Sem α} {hl : Array Obj} {w : World} (h : ∀ (v : World) (es : Array Event), v.heap = hl → ∃ hh w' es', badH E hh ∧ t.runT E.P v es = (.halt hh w', es')) :
    ∃ (l : List Nat) (r : Option (Except Value α)) (hl' : Array Obj), Alone E t hl l r hl' ∧ hl.size ≤ hl'.size ∧
      (r ≠ none → ∃ (w' : World) (es' : Array Event), Left E f hl hl' w w' es' ∧ ∀ es, ∃ x, t'.runT E.P w es = (x, es ++ es') ∧ resC E f hl'.size Q w' r x) := by
  refine ⟨[], none, hl, fun v es hv _ => ?_, Nat.le_refl _, fun h => absurd rfl h⟩
  obtain ⟨hh, w', es', hb, hx⟩ := h v es hv
  exact ⟨_, _, hx, hh, w', hb, rfl⟩
theorem Sim.good {α : Type} {Q : Nat → α → α → Prop} {t t' : Sem α} {hl hl' : Array Obj} {w w' : World} (l : List Nat) {a a' : α} (es' : Array Event) (hs : hl.size ≤ hl'.size) (hq : Q hl'.size a a') (hL : Left E f hl hl' w w' es')
    (h : ∀ (v : World) (es : Array Event), v.heap = hl → Listed E l v → ∃ es2, t.runT E.P v es = (.ok a { v with heap := hl', drawn := v.drawn + l.length }, es2)) (h' : ∀ es, t'.runT E.P w es = (.ok a' w', es ++ es')) :
    ∃ (l : List Nat) (r : Option (Except Value α)) (hl' : Array Obj), Alone E t hl l r hl' ∧ hl.size ≤ hl'.size ∧
      (r ≠ none → ∃ (w' : World) (es' : Array Event), Left E f hl hl' w w' es' ∧ ∀ es, ∃ x, t'.runT E.P w es = (x, es ++ es') ∧ resC E f hl'.size Q w' r x) :=
  ⟨l, some (.ok a), hl', fun v es hv hl => let ⟨_, hx⟩ := h v es hv hl; ⟨_, _, hx, rfl⟩, hs, fun _ => ⟨w', es', hL, fun es => ⟨_, h' es, a', hq, rfl⟩⟩⟩
theorem Sim.choose (q : Question) : Sim E f n EQ (choose q) (choose q) := by
  intro hl w hr hn hos
  cases hq : q.forced with
  | true =>
    refine Sim.good [] (a := 0) (a' := 0) #[] (Nat.le_refl _) rfl (.refl hr) (fun v es hv _ => ⟨es, ?_⟩) (fun es => ?_)
    · subst hv
      rw [runT_choose, hq]
      rfl
    · rw [runT_choose, hq, Array.append_empty]
      rfl
  | false =>
    refine Sim.good [w.tape w.drawn q] (a := q.cut (w.tape w.drawn q)) (w' := { w with drawn := w.drawn + 1 }) #[] (Nat.le_refl _) rfl ⟨hr, rfl, fun _ _ _ => rfl, rfl, rfl, rfl, fun e he => by simp at he⟩ (fun v es hv hl => ⟨es, ?_⟩) (fun es => ?_)
    · subst hv
      have := hl.2 0 q (by simp)
      simp only [Nat.add_zero, List.getD_cons_zero] at this
      rw [runT_choose, hq, this]
      rfl
    · rw [runT_choose, hq, Array.append_empty]
      rfl
theorem Sim.mark {m : Mark} (hm : mild m) : Sim E f n EQ (mark m) (mark m) := by
  intro hl w hr hn hos
  refine ⟨[], some (.ok ()), hl, fun w es hw _ => ⟨_, _, rfl, by subst hw; rfl⟩, Nat.le_refl _, fun _ => ⟨w, #[⟨.mark m, false, true⟩], ⟨hr, rfl, fun _ _ _ => rfl, rfl, rfl, rfl, fun e he => ?_⟩, fun es => ⟨_, by rfl, (), rfl, rfl⟩⟩⟩
  simp only [List.mem_toArray, List.mem_cons, List.not_mem_nil, or_false] at he
  exact .inl ⟨m, he, hm⟩
theorem HRel.push {hl hc : Array Obj} (h : HRel E f hl hc) {o : Obj} (ho : okO E hl.size o) : HRel E f (hl.push o) (hc.push (rO f o)) := by
  have hnew := h.new hl.size (Nat.le_refl _)
  have hb := h.base
  refine ⟨fun k o' hk he => ?_, fun k hk => ?_, fun k hk => ?_, by simp; omega, fun j hj => ?_⟩
  · rcases Nat.lt_or_ge k hl.size with hlt | hge
    · rw [Array.getElem?_push_lt hlt] at he
      cases he
      have h1 := h.own k _ hk (Array.getElem?_eq_getElem hlt)
      refine ⟨okO_mono h1.1 (by simp), ?_⟩
      have := h.lt ⟨hk, hlt⟩
      rw [Array.getElem?_push_lt this, ← h1.2, Array.getElem?_eq_getElem this]
    · obtain rfl : k = hl.size := by
        have := (Array.getElem?_eq_some_iff.1 he).1
        simp at this
        omega
      rw [Array.getElem?_push_size] at he
      cases he
      refine ⟨okO_mono ho (by simp), ?_⟩
      rw [show f hl.size = hc.size by omega, Array.getElem?_push_size]
  · obtain ⟨c, t, h1, h2, h3⟩ := h.ro k hk
    have l1 := (Array.getElem?_eq_some_iff.1 h1).1
    have l2 := (Array.getElem?_eq_some_iff.1 h2).1
    exact ⟨c, t, by rw [Array.getElem?_push_lt l1, ← h1, Array.getElem?_eq_getElem l1], by rw [Array.getElem?_push_lt l2, ← h2, Array.getElem?_eq_getElem l2], fun v hv => ⟨okV_mono (by simp) v (h3 v hv).1, (h3 v hv).2⟩⟩
  · obtain ⟨c, e, c', h1, h2, h3⟩ := h.op k hk
    have l1 := (Array.getElem?_eq_some_iff.1 h1).1
    have l2 := (Array.getElem?_eq_some_iff.1 h2).1
    exact ⟨c, e, c', by rw [Array.getElem?_push_lt l1, ← h1, Array.getElem?_eq_getElem l1], by rw [Array.getElem?_push_lt l2, ← h2, Array.getElem?_eq_getElem l2], h3⟩
  · simp only [Array.size_push] at hj ⊢
    have := h.new j (by omega)
    omega
theorem Sim.newObj {o : Obj} (ho : okO E n o) : Sim E f n (fun m r r' => r' = f r ∧ E.I m r) (newObj o) (newObj (rO f o)) := by
  intro hl w hr hn hos
  have hnew := hr.new hl.size (Nat.le_refl _)
  refine ⟨[], some (.ok hl.size), hl.push o, fun w es hw _ => ⟨_, _, rfl, by subst hw; rfl⟩, by simp, fun _ => ⟨{ w with heap := w.heap.push (rO f o) }, #[], ⟨hr.push (okO_mono ho hn), by simp; omega, fun b hb _ => ?_, rfl, rfl, rfl, fun e he => by simp at he⟩, fun es => ⟨_, by rw [Array.append_empty]; rfl, w.heap.size, ⟨by omega, hr.base, by simp⟩, rfl⟩⟩⟩
  show (w.heap.push _)[b]? = _
  rw [Array.getElem?_push_lt hb, Array.getElem?_eq_getElem hb]
theorem HRel.set {hl hc : Array Obj} (F : Fit E f) (h : HRel E f hl hc) {k : Nat} (hk : E.I hl.size k) {o : Obj} (ho : okO E hl.size o) : HRel E f (hl.setIfInBounds k o) (hc.setIfInBounds (f k) (rO f o)) := by
  have hlt := h.lt hk
  refine ⟨fun j o' hj he => ?_, fun j hj => ?_, fun j hj => ?_, by rw [Array.size_setIfInBounds]; exact h.base, fun j hj => by rw [Array.size_setIfInBounds] at hj ⊢; rw [Array.size_setIfInBounds]; exact h.new j hj⟩
  · rw [Array.size_setIfInBounds]
    by_cases e : k = j
    · subst e
      rw [Array.getElem?_setIfInBounds_self_of_lt hk.2] at he
      cases he
      exact ⟨ho, Array.getElem?_setIfInBounds_self_of_lt hlt⟩
    · rw [Array.getElem?_setIfInBounds_ne e] at he
      have := h.own j o' hj he
      exact ⟨this.1, by rw [Array.getElem?_setIfInBounds_ne (fun e' => e (F.inj _ _ e'))]; exact this.2⟩
  · obtain ⟨c, t, h1, h2, h3⟩ := h.ro j hj
    have hjb := F.ro j hj
    have hkb := hk.1
    have hfk := F.ge hk.1
    rw [Array.size_setIfInBounds]
    exact ⟨c, t, by rw [Array.getElem?_setIfInBounds_ne (by omega)]; exact h1, by rw [Array.getElem?_setIfInBounds_ne (by omega)]; exact h2, h3⟩
  · obtain ⟨c, e, c', h1, h2, h3⟩ := h.op j hj
    have hjb := F.op j hj
    have hkb := hk.1
    have hfk := F.ge hk.1
    exact ⟨c, e, c', by rw [Array.getElem?_setIfInBounds_ne (by omega)]; exact h1, by rw [Array.getElem?_setIfInBounds_ne (by omega)]; exact h2, h3⟩
theorem Left.set {hl : Array Obj} {w : World} (F : Fit E f) (h : HRel E f hl w.heap) {k : Nat} (hk : E.I hl.size k) {o : Obj} (ho : okO E hl.size o) {es : Array Event} (hes : ∀ e, e ∈ es → EvOk E f hl.size e) :
    Left E f hl (hl.setIfInBounds k o) w { w with heap := w.heap.setIfInBounds (f k) (rO f o) } es :=
  ⟨h.set F hk ho, by simp, fun b _ hb => Array.getElem?_setIfInBounds_ne (hb k hk), rfl, rfl, rfl, fun e he => (hes e he).mono (by rw [Array.size_setIfInBounds]; exact Nat.le_refl _)⟩
theorem evObj {k : Nat} (hk : E.I n k) (wr : Bool) : ∀ e, e ∈ (#[⟨.obj (f k), wr, false⟩] : Array Event) → EvOk E f n e := fun e he => by
  simp only [List.mem_toArray, List.mem_cons, List.not_mem_nil, or_false] at he
  subst he
  exact .inr (.inl ⟨k, hk, rfl, .inl rfl⟩)
theorem okO_notChan {o : Obj} (h : okO E n o) : o.isChan = false := by cases o <;> first | rfl | exact h.elim
theorem rO_isChan (o : Obj) : (rO f o).isChan = o.isChan := by cases o <;> rfl
theorem Sim.getObj {α : Type} {Q : Nat → α → α → Prop} {r : Nat} {g g' : Obj → Sem α} (hA : E.A n r) (hg : ∀ m o, n ≤ m → E.I m r → okO E m o → Sim E f m Q (g o) (g' (rO f o))) (hp : E.O r → ∀ c e t, Sim E f n Q (g (.pending c e)) t) :
    Sim E f n Q (Go.getObj r >>= g) (Go.getObj (f r) >>= g') := by
  intro hl w hr hn hos
  rcases hA with hA | hA | hA
  · have hI := hA.mono hn
    have hlt := hI.2
    obtain ⟨h1, h2⟩ := hr.own r hl[r] hI.1 (Array.getElem?_eq_getElem hlt)
    cases hc : isRow hl[r] with
    | true =>
      refine Sim.bad fun v es hv => ?_
      subst hv
      exact ⟨.stuck "getObj: a row of cells", v, es, trivial, by rw [runT_bindM, runT_getObj_row E.P (Array.getElem?_eq_getElem hlt) hc]⟩
    | false =>
      obtain ⟨l2, r2, hl2, ha2, hs2, hc2⟩ := hg hl.size hl[r] hn hI h1 hl w hr (Nat.le_refl _) hos
      refine ⟨l2, r2, hl2, fun v es hv hlst => ?_, hs2, fun hne => ?_⟩
      · obtain ⟨x, es', hx, hres⟩ := ha2 v (es.push ⟨.obj r, false, hl[r].isChan⟩) hv hlst
        subst hv
        exact ⟨x, es', by rw [runT_bindM, runT_getObj E.P (Array.getElem?_eq_getElem hlt) hc]; exact hx, hres⟩
      · obtain ⟨w1, es1, hL, hx⟩ := hc2 hne
        refine ⟨w1, #[⟨.obj (f r), false, false⟩] ++ es1, ⟨hL.rel, hL.size, hL.stay, hL.tape, hL.os, hL.out, fun e he => ?_⟩, fun es => ?_⟩
        · rcases Array.mem_append.1 he with he | he
          · exact (evObj hI false e he).mono hs2
          · exact hL.evs e he
        · obtain ⟨x, hx, hres⟩ := hx (es.push ⟨.obj (f r), false, false⟩)
          refine ⟨x, ?_, hres⟩
          rw [runT_bindM, runT_getObj E.P h2 (by rw [isRow_rO]; exact hc), rO_isChan, okO_notChan h1]
          rw [← Array.append_assoc, ← Array.push_eq_append]
          exact hx
  · obtain ⟨c, t, h1, _⟩ := hr.ro r hA
    refine Sim.bad fun v es hv => ?_
    subst hv
    exact ⟨.stuck "getObj: a row of cells", v, es, trivial, by rw [runT_bindM, runT_getObj_row E.P h1 rfl]⟩
  · obtain ⟨c, e, c', h1, _⟩ := hr.op r hA
    obtain ⟨l2, r2, hl2, ha2, hs2, hc2⟩ := hp hA c e (Go.getObj (f r) >>= g') hl w hr hn hos
    refine ⟨l2, r2, hl2, fun v es hv hlst => ?_, hs2, hc2⟩
    obtain ⟨x, es', hx, hres⟩ := ha2 v (es.push ⟨.obj r, false, false⟩) hv hlst
    refine ⟨x, es', ?_, hres⟩
    subst hv
    rw [runT_bindM, runT_getObj E.P h1 rfl]
    exact hx
theorem Sim.setObj (F : Fit E f) {r : Nat} {o : Obj} (hI : E.I n r) (ho : okO E n o) : Sim E f n EQ (setObj r o) (setObj (f r) (rO f o)) := by
  intro hl w hr hn hos
  have hI' := hI.mono hn
  have hlt := hI'.2
  obtain ⟨h1, h2⟩ := hr.own r hl[r] hI'.1 (Array.getElem?_eq_getElem hlt)
  have hch := okO_notChan ho
  cases hc : isRow hl[r] with
  | true =>
    refine Sim.bad fun v es hv => ?_
    subst hv
    exact ⟨.stuck "setObj: a row of cells", v, es, trivial, by rw [runT_setObj_row E.P (Array.getElem?_eq_getElem hlt) hc]⟩
  | false =>
    refine Sim.good [] (a := ()) (a' := ()) #[⟨.obj (f r), true, false⟩] (by simp) rfl (Left.set F hr hI' (okO_mono ho hn) (evObj hI' true)) (fun v es hv _ => ⟨es.push ⟨.obj r, true, o.isChan⟩, ?_⟩) (fun es => ?_)
    · subst hv
      rw [runT_setObj E.P (Array.getElem?_eq_getElem hlt) hc]
      rfl
    · rw [runT_setObj E.P h2 (by rw [isRow_rO]; exact hc), rO_isChan, hch, Array.push_eq_append]
theorem runT_load (P : Program) (a : Addr) (w : World) (es : Array Event) : (Go.load a).runT P w es = match w.cell? a with
    | some v => (.ok v w, es.push ⟨.cell a, false, false⟩)
    | none => match w.farLoad P a false with
      | .ok (v, touched) => (.ok v w, es ++ touched.toArray.map (⟨.cell ·, false, false⟩))
      | .error h => (.halt h w, es) := by
  simp only [Go.load, Sem.runT]
  rfl
theorem evCell {k : Nat} (hk : E.I n k) (wr : Bool) {a : Addr} (ha : a.block = f k) : ∀ e, e ∈ (#[⟨.cell a, wr, false⟩] : Array Event) → EvOk E f n e := fun e he => by
  simp only [List.mem_toArray, List.mem_cons, List.not_mem_nil, or_false] at he
  subst he
  exact .inr (.inl ⟨k, hk, rfl, .inr ⟨a, ha, rfl⟩⟩)
theorem cell_cells {w : World} {a : Addr} {c : Array Value} {t : TypeId} {z : Nat × Nat} (h : w.heap[a.block]? = some (.cells c t z)) : w.cell? a = if a.spot.isSome then none else c[a.off]? := by
  simp only [World.cell?, h]
theorem cell_other {w : World} {a : Addr} {o : Obj} (h : w.heap[a.block]? = some o) (hc : isRow o = false) : w.cell? a = none := by
  cases o <;> first | (cases hc; done) | simp only [World.cell?, h]
theorem far_stuck {w : World} {a : Addr} {o : Obj} (P : Program) (h : w.heap[a.block]? = some o) (h1 : ∀ x y, o ≠ .view x y) (h2 : ∀ x y, o ≠ .pending x y) : w.farLoad P a false = .error (.stuck "load: no such cell") := by
  cases o <;> first | exact absurd rfl (h1 _ _) | exact absurd rfl (h2 _ _) | simp only [World.farLoad, World.noCell, h]
theorem HRel.seen {hl : Array Obj} {v w : World} (F : Fit E f) (hr : HRel E f hl w.heap) (hv : v.heap = hl) {x : Addr} {y : TypeId} (hAV : E.A hl.size x.block ∧ E.V y = true) {a : Addr} {val : Value} {tl : List Addr} (h : v.viewLoad E.P x y a false = .ok (val, tl)) :
    plain0 val = true ∧ ∃ tl', w.viewLoad E.P (rA f x) y (rA f a) false = .ok (val, tl') ∧ ∀ e, e ∈ (tl'.toArray.map (⟨.cell ·, false, false⟩ : Addr → Event)) → EvOk E f hl.size e := by
  obtain ⟨hA, hV⟩ := hAV
  have hpt := F.pt y hV
  obtain ⟨c, e, z, hx⟩ := viewLoad_row h
  subst hv
  rcases hA with hA | hA | hA
  · obtain ⟨h1, h2⟩ := hr.own x.block _ hA.1 hx
    obtain ⟨p1, tl', p2, p3⟩ := viewLoad_like (P := E.P) (w' := w) (at' := rA f x) (k' := rA f a) hx h2 hpt (Like.map f c) rfl rfl rfl rfl h
    refine ⟨p1, tl', p2, fun ev he => ?_⟩
    obtain ⟨b, hb, rfl⟩ := Array.mem_map.1 he
    exact .inr (.inl ⟨x.block, hA, rfl, .inr ⟨b, p3 b (by simpa using hb), rfl⟩⟩)
  · obtain ⟨c', t', h1, h2, _⟩ := hr.ro x.block hA
    rw [hx] at h1
    cases h1
    have hfx : (rA f x).block = x.block := F.low _ (F.ro _ hA)
    obtain ⟨p1, tl', p2, p3⟩ := viewLoad_like (P := E.P) (w' := w) (at' := rA f x) (k' := rA f a) hx (by rw [hfx]; exact h2) hpt (fun _ => rfl) rfl rfl rfl rfl h
    refine ⟨p1, tl', p2, fun ev he => ?_⟩
    obtain ⟨b, hb, rfl⟩ := Array.mem_map.1 he
    exact .inr (.inr (.inl ⟨b, by rw [p3 b (by simpa using hb), hfx]; exact hA, rfl⟩))
  · obtain ⟨c', t', _, h1, _⟩ := hr.op x.block hA
    rw [hx] at h1
    cases h1
theorem Sim.load (F : Fit E f) {a : Addr} (hA : E.A n a.block) : Sim E f n (fun m v v' => VQ E f m v v' ∧ (E.R a.block → roV v)) (load a) (load (rA f a)) := by
  intro hl w hr hn hos
  rcases hA with hA | hA | hA
  · have hI := hA.mono hn
    have hlt := hI.2
    have hle := Array.getElem?_eq_getElem hlt
    obtain ⟨h1, h2⟩ := hr.own a.block hl[a.block] hI.1 hle
    have hR : ¬ E.R a.block := fun h => by have := F.ro _ h; have := hI.1; omega
    generalize ho : hl[a.block] = o at h1 h2 hle
    have hother : isRow o = false → (∀ x y, o ≠ .view x y) → ∃ (l : List Nat) (r : Option (Except Value Value)) (hl' : Array Obj), Alone E (Go.load a) hl l r hl' ∧ hl.size ≤ hl'.size ∧
      (r ≠ none → ∃ (w' : World) (es' : Array Event), Left E f hl hl' w w' es' ∧ ∀ es, ∃ x, (Go.load (rA f a)).runT E.P w es = (x, es ++ es') ∧ resC E f hl'.size (fun m v v' => VQ E f m v v' ∧ (E.R a.block → roV v)) w' r x) := fun hc hv => by
      refine Sim.bad fun v es hv' => ?_
      subst hv'
      exact ⟨.stuck "load: no such cell", v, es, trivial, by rw [runT_load, cell_other hle hc, far_stuck E.P hle hv (fun x y e => by rw [e] at h1; exact h1)]⟩
    cases o with
    | cells c t z =>
      cases hs : a.spot.isSome with
      | true =>
        refine Sim.bad fun v es hv' => ?_
        subst hv'
        exact ⟨.stuck "load: no such cell", v, es, trivial, by rw [runT_load, cell_cells hle, hs, far_stuck E.P hle (fun _ _ e => by cases e) (fun _ _ e => by cases e)]; rfl⟩
      | false =>
        cases hx : c[a.off]? with
        | none =>
          refine Sim.bad fun v es hv' => ?_
          subst hv'
          exact ⟨.stuck "load: no such cell", v, es, trivial, by rw [runT_load, cell_cells hle, hs, hx, far_stuck E.P hle (fun _ _ e => by cases e) (fun _ _ e => by cases e)]; rfl⟩
        | some x =>
          refine Sim.good [] (a := x) (a' := rV f x) #[⟨.cell (rA f a), false, false⟩] (Nat.le_refl _) ⟨⟨rfl, okAll_get h1 hx⟩, fun h => absurd h hR⟩ ⟨hr, rfl, fun _ _ _ => rfl, rfl, rfl, rfl, evCell hI false rfl⟩ (fun v es hv' _ => ⟨es.push ⟨.cell a, false, false⟩, ?_⟩) (fun es => ?_)
          · subst hv'
            rw [runT_load, cell_cells hle, hs, hx]
            rfl
          · have hs' : (rA f a).spot.isSome = false := hs
            have hx' : (c.map (rV f))[(rA f a).off]? = some (rV f x) := by
              rw [Array.getElem?_map]
              show (c[a.off]?).map _ = _
              rw [hx]
              rfl
            rw [runT_load, cell_cells (a := rA f a) h2, hs', if_neg (by simp), hx', Array.push_eq_append]
    | view x y =>
      cases hvl : ({ w with heap := hl } : World).viewLoad E.P x y a false with
      | error why =>
        refine Sim.bad fun v es hv' => ?_
        subst hv'
        refine ⟨.unsupported (.unsafePointer why), v, es, trivial, ?_⟩
        have : v.viewLoad E.P x y a false = .error why := hvl
        rw [runT_load, cell_other hle rfl]
        simp only [World.farLoad, hle, this]
      | ok p =>
        obtain ⟨val, tl⟩ := p
        obtain ⟨p1, tl', p2, p3⟩ := hr.seen F (v := { w with heap := hl }) rfl h1 hvl
        refine Sim.good [] (a := val) (a' := val) (tl'.toArray.map (⟨.cell ·, false, false⟩)) (Nat.le_refl _) ⟨⟨(rV_plain0 p1).symm, okV_plain0 p1⟩, fun h => absurd h hR⟩ ⟨hr, rfl, fun _ _ _ => rfl, rfl, rfl, rfl, p3⟩ (fun v es hv' _ => ⟨es ++ tl.toArray.map (⟨.cell ·, false, false⟩), ?_⟩) (fun es => ?_)
        · subst hv'
          have : v.viewLoad E.P x y a false = .ok (val, tl) := hvl
          rw [runT_load, cell_other hle rfl]
          simp only [World.farLoad, hle, this]
          rfl
        · rw [runT_load, cell_other (a := rA f a) h2 rfl]
          have h2' : w.heap[(rA f a).block]? = some (.view (rA f x) y) := h2
          simp only [World.farLoad, h2', p2]
    | pending x y => exact h1.elim
    | _ => exact hother rfl (fun _ _ e => by cases e)
  · obtain ⟨c, t, h1, h2, h3⟩ := hr.ro a.block hA
    have hfx : (rA f a).block = a.block := F.low _ (F.ro _ hA)
    cases hs : a.spot.isSome with
    | true =>
      refine Sim.bad fun v es hv' => ?_
      subst hv'
      exact ⟨.stuck "load: no such cell", v, es, trivial, by rw [runT_load, cell_cells h1, hs, far_stuck E.P h1 (fun _ _ e => by cases e) (fun _ _ e => by cases e)]; rfl⟩
    | false =>
      cases hx : c[a.off]? with
      | none =>
        refine Sim.bad fun v es hv' => ?_
        subst hv'
        exact ⟨.stuck "load: no such cell", v, es, trivial, by rw [runT_load, cell_cells h1, hs, hx, far_stuck E.P h1 (fun _ _ e => by cases e) (fun _ _ e => by cases e)]; rfl⟩
      | some x =>
        obtain ⟨q1, q2, q3⟩ := h3 x (Array.mem_of_getElem? hx)
        refine Sim.good [] (a := x) (a' := x) #[⟨.cell (rA f a), false, false⟩] (Nat.le_refl _) ⟨⟨q3.symm, q1⟩, fun _ => q2⟩ ⟨hr, rfl, fun _ _ _ => rfl, rfl, rfl, rfl, fun e he => ?_⟩ (fun v es hv' _ => ⟨es.push ⟨.cell a, false, false⟩, ?_⟩) (fun es => ?_)
        · simp only [List.mem_toArray, List.mem_cons, List.not_mem_nil, or_false] at he
          exact .inr (.inr (.inl ⟨rA f a, by rw [hfx]; exact hA, he⟩))
        · subst hv'
          rw [runT_load, cell_cells h1, hs, hx]
          rfl
        · have hs' : (rA f a).spot.isSome = false := hs
          have hx' : c[(rA f a).off]? = some x := hx
          rw [runT_load, cell_cells (a := rA f a) (by rw [hfx]; exact h2), hs', if_neg (by simp), hx', Array.push_eq_append]
  · obtain ⟨c, e, c', h1, _⟩ := hr.op a.block hA
    refine Sim.bad fun v es hv' => ?_
    subst hv'
    refine ⟨.unsupported (.initOrder a.block), v, es, hA, ?_⟩
    rw [runT_load, cell_other h1 rfl]
    simp only [World.farLoad, World.noCell, h1]
def isOne : Value → Bool
  | .agg _ => false
  | .tuple _ => false
  | _ => true
theorem isOne_rV (f : Nat → Nat) (v : Value) : isOne (rV f v) = isOne v := by cases v <;> simp [rV, isOne]
theorem runT_store (P : Program) (a : Addr) {v : Value} (hv : isOne v = true) (w : World) (es : Array Event) : (Go.store a v).runT P w es = match w.cell? a with
    | some _ => if w.frozen? a then (.halt (.unsupported (.unsafePointer "a write to bytes that a string shares")) w, es) else (.ok () (w.setCell a v), es.push ⟨.cell a, true, false⟩)
    | none => match w.farStore P a v false with
      | .ok (w, touched) => (.ok () w, es ++ touched.toArray.map (⟨.cell ·, true, false⟩))
      | .error h => (.halt h w, es) := by
  cases v <;> first | (cases hv; done) | (simp only [Go.store, Sem.runT]; rfl)
theorem runT_store_no (P : Program) (a : Addr) {v : Value} (hv : isOne v = false) (w : World) (es : Array Event) : (Go.store a v).runT P w es = (.halt (.stuck "store: not the value of one cell") w, es) := by
  cases v <;> first | (cases hv; done) | (simp only [Go.store, Sem.runT])
theorem far_stuckS {w : World} {a : Addr} {o : Obj} {v : Value} (P : Program) (h : w.heap[a.block]? = some o) (h1 : ∀ x y, o ≠ .view x y) (h2 : ∀ x y, o ≠ .pending x y) : w.farStore P a v false = .error (.stuck "store: no such cell") := by
  cases o <;> first | exact absurd rfl (h1 _ _) | exact absurd rfl (h2 _ _) | simp only [World.farStore, World.noCell, h]
theorem frozen_cells {w : World} {a : Addr} {c : Array Value} {t : TypeId} {z : Nat × Nat} (h : w.heap[a.block]? = some (.cells c t z)) : w.frozen? a = (decide (z.1 ≤ a.off) && decide (a.off < z.2)) := by
  obtain ⟨x, y⟩ := z
  simp only [World.frozen?, h]
theorem setCell_cells {w : World} {a : Addr} {c : Array Value} {t : TypeId} {z : Nat × Nat} (h : w.heap[a.block]? = some (.cells c t z)) (hs : a.spot.isSome = false) (v : Value) : w.setCell a v = { w with heap := w.heap.setIfInBounds a.block (.cells (c.setIfInBounds a.off v) t z) } := by
  have hlt := (Array.getElem?_eq_some_iff.1 h).1
  unfold World.setCell
  congr 1
  apply Array.ext_getElem?
  intro i
  by_cases e : a.block = i
  · subst e
    rw [Array.getElem?_modify, Array.getElem?_setIfInBounds_self_of_lt hlt, if_pos rfl, h]
    simp [hs]
  · rw [Array.getElem?_modify, if_neg e, Array.getElem?_setIfInBounds_ne e]
theorem Sim.store (F : Fit E f) {a : Addr} {v : Value} (hA : E.A n a.block) (hv : okV E n v) : Sim E f n EQ (store a v) (store (rA f a) (rV f v)) := by
  intro hl w hr hn hos
  cases h1v : isOne v with
  | false =>
    refine Sim.bad fun u es hu => ?_
    exact ⟨.stuck "store: not the value of one cell", u, es, trivial, runT_store_no E.P a h1v u es⟩
  | true =>
    have h1v' : isOne (rV f v) = true := by rw [isOne_rV]; exact h1v
    rcases hA with hA | hA | hA
    · have hI := hA.mono hn
      have hlt := hI.2
      have hle := Array.getElem?_eq_getElem hlt
      obtain ⟨h1, h2⟩ := hr.own a.block hl[a.block] hI.1 hle
      generalize ho : hl[a.block] = o at h1 h2 hle
      have hother : isRow o = false → (∀ x y, o ≠ .view x y) → ∃ (l : List Nat) (r : Option (Except Value Unit)) (hl' : Array Obj), Alone E (Go.store a v) hl l r hl' ∧ hl.size ≤ hl'.size ∧
        (r ≠ none → ∃ (w' : World) (es' : Array Event), Left E f hl hl' w w' es' ∧ ∀ es, ∃ x, (Go.store (rA f a) (rV f v)).runT E.P w es = (x, es ++ es') ∧ resC E f hl'.size EQ w' r x) := fun hc hv => by
        refine Sim.bad fun u es hu => ?_
        subst hu
        exact ⟨.stuck "store: no such cell", u, es, trivial, by rw [runT_store E.P a h1v, cell_other hle hc, far_stuckS E.P hle hv (fun x y e => by rw [e] at h1; exact h1)]⟩
      cases o with
      | cells c t z =>
        have hno : a.spot.isSome = true ∨ c[a.off]? = none → ∃ (l : List Nat) (r : Option (Except Value Unit)) (hl' : Array Obj), Alone E (Go.store a v) hl l r hl' ∧ hl.size ≤ hl'.size ∧
          (r ≠ none → ∃ (w' : World) (es' : Array Event), Left E f hl hl' w w' es' ∧ ∀ es, ∃ x, (Go.store (rA f a) (rV f v)).runT E.P w es = (x, es ++ es') ∧ resC E f hl'.size EQ w' r x) := fun hc => by
          refine Sim.bad fun u es hu => ?_
          subst hu
          have e1 : u.cell? a = none := by
            rw [cell_cells hle]
            rcases hc with hc | hc
            · rw [hc]; rfl
            · rw [hc]; simp
          exact ⟨.stuck "store: no such cell", u, es, trivial, by rw [runT_store E.P a h1v, e1, far_stuckS E.P hle (fun _ _ e => by cases e) (fun _ _ e => by cases e)]⟩
        cases hs : a.spot.isSome with
        | true => exact hno (.inl hs)
        | false =>
          cases hx : c[a.off]? with
          | none => exact hno (.inr hx)
          | some x =>
            have hs' : (rA f a).spot.isSome = false := hs
            have hx' : (c.map (rV f))[(rA f a).off]? = some (rV f x) := by
              rw [Array.getElem?_map]
              show (c[a.off]?).map _ = _
              rw [hx]
              rfl
            have h2' : w.heap[(rA f a).block]? = some (.cells (c.map (rV f)) t z) := h2
            cases hz : (decide (z.1 ≤ a.off) && decide (a.off < z.2)) with
            | true =>
              refine Sim.bad fun u es hu => ?_
              subst hu
              refine ⟨.unsupported (.unsafePointer "a write to bytes that a string shares"), u, es, trivial, ?_⟩
              rw [runT_store E.P a h1v, cell_cells hle, hs, hx, frozen_cells hle, hz]
              rfl
            | false =>
              have e3 : Obj.cells ((c.map (rV f)).setIfInBounds a.off (rV f v)) t z = rO f (.cells (c.setIfInBounds a.off v) t z) := by
                simp only [rO]
                rw [Array.map_setIfInBounds]
              refine Sim.good [] (a := ()) (a' := ()) (hl' := hl.setIfInBounds a.block (.cells (c.setIfInBounds a.off v) t z)) (w' := { w with heap := w.heap.setIfInBounds (f a.block) (rO f (.cells (c.setIfInBounds a.off v) t z)) }) #[⟨.cell (rA f a), true, false⟩] (by simp) rfl
                (Left.set F hr hI (o := .cells (c.setIfInBounds a.off v) t z) (okAll_set h1 (okV_mono hn v hv) _) (evCell hI true rfl)) (fun u es hu _ => ⟨es.push ⟨.cell a, true, false⟩, ?_⟩) (fun es => ?_)
              · subst hu
                rw [runT_store E.P a h1v, cell_cells hle, hs, hx, frozen_cells hle, hz, setCell_cells hle hs]
                rfl
              · have hz' : (decide (z.1 ≤ (rA f a).off) && decide ((rA f a).off < z.2)) = false := hz
                rw [runT_store E.P (rA f a) h1v', cell_cells h2', hs', if_neg (by simp), hx', frozen_cells h2', hz', setCell_cells h2' hs', ← e3, Array.push_eq_append]
                rfl
      | view x y =>
        have h2' : w.heap[(rA f a).block]? = some (.view (rA f x) y) := h2
        cases hvl : ({ w with heap := hl } : World).viewStore E.P x y a v false with
        | error why =>
          refine Sim.bad fun u es hu => ?_
          refine ⟨.unsupported (.unsafePointer why), u, es, trivial, ?_⟩
          have := viewStore_heap (P := E.P) (w := { w with heap := hl }) (w' := u) hu x y a v false
          rw [hvl] at this
          subst hu
          rw [runT_store E.P a h1v, cell_other hle rfl]
          simp only [World.farStore, hle, this, Except.map]
        | ok p =>
          obtain ⟨c, e, z, hx⟩ := viewStore_row hvl
          have hA : E.A hl.size x.block := h1.1
          have hlone : ∀ (hl' : Array Obj) (tl : List Addr), p = ({ w with heap := hl' }, tl) → ∀ (u : World) (es : Array Event), u.heap = hl → Listed E [] u → ∃ es2, (Go.store a v).runT E.P u es = (.ok () { u with heap := hl', drawn := u.drawn + ([] : List Nat).length }, es2) := fun hl' tl hp u es hu _ => by
            have := viewStore_heap (P := E.P) (w := { w with heap := hl }) (w' := u) hu x y a v false
            rw [hvl, hp] at this
            subst hu
            refine ⟨es ++ tl.toArray.map (⟨.cell ·, true, false⟩), ?_⟩
            rw [runT_store E.P a h1v, cell_other hle rfl]
            simp only [World.farStore, hle, this, Except.map]
            rfl
          rcases hA with hA | hA | hA
          · obtain ⟨k1, k2⟩ := hr.own x.block _ hA.1 hx
            obtain ⟨x2, tl⟩ := p
            obtain ⟨c2, tl', q1, q2, q3, q4, q5⟩ := viewStore_like (P := E.P) (f := f) (w' := w) (at' := rA f x) (k' := rA f a) hx k2 rfl rfl rfl rfl hvl
            refine Sim.good [] (a := ()) (a' := ()) (tl'.toArray.map (⟨.cell ·, true, false⟩)) (by simp) rfl (Left.set F hr hA (o := .cells c2 e z) (fun val hval => ?_) (fun ev he => ?_)) (hlone _ tl (by rw [q1])) (fun es => ?_)
            · rcases q3 (fun y hy => okV_noF (k1 y hy)) val hval with k | k
              · exact k1 val k
              · exact okV_plain0 k
            · obtain ⟨b, hb, rfl⟩ := Array.mem_map.1 he
              exact .inr (.inl ⟨x.block, hA, rfl, .inr ⟨b, q5 b (by simpa using hb), rfl⟩⟩)
            · rw [runT_store E.P (rA f a) h1v', cell_other h2' rfl]
              simp only [World.farStore, h2', q4]
              rfl
          · obtain ⟨c', t', k1, k2, _⟩ := hr.ro x.block hA
            have hfx : rA f x = x := by
              unfold rA
              rw [F.low _ (F.ro _ hA)]
            obtain ⟨q1, q2⟩ := viewStore_shared (P := E.P) (w' := w) (k' := rA f a) (v' := rV f v) rfl rfl (bytes_rV f v) k1 hvl k2
            have hi : ∀ e, e ∈ (#[] : Array Event) → EvOk E f hl.size e := fun e he => by simp at he
            refine Sim.good [] (a := ()) (a' := ()) (hl' := hl) (w' := w) #[] (Nat.le_refl _) rfl ⟨hr, rfl, fun _ _ _ => rfl, rfl, rfl, rfl, hi⟩ (hlone hl [] q1) (fun es => ?_)
            rw [runT_store E.P (rA f a) h1v', cell_other h2' rfl]
            simp only [World.farStore, h2', hfx, q2, List.map_toArray, List.map_nil]
          · obtain ⟨c', t', _, k1, _⟩ := hr.op x.block hA
            rw [show ({ w with heap := hl } : World).heap = hl from rfl] at hx
            rw [hx] at k1
            cases k1
      | pending x y => exact h1.elim
      | _ => exact hother rfl (fun _ _ e => by cases e)
    · obtain ⟨c, t, h1, h2, h3⟩ := hr.ro a.block hA
      refine Sim.bad fun u es hu => ?_
      subst hu
      cases hs : u.cell? a with
      | none => exact ⟨.stuck "store: no such cell", u, es, trivial, by rw [runT_store E.P a h1v, hs, far_stuckS E.P h1 (fun _ _ e => by cases e) (fun _ _ e => by cases e)]⟩
      | some x =>
        refine ⟨.unsupported (.unsafePointer "a write to bytes that a string shares"), u, es, trivial, ?_⟩
        have hlt : a.off < c.size := by
          rw [cell_cells h1] at hs
          split at hs
          · cases hs
          · exact (Array.getElem?_eq_some_iff.1 hs).1
        rw [runT_store E.P a h1v, hs, frozen_cells h1]
        simp [hlt]
    · obtain ⟨c, e, c', h1, _⟩ := hr.op a.block hA
      refine Sim.bad fun u es hu => ?_
      subst hu
      refine ⟨.unsupported (.initOrder a.block), u, es, hA, ?_⟩
      rw [runT_store E.P a h1v, cell_other h1 rfl]
      simp only [World.farStore, World.noCell, h1]
def ShQ (E : Env) (r : Nat) (_ : Nat) (s s' : Option (TypeId × Nat)) : Prop := s' = s ∨ (E.O r ∧ s = none ∧ ∃ e k, 0 < k ∧ s' = some (e, k))
theorem shape_rO (f : Nat → Nat) {h h' : Array Obj} {r r' : Nat} {o : Obj} (w w' : World) (hw : w.heap = h) (hw' : w'.heap = h') (h1 : h[r]? = some o) (h2 : h'[r']? = some (rO f o)) : w'.shape? r' = w.shape? r := by
  subst hw hw'
  simp only [World.shape?, h1, h2]
  cases o <;> simp [rO]
theorem runT_shape (P : Program) (r : Nat) (w : World) (es : Array Event) : (Go.shape r).runT P w es = (.ok (w.shape? r) w, es) := rfl
theorem Sim.shape (F : Fit E f) {r : Nat} (hA : E.A n r) : Sim E f n (ShQ E r) (shape r) (shape (f r)) := by
  intro hl w hr hn hos
  have key : ∀ s s', ShQ E r 0 s s' → (∀ v : World, v.heap = hl → v.shape? r = s) → w.shape? (f r) = s' → ∃ (l : List Nat) (x : Option (Except Value (Option (TypeId × Nat)))) (hl' : Array Obj), Alone E (Go.shape r) hl l x hl' ∧ hl.size ≤ hl'.size ∧
      (x ≠ none → ∃ (w' : World) (es' : Array Event), Left E f hl hl' w w' es' ∧ ∀ es, ∃ y, (Go.shape (f r)).runT E.P w es = (y, es ++ es') ∧ resC E f hl'.size (ShQ E r) w' x y) := fun s s' hq h1 h2 => by
    refine Sim.good [] (a := s) (a' := s') #[] (Nat.le_refl _) hq (.refl hr) (fun v es hv _ => ⟨es, ?_⟩) (fun es => ?_)
    · rw [runT_shape, h1 v hv]
      subst hv
      rfl
    · rw [runT_shape, h2, Array.append_empty]
  rcases hA with hA | hA | hA
  · have hI := hA.mono hn
    have hlt := hI.2
    obtain ⟨h1, h2⟩ := hr.own r hl[r] hI.1 (Array.getElem?_eq_getElem hlt)
    exact key _ _ (.inl rfl) (fun v hv => (shape_rO f v w hv rfl (Array.getElem?_eq_getElem hlt) h2).symm) rfl
  · obtain ⟨c, t, h1, h2, _⟩ := hr.ro r hA
    refine key (some (t, c.size)) _ (.inl rfl) (fun v hv => by subst hv; simp only [World.shape?, h1]) ?_
    rw [F.low _ (F.ro _ hA)]
    simp only [World.shape?, h2]
  · obtain ⟨c, e, c', h1, h2, h3, h4⟩ := hr.op r hA
    refine key none (some (e, c'.size)) (.inr ⟨hA, rfl, e, c'.size, by omega, rfl⟩) (fun v hv => by subst hv; simp only [World.shape?, h1]) ?_
    rw [F.low _ (F.op _ hA)]
    simp only [World.shape?, h2]
theorem runT_freeze (P : Program) (a : Addr) (k : Nat) (w : World) (es : Array Event) : (Go.freeze a k).runT P w es = (.ok () (w.freeze a k), es) := rfl
theorem freeze_cells {w : World} {a : Addr} {c : Array Value} {t : TypeId} {z : Nat × Nat} (h : w.heap[a.block]? = some (.cells c t z)) {k : Nat} (hk : k ≠ 0) : w.freeze a k = { w with heap := w.heap.setIfInBounds a.block (.cells c t (if z.1 == z.2 then (a.off, a.off + k) else (min z.1 a.off, max z.2 (a.off + k)))) } := by
  have hlt := (Array.getElem?_eq_some_iff.1 h).1
  unfold World.freeze
  rw [if_neg hk]
  congr 1
  apply Array.ext_getElem?
  intro i
  by_cases e : a.block = i
  · subst e
    rw [Array.getElem?_modify, Array.getElem?_setIfInBounds_self_of_lt hlt, if_pos rfl, h]
    rfl
  · rw [Array.getElem?_modify, if_neg e, Array.getElem?_setIfInBounds_ne e]
theorem freeze_other {w : World} {a : Addr} {o : Obj} (h : w.heap[a.block]? = some o) (hc : isRow o = false) (k : Nat) : w.freeze a k = w := by
  unfold World.freeze
  split
  · rfl
  · have key : ∀ h', h' = w.heap → ({ w with heap := h' } : World) = w := by rintro _ rfl; rfl
    apply key
    apply Array.ext_getElem?
    intro i
    by_cases e : a.block = i
    · subst e
      rw [Array.getElem?_modify, if_pos rfl, h]
      cases o <;> first | (cases hc; done) | rfl
    · rw [Array.getElem?_modify, if_neg e]
theorem Sim.freeze (F : Fit E f) {a : Addr} {k : Nat} (hA : E.I n a.block) : Sim E f n EQ (freeze a k) (freeze (rA f a) k) := by
  intro hl w hr hn hos
  have hI := hA.mono hn
  have hlt := hI.2
  have hle := Array.getElem?_eq_getElem hlt
  obtain ⟨h1, h2⟩ := hr.own a.block hl[a.block] hI.1 hle
  have h2' : w.heap[(rA f a).block]? = some (rO f hl[a.block]) := h2
  have hi : ∀ e, e ∈ (#[] : Array Event) → EvOk E f hl.size e := fun e he => by simp at he
  by_cases hk : k = 0
  · refine Sim.good [] (a := ()) (a' := ()) #[] (Nat.le_refl _) rfl (.refl hr) (fun v es hv _ => ⟨es, ?_⟩) (fun es => ?_)
    · subst hv
      simp only [runT_freeze, World.freeze, hk, if_true]
      rfl
    · rw [runT_freeze, Array.append_empty]
      simp only [World.freeze, hk, if_true]
  · cases hc : isRow hl[a.block] with
    | false =>
      refine Sim.good [] (a := ()) (a' := ()) #[] (Nat.le_refl _) rfl (.refl hr) (fun v es hv _ => ⟨es, ?_⟩) (fun es => ?_)
      · subst hv
        rw [runT_freeze, freeze_other hle hc]
        rfl
      · rw [runT_freeze, Array.append_empty, freeze_other h2' (by rw [isRow_rO]; exact hc)]
    | true =>
      generalize ho : hl[a.block] = o at h1 h2 hle hc h2'
      cases o <;> first | (cases hc; done) | skip
      rename_i c t z
      refine Sim.good [] (a := ()) (a' := ()) #[] (by simp) rfl (Left.set F hr hI (o := .cells c t (if z.1 == z.2 then (a.off, a.off + k) else (min z.1 a.off, max z.2 (a.off + k)))) h1 hi) (fun v es hv _ => ⟨es, ?_⟩) (fun es => ?_)
      · subst hv
        rw [runT_freeze, freeze_cells hle hk]
        rfl
      · rw [runT_freeze, Array.append_empty, freeze_cells h2' hk]
        rfl
end
section
variable {E : Env} {f : Nat → Nat} {n : Nat}
def Calm {α : Type} (E : Env) (t : Sem α) : Prop := (∃ a, ∀ w es, t.runT E.P w es = (.ok a w, es)) ∨ (∃ h, badH E h ∧ ∀ w es, t.runT E.P w es = (.halt h w, es))
theorem Calm.pure {α : Type} (a : α) : Calm E (Pure.pure a : Sem α) := .inl ⟨a, fun _ _ => rfl⟩
theorem Calm.stuck {α : Type} (s : String) : Calm E (stuck s : Sem α) := .inr ⟨.stuck s, trivial, fun _ _ => rfl⟩
theorem Calm.unsupported {α : Type} {u : Unsupported} (hu : ∀ k, u ≠ .initOrder k) : Calm E (unsupported u : Sem α) := .inr ⟨.unsupported u, by cases u <;> first | trivial | exact absurd rfl (hu _), fun _ _ => rfl⟩
theorem Calm.bind {α β : Type} {t : Sem α} {g : α → Sem β} (h : Calm E t) (hg : ∀ a, Calm E (g a)) : Calm E (t >>= g) := by
  rcases h with ⟨a, ha⟩ | ⟨hh, hb, ha⟩
  · rcases hg a with ⟨b, hb⟩ | ⟨hh, hb, hx⟩
    · exact .inl ⟨b, fun w es => by rw [runT_bindM, ha]; exact hb w es⟩
    · exact .inr ⟨hh, hb, fun w es => by rw [runT_bindM, ha]; exact hx w es⟩
  · exact .inr ⟨hh, hb, fun w es => by rw [runT_bindM, ha]⟩
theorem Calm.program {α : Type} {g : Program → Sem α} (h : Calm E (g E.P)) : Calm E (program >>= g) := h
theorem Calm.ite {α : Type} {c : Prop} [Decidable c] {a b : Sem α} (h : Calm E a) (h' : Calm E b) : Calm E (if c then a else b) := by
  split
  · exact h
  · exact h'
theorem Calm.sim {α : Type} {t : Sem α} (h : Calm E t) : Sim E f n EQ t t := by
  intro hl w hr hn hos
  rcases h with ⟨a, ha⟩ | ⟨hh, hb, ha⟩
  · exact Sim.good [] (a := a) (a' := a) #[] (Nat.le_refl _) rfl (.refl hr) (fun v es hv _ => ⟨es, by subst hv; rw [ha]; rfl⟩) (fun es => by rw [ha, Array.append_empty])
  · exact Sim.bad fun v es _ => ⟨hh, v, es, hb, ha v es⟩
theorem Sim.same {α β : Type} {Q : Nat → β → β → Prop} {t : Sem α} {g g' : α → Sem β} (h : Calm E t) (hg : ∀ a, Sim E f n Q (g a) (g' a)) : Sim E f n Q (t >>= g) (t >>= g') :=
  h.sim.bind fun m a a' hm hq => by
    cases hq
    exact (hg a).mono hm fun _ _ _ _ h => h
theorem calm_typeInfo (t : TypeId) : Calm E (typeInfo t) := by
  unfold typeInfo
  refine .program ?_
  cases E.P.info? t
  · exact .stuck _
  · exact .pure _
theorem calm_underlying (t : TypeId) : Calm E (underlying t) := by
  unfold underlying
  refine .program ?_
  cases E.P.underlying t
  · exact .stuck _
  · exact .pure _
theorem calm_sizeOf (t : TypeId) : Calm E (sizeOf t) := (calm_typeInfo t).bind fun _ => .pure _
theorem calm_isAgg (t : TypeId) : Calm E (isAgg t) := by
  refine (calm_underlying t).bind fun d => ?_
  cases d <;> exact .pure _
theorem calm_elemOf (t : TypeId) : Calm E (elemOf t) := by
  refine (calm_underlying t).bind fun d => ?_
  cases d <;> first | exact .pure _ | exact .stuck _
theorem calm_typeStr (t : TypeId) : Calm E (typeStr t) := by
  refine (calm_typeInfo t).bind fun i => ?_
  simp only
  split
  · exact .unsupported (by simp)
  · exact .pure _
theorem calm_zeroValue (t : TypeId) : Calm E (zeroValue t) := by
  refine (calm_typeInfo t).bind fun i => ?_
  cases i.zero
  · exact .unsupported (by simp)
  · exact .pure _
def zok (P : Program) (t : TypeId) : Bool := match P.info? t with
  | some i => match i.zero with
    | some z => plainV z
    | none => true
  | none => true
theorem run_typeInfo {t : TypeId} {i : TypeInfo} (h : E.P.info? t = some i) (w : World) (es : Array Event) : (typeInfo t).runT E.P w es = (.ok i w, es) := by
  have : typeInfo t = program >>= fun p => match p.info? t with | some i => pure i | none => stuck "no such type" := rfl
  rw [this, runT_bindM]
  show (match E.P.info? t with | some i => pure i | none => stuck "no such type" : Sem TypeInfo).runT E.P w es = _
  rw [h]
  rfl
theorem sim_zeroValue {t : TypeId} (h : zok E.P t = true) : Sim E f n (fun _ v v' => v' = v ∧ plainV v = true) (zeroValue t) (zeroValue t) := by
  intro hl w hr hn hos
  unfold zok at h
  rcases calm_zeroValue (E := E) t with ⟨z, hz⟩ | ⟨hh, hb, hx⟩
  · refine Sim.good [] (a := z) (a' := z) #[] (Nat.le_refl _) ⟨rfl, ?_⟩ (.refl hr) (fun v es hv _ => ⟨es, by subst hv; rw [hz]; rfl⟩) (fun es => by rw [hz, Array.append_empty])
    cases hi : E.P.info? t with
    | none =>
      exfalso
      have h1 := hz default #[]
      have : typeInfo t = program >>= fun p => match p.info? t with | some i => pure i | none => stuck "no such type" := rfl
      have h2 : (typeInfo t).runT E.P default #[] = (.halt (.stuck "no such type") default, #[]) := by
        rw [this, runT_bindM]
        show (match E.P.info? t with | some i => pure i | none => stuck "no such type" : Sem TypeInfo).runT E.P default #[] = _
        rw [hi]
        rfl
      unfold zeroValue at h1
      rw [runT_bindM, h2] at h1
      cases h1
    | some i =>
      rw [hi] at h
      have h1 := hz default #[]
      unfold zeroValue at h1
      rw [runT_bindM, run_typeInfo hi] at h1
      cases hz : i.zero with
      | none => simp only [hz] at h1; cases h1
      | some v =>
        simp only [hz] at h1 h
        cases h1
        exact h
  · exact Sim.bad fun v es _ => ⟨hh, v, es, hb, hx v es⟩
theorem sim_under {α : Type} {Q : Nat → α → α → Prop} {t : TypeId} {g g' : TypeDesc → Sem α} (h : ∀ d, E.P.underlying t = some d → Sim E f n Q (g d) (g' d)) : Sim E f n Q (underlying t >>= g) (underlying t >>= g') := by
  show Sim E f n Q ((match E.P.underlying t with | some d => pure d | none => stuck "no such type") >>= g) ((match E.P.underlying t with | some d => pure d | none => stuck "no such type") >>= g')
  cases hd : E.P.underlying t with
  | none => exact Sim.stuckB
  | some d => exact h d hd
theorem sim_info {α : Type} {Q : Nat → α → α → Prop} {t : TypeId} {g g' : TypeInfo → Sem α} (h : ∀ d, E.P.info? t = some d → Sim E f n Q (g d) (g' d)) : Sim E f n Q (typeInfo t >>= g) (typeInfo t >>= g') := by
  show Sim E f n Q ((match E.P.info? t with | some d => pure d | none => stuck "no such type") >>= g) ((match E.P.info? t with | some d => pure d | none => stuck "no such type") >>= g')
  cases hd : E.P.info? t with
  | none => exact Sim.stuckB
  | some d => exact h d hd
theorem sim_size {α : Type} {Q : Nat → α → α → Prop} {t : TypeId} {g g' : Nat → Sem α} (h : ∀ d, E.P.info? t = some d → Sim E f n Q (g d.size) (g' d.size)) : Sim E f n Q (sizeOf t >>= g) (sizeOf t >>= g') := by
  show Sim E f n Q (((match E.P.info? t with | some d => pure d | none => stuck "no such type") >>= fun i => pure i.size) >>= g) (((match E.P.info? t with | some d => pure d | none => stuck "no such type") >>= fun i => pure i.size) >>= g')
  cases hd : E.P.info? t with
  | none => exact Sim.stuckB
  | some d => exact h d hd
theorem noO (F : Fit E f) {r : Nat} (h : E.I n r ∨ E.R r) : ¬ E.O r := fun hO => by
  rcases h with h | h
  · have := F.op _ hO
    have := h.1
    omega
  · exact F.no _ h hO
theorem sim_shape (F : Fit E f) {r : Nat} (h : E.I n r ∨ E.R r) : Sim E f n EQ (shape r) (shape (f r)) := by
  refine (Sim.shape F (n := n) (r := r) ?_).mono (Nat.le_refl _) fun k a a' hk hq => ?_
  · rcases h with h | h
    · exact .inl h
    · exact .inr (.inl h)
  · rcases hq with hq | ⟨hO, _⟩
    · exact hq
    · exact absurd hO (noO F h)
def VwQ (E : Env) (f : Nat → Nat) (m : Nat) (x x' : Option (Addr × TypeId)) : Prop := x' = x.map (fun p => (rA f p.1, p.2)) ∧ ∀ a t, x = some (a, t) → E.A m a.block
theorem heap_self {w : World} {h : Array Obj} (e : w.heap = h) : ({ w with heap := h, drawn := w.drawn + ([] : List Nat).length } : World) = w := by subst e; rfl
theorem run_shape_none {w : World} {r : Nat} {c : Array Value} {e : TypeId} (h : w.heap[r]? = some (.pending c e)) : w.shape? r = none := by simp only [World.shape?, h]
theorem run_shape_some {w : World} {r : Nat} {c : Array Value} {e : TypeId} {z : Nat × Nat} (h : w.heap[r]? = some (.cells c e z)) : w.shape? r = some (e, c.size) := by simp only [World.shape?, h]
theorem sim_viewAt (F : Fit E f) {r : Nat} (hA : E.A n r) : Sim E f n (VwQ E f) (viewAt r) (viewAt (f r)) := by
  have hIR : E.I n r ∨ E.R r → Sim E f n (VwQ E f) (viewAt r) (viewAt (f r)) := fun h => by
    unfold viewAt
    refine (sim_shape F h).bind fun m s s' hm hq => ?_
    cases hq
    refine Sim.ite (fun _ => Sim.pure fun _ _ => ⟨rfl, fun _ _ e => by cases e⟩) fun _ => ?_
    refine Sim.getObj (hA.mono hm) (fun k o hk hI ho => ?_) (fun hO => absurd hO (noO F h))
    cases o with
    | view a t =>
      refine Sim.pure fun _ hk => ⟨rfl, fun _ _ e => ?_⟩
      cases e
      exact Env.A.mono ho.1 hk
    | _ => exact Sim.pure fun _ hk => ⟨rfl, fun _ _ e => by cases e⟩
  rcases hA with hA | hA | hA
  · exact hIR (.inl hA)
  · exact hIR (.inr hA)
  · intro hl w hr hn hos
    obtain ⟨c, e, c', h1, h2, h3, h4⟩ := hr.op r hA
    refine Sim.good [] (a := none) (a' := none) #[] (Nat.le_refl _) ⟨rfl, fun _ _ e => by cases e⟩ (.refl hr) (fun v es hv _ => ⟨es.push ⟨.obj r, false, false⟩, ?_⟩) (fun es => ?_)
    · subst hv
      rw [heap_self rfl]
      unfold viewAt
      rw [runT_bindM, runT_shape, run_shape_none h1]
      simp only [Option.isSome_none, Bool.false_eq_true, if_false]
      rw [runT_bindM, runT_getObj E.P h1 rfl]
      rfl
    · unfold viewAt
      rw [runT_bindM, runT_shape, F.low _ (F.op _ hA), run_shape_some h2, Array.append_empty]
      rfl
theorem sim_noView (F : Fit E f) {a : Addr} (hA : E.A n a.block) : Sim E f n EQ (noView a) (noView (rA f a)) := by
  unfold noView
  refine (sim_viewAt F hA).bind fun m x x' hm hq => ?_
  obtain ⟨rfl, _⟩ := hq
  rw [Option.isSome_map]
  refine Sim.ite (fun _ => Sim.unsupported (by simp)) fun _ => Sim.pure fun _ _ => rfl
theorem sim_cellsIn (F : Fit E f) {r : Nat} (hA : E.A n r) : Sim E f n EQ (cellsIn r) (cellsIn (f r)) := by
  have hIR : E.I n r ∨ E.R r → Sim E f n EQ (cellsIn r) (cellsIn (f r)) := fun h => by
    unfold cellsIn
    refine (sim_shape F h).bind fun m s s' hm hq => ?_
    cases hq
    cases s with
    | some p => exact Sim.pure fun _ _ => rfl
    | none =>
      refine Sim.getObj (hA.mono hm) (fun k o hk hI ho => ?_) (fun hO => absurd hO (noO F h))
      cases o <;> first | exact Sim.pure fun _ _ => rfl | exact ho.elim
  rcases hA with hA | hA | hA
  · exact hIR (.inl hA)
  · exact hIR (.inr hA)
  · intro hl w hr hn hos
    obtain ⟨c, e, c', h1, h2, h3, h4⟩ := hr.op r hA
    refine Sim.good [] (a := some c.size) (a' := some c.size) #[] (Nat.le_refl _) rfl (.refl hr) (fun v es hv _ => ⟨es.push ⟨.obj r, false, false⟩, ?_⟩) (fun es => ?_)
    · subst hv
      rw [heap_self rfl]
      unfold cellsIn
      rw [runT_bindM, runT_shape, run_shape_none h1]
      show (Go.getObj r >>= _).runT E.P v es = _
      rw [runT_bindM, runT_getObj E.P h1 rfl]
      rfl
    · unfold cellsIn
      rw [runT_bindM, runT_shape, F.low _ (F.op _ hA), run_shape_some h2, Array.append_empty, h3]
      rfl
def AQ (E : Env) (f : Nat → Nat) (m : Nat) (cs cs' : Array Value) : Prop := cs' = cs.map (rV f) ∧ okAll E m cs
theorem sim_load (F : Fit E f) {a : Addr} (hA : E.A n a.block) : Sim E f n (VQ E f) (load a) (load (rA f a)) := (Sim.load F hA).mono (Nat.le_refl _) fun _ _ _ _ h => h.1
theorem sim_loadCellsFrom (F : Fit E f) {a : Addr} : ∀ (k i : Nat) (acc : Array Value) (n : Nat), E.A n a.block → okAll E n acc → Sim E f n (AQ E f) (loadCellsFrom a i k acc) (loadCellsFrom (rA f a) i k (acc.map (rV f)))
  | 0, i, acc, n, hA, hacc => Sim.pure fun _ hm => ⟨rfl, okAll_mono hacc hm⟩
  | k + 1, i, acc, n, hA, hacc => by
    unfold loadCellsFrom
    rw [rA_add]
    refine (sim_load F (a := a.add i) (by rw [block_add]; exact hA)).bind fun m v v' hm hq => ?_
    obtain ⟨rfl, hv⟩ := hq
    rw [← Array.map_push]
    exact sim_loadCellsFrom F k (i + 1) (acc.push v) m (hA.mono hm) (okAll_push (okAll_mono hacc hm) hv)
theorem sim_loadCells (F : Fit E f) {a : Addr} (hA : E.A n a.block) (k : Nat) : Sim E f n (AQ E f) (loadCells a k) (loadCells (rA f a) k) := by
  have := sim_loadCellsFrom F (a := a) k 0 #[] n hA (fun x hx => by simp at hx)
  simpa [loadCells] using this
theorem sim_storeCells (F : Fit E f) {a : Addr} : ∀ (vs : List Value) (i n : Nat), E.A n a.block → (∀ v ∈ vs, okV E n v) → Sim E f n EQ (storeCells a vs i) (storeCells (rA f a) (vs.map (rV f)) i)
  | [], i, n, _, _ => by
    unfold storeCells
    exact Sim.pure fun _ _ => rfl
  | v :: vs, i, n, hA, hv => by
    rw [List.map_cons]
    unfold storeCells
    rw [rA_add]
    refine (Sim.store F (a := a.add i) (by rw [block_add]; exact hA) (hv v (by simp))).bind fun m _ _ hm _ => ?_
    exact sim_storeCells F vs (i + 1) m (hA.mono hm) fun x hx => okV_mono hm x (hv x (by simp [hx]))
theorem sim_loadVar (F : Fit E f) {a : Addr} (hA : E.A n a.block) (t : TypeId) : Sim E f n (VQ E f) (loadVar t a) (loadVar t (rA f a)) := by
  unfold loadVar
  refine Sim.same (calm_isAgg t) fun b => ?_
  refine Sim.ite (fun _ => ?_) fun _ => sim_load F hA
  refine Sim.same (calm_sizeOf t) fun k => ?_
  refine (sim_loadCells F hA k).bind fun m cs cs' hm hq => ?_
  obtain ⟨rfl, hcs⟩ := hq
  exact Sim.pure fun _ hk => ⟨by rw [rV], by rw [okV]; exact okAll_mono hcs hk⟩
theorem sim_storeVar (F : Fit E f) {a : Addr} {v : Value} (hA : E.A n a.block) (hv : okV E n v) (t : TypeId) : Sim E f n EQ (storeVar t a v) (storeVar t (rA f a) (rV f v)) := by
  unfold storeVar
  refine Sim.same (calm_sizeOf t) fun k => ?_
  rw [cells_size_rV]
  dsimp only
  refine Sim.ite (fun _ => Sim.stuckB) fun _ => ?_
  have := sim_storeCells F (a := a) v.cells.toList 0 n hA fun x hx => okV_cells hv x (by simpa using hx)
  rw [cells_rV, Array.toList_map]
  exact this
def PQ (E : Env) (f : Nat → Nat) (m : Nat) (a a' : Addr) : Prop := a' = rA f a ∧ E.A m a.block
theorem sim_newRow {cs : Array Value} (h : okAll E n cs) (t : TypeId) : Sim E f n (fun m a a' => a' = rA f a ∧ E.I m a.block) (newRow t cs) (newRow t (cs.map (rV f))) := by
  unfold newRow
  refine (Sim.newObj (o := .cells cs t) h).bind fun m r r' hm hq => ?_
  obtain ⟨rfl, hI⟩ := hq
  exact Sim.pure fun _ hk => ⟨rfl, hI.mono hk⟩
theorem sim_newVar {v : Value} (h : okV E n v) (t : TypeId) : Sim E f n (fun m a a' => a' = rA f a ∧ E.I m a.block) (newVar t v) (newVar t (rV f v)) := by
  unfold newVar
  rw [cells_rV]
  exact sim_newRow (okV_cells h) t
theorem mem_extract {cs : Array Value} {i j : Nat} {x : Value} (h : x ∈ cs.extract i j) : x ∈ cs := by
  obtain ⟨k, hk, rfl⟩ := Array.mem_iff_getElem.1 h
  rw [Array.getElem_extract]
  exact Array.getElem_mem _
theorem sim_part {cs : Array Value} (h : okAll E n cs) (t : TypeId) (k : Nat) : Sim E f n (VQ E f) (part t cs k) (part t (cs.map (rV f)) k) := by
  unfold part
  refine Sim.same (calm_isAgg t) fun b => ?_
  refine Sim.ite (fun _ => ?_) fun _ => ?_
  · refine Sim.same (calm_sizeOf t) fun j => ?_
    refine Sim.pure fun m hm => ⟨?_, ?_⟩
    · rw [rV, Array.map_extract]
    · rw [okV]
      intro x hx
      exact okV_mono hm x (h x (mem_extract hx))
  · rw [Array.getElem?_map]
    cases hx : cs[k]? with
    | none => exact Sim.stuck
    | some v => exact Sim.pure fun m hm => ⟨rfl, okV_mono hm v (okAll_get h hx)⟩
structure RtOk (E : Env) : Prop where
  b : E.K E.P.rt.boundsError = true
  e : E.K E.P.rt.errorString = true
  p : E.K E.P.rt.plainError = true
  t : E.K E.P.rt.typeAssertionError = true
  n : E.K E.P.rt.panicNilError = true
  u : E.K E.P.rt.unhashableTypeError = true
  s : E.K E.P.rt.string = true
  g : E.R E.P.globals.size
theorem sim_handle (F : Fit E f) (H : RtOk E) (t : TypeId) (m : Nat) : VQ E f m (typeHandle E.P t) (typeHandle E.P t) := by
  refine ⟨?_, ?_⟩
  · simp only [typeHandle, rV, Option.map_some, rA]
    rw [F.low _ (F.ro _ H.g)]
  · simp only [typeHandle, okV, okA]
    exact .inr (.inl H.g)
theorem sim_panicString {α : Type} {Q : Nat → α → α → Prop} (H : RtOk E) (s : String) : Sim E f n Q (panicString s) (panicString s) := by
  unfold panicString
  refine Sim.program ?_
  have := Sim.goPanic (E := E) (f := f) (n := n) (Q := Q) (v := .iface E.P.rt.string (strVal s)) (by simp only [okV, strVal]; exact ⟨H.s, trivial⟩)
  simpa only [rV, strVal] using this
theorem sim_runtimePanic {α : Type} {Q : Nat → α → α → Prop} (F : Fit E f) (H : RtOk E) (e : RuntimeError) : Sim E f n Q (runtimePanic e) (runtimePanic e) := by
  have pan : ∀ {m : Nat} {v : Value}, okV E m v → rV f v = v → Sim E f m Q (goPanic v) (goPanic v) := fun {m v} h1 h2 => by
    have := Sim.goPanic (E := E) (f := f) (n := m) (Q := Q) h1
    rwa [h2] at this
  unfold runtimePanic
  refine Sim.program ?_
  cases e with
  | bounds x y s c => exact pan (by simp only [okV]; exact ⟨H.b, fun x hx => by simp only [List.mem_toArray, List.mem_cons, List.not_mem_nil, or_false] at hx; rcases hx with rfl | rfl | rfl | rfl <;> simp [okV]⟩) (by simp [rV])
  | error m => exact pan (by simp only [okV, strVal]; exact ⟨H.e, trivial⟩) (by simp [rV, strVal])
  | plain m => exact pan (by simp only [okV, strVal]; exact ⟨H.p, trivial⟩) (by simp [rV, strVal])
  | nilDeref => exact pan (by simp only [okV, strVal]; exact ⟨H.e, trivial⟩) (by simp [rV, strVal])
  | typeAssertion i c a s =>
    dsimp only
    refine Sim.same (calm_elemOf _) fun t => ?_
    have key : ∀ x y : Value, VQ E f n x x → VQ E f n y y → Sim E f n (fun m a a' => a' = rA f a ∧ E.I m a.block) (newVar t (.agg #[x, y, typeHandle E.P a, strVal s])) (newVar t (.agg #[x, y, typeHandle E.P a, strVal s])) := fun x y hx hy => by
      have h3 := sim_handle (f := f) F H a n
      have := sim_newVar (E := E) (f := f) (n := n) (v := .agg #[x, y, typeHandle E.P a, strVal s]) (by
        rw [okV]
        intro z hz
        simp only [List.mem_toArray, List.mem_cons, List.not_mem_nil, or_false] at hz
        rcases hz with rfl | rfl | rfl | rfl
        · exact hx.2
        · exact hy.2
        · exact h3.2
        · simp [okV, strVal]) t
      rw [rV] at this
      simp only [List.map_toArray, List.map_cons, List.map_nil, ← hx.1, ← hy.1] at this
      have e3 : rV f (typeHandle E.P a) = typeHandle E.P a := h3.1.symm
      have e4 : rV f (strVal s) = strVal s := by simp [rV, strVal]
      rw [e3, e4] at this
      exact this
    have h0 : VQ E f n (.pointer none) (.pointer none) := ⟨by simp [rV], by simp [okV, okA]⟩
    refine Sim.bind (Q := fun m a a' => a' = rA f a ∧ E.I m a.block) ?_ fun m r r' hm hq => ?_
    · cases i with
      | none =>
        cases c with
        | none => exact key _ _ h0 h0
        | some c => exact key _ _ h0 (sim_handle F H c n)
      | some i =>
        cases c with
        | none => exact key _ _ (sim_handle F H i n) h0
        | some c => exact key _ _ (sim_handle F H i n) (sim_handle F H c n)
    · obtain ⟨rfl, hI⟩ := hq
      have := Sim.goPanic (E := E) (f := f) (n := m) (Q := Q) (v := .iface E.P.rt.typeAssertionError (.pointer (some r))) (by simp only [okV, okA]; exact ⟨H.t, .inl hI⟩)
      simpa only [rV, Option.map_some] using this
  | panicNil =>
    refine Sim.same (calm_elemOf _) fun t => ?_
    refine Sim.bind (Q := fun m a a' => a' = rA f a ∧ E.I m a.block) ?_ fun m r r' hm hq => ?_
    · have := sim_newVar (E := E) (f := f) (n := n) (v := .agg #[]) (by rw [okV]; intro x hx; simp at hx) t
      simpa only [rV, List.map_toArray, List.map_nil] using this
    · obtain ⟨rfl, hI⟩ := hq
      have := Sim.goPanic (E := E) (f := f) (n := m) (Q := Q) (v := .iface E.P.rt.panicNilError (.pointer (some r))) (by simp only [okV, okA]; exact ⟨H.n, .inl hI⟩)
      simpa only [rV, Option.map_some] using this
  | unhashable t =>
    have h1 := sim_handle (f := f) F H t n
    refine pan (by simp only [okV]; exact ⟨H.u, fun x hx => by simp only [List.mem_toArray, List.mem_cons, List.not_mem_nil, or_false] at hx; subst hx; exact h1.2⟩) ?_
    rw [rV, rV]
    simp only [List.map_toArray, List.map_cons, List.map_nil]
    rw [← h1.1]
theorem sim_boundsPanic {α : Type} {Q : Nat → α → α → Prop} (F : Fit E f) (H : RtOk E) (k : IntKind) (x y : Int) (c : BoundsCode) : Sim E f n Q (boundsPanic k x y c) (boundsPanic k x y c) := by
  unfold boundsPanic
  dsimp only
  split
  · refine Sim.bind (Q := EQ) ?_ fun m a a' hm hq => ?_
    · show Sim E f n EQ (Go.choose _ >>= fun a => Pure.pure _) (Go.choose _ >>= fun a => Pure.pure _)
      refine (Sim.choose _).bind fun m a a' hm hq => ?_
      cases hq
      exact Sim.pure fun _ _ => rfl
    · cases hq
      exact sim_runtimePanic F H _
  · exact Sim.same (.pure _) fun _ => sim_runtimePanic F H _
theorem sim_asIntOf {v : Value} : Sim E f n EQ (asIntOf v) (asIntOf (rV f v)) := by
  cases v with
  | int k x => rw [rV]; exact Sim.pure fun _ _ => rfl
  | pointer a =>
    cases a with
    | none => exact Sim.stuck
    | some a => exact Sim.unsupported (by simp)
  | _ => exact Sim.stuck
theorem sim_asInt {v : Value} : Sim E f n EQ (asInt v) (asInt (rV f v)) := by
  unfold asInt
  refine sim_asIntOf.bind fun m a a' hm hq => ?_
  cases hq
  exact Sim.pure fun _ _ => rfl
theorem sim_asBool {v : Value} : Sim E f n EQ (asBool v) (asBool (rV f v)) := by
  cases v with
  | bool b => rw [rV]; exact Sim.pure fun _ _ => rfl
  | _ => exact Sim.stuck
theorem sim_asAgg {v : Value} (h : okV E n v) : Sim E f n (AQ E f) (asAgg v) (asAgg (rV f v)) := by
  cases v with
  | agg cs =>
    rw [rV]
    rw [okV] at h
    exact Sim.pure fun _ hm => ⟨rfl, okAll_mono h hm⟩
  | _ => exact Sim.stuck
theorem sim_asAddr (F : Fit E f) (H : RtOk E) {v : Value} (h : okV E n v) : Sim E f n (PQ E f) (asAddr v) (asAddr (rV f v)) := by
  cases v with
  | pointer a =>
    rw [rV]
    rw [okV] at h
    cases a with
    | none => exact sim_runtimePanic (Q := PQ E f) F H .nilDeref
    | some a => exact Sim.pure fun _ hm => ⟨rfl, Env.A.mono h hm⟩
  | _ => exact Sim.stuck
theorem sim_sureAddr {v : Value} (h : okV E n v) : Sim E f n (PQ E f) (Instr.sureAddr v) (Instr.sureAddr (rV f v)) := by
  cases v with
  | pointer a =>
    rw [rV]
    rw [okV] at h
    cases a with
    | none => exact Sim.stuck
    | some a => exact Sim.pure fun _ hm => ⟨rfl, Env.A.mono h hm⟩
  | _ => exact Sim.stuck
theorem sim_askRoom (k : Nat) : Sim E f n EQ (askRoom k) (askRoom k) := by
  unfold askRoom
  exact Sim.ite (fun _ => Sim.mark trivial) fun _ => Sim.pure fun _ _ => rfl
end
section
variable {E : Env} {f : Nat → Nat} {n : Nat}
theorem plain_cells {z : Value} (h : plainV z = true) : z.cells.map (rV f) = z.cells ∧ okAll E n z.cells := by
  refine ⟨?_, okV_cells (okV_plain h)⟩
  rw [← cells_rV, rV_plain h]
theorem sim_zero {t : TypeId} (h : zok E.P t = true) : Sim E f n (VQ E f) (zeroValue t) (zeroValue t) := (sim_zeroValue h).mono (Nat.le_refl _) fun _ _ _ _ hq => by
  obtain ⟨rfl, hp⟩ := hq
  exact ⟨(rV_plain hp).symm, okV_plain hp⟩
theorem sim_alloc {t : TypeId} (h : zok E.P t = true) : Sim E f n (VQ E f) (Instr.alloc t true (.tuple #[])) (Instr.alloc t true (.tuple #[])) := by
  unfold Instr.alloc
  refine (sim_zero h).bind fun m v v' hm hq => ?_
  obtain ⟨rfl, hv⟩ := hq
  refine (sim_newVar hv t).bind fun k a a' hk hq => ?_
  obtain ⟨rfl, hI⟩ := hq
  exact Sim.pure fun _ hj => ⟨by rw [rV]; rfl, by rw [okV]; exact .inl (hI.mono hj)⟩
theorem sim_box {t : TypeId} {v : Value} (hv : okV E n v) : Sim E f n (VQ E f) (Instr.box t v) (Instr.box t (rV f v)) := by
  unfold Instr.box
  refine (sim_newVar hv t).bind fun k a a' hk hq => ?_
  obtain ⟨rfl, hI⟩ := hq
  exact Sim.pure fun _ hj => ⟨by rw [rV]; rfl, by rw [okV]; exact .inl (hI.mono hj)⟩
theorem foldl_set_map (f : Nat → Nat) (off : Nat) : ∀ (l : List (Value × Nat)) (cs : Array Value), (l.map fun p => (rV f p.1, p.2)).foldl (fun cs p => cs.setIfInBounds (off + p.2) p.1) (cs.map (rV f)) = (l.foldl (fun cs p => cs.setIfInBounds (off + p.2) p.1) cs).map (rV f)
  | [], cs => rfl
  | p :: l, cs => by
    simp only [List.map_cons, List.foldl_cons]
    rw [← Array.map_setIfInBounds]
    exact foldl_set_map f off l _
theorem foldl_set_ok (off : Nat) : ∀ (l : List (Value × Nat)) (cs : Array Value), okAll E n cs → (∀ p ∈ l, okV E n p.1) → okAll E n (l.foldl (fun cs p => cs.setIfInBounds (off + p.2) p.1) cs) ∧ (l.foldl (fun cs p => cs.setIfInBounds (off + p.2) p.1) cs).size = cs.size
  | [], cs, h, _ => ⟨h, rfl⟩
  | p :: l, cs, h, hl => by
    simp only [List.foldl_cons]
    obtain ⟨h1, h2⟩ := foldl_set_ok off l (cs.setIfInBounds (off + p.2) p.1) (okAll_set h (hl p (by simp)) _) (fun q hq => hl q (by simp [hq]))
    exact ⟨h1, by rw [h2, Array.size_setIfInBounds]⟩
theorem fill_map (f : Nat → Nat) (place : Nat → Option (Nat × Nat)) : ∀ (l : List (Nat × Value)) (cs : Array Value), Instr.fill place (cs.map (rV f)) (l.map fun p => (p.1, rV f p.2)) = (Instr.fill place cs l).map (Array.map (rV f))
  | [], cs => rfl
  | (i, v) :: l, cs => by
    simp only [List.map_cons, Instr.fill]
    cases place i with
    | none => rfl
    | some p =>
      obtain ⟨off, size⟩ := p
      simp only [cells_size_rV, Array.size_map]
      split
      · rfl
      · have e1 : ((rV f v).cells.zipIdx.foldl (fun cs p => cs.setIfInBounds (off + p.2) p.1) (cs.map (rV f))) = (v.cells.zipIdx.foldl (fun cs p => cs.setIfInBounds (off + p.2) p.1) cs).map (rV f) := by
          rw [cells_rV, ← Array.foldl_toList, ← Array.foldl_toList, Array.toList_zipIdx, Array.toList_zipIdx, Array.toList_map, ← foldl_set_map]
          congr 1
          rw [List.zipIdx_map]
          rfl
        have := fill_map f place l (v.cells.zipIdx.foldl (fun cs p => cs.setIfInBounds (off + p.2) p.1) cs)
        rw [← e1] at this
        exact this
theorem fill_ok (place : Nat → Option (Nat × Nat)) : ∀ (l : List (Nat × Value)) (cs ds : Array Value), okAll E n cs → (∀ p ∈ l, okV E n p.2) → Instr.fill place cs l = some ds → okAll E n ds
  | [], cs, ds, h, _, e => by cases e; exact h
  | (i, v) :: l, cs, ds, h, hl, e => by
    unfold Instr.fill at e
    split at e
    · cases e
    · rename_i off size _
      split at e
      · cases e
      · refine fill_ok place l _ ds ?_ (fun p hp => hl p (by simp [hp])) e
        show okAll E n (v.cells.zipIdx.foldl (fun cs p => cs.setIfInBounds (off + p.2) p.1) cs)
        rw [← Array.foldl_toList]
        refine (foldl_set_ok off _ cs h fun p hp => ?_).1
        rw [Array.toList_zipIdx] at hp
        obtain ⟨x, y⟩ := p
        have := List.fst_mem_of_mem_zipIdx hp
        exact okV_cells (hl (i, v) (by simp)) x (by simpa using this)
def PartsOk (E : Env) (n : Nat) (ps : Array (Nat × Value)) : Prop := ∀ p, p ∈ ps → okV E n p.2
theorem calm_mapM {α β : Type} {g : α → Sem β} (h : ∀ a, Calm E (g a)) (l : Array α) : Calm E (l.mapM g) := by
  have : ∀ l : List α, Calm E (l.mapM g) := fun l => by
    induction l with
    | nil => exact .pure _
    | cons a l ih =>
      rw [List.mapM_cons]
      exact (h a).bind fun _ => ih.bind fun _ => .pure _
  rw [Array.mapM_eq_mapM_toList]
  exact (this l.toList).bind fun _ => .pure _
theorem sim_fill {place : Nat → Option (Nat × Nat)} {cs : Array Value} {ps : Array (Nat × Value)} {s : String} (hc : okAll E n cs) (hp : PartsOk E n ps) {α : Type} {Q : Nat → α → α → Prop} {g g' : Array Value → Sem α} (hg : ∀ ds, okAll E n ds → Sim E f n Q (g ds) (g' (ds.map (rV f)))) :
    Sim E f n Q (match Instr.fill place cs ps.toList with | some ds => g ds | _ => stuck s) (match Instr.fill place (cs.map (rV f)) (ps.map fun p => (p.1, rV f p.2)).toList with | some ds => g' ds | _ => stuck s) := by
  rw [Array.toList_map, fill_map]
  cases hf : Instr.fill place cs ps.toList with
  | none => exact Sim.stuck
  | some ds => exact hg ds (fill_ok place _ cs ds hc (fun p hp' => hp p (by simpa using hp')) hf)
theorem sim_build {t : TypeId} {ps : Array (Nat × Value)} (hz : zok E.P t = true) (hp : PartsOk E n ps) : Sim E f n (VQ E f) (Instr.build t ps) (Instr.build t (ps.map fun p => (p.1, rV f p.2))) := by
  unfold Instr.build
  refine (sim_zeroValue hz).bind fun m z z' hm hq => ?_
  obtain ⟨rfl, hpl⟩ := hq
  obtain ⟨h1, h2⟩ := plain_cells (E := E) (f := f) (n := m) hpl
  have hp' : PartsOk E m ps := fun p h => okV_mono hm _ (hp p h)
  refine Sim.same (calm_underlying t) fun d => ?_
  cases d with
  | struct fields =>
    dsimp only
    refine Sim.same (calm_mapM (fun a => (calm_sizeOf _).bind fun _ => .pure _) fields) fun places => ?_
    have := sim_fill (E := E) (f := f) (n := m) (place := (places[·]?)) (s := "build: no such field, or a part of the wrong size") h2 hp' (Q := VQ E f) (g := fun cells => Pure.pure (.agg cells)) (g' := fun cells => Pure.pure (.agg cells)) fun ds hd => Sim.pure fun k hk => ⟨by rw [rV], by rw [okV]; exact okAll_mono hd hk⟩
    rw [h1] at this
    exact this
  | array len elem =>
    dsimp only
    refine Sim.same (calm_sizeOf elem) fun size => ?_
    have := sim_fill (E := E) (f := f) (n := m) (place := fun i => some (i * size, size)) (s := "build: a part of the wrong size") h2 hp' (Q := VQ E f) (g := fun cells => Pure.pure (.agg cells)) (g' := fun cells => Pure.pure (.agg cells)) fun ds hd => Sim.pure fun k hk => ⟨by rw [rV], by rw [okV]; exact okAll_mono hd hk⟩
    rw [h1] at this
    exact this
  | _ => exact Sim.stuck
theorem getBang_fixed {zs : Array Value} (h1 : zs.map (rV f) = zs) (h2 : okAll E n zs) (i : Nat) : rV f zs[i]! = zs[i]! ∧ okV E n zs[i]! := by
  rw [getElem!_def]
  cases hx : zs[i]? with
  | none =>
    show rV f (.bool false) = .bool false ∧ okV E n (.bool false)
    exact ⟨by rw [rV], by simp [okV]⟩
  | some v =>
    refine ⟨?_, okAll_get h2 hx⟩
    have := congrArg (·[i]?) h1
    simp only [Array.getElem?_map, hx, Option.map_some, Option.some.injEq] at this
    exact this
theorem range_fixed {zs : Array Value} (h1 : zs.map (rV f) = zs) (h2 : okAll E n zs) (k : Nat) (g : Nat → Nat) : ((Array.range k).map fun i => zs[g i]!).map (rV f) = ((Array.range k).map fun i => zs[g i]!) ∧ okAll E n ((Array.range k).map fun i => zs[g i]!) := by
  constructor
  · rw [Array.map_map]
    exact Array.map_congr_left fun i _ => (getBang_fixed (E := E) (n := n) h1 h2 (g i)).1
  · intro x hx
    obtain ⟨i, _, rfl⟩ := Array.mem_map.1 hx
    exact (getBang_fixed (f := f) h1 h2 (g i)).2
theorem empty_ok : okAll E n #[] := fun x hx => by simp at hx
theorem sim_sliceOf {t : TypeId} {cs : Array Value} (h : okAll E n cs) {α : Type} {Q : Nat → α → α → Prop} {g g' : Addr → Sem α} (hg : ∀ m a, n ≤ m → E.I m a.block → Sim E f m Q (g a) (g' (rA f a))) : Sim E f n Q (newRow t cs >>= g) (newRow t (cs.map (rV f)) >>= g') :=
  (sim_newRow h t).bind fun m a a' hm hq => by
    obtain ⟨rfl, hI⟩ := hq
    exact hg m a hm hI
theorem sim_buildSlice {t : TypeId} {len : Nat} {ps : Array (Nat × Value)} (hz : ∀ e, E.P.underlying t = some (.slice e) → zok E.P e = true) (hp : PartsOk E n ps) : Sim E f n (VQ E f) (Instr.buildSlice t len ps) (Instr.buildSlice t len (ps.map fun p => (p.1, rV f p.2))) := by
  unfold Instr.buildSlice
  refine sim_under fun d hd => ?_
  cases d with
  | slice elem =>
    dsimp only
    refine Sim.same (calm_sizeOf elem) fun size => ?_
    have fin : ∀ (m : Nat) (zero : Array Value), n ≤ m → zero.map (rV f) = zero → okAll E m zero → Sim E f m (VQ E f)
        (match Instr.fill (fun i => some (i * size, size)) ((Array.range (len * size)).map (fun x => zero[x % zero.size]!)) ps.toList with | some cells => newRow elem cells >>= fun a => Pure.pure (.slice (some a) len len) | _ => stuck "buildSlice: a part of the wrong size")
        (match Instr.fill (fun i => some (i * size, size)) ((Array.range (len * size)).map (fun x => zero[x % zero.size]!)) (ps.map fun p => (p.1, rV f p.2)).toList with | some cells => newRow elem cells >>= fun a => Pure.pure (.slice (some a) len len) | _ => stuck "buildSlice: a part of the wrong size") := fun m zero hm h1 h2 => by
      obtain ⟨k1, k2⟩ := range_fixed (E := E) (f := f) (n := m) h1 h2 (len * size) (fun x => x % zero.size)
      have := sim_fill (E := E) (f := f) (n := m) (place := fun i => some (i * size, size)) (s := "buildSlice: a part of the wrong size") k2 (ps := ps) (fun p h => okV_mono hm _ (hp p h)) (Q := VQ E f) (g := fun cells => newRow elem cells >>= fun a => Pure.pure (.slice (some a) len len)) (g' := fun cells => newRow elem cells >>= fun a => Pure.pure (.slice (some a) len len))
        fun ds hd => sim_sliceOf hd fun k a hk hI => Sim.pure fun j hj => ⟨by rw [rV]; rfl, by rw [okV]; exact .inl (hI.mono hj)⟩
      rw [k1] at this
      exact this
    refine Sim.ite (fun _ => Sim.unsB (by simp)) fun _ => ?_
    refine Sim.ite (fun _ => ?_) fun _ => ?_
    · exact fin n #[] (Nat.le_refl _) (by simp) empty_ok
    · refine (sim_zeroValue (hz elem hd)).bind fun m z z' hm hq => ?_
      obtain ⟨rfl, hpl⟩ := hq
      obtain ⟨h1, h2⟩ := plain_cells (E := E) (f := f) (n := m) hpl
      exact fin m _ hm h1 h2
  | _ => exact Sim.stuck
end
section
variable {E : Env} {f : Nat → Nat} {n : Nat}
theorem sys_env (w : World) : w.sys .env = (.strings w.os.env, w) := by
  unfold World.sys
  rfl
theorem sim_env {α : Type} {Q : Nat → α → α → Prop} {g g' : SysRet → Sem α} (h : ∀ x, Sim E f n Q (g x) (g' x)) : Sim E f n Q (sys .env >>= g) (sys .env >>= g') := by
  refine Sim.bind (Q := EQ) ?_ fun m a a' hm hq => by
    cases hq
    exact (h a).mono hm fun _ _ _ _ h => h
  intro hl w hr hn hos
  refine Sim.good [] (a := .strings E.os.env) (a' := .strings E.os.env) #[⟨.output, true, false⟩] (Nat.le_refl _) rfl ⟨hr, rfl, fun _ _ _ => rfl, rfl, rfl, rfl, fun e he => ?_⟩ (fun v es hv hl => ⟨es.push ⟨.output, true, false⟩, ?_⟩) (fun es => ?_)
  · simp only [List.mem_toArray, List.mem_cons, List.not_mem_nil, or_false] at he
    subst he
    exact .inr (.inr (.inr rfl))
  · subst hv
    have e := hl.1
    simp only [Go.sys, Sem.runT, sys_env]
    rw [heap_self rfl, ← e]
  · simp only [Go.sys, Sem.runT, sys_env, hos, Array.push_eq_append]
theorem sim_panic (F : Fit E f) (H : RtOk E) {v : Value} (hv : okV E n v) {Q : Nat → Value → Value → Prop} : Sim E f n Q (Instr.panic v) (Instr.panic (rV f v)) := by
  cases v with
  | iface t x => rw [rV]; have := Sim.goPanic (E := E) (f := f) (n := n) (Q := Q) hv; rw [rV] at this; exact this
  | nilIface =>
    rw [rV]
    unfold Instr.panic Instr.panicnil
    dsimp only
    refine Sim.bind (Q := EQ) ?_ fun m a a' hm hq => ?_
    · refine sim_env fun x => ?_
      cases x <;> first | exact Sim.stuck | exact Sim.program (Sim.pure fun _ _ => rfl)
    · cases hq
      refine Sim.ite (fun _ => ?_) fun _ => sim_runtimePanic F H _
      have := Sim.goPanic (E := E) (f := f) (n := m) (Q := Q) (v := .nilIface) (by simp [okV])
      rw [rV] at this
      exact this
  | _ => exact Sim.stuck
theorem sim_panB {α β : Type} (F : Fit E f) (H : RtOk E) {e : RuntimeError} {Q : Nat → β → β → Prop} {g g' : α → Sem β} : Sim E f n Q (runtimePanic e >>= g) (runtimePanic e >>= g') := (sim_runtimePanic (Q := fun _ _ _ => False) F H e).bind fun _ _ _ _ h => h.elim
theorem sim_loadAt (F : Fit E f) {t : TypeId} {a : Value} (ha : okV E n a) : Sim E f n (VQ E f) (Instr.loadAt t a) (Instr.loadAt t (rV f a)) := by
  unfold Instr.loadAt
  refine (sim_sureAddr ha).bind fun m p p' hm hq => ?_
  obtain ⟨rfl, hA⟩ := hq
  exact sim_loadVar F hA t
theorem sim_storeAt (F : Fit E f) {t : TypeId} {a v : Value} (ha : okV E n a) (hv : okV E n v) : Sim E f n EQ (Instr.storeAt t a v) (Instr.storeAt t (rV f a) (rV f v)) := by
  unfold Instr.storeAt
  refine (sim_sureAddr ha).bind fun m p p' hm hq => ?_
  obtain ⟨rfl, hA⟩ := hq
  exact sim_storeVar F hA (okV_mono hm v hv) t
theorem vq_ptr {m : Nat} {a : Addr} (h : E.A m a.block) : VQ E f m (.pointer (some a)) (.pointer (some (rA f a))) := ⟨by rw [rV]; rfl, by rw [okV]; exact h⟩
theorem vq_plain {m : Nat} {v : Value} (h : plain0 v = true) : VQ E f m v v := ⟨(rV_plain0 h).symm, okV_plain0 h⟩
def fok (P : Program) (s : TypeId) (k : Nat) : Bool := match P.underlying s with
  | some (.struct fs) => match fs[k]? with
    | some fl => match P.info? fl.type with
      | some i => i.size != 0
      | none => true
    | none => true
  | _ => true
theorem sim_fieldAt (_ : Fit E f) {s : TypeId} {a : Value} {k : Nat} (ha : okV E n a) (hf : fok E.P s k = true) : Sim E f n (VQ E f) (Instr.fieldAt s a k) (Instr.fieldAt s (rV f a) k) := by
  unfold Instr.fieldAt
  refine sim_under fun d hd => ?_
  cases d with
  | struct fs =>
    dsimp only
    cases hk : fs[k]? with
    | none => exact Sim.stuck
    | some fl =>
      dsimp only
      refine (sim_sureAddr ha).bind fun m p p' hm hq => ?_
      obtain ⟨rfl, hA⟩ := hq
      refine Sim.bind (Q := PQ E f) ?_ fun m p p' hm hq => ?_
      · unfold fieldPlace
        refine sim_size fun i hi => ?_
        have hne : i.size ≠ 0 := by
          unfold fok at hf
          simp only [hd, hk, hi] at hf
          simpa using hf
        rw [if_neg hne, if_neg hne]
        exact Sim.pure fun _ hk => ⟨rA_add f p _, by rw [block_add]; exact hA.mono hk⟩
      · obtain ⟨rfl, hA⟩ := hq
        exact Sim.pure fun _ hk => vq_ptr (hA.mono hk)
  | _ => exact Sim.stuck
theorem sim_sliceBound (F : Fit E f) (H : RtOk E) {v : Value} {y : Nat} {c : BoundsCode} : Sim E f n EQ (Instr.sliceBound v y c) (Instr.sliceBound (rV f v) y c) := by
  unfold Instr.sliceBound
  refine sim_asIntOf.bind fun m p p' hm hq => ?_
  cases hq
  obtain ⟨k, i⟩ := p
  exact Sim.ite (fun _ => Sim.pure fun _ _ => rfl) fun _ => sim_boundsPanic F H _ _ _ _
theorem sim_sliceBounds (F : Fit E f) (H : RtOk E) {b : Bool} {len cap : Nat} {low high max : Option Value} : Sim E f n EQ (Instr.sliceBounds b len cap low high max) (Instr.sliceBounds b len cap (low.map (rV f)) (high.map (rV f)) (max.map (rV f))) := by
  have hmx : (max.map (rV f)).isSome = max.isSome := Option.isSome_map
  have K3 : ∀ (k m h : Nat), Sim E f k EQ
      (match low with | some v => (Instr.sliceBound v h (if max.isSome then .slice3C else .sliceB) >>= fun l => Pure.pure (l, h, m)) | none => (Pure.pure 0 >>= fun l => Pure.pure (l, h, m)) : Sem (Nat × Nat × Nat))
      (match low.map (rV f) with | some v => (Instr.sliceBound v h (if (max.map (rV f)).isSome then .slice3C else .sliceB) >>= fun l => Pure.pure (l, h, m)) | none => (Pure.pure 0 >>= fun l => Pure.pure (l, h, m)) : Sem (Nat × Nat × Nat)) := fun k m h => by
    rw [hmx]
    cases low with
    | none => exact Sim.pure fun _ _ => rfl
    | some v =>
      refine (sim_sliceBound F H).bind fun _ _ _ _ hq => ?_
      cases hq
      exact Sim.pure fun _ _ => rfl
  unfold Instr.sliceBounds
  dsimp only
  cases max with
  | none =>
    cases high with
    | none => exact K3 n cap len
    | some v =>
      refine (sim_sliceBound (c := if b then .sliceAcap else .sliceAlen) F H).bind fun k _ _ _ hq => ?_
      cases hq
      exact K3 k cap _
  | some x =>
    refine (sim_sliceBound F H).bind fun k m _ _ hq => ?_
    cases hq
    cases high with
    | none => exact Sim.stuckB
    | some v =>
      refine (sim_sliceBound F H).bind fun j _ _ _ hq => ?_
      cases hq
      exact K3 j m _
theorem vq_slice {m : Nat} {a : Option Addr} {l c : Nat} (h : okA E m a) : VQ E f m (.slice a l c) (.slice (a.map (rA f)) l c) := ⟨by rw [rV], by rw [okV]; exact h⟩
theorem sim_slice (F : Fit E f) (H : RtOk E) {t : TypeId} {x : Value} {low high max : Option Value} (hx : okV E n x) : Sim E f n (VQ E f) (Instr.slice t x low high max) (Instr.slice t (rV f x) (low.map (rV f)) (high.map (rV f)) (max.map (rV f))) := by
  unfold Instr.slice
  have hmx : (max.map (rV f)).isSome = max.isSome := Option.isSome_map
  refine sim_under fun d hd => ?_
  cases d with
  | string =>
    cases x with
    | string s =>
      rw [rV]
      dsimp only
      rw [hmx]
      refine Sim.ite (fun _ => Sim.stuckB) fun _ => ?_
      refine (sim_sliceBounds (max := none) F H).bind fun k p _ _ hq => ?_
      cases hq
      obtain ⟨l, h, m⟩ := p
      exact Sim.pure fun _ _ => vq_plain rfl
    | _ => exact Sim.stuck
  | slice elem =>
    cases x with
    | slice a len cap =>
      rw [rV]
      rw [okV] at hx
      dsimp only
      refine (sim_sliceBounds F H).bind fun k p _ hk hq => ?_
      cases hq
      obtain ⟨l, h, m⟩ := p
      dsimp only
      refine Sim.same (calm_sizeOf elem) fun size => ?_
      have e : (if m = l then a.map (rA f) else (a.map (rA f)).map (·.add (l * size))) = (if m = l then a else a.map (·.add (l * size))).map (rA f) := by
        split
        · rfl
        · cases a with
          | none => rfl
          | some a => exact congrArg some (rA_add f a _)
      rw [e]
      refine Sim.pure fun j hj => vq_slice ?_
      split
      · exact okA_mono hx (Nat.le_trans hk hj)
      · cases a with
        | none => trivial
        | some a => exact okA_mono (a := some (a.add (l * size))) (by show E.A _ _; rw [block_add]; exact hx) (Nat.le_trans hk hj)
    | _ => exact Sim.stuck
  | pointer arr =>
    dsimp only
    refine (sim_asAddr F H hx).bind fun k a a' hk hq => ?_
    obtain ⟨rfl, hA⟩ := hq
    refine sim_under fun d2 hd2 => ?_
    cases d2 with
    | array len elem =>
      dsimp only
      refine (sim_sliceBounds F H).bind fun j p _ hj hq => ?_
      cases hq
      obtain ⟨l, h, m⟩ := p
      dsimp only
      refine Sim.same (calm_sizeOf elem) fun size => ?_
      have e : (if m = l then rA f a else (rA f a).add (l * size)) = rA f (if m = l then a else a.add (l * size)) := by
        split
        · rfl
        · exact rA_add f a _
      rw [e]
      refine Sim.pure fun i hi => vq_slice (a := some _) ?_
      show E.A i _
      split
      · exact hA.mono (Nat.le_trans hj hi)
      · rw [block_add]; exact hA.mono (Nat.le_trans hj hi)
    | _ => exact Sim.stuck
  | _ => exact Sim.stuck
theorem sim_sliceAt (F : Fit E f) (H : RtOk E) {t : TypeId} {x : Value} {low high max : Option Value} (hx : okV E n x) : Sim E f n (VQ E f) (Instr.sliceAt t x low high max) (Instr.sliceAt t (rV f x) (low.map (rV f)) (high.map (rV f)) (max.map (rV f))) := by
  unfold Instr.sliceAt
  refine sim_under fun d hd => ?_
  cases d with
  | array len elem =>
    dsimp only
    refine (sim_sureAddr hx).bind fun k a a' hk hq => ?_
    obtain ⟨rfl, hA⟩ := hq
    refine (sim_sliceBounds F H).bind fun j p _ hj hq => ?_
    cases hq
    obtain ⟨l, h, m⟩ := p
    dsimp only
    refine Sim.same (calm_sizeOf elem) fun size => ?_
    have e : (if m = l then rA f a else (rA f a).add (l * size)) = rA f (if m = l then a else a.add (l * size)) := by
      split
      · rfl
      · exact rA_add f a _
    rw [e]
    refine Sim.pure fun i hi => vq_slice (a := some _) ?_
    show E.A i _
    split
    · exact hA.mono (Nat.le_trans hj hi)
    · rw [block_add]; exact hA.mono (Nat.le_trans hj hi)
  | _ => exact sim_slice F H hx
theorem sim_indexAt (F : Fit E f) (H : RtOk E) {t : TypeId} {x ix : Value} (hx : okV E n x) : Sim E f n (VQ E f) (Instr.indexAt t x ix) (Instr.indexAt t (rV f x) (rV f ix)) := by
  unfold Instr.indexAt
  refine sim_asIntOf.bind fun k p _ hk hq => ?_
  cases hq
  obtain ⟨kd, i⟩ := p
  dsimp only
  have fin : ∀ (m : Nat) (base : Option Addr) (len : Nat) (elem : TypeId), n ≤ m → okA E m base → Sim E f m (VQ E f)
      (underlying t >>= fun d => (match base with
        | some a => if 0 ≤ i ∧ i < len then (sizeOf elem >>= fun z => Pure.pure (.pointer (some (a.add (i.toNat * z))))) else if (decide (len ≤ 1) && (match d with | .array .. => true | _ => false)) = true then unsupported (.noEntry "op/indexAddr.an index out of range at an array of length 0 or 1 (ledger 616)") else boundsPanic kd i len .index
        | none => boundsPanic kd i 0 .index))
      (underlying t >>= fun d => (match base.map (rA f) with
        | some a => if 0 ≤ i ∧ i < len then (sizeOf elem >>= fun z => Pure.pure (.pointer (some (a.add (i.toNat * z))))) else if (decide (len ≤ 1) && (match d with | .array .. => true | _ => false)) = true then unsupported (.noEntry "op/indexAddr.an index out of range at an array of length 0 or 1 (ledger 616)") else boundsPanic kd i len .index
        | none => boundsPanic kd i 0 .index)) := fun m base len elem hm hb => by
    refine Sim.same (calm_underlying t) fun d => ?_
    cases base with
    | none => exact sim_boundsPanic F H _ _ _ _
    | some a =>
      dsimp only [Option.map_some]
      refine Sim.ite (fun _ => ?_) fun _ => Sim.ite (fun _ => Sim.unsupported (by simp)) fun _ => sim_boundsPanic F H _ _ _ _
      refine Sim.same (calm_sizeOf elem) fun z => ?_
      rw [rA_add]
      exact Sim.pure fun j hj => vq_ptr (by rw [block_add]; exact Env.A.mono hb hj)
  refine sim_under fun d hd => ?_
  cases d with
  | array len elem =>
    dsimp only
    refine (sim_sureAddr (okV_mono hk x hx)).bind fun m a a' hm hq => ?_
    obtain ⟨rfl, hA⟩ := hq
    exact fin m (some a) len elem (Nat.le_trans hk hm) hA
  | slice elem =>
    cases x with
    | slice base len cap =>
      rw [rV]
      rw [okV] at hx
      exact fin k base len elem hk (okA_mono hx hk)
    | _ => exact Sim.stuckB
  | _ => exact Sim.stuckB
theorem sim_index (F : Fit E f) (H : RtOk E) {t : TypeId} {x ix : Value} (hx : okV E n x) : Sim E f n (VQ E f) (Instr.index t x ix) (Instr.index t (rV f x) (rV f ix)) := by
  unfold Instr.index
  refine sim_asIntOf.bind fun k p _ hk hq => ?_
  cases hq
  obtain ⟨kd, i⟩ := p
  dsimp only
  refine sim_under fun d hd => ?_
  cases d with
  | array len elem =>
    cases x with
    | agg cs =>
      rw [rV]
      rw [okV] at hx
      dsimp only
      refine Sim.ite (fun _ => ?_) fun _ => sim_boundsPanic F H _ _ _ _
      refine Sim.same (calm_sizeOf elem) fun z => ?_
      exact sim_part (okAll_mono hx hk) elem _
    | _ => exact Sim.stuck
  | string =>
    cases x with
    | string s =>
      rw [rV]
      dsimp only
      split
      · exact Sim.pure fun _ _ => vq_plain rfl
      · exact sim_boundsPanic F H _ _ _ _
    | _ => exact Sim.stuck
  | _ => exact Sim.stuck
theorem sim_field {t : TypeId} {x : Value} {k : Nat} (hx : okV E n x) : Sim E f n (VQ E f) (Instr.field t x k) (Instr.field t (rV f x) k) := by
  unfold Instr.field
  refine sim_under fun d hd => ?_
  cases d with
  | struct fs =>
    dsimp only
    cases fs[k]? with
    | none => exact Sim.stuck
    | some fl =>
      dsimp only
      refine (sim_asAgg hx).bind fun m cs cs' hm hq => ?_
      obtain ⟨rfl, hcs⟩ := hq
      exact sim_part hcs _ _
  | _ => exact Sim.stuck
theorem sim_extract {x : Value} {k : Nat} (hx : okV E n x) : Sim E f n (VQ E f) (Instr.extract x k) (Instr.extract (rV f x) k) := by
  cases x with
  | tuple vs =>
    rw [rV]
    rw [okV] at hx
    unfold Instr.extract
    dsimp only
    rw [Array.getElem?_map]
    cases hk : vs[k]? with
    | none => exact Sim.stuck
    | some v => exact Sim.pure fun _ hm => ⟨rfl, okV_mono hm v (okAll_get hx hk)⟩
  | _ => exact Sim.stuck
theorem sim_makeInterface {t : TypeId} {x : Value} (hx : okV E n x) (hk : E.K t = true) : Sim E f n (VQ E f) (Instr.makeInterface t x) (Instr.makeInterface t (rV f x)) := by
  unfold Instr.makeInterface
  refine sim_under fun d hd => ?_
  have : Sim E f n (VQ E f) (Pure.pure (.iface t x)) (Pure.pure (.iface t (rV f x))) := Sim.pure fun _ hm => ⟨by rw [rV], by rw [okV]; exact ⟨hk, okV_mono hm x hx⟩⟩
  cases d <;> first | exact this | exact Sim.stuck
theorem sim_makeMap {t : TypeId} {r : Option Value} : Sim E f n (VQ E f) (Instr.makeMap t r) (Instr.makeMap t (r.map (rV f))) := by
  have fin : ∀ m, Sim E f m (VQ E f) (newObj (.map #[] 0) >>= fun r => Pure.pure (.map (some r))) (newObj (.map #[] 0) >>= fun r => Pure.pure (.map (some r))) := fun m => by
    have := Sim.newObj (E := E) (f := f) (n := m) (o := .map #[] 0) (fun e he => by simp at he)
    have e0 : rO f (.map #[] 0) = .map #[] 0 := by simp [rO]
    rw [e0] at this
    refine this.bind fun k r r' hk hq => ?_
    obtain ⟨rfl, hI⟩ := hq
    exact Sim.pure fun j hj => ⟨by rw [rV]; rfl, by rw [okV]; intro k hk; cases hk; exact hI.mono hj⟩
  unfold Instr.makeMap
  cases r with
  | none => exact fin n
  | some v =>
    dsimp only [Option.map_some]
    refine sim_under fun d hd => ?_
    cases d with
    | map _ _ =>
      dsimp only
      refine sim_asInt.bind fun k _ _ _ _ => fin k
    | _ => exact Sim.stuckB
theorem sim_makeSlice (F : Fit E f) (H : RtOk E) {t : TypeId} {l c : Value} (hz : ∀ e, E.P.underlying t = some (.slice e) → zok E.P e = true) : Sim E f n (VQ E f) (Instr.makeSlice t l c) (Instr.makeSlice t (rV f l) (rV f c)) := by
  unfold Instr.makeSlice
  refine sim_under fun d hd => ?_
  cases d with
  | slice elem =>
    dsimp only
    refine sim_asInt.bind fun k len _ _ hq => ?_
    cases hq
    refine sim_asInt.bind fun k2 cap _ _ hq => ?_
    cases hq
    refine Sim.same (calm_typeInfo elem) fun info => ?_
    have fin : ∀ m, Sim E f m (VQ E f)
        (askRoom ((IntKind.i64.wrap cap).toNat * info.bytes) >>= fun _ => sizeOf elem >>= fun z => if (IntKind.i64.wrap cap).toNat * z = 0 then (Pure.pure #[] >>= fun zero : Array Value => newRow elem ((Array.range ((IntKind.i64.wrap cap).toNat * z)).map (fun x => zero[x % zero.size]!)) >>= fun a => Pure.pure (.slice (some a) (IntKind.i64.wrap len).toNat (IntKind.i64.wrap cap).toNat)) else (zeroValue elem >>= fun v => Pure.pure v.cells >>= fun zero : Array Value => newRow elem ((Array.range ((IntKind.i64.wrap cap).toNat * z)).map (fun x => zero[x % zero.size]!)) >>= fun a => Pure.pure (.slice (some a) (IntKind.i64.wrap len).toNat (IntKind.i64.wrap cap).toNat)))
        (askRoom ((IntKind.i64.wrap cap).toNat * info.bytes) >>= fun _ => sizeOf elem >>= fun z => if (IntKind.i64.wrap cap).toNat * z = 0 then (Pure.pure #[] >>= fun zero : Array Value => newRow elem ((Array.range ((IntKind.i64.wrap cap).toNat * z)).map (fun x => zero[x % zero.size]!)) >>= fun a => Pure.pure (.slice (some a) (IntKind.i64.wrap len).toNat (IntKind.i64.wrap cap).toNat)) else (zeroValue elem >>= fun v => Pure.pure v.cells >>= fun zero : Array Value => newRow elem ((Array.range ((IntKind.i64.wrap cap).toNat * z)).map (fun x => zero[x % zero.size]!)) >>= fun a => Pure.pure (.slice (some a) (IntKind.i64.wrap len).toNat (IntKind.i64.wrap cap).toNat))) := fun m => by
      refine (sim_askRoom _).bind fun m2 _ _ _ _ => ?_
      refine Sim.same (calm_sizeOf elem) fun z => ?_
      have last : ∀ (j : Nat) (zero : Array Value), zero.map (rV f) = zero → okAll E j zero → Sim E f j (VQ E f) (newRow elem ((Array.range ((IntKind.i64.wrap cap).toNat * z)).map (fun x => zero[x % zero.size]!)) >>= fun a => Pure.pure (.slice (some a) (IntKind.i64.wrap len).toNat (IntKind.i64.wrap cap).toNat)) (newRow elem ((Array.range ((IntKind.i64.wrap cap).toNat * z)).map (fun x => zero[x % zero.size]!)) >>= fun a => Pure.pure (.slice (some a) (IntKind.i64.wrap len).toNat (IntKind.i64.wrap cap).toNat)) := fun j zero h1 h2 => by
        obtain ⟨k1, k2⟩ := range_fixed (E := E) (f := f) (n := j) h1 h2 ((IntKind.i64.wrap cap).toNat * z) (fun x => x % zero.size)
        have := sim_sliceOf (E := E) (f := f) (n := j) (t := elem) k2 (Q := VQ E f) (g := fun a => Pure.pure (.slice (some a) (IntKind.i64.wrap len).toNat (IntKind.i64.wrap cap).toNat)) (g' := fun a => Pure.pure (.slice (some a) (IntKind.i64.wrap len).toNat (IntKind.i64.wrap cap).toNat)) fun k a hk hI => Sim.pure fun i hi => vq_slice (a := some a) (.inl (hI.mono hi))
        rw [k1] at this
        exact this
      refine Sim.ite (fun _ => last m2 #[] (by simp) empty_ok) fun _ => ?_
      refine (sim_zeroValue (hz elem hd)).bind fun j v v' hj hq => ?_
      obtain ⟨rfl, hpl⟩ := hq
      obtain ⟨h1, h2⟩ := plain_cells (E := E) (f := f) (n := j) hpl
      exact last j _ h1 h2
    refine Sim.ite (fun _ => Sim.ite (fun _ => sim_panB F H) fun _ => Sim.ite (fun _ => sim_panB F H) fun _ => ?_) fun _ => fin k2
    refine (Sim.choose _).bind fun m x _ _ hq => ?_
    cases hq
    exact sim_panB F H
  | _ => exact Sim.stuck
theorem sim_typeAssert (F : Fit E f) (H : RtOk E) {x : Value} {xt as : TypeId} {ok : Bool} (hx : okV E n x) (hz : zok E.P as = true) : Sim E f n (VQ E f) (Instr.typeAssert x xt as ok) (Instr.typeAssert (rV f x) xt as ok) := by
  unfold Instr.typeAssert
  have holds : ∀ v, okV E n v → Sim E f n (VQ E f) (Pure.pure (if ok then .tuple #[v, .bool true] else v)) (Pure.pure (if ok then .tuple #[rV f v, .bool true] else rV f v)) := fun v hv => by
    refine Sim.pure fun m hm => ?_
    cases ok with
    | false => exact ⟨rfl, okV_mono hm v hv⟩
    | true =>
      refine ⟨by simp [rV], ?_⟩
      simp only [if_true, okV]
      intro y hy
      simp only [List.mem_toArray, List.mem_cons, List.not_mem_nil, or_false] at hy
      rcases hy with rfl | rfl
      · exact okV_mono hm _ hv
      · simp [okV]
  have fails : ∀ (a b : Option TypeId) (s : String), Sim E f n (VQ E f) (if ok then (zeroValue as >>= fun z => Pure.pure (.tuple #[z, .bool false])) else runtimePanic (.typeAssertion a b as s)) (if ok then (zeroValue as >>= fun z => Pure.pure (.tuple #[z, .bool false])) else runtimePanic (.typeAssertion a b as s)) := fun a b s => by
    refine Sim.ite (fun _ => ?_) fun _ => sim_runtimePanic F H _
    refine (sim_zero hz).bind fun m z z' hm hq => ?_
    obtain ⟨e, hz⟩ := hq
    refine Sim.pure fun k hk => ⟨by simp [rV, e], ?_⟩
    rw [okV]
    intro y hy
    simp only [List.mem_toArray, List.mem_cons, List.not_mem_nil, or_false] at hy
    rcases hy with rfl | rfl
    · exact okV_mono hk _ hz
    · simp [okV]
  refine sim_under fun d hd => ?_
  cases x with
  | nilIface =>
    rw [rV]
    cases d <;> exact fails _ _ _
  | iface t v =>
    have hx' := hx
    rw [okV] at hx'
    have h1 := holds _ hx
    rw [rV] at h1 ⊢
    cases d with
    | interface want =>
      dsimp only
      refine sim_info fun i hi => ?_
      cases Instr.missingMethod want i.methods with
      | none => exact h1
      | some m => exact fails _ _ _
    | _ => exact Sim.ite (fun _ => holds v hx'.2) fun _ => fails _ _ _
  | _ => cases d <;> exact Sim.stuck
theorem sim_range {t : TypeId} {x : Value} (hx : okV E n x) : Sim E f n (VQ E f) (Instr.range t x) (Instr.range t (rV f x)) := by
  unfold Instr.range
  have fin : ∀ m o, okO E m o → Sim E f m (VQ E f) (newObj o >>= fun r => Pure.pure (.pointer (some ⟨r, 0, none⟩))) (newObj (rO f o) >>= fun r => Pure.pure (.pointer (some ⟨r, 0, none⟩))) := fun m o ho => by
    refine (Sim.newObj ho).bind fun k r r' hk hq => ?_
    obtain ⟨rfl, hI⟩ := hq
    exact Sim.pure fun j hj => vq_ptr (a := ⟨r, 0, none⟩) (.inl (hI.mono hj))
  refine sim_under fun d hd => ?_
  cases d with
  | string =>
    cases x with
    | string s => rw [rV]; exact fin n (.stringIter s 0) trivial
    | _ => exact Sim.stuckB
  | map k e =>
    cases x with
    | map r =>
      rw [rV]
      rw [okV] at hx
      cases r with
      | none => exact fin n (.mapIter none 0 #[] 0) (fun k hk => by cases hk)
      | some m =>
        dsimp only [Option.map_some]
        refine Sim.getObj (.inl (hx m rfl)) (fun j o hj hI ho => ?_) (fun hO c e t => Sim.stuckB)
        cases o with
        | map es clock => exact fin j (.mapIter (some m) clock #[] clock) (fun k hk => by cases hk; exact hI)
        | _ => first | exact Sim.stuckB | exact ho.elim
    | _ => exact Sim.stuckB
  | _ => exact Sim.stuckB
theorem sim_next (F : Fit E f) {x : Value} {t : TypeId} (hx : okV E n x) : Sim E f n (VQ E f) (Instr.next x true t) (Instr.next (rV f x) true t) := by
  unfold Instr.next
  cases x with
  | pointer a =>
    rw [rV]
    rw [okV] at hx
    cases a with
    | none => exact Sim.stuck
    | some a =>
      obtain ⟨r, off, spot⟩ := a
      cases off with
      | succ k => exact Sim.stuck
      | zero =>
        dsimp only [Option.map_some, rA]
        refine Sim.getObj hx (fun j o hj hI ho => ?_) (fun hO c e t => Sim.stuck)
        cases o with
        | stringIter s pos =>
          dsimp only [rO]
          refine Sim.ite (fun _ => ?_) fun _ => Sim.pure fun _ _ => ⟨by simp [rV], by simp [okV]⟩
          refine (Sim.setObj F (o := .stringIter s (pos + (Utf8.decode s pos).2)) hI trivial).bind fun _ _ _ _ _ => ?_
          exact Sim.pure fun _ _ => ⟨by simp [rV, goInt], by simp [okV, goInt]⟩
        | mapIter m _ _ _ => cases m <;> exact Sim.stuck
        | _ => first | exact Sim.stuck | exact ho.elim
  | _ => exact Sim.stuck
end
section
variable {E : Env} {f : Nat → Nat} {n : Nat}
def NmQ (E : Env) (f : Nat → Nat) (m : Nat) (x x' : Option (Addr × Bool)) : Prop := x' = x.map (fun p => (rA f p.1, p.2)) ∧ ∀ a t, x = some (a, t) → E.A m a.block
theorem sim_numberAt (F : Fit E f) {r : Nat} (hA : E.A n r) : Sim E f n (NmQ E f) (numberAt r) (numberAt (f r)) := by
  have hIR : E.I n r ∨ E.R r → Sim E f n (NmQ E f) (numberAt r) (numberAt (f r)) := fun h => by
    unfold numberAt
    refine (sim_shape F h).bind fun m s s' hm hq => ?_
    cases hq
    refine Sim.ite (fun _ => Sim.pure fun _ _ => ⟨rfl, fun _ _ e => by cases e⟩) fun _ => ?_
    refine Sim.getObj (hA.mono hm) (fun k o hk hI ho => ?_) (fun hO => absurd hO (noO F h))
    cases o with
    | number a t =>
      refine Sim.pure fun _ hk => ⟨rfl, fun _ _ e => ?_⟩
      cases e
      exact Env.A.mono ho hk
    | _ => exact Sim.pure fun _ hk => ⟨rfl, fun _ _ e => by cases e⟩
  rcases hA with hA | hA | hA
  · exact hIR (.inl hA)
  · exact hIR (.inr hA)
  · intro hl w hr hn hos
    obtain ⟨c, e, c', h1, h2, h3, h4⟩ := hr.op r hA
    refine Sim.good [] (a := none) (a' := none) #[] (Nat.le_refl _) ⟨rfl, fun _ _ e => by cases e⟩ (.refl hr) (fun v es hv _ => ⟨es.push ⟨.obj r, false, false⟩, ?_⟩) (fun es => ?_)
    · subst hv
      rw [heap_self rfl]
      unfold numberAt
      rw [runT_bindM, runT_shape, run_shape_none h1]
      simp only [Option.isSome_none, Bool.false_eq_true, if_false]
      rw [runT_bindM, runT_getObj E.P h1 rfl]
      rfl
    · unfold numberAt
      rw [runT_bindM, runT_shape, F.low _ (F.op _ hA), run_shape_some h2, Array.append_empty]
      rfl
theorem sim_behindNumber (F : Fit E f) {a : Addr} (hA : E.A n a.block) : Sim E f n (fun m x x' => x' = (rA f x.1, x.2) ∧ E.A m x.1.block) (behindNumber a) (behindNumber (rA f a)) := by
  unfold behindNumber
  refine (sim_numberAt F hA).bind fun m x x' hm hq => ?_
  obtain ⟨rfl, hx⟩ := hq
  refine Sim.pure fun k hk => ?_
  cases x with
  | none => exact ⟨rfl, hA.mono (Nat.le_trans hm hk)⟩
  | some p => exact ⟨rfl, (hx p.1 p.2 rfl).mono hk⟩
theorem sim_byteOf (F : Fit E f) {a : Addr} (hA : E.A n a.block) : Sim E f n EQ (byteOf a) (byteOf (rA f a)) := by
  unfold byteOf
  show Sim E f n EQ (match a.spot with | some s => _ | _ => _) (match a.spot with | some s => _ | _ => _)
  cases a.spot with
  | some s => exact Sim.pure fun _ _ => rfl
  | none =>
    dsimp only
    refine Sim.program ?_
    refine (sim_noView F hA).bind fun m _ _ hm _ => ?_
    refine (Sim.shape F (hA.mono hm)).bind fun k s s' hk hq => ?_
    rcases hq with rfl | ⟨_, rfl, _⟩
    · cases s' with
      | none => exact Sim.stuck
      | some p =>
        obtain ⟨e, c⟩ := p
        dsimp only
        refine Sim.ite (fun _ => Sim.pure fun _ _ => rfl) fun _ => ?_
        show Sim E f k EQ (match byteOfCell E.P E.P.depth e (a.off % E.P.cellsOf e) with | some b => _ | _ => _) (match byteOfCell E.P E.P.depth e (a.off % E.P.cellsOf e) with | some b => _ | _ => _)
        cases byteOfCell E.P E.P.depth e (a.off % E.P.cellsOf e) with
        | none => exact Sim.stuck
        | some b => exact Sim.pure fun _ _ => rfl
    · exact Sim.stuck
theorem runT_frozen (P : Program) (a : Addr) (w : World) (es : Array Event) : (Go.frozen a).runT P w es = (.ok (w.frozen? a) w, es) := rfl
theorem frozen_other {w : World} {a : Addr} {o : Obj} (h : w.heap[a.block]? = some o) (hc : isRow o = false) : w.frozen? a = false := by
  cases o <;> first | (cases hc; done) | simp only [World.frozen?, h]
def FzQ (E : Env) (r : Nat) (_ : Nat) (b b' : Bool) : Prop := b' = b ∨ (E.R r ∧ b' = false)
theorem sim_frozen (F : Fit E f) {a : Addr} (hA : E.A n a.block) : Sim E f n (FzQ E a.block) (frozen a) (frozen (rA f a)) := by
  intro hl w hr hn hos
  have key : ∀ b b', FzQ E a.block 0 b b' → (∀ v : World, v.heap = hl → v.frozen? a = b) → w.frozen? (rA f a) = b' → ∃ (l : List Nat) (x : Option (Except Value Bool)) (hl' : Array Obj), Alone E (Go.frozen a) hl l x hl' ∧ hl.size ≤ hl'.size ∧
      (x ≠ none → ∃ (w' : World) (es' : Array Event), Left E f hl hl' w w' es' ∧ ∀ es, ∃ y, (Go.frozen (rA f a)).runT E.P w es = (y, es ++ es') ∧ resC E f hl'.size (FzQ E a.block) w' x y) := fun s s' hq h1 h2 => by
    refine Sim.good [] (a := s) (a' := s') #[] (Nat.le_refl _) hq (.refl hr) (fun v es hv _ => ⟨es, ?_⟩) (fun es => ?_)
    · rw [runT_frozen, h1 v hv]
      subst hv
      rfl
    · rw [runT_frozen, h2, Array.append_empty]
  rcases hA with hA | hA | hA
  · have hI := hA.mono hn
    have hlt := hI.2
    have hle := Array.getElem?_eq_getElem hlt
    obtain ⟨h1, h2⟩ := hr.own a.block hl[a.block] hI.1 hle
    generalize ho : hl[a.block] = o at h1 h2 hle
    have h2' : w.heap[(rA f a).block]? = some (rO f o) := h2
    cases hc : isRow o with
    | false => exact key false false (.inl rfl) (fun v hv => by subst hv; exact frozen_other hle hc) (frozen_other h2' (by rw [isRow_rO]; exact hc))
    | true =>
      cases o <;> first | (cases hc; done) | skip
      rename_i c t z
      exact key _ _ (.inl rfl) (fun v hv => by subst hv; exact frozen_cells hle) (frozen_cells (a := rA f a) h2')
  · obtain ⟨c, t, h1, h2, _⟩ := hr.ro a.block hA
    have hfx : (rA f a).block = a.block := F.low _ (F.ro _ hA)
    exact key _ false (.inr ⟨hA, rfl⟩) (fun v hv => by subst hv; exact frozen_cells h1) (by rw [frozen_cells (a := rA f a) (by rw [hfx]; exact h2)]; simp)
  · obtain ⟨c, e, c', h1, h2, _⟩ := hr.op a.block hA
    have hfx : (rA f a).block = a.block := F.low _ (F.op _ hA)
    exact key false false (.inl rfl) (fun v hv => by subst hv; exact frozen_other h1 rfl) (by rw [frozen_cells (a := rA f a) (by rw [hfx]; exact h2)]; simp)
theorem sim_leftChoose {α : Type} {Q : Nat → α → α → Prop} {t : Sem α} {s : String} {g : Nat → Sem α} (h : Sim E f n Q (g 0) t) : Sim E f n Q (choose (.extern s 2) >>= g) t := by
  intro hl w hr hn hos
  obtain ⟨l, r, hl', ha, hs, hc⟩ := h hl w hr hn hos
  refine ⟨0 :: l, r, hl', fun v es hv hlst => ?_, hs, hc⟩
  have h1 : Listed E ([0] ++ l) v := hlst
  have ht : v.tape v.drawn (.extern s 2) = 0 := by
    have := hlst.2 0 (.extern s 2) (by simp)
    simpa using this
  obtain ⟨x, es', hx, hres⟩ := ha { v with drawn := v.drawn + 1 } es hv (h1.right rfl rfl rfl)
  refine ⟨x, es', ?_, ?_⟩
  · rw [runT_bindM, runT_choose]
    have hfc : (Question.extern s 2).forced = false := rfl
    rw [hfc, ht]
    exact hx
  · have e : ({ v with heap := hl', drawn := v.drawn + (0 :: l).length } : World) = { ({ v with drawn := v.drawn + 1 } : World) with heap := hl', drawn := v.drawn + 1 + l.length } := by
      simp only [List.length_cons]
      congr 1
      omega
    rw [e]
    exact hres
theorem Env.I.noR (F : Fit E f) {r : Nat} (h : E.I n r) : ¬ E.R r := fun hR => by
  have := F.ro _ hR
  have := h.1
  omega
def MoQ (_ : Nat) (b b' : Bool) : Prop := b' = true → b = true
theorem sim_frozenI (F : Fit E f) {a : Addr} (hA : E.I n a.block) : Sim E f n EQ (frozen a) (frozen (rA f a)) := (sim_frozen F (.inl hA)).mono (Nat.le_refl _) fun _ _ _ _ hq => by
  rcases hq with hq | ⟨hR, _⟩
  · exact hq
  · exact absurd hR (hA.noR F)
theorem sim_stringishI (F : Fit E f) {a : Addr} (hA : E.I n a.block) : Sim E f n EQ (stringish a) (stringish (rA f a)) := by
  unfold stringish
  refine (sim_frozenI F hA).bind fun m b b' hm hq => ?_
  cases hq
  refine Sim.ite (fun _ => Sim.pure fun _ _ => rfl) fun _ => ?_
  refine (sim_shape F (r := a.block) (.inl (hA.mono hm))).bind fun k s s' hk hq => ?_
  cases hq
  cases s with
  | none => exact Sim.pure fun _ _ => rfl
  | some p => exact sim_frozenI F (a := { block := a.block, off := p.2 }) (hA.mono (Nat.le_trans hm hk))
theorem run_stringish (P : Program) (a : Addr) (w : World) (es : Array Event) : (stringish a).runT P w es = (.ok (if w.frozen? a then true else match w.shape? a.block with | some (_, k) => w.frozen? { block := a.block, off := k } | none => false) w, es) := by
  unfold stringish
  rw [runT_bindM, runT_frozen]
  dsimp only
  cases w.frozen? a with
  | true => rfl
  | false =>
    simp only [Bool.false_eq_true, if_false]
    rw [runT_bindM, runT_shape]
    dsimp only
    cases w.shape? a.block with
    | none => rfl
    | some p => rfl
theorem sim_stringish (F : Fit E f) {a : Addr} (hA : E.A n a.block) : Sim E f n MoQ (stringish a) (stringish (rA f a)) := by
  rcases hA with hA | hA | hA
  · exact (sim_stringishI F hA).mono (Nat.le_refl _) fun _ _ _ _ hq => by cases hq; exact fun h => h
  · intro hl w hr hn hos
    obtain ⟨c, t, h1, h2, _⟩ := hr.ro a.block hA
    have hfx : (rA f a).block = a.block := F.low _ (F.ro _ hA)
    have h2' : w.heap[(rA f a).block]? = some (.cells c t (0, 0)) := by rw [hfx]; exact h2
    refine Sim.good [] (a := if (decide (0 ≤ a.off) && decide (a.off < c.size)) then true else (decide (0 ≤ c.size) && decide (c.size < c.size))) (a' := false) #[] (Nat.le_refl _) (fun h => by cases h) (.refl hr) (fun v es hv _ => ⟨es, ?_⟩) (fun es => ?_)
    · subst hv
      rw [heap_self rfl, run_stringish, frozen_cells h1, run_shape_some h1]
      simp only [frozen_cells (a := { block := a.block, off := c.size }) h1]
    · rw [run_stringish, frozen_cells h2', run_shape_some h2']
      simp only [frozen_cells (a := { block := (rA f a).block, off := c.size }) h2', Array.append_empty]
      simp
  · intro hl w hr hn hos
    obtain ⟨c, e, c', h1, h2, _⟩ := hr.op a.block hA
    have hfx : (rA f a).block = a.block := F.low _ (F.op _ hA)
    have h2' : w.heap[(rA f a).block]? = some (.cells c' e (0, 0)) := by rw [hfx]; exact h2
    refine Sim.good [] (a := false) (a' := false) #[] (Nat.le_refl _) (fun h => h) (.refl hr) (fun v es hv _ => ⟨es, ?_⟩) (fun es => ?_)
    · subst hv
      rw [heap_self rfl, run_stringish, frozen_other h1 rfl, run_shape_none h1]
      rfl
    · rw [run_stringish, frozen_cells h2', run_shape_some h2']
      simp only [frozen_cells (a := { block := (rA f a).block, off := c'.size }) h2', Array.append_empty]
      simp
theorem sim_isNone (F : Fit E f) {a : Addr} (hA : E.A n a.block) : Sim E f n EQ (do pure ((← shape a.block) matches some (_, 0)) : Sem Bool) (do pure ((← shape (rA f a).block) matches some (_, 0)) : Sem Bool) := by
  refine (Sim.shape F hA).bind fun m s s' hm hq => ?_
  refine Sim.pure fun _ _ => ?_
  rcases hq with rfl | ⟨_, rfl, e, k, hk, rfl⟩
  · rfl
  · cases k with
    | zero => omega
    | succ k => rfl
theorem sim_mayBeOne (F : Fit E f) {a b : Addr} (ha : E.A n a.block) (hb : E.A n b.block) : Sim E f n MoQ (mayBeOne a b) (mayBeOne (rA f a) (rA f b)) := by
  unfold mayBeOne
  refine (sim_stringish F ha).bind fun m sa sa' hm h1 => ?_
  refine (sim_stringish F (hb.mono hm)).bind fun k sb sb' hk h2 => ?_
  dsimp only
  refine (sim_isNone F (ha.mono (Nat.le_trans hm hk))).bind fun j x x' hj hq => ?_
  cases hq
  refine (sim_isNone F (hb.mono (Nat.le_trans (Nat.le_trans hm hk) hj))).bind fun i y y' hi hq => ?_
  cases hq
  refine Sim.pure fun _ _ h => ?_
  unfold MoQ at h1 h2
  cases sa <;> cases sa' <;> cases sb <;> cases sb' <;> simp_all
theorem beq_rA (F : Fit E f) (a b : Addr) : (rA f a == rA f b) = (a == b) := by
  cases h : (a == b) with
  | true => rw [eq_of_beq h]; simp
  | false =>
    cases h' : (rA f a == rA f b) with
    | false => rfl
    | true =>
      have := rA_inj F.inj (eq_of_beq h')
      rw [this] at h
      simp at h
theorem beq_block (F : Fit E f) (a b : Addr) : ((rA f a).block == (rA f b).block) = (a.block == b.block) := by
  cases h : (a.block == b.block) with
  | true => exact beq_iff_eq.2 (congrArg f (eq_of_beq h))
  | false =>
    cases h' : ((rA f a).block == (rA f b).block) with
    | false => rfl
    | true =>
      have := F.inj _ _ (eq_of_beq h')
      rw [this] at h
      simp at h
theorem sim_sameAddr (F : Fit E f) {a b : Addr} (ha : E.A n a.block) (hb : E.A n b.block) : Sim E f n EQ (sameAddr a b) (sameAddr (rA f a) (rA f b)) := by
  unfold sameAddr
  rw [beq_block F, beq_rA F]
  dsimp only
  refine Sim.ite (fun _ => Sim.pure fun _ _ => rfl) fun _ => ?_
  refine (sim_frozen F ha).bind fun m x x' hm h1 => ?_
  refine (sim_frozen F (hb.mono hm)).bind fun k y y' hk h2 => ?_
  have ha2 := ha.mono (Nat.le_trans hm hk)
  have hb2 := hb.mono (Nat.le_trans hm hk)
  have fin : Sim E f k EQ (noView a >>= fun _ => noView b >>= fun _ => mayBeOne a b >>= fun x => if x = true then (choose (.extern "sameAddr.stringBytes" 2) >>= fun x => Pure.pure (x == 1)) else Pure.pure false)
      (noView (rA f a) >>= fun _ => noView (rA f b) >>= fun _ => mayBeOne (rA f a) (rA f b) >>= fun x => if x = true then (choose (.extern "sameAddr.stringBytes" 2) >>= fun x => Pure.pure (x == 1)) else Pure.pure false) := by
    refine (sim_noView F ha2).bind fun j _ _ hj _ => ?_
    refine (sim_noView F (hb2.mono hj)).bind fun i _ _ hi _ => ?_
    refine (sim_mayBeOne F (ha2.mono (Nat.le_trans hj hi)) (hb2.mono (Nat.le_trans hj hi))).bind fun l z z' hl hq => ?_
    cases z with
    | false =>
      cases z' with
      | false => exact Sim.pure fun _ _ => rfl
      | true => exact absurd (hq rfl) (by simp)
    | true =>
      cases z' with
      | false =>
        simp only [if_true, Bool.false_eq_true, if_false]
        exact sim_leftChoose (Sim.pure fun _ _ => rfl)
      | true =>
        simp only [if_true]
        refine (Sim.choose _).bind fun _ _ _ _ hq => ?_
        cases hq
        exact Sim.pure fun _ _ => rfl
  cases x with
  | false =>
    have e1 : x' = false := by
      rcases h1 with h1 | ⟨_, h1⟩ <;> exact h1
    subst e1
    exact fin
  | true =>
    cases y with
    | true => exact Sim.unsB (by simp)
    | false =>
      have e2 : y' = false := by
        rcases h2 with h2 | ⟨_, h2⟩ <;> exact h2
      subst e2
      cases x' <;> exact fin
end
section
variable {E : Env} {f : Nat → Nat} {n : Nat}
theorem sim_forInL {α β : Type} {body body' : α → β → Sem (ForInStep β)} : ∀ (l : List α) (n : Nat) (s : β), (∀ m a s, n ≤ m → Sim E f m EQ (body a s) (body' a s)) → Sim E f n EQ (forIn l s body) (forIn l s body')
  | [], n, s, _ => Sim.pure fun _ _ => rfl
  | a :: l, n, s, h => by
    rw [List.forIn_cons, List.forIn_cons]
    refine (h n a s (Nat.le_refl _)).bind fun m x x' hm hq => ?_
    cases hq
    cases x with
    | done b => exact Sim.pure fun _ _ => rfl
    | yield b => exact sim_forInL l m b fun k a s hk => h k a s (Nat.le_trans hm hk)
theorem sim_forInA {α β : Type} {body body' : α → β → Sem (ForInStep β)} (l : Array α) (s : β) (h : ∀ m a s, n ≤ m → Sim E f m EQ (body a s) (body' a s)) : Sim E f n EQ (forIn l s body) (forIn l s body') := by
  rw [← Array.forIn_toList, ← Array.forIn_toList]
  exact sim_forInL l.toList n s h
theorem sim_forInR {β : Type} {body body' : Nat → β → Sem (ForInStep β)} (len : Nat) (s : β) (h : ∀ m a s, n ≤ m → Sim E f m EQ (body a s) (body' a s)) : Sim E f n EQ (forIn [0:len] s body) (forIn [0:len] s body') := by
  rw [Std.Legacy.Range.forIn_eq_forIn_range', Std.Legacy.Range.forIn_eq_forIn_range']
  exact sim_forInL _ n s h
theorem sim_equalIn (F : Fit E f) (H : RtOk E) : ∀ (d : Nat) (t : TypeId) (x y : Value) (n : Nat), okV E n x → okV E n y → Sim E f n EQ (Op.equalIn d t x y) (Op.equalIn d t (rV f x) (rV f y))
  | 0, t, x, y, n, _, _ => Sim.unsupported (by simp)
  | d + 1, t, x, y, n, hx, hy => by
    have ih := sim_equalIn F H d
    have step : ∀ (m : Nat) (u : TypeId) (xs ys : Array Value) (k : Nat), okAll E m xs → okAll E m ys → Sim E f m EQ
        (part u xs k >>= fun a => part u ys k >>= fun b => Op.equalIn d u a b >>= fun r => if (!r) = true then Pure.pure (ForInStep.done (some false, ())) else Pure.pure (ForInStep.yield ((none : Option Bool), ())))
        (part u (xs.map (rV f)) k >>= fun a => part u (ys.map (rV f)) k >>= fun b => Op.equalIn d u a b >>= fun r => if (!r) = true then Pure.pure (ForInStep.done (some false, ())) else Pure.pure (ForInStep.yield ((none : Option Bool), ()))) := fun m u xs ys k h1 h2 => by
      refine (sim_part h1 u k).bind fun m1 a a' hm1 hq => ?_
      obtain ⟨rfl, ha⟩ := hq
      refine (sim_part (okAll_mono h2 hm1) u k).bind fun m2 b b' hm2 hq => ?_
      obtain ⟨rfl, hb⟩ := hq
      refine (ih u a b m2 (okV_mono hm2 a ha) hb).bind fun m3 r r' hm3 hq => ?_
      cases hq
      exact Sim.ite (fun _ => Sim.pure fun _ _ => rfl) fun _ => Sim.pure fun _ _ => rfl
    unfold Op.equalIn
    refine sim_under fun D hD => ?_
    cases D with
    | struct fields =>
      cases x with
      | agg xs =>
        cases y with
        | agg ys =>
          rw [rV, rV]
          rw [okV] at hx hy
          dsimp only
          refine Sim.program ?_
          refine Sim.ite (fun _ => Sim.unsB (by simp)) fun _ => ?_
          refine (sim_forInA fields _ fun m fl s hm => ?_).bind fun k s s' hk hq => ?_
          · exact Sim.ite (fun _ => step m _ xs ys _ (okAll_mono hx hm) (okAll_mono hy hm)) fun _ => Sim.pure fun _ _ => rfl
          · cases hq
            obtain ⟨s, _⟩ := s
            cases s <;> exact Sim.pure fun _ _ => rfl
        | _ => exact Sim.stuck
      | _ => exact Sim.stuck
    | array len elem =>
      cases x with
      | agg xs =>
        cases y with
        | agg ys =>
          rw [rV, rV]
          rw [okV] at hx hy
          dsimp only
          refine Sim.same (calm_sizeOf elem) fun z => ?_
          refine (sim_forInR len _ fun m i s hm => ?_).bind fun k s s' hk hq => ?_
          · exact step m _ xs ys _ (okAll_mono hx hm) (okAll_mono hy hm)
          · cases hq
            obtain ⟨s, _⟩ := s
            cases s <;> exact Sim.pure fun _ _ => rfl
        | _ => exact Sim.stuck
      | _ => exact Sim.stuck
    | interface ms =>
      cases x with
      | nilIface =>
        cases y with
        | nilIface => rw [rV]; exact Sim.pure fun _ _ => rfl
        | iface ty vy => rw [rV, rV]; exact Sim.pure fun _ _ => rfl
        | _ => exact Sim.stuck
      | iface tx vx =>
        cases y with
        | nilIface => rw [rV, rV]; exact Sim.pure fun _ _ => rfl
        | iface ty vy =>
          rw [rV, rV]
          rw [okV] at hx hy
          dsimp only
          refine Sim.ite (fun _ => Sim.pure fun _ _ => rfl) fun _ => ?_
          refine Sim.same (calm_typeInfo tx) fun info => ?_
          refine Sim.ite (fun _ => ?_) fun _ => ih tx vx vy n hx.2 hy.2
          refine Sim.program (Sim.program ?_)
          refine Sim.ite (fun _ => Sim.unsB (by simp)) fun _ => ?_
          refine Sim.same (calm_typeStr tx) fun s => sim_runtimePanic F H _
        | _ => exact Sim.stuck
      | _ => exact Sim.stuck
    | pointer elem =>
      cases x with
      | pointer a =>
        cases y with
        | pointer b =>
          rw [rV, rV]
          rw [okV] at hx hy
          cases a with
          | none =>
            cases b <;> exact Sim.pure fun _ _ => rfl
          | some a =>
            cases b with
            | none => exact Sim.pure fun _ _ => rfl
            | some b =>
              dsimp only [Option.map_some]
              refine Sim.same (calm_sizeOf elem) fun z => ?_
              refine Sim.ite (fun _ => sim_sameAddr F hx hy) fun _ => ?_
              rw [beq_rA F]
              refine Sim.ite (fun _ => Sim.pure fun _ _ => rfl) fun _ => ?_
              refine (Sim.choose _).bind fun _ _ _ _ hq => ?_
              cases hq
              exact Sim.pure fun _ _ => rfl
        | _ => cases a <;> exact Sim.stuck
      | _ => exact Sim.stuck
    | unsafePointer =>
      cases x with
      | pointer a =>
        cases y with
        | pointer b =>
          rw [rV, rV]
          rw [okV] at hx hy
          cases a with
          | none => cases b <;> exact Sim.pure fun _ _ => rfl
          | some a =>
            cases b with
            | none => exact Sim.pure fun _ _ => rfl
            | some b => exact sim_sameAddr F hx hy
        | _ => exact Sim.stuck
      | _ => exact Sim.stuck
    | bool =>
      cases x with
      | bool a =>
        cases y with
        | bool b => rw [rV, rV]; exact Sim.pure fun _ _ => rfl
        | _ => exact Sim.stuck
      | _ => exact Sim.stuck
    | string =>
      cases x with
      | string a =>
        cases y with
        | string b => rw [rV, rV]; exact Sim.pure fun _ _ => rfl
        | _ => exact Sim.stuck
      | _ => exact Sim.stuck
    | float k =>
      cases x with
      | float k1 a =>
        cases y with
        | float k2 b => rw [rV, rV]; exact Sim.ite (fun _ => Sim.pure fun _ _ => rfl) fun _ => Sim.stuck
        | _ => exact Sim.stuck
      | _ => exact Sim.stuck
    | complex k =>
      cases x with
      | complex k1 a b =>
        cases y with
        | complex k2 c d => rw [rV, rV]; exact Sim.ite (fun _ => Sim.pure fun _ _ => rfl) fun _ => Sim.stuck
        | _ => exact Sim.stuck
      | _ => exact Sim.stuck
    | chan _ _ =>
      cases x with
      | chan a =>
        cases y with
        | chan b =>
          rw [okV] at hx hy
          subst hx hy
          rw [rV]
          exact Sim.pure fun _ _ => rfl
        | _ => exact Sim.stuck
      | _ => exact Sim.stuck
    | slice e =>
      cases x with
      | slice a l c =>
        cases y with
        | slice b l2 c2 =>
          rw [rV, rV]
          cases a with
          | none => cases b <;> exact Sim.pure fun _ _ => rfl
          | some a =>
            cases b with
            | none => exact Sim.pure fun _ _ => rfl
            | some b => exact Sim.stuck
        | _ => cases a <;> exact Sim.stuck
      | _ => exact Sim.stuck
    | map _ _ =>
      cases x with
      | map a =>
        cases y with
        | map b =>
          rw [rV, rV]
          cases a with
          | none => cases b <;> exact Sim.pure fun _ _ => rfl
          | some a =>
            cases b with
            | none => exact Sim.pure fun _ _ => rfl
            | some b => exact Sim.stuck
        | _ => cases a <;> exact Sim.stuck
      | _ => exact Sim.stuck
    | func _ _ _ =>
      cases x with
      | nilFunc =>
        cases y with
        | nilFunc => rw [rV]; exact Sim.pure fun _ _ => rfl
        | func _ _ _ => rw [rV, rV]; exact Sim.pure fun _ _ => rfl
        | _ => exact Sim.stuck
      | func _ _ _ =>
        cases y with
        | nilFunc => rw [rV, rV]; exact Sim.pure fun _ _ => rfl
        | _ => exact Sim.stuck
      | _ => exact Sim.stuck
    | int k =>
      cases x with
      | int k1 a =>
        cases y with
        | int k2 b => rw [rV, rV]; exact Sim.ite (fun _ => Sim.pure fun _ _ => rfl) fun _ => Sim.stuck
        | pointer b =>
          rw [rV, rV]
          cases b with
          | none => rcases a with (_ | _) | _ <;> exact Sim.unsupported (by simp)
          | some b =>
            rcases a with (_ | _) | _
            · exact Sim.pure fun _ _ => rfl
            · exact Sim.unsupported (by simp)
            · exact Sim.unsupported (by simp)
        | _ => exact Sim.stuck
      | pointer a =>
        cases a with
        | none => cases y <;> exact Sim.unsupported (by simp)
        | some a =>
          cases y with
          | int k2 b =>
            rw [rV, rV]
            rcases b with (_ | _) | _
            · exact Sim.pure fun _ _ => rfl
            · exact Sim.unsupported (by simp)
            · exact Sim.unsupported (by simp)
          | pointer b =>
            cases b with
            | none => exact Sim.unsupported (by simp)
            | some b =>
              rw [rV, rV]
              rw [okV] at hx hy
              have ha : E.A n a.block := hx
              have hb : E.A n b.block := hy
              dsimp only [Option.map_some]
              refine (sim_behindNumber F ha).bind fun m p p' hm hq => ?_
              obtain ⟨rfl, ha⟩ := hq
              refine (sim_behindNumber F (hb.mono hm)).bind fun m2 q p' hm2 hq => ?_
              obtain ⟨rfl, hb⟩ := hq
              obtain ⟨a, la⟩ := p
              obtain ⟨b, lb⟩ := q
              dsimp only at ha hb ⊢
              refine Sim.program ?_
              rw [beq_block F]
              have hG := F.ro _ H.g
              have e : decide ((rA f a).block < E.P.globals.size) = decide (a.block < E.P.globals.size) := by
                apply decide_eq_decide.2
                show f a.block < _ ↔ _
                rcases Nat.lt_or_ge a.block E.B with h | h
                · rw [F.low _ h]
                · have := F.ge h
                  omega
              rw [e]
              have ha2 := ha.mono hm2
              have hb2 := hb
              refine Sim.ite (fun _ => ?_) fun _ => ?_
              · refine (sim_byteOf F ha2).bind fun m3 u u' hm3 hq => ?_
                cases hq
                refine (sim_byteOf F (hb2.mono hm3)).bind fun m4 v v' hm4 hq => ?_
                cases hq
                exact Sim.pure fun _ _ => rfl
              · refine Sim.same (calm_typeInfo t) fun info => ?_
                rw [beq_rA F]
                split
                · exact Sim.ite (fun _ => Sim.pure fun _ _ => rfl) fun _ => Sim.unsupported (by simp)
                · exact Sim.unsupported (by simp)
          | _ => exact Sim.unsupported (by simp)
      | _ =>
        cases y with
        | pointer b => exact Sim.unsupported (by simp)
        | _ => exact Sim.stuck
    | _ => exact Sim.stuck
theorem sim_eqGuardIn (F : Fit E f) : ∀ (d : Nat) (t : TypeId) (x y : Value) (n : Nat), okV E n x → okV E n y → Sim E f n EQ (Op.eqGuardIn d t x y) (Op.eqGuardIn d t (rV f x) (rV f y))
  | 0, t, x, y, n, _, _ => Sim.unsupported (by simp)
  | d + 1, t, x, y, n, hx, hy => by
    have ih := sim_eqGuardIn F d
    have step : ∀ (m : Nat) (u : TypeId) (xs ys : Array Value) (k : Nat), okAll E m xs → okAll E m ys → Sim E f m EQ
        (part u xs k >>= fun a => part u ys k >>= fun b => Op.eqGuardIn d u a b >>= fun r => if r = true then Pure.pure (ForInStep.done (some true, ())) else Pure.pure (ForInStep.yield ((none : Option Bool), ())))
        (part u (xs.map (rV f)) k >>= fun a => part u (ys.map (rV f)) k >>= fun b => Op.eqGuardIn d u a b >>= fun r => if r = true then Pure.pure (ForInStep.done (some true, ())) else Pure.pure (ForInStep.yield ((none : Option Bool), ()))) := fun m u xs ys k h1 h2 => by
      refine (sim_part h1 u k).bind fun m1 a a' hm1 hq => ?_
      obtain ⟨rfl, ha⟩ := hq
      refine (sim_part (okAll_mono h2 hm1) u k).bind fun m2 b b' hm2 hq => ?_
      obtain ⟨rfl, hb⟩ := hq
      refine (ih u a b m2 (okV_mono hm2 a ha) hb).bind fun m3 r r' hm3 hq => ?_
      cases hq
      exact Sim.ite (fun _ => Sim.pure fun _ _ => rfl) fun _ => Sim.pure fun _ _ => rfl
    unfold Op.eqGuardIn
    refine sim_under fun D hD => ?_
    cases D with
    | struct fields =>
      cases x with
      | agg xs =>
        cases y with
        | agg ys =>
          rw [rV, rV]
          rw [okV] at hx hy
          dsimp only
          refine (sim_forInA fields _ fun m fl s hm => ?_).bind fun k s s' hk hq => ?_
          · exact Sim.ite (fun _ => step m _ xs ys _ (okAll_mono hx hm) (okAll_mono hy hm)) fun _ => Sim.pure fun _ _ => rfl
          · cases hq
            obtain ⟨s, _⟩ := s
            cases s <;> exact Sim.pure fun _ _ => rfl
        | _ => rw [rV, rV]; exact Sim.pure fun _ _ => rfl
      | _ => rw [rV]; exact Sim.pure fun _ _ => rfl
    | array len elem =>
      cases x with
      | agg xs =>
        cases y with
        | agg ys =>
          rw [rV, rV]
          rw [okV] at hx hy
          dsimp only
          refine Sim.same (calm_sizeOf elem) fun z => ?_
          refine (sim_forInR len _ fun m i s hm => ?_).bind fun k s s' hk hq => ?_
          · exact step m _ xs ys _ (okAll_mono hx hm) (okAll_mono hy hm)
          · cases hq
            obtain ⟨s, _⟩ := s
            cases s <;> exact Sim.pure fun _ _ => rfl
        | _ => rw [rV, rV]; exact Sim.pure fun _ _ => rfl
      | _ => rw [rV]; exact Sim.pure fun _ _ => rfl
    | interface ms =>
      cases x with
      | nilIface =>
        cases y with
        | nilIface => rw [rV]; exact Sim.pure fun _ _ => rfl
        | _ => rw [rV, rV]; exact Sim.pure fun _ _ => rfl
      | _ => rw [rV]; exact Sim.pure fun _ _ => rfl
    | _ => exact Sim.pure fun _ _ => rfl
theorem sim_eqGuard (F : Fit E f) {op : BinOp} {t : TypeId} {x y : Operand} {a b : Value} (ha : okV E n a) (hb : okV E n b) : Sim E f n EQ (eqGuard op t x y a b) (eqGuard op t x y (rV f a) (rV f b)) := by
  unfold eqGuard
  refine Sim.ite (fun _ => Sim.pure fun _ _ => rfl) fun _ => ?_
  cases a with
  | nilIface =>
    cases b with
    | nilIface =>
      rw [rV]
      dsimp only
      refine Sim.ite (fun _ => Sim.pure fun _ _ => rfl) fun _ => ?_
      have := sim_eqGuardIn F (E := E) Op.maxDepth t .nilIface .nilIface n (by simp [okV]) (by simp [okV])
      rw [rV] at this
      refine this.bind fun m r r' hm hq => ?_
      cases hq
      exact Sim.ite (fun _ => Sim.unsupported (by simp)) fun _ => Sim.pure fun _ _ => rfl
    | _ => rw [rV, rV]; exact Sim.pure fun _ _ => rfl
  | agg xs =>
    cases b with
    | agg ys =>
      have := sim_eqGuardIn F (E := E) Op.maxDepth t (.agg xs) (.agg ys) n ha hb
      rw [rV, rV] at this ⊢
      dsimp only
      refine Sim.program (Sim.program ?_)
      refine Sim.ite (fun _ => Sim.pure fun _ _ => rfl) fun _ => ?_
      refine this.bind fun m r r' hm hq => ?_
      cases hq
      exact Sim.ite (fun _ => Sim.unsupported (by simp)) fun _ => Sim.pure fun _ _ => rfl
    | _ => rw [rV, rV]; exact Sim.pure fun _ _ => rfl
  | _ => rw [rV]; exact Sim.pure fun _ _ => rfl
end
end Go.Proofs.YtaablbmgagiajabGreatDoor.Ren
