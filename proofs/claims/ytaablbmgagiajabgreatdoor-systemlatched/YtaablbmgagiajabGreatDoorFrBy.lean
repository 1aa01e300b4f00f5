/- A frame's bytes. No program is named here. -/
import Derived.Test.YtaablbmgagiajabGreatDoorFrDef
namespace Go.Proofs.YtaablbmgagiajabGreatDoor

/-- A number's three bytes; a sum's four. -/
def b3 (n : Nat) : List Nat := [n / 65536 % 256, n / 256 % 256, n % 256]
def b4 (n : Nat) : List Nat := [n / 16777216 % 256, n / 65536 % 256, n / 256 % 256, n % 256]
def bytesN (l : List Int) : List Nat := l.flatMap fun x => b3 x.toNat
def withSum (l : List Nat) : List Nat := l ++ b4 (crc l).toNat
/-- What a frame is told as. -/
def encF (F : Nat → Int) : List Nat := withSum (bytesN (numsF F))
theorem bytesN_take (l : List Int) (k : Nat) (h : k < l.length) : bytesN (l.take (k + 1)) = bytesN (l.take k) ++ b3 (l[k]?.getD 0).toNat := by
  unfold bytesN
  rw [List.take_add_one, List.getElem?_eq_getElem h, List.flatMap_append]
  rfl
theorem bytesN_length (l : List Int) : (bytesN l).length = 3 * l.length := by
  induction l with
  | nil => rfl
  | cons x l ih =>
    show (b3 x.toNat ++ bytesN l).length = _
    rw [List.length_append, ih]
    simp [b3]; omega
theorem b3_lt (n : Nat) : ∀ c ∈ b3 n, c < 256 := by
  intro c hc
  simp only [b3, List.mem_cons, List.not_mem_nil, or_false] at hc
  omega
theorem b4_lt (n : Nat) : ∀ c ∈ b4 n, c < 256 := by
  intro c hc
  simp only [b4, List.mem_cons, List.not_mem_nil, or_false] at hc
  omega
theorem bytesN_lt (l : List Int) : ∀ c ∈ bytesN l, c < 256 := by
  intro c hc
  obtain ⟨x, _, hx⟩ := List.mem_flatMap.1 hc
  exact b3_lt _ _ hx
theorem withSum_length (l : List Nat) : (withSum l).length = l.length + 4 := by unfold withSum; rw [List.length_append]; rfl
theorem withSum_lt {l : List Nat} (h : ∀ c ∈ l, c < 256) : ∀ c ∈ withSum l, c < 256 := by
  intro c hc
  rcases List.mem_append.1 hc with hc | hc
  · exact h c hc
  · exact b4_lt _ _ hc
theorem encF_lt (F : Nat → Int) : ∀ c ∈ encF F, c < 256 := withSum_lt (bytesN_lt _)
theorem encF_length (F : Nat → Int) : (encF F).length = 3 * (numsF F).length + 4 := by unfold encF; rw [withSum_length, bytesN_length]
end Go.Proofs.YtaablbmgagiajabGreatDoor
