/- Bytes that are handed in. -/
import Derived.Test.YtiipmdmbmepgjaaDoorFrOpen
namespace Go.Proofs.YtiipmdmbmepgjaaDoor
open Go.ChangeShapes Go.WideShapes Go.RowKit

set_option maxRecDepth 10000 in
theorem open_bytes {H : Type} {enc : TypeId × Value → H} {W : World} {base b0 : Nat} {spare : Nat → Bool} {held : Bool} {r : Reach} {v : Value} {d : DataW H} {p : List MemPlace} (hv : Value.okWide Tryd.prog W r b0 64 v)
    (h : DataW.Trod enc Tryd.prog W base spare held 64 v d p) : ∃ (a : Option Addr) (len cap : Nat) (l : List Nat), v = .slice a len cap ∧ len ≤ maxLen ∧ IsB W a len cap l ∧ (a = none → len = 0 ∧ cap = 0) := by
  obtain ⟨a, len, cap, rfl⟩ := okWide_slice Tryd.underlying64 hv
  obtain ⟨fuel, hf⟩ := h
  rcases open_ints Tryd.underlying64 Tryd.underlying5 (by kernel_rfl) hf with ⟨hcs, _⟩ | ⟨x, n, c, zs, hcs, _, hl, hm, hz, _, hcell, hwz⟩
  · simp [Value.cells] at hcs
    obtain ⟨rfl, rfl, rfl⟩ := hcs
    exact ⟨none, 0, 0, [], rfl, by unfold maxLen; omega, ⟨rfl, Nat.le_refl _, fun _ h => by simp at h, .inl rfl⟩, fun _ => ⟨rfl, rfl⟩⟩
  · simp [Value.cells] at hcs
    obtain ⟨rfl, rfl, rfl⟩ := hcs
    have hzl : len ≤ zs.length := by rw [hz]; split <;> omega
    have hb : ∀ z ∈ zs, 0 ≤ z ∧ z ≤ 255 := fun z hz => bounds_u8 (hwz z hz)
    refine ⟨some x, len, cap, (zs.take len).map Int.toNat, rfl, by omega, ⟨by simp; omega, hl, fun c hc => ?_, ?_⟩, fun e => by simp at e⟩
    · obtain ⟨z, hz1, rfl⟩ := List.mem_map.1 hc
      have := hb z (List.mem_of_mem_take hz1)
      omega
    · by_cases h0 : len = 0
      · subst h0; exact .inl (by simp)
      · obtain ⟨b, off, rfl, hc⟩ := ints_at hcell (by omega)
        refine .inr ⟨b, off, rfl, World.block_lt_of_cell? _ _ (hc 0 (by omega)), fun k hk => ?_⟩
        have hk' : k < len := by simp at hk; omega
        have hkz : k < zs.length := by omega
        rw [hc k hkz]
        have hbk := hb _ (List.getElem_mem hkz)
        simp [List.getD, hk', hkz, Int.toNat_of_nonneg hbk.1]
end Go.Proofs.YtiipmdmbmepgjaaDoor
