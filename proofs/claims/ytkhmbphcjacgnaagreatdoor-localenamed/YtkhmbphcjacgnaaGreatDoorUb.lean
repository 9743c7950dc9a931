/-
  Plain: what a rune's decoding says of the bytes.
-/
import GoSem.Core.Utf8
namespace Go.Proofs.YtkhmbphcjacgnaaGreatDoor.Ub
open Go
theorem at_get (s : ByteArray) (i : Nat) (h : i < s.size) : (s.get! i).toNat = s.data.toList[i]!.toNat := by
  have h' : i < s.data.toList.length := h
  rw [List.getElem!_eq_getElem?_getD, List.getElem?_eq_getElem h']
  have : s.get! i = s.data[i]! := rfl
  rw [this]
  have h'' : i < s.data.size := h
  rw [getElem!_pos s.data i h'']
  rfl
theorem decode_low (s : ByteArray) (p : Nat) (h : (s.get! p).toNat < 128) : Utf8.decode s p = ((s.get! p).toNat, 1) := by
  unfold Utf8.decode
  simp only [Nat.add_zero]
  rw [if_pos h]
/-- a byte from 128 on: a rune from 128 on, of some bytes from 128 on -/
theorem decode_high (s : ByteArray) (p : Nat) (hp : p < s.size) (h : 128 ≤ (s.get! p).toNat) : 128 ≤ (Utf8.decode s p).1 ∧ 1 ≤ (Utf8.decode s p).2 ∧ p + (Utf8.decode s p).2 ≤ s.size ∧ ∀ j, j < (Utf8.decode s p).2 → 128 ≤ (s.get! (p + j)).toNat := by
  have one : ∀ c : Nat, 128 ≤ c → 128 ≤ (c, 1).1 ∧ 1 ≤ ((c, 1) : Nat × Nat).2 ∧ p + ((c, 1) : Nat × Nat).2 ≤ s.size ∧ ∀ j, j < ((c, 1) : Nat × Nat).2 → 128 ≤ (s.get! (p + j)).toNat := by
    intro c hc
    refine ⟨hc, Nat.le_refl _, by show p + 1 ≤ s.size; omega, fun j hj => ?_⟩
    have : j = 0 := by have : j < 1 := hj; omega
    subst this
    exact h
  have cont : ∀ k, (decide (p + k < s.size) && ((s.get! (p + k)).toNat / 64 == 2)) = true → p + k < s.size ∧ 128 ≤ (s.get! (p + k)).toNat := by
    intro k hk
    simp only [Bool.and_eq_true, decide_eq_true_eq, beq_iff_eq] at hk
    exact ⟨hk.1, by omega⟩
  unfold Utf8.decode
  simp only [Nat.add_zero]
  rw [if_neg (by omega)]
  split
  · rename_i hc
    simp only [Bool.and_eq_true] at hc
    have c1 := cont 1 (by simpa using hc.2)
    split
    · rename_i hv
      refine ⟨by simpa using hv, by show 1 ≤ (2 : Nat); decide, by show p + 2 ≤ s.size; omega, fun j hj => ?_⟩
      have : j = 0 ∨ j = 1 := by have : j < 2 := hj; omega
      rcases this with rfl | rfl
      · exact h
      · exact c1.2
    · exact one _ (by decide)
  · split
    · rename_i hc
      simp only [Bool.and_eq_true] at hc
      have c1 := cont 1 (by simpa using hc.1.2)
      have c2 := cont 2 (by simpa using hc.2)
      split
      · rename_i hv
        simp only [Bool.and_eq_true, decide_eq_true_eq] at hv
        refine ⟨by show 128 ≤ _; omega, by show 1 ≤ (3 : Nat); decide, by show p + 3 ≤ s.size; omega, fun j hj => ?_⟩
        have : j = 0 ∨ j = 1 ∨ j = 2 := by have : j < 3 := hj; omega
        rcases this with rfl | rfl | rfl
        · exact h
        · exact c1.2
        · exact c2.2
      · exact one _ (by decide)
    · split
      · rename_i hc
        simp only [Bool.and_eq_true] at hc
        have c1 := cont 1 (by simpa using hc.1.1.2)
        have c2 := cont 2 (by simpa using hc.1.2)
        have c3 := cont 3 (by simpa using hc.2)
        split
        · rename_i hv
          simp only [Bool.and_eq_true, decide_eq_true_eq] at hv
          refine ⟨by show 128 ≤ _; omega, by show 1 ≤ (4 : Nat); decide, by show p + 4 ≤ s.size; omega, fun j hj => ?_⟩
          have : j = 0 ∨ j = 1 ∨ j = 2 ∨ j = 3 := by have : j < 4 := hj; omega
          rcases this with rfl | rfl | rfl | rfl
          · exact h
          · exact c1.2
          · exact c2.2
          · exact c3.2
        · exact one _ (by decide)
      · exact one _ (by decide)
end Go.Proofs.YtkhmbphcjacgnaaGreatDoor.Ub
