/-
  Plain: a number's last digits, by its decimal text and by division.
-/
import Derived.Lib.ItoaNum
import Derived.Lib.Strings
namespace Go.Proofs.YtjfchpfbpmediaaGreatDoor.Plu
open Go.Lib
theorem u8_eq {a b : Nat} (ha : a < 10) (hb : b < 10) : (UInt8.ofNat (48 + a) == UInt8.ofNat (48 + b)) = decide (a = b) := by
  by_cases h : a = b
  · subst h; simp
  · have : UInt8.ofNat (48 + a) ≠ UInt8.ofNat (48 + b) := by
      intro e
      have e2 := congrArg UInt8.toNat e
      simp [UInt8.toNat_ofNat'] at e2
      omega
    rw [decide_eq_false h]
    exact beq_false_of_ne this
theorem suf_one {l : List UInt8} {x d : UInt8} : hasSuffix (l ++ [x]) [d] = (d == x) := by
  simp [hasSuffix, List.isSuffixOf, List.isPrefixOf]
theorem suf_two {l : List UInt8} {x y c d : UInt8} : hasSuffix (l ++ [x, y]) [c, d] = (d == y && c == x) := by
  simp [hasSuffix, List.isSuffixOf, List.isPrefixOf]
theorem dd_last (n : Nat) : ∃ l, decDigits n = l ++ [UInt8.ofNat (48 + n % 10)] := by
  rw [decDigits]
  split
  · exact ⟨[], by rw [Nat.mod_eq_of_lt (by assumption)]; rfl⟩
  · exact ⟨_, rfl⟩
theorem dd_two {n : Nat} (h : ¬ n < 10) : ∃ l, decDigits n = l ++ [UInt8.ofNat (48 + n / 10 % 10), UInt8.ofNat (48 + n % 10)] := by
  rw [decDigits, dif_neg h]
  obtain ⟨l, e⟩ := dd_last (n / 10)
  exact ⟨l, by rw [e]; simp⟩
theorem suf_digit (n d : Nat) (hd : d < 10) : hasSuffix (decDigits n) [UInt8.ofNat (48 + d)] = decide (n % 10 = d) := by
  obtain ⟨l, e⟩ := dd_last n
  rw [e, suf_one, u8_eq hd (Nat.mod_lt _ (by omega))]
  simp [eq_comm]
theorem suf_teen (n d : Nat) (hd : d < 10) : hasSuffix (decDigits n) [49, UInt8.ofNat (48 + d)] = (decide (n % 10 = d) && decide (n / 10 % 10 = 1)) := by
  by_cases h : n < 10
  · rw [decDigits, dif_pos h]
    have : n / 10 % 10 ≠ 1 := by omega
    simp [hasSuffix, List.isSuffixOf, List.isPrefixOf, this]
  · obtain ⟨l, e⟩ := dd_two h
    rw [e, suf_two, u8_eq hd (Nat.mod_lt _ (by omega)), show (49 : UInt8) = UInt8.ofNat (48 + 1) from rfl, u8_eq (by omega) (Nat.mod_lt _ (by omega))]
    simp [eq_comm]
theorem dd_is (n d : Nat) (hd : d < 10) : (decDigits n = [UInt8.ofNat (48 + d)]) ↔ n = d := by
  constructor
  · intro e
    by_cases h : n < 10
    · rw [decDigits, dif_pos h] at e
      have e1 := (List.cons.inj e).1
      have := u8_eq h hd
      rw [e1] at this
      simpa using this.symm
    · obtain ⟨l, e2⟩ := dd_two h
      rw [e2] at e
      have := congrArg List.length e
      simp at this
  · rintro rfl
    rw [decDigits, dif_pos hd]
/-- is a number's form few, in Polish? -/
def few (n : Nat) : Bool := decide (2 ≤ n % 10) && decide (n % 10 ≤ 4) && !decide (n / 10 % 10 = 1)
/-- which form goes with a number: kinds 0, 1, 2 -/
def form (k : Int) (n : Nat) : Int := if n = 1 ∨ (k = 1 ∧ n = 0) then 0 else if k = 2 ∧ few n = false then 2 else 1
end Go.Proofs.YtjfchpfbpmediaaGreatDoor.Plu
