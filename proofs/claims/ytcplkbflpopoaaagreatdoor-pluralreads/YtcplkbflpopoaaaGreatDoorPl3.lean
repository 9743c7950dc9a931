/-
  Plain: a numeral read again; the digits that a text begins with.
-/
import Derived.Test.YtcplkbflpopoaaaGreatDoorPl2
import Derived.Lib.AtoiAllCases
namespace Go.Proofs.YtcplkbflpopoaaaGreatDoor.Plu
theorem puint_snoc {c : UInt8} (hc : 48 ≤ c.toNat ∧ c.toNat ≤ 57) : ∀ (l : List UInt8) (acc v : Nat), Lib.parseUint10 acc l = .ok v → v * 10 + (c.toNat - 48) < 18446744073709551616 → Lib.parseUint10 acc (l ++ [c]) = .ok (v * 10 + (c.toNat - 48))
  | [], acc, v, h, hv => by
    simp only [Lib.parseUint10] at h
    injection h with h
    subst h
    show Lib.parseUint10 acc [c] = _
    simp only [Lib.parseUint10]
    rw [if_pos hc, if_neg (by omega), if_neg (by omega)]
  | x :: l, acc, v, h, hv => by
    show Lib.parseUint10 acc (x :: (l ++ [c])) = _
    simp only [Lib.parseUint10] at h ⊢
    split at h
    · split at h
      · cases h
      · split at h
        · cases h
        · rename_i h1 h2 h3
          rw [if_pos h1, if_neg h2, if_neg h3]
          exact puint_snoc hc l _ v h hv
    · cases h
def isd (c : UInt8) : Bool := decide (48 ≤ c.toNat) && decide (c.toNat ≤ 57)
/-- how many digits a text begins with -/
def lead (l : List UInt8) : Nat := (l.takeWhile isd).length
theorem lead_le (l : List UInt8) : lead l ≤ l.length := (List.takeWhile_prefix isd).length_le
theorem lead_at {l : List UInt8} : ∀ {i : Nat} (_h : i < lead l) (h' : i < l.length), isd l[i] = true := by
  induction l with
  | nil => intro i h; simp [lead] at h
  | cons c l ih =>
    intro i h h'
    unfold lead at h
    cases hc : isd c with
    | false => rw [List.takeWhile_cons, hc] at h; simp at h
    | true =>
      rw [List.takeWhile_cons, hc] at h
      cases i with
      | zero => exact hc
      | succ i => exact ih (by simpa [lead] using h) (by simpa using h')
theorem lead_end {l : List UInt8} : ∀ (_h : lead l < l.length), isd l[lead l] = false := by
  induction l with
  | nil => intro h; simp at h
  | cons c l ih =>
    intro h
    cases hc : isd c with
    | false =>
      have e : lead (c :: l) = 0 := by unfold lead; rw [List.takeWhile_cons, hc]; rfl
      simp only [e]
      exact hc
    | true =>
      have e : lead (c :: l) = lead l + 1 := by unfold lead; rw [List.takeWhile_cons, hc]; simp
      simp only [e, List.getElem_cons_succ]
      exact ih (by rw [e] at h; simpa using h)
end Go.Proofs.YtcplkbflpopoaaaGreatDoor.Plu
