/-
  Plain: a numeral read again; the digits that a text begins with.
-/
import Derived.Test.YtcplkbflpopoaaaGreatDoorPl2
import Derived.Lib.AtoiAllCases
namespace Go.Proofs.YtcplkbflpopoaaaGreatDoor.Plu
theorem digits_ne (u : Nat) : Lib.decDigits u ≠ [] := by
  rw [Lib.decDigits]
  split <;> simp
def isd (c : UInt8) : Bool := decide (48 ≤ c.toNat) && decide (c.toNat ≤ 57)
theorem dd_isd (n : Nat) : ∀ c ∈ Lib.decDigits n, isd c = true := by
  induction n using Nat.strongRecOn with
  | ind n ih =>
    intro c hc
    have one : ∀ d : Nat, d < 10 → isd (UInt8.ofNat (48 + d)) = true := by
      intro d hd
      have : (UInt8.ofNat (48 + d)).toNat = 48 + d := by rw [UInt8.toNat_ofNat']; omega
      simp [isd]
      omega
    rw [Lib.decDigits] at hc
    split at hc
    · rw [List.mem_singleton.1 hc]; exact one n (by assumption)
    · rcases List.mem_append.1 hc with h | h
      · exact ih (n / 10) (by omega) c h
      · rw [List.mem_singleton.1 h]; exact one _ (Nat.mod_lt _ (by omega))
end Go.Proofs.YtcplkbflpopoaaaGreatDoor.Plu
