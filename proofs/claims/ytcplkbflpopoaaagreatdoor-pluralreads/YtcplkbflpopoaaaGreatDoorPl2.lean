/-
  Plain: ordinals.
-/
import Derived.Test.YtcplkbflpopoaaaGreatDoorPl1
namespace Go.Proofs.YtcplkbflpopoaaaGreatDoor.Plu
open Go.Lib
/-- the English ending -/
def eng (n : Nat) : List UInt8 := if n / 10 % 10 = 1 then [116, 104] else if n % 10 = 1 then [115, 116] else if n % 10 = 2 then [110, 100] else if n % 10 = 3 then [114, 100] else [116, 104]
/-- a number's ending: styles 0, 1, 2 -/
def endg (s n : Nat) : List UInt8 := if s = 0 then eng n else if s = 2 then [46] else if n = 1 then [101, 114] else [101]
def ord (s n : Nat) : List UInt8 := decDigits n ++ endg s n
theorem eng_len (n : Nat) : (eng n).length = 2 := by
  unfold eng
  split
  · rfl
  · split
    · rfl
    · split
      · rfl
      · split <;> rfl
theorem endg_len (s n : Nat) : (endg s n).length ≤ 2 := by
  unfold endg
  split
  · rw [eng_len]; omega
  · split
    · simp
    · split <;> simp
/-- the last digit, if it is 1, 2, 3 -/
def dgo (n : Nat) : Nat := if n % 10 = 1 then 1 else if n % 10 = 2 then 2 else if n % 10 = 3 then 3 else 0
theorem dgo_lt (n : Nat) : dgo n < 4 := by unfold dgo; split <;> (try split) <;> (try split) <;> omega
theorem dgo_1 (n : Nat) : decide (n % 10 = 1) = Nat.beq (dgo n) 1 := by unfold dgo; split <;> (try split) <;> (try split) <;> simp_all [Nat.beq]
theorem dgo_2 (n : Nat) : decide (n % 10 = 2) = Nat.beq (dgo n) 2 := by unfold dgo; split <;> (try split) <;> (try split) <;> simp_all [Nat.beq]
theorem dgo_3 (n : Nat) : decide (n % 10 = 3) = Nat.beq (dgo n) 3 := by unfold dgo; split <;> (try split) <;> (try split) <;> simp_all [Nat.beq]
/-- which ending goes with the last digit and the last but one -/
def eno (d : Nat) (t : Bool) : Nat := bif t then 3 else bif Nat.beq d 1 then 0 else bif Nat.beq d 2 then 1 else bif Nat.beq d 3 then 2 else 3
def ens : Nat → List UInt8
  | 0 => [115, 116]
  | 1 => [110, 100]
  | 2 => [114, 100]
  | _ => [116, 104]
theorem eng_eno (n : Nat) : eng n = ens (eno (dgo n) (decide (n / 10 % 10 = 1))) := by
  unfold eng eno
  rw [← dgo_1, ← dgo_2, ← dgo_3]
  by_cases h0 : n / 10 % 10 = 1
  · simp [h0, ens]
  · by_cases h1 : n % 10 = 1
    · simp [h0, h1, ens]
    · by_cases h2 : n % 10 = 2
      · simp [h0, h2, ens]
      · by_cases h3 : n % 10 = 3
        · simp [h0, h3, ens]
        · simp [h0, h1, h2, h3, ens]
end Go.Proofs.YtcplkbflpopoaaaGreatDoor.Plu
