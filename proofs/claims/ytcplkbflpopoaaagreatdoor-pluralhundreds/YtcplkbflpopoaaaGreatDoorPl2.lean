/-
  Plain: ordinals.
-/
import Derived.Test.YtcplkbflpopoaaaGreatDoorPl1
namespace Go.Proofs.YtcplkbflpopoaaaGreatDoor.Plu
open Go.Lib
/-- the English ending -/
def eng (n : Nat) : List UInt8 := if n / 10 % 10 = 1 then [116, 104] else if n % 10 = 1 then [115, 116] else if n % 10 = 2 then [110, 100] else if n % 10 = 3 then [114, 100] else [116, 104]
/-- a number's ending: styles 0, 1, 2 -/
def endg (s n : Nat) : List UInt8 := if s = 0 then eng n else if s = 2 then [46] else if n = 1 then [101, 114] else [101]
def ord (s n : Nat) : List UInt8 := decDigits n ++ endg s n
theorem eng_len (n : Nat) : (eng n).length = 2 := by
  unfold eng
  split
  · rfl
  · split
    · rfl
    · split
      · rfl
      · split <;> rfl
theorem endg_len (s n : Nat) : (endg s n).length ≤ 2 := by
  unfold endg
  split
  · rw [eng_len]; omega
  · split
    · simp
    · split <;> simp
end Go.Proofs.YtcplkbflpopoaaaGreatDoor.Plu
