/-
  Plain: a number's last digits, by its decimal text and by division.
-/
import Derived.Lib.ItoaNum
import Derived.Lib.Strings
namespace Go.Proofs.YtcplkbflpopoaaaGreatDoor.Plu
open Go.Lib
/-- is a number's form few, in Polish? -/
def few (n : Nat) : Bool := decide (2 ≤ n % 10) && decide (n % 10 ≤ 4) && !decide (n / 10 % 10 = 1)
/-- which form goes with a number: kinds 0, 1, 2 -/
def form (k : Int) (n : Nat) : Int := if n = 1 ∨ (k = 1 ∧ n = 0) then 0 else if k = 2 ∧ few n = false then 2 else 1
end Go.Proofs.YtcplkbflpopoaaaGreatDoor.Plu
