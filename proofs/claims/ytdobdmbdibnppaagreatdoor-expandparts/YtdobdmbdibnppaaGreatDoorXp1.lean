/-
  The period of a day, over plain numbers: where it begins, where it ends.
-/
import Derived.Test.YtdobdmbdibnppaaGreatDoorCal
namespace Go.Proofs.YtdobdmbdibnppaaGreatDoor.Cal
def pf (f : Nat) (d y n : Int) : Int := if f = 0 then d else if f = 1 then d - (d - 1) % 7 else if f = 2 then d - n + 1 else dby y + 1
def pt (f : Nat) (d y m n : Int) : Int := if f = 0 then d else if f = 1 then min (d - (d - 1) % 7 + 6) 3652059 else if f = 2 then d - n + dim y m else dby (y + 1)
theorem num_first {d y m n : Int} (h : Is d y m n) : num y m 1 = d - n + 1 := by
  obtain ⟨_, _, _, _, _, _, rfl⟩ := h
  unfold num
  omega
theorem num_last {d y m n : Int} (h : Is d y m n) : num y m (dim y m) = d - n + dim y m := by
  obtain ⟨_, _, _, _, _, _, rfl⟩ := h
  unfold num
  omega
theorem num_new (y : Int) : num y 1 1 = dby y + 1 := by
  unfold num
  rw [cum_one]
  omega
theorem num_old (y : Int) : num y 12 (dim y 12) = dby (y + 1) := by
  have h1 := cum_succ y 12 (by omega) (by omega)
  have h2 : cum y 13 = 365 + lpi y := cum_end y
  have h3 := dby_succ y
  unfold num
  rw [show (12 : Int) + 1 = 13 by rfl] at h1
  omega
end Go.Proofs.YtdobdmbdibnppaaGreatDoor.Cal
