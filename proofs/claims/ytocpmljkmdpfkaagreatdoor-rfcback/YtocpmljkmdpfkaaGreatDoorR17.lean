/-
  The law's Awake (chapter 2's example).
-/
import Derived.Test.YtocpmljkmdpfkaaGreatDoorR6
namespace Go.Proofs.YtocpmljkmdpfkaaGreatDoor
open Go.RowKit

theorem ints_nil (w : World) (A : Option Addr) : IntsIn w A [] := fun k h => absurd h (Nat.not_lt_zero k)
theorem nths_nil (w : World) (A : Option Addr) : NthsIn w A [] := fun k h => absurd h (Nat.not_lt_zero k)
theorem chk_a : Rul.check 1 1 0 0 [] [1] [] [] = 6 := by
  have e0 : ∀ {α : Type} (p : α → Bool) (c : α → α → Int), Rul.chkL p c [] = 0 := fun p c => by simp [Rul.chkL, Rul.step_end]
  have e1 : Rul.chkL Rul.inD Rul.cmpI [1] = 0 := by
    rw [Rul.chkL_short (by simp), Rul.step_first (by simp) (by decide), Rul.step_end (by simp)]
  simp [Rul.check, Rul.noFreq, Rul.nums, Rul.badNum, Rul.btw, Rul.lists, Rul.odd, e0, e1]
theorem chk_b : Rul.check 0 1 0 0 [] [] [] [] = 0 := by
  have e0 : ∀ {α : Type} (p : α → Bool) (c : α → α → Int), Rul.chkL p c [] = 0 := fun p c => by simp [Rul.chkL, Rul.step_end]
  simp [Rul.check, Rul.noFreq, Rul.nums, Rul.badNum, Rul.btw, Rul.lists, Rul.odd, e0]
theorem lists_nil (w : World) : ListsIn w none none none none [] [] [] [] :=
  ⟨ints_nil _ _, ints_nil _ _, nths_nil _ _, ints_nil _ _, by decide, by decide, by decide, by decide⟩
theorem lists_one (w : World) (b : Nat) (x : Int) (hb : b < w.heap.size) (hc : w.cell? ⟨b, 0, none⟩ = some (.int .i64 x)) : ListsIn w none (some ⟨b, 0, none⟩) none none [] [x] [] [] :=
  ⟨ints_nil _ _, fun k h => by
    obtain rfl : k = 0 := by simpa using h
    exact ⟨_, rfl, hb, hc⟩, nths_nil _ _, ints_nil _ _, by decide, by simp [maxLen], by decide, by decide⟩

set_option maxHeartbeats 1000000 in
theorem awake2 (w : World) (hM : Months w) : Calls Tryz.prog 20 #[] w fun e w' => e = .returned (.bool true) ∧ Below w.heap.size w w' := by
  go_enter Tryz.func20, Tryz.ntmps20
  go_wp2_with fail
  refine (awake _ hM).mono ?_
  rintro e w1 ⟨rfl, b1⟩
  go_wp2_with fail
  refine (check_any 1 1 0 0 none (some ⟨w1.heap.size, 0, none⟩) none none 0 1 0 0 [] [1] [] [] _ ?hl).mono ?_
  case hl =>
    refine lists_one _ _ 1 ?_ ?_
    · simp; omega
    · first | (simp; done) | (go_simp; done)
  rintro e w2 ⟨rfl, b2⟩
  rw [chk_a]
  have B2 : Below w1.heap.size w1 w2 := ((((Below.refl _ _).alloc (Nat.le_refl _) _).alloc (by simp) _).alloc (by simp; omega) _).trans (b2.mono (by simp; omega))
  have cs : ∀ i, w2.cell? ⟨w1.heap.size + 1 + 1, i, none⟩ = _ := fun i => b2.cell (p := ⟨w1.heap.size + 1 + 1, i, none⟩) (by simp)
  clear b2
  go_wp2_with fail
  refine (check_any 0 1 0 0 none none none none 0 0 0 0 [] [] [] [] _ (lists_nil _)).mono ?_
  rintro e w3 ⟨rfl, b3⟩
  rw [chk_b]
  go_wp2
  go_ret
  exact ⟨rfl, b1.trans ((B2.trans (b3.mono B2.size)).mono b1.size)⟩
end Go.Proofs.YtocpmljkmdpfkaaGreatDoor
