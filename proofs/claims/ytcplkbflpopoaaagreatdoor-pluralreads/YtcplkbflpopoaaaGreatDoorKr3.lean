/-
  The runs of PluralReads over letters.
-/
import Derived.Test.YtcplkbflpopoaaaGreatDoorKr0
namespace Go.Proofs.YtcplkbflpopoaaaGreatDoor
open Go Go.RowKit
theorem key_14 : ∀ e : Nat, e < 3 → Sym (baseO ++ (rnds 14 ++ lst 14 e)) (basel false) 100 5 [Lt 0, Lt 1, Lt 2] (.bool true) := by
  intro e he
  have e1 : e = 0 ∨ e = 1 ∨ e = 2 := by omega
  clear he
  rcases e1 with rfl | rfl | rfl <;> (delta Sym; show _ = _; kernel_rfl)
theorem key_15 : ∀ e : Nat, e < 3 → Sym (baseO ++ (rnds 15 ++ lst 15 e)) (basel false) 100 5 [Lt 0, Lt 1, Lt 2] (.bool true) := by
  intro e he
  have e1 : e = 0 ∨ e = 1 ∨ e = 2 := by omega
  clear he
  rcases e1 with rfl | rfl | rfl <;> (delta Sym; show _ = _; kernel_rfl)
theorem key_16 : ∀ e : Nat, e < 3 → Sym (baseO ++ (rnds 16 ++ lst 16 e)) (basel false) 100 5 [Lt 0, Lt 1, Lt 2] (.bool true) := by
  intro e he
  have e1 : e = 0 ∨ e = 1 ∨ e = 2 := by omega
  clear he
  rcases e1 with rfl | rfl | rfl <;> (delta Sym; show _ = _; kernel_rfl)
theorem key_17 : ∀ e : Nat, e < 3 → Sym (baseO ++ (rnds 17 ++ lst 17 e)) (basel false) 100 5 [Lt 0, Lt 1, Lt 2] (.bool true) := by
  intro e he
  have e1 : e = 0 ∨ e = 1 ∨ e = 2 := by omega
  clear he
  rcases e1 with rfl | rfl | rfl <;> (delta Sym; show _ = _; kernel_rfl)
theorem key_18 : ∀ e : Nat, e < 3 → Sym (baseO ++ (rnds 18 ++ lst 18 e)) (basel false) 100 5 [Lt 0, Lt 1, Lt 2] (.bool true) := by
  intro e he
  have e1 : e = 0 ∨ e = 1 ∨ e = 2 := by omega
  clear he
  rcases e1 with rfl | rfl | rfl <;> (delta Sym; show _ = _; kernel_rfl)
theorem key_19 : ∀ e : Nat, e < 3 → Sym (baseO ++ (rnds 19 ++ lst 19 e)) (basel false) 100 5 [Lt 0, Lt 1, Lt 2] (.bool true) := by
  intro e he
  have e1 : e = 0 ∨ e = 1 ∨ e = 2 := by omega
  clear he
  rcases e1 with rfl | rfl | rfl <;> (delta Sym; show _ = _; kernel_rfl)
theorem key_20 : ∀ e : Nat, e < 3 → Sym (baseO ++ (rnds 20 ++ lst 20 e)) (basel false) 100 5 [Lt 0, Lt 1, Lt 2] (.bool true) := by
  intro e he
  have e1 : e = 0 ∨ e = 1 ∨ e = 2 := by omega
  clear he
  rcases e1 with rfl | rfl | rfl <;> (delta Sym; show _ = _; kernel_rfl)
end Go.Proofs.YtcplkbflpopoaaaGreatDoor
