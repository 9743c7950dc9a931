/-
  The runs of PluralReads over letters.
-/
import Derived.Test.YtcplkbflpopoaaaGreatDoorKr0
namespace Go.Proofs.YtcplkbflpopoaaaGreatDoor
open Go Go.RowKit
theorem key_10 : ∀ e : Nat, e < 3 → Sym (baseO ++ (rnds 10 ++ lst 10 e)) (basel false) 100 5 [Lt 0, Lt 1, Lt 2] (.bool true) := by
  intro e he
  have e1 : e = 0 ∨ e = 1 ∨ e = 2 := by omega
  clear he
  rcases e1 with rfl | rfl | rfl <;> (delta Sym; show _ = _; kernel_rfl)
theorem key_11 : ∀ e : Nat, e < 3 → Sym (baseO ++ (rnds 11 ++ lst 11 e)) (basel false) 100 5 [Lt 0, Lt 1, Lt 2] (.bool true) := by
  intro e he
  have e1 : e = 0 ∨ e = 1 ∨ e = 2 := by omega
  clear he
  rcases e1 with rfl | rfl | rfl <;> (delta Sym; show _ = _; kernel_rfl)
theorem key_12 : ∀ e : Nat, e < 3 → Sym (baseO ++ (rnds 12 ++ lst 12 e)) (basel false) 100 5 [Lt 0, Lt 1, Lt 2] (.bool true) := by
  intro e he
  have e1 : e = 0 ∨ e = 1 ∨ e = 2 := by omega
  clear he
  rcases e1 with rfl | rfl | rfl <;> (delta Sym; show _ = _; kernel_rfl)
theorem key_13 : ∀ e : Nat, e < 3 → Sym (baseO ++ (rnds 13 ++ lst 13 e)) (basel false) 100 5 [Lt 0, Lt 1, Lt 2] (.bool true) := by
  intro e he
  have e1 : e = 0 ∨ e = 1 ∨ e = 2 := by omega
  clear he
  rcases e1 with rfl | rfl | rfl <;> (delta Sym; show _ = _; kernel_rfl)
theorem key_6 (a b c : Bool) (h : (a || b || c) = true) : ∀ e : Nat, e < 3 → Sym (baseO ++ (rnds 6 ++ lst 6 e) ++ tailO 6 a b c) (basel false ++ [(15, patP [([Lt 4], .tuple ⟨[Lt 5, .nilIface]⟩)])]) 100 5 [Lt 0, Lt 1, Lt 2] (.bool true) := by
  intro e he
  have e1 : e = 0 ∨ e = 1 ∨ e = 2 := by omega
  clear he
  cases a with
  | true => clear h; rcases e1 with rfl | rfl | rfl <;> (delta Sym; show _ = _; kernel_rfl)
  | false =>
    cases b with
    | true => clear h; rcases e1 with rfl | rfl | rfl <;> (delta Sym; show _ = _; kernel_rfl)
    | false =>
      cases c with
      | true => clear h; rcases e1 with rfl | rfl | rfl <;> (delta Sym; show _ = _; kernel_rfl)
      | false => cases h
theorem key_7 (a b c : Bool) (h : (a || b || c) = true) : ∀ e : Nat, e < 3 → Sym (baseO ++ (rnds 7 ++ lst 7 e) ++ tailO 7 a b c) (basel false ++ [(15, patP [([Lt 4], .tuple ⟨[Lt 5, .nilIface]⟩)])]) 100 5 [Lt 0, Lt 1, Lt 2] (.bool true) := by
  intro e he
  have e1 : e = 0 ∨ e = 1 ∨ e = 2 := by omega
  clear he
  cases a with
  | true => clear h; rcases e1 with rfl | rfl | rfl <;> (delta Sym; show _ = _; kernel_rfl)
  | false =>
    cases b with
    | true => clear h; rcases e1 with rfl | rfl | rfl <;> (delta Sym; show _ = _; kernel_rfl)
    | false =>
      cases c with
      | true => clear h; rcases e1 with rfl | rfl | rfl <;> (delta Sym; show _ = _; kernel_rfl)
      | false => cases h
theorem key_8 (a b c : Bool) (h : (a || b || c) = true) : ∀ e : Nat, e < 3 → Sym (baseO ++ (rnds 8 ++ lst 8 e) ++ tailO 8 a b c) (basel false ++ [(15, patP [([Lt 4], .tuple ⟨[Lt 5, .nilIface]⟩)])]) 100 5 [Lt 0, Lt 1, Lt 2] (.bool true) := by
  intro e he
  have e1 : e = 0 ∨ e = 1 ∨ e = 2 := by omega
  clear he
  cases a with
  | true => clear h; rcases e1 with rfl | rfl | rfl <;> (delta Sym; show _ = _; kernel_rfl)
  | false =>
    cases b with
    | true => clear h; rcases e1 with rfl | rfl | rfl <;> (delta Sym; show _ = _; kernel_rfl)
    | false =>
      cases c with
      | true => clear h; rcases e1 with rfl | rfl | rfl <;> (delta Sym; show _ = _; kernel_rfl)
      | false => cases h
theorem key_9 (a b c : Bool) (h : (a || b || c) = true) : ∀ e : Nat, e < 3 → Sym (baseO ++ (rnds 9 ++ lst 9 e) ++ tailO 9 a b c) (basel false ++ [(15, patP [([Lt 4], .tuple ⟨[Lt 5, .nilIface]⟩)])]) 100 5 [Lt 0, Lt 1, Lt 2] (.bool true) := by
  intro e he
  have e1 : e = 0 ∨ e = 1 ∨ e = 2 := by omega
  clear he
  cases a with
  | true => clear h; rcases e1 with rfl | rfl | rfl <;> (delta Sym; show _ = _; kernel_rfl)
  | false =>
    cases b with
    | true => clear h; rcases e1 with rfl | rfl | rfl <;> (delta Sym; show _ = _; kernel_rfl)
    | false =>
      cases c with
      | true => clear h; rcases e1 with rfl | rfl | rfl <;> (delta Sym; show _ = _; kernel_rfl)
      | false => cases h
end Go.Proofs.YtcplkbflpopoaaaGreatDoor
