/-
  The runs of PluralReads over letters.
-/
import Derived.Test.YtcplkbflpopoaaaGreatDoorKr0
namespace Go.Proofs.YtcplkbflpopoaaaGreatDoor
open Go Go.RowKit
theorem key_long : Sym [lenE 9 (Lt 0) (Lt 3), binE .gtr (Lt 3) (.int .i64 20) (.bool true)] [(9, fixP (.bool true))] 60 5 [Lt 0, Lt 1, Lt 2] (.bool true) := by delta Sym; show _ = _; kernel_rfl
theorem key_ok : Sym (baseO ++ [binE .geq (Lt 5) (.int .i64 1) (.bool true), binE .leq (Lt 5) (Lt 6) (.bool true), binT .eql 9 9 (Lt 7) (Lt 0) (.bool true)]) (basel true) 60 5 [Lt 0, Lt 1, Lt 2] (.bool true) := by delta Sym; show _ = _; kernel_rfl
theorem key_0 : ∀ e : Nat, e < 3 → Sym (baseO ++ (rnds 0 ++ lst 0 e)) (basel false) 100 5 [Lt 0, Lt 1, Lt 2] (.bool true) := by
  intro e he
  have e1 : e = 0 ∨ e = 1 ∨ e = 2 := by omega
  clear he
  rcases e1 with rfl | rfl | rfl <;> (delta Sym; show _ = _; kernel_rfl)
theorem key_1 (a b c : Bool) (h : (a || b || c) = true) : ∀ e : Nat, e < 3 → Sym (baseO ++ (rnds 1 ++ lst 1 e) ++ tailO 1 a b c) (basel false ++ [(15, patP [([Lt 4], .tuple ⟨[Lt 5, .nilIface]⟩)])]) 100 5 [Lt 0, Lt 1, Lt 2] (.bool true) := by
  intro e he
  have e1 : e = 0 ∨ e = 1 ∨ e = 2 := by omega
  clear he
  cases a with
  | true => clear h; rcases e1 with rfl | rfl | rfl <;> (delta Sym; show _ = _; kernel_rfl)
  | false =>
    cases b with
    | true => clear h; rcases e1 with rfl | rfl | rfl <;> (delta Sym; show _ = _; kernel_rfl)
    | false =>
      cases c with
      | true => clear h; rcases e1 with rfl | rfl | rfl <;> (delta Sym; show _ = _; kernel_rfl)
      | false => cases h
theorem key_2 (a b c : Bool) (h : (a || b || c) = true) : ∀ e : Nat, e < 3 → Sym (baseO ++ (rnds 2 ++ lst 2 e) ++ tailO 2 a b c) (basel false ++ [(15, patP [([Lt 4], .tuple ⟨[Lt 5, .nilIface]⟩)])]) 100 5 [Lt 0, Lt 1, Lt 2] (.bool true) := by
  intro e he
  have e1 : e = 0 ∨ e = 1 ∨ e = 2 := by omega
  clear he
  cases a with
  | true => clear h; rcases e1 with rfl | rfl | rfl <;> (delta Sym; show _ = _; kernel_rfl)
  | false =>
    cases b with
    | true => clear h; rcases e1 with rfl | rfl | rfl <;> (delta Sym; show _ = _; kernel_rfl)
    | false =>
      cases c with
      | true => clear h; rcases e1 with rfl | rfl | rfl <;> (delta Sym; show _ = _; kernel_rfl)
      | false => cases h
theorem key_3 (a b c : Bool) (h : (a || b || c) = true) : ∀ e : Nat, e < 3 → Sym (baseO ++ (rnds 3 ++ lst 3 e) ++ tailO 3 a b c) (basel false ++ [(15, patP [([Lt 4], .tuple ⟨[Lt 5, .nilIface]⟩)])]) 100 5 [Lt 0, Lt 1, Lt 2] (.bool true) := by
  intro e he
  have e1 : e = 0 ∨ e = 1 ∨ e = 2 := by omega
  clear he
  cases a with
  | true => clear h; rcases e1 with rfl | rfl | rfl <;> (delta Sym; show _ = _; kernel_rfl)
  | false =>
    cases b with
    | true => clear h; rcases e1 with rfl | rfl | rfl <;> (delta Sym; show _ = _; kernel_rfl)
    | false =>
      cases c with
      | true => clear h; rcases e1 with rfl | rfl | rfl <;> (delta Sym; show _ = _; kernel_rfl)
      | false => cases h
theorem key_4 (a b c : Bool) (h : (a || b || c) = true) : ∀ e : Nat, e < 3 → Sym (baseO ++ (rnds 4 ++ lst 4 e) ++ tailO 4 a b c) (basel false ++ [(15, patP [([Lt 4], .tuple ⟨[Lt 5, .nilIface]⟩)])]) 100 5 [Lt 0, Lt 1, Lt 2] (.bool true) := by
  intro e he
  have e1 : e = 0 ∨ e = 1 ∨ e = 2 := by omega
  clear he
  cases a with
  | true => clear h; rcases e1 with rfl | rfl | rfl <;> (delta Sym; show _ = _; kernel_rfl)
  | false =>
    cases b with
    | true => clear h; rcases e1 with rfl | rfl | rfl <;> (delta Sym; show _ = _; kernel_rfl)
    | false =>
      cases c with
      | true => clear h; rcases e1 with rfl | rfl | rfl <;> (delta Sym; show _ = _; kernel_rfl)
      | false => cases h
theorem key_5 (a b c : Bool) (h : (a || b || c) = true) : ∀ e : Nat, e < 3 → Sym (baseO ++ (rnds 5 ++ lst 5 e) ++ tailO 5 a b c) (basel false ++ [(15, patP [([Lt 4], .tuple ⟨[Lt 5, .nilIface]⟩)])]) 100 5 [Lt 0, Lt 1, Lt 2] (.bool true) := by
  intro e he
  have e1 : e = 0 ∨ e = 1 ∨ e = 2 := by omega
  clear he
  cases a with
  | true => clear h; rcases e1 with rfl | rfl | rfl <;> (delta Sym; show _ = _; kernel_rfl)
  | false =>
    cases b with
    | true => clear h; rcases e1 with rfl | rfl | rfl <;> (delta Sym; show _ = _; kernel_rfl)
    | false =>
      cases c with
      | true => clear h; rcases e1 with rfl | rfl | rfl <;> (delta Sym; show _ = _; kernel_rfl)
      | false => cases h
end Go.Proofs.YtcplkbflpopoaaaGreatDoor
