/-
  A run by reckoning: is it the same code?
-/
import Derived.Test.YtkhmbphcjacgnaaGreatDoorEvS
namespace Go.Proofs.YtkhmbphcjacgnaaGreatDoor
open Go Go.RowKit
def allq {α : Type} (f : α → α → Bool) : List α → List α → Bool
  | [], [] => true
  | a :: l, b :: m => f a b && allq f l m
  | _, _ => false
theorem allq_eq {α : Type} {f : α → α → Bool} (h : ∀ {a b}, f a b = true → a = b) : ∀ {l m : List α}, allq f l m = true → l = m
  | [], [], _ => rfl
  | a :: l, b :: m, e => by
    simp only [allq, Bool.and_eq_true] at e
    rw [h e.1, allq_eq h e.2]
  | [], _ :: _, e => by cases e
  | _ :: _, [], e => by cases e
theorem arq_eq {α : Type} {f : α → α → Bool} (h : ∀ {a b}, f a b = true → a = b) {l m : Array α} (e : allq f l.toList m.toList = true) : l = m := Array.ext' (allq_eq h e)
def orq : Operand → Operand → Bool
  | .tmp a, .tmp b => Nat.beq a b
  | .const u, .const v => veqn 4 u v
  | .global a, .global b => Nat.beq a b
  | .func a, .func b => Nat.beq a b
  | _, _ => false
theorem orq_eq {a b : Operand} (h : orq a b = true) : a = b := by
  unfold orq at h
  split at h
  · rw [Nat.eq_of_beq_eq_true h]
  · rw [@veqn_eq noLtr 4 _ _ h]
  · rw [Nat.eq_of_beq_eq_true h]
  · rw [Nat.eq_of_beq_eq_true h]
  · cases h
def opoq : Option Operand → Option Operand → Bool
  | none, none => true
  | some a, some b => orq a b
  | _, _ => false
theorem opoq_eq {a b : Option Operand} (h : opoq a b = true) : a = b := by
  unfold opoq at h
  split at h
  · rfl
  · rw [orq_eq h]
  · cases h
def prq (a b : Nat × Operand) : Bool := Nat.beq a.1 b.1 && orq a.2 b.2
theorem prq_eq {a b : Nat × Operand} (h : prq a b = true) : a = b := by
  simp only [prq, Bool.and_eq_true] at h
  exact Prod.ext (Nat.eq_of_beq_eq_true h.1) (orq_eq h.2)
def fnq : Fn → Fn → Bool
  | .func a, .func b => Nat.beq a b
  | _, _ => false
theorem fnq_eq {a b : Fn} (h : fnq a b = true) : a = b := by
  unfold fnq at h
  split at h
  · rw [Nat.eq_of_beq_eq_true h]
  · cases h
def ceeq : Callee → Callee → Bool
  | .value a, .value b => orq a b
  | .builtin a, .builtin b => decide (a = b)
  | _, _ => false
theorem ceeq_eq {a b : Callee} (h : ceeq a b = true) : a = b := by
  unfold ceeq at h
  split at h
  · rw [orq_eq h]
  · rw [of_decide_eq_true h]
  · cases h
theorem nbq {a b : Nat} (h : Nat.beq a b = true) : a = b := Nat.eq_of_beq_eq_true h
def clq (a b : Call) : Bool := ceeq a.callee b.callee && allq orq a.args.toList b.args.toList && allq Nat.beq a.argTypes.toList b.argTypes.toList
theorem clq_eq {a b : Call} (h : clq a b = true) : a = b := by
  simp only [clq, Bool.and_eq_true] at h
  obtain ⟨⟨h1, h2⟩, h3⟩ := h
  cases a
  cases b
  rw [Call.mk.injEq]
  exact ⟨ceeq_eq h1, arq_eq orq_eq h2, arq_eq nbq h3⟩
def opq (a b : Op) : Bool :=
  match a with
  | .move x0 => match b with
    | .move y0 => orq x0 y0
    | _ => false
  | .assign x0 => match b with
    | .assign y0 => orq x0 y0
    | _ => false
  | .pick x0 x1 x2 => match b with
    | .pick y0 y1 y2 => orq x0 y0 && orq x1 y1 && orq x2 y2
    | _ => false
  | .alloc x0 => match b with
    | .alloc y0 => Nat.beq x0 y0
    | _ => false
  | .box x0 x1 => match b with
    | .box y0 y1 => Nat.beq x0 y0 && orq x1 y1
    | _ => false
  | .build x0 x1 => match b with
    | .build y0 y1 => Nat.beq x0 y0 && allq prq x1.toList y1.toList
    | _ => false
  | .buildSlice x0 x1 x2 => match b with
    | .buildSlice y0 y1 y2 => Nat.beq x0 y0 && Nat.beq x1 y1 && allq prq x2.toList y2.toList
    | _ => false
  | .load x0 x1 => match b with
    | .load y0 y1 => Nat.beq x0 y0 && orq x1 y1
    | _ => false
  | .store x0 x1 x2 => match b with
    | .store y0 y1 y2 => Nat.beq x0 y0 && orq x1 y1 && orq x2 y2
    | _ => false
  | .nilCheck x0 => match b with
    | .nilCheck y0 => orq x0 y0
    | _ => false
  | .binOp x0 x1 x2 x3 x4 => match b with
    | .binOp y0 y1 y2 y3 y4 => decide (x0 = y0) && Nat.beq x1 y1 && orq x2 y2 && orq x3 y3 && Nat.beq x4 y4
    | _ => false
  | .unOp x0 x1 x2 => match b with
    | .unOp y0 y1 y2 => decide (x0 = y0) && Nat.beq x1 y1 && orq x2 y2
    | _ => false
  | .convert x0 x1 x2 => match b with
    | .convert y0 y1 y2 => Nat.beq x0 y0 && Nat.beq x1 y1 && orq x2 y2
    | _ => false
  | .makeInterface x0 x1 => match b with
    | .makeInterface y0 y1 => Nat.beq x0 y0 && orq x1 y1
    | _ => false
  | .makeFunc x0 x1 x2 => match b with
    | .makeFunc y0 y1 y2 => fnq x0 y0 && allq orq x1.toList y1.toList && allq orq x2.toList y2.toList
    | _ => false
  | .makeMap x0 x1 => match b with
    | .makeMap y0 y1 => Nat.beq x0 y0 && opoq x1 y1
    | _ => false
  | .makeSlice x0 x1 x2 => match b with
    | .makeSlice y0 y1 y2 => Nat.beq x0 y0 && orq x1 y1 && orq x2 y2
    | _ => false
  | .slice x0 x1 x2 x3 x4 => match b with
    | .slice y0 y1 y2 y3 y4 => Nat.beq x0 y0 && orq x1 y1 && opoq x2 y2 && opoq x3 y3 && opoq x4 y4
    | _ => false
  | .fieldAddr x0 x1 x2 => match b with
    | .fieldAddr y0 y1 y2 => Nat.beq x0 y0 && orq x1 y1 && Nat.beq x2 y2
    | _ => false
  | .field x0 x1 x2 => match b with
    | .field y0 y1 y2 => Nat.beq x0 y0 && orq x1 y1 && Nat.beq x2 y2
    | _ => false
  | .indexAddr x0 x1 x2 => match b with
    | .indexAddr y0 y1 y2 => Nat.beq x0 y0 && orq x1 y1 && orq x2 y2
    | _ => false
  | .index x0 x1 x2 => match b with
    | .index y0 y1 y2 => Nat.beq x0 y0 && orq x1 y1 && orq x2 y2
    | _ => false
  | .lookup x0 x1 x2 x3 => match b with
    | .lookup y0 y1 y2 y3 => Nat.beq x0 y0 && orq x1 y1 && orq x2 y2 && (x3 == y3)
    | _ => false
  | .mapUpdate x0 x1 x2 x3 => match b with
    | .mapUpdate y0 y1 y2 y3 => Nat.beq x0 y0 && orq x1 y1 && orq x2 y2 && orq x3 y3
    | _ => false
  | .mapEntry x0 x1 x2 => match b with
    | .mapEntry y0 y1 y2 => Nat.beq x0 y0 && orq x1 y1 && orq x2 y2
    | _ => false
  | .entryStore x0 x1 x2 x3 => match b with
    | .entryStore y0 y1 y2 y3 => Nat.beq x0 y0 && orq x1 y1 && orq x2 y2 && orq x3 y3
    | _ => false
  | .range x0 x1 => match b with
    | .range y0 y1 => Nat.beq x0 y0 && orq x1 y1
    | _ => false
  | .next x0 x1 => match b with
    | .next y0 y1 => orq x0 y0 && (x1 == y1)
    | _ => false
  | .extract x0 x1 => match b with
    | .extract y0 y1 => orq x0 y0 && Nat.beq x1 y1
    | _ => false
  | .typeAssert x0 x1 x2 x3 => match b with
    | .typeAssert y0 y1 y2 y3 => orq x0 y0 && Nat.beq x1 y1 && Nat.beq x2 y2 && (x3 == y3)
    | _ => false
  | .call x0 => match b with
    | .call y0 => clq x0 y0
    | _ => false
  | .panic x0 => match b with
    | .panic y0 => orq x0 y0
    | _ => false
  | _ => false
theorem opq_eq {a b : Op} (h : opq a b = true) : a = b := by
  unfold opq at h
  cases a with
  | move x0 => cases b with
    | move y0 =>
      rw [orq_eq h]
    | _ => cases h
  | assign x0 => cases b with
    | assign y0 =>
      rw [orq_eq h]
    | _ => cases h
  | pick x0 x1 x2 => cases b with
    | pick y0 y1 y2 =>
      simp only [Bool.and_eq_true] at h
      obtain ⟨⟨h0, h1⟩, h2⟩ := h
      rw [orq_eq h0, orq_eq h1, orq_eq h2]
    | _ => cases h
  | alloc x0 => cases b with
    | alloc y0 =>
      rw [Nat.eq_of_beq_eq_true h]
    | _ => cases h
  | box x0 x1 => cases b with
    | box y0 y1 =>
      simp only [Bool.and_eq_true] at h
      obtain ⟨h0, h1⟩ := h
      rw [Nat.eq_of_beq_eq_true h0, orq_eq h1]
    | _ => cases h
  | build x0 x1 => cases b with
    | build y0 y1 =>
      simp only [Bool.and_eq_true] at h
      obtain ⟨h0, h1⟩ := h
      rw [Nat.eq_of_beq_eq_true h0, arq_eq prq_eq h1]
    | _ => cases h
  | buildSlice x0 x1 x2 => cases b with
    | buildSlice y0 y1 y2 =>
      simp only [Bool.and_eq_true] at h
      obtain ⟨⟨h0, h1⟩, h2⟩ := h
      rw [Nat.eq_of_beq_eq_true h0, Nat.eq_of_beq_eq_true h1, arq_eq prq_eq h2]
    | _ => cases h
  | load x0 x1 => cases b with
    | load y0 y1 =>
      simp only [Bool.and_eq_true] at h
      obtain ⟨h0, h1⟩ := h
      rw [Nat.eq_of_beq_eq_true h0, orq_eq h1]
    | _ => cases h
  | store x0 x1 x2 => cases b with
    | store y0 y1 y2 =>
      simp only [Bool.and_eq_true] at h
      obtain ⟨⟨h0, h1⟩, h2⟩ := h
      rw [Nat.eq_of_beq_eq_true h0, orq_eq h1, orq_eq h2]
    | _ => cases h
  | nilCheck x0 => cases b with
    | nilCheck y0 =>
      rw [orq_eq h]
    | _ => cases h
  | binOp x0 x1 x2 x3 x4 => cases b with
    | binOp y0 y1 y2 y3 y4 =>
      simp only [Bool.and_eq_true] at h
      obtain ⟨⟨⟨⟨h0, h1⟩, h2⟩, h3⟩, h4⟩ := h
      rw [of_decide_eq_true h0, Nat.eq_of_beq_eq_true h1, orq_eq h2, orq_eq h3, Nat.eq_of_beq_eq_true h4]
    | _ => cases h
  | unOp x0 x1 x2 => cases b with
    | unOp y0 y1 y2 =>
      simp only [Bool.and_eq_true] at h
      obtain ⟨⟨h0, h1⟩, h2⟩ := h
      rw [of_decide_eq_true h0, Nat.eq_of_beq_eq_true h1, orq_eq h2]
    | _ => cases h
  | convert x0 x1 x2 => cases b with
    | convert y0 y1 y2 =>
      simp only [Bool.and_eq_true] at h
      obtain ⟨⟨h0, h1⟩, h2⟩ := h
      rw [Nat.eq_of_beq_eq_true h0, Nat.eq_of_beq_eq_true h1, orq_eq h2]
    | _ => cases h
  | makeInterface x0 x1 => cases b with
    | makeInterface y0 y1 =>
      simp only [Bool.and_eq_true] at h
      obtain ⟨h0, h1⟩ := h
      rw [Nat.eq_of_beq_eq_true h0, orq_eq h1]
    | _ => cases h
  | makeFunc x0 x1 x2 => cases b with
    | makeFunc y0 y1 y2 =>
      simp only [Bool.and_eq_true] at h
      obtain ⟨⟨h0, h1⟩, h2⟩ := h
      rw [fnq_eq h0, arq_eq orq_eq h1, arq_eq orq_eq h2]
    | _ => cases h
  | makeMap x0 x1 => cases b with
    | makeMap y0 y1 =>
      simp only [Bool.and_eq_true] at h
      obtain ⟨h0, h1⟩ := h
      rw [Nat.eq_of_beq_eq_true h0, opoq_eq h1]
    | _ => cases h
  | makeSlice x0 x1 x2 => cases b with
    | makeSlice y0 y1 y2 =>
      simp only [Bool.and_eq_true] at h
      obtain ⟨⟨h0, h1⟩, h2⟩ := h
      rw [Nat.eq_of_beq_eq_true h0, orq_eq h1, orq_eq h2]
    | _ => cases h
  | slice x0 x1 x2 x3 x4 => cases b with
    | slice y0 y1 y2 y3 y4 =>
      simp only [Bool.and_eq_true] at h
      obtain ⟨⟨⟨⟨h0, h1⟩, h2⟩, h3⟩, h4⟩ := h
      rw [Nat.eq_of_beq_eq_true h0, orq_eq h1, opoq_eq h2, opoq_eq h3, opoq_eq h4]
    | _ => cases h
  | fieldAddr x0 x1 x2 => cases b with
    | fieldAddr y0 y1 y2 =>
      simp only [Bool.and_eq_true] at h
      obtain ⟨⟨h0, h1⟩, h2⟩ := h
      rw [Nat.eq_of_beq_eq_true h0, orq_eq h1, Nat.eq_of_beq_eq_true h2]
    | _ => cases h
  | field x0 x1 x2 => cases b with
    | field y0 y1 y2 =>
      simp only [Bool.and_eq_true] at h
      obtain ⟨⟨h0, h1⟩, h2⟩ := h
      rw [Nat.eq_of_beq_eq_true h0, orq_eq h1, Nat.eq_of_beq_eq_true h2]
    | _ => cases h
  | indexAddr x0 x1 x2 => cases b with
    | indexAddr y0 y1 y2 =>
      simp only [Bool.and_eq_true] at h
      obtain ⟨⟨h0, h1⟩, h2⟩ := h
      rw [Nat.eq_of_beq_eq_true h0, orq_eq h1, orq_eq h2]
    | _ => cases h
  | index x0 x1 x2 => cases b with
    | index y0 y1 y2 =>
      simp only [Bool.and_eq_true] at h
      obtain ⟨⟨h0, h1⟩, h2⟩ := h
      rw [Nat.eq_of_beq_eq_true h0, orq_eq h1, orq_eq h2]
    | _ => cases h
  | lookup x0 x1 x2 x3 => cases b with
    | lookup y0 y1 y2 y3 =>
      simp only [Bool.and_eq_true] at h
      obtain ⟨⟨⟨h0, h1⟩, h2⟩, h3⟩ := h
      rw [Nat.eq_of_beq_eq_true h0, orq_eq h1, orq_eq h2, eq_of_beq h3]
    | _ => cases h
  | mapUpdate x0 x1 x2 x3 => cases b with
    | mapUpdate y0 y1 y2 y3 =>
      simp only [Bool.and_eq_true] at h
      obtain ⟨⟨⟨h0, h1⟩, h2⟩, h3⟩ := h
      rw [Nat.eq_of_beq_eq_true h0, orq_eq h1, orq_eq h2, orq_eq h3]
    | _ => cases h
  | mapEntry x0 x1 x2 => cases b with
    | mapEntry y0 y1 y2 =>
      simp only [Bool.and_eq_true] at h
      obtain ⟨⟨h0, h1⟩, h2⟩ := h
      rw [Nat.eq_of_beq_eq_true h0, orq_eq h1, orq_eq h2]
    | _ => cases h
  | entryStore x0 x1 x2 x3 => cases b with
    | entryStore y0 y1 y2 y3 =>
      simp only [Bool.and_eq_true] at h
      obtain ⟨⟨⟨h0, h1⟩, h2⟩, h3⟩ := h
      rw [Nat.eq_of_beq_eq_true h0, orq_eq h1, orq_eq h2, orq_eq h3]
    | _ => cases h
  | range x0 x1 => cases b with
    | range y0 y1 =>
      simp only [Bool.and_eq_true] at h
      obtain ⟨h0, h1⟩ := h
      rw [Nat.eq_of_beq_eq_true h0, orq_eq h1]
    | _ => cases h
  | next x0 x1 => cases b with
    | next y0 y1 =>
      simp only [Bool.and_eq_true] at h
      obtain ⟨h0, h1⟩ := h
      rw [orq_eq h0, eq_of_beq h1]
    | _ => cases h
  | extract x0 x1 => cases b with
    | extract y0 y1 =>
      simp only [Bool.and_eq_true] at h
      obtain ⟨h0, h1⟩ := h
      rw [orq_eq h0, Nat.eq_of_beq_eq_true h1]
    | _ => cases h
  | typeAssert x0 x1 x2 x3 => cases b with
    | typeAssert y0 y1 y2 y3 =>
      simp only [Bool.and_eq_true] at h
      obtain ⟨⟨⟨h0, h1⟩, h2⟩, h3⟩ := h
      rw [orq_eq h0, Nat.eq_of_beq_eq_true h1, Nat.eq_of_beq_eq_true h2, eq_of_beq h3]
    | _ => cases h
  | call x0 => cases b with
    | call y0 =>
      rw [clq_eq h]
    | _ => cases h
  | panic x0 => cases b with
    | panic y0 =>
      rw [orq_eq h]
    | _ => cases h
  | _ => cases h
def edq (a b : Edge) : Bool := Nat.beq a.on b.on && decide (a.ground = b.ground)
theorem edq_eq {a b : Edge} (h : edq a b = true) : a = b := by
  simp only [edq, Bool.and_eq_true, decide_eq_true_eq] at h
  cases a
  cases b
  rw [Edge.mk.injEq]
  exact ⟨Nat.eq_of_beq_eq_true h.1, h.2⟩
def oeq (a b : Oper) : Bool := decide (a.dst = b.dst) && opq a.op b.op && Nat.beq a.type b.type && decide (a.pos = b.pos) && allq edq a.after.toList b.after.toList && decide (a.guard = b.guard)
theorem oeq_eq {a b : Oper} (h : oeq a b = true) : a = b := by
  simp only [oeq, Bool.and_eq_true, decide_eq_true_eq] at h
  obtain ⟨⟨⟨⟨⟨h1, h2⟩, h3⟩, h4⟩, h5⟩, h6⟩ := h
  cases a
  cases b
  rw [Oper.mk.injEq]
  exact ⟨h1, opq_eq h2, Nat.eq_of_beq_eq_true h3, h4, arq_eq edq_eq h5, h6⟩
def ceq : Code → Code → Bool
  | .skip, .skip => true
  | .region i l d, .region j m e => Nat.beq i j && allq oeq l.toList m.toList && (d == e)
  | .seq a b, .seq c d => ceq a c && ceq b d
  | .cond x a b, .cond y c d => orq x y && ceq a c && ceq b d
  | .block i a, .block j b => Nat.beq i j && ceq a b
  | .loop a, .loop b => ceq a b
  | .exit i, .exit j => Nat.beq i j
  | .label i, .label j => Nat.beq i j
  | .ret, .ret => true
  | _, _ => false
theorem ceq_eq : ∀ {a b : Code}, ceq a b = true → a = b
  | .skip, b, h => by cases b <;> first | rfl | cases h
  | .region i l d, b, h => by
    cases b with
    | region j m e =>
      simp only [ceq, Bool.and_eq_true] at h
      rw [Nat.eq_of_beq_eq_true h.1.1, arq_eq oeq_eq h.1.2, eq_of_beq h.2]
    | _ => cases h
  | .seq a b, c, h => by
    cases c with
    | seq c d =>
      simp only [ceq, Bool.and_eq_true] at h
      rw [ceq_eq h.1, ceq_eq h.2]
    | _ => cases h
  | .cond x a b, c, h => by
    cases c with
    | cond y c d =>
      simp only [ceq, Bool.and_eq_true] at h
      rw [orq_eq h.1.1, ceq_eq h.1.2, ceq_eq h.2]
    | _ => cases h
  | .block i a, c, h => by
    cases c with
    | block j b =>
      simp only [ceq, Bool.and_eq_true] at h
      rw [Nat.eq_of_beq_eq_true h.1, ceq_eq h.2]
    | _ => cases h
  | .loop a, c, h => by
    cases c with
    | loop b =>
      simp only [ceq] at h
      rw [ceq_eq h]
    | _ => cases h
  | .exit i, c, h => by
    cases c with
    | exit j =>
      simp only [ceq] at h
      rw [Nat.eq_of_beq_eq_true h]
    | _ => cases h
  | .label i, c, h => by
    cases c with
    | label j =>
      simp only [ceq] at h
      rw [Nat.eq_of_beq_eq_true h]
    | _ => cases h
  | .ret, b, h => by cases b <;> first | rfl | cases h
  | .rangeFunc .., b, h => by cases b <;> cases h
  | .scope _, b, h => by cases b <;> cases h
  | .goto _, b, h => by cases b <;> cases h
  | .refuse _, b, h => by cases b <;> cases h
end Go.Proofs.YtkhmbphcjacgnaaGreatDoor
