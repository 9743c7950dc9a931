/-
  A region that draws its order, walked over a frame that is a letter: the laws of one step.
-/
import Derived.Test.YtocpmljkmdpfkaaGreatDoorR6
import Derived.Deep.RegionHeld3
namespace Go.Proofs.YtocpmljkmdpfkaaGreatDoor
open Go.RowKit

/-- the operations of a region, by its number -/
def regOf (n : Nat) : Code → Option (Array Oper)
  | .region id ops _ => if id = n then some ops else none
  | .seq x y => match regOf n x with
    | some o => some o
    | none => regOf n y
  | .cond _ x y => match regOf n x with
    | some o => some o
    | none => regOf n y
  | .block _ c => regOf n c
  | .loop c => regOf n c
  | .scope c => regOf n c
  | _ => none

theorem put_get {a : Act} {d : Nat} {v : Value} (h : d < a.tmps.size) : (a.put (some d) v).tmps.getD d undef = v := by simp [Act.put, h]
theorem put_ne {a : Act} {d t : Nat} {v : Value} (h : d ≠ t) : (a.put (some d) v).tmps.getD t undef = a.tmps.getD t undef := by
  simp [Act.put, h]
theorem put_size {a : Act} {d : Nat} {v : Value} : (a.put (some d) v).tmps.size = a.tmps.size := by simp [Act.put]

section
variable {P : Program} {ops : Array Oper} {Q : Exit → Act → World → Prop} {S : World → Prop} {fuel : Nat} {listed : Array Bool} {a : Act} {w : World}
/-- at a panic Q does not look at the frame -/
def Blind (Q : Exit → Act → World → Prop) : Prop := ∀ c a b w, Q (.panic c) a w → Q (.panic c) b w
theorem step_take (i d : Nat) {v : Value} (hQ : Blind Q) (hd : (ops[i]?).map (·.dst) = some (some d)) (hs : Region.noSelect ops = true) (hf : Region.free .any ops listed i = true)
    (hr : (Region.ready .any ops listed).contains i = true) (hS : S w) (hy : ∀ o, ops[i]? = some o → YieldsIf P ops S o v a)
    (h : wpAnyH P .any ops Q S fuel (listed.setIfInBounds i true) (a.put (some d) v) w) : wpAnyH P .any ops Q S (fuel + 1) listed a w := by
  cases ho : ops[i]? with
  | none => rw [ho] at hd; cases hd
  | some o =>
    rw [ho] at hd
    have e : o.dst = some d := by simpa using hd
    exact wpAnyH_take ho hs hf hr (fun _ _ _ q => hQ _ _ _ _ q) (hy o ho) hS (by rw [e]; exact h)
theorem step_do (i : Nat) (hr : Region.ready .any ops listed = [i])
    (h : ∀ o, ops[i]? = some o → ∀ K' : Act → World → Prop, Shut (∀ a w, S w → (S w → wpAnyH P .any ops Q S fuel (listed.setIfInBounds i true) a w) → K' a w) → if Region.wanted o (yielded ops a.tmps) = true then Oper.wp P o a w K' Q else K' (a.put o.dst undef) w) :
    wpAnyH P .any ops Q S (fuel + 1) listed a w := by
  have hi : i ∈ Region.ready .any ops listed := by rw [hr]; exact List.mem_singleton.2 rfl
  obtain ⟨_, o, ho, _⟩ := mem_ready.1 hi
  exact wpAnyH_ready hr (by simp) (AllReadyH.cons ho (h o ho) AllReadyH.nil)
end

/-- the first loop's body in a text -/
def loopOf : Code → Option Code
  | .loop c => some c
  | .seq x y => match loopOf x with
    | some o => some o
    | none => loopOf y
  | .cond _ x y => match loopOf x with
    | some o => some o
    | none => loopOf y
  | .block _ c => loopOf c
  | .scope c => loopOf c
  | _ => none

/-- what a statement leaves of a frame: all but the slots lo to hi, and x -/
def Keep (lo hi x : Nat) (t u : Array Value) : Prop := u.size = t.size ∧ ∀ k, k ≠ x → (k < lo ∨ hi < k) → u.getD k undef = t.getD k undef
theorem Keep.refl (lo hi x : Nat) (t : Array Value) : Keep lo hi x t t := ⟨rfl, fun _ _ _ => rfl⟩
theorem set_ne {u : Array Value} {d k : Nat} {v : Value} (h : d ≠ k) : (u.setIfInBounds d v).getD k undef = u.getD k undef := by simp [h]
theorem Keep.set {lo hi x : Nat} {t u : Array Value} (h : Keep lo hi x t u) (d : Nat) (v : Value) (hd : d = x ∨ lo ≤ d ∧ d ≤ hi) : Keep lo hi x t (u.setIfInBounds d v) :=
  ⟨by simpa using h.1, fun k h1 h2 => by rw [set_ne (by omega)]; exact h.2 k h1 h2⟩

/-- a statement, cut off: what holds behind it -/
theorem cut_at {P : Program} {s : Code} {K : Act → World → Prop} {Q : Exit → Act → World → Prop} {a : Act} {w : World} (R : Act → World → Prop)
    (first : s.wp P (Exit.then R Q) a w) (rest : ∀ a' w', R a' w' → K a' w') : s.wp P (Exit.then K Q) a w :=
  wp_mono first fun e a' w' h => by
    cases e with
    | normal => exact rest a' w' h
    | exit id => exact h
    | goto l => exact h
    | ret => exact h
    | panic c => exact h
    | outgrown => exact h
theorem blind_then {K : Act → World → Prop} {Q : Exit → Act → World → Prop} (h : Blind Q) : Blind (Exit.then K Q) := fun c a b w q => h c a b w q
theorem blind_block {n : Nat} {Q : Exit → Act → World → Prop} (h : Blind Q) : Blind (Exit.inBlock n Q) := fun c a b w q => h c a b w q
end Go.Proofs.YtocpmljkmdpfkaaGreatDoor
