/-
  Guards of operations; one operation over a frame that is a letter.
-/
import Derived.Test.YtfliehkmncbpnaaGreatDoorR7a
import Derived.Test.YtfliehkmncbpnaaGreatDoorR18j
namespace Go.Proofs.YtfliehkmncbpnaaGreatDoor
open Go.RowKit
section
variable {P : Program} {ops : Array Oper} {Q : Exit → Act → World → Prop} {a : Act} {w : World}
/-- one operation: behind it the frame is a letter again -/
theorem opsL (i d : Nat) {v : Value} {rest : List Nat} (hd : (ops[i]?).map (·.dst) = some (some d)) (hz : d < a.tmps.size)
    (hy : ∀ o, ops[i]? = some o → (Region.wanted o (yielded ops a.tmps) = true ∧ (execOp a.eval o).run P w = .ok (.value v) w) ∨ (Region.wanted o (yielded ops a.tmps) = false ∧ v = undef))
    (h : ∀ a' : Act, a'.tmps.size = a.tmps.size → a'.tmps.getD d undef = v → (∀ k, k ≠ d → a'.tmps.getD k undef = a.tmps.getD k undef) → a'.defers = a.defers → wpOps P ops Q rest a' w) :
    wpOps P ops Q (i :: rest) a w := by
  have h' := h (a.put (some d) v) put_size (put_get hz) (fun k hk => put_ne (Ne.symm hk)) rfl
  cases ho : ops[i]? with
  | none => rw [ho] at hd; cases hd
  | some o =>
    rw [ho] at hd
    have e : o.dst = some d := by simpa using hd
    rw [wpOps_cons]
    rcases hy o ho with ⟨h1, h2⟩ | ⟨h1, rfl⟩
    · simp only [wpOp, ho, h1, if_true]
      left
      unfold Oper.wp
      rw [h2, Oper.upon_value, e]
      exact h'
    · simp only [wpOp, ho, h1]
      rw [e]
      exact h'
theorem wanted_at {o : Oper} {t : Array Value} {j d : Nat} {want b : Bool} (hg : o.guard = some (j, want)) (hj : (ops[j]?).bind (·.dst) = some d) (hv : t.getD d undef = .bool b) :
    Region.wanted o (yielded ops t) = (b == want) := by
  have hd : d < t.size := by
    apply Classical.byContradiction
    intro h
    simp [Array.getD, h, undef] at hv
  have h2 : t[d]? = some (.bool b) := by
    rw [Array.getElem?_eq_getElem hd]
    simpa [Array.getD, hd] using hv
  simp only [Region.wanted, hg, yielded, hj, Option.bind_some, h2]
  cases b <;> cases want <;> rfl
theorem wanted_not {o : Oper} {t : Array Value} {j d : Nat} {want : Bool} (hg : o.guard = some (j, want)) (hj : (ops[j]?).bind (·.dst) = some d) (hv : t.getD d undef = undef) :
    Region.wanted o (yielded ops t) = false := by
  simp only [Region.wanted, hg, yielded, hj, Option.bind_some]
  by_cases hd : d < t.size
  · have h2 : t[d]? = some undef := by
      rw [Array.getElem?_eq_getElem hd]
      simpa [Array.getD, hd] using hv
    rw [h2]
    cases want <;> rfl
  · have h2 : t[d]? = none := by simpa using hd
    rw [h2]
    cases want <;> rfl
theorem Keep.step {lo hi x d : Nat} {t u u' : Array Value} (h : Keep lo hi x t u) (z : u'.size = u.size) (n : ∀ k, k ≠ d → u'.getD k undef = u.getD k undef) (hd : d = x ∨ lo ≤ d ∧ d ≤ hi) : Keep lo hi x t u' :=
  ⟨z.trans h.1, fun k h1 h2 => (n k (by omega)).trans (h.2 k h1 h2)⟩
end
end Go.Proofs.YtfliehkmncbpnaaGreatDoor
