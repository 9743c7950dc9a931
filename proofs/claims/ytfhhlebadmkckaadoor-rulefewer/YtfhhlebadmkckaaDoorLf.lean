/-
  Steps over a frame that is a letter: behind each operation the frame is a letter again, with what it holds as facts.
-/
import Derived.Test.YtfhhlebadmkckaaDoorWn
namespace Go.Proofs.YtfhhlebadmkckaaDoor
open Go.RowKit
/-- the frame a' is a with slot d set to v -/
structure Fr (d : Nat) (v : Value) (a a' : Act) : Prop where
  z : a'.tmps.size = a.tmps.size
  s : a'.tmps.getD d undef = v
  n : ∀ k, k ≠ d → a'.tmps.getD k undef = a.tmps.getD k undef
  e : a'.defers = a.defers
theorem fr_put {a : Act} {d : Nat} {v : Value} (h : d < a.tmps.size) : Fr d v a (a.put (some d) v) :=
  ⟨put_size, put_get h, fun _ hk => put_ne (Ne.symm hk), rfl⟩
section
variable {P : Program} {ops : Array Oper} {Q : Exit → Act → World → Prop} {S : World → Prop} {fuel : Nat} {listed : Array Bool} {a : Act} {w w' : World} {v : Value}
theorem dst_of {i : Nat} {o : Oper} {x : Option Tmp} (hd : (ops[i]?).map (·.dst) = some x) (ho : ops[i]? = some o) : o.dst = x := by
  rw [ho] at hd; simpa using hd
theorem some_of {i : Nat} {x : Option Tmp} (hd : (ops[i]?).map (·.dst) = some x) : ∃ o, ops[i]? = some o := by
  cases ho : ops[i]? with
  | none => rw [ho] at hd; cases hd
  | some o => exact ⟨o, rfl⟩
/-- plain region: a value, and the world goes on -/
theorem opL (i d : Nat) {rest : List Nat} (hd : (ops[i]?).map (·.dst) = some (some d)) (hz : d < a.tmps.size)
    (hy : ∀ o, ops[i]? = some o → Region.wanted o (yielded ops a.tmps) = true ∧ (execOp a.eval o).run P w = .ok (.value v) w')
    (h : ∀ a' : Act, Fr d v a a' → wpOps P ops Q rest a' w') : wpOps P ops Q (i :: rest) a w := by
  obtain ⟨o, ho⟩ := some_of hd
  obtain ⟨h1, h2⟩ := hy o ho
  rw [wpOps_cons]
  simp only [wpOp, ho, h1, if_true]
  left
  unfold Oper.wp
  rw [h2, Oper.upon_value, dst_of hd ho]
  exact h _ (fr_put hz)
/-- plain region: passed over -/
theorem opL_not (i d : Nat) {rest : List Nat} (hd : (ops[i]?).map (·.dst) = some (some d)) (hz : d < a.tmps.size)
    (hy : ∀ o, ops[i]? = some o → Region.wanted o (yielded ops a.tmps) = false)
    (h : ∀ a' : Act, Fr d undef a a' → wpOps P ops Q rest a' w) : wpOps P ops Q (i :: rest) a w := by
  obtain ⟨o, ho⟩ := some_of hd
  rw [wpOps_cons]
  simp only [wpOp, ho, hy o ho]
  rw [dst_of hd ho]
  exact h _ (fr_put hz)
/-- plain region: a store -/
theorem opL_store (i : Nat) {rest : List Nat} (hd : (ops[i]?).map (·.dst) = some none)
    (hy : ∀ o, ops[i]? = some o → Region.wanted o (yielded ops a.tmps) = true ∧ (execOp a.eval o).run P w = .ok .skip w')
    (h : wpOps P ops Q rest a w') : wpOps P ops Q (i :: rest) a w := by
  obtain ⟨o, ho⟩ := some_of hd
  obtain ⟨h1, h2⟩ := hy o ho
  rw [wpOps_cons]
  simp only [wpOp, ho, h1, if_true]
  left
  unfold Oper.wp
  rw [h2, Oper.upon_skip, dst_of hd ho]
  exact h
/-- plain region: a call -/
theorem opL_call (i d : Nat) {rest : List Nat} {f : FuncId} {args : Array Value} {R : Value → World → Prop} (hd : (ops[i]?).map (·.dst) = some (some d)) (hz : d < a.tmps.size)
    (hy : ∀ o, ops[i]? = some o → Region.wanted o (yielded ops a.tmps) = true ∧ (execOp a.eval o).run P w = .ok (.enter f args) w)
    (hc : Calls P f args w fun e w' => ∃ v, e = .returned v ∧ R v w')
    (h : ∀ (v : Value) (w' : World) (a' : Act), R v w' → Fr d v a a' → wpOps P ops Q rest a' w') : wpOps P ops Q (i :: rest) a w := by
  obtain ⟨o, ho⟩ := some_of hd
  obtain ⟨h1, h2⟩ := hy o ho
  rw [wpOps_cons]
  simp only [wpOp, ho, h1, if_true]
  left
  unfold Oper.wp
  rw [h2, Oper.upon_enter]
  refine hc.mono ?_
  rintro e w' ⟨v, rfl, hR⟩
  show wpOps P ops Q rest (a.put o.dst v) w'
  rw [dst_of hd ho]
  exact h v w' _ hR (fr_put hz)
/-- drawn region: a value, in every world that meets S -/
theorem heldL (i d : Nat) (hQ : Blind Q) (hd : (ops[i]?).map (·.dst) = some (some d)) (hz : d < a.tmps.size) (hs : Region.noSelect ops = true) (hf : Region.free .any ops listed i = true)
    (hr : (Region.ready .any ops listed).contains i = true) (hS : S w)
    (hy : ∀ o, ops[i]? = some o → (Region.wanted o (yielded ops a.tmps) = true ∧ ∀ w, S w → (execOp a.eval o).run P w = .ok (.value v) w) ∨ (Region.wanted o (yielded ops a.tmps) = false ∧ v = undef))
    (h : ∀ a' : Act, Fr d v a a' → wpAnyH P .any ops Q S fuel (listed.setIfInBounds i true) a' w) : wpAnyH P .any ops Q S (fuel + 1) listed a w :=
  step_take i d hQ hd hs hf hr hS hy (h _ (fr_put hz))
/-- drawn region: one that must come now -/
theorem heldL_do (i d : Nat) (hr : Region.ready .any ops listed = [i]) (hd : (ops[i]?).map (·.dst) = some (some d)) (hz : d < a.tmps.size)
    (hy : ∀ o, ops[i]? = some o → Region.wanted o (yielded ops a.tmps) = true ∧ (execOp a.eval o).run P w = .ok (.value v) w') (hS : S w')
    (h : ∀ a' : Act, Fr d v a a' → wpAnyH P .any ops Q S fuel (listed.setIfInBounds i true) a' w') : wpAnyH P .any ops Q S (fuel + 1) listed a w := by
  refine step_do i hr ?_
  intro o ho K hK
  obtain ⟨h1, h2⟩ := hy o ho
  rw [if_pos h1]
  unfold Oper.wp
  rw [h2, Oper.upon_value, dst_of hd ho]
  exact hK.out _ _ hS (fun _ => h _ (fr_put hz))
/-- drawn region: a store that must come now -/
theorem heldL_store (i : Nat) (hr : Region.ready .any ops listed = [i]) (hd : (ops[i]?).map (·.dst) = some none)
    (hy : ∀ o, ops[i]? = some o → Region.wanted o (yielded ops a.tmps) = true ∧ (execOp a.eval o).run P w = .ok .skip w') (hS : S w')
    (h : wpAnyH P .any ops Q S fuel (listed.setIfInBounds i true) a w') : wpAnyH P .any ops Q S (fuel + 1) listed a w := by
  refine step_do i hr ?_
  intro o ho K hK
  obtain ⟨h1, h2⟩ := hy o ho
  rw [if_pos h1]
  unfold Oper.wp
  rw [h2, Oper.upon_skip, dst_of hd ho]
  exact hK.out _ _ hS (fun _ => h)
/-- drawn region: a call that must come now -/
theorem heldL_call (i d : Nat) {f : FuncId} {args : Array Value} {R : Value → World → Prop} (hr : Region.ready .any ops listed = [i]) (hd : (ops[i]?).map (·.dst) = some (some d)) (hz : d < a.tmps.size)
    (hy : ∀ o, ops[i]? = some o → Region.wanted o (yielded ops a.tmps) = true ∧ (execOp a.eval o).run P w = .ok (.enter f args) w)
    (hc : Calls P f args w fun e w' => ∃ v, e = .returned v ∧ R v w') (hS : ∀ v w', R v w' → S w')
    (h : ∀ (v : Value) (w' : World) (a' : Act), R v w' → Fr d v a a' → wpAnyH P .any ops Q S fuel (listed.setIfInBounds i true) a' w') : wpAnyH P .any ops Q S (fuel + 1) listed a w := by
  refine step_do i hr ?_
  intro o ho K hK
  obtain ⟨h1, h2⟩ := hy o ho
  rw [if_pos h1]
  unfold Oper.wp
  rw [h2, Oper.upon_enter]
  refine hc.mono ?_
  rintro e w' ⟨v, rfl, hR⟩
  show K (a.put o.dst v) w'
  rw [dst_of hd ho]
  exact hK.out _ _ (hS v w' hR) (fun _ => h v w' _ hR (fr_put hz))
end
end Go.Proofs.YtfhhlebadmkckaaDoor
