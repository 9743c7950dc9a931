/-
  Steps where two operations may come now.
-/
import Derived.Test.YtfliehkmncbpnaaGreatDoorLf
namespace Go.Proofs.YtfliehkmncbpnaaGreatDoor
open Go.RowKit
section
variable {P : Program} {ops : Array Oper} {Q : Exit → Act → World → Prop} {S : World → Prop} {fuel : Nat} {listed : Array Bool} {a : Act} {w w' : World} {v : Value}
/-- what is asked of one of several operations that may come now -/
def Cont (P : Program) (ops : Array Oper) (Q : Exit → Act → World → Prop) (S : World → Prop) (fuel : Nat) (listed : Array Bool) (a : Act) (w : World) (i : Nat) : Prop :=
  ∀ o, ops[i]? = some o → ∀ K' : Act → World → Prop, Shut (∀ a w, S w → (S w → wpAnyH P .any ops Q S fuel (listed.setIfInBounds i true) a w) → K' a w) → if Region.wanted o (yielded ops a.tmps) = true then Oper.wp P o a w K' Q else K' (a.put o.dst undef) w
theorem cont_val (i d : Nat) (hd : (ops[i]?).map (·.dst) = some (some d)) (hz : d < a.tmps.size)
    (hy : ∀ o, ops[i]? = some o → Region.wanted o (yielded ops a.tmps) = true ∧ (execOp a.eval o).run P w = .ok (.value v) w') (hS : S w')
    (h : ∀ a' : Act, Fr d v a a' → wpAnyH P .any ops Q S fuel (listed.setIfInBounds i true) a' w') : Cont P ops Q S fuel listed a w i := by
  intro o ho K hK
  obtain ⟨h1, h2⟩ := hy o ho
  rw [if_pos h1]
  unfold Oper.wp
  rw [h2, Oper.upon_value, dst_of hd ho]
  exact hK.out _ _ hS (fun _ => h _ (fr_put hz))
theorem heldL_two (i j : Nat) (hr : Region.ready .any ops listed = [i, j]) (h1 : Cont P ops Q S fuel listed a w i) (h2 : Cont P ops Q S fuel listed a w j) : wpAnyH P .any ops Q S (fuel + 1) listed a w := by
  have hi : i ∈ Region.ready .any ops listed := by rw [hr]; simp
  have hj : j ∈ Region.ready .any ops listed := by rw [hr]; simp
  obtain ⟨_, o, ho, _⟩ := mem_ready.1 hi
  obtain ⟨_, o', ho', _⟩ := mem_ready.1 hj
  exact wpAnyH_ready hr (by simp) (AllReadyH.cons ho (h1 o ho) (AllReadyH.cons ho' (h2 o' ho') AllReadyH.nil))
theorem cont_call (i d : Nat) {f : FuncId} {args : Array Value} {R : Value → World → Prop} (hd : (ops[i]?).map (·.dst) = some (some d)) (hz : d < a.tmps.size)
    (hy : ∀ o, ops[i]? = some o → Region.wanted o (yielded ops a.tmps) = true ∧ (execOp a.eval o).run P w = .ok (.enter f args) w)
    (hc : Calls P f args w fun e w' => ∃ v, e = .returned v ∧ R v w') (hS : ∀ v w', R v w' → S w')
    (h : ∀ (v : Value) (w' : World) (a' : Act), R v w' → Fr d v a a' → wpAnyH P .any ops Q S fuel (listed.setIfInBounds i true) a' w') : Cont P ops Q S fuel listed a w i := by
  intro o ho K hK
  obtain ⟨h1, h2⟩ := hy o ho
  rw [if_pos h1]
  unfold Oper.wp
  rw [h2, Oper.upon_enter]
  refine hc.mono ?_
  rintro e w' ⟨v, rfl, hR⟩
  show K (a.put o.dst v) w'
  rw [dst_of hd ho]
  exact hK.out _ _ (hS v w' hR) (fun _ => h v w' _ hR (fr_put hz))
theorem heldL_one (i : Nat) (hr : Region.ready .any ops listed = [i]) (h1 : Cont P ops Q S fuel listed a w i) : wpAnyH P .any ops Q S (fuel + 1) listed a w := by
  have hi : i ∈ Region.ready .any ops listed := by rw [hr]; simp
  obtain ⟨_, o, ho, _⟩ := mem_ready.1 hi
  exact wpAnyH_ready hr (by simp) (AllReadyH.cons ho (h1 o ho) AllReadyH.nil)
theorem heldL_three (i j k : Nat) (hr : Region.ready .any ops listed = [i, j, k]) (h1 : Cont P ops Q S fuel listed a w i) (h2 : Cont P ops Q S fuel listed a w j) (h3 : Cont P ops Q S fuel listed a w k) : wpAnyH P .any ops Q S (fuel + 1) listed a w := by
  have hi : i ∈ Region.ready .any ops listed := by rw [hr]; simp
  have hj : j ∈ Region.ready .any ops listed := by rw [hr]; simp
  have hk : k ∈ Region.ready .any ops listed := by rw [hr]; simp
  obtain ⟨_, o, ho, _⟩ := mem_ready.1 hi
  obtain ⟨_, o', ho', _⟩ := mem_ready.1 hj
  obtain ⟨_, o'', ho'', _⟩ := mem_ready.1 hk
  exact wpAnyH_ready hr (by simp) (AllReadyH.cons ho (h1 o ho) (AllReadyH.cons ho' (h2 o' ho') (AllReadyH.cons ho'' (h3 o'' ho'') AllReadyH.nil)))
end
end Go.Proofs.YtfliehkmncbpnaaGreatDoor
