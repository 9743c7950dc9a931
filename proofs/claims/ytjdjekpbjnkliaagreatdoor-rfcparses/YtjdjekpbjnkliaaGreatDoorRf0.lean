/-
  Steps over a frame that is a letter: behind each operation the frame is a letter again, with what it holds as facts.
-/
import Derived.Test.YtjdjekpbjnkliaaGreatDoorWn
import Derived.Test.YtjdjekpbjnkliaaGreatDoorW4
import Derived.Lib.Join
import Derived.Lib.ItoaMem
import Derived.Lib.SmallJoins
import Derived.Shelf.Strconv.Itoa3
namespace Go.Proofs.YtjdjekpbjnkliaaGreatDoor
open Go.RowKit
structure Fr (d : Nat) (v : Value) (a a' : Act) : Prop where
  z : a'.tmps.size = a.tmps.size
  s : a'.tmps.getD d undef = v
  n : ∀ k, k ≠ d → a'.tmps.getD k undef = a.tmps.getD k undef
  e : a'.defers = a.defers
theorem fr_put {a : Act} {d : Nat} {v : Value} (h : d < a.tmps.size) : Fr d v a (a.put (some d) v) :=
  ⟨put_size, put_get h, fun _ hk => put_ne (Ne.symm hk), rfl⟩
section
variable {P : Program} {ops : Array Oper} {Q : Exit → Act → World → Prop} {S : World → Prop} {fuel : Nat} {listed : Array Bool} {a : Act} {w w' : World} {v : Value}
theorem dst_of {i : Nat} {o : Oper} {x : Option Tmp} (hd : (ops[i]?).map (·.dst) = some x) (ho : ops[i]? = some o) : o.dst = x := by
  rw [ho] at hd; simpa using hd
theorem some_of {i : Nat} {x : Option Tmp} (hd : (ops[i]?).map (·.dst) = some x) : ∃ o, ops[i]? = some o := by
  cases ho : ops[i]? with
  | none => rw [ho] at hd; cases hd
  | some o => exact ⟨o, rfl⟩
theorem opL (i d : Nat) {rest : List Nat} (hd : (ops[i]?).map (·.dst) = some (some d)) (hz : d < a.tmps.size)
    (hy : ∀ o, ops[i]? = some o → Region.wanted o (yielded ops a.tmps) = true ∧ (execOp a.eval o).run P w = .ok (.value v) w')
    (h : ∀ a' : Act, Fr d v a a' → wpOps P ops Q rest a' w') : wpOps P ops Q (i :: rest) a w := by
  obtain ⟨o, ho⟩ := some_of hd
  obtain ⟨h1, h2⟩ := hy o ho
  rw [wpOps_cons]
  simp only [wpOp, ho, h1, if_true]
  left
  unfold Oper.wp
  rw [h2, Oper.upon_value, dst_of hd ho]
  exact h _ (fr_put hz)
theorem opL_not (i d : Nat) {rest : List Nat} (hd : (ops[i]?).map (·.dst) = some (some d)) (hz : d < a.tmps.size)
    (hy : ∀ o, ops[i]? = some o → Region.wanted o (yielded ops a.tmps) = false)
    (h : ∀ a' : Act, Fr d undef a a' → wpOps P ops Q rest a' w) : wpOps P ops Q (i :: rest) a w := by
  obtain ⟨o, ho⟩ := some_of hd
  rw [wpOps_cons]
  simp only [wpOp, ho, hy o ho]
  rw [dst_of hd ho]
  exact h _ (fr_put hz)
theorem opL_store (i : Nat) {rest : List Nat} (hd : (ops[i]?).map (·.dst) = some none)
    (hy : ∀ o, ops[i]? = some o → Region.wanted o (yielded ops a.tmps) = true ∧ (execOp a.eval o).run P w = .ok .skip w')
    (h : wpOps P ops Q rest a w') : wpOps P ops Q (i :: rest) a w := by
  obtain ⟨o, ho⟩ := some_of hd
  obtain ⟨h1, h2⟩ := hy o ho
  rw [wpOps_cons]
  simp only [wpOp, ho, h1, if_true]
  left
  unfold Oper.wp
  rw [h2, Oper.upon_skip, dst_of hd ho]
  exact h
theorem opL_call (i d : Nat) {rest : List Nat} {f : FuncId} {args : Array Value} {R : Value → World → Prop} (hd : (ops[i]?).map (·.dst) = some (some d)) (hz : d < a.tmps.size)
    (hy : ∀ o, ops[i]? = some o → Region.wanted o (yielded ops a.tmps) = true ∧ (execOp a.eval o).run P w = .ok (.enter f args) w)
    (hc : Calls P f args w fun e w' => ∃ v, e = .returned v ∧ R v w')
    (h : ∀ (v : Value) (w' : World) (a' : Act), R v w' → Fr d v a a' → wpOps P ops Q rest a' w') : wpOps P ops Q (i :: rest) a w := by
  obtain ⟨o, ho⟩ := some_of hd
  obtain ⟨h1, h2⟩ := hy o ho
  rw [wpOps_cons]
  simp only [wpOp, ho, h1, if_true]
  left
  unfold Oper.wp
  rw [h2, Oper.upon_enter]
  refine hc.mono ?_
  rintro e w' ⟨v, rfl, hR⟩
  show wpOps P ops Q rest (a.put o.dst v) w'
  rw [dst_of hd ho]
  exact h v w' _ hR (fr_put hz)
theorem heldL (i d : Nat) (hQ : Blind Q) (hd : (ops[i]?).map (·.dst) = some (some d)) (hz : d < a.tmps.size) (hs : Region.noSelect ops = true) (hf : Region.free .any ops listed i = true)
    (hr : (Region.ready .any ops listed).contains i = true) (hS : S w)
    (hy : ∀ o, ops[i]? = some o → (Region.wanted o (yielded ops a.tmps) = true ∧ ∀ w, S w → (execOp a.eval o).run P w = .ok (.value v) w) ∨ (Region.wanted o (yielded ops a.tmps) = false ∧ v = undef))
    (h : ∀ a' : Act, Fr d v a a' → wpAnyH P .any ops Q S fuel (listed.setIfInBounds i true) a' w) : wpAnyH P .any ops Q S (fuel + 1) listed a w :=
  step_take i d hQ hd hs hf hr hS hy (h _ (fr_put hz))
theorem heldL_do (i d : Nat) (hr : Region.ready .any ops listed = [i]) (hd : (ops[i]?).map (·.dst) = some (some d)) (hz : d < a.tmps.size)
    (hy : ∀ o, ops[i]? = some o → Region.wanted o (yielded ops a.tmps) = true ∧ (execOp a.eval o).run P w = .ok (.value v) w') (hS : S w')
    (h : ∀ a' : Act, Fr d v a a' → wpAnyH P .any ops Q S fuel (listed.setIfInBounds i true) a' w') : wpAnyH P .any ops Q S (fuel + 1) listed a w := by
  refine step_do i hr ?_
  intro o ho K hK
  obtain ⟨h1, h2⟩ := hy o ho
  rw [if_pos h1]
  unfold Oper.wp
  rw [h2, Oper.upon_value, dst_of hd ho]
  exact hK.out _ _ hS (fun _ => h _ (fr_put hz))
theorem heldL_store (i : Nat) (hr : Region.ready .any ops listed = [i]) (hd : (ops[i]?).map (·.dst) = some none)
    (hy : ∀ o, ops[i]? = some o → Region.wanted o (yielded ops a.tmps) = true ∧ (execOp a.eval o).run P w = .ok .skip w') (hS : S w')
    (h : wpAnyH P .any ops Q S fuel (listed.setIfInBounds i true) a w') : wpAnyH P .any ops Q S (fuel + 1) listed a w := by
  refine step_do i hr ?_
  intro o ho K hK
  obtain ⟨h1, h2⟩ := hy o ho
  rw [if_pos h1]
  unfold Oper.wp
  rw [h2, Oper.upon_skip, dst_of hd ho]
  exact hK.out _ _ hS (fun _ => h)
theorem heldL_call (i d : Nat) {f : FuncId} {args : Array Value} {R : Value → World → Prop} (hr : Region.ready .any ops listed = [i]) (hd : (ops[i]?).map (·.dst) = some (some d)) (hz : d < a.tmps.size)
    (hy : ∀ o, ops[i]? = some o → Region.wanted o (yielded ops a.tmps) = true ∧ (execOp a.eval o).run P w = .ok (.enter f args) w)
    (hc : Calls P f args w fun e w' => ∃ v, e = .returned v ∧ R v w') (hS : ∀ v w', R v w' → S w')
    (h : ∀ (v : Value) (w' : World) (a' : Act), R v w' → Fr d v a a' → wpAnyH P .any ops Q S fuel (listed.setIfInBounds i true) a' w') : wpAnyH P .any ops Q S (fuel + 1) listed a w := by
  refine step_do i hr ?_
  intro o ho K hK
  obtain ⟨h1, h2⟩ := hy o ho
  rw [if_pos h1]
  unfold Oper.wp
  rw [h2, Oper.upon_enter]
  refine hc.mono ?_
  rintro e w' ⟨v, rfl, hR⟩
  show K (a.put o.dst v) w'
  rw [dst_of hd ho]
  exact hK.out _ _ (hS v w' hR) (fun _ => h v w' _ hR (fr_put hz))
end
/-! one line behind an operation: what the frame held, it holds; squeeze.py wrote these -/
theorem frY {x : Oper} {u : Oper → Bool} {b : Bool} {R : Oper → Prop} (e : u x = b) (h : R x) : ∀ o, some x = some o → u o = b ∧ R o := by rintro o ⟨⟩; exact ⟨e, h⟩
theorem frZ {x n d : Nat} (h : x = n) (e : Nat.ble (d + 1) n = true := by rfl) : d < x := by subst h; exact Nat.le_of_ble_eq_true e
theorem frA {k d : Nat} {r : Bool} (h : (Nat.beq k d || r) = false) : k ≠ d := by rintro rfl; simp at h
theorem frB {k : Bool} {r : Bool} (h : (k || r) = false) : r = false := by cases k <;> simp_all
theorem frM1 {a : Act} {d z k0 : Nat} {v x0 : Value} {y : List Deferred} {G : Act → Prop} (g : ∀ b : Act, b.tmps.size = z → b.defers = y → b.tmps.getD k0 undef = x0 → b.tmps.getD d undef = v → G b) (e : (Nat.beq k0 d || false) = false := by rfl) : a.tmps.size = z → a.defers = y → a.tmps.getD k0 undef = x0 → ∀ b, Fr d v a b → G b := by
  intro hs hd h0 b F
  have e0 := frA e; replace e := frB e
  exact g b (F.z.trans hs) (F.e.trans hd) ((F.n _ e0).trans h0) F.s
theorem frN1 {a : Act} {d z k0 : Nat} {v x0 : Value} {y : List Deferred} {G : Act → Prop} (hs : a.tmps.size = z) (hd : a.defers = y) (h0 : a.tmps.getD k0 undef = x0) (g : ∀ b : Act, b.tmps.size = z → b.defers = y → b.tmps.getD k0 undef = x0 → b.tmps.getD d undef = v → G b) (e : (Nat.beq k0 d || false) = false := by rfl) : ∀ b, Fr d v a b → G b := frM1 g e hs hd h0
theorem frM2 {a : Act} {d z k0 k1 : Nat} {v x0 x1 : Value} {y : List Deferred} {G : Act → Prop} (g : ∀ b : Act, b.tmps.size = z → b.defers = y → b.tmps.getD k0 undef = x0 → b.tmps.getD k1 undef = x1 → b.tmps.getD d undef = v → G b) (e : (Nat.beq k0 d || (Nat.beq k1 d || false)) = false := by rfl) : a.tmps.size = z → a.defers = y → a.tmps.getD k0 undef = x0 → a.tmps.getD k1 undef = x1 → ∀ b, Fr d v a b → G b := by
  intro hs hd h0 h1 b F
  have e0 := frA e; replace e := frB e
  have e1 := frA e; replace e := frB e
  exact g b (F.z.trans hs) (F.e.trans hd) ((F.n _ e0).trans h0) ((F.n _ e1).trans h1) F.s
theorem frN2 {a : Act} {d z k0 k1 : Nat} {v x0 x1 : Value} {y : List Deferred} {G : Act → Prop} (hs : a.tmps.size = z) (hd : a.defers = y) (h0 : a.tmps.getD k0 undef = x0) (h1 : a.tmps.getD k1 undef = x1) (g : ∀ b : Act, b.tmps.size = z → b.defers = y → b.tmps.getD k0 undef = x0 → b.tmps.getD k1 undef = x1 → b.tmps.getD d undef = v → G b) (e : (Nat.beq k0 d || (Nat.beq k1 d || false)) = false := by rfl) : ∀ b, Fr d v a b → G b := frM2 g e hs hd h0 h1
theorem frM3 {a : Act} {d z k0 k1 k2 : Nat} {v x0 x1 x2 : Value} {y : List Deferred} {G : Act → Prop} (g : ∀ b : Act, b.tmps.size = z → b.defers = y → b.tmps.getD k0 undef = x0 → b.tmps.getD k1 undef = x1 → b.tmps.getD k2 undef = x2 → b.tmps.getD d undef = v → G b) (e : (Nat.beq k0 d || (Nat.beq k1 d || (Nat.beq k2 d || false))) = false := by rfl) : a.tmps.size = z → a.defers = y → a.tmps.getD k0 undef = x0 → a.tmps.getD k1 undef = x1 → a.tmps.getD k2 undef = x2 → ∀ b, Fr d v a b → G b := by
  intro hs hd h0 h1 h2 b F
  have e0 := frA e; replace e := frB e
  have e1 := frA e; replace e := frB e
  have e2 := frA e; replace e := frB e
  exact g b (F.z.trans hs) (F.e.trans hd) ((F.n _ e0).trans h0) ((F.n _ e1).trans h1) ((F.n _ e2).trans h2) F.s
theorem frN3 {a : Act} {d z k0 k1 k2 : Nat} {v x0 x1 x2 : Value} {y : List Deferred} {G : Act → Prop} (hs : a.tmps.size = z) (hd : a.defers = y) (h0 : a.tmps.getD k0 undef = x0) (h1 : a.tmps.getD k1 undef = x1) (h2 : a.tmps.getD k2 undef = x2) (g : ∀ b : Act, b.tmps.size = z → b.defers = y → b.tmps.getD k0 undef = x0 → b.tmps.getD k1 undef = x1 → b.tmps.getD k2 undef = x2 → b.tmps.getD d undef = v → G b) (e : (Nat.beq k0 d || (Nat.beq k1 d || (Nat.beq k2 d || false))) = false := by rfl) : ∀ b, Fr d v a b → G b := frM3 g e hs hd h0 h1 h2
theorem frM4 {a : Act} {d z k0 k1 k2 k3 : Nat} {v x0 x1 x2 x3 : Value} {y : List Deferred} {G : Act → Prop} (g : ∀ b : Act, b.tmps.size = z → b.defers = y → b.tmps.getD k0 undef = x0 → b.tmps.getD k1 undef = x1 → b.tmps.getD k2 undef = x2 → b.tmps.getD k3 undef = x3 → b.tmps.getD d undef = v → G b) (e : (Nat.beq k0 d || (Nat.beq k1 d || (Nat.beq k2 d || (Nat.beq k3 d || false)))) = false := by rfl) : a.tmps.size = z → a.defers = y → a.tmps.getD k0 undef = x0 → a.tmps.getD k1 undef = x1 → a.tmps.getD k2 undef = x2 → a.tmps.getD k3 undef = x3 → ∀ b, Fr d v a b → G b := by
  intro hs hd h0 h1 h2 h3 b F
  have e0 := frA e; replace e := frB e
  have e1 := frA e; replace e := frB e
  have e2 := frA e; replace e := frB e
  have e3 := frA e; replace e := frB e
  exact g b (F.z.trans hs) (F.e.trans hd) ((F.n _ e0).trans h0) ((F.n _ e1).trans h1) ((F.n _ e2).trans h2) ((F.n _ e3).trans h3) F.s
theorem frN4 {a : Act} {d z k0 k1 k2 k3 : Nat} {v x0 x1 x2 x3 : Value} {y : List Deferred} {G : Act → Prop} (hs : a.tmps.size = z) (hd : a.defers = y) (h0 : a.tmps.getD k0 undef = x0) (h1 : a.tmps.getD k1 undef = x1) (h2 : a.tmps.getD k2 undef = x2) (h3 : a.tmps.getD k3 undef = x3) (g : ∀ b : Act, b.tmps.size = z → b.defers = y → b.tmps.getD k0 undef = x0 → b.tmps.getD k1 undef = x1 → b.tmps.getD k2 undef = x2 → b.tmps.getD k3 undef = x3 → b.tmps.getD d undef = v → G b) (e : (Nat.beq k0 d || (Nat.beq k1 d || (Nat.beq k2 d || (Nat.beq k3 d || false)))) = false := by rfl) : ∀ b, Fr d v a b → G b := frM4 g e hs hd h0 h1 h2 h3
theorem frM5 {a : Act} {d z k0 k1 k2 k3 k4 : Nat} {v x0 x1 x2 x3 x4 : Value} {y : List Deferred} {G : Act → Prop} (g : ∀ b : Act, b.tmps.size = z → b.defers = y → b.tmps.getD k0 undef = x0 → b.tmps.getD k1 undef = x1 → b.tmps.getD k2 undef = x2 → b.tmps.getD k3 undef = x3 → b.tmps.getD k4 undef = x4 → b.tmps.getD d undef = v → G b) (e : (Nat.beq k0 d || (Nat.beq k1 d || (Nat.beq k2 d || (Nat.beq k3 d || (Nat.beq k4 d || false))))) = false := by rfl) : a.tmps.size = z → a.defers = y → a.tmps.getD k0 undef = x0 → a.tmps.getD k1 undef = x1 → a.tmps.getD k2 undef = x2 → a.tmps.getD k3 undef = x3 → a.tmps.getD k4 undef = x4 → ∀ b, Fr d v a b → G b := by
  intro hs hd h0 h1 h2 h3 h4 b F
  have e0 := frA e; replace e := frB e
  have e1 := frA e; replace e := frB e
  have e2 := frA e; replace e := frB e
  have e3 := frA e; replace e := frB e
  have e4 := frA e; replace e := frB e
  exact g b (F.z.trans hs) (F.e.trans hd) ((F.n _ e0).trans h0) ((F.n _ e1).trans h1) ((F.n _ e2).trans h2) ((F.n _ e3).trans h3) ((F.n _ e4).trans h4) F.s
theorem frN5 {a : Act} {d z k0 k1 k2 k3 k4 : Nat} {v x0 x1 x2 x3 x4 : Value} {y : List Deferred} {G : Act → Prop} (hs : a.tmps.size = z) (hd : a.defers = y) (h0 : a.tmps.getD k0 undef = x0) (h1 : a.tmps.getD k1 undef = x1) (h2 : a.tmps.getD k2 undef = x2) (h3 : a.tmps.getD k3 undef = x3) (h4 : a.tmps.getD k4 undef = x4) (g : ∀ b : Act, b.tmps.size = z → b.defers = y → b.tmps.getD k0 undef = x0 → b.tmps.getD k1 undef = x1 → b.tmps.getD k2 undef = x2 → b.tmps.getD k3 undef = x3 → b.tmps.getD k4 undef = x4 → b.tmps.getD d undef = v → G b) (e : (Nat.beq k0 d || (Nat.beq k1 d || (Nat.beq k2 d || (Nat.beq k3 d || (Nat.beq k4 d || false))))) = false := by rfl) : ∀ b, Fr d v a b → G b := frM5 g e hs hd h0 h1 h2 h3 h4
theorem frM6 {a : Act} {d z k0 k1 k2 k3 k4 k5 : Nat} {v x0 x1 x2 x3 x4 x5 : Value} {y : List Deferred} {G : Act → Prop} (g : ∀ b : Act, b.tmps.size = z → b.defers = y → b.tmps.getD k0 undef = x0 → b.tmps.getD k1 undef = x1 → b.tmps.getD k2 undef = x2 → b.tmps.getD k3 undef = x3 → b.tmps.getD k4 undef = x4 → b.tmps.getD k5 undef = x5 → b.tmps.getD d undef = v → G b) (e : (Nat.beq k0 d || (Nat.beq k1 d || (Nat.beq k2 d || (Nat.beq k3 d || (Nat.beq k4 d || (Nat.beq k5 d || false)))))) = false := by rfl) : a.tmps.size = z → a.defers = y → a.tmps.getD k0 undef = x0 → a.tmps.getD k1 undef = x1 → a.tmps.getD k2 undef = x2 → a.tmps.getD k3 undef = x3 → a.tmps.getD k4 undef = x4 → a.tmps.getD k5 undef = x5 → ∀ b, Fr d v a b → G b := by
  intro hs hd h0 h1 h2 h3 h4 h5 b F
  have e0 := frA e; replace e := frB e
  have e1 := frA e; replace e := frB e
  have e2 := frA e; replace e := frB e
  have e3 := frA e; replace e := frB e
  have e4 := frA e; replace e := frB e
  have e5 := frA e; replace e := frB e
  exact g b (F.z.trans hs) (F.e.trans hd) ((F.n _ e0).trans h0) ((F.n _ e1).trans h1) ((F.n _ e2).trans h2) ((F.n _ e3).trans h3) ((F.n _ e4).trans h4) ((F.n _ e5).trans h5) F.s
theorem frN6 {a : Act} {d z k0 k1 k2 k3 k4 k5 : Nat} {v x0 x1 x2 x3 x4 x5 : Value} {y : List Deferred} {G : Act → Prop} (hs : a.tmps.size = z) (hd : a.defers = y) (h0 : a.tmps.getD k0 undef = x0) (h1 : a.tmps.getD k1 undef = x1) (h2 : a.tmps.getD k2 undef = x2) (h3 : a.tmps.getD k3 undef = x3) (h4 : a.tmps.getD k4 undef = x4) (h5 : a.tmps.getD k5 undef = x5) (g : ∀ b : Act, b.tmps.size = z → b.defers = y → b.tmps.getD k0 undef = x0 → b.tmps.getD k1 undef = x1 → b.tmps.getD k2 undef = x2 → b.tmps.getD k3 undef = x3 → b.tmps.getD k4 undef = x4 → b.tmps.getD k5 undef = x5 → b.tmps.getD d undef = v → G b) (e : (Nat.beq k0 d || (Nat.beq k1 d || (Nat.beq k2 d || (Nat.beq k3 d || (Nat.beq k4 d || (Nat.beq k5 d || false)))))) = false := by rfl) : ∀ b, Fr d v a b → G b := frM6 g e hs hd h0 h1 h2 h3 h4 h5
theorem frM7 {a : Act} {d z k0 k1 k2 k3 k4 k5 k6 : Nat} {v x0 x1 x2 x3 x4 x5 x6 : Value} {y : List Deferred} {G : Act → Prop} (g : ∀ b : Act, b.tmps.size = z → b.defers = y → b.tmps.getD k0 undef = x0 → b.tmps.getD k1 undef = x1 → b.tmps.getD k2 undef = x2 → b.tmps.getD k3 undef = x3 → b.tmps.getD k4 undef = x4 → b.tmps.getD k5 undef = x5 → b.tmps.getD k6 undef = x6 → b.tmps.getD d undef = v → G b) (e : (Nat.beq k0 d || (Nat.beq k1 d || (Nat.beq k2 d || (Nat.beq k3 d || (Nat.beq k4 d || (Nat.beq k5 d || (Nat.beq k6 d || false))))))) = false := by rfl) : a.tmps.size = z → a.defers = y → a.tmps.getD k0 undef = x0 → a.tmps.getD k1 undef = x1 → a.tmps.getD k2 undef = x2 → a.tmps.getD k3 undef = x3 → a.tmps.getD k4 undef = x4 → a.tmps.getD k5 undef = x5 → a.tmps.getD k6 undef = x6 → ∀ b, Fr d v a b → G b := by
  intro hs hd h0 h1 h2 h3 h4 h5 h6 b F
  have e0 := frA e; replace e := frB e
  have e1 := frA e; replace e := frB e
  have e2 := frA e; replace e := frB e
  have e3 := frA e; replace e := frB e
  have e4 := frA e; replace e := frB e
  have e5 := frA e; replace e := frB e
  have e6 := frA e; replace e := frB e
  exact g b (F.z.trans hs) (F.e.trans hd) ((F.n _ e0).trans h0) ((F.n _ e1).trans h1) ((F.n _ e2).trans h2) ((F.n _ e3).trans h3) ((F.n _ e4).trans h4) ((F.n _ e5).trans h5) ((F.n _ e6).trans h6) F.s
theorem frN7 {a : Act} {d z k0 k1 k2 k3 k4 k5 k6 : Nat} {v x0 x1 x2 x3 x4 x5 x6 : Value} {y : List Deferred} {G : Act → Prop} (hs : a.tmps.size = z) (hd : a.defers = y) (h0 : a.tmps.getD k0 undef = x0) (h1 : a.tmps.getD k1 undef = x1) (h2 : a.tmps.getD k2 undef = x2) (h3 : a.tmps.getD k3 undef = x3) (h4 : a.tmps.getD k4 undef = x4) (h5 : a.tmps.getD k5 undef = x5) (h6 : a.tmps.getD k6 undef = x6) (g : ∀ b : Act, b.tmps.size = z → b.defers = y → b.tmps.getD k0 undef = x0 → b.tmps.getD k1 undef = x1 → b.tmps.getD k2 undef = x2 → b.tmps.getD k3 undef = x3 → b.tmps.getD k4 undef = x4 → b.tmps.getD k5 undef = x5 → b.tmps.getD k6 undef = x6 → b.tmps.getD d undef = v → G b) (e : (Nat.beq k0 d || (Nat.beq k1 d || (Nat.beq k2 d || (Nat.beq k3 d || (Nat.beq k4 d || (Nat.beq k5 d || (Nat.beq k6 d || false))))))) = false := by rfl) : ∀ b, Fr d v a b → G b := frM7 g e hs hd h0 h1 h2 h3 h4 h5 h6
theorem frM8 {a : Act} {d z k0 k1 k2 k3 k4 k5 k6 k7 : Nat} {v x0 x1 x2 x3 x4 x5 x6 x7 : Value} {y : List Deferred} {G : Act → Prop} (g : ∀ b : Act, b.tmps.size = z → b.defers = y → b.tmps.getD k0 undef = x0 → b.tmps.getD k1 undef = x1 → b.tmps.getD k2 undef = x2 → b.tmps.getD k3 undef = x3 → b.tmps.getD k4 undef = x4 → b.tmps.getD k5 undef = x5 → b.tmps.getD k6 undef = x6 → b.tmps.getD k7 undef = x7 → b.tmps.getD d undef = v → G b) (e : (Nat.beq k0 d || (Nat.beq k1 d || (Nat.beq k2 d || (Nat.beq k3 d || (Nat.beq k4 d || (Nat.beq k5 d || (Nat.beq k6 d || (Nat.beq k7 d || false)))))))) = false := by rfl) : a.tmps.size = z → a.defers = y → a.tmps.getD k0 undef = x0 → a.tmps.getD k1 undef = x1 → a.tmps.getD k2 undef = x2 → a.tmps.getD k3 undef = x3 → a.tmps.getD k4 undef = x4 → a.tmps.getD k5 undef = x5 → a.tmps.getD k6 undef = x6 → a.tmps.getD k7 undef = x7 → ∀ b, Fr d v a b → G b := by
  intro hs hd h0 h1 h2 h3 h4 h5 h6 h7 b F
  have e0 := frA e; replace e := frB e
  have e1 := frA e; replace e := frB e
  have e2 := frA e; replace e := frB e
  have e3 := frA e; replace e := frB e
  have e4 := frA e; replace e := frB e
  have e5 := frA e; replace e := frB e
  have e6 := frA e; replace e := frB e
  have e7 := frA e; replace e := frB e
  exact g b (F.z.trans hs) (F.e.trans hd) ((F.n _ e0).trans h0) ((F.n _ e1).trans h1) ((F.n _ e2).trans h2) ((F.n _ e3).trans h3) ((F.n _ e4).trans h4) ((F.n _ e5).trans h5) ((F.n _ e6).trans h6) ((F.n _ e7).trans h7) F.s
theorem frN8 {a : Act} {d z k0 k1 k2 k3 k4 k5 k6 k7 : Nat} {v x0 x1 x2 x3 x4 x5 x6 x7 : Value} {y : List Deferred} {G : Act → Prop} (hs : a.tmps.size = z) (hd : a.defers = y) (h0 : a.tmps.getD k0 undef = x0) (h1 : a.tmps.getD k1 undef = x1) (h2 : a.tmps.getD k2 undef = x2) (h3 : a.tmps.getD k3 undef = x3) (h4 : a.tmps.getD k4 undef = x4) (h5 : a.tmps.getD k5 undef = x5) (h6 : a.tmps.getD k6 undef = x6) (h7 : a.tmps.getD k7 undef = x7) (g : ∀ b : Act, b.tmps.size = z → b.defers = y → b.tmps.getD k0 undef = x0 → b.tmps.getD k1 undef = x1 → b.tmps.getD k2 undef = x2 → b.tmps.getD k3 undef = x3 → b.tmps.getD k4 undef = x4 → b.tmps.getD k5 undef = x5 → b.tmps.getD k6 undef = x6 → b.tmps.getD k7 undef = x7 → b.tmps.getD d undef = v → G b) (e : (Nat.beq k0 d || (Nat.beq k1 d || (Nat.beq k2 d || (Nat.beq k3 d || (Nat.beq k4 d || (Nat.beq k5 d || (Nat.beq k6 d || (Nat.beq k7 d || false)))))))) = false := by rfl) : ∀ b, Fr d v a b → G b := frM8 g e hs hd h0 h1 h2 h3 h4 h5 h6 h7
theorem frM9 {a : Act} {d z k0 k1 k2 k3 k4 k5 k6 k7 k8 : Nat} {v x0 x1 x2 x3 x4 x5 x6 x7 x8 : Value} {y : List Deferred} {G : Act → Prop} (g : ∀ b : Act, b.tmps.size = z → b.defers = y → b.tmps.getD k0 undef = x0 → b.tmps.getD k1 undef = x1 → b.tmps.getD k2 undef = x2 → b.tmps.getD k3 undef = x3 → b.tmps.getD k4 undef = x4 → b.tmps.getD k5 undef = x5 → b.tmps.getD k6 undef = x6 → b.tmps.getD k7 undef = x7 → b.tmps.getD k8 undef = x8 → b.tmps.getD d undef = v → G b) (e : (Nat.beq k0 d || (Nat.beq k1 d || (Nat.beq k2 d || (Nat.beq k3 d || (Nat.beq k4 d || (Nat.beq k5 d || (Nat.beq k6 d || (Nat.beq k7 d || (Nat.beq k8 d || false))))))))) = false := by rfl) : a.tmps.size = z → a.defers = y → a.tmps.getD k0 undef = x0 → a.tmps.getD k1 undef = x1 → a.tmps.getD k2 undef = x2 → a.tmps.getD k3 undef = x3 → a.tmps.getD k4 undef = x4 → a.tmps.getD k5 undef = x5 → a.tmps.getD k6 undef = x6 → a.tmps.getD k7 undef = x7 → a.tmps.getD k8 undef = x8 → ∀ b, Fr d v a b → G b := by
  intro hs hd h0 h1 h2 h3 h4 h5 h6 h7 h8 b F
  have e0 := frA e; replace e := frB e
  have e1 := frA e; replace e := frB e
  have e2 := frA e; replace e := frB e
  have e3 := frA e; replace e := frB e
  have e4 := frA e; replace e := frB e
  have e5 := frA e; replace e := frB e
  have e6 := frA e; replace e := frB e
  have e7 := frA e; replace e := frB e
  have e8 := frA e; replace e := frB e
  exact g b (F.z.trans hs) (F.e.trans hd) ((F.n _ e0).trans h0) ((F.n _ e1).trans h1) ((F.n _ e2).trans h2) ((F.n _ e3).trans h3) ((F.n _ e4).trans h4) ((F.n _ e5).trans h5) ((F.n _ e6).trans h6) ((F.n _ e7).trans h7) ((F.n _ e8).trans h8) F.s
theorem frN9 {a : Act} {d z k0 k1 k2 k3 k4 k5 k6 k7 k8 : Nat} {v x0 x1 x2 x3 x4 x5 x6 x7 x8 : Value} {y : List Deferred} {G : Act → Prop} (hs : a.tmps.size = z) (hd : a.defers = y) (h0 : a.tmps.getD k0 undef = x0) (h1 : a.tmps.getD k1 undef = x1) (h2 : a.tmps.getD k2 undef = x2) (h3 : a.tmps.getD k3 undef = x3) (h4 : a.tmps.getD k4 undef = x4) (h5 : a.tmps.getD k5 undef = x5) (h6 : a.tmps.getD k6 undef = x6) (h7 : a.tmps.getD k7 undef = x7) (h8 : a.tmps.getD k8 undef = x8) (g : ∀ b : Act, b.tmps.size = z → b.defers = y → b.tmps.getD k0 undef = x0 → b.tmps.getD k1 undef = x1 → b.tmps.getD k2 undef = x2 → b.tmps.getD k3 undef = x3 → b.tmps.getD k4 undef = x4 → b.tmps.getD k5 undef = x5 → b.tmps.getD k6 undef = x6 → b.tmps.getD k7 undef = x7 → b.tmps.getD k8 undef = x8 → b.tmps.getD d undef = v → G b) (e : (Nat.beq k0 d || (Nat.beq k1 d || (Nat.beq k2 d || (Nat.beq k3 d || (Nat.beq k4 d || (Nat.beq k5 d || (Nat.beq k6 d || (Nat.beq k7 d || (Nat.beq k8 d || false))))))))) = false := by rfl) : ∀ b, Fr d v a b → G b := frM9 g e hs hd h0 h1 h2 h3 h4 h5 h6 h7 h8
theorem frM10 {a : Act} {d z k0 k1 k2 k3 k4 k5 k6 k7 k8 k9 : Nat} {v x0 x1 x2 x3 x4 x5 x6 x7 x8 x9 : Value} {y : List Deferred} {G : Act → Prop} (g : ∀ b : Act, b.tmps.size = z → b.defers = y → b.tmps.getD k0 undef = x0 → b.tmps.getD k1 undef = x1 → b.tmps.getD k2 undef = x2 → b.tmps.getD k3 undef = x3 → b.tmps.getD k4 undef = x4 → b.tmps.getD k5 undef = x5 → b.tmps.getD k6 undef = x6 → b.tmps.getD k7 undef = x7 → b.tmps.getD k8 undef = x8 → b.tmps.getD k9 undef = x9 → b.tmps.getD d undef = v → G b) (e : (Nat.beq k0 d || (Nat.beq k1 d || (Nat.beq k2 d || (Nat.beq k3 d || (Nat.beq k4 d || (Nat.beq k5 d || (Nat.beq k6 d || (Nat.beq k7 d || (Nat.beq k8 d || (Nat.beq k9 d || false)))))))))) = false := by rfl) : a.tmps.size = z → a.defers = y → a.tmps.getD k0 undef = x0 → a.tmps.getD k1 undef = x1 → a.tmps.getD k2 undef = x2 → a.tmps.getD k3 undef = x3 → a.tmps.getD k4 undef = x4 → a.tmps.getD k5 undef = x5 → a.tmps.getD k6 undef = x6 → a.tmps.getD k7 undef = x7 → a.tmps.getD k8 undef = x8 → a.tmps.getD k9 undef = x9 → ∀ b, Fr d v a b → G b := by
  intro hs hd h0 h1 h2 h3 h4 h5 h6 h7 h8 h9 b F
  have e0 := frA e; replace e := frB e
  have e1 := frA e; replace e := frB e
  have e2 := frA e; replace e := frB e
  have e3 := frA e; replace e := frB e
  have e4 := frA e; replace e := frB e
  have e5 := frA e; replace e := frB e
  have e6 := frA e; replace e := frB e
  have e7 := frA e; replace e := frB e
  have e8 := frA e; replace e := frB e
  have e9 := frA e; replace e := frB e
  exact g b (F.z.trans hs) (F.e.trans hd) ((F.n _ e0).trans h0) ((F.n _ e1).trans h1) ((F.n _ e2).trans h2) ((F.n _ e3).trans h3) ((F.n _ e4).trans h4) ((F.n _ e5).trans h5) ((F.n _ e6).trans h6) ((F.n _ e7).trans h7) ((F.n _ e8).trans h8) ((F.n _ e9).trans h9) F.s
theorem frN10 {a : Act} {d z k0 k1 k2 k3 k4 k5 k6 k7 k8 k9 : Nat} {v x0 x1 x2 x3 x4 x5 x6 x7 x8 x9 : Value} {y : List Deferred} {G : Act → Prop} (hs : a.tmps.size = z) (hd : a.defers = y) (h0 : a.tmps.getD k0 undef = x0) (h1 : a.tmps.getD k1 undef = x1) (h2 : a.tmps.getD k2 undef = x2) (h3 : a.tmps.getD k3 undef = x3) (h4 : a.tmps.getD k4 undef = x4) (h5 : a.tmps.getD k5 undef = x5) (h6 : a.tmps.getD k6 undef = x6) (h7 : a.tmps.getD k7 undef = x7) (h8 : a.tmps.getD k8 undef = x8) (h9 : a.tmps.getD k9 undef = x9) (g : ∀ b : Act, b.tmps.size = z → b.defers = y → b.tmps.getD k0 undef = x0 → b.tmps.getD k1 undef = x1 → b.tmps.getD k2 undef = x2 → b.tmps.getD k3 undef = x3 → b.tmps.getD k4 undef = x4 → b.tmps.getD k5 undef = x5 → b.tmps.getD k6 undef = x6 → b.tmps.getD k7 undef = x7 → b.tmps.getD k8 undef = x8 → b.tmps.getD k9 undef = x9 → b.tmps.getD d undef = v → G b) (e : (Nat.beq k0 d || (Nat.beq k1 d || (Nat.beq k2 d || (Nat.beq k3 d || (Nat.beq k4 d || (Nat.beq k5 d || (Nat.beq k6 d || (Nat.beq k7 d || (Nat.beq k8 d || (Nat.beq k9 d || false)))))))))) = false := by rfl) : ∀ b, Fr d v a b → G b := frM10 g e hs hd h0 h1 h2 h3 h4 h5 h6 h7 h8 h9
theorem frM11 {a : Act} {d z k0 k1 k2 k3 k4 k5 k6 k7 k8 k9 k10 : Nat} {v x0 x1 x2 x3 x4 x5 x6 x7 x8 x9 x10 : Value} {y : List Deferred} {G : Act → Prop} (g : ∀ b : Act, b.tmps.size = z → b.defers = y → b.tmps.getD k0 undef = x0 → b.tmps.getD k1 undef = x1 → b.tmps.getD k2 undef = x2 → b.tmps.getD k3 undef = x3 → b.tmps.getD k4 undef = x4 → b.tmps.getD k5 undef = x5 → b.tmps.getD k6 undef = x6 → b.tmps.getD k7 undef = x7 → b.tmps.getD k8 undef = x8 → b.tmps.getD k9 undef = x9 → b.tmps.getD k10 undef = x10 → b.tmps.getD d undef = v → G b) (e : (Nat.beq k0 d || (Nat.beq k1 d || (Nat.beq k2 d || (Nat.beq k3 d || (Nat.beq k4 d || (Nat.beq k5 d || (Nat.beq k6 d || (Nat.beq k7 d || (Nat.beq k8 d || (Nat.beq k9 d || (Nat.beq k10 d || false))))))))))) = false := by rfl) : a.tmps.size = z → a.defers = y → a.tmps.getD k0 undef = x0 → a.tmps.getD k1 undef = x1 → a.tmps.getD k2 undef = x2 → a.tmps.getD k3 undef = x3 → a.tmps.getD k4 undef = x4 → a.tmps.getD k5 undef = x5 → a.tmps.getD k6 undef = x6 → a.tmps.getD k7 undef = x7 → a.tmps.getD k8 undef = x8 → a.tmps.getD k9 undef = x9 → a.tmps.getD k10 undef = x10 → ∀ b, Fr d v a b → G b := by
  intro hs hd h0 h1 h2 h3 h4 h5 h6 h7 h8 h9 h10 b F
  have e0 := frA e; replace e := frB e
  have e1 := frA e; replace e := frB e
  have e2 := frA e; replace e := frB e
  have e3 := frA e; replace e := frB e
  have e4 := frA e; replace e := frB e
  have e5 := frA e; replace e := frB e
  have e6 := frA e; replace e := frB e
  have e7 := frA e; replace e := frB e
  have e8 := frA e; replace e := frB e
  have e9 := frA e; replace e := frB e
  have e10 := frA e; replace e := frB e
  exact g b (F.z.trans hs) (F.e.trans hd) ((F.n _ e0).trans h0) ((F.n _ e1).trans h1) ((F.n _ e2).trans h2) ((F.n _ e3).trans h3) ((F.n _ e4).trans h4) ((F.n _ e5).trans h5) ((F.n _ e6).trans h6) ((F.n _ e7).trans h7) ((F.n _ e8).trans h8) ((F.n _ e9).trans h9) ((F.n _ e10).trans h10) F.s
theorem frN11 {a : Act} {d z k0 k1 k2 k3 k4 k5 k6 k7 k8 k9 k10 : Nat} {v x0 x1 x2 x3 x4 x5 x6 x7 x8 x9 x10 : Value} {y : List Deferred} {G : Act → Prop} (hs : a.tmps.size = z) (hd : a.defers = y) (h0 : a.tmps.getD k0 undef = x0) (h1 : a.tmps.getD k1 undef = x1) (h2 : a.tmps.getD k2 undef = x2) (h3 : a.tmps.getD k3 undef = x3) (h4 : a.tmps.getD k4 undef = x4) (h5 : a.tmps.getD k5 undef = x5) (h6 : a.tmps.getD k6 undef = x6) (h7 : a.tmps.getD k7 undef = x7) (h8 : a.tmps.getD k8 undef = x8) (h9 : a.tmps.getD k9 undef = x9) (h10 : a.tmps.getD k10 undef = x10) (g : ∀ b : Act, b.tmps.size = z → b.defers = y → b.tmps.getD k0 undef = x0 → b.tmps.getD k1 undef = x1 → b.tmps.getD k2 undef = x2 → b.tmps.getD k3 undef = x3 → b.tmps.getD k4 undef = x4 → b.tmps.getD k5 undef = x5 → b.tmps.getD k6 undef = x6 → b.tmps.getD k7 undef = x7 → b.tmps.getD k8 undef = x8 → b.tmps.getD k9 undef = x9 → b.tmps.getD k10 undef = x10 → b.tmps.getD d undef = v → G b) (e : (Nat.beq k0 d || (Nat.beq k1 d || (Nat.beq k2 d || (Nat.beq k3 d || (Nat.beq k4 d || (Nat.beq k5 d || (Nat.beq k6 d || (Nat.beq k7 d || (Nat.beq k8 d || (Nat.beq k9 d || (Nat.beq k10 d || false))))))))))) = false := by rfl) : ∀ b, Fr d v a b → G b := frM11 g e hs hd h0 h1 h2 h3 h4 h5 h6 h7 h8 h9 h10
theorem frM12 {a : Act} {d z k0 k1 k2 k3 k4 k5 k6 k7 k8 k9 k10 k11 : Nat} {v x0 x1 x2 x3 x4 x5 x6 x7 x8 x9 x10 x11 : Value} {y : List Deferred} {G : Act → Prop} (g : ∀ b : Act, b.tmps.size = z → b.defers = y → b.tmps.getD k0 undef = x0 → b.tmps.getD k1 undef = x1 → b.tmps.getD k2 undef = x2 → b.tmps.getD k3 undef = x3 → b.tmps.getD k4 undef = x4 → b.tmps.getD k5 undef = x5 → b.tmps.getD k6 undef = x6 → b.tmps.getD k7 undef = x7 → b.tmps.getD k8 undef = x8 → b.tmps.getD k9 undef = x9 → b.tmps.getD k10 undef = x10 → b.tmps.getD k11 undef = x11 → b.tmps.getD d undef = v → G b) (e : (Nat.beq k0 d || (Nat.beq k1 d || (Nat.beq k2 d || (Nat.beq k3 d || (Nat.beq k4 d || (Nat.beq k5 d || (Nat.beq k6 d || (Nat.beq k7 d || (Nat.beq k8 d || (Nat.beq k9 d || (Nat.beq k10 d || (Nat.beq k11 d || false)))))))))))) = false := by rfl) : a.tmps.size = z → a.defers = y → a.tmps.getD k0 undef = x0 → a.tmps.getD k1 undef = x1 → a.tmps.getD k2 undef = x2 → a.tmps.getD k3 undef = x3 → a.tmps.getD k4 undef = x4 → a.tmps.getD k5 undef = x5 → a.tmps.getD k6 undef = x6 → a.tmps.getD k7 undef = x7 → a.tmps.getD k8 undef = x8 → a.tmps.getD k9 undef = x9 → a.tmps.getD k10 undef = x10 → a.tmps.getD k11 undef = x11 → ∀ b, Fr d v a b → G b := by
  intro hs hd h0 h1 h2 h3 h4 h5 h6 h7 h8 h9 h10 h11 b F
  have e0 := frA e; replace e := frB e
  have e1 := frA e; replace e := frB e
  have e2 := frA e; replace e := frB e
  have e3 := frA e; replace e := frB e
  have e4 := frA e; replace e := frB e
  have e5 := frA e; replace e := frB e
  have e6 := frA e; replace e := frB e
  have e7 := frA e; replace e := frB e
  have e8 := frA e; replace e := frB e
  have e9 := frA e; replace e := frB e
  have e10 := frA e; replace e := frB e
  have e11 := frA e; replace e := frB e
  exact g b (F.z.trans hs) (F.e.trans hd) ((F.n _ e0).trans h0) ((F.n _ e1).trans h1) ((F.n _ e2).trans h2) ((F.n _ e3).trans h3) ((F.n _ e4).trans h4) ((F.n _ e5).trans h5) ((F.n _ e6).trans h6) ((F.n _ e7).trans h7) ((F.n _ e8).trans h8) ((F.n _ e9).trans h9) ((F.n _ e10).trans h10) ((F.n _ e11).trans h11) F.s
theorem frN12 {a : Act} {d z k0 k1 k2 k3 k4 k5 k6 k7 k8 k9 k10 k11 : Nat} {v x0 x1 x2 x3 x4 x5 x6 x7 x8 x9 x10 x11 : Value} {y : List Deferred} {G : Act → Prop} (hs : a.tmps.size = z) (hd : a.defers = y) (h0 : a.tmps.getD k0 undef = x0) (h1 : a.tmps.getD k1 undef = x1) (h2 : a.tmps.getD k2 undef = x2) (h3 : a.tmps.getD k3 undef = x3) (h4 : a.tmps.getD k4 undef = x4) (h5 : a.tmps.getD k5 undef = x5) (h6 : a.tmps.getD k6 undef = x6) (h7 : a.tmps.getD k7 undef = x7) (h8 : a.tmps.getD k8 undef = x8) (h9 : a.tmps.getD k9 undef = x9) (h10 : a.tmps.getD k10 undef = x10) (h11 : a.tmps.getD k11 undef = x11) (g : ∀ b : Act, b.tmps.size = z → b.defers = y → b.tmps.getD k0 undef = x0 → b.tmps.getD k1 undef = x1 → b.tmps.getD k2 undef = x2 → b.tmps.getD k3 undef = x3 → b.tmps.getD k4 undef = x4 → b.tmps.getD k5 undef = x5 → b.tmps.getD k6 undef = x6 → b.tmps.getD k7 undef = x7 → b.tmps.getD k8 undef = x8 → b.tmps.getD k9 undef = x9 → b.tmps.getD k10 undef = x10 → b.tmps.getD k11 undef = x11 → b.tmps.getD d undef = v → G b) (e : (Nat.beq k0 d || (Nat.beq k1 d || (Nat.beq k2 d || (Nat.beq k3 d || (Nat.beq k4 d || (Nat.beq k5 d || (Nat.beq k6 d || (Nat.beq k7 d || (Nat.beq k8 d || (Nat.beq k9 d || (Nat.beq k10 d || (Nat.beq k11 d || false)))))))))))) = false := by rfl) : ∀ b, Fr d v a b → G b := frM12 g e hs hd h0 h1 h2 h3 h4 h5 h6 h7 h8 h9 h10 h11
theorem frM13 {a : Act} {d z k0 k1 k2 k3 k4 k5 k6 k7 k8 k9 k10 k11 k12 : Nat} {v x0 x1 x2 x3 x4 x5 x6 x7 x8 x9 x10 x11 x12 : Value} {y : List Deferred} {G : Act → Prop} (g : ∀ b : Act, b.tmps.size = z → b.defers = y → b.tmps.getD k0 undef = x0 → b.tmps.getD k1 undef = x1 → b.tmps.getD k2 undef = x2 → b.tmps.getD k3 undef = x3 → b.tmps.getD k4 undef = x4 → b.tmps.getD k5 undef = x5 → b.tmps.getD k6 undef = x6 → b.tmps.getD k7 undef = x7 → b.tmps.getD k8 undef = x8 → b.tmps.getD k9 undef = x9 → b.tmps.getD k10 undef = x10 → b.tmps.getD k11 undef = x11 → b.tmps.getD k12 undef = x12 → b.tmps.getD d undef = v → G b) (e : (Nat.beq k0 d || (Nat.beq k1 d || (Nat.beq k2 d || (Nat.beq k3 d || (Nat.beq k4 d || (Nat.beq k5 d || (Nat.beq k6 d || (Nat.beq k7 d || (Nat.beq k8 d || (Nat.beq k9 d || (Nat.beq k10 d || (Nat.beq k11 d || (Nat.beq k12 d || false))))))))))))) = false := by rfl) : a.tmps.size = z → a.defers = y → a.tmps.getD k0 undef = x0 → a.tmps.getD k1 undef = x1 → a.tmps.getD k2 undef = x2 → a.tmps.getD k3 undef = x3 → a.tmps.getD k4 undef = x4 → a.tmps.getD k5 undef = x5 → a.tmps.getD k6 undef = x6 → a.tmps.getD k7 undef = x7 → a.tmps.getD k8 undef = x8 → a.tmps.getD k9 undef = x9 → a.tmps.getD k10 undef = x10 → a.tmps.getD k11 undef = x11 → a.tmps.getD k12 undef = x12 → ∀ b, Fr d v a b → G b := by
  intro hs hd h0 h1 h2 h3 h4 h5 h6 h7 h8 h9 h10 h11 h12 b F
  have e0 := frA e; replace e := frB e
  have e1 := frA e; replace e := frB e
  have e2 := frA e; replace e := frB e
  have e3 := frA e; replace e := frB e
  have e4 := frA e; replace e := frB e
  have e5 := frA e; replace e := frB e
  have e6 := frA e; replace e := frB e
  have e7 := frA e; replace e := frB e
  have e8 := frA e; replace e := frB e
  have e9 := frA e; replace e := frB e
  have e10 := frA e; replace e := frB e
  have e11 := frA e; replace e := frB e
  have e12 := frA e; replace e := frB e
  exact g b (F.z.trans hs) (F.e.trans hd) ((F.n _ e0).trans h0) ((F.n _ e1).trans h1) ((F.n _ e2).trans h2) ((F.n _ e3).trans h3) ((F.n _ e4).trans h4) ((F.n _ e5).trans h5) ((F.n _ e6).trans h6) ((F.n _ e7).trans h7) ((F.n _ e8).trans h8) ((F.n _ e9).trans h9) ((F.n _ e10).trans h10) ((F.n _ e11).trans h11) ((F.n _ e12).trans h12) F.s
theorem frN13 {a : Act} {d z k0 k1 k2 k3 k4 k5 k6 k7 k8 k9 k10 k11 k12 : Nat} {v x0 x1 x2 x3 x4 x5 x6 x7 x8 x9 x10 x11 x12 : Value} {y : List Deferred} {G : Act → Prop} (hs : a.tmps.size = z) (hd : a.defers = y) (h0 : a.tmps.getD k0 undef = x0) (h1 : a.tmps.getD k1 undef = x1) (h2 : a.tmps.getD k2 undef = x2) (h3 : a.tmps.getD k3 undef = x3) (h4 : a.tmps.getD k4 undef = x4) (h5 : a.tmps.getD k5 undef = x5) (h6 : a.tmps.getD k6 undef = x6) (h7 : a.tmps.getD k7 undef = x7) (h8 : a.tmps.getD k8 undef = x8) (h9 : a.tmps.getD k9 undef = x9) (h10 : a.tmps.getD k10 undef = x10) (h11 : a.tmps.getD k11 undef = x11) (h12 : a.tmps.getD k12 undef = x12) (g : ∀ b : Act, b.tmps.size = z → b.defers = y → b.tmps.getD k0 undef = x0 → b.tmps.getD k1 undef = x1 → b.tmps.getD k2 undef = x2 → b.tmps.getD k3 undef = x3 → b.tmps.getD k4 undef = x4 → b.tmps.getD k5 undef = x5 → b.tmps.getD k6 undef = x6 → b.tmps.getD k7 undef = x7 → b.tmps.getD k8 undef = x8 → b.tmps.getD k9 undef = x9 → b.tmps.getD k10 undef = x10 → b.tmps.getD k11 undef = x11 → b.tmps.getD k12 undef = x12 → b.tmps.getD d undef = v → G b) (e : (Nat.beq k0 d || (Nat.beq k1 d || (Nat.beq k2 d || (Nat.beq k3 d || (Nat.beq k4 d || (Nat.beq k5 d || (Nat.beq k6 d || (Nat.beq k7 d || (Nat.beq k8 d || (Nat.beq k9 d || (Nat.beq k10 d || (Nat.beq k11 d || (Nat.beq k12 d || false))))))))))))) = false := by rfl) : ∀ b, Fr d v a b → G b := frM13 g e hs hd h0 h1 h2 h3 h4 h5 h6 h7 h8 h9 h10 h11 h12
theorem frM14 {a : Act} {d z k0 k1 k2 k3 k4 k5 k6 k7 k8 k9 k10 k11 k12 k13 : Nat} {v x0 x1 x2 x3 x4 x5 x6 x7 x8 x9 x10 x11 x12 x13 : Value} {y : List Deferred} {G : Act → Prop} (g : ∀ b : Act, b.tmps.size = z → b.defers = y → b.tmps.getD k0 undef = x0 → b.tmps.getD k1 undef = x1 → b.tmps.getD k2 undef = x2 → b.tmps.getD k3 undef = x3 → b.tmps.getD k4 undef = x4 → b.tmps.getD k5 undef = x5 → b.tmps.getD k6 undef = x6 → b.tmps.getD k7 undef = x7 → b.tmps.getD k8 undef = x8 → b.tmps.getD k9 undef = x9 → b.tmps.getD k10 undef = x10 → b.tmps.getD k11 undef = x11 → b.tmps.getD k12 undef = x12 → b.tmps.getD k13 undef = x13 → b.tmps.getD d undef = v → G b) (e : (Nat.beq k0 d || (Nat.beq k1 d || (Nat.beq k2 d || (Nat.beq k3 d || (Nat.beq k4 d || (Nat.beq k5 d || (Nat.beq k6 d || (Nat.beq k7 d || (Nat.beq k8 d || (Nat.beq k9 d || (Nat.beq k10 d || (Nat.beq k11 d || (Nat.beq k12 d || (Nat.beq k13 d || false)))))))))))))) = false := by rfl) : a.tmps.size = z → a.defers = y → a.tmps.getD k0 undef = x0 → a.tmps.getD k1 undef = x1 → a.tmps.getD k2 undef = x2 → a.tmps.getD k3 undef = x3 → a.tmps.getD k4 undef = x4 → a.tmps.getD k5 undef = x5 → a.tmps.getD k6 undef = x6 → a.tmps.getD k7 undef = x7 → a.tmps.getD k8 undef = x8 → a.tmps.getD k9 undef = x9 → a.tmps.getD k10 undef = x10 → a.tmps.getD k11 undef = x11 → a.tmps.getD k12 undef = x12 → a.tmps.getD k13 undef = x13 → ∀ b, Fr d v a b → G b := by
  intro hs hd h0 h1 h2 h3 h4 h5 h6 h7 h8 h9 h10 h11 h12 h13 b F
  have e0 := frA e; replace e := frB e
  have e1 := frA e; replace e := frB e
  have e2 := frA e; replace e := frB e
  have e3 := frA e; replace e := frB e
  have e4 := frA e; replace e := frB e
  have e5 := frA e; replace e := frB e
  have e6 := frA e; replace e := frB e
  have e7 := frA e; replace e := frB e
  have e8 := frA e; replace e := frB e
  have e9 := frA e; replace e := frB e
  have e10 := frA e; replace e := frB e
  have e11 := frA e; replace e := frB e
  have e12 := frA e; replace e := frB e
  have e13 := frA e; replace e := frB e
  exact g b (F.z.trans hs) (F.e.trans hd) ((F.n _ e0).trans h0) ((F.n _ e1).trans h1) ((F.n _ e2).trans h2) ((F.n _ e3).trans h3) ((F.n _ e4).trans h4) ((F.n _ e5).trans h5) ((F.n _ e6).trans h6) ((F.n _ e7).trans h7) ((F.n _ e8).trans h8) ((F.n _ e9).trans h9) ((F.n _ e10).trans h10) ((F.n _ e11).trans h11) ((F.n _ e12).trans h12) ((F.n _ e13).trans h13) F.s
theorem frN14 {a : Act} {d z k0 k1 k2 k3 k4 k5 k6 k7 k8 k9 k10 k11 k12 k13 : Nat} {v x0 x1 x2 x3 x4 x5 x6 x7 x8 x9 x10 x11 x12 x13 : Value} {y : List Deferred} {G : Act → Prop} (hs : a.tmps.size = z) (hd : a.defers = y) (h0 : a.tmps.getD k0 undef = x0) (h1 : a.tmps.getD k1 undef = x1) (h2 : a.tmps.getD k2 undef = x2) (h3 : a.tmps.getD k3 undef = x3) (h4 : a.tmps.getD k4 undef = x4) (h5 : a.tmps.getD k5 undef = x5) (h6 : a.tmps.getD k6 undef = x6) (h7 : a.tmps.getD k7 undef = x7) (h8 : a.tmps.getD k8 undef = x8) (h9 : a.tmps.getD k9 undef = x9) (h10 : a.tmps.getD k10 undef = x10) (h11 : a.tmps.getD k11 undef = x11) (h12 : a.tmps.getD k12 undef = x12) (h13 : a.tmps.getD k13 undef = x13) (g : ∀ b : Act, b.tmps.size = z → b.defers = y → b.tmps.getD k0 undef = x0 → b.tmps.getD k1 undef = x1 → b.tmps.getD k2 undef = x2 → b.tmps.getD k3 undef = x3 → b.tmps.getD k4 undef = x4 → b.tmps.getD k5 undef = x5 → b.tmps.getD k6 undef = x6 → b.tmps.getD k7 undef = x7 → b.tmps.getD k8 undef = x8 → b.tmps.getD k9 undef = x9 → b.tmps.getD k10 undef = x10 → b.tmps.getD k11 undef = x11 → b.tmps.getD k12 undef = x12 → b.tmps.getD k13 undef = x13 → b.tmps.getD d undef = v → G b) (e : (Nat.beq k0 d || (Nat.beq k1 d || (Nat.beq k2 d || (Nat.beq k3 d || (Nat.beq k4 d || (Nat.beq k5 d || (Nat.beq k6 d || (Nat.beq k7 d || (Nat.beq k8 d || (Nat.beq k9 d || (Nat.beq k10 d || (Nat.beq k11 d || (Nat.beq k12 d || (Nat.beq k13 d || false)))))))))))))) = false := by rfl) : ∀ b, Fr d v a b → G b := frM14 g e hs hd h0 h1 h2 h3 h4 h5 h6 h7 h8 h9 h10 h11 h12 h13
theorem frM15 {a : Act} {d z k0 k1 k2 k3 k4 k5 k6 k7 k8 k9 k10 k11 k12 k13 k14 : Nat} {v x0 x1 x2 x3 x4 x5 x6 x7 x8 x9 x10 x11 x12 x13 x14 : Value} {y : List Deferred} {G : Act → Prop} (g : ∀ b : Act, b.tmps.size = z → b.defers = y → b.tmps.getD k0 undef = x0 → b.tmps.getD k1 undef = x1 → b.tmps.getD k2 undef = x2 → b.tmps.getD k3 undef = x3 → b.tmps.getD k4 undef = x4 → b.tmps.getD k5 undef = x5 → b.tmps.getD k6 undef = x6 → b.tmps.getD k7 undef = x7 → b.tmps.getD k8 undef = x8 → b.tmps.getD k9 undef = x9 → b.tmps.getD k10 undef = x10 → b.tmps.getD k11 undef = x11 → b.tmps.getD k12 undef = x12 → b.tmps.getD k13 undef = x13 → b.tmps.getD k14 undef = x14 → b.tmps.getD d undef = v → G b) (e : (Nat.beq k0 d || (Nat.beq k1 d || (Nat.beq k2 d || (Nat.beq k3 d || (Nat.beq k4 d || (Nat.beq k5 d || (Nat.beq k6 d || (Nat.beq k7 d || (Nat.beq k8 d || (Nat.beq k9 d || (Nat.beq k10 d || (Nat.beq k11 d || (Nat.beq k12 d || (Nat.beq k13 d || (Nat.beq k14 d || false))))))))))))))) = false := by rfl) : a.tmps.size = z → a.defers = y → a.tmps.getD k0 undef = x0 → a.tmps.getD k1 undef = x1 → a.tmps.getD k2 undef = x2 → a.tmps.getD k3 undef = x3 → a.tmps.getD k4 undef = x4 → a.tmps.getD k5 undef = x5 → a.tmps.getD k6 undef = x6 → a.tmps.getD k7 undef = x7 → a.tmps.getD k8 undef = x8 → a.tmps.getD k9 undef = x9 → a.tmps.getD k10 undef = x10 → a.tmps.getD k11 undef = x11 → a.tmps.getD k12 undef = x12 → a.tmps.getD k13 undef = x13 → a.tmps.getD k14 undef = x14 → ∀ b, Fr d v a b → G b := by
  intro hs hd h0 h1 h2 h3 h4 h5 h6 h7 h8 h9 h10 h11 h12 h13 h14 b F
  have e0 := frA e; replace e := frB e
  have e1 := frA e; replace e := frB e
  have e2 := frA e; replace e := frB e
  have e3 := frA e; replace e := frB e
  have e4 := frA e; replace e := frB e
  have e5 := frA e; replace e := frB e
  have e6 := frA e; replace e := frB e
  have e7 := frA e; replace e := frB e
  have e8 := frA e; replace e := frB e
  have e9 := frA e; replace e := frB e
  have e10 := frA e; replace e := frB e
  have e11 := frA e; replace e := frB e
  have e12 := frA e; replace e := frB e
  have e13 := frA e; replace e := frB e
  have e14 := frA e; replace e := frB e
  exact g b (F.z.trans hs) (F.e.trans hd) ((F.n _ e0).trans h0) ((F.n _ e1).trans h1) ((F.n _ e2).trans h2) ((F.n _ e3).trans h3) ((F.n _ e4).trans h4) ((F.n _ e5).trans h5) ((F.n _ e6).trans h6) ((F.n _ e7).trans h7) ((F.n _ e8).trans h8) ((F.n _ e9).trans h9) ((F.n _ e10).trans h10) ((F.n _ e11).trans h11) ((F.n _ e12).trans h12) ((F.n _ e13).trans h13) ((F.n _ e14).trans h14) F.s
theorem frN15 {a : Act} {d z k0 k1 k2 k3 k4 k5 k6 k7 k8 k9 k10 k11 k12 k13 k14 : Nat} {v x0 x1 x2 x3 x4 x5 x6 x7 x8 x9 x10 x11 x12 x13 x14 : Value} {y : List Deferred} {G : Act → Prop} (hs : a.tmps.size = z) (hd : a.defers = y) (h0 : a.tmps.getD k0 undef = x0) (h1 : a.tmps.getD k1 undef = x1) (h2 : a.tmps.getD k2 undef = x2) (h3 : a.tmps.getD k3 undef = x3) (h4 : a.tmps.getD k4 undef = x4) (h5 : a.tmps.getD k5 undef = x5) (h6 : a.tmps.getD k6 undef = x6) (h7 : a.tmps.getD k7 undef = x7) (h8 : a.tmps.getD k8 undef = x8) (h9 : a.tmps.getD k9 undef = x9) (h10 : a.tmps.getD k10 undef = x10) (h11 : a.tmps.getD k11 undef = x11) (h12 : a.tmps.getD k12 undef = x12) (h13 : a.tmps.getD k13 undef = x13) (h14 : a.tmps.getD k14 undef = x14) (g : ∀ b : Act, b.tmps.size = z → b.defers = y → b.tmps.getD k0 undef = x0 → b.tmps.getD k1 undef = x1 → b.tmps.getD k2 undef = x2 → b.tmps.getD k3 undef = x3 → b.tmps.getD k4 undef = x4 → b.tmps.getD k5 undef = x5 → b.tmps.getD k6 undef = x6 → b.tmps.getD k7 undef = x7 → b.tmps.getD k8 undef = x8 → b.tmps.getD k9 undef = x9 → b.tmps.getD k10 undef = x10 → b.tmps.getD k11 undef = x11 → b.tmps.getD k12 undef = x12 → b.tmps.getD k13 undef = x13 → b.tmps.getD k14 undef = x14 → b.tmps.getD d undef = v → G b) (e : (Nat.beq k0 d || (Nat.beq k1 d || (Nat.beq k2 d || (Nat.beq k3 d || (Nat.beq k4 d || (Nat.beq k5 d || (Nat.beq k6 d || (Nat.beq k7 d || (Nat.beq k8 d || (Nat.beq k9 d || (Nat.beq k10 d || (Nat.beq k11 d || (Nat.beq k12 d || (Nat.beq k13 d || (Nat.beq k14 d || false))))))))))))))) = false := by rfl) : ∀ b, Fr d v a b → G b := frM15 g e hs hd h0 h1 h2 h3 h4 h5 h6 h7 h8 h9 h10 h11 h12 h13 h14
theorem frM16 {a : Act} {d z k0 k1 k2 k3 k4 k5 k6 k7 k8 k9 k10 k11 k12 k13 k14 k15 : Nat} {v x0 x1 x2 x3 x4 x5 x6 x7 x8 x9 x10 x11 x12 x13 x14 x15 : Value} {y : List Deferred} {G : Act → Prop} (g : ∀ b : Act, b.tmps.size = z → b.defers = y → b.tmps.getD k0 undef = x0 → b.tmps.getD k1 undef = x1 → b.tmps.getD k2 undef = x2 → b.tmps.getD k3 undef = x3 → b.tmps.getD k4 undef = x4 → b.tmps.getD k5 undef = x5 → b.tmps.getD k6 undef = x6 → b.tmps.getD k7 undef = x7 → b.tmps.getD k8 undef = x8 → b.tmps.getD k9 undef = x9 → b.tmps.getD k10 undef = x10 → b.tmps.getD k11 undef = x11 → b.tmps.getD k12 undef = x12 → b.tmps.getD k13 undef = x13 → b.tmps.getD k14 undef = x14 → b.tmps.getD k15 undef = x15 → b.tmps.getD d undef = v → G b) (e : (Nat.beq k0 d || (Nat.beq k1 d || (Nat.beq k2 d || (Nat.beq k3 d || (Nat.beq k4 d || (Nat.beq k5 d || (Nat.beq k6 d || (Nat.beq k7 d || (Nat.beq k8 d || (Nat.beq k9 d || (Nat.beq k10 d || (Nat.beq k11 d || (Nat.beq k12 d || (Nat.beq k13 d || (Nat.beq k14 d || (Nat.beq k15 d || false)))))))))))))))) = false := by rfl) : a.tmps.size = z → a.defers = y → a.tmps.getD k0 undef = x0 → a.tmps.getD k1 undef = x1 → a.tmps.getD k2 undef = x2 → a.tmps.getD k3 undef = x3 → a.tmps.getD k4 undef = x4 → a.tmps.getD k5 undef = x5 → a.tmps.getD k6 undef = x6 → a.tmps.getD k7 undef = x7 → a.tmps.getD k8 undef = x8 → a.tmps.getD k9 undef = x9 → a.tmps.getD k10 undef = x10 → a.tmps.getD k11 undef = x11 → a.tmps.getD k12 undef = x12 → a.tmps.getD k13 undef = x13 → a.tmps.getD k14 undef = x14 → a.tmps.getD k15 undef = x15 → ∀ b, Fr d v a b → G b := by
  intro hs hd h0 h1 h2 h3 h4 h5 h6 h7 h8 h9 h10 h11 h12 h13 h14 h15 b F
  have e0 := frA e; replace e := frB e
  have e1 := frA e; replace e := frB e
  have e2 := frA e; replace e := frB e
  have e3 := frA e; replace e := frB e
  have e4 := frA e; replace e := frB e
  have e5 := frA e; replace e := frB e
  have e6 := frA e; replace e := frB e
  have e7 := frA e; replace e := frB e
  have e8 := frA e; replace e := frB e
  have e9 := frA e; replace e := frB e
  have e10 := frA e; replace e := frB e
  have e11 := frA e; replace e := frB e
  have e12 := frA e; replace e := frB e
  have e13 := frA e; replace e := frB e
  have e14 := frA e; replace e := frB e
  have e15 := frA e; replace e := frB e
  exact g b (F.z.trans hs) (F.e.trans hd) ((F.n _ e0).trans h0) ((F.n _ e1).trans h1) ((F.n _ e2).trans h2) ((F.n _ e3).trans h3) ((F.n _ e4).trans h4) ((F.n _ e5).trans h5) ((F.n _ e6).trans h6) ((F.n _ e7).trans h7) ((F.n _ e8).trans h8) ((F.n _ e9).trans h9) ((F.n _ e10).trans h10) ((F.n _ e11).trans h11) ((F.n _ e12).trans h12) ((F.n _ e13).trans h13) ((F.n _ e14).trans h14) ((F.n _ e15).trans h15) F.s
theorem frN16 {a : Act} {d z k0 k1 k2 k3 k4 k5 k6 k7 k8 k9 k10 k11 k12 k13 k14 k15 : Nat} {v x0 x1 x2 x3 x4 x5 x6 x7 x8 x9 x10 x11 x12 x13 x14 x15 : Value} {y : List Deferred} {G : Act → Prop} (hs : a.tmps.size = z) (hd : a.defers = y) (h0 : a.tmps.getD k0 undef = x0) (h1 : a.tmps.getD k1 undef = x1) (h2 : a.tmps.getD k2 undef = x2) (h3 : a.tmps.getD k3 undef = x3) (h4 : a.tmps.getD k4 undef = x4) (h5 : a.tmps.getD k5 undef = x5) (h6 : a.tmps.getD k6 undef = x6) (h7 : a.tmps.getD k7 undef = x7) (h8 : a.tmps.getD k8 undef = x8) (h9 : a.tmps.getD k9 undef = x9) (h10 : a.tmps.getD k10 undef = x10) (h11 : a.tmps.getD k11 undef = x11) (h12 : a.tmps.getD k12 undef = x12) (h13 : a.tmps.getD k13 undef = x13) (h14 : a.tmps.getD k14 undef = x14) (h15 : a.tmps.getD k15 undef = x15) (g : ∀ b : Act, b.tmps.size = z → b.defers = y → b.tmps.getD k0 undef = x0 → b.tmps.getD k1 undef = x1 → b.tmps.getD k2 undef = x2 → b.tmps.getD k3 undef = x3 → b.tmps.getD k4 undef = x4 → b.tmps.getD k5 undef = x5 → b.tmps.getD k6 undef = x6 → b.tmps.getD k7 undef = x7 → b.tmps.getD k8 undef = x8 → b.tmps.getD k9 undef = x9 → b.tmps.getD k10 undef = x10 → b.tmps.getD k11 undef = x11 → b.tmps.getD k12 undef = x12 → b.tmps.getD k13 undef = x13 → b.tmps.getD k14 undef = x14 → b.tmps.getD k15 undef = x15 → b.tmps.getD d undef = v → G b) (e : (Nat.beq k0 d || (Nat.beq k1 d || (Nat.beq k2 d || (Nat.beq k3 d || (Nat.beq k4 d || (Nat.beq k5 d || (Nat.beq k6 d || (Nat.beq k7 d || (Nat.beq k8 d || (Nat.beq k9 d || (Nat.beq k10 d || (Nat.beq k11 d || (Nat.beq k12 d || (Nat.beq k13 d || (Nat.beq k14 d || (Nat.beq k15 d || false)))))))))))))))) = false := by rfl) : ∀ b, Fr d v a b → G b := frM16 g e hs hd h0 h1 h2 h3 h4 h5 h6 h7 h8 h9 h10 h11 h12 h13 h14 h15
structure RuleAt (w : World) (b : Nat) (f iv c u : Int) (sM sD sW sP : Value) : Prop where
  lt : b < w.heap.size
  c0 : w.cell? ⟨b, 0, none⟩ = some (.int .i64 f)
  c1 : w.cell? ⟨b, 1, none⟩ = some (.int .i64 iv)
  c2 : w.cell? ⟨b, 2, none⟩ = some (.int .i64 c)
  c3 : w.cell? ⟨b, 3, none⟩ = some (.int .i64 u)
  c4 : w.cell? ⟨b, 4, none⟩ = some sM
  c5 : w.cell? ⟨b, 5, none⟩ = some sD
  c6 : w.cell? ⟨b, 6, none⟩ = some sW
  c7 : w.cell? ⟨b, 7, none⟩ = some sP
theorem RuleAt.below {w w' : World} {b : Nat} {f iv c u : Int} {sM sD sW sP : Value} (h : RuleAt w b f iv c u sM sD sW sP) (hb : Below w.heap.size w w') : RuleAt w' b f iv c u sM sD sW sP :=
  ⟨Nat.lt_of_lt_of_le h.lt hb.size, (hb.cell (p := ⟨b, 0, none⟩) h.lt).trans h.c0, (hb.cell (p := ⟨b, 1, none⟩) h.lt).trans h.c1, (hb.cell (p := ⟨b, 2, none⟩) h.lt).trans h.c2, (hb.cell (p := ⟨b, 3, none⟩) h.lt).trans h.c3,
   (hb.cell (p := ⟨b, 4, none⟩) h.lt).trans h.c4, (hb.cell (p := ⟨b, 5, none⟩) h.lt).trans h.c5, (hb.cell (p := ⟨b, 6, none⟩) h.lt).trans h.c6, (hb.cell (p := ⟨b, 7, none⟩) h.lt).trans h.c7⟩
section
variable {w : World} {ρ : Operand → Value} {o : Oper} {x y : Operand} {b : Nat} {v : Value}
theorem k_loadR {f iv c u : Int} {sM sD sW sP : Value} (ho : o.op = .load 28 x) (hx : ρ x = .pointer (some ⟨b, 0, none⟩)) (h : RuleAt w b f iv c u sM sD sW sP) :
    (execOp ρ o).run Tryz.prog w = .ok (.value (.agg #[.int .i64 f, .int .i64 iv, .int .i64 c, .int .i64 u, sM, sD, sW, sP])) w := by
  obtain ⟨-, c0, c1, c2, c3, c4, c5, c6, c7⟩ := h
  simp only [execOp, ho, hx]
  go_simp
theorem k_callCheck (ho : o.op = .call ⟨.value (.func 20), #[x], #[28]⟩) (hf : ρ (.func 20) = .func (.func 20) #[] #[]) (hx : ρ x = v) : (execOp ρ o).run Tryz.prog w = .ok (.enter 20 #[v]) w := by
  simp only [execOp, ho]
  go_simp
theorem k_callLaw (ho : o.op = .call ⟨.value (.func 24), #[x], #[28]⟩) (hf : ρ (.func 24) = .func (.func 24) #[] #[]) (hx : ρ x = v) : (execOp ρ o).run Tryz.prog w = .ok (.enter 24 #[v]) w := by
  simp only [execOp, ho]
  go_simp
theorem k_assign (ho : o.op = .assign x) (hx : ρ x = v) : (execOp ρ o).run Tryz.prog w = .ok (.value v) w := by
  simp only [execOp, ho, hx]; rfl
end
def Blk (w : World) (b : Nat) (t : TypeId) (cs : Array Value) : Prop := w.heap[b]? = some (.cells cs t (0, 0))
theorem Blk.cell {w : World} {b : Nat} {t : TypeId} {cs : Array Value} (h : Blk w b t cs) (i : Nat) : w.cell? ⟨b, i, none⟩ = cs[i]? := cell_of_row _ _ _ _ _ (0, 0) h
theorem Blk.lt {w : World} {b : Nat} {t : TypeId} {cs : Array Value} (h : Blk w b t cs) : b < w.heap.size := (Array.getElem?_eq_some_iff.1 h).1
theorem Blk.alloc (w : World) (t : TypeId) (cs : Array Value) : Blk (w.alloc (.cells cs t)) w.heap.size t cs := heap_alloc_new w _
theorem Blk.frozen {w : World} {b : Nat} {t : TypeId} {cs : Array Value} (h : Blk w b t cs) (i : Nat) : w.frozen? ⟨b, i, none⟩ = false := by
  unfold World.frozen?
  rw [show w.heap[(⟨b, i, none⟩ : Addr).block]? = some (.cells cs t (0, 0)) from h]
  simp
structure Exc (B b : Nat) (w w' : World) : Prop where
  os : w'.os = w.os
  tape : w'.tape = w.tape
  output : w'.output = w.output
  size : w.heap.size ≤ w'.heap.size
  block : ∀ k, k < B → k ≠ b → w'.heap[k]? = w.heap[k]?
theorem Exc.refl (B b : Nat) (w : World) : Exc B b w w := ⟨rfl, rfl, rfl, Nat.le_refl _, fun _ _ _ => rfl⟩
theorem Exc.trans {B b : Nat} {x y z : World} (h : Exc B b x y) (k : Exc B b y z) : Exc B b x z :=
  ⟨k.os.trans h.os, k.tape.trans h.tape, k.output.trans h.output, Nat.le_trans h.size k.size, fun i h1 h2 => (k.block i h1 h2).trans (h.block i h1 h2)⟩
theorem Exc.of {B b : Nat} {x y : World} (h : Below B x y) : Exc B b x y := ⟨h.os, h.tape, h.output, h.size, fun i h1 _ => h.block i h1⟩
theorem Exc.mono {B C b : Nat} {x y : World} (h : Exc C b x y) (hb : B ≤ C) : Exc B b x y := ⟨h.os, h.tape, h.output, h.size, fun i h1 h2 => h.block i (by omega) h2⟩
theorem Exc.below {B b : Nat} {x y : World} (h : Exc B b x y) (hb : B ≤ b) : Below B x y := ⟨h.os, h.tape, h.output, h.size, fun i h1 => h.block i h1 (by omega)⟩
theorem Blk.exc {B c : Nat} {w w' : World} {b : Nat} {t : TypeId} {cs : Array Value} (h : Blk w b t cs) (e : Exc B c w w') (h1 : b < B) (h2 : b ≠ c) : Blk w' b t cs := (e.block b h1 h2).trans h
theorem Blk.below {B : Nat} {w w' : World} {b : Nat} {t : TypeId} {cs : Array Value} (h : Blk w b t cs) (e : Below B w w') (h1 : b < B) : Blk w' b t cs := (e.block b h1).trans h
theorem Blk.set {w : World} {b : Nat} {t : TypeId} {cs : Array Value} (h : Blk w b t cs) (i : Nat) (v : Value) : Blk (w.setCell ⟨b, i, none⟩ v) b t (cs.setIfInBounds i v) := by
  unfold Blk World.setCell
  have hl := h.lt
  unfold Blk at h
  simp only [Array.getElem?_modify]
  rw [h]
  simp
theorem exc_set (w : World) (b i : Nat) (v : Value) (B : Nat) : Exc B b w (w.setCell ⟨b, i, none⟩ v) := by
  refine ⟨rfl, rfl, rfl, by simp [World.setCell], fun k _ h2 => ?_⟩
  simp only [World.setCell, Array.getElem?_modify]
  rw [if_neg (fun e => h2 e.symm)]
theorem exc_grown {w w' : World} {v : Value} {B b : Nat} (h : w.grownBy w' v.ownBlock) (hb : ∀ g, v.ownBlock = some g → B ≤ g) (hB : B ≤ w.heap.size) : Exc B b w w' :=
  ⟨h.os, h.tape, h.output, h.size, fun k h1 _ => h.block k (by omega) (fun e => by have := hb k e.symm; omega)⟩
def OwnI (w : World) (base : Nat) (v : Value) (L : List Int) : Prop := w.ownsRow base 3 1 v L.length (L.map fun x => .int .i64 x)
def OwnN (w : World) (base : Nat) (v : Value) (L : List (Int × Int)) : Prop := w.ownsRow base 50 2 v L.length (L.flatMap fun x => [.int .i64 x.1, .int .i64 x.2])
theorem OwnI.nil (w : World) (base : Nat) : OwnI w base (.slice none 0 0) [] := World.ownsRow_nil w base _ 1
theorem OwnN.nil (w : World) (base : Nat) : OwnN w base (.slice none 0 0) [] := World.ownsRow_nil w base _ 2
theorem OwnI.exc {w w' : World} {base B b : Nat} {v : Value} {L : List Int} (h : OwnI w base v L) (e : Exc B b w w') (h1 : ∀ g, v.ownBlock = some g → g < B ∧ g ≠ b) : OwnI w' base v L := by
  refine ⟨h.1, ?_⟩
  rcases h.2 with hn | ⟨g, cap, cur, rfl, hb, hg, rest⟩
  · exact .inl hn
  · obtain ⟨q1, q2⟩ := h1 g rfl
    exact .inr ⟨g, cap, cur, rfl, hb, (e.block g q1 q2).trans hg, rest⟩
theorem OwnN.exc {w w' : World} {base B b : Nat} {v : Value} {L : List (Int × Int)} (h : OwnN w base v L) (e : Exc B b w w') (h1 : ∀ g, v.ownBlock = some g → g < B ∧ g ≠ b) : OwnN w' base v L := by
  refine ⟨h.1, ?_⟩
  rcases h.2 with hn | ⟨g, cap, cur, rfl, hb, hg, rest⟩
  · exact .inl hn
  · obtain ⟨q1, q2⟩ := h1 g rfl
    exact .inr ⟨g, cap, cur, rfl, hb, (e.block g q1 q2).trans hg, rest⟩
theorem flat_get {L : List (Int × Int)} : ∀ (i : Nat) (h : i < L.length), (L.flatMap fun x => [Value.int .i64 x.1, .int .i64 x.2])[i * 2]? = some (.int .i64 L[i].1) ∧ (L.flatMap fun x => [Value.int .i64 x.1, .int .i64 x.2])[i * 2 + 1]? = some (.int .i64 L[i].2) := by
  induction L with
  | nil => intro i h; exact absurd h (Nat.not_lt_zero i)
  | cons x L ih =>
    intro i h
    cases i with
    | zero => simp
    | succ i =>
      have := ih i (by simpa using h)
      rw [show (i + 1) * 2 = i * 2 + 2 by omega, show i * 2 + 2 + 1 = i * 2 + 1 + 2 by omega]
      simpa using this
theorem OwnI.ints {w : World} {base : Nat} {v : Value} {L : List Int} (h : OwnI w base v L) : ∃ A cap, v = .slice A L.length cap ∧ L.length ≤ maxLen ∧ L.length ≤ cap ∧ IntsIn w A L := by
  rcases h.2 with ⟨rfl, hn⟩ | ⟨g, cap, cur, rfl, hb, hg, h1, h2, h3, h4⟩
  · obtain rfl : L = [] := List.eq_nil_of_length_eq_zero hn
    exact ⟨none, 0, rfl, Nat.zero_le _, Nat.zero_le _, fun k hk => absurd hk (Nat.not_lt_zero k)⟩
  · refine ⟨some ⟨g, 0, none⟩, cap, rfl, by omega, h1, fun k hk => ⟨_, rfl, (Array.getElem?_eq_some_iff.1 hg).1, ?_⟩⟩
    have hB : Blk w g _ cur := hg
    have e : (⟨g, 0, none⟩ : Addr).add k = ⟨g, k, none⟩ := by simp [Addr.add]; omega
    rw [e, hB.cell k]
    have : (cur.toList.take (L.length * 1))[k]? = some (.int .i64 L[k]) := by rw [h4]; simp [hk]
    rw [List.getElem?_take] at this
    split at this
    · simpa using this
    · cases this
theorem OwnN.nths {w : World} {base : Nat} {v : Value} {L : List (Int × Int)} (h : OwnN w base v L) : ∃ A cap, v = .slice A L.length cap ∧ L.length ≤ maxLen ∧ L.length ≤ cap ∧ NthsIn w A L := by
  rcases h.2 with ⟨rfl, hn⟩ | ⟨g, cap, cur, rfl, hb, hg, h1, h2, h3, h4⟩
  · obtain rfl : L = [] := List.eq_nil_of_length_eq_zero hn
    exact ⟨none, 0, rfl, Nat.zero_le _, Nat.zero_le _, fun k hk => absurd hk (Nat.not_lt_zero k)⟩
  · refine ⟨some ⟨g, 0, none⟩, cap, rfl, by omega, h1, fun k hk => ⟨_, rfl, (Array.getElem?_eq_some_iff.1 hg).1, ?_⟩⟩
    have hB : Blk w g _ cur := hg
    have e : (⟨g, 0, none⟩ : Addr).add (k * 2) = ⟨g, k * 2, none⟩ := by simp [Addr.add]; omega
    have e' : (⟨g, k * 2, none⟩ : Addr).add 1 = ⟨g, k * 2 + 1, none⟩ := by simp [Addr.add]
    rw [e, e', hB.cell, hB.cell]
    obtain ⟨f1, f2⟩ := flat_get k hk
    rw [← h4, List.getElem?_take] at f1 f2
    rw [if_pos (by omega)] at f1 f2
    exact ⟨by simpa using f1, by simpa using f2⟩
section
variable {w : World} {ρ : Operand → Value} {o : Oper} {x y : Operand} {b i : Nat} {v : Value} {t : TypeId} {cs : Array Value}
theorem k_storeI {n : Int} (ho : o.op = .store 3 x y) (hx : ρ x = .pointer (some ⟨b, i, none⟩)) (hy : ρ y = .int .i64 n) (hb : Blk w b t cs) (hi : i < cs.size) :
    (execOp ρ o).run Tryz.prog w = .ok .skip (w.setCell ⟨b, i, none⟩ (.int .i64 n)) := by
  have hc := hb.cell i
  have hf := hb.frozen i
  rw [Array.getElem?_eq_getElem hi] at hc
  simp only [execOp, ho, hx, hy]
  go_simp
theorem k_storeL {A : Option Addr} {n c : Nat} (ho : o.op = .store 25 x y) (hx : ρ x = .pointer (some ⟨b, i, none⟩)) (hy : ρ y = .slice A n c) (hb : Blk w b t cs) (hi : i < cs.size) :
    (execOp ρ o).run Tryz.prog w = .ok .skip (w.setCell ⟨b, i, none⟩ (.slice A n c)) := by
  have hc := hb.cell i
  have hf := hb.frozen i
  rw [Array.getElem?_eq_getElem hi] at hc
  simp only [execOp, ho, hx, hy]
  go_simp
theorem k_storeW {A : Option Addr} {n c : Nat} (ho : o.op = .store 26 x y) (hx : ρ x = .pointer (some ⟨b, i, none⟩)) (hy : ρ y = .slice A n c) (hb : Blk w b t cs) (hi : i < cs.size) :
    (execOp ρ o).run Tryz.prog w = .ok .skip (w.setCell ⟨b, i, none⟩ (.slice A n c)) := by
  have hc := hb.cell i
  have hf := hb.frozen i
  rw [Array.getElem?_eq_getElem hi] at hc
  simp only [execOp, ho, hx, hy]
  go_simp
theorem k_storeU {n : Int} (ho : o.op = .store 24 x y) (hx : ρ x = .pointer (some ⟨b, i, none⟩)) (hy : ρ y = .int .i64 n) (hb : Blk w b t cs) (hi : i < cs.size) :
    (execOp ρ o).run Tryz.prog w = .ok .skip (w.setCell ⟨b, i, none⟩ (.int .i64 n)) := by
  have hc := hb.cell i
  have hf := hb.frozen i
  rw [Array.getElem?_eq_getElem hi] at hc
  simp only [execOp, ho, hx, hy]
  go_simp
end
theorem info_of {T : TypeId} {z : Value} {n b : Nat} (h1 : (Tryz.prog.info? T).map (·.size) = some n) (h2 : (Tryz.prog.info? T).bind (·.zero) = some z) (h3 : (Tryz.prog.info? T).map (·.bytes) = some b) :
    ∃ i, Tryz.prog.info? T = some i ∧ i.zero = some z ∧ i.size = n ∧ i.bytes = b := by
  cases h : Tryz.prog.info? T with
  | none => rw [h] at h1; cases h1
  | some i =>
    rw [h] at h1 h2 h3
    exact ⟨i, rfl, by simpa using h2, by simpa using h1, by simpa using h3⟩
section
variable {w w' : World} {ρ : Operand → Value} {o : Oper} {x y : Operand} {v s v' : Value} {n : Int}
theorem k_append {T : TypeId} (ho : o.op = .call ⟨.builtin .append, #[x, y], #[T, T]⟩) (ht : o.type = T) (hx : ρ x = v) (hy : ρ y = s) (hr : (Builtin.append_ #[T, T] T #[v, s]).run Tryz.prog w = .ok v' w') :
    (execOp ρ o).run Tryz.prog w = .ok (.value v') w' := by
  have e : (#[x, y] : Array Operand).map ρ = #[v, s] := by simp [hx, hy]
  simp only [execOp, ho, resolve, e, ht, invoke, builtin, Sem.run_bind, Sem.run_pure, Result.andThen_ok, hr]
theorem k_slice1 (ho : o.op = .buildSlice 25 1 #[(0, x)]) (hx : ρ x = .int .i64 n) :
    (execOp ρ o).run Tryz.prog w = .ok (.value (.slice (some ⟨w.heap.size, 0, none⟩) 1 1)) (w.alloc (.cells #[.int .i64 n] 3)) := by
  simp only [execOp, ho]
  go_simp
theorem k_sliceN {m : Int} (ho : o.op = .buildSlice 26 1 #[(0, x)]) (hx : ρ x = .agg #[.int .i64 n, .int .i64 m]) :
    (execOp ρ o).run Tryz.prog w = .ok (.value (.slice (some ⟨w.heap.size, 0, none⟩) 1 1)) (w.alloc (.cells #[.int .i64 n, .int .i64 m] 50)) := by
  simp only [execOp, ho]
  go_simp
theorem k_buildN {m : Int} (ho : o.op = .build 50 #[(0, x), (1, y)]) (hx : ρ x = .int .i64 n) (hy : ρ y = .int .i64 m) :
    (execOp ρ o).run Tryz.prog w = .ok (.value (.agg #[.int .i64 n, .int .i64 m])) w := by
  simp only [execOp, ho]
  go_simp
end

theorem Blk.rule {w : World} {b : Nat} {f iv c u : Int} {sM sD sW sP : Value} (h : Blk w b 28 #[.int .i64 f, .int .i64 iv, .int .i64 c, .int .i64 u, sM, sD, sW, sP]) : RuleAt w b f iv c u sM sD sW sP :=
  ⟨h.lt, h.cell 0, h.cell 1, h.cell 2, h.cell 3, h.cell 4, h.cell 5, h.cell 6, h.cell 7⟩
theorem Blk.setRow {w : World} {b : Nat} {t : TypeId} {old cs : Array Value} (h : Blk w b t old) : Blk (w.setRow b cs) b t cs := setRow_heap w b old cs t _ h
theorem exc_setRow (w : World) (b : Nat) (cs : Array Value) (B : Nat) : Exc B b w (w.setRow b cs) :=
  ⟨rfl, rfl, rfl, by simp, fun k _ hk => setRow_other w b k _ hk⟩
section
variable {w : World} {ρ : Operand → Value} {o : Oper} {x y z : Operand} {b : Nat} {v u : Value}
theorem k_allocR (ho : o.op = .alloc 28) :
    (execOp ρ o).run Tryz.prog w = .ok (.value (.pointer (some ⟨w.heap.size, 0, none⟩))) (w.alloc (.cells #[.int .i64 0, .int .i64 0, .int .i64 0, .int .i64 0, .slice none 0 0, .slice none 0 0, .slice none 0 0, .slice none 0 0] 28)) := by
  simp only [execOp, ho]
  go_simp
theorem k_storeR {old cs : Array Value} (ho : o.op = .store 28 x y) (hx : ρ x = .pointer (some ⟨b, 0, none⟩)) (hy : ρ y = .agg cs) (hb : Blk w b 28 old) (h8 : cs.size = 8) (ho8 : old.size = 8) (h1 : cs.all (·.oneCell') = true) :
    (execOp ρ o).run Tryz.prog w = .ok .skip (w.setRow b cs) := by
  have hr := run_storeVar_row (P := Tryz.prog) w b 28 28 old cs hb (by rw [h8]; kernel_rfl) (by rw [ho8, h8]) h1
  simp only [execOp, ho, hx, hy, Instr.storeAt, Instr.sureAddr, Sem.run_bind, Sem.run_pure, Result.andThen_ok, hr]
end
theorem wrap_small {n : Int} (h1 : -9223372036854775808 ≤ n) (h2 : n ≤ 9223372036854775807) : IntKind.i64.wrap n = n := by
  unfold IntKind.wrap
  simp [IntKind.bits, IntKind.signed]
  omega
section
variable {w : World} {ρ : Operand → Value} {o : Oper} {x y : Operand} {n m r : Int} {q : Bool}
theorem o_addI (ho : o.op = .binOp .add 3 x y 3) (hx : ρ x = .int .i64 n) (hy : ρ y = .int .i64 m) (hr : IntKind.i64.wrap (n + m) = r) : (execOp ρ o).run Tryz.prog w = .ok (.value (.int .i64 r)) w := by
  subst hr
  simp only [execOp, ho, hx, hy]
  go_simp
theorem o_subI (ho : o.op = .binOp .sub 3 x y 3) (hx : ρ x = .int .i64 n) (hy : ρ y = .int .i64 m) (hr : IntKind.i64.wrap (n - m) = r) : (execOp ρ o).run Tryz.prog w = .ok (.value (.int .i64 r)) w := by
  subst hr
  simp only [execOp, ho, hx, hy]
  go_simp
theorem o_remI (ho : o.op = .binOp .rem 3 x y 3) (hx : ρ x = .int .i64 n) (hy : ρ y = .int .i64 m) (hm : m ≠ 0) (hr : n.tmod m = r) : (execOp ρ o).run Tryz.prog w = .ok (.value (.int .i64 r)) w := by
  subst hr
  simp only [execOp, ho, hx, hy]
  go_simp
theorem o_quoI (ho : o.op = .binOp .quo 3 x y 3) (hx : ρ x = .int .i64 n) (hy : ρ y = .int .i64 m) (hm : m ≠ 0) (hr : IntKind.i64.wrap (n.tdiv m) = r) : (execOp ρ o).run Tryz.prog w = .ok (.value (.int .i64 r)) w := by
  subst hr
  simp only [execOp, ho, hx, hy]
  go_simp
theorem o_ltI (ho : o.op = .binOp .lss 3 x y 3) (hx : ρ x = .int .i64 n) (hy : ρ y = .int .i64 m) (hr : (decide (n < m)) = q) : (execOp ρ o).run Tryz.prog w = .ok (.value (.bool q)) w := by
  subst hr
  simp only [execOp, ho, hx, hy]
  go_simp
theorem o_gtI (ho : o.op = .binOp .gtr 3 x y 3) (hx : ρ x = .int .i64 n) (hy : ρ y = .int .i64 m) (hr : (decide (m < n)) = q) : (execOp ρ o).run Tryz.prog w = .ok (.value (.bool q)) w := by
  subst hr
  simp only [execOp, ho, hx, hy]
  go_simp
theorem o_eqI (ho : o.op = .binOp .eql 3 x y 3) (hx : ρ x = .int .i64 n) (hy : ρ y = .int .i64 m) (hr : (n == m) = q) : (execOp ρ o).run Tryz.prog w = .ok (.value (.bool q)) w := by
  subst hr
  simp only [execOp, ho, hx, hy]
  go_simp
theorem o_neI (ho : o.op = .binOp .neq 3 x y 3) (hx : ρ x = .int .i64 n) (hy : ρ y = .int .i64 m) (hr : (n != m) = q) : (execOp ρ o).run Tryz.prog w = .ok (.value (.bool q)) w := by
  subst hr
  simp only [execOp, ho, hx, hy]
  go_simp
theorem o_ltB (ho : o.op = .binOp .lss 5 x y 5) (hx : ρ x = .int .u8 n) (hy : ρ y = .int .u8 m) (hr : (decide (n < m)) = q) : (execOp ρ o).run Tryz.prog w = .ok (.value (.bool q)) w := by
  subst hr
  simp only [execOp, ho, hx, hy]
  go_simp
theorem o_gtB (ho : o.op = .binOp .gtr 5 x y 5) (hx : ρ x = .int .u8 n) (hy : ρ y = .int .u8 m) (hr : (decide (m < n)) = q) : (execOp ρ o).run Tryz.prog w = .ok (.value (.bool q)) w := by
  subst hr
  simp only [execOp, ho, hx, hy]
  go_simp
theorem o_eqB (ho : o.op = .binOp .eql 5 x y 5) (hx : ρ x = .int .u8 n) (hy : ρ y = .int .u8 m) (hr : (n == m) = q) : (execOp ρ o).run Tryz.prog w = .ok (.value (.bool q)) w := by
  subst hr
  simp only [execOp, ho, hx, hy]
  go_simp
theorem o_eqF (ho : o.op = .binOp .eql 23 x y 23) (hx : ρ x = .int .i64 n) (hy : ρ y = .int .i64 m) (hr : (n == m) = q) : (execOp ρ o).run Tryz.prog w = .ok (.value (.bool q)) w := by
  subst hr
  simp only [execOp, ho, hx, hy]
  go_simp
theorem o_not {b : Bool} (ho : o.op = .unOp .not 4 x) (hx : ρ x = .bool b) (hr : (!b) = q) : (execOp ρ o).run Tryz.prog w = .ok (.value (.bool q)) w := by
  subst hr
  simp only [execOp, ho, hx]
  go_simp
end
end Go.Proofs.YtjdjekpbjnkliaaGreatDoor
namespace Go.Proofs.YtjdjekpbjnkliaaGreatDoor
open Go.RowKit
section
variable {w : World} {ρ : Operand → Value} {o : Oper} {x y : Operand} {v u : Value}
end
section
variable {w : World} {ρ : Operand → Value} {o : Oper} {x y : Operand} {b i n k c : Nat} {m p q : Int} {A : Option Addr} {ad : Addr} {v : Value}
theorem k_fieldNth0 (ho : o.op = .fieldAddr 50 x 0) (hx : ρ x = .pointer (some ⟨b, 0, none⟩)) : (execOp ρ o).run Tryz.prog w = .ok (.value (.pointer (some ⟨b, 0, none⟩))) w := by
  simp only [execOp, ho, hx]
  go_simp
theorem k_fieldNth1 (ho : o.op = .fieldAddr 50 x 1) (hx : ρ x = .pointer (some ⟨b, 0, none⟩)) : (execOp ρ o).run Tryz.prog w = .ok (.value (.pointer (some ⟨b, 1, none⟩))) w := by
  simp only [execOp, ho, hx]
  go_simp
theorem k_loadB (ho : o.op = .load 5 x) (hx : ρ x = .pointer (some ad)) (hc : w.cell? ad = some (.int .u8 m)) : (execOp ρ o).run Tryz.prog w = .ok (.value (.int .u8 m)) w := by
  simp only [execOp, ho, hx]
  go_simp
theorem k_lenB (ho : o.op = .call ⟨.builtin .len, #[x], #[36]⟩) (hx : ρ x = .slice A n c) : (execOp ρ o).run Tryz.prog w = .ok (.value (.int .i64 n)) w := by
  simp only [execOp, ho]
  go_simp
theorem k_atB (ho : o.op = .indexAddr 36 x y) (hx : ρ x = .slice (some ad) k c) (hy : ρ y = .int .i64 i) (hi : i < k) : (execOp ρ o).run Tryz.prog w = .ok (.value (.pointer (some (ad.add i)))) w := by
  simp only [execOp, ho]
  go_simp
theorem k_loadNs (ho : o.op = .load 50 x) (hx : ρ x = .pointer (some ⟨b, 0, none⟩)) (h : Blk w b 50 #[.int .i64 m, .int .i64 p]) : (execOp ρ o).run Tryz.prog w = .ok (.value (.agg #[.int .i64 m, .int .i64 p])) w := by
  have h0 := h.cell 0
  have h1 := h.cell 1
  simp only [execOp, ho, hx]
  go_simp
theorem k_allocN (ho : o.op = .alloc 50) : (execOp ρ o).run Tryz.prog w = .ok (.value (.pointer (some ⟨w.heap.size, 0, none⟩))) (w.alloc (.cells #[.int .i64 0, .int .i64 0] 50)) := by
  simp only [execOp, ho]
  go_simp
theorem k_storeS2 {T : TypeId} {old cs : Array Value} (ho : o.op = .store T x y) (hx : ρ x = .pointer (some ⟨b, 0, none⟩)) (hy : ρ y = .agg cs) (hb : Blk w b T old) (hT : (Tryz.prog.info? T).map (·.size) = some 2) (h8 : cs.size = 2) (ho8 : old.size = 2) (h1 : cs.all (·.oneCell') = true) :
    (execOp ρ o).run Tryz.prog w = .ok .skip (w.setRow b cs) := by
  have hr := run_storeVar_row (P := Tryz.prog) w b T T old cs hb (by rw [h8]; exact hT) (by rw [ho8, h8]) h1
  simp only [execOp, ho, hx, hy, Instr.storeAt, Instr.sureAddr, Sem.run_bind, Sem.run_pure, Result.andThen_ok, hr]
end

theorem dig_toNat (n : Int) : ((dig n).toNat : Int) = 48 + n % 10 := by
  unfold dig
  have h1 : 0 ≤ n % 10 := by omega
  have h2 : n % 10 < 10 := by omega
  rw [UInt8.toNat_ofNat']
  omega
theorem dig_eq (a b : Int) : (dig a = dig b) ↔ a % 10 = b % 10 := by
  constructor
  · intro h
    have := dig_toNat a
    have := dig_toNat b
    rw [h] at *
    omega
  · intro h; unfold dig; rw [h]
end Go.Proofs.YtjdjekpbjnkliaaGreatDoor
namespace Go.Proofs.YtjdjekpbjnkliaaGreatDoor.Rfc
def nm : Nat → List UInt8
  | 0 => [70, 82, 69, 81]
  | 1 => [73, 78, 84, 69, 82, 86, 65, 76]
  | 2 => [67, 79, 85, 78, 84]
  | 3 => [85, 78, 84, 73, 76]
  | 4 => [66, 89, 77, 79, 78, 84, 72]
  | 5 => [66, 89, 77, 79, 78, 84, 72, 68, 65, 89]
  | 6 => [66, 89, 68, 65, 89]
  | _ => [66, 89, 83, 69, 84, 80, 79, 83]
def fq : Nat → List UInt8
  | 0 => [68, 65, 73, 76, 89]
  | 1 => [87, 69, 69, 75, 76, 89]
  | 2 => [77, 79, 78, 84, 72, 76, 89]
  | _ => [89, 69, 65, 82, 76, 89]
def wd : Nat → List UInt8
  | 0 => [77, 79]
  | 1 => [84, 85]
  | 2 => [87, 69]
  | 3 => [84, 72]
  | 4 => [70, 82]
  | 5 => [83, 65]
  | _ => [83, 85]
def num (n z : Int) : List UInt8 := if n = z then [] else Lib.itoa n
def nums (l : List Int) : List UInt8 := Lib.join (l.map Lib.itoa) [44]
def day (x : Int × Int) : List UInt8 := num x.1 0 ++ wd x.2.toNat
def days (l : List (Int × Int)) : List UInt8 := Lib.join (l.map day) [44]
def date (y m d : Int) : List UInt8 := [dig (y / 1000), dig (y / 100), dig (y / 10), dig y, dig (m / 10), dig m, dig (d / 10), dig d]
def Un (u : Int) (t : List UInt8) : Prop := (u = 0 ∧ t = []) ∨ ∃ y m d, Cal.Is u y m d ∧ t = date y m d
def vals (f iv c : Int) (t : List UInt8) (M D : List Int) (K : List (Int × Int)) (P : List Int) : List (List UInt8) :=
  [fq f.toNat, num iv 1, num c 0, t, nums M, nums D, days K, nums P]
def parts : Nat → List (List UInt8) → List (List UInt8)
  | _, [] => []
  | k, v :: r => if v = [] then parts (k + 1) r else (nm k ++ 61 :: v) :: parts (k + 1) r
def text (f iv c : Int) (t : List UInt8) (M D : List Int) (K : List (Int × Int)) (P : List Int) : List UInt8 := Lib.join (parts 0 (vals f iv c t M D K P)) [59]

theorem digits_ne (u : Nat) : Lib.decDigits u ≠ [] := by
  rw [Lib.decDigits]
  split <;> simp
theorem digits_mem (u : Nat) : ∀ c ∈ Lib.decDigits u, 48 ≤ c.toNat ∧ c.toNat ≤ 57 := by
  intro c hc
  rw [Lib.decDigits] at hc
  have one : ∀ k, k < 10 → 48 ≤ (UInt8.ofNat (48 + k)).toNat ∧ (UInt8.ofNat (48 + k)).toNat ≤ 57 := fun k hk => by
    rw [UInt8.toNat_ofNat']
    omega
  split at hc
  · rename_i h
    simp only [List.mem_singleton] at hc
    subst hc
    exact one u h
  · rcases List.mem_append.1 hc with h | h
    · exact digits_mem (u / 10) c h
    · simp only [List.mem_singleton] at h
      subst h
      exact one _ (Nat.mod_lt _ (by omega))
termination_by u
decreasing_by omega
theorem ofNat_inj {a b : Nat} (ha : a < 10) (hb : b < 10) (h : UInt8.ofNat (48 + a) = UInt8.ofNat (48 + b)) : a = b := by
  have := congrArg UInt8.toNat h
  rw [UInt8.toNat_ofNat', UInt8.toNat_ofNat'] at this
  omega
theorem digits_inj (u v : Nat) (h : Lib.decDigits u = Lib.decDigits v) : u = v := by
  have hu := Lib.decDigits.eq_1 u
  have hv := Lib.decDigits.eq_1 v
  rw [hu, hv] at h
  split at h
  · split at h
    · exact ofNat_inj ‹_› ‹_› (List.cons.inj h).1
    · have := congrArg List.length h
      simp only [List.length_singleton, List.length_append] at this
      have := List.length_pos_iff.2 (digits_ne (v / 10))
      omega
  · split at h
    · have := congrArg List.length h
      simp only [List.length_singleton, List.length_append] at this
      have := List.length_pos_iff.2 (digits_ne (u / 10))
      omega
    · have h1 := List.append_inj' h rfl
      have e1 := digits_inj (u / 10) (v / 10) h1.1
      have e2 := ofNat_inj (Nat.mod_lt _ (by omega)) (Nat.mod_lt _ (by omega)) (List.cons.inj h1.2).1
      omega
termination_by u
decreasing_by omega
theorem itoa_inj {n m : Int} (h : Lib.itoa n = Lib.itoa m) : n = m := by
  have neg : ∀ (k : Nat) (r : List UInt8), Lib.decDigits k = 45 :: r → False := fun k r e => by
    have := digits_mem k 45 (by rw [e]; simp)
    simp at this
  unfold Lib.itoa at h
  split at h
  · split at h
    · have := digits_inj _ _ (List.cons.inj h).2
      omega
    · exact (neg _ _ h.symm).elim
  · split at h
    · exact (neg _ _ h).elim
    · have := digits_inj _ _ h
      omega
theorem wd_len (d : Nat) : (wd d).length = 2 := by unfold wd; split <;> rfl
theorem wd_inj {a b : Nat} (ha : a ≤ 6) (hb : b ≤ 6) (h : wd a = wd b) : a = b := by
  have : ∀ a ≤ 6, ∀ b ≤ 6, wd a = wd b → a = b := by decide
  exact this a ha b hb h
theorem un_inj {u v : Int} {t : List UInt8} (h : Un u t) (k : Un v t) : u = v := by
  rcases h with ⟨rfl, rfl⟩ | ⟨y, m, d, h, rfl⟩
  · rcases k with ⟨rfl, -⟩ | ⟨y, m, d, k, e⟩
    · rfl
    · cases e
  · rcases k with ⟨rfl, e⟩ | ⟨y', m', d', k, e⟩
    · cases e
    · obtain ⟨a1, a2, a3, a4, a5, a6, a7⟩ := h
      obtain ⟨b1, b2, b3, b4, b5, b6, b7⟩ := k
      have l1 := Cal.dim_le y m
      have l2 := Cal.dim_le y' m'
      simp only [date, List.cons.injEq, dig_eq] at e
      obtain ⟨e1, e2, e3, e4, e5, e6, e7, e8, -⟩ := e
      have q1 : y = y' := by omega
      have q2 : m = m' := by omega
      have q3 : d = d' := by omega
      subst q1 q2 q3
      rw [a7, b7]

theorem nm_inj {a b : Nat} (ha : a ≤ 7) (hb : b ≤ 7) (h : nm a = nm b) : a = b := by
  have : ∀ a ≤ 7, ∀ b ≤ 7, nm a = nm b → a = b := by decide
  exact this a ha b hb h
end Go.Proofs.YtjdjekpbjnkliaaGreatDoor.Rfc
namespace Go.Proofs.YtjdjekpbjnkliaaGreatDoor
open Go.RowKit Go.Sort
structure Tabs (w : World) : Prop where
  mon : Months w
  pn : ∀ i, i < 8 → w.cell? ⟨2, i, none⟩ = some (.string ⟨(Rfc.nm i).toArray⟩)
  fq : ∀ i, i < 4 → w.cell? ⟨3, i, none⟩ = some (.string ⟨(Rfc.fq i).toArray⟩)
  wd : ∀ i, i < 7 → w.cell? ⟨4, i, none⟩ = some (.string ⟨(Rfc.wd i).toArray⟩)
  pow : Lib.TabIs Tryz.prog w "internal/strconv.uint64pow10" .u64 Lib.pow10Tab
  max : ∃ m : Int, w.cell? ⟨5, 0, none⟩ = some (.int .i64 m)
  eS : ∃ v, w.cell? ⟨7, 0, none⟩ = some v ∧ (v = .nilIface ∨ ∃ te pe, v = .iface te pe)
  eR : ∃ v, w.cell? ⟨8, 0, none⟩ = some v ∧ (v = .nilIface ∨ ∃ te pe, v = .iface te pe)
theorem cell_stays {w w' : World} {p : Addr} {v : Value} (h : w.cell? p = some v) (b : Below w.heap.size w w') : w'.cell? p = some v :=
  (b.cell (World.block_lt_of_cell? _ _ h)).trans h
theorem Tabs.below {w w' : World} (h : Tabs w) (b : Below w.heap.size w w') : Tabs w' where
  mon := h.mon.grown b
  pn i hi := cell_stays (h.pn i hi) b
  fq i hi := cell_stays (h.fq i hi) b
  wd i hi := cell_stays (h.wd i hi) b
  pow := Go.Joins.tab_stays (g := 11) (by kernel_rfl) h.pow b (Nat.le_refl _)
  max := by obtain ⟨m, hm⟩ := h.max; exact ⟨m, cell_stays hm b⟩
  eS := by obtain ⟨v, hv, e⟩ := h.eS; exact ⟨v, cell_stays hv b, e⟩
  eR := by obtain ⟨v, hv, e⟩ := h.eR; exact ⟨v, cell_stays hv b, e⟩
theorem below_grow {w : World} {k : Nat} {os : Array Obj} : Below w.heap.size w (grow (w.drewN k) os) :=
  ⟨rfl, rfl, rfl, by simp, fun i hi => Go.Sort.heap_grow_old _ _ (by simpa using hi)⟩
section
variable {w : World} {ρ : Operand → Value} {o : Oper} {x y : Operand} {b i n k c : Nat} {m p q : Int} {A : Option Addr} {ad : Addr} {v : Value} {s t : ByteArray} {r : Bool}
theorem k_loadStr (ho : o.op = .load 9 x) (hx : ρ x = .pointer (some ad)) (hc : w.cell? ad = some (.string s)) : (execOp ρ o).run Tryz.prog w = .ok (.value (.string s)) w := by
  simp only [execOp, ho, hx]
  go_simp
theorem o_addStr {u : ByteArray} (ho : o.op = .binOp .add 9 x y 9) (hx : ρ x = .string s) (hy : ρ y = .string t) (hl : s.size + t.size ≤ 1000000) (hu : s ++ t = u) : (execOp ρ o).run Tryz.prog w = .ok (.value (.string u)) w := by
  subst hu
  simp only [execOp, ho, hx, hy]
  go_simp
  omega
theorem o_neStr (ho : o.op = .binOp .neq 9 x y 9) (hx : ρ x = .string s) (hy : ρ y = .string t) (hr : (s.toList != t.toList) = r) : (execOp ρ o).run Tryz.prog w = .ok (.value (.bool r)) w := by
  subst hr
  simp only [execOp, ho, hx, hy]
  go_simp
  simp [bne]
end
end Go.Proofs.YtjdjekpbjnkliaaGreatDoor
