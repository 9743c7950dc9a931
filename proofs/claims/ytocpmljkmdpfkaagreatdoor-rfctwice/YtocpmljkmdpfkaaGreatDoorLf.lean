/-
  Steps over a frame that is a letter: behind each operation the frame is a letter again, with what it holds as facts.
-/
import Derived.Test.YtocpmljkmdpfkaaGreatDoorWn
namespace Go.Proofs.YtocpmljkmdpfkaaGreatDoor
open Go.RowKit
/-- the frame a' is a with slot d set to v -/
structure Fr (d : Nat) (v : Value) (a a' : Act) : Prop where
  z : a'.tmps.size = a.tmps.size
  s : a'.tmps.getD d undef = v
  n : ∀ k, k ≠ d → a'.tmps.getD k undef = a.tmps.getD k undef
  e : a'.defers = a.defers
theorem fr_put {a : Act} {d : Nat} {v : Value} (h : d < a.tmps.size) : Fr d v a (a.put (some d) v) :=
  ⟨put_size, put_get h, fun _ hk => put_ne (Ne.symm hk), rfl⟩
section
variable {P : Program} {ops : Array Oper} {Q : Exit → Act → World → Prop} {S : World → Prop} {fuel : Nat} {listed : Array Bool} {a : Act} {w w' : World} {v : Value}
theorem dst_of {i : Nat} {o : Oper} {x : Option Tmp} (hd : (ops[i]?).map (·.dst) = some x) (ho : ops[i]? = some o) : o.dst = x := by
  rw [ho] at hd; simpa using hd
theorem some_of {i : Nat} {x : Option Tmp} (hd : (ops[i]?).map (·.dst) = some x) : ∃ o, ops[i]? = some o := by
  cases ho : ops[i]? with
  | none => rw [ho] at hd; cases hd
  | some o => exact ⟨o, rfl⟩
/-- plain region: a value, and the world goes on -/
theorem opL (i d : Nat) {rest : List Nat} (hd : (ops[i]?).map (·.dst) = some (some d)) (hz : d < a.tmps.size)
    (hy : ∀ o, ops[i]? = some o → Region.wanted o (yielded ops a.tmps) = true ∧ (execOp a.eval o).run P w = .ok (.value v) w')
    (h : ∀ a' : Act, Fr d v a a' → wpOps P ops Q rest a' w') : wpOps P ops Q (i :: rest) a w := by
  obtain ⟨o, ho⟩ := some_of hd
  obtain ⟨h1, h2⟩ := hy o ho
  rw [wpOps_cons]
  simp only [wpOp, ho, h1, if_true]
  left
  unfold Oper.wp
  rw [h2, Oper.upon_value, dst_of hd ho]
  exact h _ (fr_put hz)
/-- plain region: passed over -/
theorem opL_not (i d : Nat) {rest : List Nat} (hd : (ops[i]?).map (·.dst) = some (some d)) (hz : d < a.tmps.size)
    (hy : ∀ o, ops[i]? = some o → Region.wanted o (yielded ops a.tmps) = false)
    (h : ∀ a' : Act, Fr d undef a a' → wpOps P ops Q rest a' w) : wpOps P ops Q (i :: rest) a w := by
  obtain ⟨o, ho⟩ := some_of hd
  rw [wpOps_cons]
  simp only [wpOp, ho, hy o ho]
  rw [dst_of hd ho]
  exact h _ (fr_put hz)
/-- plain region: a store -/
theorem opL_store (i : Nat) {rest : List Nat} (hd : (ops[i]?).map (·.dst) = some none)
    (hy : ∀ o, ops[i]? = some o → Region.wanted o (yielded ops a.tmps) = true ∧ (execOp a.eval o).run P w = .ok .skip w')
    (h : wpOps P ops Q rest a w') : wpOps P ops Q (i :: rest) a w := by
  obtain ⟨o, ho⟩ := some_of hd
  obtain ⟨h1, h2⟩ := hy o ho
  rw [wpOps_cons]
  simp only [wpOp, ho, h1, if_true]
  left
  unfold Oper.wp
  rw [h2, Oper.upon_skip, dst_of hd ho]
  exact h
/-- plain region: a call -/
theorem opL_call (i d : Nat) {rest : List Nat} {f : FuncId} {args : Array Value} {R : Value → World → Prop} (hd : (ops[i]?).map (·.dst) = some (some d)) (hz : d < a.tmps.size)
    (hy : ∀ o, ops[i]? = some o → Region.wanted o (yielded ops a.tmps) = true ∧ (execOp a.eval o).run P w = .ok (.enter f args) w)
    (hc : Calls P f args w fun e w' => ∃ v, e = .returned v ∧ R v w')
    (h : ∀ (v : Value) (w' : World) (a' : Act), R v w' → Fr d v a a' → wpOps P ops Q rest a' w') : wpOps P ops Q (i :: rest) a w := by
  obtain ⟨o, ho⟩ := some_of hd
  obtain ⟨h1, h2⟩ := hy o ho
  rw [wpOps_cons]
  simp only [wpOp, ho, h1, if_true]
  left
  unfold Oper.wp
  rw [h2, Oper.upon_enter]
  refine hc.mono ?_
  rintro e w' ⟨v, rfl, hR⟩
  show wpOps P ops Q rest (a.put o.dst v) w'
  rw [dst_of hd ho]
  exact h v w' _ hR (fr_put hz)
/-- drawn region: a value, in every world that meets S -/
theorem heldL (i d : Nat) (hQ : Blind Q) (hd : (ops[i]?).map (·.dst) = some (some d)) (hz : d < a.tmps.size) (hs : Region.noSelect ops = true) (hf : Region.free .any ops listed i = true)
    (hr : (Region.ready .any ops listed).contains i = true) (hS : S w)
    (hy : ∀ o, ops[i]? = some o → (Region.wanted o (yielded ops a.tmps) = true ∧ ∀ w, S w → (execOp a.eval o).run P w = .ok (.value v) w) ∨ (Region.wanted o (yielded ops a.tmps) = false ∧ v = undef))
    (h : ∀ a' : Act, Fr d v a a' → wpAnyH P .any ops Q S fuel (listed.setIfInBounds i true) a' w) : wpAnyH P .any ops Q S (fuel + 1) listed a w :=
  step_take i d hQ hd hs hf hr hS hy (h _ (fr_put hz))
/-- drawn region: one that must come now -/
theorem heldL_do (i d : Nat) (hr : Region.ready .any ops listed = [i]) (hd : (ops[i]?).map (·.dst) = some (some d)) (hz : d < a.tmps.size)
    (hy : ∀ o, ops[i]? = some o → Region.wanted o (yielded ops a.tmps) = true ∧ (execOp a.eval o).run P w = .ok (.value v) w') (hS : S w')
    (h : ∀ a' : Act, Fr d v a a' → wpAnyH P .any ops Q S fuel (listed.setIfInBounds i true) a' w') : wpAnyH P .any ops Q S (fuel + 1) listed a w := by
  refine step_do i hr ?_
  intro o ho K hK
  obtain ⟨h1, h2⟩ := hy o ho
  rw [if_pos h1]
  unfold Oper.wp
  rw [h2, Oper.upon_value, dst_of hd ho]
  exact hK.out _ _ hS (fun _ => h _ (fr_put hz))
/-- drawn region: a store that must come now -/
theorem heldL_store (i : Nat) (hr : Region.ready .any ops listed = [i]) (hd : (ops[i]?).map (·.dst) = some none)
    (hy : ∀ o, ops[i]? = some o → Region.wanted o (yielded ops a.tmps) = true ∧ (execOp a.eval o).run P w = .ok .skip w') (hS : S w')
    (h : wpAnyH P .any ops Q S fuel (listed.setIfInBounds i true) a w') : wpAnyH P .any ops Q S (fuel + 1) listed a w := by
  refine step_do i hr ?_
  intro o ho K hK
  obtain ⟨h1, h2⟩ := hy o ho
  rw [if_pos h1]
  unfold Oper.wp
  rw [h2, Oper.upon_skip, dst_of hd ho]
  exact hK.out _ _ hS (fun _ => h)
/-- drawn region: a call that must come now -/
theorem heldL_call (i d : Nat) {f : FuncId} {args : Array Value} {R : Value → World → Prop} (hr : Region.ready .any ops listed = [i]) (hd : (ops[i]?).map (·.dst) = some (some d)) (hz : d < a.tmps.size)
    (hy : ∀ o, ops[i]? = some o → Region.wanted o (yielded ops a.tmps) = true ∧ (execOp a.eval o).run P w = .ok (.enter f args) w)
    (hc : Calls P f args w fun e w' => ∃ v, e = .returned v ∧ R v w') (hS : ∀ v w', R v w' → S w')
    (h : ∀ (v : Value) (w' : World) (a' : Act), R v w' → Fr d v a a' → wpAnyH P .any ops Q S fuel (listed.setIfInBounds i true) a' w') : wpAnyH P .any ops Q S (fuel + 1) listed a w := by
  refine step_do i hr ?_
  intro o ho K hK
  obtain ⟨h1, h2⟩ := hy o ho
  rw [if_pos h1]
  unfold Oper.wp
  rw [h2, Oper.upon_enter]
  refine hc.mono ?_
  rintro e w' ⟨v, rfl, hR⟩
  show K (a.put o.dst v) w'
  rw [dst_of hd ho]
  exact hK.out _ _ (hS v w' hR) (fun _ => h v w' _ hR (fr_put hz))
end
/-! one line behind an operation: what the frame held, it holds; squeeze.py wrote these -/
theorem frY {x : Oper} {u : Oper → Bool} {b : Bool} {R : Oper → Prop} (e : u x = b) (h : R x) : ∀ o, some x = some o → u o = b ∧ R o := by rintro o ⟨⟩; exact ⟨e, h⟩
theorem frZ {x n d : Nat} (h : x = n) (e : Nat.ble (d + 1) n = true := by rfl) : d < x := by subst h; exact Nat.le_of_ble_eq_true e
theorem frA {k d : Nat} {r : Bool} (h : (Nat.beq k d || r) = false) : k ≠ d := by rintro rfl; simp at h
theorem frB {k : Bool} {r : Bool} (h : (k || r) = false) : r = false := by cases k <;> simp_all
theorem frM0 {a : Act} {d z : Nat} {v : Value} {y : List Deferred} {G : Act → Prop} (g : ∀ b : Act, b.tmps.size = z → b.defers = y → b.tmps.getD d undef = v → G b) : a.tmps.size = z → a.defers = y → ∀ b, Fr d v a b → G b := by
  intro hs hd b F
  exact g b (F.z.trans hs) (F.e.trans hd) F.s
theorem frN0 {a : Act} {d z : Nat} {v : Value} {y : List Deferred} {G : Act → Prop} (hs : a.tmps.size = z) (hd : a.defers = y) (g : ∀ b : Act, b.tmps.size = z → b.defers = y → b.tmps.getD d undef = v → G b) : ∀ b, Fr d v a b → G b := frM0 g hs hd
theorem frM1 {a : Act} {d z k0 : Nat} {v x0 : Value} {y : List Deferred} {G : Act → Prop} (g : ∀ b : Act, b.tmps.size = z → b.defers = y → b.tmps.getD k0 undef = x0 → b.tmps.getD d undef = v → G b) (e : (Nat.beq k0 d || false) = false := by rfl) : a.tmps.size = z → a.defers = y → a.tmps.getD k0 undef = x0 → ∀ b, Fr d v a b → G b := by
  intro hs hd h0 b F
  have e0 := frA e; replace e := frB e
  exact g b (F.z.trans hs) (F.e.trans hd) ((F.n _ e0).trans h0) F.s
theorem frN1 {a : Act} {d z k0 : Nat} {v x0 : Value} {y : List Deferred} {G : Act → Prop} (hs : a.tmps.size = z) (hd : a.defers = y) (h0 : a.tmps.getD k0 undef = x0) (g : ∀ b : Act, b.tmps.size = z → b.defers = y → b.tmps.getD k0 undef = x0 → b.tmps.getD d undef = v → G b) (e : (Nat.beq k0 d || false) = false := by rfl) : ∀ b, Fr d v a b → G b := frM1 g e hs hd h0
theorem frM2 {a : Act} {d z k0 k1 : Nat} {v x0 x1 : Value} {y : List Deferred} {G : Act → Prop} (g : ∀ b : Act, b.tmps.size = z → b.defers = y → b.tmps.getD k0 undef = x0 → b.tmps.getD k1 undef = x1 → b.tmps.getD d undef = v → G b) (e : (Nat.beq k0 d || (Nat.beq k1 d || false)) = false := by rfl) : a.tmps.size = z → a.defers = y → a.tmps.getD k0 undef = x0 → a.tmps.getD k1 undef = x1 → ∀ b, Fr d v a b → G b := by
  intro hs hd h0 h1 b F
  have e0 := frA e; replace e := frB e
  have e1 := frA e; replace e := frB e
  exact g b (F.z.trans hs) (F.e.trans hd) ((F.n _ e0).trans h0) ((F.n _ e1).trans h1) F.s
theorem frN2 {a : Act} {d z k0 k1 : Nat} {v x0 x1 : Value} {y : List Deferred} {G : Act → Prop} (hs : a.tmps.size = z) (hd : a.defers = y) (h0 : a.tmps.getD k0 undef = x0) (h1 : a.tmps.getD k1 undef = x1) (g : ∀ b : Act, b.tmps.size = z → b.defers = y → b.tmps.getD k0 undef = x0 → b.tmps.getD k1 undef = x1 → b.tmps.getD d undef = v → G b) (e : (Nat.beq k0 d || (Nat.beq k1 d || false)) = false := by rfl) : ∀ b, Fr d v a b → G b := frM2 g e hs hd h0 h1
theorem frM3 {a : Act} {d z k0 k1 k2 : Nat} {v x0 x1 x2 : Value} {y : List Deferred} {G : Act → Prop} (g : ∀ b : Act, b.tmps.size = z → b.defers = y → b.tmps.getD k0 undef = x0 → b.tmps.getD k1 undef = x1 → b.tmps.getD k2 undef = x2 → b.tmps.getD d undef = v → G b) (e : (Nat.beq k0 d || (Nat.beq k1 d || (Nat.beq k2 d || false))) = false := by rfl) : a.tmps.size = z → a.defers = y → a.tmps.getD k0 undef = x0 → a.tmps.getD k1 undef = x1 → a.tmps.getD k2 undef = x2 → ∀ b, Fr d v a b → G b := by
  intro hs hd h0 h1 h2 b F
  have e0 := frA e; replace e := frB e
  have e1 := frA e; replace e := frB e
  have e2 := frA e; replace e := frB e
  exact g b (F.z.trans hs) (F.e.trans hd) ((F.n _ e0).trans h0) ((F.n _ e1).trans h1) ((F.n _ e2).trans h2) F.s
theorem frN3 {a : Act} {d z k0 k1 k2 : Nat} {v x0 x1 x2 : Value} {y : List Deferred} {G : Act → Prop} (hs : a.tmps.size = z) (hd : a.defers = y) (h0 : a.tmps.getD k0 undef = x0) (h1 : a.tmps.getD k1 undef = x1) (h2 : a.tmps.getD k2 undef = x2) (g : ∀ b : Act, b.tmps.size = z → b.defers = y → b.tmps.getD k0 undef = x0 → b.tmps.getD k1 undef = x1 → b.tmps.getD k2 undef = x2 → b.tmps.getD d undef = v → G b) (e : (Nat.beq k0 d || (Nat.beq k1 d || (Nat.beq k2 d || false))) = false := by rfl) : ∀ b, Fr d v a b → G b := frM3 g e hs hd h0 h1 h2
theorem frM4 {a : Act} {d z k0 k1 k2 k3 : Nat} {v x0 x1 x2 x3 : Value} {y : List Deferred} {G : Act → Prop} (g : ∀ b : Act, b.tmps.size = z → b.defers = y → b.tmps.getD k0 undef = x0 → b.tmps.getD k1 undef = x1 → b.tmps.getD k2 undef = x2 → b.tmps.getD k3 undef = x3 → b.tmps.getD d undef = v → G b) (e : (Nat.beq k0 d || (Nat.beq k1 d || (Nat.beq k2 d || (Nat.beq k3 d || false)))) = false := by rfl) : a.tmps.size = z → a.defers = y → a.tmps.getD k0 undef = x0 → a.tmps.getD k1 undef = x1 → a.tmps.getD k2 undef = x2 → a.tmps.getD k3 undef = x3 → ∀ b, Fr d v a b → G b := by
  intro hs hd h0 h1 h2 h3 b F
  have e0 := frA e; replace e := frB e
  have e1 := frA e; replace e := frB e
  have e2 := frA e; replace e := frB e
  have e3 := frA e; replace e := frB e
  exact g b (F.z.trans hs) (F.e.trans hd) ((F.n _ e0).trans h0) ((F.n _ e1).trans h1) ((F.n _ e2).trans h2) ((F.n _ e3).trans h3) F.s
theorem frN4 {a : Act} {d z k0 k1 k2 k3 : Nat} {v x0 x1 x2 x3 : Value} {y : List Deferred} {G : Act → Prop} (hs : a.tmps.size = z) (hd : a.defers = y) (h0 : a.tmps.getD k0 undef = x0) (h1 : a.tmps.getD k1 undef = x1) (h2 : a.tmps.getD k2 undef = x2) (h3 : a.tmps.getD k3 undef = x3) (g : ∀ b : Act, b.tmps.size = z → b.defers = y → b.tmps.getD k0 undef = x0 → b.tmps.getD k1 undef = x1 → b.tmps.getD k2 undef = x2 → b.tmps.getD k3 undef = x3 → b.tmps.getD d undef = v → G b) (e : (Nat.beq k0 d || (Nat.beq k1 d || (Nat.beq k2 d || (Nat.beq k3 d || false)))) = false := by rfl) : ∀ b, Fr d v a b → G b := frM4 g e hs hd h0 h1 h2 h3
theorem frM5 {a : Act} {d z k0 k1 k2 k3 k4 : Nat} {v x0 x1 x2 x3 x4 : Value} {y : List Deferred} {G : Act → Prop} (g : ∀ b : Act, b.tmps.size = z → b.defers = y → b.tmps.getD k0 undef = x0 → b.tmps.getD k1 undef = x1 → b.tmps.getD k2 undef = x2 → b.tmps.getD k3 undef = x3 → b.tmps.getD k4 undef = x4 → b.tmps.getD d undef = v → G b) (e : (Nat.beq k0 d || (Nat.beq k1 d || (Nat.beq k2 d || (Nat.beq k3 d || (Nat.beq k4 d || false))))) = false := by rfl) : a.tmps.size = z → a.defers = y → a.tmps.getD k0 undef = x0 → a.tmps.getD k1 undef = x1 → a.tmps.getD k2 undef = x2 → a.tmps.getD k3 undef = x3 → a.tmps.getD k4 undef = x4 → ∀ b, Fr d v a b → G b := by
  intro hs hd h0 h1 h2 h3 h4 b F
  have e0 := frA e; replace e := frB e
  have e1 := frA e; replace e := frB e
  have e2 := frA e; replace e := frB e
  have e3 := frA e; replace e := frB e
  have e4 := frA e; replace e := frB e
  exact g b (F.z.trans hs) (F.e.trans hd) ((F.n _ e0).trans h0) ((F.n _ e1).trans h1) ((F.n _ e2).trans h2) ((F.n _ e3).trans h3) ((F.n _ e4).trans h4) F.s
theorem frN5 {a : Act} {d z k0 k1 k2 k3 k4 : Nat} {v x0 x1 x2 x3 x4 : Value} {y : List Deferred} {G : Act → Prop} (hs : a.tmps.size = z) (hd : a.defers = y) (h0 : a.tmps.getD k0 undef = x0) (h1 : a.tmps.getD k1 undef = x1) (h2 : a.tmps.getD k2 undef = x2) (h3 : a.tmps.getD k3 undef = x3) (h4 : a.tmps.getD k4 undef = x4) (g : ∀ b : Act, b.tmps.size = z → b.defers = y → b.tmps.getD k0 undef = x0 → b.tmps.getD k1 undef = x1 → b.tmps.getD k2 undef = x2 → b.tmps.getD k3 undef = x3 → b.tmps.getD k4 undef = x4 → b.tmps.getD d undef = v → G b) (e : (Nat.beq k0 d || (Nat.beq k1 d || (Nat.beq k2 d || (Nat.beq k3 d || (Nat.beq k4 d || false))))) = false := by rfl) : ∀ b, Fr d v a b → G b := frM5 g e hs hd h0 h1 h2 h3 h4
theorem frM6 {a : Act} {d z k0 k1 k2 k3 k4 k5 : Nat} {v x0 x1 x2 x3 x4 x5 : Value} {y : List Deferred} {G : Act → Prop} (g : ∀ b : Act, b.tmps.size = z → b.defers = y → b.tmps.getD k0 undef = x0 → b.tmps.getD k1 undef = x1 → b.tmps.getD k2 undef = x2 → b.tmps.getD k3 undef = x3 → b.tmps.getD k4 undef = x4 → b.tmps.getD k5 undef = x5 → b.tmps.getD d undef = v → G b) (e : (Nat.beq k0 d || (Nat.beq k1 d || (Nat.beq k2 d || (Nat.beq k3 d || (Nat.beq k4 d || (Nat.beq k5 d || false)))))) = false := by rfl) : a.tmps.size = z → a.defers = y → a.tmps.getD k0 undef = x0 → a.tmps.getD k1 undef = x1 → a.tmps.getD k2 undef = x2 → a.tmps.getD k3 undef = x3 → a.tmps.getD k4 undef = x4 → a.tmps.getD k5 undef = x5 → ∀ b, Fr d v a b → G b := by
  intro hs hd h0 h1 h2 h3 h4 h5 b F
  have e0 := frA e; replace e := frB e
  have e1 := frA e; replace e := frB e
  have e2 := frA e; replace e := frB e
  have e3 := frA e; replace e := frB e
  have e4 := frA e; replace e := frB e
  have e5 := frA e; replace e := frB e
  exact g b (F.z.trans hs) (F.e.trans hd) ((F.n _ e0).trans h0) ((F.n _ e1).trans h1) ((F.n _ e2).trans h2) ((F.n _ e3).trans h3) ((F.n _ e4).trans h4) ((F.n _ e5).trans h5) F.s
theorem frN6 {a : Act} {d z k0 k1 k2 k3 k4 k5 : Nat} {v x0 x1 x2 x3 x4 x5 : Value} {y : List Deferred} {G : Act → Prop} (hs : a.tmps.size = z) (hd : a.defers = y) (h0 : a.tmps.getD k0 undef = x0) (h1 : a.tmps.getD k1 undef = x1) (h2 : a.tmps.getD k2 undef = x2) (h3 : a.tmps.getD k3 undef = x3) (h4 : a.tmps.getD k4 undef = x4) (h5 : a.tmps.getD k5 undef = x5) (g : ∀ b : Act, b.tmps.size = z → b.defers = y → b.tmps.getD k0 undef = x0 → b.tmps.getD k1 undef = x1 → b.tmps.getD k2 undef = x2 → b.tmps.getD k3 undef = x3 → b.tmps.getD k4 undef = x4 → b.tmps.getD k5 undef = x5 → b.tmps.getD d undef = v → G b) (e : (Nat.beq k0 d || (Nat.beq k1 d || (Nat.beq k2 d || (Nat.beq k3 d || (Nat.beq k4 d || (Nat.beq k5 d || false)))))) = false := by rfl) : ∀ b, Fr d v a b → G b := frM6 g e hs hd h0 h1 h2 h3 h4 h5
theorem frM7 {a : Act} {d z k0 k1 k2 k3 k4 k5 k6 : Nat} {v x0 x1 x2 x3 x4 x5 x6 : Value} {y : List Deferred} {G : Act → Prop} (g : ∀ b : Act, b.tmps.size = z → b.defers = y → b.tmps.getD k0 undef = x0 → b.tmps.getD k1 undef = x1 → b.tmps.getD k2 undef = x2 → b.tmps.getD k3 undef = x3 → b.tmps.getD k4 undef = x4 → b.tmps.getD k5 undef = x5 → b.tmps.getD k6 undef = x6 → b.tmps.getD d undef = v → G b) (e : (Nat.beq k0 d || (Nat.beq k1 d || (Nat.beq k2 d || (Nat.beq k3 d || (Nat.beq k4 d || (Nat.beq k5 d || (Nat.beq k6 d || false))))))) = false := by rfl) : a.tmps.size = z → a.defers = y → a.tmps.getD k0 undef = x0 → a.tmps.getD k1 undef = x1 → a.tmps.getD k2 undef = x2 → a.tmps.getD k3 undef = x3 → a.tmps.getD k4 undef = x4 → a.tmps.getD k5 undef = x5 → a.tmps.getD k6 undef = x6 → ∀ b, Fr d v a b → G b := by
  intro hs hd h0 h1 h2 h3 h4 h5 h6 b F
  have e0 := frA e; replace e := frB e
  have e1 := frA e; replace e := frB e
  have e2 := frA e; replace e := frB e
  have e3 := frA e; replace e := frB e
  have e4 := frA e; replace e := frB e
  have e5 := frA e; replace e := frB e
  have e6 := frA e; replace e := frB e
  exact g b (F.z.trans hs) (F.e.trans hd) ((F.n _ e0).trans h0) ((F.n _ e1).trans h1) ((F.n _ e2).trans h2) ((F.n _ e3).trans h3) ((F.n _ e4).trans h4) ((F.n _ e5).trans h5) ((F.n _ e6).trans h6) F.s
theorem frN7 {a : Act} {d z k0 k1 k2 k3 k4 k5 k6 : Nat} {v x0 x1 x2 x3 x4 x5 x6 : Value} {y : List Deferred} {G : Act → Prop} (hs : a.tmps.size = z) (hd : a.defers = y) (h0 : a.tmps.getD k0 undef = x0) (h1 : a.tmps.getD k1 undef = x1) (h2 : a.tmps.getD k2 undef = x2) (h3 : a.tmps.getD k3 undef = x3) (h4 : a.tmps.getD k4 undef = x4) (h5 : a.tmps.getD k5 undef = x5) (h6 : a.tmps.getD k6 undef = x6) (g : ∀ b : Act, b.tmps.size = z → b.defers = y → b.tmps.getD k0 undef = x0 → b.tmps.getD k1 undef = x1 → b.tmps.getD k2 undef = x2 → b.tmps.getD k3 undef = x3 → b.tmps.getD k4 undef = x4 → b.tmps.getD k5 undef = x5 → b.tmps.getD k6 undef = x6 → b.tmps.getD d undef = v → G b) (e : (Nat.beq k0 d || (Nat.beq k1 d || (Nat.beq k2 d || (Nat.beq k3 d || (Nat.beq k4 d || (Nat.beq k5 d || (Nat.beq k6 d || false))))))) = false := by rfl) : ∀ b, Fr d v a b → G b := frM7 g e hs hd h0 h1 h2 h3 h4 h5 h6
theorem frM8 {a : Act} {d z k0 k1 k2 k3 k4 k5 k6 k7 : Nat} {v x0 x1 x2 x3 x4 x5 x6 x7 : Value} {y : List Deferred} {G : Act → Prop} (g : ∀ b : Act, b.tmps.size = z → b.defers = y → b.tmps.getD k0 undef = x0 → b.tmps.getD k1 undef = x1 → b.tmps.getD k2 undef = x2 → b.tmps.getD k3 undef = x3 → b.tmps.getD k4 undef = x4 → b.tmps.getD k5 undef = x5 → b.tmps.getD k6 undef = x6 → b.tmps.getD k7 undef = x7 → b.tmps.getD d undef = v → G b) (e : (Nat.beq k0 d || (Nat.beq k1 d || (Nat.beq k2 d || (Nat.beq k3 d || (Nat.beq k4 d || (Nat.beq k5 d || (Nat.beq k6 d || (Nat.beq k7 d || false)))))))) = false := by rfl) : a.tmps.size = z → a.defers = y → a.tmps.getD k0 undef = x0 → a.tmps.getD k1 undef = x1 → a.tmps.getD k2 undef = x2 → a.tmps.getD k3 undef = x3 → a.tmps.getD k4 undef = x4 → a.tmps.getD k5 undef = x5 → a.tmps.getD k6 undef = x6 → a.tmps.getD k7 undef = x7 → ∀ b, Fr d v a b → G b := by
  intro hs hd h0 h1 h2 h3 h4 h5 h6 h7 b F
  have e0 := frA e; replace e := frB e
  have e1 := frA e; replace e := frB e
  have e2 := frA e; replace e := frB e
  have e3 := frA e; replace e := frB e
  have e4 := frA e; replace e := frB e
  have e5 := frA e; replace e := frB e
  have e6 := frA e; replace e := frB e
  have e7 := frA e; replace e := frB e
  exact g b (F.z.trans hs) (F.e.trans hd) ((F.n _ e0).trans h0) ((F.n _ e1).trans h1) ((F.n _ e2).trans h2) ((F.n _ e3).trans h3) ((F.n _ e4).trans h4) ((F.n _ e5).trans h5) ((F.n _ e6).trans h6) ((F.n _ e7).trans h7) F.s
theorem frN8 {a : Act} {d z k0 k1 k2 k3 k4 k5 k6 k7 : Nat} {v x0 x1 x2 x3 x4 x5 x6 x7 : Value} {y : List Deferred} {G : Act → Prop} (hs : a.tmps.size = z) (hd : a.defers = y) (h0 : a.tmps.getD k0 undef = x0) (h1 : a.tmps.getD k1 undef = x1) (h2 : a.tmps.getD k2 undef = x2) (h3 : a.tmps.getD k3 undef = x3) (h4 : a.tmps.getD k4 undef = x4) (h5 : a.tmps.getD k5 undef = x5) (h6 : a.tmps.getD k6 undef = x6) (h7 : a.tmps.getD k7 undef = x7) (g : ∀ b : Act, b.tmps.size = z → b.defers = y → b.tmps.getD k0 undef = x0 → b.tmps.getD k1 undef = x1 → b.tmps.getD k2 undef = x2 → b.tmps.getD k3 undef = x3 → b.tmps.getD k4 undef = x4 → b.tmps.getD k5 undef = x5 → b.tmps.getD k6 undef = x6 → b.tmps.getD k7 undef = x7 → b.tmps.getD d undef = v → G b) (e : (Nat.beq k0 d || (Nat.beq k1 d || (Nat.beq k2 d || (Nat.beq k3 d || (Nat.beq k4 d || (Nat.beq k5 d || (Nat.beq k6 d || (Nat.beq k7 d || false)))))))) = false := by rfl) : ∀ b, Fr d v a b → G b := frM8 g e hs hd h0 h1 h2 h3 h4 h5 h6 h7
theorem frM9 {a : Act} {d z k0 k1 k2 k3 k4 k5 k6 k7 k8 : Nat} {v x0 x1 x2 x3 x4 x5 x6 x7 x8 : Value} {y : List Deferred} {G : Act → Prop} (g : ∀ b : Act, b.tmps.size = z → b.defers = y → b.tmps.getD k0 undef = x0 → b.tmps.getD k1 undef = x1 → b.tmps.getD k2 undef = x2 → b.tmps.getD k3 undef = x3 → b.tmps.getD k4 undef = x4 → b.tmps.getD k5 undef = x5 → b.tmps.getD k6 undef = x6 → b.tmps.getD k7 undef = x7 → b.tmps.getD k8 undef = x8 → b.tmps.getD d undef = v → G b) (e : (Nat.beq k0 d || (Nat.beq k1 d || (Nat.beq k2 d || (Nat.beq k3 d || (Nat.beq k4 d || (Nat.beq k5 d || (Nat.beq k6 d || (Nat.beq k7 d || (Nat.beq k8 d || false))))))))) = false := by rfl) : a.tmps.size = z → a.defers = y → a.tmps.getD k0 undef = x0 → a.tmps.getD k1 undef = x1 → a.tmps.getD k2 undef = x2 → a.tmps.getD k3 undef = x3 → a.tmps.getD k4 undef = x4 → a.tmps.getD k5 undef = x5 → a.tmps.getD k6 undef = x6 → a.tmps.getD k7 undef = x7 → a.tmps.getD k8 undef = x8 → ∀ b, Fr d v a b → G b := by
  intro hs hd h0 h1 h2 h3 h4 h5 h6 h7 h8 b F
  have e0 := frA e; replace e := frB e
  have e1 := frA e; replace e := frB e
  have e2 := frA e; replace e := frB e
  have e3 := frA e; replace e := frB e
  have e4 := frA e; replace e := frB e
  have e5 := frA e; replace e := frB e
  have e6 := frA e; replace e := frB e
  have e7 := frA e; replace e := frB e
  have e8 := frA e; replace e := frB e
  exact g b (F.z.trans hs) (F.e.trans hd) ((F.n _ e0).trans h0) ((F.n _ e1).trans h1) ((F.n _ e2).trans h2) ((F.n _ e3).trans h3) ((F.n _ e4).trans h4) ((F.n _ e5).trans h5) ((F.n _ e6).trans h6) ((F.n _ e7).trans h7) ((F.n _ e8).trans h8) F.s
theorem frN9 {a : Act} {d z k0 k1 k2 k3 k4 k5 k6 k7 k8 : Nat} {v x0 x1 x2 x3 x4 x5 x6 x7 x8 : Value} {y : List Deferred} {G : Act → Prop} (hs : a.tmps.size = z) (hd : a.defers = y) (h0 : a.tmps.getD k0 undef = x0) (h1 : a.tmps.getD k1 undef = x1) (h2 : a.tmps.getD k2 undef = x2) (h3 : a.tmps.getD k3 undef = x3) (h4 : a.tmps.getD k4 undef = x4) (h5 : a.tmps.getD k5 undef = x5) (h6 : a.tmps.getD k6 undef = x6) (h7 : a.tmps.getD k7 undef = x7) (h8 : a.tmps.getD k8 undef = x8) (g : ∀ b : Act, b.tmps.size = z → b.defers = y → b.tmps.getD k0 undef = x0 → b.tmps.getD k1 undef = x1 → b.tmps.getD k2 undef = x2 → b.tmps.getD k3 undef = x3 → b.tmps.getD k4 undef = x4 → b.tmps.getD k5 undef = x5 → b.tmps.getD k6 undef = x6 → b.tmps.getD k7 undef = x7 → b.tmps.getD k8 undef = x8 → b.tmps.getD d undef = v → G b) (e : (Nat.beq k0 d || (Nat.beq k1 d || (Nat.beq k2 d || (Nat.beq k3 d || (Nat.beq k4 d || (Nat.beq k5 d || (Nat.beq k6 d || (Nat.beq k7 d || (Nat.beq k8 d || false))))))))) = false := by rfl) : ∀ b, Fr d v a b → G b := frM9 g e hs hd h0 h1 h2 h3 h4 h5 h6 h7 h8
theorem frM10 {a : Act} {d z k0 k1 k2 k3 k4 k5 k6 k7 k8 k9 : Nat} {v x0 x1 x2 x3 x4 x5 x6 x7 x8 x9 : Value} {y : List Deferred} {G : Act → Prop} (g : ∀ b : Act, b.tmps.size = z → b.defers = y → b.tmps.getD k0 undef = x0 → b.tmps.getD k1 undef = x1 → b.tmps.getD k2 undef = x2 → b.tmps.getD k3 undef = x3 → b.tmps.getD k4 undef = x4 → b.tmps.getD k5 undef = x5 → b.tmps.getD k6 undef = x6 → b.tmps.getD k7 undef = x7 → b.tmps.getD k8 undef = x8 → b.tmps.getD k9 undef = x9 → b.tmps.getD d undef = v → G b) (e : (Nat.beq k0 d || (Nat.beq k1 d || (Nat.beq k2 d || (Nat.beq k3 d || (Nat.beq k4 d || (Nat.beq k5 d || (Nat.beq k6 d || (Nat.beq k7 d || (Nat.beq k8 d || (Nat.beq k9 d || false)))))))))) = false := by rfl) : a.tmps.size = z → a.defers = y → a.tmps.getD k0 undef = x0 → a.tmps.getD k1 undef = x1 → a.tmps.getD k2 undef = x2 → a.tmps.getD k3 undef = x3 → a.tmps.getD k4 undef = x4 → a.tmps.getD k5 undef = x5 → a.tmps.getD k6 undef = x6 → a.tmps.getD k7 undef = x7 → a.tmps.getD k8 undef = x8 → a.tmps.getD k9 undef = x9 → ∀ b, Fr d v a b → G b := by
  intro hs hd h0 h1 h2 h3 h4 h5 h6 h7 h8 h9 b F
  have e0 := frA e; replace e := frB e
  have e1 := frA e; replace e := frB e
  have e2 := frA e; replace e := frB e
  have e3 := frA e; replace e := frB e
  have e4 := frA e; replace e := frB e
  have e5 := frA e; replace e := frB e
  have e6 := frA e; replace e := frB e
  have e7 := frA e; replace e := frB e
  have e8 := frA e; replace e := frB e
  have e9 := frA e; replace e := frB e
  exact g b (F.z.trans hs) (F.e.trans hd) ((F.n _ e0).trans h0) ((F.n _ e1).trans h1) ((F.n _ e2).trans h2) ((F.n _ e3).trans h3) ((F.n _ e4).trans h4) ((F.n _ e5).trans h5) ((F.n _ e6).trans h6) ((F.n _ e7).trans h7) ((F.n _ e8).trans h8) ((F.n _ e9).trans h9) F.s
theorem frN10 {a : Act} {d z k0 k1 k2 k3 k4 k5 k6 k7 k8 k9 : Nat} {v x0 x1 x2 x3 x4 x5 x6 x7 x8 x9 : Value} {y : List Deferred} {G : Act → Prop} (hs : a.tmps.size = z) (hd : a.defers = y) (h0 : a.tmps.getD k0 undef = x0) (h1 : a.tmps.getD k1 undef = x1) (h2 : a.tmps.getD k2 undef = x2) (h3 : a.tmps.getD k3 undef = x3) (h4 : a.tmps.getD k4 undef = x4) (h5 : a.tmps.getD k5 undef = x5) (h6 : a.tmps.getD k6 undef = x6) (h7 : a.tmps.getD k7 undef = x7) (h8 : a.tmps.getD k8 undef = x8) (h9 : a.tmps.getD k9 undef = x9) (g : ∀ b : Act, b.tmps.size = z → b.defers = y → b.tmps.getD k0 undef = x0 → b.tmps.getD k1 undef = x1 → b.tmps.getD k2 undef = x2 → b.tmps.getD k3 undef = x3 → b.tmps.getD k4 undef = x4 → b.tmps.getD k5 undef = x5 → b.tmps.getD k6 undef = x6 → b.tmps.getD k7 undef = x7 → b.tmps.getD k8 undef = x8 → b.tmps.getD k9 undef = x9 → b.tmps.getD d undef = v → G b) (e : (Nat.beq k0 d || (Nat.beq k1 d || (Nat.beq k2 d || (Nat.beq k3 d || (Nat.beq k4 d || (Nat.beq k5 d || (Nat.beq k6 d || (Nat.beq k7 d || (Nat.beq k8 d || (Nat.beq k9 d || false)))))))))) = false := by rfl) : ∀ b, Fr d v a b → G b := frM10 g e hs hd h0 h1 h2 h3 h4 h5 h6 h7 h8 h9
theorem frM11 {a : Act} {d z k0 k1 k2 k3 k4 k5 k6 k7 k8 k9 k10 : Nat} {v x0 x1 x2 x3 x4 x5 x6 x7 x8 x9 x10 : Value} {y : List Deferred} {G : Act → Prop} (g : ∀ b : Act, b.tmps.size = z → b.defers = y → b.tmps.getD k0 undef = x0 → b.tmps.getD k1 undef = x1 → b.tmps.getD k2 undef = x2 → b.tmps.getD k3 undef = x3 → b.tmps.getD k4 undef = x4 → b.tmps.getD k5 undef = x5 → b.tmps.getD k6 undef = x6 → b.tmps.getD k7 undef = x7 → b.tmps.getD k8 undef = x8 → b.tmps.getD k9 undef = x9 → b.tmps.getD k10 undef = x10 → b.tmps.getD d undef = v → G b) (e : (Nat.beq k0 d || (Nat.beq k1 d || (Nat.beq k2 d || (Nat.beq k3 d || (Nat.beq k4 d || (Nat.beq k5 d || (Nat.beq k6 d || (Nat.beq k7 d || (Nat.beq k8 d || (Nat.beq k9 d || (Nat.beq k10 d || false))))))))))) = false := by rfl) : a.tmps.size = z → a.defers = y → a.tmps.getD k0 undef = x0 → a.tmps.getD k1 undef = x1 → a.tmps.getD k2 undef = x2 → a.tmps.getD k3 undef = x3 → a.tmps.getD k4 undef = x4 → a.tmps.getD k5 undef = x5 → a.tmps.getD k6 undef = x6 → a.tmps.getD k7 undef = x7 → a.tmps.getD k8 undef = x8 → a.tmps.getD k9 undef = x9 → a.tmps.getD k10 undef = x10 → ∀ b, Fr d v a b → G b := by
  intro hs hd h0 h1 h2 h3 h4 h5 h6 h7 h8 h9 h10 b F
  have e0 := frA e; replace e := frB e
  have e1 := frA e; replace e := frB e
  have e2 := frA e; replace e := frB e
  have e3 := frA e; replace e := frB e
  have e4 := frA e; replace e := frB e
  have e5 := frA e; replace e := frB e
  have e6 := frA e; replace e := frB e
  have e7 := frA e; replace e := frB e
  have e8 := frA e; replace e := frB e
  have e9 := frA e; replace e := frB e
  have e10 := frA e; replace e := frB e
  exact g b (F.z.trans hs) (F.e.trans hd) ((F.n _ e0).trans h0) ((F.n _ e1).trans h1) ((F.n _ e2).trans h2) ((F.n _ e3).trans h3) ((F.n _ e4).trans h4) ((F.n _ e5).trans h5) ((F.n _ e6).trans h6) ((F.n _ e7).trans h7) ((F.n _ e8).trans h8) ((F.n _ e9).trans h9) ((F.n _ e10).trans h10) F.s
theorem frN11 {a : Act} {d z k0 k1 k2 k3 k4 k5 k6 k7 k8 k9 k10 : Nat} {v x0 x1 x2 x3 x4 x5 x6 x7 x8 x9 x10 : Value} {y : List Deferred} {G : Act → Prop} (hs : a.tmps.size = z) (hd : a.defers = y) (h0 : a.tmps.getD k0 undef = x0) (h1 : a.tmps.getD k1 undef = x1) (h2 : a.tmps.getD k2 undef = x2) (h3 : a.tmps.getD k3 undef = x3) (h4 : a.tmps.getD k4 undef = x4) (h5 : a.tmps.getD k5 undef = x5) (h6 : a.tmps.getD k6 undef = x6) (h7 : a.tmps.getD k7 undef = x7) (h8 : a.tmps.getD k8 undef = x8) (h9 : a.tmps.getD k9 undef = x9) (h10 : a.tmps.getD k10 undef = x10) (g : ∀ b : Act, b.tmps.size = z → b.defers = y → b.tmps.getD k0 undef = x0 → b.tmps.getD k1 undef = x1 → b.tmps.getD k2 undef = x2 → b.tmps.getD k3 undef = x3 → b.tmps.getD k4 undef = x4 → b.tmps.getD k5 undef = x5 → b.tmps.getD k6 undef = x6 → b.tmps.getD k7 undef = x7 → b.tmps.getD k8 undef = x8 → b.tmps.getD k9 undef = x9 → b.tmps.getD k10 undef = x10 → b.tmps.getD d undef = v → G b) (e : (Nat.beq k0 d || (Nat.beq k1 d || (Nat.beq k2 d || (Nat.beq k3 d || (Nat.beq k4 d || (Nat.beq k5 d || (Nat.beq k6 d || (Nat.beq k7 d || (Nat.beq k8 d || (Nat.beq k9 d || (Nat.beq k10 d || false))))))))))) = false := by rfl) : ∀ b, Fr d v a b → G b := frM11 g e hs hd h0 h1 h2 h3 h4 h5 h6 h7 h8 h9 h10
theorem frM12 {a : Act} {d z k0 k1 k2 k3 k4 k5 k6 k7 k8 k9 k10 k11 : Nat} {v x0 x1 x2 x3 x4 x5 x6 x7 x8 x9 x10 x11 : Value} {y : List Deferred} {G : Act → Prop} (g : ∀ b : Act, b.tmps.size = z → b.defers = y → b.tmps.getD k0 undef = x0 → b.tmps.getD k1 undef = x1 → b.tmps.getD k2 undef = x2 → b.tmps.getD k3 undef = x3 → b.tmps.getD k4 undef = x4 → b.tmps.getD k5 undef = x5 → b.tmps.getD k6 undef = x6 → b.tmps.getD k7 undef = x7 → b.tmps.getD k8 undef = x8 → b.tmps.getD k9 undef = x9 → b.tmps.getD k10 undef = x10 → b.tmps.getD k11 undef = x11 → b.tmps.getD d undef = v → G b) (e : (Nat.beq k0 d || (Nat.beq k1 d || (Nat.beq k2 d || (Nat.beq k3 d || (Nat.beq k4 d || (Nat.beq k5 d || (Nat.beq k6 d || (Nat.beq k7 d || (Nat.beq k8 d || (Nat.beq k9 d || (Nat.beq k10 d || (Nat.beq k11 d || false)))))))))))) = false := by rfl) : a.tmps.size = z → a.defers = y → a.tmps.getD k0 undef = x0 → a.tmps.getD k1 undef = x1 → a.tmps.getD k2 undef = x2 → a.tmps.getD k3 undef = x3 → a.tmps.getD k4 undef = x4 → a.tmps.getD k5 undef = x5 → a.tmps.getD k6 undef = x6 → a.tmps.getD k7 undef = x7 → a.tmps.getD k8 undef = x8 → a.tmps.getD k9 undef = x9 → a.tmps.getD k10 undef = x10 → a.tmps.getD k11 undef = x11 → ∀ b, Fr d v a b → G b := by
  intro hs hd h0 h1 h2 h3 h4 h5 h6 h7 h8 h9 h10 h11 b F
  have e0 := frA e; replace e := frB e
  have e1 := frA e; replace e := frB e
  have e2 := frA e; replace e := frB e
  have e3 := frA e; replace e := frB e
  have e4 := frA e; replace e := frB e
  have e5 := frA e; replace e := frB e
  have e6 := frA e; replace e := frB e
  have e7 := frA e; replace e := frB e
  have e8 := frA e; replace e := frB e
  have e9 := frA e; replace e := frB e
  have e10 := frA e; replace e := frB e
  have e11 := frA e; replace e := frB e
  exact g b (F.z.trans hs) (F.e.trans hd) ((F.n _ e0).trans h0) ((F.n _ e1).trans h1) ((F.n _ e2).trans h2) ((F.n _ e3).trans h3) ((F.n _ e4).trans h4) ((F.n _ e5).trans h5) ((F.n _ e6).trans h6) ((F.n _ e7).trans h7) ((F.n _ e8).trans h8) ((F.n _ e9).trans h9) ((F.n _ e10).trans h10) ((F.n _ e11).trans h11) F.s
theorem frN12 {a : Act} {d z k0 k1 k2 k3 k4 k5 k6 k7 k8 k9 k10 k11 : Nat} {v x0 x1 x2 x3 x4 x5 x6 x7 x8 x9 x10 x11 : Value} {y : List Deferred} {G : Act → Prop} (hs : a.tmps.size = z) (hd : a.defers = y) (h0 : a.tmps.getD k0 undef = x0) (h1 : a.tmps.getD k1 undef = x1) (h2 : a.tmps.getD k2 undef = x2) (h3 : a.tmps.getD k3 undef = x3) (h4 : a.tmps.getD k4 undef = x4) (h5 : a.tmps.getD k5 undef = x5) (h6 : a.tmps.getD k6 undef = x6) (h7 : a.tmps.getD k7 undef = x7) (h8 : a.tmps.getD k8 undef = x8) (h9 : a.tmps.getD k9 undef = x9) (h10 : a.tmps.getD k10 undef = x10) (h11 : a.tmps.getD k11 undef = x11) (g : ∀ b : Act, b.tmps.size = z → b.defers = y → b.tmps.getD k0 undef = x0 → b.tmps.getD k1 undef = x1 → b.tmps.getD k2 undef = x2 → b.tmps.getD k3 undef = x3 → b.tmps.getD k4 undef = x4 → b.tmps.getD k5 undef = x5 → b.tmps.getD k6 undef = x6 → b.tmps.getD k7 undef = x7 → b.tmps.getD k8 undef = x8 → b.tmps.getD k9 undef = x9 → b.tmps.getD k10 undef = x10 → b.tmps.getD k11 undef = x11 → b.tmps.getD d undef = v → G b) (e : (Nat.beq k0 d || (Nat.beq k1 d || (Nat.beq k2 d || (Nat.beq k3 d || (Nat.beq k4 d || (Nat.beq k5 d || (Nat.beq k6 d || (Nat.beq k7 d || (Nat.beq k8 d || (Nat.beq k9 d || (Nat.beq k10 d || (Nat.beq k11 d || false)))))))))))) = false := by rfl) : ∀ b, Fr d v a b → G b := frM12 g e hs hd h0 h1 h2 h3 h4 h5 h6 h7 h8 h9 h10 h11
theorem frM13 {a : Act} {d z k0 k1 k2 k3 k4 k5 k6 k7 k8 k9 k10 k11 k12 : Nat} {v x0 x1 x2 x3 x4 x5 x6 x7 x8 x9 x10 x11 x12 : Value} {y : List Deferred} {G : Act → Prop} (g : ∀ b : Act, b.tmps.size = z → b.defers = y → b.tmps.getD k0 undef = x0 → b.tmps.getD k1 undef = x1 → b.tmps.getD k2 undef = x2 → b.tmps.getD k3 undef = x3 → b.tmps.getD k4 undef = x4 → b.tmps.getD k5 undef = x5 → b.tmps.getD k6 undef = x6 → b.tmps.getD k7 undef = x7 → b.tmps.getD k8 undef = x8 → b.tmps.getD k9 undef = x9 → b.tmps.getD k10 undef = x10 → b.tmps.getD k11 undef = x11 → b.tmps.getD k12 undef = x12 → b.tmps.getD d undef = v → G b) (e : (Nat.beq k0 d || (Nat.beq k1 d || (Nat.beq k2 d || (Nat.beq k3 d || (Nat.beq k4 d || (Nat.beq k5 d || (Nat.beq k6 d || (Nat.beq k7 d || (Nat.beq k8 d || (Nat.beq k9 d || (Nat.beq k10 d || (Nat.beq k11 d || (Nat.beq k12 d || false))))))))))))) = false := by rfl) : a.tmps.size = z → a.defers = y → a.tmps.getD k0 undef = x0 → a.tmps.getD k1 undef = x1 → a.tmps.getD k2 undef = x2 → a.tmps.getD k3 undef = x3 → a.tmps.getD k4 undef = x4 → a.tmps.getD k5 undef = x5 → a.tmps.getD k6 undef = x6 → a.tmps.getD k7 undef = x7 → a.tmps.getD k8 undef = x8 → a.tmps.getD k9 undef = x9 → a.tmps.getD k10 undef = x10 → a.tmps.getD k11 undef = x11 → a.tmps.getD k12 undef = x12 → ∀ b, Fr d v a b → G b := by
  intro hs hd h0 h1 h2 h3 h4 h5 h6 h7 h8 h9 h10 h11 h12 b F
  have e0 := frA e; replace e := frB e
  have e1 := frA e; replace e := frB e
  have e2 := frA e; replace e := frB e
  have e3 := frA e; replace e := frB e
  have e4 := frA e; replace e := frB e
  have e5 := frA e; replace e := frB e
  have e6 := frA e; replace e := frB e
  have e7 := frA e; replace e := frB e
  have e8 := frA e; replace e := frB e
  have e9 := frA e; replace e := frB e
  have e10 := frA e; replace e := frB e
  have e11 := frA e; replace e := frB e
  have e12 := frA e; replace e := frB e
  exact g b (F.z.trans hs) (F.e.trans hd) ((F.n _ e0).trans h0) ((F.n _ e1).trans h1) ((F.n _ e2).trans h2) ((F.n _ e3).trans h3) ((F.n _ e4).trans h4) ((F.n _ e5).trans h5) ((F.n _ e6).trans h6) ((F.n _ e7).trans h7) ((F.n _ e8).trans h8) ((F.n _ e9).trans h9) ((F.n _ e10).trans h10) ((F.n _ e11).trans h11) ((F.n _ e12).trans h12) F.s
theorem frN13 {a : Act} {d z k0 k1 k2 k3 k4 k5 k6 k7 k8 k9 k10 k11 k12 : Nat} {v x0 x1 x2 x3 x4 x5 x6 x7 x8 x9 x10 x11 x12 : Value} {y : List Deferred} {G : Act → Prop} (hs : a.tmps.size = z) (hd : a.defers = y) (h0 : a.tmps.getD k0 undef = x0) (h1 : a.tmps.getD k1 undef = x1) (h2 : a.tmps.getD k2 undef = x2) (h3 : a.tmps.getD k3 undef = x3) (h4 : a.tmps.getD k4 undef = x4) (h5 : a.tmps.getD k5 undef = x5) (h6 : a.tmps.getD k6 undef = x6) (h7 : a.tmps.getD k7 undef = x7) (h8 : a.tmps.getD k8 undef = x8) (h9 : a.tmps.getD k9 undef = x9) (h10 : a.tmps.getD k10 undef = x10) (h11 : a.tmps.getD k11 undef = x11) (h12 : a.tmps.getD k12 undef = x12) (g : ∀ b : Act, b.tmps.size = z → b.defers = y → b.tmps.getD k0 undef = x0 → b.tmps.getD k1 undef = x1 → b.tmps.getD k2 undef = x2 → b.tmps.getD k3 undef = x3 → b.tmps.getD k4 undef = x4 → b.tmps.getD k5 undef = x5 → b.tmps.getD k6 undef = x6 → b.tmps.getD k7 undef = x7 → b.tmps.getD k8 undef = x8 → b.tmps.getD k9 undef = x9 → b.tmps.getD k10 undef = x10 → b.tmps.getD k11 undef = x11 → b.tmps.getD k12 undef = x12 → b.tmps.getD d undef = v → G b) (e : (Nat.beq k0 d || (Nat.beq k1 d || (Nat.beq k2 d || (Nat.beq k3 d || (Nat.beq k4 d || (Nat.beq k5 d || (Nat.beq k6 d || (Nat.beq k7 d || (Nat.beq k8 d || (Nat.beq k9 d || (Nat.beq k10 d || (Nat.beq k11 d || (Nat.beq k12 d || false))))))))))))) = false := by rfl) : ∀ b, Fr d v a b → G b := frM13 g e hs hd h0 h1 h2 h3 h4 h5 h6 h7 h8 h9 h10 h11 h12
theorem frM14 {a : Act} {d z k0 k1 k2 k3 k4 k5 k6 k7 k8 k9 k10 k11 k12 k13 : Nat} {v x0 x1 x2 x3 x4 x5 x6 x7 x8 x9 x10 x11 x12 x13 : Value} {y : List Deferred} {G : Act → Prop} (g : ∀ b : Act, b.tmps.size = z → b.defers = y → b.tmps.getD k0 undef = x0 → b.tmps.getD k1 undef = x1 → b.tmps.getD k2 undef = x2 → b.tmps.getD k3 undef = x3 → b.tmps.getD k4 undef = x4 → b.tmps.getD k5 undef = x5 → b.tmps.getD k6 undef = x6 → b.tmps.getD k7 undef = x7 → b.tmps.getD k8 undef = x8 → b.tmps.getD k9 undef = x9 → b.tmps.getD k10 undef = x10 → b.tmps.getD k11 undef = x11 → b.tmps.getD k12 undef = x12 → b.tmps.getD k13 undef = x13 → b.tmps.getD d undef = v → G b) (e : (Nat.beq k0 d || (Nat.beq k1 d || (Nat.beq k2 d || (Nat.beq k3 d || (Nat.beq k4 d || (Nat.beq k5 d || (Nat.beq k6 d || (Nat.beq k7 d || (Nat.beq k8 d || (Nat.beq k9 d || (Nat.beq k10 d || (Nat.beq k11 d || (Nat.beq k12 d || (Nat.beq k13 d || false)))))))))))))) = false := by rfl) : a.tmps.size = z → a.defers = y → a.tmps.getD k0 undef = x0 → a.tmps.getD k1 undef = x1 → a.tmps.getD k2 undef = x2 → a.tmps.getD k3 undef = x3 → a.tmps.getD k4 undef = x4 → a.tmps.getD k5 undef = x5 → a.tmps.getD k6 undef = x6 → a.tmps.getD k7 undef = x7 → a.tmps.getD k8 undef = x8 → a.tmps.getD k9 undef = x9 → a.tmps.getD k10 undef = x10 → a.tmps.getD k11 undef = x11 → a.tmps.getD k12 undef = x12 → a.tmps.getD k13 undef = x13 → ∀ b, Fr d v a b → G b := by
  intro hs hd h0 h1 h2 h3 h4 h5 h6 h7 h8 h9 h10 h11 h12 h13 b F
  have e0 := frA e; replace e := frB e
  have e1 := frA e; replace e := frB e
  have e2 := frA e; replace e := frB e
  have e3 := frA e; replace e := frB e
  have e4 := frA e; replace e := frB e
  have e5 := frA e; replace e := frB e
  have e6 := frA e; replace e := frB e
  have e7 := frA e; replace e := frB e
  have e8 := frA e; replace e := frB e
  have e9 := frA e; replace e := frB e
  have e10 := frA e; replace e := frB e
  have e11 := frA e; replace e := frB e
  have e12 := frA e; replace e := frB e
  have e13 := frA e; replace e := frB e
  exact g b (F.z.trans hs) (F.e.trans hd) ((F.n _ e0).trans h0) ((F.n _ e1).trans h1) ((F.n _ e2).trans h2) ((F.n _ e3).trans h3) ((F.n _ e4).trans h4) ((F.n _ e5).trans h5) ((F.n _ e6).trans h6) ((F.n _ e7).trans h7) ((F.n _ e8).trans h8) ((F.n _ e9).trans h9) ((F.n _ e10).trans h10) ((F.n _ e11).trans h11) ((F.n _ e12).trans h12) ((F.n _ e13).trans h13) F.s
theorem frN14 {a : Act} {d z k0 k1 k2 k3 k4 k5 k6 k7 k8 k9 k10 k11 k12 k13 : Nat} {v x0 x1 x2 x3 x4 x5 x6 x7 x8 x9 x10 x11 x12 x13 : Value} {y : List Deferred} {G : Act → Prop} (hs : a.tmps.size = z) (hd : a.defers = y) (h0 : a.tmps.getD k0 undef = x0) (h1 : a.tmps.getD k1 undef = x1) (h2 : a.tmps.getD k2 undef = x2) (h3 : a.tmps.getD k3 undef = x3) (h4 : a.tmps.getD k4 undef = x4) (h5 : a.tmps.getD k5 undef = x5) (h6 : a.tmps.getD k6 undef = x6) (h7 : a.tmps.getD k7 undef = x7) (h8 : a.tmps.getD k8 undef = x8) (h9 : a.tmps.getD k9 undef = x9) (h10 : a.tmps.getD k10 undef = x10) (h11 : a.tmps.getD k11 undef = x11) (h12 : a.tmps.getD k12 undef = x12) (h13 : a.tmps.getD k13 undef = x13) (g : ∀ b : Act, b.tmps.size = z → b.defers = y → b.tmps.getD k0 undef = x0 → b.tmps.getD k1 undef = x1 → b.tmps.getD k2 undef = x2 → b.tmps.getD k3 undef = x3 → b.tmps.getD k4 undef = x4 → b.tmps.getD k5 undef = x5 → b.tmps.getD k6 undef = x6 → b.tmps.getD k7 undef = x7 → b.tmps.getD k8 undef = x8 → b.tmps.getD k9 undef = x9 → b.tmps.getD k10 undef = x10 → b.tmps.getD k11 undef = x11 → b.tmps.getD k12 undef = x12 → b.tmps.getD k13 undef = x13 → b.tmps.getD d undef = v → G b) (e : (Nat.beq k0 d || (Nat.beq k1 d || (Nat.beq k2 d || (Nat.beq k3 d || (Nat.beq k4 d || (Nat.beq k5 d || (Nat.beq k6 d || (Nat.beq k7 d || (Nat.beq k8 d || (Nat.beq k9 d || (Nat.beq k10 d || (Nat.beq k11 d || (Nat.beq k12 d || (Nat.beq k13 d || false)))))))))))))) = false := by rfl) : ∀ b, Fr d v a b → G b := frM14 g e hs hd h0 h1 h2 h3 h4 h5 h6 h7 h8 h9 h10 h11 h12 h13
theorem frM15 {a : Act} {d z k0 k1 k2 k3 k4 k5 k6 k7 k8 k9 k10 k11 k12 k13 k14 : Nat} {v x0 x1 x2 x3 x4 x5 x6 x7 x8 x9 x10 x11 x12 x13 x14 : Value} {y : List Deferred} {G : Act → Prop} (g : ∀ b : Act, b.tmps.size = z → b.defers = y → b.tmps.getD k0 undef = x0 → b.tmps.getD k1 undef = x1 → b.tmps.getD k2 undef = x2 → b.tmps.getD k3 undef = x3 → b.tmps.getD k4 undef = x4 → b.tmps.getD k5 undef = x5 → b.tmps.getD k6 undef = x6 → b.tmps.getD k7 undef = x7 → b.tmps.getD k8 undef = x8 → b.tmps.getD k9 undef = x9 → b.tmps.getD k10 undef = x10 → b.tmps.getD k11 undef = x11 → b.tmps.getD k12 undef = x12 → b.tmps.getD k13 undef = x13 → b.tmps.getD k14 undef = x14 → b.tmps.getD d undef = v → G b) (e : (Nat.beq k0 d || (Nat.beq k1 d || (Nat.beq k2 d || (Nat.beq k3 d || (Nat.beq k4 d || (Nat.beq k5 d || (Nat.beq k6 d || (Nat.beq k7 d || (Nat.beq k8 d || (Nat.beq k9 d || (Nat.beq k10 d || (Nat.beq k11 d || (Nat.beq k12 d || (Nat.beq k13 d || (Nat.beq k14 d || false))))))))))))))) = false := by rfl) : a.tmps.size = z → a.defers = y → a.tmps.getD k0 undef = x0 → a.tmps.getD k1 undef = x1 → a.tmps.getD k2 undef = x2 → a.tmps.getD k3 undef = x3 → a.tmps.getD k4 undef = x4 → a.tmps.getD k5 undef = x5 → a.tmps.getD k6 undef = x6 → a.tmps.getD k7 undef = x7 → a.tmps.getD k8 undef = x8 → a.tmps.getD k9 undef = x9 → a.tmps.getD k10 undef = x10 → a.tmps.getD k11 undef = x11 → a.tmps.getD k12 undef = x12 → a.tmps.getD k13 undef = x13 → a.tmps.getD k14 undef = x14 → ∀ b, Fr d v a b → G b := by
  intro hs hd h0 h1 h2 h3 h4 h5 h6 h7 h8 h9 h10 h11 h12 h13 h14 b F
  have e0 := frA e; replace e := frB e
  have e1 := frA e; replace e := frB e
  have e2 := frA e; replace e := frB e
  have e3 := frA e; replace e := frB e
  have e4 := frA e; replace e := frB e
  have e5 := frA e; replace e := frB e
  have e6 := frA e; replace e := frB e
  have e7 := frA e; replace e := frB e
  have e8 := frA e; replace e := frB e
  have e9 := frA e; replace e := frB e
  have e10 := frA e; replace e := frB e
  have e11 := frA e; replace e := frB e
  have e12 := frA e; replace e := frB e
  have e13 := frA e; replace e := frB e
  have e14 := frA e; replace e := frB e
  exact g b (F.z.trans hs) (F.e.trans hd) ((F.n _ e0).trans h0) ((F.n _ e1).trans h1) ((F.n _ e2).trans h2) ((F.n _ e3).trans h3) ((F.n _ e4).trans h4) ((F.n _ e5).trans h5) ((F.n _ e6).trans h6) ((F.n _ e7).trans h7) ((F.n _ e8).trans h8) ((F.n _ e9).trans h9) ((F.n _ e10).trans h10) ((F.n _ e11).trans h11) ((F.n _ e12).trans h12) ((F.n _ e13).trans h13) ((F.n _ e14).trans h14) F.s
theorem frN15 {a : Act} {d z k0 k1 k2 k3 k4 k5 k6 k7 k8 k9 k10 k11 k12 k13 k14 : Nat} {v x0 x1 x2 x3 x4 x5 x6 x7 x8 x9 x10 x11 x12 x13 x14 : Value} {y : List Deferred} {G : Act → Prop} (hs : a.tmps.size = z) (hd : a.defers = y) (h0 : a.tmps.getD k0 undef = x0) (h1 : a.tmps.getD k1 undef = x1) (h2 : a.tmps.getD k2 undef = x2) (h3 : a.tmps.getD k3 undef = x3) (h4 : a.tmps.getD k4 undef = x4) (h5 : a.tmps.getD k5 undef = x5) (h6 : a.tmps.getD k6 undef = x6) (h7 : a.tmps.getD k7 undef = x7) (h8 : a.tmps.getD k8 undef = x8) (h9 : a.tmps.getD k9 undef = x9) (h10 : a.tmps.getD k10 undef = x10) (h11 : a.tmps.getD k11 undef = x11) (h12 : a.tmps.getD k12 undef = x12) (h13 : a.tmps.getD k13 undef = x13) (h14 : a.tmps.getD k14 undef = x14) (g : ∀ b : Act, b.tmps.size = z → b.defers = y → b.tmps.getD k0 undef = x0 → b.tmps.getD k1 undef = x1 → b.tmps.getD k2 undef = x2 → b.tmps.getD k3 undef = x3 → b.tmps.getD k4 undef = x4 → b.tmps.getD k5 undef = x5 → b.tmps.getD k6 undef = x6 → b.tmps.getD k7 undef = x7 → b.tmps.getD k8 undef = x8 → b.tmps.getD k9 undef = x9 → b.tmps.getD k10 undef = x10 → b.tmps.getD k11 undef = x11 → b.tmps.getD k12 undef = x12 → b.tmps.getD k13 undef = x13 → b.tmps.getD k14 undef = x14 → b.tmps.getD d undef = v → G b) (e : (Nat.beq k0 d || (Nat.beq k1 d || (Nat.beq k2 d || (Nat.beq k3 d || (Nat.beq k4 d || (Nat.beq k5 d || (Nat.beq k6 d || (Nat.beq k7 d || (Nat.beq k8 d || (Nat.beq k9 d || (Nat.beq k10 d || (Nat.beq k11 d || (Nat.beq k12 d || (Nat.beq k13 d || (Nat.beq k14 d || false))))))))))))))) = false := by rfl) : ∀ b, Fr d v a b → G b := frM15 g e hs hd h0 h1 h2 h3 h4 h5 h6 h7 h8 h9 h10 h11 h12 h13 h14
theorem frM16 {a : Act} {d z k0 k1 k2 k3 k4 k5 k6 k7 k8 k9 k10 k11 k12 k13 k14 k15 : Nat} {v x0 x1 x2 x3 x4 x5 x6 x7 x8 x9 x10 x11 x12 x13 x14 x15 : Value} {y : List Deferred} {G : Act → Prop} (g : ∀ b : Act, b.tmps.size = z → b.defers = y → b.tmps.getD k0 undef = x0 → b.tmps.getD k1 undef = x1 → b.tmps.getD k2 undef = x2 → b.tmps.getD k3 undef = x3 → b.tmps.getD k4 undef = x4 → b.tmps.getD k5 undef = x5 → b.tmps.getD k6 undef = x6 → b.tmps.getD k7 undef = x7 → b.tmps.getD k8 undef = x8 → b.tmps.getD k9 undef = x9 → b.tmps.getD k10 undef = x10 → b.tmps.getD k11 undef = x11 → b.tmps.getD k12 undef = x12 → b.tmps.getD k13 undef = x13 → b.tmps.getD k14 undef = x14 → b.tmps.getD k15 undef = x15 → b.tmps.getD d undef = v → G b) (e : (Nat.beq k0 d || (Nat.beq k1 d || (Nat.beq k2 d || (Nat.beq k3 d || (Nat.beq k4 d || (Nat.beq k5 d || (Nat.beq k6 d || (Nat.beq k7 d || (Nat.beq k8 d || (Nat.beq k9 d || (Nat.beq k10 d || (Nat.beq k11 d || (Nat.beq k12 d || (Nat.beq k13 d || (Nat.beq k14 d || (Nat.beq k15 d || false)))))))))))))))) = false := by rfl) : a.tmps.size = z → a.defers = y → a.tmps.getD k0 undef = x0 → a.tmps.getD k1 undef = x1 → a.tmps.getD k2 undef = x2 → a.tmps.getD k3 undef = x3 → a.tmps.getD k4 undef = x4 → a.tmps.getD k5 undef = x5 → a.tmps.getD k6 undef = x6 → a.tmps.getD k7 undef = x7 → a.tmps.getD k8 undef = x8 → a.tmps.getD k9 undef = x9 → a.tmps.getD k10 undef = x10 → a.tmps.getD k11 undef = x11 → a.tmps.getD k12 undef = x12 → a.tmps.getD k13 undef = x13 → a.tmps.getD k14 undef = x14 → a.tmps.getD k15 undef = x15 → ∀ b, Fr d v a b → G b := by
  intro hs hd h0 h1 h2 h3 h4 h5 h6 h7 h8 h9 h10 h11 h12 h13 h14 h15 b F
  have e0 := frA e; replace e := frB e
  have e1 := frA e; replace e := frB e
  have e2 := frA e; replace e := frB e
  have e3 := frA e; replace e := frB e
  have e4 := frA e; replace e := frB e
  have e5 := frA e; replace e := frB e
  have e6 := frA e; replace e := frB e
  have e7 := frA e; replace e := frB e
  have e8 := frA e; replace e := frB e
  have e9 := frA e; replace e := frB e
  have e10 := frA e; replace e := frB e
  have e11 := frA e; replace e := frB e
  have e12 := frA e; replace e := frB e
  have e13 := frA e; replace e := frB e
  have e14 := frA e; replace e := frB e
  have e15 := frA e; replace e := frB e
  exact g b (F.z.trans hs) (F.e.trans hd) ((F.n _ e0).trans h0) ((F.n _ e1).trans h1) ((F.n _ e2).trans h2) ((F.n _ e3).trans h3) ((F.n _ e4).trans h4) ((F.n _ e5).trans h5) ((F.n _ e6).trans h6) ((F.n _ e7).trans h7) ((F.n _ e8).trans h8) ((F.n _ e9).trans h9) ((F.n _ e10).trans h10) ((F.n _ e11).trans h11) ((F.n _ e12).trans h12) ((F.n _ e13).trans h13) ((F.n _ e14).trans h14) ((F.n _ e15).trans h15) F.s
theorem frN16 {a : Act} {d z k0 k1 k2 k3 k4 k5 k6 k7 k8 k9 k10 k11 k12 k13 k14 k15 : Nat} {v x0 x1 x2 x3 x4 x5 x6 x7 x8 x9 x10 x11 x12 x13 x14 x15 : Value} {y : List Deferred} {G : Act → Prop} (hs : a.tmps.size = z) (hd : a.defers = y) (h0 : a.tmps.getD k0 undef = x0) (h1 : a.tmps.getD k1 undef = x1) (h2 : a.tmps.getD k2 undef = x2) (h3 : a.tmps.getD k3 undef = x3) (h4 : a.tmps.getD k4 undef = x4) (h5 : a.tmps.getD k5 undef = x5) (h6 : a.tmps.getD k6 undef = x6) (h7 : a.tmps.getD k7 undef = x7) (h8 : a.tmps.getD k8 undef = x8) (h9 : a.tmps.getD k9 undef = x9) (h10 : a.tmps.getD k10 undef = x10) (h11 : a.tmps.getD k11 undef = x11) (h12 : a.tmps.getD k12 undef = x12) (h13 : a.tmps.getD k13 undef = x13) (h14 : a.tmps.getD k14 undef = x14) (h15 : a.tmps.getD k15 undef = x15) (g : ∀ b : Act, b.tmps.size = z → b.defers = y → b.tmps.getD k0 undef = x0 → b.tmps.getD k1 undef = x1 → b.tmps.getD k2 undef = x2 → b.tmps.getD k3 undef = x3 → b.tmps.getD k4 undef = x4 → b.tmps.getD k5 undef = x5 → b.tmps.getD k6 undef = x6 → b.tmps.getD k7 undef = x7 → b.tmps.getD k8 undef = x8 → b.tmps.getD k9 undef = x9 → b.tmps.getD k10 undef = x10 → b.tmps.getD k11 undef = x11 → b.tmps.getD k12 undef = x12 → b.tmps.getD k13 undef = x13 → b.tmps.getD k14 undef = x14 → b.tmps.getD k15 undef = x15 → b.tmps.getD d undef = v → G b) (e : (Nat.beq k0 d || (Nat.beq k1 d || (Nat.beq k2 d || (Nat.beq k3 d || (Nat.beq k4 d || (Nat.beq k5 d || (Nat.beq k6 d || (Nat.beq k7 d || (Nat.beq k8 d || (Nat.beq k9 d || (Nat.beq k10 d || (Nat.beq k11 d || (Nat.beq k12 d || (Nat.beq k13 d || (Nat.beq k14 d || (Nat.beq k15 d || false)))))))))))))))) = false := by rfl) : ∀ b, Fr d v a b → G b := frM16 g e hs hd h0 h1 h2 h3 h4 h5 h6 h7 h8 h9 h10 h11 h12 h13 h14 h15
end Go.Proofs.YtocpmljkmdpfkaaGreatDoor
