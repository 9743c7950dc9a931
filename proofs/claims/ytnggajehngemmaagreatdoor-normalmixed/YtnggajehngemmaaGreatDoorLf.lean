/-
  A region that draws its order, walked over a frame that is a letter: the laws of one step.
-/
import Derived.Test.YtnggajehngemmaaGreatDoorR6
import Derived.Deep.RegionHeld3
namespace Go.Proofs.YtnggajehngemmaaGreatDoor
open Go.RowKit

/-- the operations of a region, by its number -/
def regOf (n : Nat) : Code → Option (Array Oper)
  | .region id ops _ => if id = n then some ops else none
  | .seq x y => match regOf n x with
    | some o => some o
    | none => regOf n y
  | .cond _ x y => match regOf n x with
    | some o => some o
    | none => regOf n y
  | .block _ c => regOf n c
  | .loop c => regOf n c
  | .scope c => regOf n c
  | _ => none

theorem put_get {a : Act} {d : Nat} {v : Value} (h : d < a.tmps.size) : (a.put (some d) v).tmps.getD d undef = v := by simp [Act.put, h]
theorem put_ne {a : Act} {d t : Nat} {v : Value} (h : d ≠ t) : (a.put (some d) v).tmps.getD t undef = a.tmps.getD t undef := by
  simp [Act.put, h]
theorem put_size {a : Act} {d : Nat} {v : Value} : (a.put (some d) v).tmps.size = a.tmps.size := by simp [Act.put]

section
variable {P : Program} {ops : Array Oper} {Q : Exit → Act → World → Prop} {S : World → Prop} {fuel : Nat} {listed : Array Bool} {a : Act} {w : World}
/-- at a panic Q does not look at the frame -/
def Blind (Q : Exit → Act → World → Prop) : Prop := ∀ c a b w, Q (.panic c) a w → Q (.panic c) b w
theorem step_take (i d : Nat) {v : Value} (hQ : Blind Q) (hd : (ops[i]?).map (·.dst) = some (some d)) (hs : Region.noSelect ops = true) (hf : Region.free .any ops listed i = true)
    (hr : (Region.ready .any ops listed).contains i = true) (hS : S w) (hy : ∀ o, ops[i]? = some o → YieldsIf P ops S o v a)
    (h : wpAnyH P .any ops Q S fuel (listed.setIfInBounds i true) (a.put (some d) v) w) : wpAnyH P .any ops Q S (fuel + 1) listed a w := by
  cases ho : ops[i]? with
  | none => rw [ho] at hd; cases hd
  | some o =>
    rw [ho] at hd
    have e : o.dst = some d := by simpa using hd
    exact wpAnyH_take ho hs hf hr (fun _ _ _ q => hQ _ _ _ _ q) (hy o ho) hS (by rw [e]; exact h)
theorem step_skip (i d : Nat) (hQ : Blind Q) (hd : (ops[i]?).map (·.dst) = some (some d)) (hs : Region.noSelect ops = true) (hf : Region.free .any ops listed i = true)
    (hr : (Region.ready .any ops listed).contains i = true) (hS : S w) (hy : ∀ o, ops[i]? = some o → Region.wanted o (yielded ops a.tmps) = false)
    (h : wpAnyH P .any ops Q S fuel (listed.setIfInBounds i true) (a.put (some d) undef) w) : wpAnyH P .any ops Q S (fuel + 1) listed a w :=
  step_take i d hQ hd hs hf hr hS (fun o ho => .inr ⟨hy o ho, rfl⟩) h
theorem step_do (i : Nat) (hr : Region.ready .any ops listed = [i])
    (h : ∀ o, ops[i]? = some o → ∀ K' : Act → World → Prop, Shut (∀ a w, S w → (S w → wpAnyH P .any ops Q S fuel (listed.setIfInBounds i true) a w) → K' a w) → if Region.wanted o (yielded ops a.tmps) = true then Oper.wp P o a w K' Q else K' (a.put o.dst undef) w) :
    wpAnyH P .any ops Q S (fuel + 1) listed a w := by
  have hi : i ∈ Region.ready .any ops listed := by rw [hr]; exact List.mem_singleton.2 rfl
  obtain ⟨_, o, ho, _⟩ := mem_ready.1 hi
  exact wpAnyH_ready hr (by simp) (AllReadyH.cons ho (h o ho) AllReadyH.nil)
end

/-- the first loop's body in a text -/
def loopC : Code → Option Code
  | .loop c => some c
  | .seq x y => match loopC x with
    | some o => some o
    | none => loopC y
  | .cond _ x y => match loopC x with
    | some o => some o
    | none => loopC y
  | .block _ c => loopC c
  | .scope c => loopC c
  | _ => none

/-- what a statement leaves of a frame: all but the slots lo to hi, and x -/
def Keep (lo hi x : Nat) (t u : Array Value) : Prop := u.size = t.size ∧ ∀ k, k ≠ x → (k < lo ∨ hi < k) → u.getD k undef = t.getD k undef
theorem Keep.refl (lo hi x : Nat) (t : Array Value) : Keep lo hi x t t := ⟨rfl, fun _ _ _ => rfl⟩
theorem set_ne {u : Array Value} {d k : Nat} {v : Value} (h : d ≠ k) : (u.setIfInBounds d v).getD k undef = u.getD k undef := by simp [h]
theorem set_get {u : Array Value} {d : Nat} {v : Value} (h : d < u.size) : (u.setIfInBounds d v).getD d undef = v := by simp [h]
theorem Keep.set {lo hi x : Nat} {t u : Array Value} (h : Keep lo hi x t u) (d : Nat) (v : Value) (hd : d = x ∨ lo ≤ d ∧ d ≤ hi) : Keep lo hi x t (u.setIfInBounds d v) :=
  ⟨by simpa using h.1, fun k h1 h2 => by rw [set_ne (by omega)]; exact h.2 k h1 h2⟩

/-- a statement, cut off: what holds behind it -/
theorem cut_at {P : Program} {s : Code} {K : Act → World → Prop} {Q : Exit → Act → World → Prop} {a : Act} {w : World} (R : Act → World → Prop)
    (first : s.wp P (Exit.then R Q) a w) (rest : ∀ a' w', R a' w' → K a' w') : s.wp P (Exit.then K Q) a w :=
  wp_mono first fun e a' w' h => by
    cases e with
    | normal => exact rest a' w' h
    | exit id => exact h
    | goto l => exact h
    | ret => exact h
    | panic c => exact h
    | outgrown => exact h
theorem blind_then {K : Act → World → Prop} {Q : Exit → Act → World → Prop} (h : Blind Q) : Blind (Exit.then K Q) := fun c a b w q => h c a b w q
theorem blind_block {n : Nat} {Q : Exit → Act → World → Prop} (h : Blind Q) : Blind (Exit.inBlock n Q) := fun c a b w q => h c a b w q
theorem getD_at {a : Act} {t : Nat} {v : Value} (h : a.tmps.getD t undef = v) : ∀ q : t < a.tmps.size, a.tmps[t]'q = v := fun q => by simpa [Array.getD, q] using h
end Go.Proofs.YtnggajehngemmaaGreatDoor
/-
  One operation's answer, for an operation known by its text.
-/
namespace Go.Proofs.YtnggajehngemmaaGreatDoor
open Go.RowKit
theorem ev_tmp {a : Act} {t : Nat} {v : Value} (h : a.tmps.getD t undef = v) : a.eval (.tmp t) = v := h
section
variable {P : Program} {w : World} {ρ : Operand → Value} {o : Oper}
theorem k_move {x : Operand} {v : Value} (ho : o.op = .move x) (hx : ρ x = v) : (execOp ρ o).run P w = .ok (.value v) w := by
  simp only [execOp, ho, hx]; rfl
theorem k_pick_yes {c x y : Operand} {v : Value} (ho : o.op = .pick c x y) (hc : ρ c = .bool true) (hx : ρ x = v) : (execOp ρ o).run P w = .ok (.value v) w := by
  simp only [execOp, ho, hc, hx]; rfl
theorem k_pick_no {c x y : Operand} {v : Value} (ho : o.op = .pick c x y) (hc : ρ c = .bool false) (hy : ρ y = v) : (execOp ρ o).run P w = .ok (.value v) w := by
  simp only [execOp, ho, hc, hy]; rfl
end
section
variable {w : World} {ρ : Operand → Value} {o : Oper} {x y : Operand} {b : Nat} {ad : Addr} {v : Value}
theorem k_field0 (ho : o.op = .fieldAddr 36 x 0) (hx : ρ x = .pointer (some ⟨b, 0, none⟩)) : (execOp ρ o).run Tryz.prog w = .ok (.value (.pointer (some ⟨b, 0, none⟩))) w := by
  simp only [execOp, ho, hx]
  go_simp
theorem k_field1 (ho : o.op = .fieldAddr 36 x 1) (hx : ρ x = .pointer (some ⟨b, 0, none⟩)) : (execOp ρ o).run Tryz.prog w = .ok (.value (.pointer (some ⟨b, 1, none⟩))) w := by
  simp only [execOp, ho, hx]
  go_simp
theorem k_field2 (ho : o.op = .fieldAddr 36 x 2) (hx : ρ x = .pointer (some ⟨b, 0, none⟩)) : (execOp ρ o).run Tryz.prog w = .ok (.value (.pointer (some ⟨b, 2, none⟩))) w := by
  simp only [execOp, ho, hx]
  go_simp
theorem k_field3 (ho : o.op = .fieldAddr 36 x 3) (hx : ρ x = .pointer (some ⟨b, 0, none⟩)) : (execOp ρ o).run Tryz.prog w = .ok (.value (.pointer (some ⟨b, 3, none⟩))) w := by
  simp only [execOp, ho, hx]
  go_simp
theorem k_field4 (ho : o.op = .fieldAddr 36 x 4) (hx : ρ x = .pointer (some ⟨b, 0, none⟩)) : (execOp ρ o).run Tryz.prog w = .ok (.value (.pointer (some ⟨b, 4, none⟩))) w := by
  simp only [execOp, ho, hx]
  go_simp
theorem k_field5 (ho : o.op = .fieldAddr 36 x 5) (hx : ρ x = .pointer (some ⟨b, 0, none⟩)) : (execOp ρ o).run Tryz.prog w = .ok (.value (.pointer (some ⟨b, 5, none⟩))) w := by
  simp only [execOp, ho, hx]
  go_simp
theorem k_field6 (ho : o.op = .fieldAddr 36 x 6) (hx : ρ x = .pointer (some ⟨b, 0, none⟩)) : (execOp ρ o).run Tryz.prog w = .ok (.value (.pointer (some ⟨b, 6, none⟩))) w := by
  simp only [execOp, ho, hx]
  go_simp
theorem k_field7 (ho : o.op = .fieldAddr 36 x 7) (hx : ρ x = .pointer (some ⟨b, 0, none⟩)) : (execOp ρ o).run Tryz.prog w = .ok (.value (.pointer (some ⟨b, 7, none⟩))) w := by
  simp only [execOp, ho, hx]
  go_simp
theorem k_loadI {n : Int} (ho : o.op = .load 3 x) (hx : ρ x = .pointer (some ad)) (hc : w.cell? ad = some (.int .i64 n)) : (execOp ρ o).run Tryz.prog w = .ok (.value (.int .i64 n)) w := by
  simp only [execOp, ho, hx]
  go_simp
theorem k_loadF {n : Int} (ho : o.op = .load 31 x) (hx : ρ x = .pointer (some ad)) (hc : w.cell? ad = some (.int .i64 n)) : (execOp ρ o).run Tryz.prog w = .ok (.value (.int .i64 n)) w := by
  simp only [execOp, ho, hx]
  go_simp
theorem k_loadU {n : Int} (ho : o.op = .load 32 x) (hx : ρ x = .pointer (some ad)) (hc : w.cell? ad = some (.int .i64 n)) : (execOp ρ o).run Tryz.prog w = .ok (.value (.int .i64 n)) w := by
  simp only [execOp, ho, hx]
  go_simp
theorem k_loadL {A : Option Addr} {n c : Nat} (ho : o.op = .load 33 x) (hx : ρ x = .pointer (some ad)) (hc : w.cell? ad = some (.slice A n c)) : (execOp ρ o).run Tryz.prog w = .ok (.value (.slice A n c)) w := by
  simp only [execOp, ho, hx]
  go_simp
theorem k_loadW {A : Option Addr} {n c : Nat} (ho : o.op = .load 34 x) (hx : ρ x = .pointer (some ad)) (hc : w.cell? ad = some (.slice A n c)) : (execOp ρ o).run Tryz.prog w = .ok (.value (.slice A n c)) w := by
  simp only [execOp, ho, hx]
  go_simp
theorem k_lenL {A : Option Addr} {n c : Nat} (ho : o.op = .call ⟨.builtin .len, #[x], #[33]⟩) (hx : ρ x = .slice A n c) : (execOp ρ o).run Tryz.prog w = .ok (.value (.int .i64 n)) w := by
  simp only [execOp, ho]
  go_simp
theorem k_lenW {A : Option Addr} {n c : Nat} (ho : o.op = .call ⟨.builtin .len, #[x], #[34]⟩) (hx : ρ x = .slice A n c) : (execOp ρ o).run Tryz.prog w = .ok (.value (.int .i64 n)) w := by
  simp only [execOp, ho]
  go_simp
theorem k_lt {n m : Int} {r : Bool} (ho : o.op = .binOp .lss 3 x (.const (.int .i64 m)) 3) (hx : ρ x = .int .i64 n) (hc : ρ (.const (.int .i64 m)) = .int .i64 m) (hr : (decide (n < m)) = r) : (execOp ρ o).run Tryz.prog w = .ok (.value (.bool r)) w := by
  subst hr
  simp only [execOp, ho, hx, hc]
  go_simp
theorem k_gt {n m : Int} {r : Bool} (ho : o.op = .binOp .gtr 3 x (.const (.int .i64 m)) 3) (hx : ρ x = .int .i64 n) (hc : ρ (.const (.int .i64 m)) = .int .i64 m) (hr : (decide (m < n)) = r) : (execOp ρ o).run Tryz.prog w = .ok (.value (.bool r)) w := by
  subst hr
  simp only [execOp, ho, hx, hc]
  go_simp
theorem k_eq {n m : Int} {r : Bool} (ho : o.op = .binOp .eql 3 x (.const (.int .i64 m)) 3) (hx : ρ x = .int .i64 n) (hc : ρ (.const (.int .i64 m)) = .int .i64 m) (hr : (n == m) = r) : (execOp ρ o).run Tryz.prog w = .ok (.value (.bool r)) w := by
  subst hr
  simp only [execOp, ho, hx, hc]
  go_simp
theorem k_eqF {n m : Int} {r : Bool} (ho : o.op = .binOp .eql 31 x (.const (.int .i64 m)) 31) (hx : ρ x = .int .i64 n) (hc : ρ (.const (.int .i64 m)) = .int .i64 m) (hr : (n == m) = r) : (execOp ρ o).run Tryz.prog w = .ok (.value (.bool r)) w := by
  subst hr
  simp only [execOp, ho, hx, hc]
  go_simp
theorem k_neU {n m : Int} {r : Bool} (ho : o.op = .binOp .neq 32 x (.const (.int .i64 m)) 32) (hx : ρ x = .int .i64 n) (hc : ρ (.const (.int .i64 m)) = .int .i64 m) (hr : (n != m) = r) : (execOp ρ o).run Tryz.prog w = .ok (.value (.bool r)) w := by
  subst hr
  simp only [execOp, ho, hx, hc]
  go_simp
theorem k_ltU {n m : Int} {r : Bool} (ho : o.op = .binOp .lss 32 x (.const (.int .i64 m)) 32) (hx : ρ x = .int .i64 n) (hc : ρ (.const (.int .i64 m)) = .int .i64 m) (hr : (decide (n < m)) = r) : (execOp ρ o).run Tryz.prog w = .ok (.value (.bool r)) w := by
  subst hr
  simp only [execOp, ho, hx, hc]
  go_simp
theorem k_gtU {n m : Int} {r : Bool} (ho : o.op = .binOp .gtr 32 x (.const (.int .i64 m)) 32) (hx : ρ x = .int .i64 n) (hc : ρ (.const (.int .i64 m)) = .int .i64 m) (hr : (decide (m < n)) = r) : (execOp ρ o).run Tryz.prog w = .ok (.value (.bool r)) w := by
  subst hr
  simp only [execOp, ho, hx, hc]
  go_simp
end
end Go.Proofs.YtnggajehngemmaaGreatDoor
/-
  Guards of operations; one operation over a frame that is a letter.
-/
namespace Go.Proofs.YtnggajehngemmaaGreatDoor
open Go.RowKit
section
variable {P : Program} {ops : Array Oper} {Q : Exit → Act → World → Prop} {a : Act} {w : World}
/-- one operation: behind it the frame is a letter again -/
theorem opsL (i d : Nat) {v : Value} {rest : List Nat} (hd : (ops[i]?).map (·.dst) = some (some d)) (hz : d < a.tmps.size)
    (hy : ∀ o, ops[i]? = some o → (Region.wanted o (yielded ops a.tmps) = true ∧ (execOp a.eval o).run P w = .ok (.value v) w) ∨ (Region.wanted o (yielded ops a.tmps) = false ∧ v = undef))
    (h : ∀ a' : Act, a'.tmps.size = a.tmps.size → a'.tmps.getD d undef = v → (∀ k, k ≠ d → a'.tmps.getD k undef = a.tmps.getD k undef) → a'.defers = a.defers → wpOps P ops Q rest a' w) :
    wpOps P ops Q (i :: rest) a w := by
  have h' := h (a.put (some d) v) put_size (put_get hz) (fun k hk => put_ne (Ne.symm hk)) rfl
  cases ho : ops[i]? with
  | none => rw [ho] at hd; cases hd
  | some o =>
    rw [ho] at hd
    have e : o.dst = some d := by simpa using hd
    rw [wpOps_cons]
    rcases hy o ho with ⟨h1, h2⟩ | ⟨h1, rfl⟩
    · simp only [wpOp, ho, h1, if_true]
      left
      unfold Oper.wp
      rw [h2, Oper.upon_value, e]
      exact h'
    · simp only [wpOp, ho, h1]
      rw [e]
      exact h'
theorem wanted_at {o : Oper} {t : Array Value} {j d : Nat} {want b : Bool} (hg : o.guard = some (j, want)) (hj : (ops[j]?).bind (·.dst) = some d) (hv : t.getD d undef = .bool b) :
    Region.wanted o (yielded ops t) = (b == want) := by
  have hd : d < t.size := by
    apply Classical.byContradiction
    intro h
    simp [Array.getD, h, undef] at hv
  have h2 : t[d]? = some (.bool b) := by
    rw [Array.getElem?_eq_getElem hd]
    simpa [Array.getD, hd] using hv
  simp only [Region.wanted, hg, yielded, hj, Option.bind_some, h2]
  cases b <;> cases want <;> rfl
theorem wanted_not {o : Oper} {t : Array Value} {j d : Nat} {want : Bool} (hg : o.guard = some (j, want)) (hj : (ops[j]?).bind (·.dst) = some d) (hv : t.getD d undef = undef) :
    Region.wanted o (yielded ops t) = false := by
  simp only [Region.wanted, hg, yielded, hj, Option.bind_some]
  by_cases hd : d < t.size
  · have h2 : t[d]? = some undef := by
      rw [Array.getElem?_eq_getElem hd]
      simpa [Array.getD, hd] using hv
    rw [h2]
    cases want <;> rfl
  · have h2 : t[d]? = none := by simpa using hd
    rw [h2]
    cases want <;> rfl
theorem Keep.step {lo hi x d : Nat} {t u u' : Array Value} (h : Keep lo hi x t u) (z : u'.size = u.size) (n : ∀ k, k ≠ d → u'.getD k undef = u.getD k undef) (hd : d = x ∨ lo ≤ d ∧ d ≤ hi) : Keep lo hi x t u' :=
  ⟨z.trans h.1, fun k h1 h2 => (n k (by omega)).trans (h.2 k h1 h2)⟩
end
end Go.Proofs.YtnggajehngemmaaGreatDoor
/-
  Steps over a frame that is a letter: behind each operation the frame is a letter again, with what it holds as facts.
-/
namespace Go.Proofs.YtnggajehngemmaaGreatDoor
open Go.RowKit
/-- the frame a' is a with slot d set to v -/
structure Fr (d : Nat) (v : Value) (a a' : Act) : Prop where
  z : a'.tmps.size = a.tmps.size
  s : a'.tmps.getD d undef = v
  n : ∀ k, k ≠ d → a'.tmps.getD k undef = a.tmps.getD k undef
  e : a'.defers = a.defers
theorem fr_put {a : Act} {d : Nat} {v : Value} (h : d < a.tmps.size) : Fr d v a (a.put (some d) v) :=
  ⟨put_size, put_get h, fun _ hk => put_ne (Ne.symm hk), rfl⟩
section
variable {P : Program} {ops : Array Oper} {Q : Exit → Act → World → Prop} {S : World → Prop} {fuel : Nat} {listed : Array Bool} {a : Act} {w w' : World} {v : Value}
theorem dst_of {i : Nat} {o : Oper} {x : Option Tmp} (hd : (ops[i]?).map (·.dst) = some x) (ho : ops[i]? = some o) : o.dst = x := by
  rw [ho] at hd; simpa using hd
theorem some_of {i : Nat} {x : Option Tmp} (hd : (ops[i]?).map (·.dst) = some x) : ∃ o, ops[i]? = some o := by
  cases ho : ops[i]? with
  | none => rw [ho] at hd; cases hd
  | some o => exact ⟨o, rfl⟩
/-- plain region: a value, and the world goes on -/
theorem opL (i d : Nat) {rest : List Nat} (hd : (ops[i]?).map (·.dst) = some (some d)) (hz : d < a.tmps.size)
    (hy : ∀ o, ops[i]? = some o → Region.wanted o (yielded ops a.tmps) = true ∧ (execOp a.eval o).run P w = .ok (.value v) w')
    (h : ∀ a' : Act, Fr d v a a' → wpOps P ops Q rest a' w') : wpOps P ops Q (i :: rest) a w := by
  obtain ⟨o, ho⟩ := some_of hd
  obtain ⟨h1, h2⟩ := hy o ho
  rw [wpOps_cons]
  simp only [wpOp, ho, h1, if_true]
  left
  unfold Oper.wp
  rw [h2, Oper.upon_value, dst_of hd ho]
  exact h _ (fr_put hz)
/-- plain region: passed over -/
theorem opL_not (i d : Nat) {rest : List Nat} (hd : (ops[i]?).map (·.dst) = some (some d)) (hz : d < a.tmps.size)
    (hy : ∀ o, ops[i]? = some o → Region.wanted o (yielded ops a.tmps) = false)
    (h : ∀ a' : Act, Fr d undef a a' → wpOps P ops Q rest a' w) : wpOps P ops Q (i :: rest) a w := by
  obtain ⟨o, ho⟩ := some_of hd
  rw [wpOps_cons]
  simp only [wpOp, ho, hy o ho]
  rw [dst_of hd ho]
  exact h _ (fr_put hz)
/-- plain region: a store -/
theorem opL_store (i : Nat) {rest : List Nat} (hd : (ops[i]?).map (·.dst) = some none)
    (hy : ∀ o, ops[i]? = some o → Region.wanted o (yielded ops a.tmps) = true ∧ (execOp a.eval o).run P w = .ok .skip w')
    (h : wpOps P ops Q rest a w') : wpOps P ops Q (i :: rest) a w := by
  obtain ⟨o, ho⟩ := some_of hd
  obtain ⟨h1, h2⟩ := hy o ho
  rw [wpOps_cons]
  simp only [wpOp, ho, h1, if_true]
  left
  unfold Oper.wp
  rw [h2, Oper.upon_skip, dst_of hd ho]
  exact h
/-- plain region: a call -/
theorem opL_call (i d : Nat) {rest : List Nat} {f : FuncId} {args : Array Value} {R : Value → World → Prop} (hd : (ops[i]?).map (·.dst) = some (some d)) (hz : d < a.tmps.size)
    (hy : ∀ o, ops[i]? = some o → Region.wanted o (yielded ops a.tmps) = true ∧ (execOp a.eval o).run P w = .ok (.enter f args) w)
    (hc : Calls P f args w fun e w' => ∃ v, e = .returned v ∧ R v w')
    (h : ∀ (v : Value) (w' : World) (a' : Act), R v w' → Fr d v a a' → wpOps P ops Q rest a' w') : wpOps P ops Q (i :: rest) a w := by
  obtain ⟨o, ho⟩ := some_of hd
  obtain ⟨h1, h2⟩ := hy o ho
  rw [wpOps_cons]
  simp only [wpOp, ho, h1, if_true]
  left
  unfold Oper.wp
  rw [h2, Oper.upon_enter]
  refine hc.mono ?_
  rintro e w' ⟨v, rfl, hR⟩
  show wpOps P ops Q rest (a.put o.dst v) w'
  rw [dst_of hd ho]
  exact h v w' _ hR (fr_put hz)
/-- drawn region: a value, in every world that meets S -/
theorem heldL (i d : Nat) (hQ : Blind Q) (hd : (ops[i]?).map (·.dst) = some (some d)) (hz : d < a.tmps.size) (hs : Region.noSelect ops = true) (hf : Region.free .any ops listed i = true)
    (hr : (Region.ready .any ops listed).contains i = true) (hS : S w)
    (hy : ∀ o, ops[i]? = some o → (Region.wanted o (yielded ops a.tmps) = true ∧ ∀ w, S w → (execOp a.eval o).run P w = .ok (.value v) w) ∨ (Region.wanted o (yielded ops a.tmps) = false ∧ v = undef))
    (h : ∀ a' : Act, Fr d v a a' → wpAnyH P .any ops Q S fuel (listed.setIfInBounds i true) a' w) : wpAnyH P .any ops Q S (fuel + 1) listed a w :=
  step_take i d hQ hd hs hf hr hS hy (h _ (fr_put hz))
/-- drawn region: one that must come now -/
theorem heldL_do (i d : Nat) (hr : Region.ready .any ops listed = [i]) (hd : (ops[i]?).map (·.dst) = some (some d)) (hz : d < a.tmps.size)
    (hy : ∀ o, ops[i]? = some o → Region.wanted o (yielded ops a.tmps) = true ∧ (execOp a.eval o).run P w = .ok (.value v) w') (hS : S w')
    (h : ∀ a' : Act, Fr d v a a' → wpAnyH P .any ops Q S fuel (listed.setIfInBounds i true) a' w') : wpAnyH P .any ops Q S (fuel + 1) listed a w := by
  refine step_do i hr ?_
  intro o ho K hK
  obtain ⟨h1, h2⟩ := hy o ho
  rw [if_pos h1]
  unfold Oper.wp
  rw [h2, Oper.upon_value, dst_of hd ho]
  exact hK.out _ _ hS (fun _ => h _ (fr_put hz))
/-- drawn region: a store that must come now -/
theorem heldL_store (i : Nat) (hr : Region.ready .any ops listed = [i]) (hd : (ops[i]?).map (·.dst) = some none)
    (hy : ∀ o, ops[i]? = some o → Region.wanted o (yielded ops a.tmps) = true ∧ (execOp a.eval o).run P w = .ok .skip w') (hS : S w')
    (h : wpAnyH P .any ops Q S fuel (listed.setIfInBounds i true) a w') : wpAnyH P .any ops Q S (fuel + 1) listed a w := by
  refine step_do i hr ?_
  intro o ho K hK
  obtain ⟨h1, h2⟩ := hy o ho
  rw [if_pos h1]
  unfold Oper.wp
  rw [h2, Oper.upon_skip, dst_of hd ho]
  exact hK.out _ _ hS (fun _ => h)
/-- drawn region: a call that must come now -/
theorem heldL_call (i d : Nat) {f : FuncId} {args : Array Value} {R : Value → World → Prop} (hr : Region.ready .any ops listed = [i]) (hd : (ops[i]?).map (·.dst) = some (some d)) (hz : d < a.tmps.size)
    (hy : ∀ o, ops[i]? = some o → Region.wanted o (yielded ops a.tmps) = true ∧ (execOp a.eval o).run P w = .ok (.enter f args) w)
    (hc : Calls P f args w fun e w' => ∃ v, e = .returned v ∧ R v w') (hS : ∀ v w', R v w' → S w')
    (h : ∀ (v : Value) (w' : World) (a' : Act), R v w' → Fr d v a a' → wpAnyH P .any ops Q S fuel (listed.setIfInBounds i true) a' w') : wpAnyH P .any ops Q S (fuel + 1) listed a w := by
  refine step_do i hr ?_
  intro o ho K hK
  obtain ⟨h1, h2⟩ := hy o ho
  rw [if_pos h1]
  unfold Oper.wp
  rw [h2, Oper.upon_enter]
  refine hc.mono ?_
  rintro e w' ⟨v, rfl, hR⟩
  show K (a.put o.dst v) w'
  rw [dst_of hd ho]
  exact hK.out _ _ (hS v w' hR) (fun _ => h v w' _ hR (fr_put hz))
end
/-! one line behind an operation: what the frame held, it holds; squeeze.py wrote these -/
theorem frY {x : Oper} {u : Oper → Bool} {b : Bool} {R : Oper → Prop} (e : u x = b) (h : R x) : ∀ o, some x = some o → u o = b ∧ R o := by rintro o ⟨⟩; exact ⟨e, h⟩
theorem frZ {x n d : Nat} (h : x = n) (e : Nat.ble (d + 1) n = true := by rfl) : d < x := by subst h; exact Nat.le_of_ble_eq_true e
theorem frA {k d : Nat} {r : Bool} (h : (Nat.beq k d || r) = false) : k ≠ d := by rintro rfl; simp at h
theorem frB {k : Bool} {r : Bool} (h : (k || r) = false) : r = false := by cases k <;> simp_all
theorem frM0 {a : Act} {d z : Nat} {v : Value} {y : List Deferred} {G : Act → Prop} (g : ∀ b : Act, b.tmps.size = z → b.defers = y → b.tmps.getD d undef = v → G b) : a.tmps.size = z → a.defers = y → ∀ b, Fr d v a b → G b := by
  intro hs hd b F
  exact g b (F.z.trans hs) (F.e.trans hd) F.s
theorem frN0 {a : Act} {d z : Nat} {v : Value} {y : List Deferred} {G : Act → Prop} (hs : a.tmps.size = z) (hd : a.defers = y) (g : ∀ b : Act, b.tmps.size = z → b.defers = y → b.tmps.getD d undef = v → G b) : ∀ b, Fr d v a b → G b := frM0 g hs hd
theorem frM1 {a : Act} {d z k0 : Nat} {v x0 : Value} {y : List Deferred} {G : Act → Prop} (g : ∀ b : Act, b.tmps.size = z → b.defers = y → b.tmps.getD k0 undef = x0 → b.tmps.getD d undef = v → G b) (e : (Nat.beq k0 d || false) = false := by rfl) : a.tmps.size = z → a.defers = y → a.tmps.getD k0 undef = x0 → ∀ b, Fr d v a b → G b := by
  intro hs hd h0 b F
  have e0 := frA e; replace e := frB e
  exact g b (F.z.trans hs) (F.e.trans hd) ((F.n _ e0).trans h0) F.s
theorem frN1 {a : Act} {d z k0 : Nat} {v x0 : Value} {y : List Deferred} {G : Act → Prop} (hs : a.tmps.size = z) (hd : a.defers = y) (h0 : a.tmps.getD k0 undef = x0) (g : ∀ b : Act, b.tmps.size = z → b.defers = y → b.tmps.getD k0 undef = x0 → b.tmps.getD d undef = v → G b) (e : (Nat.beq k0 d || false) = false := by rfl) : ∀ b, Fr d v a b → G b := frM1 g e hs hd h0
theorem frM2 {a : Act} {d z k0 k1 : Nat} {v x0 x1 : Value} {y : List Deferred} {G : Act → Prop} (g : ∀ b : Act, b.tmps.size = z → b.defers = y → b.tmps.getD k0 undef = x0 → b.tmps.getD k1 undef = x1 → b.tmps.getD d undef = v → G b) (e : (Nat.beq k0 d || (Nat.beq k1 d || false)) = false := by rfl) : a.tmps.size = z → a.defers = y → a.tmps.getD k0 undef = x0 → a.tmps.getD k1 undef = x1 → ∀ b, Fr d v a b → G b := by
  intro hs hd h0 h1 b F
  have e0 := frA e; replace e := frB e
  have e1 := frA e; replace e := frB e
  exact g b (F.z.trans hs) (F.e.trans hd) ((F.n _ e0).trans h0) ((F.n _ e1).trans h1) F.s
theorem frN2 {a : Act} {d z k0 k1 : Nat} {v x0 x1 : Value} {y : List Deferred} {G : Act → Prop} (hs : a.tmps.size = z) (hd : a.defers = y) (h0 : a.tmps.getD k0 undef = x0) (h1 : a.tmps.getD k1 undef = x1) (g : ∀ b : Act, b.tmps.size = z → b.defers = y → b.tmps.getD k0 undef = x0 → b.tmps.getD k1 undef = x1 → b.tmps.getD d undef = v → G b) (e : (Nat.beq k0 d || (Nat.beq k1 d || false)) = false := by rfl) : ∀ b, Fr d v a b → G b := frM2 g e hs hd h0 h1
theorem frM3 {a : Act} {d z k0 k1 k2 : Nat} {v x0 x1 x2 : Value} {y : List Deferred} {G : Act → Prop} (g : ∀ b : Act, b.tmps.size = z → b.defers = y → b.tmps.getD k0 undef = x0 → b.tmps.getD k1 undef = x1 → b.tmps.getD k2 undef = x2 → b.tmps.getD d undef = v → G b) (e : (Nat.beq k0 d || (Nat.beq k1 d || (Nat.beq k2 d || false))) = false := by rfl) : a.tmps.size = z → a.defers = y → a.tmps.getD k0 undef = x0 → a.tmps.getD k1 undef = x1 → a.tmps.getD k2 undef = x2 → ∀ b, Fr d v a b → G b := by
  intro hs hd h0 h1 h2 b F
  have e0 := frA e; replace e := frB e
  have e1 := frA e; replace e := frB e
  have e2 := frA e; replace e := frB e
  exact g b (F.z.trans hs) (F.e.trans hd) ((F.n _ e0).trans h0) ((F.n _ e1).trans h1) ((F.n _ e2).trans h2) F.s
theorem frN3 {a : Act} {d z k0 k1 k2 : Nat} {v x0 x1 x2 : Value} {y : List Deferred} {G : Act → Prop} (hs : a.tmps.size = z) (hd : a.defers = y) (h0 : a.tmps.getD k0 undef = x0) (h1 : a.tmps.getD k1 undef = x1) (h2 : a.tmps.getD k2 undef = x2) (g : ∀ b : Act, b.tmps.size = z → b.defers = y → b.tmps.getD k0 undef = x0 → b.tmps.getD k1 undef = x1 → b.tmps.getD k2 undef = x2 → b.tmps.getD d undef = v → G b) (e : (Nat.beq k0 d || (Nat.beq k1 d || (Nat.beq k2 d || false))) = false := by rfl) : ∀ b, Fr d v a b → G b := frM3 g e hs hd h0 h1 h2
theorem frM4 {a : Act} {d z k0 k1 k2 k3 : Nat} {v x0 x1 x2 x3 : Value} {y : List Deferred} {G : Act → Prop} (g : ∀ b : Act, b.tmps.size = z → b.defers = y → b.tmps.getD k0 undef = x0 → b.tmps.getD k1 undef = x1 → b.tmps.getD k2 undef = x2 → b.tmps.getD k3 undef = x3 → b.tmps.getD d undef = v → G b) (e : (Nat.beq k0 d || (Nat.beq k1 d || (Nat.beq k2 d || (Nat.beq k3 d || false)))) = false := by rfl) : a.tmps.size = z → a.defers = y → a.tmps.getD k0 undef = x0 → a.tmps.getD k1 undef = x1 → a.tmps.getD k2 undef = x2 → a.tmps.getD k3 undef = x3 → ∀ b, Fr d v a b → G b := by
  intro hs hd h0 h1 h2 h3 b F
  have e0 := frA e; replace e := frB e
  have e1 := frA e; replace e := frB e
  have e2 := frA e; replace e := frB e
  have e3 := frA e; replace e := frB e
  exact g b (F.z.trans hs) (F.e.trans hd) ((F.n _ e0).trans h0) ((F.n _ e1).trans h1) ((F.n _ e2).trans h2) ((F.n _ e3).trans h3) F.s
theorem frN4 {a : Act} {d z k0 k1 k2 k3 : Nat} {v x0 x1 x2 x3 : Value} {y : List Deferred} {G : Act → Prop} (hs : a.tmps.size = z) (hd : a.defers = y) (h0 : a.tmps.getD k0 undef = x0) (h1 : a.tmps.getD k1 undef = x1) (h2 : a.tmps.getD k2 undef = x2) (h3 : a.tmps.getD k3 undef = x3) (g : ∀ b : Act, b.tmps.size = z → b.defers = y → b.tmps.getD k0 undef = x0 → b.tmps.getD k1 undef = x1 → b.tmps.getD k2 undef = x2 → b.tmps.getD k3 undef = x3 → b.tmps.getD d undef = v → G b) (e : (Nat.beq k0 d || (Nat.beq k1 d || (Nat.beq k2 d || (Nat.beq k3 d || false)))) = false := by rfl) : ∀ b, Fr d v a b → G b := frM4 g e hs hd h0 h1 h2 h3
theorem frM5 {a : Act} {d z k0 k1 k2 k3 k4 : Nat} {v x0 x1 x2 x3 x4 : Value} {y : List Deferred} {G : Act → Prop} (g : ∀ b : Act, b.tmps.size = z → b.defers = y → b.tmps.getD k0 undef = x0 → b.tmps.getD k1 undef = x1 → b.tmps.getD k2 undef = x2 → b.tmps.getD k3 undef = x3 → b.tmps.getD k4 undef = x4 → b.tmps.getD d undef = v → G b) (e : (Nat.beq k0 d || (Nat.beq k1 d || (Nat.beq k2 d || (Nat.beq k3 d || (Nat.beq k4 d || false))))) = false := by rfl) : a.tmps.size = z → a.defers = y → a.tmps.getD k0 undef = x0 → a.tmps.getD k1 undef = x1 → a.tmps.getD k2 undef = x2 → a.tmps.getD k3 undef = x3 → a.tmps.getD k4 undef = x4 → ∀ b, Fr d v a b → G b := by
  intro hs hd h0 h1 h2 h3 h4 b F
  have e0 := frA e; replace e := frB e
  have e1 := frA e; replace e := frB e
  have e2 := frA e; replace e := frB e
  have e3 := frA e; replace e := frB e
  have e4 := frA e; replace e := frB e
  exact g b (F.z.trans hs) (F.e.trans hd) ((F.n _ e0).trans h0) ((F.n _ e1).trans h1) ((F.n _ e2).trans h2) ((F.n _ e3).trans h3) ((F.n _ e4).trans h4) F.s
theorem frN5 {a : Act} {d z k0 k1 k2 k3 k4 : Nat} {v x0 x1 x2 x3 x4 : Value} {y : List Deferred} {G : Act → Prop} (hs : a.tmps.size = z) (hd : a.defers = y) (h0 : a.tmps.getD k0 undef = x0) (h1 : a.tmps.getD k1 undef = x1) (h2 : a.tmps.getD k2 undef = x2) (h3 : a.tmps.getD k3 undef = x3) (h4 : a.tmps.getD k4 undef = x4) (g : ∀ b : Act, b.tmps.size = z → b.defers = y → b.tmps.getD k0 undef = x0 → b.tmps.getD k1 undef = x1 → b.tmps.getD k2 undef = x2 → b.tmps.getD k3 undef = x3 → b.tmps.getD k4 undef = x4 → b.tmps.getD d undef = v → G b) (e : (Nat.beq k0 d || (Nat.beq k1 d || (Nat.beq k2 d || (Nat.beq k3 d || (Nat.beq k4 d || false))))) = false := by rfl) : ∀ b, Fr d v a b → G b := frM5 g e hs hd h0 h1 h2 h3 h4
theorem frM6 {a : Act} {d z k0 k1 k2 k3 k4 k5 : Nat} {v x0 x1 x2 x3 x4 x5 : Value} {y : List Deferred} {G : Act → Prop} (g : ∀ b : Act, b.tmps.size = z → b.defers = y → b.tmps.getD k0 undef = x0 → b.tmps.getD k1 undef = x1 → b.tmps.getD k2 undef = x2 → b.tmps.getD k3 undef = x3 → b.tmps.getD k4 undef = x4 → b.tmps.getD k5 undef = x5 → b.tmps.getD d undef = v → G b) (e : (Nat.beq k0 d || (Nat.beq k1 d || (Nat.beq k2 d || (Nat.beq k3 d || (Nat.beq k4 d || (Nat.beq k5 d || false)))))) = false := by rfl) : a.tmps.size = z → a.defers = y → a.tmps.getD k0 undef = x0 → a.tmps.getD k1 undef = x1 → a.tmps.getD k2 undef = x2 → a.tmps.getD k3 undef = x3 → a.tmps.getD k4 undef = x4 → a.tmps.getD k5 undef = x5 → ∀ b, Fr d v a b → G b := by
  intro hs hd h0 h1 h2 h3 h4 h5 b F
  have e0 := frA e; replace e := frB e
  have e1 := frA e; replace e := frB e
  have e2 := frA e; replace e := frB e
  have e3 := frA e; replace e := frB e
  have e4 := frA e; replace e := frB e
  have e5 := frA e; replace e := frB e
  exact g b (F.z.trans hs) (F.e.trans hd) ((F.n _ e0).trans h0) ((F.n _ e1).trans h1) ((F.n _ e2).trans h2) ((F.n _ e3).trans h3) ((F.n _ e4).trans h4) ((F.n _ e5).trans h5) F.s
theorem frN6 {a : Act} {d z k0 k1 k2 k3 k4 k5 : Nat} {v x0 x1 x2 x3 x4 x5 : Value} {y : List Deferred} {G : Act → Prop} (hs : a.tmps.size = z) (hd : a.defers = y) (h0 : a.tmps.getD k0 undef = x0) (h1 : a.tmps.getD k1 undef = x1) (h2 : a.tmps.getD k2 undef = x2) (h3 : a.tmps.getD k3 undef = x3) (h4 : a.tmps.getD k4 undef = x4) (h5 : a.tmps.getD k5 undef = x5) (g : ∀ b : Act, b.tmps.size = z → b.defers = y → b.tmps.getD k0 undef = x0 → b.tmps.getD k1 undef = x1 → b.tmps.getD k2 undef = x2 → b.tmps.getD k3 undef = x3 → b.tmps.getD k4 undef = x4 → b.tmps.getD k5 undef = x5 → b.tmps.getD d undef = v → G b) (e : (Nat.beq k0 d || (Nat.beq k1 d || (Nat.beq k2 d || (Nat.beq k3 d || (Nat.beq k4 d || (Nat.beq k5 d || false)))))) = false := by rfl) : ∀ b, Fr d v a b → G b := frM6 g e hs hd h0 h1 h2 h3 h4 h5
theorem frM7 {a : Act} {d z k0 k1 k2 k3 k4 k5 k6 : Nat} {v x0 x1 x2 x3 x4 x5 x6 : Value} {y : List Deferred} {G : Act → Prop} (g : ∀ b : Act, b.tmps.size = z → b.defers = y → b.tmps.getD k0 undef = x0 → b.tmps.getD k1 undef = x1 → b.tmps.getD k2 undef = x2 → b.tmps.getD k3 undef = x3 → b.tmps.getD k4 undef = x4 → b.tmps.getD k5 undef = x5 → b.tmps.getD k6 undef = x6 → b.tmps.getD d undef = v → G b) (e : (Nat.beq k0 d || (Nat.beq k1 d || (Nat.beq k2 d || (Nat.beq k3 d || (Nat.beq k4 d || (Nat.beq k5 d || (Nat.beq k6 d || false))))))) = false := by rfl) : a.tmps.size = z → a.defers = y → a.tmps.getD k0 undef = x0 → a.tmps.getD k1 undef = x1 → a.tmps.getD k2 undef = x2 → a.tmps.getD k3 undef = x3 → a.tmps.getD k4 undef = x4 → a.tmps.getD k5 undef = x5 → a.tmps.getD k6 undef = x6 → ∀ b, Fr d v a b → G b := by
  intro hs hd h0 h1 h2 h3 h4 h5 h6 b F
  have e0 := frA e; replace e := frB e
  have e1 := frA e; replace e := frB e
  have e2 := frA e; replace e := frB e
  have e3 := frA e; replace e := frB e
  have e4 := frA e; replace e := frB e
  have e5 := frA e; replace e := frB e
  have e6 := frA e; replace e := frB e
  exact g b (F.z.trans hs) (F.e.trans hd) ((F.n _ e0).trans h0) ((F.n _ e1).trans h1) ((F.n _ e2).trans h2) ((F.n _ e3).trans h3) ((F.n _ e4).trans h4) ((F.n _ e5).trans h5) ((F.n _ e6).trans h6) F.s
theorem frN7 {a : Act} {d z k0 k1 k2 k3 k4 k5 k6 : Nat} {v x0 x1 x2 x3 x4 x5 x6 : Value} {y : List Deferred} {G : Act → Prop} (hs : a.tmps.size = z) (hd : a.defers = y) (h0 : a.tmps.getD k0 undef = x0) (h1 : a.tmps.getD k1 undef = x1) (h2 : a.tmps.getD k2 undef = x2) (h3 : a.tmps.getD k3 undef = x3) (h4 : a.tmps.getD k4 undef = x4) (h5 : a.tmps.getD k5 undef = x5) (h6 : a.tmps.getD k6 undef = x6) (g : ∀ b : Act, b.tmps.size = z → b.defers = y → b.tmps.getD k0 undef = x0 → b.tmps.getD k1 undef = x1 → b.tmps.getD k2 undef = x2 → b.tmps.getD k3 undef = x3 → b.tmps.getD k4 undef = x4 → b.tmps.getD k5 undef = x5 → b.tmps.getD k6 undef = x6 → b.tmps.getD d undef = v → G b) (e : (Nat.beq k0 d || (Nat.beq k1 d || (Nat.beq k2 d || (Nat.beq k3 d || (Nat.beq k4 d || (Nat.beq k5 d || (Nat.beq k6 d || false))))))) = false := by rfl) : ∀ b, Fr d v a b → G b := frM7 g e hs hd h0 h1 h2 h3 h4 h5 h6
theorem frM8 {a : Act} {d z k0 k1 k2 k3 k4 k5 k6 k7 : Nat} {v x0 x1 x2 x3 x4 x5 x6 x7 : Value} {y : List Deferred} {G : Act → Prop} (g : ∀ b : Act, b.tmps.size = z → b.defers = y → b.tmps.getD k0 undef = x0 → b.tmps.getD k1 undef = x1 → b.tmps.getD k2 undef = x2 → b.tmps.getD k3 undef = x3 → b.tmps.getD k4 undef = x4 → b.tmps.getD k5 undef = x5 → b.tmps.getD k6 undef = x6 → b.tmps.getD k7 undef = x7 → b.tmps.getD d undef = v → G b) (e : (Nat.beq k0 d || (Nat.beq k1 d || (Nat.beq k2 d || (Nat.beq k3 d || (Nat.beq k4 d || (Nat.beq k5 d || (Nat.beq k6 d || (Nat.beq k7 d || false)))))))) = false := by rfl) : a.tmps.size = z → a.defers = y → a.tmps.getD k0 undef = x0 → a.tmps.getD k1 undef = x1 → a.tmps.getD k2 undef = x2 → a.tmps.getD k3 undef = x3 → a.tmps.getD k4 undef = x4 → a.tmps.getD k5 undef = x5 → a.tmps.getD k6 undef = x6 → a.tmps.getD k7 undef = x7 → ∀ b, Fr d v a b → G b := by
  intro hs hd h0 h1 h2 h3 h4 h5 h6 h7 b F
  have e0 := frA e; replace e := frB e
  have e1 := frA e; replace e := frB e
  have e2 := frA e; replace e := frB e
  have e3 := frA e; replace e := frB e
  have e4 := frA e; replace e := frB e
  have e5 := frA e; replace e := frB e
  have e6 := frA e; replace e := frB e
  have e7 := frA e; replace e := frB e
  exact g b (F.z.trans hs) (F.e.trans hd) ((F.n _ e0).trans h0) ((F.n _ e1).trans h1) ((F.n _ e2).trans h2) ((F.n _ e3).trans h3) ((F.n _ e4).trans h4) ((F.n _ e5).trans h5) ((F.n _ e6).trans h6) ((F.n _ e7).trans h7) F.s
theorem frN8 {a : Act} {d z k0 k1 k2 k3 k4 k5 k6 k7 : Nat} {v x0 x1 x2 x3 x4 x5 x6 x7 : Value} {y : List Deferred} {G : Act → Prop} (hs : a.tmps.size = z) (hd : a.defers = y) (h0 : a.tmps.getD k0 undef = x0) (h1 : a.tmps.getD k1 undef = x1) (h2 : a.tmps.getD k2 undef = x2) (h3 : a.tmps.getD k3 undef = x3) (h4 : a.tmps.getD k4 undef = x4) (h5 : a.tmps.getD k5 undef = x5) (h6 : a.tmps.getD k6 undef = x6) (h7 : a.tmps.getD k7 undef = x7) (g : ∀ b : Act, b.tmps.size = z → b.defers = y → b.tmps.getD k0 undef = x0 → b.tmps.getD k1 undef = x1 → b.tmps.getD k2 undef = x2 → b.tmps.getD k3 undef = x3 → b.tmps.getD k4 undef = x4 → b.tmps.getD k5 undef = x5 → b.tmps.getD k6 undef = x6 → b.tmps.getD k7 undef = x7 → b.tmps.getD d undef = v → G b) (e : (Nat.beq k0 d || (Nat.beq k1 d || (Nat.beq k2 d || (Nat.beq k3 d || (Nat.beq k4 d || (Nat.beq k5 d || (Nat.beq k6 d || (Nat.beq k7 d || false)))))))) = false := by rfl) : ∀ b, Fr d v a b → G b := frM8 g e hs hd h0 h1 h2 h3 h4 h5 h6 h7
theorem frM9 {a : Act} {d z k0 k1 k2 k3 k4 k5 k6 k7 k8 : Nat} {v x0 x1 x2 x3 x4 x5 x6 x7 x8 : Value} {y : List Deferred} {G : Act → Prop} (g : ∀ b : Act, b.tmps.size = z → b.defers = y → b.tmps.getD k0 undef = x0 → b.tmps.getD k1 undef = x1 → b.tmps.getD k2 undef = x2 → b.tmps.getD k3 undef = x3 → b.tmps.getD k4 undef = x4 → b.tmps.getD k5 undef = x5 → b.tmps.getD k6 undef = x6 → b.tmps.getD k7 undef = x7 → b.tmps.getD k8 undef = x8 → b.tmps.getD d undef = v → G b) (e : (Nat.beq k0 d || (Nat.beq k1 d || (Nat.beq k2 d || (Nat.beq k3 d || (Nat.beq k4 d || (Nat.beq k5 d || (Nat.beq k6 d || (Nat.beq k7 d || (Nat.beq k8 d || false))))))))) = false := by rfl) : a.tmps.size = z → a.defers = y → a.tmps.getD k0 undef = x0 → a.tmps.getD k1 undef = x1 → a.tmps.getD k2 undef = x2 → a.tmps.getD k3 undef = x3 → a.tmps.getD k4 undef = x4 → a.tmps.getD k5 undef = x5 → a.tmps.getD k6 undef = x6 → a.tmps.getD k7 undef = x7 → a.tmps.getD k8 undef = x8 → ∀ b, Fr d v a b → G b := by
  intro hs hd h0 h1 h2 h3 h4 h5 h6 h7 h8 b F
  have e0 := frA e; replace e := frB e
  have e1 := frA e; replace e := frB e
  have e2 := frA e; replace e := frB e
  have e3 := frA e; replace e := frB e
  have e4 := frA e; replace e := frB e
  have e5 := frA e; replace e := frB e
  have e6 := frA e; replace e := frB e
  have e7 := frA e; replace e := frB e
  have e8 := frA e; replace e := frB e
  exact g b (F.z.trans hs) (F.e.trans hd) ((F.n _ e0).trans h0) ((F.n _ e1).trans h1) ((F.n _ e2).trans h2) ((F.n _ e3).trans h3) ((F.n _ e4).trans h4) ((F.n _ e5).trans h5) ((F.n _ e6).trans h6) ((F.n _ e7).trans h7) ((F.n _ e8).trans h8) F.s
theorem frN9 {a : Act} {d z k0 k1 k2 k3 k4 k5 k6 k7 k8 : Nat} {v x0 x1 x2 x3 x4 x5 x6 x7 x8 : Value} {y : List Deferred} {G : Act → Prop} (hs : a.tmps.size = z) (hd : a.defers = y) (h0 : a.tmps.getD k0 undef = x0) (h1 : a.tmps.getD k1 undef = x1) (h2 : a.tmps.getD k2 undef = x2) (h3 : a.tmps.getD k3 undef = x3) (h4 : a.tmps.getD k4 undef = x4) (h5 : a.tmps.getD k5 undef = x5) (h6 : a.tmps.getD k6 undef = x6) (h7 : a.tmps.getD k7 undef = x7) (h8 : a.tmps.getD k8 undef = x8) (g : ∀ b : Act, b.tmps.size = z → b.defers = y → b.tmps.getD k0 undef = x0 → b.tmps.getD k1 undef = x1 → b.tmps.getD k2 undef = x2 → b.tmps.getD k3 undef = x3 → b.tmps.getD k4 undef = x4 → b.tmps.getD k5 undef = x5 → b.tmps.getD k6 undef = x6 → b.tmps.getD k7 undef = x7 → b.tmps.getD k8 undef = x8 → b.tmps.getD d undef = v → G b) (e : (Nat.beq k0 d || (Nat.beq k1 d || (Nat.beq k2 d || (Nat.beq k3 d || (Nat.beq k4 d || (Nat.beq k5 d || (Nat.beq k6 d || (Nat.beq k7 d || (Nat.beq k8 d || false))))))))) = false := by rfl) : ∀ b, Fr d v a b → G b := frM9 g e hs hd h0 h1 h2 h3 h4 h5 h6 h7 h8
theorem frM10 {a : Act} {d z k0 k1 k2 k3 k4 k5 k6 k7 k8 k9 : Nat} {v x0 x1 x2 x3 x4 x5 x6 x7 x8 x9 : Value} {y : List Deferred} {G : Act → Prop} (g : ∀ b : Act, b.tmps.size = z → b.defers = y → b.tmps.getD k0 undef = x0 → b.tmps.getD k1 undef = x1 → b.tmps.getD k2 undef = x2 → b.tmps.getD k3 undef = x3 → b.tmps.getD k4 undef = x4 → b.tmps.getD k5 undef = x5 → b.tmps.getD k6 undef = x6 → b.tmps.getD k7 undef = x7 → b.tmps.getD k8 undef = x8 → b.tmps.getD k9 undef = x9 → b.tmps.getD d undef = v → G b) (e : (Nat.beq k0 d || (Nat.beq k1 d || (Nat.beq k2 d || (Nat.beq k3 d || (Nat.beq k4 d || (Nat.beq k5 d || (Nat.beq k6 d || (Nat.beq k7 d || (Nat.beq k8 d || (Nat.beq k9 d || false)))))))))) = false := by rfl) : a.tmps.size = z → a.defers = y → a.tmps.getD k0 undef = x0 → a.tmps.getD k1 undef = x1 → a.tmps.getD k2 undef = x2 → a.tmps.getD k3 undef = x3 → a.tmps.getD k4 undef = x4 → a.tmps.getD k5 undef = x5 → a.tmps.getD k6 undef = x6 → a.tmps.getD k7 undef = x7 → a.tmps.getD k8 undef = x8 → a.tmps.getD k9 undef = x9 → ∀ b, Fr d v a b → G b := by
  intro hs hd h0 h1 h2 h3 h4 h5 h6 h7 h8 h9 b F
  have e0 := frA e; replace e := frB e
  have e1 := frA e; replace e := frB e
  have e2 := frA e; replace e := frB e
  have e3 := frA e; replace e := frB e
  have e4 := frA e; replace e := frB e
  have e5 := frA e; replace e := frB e
  have e6 := frA e; replace e := frB e
  have e7 := frA e; replace e := frB e
  have e8 := frA e; replace e := frB e
  have e9 := frA e; replace e := frB e
  exact g b (F.z.trans hs) (F.e.trans hd) ((F.n _ e0).trans h0) ((F.n _ e1).trans h1) ((F.n _ e2).trans h2) ((F.n _ e3).trans h3) ((F.n _ e4).trans h4) ((F.n _ e5).trans h5) ((F.n _ e6).trans h6) ((F.n _ e7).trans h7) ((F.n _ e8).trans h8) ((F.n _ e9).trans h9) F.s
theorem frN10 {a : Act} {d z k0 k1 k2 k3 k4 k5 k6 k7 k8 k9 : Nat} {v x0 x1 x2 x3 x4 x5 x6 x7 x8 x9 : Value} {y : List Deferred} {G : Act → Prop} (hs : a.tmps.size = z) (hd : a.defers = y) (h0 : a.tmps.getD k0 undef = x0) (h1 : a.tmps.getD k1 undef = x1) (h2 : a.tmps.getD k2 undef = x2) (h3 : a.tmps.getD k3 undef = x3) (h4 : a.tmps.getD k4 undef = x4) (h5 : a.tmps.getD k5 undef = x5) (h6 : a.tmps.getD k6 undef = x6) (h7 : a.tmps.getD k7 undef = x7) (h8 : a.tmps.getD k8 undef = x8) (h9 : a.tmps.getD k9 undef = x9) (g : ∀ b : Act, b.tmps.size = z → b.defers = y → b.tmps.getD k0 undef = x0 → b.tmps.getD k1 undef = x1 → b.tmps.getD k2 undef = x2 → b.tmps.getD k3 undef = x3 → b.tmps.getD k4 undef = x4 → b.tmps.getD k5 undef = x5 → b.tmps.getD k6 undef = x6 → b.tmps.getD k7 undef = x7 → b.tmps.getD k8 undef = x8 → b.tmps.getD k9 undef = x9 → b.tmps.getD d undef = v → G b) (e : (Nat.beq k0 d || (Nat.beq k1 d || (Nat.beq k2 d || (Nat.beq k3 d || (Nat.beq k4 d || (Nat.beq k5 d || (Nat.beq k6 d || (Nat.beq k7 d || (Nat.beq k8 d || (Nat.beq k9 d || false)))))))))) = false := by rfl) : ∀ b, Fr d v a b → G b := frM10 g e hs hd h0 h1 h2 h3 h4 h5 h6 h7 h8 h9
theorem frM11 {a : Act} {d z k0 k1 k2 k3 k4 k5 k6 k7 k8 k9 k10 : Nat} {v x0 x1 x2 x3 x4 x5 x6 x7 x8 x9 x10 : Value} {y : List Deferred} {G : Act → Prop} (g : ∀ b : Act, b.tmps.size = z → b.defers = y → b.tmps.getD k0 undef = x0 → b.tmps.getD k1 undef = x1 → b.tmps.getD k2 undef = x2 → b.tmps.getD k3 undef = x3 → b.tmps.getD k4 undef = x4 → b.tmps.getD k5 undef = x5 → b.tmps.getD k6 undef = x6 → b.tmps.getD k7 undef = x7 → b.tmps.getD k8 undef = x8 → b.tmps.getD k9 undef = x9 → b.tmps.getD k10 undef = x10 → b.tmps.getD d undef = v → G b) (e : (Nat.beq k0 d || (Nat.beq k1 d || (Nat.beq k2 d || (Nat.beq k3 d || (Nat.beq k4 d || (Nat.beq k5 d || (Nat.beq k6 d || (Nat.beq k7 d || (Nat.beq k8 d || (Nat.beq k9 d || (Nat.beq k10 d || false))))))))))) = false := by rfl) : a.tmps.size = z → a.defers = y → a.tmps.getD k0 undef = x0 → a.tmps.getD k1 undef = x1 → a.tmps.getD k2 undef = x2 → a.tmps.getD k3 undef = x3 → a.tmps.getD k4 undef = x4 → a.tmps.getD k5 undef = x5 → a.tmps.getD k6 undef = x6 → a.tmps.getD k7 undef = x7 → a.tmps.getD k8 undef = x8 → a.tmps.getD k9 undef = x9 → a.tmps.getD k10 undef = x10 → ∀ b, Fr d v a b → G b := by
  intro hs hd h0 h1 h2 h3 h4 h5 h6 h7 h8 h9 h10 b F
  have e0 := frA e; replace e := frB e
  have e1 := frA e; replace e := frB e
  have e2 := frA e; replace e := frB e
  have e3 := frA e; replace e := frB e
  have e4 := frA e; replace e := frB e
  have e5 := frA e; replace e := frB e
  have e6 := frA e; replace e := frB e
  have e7 := frA e; replace e := frB e
  have e8 := frA e; replace e := frB e
  have e9 := frA e; replace e := frB e
  have e10 := frA e; replace e := frB e
  exact g b (F.z.trans hs) (F.e.trans hd) ((F.n _ e0).trans h0) ((F.n _ e1).trans h1) ((F.n _ e2).trans h2) ((F.n _ e3).trans h3) ((F.n _ e4).trans h4) ((F.n _ e5).trans h5) ((F.n _ e6).trans h6) ((F.n _ e7).trans h7) ((F.n _ e8).trans h8) ((F.n _ e9).trans h9) ((F.n _ e10).trans h10) F.s
theorem frN11 {a : Act} {d z k0 k1 k2 k3 k4 k5 k6 k7 k8 k9 k10 : Nat} {v x0 x1 x2 x3 x4 x5 x6 x7 x8 x9 x10 : Value} {y : List Deferred} {G : Act → Prop} (hs : a.tmps.size = z) (hd : a.defers = y) (h0 : a.tmps.getD k0 undef = x0) (h1 : a.tmps.getD k1 undef = x1) (h2 : a.tmps.getD k2 undef = x2) (h3 : a.tmps.getD k3 undef = x3) (h4 : a.tmps.getD k4 undef = x4) (h5 : a.tmps.getD k5 undef = x5) (h6 : a.tmps.getD k6 undef = x6) (h7 : a.tmps.getD k7 undef = x7) (h8 : a.tmps.getD k8 undef = x8) (h9 : a.tmps.getD k9 undef = x9) (h10 : a.tmps.getD k10 undef = x10) (g : ∀ b : Act, b.tmps.size = z → b.defers = y → b.tmps.getD k0 undef = x0 → b.tmps.getD k1 undef = x1 → b.tmps.getD k2 undef = x2 → b.tmps.getD k3 undef = x3 → b.tmps.getD k4 undef = x4 → b.tmps.getD k5 undef = x5 → b.tmps.getD k6 undef = x6 → b.tmps.getD k7 undef = x7 → b.tmps.getD k8 undef = x8 → b.tmps.getD k9 undef = x9 → b.tmps.getD k10 undef = x10 → b.tmps.getD d undef = v → G b) (e : (Nat.beq k0 d || (Nat.beq k1 d || (Nat.beq k2 d || (Nat.beq k3 d || (Nat.beq k4 d || (Nat.beq k5 d || (Nat.beq k6 d || (Nat.beq k7 d || (Nat.beq k8 d || (Nat.beq k9 d || (Nat.beq k10 d || false))))))))))) = false := by rfl) : ∀ b, Fr d v a b → G b := frM11 g e hs hd h0 h1 h2 h3 h4 h5 h6 h7 h8 h9 h10
theorem frM12 {a : Act} {d z k0 k1 k2 k3 k4 k5 k6 k7 k8 k9 k10 k11 : Nat} {v x0 x1 x2 x3 x4 x5 x6 x7 x8 x9 x10 x11 : Value} {y : List Deferred} {G : Act → Prop} (g : ∀ b : Act, b.tmps.size = z → b.defers = y → b.tmps.getD k0 undef = x0 → b.tmps.getD k1 undef = x1 → b.tmps.getD k2 undef = x2 → b.tmps.getD k3 undef = x3 → b.tmps.getD k4 undef = x4 → b.tmps.getD k5 undef = x5 → b.tmps.getD k6 undef = x6 → b.tmps.getD k7 undef = x7 → b.tmps.getD k8 undef = x8 → b.tmps.getD k9 undef = x9 → b.tmps.getD k10 undef = x10 → b.tmps.getD k11 undef = x11 → b.tmps.getD d undef = v → G b) (e : (Nat.beq k0 d || (Nat.beq k1 d || (Nat.beq k2 d || (Nat.beq k3 d || (Nat.beq k4 d || (Nat.beq k5 d || (Nat.beq k6 d || (Nat.beq k7 d || (Nat.beq k8 d || (Nat.beq k9 d || (Nat.beq k10 d || (Nat.beq k11 d || false)))))))))))) = false := by rfl) : a.tmps.size = z → a.defers = y → a.tmps.getD k0 undef = x0 → a.tmps.getD k1 undef = x1 → a.tmps.getD k2 undef = x2 → a.tmps.getD k3 undef = x3 → a.tmps.getD k4 undef = x4 → a.tmps.getD k5 undef = x5 → a.tmps.getD k6 undef = x6 → a.tmps.getD k7 undef = x7 → a.tmps.getD k8 undef = x8 → a.tmps.getD k9 undef = x9 → a.tmps.getD k10 undef = x10 → a.tmps.getD k11 undef = x11 → ∀ b, Fr d v a b → G b := by
  intro hs hd h0 h1 h2 h3 h4 h5 h6 h7 h8 h9 h10 h11 b F
  have e0 := frA e; replace e := frB e
  have e1 := frA e; replace e := frB e
  have e2 := frA e; replace e := frB e
  have e3 := frA e; replace e := frB e
  have e4 := frA e; replace e := frB e
  have e5 := frA e; replace e := frB e
  have e6 := frA e; replace e := frB e
  have e7 := frA e; replace e := frB e
  have e8 := frA e; replace e := frB e
  have e9 := frA e; replace e := frB e
  have e10 := frA e; replace e := frB e
  have e11 := frA e; replace e := frB e
  exact g b (F.z.trans hs) (F.e.trans hd) ((F.n _ e0).trans h0) ((F.n _ e1).trans h1) ((F.n _ e2).trans h2) ((F.n _ e3).trans h3) ((F.n _ e4).trans h4) ((F.n _ e5).trans h5) ((F.n _ e6).trans h6) ((F.n _ e7).trans h7) ((F.n _ e8).trans h8) ((F.n _ e9).trans h9) ((F.n _ e10).trans h10) ((F.n _ e11).trans h11) F.s
theorem frN12 {a : Act} {d z k0 k1 k2 k3 k4 k5 k6 k7 k8 k9 k10 k11 : Nat} {v x0 x1 x2 x3 x4 x5 x6 x7 x8 x9 x10 x11 : Value} {y : List Deferred} {G : Act → Prop} (hs : a.tmps.size = z) (hd : a.defers = y) (h0 : a.tmps.getD k0 undef = x0) (h1 : a.tmps.getD k1 undef = x1) (h2 : a.tmps.getD k2 undef = x2) (h3 : a.tmps.getD k3 undef = x3) (h4 : a.tmps.getD k4 undef = x4) (h5 : a.tmps.getD k5 undef = x5) (h6 : a.tmps.getD k6 undef = x6) (h7 : a.tmps.getD k7 undef = x7) (h8 : a.tmps.getD k8 undef = x8) (h9 : a.tmps.getD k9 undef = x9) (h10 : a.tmps.getD k10 undef = x10) (h11 : a.tmps.getD k11 undef = x11) (g : ∀ b : Act, b.tmps.size = z → b.defers = y → b.tmps.getD k0 undef = x0 → b.tmps.getD k1 undef = x1 → b.tmps.getD k2 undef = x2 → b.tmps.getD k3 undef = x3 → b.tmps.getD k4 undef = x4 → b.tmps.getD k5 undef = x5 → b.tmps.getD k6 undef = x6 → b.tmps.getD k7 undef = x7 → b.tmps.getD k8 undef = x8 → b.tmps.getD k9 undef = x9 → b.tmps.getD k10 undef = x10 → b.tmps.getD k11 undef = x11 → b.tmps.getD d undef = v → G b) (e : (Nat.beq k0 d || (Nat.beq k1 d || (Nat.beq k2 d || (Nat.beq k3 d || (Nat.beq k4 d || (Nat.beq k5 d || (Nat.beq k6 d || (Nat.beq k7 d || (Nat.beq k8 d || (Nat.beq k9 d || (Nat.beq k10 d || (Nat.beq k11 d || false)))))))))))) = false := by rfl) : ∀ b, Fr d v a b → G b := frM12 g e hs hd h0 h1 h2 h3 h4 h5 h6 h7 h8 h9 h10 h11
theorem frM13 {a : Act} {d z k0 k1 k2 k3 k4 k5 k6 k7 k8 k9 k10 k11 k12 : Nat} {v x0 x1 x2 x3 x4 x5 x6 x7 x8 x9 x10 x11 x12 : Value} {y : List Deferred} {G : Act → Prop} (g : ∀ b : Act, b.tmps.size = z → b.defers = y → b.tmps.getD k0 undef = x0 → b.tmps.getD k1 undef = x1 → b.tmps.getD k2 undef = x2 → b.tmps.getD k3 undef = x3 → b.tmps.getD k4 undef = x4 → b.tmps.getD k5 undef = x5 → b.tmps.getD k6 undef = x6 → b.tmps.getD k7 undef = x7 → b.tmps.getD k8 undef = x8 → b.tmps.getD k9 undef = x9 → b.tmps.getD k10 undef = x10 → b.tmps.getD k11 undef = x11 → b.tmps.getD k12 undef = x12 → b.tmps.getD d undef = v → G b) (e : (Nat.beq k0 d || (Nat.beq k1 d || (Nat.beq k2 d || (Nat.beq k3 d || (Nat.beq k4 d || (Nat.beq k5 d || (Nat.beq k6 d || (Nat.beq k7 d || (Nat.beq k8 d || (Nat.beq k9 d || (Nat.beq k10 d || (Nat.beq k11 d || (Nat.beq k12 d || false))))))))))))) = false := by rfl) : a.tmps.size = z → a.defers = y → a.tmps.getD k0 undef = x0 → a.tmps.getD k1 undef = x1 → a.tmps.getD k2 undef = x2 → a.tmps.getD k3 undef = x3 → a.tmps.getD k4 undef = x4 → a.tmps.getD k5 undef = x5 → a.tmps.getD k6 undef = x6 → a.tmps.getD k7 undef = x7 → a.tmps.getD k8 undef = x8 → a.tmps.getD k9 undef = x9 → a.tmps.getD k10 undef = x10 → a.tmps.getD k11 undef = x11 → a.tmps.getD k12 undef = x12 → ∀ b, Fr d v a b → G b := by
  intro hs hd h0 h1 h2 h3 h4 h5 h6 h7 h8 h9 h10 h11 h12 b F
  have e0 := frA e; replace e := frB e
  have e1 := frA e; replace e := frB e
  have e2 := frA e; replace e := frB e
  have e3 := frA e; replace e := frB e
  have e4 := frA e; replace e := frB e
  have e5 := frA e; replace e := frB e
  have e6 := frA e; replace e := frB e
  have e7 := frA e; replace e := frB e
  have e8 := frA e; replace e := frB e
  have e9 := frA e; replace e := frB e
  have e10 := frA e; replace e := frB e
  have e11 := frA e; replace e := frB e
  have e12 := frA e; replace e := frB e
  exact g b (F.z.trans hs) (F.e.trans hd) ((F.n _ e0).trans h0) ((F.n _ e1).trans h1) ((F.n _ e2).trans h2) ((F.n _ e3).trans h3) ((F.n _ e4).trans h4) ((F.n _ e5).trans h5) ((F.n _ e6).trans h6) ((F.n _ e7).trans h7) ((F.n _ e8).trans h8) ((F.n _ e9).trans h9) ((F.n _ e10).trans h10) ((F.n _ e11).trans h11) ((F.n _ e12).trans h12) F.s
theorem frN13 {a : Act} {d z k0 k1 k2 k3 k4 k5 k6 k7 k8 k9 k10 k11 k12 : Nat} {v x0 x1 x2 x3 x4 x5 x6 x7 x8 x9 x10 x11 x12 : Value} {y : List Deferred} {G : Act → Prop} (hs : a.tmps.size = z) (hd : a.defers = y) (h0 : a.tmps.getD k0 undef = x0) (h1 : a.tmps.getD k1 undef = x1) (h2 : a.tmps.getD k2 undef = x2) (h3 : a.tmps.getD k3 undef = x3) (h4 : a.tmps.getD k4 undef = x4) (h5 : a.tmps.getD k5 undef = x5) (h6 : a.tmps.getD k6 undef = x6) (h7 : a.tmps.getD k7 undef = x7) (h8 : a.tmps.getD k8 undef = x8) (h9 : a.tmps.getD k9 undef = x9) (h10 : a.tmps.getD k10 undef = x10) (h11 : a.tmps.getD k11 undef = x11) (h12 : a.tmps.getD k12 undef = x12) (g : ∀ b : Act, b.tmps.size = z → b.defers = y → b.tmps.getD k0 undef = x0 → b.tmps.getD k1 undef = x1 → b.tmps.getD k2 undef = x2 → b.tmps.getD k3 undef = x3 → b.tmps.getD k4 undef = x4 → b.tmps.getD k5 undef = x5 → b.tmps.getD k6 undef = x6 → b.tmps.getD k7 undef = x7 → b.tmps.getD k8 undef = x8 → b.tmps.getD k9 undef = x9 → b.tmps.getD k10 undef = x10 → b.tmps.getD k11 undef = x11 → b.tmps.getD k12 undef = x12 → b.tmps.getD d undef = v → G b) (e : (Nat.beq k0 d || (Nat.beq k1 d || (Nat.beq k2 d || (Nat.beq k3 d || (Nat.beq k4 d || (Nat.beq k5 d || (Nat.beq k6 d || (Nat.beq k7 d || (Nat.beq k8 d || (Nat.beq k9 d || (Nat.beq k10 d || (Nat.beq k11 d || (Nat.beq k12 d || false))))))))))))) = false := by rfl) : ∀ b, Fr d v a b → G b := frM13 g e hs hd h0 h1 h2 h3 h4 h5 h6 h7 h8 h9 h10 h11 h12
theorem frM14 {a : Act} {d z k0 k1 k2 k3 k4 k5 k6 k7 k8 k9 k10 k11 k12 k13 : Nat} {v x0 x1 x2 x3 x4 x5 x6 x7 x8 x9 x10 x11 x12 x13 : Value} {y : List Deferred} {G : Act → Prop} (g : ∀ b : Act, b.tmps.size = z → b.defers = y → b.tmps.getD k0 undef = x0 → b.tmps.getD k1 undef = x1 → b.tmps.getD k2 undef = x2 → b.tmps.getD k3 undef = x3 → b.tmps.getD k4 undef = x4 → b.tmps.getD k5 undef = x5 → b.tmps.getD k6 undef = x6 → b.tmps.getD k7 undef = x7 → b.tmps.getD k8 undef = x8 → b.tmps.getD k9 undef = x9 → b.tmps.getD k10 undef = x10 → b.tmps.getD k11 undef = x11 → b.tmps.getD k12 undef = x12 → b.tmps.getD k13 undef = x13 → b.tmps.getD d undef = v → G b) (e : (Nat.beq k0 d || (Nat.beq k1 d || (Nat.beq k2 d || (Nat.beq k3 d || (Nat.beq k4 d || (Nat.beq k5 d || (Nat.beq k6 d || (Nat.beq k7 d || (Nat.beq k8 d || (Nat.beq k9 d || (Nat.beq k10 d || (Nat.beq k11 d || (Nat.beq k12 d || (Nat.beq k13 d || false)))))))))))))) = false := by rfl) : a.tmps.size = z → a.defers = y → a.tmps.getD k0 undef = x0 → a.tmps.getD k1 undef = x1 → a.tmps.getD k2 undef = x2 → a.tmps.getD k3 undef = x3 → a.tmps.getD k4 undef = x4 → a.tmps.getD k5 undef = x5 → a.tmps.getD k6 undef = x6 → a.tmps.getD k7 undef = x7 → a.tmps.getD k8 undef = x8 → a.tmps.getD k9 undef = x9 → a.tmps.getD k10 undef = x10 → a.tmps.getD k11 undef = x11 → a.tmps.getD k12 undef = x12 → a.tmps.getD k13 undef = x13 → ∀ b, Fr d v a b → G b := by
  intro hs hd h0 h1 h2 h3 h4 h5 h6 h7 h8 h9 h10 h11 h12 h13 b F
  have e0 := frA e; replace e := frB e
  have e1 := frA e; replace e := frB e
  have e2 := frA e; replace e := frB e
  have e3 := frA e; replace e := frB e
  have e4 := frA e; replace e := frB e
  have e5 := frA e; replace e := frB e
  have e6 := frA e; replace e := frB e
  have e7 := frA e; replace e := frB e
  have e8 := frA e; replace e := frB e
  have e9 := frA e; replace e := frB e
  have e10 := frA e; replace e := frB e
  have e11 := frA e; replace e := frB e
  have e12 := frA e; replace e := frB e
  have e13 := frA e; replace e := frB e
  exact g b (F.z.trans hs) (F.e.trans hd) ((F.n _ e0).trans h0) ((F.n _ e1).trans h1) ((F.n _ e2).trans h2) ((F.n _ e3).trans h3) ((F.n _ e4).trans h4) ((F.n _ e5).trans h5) ((F.n _ e6).trans h6) ((F.n _ e7).trans h7) ((F.n _ e8).trans h8) ((F.n _ e9).trans h9) ((F.n _ e10).trans h10) ((F.n _ e11).trans h11) ((F.n _ e12).trans h12) ((F.n _ e13).trans h13) F.s
theorem frN14 {a : Act} {d z k0 k1 k2 k3 k4 k5 k6 k7 k8 k9 k10 k11 k12 k13 : Nat} {v x0 x1 x2 x3 x4 x5 x6 x7 x8 x9 x10 x11 x12 x13 : Value} {y : List Deferred} {G : Act → Prop} (hs : a.tmps.size = z) (hd : a.defers = y) (h0 : a.tmps.getD k0 undef = x0) (h1 : a.tmps.getD k1 undef = x1) (h2 : a.tmps.getD k2 undef = x2) (h3 : a.tmps.getD k3 undef = x3) (h4 : a.tmps.getD k4 undef = x4) (h5 : a.tmps.getD k5 undef = x5) (h6 : a.tmps.getD k6 undef = x6) (h7 : a.tmps.getD k7 undef = x7) (h8 : a.tmps.getD k8 undef = x8) (h9 : a.tmps.getD k9 undef = x9) (h10 : a.tmps.getD k10 undef = x10) (h11 : a.tmps.getD k11 undef = x11) (h12 : a.tmps.getD k12 undef = x12) (h13 : a.tmps.getD k13 undef = x13) (g : ∀ b : Act, b.tmps.size = z → b.defers = y → b.tmps.getD k0 undef = x0 → b.tmps.getD k1 undef = x1 → b.tmps.getD k2 undef = x2 → b.tmps.getD k3 undef = x3 → b.tmps.getD k4 undef = x4 → b.tmps.getD k5 undef = x5 → b.tmps.getD k6 undef = x6 → b.tmps.getD k7 undef = x7 → b.tmps.getD k8 undef = x8 → b.tmps.getD k9 undef = x9 → b.tmps.getD k10 undef = x10 → b.tmps.getD k11 undef = x11 → b.tmps.getD k12 undef = x12 → b.tmps.getD k13 undef = x13 → b.tmps.getD d undef = v → G b) (e : (Nat.beq k0 d || (Nat.beq k1 d || (Nat.beq k2 d || (Nat.beq k3 d || (Nat.beq k4 d || (Nat.beq k5 d || (Nat.beq k6 d || (Nat.beq k7 d || (Nat.beq k8 d || (Nat.beq k9 d || (Nat.beq k10 d || (Nat.beq k11 d || (Nat.beq k12 d || (Nat.beq k13 d || false)))))))))))))) = false := by rfl) : ∀ b, Fr d v a b → G b := frM14 g e hs hd h0 h1 h2 h3 h4 h5 h6 h7 h8 h9 h10 h11 h12 h13
theorem frM15 {a : Act} {d z k0 k1 k2 k3 k4 k5 k6 k7 k8 k9 k10 k11 k12 k13 k14 : Nat} {v x0 x1 x2 x3 x4 x5 x6 x7 x8 x9 x10 x11 x12 x13 x14 : Value} {y : List Deferred} {G : Act → Prop} (g : ∀ b : Act, b.tmps.size = z → b.defers = y → b.tmps.getD k0 undef = x0 → b.tmps.getD k1 undef = x1 → b.tmps.getD k2 undef = x2 → b.tmps.getD k3 undef = x3 → b.tmps.getD k4 undef = x4 → b.tmps.getD k5 undef = x5 → b.tmps.getD k6 undef = x6 → b.tmps.getD k7 undef = x7 → b.tmps.getD k8 undef = x8 → b.tmps.getD k9 undef = x9 → b.tmps.getD k10 undef = x10 → b.tmps.getD k11 undef = x11 → b.tmps.getD k12 undef = x12 → b.tmps.getD k13 undef = x13 → b.tmps.getD k14 undef = x14 → b.tmps.getD d undef = v → G b) (e : (Nat.beq k0 d || (Nat.beq k1 d || (Nat.beq k2 d || (Nat.beq k3 d || (Nat.beq k4 d || (Nat.beq k5 d || (Nat.beq k6 d || (Nat.beq k7 d || (Nat.beq k8 d || (Nat.beq k9 d || (Nat.beq k10 d || (Nat.beq k11 d || (Nat.beq k12 d || (Nat.beq k13 d || (Nat.beq k14 d || false))))))))))))))) = false := by rfl) : a.tmps.size = z → a.defers = y → a.tmps.getD k0 undef = x0 → a.tmps.getD k1 undef = x1 → a.tmps.getD k2 undef = x2 → a.tmps.getD k3 undef = x3 → a.tmps.getD k4 undef = x4 → a.tmps.getD k5 undef = x5 → a.tmps.getD k6 undef = x6 → a.tmps.getD k7 undef = x7 → a.tmps.getD k8 undef = x8 → a.tmps.getD k9 undef = x9 → a.tmps.getD k10 undef = x10 → a.tmps.getD k11 undef = x11 → a.tmps.getD k12 undef = x12 → a.tmps.getD k13 undef = x13 → a.tmps.getD k14 undef = x14 → ∀ b, Fr d v a b → G b := by
  intro hs hd h0 h1 h2 h3 h4 h5 h6 h7 h8 h9 h10 h11 h12 h13 h14 b F
  have e0 := frA e; replace e := frB e
  have e1 := frA e; replace e := frB e
  have e2 := frA e; replace e := frB e
  have e3 := frA e; replace e := frB e
  have e4 := frA e; replace e := frB e
  have e5 := frA e; replace e := frB e
  have e6 := frA e; replace e := frB e
  have e7 := frA e; replace e := frB e
  have e8 := frA e; replace e := frB e
  have e9 := frA e; replace e := frB e
  have e10 := frA e; replace e := frB e
  have e11 := frA e; replace e := frB e
  have e12 := frA e; replace e := frB e
  have e13 := frA e; replace e := frB e
  have e14 := frA e; replace e := frB e
  exact g b (F.z.trans hs) (F.e.trans hd) ((F.n _ e0).trans h0) ((F.n _ e1).trans h1) ((F.n _ e2).trans h2) ((F.n _ e3).trans h3) ((F.n _ e4).trans h4) ((F.n _ e5).trans h5) ((F.n _ e6).trans h6) ((F.n _ e7).trans h7) ((F.n _ e8).trans h8) ((F.n _ e9).trans h9) ((F.n _ e10).trans h10) ((F.n _ e11).trans h11) ((F.n _ e12).trans h12) ((F.n _ e13).trans h13) ((F.n _ e14).trans h14) F.s
theorem frN15 {a : Act} {d z k0 k1 k2 k3 k4 k5 k6 k7 k8 k9 k10 k11 k12 k13 k14 : Nat} {v x0 x1 x2 x3 x4 x5 x6 x7 x8 x9 x10 x11 x12 x13 x14 : Value} {y : List Deferred} {G : Act → Prop} (hs : a.tmps.size = z) (hd : a.defers = y) (h0 : a.tmps.getD k0 undef = x0) (h1 : a.tmps.getD k1 undef = x1) (h2 : a.tmps.getD k2 undef = x2) (h3 : a.tmps.getD k3 undef = x3) (h4 : a.tmps.getD k4 undef = x4) (h5 : a.tmps.getD k5 undef = x5) (h6 : a.tmps.getD k6 undef = x6) (h7 : a.tmps.getD k7 undef = x7) (h8 : a.tmps.getD k8 undef = x8) (h9 : a.tmps.getD k9 undef = x9) (h10 : a.tmps.getD k10 undef = x10) (h11 : a.tmps.getD k11 undef = x11) (h12 : a.tmps.getD k12 undef = x12) (h13 : a.tmps.getD k13 undef = x13) (h14 : a.tmps.getD k14 undef = x14) (g : ∀ b : Act, b.tmps.size = z → b.defers = y → b.tmps.getD k0 undef = x0 → b.tmps.getD k1 undef = x1 → b.tmps.getD k2 undef = x2 → b.tmps.getD k3 undef = x3 → b.tmps.getD k4 undef = x4 → b.tmps.getD k5 undef = x5 → b.tmps.getD k6 undef = x6 → b.tmps.getD k7 undef = x7 → b.tmps.getD k8 undef = x8 → b.tmps.getD k9 undef = x9 → b.tmps.getD k10 undef = x10 → b.tmps.getD k11 undef = x11 → b.tmps.getD k12 undef = x12 → b.tmps.getD k13 undef = x13 → b.tmps.getD k14 undef = x14 → b.tmps.getD d undef = v → G b) (e : (Nat.beq k0 d || (Nat.beq k1 d || (Nat.beq k2 d || (Nat.beq k3 d || (Nat.beq k4 d || (Nat.beq k5 d || (Nat.beq k6 d || (Nat.beq k7 d || (Nat.beq k8 d || (Nat.beq k9 d || (Nat.beq k10 d || (Nat.beq k11 d || (Nat.beq k12 d || (Nat.beq k13 d || (Nat.beq k14 d || false))))))))))))))) = false := by rfl) : ∀ b, Fr d v a b → G b := frM15 g e hs hd h0 h1 h2 h3 h4 h5 h6 h7 h8 h9 h10 h11 h12 h13 h14
theorem frM16 {a : Act} {d z k0 k1 k2 k3 k4 k5 k6 k7 k8 k9 k10 k11 k12 k13 k14 k15 : Nat} {v x0 x1 x2 x3 x4 x5 x6 x7 x8 x9 x10 x11 x12 x13 x14 x15 : Value} {y : List Deferred} {G : Act → Prop} (g : ∀ b : Act, b.tmps.size = z → b.defers = y → b.tmps.getD k0 undef = x0 → b.tmps.getD k1 undef = x1 → b.tmps.getD k2 undef = x2 → b.tmps.getD k3 undef = x3 → b.tmps.getD k4 undef = x4 → b.tmps.getD k5 undef = x5 → b.tmps.getD k6 undef = x6 → b.tmps.getD k7 undef = x7 → b.tmps.getD k8 undef = x8 → b.tmps.getD k9 undef = x9 → b.tmps.getD k10 undef = x10 → b.tmps.getD k11 undef = x11 → b.tmps.getD k12 undef = x12 → b.tmps.getD k13 undef = x13 → b.tmps.getD k14 undef = x14 → b.tmps.getD k15 undef = x15 → b.tmps.getD d undef = v → G b) (e : (Nat.beq k0 d || (Nat.beq k1 d || (Nat.beq k2 d || (Nat.beq k3 d || (Nat.beq k4 d || (Nat.beq k5 d || (Nat.beq k6 d || (Nat.beq k7 d || (Nat.beq k8 d || (Nat.beq k9 d || (Nat.beq k10 d || (Nat.beq k11 d || (Nat.beq k12 d || (Nat.beq k13 d || (Nat.beq k14 d || (Nat.beq k15 d || false)))))))))))))))) = false := by rfl) : a.tmps.size = z → a.defers = y → a.tmps.getD k0 undef = x0 → a.tmps.getD k1 undef = x1 → a.tmps.getD k2 undef = x2 → a.tmps.getD k3 undef = x3 → a.tmps.getD k4 undef = x4 → a.tmps.getD k5 undef = x5 → a.tmps.getD k6 undef = x6 → a.tmps.getD k7 undef = x7 → a.tmps.getD k8 undef = x8 → a.tmps.getD k9 undef = x9 → a.tmps.getD k10 undef = x10 → a.tmps.getD k11 undef = x11 → a.tmps.getD k12 undef = x12 → a.tmps.getD k13 undef = x13 → a.tmps.getD k14 undef = x14 → a.tmps.getD k15 undef = x15 → ∀ b, Fr d v a b → G b := by
  intro hs hd h0 h1 h2 h3 h4 h5 h6 h7 h8 h9 h10 h11 h12 h13 h14 h15 b F
  have e0 := frA e; replace e := frB e
  have e1 := frA e; replace e := frB e
  have e2 := frA e; replace e := frB e
  have e3 := frA e; replace e := frB e
  have e4 := frA e; replace e := frB e
  have e5 := frA e; replace e := frB e
  have e6 := frA e; replace e := frB e
  have e7 := frA e; replace e := frB e
  have e8 := frA e; replace e := frB e
  have e9 := frA e; replace e := frB e
  have e10 := frA e; replace e := frB e
  have e11 := frA e; replace e := frB e
  have e12 := frA e; replace e := frB e
  have e13 := frA e; replace e := frB e
  have e14 := frA e; replace e := frB e
  have e15 := frA e; replace e := frB e
  exact g b (F.z.trans hs) (F.e.trans hd) ((F.n _ e0).trans h0) ((F.n _ e1).trans h1) ((F.n _ e2).trans h2) ((F.n _ e3).trans h3) ((F.n _ e4).trans h4) ((F.n _ e5).trans h5) ((F.n _ e6).trans h6) ((F.n _ e7).trans h7) ((F.n _ e8).trans h8) ((F.n _ e9).trans h9) ((F.n _ e10).trans h10) ((F.n _ e11).trans h11) ((F.n _ e12).trans h12) ((F.n _ e13).trans h13) ((F.n _ e14).trans h14) ((F.n _ e15).trans h15) F.s
theorem frN16 {a : Act} {d z k0 k1 k2 k3 k4 k5 k6 k7 k8 k9 k10 k11 k12 k13 k14 k15 : Nat} {v x0 x1 x2 x3 x4 x5 x6 x7 x8 x9 x10 x11 x12 x13 x14 x15 : Value} {y : List Deferred} {G : Act → Prop} (hs : a.tmps.size = z) (hd : a.defers = y) (h0 : a.tmps.getD k0 undef = x0) (h1 : a.tmps.getD k1 undef = x1) (h2 : a.tmps.getD k2 undef = x2) (h3 : a.tmps.getD k3 undef = x3) (h4 : a.tmps.getD k4 undef = x4) (h5 : a.tmps.getD k5 undef = x5) (h6 : a.tmps.getD k6 undef = x6) (h7 : a.tmps.getD k7 undef = x7) (h8 : a.tmps.getD k8 undef = x8) (h9 : a.tmps.getD k9 undef = x9) (h10 : a.tmps.getD k10 undef = x10) (h11 : a.tmps.getD k11 undef = x11) (h12 : a.tmps.getD k12 undef = x12) (h13 : a.tmps.getD k13 undef = x13) (h14 : a.tmps.getD k14 undef = x14) (h15 : a.tmps.getD k15 undef = x15) (g : ∀ b : Act, b.tmps.size = z → b.defers = y → b.tmps.getD k0 undef = x0 → b.tmps.getD k1 undef = x1 → b.tmps.getD k2 undef = x2 → b.tmps.getD k3 undef = x3 → b.tmps.getD k4 undef = x4 → b.tmps.getD k5 undef = x5 → b.tmps.getD k6 undef = x6 → b.tmps.getD k7 undef = x7 → b.tmps.getD k8 undef = x8 → b.tmps.getD k9 undef = x9 → b.tmps.getD k10 undef = x10 → b.tmps.getD k11 undef = x11 → b.tmps.getD k12 undef = x12 → b.tmps.getD k13 undef = x13 → b.tmps.getD k14 undef = x14 → b.tmps.getD k15 undef = x15 → b.tmps.getD d undef = v → G b) (e : (Nat.beq k0 d || (Nat.beq k1 d || (Nat.beq k2 d || (Nat.beq k3 d || (Nat.beq k4 d || (Nat.beq k5 d || (Nat.beq k6 d || (Nat.beq k7 d || (Nat.beq k8 d || (Nat.beq k9 d || (Nat.beq k10 d || (Nat.beq k11 d || (Nat.beq k12 d || (Nat.beq k13 d || (Nat.beq k14 d || (Nat.beq k15 d || false)))))))))))))))) = false := by rfl) : ∀ b, Fr d v a b → G b := frM16 g e hs hd h0 h1 h2 h3 h4 h5 h6 h7 h8 h9 h10 h11 h12 h13 h14 h15
end Go.Proofs.YtnggajehngemmaaGreatDoor
