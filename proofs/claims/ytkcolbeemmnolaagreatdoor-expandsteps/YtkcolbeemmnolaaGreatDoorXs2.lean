/-
  Letters: numbers of either sign.
-/
import Derived.Test.YtkcolbeemmnolaaGreatDoorEvT
import Derived.Test.YtkcolbeemmnolaaGreatDoorW4
import Derived.Test.YtkcolbeemmnolaaGreatDoorEa1
namespace Go.Proofs.YtkcolbeemmnolaaGreatDoor
open Go Go.RowKit
section
variable {a b : Int}
theorem xi_add {c : Int} (e : a + b = c) (h : -9223372036854775808 ≤ c ∧ c ≤ 9223372036854775807) : binX .add (.int .i64 a) (.int .i64 b) = some (.int .i64 c) := by
  subst e
  show some (Value.int .i64 (IntKind.i64.wrap (a + b))) = _
  rw [IntWalk.i64_in _ h]
theorem xi_sub {c : Int} (e : a - b = c) (h : -9223372036854775808 ≤ c ∧ c ≤ 9223372036854775807) : binX .sub (.int .i64 a) (.int .i64 b) = some (.int .i64 c) := by
  subst e
  show some (Value.int .i64 (IntKind.i64.wrap (a - b))) = _
  rw [IntWalk.i64_in _ h]
theorem xi_rem {c : Int} (e : a % b = c) (ha : 0 ≤ a) (hb : 0 < b) : binX .rem (.int .i64 a) (.int .i64 b) = some (.int .i64 c) := by
  subst e
  show (bif decide (b = 0) then none else some (Value.int .i64 (a.tmod b))) = _
  rw [decide_eq_false (by omega), Int.tmod_eq_emod_of_nonneg ha]
  rfl
theorem xi_ne {t : Bool} (h : decide (a ≠ b) = t) : binX .neq (.int .i64 a) (.int .i64 b) = some (.bool t) := by
  subst h
  show some (Value.bool (a != b)) = _
  rw [show (a != b) = decide (a ≠ b) by rw [Bool.eq_iff_iff]; simp]
theorem xi_lt {t : Bool} (h : decide (a < b) = t) : binX .lss (.int .i64 a) (.int .i64 b) = some (.bool t) := by
  subst h
  rfl
theorem xi_le {t : Bool} (h : decide (a ≤ b) = t) : binX .leq (.int .i64 a) (.int .i64 b) = some (.bool t) := by
  subst h
  rfl
theorem xi_gt {t : Bool} (h : decide (a > b) = t) : binX .gtr (.int .i64 a) (.int .i64 b) = some (.bool t) := by
  subst h
  rfl
theorem xi_ge {t : Bool} (h : decide (a ≥ b) = t) : binX .geq (.int .i64 a) (.int .i64 b) = some (.bool t) := by
  subst h
  rfl
theorem xi_eq {t : Bool} (h : decide (a = b) = t) : binX .eql (.int .i64 a) (.int .i64 b) = some (.bool t) := by
  subst h
  show some (Value.bool (a == b)) = _
  rw [show (a == b) = decide (a = b) by rw [Bool.eq_iff_iff]; simp]
end
theorem xi_remk {k : IntKind} {n m : Nat} (hm : m ≠ 0) : binX .rem (.int k n) (.int k m) = some (.int k (n % m : Nat)) := by
  have h2 : (n : Int).tmod m = ((n % m : Nat) : Int) := by rw [← Int.ofNat_tmod]
  show (bif decide (k = k) then (bif decide ((m : Int) = 0) then none else some (Value.int k ((n : Int).tmod m))) else none) = _
  rw [decide_eq_true rfl, decide_eq_false (show ¬ (m : Int) = 0 by omega), h2]
  rfl
theorem xi_eqk {k : IntKind} {n m : Nat} {b : Bool} (h : decide (n = m) = b) : binX .eql (.int k n) (.int k m) = some (.bool b) := by
  subst h
  show (bif decide (k = k) then some (Value.bool ((n : Int) == m)) else none) = _
  rw [decide_eq_true rfl, show ((n : Int) == m) = decide (n = m) by rw [Bool.eq_iff_iff]; simp; omega]
  rfl
/-- a letter and a number, a letter behind -/
theorem li [Ltr] {op : BinOp} {i : Nat} {u v q r : Value} (hi : Ltr.v i = some u) (hv : flat v = true) (h : binX op u v = some q) (hr : ∀ E : Ren, Rel E r q) : OEOk Tryz.prog (binE op (Lt i) v r) := binE_num (is_ltr hi) (is_flat hv) h hr
theorem il [Ltr] {op : BinOp} {i : Nat} {u v q r : Value} (hi : Ltr.v i = some u) (hv : flat v = true) (h : binX op v u = some q) (hr : ∀ E : Ren, Rel E r q) : OEOk Tryz.prog (binE op v (Lt i) r) := binE_num (is_flat hv) (is_ltr hi) h hr
theorem ll [Ltr] {op : BinOp} {i j : Nat} {u v q r : Value} (hi : Ltr.v i = some u) (hj : Ltr.v j = some v) (h : binX op u v = some q) (hr : ∀ E : Ren, Rel E r q) : OEOk Tryz.prog (binE op (Lt i) (Lt j) r) := binE_num (is_ltr hi) (is_ltr hj) h hr
theorem cv_day [Ltr] {i j n : Nat} (hn : n ≤ 4294967295) (hi : Ltr.v i = some (.int .u32 n)) (hj : Ltr.v j = some (.int .i64 n)) : OEOk Tryz.prog (cvE 23 32 (Lt i) (Lt j)) :=
  cvE_ok fun o ρ x E w ho hx => by
    have e1 := is_ltr hi E _ hx
    refine ⟨.int .i64 n, ?_, .ltr hj rfl⟩
    have h : IntKind.i64.wrap (n : Int) = n := IntWalk.i64_in _ (by omega)
    simp only [execOp, ho, e1]
    go_simp
end Go.Proofs.YtkcolbeemmnolaaGreatDoor
/-
  Letters: the less and the greater of two numbers.
-/
namespace Go.Proofs.YtkcolbeemmnolaaGreatDoor
open Go Go.RowKit
def minE (x y r : Value) : OE :=
  ⟨fun o ρ => match o with
    | .call ⟨.builtin .min, ⟨[a, b]⟩, _⟩ => pq (ρ a) x && pq (ρ b) y
    | _ => false, r⟩
theorem minE_ok [Ltr] {x y r : Value} {a b c : Int} (hx : ∀ (E : Ren) z, Rel E x z → z = .int .i64 a) (hy : ∀ (E : Ren) z, Rel E y z → z = .int .i64 b) (h : (if b < a then b else a) = c) (hr : ∀ E : Ren, Rel E r (.int .i64 c)) : OEOk Tryz.prog (minE x y r) := by
  intro o ρ ρ' E hq hf w
  simp only [minE] at hf
  split at hf
  · rename_i u v t ho
    simp only [Bool.and_eq_true] at hf
    obtain ⟨h2, h4⟩ := hf
    rw [ho] at hq
    have ra := hq u (by simp [Op.operands, Call.operands])
    have rb := hq v (by simp [Op.operands, Call.operands])
    rw [pq_eq h2] at ra
    rw [pq_eq h4] at rb
    have e1 := hx E _ ra
    have e2 := hy E _ rb
    refine ⟨.int .i64 c, ?_, hr E, fun c e => by rw [ho] at e; cases e⟩
    subst h
    simp only [execOp, ho]
    go_simp
  · cases hf
def maxE (x y r : Value) : OE :=
  ⟨fun o ρ => match o with
    | .call ⟨.builtin .max, ⟨[a, b]⟩, _⟩ => pq (ρ a) x && pq (ρ b) y
    | _ => false, r⟩
theorem maxE_ok [Ltr] {x y r : Value} {a b c : Int} (hx : ∀ (E : Ren) z, Rel E x z → z = .int .i64 a) (hy : ∀ (E : Ren) z, Rel E y z → z = .int .i64 b) (h : (if b > a then b else a) = c) (hr : ∀ E : Ren, Rel E r (.int .i64 c)) : OEOk Tryz.prog (maxE x y r) := by
  intro o ρ ρ' E hq hf w
  simp only [maxE] at hf
  split at hf
  · rename_i u v t ho
    simp only [Bool.and_eq_true] at hf
    obtain ⟨h2, h4⟩ := hf
    rw [ho] at hq
    have ra := hq u (by simp [Op.operands, Call.operands])
    have rb := hq v (by simp [Op.operands, Call.operands])
    rw [pq_eq h2] at ra
    rw [pq_eq h4] at rb
    have e1 := hx E _ ra
    have e2 := hy E _ rb
    refine ⟨.int .i64 c, ?_, hr E, fun c e => by rw [ho] at e; cases e⟩
    subst h
    simp only [execOp, ho]
    go_simp
  · cases hf
end Go.Proofs.YtkcolbeemmnolaaGreatDoor
/-
  Letters: a call of any arguments by its contract; what a pair of letters is.
-/
namespace Go.Proofs.YtkcolbeemmnolaaGreatDoor
open Go Go.RowKit
theorem rl_nil [Ltr] : ∀ (E : Ren) (a : List Value), RelL E [] a → a = [] := fun E a h => by cases h; rfl
theorem rl_l [Ltr] {i : Nat} {u : Value} {l l' : List Value} (hi : Ltr.v i = some u) (t : ∀ (E : Ren) (a : List Value), RelL E l a → a = l') : ∀ (E : Ren) (a : List Value), RelL E (Lt i :: l) a → a = u :: l' := fun E a h => by
  cases h with
  | cons h1 t1 => rw [is_ltr hi E _ h1, t E _ t1]
theorem rl_f [Ltr] {v : Value} {l l' : List Value} (hv : flat v = true) (t : ∀ (E : Ren) (a : List Value), RelL E l a → a = l') : ∀ (E : Ren) (a : List Value), RelL E (v :: l) a → a = v :: l' := fun E a h => by
  cases h with
  | cons h1 t1 => rw [is_flat hv E _ h1, t E _ t1]
theorem pg [Ltr] {X : Kep} {f : FuncId} {l l' : List Value} {r q : Value} (hl : ∀ (E : Ren) (a : List Value), RelL E l a → a = l') (hr : ∀ E : Ren, Rel E r q) (h : ∀ w : World, (∀ b, X b → w.heap[b]? = X.ob b) → Calls Tryz.prog f ⟨l'⟩ w fun e w' => e = .returned q ∧ Below w.heap.size w w') :
    ∀ (E : Ren) (w : World) (args' : List Value), (∀ b, X b → w.heap[b]? = X.ob b) → RelL E l args' → Calls Tryz.prog f ⟨args'⟩ w fun e w' => ∃ v', e = .returned v' ∧ Rel E r v' ∧ Below w.heap.size w w' := fun E w args' k ha => by
  rw [hl E _ ha]
  exact (h w k).mono fun e w' p => ⟨_, p.1, hr E, p.2⟩
/-- one pattern -/
theorem pg1 [Ltr] {X : Kep} {base : Nat} {f : FuncId} {l l' : List Value} {r q : Value} (hl : ∀ (E : Ren) (a : List Value), RelL E l a → a = l') (hr : ∀ E : Ren, Rel E r q) (h : ∀ w : World, (∀ b, X b → w.heap[b]? = X.ob b) → Calls Tryz.prog f ⟨l'⟩ w fun e w' => e = .returned q ∧ Below w.heap.size w w') : PEOk Tryz.prog X base (f, patP [(l, r)]) :=
  patP_ok (ac (pg hl hr h) an)
theorem same_w {P : Program} {f : FuncId} {args : Array Value} {w : World} {v : Value} (h : Calls P f args w fun e w' => e = .returned v ∧ w = w') : Calls P f args w fun e w' => e = .returned v ∧ Below w.heap.size w w' :=
  h.mono fun e w' p => ⟨p.1, by rw [← p.2]; exact Below.refl _ _⟩
end Go.Proofs.YtkcolbeemmnolaaGreatDoor
/-
  The period of a day, over plain numbers: where it begins, where it ends.
-/
namespace Go.Proofs.YtkcolbeemmnolaaGreatDoor.Cal
def pf (f : Nat) (d y n : Int) : Int := if f = 0 then d else if f = 1 then d - (d - 1) % 7 else if f = 2 then d - n + 1 else dby y + 1
def pt (f : Nat) (d y m n : Int) : Int := if f = 0 then d else if f = 1 then min (d - (d - 1) % 7 + 6) 3652059 else if f = 2 then d - n + dim y m else dby (y + 1)
theorem num_first {d y m n : Int} (h : Is d y m n) : num y m 1 = d - n + 1 := by
  obtain ⟨_, _, _, _, _, _, rfl⟩ := h
  unfold num
  omega
theorem num_last {d y m n : Int} (h : Is d y m n) : num y m (dim y m) = d - n + dim y m := by
  obtain ⟨_, _, _, _, _, _, rfl⟩ := h
  unfold num
  omega
theorem num_new (y : Int) : num y 1 1 = dby y + 1 := by
  unfold num
  rw [cum_one]
  omega
theorem num_old (y : Int) : num y 12 (dim y 12) = dby (y + 1) := by
  have h1 := cum_succ y 12 (by omega) (by omega)
  have h2 : cum y 13 = 365 + lpi y := cum_end y
  have h3 := dby_succ y
  unfold num
  rw [show (12 : Int) + 1 = 13 by rfl] at h1
  omega
end Go.Proofs.YtkcolbeemmnolaaGreatDoor.Cal
/-
  Contracts of the law's Day, of expand's between and Period.
-/
namespace Go.Proofs.YtkcolbeemmnolaaGreatDoor
open Go Go.RowKit
theorem pair_of [Ltr] {E : Ren} {i j : Nat} {u v z : Value} (hi : Ltr.v i = some u) (hj : Ltr.v j = some v) (h : Rel E (.tuple ⟨[Lt i, Lt j]⟩) z) : z = .tuple ⟨[u, v]⟩ := by
  cases h with
  | same h => cases h
  | tuple h => rw [rl_l hi (rl_l hj rl_nil) E _ h]
theorem span_of [Ltr] {E : Ren} {i j : Nat} {u v z : Value} (hi : Ltr.v i = some u) (hj : Ltr.v j = some v) (h : Rel E (.agg ⟨[Lt i, Lt j]⟩) z) : z = .agg ⟨[u, v]⟩ := by
  cases h with
  | same h => cases h
  | agg h => rw [rl_l hi (rl_l hj rl_nil) E _ h]
theorem symP2 (L : List Value) {O : List OE} {l : List PE} (n : Nat) {f : FuncId} {args args' : List Value} {i j : Nat} {u v : Value} {w : World} (hO : ∀ e ∈ O, @OEOk (ltrL L) Tryz.prog e) (hp : ∀ e ∈ l, @PEOk (ltrL L) Tryz.prog (kep w) 64 e) (ha : @RelL (ltrL L) (startE 64) args args') (hi : L[i]? = some u) (hj : L[j]? = some v) (e : Sym O l n f args (.tuple ⟨[Lt i, Lt j]⟩)) :
    Calls Tryz.prog f ⟨args'⟩ w fun e w' => e = .returned (.tuple ⟨[u, v]⟩) ∧ Below w.heap.size w w' := by
  let _ : Ltr := ltrL L
  exact (symI hO hp ha e).mono fun _ _ p => by
    obtain ⟨v', F, rfl, h2, h3⟩ := p
    rw [pair_of hi hj h2]
    exact ⟨rfl, h3⟩
theorem symA2 (L : List Value) {O : List OE} {l : List PE} (n : Nat) {f : FuncId} {args args' : List Value} {i j : Nat} {u v : Value} {w : World} (hO : ∀ e ∈ O, @OEOk (ltrL L) Tryz.prog e) (hp : ∀ e ∈ l, @PEOk (ltrL L) Tryz.prog (kep w) 64 e) (ha : @RelL (ltrL L) (startE 64) args args') (hi : L[i]? = some u) (hj : L[j]? = some v) (e : Sym O l n f args (.agg ⟨[Lt i, Lt j]⟩)) :
    Calls Tryz.prog f ⟨args'⟩ w fun e w' => e = .returned (.agg ⟨[u, v]⟩) ∧ Below w.heap.size w w' := by
  let _ : Ltr := ltrL L
  exact (symI hO hp ha e).mono fun _ _ p => by
    obtain ⟨v', F, rfl, h2, h3⟩ := p
    rw [span_of hi hj h2]
    exact ⟨rfl, h3⟩
theorem tri [Ltr] {i j k : Nat} {u v x : Value} (hi : Ltr.v i = some u) (hj : Ltr.v j = some v) (hk : Ltr.v k = some x) (a : sgl u = true) (b : sgl v = true) (c : sgl x = true) (E : Ren) : Rel E (.tuple ⟨[Lt i, Lt j, Lt k]⟩) (.tuple ⟨[u, v, x]⟩) := .tuple (.cons (.ltr hi a) (.cons (.ltr hj b) (.cons (.ltr hk c) .nil)))
theorem onb [Ltr] {i : Nat} {u : Value} {t : Bool} (hi : Ltr.v i = some u) (a : sgl u = true) (E : Ren) : Rel E (.tuple ⟨[Lt i, .bool t]⟩) (.tuple ⟨[u, .bool t]⟩) := .tuple (.cons (.ltr hi a) (.cons (.same rfl) .nil))
theorem duo [Ltr] {i j : Nat} {u v : Value} (hi : Ltr.v i = some u) (hj : Ltr.v j = some v) (a : sgl u = true) (b : sgl v = true) (E : Ren) : Rel E (.tuple ⟨[Lt i, Lt j]⟩) (.tuple ⟨[u, v]⟩) := .tuple (.cons (.ltr hi a) (.cons (.ltr hj b) .nil))
theorem spn [Ltr] {i j : Nat} {u v : Value} (hi : Ltr.v i = some u) (hj : Ltr.v j = some v) (a : sgl u = true) (b : sgl v = true) (E : Ren) : Rel E (.agg ⟨[Lt i, Lt j]⟩) (.agg ⟨[u, v]⟩) := .agg (.cons (.ltr hi a) (.cons (.ltr hj b) .nil))
theorem spanB_any (y a b : Int) (w : World) (hT : TabsE tabs w) (y1 : 1 ≤ y) (y2 : y ≤ 9999) (a1 : 1 ≤ a) (a2 : a ≤ 12) (b1 : 1 ≤ b) (b2 : b ≤ 12) :
    Calls Tryz.prog 42 #[.int .i64 y, .int .i64 a, .int .i64 b] w fun e w' => e = .returned (.agg ⟨[.int .i64 (Cal.num y a 1), .int .i64 (Cal.num y b (Cal.dim y b))]⟩) ∧ Below w.heap.size w w' := by
  have hK : ∀ w' : World, (∀ x, (kep w) x → w'.heap[x]? = (kep w).ob x) → Months w' := fun w' k => tabs_months (hT.keep k)
  have l1 := Cal.dim_lo y a a1 a2
  have l2 := Cal.dim_lo y b b1 b2
  have e2 := Cal.long_of (m := b) y1 y2
  let L : List Value := [.int .i64 y, .int .i64 a, .int .i64 b, .int .i64 (Cal.num y a 1), .int .i64 (Cal.dim y b), .int .i64 (Cal.num y b (Cal.dim y b))]
  let _ : Ltr := ltrL L
  refine symA2 L 60 (args := [Lt 0, Lt 1, Lt 2]) (O := []) (l := [(11, patP [([Lt 0, Lt 1, .int .i64 1], .tuple ⟨[Lt 3, .bool true]⟩), ([Lt 0, Lt 2, Lt 4], .tuple ⟨[Lt 5, .bool true]⟩)]), (29, patP [([Lt 0, Lt 2], Lt 4)])]) (i := 3) (j := 5)
    an (ac (patP_ok (ac (pg (rl_l rfl (rl_l rfl (rl_f rfl rl_nil))) (onb rfl rfl) fun w' k => same_w (of_yes y a 1 w' (hK w' k) y1 y2 a1 a2 (by omega) (by omega))) (ac (pg (rl_l rfl (rl_l rfl (rl_l rfl rl_nil))) (onb rfl rfl) fun w' k => same_w (of_yes y b _ w' (hK w' k) y1 y2 b1 b2 (by omega) (by omega))) an)))
      (ac (pg1 (rl_l rfl (rl_l rfl rl_nil)) (fun E => .ltr rfl rfl) fun w' k => same_w (by rw [← e2]; exact long_any y b w' (hK w' k))) an)) (.cons (.ltr rfl rfl) (.cons (.ltr rfl rfl) (.cons (.ltr rfl rfl) .nil))) rfl rfl (by delta Sym; show _ = _; kernel_rfl)
/-- a number, by another name -/
theorem cv_same [Ltr] {s t : TypeId} {i : Nat} {a : Int} (hi : Ltr.v i = some (.int .i64 a)) (h : ∀ (o : Oper) (ρ : Operand → Value) (x : Operand) (w : World), o.op = .convert s t x → ρ x = .int .i64 a → (execOp ρ o).run Tryz.prog w = .ok (.value (.int .i64 a)) w) : OEOk Tryz.prog (cvE s t (Lt i) (Lt i)) :=
  cvE_ok fun o ρ x E w ho hx => ⟨.int .i64 a, h o ρ x w ho (is_ltr hi E _ hx), .ltr hi rfl⟩
theorem cv_id [Ltr] {i : Nat} {a : Int} (hi : Ltr.v i = some (.int .i64 a)) (ha : -9223372036854775808 ≤ a ∧ a ≤ 9223372036854775807) : OEOk Tryz.prog (cvE 3 32 (Lt i) (Lt i)) :=
  cv_same hi fun o ρ x w ho e1 => by
    have h : IntKind.i64.wrap a = a := IntWalk.i64_in _ ha
    simp only [execOp, ho, e1]
    go_simp
theorem period_any (f : Nat) (hf : f < 4) (d y m n : Int) (h : Cal.Is d y m n) (w : World) (hT : TabsE tabs w) :
    Calls Tryz.prog 24 #[.int .i64 f, .int .i64 d] w fun e w' => e = .returned (.agg ⟨[.int .i64 (Cal.pf f d y n), .int .i64 (Cal.pt f d y m n)]⟩) ∧ Below w.heap.size w w' := by
  have hK : ∀ w' : World, (∀ x, (kep w) x → w'.heap[x]? = (kep w).ob x) → TabsE tabs w' := fun w' k => hT.keep k
  have r := h.range
  have h' := h
  obtain ⟨y1, y2, m1, m2, n1, n2, _⟩ := h'
  have e : f = 0 ∨ f = 1 ∨ f = 2 ∨ f = 3 := by omega
  rcases e with rfl | rfl | rfl | rfl
  · let L : List Value := [.int .i64 d]
    let _ : Ltr := ltrL L
    exact symA2 L 60 (args := [.int .i64 (0 : Nat), Lt 0]) (O := []) (l := [(25, patP [([Lt 0], .bool true)])]) (i := 0) (j := 0)
      an (ac (pg1 (rl_l rfl rl_nil) (fun E => .same rfl) fun w' k => same_w (valid_yes d w' r.1 r.2)) an) (.cons (.same rfl) (.cons (.ltr rfl rfl) .nil)) rfl rfl (by delta Sym; show _ = _; kernel_rfl)
  · let L : List Value := [.int .i64 d, .int .i64 ((d - 1) % 7), .int .i64 (d - (d - 1) % 7), .int .i64 (d - (d - 1) % 7 + 7), .int .i64 (d - (d - 1) % 7 + 6), .int .i64 (min (d - (d - 1) % 7 + 6) 3652059)]
    let _ : Ltr := ltrL L
    exact symA2 L 60 (args := [.int .i64 (1 : Nat), Lt 0]) (O := [cvE 3 32 (Lt 1) (Lt 1), binE .sub (Lt 0) (Lt 1) (Lt 2), binE .add (Lt 2) (.int .i64 7) (Lt 3), binE .sub (Lt 3) (.int .i64 1) (Lt 4), minE (Lt 4) (.int .i64 3652059) (Lt 5)])
      (l := [(25, patP [([Lt 0], .bool true)]), (41, patP [([Lt 0], Lt 1)])]) (i := 2) (j := 5)
      (ac (cv_id rfl (by omega)) (ac (ll rfl rfl (xi_sub rfl (by omega)) (to_ltr rfl rfl)) (ac (li rfl rfl (xi_add rfl (by omega)) (to_ltr rfl rfl)) (ac (li rfl rfl (xi_sub (by omega) (by omega)) (to_ltr rfl rfl)) (ac (minE_ok (is_ltr rfl) (is_flat rfl) (by omega) (to_ltr rfl rfl)) an)))))
      (ac (pg1 (rl_l rfl rl_nil) (fun E => .same rfl) fun w' k => same_w (valid_yes d w' r.1 r.2)) (ac (pg1 (rl_l rfl rl_nil) (fun E => .ltr rfl rfl) fun w' k => same_w (weekday_yes d w' r.1 r.2)) an)) (.cons (.same rfl) (.cons (.ltr rfl rfl) .nil)) rfl rfl (by delta Sym; show _ = _; kernel_rfl)
  · let L : List Value := [.int .i64 d, .int .i64 y, .int .i64 m, .int .i64 n, .int .i64 (d - n + 1), .int .i64 (d - n + Cal.dim y m)]
    let _ : Ltr := ltrL L
    exact symA2 L 60 (args := [.int .i64 (2 : Nat), Lt 0]) (O := [])
      (l := [(25, patP [([Lt 0], .bool true)]), (33, patP [([Lt 0], .tuple ⟨[Lt 1, Lt 2, Lt 3]⟩)]), (42, patP [([Lt 1, Lt 2, Lt 2], .agg ⟨[Lt 4, Lt 5]⟩)])]) (i := 4) (j := 5)
      an (ac (pg1 (rl_l rfl rl_nil) (fun E => .same rfl) fun w' k => same_w (valid_yes d w' r.1 r.2)) (ac (pg1 (rl_l rfl rl_nil) (tri rfl rfl rfl rfl rfl rfl) fun w' k => same_w (date_yes d y m n w' (tabs_months (hK w' k)) h))
        (ac (pg1 (rl_l rfl (rl_l rfl (rl_l rfl rl_nil))) (spn rfl rfl rfl rfl) fun w' k => by rw [← Cal.num_first h, ← Cal.num_last h]; exact spanB_any y m m w' (hK w' k) y1 y2 m1 m2 m1 m2) an))) (.cons (.same rfl) (.cons (.ltr rfl rfl) .nil)) rfl rfl (by delta Sym; show _ = _; kernel_rfl)
  · let L : List Value := [.int .i64 d, .int .i64 y, .int .i64 m, .int .i64 n, .int .i64 (Cal.dby y + 1), .int .i64 (Cal.dby (y + 1))]
    let _ : Ltr := ltrL L
    exact symA2 L 60 (args := [.int .i64 (3 : Nat), Lt 0]) (O := [])
      (l := [(25, patP [([Lt 0], .bool true)]), (33, patP [([Lt 0], .tuple ⟨[Lt 1, Lt 2, Lt 3]⟩)]), (42, patP [([Lt 1, .int .i64 1, .int .i64 12], .agg ⟨[Lt 4, Lt 5]⟩)])]) (i := 4) (j := 5)
      an (ac (pg1 (rl_l rfl rl_nil) (fun E => .same rfl) fun w' k => same_w (valid_yes d w' r.1 r.2)) (ac (pg1 (rl_l rfl rl_nil) (tri rfl rfl rfl rfl rfl rfl) fun w' k => same_w (date_yes d y m n w' (tabs_months (hK w' k)) h))
        (ac (pg1 (rl_l rfl (rl_f rfl (rl_f rfl rl_nil))) (spn rfl rfl rfl rfl) fun w' k => by rw [← Cal.num_new y, ← Cal.num_old y]; exact spanB_any y 1 12 w' (hK w' k) y1 y2 (by omega) (by omega) (by omega) (by omega)) an))) (.cons (.same rfl) (.cons (.ltr rfl rfl) .nil)) rfl rfl (by delta Sym; show _ = _; kernel_rfl)
/-- the law's day -/
def dayV (n e : Nat) : Int := if e % 8 = 0 then 1 + (n % 1500 : Nat) else if e % 8 = 1 then 3652059 - (n % 1500 : Nat) else 1 + (n % 3652059 : Nat)
theorem dayV_in (n e : Nat) : 1 ≤ dayV n e ∧ dayV n e ≤ 3652059 := by
  have h1 : n % 1500 < 1500 := Nat.mod_lt _ (by omega)
  have h2 : n % 3652059 < 3652059 := Nat.mod_lt _ (by omega)
  unfold dayV
  split
  · omega
  · split <;> omega
def dayO (a b : Bool) : List OE := [binE .rem (Lt 1) (.int .u8 (8 : Nat)) (Lt 2), binE .eql (Lt 2) (.int .u8 (0 : Nat)) (.bool a), binE .eql (Lt 2) (.int .u8 (1 : Nat)) (.bool b), binE .rem (Lt 0) (.int .u32 (1500 : Nat)) (Lt 3), cvE 23 32 (Lt 3) (Lt 4), cvE 23 32 (Lt 0) (Lt 5), binE .rem (Lt 5) (.int .i64 (3652059 : Nat)) (Lt 6), binE .add (.int .i64 1) (Lt 4) (Lt 7), binE .sub (.int .i64 3652059) (Lt 4) (Lt 8), binE .add (.int .i64 1) (Lt 6) (Lt 9)]
theorem day5_any (n e : Nat) (hn : n ≤ 4294967295) (w : World) : Calls Tryz.prog 7 #[.int .u32 n, .int .u8 e] w fun r w' => r = .returned (.int .i64 (dayV n e)) ∧ Below w.heap.size w w' := by
  have key : ∀ a b : Bool, Sym (dayO a b) [] 40 7 [Lt 0, Lt 1] (bif a then Lt 7 else bif b then Lt 8 else Lt 9) := by
    intro a b; cases a <;> cases b <;> (delta Sym; show _ = _; kernel_rfl)
  have h1 : n % 1500 < 1500 := Nat.mod_lt _ (by omega)
  have h2 : n % 3652059 < 3652059 := Nat.mod_lt _ (by omega)
  let L : List Value := [.int .u32 n, .int .u8 e, .int .u8 (e % 8 : Nat), .int .u32 (n % 1500 : Nat), .int .i64 (n % 1500 : Nat), .int .i64 n, .int .i64 (n % 3652059 : Nat), .int .i64 (1 + (n % 1500 : Nat)), .int .i64 (3652059 - (n % 1500 : Nat)), .int .i64 (1 + (n % 3652059 : Nat))]
  let _ : Ltr := ltrL L
  have go := fun (i : Nat) (v : Value) (hi : L[i]? = some v) (a b : Bool) (ea : decide (e % 8 = 0) = a) (eb : decide (e % 8 = 1) = b) (k : Sym (dayO a b) [] 40 7 [Lt 0, Lt 1] (Lt i)) => symL (i := i) (u := v) (w := w) (O := dayO a b) (args' := [.int .u32 n, .int .u8 e]) L 40 (ac (li rfl rfl (xi_remk (by omega)) (to_ltr rfl rfl)) (ac (li rfl rfl (xi_eqk ea) (to_flat rfl)) (ac (li rfl rfl (xi_eqk eb) (to_flat rfl)) (ac (li rfl rfl (xi_remk (by omega)) (to_ltr rfl rfl)) (ac (cv_day (by omega) rfl rfl) (ac (cv_day hn rfl rfl) (ac (li rfl rfl (xi_remk (by omega)) (to_ltr rfl rfl)) (ac (il rfl rfl (xi_add rfl (by omega)) (to_ltr rfl rfl)) (ac (il rfl rfl (xi_sub rfl (by omega)) (to_ltr rfl rfl)) (ac (il rfl rfl (xi_add rfl (by omega)) (to_ltr rfl rfl)) an))))))))))
    an (.cons (.ltr rfl rfl) (.cons (.ltr rfl rfl) .nil)) hi k
  by_cases e0 : e % 8 = 0
  · rw [show dayV n e = 1 + (n % 1500 : Nat) by simp [dayV, e0]]
    exact go 7 _ rfl true false (decide_eq_true e0) (decide_eq_false (by omega)) (key true false)
  · by_cases e1 : e % 8 = 1
    · rw [show dayV n e = 3652059 - (n % 1500 : Nat) by simp [dayV, e1]]
      exact go 8 _ rfl false true (decide_eq_false e0) (decide_eq_true e1) (key false true)
    · rw [show dayV n e = 1 + (n % 3652059 : Nat) by simp [dayV, e0, e1]]
      exact go 9 _ rfl false false (decide_eq_false e0) (decide_eq_false e1) (key false false)
end Go.Proofs.YtkcolbeemmnolaaGreatDoor
/-
  Periods over plain numbers: a period is that of its first day and of its last; the next one begins behind it.
-/
namespace Go.Proofs.YtkcolbeemmnolaaGreatDoor.Cal
/-- the period of day a is s to e -/
def Per (f : Nat) (a s e : Int) : Prop := ∃ y m n, Is a y m n ∧ pf f a y n = s ∧ pt f a y m n = e
theorem per_in {f : Nat} {a s e : Int} (h : Per f a s e) : 1 ≤ a ∧ a ≤ 3652059 := by
  obtain ⟨y, m, n, h, _⟩ := h
  exact h.range
theorem parts0 {d y m n : Int} (h : Is d y m n) : Per 0 d d d ∧ (d = 3652059 ∨ ∃ e, Per 0 (d + 1) (d + 1) e) := by
  refine ⟨⟨y, m, n, h, rfl, rfl⟩, ?_⟩
  by_cases hd : d = 3652059
  · exact .inl hd
  · have r := h.range
    obtain ⟨a, b, c, k⟩ := is_ex (d + 1) (by omega) (by omega)
    exact .inr ⟨_, a, b, c, k, rfl, rfl⟩
theorem per1 (a s : Int) (h1 : 1 ≤ a) (h2 : a ≤ 3652059) (hs : s = a - (a - 1) % 7) : Per 1 a s (min (s + 6) 3652059) := by
  obtain ⟨y, m, n, h⟩ := is_ex a h1 h2
  subst hs
  exact ⟨y, m, n, h, rfl, rfl⟩
theorem per2 {a y m n : Int} (h : Is a y m n) : Per 2 a (a - n + 1) (a - n + dim y m) := ⟨y, m, n, h, rfl, rfl⟩
theorem per3 {a y m n : Int} (h : Is a y m n) : Per 3 a (dby y + 1) (dby (y + 1)) := ⟨y, m, n, h, rfl, rfl⟩
theorem parts {f : Nat} (hf : f < 4) {d : Int} (h1 : 1 ≤ d) (h2 : d ≤ 3652059) : ∃ s e, Per f d s e ∧ s ≤ d ∧ d ≤ e ∧ Per f s s e ∧ Per f e s e ∧ (e = 3652059 ∨ e < 3652059 ∧ ∃ x, Per f (e + 1) (e + 1) x) := by
  obtain ⟨y, m, n, h⟩ := is_ex d h1 h2
  obtain ⟨y1, y2, m1, m2, n1, n2, hn⟩ := id h
  have e : f = 0 ∨ f = 1 ∨ f = 2 ∨ f = 3 := by omega
  rcases e with rfl | rfl | rfl | rfl
  · have p := parts0 h
    refine ⟨d, d, p.1, by omega, by omega, p.1, p.1, ?_⟩
    rcases p.2 with h | h
    · exact .inl h
    · by_cases hd : d = 3652059
      · exact .inl hd
      · exact .inr ⟨by omega, h⟩
  · refine ⟨d - (d - 1) % 7, min (d - (d - 1) % 7 + 6) 3652059, per1 d _ h1 h2 rfl, by omega, by omega, per1 _ _ (by omega) (by omega) (by omega), per1 _ _ (by omega) (by omega) (by omega), ?_⟩
    by_cases hd : d - (d - 1) % 7 + 6 < 3652059
    · refine .inr ⟨by omega, ?_⟩
      rw [show min (d - (d - 1) % 7 + 6) 3652059 = d - (d - 1) % 7 + 6 by omega]
      exact ⟨_, per1 _ _ (by omega) (by omega) (by omega)⟩
    · exact .inl (by omega)
  · have l := dim_lo y m m1 m2
    have a1 : Is (d - n + 1) y m 1 := by rw [← num_first h]; exact is_num y1 y2 m1 m2 (by omega) (by omega)
    have a2 : Is (d - n + dim y m) y m (dim y m) := by rw [← num_last h]; exact is_num y1 y2 m1 m2 (by omega) (by omega)
    have p1 := per2 a1
    have p2 := per2 a2
    rw [show d - n + 1 - 1 + 1 = d - n + 1 by omega, show d - n + 1 - 1 + dim y m = d - n + dim y m by omega] at p1
    rw [show d - n + dim y m - dim y m + 1 = d - n + 1 by omega, show d - n + dim y m - dim y m + dim y m = d - n + dim y m by omega] at p2
    refine ⟨_, _, per2 h, by omega, by omega, p1, p2, ?_⟩
    have r := a2.range
    by_cases hd : d - n + dim y m = 3652059
    · exact .inl hd
    · refine .inr ⟨by omega, ?_⟩
      obtain ⟨a, b, c, k⟩ := is_ex (d - n + dim y m + 1) (by omega) (by omega)
      have hc : c = 1 := by
        rcases a2.next k with ⟨rfl, rfl, rfl⟩ | h | h
        · have := k.2.2.2.2.2.1
          omega
        · exact h.2.2.1
        · exact h.2.2.1
      subst hc
      have p3 := per2 k
      rw [show d - n + dim y m + 1 - 1 + 1 = d - n + dim y m + 1 by omega] at p3
      exact ⟨_, p3⟩
  · have i := h.inYear
    have l1 := dim_lo y 1 (by omega) (by omega)
    have l2 := dim_lo y 12 (by omega) (by omega)
    have a1 : Is (dby y + 1) y 1 1 := by rw [← num_new]; exact is_num y1 y2 (by omega) (by omega) (by omega) (by omega)
    have a2 : Is (dby (y + 1)) y 12 (dim y 12) := by rw [← num_old]; exact is_num y1 y2 (by omega) (by omega) (by omega) (by omega)
    refine ⟨_, _, per3 h, by omega, by omega, per3 a1, per3 a2, ?_⟩
    by_cases hy : y = 9999
    · subst hy
      exact .inl dby_end
    · have l3 := dim_lo (y + 1) 1 (by omega) (by omega)
      have a3 : Is (dby (y + 1) + 1) (y + 1) 1 1 := by rw [← num_new]; exact is_num (by omega) (by omega) (by omega) (by omega) (by omega) (by omega)
      have r := a3.range
      exact .inr ⟨by omega, _, per3 a3⟩
end Go.Proofs.YtkcolbeemmnolaaGreatDoor.Cal
/-
  Two Spans compared; the law ExpandParts over letters.
-/
namespace Go.Proofs.YtkcolbeemmnolaaGreatDoor
open Go Go.RowKit
theorem period_per {f : Nat} (hf : f < 4) {a s e : Int} (h : Cal.Per f a s e) (w : World) (hT : TabsE tabs w) :
    Calls Tryz.prog 24 #[.int .i64 f, .int .i64 a] w fun r w' => r = .returned (.agg ⟨[.int .i64 s, .int .i64 e]⟩) ∧ Below w.heap.size w w' := by
  obtain ⟨y, m, n, h, rfl, rfl⟩ := h
  exact period_any f hf a y m n h w hT
/-- a period is itself -/
def spnE (t : TypeId) (a b : Nat) : OE :=
  ⟨fun o ρ => match o with
    | .binOp .neq t' x y t'' => match ρ x, ρ y with
      | .agg ⟨[u1, u2]⟩, .agg ⟨[v1, v2]⟩ => Nat.beq t' t && Nat.beq t'' t && pqs [u1, u2] [Lt a, Lt b] && pqs [v1, v2] [Lt a, Lt b]
      | _, _ => false
    | _ => false, .bool false⟩
theorem spnE_ok [Ltr] {a b : Nat} {u v : Int} (ha : Ltr.v a = some (.int .i64 u)) (hb : Ltr.v b = some (.int .i64 v)) : OEOk Tryz.prog (spnE 45 a b) := by
  intro o ρ ρ' E hr hf w
  simp only [spnE] at hf
  split at hf
  · rename_i t' x y t'' ho
    split at hf
    · rename_i u1 u2 v1 v2 h1 h2
      simp only [Bool.and_eq_true] at hf
      obtain ⟨⟨⟨k1, k2⟩, k3⟩, k4⟩ := hf
      rw [ho] at hr
      have ra := hr x (by simp [Op.operands])
      have rb := hr y (by simp [Op.operands])
      rw [h1, pqs_eq k3] at ra
      rw [h2, pqs_eq k4] at rb
      have e1 := span_of ha hb ra
      have e2 := span_of ha hb rb
      rw [Nat.eq_of_beq_eq_true k1, Nat.eq_of_beq_eq_true k2] at ho
      refine ⟨.bool false, ?_, .same rfl, fun c e => by rw [ho] at e; cases e⟩
      simp only [execOp, ho, e1, e2]
      go_simp
    · cases hf
  · cases hf
end Go.Proofs.YtkcolbeemmnolaaGreatDoor
/-
  Periods by their number: where the i-th begins, where it ends; the one behind; the period of a day.
-/
namespace Go.Proofs.YtkcolbeemmnolaaGreatDoor.Cal
/-- is there an i-th period? -/
def pok (f : Nat) (i : Int) : Bool := if f = 0 then decide (1 ≤ i ∧ i ≤ 3652059) else if f = 1 then decide (0 ≤ i ∧ 1 + 7 * i ≤ 3652059) else if f = 2 then decide (12 ≤ i ∧ i < 120000) else decide (1 ≤ i ∧ i ≤ 9999)
def ps (f : Nat) (i : Int) : Int := if f = 0 then i else if f = 1 then 1 + 7 * i else if f = 2 then num (i / 12) (i % 12 + 1) 1 else dby i + 1
def pe (f : Nat) (i : Int) : Int := if f = 0 then i else if f = 1 then min (7 + 7 * i) 3652059 else if f = 2 then num (i / 12) (i % 12 + 1) (dim (i / 12) (i % 12 + 1)) else dby (i + 1)
theorem f4_cases {f : Nat} (h : f < 4) : f = 0 ∨ f = 1 ∨ f = 2 ∨ f = 3 := by omega
/-- the period of a day by its number -/
theorem per_no {f : Nat} (hf : f < 4) {d s e : Int} (h : Per f d s e) : ∃ i, pok f i = true ∧ s = ps f i ∧ e = pe f i := by
  obtain ⟨y, m, n, h, rfl, rfl⟩ := h
  have r := h.range
  rcases f4_cases hf with rfl | rfl | rfl | rfl
  · exact ⟨d, by simp [pok]; omega, rfl, rfl⟩
  · refine ⟨(d - 1) / 7, by simp [pok]; omega, ?_, ?_⟩
    · show d - (d - 1) % 7 = 1 + 7 * ((d - 1) / 7)
      omega
    · show min (d - (d - 1) % 7 + 6) 3652059 = min (7 + 7 * ((d - 1) / 7)) 3652059
      congr 1
      omega
  · obtain ⟨y1, y2, m1, m2, n1, n2, hn⟩ := id h
    have e1 : (12 * y + (m - 1)) / 12 = y := by omega
    have e2 : (12 * y + (m - 1)) % 12 + 1 = m := by omega
    refine ⟨12 * y + (m - 1), by simp [pok]; omega, ?_, ?_⟩
    · show d - n + 1 = num ((12 * y + (m - 1)) / 12) ((12 * y + (m - 1)) % 12 + 1) 1
      rw [e1, e2, num_first h]
    · show d - n + dim y m = num ((12 * y + (m - 1)) / 12) ((12 * y + (m - 1)) % 12 + 1) (dim ((12 * y + (m - 1)) / 12) ((12 * y + (m - 1)) % 12 + 1))
      rw [e1, e2, num_last h]
  · obtain ⟨y1, y2, _⟩ := id h
    exact ⟨y, by simp [pok]; omega, rfl, rfl⟩
/-- .. and the other way about -/
theorem no_per {f : Nat} (hf : f < 4) {i : Int} (h : pok f i = true) : Per f (ps f i) (ps f i) (pe f i) := by
  rcases f4_cases hf with rfl | rfl | rfl | rfl
  · simp [pok] at h
    obtain ⟨y, m, n, k⟩ := is_ex i h.1 h.2
    exact ⟨y, m, n, k, rfl, rfl⟩
  · simp [pok] at h
    have := per1 (1 + 7 * i) (1 + 7 * i) (by omega) h.2 (by omega)
    rw [show 1 + 7 * i + 6 = 7 + 7 * i by omega] at this
    exact this
  · simp [pok] at h
    have l := dim_lo (i / 12) (i % 12 + 1) (by omega) (by omega)
    have k := is_num (y := i / 12) (m := i % 12 + 1) (d := 1) (by omega) (by omega) (by omega) (by omega) (by omega) (by omega)
    have := per2 k
    have e1 := num_last k
    rw [← num_first k, ← e1] at this
    exact this
  · simp [pok] at h
    have l := dim_lo i 1 (by omega) (by omega)
    have k := is_num (y := i) (m := 1) (d := 1) h.1 h.2 (by omega) (by omega) (by omega) (by omega)
    have := per3 k
    rw [num_new] at this
    exact this
/-- the one behind -/
theorem no_next {f : Nat} (hf : f < 4) {i : Int} (h : pok f i = true) : pok f (i + 1) = decide (pe f i < 3652059) ∧ (pok f (i + 1) = true → ps f (i + 1) = pe f i + 1) ∧ pe f i ≤ 3652059 := by
  rcases f4_cases hf with rfl | rfl | rfl | rfl
  · simp [pok] at h
    refine ⟨?_, fun _ => rfl, h.2⟩
    simp only [pok, pe, if_true]
    rw [decide_eq_decide]
    omega
  · simp [pok] at h
    have e1 : pe 1 i = min (7 + 7 * i) 3652059 := rfl
    refine ⟨?_, fun hh => ?_, by rw [e1]; omega⟩
    · rw [e1]
      show decide (0 ≤ i + 1 ∧ 1 + 7 * (i + 1) ≤ 3652059) = _
      rw [decide_eq_decide]
      omega
    · have hh : 0 ≤ i + 1 ∧ 1 + 7 * (i + 1) ≤ 3652059 := by simpa [pok] using hh
      rw [e1]
      show 1 + 7 * (i + 1) = _
      omega
  · simp [pok] at h
    have l := dim_lo (i / 12) (i % 12 + 1) (by omega) (by omega)
    have k := is_num (y := i / 12) (m := i % 12 + 1) (d := dim (i / 12) (i % 12 + 1)) (by omega) (by omega) (by omega) (by omega) (by omega) (by omega)
    have r := k.range
    have e1 : pe 2 i = num (i / 12) (i % 12 + 1) (dim (i / 12) (i % 12 + 1)) := rfl
    have key : num ((i + 1) / 12) ((i + 1) % 12 + 1) 1 = num (i / 12) (i % 12 + 1) (dim (i / 12) (i % 12 + 1)) + 1 := by
      by_cases hm : i % 12 = 11
      · have a1 : (i + 1) / 12 = i / 12 + 1 := by omega
        have a2 : (i + 1) % 12 = 0 := by omega
        rw [a1, a2, hm]
        show num (i / 12 + 1) 1 1 = num (i / 12) 12 (dim (i / 12) 12) + 1
        rw [num_new, num_old]
      · have a1 : (i + 1) / 12 = i / 12 := by omega
        have a2 : (i + 1) % 12 = i % 12 + 1 := by omega
        have c := cum_succ (i / 12) (i % 12 + 1) (by omega) (by omega)
        rw [a1, a2]
        unfold num
        omega
    refine ⟨?_, fun _ => key, by rw [e1]; exact r.2⟩
    rw [e1]
    show decide (12 ≤ i + 1 ∧ i + 1 < 120000) = _
    rw [decide_eq_decide]
    constructor
    · intro hh
      have l2 := dim_lo ((i + 1) / 12) ((i + 1) % 12 + 1) (by omega) (by omega)
      have k2 := is_num (y := (i + 1) / 12) (m := (i + 1) % 12 + 1) (d := 1) (by omega) (by omega) (by omega) (by omega) (by omega) (by omega)
      have r2 := k2.range
      omega
    · intro hh
      refine ⟨by omega, ?_⟩
      rcases Int.lt_or_le (i + 1) 120000 with hq | hq
      · exact hq
      · exfalso
        have hi : i = 119999 := by omega
        subst hi
        have : num (119999 / 12) (119999 % 12 + 1) (dim (119999 / 12) (119999 % 12 + 1)) = 3652059 := by
          show num 9999 12 (dim 9999 12) = 3652059
          rw [num_old]
          exact dby_end
        omega
  · simp [pok] at h
    have e1 : pe 3 i = dby (i + 1) := rfl
    have r := dby_bd (i + 1) (by omega) (by omega)
    refine ⟨?_, fun _ => rfl, by rw [e1]; exact r.2⟩
    rw [e1]
    show decide (1 ≤ i + 1 ∧ i + 1 ≤ 9999) = _
    rw [decide_eq_decide]
    constructor
    · intro hh
      have := dby_mono (i + 2) 10000 (by omega)
      have h2 := dby_succ (i + 1)
      have h3 := lpi_01 (i + 1)
      rw [show i + 1 + 1 = i + 2 by omega] at h2
      rw [dby_end] at this
      omega
    · intro hh
      refine ⟨by omega, ?_⟩
      rcases Int.lt_or_le i 9999 with hq | hq
      · omega
      · exfalso
        have hi : i = 9999 := by omega
        subst hi
        have : dby (9999 + 1) = 3652059 := dby_end
        omega
theorem pok_down {f : Nat} {i : Int} (h : pok f i = true) {j k : Nat} (hjk : j ≤ k) (hk : pok f (i + k) = true) : pok f (i + j) = true := by
  unfold pok at h hk ⊢
  split
  · rename_i h0; rw [if_pos h0] at h hk; simp at h hk ⊢; omega
  · rename_i h0
    rw [if_neg h0] at h hk
    split
    · rename_i h1; rw [if_pos h1] at h hk; simp at h hk ⊢; omega
    · rename_i h1
      rw [if_neg h1] at h hk
      split
      · rename_i h2; rw [if_pos h2] at h hk; simp at h hk ⊢; omega
      · rename_i h2; rw [if_neg h2] at h hk; simp at h hk ⊢; omega
theorem no_in {f : Nat} (hf : f < 4) {i : Int} (h : pok f i = true) : 1 ≤ ps f i ∧ ps f i ≤ 3652059 := per_in (no_per hf h)
theorem pe_ge {f : Nat} (hf : f < 4) {i : Int} (h : pok f i = true) : 1 ≤ pe f i := by
  rcases f4_cases hf with rfl | rfl | rfl | rfl
  · simp [pok] at h
    exact h.1
  · simp [pok] at h
    show 1 ≤ min (7 + 7 * i) 3652059
    omega
  · simp [pok] at h
    have l := dim_lo (i / 12) (i % 12 + 1) (by omega) (by omega)
    exact (is_num (y := i / 12) (m := i % 12 + 1) (d := dim (i / 12) (i % 12 + 1)) (by omega) (by omega) (by omega) (by omega) (by omega) (by omega)).range.1
  · simp [pok] at h
    have r := dby_bd i (by omega) (by omega)
    have h2 := dby_succ i
    have h3 := lpi_01 i
    show 1 ≤ dby (i + 1)
    omega
/-- so many periods behind, as the program reckons it: no day where there is none -/
def lat (f : Nat) (i n : Int) : Int := if f = 0 then i + n else if f = 1 then 1 + 7 * i + n * 7 else if pok f (i + n) = true then ps f (i + n) else 0
theorem lat_ok {f : Nat} {i n : Int} (h : pok f (i + n) = true) : lat f i n = ps f (i + n) := by
  unfold lat
  rw [h]
  unfold ps
  split
  · rfl
  · split
    · omega
    · rfl
theorem lat_no {f : Nat} (hf : f < 4) {i : Int} {n : Nat} (h0 : pok f i = true) (h : pok f (i + n) = false) : lat f i n < 1 ∨ 3652059 < lat f i n := by
  rcases f4_cases hf with rfl | rfl | rfl | rfl
  · simp [pok] at h h0
    right
    show 3652059 < i + n
    omega
  · simp [pok] at h h0
    right
    show 3652059 < 1 + 7 * i + n * 7
    omega
  · left
    show (if pok 2 (i + n) = true then _ else (0 : Int)) < 1
    rw [h]
    simp
  · left
    show (if pok 3 (i + n) = true then _ else (0 : Int)) < 1
    rw [h]
    simp
end Go.Proofs.YtkcolbeemmnolaaGreatDoor.Cal
/-
  Contracts: later; a period of no day.
-/
namespace Go.Proofs.YtkcolbeemmnolaaGreatDoor
open Go Go.RowKit
theorem xi_mul {a b c : Int} (e : a * b = c) (h : -9223372036854775808 ≤ c ∧ c ≤ 9223372036854775807) : binX .mul (.int .i64 a) (.int .i64 b) = some (.int .i64 c) := by
  subst e
  show some (Value.int .i64 (IntKind.i64.wrap (a * b))) = _
  rw [IntWalk.i64_in _ h]
theorem xi_quo {a b c : Int} (e : a / b = c) (ha : 0 ≤ a) (hb : 0 < b) (h : -9223372036854775808 ≤ c ∧ c ≤ 9223372036854775807) : binX .quo (.int .i64 a) (.int .i64 b) = some (.int .i64 c) := by
  subst e
  show (bif decide (b = 0) then none else some (Value.int .i64 (IntKind.i64.wrap (a.tdiv b)))) = _
  rw [decide_eq_false (by omega), Int.tdiv_eq_ediv_of_nonneg ha, IntWalk.i64_in _ h]
  rfl
theorem period_no (f : Nat) (d : Int) (hd : d < 1 ∨ 3652059 < d) (w : World) :
    Calls Tryz.prog 24 #[.int .i64 f, .int .i64 d] w fun e w' => e = .returned (.agg ⟨[.int .i64 0, .int .i64 0]⟩) ∧ Below w.heap.size w w' := by
  let L : List Value := [.int .i64 f, .int .i64 d]
  let _ : Ltr := ltrL L
  exact (symI (w := w) (O := []) (l := [(25, patP [([Lt 1], .bool false)])]) (n := 60) (f := 24) (args := [Lt 0, Lt 1]) (v := .agg ⟨[.int .i64 0, .int .i64 0]⟩) an
    (ac (pg1 (rl_l rfl rl_nil) (fun E => .same rfl) fun w' k => same_w (valid_no d w' hd)) an) (.cons (.ltr rfl rfl) (.cons (.ltr rfl rfl) .nil)) (by delta Sym; show _ = _; kernel_rfl)).mono fun _ _ p => by
    obtain ⟨v', F, rfl, h2, h3⟩ := p
    refine ⟨?_, h3⟩
    cases h2 with
    | same h => cases h
    | agg h => rw [rl_f rfl (rl_f rfl rl_nil) _ _ h]
def latO (f : Nat) : List OE := binE .gtr (Lt 1) (.int .i64 3652059) (.bool false) :: match f with
  | 0 => [binE .add (Lt 0) (Lt 1) (Lt 5)]
  | 1 => [binE .mul (Lt 1) (.int .i64 7) (Lt 6), binE .add (Lt 0) (Lt 6) (Lt 5)]
  | 2 => [binE .mul (Lt 2) (.int .i64 12) (Lt 6), binE .add (Lt 6) (Lt 3) (Lt 7), binE .sub (Lt 7) (.int .i64 1) (Lt 8), binE .add (Lt 8) (Lt 1) (Lt 9), binE .quo (Lt 9) (.int .i64 12) (Lt 10), binE .rem (Lt 9) (.int .i64 12) (Lt 11), binE .add (Lt 11) (.int .i64 1) (Lt 12)]
  | _ => [binE .add (Lt 2) (Lt 1) (Lt 6)]
def latP (f : Nat) (t : Bool) : List PE := (33, patP [([Lt 0], .tuple ⟨[Lt 2, Lt 3, Lt 4]⟩)]) :: match f with
  | 0 => []
  | 1 => []
  | 2 => [(11, patP [([Lt 10, Lt 12, .int .i64 1], .tuple ⟨[Lt 5, .bool t]⟩)])]
  | _ => [(11, patP [([Lt 6, .int .i64 1, .int .i64 1], .tuple ⟨[Lt 5, .bool t]⟩)])]
theorem lat_run : ∀ f < 4, ∀ t : Bool, Sym (latO f) (latP f t) 60 26 [.int .i64 f, Lt 0, Lt 1] (Lt 5) := by
  intro f hf t
  rcases Cal.f4_cases hf with rfl | rfl | rfl | rfl <;> cases t <;> (delta Sym; show _ = _; kernel_rfl)
theorem onb' [Ltr] {i : Nat} {u : Value} {t : Bool} (hi : Ltr.v i = some u) (a : sgl u = true) (E : Ren) : Rel E (.tuple ⟨[Lt i, .bool t]⟩) (.tuple #[u, .bool t]) := onb hi a E
theorem later_any (f : Nat) (hf : f < 4) (i : Int) (h : Cal.pok f i = true) (I : Nat) (hI : I ≤ 999) (w : World) (hT : TabsE tabs w) :
    Calls Tryz.prog 26 #[.int .i64 f, .int .i64 (Cal.ps f i), .int .i64 I] w fun e w' => e = .returned (.int .i64 (Cal.lat f i I)) ∧ Below w.heap.size w w' := by
  have hK : ∀ w' : World, (∀ x, (kep w) x → w'.heap[x]? = (kep w).ob x) → Months w' := fun w' k => tabs_months (hT.keep k)
  have r := Cal.no_in hf h
  rcases Cal.f4_cases hf with rfl | rfl | rfl | rfl
  · have h' : 1 ≤ i ∧ i ≤ 3652059 := by simpa [Cal.pok] using h
    obtain ⟨y, m, n, k⟩ := Cal.is_ex _ r.1 r.2
    let L : List Value := [.int .i64 (Cal.ps 0 i), .int .i64 I, .int .i64 y, .int .i64 m, .int .i64 n, .int .i64 (Cal.lat 0 i I)]
    let _ : Ltr := ltrL L
    exact symL L 60 (i := 5) (O := latO 0) (l := latP 0 true) (args := [.int .i64 (0 : Nat), Lt 0, Lt 1]) (ac (li rfl rfl (xi_gt (decide_eq_false (by omega))) (to_flat rfl)) (ac (ll rfl rfl (xi_add rfl (by omega)) (to_ltr rfl rfl)) an))
      (ac (pg1 (rl_l rfl rl_nil) (tri rfl rfl rfl rfl rfl rfl) fun w' k' => same_w (date_yes _ y m n w' (hK w' k') k)) an) (.cons (.same rfl) (.cons (.ltr rfl rfl) (.cons (.ltr rfl rfl) .nil))) rfl (lat_run 0 hf true)
  · have h' : 0 ≤ i ∧ 1 + 7 * i ≤ 3652059 := by simpa [Cal.pok] using h
    obtain ⟨y, m, n, k⟩ := Cal.is_ex _ r.1 r.2
    let L : List Value := [.int .i64 (Cal.ps 1 i), .int .i64 I, .int .i64 y, .int .i64 m, .int .i64 n, .int .i64 (Cal.lat 1 i I), .int .i64 (I * 7)]
    let _ : Ltr := ltrL L
    exact symL L 60 (i := 5) (O := latO 1) (l := latP 1 true) (args := [.int .i64 (1 : Nat), Lt 0, Lt 1]) (ac (li rfl rfl (xi_gt (decide_eq_false (by omega))) (to_flat rfl)) (ac (li rfl rfl (xi_mul rfl (by omega)) (to_ltr rfl rfl)) (ac (ll rfl rfl (xi_add rfl (by omega)) (to_ltr rfl rfl)) an)))
      (ac (pg1 (rl_l rfl rl_nil) (tri rfl rfl rfl rfl rfl rfl) fun w' k' => same_w (date_yes _ y m n w' (hK w' k') k)) an) (.cons (.same rfl) (.cons (.ltr rfl rfl) (.cons (.ltr rfl rfl) .nil))) rfl (lat_run 1 hf true)
  · have h' : 12 ≤ i ∧ i < 120000 := by simpa [Cal.pok] using h
    have l := Cal.dim_lo (i / 12) (i % 12 + 1) (by omega) (by omega)
    have k := Cal.is_num (y := i / 12) (m := i % 12 + 1) (d := 1) (by omega) (by omega) (by omega) (by omega) (by omega) (by omega)
    let L : List Value := [.int .i64 (Cal.ps 2 i), .int .i64 I, .int .i64 (i / 12), .int .i64 (i % 12 + 1), .int .i64 1, .int .i64 (Cal.lat 2 i I), .int .i64 (i / 12 * 12), .int .i64 (i + 1), .int .i64 i, .int .i64 (i + I), .int .i64 ((i + I) / 12), .int .i64 ((i + I) % 12), .int .i64 ((i + I) % 12 + 1)]
    let _ : Ltr := ltrL L
    have go := fun (t : Bool) (ht : ∀ w' : World, (∀ x, (kep w) x → w'.heap[x]? = (kep w).ob x) → Calls Tryz.prog 11 #[.int .i64 ((i + I) / 12), .int .i64 ((i + I) % 12 + 1), .int .i64 1] w' fun e w'' => e = .returned (.tuple #[.int .i64 (Cal.lat 2 i I), .bool t]) ∧ w' = w'') =>
      symL L 60 (i := 5) (w := w) (u := .int .i64 (Cal.lat 2 i I)) (O := latO 2) (l := latP 2 t) (args := [.int .i64 (2 : Nat), Lt 0, Lt 1]) (args' := [.int .i64 (2 : Nat), .int .i64 (Cal.ps 2 i), .int .i64 I])
        (ac (li rfl rfl (xi_gt (decide_eq_false (by omega))) (to_flat rfl)) (ac (li rfl rfl (xi_mul rfl (by omega)) (to_ltr rfl rfl)) (ac (ll rfl rfl (xi_add (c := i + 1) (by omega) (by omega)) (to_ltr rfl rfl)) (ac (li rfl rfl (xi_sub (c := i) (by omega) (by omega)) (to_ltr rfl rfl)) (ac (ll rfl rfl (xi_add rfl (by omega)) (to_ltr rfl rfl)) (ac (li rfl rfl (xi_quo rfl (by omega) (by omega) (by omega)) (to_ltr rfl rfl)) (ac (li rfl rfl (xi_rem rfl (by omega) (by omega)) (to_ltr rfl rfl)) (ac (li rfl rfl (xi_add rfl (by omega)) (to_ltr rfl rfl)) an))))))))
        (ac (pg1 (rl_l rfl rl_nil) (tri rfl rfl rfl rfl rfl rfl) fun w' k' => same_w (date_yes _ _ _ _ w' (hK w' k') k)) (ac (pg1 (rl_l rfl (rl_l rfl (rl_f rfl rl_nil))) (onb' rfl rfl) fun w' k' => same_w (ht w' k')) an)) (.cons (.same rfl) (.cons (.ltr rfl rfl) (.cons (.ltr rfl rfl) .nil))) rfl (lat_run 2 hf t)
    cases hp : Cal.pok 2 (i + I) with
    | true =>
      have h2 : 12 ≤ i + I ∧ i + I < 120000 := by simpa [Cal.pok] using hp
      have l2 := Cal.dim_lo ((i + I) / 12) ((i + I) % 12 + 1) (by omega) (by omega)
      refine go true fun w' k' => ?_
      rw [Cal.lat_ok hp]
      exact of_yes _ _ _ w' (hK w' k') (by omega) (by omega) (by omega) (by omega) (by omega) (by omega)
    | false =>
      have h2 : ¬ (12 ≤ i + I ∧ i + I < 120000) := fun hh => by simp [Cal.pok] at hp; omega
      refine go false fun w' k' => ?_
      have e : Cal.lat 2 i I = 0 := by
        show (if Cal.pok 2 (i + I) = true then _ else (0 : Int)) = 0
        rw [hp]
        rfl
      rw [e]
      exact of_no _ _ _ w' (hK w' k') (.inr (by unfold Cal.long; rw [if_neg (by omega)]; omega))
  · have h' : 1 ≤ i ∧ i ≤ 9999 := by simpa [Cal.pok] using h
    have l := Cal.dim_lo i 1 (by omega) (by omega)
    have k := Cal.is_num (y := i) (m := 1) (d := 1) h'.1 h'.2 (by omega) (by omega) (by omega) (by omega)
    rw [Cal.num_new] at k
    let L : List Value := [.int .i64 (Cal.ps 3 i), .int .i64 I, .int .i64 i, .int .i64 1, .int .i64 1, .int .i64 (Cal.lat 3 i I), .int .i64 (i + I)]
    let _ : Ltr := ltrL L
    have go := fun (t : Bool) (ht : ∀ w' : World, (∀ x, (kep w) x → w'.heap[x]? = (kep w).ob x) → Calls Tryz.prog 11 #[.int .i64 (i + I), .int .i64 1, .int .i64 1] w' fun e w'' => e = .returned (.tuple #[.int .i64 (Cal.lat 3 i I), .bool t]) ∧ w' = w'') =>
      symL L 60 (i := 5) (w := w) (u := .int .i64 (Cal.lat 3 i I)) (O := latO 3) (l := latP 3 t) (args := [.int .i64 (3 : Nat), Lt 0, Lt 1]) (args' := [.int .i64 (3 : Nat), .int .i64 (Cal.ps 3 i), .int .i64 I])
        (ac (li rfl rfl (xi_gt (decide_eq_false (by omega))) (to_flat rfl)) (ac (ll rfl rfl (xi_add rfl (by omega)) (to_ltr rfl rfl)) an))
        (ac (pg1 (rl_l rfl rl_nil) (tri rfl rfl rfl rfl rfl rfl) fun w' k' => same_w (date_yes _ _ _ _ w' (hK w' k') k)) (ac (pg1 (rl_l rfl (rl_f rfl (rl_f rfl rl_nil))) (onb' rfl rfl) fun w' k' => same_w (ht w' k')) an)) (.cons (.same rfl) (.cons (.ltr rfl rfl) (.cons (.ltr rfl rfl) .nil))) rfl (lat_run 3 hf t)
    cases hp : Cal.pok 3 (i + I) with
    | true =>
      have h2 : 1 ≤ i + I ∧ i + I ≤ 9999 := by simpa [Cal.pok] using hp
      have l2 := Cal.dim_lo (i + I) 1 (by omega) (by omega)
      refine go true fun w' k' => ?_
      rw [Cal.lat_ok hp, show Cal.ps 3 (i + I) = Cal.num (i + I) 1 1 by rw [Cal.num_new]; rfl]
      exact of_yes _ _ _ w' (hK w' k') (by omega) (by omega) (by omega) (by omega) (by omega) (by omega)
    | false =>
      have h2 : ¬ (1 ≤ i + I ∧ i + I ≤ 9999) := fun hh => by simp [Cal.pok] at hp; omega
      refine go false fun w' k' => ?_
      have e : Cal.lat 3 i I = 0 := by
        show (if Cal.pok 3 (i + I) = true then _ else (0 : Int)) = 0
        rw [hp]
        rfl
      rw [e]
      exact of_no _ _ _ w' (hK w' k') (.inr (by unfold Cal.long; rw [if_neg (by omega)]; omega))
end Go.Proofs.YtkcolbeemmnolaaGreatDoor
