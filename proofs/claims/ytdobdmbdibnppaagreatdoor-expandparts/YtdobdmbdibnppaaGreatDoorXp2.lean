/-
  Contracts of the law's Day, of expand's between and Period.
-/
import Derived.Test.YtdobdmbdibnppaaGreatDoorEi
import Derived.Test.YtdobdmbdibnppaaGreatDoorEn
import Derived.Test.YtdobdmbdibnppaaGreatDoorEg
import Derived.Test.YtdobdmbdibnppaaGreatDoorXp1
import Derived.Test.YtdobdmbdibnppaaGreatDoorEa1
namespace Go.Proofs.YtdobdmbdibnppaaGreatDoor
open Go Go.RowKit
theorem span_of [Ltr] {E : Ren} {i j : Nat} {u v z : Value} (hi : Ltr.v i = some u) (hj : Ltr.v j = some v) (h : Rel E (.agg ⟨[Lt i, Lt j]⟩) z) : z = .agg ⟨[u, v]⟩ := by
  cases h with
  | same h => cases h
  | agg h => rw [rl_l hi (rl_l hj rl_nil) E _ h]
theorem symA2 (L : List Value) {O : List OE} {l : List PE} (n : Nat) {f : FuncId} {args args' : List Value} {i j : Nat} {u v : Value} {w : World} (hO : ∀ e ∈ O, @OEOk (ltrL L) Tryz.prog e) (hp : ∀ e ∈ l, @PEOk (ltrL L) Tryz.prog (kep w) 64 e) (ha : @RelL (ltrL L) (startE 64) args args') (hi : L[i]? = some u) (hj : L[j]? = some v) (e : Sym O l n f args (.agg ⟨[Lt i, Lt j]⟩)) :
    Calls Tryz.prog f ⟨args'⟩ w fun e w' => e = .returned (.agg ⟨[u, v]⟩) ∧ Below w.heap.size w w' := by
  let _ : Ltr := ltrL L
  exact (symI hO hp ha e).mono fun _ _ p => by
    obtain ⟨v', F, rfl, h2, h3⟩ := p
    rw [span_of hi hj h2]
    exact ⟨rfl, h3⟩
theorem tri [Ltr] {i j k : Nat} {u v x : Value} (hi : Ltr.v i = some u) (hj : Ltr.v j = some v) (hk : Ltr.v k = some x) (a : sgl u = true) (b : sgl v = true) (c : sgl x = true) (E : Ren) : Rel E (.tuple ⟨[Lt i, Lt j, Lt k]⟩) (.tuple ⟨[u, v, x]⟩) := .tuple (.cons (.ltr hi a) (.cons (.ltr hj b) (.cons (.ltr hk c) .nil)))
theorem onb [Ltr] {i : Nat} {u : Value} {t : Bool} (hi : Ltr.v i = some u) (a : sgl u = true) (E : Ren) : Rel E (.tuple ⟨[Lt i, .bool t]⟩) (.tuple ⟨[u, .bool t]⟩) := .tuple (.cons (.ltr hi a) (.cons (.same rfl) .nil))
theorem spn [Ltr] {i j : Nat} {u v : Value} (hi : Ltr.v i = some u) (hj : Ltr.v j = some v) (a : sgl u = true) (b : sgl v = true) (E : Ren) : Rel E (.agg ⟨[Lt i, Lt j]⟩) (.agg ⟨[u, v]⟩) := .agg (.cons (.ltr hi a) (.cons (.ltr hj b) .nil))
theorem between_any (y a b : Int) (w : World) (hT : TabsE tabs w) (y1 : 1 ≤ y) (y2 : y ≤ 9999) (a1 : 1 ≤ a) (a2 : a ≤ 12) (b1 : 1 ≤ b) (b2 : b ≤ 12) :
    Calls Tryz.prog 15 #[.int .i64 y, .int .i64 a, .int .i64 b] w fun e w' => e = .returned (.agg ⟨[.int .i64 (Cal.num y a 1), .int .i64 (Cal.num y b (Cal.dim y b))]⟩) ∧ Below w.heap.size w w' := by
  have hK : ∀ w' : World, (∀ x, (kep w) x → w'.heap[x]? = (kep w).ob x) → Months w' := fun w' k => tabs_months (hT.keep k)
  have l1 := Cal.dim_lo y a a1 a2
  have l2 := Cal.dim_lo y b b1 b2
  have e2 := Cal.long_of (m := b) y1 y2
  let L : List Value := [.int .i64 y, .int .i64 a, .int .i64 b, .int .i64 (Cal.num y a 1), .int .i64 (Cal.dim y b), .int .i64 (Cal.num y b (Cal.dim y b))]
  let _ : Ltr := ltrL L
  refine symA2 L 60 (args := [Lt 0, Lt 1, Lt 2]) (O := []) (l := [(8, patP [([Lt 0, Lt 1, .int .i64 1], .tuple ⟨[Lt 3, .bool true]⟩), ([Lt 0, Lt 2, Lt 4], .tuple ⟨[Lt 5, .bool true]⟩)]), (18, patP [([Lt 0, Lt 2], Lt 4)])]) (i := 3) (j := 5)
    an (ac (patP_ok (ac (pg (rl_l rfl (rl_l rfl (rl_f rfl rl_nil))) (onb rfl rfl) fun w' k => same_w (of_yes y a 1 w' (hK w' k) y1 y2 a1 a2 (by omega) (by omega))) (ac (pg (rl_l rfl (rl_l rfl (rl_l rfl rl_nil))) (onb rfl rfl) fun w' k => same_w (of_yes y b _ w' (hK w' k) y1 y2 b1 b2 (by omega) (by omega))) an)))
      (ac (pg1 (rl_l rfl (rl_l rfl rl_nil)) (fun E => .ltr rfl rfl) fun w' k => same_w (by rw [← e2]; exact long_any y b w' (hK w' k))) an)) (.cons (.ltr rfl rfl) (.cons (.ltr rfl rfl) (.cons (.ltr rfl rfl) .nil))) rfl rfl (by delta Sym; show _ = _; kernel_rfl)
/-- a number, by another name -/
theorem cv_same [Ltr] {s t : TypeId} {i : Nat} {a : Int} (hi : Ltr.v i = some (.int .i64 a)) (h : ∀ (o : Oper) (ρ : Operand → Value) (x : Operand) (w : World), o.op = .convert s t x → ρ x = .int .i64 a → (execOp ρ o).run Tryz.prog w = .ok (.value (.int .i64 a)) w) : OEOk Tryz.prog (cvE s t (Lt i) (Lt i)) :=
  cvE_ok fun o ρ x E w ho hx => ⟨.int .i64 a, h o ρ x w ho (is_ltr hi E _ hx), .ltr hi rfl⟩
theorem cv_id [Ltr] {i : Nat} {a : Int} (hi : Ltr.v i = some (.int .i64 a)) (ha : -9223372036854775808 ≤ a ∧ a ≤ 9223372036854775807) : OEOk Tryz.prog (cvE 3 24 (Lt i) (Lt i)) :=
  cv_same hi fun o ρ x w ho e1 => by
    have h : IntKind.i64.wrap a = a := IntWalk.i64_in _ ha
    simp only [execOp, ho, e1]
    go_simp
theorem period_any (f : Nat) (hf : f < 4) (d y m n : Int) (h : Cal.Is d y m n) (w : World) (hT : TabsE tabs w) :
    Calls Tryz.prog 6 #[.int .i64 f, .int .i64 d] w fun e w' => e = .returned (.agg ⟨[.int .i64 (Cal.pf f d y n), .int .i64 (Cal.pt f d y m n)]⟩) ∧ Below w.heap.size w w' := by
  have hK : ∀ w' : World, (∀ x, (kep w) x → w'.heap[x]? = (kep w).ob x) → TabsE tabs w' := fun w' k => hT.keep k
  have r := h.range
  have h' := h
  obtain ⟨y1, y2, m1, m2, n1, n2, _⟩ := h'
  have e : f = 0 ∨ f = 1 ∨ f = 2 ∨ f = 3 := by omega
  rcases e with rfl | rfl | rfl | rfl
  · let L : List Value := [.int .i64 d]
    let _ : Ltr := ltrL L
    exact symA2 L 60 (args := [.int .i64 (0 : Nat), Lt 0]) (O := []) (l := [(12, patP [([Lt 0], .bool true)])]) (i := 0) (j := 0)
      an (ac (pg1 (rl_l rfl rl_nil) (fun E => .same rfl) fun w' k => same_w (valid_yes d w' r.1 r.2)) an) (.cons (.same rfl) (.cons (.ltr rfl rfl) .nil)) rfl rfl (by delta Sym; show _ = _; kernel_rfl)
  · let L : List Value := [.int .i64 d, .int .i64 ((d - 1) % 7), .int .i64 (d - (d - 1) % 7), .int .i64 (d - (d - 1) % 7 + 7), .int .i64 (d - (d - 1) % 7 + 6), .int .i64 (min (d - (d - 1) % 7 + 6) 3652059)]
    let _ : Ltr := ltrL L
    exact symA2 L 60 (args := [.int .i64 (1 : Nat), Lt 0]) (O := [cvE 3 24 (Lt 1) (Lt 1), binE .sub (Lt 0) (Lt 1) (Lt 2), binE .add (Lt 2) (.int .i64 7) (Lt 3), binE .sub (Lt 3) (.int .i64 1) (Lt 4), minE (Lt 4) (.int .i64 3652059) (Lt 5)])
      (l := [(12, patP [([Lt 0], .bool true)]), (13, patP [([Lt 0], Lt 1)])]) (i := 2) (j := 5)
      (ac (cv_id rfl (by omega)) (ac (ll rfl rfl (xi_sub rfl (by omega)) (to_ltr rfl rfl)) (ac (li rfl rfl (xi_add rfl (by omega)) (to_ltr rfl rfl)) (ac (li rfl rfl (xi_sub (by omega) (by omega)) (to_ltr rfl rfl)) (ac (minE_ok (is_ltr rfl) (is_flat rfl) (by omega) (to_ltr rfl rfl)) an)))))
      (ac (pg1 (rl_l rfl rl_nil) (fun E => .same rfl) fun w' k => same_w (valid_yes d w' r.1 r.2)) (ac (pg1 (rl_l rfl rl_nil) (fun E => .ltr rfl rfl) fun w' k => same_w (weekday_yes d w' r.1 r.2)) an)) (.cons (.same rfl) (.cons (.ltr rfl rfl) .nil)) rfl rfl (by delta Sym; show _ = _; kernel_rfl)
  · let L : List Value := [.int .i64 d, .int .i64 y, .int .i64 m, .int .i64 n, .int .i64 (d - n + 1), .int .i64 (d - n + Cal.dim y m)]
    let _ : Ltr := ltrL L
    exact symA2 L 60 (args := [.int .i64 (2 : Nat), Lt 0]) (O := [])
      (l := [(12, patP [([Lt 0], .bool true)]), (14, patP [([Lt 0], .tuple ⟨[Lt 1, Lt 2, Lt 3]⟩)]), (15, patP [([Lt 1, Lt 2, Lt 2], .agg ⟨[Lt 4, Lt 5]⟩)])]) (i := 4) (j := 5)
      an (ac (pg1 (rl_l rfl rl_nil) (fun E => .same rfl) fun w' k => same_w (valid_yes d w' r.1 r.2)) (ac (pg1 (rl_l rfl rl_nil) (tri rfl rfl rfl rfl rfl rfl) fun w' k => same_w (date_yes d y m n w' (tabs_months (hK w' k)) h))
        (ac (pg1 (rl_l rfl (rl_l rfl (rl_l rfl rl_nil))) (spn rfl rfl rfl rfl) fun w' k => by rw [← Cal.num_first h, ← Cal.num_last h]; exact between_any y m m w' (hK w' k) y1 y2 m1 m2 m1 m2) an))) (.cons (.same rfl) (.cons (.ltr rfl rfl) .nil)) rfl rfl (by delta Sym; show _ = _; kernel_rfl)
  · let L : List Value := [.int .i64 d, .int .i64 y, .int .i64 m, .int .i64 n, .int .i64 (Cal.dby y + 1), .int .i64 (Cal.dby (y + 1))]
    let _ : Ltr := ltrL L
    exact symA2 L 60 (args := [.int .i64 (3 : Nat), Lt 0]) (O := [])
      (l := [(12, patP [([Lt 0], .bool true)]), (14, patP [([Lt 0], .tuple ⟨[Lt 1, Lt 2, Lt 3]⟩)]), (15, patP [([Lt 1, .int .i64 1, .int .i64 12], .agg ⟨[Lt 4, Lt 5]⟩)])]) (i := 4) (j := 5)
      an (ac (pg1 (rl_l rfl rl_nil) (fun E => .same rfl) fun w' k => same_w (valid_yes d w' r.1 r.2)) (ac (pg1 (rl_l rfl rl_nil) (tri rfl rfl rfl rfl rfl rfl) fun w' k => same_w (date_yes d y m n w' (tabs_months (hK w' k)) h))
        (ac (pg1 (rl_l rfl (rl_f rfl (rl_f rfl rl_nil))) (spn rfl rfl rfl rfl) fun w' k => by rw [← Cal.num_new y, ← Cal.num_old y]; exact between_any y 1 12 w' (hK w' k) y1 y2 (by omega) (by omega) (by omega) (by omega)) an))) (.cons (.same rfl) (.cons (.ltr rfl rfl) .nil)) rfl rfl (by delta Sym; show _ = _; kernel_rfl)
/-- the law's day -/
def dayV (n e : Nat) : Int := if e % 8 = 0 then 1 + (n % 1500 : Nat) else if e % 8 = 1 then 3652059 - (n % 1500 : Nat) else 1 + (n % 3652059 : Nat)
theorem dayV_in (n e : Nat) : 1 ≤ dayV n e ∧ dayV n e ≤ 3652059 := by
  have h1 : n % 1500 < 1500 := Nat.mod_lt _ (by omega)
  have h2 : n % 3652059 < 3652059 := Nat.mod_lt _ (by omega)
  unfold dayV
  split
  · omega
  · split <;> omega
def dayO (a b : Bool) : List OE := [binE .rem (Lt 1) (.int .u8 (8 : Nat)) (Lt 2), binE .eql (Lt 2) (.int .u8 (0 : Nat)) (.bool a), binE .eql (Lt 2) (.int .u8 (1 : Nat)) (.bool b), binE .rem (Lt 0) (.int .u32 (1500 : Nat)) (Lt 3), cvE 22 24 (Lt 3) (Lt 4), cvE 22 24 (Lt 0) (Lt 5), binE .rem (Lt 5) (.int .i64 (3652059 : Nat)) (Lt 6), binE .add (.int .i64 1) (Lt 4) (Lt 7), binE .sub (.int .i64 3652059) (Lt 4) (Lt 8), binE .add (.int .i64 1) (Lt 6) (Lt 9)]
theorem day5_any (n e : Nat) (hn : n ≤ 4294967295) (w : World) : Calls Tryz.prog 5 #[.int .u32 n, .int .u8 e] w fun r w' => r = .returned (.int .i64 (dayV n e)) ∧ Below w.heap.size w w' := by
  have key : ∀ a b : Bool, Sym (dayO a b) [] 40 5 [Lt 0, Lt 1] (bif a then Lt 7 else bif b then Lt 8 else Lt 9) := by
    intro a b; cases a <;> cases b <;> (delta Sym; show _ = _; kernel_rfl)
  have h1 : n % 1500 < 1500 := Nat.mod_lt _ (by omega)
  have h2 : n % 3652059 < 3652059 := Nat.mod_lt _ (by omega)
  let L : List Value := [.int .u32 n, .int .u8 e, .int .u8 (e % 8 : Nat), .int .u32 (n % 1500 : Nat), .int .i64 (n % 1500 : Nat), .int .i64 n, .int .i64 (n % 3652059 : Nat), .int .i64 (1 + (n % 1500 : Nat)), .int .i64 (3652059 - (n % 1500 : Nat)), .int .i64 (1 + (n % 3652059 : Nat))]
  let _ : Ltr := ltrL L
  have go := fun (i : Nat) (v : Value) (hi : L[i]? = some v) (a b : Bool) (ea : decide (e % 8 = 0) = a) (eb : decide (e % 8 = 1) = b) (k : Sym (dayO a b) [] 40 5 [Lt 0, Lt 1] (Lt i)) => symL (i := i) (u := v) (w := w) (O := dayO a b) (args' := [.int .u32 n, .int .u8 e]) L 40 (ac (li rfl rfl (xi_remk (by omega)) (to_ltr rfl rfl)) (ac (li rfl rfl (xi_eqk ea) (to_flat rfl)) (ac (li rfl rfl (xi_eqk eb) (to_flat rfl)) (ac (li rfl rfl (xi_remk (by omega)) (to_ltr rfl rfl)) (ac (cv_day (by omega) rfl rfl) (ac (cv_day hn rfl rfl) (ac (li rfl rfl (xi_remk (by omega)) (to_ltr rfl rfl)) (ac (il rfl rfl (xi_add rfl (by omega)) (to_ltr rfl rfl)) (ac (il rfl rfl (xi_sub rfl (by omega)) (to_ltr rfl rfl)) (ac (il rfl rfl (xi_add rfl (by omega)) (to_ltr rfl rfl)) an))))))))))
    an (.cons (.ltr rfl rfl) (.cons (.ltr rfl rfl) .nil)) hi k
  by_cases e0 : e % 8 = 0
  · rw [show dayV n e = 1 + (n % 1500 : Nat) by simp [dayV, e0]]
    exact go 7 _ rfl true false (decide_eq_true e0) (decide_eq_false (by omega)) (key true false)
  · by_cases e1 : e % 8 = 1
    · rw [show dayV n e = 3652059 - (n % 1500 : Nat) by simp [dayV, e1]]
      exact go 8 _ rfl false true (decide_eq_false e0) (decide_eq_true e1) (key false true)
    · rw [show dayV n e = 1 + (n % 3652059 : Nat) by simp [dayV, e0, e1]]
      exact go 9 _ rfl false false (decide_eq_false e0) (decide_eq_false e1) (key false false)
end Go.Proofs.YtdobdmbdibnppaaGreatDoor
