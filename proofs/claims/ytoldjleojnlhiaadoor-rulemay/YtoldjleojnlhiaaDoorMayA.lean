/-
  The law RuleMay: steps where two operations may come now; its regions that draw their order; its state.
-/
import Derived.Test.YtoldjleojnlhiaaDoorLaws0
namespace Go.Proofs.YtoldjleojnlhiaaDoor
open Go.RowKit
section
variable {P : Program} {ops : Array Oper} {Q : Exit → Act → World → Prop} {S : World → Prop} {fuel : Nat} {listed : Array Bool} {a : Act} {w w' : World} {v : Value}
/-- what is asked of one of several operations that may come now -/
def Cont (P : Program) (ops : Array Oper) (Q : Exit → Act → World → Prop) (S : World → Prop) (fuel : Nat) (listed : Array Bool) (a : Act) (w : World) (i : Nat) : Prop :=
  ∀ o, ops[i]? = some o → ∀ K' : Act → World → Prop, Shut (∀ a w, S w → (S w → wpAnyH P .any ops Q S fuel (listed.setIfInBounds i true) a w) → K' a w) → if Region.wanted o (yielded ops a.tmps) = true then Oper.wp P o a w K' Q else K' (a.put o.dst undef) w
theorem cont_val (i d : Nat) (hd : (ops[i]?).map (·.dst) = some (some d)) (hz : d < a.tmps.size)
    (hy : ∀ o, ops[i]? = some o → Region.wanted o (yielded ops a.tmps) = true ∧ (execOp a.eval o).run P w = .ok (.value v) w') (hS : S w')
    (h : ∀ a' : Act, Fr d v a a' → wpAnyH P .any ops Q S fuel (listed.setIfInBounds i true) a' w') : Cont P ops Q S fuel listed a w i := by
  intro o ho K hK
  obtain ⟨h1, h2⟩ := hy o ho
  rw [if_pos h1]
  unfold Oper.wp
  rw [h2, Oper.upon_value, dst_of hd ho]
  exact hK.out _ _ hS (fun _ => h _ (fr_put hz))
theorem heldL_two (i j : Nat) (hr : Region.ready .any ops listed = [i, j]) (h1 : Cont P ops Q S fuel listed a w i) (h2 : Cont P ops Q S fuel listed a w j) : wpAnyH P .any ops Q S (fuel + 1) listed a w := by
  have hi : i ∈ Region.ready .any ops listed := by rw [hr]; simp
  have hj : j ∈ Region.ready .any ops listed := by rw [hr]; simp
  obtain ⟨_, o, ho, _⟩ := mem_ready.1 hi
  obtain ⟨_, o', ho', _⟩ := mem_ready.1 hj
  exact wpAnyH_ready hr (by simp) (AllReadyH.cons ho (h1 o ho) (AllReadyH.cons ho' (h2 o' ho') AllReadyH.nil))
end
end Go.Proofs.YtoldjleojnlhiaaDoor
namespace Go.Proofs.YtoldjleojnlhiaaDoor
open Go.RowKit
theorem o_neBool {w : World} {ρ : Operand → Value} {o : Oper} {x y : Operand} {p q r : Bool} (ho : o.op = .binOp .neq 4 x y 4) (hx : ρ x = .bool p) (hy : ρ y = .bool q) (hr : (p != q) = r) : (execOp ρ o).run Tryd.prog w = .ok (.value (.bool r)) w := by
  subst hr
  simp only [execOp, ho, hx, hy]
  go_simp
  cases p <;> cases q <;> rfl
theorem o_neE {w : World} {ρ : Operand → Value} {o : Oper} {x y : Operand} {n m : Int} {q : Bool} (ho : o.op = .binOp .neq 40 x y 40) (hx : ρ x = .int .i64 n) (hy : ρ y = .int .i64 m) (hr : (n != m) = q) : (execOp ρ o).run Tryd.prog w = .ok (.value (.bool q)) w := by
  subst hr
  simp only [execOp, ho, hx, hy]
  go_simp
theorem lists_any' (f iv c u : Int) (AM AD AW AP : Option Addr) (cM cD cW cP : Nat) (M D : List Int) (W : List (Int × Int)) (P : List Int) (w : World) : Calls Tryd.prog 13 #[.agg #[.int .i64 f, .int .i64 iv, .int .i64 c, .int .i64 u, .slice AM M.length cM, .slice AD D.length cD, .slice AW W.length cW, .slice AP P.length cP]] w fun e w' => ∃ v, e = .returned v ∧ v = .bool (some3 M D W) ∧ Below w.heap.size w w' :=
  (lists_any f iv c u AM AD AW AP cM cD cW cP M D W P w).mono fun _ _ h => ⟨_, h.1, rfl, h.2⟩
noncomputable def may6 : Array Oper := (Tryd.f3.body.bind (regOf 6)).getD #[]
set_option maxRecDepth 100000 in
set_option maxHeartbeats 1000000 in
theorem regMay6 (a : Act) (w : World) (Q : Exit → Act → World → Prop) (hQ : Blind Q) (b : Nat) (f iv c u : Int) (AM AD AW AP : Option Addr) (cM cD cW cP : Nat) (M D : List Int) (W : List (Int × Int)) (P : List Int) (q1 q2 q4 q8 : Value) (hs : a.tmps.size = 108) (h1 : a.tmps.getD 1 undef = q1) (h2 : a.tmps.getD 2 undef = q2) (h4 : a.tmps.getD 4 undef = q4) (h8 : a.tmps.getD 8 undef = q8) (h11 : a.tmps.getD 11 undef = .pointer (some ⟨b, 0, none⟩))
    (hA : RuleAt w b f iv c u (.slice AM M.length cM) (.slice AD D.length cD) (.slice AW W.length cW) (.slice AP P.length cP)) (hL : ListsIn w AM AD AW AP M D W P) (hck : Rul.check f iv c u M D W P = 0) (hm : M.length ≤ 1000 ∧ D.length ≤ 1000 ∧ W.length ≤ 1000)
    (hR : ∀ (a' : Act) (w' : World), a'.tmps.size = 108 → a'.defers = a.defers → a'.tmps.getD 1 undef = q1 → a'.tmps.getD 2 undef = q2 → a'.tmps.getD 4 undef = q4 → a'.tmps.getD 8 undef = q8 → a'.tmps.getD 11 undef = .pointer (some ⟨b, 0, none⟩) → a'.tmps.getD 38 undef = .bool false → Below w.heap.size w w' → Q .normal a' w') :
    (Code.region 6 may6 true).wp Tryd.prog Q a w := by
  conv => arg 2; arg 2; whnf
  obtain ⟨df, hd⟩ : ∃ df, a.defers = df := ⟨_, rfl⟩
  rw [hd] at hR
  have sm : decide ((0 : Int) < (M.length : Int) + D.length + W.length) = some3 M D W := by
    unfold some3
    rw [Bool.eq_iff_iff]
    simp only [decide_eq_true_eq, Bool.or_eq_true]
    omega
  refine wp_region_held_drew (S := fun w' => Below w.heap.size w w') (by kernel_rfl) (below_drew (Below.refl _ _)) (fun hH => ?_)
  refine heldL 0 19 (v := .agg #[.int .i64 f, .int .i64 iv, .int .i64 c, .int .i64 u, .slice AM M.length cM, .slice AD D.length cD, .slice AW W.length cW, .slice AP P.length cP]) hQ (by kernel_rfl) (by rw [hs]; decide) (by kernel_rfl) (by kernel_rfl) (by kernel_rfl) hH ?z1 ?z2
  case z1 => (intro o ho; obtain rfl := Option.some.inj ho; exact Or.inl ⟨rfl, fun w1 h1w => k_loadR rfl (ev_tmp h11) (hA.below h1w)⟩)
  case z2 =>
  intro a F0
  replace hs := F0.z.trans hs
  replace hd := F0.e.trans hd
  replace h1 := (F0.n 1 (by decide)).trans h1
  replace h2 := (F0.n 2 (by decide)).trans h2
  replace h4 := (F0.n 4 (by decide)).trans h4
  replace h8 := (F0.n 8 (by decide)).trans h8
  replace h11 := (F0.n 11 (by decide)).trans h11
  have h19 := F0.s
  clear F0
  refine heldL_call 1 20 (f := 12) (args := #[.agg #[.int .i64 f, .int .i64 iv, .int .i64 c, .int .i64 u, .slice AM M.length cM, .slice AD D.length cD, .slice AW W.length cW, .slice AP P.length cP]]) (R := fun v w' => v = .int .i64 0 ∧ Below w.heap.size w w') (by kernel_rfl) (by kernel_rfl) (by rw [hs]; decide) ?z3 ?z5 (fun v w' h => h.2) ?z4
  case z3 => (intro o ho; obtain rfl := Option.some.inj ho; exact ⟨rfl, k_callCheck rfl rfl (ev_tmp h19)⟩)
  case z5 =>
    refine (check_any' f iv c u AM AD AW AP cM cD cW cP M D W P _ (hL.below hH)).mono ?_
    rintro e w' ⟨u', rfl, rfl, hb⟩
    exact ⟨_, rfl, by rw [hck], hH.trans (hb.mono hH.size)⟩
  case z4 =>
  rintro _ w2 a ⟨rfl, hH⟩ F0
  replace hs := F0.z.trans hs
  replace hd := F0.e.trans hd
  replace h1 := (F0.n 1 (by decide)).trans h1
  replace h2 := (F0.n 2 (by decide)).trans h2
  replace h4 := (F0.n 4 (by decide)).trans h4
  replace h8 := (F0.n 8 (by decide)).trans h8
  replace h11 := (F0.n 11 (by decide)).trans h11
  replace h19 := (F0.n 19 (by decide)).trans h19
  have h20 := F0.s
  clear F0
  refine heldL 2 21 (v := .bool false) hQ (by kernel_rfl) (by rw [hs]; decide) (by kernel_rfl) (by kernel_rfl) (by kernel_rfl) hH ?z6 ?z7
  case z6 => (intro o ho; obtain rfl := Option.some.inj ho; exact Or.inl ⟨rfl, fun w1 h1w => o_neE rfl (ev_tmp h20) rfl rfl⟩)
  case z7 =>
  intro a F0
  replace hs := F0.z.trans hs
  replace hd := F0.e.trans hd
  replace h1 := (F0.n 1 (by decide)).trans h1
  replace h2 := (F0.n 2 (by decide)).trans h2
  replace h4 := (F0.n 4 (by decide)).trans h4
  replace h8 := (F0.n 8 (by decide)).trans h8
  replace h11 := (F0.n 11 (by decide)).trans h11
  replace h19 := (F0.n 19 (by decide)).trans h19
  replace h20 := (F0.n 20 (by decide)).trans h20
  have h21 := F0.s
  clear F0
  refine heldL 3 22 (v := .bool false) hQ (by kernel_rfl) (by rw [hs]; decide) (by kernel_rfl) (by kernel_rfl) (by kernel_rfl) hH ?z8 ?z9
  case z8 => (intro o ho; obtain rfl := Option.some.inj ho; exact Or.inl ⟨rfl, fun w1 h1w => k_move rfl (ev_tmp h21)⟩)
  case z9 =>
  intro a F0
  replace hs := F0.z.trans hs
  replace hd := F0.e.trans hd
  replace h1 := (F0.n 1 (by decide)).trans h1
  replace h2 := (F0.n 2 (by decide)).trans h2
  replace h4 := (F0.n 4 (by decide)).trans h4
  replace h8 := (F0.n 8 (by decide)).trans h8
  replace h11 := (F0.n 11 (by decide)).trans h11
  replace h19 := (F0.n 19 (by decide)).trans h19
  replace h20 := (F0.n 20 (by decide)).trans h20
  replace h21 := (F0.n 21 (by decide)).trans h21
  have h22 := F0.s
  clear F0
  refine heldL 4 23 (v := .agg #[.int .i64 f, .int .i64 iv, .int .i64 c, .int .i64 u, .slice AM M.length cM, .slice AD D.length cD, .slice AW W.length cW, .slice AP P.length cP]) hQ (by kernel_rfl) (by rw [hs]; decide) (by kernel_rfl) (by kernel_rfl) (by kernel_rfl) hH ?z10 ?z11
  case z10 => (intro o ho; obtain rfl := Option.some.inj ho; exact Or.inl ⟨wanted_at (b := false) (want := false) rfl (by kernel_rfl) h22, fun w1 h1w => k_loadR rfl (ev_tmp h11) (hA.below h1w)⟩)
  case z11 =>
  intro a F0
  replace hs := F0.z.trans hs
  replace hd := F0.e.trans hd
  replace h1 := (F0.n 1 (by decide)).trans h1
  replace h2 := (F0.n 2 (by decide)).trans h2
  replace h4 := (F0.n 4 (by decide)).trans h4
  replace h8 := (F0.n 8 (by decide)).trans h8
  replace h11 := (F0.n 11 (by decide)).trans h11
  replace h19 := (F0.n 19 (by decide)).trans h19
  replace h20 := (F0.n 20 (by decide)).trans h20
  replace h21 := (F0.n 21 (by decide)).trans h21
  replace h22 := (F0.n 22 (by decide)).trans h22
  have h23 := F0.s
  clear F0
  refine heldL 6 25 (v := .pointer (some ⟨b, 4, none⟩)) hQ (by kernel_rfl) (by rw [hs]; decide) (by kernel_rfl) (by kernel_rfl) (by kernel_rfl) hH ?z12 ?z13
  case z12 => (intro o ho; obtain rfl := Option.some.inj ho; exact Or.inl ⟨wanted_at (b := false) (want := false) rfl (by kernel_rfl) h22, fun w1 h1w => k_field4 rfl (ev_tmp h11)⟩)
  case z13 =>
  intro a F0
  replace hs := F0.z.trans hs
  replace hd := F0.e.trans hd
  replace h1 := (F0.n 1 (by decide)).trans h1
  replace h2 := (F0.n 2 (by decide)).trans h2
  replace h4 := (F0.n 4 (by decide)).trans h4
  replace h8 := (F0.n 8 (by decide)).trans h8
  replace h11 := (F0.n 11 (by decide)).trans h11
  replace h19 := (F0.n 19 (by decide)).trans h19
  replace h20 := (F0.n 20 (by decide)).trans h20
  replace h21 := (F0.n 21 (by decide)).trans h21
  replace h22 := (F0.n 22 (by decide)).trans h22
  replace h23 := (F0.n 23 (by decide)).trans h23
  have h25 := F0.s
  clear F0
  refine heldL 7 26 (v := .slice AM M.length cM) hQ (by kernel_rfl) (by rw [hs]; decide) (by kernel_rfl) (by kernel_rfl) (by kernel_rfl) hH ?z14 ?z15
  case z14 => (intro o ho; obtain rfl := Option.some.inj ho; exact Or.inl ⟨wanted_at (b := false) (want := false) rfl (by kernel_rfl) h22, fun w1 h1w => k_loadL rfl (ev_tmp h25) (hA.below h1w).c4⟩)
  case z15 =>
  intro a F0
  replace hs := F0.z.trans hs
  replace hd := F0.e.trans hd
  replace h1 := (F0.n 1 (by decide)).trans h1
  replace h2 := (F0.n 2 (by decide)).trans h2
  replace h4 := (F0.n 4 (by decide)).trans h4
  replace h8 := (F0.n 8 (by decide)).trans h8
  replace h11 := (F0.n 11 (by decide)).trans h11
  replace h19 := (F0.n 19 (by decide)).trans h19
  replace h20 := (F0.n 20 (by decide)).trans h20
  replace h21 := (F0.n 21 (by decide)).trans h21
  replace h22 := (F0.n 22 (by decide)).trans h22
  replace h23 := (F0.n 23 (by decide)).trans h23
  replace h25 := (F0.n 25 (by decide)).trans h25
  have h26 := F0.s
  clear F0
  refine heldL 8 27 (v := .int .i64 M.length) hQ (by kernel_rfl) (by rw [hs]; decide) (by kernel_rfl) (by kernel_rfl) (by kernel_rfl) hH ?z16 ?z17
  case z16 => (intro o ho; obtain rfl := Option.some.inj ho; exact Or.inl ⟨wanted_at (b := false) (want := false) rfl (by kernel_rfl) h22, fun w1 h1w => k_lenL rfl (ev_tmp h26)⟩)
  case z17 =>
  intro a F0
  replace hs := F0.z.trans hs
  replace hd := F0.e.trans hd
  replace h1 := (F0.n 1 (by decide)).trans h1
  replace h2 := (F0.n 2 (by decide)).trans h2
  replace h4 := (F0.n 4 (by decide)).trans h4
  replace h8 := (F0.n 8 (by decide)).trans h8
  replace h11 := (F0.n 11 (by decide)).trans h11
  replace h19 := (F0.n 19 (by decide)).trans h19
  replace h20 := (F0.n 20 (by decide)).trans h20
  replace h21 := (F0.n 21 (by decide)).trans h21
  replace h22 := (F0.n 22 (by decide)).trans h22
  replace h23 := (F0.n 23 (by decide)).trans h23
  replace h25 := (F0.n 25 (by decide)).trans h25
  replace h26 := (F0.n 26 (by decide)).trans h26
  have h27 := F0.s
  clear F0
  refine heldL 9 28 (v := .pointer (some ⟨b, 5, none⟩)) hQ (by kernel_rfl) (by rw [hs]; decide) (by kernel_rfl) (by kernel_rfl) (by kernel_rfl) hH ?z18 ?z19
  case z18 => (intro o ho; obtain rfl := Option.some.inj ho; exact Or.inl ⟨wanted_at (b := false) (want := false) rfl (by kernel_rfl) h22, fun w1 h1w => k_field5 rfl (ev_tmp h11)⟩)
  case z19 =>
  intro a F0
  replace hs := F0.z.trans hs
  replace hd := F0.e.trans hd
  replace h1 := (F0.n 1 (by decide)).trans h1
  replace h2 := (F0.n 2 (by decide)).trans h2
  replace h4 := (F0.n 4 (by decide)).trans h4
  replace h8 := (F0.n 8 (by decide)).trans h8
  replace h11 := (F0.n 11 (by decide)).trans h11
  replace h19 := (F0.n 19 (by decide)).trans h19
  replace h20 := (F0.n 20 (by decide)).trans h20
  replace h21 := (F0.n 21 (by decide)).trans h21
  replace h22 := (F0.n 22 (by decide)).trans h22
  replace h23 := (F0.n 23 (by decide)).trans h23
  replace h25 := (F0.n 25 (by decide)).trans h25
  replace h26 := (F0.n 26 (by decide)).trans h26
  replace h27 := (F0.n 27 (by decide)).trans h27
  have h28 := F0.s
  clear F0
  refine heldL 10 29 (v := .slice AD D.length cD) hQ (by kernel_rfl) (by rw [hs]; decide) (by kernel_rfl) (by kernel_rfl) (by kernel_rfl) hH ?z20 ?z21
  case z20 => (intro o ho; obtain rfl := Option.some.inj ho; exact Or.inl ⟨wanted_at (b := false) (want := false) rfl (by kernel_rfl) h22, fun w1 h1w => k_loadL rfl (ev_tmp h28) (hA.below h1w).c5⟩)
  case z21 =>
  intro a F0
  replace hs := F0.z.trans hs
  replace hd := F0.e.trans hd
  replace h1 := (F0.n 1 (by decide)).trans h1
  replace h2 := (F0.n 2 (by decide)).trans h2
  replace h4 := (F0.n 4 (by decide)).trans h4
  replace h8 := (F0.n 8 (by decide)).trans h8
  replace h11 := (F0.n 11 (by decide)).trans h11
  replace h19 := (F0.n 19 (by decide)).trans h19
  replace h20 := (F0.n 20 (by decide)).trans h20
  replace h21 := (F0.n 21 (by decide)).trans h21
  replace h22 := (F0.n 22 (by decide)).trans h22
  replace h23 := (F0.n 23 (by decide)).trans h23
  replace h25 := (F0.n 25 (by decide)).trans h25
  replace h26 := (F0.n 26 (by decide)).trans h26
  replace h27 := (F0.n 27 (by decide)).trans h27
  replace h28 := (F0.n 28 (by decide)).trans h28
  have h29 := F0.s
  clear F0
  refine heldL 11 30 (v := .int .i64 D.length) hQ (by kernel_rfl) (by rw [hs]; decide) (by kernel_rfl) (by kernel_rfl) (by kernel_rfl) hH ?z22 ?z23
  case z22 => (intro o ho; obtain rfl := Option.some.inj ho; exact Or.inl ⟨wanted_at (b := false) (want := false) rfl (by kernel_rfl) h22, fun w1 h1w => k_lenL rfl (ev_tmp h29)⟩)
  case z23 =>
  intro a F0
  replace hs := F0.z.trans hs
  replace hd := F0.e.trans hd
  replace h1 := (F0.n 1 (by decide)).trans h1
  replace h2 := (F0.n 2 (by decide)).trans h2
  replace h4 := (F0.n 4 (by decide)).trans h4
  replace h8 := (F0.n 8 (by decide)).trans h8
  replace h11 := (F0.n 11 (by decide)).trans h11
  replace h19 := (F0.n 19 (by decide)).trans h19
  replace h20 := (F0.n 20 (by decide)).trans h20
  replace h21 := (F0.n 21 (by decide)).trans h21
  replace h22 := (F0.n 22 (by decide)).trans h22
  replace h23 := (F0.n 23 (by decide)).trans h23
  replace h25 := (F0.n 25 (by decide)).trans h25
  replace h26 := (F0.n 26 (by decide)).trans h26
  replace h27 := (F0.n 27 (by decide)).trans h27
  replace h28 := (F0.n 28 (by decide)).trans h28
  replace h29 := (F0.n 29 (by decide)).trans h29
  have h30 := F0.s
  clear F0
  refine heldL 12 31 (v := .int .i64 ((M.length : Int) + D.length)) hQ (by kernel_rfl) (by rw [hs]; decide) (by kernel_rfl) (by kernel_rfl) (by kernel_rfl) hH ?z24 ?z25
  case z24 => (intro o ho; obtain rfl := Option.some.inj ho; exact Or.inl ⟨wanted_at (b := false) (want := false) rfl (by kernel_rfl) h22, fun w1 h1w => o_addI rfl (ev_tmp h27) (ev_tmp h30) (wrap_small (by omega) (by omega))⟩)
  case z25 =>
  intro a F0
  replace hs := F0.z.trans hs
  replace hd := F0.e.trans hd
  replace h1 := (F0.n 1 (by decide)).trans h1
  replace h2 := (F0.n 2 (by decide)).trans h2
  replace h4 := (F0.n 4 (by decide)).trans h4
  replace h8 := (F0.n 8 (by decide)).trans h8
  replace h11 := (F0.n 11 (by decide)).trans h11
  replace h19 := (F0.n 19 (by decide)).trans h19
  replace h20 := (F0.n 20 (by decide)).trans h20
  replace h21 := (F0.n 21 (by decide)).trans h21
  replace h22 := (F0.n 22 (by decide)).trans h22
  replace h23 := (F0.n 23 (by decide)).trans h23
  replace h25 := (F0.n 25 (by decide)).trans h25
  replace h26 := (F0.n 26 (by decide)).trans h26
  replace h27 := (F0.n 27 (by decide)).trans h27
  replace h28 := (F0.n 28 (by decide)).trans h28
  replace h29 := (F0.n 29 (by decide)).trans h29
  replace h30 := (F0.n 30 (by decide)).trans h30
  have h31 := F0.s
  clear F0
  refine heldL 13 32 (v := .pointer (some ⟨b, 6, none⟩)) hQ (by kernel_rfl) (by rw [hs]; decide) (by kernel_rfl) (by kernel_rfl) (by kernel_rfl) hH ?z26 ?z27
  case z26 => (intro o ho; obtain rfl := Option.some.inj ho; exact Or.inl ⟨wanted_at (b := false) (want := false) rfl (by kernel_rfl) h22, fun w1 h1w => k_field6 rfl (ev_tmp h11)⟩)
  case z27 =>
  intro a F0
  replace hs := F0.z.trans hs
  replace hd := F0.e.trans hd
  replace h1 := (F0.n 1 (by decide)).trans h1
  replace h2 := (F0.n 2 (by decide)).trans h2
  replace h4 := (F0.n 4 (by decide)).trans h4
  replace h8 := (F0.n 8 (by decide)).trans h8
  replace h11 := (F0.n 11 (by decide)).trans h11
  replace h19 := (F0.n 19 (by decide)).trans h19
  replace h20 := (F0.n 20 (by decide)).trans h20
  replace h21 := (F0.n 21 (by decide)).trans h21
  replace h22 := (F0.n 22 (by decide)).trans h22
  replace h23 := (F0.n 23 (by decide)).trans h23
  replace h25 := (F0.n 25 (by decide)).trans h25
  replace h26 := (F0.n 26 (by decide)).trans h26
  replace h27 := (F0.n 27 (by decide)).trans h27
  replace h28 := (F0.n 28 (by decide)).trans h28
  replace h29 := (F0.n 29 (by decide)).trans h29
  replace h30 := (F0.n 30 (by decide)).trans h30
  replace h31 := (F0.n 31 (by decide)).trans h31
  have h32 := F0.s
  clear F0
  refine heldL 14 33 (v := .slice AW W.length cW) hQ (by kernel_rfl) (by rw [hs]; decide) (by kernel_rfl) (by kernel_rfl) (by kernel_rfl) hH ?z28 ?z29
  case z28 => (intro o ho; obtain rfl := Option.some.inj ho; exact Or.inl ⟨wanted_at (b := false) (want := false) rfl (by kernel_rfl) h22, fun w1 h1w => k_loadW rfl (ev_tmp h32) (hA.below h1w).c6⟩)
  case z29 =>
  intro a F0
  replace hs := F0.z.trans hs
  replace hd := F0.e.trans hd
  replace h1 := (F0.n 1 (by decide)).trans h1
  replace h2 := (F0.n 2 (by decide)).trans h2
  replace h4 := (F0.n 4 (by decide)).trans h4
  replace h8 := (F0.n 8 (by decide)).trans h8
  replace h11 := (F0.n 11 (by decide)).trans h11
  replace h19 := (F0.n 19 (by decide)).trans h19
  replace h20 := (F0.n 20 (by decide)).trans h20
  replace h21 := (F0.n 21 (by decide)).trans h21
  replace h22 := (F0.n 22 (by decide)).trans h22
  replace h23 := (F0.n 23 (by decide)).trans h23
  replace h25 := (F0.n 25 (by decide)).trans h25
  replace h26 := (F0.n 26 (by decide)).trans h26
  replace h27 := (F0.n 27 (by decide)).trans h27
  replace h28 := (F0.n 28 (by decide)).trans h28
  replace h29 := (F0.n 29 (by decide)).trans h29
  replace h30 := (F0.n 30 (by decide)).trans h30
  replace h31 := (F0.n 31 (by decide)).trans h31
  replace h32 := (F0.n 32 (by decide)).trans h32
  have h33 := F0.s
  clear F0
  refine heldL 15 34 (v := .int .i64 W.length) hQ (by kernel_rfl) (by rw [hs]; decide) (by kernel_rfl) (by kernel_rfl) (by kernel_rfl) hH ?z30 ?z31
  case z30 => (intro o ho; obtain rfl := Option.some.inj ho; exact Or.inl ⟨wanted_at (b := false) (want := false) rfl (by kernel_rfl) h22, fun w1 h1w => k_lenW rfl (ev_tmp h33)⟩)
  case z31 =>
  intro a F0
  replace hs := F0.z.trans hs
  replace hd := F0.e.trans hd
  replace h1 := (F0.n 1 (by decide)).trans h1
  replace h2 := (F0.n 2 (by decide)).trans h2
  replace h4 := (F0.n 4 (by decide)).trans h4
  replace h8 := (F0.n 8 (by decide)).trans h8
  replace h11 := (F0.n 11 (by decide)).trans h11
  replace h19 := (F0.n 19 (by decide)).trans h19
  replace h20 := (F0.n 20 (by decide)).trans h20
  replace h21 := (F0.n 21 (by decide)).trans h21
  replace h22 := (F0.n 22 (by decide)).trans h22
  replace h23 := (F0.n 23 (by decide)).trans h23
  replace h25 := (F0.n 25 (by decide)).trans h25
  replace h26 := (F0.n 26 (by decide)).trans h26
  replace h27 := (F0.n 27 (by decide)).trans h27
  replace h28 := (F0.n 28 (by decide)).trans h28
  replace h29 := (F0.n 29 (by decide)).trans h29
  replace h30 := (F0.n 30 (by decide)).trans h30
  replace h31 := (F0.n 31 (by decide)).trans h31
  replace h32 := (F0.n 32 (by decide)).trans h32
  replace h33 := (F0.n 33 (by decide)).trans h33
  have h34 := F0.s
  clear F0
  refine heldL 16 35 (v := .int .i64 ((M.length : Int) + D.length + W.length)) hQ (by kernel_rfl) (by rw [hs]; decide) (by kernel_rfl) (by kernel_rfl) (by kernel_rfl) hH ?z32 ?z33
  case z32 => (intro o ho; obtain rfl := Option.some.inj ho; exact Or.inl ⟨wanted_at (b := false) (want := false) rfl (by kernel_rfl) h22, fun w1 h1w => o_addI rfl (ev_tmp h31) (ev_tmp h34) (wrap_small (by omega) (by omega))⟩)
  case z33 =>
  intro a F0
  replace hs := F0.z.trans hs
  replace hd := F0.e.trans hd
  replace h1 := (F0.n 1 (by decide)).trans h1
  replace h2 := (F0.n 2 (by decide)).trans h2
  replace h4 := (F0.n 4 (by decide)).trans h4
  replace h8 := (F0.n 8 (by decide)).trans h8
  replace h11 := (F0.n 11 (by decide)).trans h11
  replace h19 := (F0.n 19 (by decide)).trans h19
  replace h20 := (F0.n 20 (by decide)).trans h20
  replace h21 := (F0.n 21 (by decide)).trans h21
  replace h22 := (F0.n 22 (by decide)).trans h22
  replace h23 := (F0.n 23 (by decide)).trans h23
  replace h25 := (F0.n 25 (by decide)).trans h25
  replace h26 := (F0.n 26 (by decide)).trans h26
  replace h27 := (F0.n 27 (by decide)).trans h27
  replace h28 := (F0.n 28 (by decide)).trans h28
  replace h29 := (F0.n 29 (by decide)).trans h29
  replace h30 := (F0.n 30 (by decide)).trans h30
  replace h31 := (F0.n 31 (by decide)).trans h31
  replace h32 := (F0.n 32 (by decide)).trans h32
  replace h33 := (F0.n 33 (by decide)).trans h33
  replace h34 := (F0.n 34 (by decide)).trans h34
  have h35 := F0.s
  clear F0
  refine heldL 17 36 (v := .bool (some3 M D W)) hQ (by kernel_rfl) (by rw [hs]; decide) (by kernel_rfl) (by kernel_rfl) (by kernel_rfl) hH ?z34 ?z35
  case z34 => (intro o ho; obtain rfl := Option.some.inj ho; exact Or.inl ⟨wanted_at (b := false) (want := false) rfl (by kernel_rfl) h22, fun w1 h1w => o_gtI rfl (ev_tmp h35) rfl sm⟩)
  case z35 =>
  intro a F0
  replace hs := F0.z.trans hs
  replace hd := F0.e.trans hd
  replace h1 := (F0.n 1 (by decide)).trans h1
  replace h2 := (F0.n 2 (by decide)).trans h2
  replace h4 := (F0.n 4 (by decide)).trans h4
  replace h8 := (F0.n 8 (by decide)).trans h8
  replace h11 := (F0.n 11 (by decide)).trans h11
  replace h19 := (F0.n 19 (by decide)).trans h19
  replace h20 := (F0.n 20 (by decide)).trans h20
  replace h21 := (F0.n 21 (by decide)).trans h21
  replace h22 := (F0.n 22 (by decide)).trans h22
  replace h23 := (F0.n 23 (by decide)).trans h23
  replace h25 := (F0.n 25 (by decide)).trans h25
  replace h26 := (F0.n 26 (by decide)).trans h26
  replace h27 := (F0.n 27 (by decide)).trans h27
  replace h28 := (F0.n 28 (by decide)).trans h28
  replace h29 := (F0.n 29 (by decide)).trans h29
  replace h30 := (F0.n 30 (by decide)).trans h30
  replace h31 := (F0.n 31 (by decide)).trans h31
  replace h32 := (F0.n 32 (by decide)).trans h32
  replace h33 := (F0.n 33 (by decide)).trans h33
  replace h34 := (F0.n 34 (by decide)).trans h34
  replace h35 := (F0.n 35 (by decide)).trans h35
  have h36 := F0.s
  clear F0
  refine heldL_call 5 24 (f := 13) (args := #[.agg #[.int .i64 f, .int .i64 iv, .int .i64 c, .int .i64 u, .slice AM M.length cM, .slice AD D.length cD, .slice AW W.length cW, .slice AP P.length cP]]) (R := fun v w' => v = .bool (some3 M D W) ∧ Below w.heap.size w w') (by kernel_rfl) (by kernel_rfl) (by rw [hs]; decide) ?z36 ?z38 (fun v w' h => h.2) ?z37
  case z36 => (intro o ho; obtain rfl := Option.some.inj ho; exact ⟨wanted_at (b := false) (want := false) rfl (by kernel_rfl) h22, c_Lists rfl rfl (ev_tmp h23)⟩)
  case z38 =>
    refine (lists_any' f iv c u AM AD AW AP cM cD cW cP M D W P _).mono ?_
    rintro e w' ⟨u', rfl, rfl, hb⟩
    exact ⟨_, rfl, rfl, hH.trans (hb.mono hH.size)⟩
  case z37 =>
  rintro _ w2 a ⟨rfl, hH⟩ F0
  replace hs := F0.z.trans hs
  replace hd := F0.e.trans hd
  replace h1 := (F0.n 1 (by decide)).trans h1
  replace h2 := (F0.n 2 (by decide)).trans h2
  replace h4 := (F0.n 4 (by decide)).trans h4
  replace h8 := (F0.n 8 (by decide)).trans h8
  replace h11 := (F0.n 11 (by decide)).trans h11
  replace h19 := (F0.n 19 (by decide)).trans h19
  replace h20 := (F0.n 20 (by decide)).trans h20
  replace h21 := (F0.n 21 (by decide)).trans h21
  replace h22 := (F0.n 22 (by decide)).trans h22
  replace h23 := (F0.n 23 (by decide)).trans h23
  replace h25 := (F0.n 25 (by decide)).trans h25
  replace h26 := (F0.n 26 (by decide)).trans h26
  replace h27 := (F0.n 27 (by decide)).trans h27
  replace h28 := (F0.n 28 (by decide)).trans h28
  replace h29 := (F0.n 29 (by decide)).trans h29
  replace h30 := (F0.n 30 (by decide)).trans h30
  replace h31 := (F0.n 31 (by decide)).trans h31
  replace h32 := (F0.n 32 (by decide)).trans h32
  replace h33 := (F0.n 33 (by decide)).trans h33
  replace h34 := (F0.n 34 (by decide)).trans h34
  replace h35 := (F0.n 35 (by decide)).trans h35
  replace h36 := (F0.n 36 (by decide)).trans h36
  have h24 := F0.s
  clear F0
  refine heldL 18 37 (v := .bool false) hQ (by kernel_rfl) (by rw [hs]; decide) (by kernel_rfl) (by kernel_rfl) (by kernel_rfl) hH ?z39 ?z40
  case z39 => (intro o ho; obtain rfl := Option.some.inj ho; exact Or.inl ⟨wanted_at (b := false) (want := false) rfl (by kernel_rfl) h22, fun w1 h1w => o_neBool rfl (ev_tmp h24) (ev_tmp h36) (by simp)⟩)
  case z40 =>
  intro a F0
  replace hs := F0.z.trans hs
  replace hd := F0.e.trans hd
  replace h1 := (F0.n 1 (by decide)).trans h1
  replace h2 := (F0.n 2 (by decide)).trans h2
  replace h4 := (F0.n 4 (by decide)).trans h4
  replace h8 := (F0.n 8 (by decide)).trans h8
  replace h11 := (F0.n 11 (by decide)).trans h11
  replace h19 := (F0.n 19 (by decide)).trans h19
  replace h20 := (F0.n 20 (by decide)).trans h20
  replace h21 := (F0.n 21 (by decide)).trans h21
  replace h22 := (F0.n 22 (by decide)).trans h22
  replace h23 := (F0.n 23 (by decide)).trans h23
  replace h25 := (F0.n 25 (by decide)).trans h25
  replace h26 := (F0.n 26 (by decide)).trans h26
  replace h27 := (F0.n 27 (by decide)).trans h27
  replace h28 := (F0.n 28 (by decide)).trans h28
  replace h29 := (F0.n 29 (by decide)).trans h29
  replace h30 := (F0.n 30 (by decide)).trans h30
  replace h31 := (F0.n 31 (by decide)).trans h31
  replace h32 := (F0.n 32 (by decide)).trans h32
  replace h33 := (F0.n 33 (by decide)).trans h33
  replace h34 := (F0.n 34 (by decide)).trans h34
  replace h35 := (F0.n 35 (by decide)).trans h35
  replace h36 := (F0.n 36 (by decide)).trans h36
  replace h24 := (F0.n 24 (by decide)).trans h24
  have h37 := F0.s
  clear F0
  refine heldL 19 38 (v := .bool false) hQ (by kernel_rfl) (by rw [hs]; decide) (by kernel_rfl) (by kernel_rfl) (by kernel_rfl) hH ?z41 ?z42
  case z41 => (intro o ho; obtain rfl := Option.some.inj ho; exact Or.inl ⟨rfl, fun w1 h1w => k_pick_no rfl (ev_tmp h22) (ev_tmp h37)⟩)
  case z42 =>
  intro a F0
  replace hs := F0.z.trans hs
  replace hd := F0.e.trans hd
  replace h1 := (F0.n 1 (by decide)).trans h1
  replace h2 := (F0.n 2 (by decide)).trans h2
  replace h4 := (F0.n 4 (by decide)).trans h4
  replace h8 := (F0.n 8 (by decide)).trans h8
  replace h11 := (F0.n 11 (by decide)).trans h11
  replace h19 := (F0.n 19 (by decide)).trans h19
  replace h20 := (F0.n 20 (by decide)).trans h20
  replace h21 := (F0.n 21 (by decide)).trans h21
  replace h22 := (F0.n 22 (by decide)).trans h22
  replace h23 := (F0.n 23 (by decide)).trans h23
  replace h25 := (F0.n 25 (by decide)).trans h25
  replace h26 := (F0.n 26 (by decide)).trans h26
  replace h27 := (F0.n 27 (by decide)).trans h27
  replace h28 := (F0.n 28 (by decide)).trans h28
  replace h29 := (F0.n 29 (by decide)).trans h29
  replace h30 := (F0.n 30 (by decide)).trans h30
  replace h31 := (F0.n 31 (by decide)).trans h31
  replace h32 := (F0.n 32 (by decide)).trans h32
  replace h33 := (F0.n 33 (by decide)).trans h33
  replace h34 := (F0.n 34 (by decide)).trans h34
  replace h35 := (F0.n 35 (by decide)).trans h35
  replace h36 := (F0.n 36 (by decide)).trans h36
  replace h24 := (F0.n 24 (by decide)).trans h24
  replace h37 := (F0.n 37 (by decide)).trans h37
  have h38 := F0.s
  clear F0
  refine wpAnyH_done (by kernel_rfl) ?_ _
  exact hR a _ hs hd h1 h2 h4 h8 h11 h38 hH

noncomputable def may9 : Array Oper := (Tryd.f3.body.bind (regOf 9)).getD #[]
set_option maxRecDepth 100000 in
set_option maxHeartbeats 1000000 in
theorem regMay9 (a : Act) (w : World) (Q : Exit → Act → World → Prop) (hQ : Blind Q) (b : Nat) (n p q : Int) (q1 q11 : Value) (hs : a.tmps.size = 108) (h1 : a.tmps.getD 1 undef = q1) (h2 : a.tmps.getD 2 undef = .int .i64 n) (h8 : a.tmps.getD 8 undef = .pointer (some ⟨b, 0, none⟩)) (h11 : a.tmps.getD 11 undef = q11)
    (hb : Blk w b 31 #[.int .i64 p, .int .i64 q])
    (hR : ∀ (a' : Act) (w' : World), a'.tmps.size = 108 → a'.defers = a.defers → a'.tmps.getD 1 undef = q1 → a'.tmps.getD 2 undef = .int .i64 (n.tmod 60) → a'.tmps.getD 8 undef = .pointer (some ⟨b, 0, none⟩) → a'.tmps.getD 11 undef = q11 → Blk w' b 31 #[.int .i64 (p.tmod 60), .int .i64 (q.tmod 9)] → (∀ B, Exc B b w w') → Q .normal a' w') :
    (Code.region 9 may9 true).wp Tryd.prog Q a w := by
  conv => arg 2; arg 2; whnf
  obtain ⟨df, hd⟩ : ∃ df, a.defers = df := ⟨_, rfl⟩
  rw [hd] at hR
  replace hR : ∀ (a' : Act) (w' : World), a'.tmps.size = 108 → a'.defers = df → a'.tmps.getD 1 undef = q1 → a'.tmps.getD 2 undef = .int .i64 (n.tmod 60) → a'.tmps.getD 8 undef = .pointer (some ⟨b, 0, none⟩) → a'.tmps.getD 11 undef = q11 → Blk w' b 31 #[.int .i64 (p.tmod 60), .int .i64 (q.tmod 9)] → (∀ B, Exc B b w.drew w') → Q .normal a' w' := fun a' w' e1 e2 e3 e4 e5 e6 e7 e8 => hR a' w' e1 e2 e3 e4 e5 e6 e7 (fun B => (show Exc B b w w.drew from ⟨rfl, rfl, rfl, Nat.le_refl _, fun _ _ _ => rfl⟩).trans (e8 B))
  replace hb : Blk w.drew b 31 #[.int .i64 p, .int .i64 q] := hb
  refine wp_region_held_drew (S := fun _ => True) (by kernel_rfl) trivial (fun hH => ?_)
  generalize w.drew = w at *
  refine heldL 0 40 (v := .int .i64 n) hQ (by kernel_rfl) (by rw [hs]; decide) (by kernel_rfl) (by kernel_rfl) (by kernel_rfl) hH ?z43 ?z44
  case z43 => (intro o ho; obtain rfl := Option.some.inj ho; exact Or.inl ⟨rfl, fun w1 h1w => k_move rfl (ev_tmp h2)⟩)
  case z44 =>
  intro a F0
  replace hs := F0.z.trans hs
  replace hd := F0.e.trans hd
  replace h1 := (F0.n 1 (by decide)).trans h1
  replace h2 := (F0.n 2 (by decide)).trans h2
  replace h8 := (F0.n 8 (by decide)).trans h8
  replace h11 := (F0.n 11 (by decide)).trans h11
  have h40 := F0.s
  clear F0
  refine heldL 1 41 (v := .int .i64 (n.tmod 60)) hQ (by kernel_rfl) (by rw [hs]; decide) (by kernel_rfl) (by kernel_rfl) (by kernel_rfl) hH ?z45 ?z46
  case z45 => (intro o ho; obtain rfl := Option.some.inj ho; exact Or.inl ⟨rfl, fun w1 h1w => o_remI rfl (ev_tmp h40) rfl (by decide) rfl⟩)
  case z46 =>
  intro a F0
  replace hs := F0.z.trans hs
  replace hd := F0.e.trans hd
  replace h1 := (F0.n 1 (by decide)).trans h1
  replace h2 := (F0.n 2 (by decide)).trans h2
  replace h8 := (F0.n 8 (by decide)).trans h8
  replace h11 := (F0.n 11 (by decide)).trans h11
  replace h40 := (F0.n 40 (by decide)).trans h40
  have h41 := F0.s
  clear F0
  refine heldL 2 42 (v := .pointer (some ⟨b, 0, none⟩)) hQ (by kernel_rfl) (by rw [hs]; decide) (by kernel_rfl) (by kernel_rfl) (by kernel_rfl) hH ?z47 ?z48
  case z47 => (intro o ho; obtain rfl := Option.some.inj ho; exact Or.inl ⟨rfl, fun w1 h1w => k_fieldNth0 rfl (ev_tmp h8)⟩)
  case z48 =>
  intro a F0
  replace hs := F0.z.trans hs
  replace hd := F0.e.trans hd
  replace h1 := (F0.n 1 (by decide)).trans h1
  replace h2 := (F0.n 2 (by decide)).trans h2
  replace h8 := (F0.n 8 (by decide)).trans h8
  replace h11 := (F0.n 11 (by decide)).trans h11
  replace h40 := (F0.n 40 (by decide)).trans h40
  replace h41 := (F0.n 41 (by decide)).trans h41
  have h42 := F0.s
  clear F0
  refine heldL 5 45 (v := .pointer (some ⟨b, 1, none⟩)) hQ (by kernel_rfl) (by rw [hs]; decide) (by kernel_rfl) (by kernel_rfl) (by kernel_rfl) hH ?z49 ?z50
  case z49 => (intro o ho; obtain rfl := Option.some.inj ho; exact Or.inl ⟨rfl, fun w1 h1w => k_fieldNth1 rfl (ev_tmp h8)⟩)
  case z50 =>
  intro a F0
  replace hs := F0.z.trans hs
  replace hd := F0.e.trans hd
  replace h1 := (F0.n 1 (by decide)).trans h1
  replace h2 := (F0.n 2 (by decide)).trans h2
  replace h8 := (F0.n 8 (by decide)).trans h8
  replace h11 := (F0.n 11 (by decide)).trans h11
  replace h40 := (F0.n 40 (by decide)).trans h40
  replace h41 := (F0.n 41 (by decide)).trans h41
  replace h42 := (F0.n 42 (by decide)).trans h42
  have h45 := F0.s
  clear F0
  refine heldL_two 3 6 (by kernel_rfl) ?z51 ?z52
  case z51 =>
    refine cont_val 3 43 (v := .int .i64 p) (w' := w) (by kernel_rfl) (by rw [hs]; decide) ?z53 trivial ?z54
    case z53 => (intro o ho; obtain rfl := Option.some.inj ho; exact ⟨rfl, k_loadI rfl (ev_tmp h42) (hb.cell 0)⟩)
    case z54 =>
    intro a F0
    replace hs := F0.z.trans hs
    replace hd := F0.e.trans hd
    replace h1 := (F0.n 1 (by decide)).trans h1
    replace h2 := (F0.n 2 (by decide)).trans h2
    replace h8 := (F0.n 8 (by decide)).trans h8
    replace h11 := (F0.n 11 (by decide)).trans h11
    replace h40 := (F0.n 40 (by decide)).trans h40
    replace h41 := (F0.n 41 (by decide)).trans h41
    replace h42 := (F0.n 42 (by decide)).trans h42
    replace h45 := (F0.n 45 (by decide)).trans h45
    have h43 := F0.s
    clear F0
    refine heldL 4 44 (v := .int .i64 (p.tmod 60)) hQ (by kernel_rfl) (by rw [hs]; decide) (by kernel_rfl) (by kernel_rfl) (by kernel_rfl) hH ?z55 ?z56
    case z55 => (intro o ho; obtain rfl := Option.some.inj ho; exact Or.inl ⟨rfl, fun w1 h1w => o_remI rfl (ev_tmp h43) rfl (by decide) rfl⟩)
    case z56 =>
    intro a F0
    replace hs := F0.z.trans hs
    replace hd := F0.e.trans hd
    replace h1 := (F0.n 1 (by decide)).trans h1
    replace h2 := (F0.n 2 (by decide)).trans h2
    replace h8 := (F0.n 8 (by decide)).trans h8
    replace h11 := (F0.n 11 (by decide)).trans h11
    replace h40 := (F0.n 40 (by decide)).trans h40
    replace h41 := (F0.n 41 (by decide)).trans h41
    replace h42 := (F0.n 42 (by decide)).trans h42
    replace h45 := (F0.n 45 (by decide)).trans h45
    replace h43 := (F0.n 43 (by decide)).trans h43
    have h44 := F0.s
    clear F0
    refine heldL_do 6 46 (v := .int .i64 q) (w' := w) (by kernel_rfl) (by kernel_rfl) (by rw [hs]; decide) ?z57 trivial ?z58
    case z57 => (intro o ho; obtain rfl := Option.some.inj ho; exact ⟨rfl, k_loadI rfl (ev_tmp h45) (hb.cell 1)⟩)
    case z58 =>
    intro a F0
    replace hs := F0.z.trans hs
    replace hd := F0.e.trans hd
    replace h1 := (F0.n 1 (by decide)).trans h1
    replace h2 := (F0.n 2 (by decide)).trans h2
    replace h8 := (F0.n 8 (by decide)).trans h8
    replace h11 := (F0.n 11 (by decide)).trans h11
    replace h40 := (F0.n 40 (by decide)).trans h40
    replace h41 := (F0.n 41 (by decide)).trans h41
    replace h42 := (F0.n 42 (by decide)).trans h42
    replace h45 := (F0.n 45 (by decide)).trans h45
    replace h43 := (F0.n 43 (by decide)).trans h43
    replace h44 := (F0.n 44 (by decide)).trans h44
    have h46 := F0.s
    clear F0
    refine heldL 7 47 (v := .int .i64 (q.tmod 9)) hQ (by kernel_rfl) (by rw [hs]; decide) (by kernel_rfl) (by kernel_rfl) (by kernel_rfl) hH ?z59 ?z60
    case z59 => (intro o ho; obtain rfl := Option.some.inj ho; exact Or.inl ⟨rfl, fun w1 h1w => o_remI rfl (ev_tmp h46) rfl (by decide) rfl⟩)
    case z60 =>
    intro a F0
    replace hs := F0.z.trans hs
    replace hd := F0.e.trans hd
    replace h1 := (F0.n 1 (by decide)).trans h1
    replace h2 := (F0.n 2 (by decide)).trans h2
    replace h8 := (F0.n 8 (by decide)).trans h8
    replace h11 := (F0.n 11 (by decide)).trans h11
    replace h40 := (F0.n 40 (by decide)).trans h40
    replace h41 := (F0.n 41 (by decide)).trans h41
    replace h42 := (F0.n 42 (by decide)).trans h42
    replace h45 := (F0.n 45 (by decide)).trans h45
    replace h43 := (F0.n 43 (by decide)).trans h43
    replace h44 := (F0.n 44 (by decide)).trans h44
    replace h46 := (F0.n 46 (by decide)).trans h46
    have h47 := F0.s
    clear F0
    refine heldL 8 2 (v := .int .i64 (n.tmod 60)) hQ (by kernel_rfl) (by rw [hs]; decide) (by kernel_rfl) (by kernel_rfl) (by kernel_rfl) hH ?z61 ?z62
    case z61 => (intro o ho; obtain rfl := Option.some.inj ho; exact Or.inl ⟨rfl, fun w1 h1w => k_assign rfl (ev_tmp h41)⟩)
    case z62 =>
    intro a F0
    replace hs := F0.z.trans hs
    replace hd := F0.e.trans hd
    replace h1 := (F0.n 1 (by decide)).trans h1
    clear h2
    replace h8 := (F0.n 8 (by decide)).trans h8
    replace h11 := (F0.n 11 (by decide)).trans h11
    replace h40 := (F0.n 40 (by decide)).trans h40
    replace h41 := (F0.n 41 (by decide)).trans h41
    replace h42 := (F0.n 42 (by decide)).trans h42
    replace h45 := (F0.n 45 (by decide)).trans h45
    replace h43 := (F0.n 43 (by decide)).trans h43
    replace h44 := (F0.n 44 (by decide)).trans h44
    replace h46 := (F0.n 46 (by decide)).trans h46
    replace h47 := (F0.n 47 (by decide)).trans h47
    have h2 := F0.s
    clear F0
    refine heldL 9 48 (v := .pointer (some ⟨b, 0, none⟩)) hQ (by kernel_rfl) (by rw [hs]; decide) (by kernel_rfl) (by kernel_rfl) (by kernel_rfl) hH ?z63 ?z64
    case z63 => (intro o ho; obtain rfl := Option.some.inj ho; exact Or.inl ⟨rfl, fun w1 h1w => k_fieldNth0 rfl (ev_tmp h8)⟩)
    case z64 =>
    intro a F0
    replace hs := F0.z.trans hs
    replace hd := F0.e.trans hd
    replace h1 := (F0.n 1 (by decide)).trans h1
    replace h8 := (F0.n 8 (by decide)).trans h8
    replace h11 := (F0.n 11 (by decide)).trans h11
    replace h40 := (F0.n 40 (by decide)).trans h40
    replace h41 := (F0.n 41 (by decide)).trans h41
    replace h42 := (F0.n 42 (by decide)).trans h42
    replace h45 := (F0.n 45 (by decide)).trans h45
    replace h43 := (F0.n 43 (by decide)).trans h43
    replace h44 := (F0.n 44 (by decide)).trans h44
    replace h46 := (F0.n 46 (by decide)).trans h46
    replace h47 := (F0.n 47 (by decide)).trans h47
    replace h2 := (F0.n 2 (by decide)).trans h2
    have h48 := F0.s
    clear F0
    have c1 : Blk (w.setCell ⟨b, 0, none⟩ (.int .i64 (p.tmod 60))) b 31 #[.int .i64 (p.tmod 60), .int .i64 q] := hb.set 0 _
    refine heldL_store 10 (w' := w.setCell ⟨b, 0, none⟩ (.int .i64 (p.tmod 60))) (by kernel_rfl) (by kernel_rfl) ?z65 trivial ?z66
    case z65 => (intro o ho; obtain rfl := Option.some.inj ho; exact ⟨rfl, k_storeI rfl (ev_tmp h48) (ev_tmp h44) hb (by simp)⟩)
    case z66 =>
    refine heldL 11 49 (v := .pointer (some ⟨b, 1, none⟩)) hQ (by kernel_rfl) (by rw [hs]; decide) (by kernel_rfl) (by kernel_rfl) (by kernel_rfl) hH ?z67 ?z68
    case z67 => (intro o ho; obtain rfl := Option.some.inj ho; exact Or.inl ⟨rfl, fun w1 h1w => k_fieldNth1 rfl (ev_tmp h8)⟩)
    case z68 =>
    intro a F0
    replace hs := F0.z.trans hs
    replace hd := F0.e.trans hd
    replace h1 := (F0.n 1 (by decide)).trans h1
    replace h8 := (F0.n 8 (by decide)).trans h8
    replace h11 := (F0.n 11 (by decide)).trans h11
    replace h40 := (F0.n 40 (by decide)).trans h40
    replace h41 := (F0.n 41 (by decide)).trans h41
    replace h42 := (F0.n 42 (by decide)).trans h42
    replace h45 := (F0.n 45 (by decide)).trans h45
    replace h43 := (F0.n 43 (by decide)).trans h43
    replace h44 := (F0.n 44 (by decide)).trans h44
    replace h46 := (F0.n 46 (by decide)).trans h46
    replace h47 := (F0.n 47 (by decide)).trans h47
    replace h2 := (F0.n 2 (by decide)).trans h2
    replace h48 := (F0.n 48 (by decide)).trans h48
    have h49 := F0.s
    clear F0
    refine heldL_store 12 (w' := (w.setCell ⟨b, 0, none⟩ (.int .i64 (p.tmod 60))).setCell ⟨b, 1, none⟩ (.int .i64 (q.tmod 9))) (by kernel_rfl) (by kernel_rfl) ?z69 trivial ?z70
    case z69 => (intro o ho; obtain rfl := Option.some.inj ho; exact ⟨rfl, k_storeI rfl (ev_tmp h49) (ev_tmp h47) c1 (by simp)⟩)
    case z70 =>
    refine wpAnyH_done (by kernel_rfl) ?_ _
    exact hR a _ hs hd h1 h2 h8 h11 (c1.set 1 _) (fun B => (exc_set w b 0 _ B).trans (exc_set _ b 1 _ B))
  case z52 =>
    refine cont_val 6 46 (v := .int .i64 q) (w' := w) (by kernel_rfl) (by rw [hs]; decide) ?z71 trivial ?z72
    case z71 => (intro o ho; obtain rfl := Option.some.inj ho; exact ⟨rfl, k_loadI rfl (ev_tmp h45) (hb.cell 1)⟩)
    case z72 =>
    intro a F0
    replace hs := F0.z.trans hs
    replace hd := F0.e.trans hd
    replace h1 := (F0.n 1 (by decide)).trans h1
    replace h2 := (F0.n 2 (by decide)).trans h2
    replace h8 := (F0.n 8 (by decide)).trans h8
    replace h11 := (F0.n 11 (by decide)).trans h11
    replace h40 := (F0.n 40 (by decide)).trans h40
    replace h41 := (F0.n 41 (by decide)).trans h41
    replace h42 := (F0.n 42 (by decide)).trans h42
    replace h45 := (F0.n 45 (by decide)).trans h45
    have h46 := F0.s
    clear F0
    refine heldL 7 47 (v := .int .i64 (q.tmod 9)) hQ (by kernel_rfl) (by rw [hs]; decide) (by kernel_rfl) (by kernel_rfl) (by kernel_rfl) hH ?z73 ?z74
    case z73 => (intro o ho; obtain rfl := Option.some.inj ho; exact Or.inl ⟨rfl, fun w1 h1w => o_remI rfl (ev_tmp h46) rfl (by decide) rfl⟩)
    case z74 =>
    intro a F0
    replace hs := F0.z.trans hs
    replace hd := F0.e.trans hd
    replace h1 := (F0.n 1 (by decide)).trans h1
    replace h2 := (F0.n 2 (by decide)).trans h2
    replace h8 := (F0.n 8 (by decide)).trans h8
    replace h11 := (F0.n 11 (by decide)).trans h11
    replace h40 := (F0.n 40 (by decide)).trans h40
    replace h41 := (F0.n 41 (by decide)).trans h41
    replace h42 := (F0.n 42 (by decide)).trans h42
    replace h45 := (F0.n 45 (by decide)).trans h45
    replace h46 := (F0.n 46 (by decide)).trans h46
    have h47 := F0.s
    clear F0
    refine heldL 8 2 (v := .int .i64 (n.tmod 60)) hQ (by kernel_rfl) (by rw [hs]; decide) (by kernel_rfl) (by kernel_rfl) (by kernel_rfl) hH ?z75 ?z76
    case z75 => (intro o ho; obtain rfl := Option.some.inj ho; exact Or.inl ⟨rfl, fun w1 h1w => k_assign rfl (ev_tmp h41)⟩)
    case z76 =>
    intro a F0
    replace hs := F0.z.trans hs
    replace hd := F0.e.trans hd
    replace h1 := (F0.n 1 (by decide)).trans h1
    clear h2
    replace h8 := (F0.n 8 (by decide)).trans h8
    replace h11 := (F0.n 11 (by decide)).trans h11
    replace h40 := (F0.n 40 (by decide)).trans h40
    replace h41 := (F0.n 41 (by decide)).trans h41
    replace h42 := (F0.n 42 (by decide)).trans h42
    replace h45 := (F0.n 45 (by decide)).trans h45
    replace h46 := (F0.n 46 (by decide)).trans h46
    replace h47 := (F0.n 47 (by decide)).trans h47
    have h2 := F0.s
    clear F0
    refine heldL_do 3 43 (v := .int .i64 p) (w' := w) (by kernel_rfl) (by kernel_rfl) (by rw [hs]; decide) ?z77 trivial ?z78
    case z77 => (intro o ho; obtain rfl := Option.some.inj ho; exact ⟨rfl, k_loadI rfl (ev_tmp h42) (hb.cell 0)⟩)
    case z78 =>
    intro a F0
    replace hs := F0.z.trans hs
    replace hd := F0.e.trans hd
    replace h1 := (F0.n 1 (by decide)).trans h1
    replace h8 := (F0.n 8 (by decide)).trans h8
    replace h11 := (F0.n 11 (by decide)).trans h11
    replace h40 := (F0.n 40 (by decide)).trans h40
    replace h41 := (F0.n 41 (by decide)).trans h41
    replace h42 := (F0.n 42 (by decide)).trans h42
    replace h45 := (F0.n 45 (by decide)).trans h45
    replace h46 := (F0.n 46 (by decide)).trans h46
    replace h47 := (F0.n 47 (by decide)).trans h47
    replace h2 := (F0.n 2 (by decide)).trans h2
    have h43 := F0.s
    clear F0
    refine heldL 4 44 (v := .int .i64 (p.tmod 60)) hQ (by kernel_rfl) (by rw [hs]; decide) (by kernel_rfl) (by kernel_rfl) (by kernel_rfl) hH ?z79 ?z80
    case z79 => (intro o ho; obtain rfl := Option.some.inj ho; exact Or.inl ⟨rfl, fun w1 h1w => o_remI rfl (ev_tmp h43) rfl (by decide) rfl⟩)
    case z80 =>
    intro a F0
    replace hs := F0.z.trans hs
    replace hd := F0.e.trans hd
    replace h1 := (F0.n 1 (by decide)).trans h1
    replace h8 := (F0.n 8 (by decide)).trans h8
    replace h11 := (F0.n 11 (by decide)).trans h11
    replace h40 := (F0.n 40 (by decide)).trans h40
    replace h41 := (F0.n 41 (by decide)).trans h41
    replace h42 := (F0.n 42 (by decide)).trans h42
    replace h45 := (F0.n 45 (by decide)).trans h45
    replace h46 := (F0.n 46 (by decide)).trans h46
    replace h47 := (F0.n 47 (by decide)).trans h47
    replace h2 := (F0.n 2 (by decide)).trans h2
    replace h43 := (F0.n 43 (by decide)).trans h43
    have h44 := F0.s
    clear F0
    refine heldL 9 48 (v := .pointer (some ⟨b, 0, none⟩)) hQ (by kernel_rfl) (by rw [hs]; decide) (by kernel_rfl) (by kernel_rfl) (by kernel_rfl) hH ?z81 ?z82
    case z81 => (intro o ho; obtain rfl := Option.some.inj ho; exact Or.inl ⟨rfl, fun w1 h1w => k_fieldNth0 rfl (ev_tmp h8)⟩)
    case z82 =>
    intro a F0
    replace hs := F0.z.trans hs
    replace hd := F0.e.trans hd
    replace h1 := (F0.n 1 (by decide)).trans h1
    replace h8 := (F0.n 8 (by decide)).trans h8
    replace h11 := (F0.n 11 (by decide)).trans h11
    replace h40 := (F0.n 40 (by decide)).trans h40
    replace h41 := (F0.n 41 (by decide)).trans h41
    replace h42 := (F0.n 42 (by decide)).trans h42
    replace h45 := (F0.n 45 (by decide)).trans h45
    replace h46 := (F0.n 46 (by decide)).trans h46
    replace h47 := (F0.n 47 (by decide)).trans h47
    replace h2 := (F0.n 2 (by decide)).trans h2
    replace h43 := (F0.n 43 (by decide)).trans h43
    replace h44 := (F0.n 44 (by decide)).trans h44
    have h48 := F0.s
    clear F0
    have c1 : Blk (w.setCell ⟨b, 0, none⟩ (.int .i64 (p.tmod 60))) b 31 #[.int .i64 (p.tmod 60), .int .i64 q] := hb.set 0 _
    refine heldL_store 10 (w' := w.setCell ⟨b, 0, none⟩ (.int .i64 (p.tmod 60))) (by kernel_rfl) (by kernel_rfl) ?z83 trivial ?z84
    case z83 => (intro o ho; obtain rfl := Option.some.inj ho; exact ⟨rfl, k_storeI rfl (ev_tmp h48) (ev_tmp h44) hb (by simp)⟩)
    case z84 =>
    refine heldL 11 49 (v := .pointer (some ⟨b, 1, none⟩)) hQ (by kernel_rfl) (by rw [hs]; decide) (by kernel_rfl) (by kernel_rfl) (by kernel_rfl) hH ?z85 ?z86
    case z85 => (intro o ho; obtain rfl := Option.some.inj ho; exact Or.inl ⟨rfl, fun w1 h1w => k_fieldNth1 rfl (ev_tmp h8)⟩)
    case z86 =>
    intro a F0
    replace hs := F0.z.trans hs
    replace hd := F0.e.trans hd
    replace h1 := (F0.n 1 (by decide)).trans h1
    replace h8 := (F0.n 8 (by decide)).trans h8
    replace h11 := (F0.n 11 (by decide)).trans h11
    replace h40 := (F0.n 40 (by decide)).trans h40
    replace h41 := (F0.n 41 (by decide)).trans h41
    replace h42 := (F0.n 42 (by decide)).trans h42
    replace h45 := (F0.n 45 (by decide)).trans h45
    replace h46 := (F0.n 46 (by decide)).trans h46
    replace h47 := (F0.n 47 (by decide)).trans h47
    replace h2 := (F0.n 2 (by decide)).trans h2
    replace h43 := (F0.n 43 (by decide)).trans h43
    replace h44 := (F0.n 44 (by decide)).trans h44
    replace h48 := (F0.n 48 (by decide)).trans h48
    have h49 := F0.s
    clear F0
    refine heldL_store 12 (w' := (w.setCell ⟨b, 0, none⟩ (.int .i64 (p.tmod 60))).setCell ⟨b, 1, none⟩ (.int .i64 (q.tmod 9))) (by kernel_rfl) (by kernel_rfl) ?z87 trivial ?z88
    case z87 => (intro o ho; obtain rfl := Option.some.inj ho; exact ⟨rfl, k_storeI rfl (ev_tmp h49) (ev_tmp h47) c1 (by simp)⟩)
    case z88 =>
    refine wpAnyH_done (by kernel_rfl) ?_ _
    exact hR a _ hs hd h1 h2 h8 h11 (c1.set 1 _) (fun B => (exc_set w b 0 _ B).trans (exc_set _ b 1 _ B))

noncomputable def chkMay : Array Oper := (Tryd.f3.body.bind (regOf 28)).getD #[]
set_option maxRecDepth 100000 in
set_option maxHeartbeats 1000000 in
theorem twoMay (a : Act) (w : World) (Q : Exit → Act → World → Prop) (hQ : Blind Q) (b : Nat) (f iv c u : Int) (AM AD AW AP : Option Addr) (cM cD cW cP : Nat) (M D : List Int) (W : List (Int × Int)) (P : List Int) (hs : a.tmps.size = 108) (h1 : a.tmps.getD 11 undef = .pointer (some ⟨b, 0, none⟩))
    (hA : RuleAt w b f iv c u (.slice AM M.length cM) (.slice AD D.length cD) (.slice AW W.length cW) (.slice AP P.length cP)) (hL : ListsIn w AM AD AW AP M D W P)
    (hR : ∀ (a' : Act) (w' : World), a'.tmps.getD 10 undef = .bool true → a'.defers = a.defers → Below w.heap.size w w' → Q .normal a' w') :
    (Code.region 28 chkMay true).wp Tryd.prog Q a w := by
  conv => arg 2; arg 2; whnf
  obtain ⟨df, hd⟩ : ∃ df, a.defers = df := ⟨_, rfl⟩
  rw [hd] at hR
  refine wp_region_held_drew (S := fun w' => Below w.heap.size w w') (by kernel_rfl) (below_drew (Below.refl _ _)) (fun hH => ?_)
  refine heldL 0 103 (v := .agg #[.int .i64 f, .int .i64 iv, .int .i64 c, .int .i64 u, .slice AM M.length cM, .slice AD D.length cD, .slice AW W.length cW, .slice AP P.length cP]) hQ (by kernel_rfl) (by rw [hs]; decide) (by kernel_rfl) (by kernel_rfl) (by kernel_rfl) hH ?q0 ?q1
  case q0 => (intro o ho; obtain rfl := Option.some.inj ho; exact Or.inl ⟨rfl, fun w1 h1' => k_loadR rfl (ev_tmp h1) (hA.below h1')⟩)
  case q1 =>
  intro a F0
  replace hs := F0.z.trans hs
  replace hd := F0.e.trans hd
  replace h1 := (F0.n 11 (by decide)).trans h1
  have t0 := F0.s
  clear F0
  refine heldL 2 105 (v := .agg #[.int .i64 f, .int .i64 iv, .int .i64 c, .int .i64 u, .slice AM M.length cM, .slice AD D.length cD, .slice AW W.length cW, .slice AP P.length cP]) hQ (by kernel_rfl) (by rw [hs]; decide) (by kernel_rfl) (by kernel_rfl) (by kernel_rfl) hH ?q2 ?q3
  case q2 => (intro o ho; obtain rfl := Option.some.inj ho; exact Or.inl ⟨rfl, fun w1 h1' => k_loadR rfl (ev_tmp h1) (hA.below h1')⟩)
  case q3 =>
  intro a F0
  replace hs := F0.z.trans hs
  replace hd := F0.e.trans hd
  replace t0 := (F0.n 103 (by decide)).trans t0
  have t2 := F0.s
  clear F0
  refine heldL_call 1 104 (f := 12) (args := #[.agg #[.int .i64 f, .int .i64 iv, .int .i64 c, .int .i64 u, .slice AM M.length cM, .slice AD D.length cD, .slice AW W.length cW, .slice AP P.length cP]]) (R := fun v w' => v = .int .i64 (Rul.check f iv c u M D W P) ∧ Below w.heap.size w w') (by kernel_rfl) (by kernel_rfl) (by rw [hs]; decide) ?q4 ?q5 (fun v w' h => h.2) ?q6
  case q4 => (intro o ho; obtain rfl := Option.some.inj ho; exact ⟨rfl, k_callCheck rfl rfl (ev_tmp t0)⟩)
  case q5 =>
    refine (check_any f iv c u AM AD AW AP cM cD cW cP M D W P _ (hL.below hH)).mono ?_
    rintro e w' ⟨rfl, hb⟩
    exact ⟨_, rfl, rfl, hH.trans (hb.mono hH.size)⟩
  case q6 =>
  rintro _ w2 a ⟨rfl, hH⟩ F0
  replace hs := F0.z.trans hs
  replace hd := F0.e.trans hd
  replace t2 := (F0.n 105 (by decide)).trans t2
  have t1 := F0.s
  clear F0
  refine heldL_call 3 106 (f := 14) (args := #[.agg #[.int .i64 f, .int .i64 iv, .int .i64 c, .int .i64 u, .slice AM M.length cM, .slice AD D.length cD, .slice AW W.length cW, .slice AP P.length cP]]) (R := fun v w' => v = .int .i64 (Rul.check f iv c u M D W P) ∧ Below w.heap.size w w') (by kernel_rfl) (by kernel_rfl) (by rw [hs]; decide) ?q7 ?q8 (fun v w' h => h.2) ?q9
  case q7 => (intro o ho; obtain rfl := Option.some.inj ho; exact ⟨rfl, k_callLaw rfl rfl (ev_tmp t2)⟩)
  case q8 =>
    refine (lawCheck_any f iv c u AM AD AW AP cM cD cW cP M D W P _ (hL.below hH)).mono ?_
    rintro e w' ⟨rfl, hb⟩
    exact ⟨_, rfl, rfl, hH.trans (hb.mono hH.size)⟩
  case q9 =>
  rintro _ w3 a ⟨rfl, hH⟩ F0
  replace hs := F0.z.trans hs
  replace hd := F0.e.trans hd
  replace t1 := (F0.n 104 (by decide)).trans t1
  have t3 := F0.s
  clear F0
  refine heldL 4 107 (v := .bool true) hQ (by kernel_rfl) (by rw [hs]; decide) (by kernel_rfl) (by kernel_rfl) (by kernel_rfl) hH ?qa ?qb
  case qa => (intro o ho; obtain rfl := Option.some.inj ho; exact Or.inl ⟨rfl, fun _ _ => k_eqE rfl (ev_tmp t1) (ev_tmp t3) (by simp)⟩)
  case qb =>
  intro a F0
  replace hs := F0.z.trans hs
  replace hd := F0.e.trans hd
  have t4 := F0.s
  clear F0
  refine heldL 5 10 (v := .bool true) hQ (by kernel_rfl) (by rw [hs]; decide) (by kernel_rfl) (by kernel_rfl) (by kernel_rfl) hH ?qc ?qd
  case qc => (intro o ho; obtain rfl := Option.some.inj ho; exact Or.inl ⟨rfl, fun _ _ => k_assign rfl (ev_tmp t4)⟩)
  case qd =>
  intro a F0
  refine wpAnyH_done (by kernel_rfl) ?_ _
  exact hR a _ F0.s (F0.e.trans hd) hH
end Go.Proofs.YtoldjleojnlhiaaDoor
namespace Go.Proofs.YtoldjleojnlhiaaDoor
open Go.RowKit
theorem odd_no {f : Int} {M D : List Int} {W : List (Int × Int)} {P : List Int} (h1 : f = 1 → D = []) (h2 : P ≠ [] → 0 < M.length + D.length + W.length) : Rul.odd f M D W P = false := by
  have a1 : (f == 1 && decide (0 < D.length)) = false := by
    by_cases hf : f = 1
    · rw [h1 hf]; simp
    · simp [hf]
  have a2 : (decide (0 < P.length) && !(decide (0 < M.length) || decide (0 < D.length) || decide (0 < W.length))) = false := by
    by_cases hp : P = []
    · rw [hp]; simp
    · have h3 : 0 < M.length ∨ 0 < D.length ∨ 0 < W.length := by have := h2 hp; omega
      rcases h3 with h3 | h3 | h3
      · rw [decide_eq_true h3]; simp
      · rw [decide_eq_true h3]; simp
      · rw [decide_eq_true h3]; simp
  unfold Rul.odd
  rw [a1, a2]
  rfl
noncomputable def ruleMayBody : Code := Tryd.f3.body.getD .skip

theorem append_int_g {w : World} {base : Nat} {v : Value} {L : List Int} {x : Int} {g c : Nat} (h : OwnI w base v L) (hx : w.cell? ⟨g, 0, none⟩ = some (.int .i64 x)) (hl : L.length ≤ 1000000) (hB : base ≤ w.heap.size) :
    ∃ v' w', (Builtin.append_ #[35, 35] 35 #[v, .slice (some ⟨g, 0, none⟩) 1 c]).run Tryd.prog w = .ok v' w' ∧ OwnI w' base v' (L ++ [x]) ∧ w.grownBy w' v.ownBlock := by
  obtain ⟨i, hi, hz, hs, hb⟩ := info_of (T := 3) (z := .int .i64 0) (n := 1) (b := 8) (by kernel_rfl) (by kernel_rfl) (by kernel_rfl)
  obtain ⟨v', w', hr, ho, hg, -⟩ := run_append_own (P := Tryd.prog) w base 35 35 3 i (.int .i64 0) 1 8 Tryd.underlying35 hi hz hs hb rfl (by decide) v L.length _ h ⟨g, 0, none⟩ 1 c [.int .i64 x] rfl
    (fun j u hu => by
      cases j with
      | zero => obtain rfl : Value.int .i64 x = u := by simpa using hu
                exact hx
      | succ j => simp at hu) (by simp [Value.oneCell']) (by unfold maxLen; omega) (by omega) hB
  refine ⟨v', w', hr, ?_, hg⟩
  unfold OwnI
  simpa using ho
theorem append_nth_g {w : World} {base : Nat} {v : Value} {L : List (Int × Int)} {x y : Int} {g c : Nat} (h : OwnN w base v L) (hx : w.cell? ⟨g, 0, none⟩ = some (.int .i64 x)) (hy : w.cell? ⟨g, 1, none⟩ = some (.int .i64 y)) (hl : L.length ≤ 1000000) (hB : base ≤ w.heap.size) :
    ∃ v' w', (Builtin.append_ #[36, 36] 36 #[v, .slice (some ⟨g, 0, none⟩) 1 c]).run Tryd.prog w = .ok v' w' ∧ OwnN w' base v' (L ++ [(x, y)]) ∧ w.grownBy w' v.ownBlock := by
  obtain ⟨i, hi, hz, hs, hb⟩ := info_of (T := 31) (z := .agg #[.int .i64 0, .int .i64 0]) (n := 2) (b := 16) (by kernel_rfl) (by kernel_rfl) (by kernel_rfl)
  obtain ⟨v', w', hr, ho, hg, -⟩ := run_append_own (P := Tryd.prog) w base 36 36 31 i (.agg #[.int .i64 0, .int .i64 0]) 2 16 Tryd.underlying36 hi hz hs hb rfl (by decide) v L.length _ h ⟨g, 0, none⟩ 1 c [.int .i64 x, .int .i64 y] rfl
    (fun j u hu => by
      match j with
      | 0 => obtain rfl : Value.int .i64 x = u := by simpa using hu
             exact hx
      | 1 => obtain rfl : Value.int .i64 y = u := by simpa using hu
             exact hy
      | j + 2 => simp at hu) (by simp [Value.oneCell']) (by unfold maxLen; omega) (by omega) hB
  refine ⟨v', w', hr, ?_, hg⟩
  unfold OwnN
  simpa using ho
theorem OwnI.inn {w : World} {base : Nat} {A : Option Addr} {cap : Nat} {L : List Int} (h : OwnI w base (.slice A L.length cap) L) : L.length ≤ maxLen ∧ IntsIn w A L := by
  obtain ⟨A', c', e, h1, -, h3⟩ := h.ints
  obtain ⟨rfl, -, -⟩ := Value.slice.inj e
  exact ⟨h1, h3⟩
theorem OwnN.inn {w : World} {base : Nat} {A : Option Addr} {cap : Nat} {L : List (Int × Int)} (h : OwnN w base (.slice A L.length cap) L) : L.length ≤ maxLen ∧ NthsIn w A L := by
  obtain ⟨A', c', e, h1, -, h3⟩ := h.nths
  obtain ⟨rfl, -, -⟩ := Value.slice.inj e
  exact ⟨h1, h3⟩
theorem Four.below {w w' : World} {n0 : Nat} {A1 A2 A3 A4 : Option Addr} {c1 c2 c3 c4 : Nat} {M D : List Int} {K : List (Int × Int)} {P : List Int} {tD tW tP : Nat} (h : Four w n0 A1 A2 A3 A4 c1 c2 c3 c4 M D K P tD tW tP) (l : Below w.heap.size w w') : Four w' n0 A1 A2 A3 A4 c1 c2 c3 c4 M D K P tD tW tP :=
  ⟨h.oM.below l, h.gM, h.oD.below l, h.gD, h.oW.below l, h.gW, h.oP.below l, h.hD, h.hW, h.hP⟩
theorem Four.exc {w w' : World} {n0 T b : Nat} {A1 A2 A3 A4 : Option Addr} {c1 c2 c3 c4 : Nat} {M D : List Int} {K : List (Int × Int)} {P : List Int} {tD tW tP : Nat} (h : Four w n0 A1 A2 A3 A4 c1 c2 c3 c4 M D K P tD tW tP) (e : Exc w.heap.size b w w') (hb : b < n0 ∨ T ≤ b)
    (m1 : ∀ g, (Value.slice A1 M.length c1).ownBlock = some g → g < T) (m2 : ∀ g, (Value.slice A2 D.length c2).ownBlock = some g → g < T) (m3 : ∀ g, (Value.slice A3 K.length c3).ownBlock = some g → g < T) (m4 : ∀ g, (Value.slice A4 P.length c4).ownBlock = some g → g < T) : Four w' n0 A1 A2 A3 A4 c1 c2 c3 c4 M D K P tD tW tP :=
  ⟨h.oM.exc e (fun g hg => ⟨(h.oM.lt g hg).2, by have := (h.oM.lt g hg).1; have := m1 g hg; omega⟩), h.gM, h.oD.exc e (fun g hg => ⟨(h.oD.lt g hg).2, by have := (h.oD.lt g hg).1; have := m2 g hg; have := h.hD; omega⟩), h.gD,
   h.oW.exc e (fun g hg => ⟨(h.oW.lt g hg).2, by have := (h.oW.lt g hg).1; have := m3 g hg; have := h.hD; have := h.hW; omega⟩), h.gW, h.oP.exc e (fun g hg => ⟨(h.oP.lt g hg).2, by have := (h.oP.lt g hg).1; have := m4 g hg; have := h.hD; have := h.hW; have := h.hP; omega⟩), h.hD, h.hW, h.hP⟩
theorem Blk.grown {w w' : World} {b : Nat} {t : TypeId} {cs : Array Value} {row : Option Nat} (h : Blk w b t cs) (g : w.grownBy w' row) (hne : row ≠ some b) : Blk w' b t cs := (g.block b h.lt (Ne.symm hne)).trans h
/-- the state ahead of the switch -/
structure MayS (w w4 : World) (what : Int) (b8 : Nat) (rcs : Array Value) (a : Act) (w' : World) : Prop where
  d : a.defers = []
  z : a.tmps.size = 108
  s1 : a.tmps.getD 1 undef = .int .u8 what
  s8 : a.tmps.getD 8 undef = .pointer (some ⟨b8, 0, none⟩)
  s11 : a.tmps.getD 11 undef = .pointer (some ⟨w4.heap.size, 0, none⟩)
  r : ∃ n p q : Int, a.tmps.getD 2 undef = .int .i64 n ∧ Blk w' b8 31 #[.int .i64 p, .int .i64 q]
  B : Blk w' w4.heap.size 38 rcs
  l : ∃ w5, Below w4.heap.size w4 w5 ∧ w4.heap.size < w5.heap.size ∧ ∀ B, Exc B b8 w5 w'

theorem own_kept {w w' : World} {base : Nat} {v : Value} {L : List Int} {row : Option Nat} (h : OwnI w base v L) (g : w.grownBy w' row) (hne : ∀ g, v.ownBlock = some g → ∀ g', row = some g' → g = g' → False) : OwnI w' base v L :=
  World.ownsRow.kept h g (by
    cases e : v.ownBlock with
    | none => exact .inl rfl
    | some x => exact .inr (fun e' => hne x e x e'.symm rfl))
theorem own_keptN {w w' : World} {base : Nat} {v : Value} {L : List (Int × Int)} {row : Option Nat} (h : OwnN w base v L) (g : w.grownBy w' row) (hne : ∀ g, v.ownBlock = some g → ∀ g', row = some g' → g = g' → False) : OwnN w' base v L :=
  World.ownsRow.kept h g (by
    cases e : v.ownBlock with
    | none => exact .inl rfl
    | some x => exact .inr (fun e' => hne x e x e'.symm rfl))
theorem k_storeF {w : World} {ρ : Operand → Value} {o : Oper} {x y : Operand} {b i : Nat} {t : TypeId} {cs : Array Value} {n : Int} (ho : o.op = .store 33 x y) (hx : ρ x = .pointer (some ⟨b, i, none⟩)) (hy : ρ y = .int .i64 n) (hb : Blk w b t cs) (hi : i < cs.size) :
    (execOp ρ o).run Tryd.prog w = .ok .skip (w.setCell ⟨b, i, none⟩ (.int .i64 n)) := by
  have hc := hb.cell i
  have hf := hb.frozen i
  rw [Array.getElem?_eq_getElem hi] at hc
  simp only [execOp, ho, hx, hy]
  go_simp
theorem k_boxN {w : World} {ρ : Operand → Value} {o : Oper} {x : Operand} {cs : Array Value} (ho : o.op = .box 31 x) (hx : ρ x = .agg cs) : (execOp ρ o).run Tryd.prog w = .ok (.value (.pointer (some ⟨w.heap.size, 0, none⟩))) (w.alloc (.cells cs 31)) := by
  simp only [execOp, ho, hx]
  go_simp
/-- an own row's block is of its element's type: no rule's -/
theorem OwnI.blk {w : World} {base : Nat} {A : Option Addr} {n cap : Nat} {L : List Int} (h : OwnI w base (.slice A n cap) L) (b : Nat) (hb : (Value.slice A n cap).ownBlock = some b) : match w.heap[b]? with | some (.cells _ t _) => t = 3 | _ => False := by
  rcases h.2 with ⟨e, -⟩ | ⟨g, c, cur, e, -, hg, -⟩
  · obtain ⟨rfl, -, -⟩ := Value.slice.inj e
    cases hb
  · obtain ⟨rfl, -, -⟩ := Value.slice.inj e
    obtain rfl : g = b := by simpa [Value.ownBlock] using hb
    rw [hg]
theorem OwnN.blk {w : World} {base : Nat} {A : Option Addr} {n cap : Nat} {L : List (Int × Int)} (h : OwnN w base (.slice A n cap) L) (b : Nat) (hb : (Value.slice A n cap).ownBlock = some b) : match w.heap[b]? with | some (.cells _ t _) => t = 31 | _ => False := by
  rcases h.2 with ⟨e, -⟩ | ⟨g, c, cur, e, -, hg, -⟩
  · obtain ⟨rfl, -, -⟩ := Value.slice.inj e
    cases hb
  · obtain ⟨rfl, -, -⟩ := Value.slice.inj e
    obtain rfl : g = b := by simpa [Value.ownBlock] using hb
    rw [hg]

end Go.Proofs.YtoldjleojnlhiaaDoor
