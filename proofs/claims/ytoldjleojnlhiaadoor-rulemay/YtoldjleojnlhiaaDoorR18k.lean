/-
  The law's Check: its plain regions with guards (3 and 32), over a frame that is a letter.
-/
import Derived.Test.YtoldjleojnlhiaaDoorR7a
import Derived.Test.YtoldjleojnlhiaaDoorR18j
namespace Go.Proofs.YtoldjleojnlhiaaDoor
open Go.RowKit
section
variable {P : Program} {ops : Array Oper} {Q : Exit → Act → World → Prop} {a : Act} {w : World}
/-- one operation: behind it the frame is a letter again -/
theorem opsL (i d : Nat) {v : Value} {rest : List Nat} (hd : (ops[i]?).map (·.dst) = some (some d)) (hz : d < a.tmps.size)
    (hy : ∀ o, ops[i]? = some o → (Region.wanted o (yielded ops a.tmps) = true ∧ (execOp a.eval o).run P w = .ok (.value v) w) ∨ (Region.wanted o (yielded ops a.tmps) = false ∧ v = undef))
    (h : ∀ a' : Act, a'.tmps.size = a.tmps.size → a'.tmps.getD d undef = v → (∀ k, k ≠ d → a'.tmps.getD k undef = a.tmps.getD k undef) → a'.defers = a.defers → wpOps P ops Q rest a' w) :
    wpOps P ops Q (i :: rest) a w := by
  have h' := h (a.put (some d) v) put_size (put_get hz) (fun k hk => put_ne (Ne.symm hk)) rfl
  cases ho : ops[i]? with
  | none => rw [ho] at hd; cases hd
  | some o =>
    rw [ho] at hd
    have e : o.dst = some d := by simpa using hd
    rw [wpOps_cons]
    rcases hy o ho with ⟨h1, h2⟩ | ⟨h1, rfl⟩
    · simp only [wpOp, ho, h1, if_true]
      left
      unfold Oper.wp
      rw [h2, Oper.upon_value, e]
      exact h'
    · simp only [wpOp, ho, h1]
      rw [e]
      exact h'
theorem wanted_at {o : Oper} {t : Array Value} {j d : Nat} {want b : Bool} (hg : o.guard = some (j, want)) (hj : (ops[j]?).bind (·.dst) = some d) (hv : t.getD d undef = .bool b) :
    Region.wanted o (yielded ops t) = (b == want) := by
  have hd : d < t.size := by
    apply Classical.byContradiction
    intro h
    simp [Array.getD, h, undef] at hv
  have h2 : t[d]? = some (.bool b) := by
    rw [Array.getElem?_eq_getElem hd]
    simpa [Array.getD, hd] using hv
  simp only [Region.wanted, hg, yielded, hj, Option.bind_some, h2]
  cases b <;> cases want <;> rfl
theorem wanted_not {o : Oper} {t : Array Value} {j d : Nat} {want : Bool} (hg : o.guard = some (j, want)) (hj : (ops[j]?).bind (·.dst) = some d) (hv : t.getD d undef = undef) :
    Region.wanted o (yielded ops t) = false := by
  simp only [Region.wanted, hg, yielded, hj, Option.bind_some]
  by_cases hd : d < t.size
  · have h2 : t[d]? = some undef := by
      rw [Array.getElem?_eq_getElem hd]
      simpa [Array.getD, hd] using hv
    rw [h2]
    cases want <;> rfl
  · have h2 : t[d]? = none := by simpa using hd
    rw [h2]
    cases want <;> rfl
theorem Keep.step {lo hi x d : Nat} {t u u' : Array Value} (h : Keep lo hi x t u) (z : u'.size = u.size) (n : ∀ k, k ≠ d → u'.getD k undef = u.getD k undef) (hd : d = x ∨ lo ≤ d ∧ d ≤ hi) : Keep lo hi x t u' :=
  ⟨z.trans h.1, fun k h1 h2 => (n k (by omega)).trans (h.2 k h1 h2)⟩
end
noncomputable def ops3 : Array Oper := (Tryd.f14.body.bind (regOf 3)).getD #[]
noncomputable def ops32 : Array Oper := (Tryd.f14.body.bind (regOf 32)).getD #[]

set_option maxRecDepth 100000 in
set_option maxHeartbeats 1000000 in
theorem reg3_none (a0 : Act) (w : World) (Q : Exit → Act → World → Prop) (b : Nat) (iv c u : Int) (hs0 : a0.tmps.size = 236) (h1 : a0.tmps.getD 1 undef = .pointer (some ⟨b, 0, none⟩))
    (e1 : w.cell? ⟨b, 1, none⟩ = some (.int .i64 iv)) (e2 : w.cell? ⟨b, 2, none⟩ = some (.int .i64 c)) (e3 : w.cell? ⟨b, 3, none⟩ = some (.int .i64 u))
    (n1 : ¬ iv < 1) (n2 : ¬ 999 < iv) (n3 : ¬ c < 0) (n4 : ¬ 9999 < c) (v1 : (u != 0) = false)
    (hR : ∀ a' : Act, Keep 29 61 61 a0.tmps a'.tmps → a'.defers = a0.defers → a'.tmps.getD 61 undef = .bool false → Q .normal a' w) :
    (Code.region 3 ops3 false).wp Tryd.prog Q a0 w := by
  have hs := hs0
  have K := Keep.refl 29 61 61 a0.tmps
  have hd : a0.defers = a0.defers := rfl
  conv => arg 2; arg 2; whnf
  refine wp_region (show wpOps _ _ _ [0, 1, 2, 3, 4, 5, 6, 7, 8, 9, 10, 11, 12, 13, 14, 15, 16, 17, 18, 19, 20, 21, 22, 23, 24, 25, 26, 27, 28, 29, 30, 31, 32] _ _ from ?_)
  refine opsL 0 29 (v := .pointer (some ⟨b, 1, none⟩)) (by kernel_rfl) (by rw [hs]; decide) ?q1 ?q2
  case q1 => (intro o ho; obtain rfl := Option.some.inj ho; exact Or.inl ⟨rfl, k_field1 rfl (ev_tmp h1)⟩)
  case q2 =>
  intro a z h29 n e
  replace hs := z.trans hs
  replace hd := e.trans hd
  replace K := K.step z n (by decide)
  replace h1 := (n 1 (by decide)).trans h1
  clear z n e
  refine opsL 1 30 (v := .int .i64 iv) (by kernel_rfl) (by rw [hs]; decide) ?q3 ?q4
  case q3 => (intro o ho; obtain rfl := Option.some.inj ho; exact Or.inl ⟨rfl, k_loadI rfl (ev_tmp h29) e1⟩)
  case q4 =>
  intro a z h30 n e
  replace hs := z.trans hs
  replace hd := e.trans hd
  replace K := K.step z n (by decide)
  replace h1 := (n 1 (by decide)).trans h1
  clear h29
  clear z n e
  refine opsL 2 31 (v := .bool false) (by kernel_rfl) (by rw [hs]; decide) ?q5 ?q6
  case q5 => (intro o ho; obtain rfl := Option.some.inj ho; exact Or.inl ⟨rfl, k_lt rfl (ev_tmp h30) rfl (decide_eq_false n1)⟩)
  case q6 =>
  intro a z h31 n e
  replace hs := z.trans hs
  replace hd := e.trans hd
  replace K := K.step z n (by decide)
  replace h1 := (n 1 (by decide)).trans h1
  clear h30
  clear z n e
  refine opsL 3 32 (v := .bool false) (by kernel_rfl) (by rw [hs]; decide) ?q7 ?q8
  case q7 => (intro o ho; obtain rfl := Option.some.inj ho; exact Or.inl ⟨rfl, k_move rfl (ev_tmp h31)⟩)
  case q8 =>
  intro a z h32 n e
  replace hs := z.trans hs
  replace hd := e.trans hd
  replace K := K.step z n (by decide)
  replace h1 := (n 1 (by decide)).trans h1
  clear h31
  clear z n e
  refine opsL 4 33 (v := .pointer (some ⟨b, 1, none⟩)) (by kernel_rfl) (by rw [hs]; decide) ?q9 ?q10
  case q9 => (intro o ho; obtain rfl := Option.some.inj ho; exact Or.inl ⟨wanted_at (b := false) (want := false) rfl (by kernel_rfl) h32, k_field1 rfl (ev_tmp h1)⟩)
  case q10 =>
  intro a z h33 n e
  replace hs := z.trans hs
  replace hd := e.trans hd
  replace K := K.step z n (by decide)
  replace h1 := (n 1 (by decide)).trans h1
  replace h32 := (n 32 (by decide)).trans h32
  clear z n e
  refine opsL 5 34 (v := .int .i64 iv) (by kernel_rfl) (by rw [hs]; decide) ?q11 ?q12
  case q11 => (intro o ho; obtain rfl := Option.some.inj ho; exact Or.inl ⟨wanted_at (b := false) (want := false) rfl (by kernel_rfl) h32, k_loadI rfl (ev_tmp h33) e1⟩)
  case q12 =>
  intro a z h34 n e
  replace hs := z.trans hs
  replace hd := e.trans hd
  replace K := K.step z n (by decide)
  replace h1 := (n 1 (by decide)).trans h1
  replace h32 := (n 32 (by decide)).trans h32
  clear h33
  clear z n e
  refine opsL 6 35 (v := .bool false) (by kernel_rfl) (by rw [hs]; decide) ?q13 ?q14
  case q13 => (intro o ho; obtain rfl := Option.some.inj ho; exact Or.inl ⟨wanted_at (b := false) (want := false) rfl (by kernel_rfl) h32, k_gt rfl (ev_tmp h34) rfl (decide_eq_false n2)⟩)
  case q14 =>
  intro a z h35 n e
  replace hs := z.trans hs
  replace hd := e.trans hd
  replace K := K.step z n (by decide)
  replace h1 := (n 1 (by decide)).trans h1
  replace h32 := (n 32 (by decide)).trans h32
  clear h34
  clear z n e
  refine opsL 7 36 (v := .bool false) (by kernel_rfl) (by rw [hs]; decide) ?q15 ?q16
  case q15 => (intro o ho; obtain rfl := Option.some.inj ho; exact Or.inl ⟨rfl, k_pick_no rfl (ev_tmp h32) (ev_tmp h35)⟩)
  case q16 =>
  intro a z h36 n e
  replace hs := z.trans hs
  replace hd := e.trans hd
  replace K := K.step z n (by decide)
  replace h1 := (n 1 (by decide)).trans h1
  clear h32
  clear h35
  clear z n e
  refine opsL 8 37 (v := .bool false) (by kernel_rfl) (by rw [hs]; decide) ?q17 ?q18
  case q17 => (intro o ho; obtain rfl := Option.some.inj ho; exact Or.inl ⟨rfl, k_move rfl (ev_tmp h36)⟩)
  case q18 =>
  intro a z h37 n e
  replace hs := z.trans hs
  replace hd := e.trans hd
  replace K := K.step z n (by decide)
  replace h1 := (n 1 (by decide)).trans h1
  clear h36
  clear z n e
  refine opsL 9 38 (v := .pointer (some ⟨b, 2, none⟩)) (by kernel_rfl) (by rw [hs]; decide) ?q19 ?q20
  case q19 => (intro o ho; obtain rfl := Option.some.inj ho; exact Or.inl ⟨wanted_at (b := false) (want := false) rfl (by kernel_rfl) h37, k_field2 rfl (ev_tmp h1)⟩)
  case q20 =>
  intro a z h38 n e
  replace hs := z.trans hs
  replace hd := e.trans hd
  replace K := K.step z n (by decide)
  replace h1 := (n 1 (by decide)).trans h1
  replace h37 := (n 37 (by decide)).trans h37
  clear z n e
  refine opsL 10 39 (v := .int .i64 c) (by kernel_rfl) (by rw [hs]; decide) ?q21 ?q22
  case q21 => (intro o ho; obtain rfl := Option.some.inj ho; exact Or.inl ⟨wanted_at (b := false) (want := false) rfl (by kernel_rfl) h37, k_loadI rfl (ev_tmp h38) e2⟩)
  case q22 =>
  intro a z h39 n e
  replace hs := z.trans hs
  replace hd := e.trans hd
  replace K := K.step z n (by decide)
  replace h1 := (n 1 (by decide)).trans h1
  replace h37 := (n 37 (by decide)).trans h37
  clear h38
  clear z n e
  refine opsL 11 40 (v := .bool false) (by kernel_rfl) (by rw [hs]; decide) ?q23 ?q24
  case q23 => (intro o ho; obtain rfl := Option.some.inj ho; exact Or.inl ⟨wanted_at (b := false) (want := false) rfl (by kernel_rfl) h37, k_lt rfl (ev_tmp h39) rfl (decide_eq_false n3)⟩)
  case q24 =>
  intro a z h40 n e
  replace hs := z.trans hs
  replace hd := e.trans hd
  replace K := K.step z n (by decide)
  replace h1 := (n 1 (by decide)).trans h1
  replace h37 := (n 37 (by decide)).trans h37
  clear h39
  clear z n e
  refine opsL 12 41 (v := .bool false) (by kernel_rfl) (by rw [hs]; decide) ?q25 ?q26
  case q25 => (intro o ho; obtain rfl := Option.some.inj ho; exact Or.inl ⟨rfl, k_pick_no rfl (ev_tmp h37) (ev_tmp h40)⟩)
  case q26 =>
  intro a z h41 n e
  replace hs := z.trans hs
  replace hd := e.trans hd
  replace K := K.step z n (by decide)
  replace h1 := (n 1 (by decide)).trans h1
  clear h37
  clear h40
  clear z n e
  refine opsL 13 42 (v := .bool false) (by kernel_rfl) (by rw [hs]; decide) ?q27 ?q28
  case q27 => (intro o ho; obtain rfl := Option.some.inj ho; exact Or.inl ⟨rfl, k_move rfl (ev_tmp h41)⟩)
  case q28 =>
  intro a z h42 n e
  replace hs := z.trans hs
  replace hd := e.trans hd
  replace K := K.step z n (by decide)
  replace h1 := (n 1 (by decide)).trans h1
  clear h41
  clear z n e
  refine opsL 14 43 (v := .pointer (some ⟨b, 2, none⟩)) (by kernel_rfl) (by rw [hs]; decide) ?q29 ?q30
  case q29 => (intro o ho; obtain rfl := Option.some.inj ho; exact Or.inl ⟨wanted_at (b := false) (want := false) rfl (by kernel_rfl) h42, k_field2 rfl (ev_tmp h1)⟩)
  case q30 =>
  intro a z h43 n e
  replace hs := z.trans hs
  replace hd := e.trans hd
  replace K := K.step z n (by decide)
  replace h1 := (n 1 (by decide)).trans h1
  replace h42 := (n 42 (by decide)).trans h42
  clear z n e
  refine opsL 15 44 (v := .int .i64 c) (by kernel_rfl) (by rw [hs]; decide) ?q31 ?q32
  case q31 => (intro o ho; obtain rfl := Option.some.inj ho; exact Or.inl ⟨wanted_at (b := false) (want := false) rfl (by kernel_rfl) h42, k_loadI rfl (ev_tmp h43) e2⟩)
  case q32 =>
  intro a z h44 n e
  replace hs := z.trans hs
  replace hd := e.trans hd
  replace K := K.step z n (by decide)
  replace h1 := (n 1 (by decide)).trans h1
  replace h42 := (n 42 (by decide)).trans h42
  clear h43
  clear z n e
  refine opsL 16 45 (v := .bool false) (by kernel_rfl) (by rw [hs]; decide) ?q33 ?q34
  case q33 => (intro o ho; obtain rfl := Option.some.inj ho; exact Or.inl ⟨wanted_at (b := false) (want := false) rfl (by kernel_rfl) h42, k_gt rfl (ev_tmp h44) rfl (decide_eq_false n4)⟩)
  case q34 =>
  intro a z h45 n e
  replace hs := z.trans hs
  replace hd := e.trans hd
  replace K := K.step z n (by decide)
  replace h1 := (n 1 (by decide)).trans h1
  replace h42 := (n 42 (by decide)).trans h42
  clear h44
  clear z n e
  refine opsL 17 46 (v := .bool false) (by kernel_rfl) (by rw [hs]; decide) ?q35 ?q36
  case q35 => (intro o ho; obtain rfl := Option.some.inj ho; exact Or.inl ⟨rfl, k_pick_no rfl (ev_tmp h42) (ev_tmp h45)⟩)
  case q36 =>
  intro a z h46 n e
  replace hs := z.trans hs
  replace hd := e.trans hd
  replace K := K.step z n (by decide)
  replace h1 := (n 1 (by decide)).trans h1
  clear h42
  clear h45
  clear z n e
  refine opsL 18 47 (v := .bool false) (by kernel_rfl) (by rw [hs]; decide) ?q37 ?q38
  case q37 => (intro o ho; obtain rfl := Option.some.inj ho; exact Or.inl ⟨rfl, k_move rfl (ev_tmp h46)⟩)
  case q38 =>
  intro a z h47 n e
  replace hs := z.trans hs
  replace hd := e.trans hd
  replace K := K.step z n (by decide)
  replace h1 := (n 1 (by decide)).trans h1
  clear h46
  clear z n e
  refine opsL 19 48 (v := .pointer (some ⟨b, 3, none⟩)) (by kernel_rfl) (by rw [hs]; decide) ?q39 ?q40
  case q39 => (intro o ho; obtain rfl := Option.some.inj ho; exact Or.inl ⟨wanted_at (b := false) (want := false) rfl (by kernel_rfl) h47, k_field3 rfl (ev_tmp h1)⟩)
  case q40 =>
  intro a z h48 n e
  replace hs := z.trans hs
  replace hd := e.trans hd
  replace K := K.step z n (by decide)
  replace h1 := (n 1 (by decide)).trans h1
  replace h47 := (n 47 (by decide)).trans h47
  clear z n e
  refine opsL 20 49 (v := .int .i64 u) (by kernel_rfl) (by rw [hs]; decide) ?q41 ?q42
  case q41 => (intro o ho; obtain rfl := Option.some.inj ho; exact Or.inl ⟨wanted_at (b := false) (want := false) rfl (by kernel_rfl) h47, k_loadU rfl (ev_tmp h48) e3⟩)
  case q42 =>
  intro a z h49 n e
  replace hs := z.trans hs
  replace hd := e.trans hd
  replace K := K.step z n (by decide)
  replace h1 := (n 1 (by decide)).trans h1
  replace h47 := (n 47 (by decide)).trans h47
  clear h48
  clear z n e
  refine opsL 21 50 (v := .bool false) (by kernel_rfl) (by rw [hs]; decide) ?q43 ?q44
  case q43 => (intro o ho; obtain rfl := Option.some.inj ho; exact Or.inl ⟨wanted_at (b := false) (want := false) rfl (by kernel_rfl) h47, k_neU rfl (ev_tmp h49) rfl v1⟩)
  case q44 =>
  intro a z h50 n e
  replace hs := z.trans hs
  replace hd := e.trans hd
  replace K := K.step z n (by decide)
  replace h1 := (n 1 (by decide)).trans h1
  replace h47 := (n 47 (by decide)).trans h47
  clear h49
  clear z n e
  refine opsL 22 51 (v := .bool false) (by kernel_rfl) (by rw [hs]; decide) ?q45 ?q46
  case q45 => (intro o ho; obtain rfl := Option.some.inj ho; exact Or.inl ⟨wanted_at (b := false) (want := false) rfl (by kernel_rfl) h47, k_move rfl (ev_tmp h50)⟩)
  case q46 =>
  intro a z h51 n e
  replace hs := z.trans hs
  replace hd := e.trans hd
  replace K := K.step z n (by decide)
  replace h1 := (n 1 (by decide)).trans h1
  replace h47 := (n 47 (by decide)).trans h47
  clear h50
  clear z n e
  refine opsL 23 52 (v := undef) (by kernel_rfl) (by rw [hs]; decide) ?q47 ?q48
  case q47 => (intro o ho; obtain rfl := Option.some.inj ho; exact Or.inr ⟨wanted_at (b := false) (want := true) rfl (by kernel_rfl) h51, rfl⟩)
  case q48 =>
  intro a z h52 n e
  replace hs := z.trans hs
  replace hd := e.trans hd
  replace K := K.step z n (by decide)
  replace h1 := (n 1 (by decide)).trans h1
  replace h47 := (n 47 (by decide)).trans h47
  replace h51 := (n 51 (by decide)).trans h51
  clear z n e
  refine opsL 24 53 (v := undef) (by kernel_rfl) (by rw [hs]; decide) ?q49 ?q50
  case q49 => (intro o ho; obtain rfl := Option.some.inj ho; exact Or.inr ⟨wanted_at (b := false) (want := true) rfl (by kernel_rfl) h51, rfl⟩)
  case q50 =>
  intro a z h53 n e
  replace hs := z.trans hs
  replace hd := e.trans hd
  replace K := K.step z n (by decide)
  replace h1 := (n 1 (by decide)).trans h1
  replace h47 := (n 47 (by decide)).trans h47
  replace h51 := (n 51 (by decide)).trans h51
  clear h52
  clear z n e
  refine opsL 25 54 (v := undef) (by kernel_rfl) (by rw [hs]; decide) ?q51 ?q52
  case q51 => (intro o ho; obtain rfl := Option.some.inj ho; exact Or.inr ⟨wanted_at (b := false) (want := true) rfl (by kernel_rfl) h51, rfl⟩)
  case q52 =>
  intro a z h54 n e
  replace hs := z.trans hs
  replace hd := e.trans hd
  replace K := K.step z n (by decide)
  replace h1 := (n 1 (by decide)).trans h1
  replace h47 := (n 47 (by decide)).trans h47
  replace h51 := (n 51 (by decide)).trans h51
  clear h53
  clear z n e
  refine opsL 26 55 (v := undef) (by kernel_rfl) (by rw [hs]; decide) ?q53 ?q54
  case q53 => (intro o ho; obtain rfl := Option.some.inj ho; exact Or.inr ⟨wanted_at (b := false) (want := true) rfl (by kernel_rfl) h51, rfl⟩)
  case q54 =>
  intro a z h55 n e
  replace hs := z.trans hs
  replace hd := e.trans hd
  replace K := K.step z n (by decide)
  replace h1 := (n 1 (by decide)).trans h1
  replace h47 := (n 47 (by decide)).trans h47
  replace h51 := (n 51 (by decide)).trans h51
  clear h54
  clear z n e
  refine opsL 27 56 (v := undef) (by kernel_rfl) (by rw [hs]; decide) ?q55 ?q56
  case q55 => (intro o ho; obtain rfl := Option.some.inj ho; exact Or.inr ⟨wanted_not (want := false) rfl (by kernel_rfl) h55, rfl⟩)
  case q56 =>
  intro a z h56 n e
  replace hs := z.trans hs
  replace hd := e.trans hd
  replace K := K.step z n (by decide)
  replace h1 := (n 1 (by decide)).trans h1
  replace h47 := (n 47 (by decide)).trans h47
  replace h51 := (n 51 (by decide)).trans h51
  replace h55 := (n 55 (by decide)).trans h55
  clear z n e
  refine opsL 28 57 (v := undef) (by kernel_rfl) (by rw [hs]; decide) ?q57 ?q58
  case q57 => (intro o ho; obtain rfl := Option.some.inj ho; exact Or.inr ⟨wanted_not (want := false) rfl (by kernel_rfl) h55, rfl⟩)
  case q58 =>
  intro a z h57 n e
  replace hs := z.trans hs
  replace hd := e.trans hd
  replace K := K.step z n (by decide)
  replace h1 := (n 1 (by decide)).trans h1
  replace h47 := (n 47 (by decide)).trans h47
  replace h51 := (n 51 (by decide)).trans h51
  replace h55 := (n 55 (by decide)).trans h55
  clear h56
  clear z n e
  refine opsL 29 58 (v := undef) (by kernel_rfl) (by rw [hs]; decide) ?q59 ?q60
  case q59 => (intro o ho; obtain rfl := Option.some.inj ho; exact Or.inr ⟨wanted_not (want := false) rfl (by kernel_rfl) h55, rfl⟩)
  case q60 =>
  intro a z h58 n e
  replace hs := z.trans hs
  replace hd := e.trans hd
  replace K := K.step z n (by decide)
  replace h1 := (n 1 (by decide)).trans h1
  replace h47 := (n 47 (by decide)).trans h47
  replace h51 := (n 51 (by decide)).trans h51
  replace h55 := (n 55 (by decide)).trans h55
  clear h57
  clear z n e
  refine opsL 30 59 (v := undef) (by kernel_rfl) (by rw [hs]; decide) ?q61 ?q62
  case q61 => (intro o ho; obtain rfl := Option.some.inj ho; exact Or.inr ⟨wanted_at (b := false) (want := true) rfl (by kernel_rfl) h51, rfl⟩)
  case q62 =>
  intro a z h59 n e
  replace hs := z.trans hs
  replace hd := e.trans hd
  replace K := K.step z n (by decide)
  replace h1 := (n 1 (by decide)).trans h1
  replace h47 := (n 47 (by decide)).trans h47
  replace h51 := (n 51 (by decide)).trans h51
  clear h55
  clear h58
  clear z n e
  refine opsL 31 60 (v := .bool false) (by kernel_rfl) (by rw [hs]; decide) ?q63 ?q64
  case q63 => (intro o ho; obtain rfl := Option.some.inj ho; exact Or.inl ⟨wanted_at (b := false) (want := false) rfl (by kernel_rfl) h47, k_pick_no rfl (ev_tmp h51) rfl⟩)
  case q64 =>
  intro a z h60 n e
  replace hs := z.trans hs
  replace hd := e.trans hd
  replace K := K.step z n (by decide)
  replace h1 := (n 1 (by decide)).trans h1
  replace h47 := (n 47 (by decide)).trans h47
  clear h51
  clear h59
  clear z n e
  refine opsL 32 61 (v := .bool false) (by kernel_rfl) (by rw [hs]; decide) ?q65 ?q66
  case q65 => (intro o ho; obtain rfl := Option.some.inj ho; exact Or.inl ⟨rfl, k_pick_no rfl (ev_tmp h47) (ev_tmp h60)⟩)
  case q66 =>
  intro a z h61 n e
  replace hs := z.trans hs
  replace hd := e.trans hd
  replace K := K.step z n (by decide)
  replace h1 := (n 1 (by decide)).trans h1
  clear h47
  clear h60
  clear z n e
  exact hR _ K hd h61

set_option maxRecDepth 100000 in
set_option maxHeartbeats 1000000 in
theorem reg3_some (a0 : Act) (w : World) (Q : Exit → Act → World → Prop) (b : Nat) (iv c u : Int) (hs0 : a0.tmps.size = 236) (h1 : a0.tmps.getD 1 undef = .pointer (some ⟨b, 0, none⟩))
    (e1 : w.cell? ⟨b, 1, none⟩ = some (.int .i64 iv)) (e2 : w.cell? ⟨b, 2, none⟩ = some (.int .i64 c)) (e3 : w.cell? ⟨b, 3, none⟩ = some (.int .i64 u))
    (n1 : ¬ iv < 1) (n2 : ¬ 999 < iv) (n3 : ¬ c < 0) (n4 : ¬ 9999 < c) (v1 : (u != 0) = true) (v2 : ¬ u < 1) (v3 : ¬ 3652059 < u)
    (hR : ∀ a' : Act, Keep 29 61 61 a0.tmps a'.tmps → a'.defers = a0.defers → a'.tmps.getD 61 undef = .bool false → Q .normal a' w) :
    (Code.region 3 ops3 false).wp Tryd.prog Q a0 w := by
  have hs := hs0
  have K := Keep.refl 29 61 61 a0.tmps
  have hd : a0.defers = a0.defers := rfl
  conv => arg 2; arg 2; whnf
  refine wp_region (show wpOps _ _ _ [0, 1, 2, 3, 4, 5, 6, 7, 8, 9, 10, 11, 12, 13, 14, 15, 16, 17, 18, 19, 20, 21, 22, 23, 24, 25, 26, 27, 28, 29, 30, 31, 32] _ _ from ?_)
  refine opsL 0 29 (v := .pointer (some ⟨b, 1, none⟩)) (by kernel_rfl) (by rw [hs]; decide) ?q67 ?q68
  case q67 => (intro o ho; obtain rfl := Option.some.inj ho; exact Or.inl ⟨rfl, k_field1 rfl (ev_tmp h1)⟩)
  case q68 =>
  intro a z h29 n e
  replace hs := z.trans hs
  replace hd := e.trans hd
  replace K := K.step z n (by decide)
  replace h1 := (n 1 (by decide)).trans h1
  clear z n e
  refine opsL 1 30 (v := .int .i64 iv) (by kernel_rfl) (by rw [hs]; decide) ?q69 ?q70
  case q69 => (intro o ho; obtain rfl := Option.some.inj ho; exact Or.inl ⟨rfl, k_loadI rfl (ev_tmp h29) e1⟩)
  case q70 =>
  intro a z h30 n e
  replace hs := z.trans hs
  replace hd := e.trans hd
  replace K := K.step z n (by decide)
  replace h1 := (n 1 (by decide)).trans h1
  clear h29
  clear z n e
  refine opsL 2 31 (v := .bool false) (by kernel_rfl) (by rw [hs]; decide) ?q71 ?q72
  case q71 => (intro o ho; obtain rfl := Option.some.inj ho; exact Or.inl ⟨rfl, k_lt rfl (ev_tmp h30) rfl (decide_eq_false n1)⟩)
  case q72 =>
  intro a z h31 n e
  replace hs := z.trans hs
  replace hd := e.trans hd
  replace K := K.step z n (by decide)
  replace h1 := (n 1 (by decide)).trans h1
  clear h30
  clear z n e
  refine opsL 3 32 (v := .bool false) (by kernel_rfl) (by rw [hs]; decide) ?q73 ?q74
  case q73 => (intro o ho; obtain rfl := Option.some.inj ho; exact Or.inl ⟨rfl, k_move rfl (ev_tmp h31)⟩)
  case q74 =>
  intro a z h32 n e
  replace hs := z.trans hs
  replace hd := e.trans hd
  replace K := K.step z n (by decide)
  replace h1 := (n 1 (by decide)).trans h1
  clear h31
  clear z n e
  refine opsL 4 33 (v := .pointer (some ⟨b, 1, none⟩)) (by kernel_rfl) (by rw [hs]; decide) ?q75 ?q76
  case q75 => (intro o ho; obtain rfl := Option.some.inj ho; exact Or.inl ⟨wanted_at (b := false) (want := false) rfl (by kernel_rfl) h32, k_field1 rfl (ev_tmp h1)⟩)
  case q76 =>
  intro a z h33 n e
  replace hs := z.trans hs
  replace hd := e.trans hd
  replace K := K.step z n (by decide)
  replace h1 := (n 1 (by decide)).trans h1
  replace h32 := (n 32 (by decide)).trans h32
  clear z n e
  refine opsL 5 34 (v := .int .i64 iv) (by kernel_rfl) (by rw [hs]; decide) ?q77 ?q78
  case q77 => (intro o ho; obtain rfl := Option.some.inj ho; exact Or.inl ⟨wanted_at (b := false) (want := false) rfl (by kernel_rfl) h32, k_loadI rfl (ev_tmp h33) e1⟩)
  case q78 =>
  intro a z h34 n e
  replace hs := z.trans hs
  replace hd := e.trans hd
  replace K := K.step z n (by decide)
  replace h1 := (n 1 (by decide)).trans h1
  replace h32 := (n 32 (by decide)).trans h32
  clear h33
  clear z n e
  refine opsL 6 35 (v := .bool false) (by kernel_rfl) (by rw [hs]; decide) ?q79 ?q80
  case q79 => (intro o ho; obtain rfl := Option.some.inj ho; exact Or.inl ⟨wanted_at (b := false) (want := false) rfl (by kernel_rfl) h32, k_gt rfl (ev_tmp h34) rfl (decide_eq_false n2)⟩)
  case q80 =>
  intro a z h35 n e
  replace hs := z.trans hs
  replace hd := e.trans hd
  replace K := K.step z n (by decide)
  replace h1 := (n 1 (by decide)).trans h1
  replace h32 := (n 32 (by decide)).trans h32
  clear h34
  clear z n e
  refine opsL 7 36 (v := .bool false) (by kernel_rfl) (by rw [hs]; decide) ?q81 ?q82
  case q81 => (intro o ho; obtain rfl := Option.some.inj ho; exact Or.inl ⟨rfl, k_pick_no rfl (ev_tmp h32) (ev_tmp h35)⟩)
  case q82 =>
  intro a z h36 n e
  replace hs := z.trans hs
  replace hd := e.trans hd
  replace K := K.step z n (by decide)
  replace h1 := (n 1 (by decide)).trans h1
  clear h32
  clear h35
  clear z n e
  refine opsL 8 37 (v := .bool false) (by kernel_rfl) (by rw [hs]; decide) ?q83 ?q84
  case q83 => (intro o ho; obtain rfl := Option.some.inj ho; exact Or.inl ⟨rfl, k_move rfl (ev_tmp h36)⟩)
  case q84 =>
  intro a z h37 n e
  replace hs := z.trans hs
  replace hd := e.trans hd
  replace K := K.step z n (by decide)
  replace h1 := (n 1 (by decide)).trans h1
  clear h36
  clear z n e
  refine opsL 9 38 (v := .pointer (some ⟨b, 2, none⟩)) (by kernel_rfl) (by rw [hs]; decide) ?q85 ?q86
  case q85 => (intro o ho; obtain rfl := Option.some.inj ho; exact Or.inl ⟨wanted_at (b := false) (want := false) rfl (by kernel_rfl) h37, k_field2 rfl (ev_tmp h1)⟩)
  case q86 =>
  intro a z h38 n e
  replace hs := z.trans hs
  replace hd := e.trans hd
  replace K := K.step z n (by decide)
  replace h1 := (n 1 (by decide)).trans h1
  replace h37 := (n 37 (by decide)).trans h37
  clear z n e
  refine opsL 10 39 (v := .int .i64 c) (by kernel_rfl) (by rw [hs]; decide) ?q87 ?q88
  case q87 => (intro o ho; obtain rfl := Option.some.inj ho; exact Or.inl ⟨wanted_at (b := false) (want := false) rfl (by kernel_rfl) h37, k_loadI rfl (ev_tmp h38) e2⟩)
  case q88 =>
  intro a z h39 n e
  replace hs := z.trans hs
  replace hd := e.trans hd
  replace K := K.step z n (by decide)
  replace h1 := (n 1 (by decide)).trans h1
  replace h37 := (n 37 (by decide)).trans h37
  clear h38
  clear z n e
  refine opsL 11 40 (v := .bool false) (by kernel_rfl) (by rw [hs]; decide) ?q89 ?q90
  case q89 => (intro o ho; obtain rfl := Option.some.inj ho; exact Or.inl ⟨wanted_at (b := false) (want := false) rfl (by kernel_rfl) h37, k_lt rfl (ev_tmp h39) rfl (decide_eq_false n3)⟩)
  case q90 =>
  intro a z h40 n e
  replace hs := z.trans hs
  replace hd := e.trans hd
  replace K := K.step z n (by decide)
  replace h1 := (n 1 (by decide)).trans h1
  replace h37 := (n 37 (by decide)).trans h37
  clear h39
  clear z n e
  refine opsL 12 41 (v := .bool false) (by kernel_rfl) (by rw [hs]; decide) ?q91 ?q92
  case q91 => (intro o ho; obtain rfl := Option.some.inj ho; exact Or.inl ⟨rfl, k_pick_no rfl (ev_tmp h37) (ev_tmp h40)⟩)
  case q92 =>
  intro a z h41 n e
  replace hs := z.trans hs
  replace hd := e.trans hd
  replace K := K.step z n (by decide)
  replace h1 := (n 1 (by decide)).trans h1
  clear h37
  clear h40
  clear z n e
  refine opsL 13 42 (v := .bool false) (by kernel_rfl) (by rw [hs]; decide) ?q93 ?q94
  case q93 => (intro o ho; obtain rfl := Option.some.inj ho; exact Or.inl ⟨rfl, k_move rfl (ev_tmp h41)⟩)
  case q94 =>
  intro a z h42 n e
  replace hs := z.trans hs
  replace hd := e.trans hd
  replace K := K.step z n (by decide)
  replace h1 := (n 1 (by decide)).trans h1
  clear h41
  clear z n e
  refine opsL 14 43 (v := .pointer (some ⟨b, 2, none⟩)) (by kernel_rfl) (by rw [hs]; decide) ?q95 ?q96
  case q95 => (intro o ho; obtain rfl := Option.some.inj ho; exact Or.inl ⟨wanted_at (b := false) (want := false) rfl (by kernel_rfl) h42, k_field2 rfl (ev_tmp h1)⟩)
  case q96 =>
  intro a z h43 n e
  replace hs := z.trans hs
  replace hd := e.trans hd
  replace K := K.step z n (by decide)
  replace h1 := (n 1 (by decide)).trans h1
  replace h42 := (n 42 (by decide)).trans h42
  clear z n e
  refine opsL 15 44 (v := .int .i64 c) (by kernel_rfl) (by rw [hs]; decide) ?q97 ?q98
  case q97 => (intro o ho; obtain rfl := Option.some.inj ho; exact Or.inl ⟨wanted_at (b := false) (want := false) rfl (by kernel_rfl) h42, k_loadI rfl (ev_tmp h43) e2⟩)
  case q98 =>
  intro a z h44 n e
  replace hs := z.trans hs
  replace hd := e.trans hd
  replace K := K.step z n (by decide)
  replace h1 := (n 1 (by decide)).trans h1
  replace h42 := (n 42 (by decide)).trans h42
  clear h43
  clear z n e
  refine opsL 16 45 (v := .bool false) (by kernel_rfl) (by rw [hs]; decide) ?q99 ?q100
  case q99 => (intro o ho; obtain rfl := Option.some.inj ho; exact Or.inl ⟨wanted_at (b := false) (want := false) rfl (by kernel_rfl) h42, k_gt rfl (ev_tmp h44) rfl (decide_eq_false n4)⟩)
  case q100 =>
  intro a z h45 n e
  replace hs := z.trans hs
  replace hd := e.trans hd
  replace K := K.step z n (by decide)
  replace h1 := (n 1 (by decide)).trans h1
  replace h42 := (n 42 (by decide)).trans h42
  clear h44
  clear z n e
  refine opsL 17 46 (v := .bool false) (by kernel_rfl) (by rw [hs]; decide) ?q101 ?q102
  case q101 => (intro o ho; obtain rfl := Option.some.inj ho; exact Or.inl ⟨rfl, k_pick_no rfl (ev_tmp h42) (ev_tmp h45)⟩)
  case q102 =>
  intro a z h46 n e
  replace hs := z.trans hs
  replace hd := e.trans hd
  replace K := K.step z n (by decide)
  replace h1 := (n 1 (by decide)).trans h1
  clear h42
  clear h45
  clear z n e
  refine opsL 18 47 (v := .bool false) (by kernel_rfl) (by rw [hs]; decide) ?q103 ?q104
  case q103 => (intro o ho; obtain rfl := Option.some.inj ho; exact Or.inl ⟨rfl, k_move rfl (ev_tmp h46)⟩)
  case q104 =>
  intro a z h47 n e
  replace hs := z.trans hs
  replace hd := e.trans hd
  replace K := K.step z n (by decide)
  replace h1 := (n 1 (by decide)).trans h1
  clear h46
  clear z n e
  refine opsL 19 48 (v := .pointer (some ⟨b, 3, none⟩)) (by kernel_rfl) (by rw [hs]; decide) ?q105 ?q106
  case q105 => (intro o ho; obtain rfl := Option.some.inj ho; exact Or.inl ⟨wanted_at (b := false) (want := false) rfl (by kernel_rfl) h47, k_field3 rfl (ev_tmp h1)⟩)
  case q106 =>
  intro a z h48 n e
  replace hs := z.trans hs
  replace hd := e.trans hd
  replace K := K.step z n (by decide)
  replace h1 := (n 1 (by decide)).trans h1
  replace h47 := (n 47 (by decide)).trans h47
  clear z n e
  refine opsL 20 49 (v := .int .i64 u) (by kernel_rfl) (by rw [hs]; decide) ?q107 ?q108
  case q107 => (intro o ho; obtain rfl := Option.some.inj ho; exact Or.inl ⟨wanted_at (b := false) (want := false) rfl (by kernel_rfl) h47, k_loadU rfl (ev_tmp h48) e3⟩)
  case q108 =>
  intro a z h49 n e
  replace hs := z.trans hs
  replace hd := e.trans hd
  replace K := K.step z n (by decide)
  replace h1 := (n 1 (by decide)).trans h1
  replace h47 := (n 47 (by decide)).trans h47
  clear h48
  clear z n e
  refine opsL 21 50 (v := .bool true) (by kernel_rfl) (by rw [hs]; decide) ?q109 ?q110
  case q109 => (intro o ho; obtain rfl := Option.some.inj ho; exact Or.inl ⟨wanted_at (b := false) (want := false) rfl (by kernel_rfl) h47, k_neU rfl (ev_tmp h49) rfl v1⟩)
  case q110 =>
  intro a z h50 n e
  replace hs := z.trans hs
  replace hd := e.trans hd
  replace K := K.step z n (by decide)
  replace h1 := (n 1 (by decide)).trans h1
  replace h47 := (n 47 (by decide)).trans h47
  clear h49
  clear z n e
  refine opsL 22 51 (v := .bool true) (by kernel_rfl) (by rw [hs]; decide) ?q111 ?q112
  case q111 => (intro o ho; obtain rfl := Option.some.inj ho; exact Or.inl ⟨wanted_at (b := false) (want := false) rfl (by kernel_rfl) h47, k_move rfl (ev_tmp h50)⟩)
  case q112 =>
  intro a z h51 n e
  replace hs := z.trans hs
  replace hd := e.trans hd
  replace K := K.step z n (by decide)
  replace h1 := (n 1 (by decide)).trans h1
  replace h47 := (n 47 (by decide)).trans h47
  clear h50
  clear z n e
  refine opsL 23 52 (v := .pointer (some ⟨b, 3, none⟩)) (by kernel_rfl) (by rw [hs]; decide) ?q113 ?q114
  case q113 => (intro o ho; obtain rfl := Option.some.inj ho; exact Or.inl ⟨wanted_at (b := true) (want := true) rfl (by kernel_rfl) h51, k_field3 rfl (ev_tmp h1)⟩)
  case q114 =>
  intro a z h52 n e
  replace hs := z.trans hs
  replace hd := e.trans hd
  replace K := K.step z n (by decide)
  replace h1 := (n 1 (by decide)).trans h1
  replace h47 := (n 47 (by decide)).trans h47
  replace h51 := (n 51 (by decide)).trans h51
  clear z n e
  refine opsL 24 53 (v := .int .i64 u) (by kernel_rfl) (by rw [hs]; decide) ?q115 ?q116
  case q115 => (intro o ho; obtain rfl := Option.some.inj ho; exact Or.inl ⟨wanted_at (b := true) (want := true) rfl (by kernel_rfl) h51, k_loadU rfl (ev_tmp h52) e3⟩)
  case q116 =>
  intro a z h53 n e
  replace hs := z.trans hs
  replace hd := e.trans hd
  replace K := K.step z n (by decide)
  replace h1 := (n 1 (by decide)).trans h1
  replace h47 := (n 47 (by decide)).trans h47
  replace h51 := (n 51 (by decide)).trans h51
  clear h52
  clear z n e
  refine opsL 25 54 (v := .bool false) (by kernel_rfl) (by rw [hs]; decide) ?q117 ?q118
  case q117 => (intro o ho; obtain rfl := Option.some.inj ho; exact Or.inl ⟨wanted_at (b := true) (want := true) rfl (by kernel_rfl) h51, k_ltU rfl (ev_tmp h53) rfl (decide_eq_false v2)⟩)
  case q118 =>
  intro a z h54 n e
  replace hs := z.trans hs
  replace hd := e.trans hd
  replace K := K.step z n (by decide)
  replace h1 := (n 1 (by decide)).trans h1
  replace h47 := (n 47 (by decide)).trans h47
  replace h51 := (n 51 (by decide)).trans h51
  clear h53
  clear z n e
  refine opsL 26 55 (v := .bool false) (by kernel_rfl) (by rw [hs]; decide) ?q119 ?q120
  case q119 => (intro o ho; obtain rfl := Option.some.inj ho; exact Or.inl ⟨wanted_at (b := true) (want := true) rfl (by kernel_rfl) h51, k_move rfl (ev_tmp h54)⟩)
  case q120 =>
  intro a z h55 n e
  replace hs := z.trans hs
  replace hd := e.trans hd
  replace K := K.step z n (by decide)
  replace h1 := (n 1 (by decide)).trans h1
  replace h47 := (n 47 (by decide)).trans h47
  replace h51 := (n 51 (by decide)).trans h51
  clear h54
  clear z n e
  refine opsL 27 56 (v := .pointer (some ⟨b, 3, none⟩)) (by kernel_rfl) (by rw [hs]; decide) ?q121 ?q122
  case q121 => (intro o ho; obtain rfl := Option.some.inj ho; exact Or.inl ⟨wanted_at (b := false) (want := false) rfl (by kernel_rfl) h55, k_field3 rfl (ev_tmp h1)⟩)
  case q122 =>
  intro a z h56 n e
  replace hs := z.trans hs
  replace hd := e.trans hd
  replace K := K.step z n (by decide)
  replace h1 := (n 1 (by decide)).trans h1
  replace h47 := (n 47 (by decide)).trans h47
  replace h51 := (n 51 (by decide)).trans h51
  replace h55 := (n 55 (by decide)).trans h55
  clear z n e
  refine opsL 28 57 (v := .int .i64 u) (by kernel_rfl) (by rw [hs]; decide) ?q123 ?q124
  case q123 => (intro o ho; obtain rfl := Option.some.inj ho; exact Or.inl ⟨wanted_at (b := false) (want := false) rfl (by kernel_rfl) h55, k_loadU rfl (ev_tmp h56) e3⟩)
  case q124 =>
  intro a z h57 n e
  replace hs := z.trans hs
  replace hd := e.trans hd
  replace K := K.step z n (by decide)
  replace h1 := (n 1 (by decide)).trans h1
  replace h47 := (n 47 (by decide)).trans h47
  replace h51 := (n 51 (by decide)).trans h51
  replace h55 := (n 55 (by decide)).trans h55
  clear h56
  clear z n e
  refine opsL 29 58 (v := .bool false) (by kernel_rfl) (by rw [hs]; decide) ?q125 ?q126
  case q125 => (intro o ho; obtain rfl := Option.some.inj ho; exact Or.inl ⟨wanted_at (b := false) (want := false) rfl (by kernel_rfl) h55, k_gtU rfl (ev_tmp h57) rfl (decide_eq_false v3)⟩)
  case q126 =>
  intro a z h58 n e
  replace hs := z.trans hs
  replace hd := e.trans hd
  replace K := K.step z n (by decide)
  replace h1 := (n 1 (by decide)).trans h1
  replace h47 := (n 47 (by decide)).trans h47
  replace h51 := (n 51 (by decide)).trans h51
  replace h55 := (n 55 (by decide)).trans h55
  clear h57
  clear z n e
  refine opsL 30 59 (v := .bool false) (by kernel_rfl) (by rw [hs]; decide) ?q127 ?q128
  case q127 => (intro o ho; obtain rfl := Option.some.inj ho; exact Or.inl ⟨wanted_at (b := true) (want := true) rfl (by kernel_rfl) h51, k_pick_no rfl (ev_tmp h55) (ev_tmp h58)⟩)
  case q128 =>
  intro a z h59 n e
  replace hs := z.trans hs
  replace hd := e.trans hd
  replace K := K.step z n (by decide)
  replace h1 := (n 1 (by decide)).trans h1
  replace h47 := (n 47 (by decide)).trans h47
  replace h51 := (n 51 (by decide)).trans h51
  clear h55
  clear h58
  clear z n e
  refine opsL 31 60 (v := .bool false) (by kernel_rfl) (by rw [hs]; decide) ?q129 ?q130
  case q129 => (intro o ho; obtain rfl := Option.some.inj ho; exact Or.inl ⟨wanted_at (b := false) (want := false) rfl (by kernel_rfl) h47, k_pick_yes rfl (ev_tmp h51) (ev_tmp h59)⟩)
  case q130 =>
  intro a z h60 n e
  replace hs := z.trans hs
  replace hd := e.trans hd
  replace K := K.step z n (by decide)
  replace h1 := (n 1 (by decide)).trans h1
  replace h47 := (n 47 (by decide)).trans h47
  clear h51
  clear h59
  clear z n e
  refine opsL 32 61 (v := .bool false) (by kernel_rfl) (by rw [hs]; decide) ?q131 ?q132
  case q131 => (intro o ho; obtain rfl := Option.some.inj ho; exact Or.inl ⟨rfl, k_pick_no rfl (ev_tmp h47) (ev_tmp h60)⟩)
  case q132 =>
  intro a z h61 n e
  replace hs := z.trans hs
  replace hd := e.trans hd
  replace K := K.step z n (by decide)
  replace h1 := (n 1 (by decide)).trans h1
  clear h47
  clear h60
  clear z n e
  exact hR _ K hd h61
end Go.Proofs.YtoldjleojnlhiaaDoor
