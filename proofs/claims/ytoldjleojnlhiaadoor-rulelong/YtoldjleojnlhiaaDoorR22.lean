/-
  The law Long: its last region, which asks rule.Check and the law's Check.
-/
import Derived.Test.YtoldjleojnlhiaaDoorR20
namespace Go.Proofs.YtoldjleojnlhiaaDoor
open Go.RowKit

noncomputable def chkLong : Array Oper := (Tryd.f5.body.bind (regOf 15)).getD #[]
set_option maxRecDepth 100000 in
set_option maxHeartbeats 1000000 in
theorem twoLong (a : Act) (w : World) (Q : Exit → Act → World → Prop) (hQ : Blind Q) (b : Nat) (f iv c u : Int) (AM AD AW AP : Option Addr) (cM cD cW cP : Nat) (M D : List Int) (W : List (Int × Int)) (P : List Int) (hs : a.tmps.size = 64) (h1 : a.tmps.getD 5 undef = .pointer (some ⟨b, 0, none⟩))
    (hA : RuleAt w b f iv c u (.slice AM M.length cM) (.slice AD D.length cD) (.slice AW W.length cW) (.slice AP P.length cP)) (hL : ListsIn w AM AD AW AP M D W P)
    (hR : ∀ (a' : Act) (w' : World), a'.tmps.getD 4 undef = .bool true → a'.defers = a.defers → Below w.heap.size w w' → Q .normal a' w') :
    (Code.region 15 chkLong true).wp Tryd.prog Q a w := by
  conv => arg 2; arg 2; whnf
  obtain ⟨df, hd⟩ : ∃ df, a.defers = df := ⟨_, rfl⟩
  rw [hd] at hR
  refine wp_region_held_drew (S := fun w' => Below w.heap.size w w') (by kernel_rfl) (below_drew (Below.refl _ _)) (fun hH => ?_)
  refine heldL 0 59 (v := .agg #[.int .i64 f, .int .i64 iv, .int .i64 c, .int .i64 u, .slice AM M.length cM, .slice AD D.length cD, .slice AW W.length cW, .slice AP P.length cP]) hQ (by kernel_rfl) (by rw [hs]; decide) (by kernel_rfl) (by kernel_rfl) (by kernel_rfl) hH ?q0 ?q1
  case q0 => (intro o ho; obtain rfl := Option.some.inj ho; exact Or.inl ⟨rfl, fun w1 h1' => k_loadR rfl (ev_tmp h1) (hA.below h1')⟩)
  case q1 =>
  intro a F0
  replace hs := F0.z.trans hs
  replace hd := F0.e.trans hd
  replace h1 := (F0.n 5 (by decide)).trans h1
  have t0 := F0.s
  clear F0
  refine heldL 2 61 (v := .agg #[.int .i64 f, .int .i64 iv, .int .i64 c, .int .i64 u, .slice AM M.length cM, .slice AD D.length cD, .slice AW W.length cW, .slice AP P.length cP]) hQ (by kernel_rfl) (by rw [hs]; decide) (by kernel_rfl) (by kernel_rfl) (by kernel_rfl) hH ?q2 ?q3
  case q2 => (intro o ho; obtain rfl := Option.some.inj ho; exact Or.inl ⟨rfl, fun w1 h1' => k_loadR rfl (ev_tmp h1) (hA.below h1')⟩)
  case q3 =>
  intro a F0
  replace hs := F0.z.trans hs
  replace hd := F0.e.trans hd
  replace t0 := (F0.n 59 (by decide)).trans t0
  have t2 := F0.s
  clear F0
  refine heldL_call 1 60 (f := 12) (args := #[.agg #[.int .i64 f, .int .i64 iv, .int .i64 c, .int .i64 u, .slice AM M.length cM, .slice AD D.length cD, .slice AW W.length cW, .slice AP P.length cP]]) (R := fun v w' => v = .int .i64 (Rul.check f iv c u M D W P) ∧ Below w.heap.size w w') (by kernel_rfl) (by kernel_rfl) (by rw [hs]; decide) ?q4 ?q5 (fun v w' h => h.2) ?q6
  case q4 => (intro o ho; obtain rfl := Option.some.inj ho; exact ⟨rfl, k_callCheck rfl rfl (ev_tmp t0)⟩)
  case q5 =>
    refine (check_any f iv c u AM AD AW AP cM cD cW cP M D W P _ (hL.below hH)).mono ?_
    rintro e w' ⟨rfl, hb⟩
    exact ⟨_, rfl, rfl, hH.trans (hb.mono hH.size)⟩
  case q6 =>
  rintro _ w2 a ⟨rfl, hH⟩ F0
  replace hs := F0.z.trans hs
  replace hd := F0.e.trans hd
  replace t2 := (F0.n 61 (by decide)).trans t2
  have t1 := F0.s
  clear F0
  refine heldL_call 3 62 (f := 14) (args := #[.agg #[.int .i64 f, .int .i64 iv, .int .i64 c, .int .i64 u, .slice AM M.length cM, .slice AD D.length cD, .slice AW W.length cW, .slice AP P.length cP]]) (R := fun v w' => v = .int .i64 (Rul.check f iv c u M D W P) ∧ Below w.heap.size w w') (by kernel_rfl) (by kernel_rfl) (by rw [hs]; decide) ?q7 ?q8 (fun v w' h => h.2) ?q9
  case q7 => (intro o ho; obtain rfl := Option.some.inj ho; exact ⟨rfl, k_callLaw rfl rfl (ev_tmp t2)⟩)
  case q8 =>
    refine (lawCheck_any f iv c u AM AD AW AP cM cD cW cP M D W P _ (hL.below hH)).mono ?_
    rintro e w' ⟨rfl, hb⟩
    exact ⟨_, rfl, rfl, hH.trans (hb.mono hH.size)⟩
  case q9 =>
  rintro _ w3 a ⟨rfl, hH⟩ F0
  replace hs := F0.z.trans hs
  replace hd := F0.e.trans hd
  replace t1 := (F0.n 60 (by decide)).trans t1
  have t3 := F0.s
  clear F0
  refine heldL 4 63 (v := .bool true) hQ (by kernel_rfl) (by rw [hs]; decide) (by kernel_rfl) (by kernel_rfl) (by kernel_rfl) hH ?qa ?qb
  case qa => (intro o ho; obtain rfl := Option.some.inj ho; exact Or.inl ⟨rfl, fun _ _ => k_eqE rfl (ev_tmp t1) (ev_tmp t3) (by simp)⟩)
  case qb =>
  intro a F0
  replace hs := F0.z.trans hs
  replace hd := F0.e.trans hd
  have t4 := F0.s
  clear F0
  refine heldL 5 4 (v := .bool true) hQ (by kernel_rfl) (by rw [hs]; decide) (by kernel_rfl) (by kernel_rfl) (by kernel_rfl) hH ?qc ?qd
  case qc => (intro o ho; obtain rfl := Option.some.inj ho; exact Or.inl ⟨rfl, fun _ _ => k_assign rfl (ev_tmp t4)⟩)
  case qd =>
  intro a F0
  refine wpAnyH_done (by kernel_rfl) ?_ _
  exact hR a _ F0.s (F0.e.trans hd) hH
end Go.Proofs.YtoldjleojnlhiaaDoor
