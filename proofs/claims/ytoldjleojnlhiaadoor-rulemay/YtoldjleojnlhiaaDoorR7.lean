/-
  The law's Check: where the period or a number is wrong.
-/
import Derived.Test.YtoldjleojnlhiaaDoorR6
namespace Go.Proofs.YtoldjleojnlhiaaDoor
open Go.RowKit

set_option maxRecDepth 100000 in
set_option maxHeartbeats 1000000 in
theorem lawCheck_freq (f iv c u : Int) (AM AD AW AP : Option Addr) (cM cD cW cP : Nat) (M D : List Int) (W : List (Int × Int)) (P : List Int) (w : World) (h : f < 0 ∨ 4 ≤ f) :
    Calls Tryd.prog 14 #[.agg #[.int .i64 f, .int .i64 iv, .int .i64 c, .int .i64 u, .slice AM M.length cM, .slice AD D.length cD, .slice AW W.length cW, .slice AP P.length cP]] w fun e w' => e = .returned (.int .i64 6) ∧ Below w.heap.size w w' := by
  have n0 : (f != 0) = true := by simp; omega
  have n1 : (f != 1) = true := by simp; omega
  have n2 : (f != 2) = true := by simp; omega
  have n3 : (f != 3) = true := by simp; omega
  clear h
  go_enter Tryd.func14, Tryd.ntmps14
  go_wp2
  go_ret
  exact ⟨rfl, by go_grown⟩

set_option maxRecDepth 100000 in
set_option maxHeartbeats 2000000 in
theorem lawCheck_nums (f iv c u : Int) (AM AD AW AP : Option Addr) (cM cD cW cP : Nat) (M D : List Int) (W : List (Int × Int)) (P : List Int) (w : World) (h0 : 0 ≤ f) (h4 : f < 4) (h : Rul.badNum iv c u = true) :
    Calls Tryd.prog 14 #[.agg #[.int .i64 f, .int .i64 iv, .int .i64 c, .int .i64 u, .slice AM M.length cM, .slice AD D.length cD, .slice AW W.length cW, .slice AP P.length cP]] w fun e w' => e = .returned (.int .i64 3) ∧ Below w.heap.size w w' := by
  have hq : iv < 1 ∨ 999 < iv ∨ c < 0 ∨ 9999 < c ∨ ((u != 0) = true ∧ u < 1) ∨ ((u != 0) = true ∧ 3652059 < u) := by
    simp [Rul.badNum, Rul.btw] at h ⊢; omega
  have hf : f = 0 ∨ f = 1 ∨ f = 2 ∨ f = 3 := by omega
  by_cases a1 : iv < 1
  · clear h hq
    rcases hf with rfl | rfl | rfl | rfl
    all_goals
      go_enter Tryd.func14, Tryd.ntmps14
      go_wp2
      go_ret
      exact ⟨rfl, by go_grown⟩
  by_cases a2 : 999 < iv
  · clear h hq
    rcases hf with rfl | rfl | rfl | rfl
    all_goals
      go_enter Tryd.func14, Tryd.ntmps14
      go_wp2
      go_ret
      exact ⟨rfl, by go_grown⟩
  by_cases a3 : c < 0
  · clear h hq
    rcases hf with rfl | rfl | rfl | rfl
    all_goals
      go_enter Tryd.func14, Tryd.ntmps14
      go_wp2
      go_ret
      exact ⟨rfl, by go_grown⟩
  by_cases a4 : 9999 < c
  · clear h hq
    rcases hf with rfl | rfl | rfl | rfl
    all_goals
      go_enter Tryd.func14, Tryd.ntmps14
      go_wp2
      go_ret
      exact ⟨rfl, by go_grown⟩
  have hq' : (u != 0) = true ∧ (u < 1 ∨ 3652059 < u) := by
    rcases hq with h | h | h | h | h | h
    · exact absurd h a1
    · exact absurd h a2
    · exact absurd h a3
    · exact absurd h a4
    · exact ⟨h.1, .inl h.2⟩
    · exact ⟨h.1, .inr h.2⟩
  obtain ⟨a5, a6⟩ := hq'
  by_cases a7 : u < 1
  · clear h hq a6
    rcases hf with rfl | rfl | rfl | rfl
    all_goals
      go_enter Tryd.func14, Tryd.ntmps14
      go_wp2
      go_ret
      exact ⟨rfl, by go_grown⟩
  · have a8 : 3652059 < u := by omega
    clear h hq a6
    rcases hf with rfl | rfl | rfl | rfl
    all_goals
      go_enter Tryd.func14, Tryd.ntmps14
      go_wp2
      go_ret
      exact ⟨rfl, by go_grown⟩

set_option maxRecDepth 100000 in
set_option maxHeartbeats 2000000 in
theorem lawCheck_both (f iv c u : Int) (AM AD AW AP : Option Addr) (cM cD cW cP : Nat) (M D : List Int) (W : List (Int × Int)) (P : List Int) (w : World) (h0 : 0 ≤ f) (h4 : f < 4) (h : Rul.badNum iv c u = false) (hb : (c != 0 && u != 0) = true) :
    Calls Tryd.prog 14 #[.agg #[.int .i64 f, .int .i64 iv, .int .i64 c, .int .i64 u, .slice AM M.length cM, .slice AD D.length cD, .slice AW W.length cW, .slice AP P.length cP]] w fun e w' => e = .returned (.int .i64 7) ∧ Below w.heap.size w w' := by
  have hc : (c != 0) = true := by revert hb; cases (c != 0) <;> simp
  have hu : (u != 0) = true := by revert hb; cases (u != 0) <;> simp
  have b : 1 ≤ iv ∧ iv ≤ 999 ∧ 0 ≤ c ∧ c ≤ 9999 ∧ 1 ≤ u ∧ u ≤ 3652059 := by
    have hu' : u ≠ 0 := by simpa using hu
    simp [Rul.badNum, Rul.btw, hu'] at h; omega
  obtain ⟨b1, b2, b3, b4, b5, b6⟩ := b
  have hf : f = 0 ∨ f = 1 ∨ f = 2 ∨ f = 3 := by omega
  clear h hb
  rcases hf with rfl | rfl | rfl | rfl
  all_goals
    go_enter Tryd.func14, Tryd.ntmps14
    go_wp2
    go_ret
    exact ⟨rfl, by go_grown⟩
end Go.Proofs.YtoldjleojnlhiaaDoor
