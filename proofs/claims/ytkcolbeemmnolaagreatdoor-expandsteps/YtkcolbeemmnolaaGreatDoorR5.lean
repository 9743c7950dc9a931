/-
  Contracts of rule's checkNumbers, checkLists, Lists and Check: each returns chapter 2's answer, and writes new memory alone.
-/
import Derived.Test.YtkcolbeemmnolaaGreatDoorR3
import Derived.Test.YtkcolbeemmnolaaGreatDoorR4
namespace Go.Proofs.YtkcolbeemmnolaaGreatDoor
open Go.RowKit

theorem valid_any (n : Int) (w : World) : Calls Tryz.prog 25 #[.int .i64 n] w fun e w' => e = .returned (.bool (Rul.btw n 1 3652059)) ∧ w = w' := by
  by_cases h : 1 ≤ n ∧ n ≤ 3652059
  · refine (valid_yes n w h.1 h.2).mono ?_
    rintro e w' ⟨rfl, rfl⟩
    exact ⟨ret_bool (Rul.btw_yes h.1 h.2).symm, rfl⟩
  · refine (valid_no n w (by omega)).mono ?_
    rintro e w' ⟨rfl, rfl⟩
    exact ⟨ret_bool (Rul.btw_no (by omega)).symm, rfl⟩

/-- what the four lists of a rule hold lies in memory -/
structure ListsIn (w : World) (AM AD AW AP : Option Addr) (M D : List Int) (W : List (Int × Int)) (P : List Int) : Prop where
  m : IntsIn w AM M
  d : IntsIn w AD D
  k : NthsIn w AW W
  p : IntsIn w AP P
  lm : M.length ≤ maxLen
  ld : D.length ≤ maxLen
  lk : W.length ≤ maxLen
  lp : P.length ≤ maxLen
theorem ListsIn.below {w w' : World} {AM AD AW AP : Option Addr} {M D : List Int} {W : List (Int × Int)} {P : List Int} (h : ListsIn w AM AD AW AP M D W P) (hb : Below w.heap.size w w') : ListsIn w' AM AD AW AP M D W P :=
  ⟨h.m.below hb, h.d.below hb, h.k.below hb, h.p.below hb, h.lm, h.ld, h.lk, h.lp⟩

set_option maxHeartbeats 400000 in
theorem checkNumbers_any (f iv c u : Int) (AM AD AW AP : Option Addr) (cM cD cW cP : Nat) (M D : List Int) (W : List (Int × Int)) (P : List Int) (w : World) :
    Calls Tryz.prog 113 #[.agg #[.int .i64 f, .int .i64 iv, .int .i64 c, .int .i64 u, .slice AM M.length cM, .slice AD D.length cD, .slice AW W.length cW, .slice AP P.length cP]] w fun e w' => e = .returned (.int .i64 (Rul.nums iv c u)) ∧ Below w.heap.size w w' := by
  cases h1 : Rul.btw iv 1 999
  · have E := Lib.hid (show Rul.nums iv c u = 3 by simp [Rul.nums, Rul.badNum, h1])
    have H1 := Lib.hid h1
    clear h1
    go_enter Tryz.func113, Tryz.ntmps113
    go_wp2_with fail
    refine (between_any _ _ _ _).mono ?_
    rintro e w' ⟨rfl, rfl⟩
    rw [H1.out]
    go_wp2
    go_ret
    exact ⟨ret_int E.out.symm, by go_grown⟩
  cases h2 : Rul.btw c 0 9999
  · have E := Lib.hid (show Rul.nums iv c u = 3 by simp [Rul.nums, Rul.badNum, h2])
    have H1 := Lib.hid h1
    have H2 := Lib.hid h2
    clear h1 h2
    go_enter Tryz.func113, Tryz.ntmps113
    go_wp2_with fail
    refine (between_any _ _ _ _).mono ?_
    rintro e w' ⟨rfl, rfl⟩
    rw [H1.out]
    go_wp2_with fail
    refine (between_any _ _ _ _).mono ?_
    rintro e w' ⟨rfl, rfl⟩
    rw [H2.out]
    go_wp2
    go_ret
    exact ⟨ret_int E.out.symm, by go_grown⟩
  by_cases hu : u = 0
  · subst hu
    have E := Lib.hid (show Rul.nums iv c 0 = 0 by simp [Rul.nums, Rul.badNum, h1, h2])
    have H1 := Lib.hid h1
    have H2 := Lib.hid h2
    clear h1 h2
    cases hc : (c != 0)
    all_goals
      go_enter Tryz.func113, Tryz.ntmps113
      go_wp2_with fail
      refine (between_any _ _ _ _).mono ?_
      rintro e w' ⟨rfl, rfl⟩
      rw [H1.out]
      go_wp2_with fail
      refine (between_any _ _ _ _).mono ?_
      rintro e w' ⟨rfl, rfl⟩
      rw [H2.out]
      go_wp2
      go_ret
      exact ⟨ret_int E.out.symm, by go_grown⟩
  have hu' : (u != 0) = true := by simpa using hu
  cases h3 : Rul.btw u 1 3652059
  · have E := Lib.hid (show Rul.nums iv c u = 3 by simp [Rul.nums, Rul.badNum, h3, hu])
    have H1 := Lib.hid h1
    have H2 := Lib.hid h2
    have H3 := Lib.hid h3
    clear h1 h2 h3 hu
    go_enter Tryz.func113, Tryz.ntmps113
    go_wp2_with fail
    refine (between_any _ _ _ _).mono ?_
    rintro e w' ⟨rfl, rfl⟩
    rw [H1.out]
    go_wp2_with fail
    refine (between_any _ _ _ _).mono ?_
    rintro e w' ⟨rfl, rfl⟩
    rw [H2.out]
    go_wp2_with fail
    refine (valid_any _ _).mono ?_
    rintro e w' ⟨rfl, rfl⟩
    rw [H3.out]
    go_wp2
    go_ret
    exact ⟨ret_int E.out.symm, by go_grown⟩
  cases hc : (c != 0)
  all_goals
    have E := Lib.hid (show Rul.nums iv c u = if (c != 0) then 7 else 0 by simp [Rul.nums, Rul.badNum, h1, h2, h3, hu])
    rw [hc] at E
    have H1 := Lib.hid h1
    have H2 := Lib.hid h2
    have H3 := Lib.hid h3
    clear h1 h2 h3 hu
    go_enter Tryz.func113, Tryz.ntmps113
    go_wp2_with fail
    refine (between_any _ _ _ _).mono ?_
    rintro e w' ⟨rfl, rfl⟩
    rw [H1.out]
    go_wp2_with fail
    refine (between_any _ _ _ _).mono ?_
    rintro e w' ⟨rfl, rfl⟩
    rw [H2.out]
    go_wp2_with fail
    refine (valid_any _ _).mono ?_
    rintro e w' ⟨rfl, rfl⟩
    rw [H3.out]
    go_wp2
    go_ret
    exact ⟨ret_int E.out.symm, by go_grown⟩

/-- one of months, days, weekdays -/
def some3 (M D : List Int) (W : List (Int × Int)) : Bool := decide (0 < M.length) || decide (0 < D.length) || decide (0 < W.length)
set_option maxHeartbeats 400000 in
theorem lists_any (f iv c u : Int) (AM AD AW AP : Option Addr) (cM cD cW cP : Nat) (M D : List Int) (W : List (Int × Int)) (P : List Int) (w : World) :
    Calls Tryz.prog 115 #[.agg #[.int .i64 f, .int .i64 iv, .int .i64 c, .int .i64 u, .slice AM M.length cM, .slice AD D.length cD, .slice AW W.length cW, .slice AP P.length cP]] w fun e w' => e = .returned (.bool (some3 M D W)) ∧ Below w.heap.size w w' := by
  by_cases a : 0 < M.length
  · have E := Lib.hid (show some3 M D W = true by simp [some3, a])
    go_enter Tryz.func115, Tryz.ntmps115
    go_wp2
    go_ret
    exact ⟨ret_bool E.out.symm, by go_grown⟩
  · by_cases b : 0 < D.length
    · have E := Lib.hid (show some3 M D W = true by simp [some3, b])
      go_enter Tryz.func115, Tryz.ntmps115
      go_wp2
      go_ret
      exact ⟨ret_bool E.out.symm, by go_grown⟩
    · by_cases c' : 0 < W.length
      · have E := Lib.hid (show some3 M D W = true by simp [some3, c'])
        go_enter Tryz.func115, Tryz.ntmps115
        go_wp2
        go_ret
        exact ⟨ret_bool E.out.symm, by go_grown⟩
      · have E := Lib.hid (show some3 M D W = false by unfold some3; rw [decide_eq_false a, decide_eq_false b, decide_eq_false c']; rfl)
        go_enter Tryz.func115, Tryz.ntmps115
        go_wp2
        go_ret
        exact ⟨ret_bool E.out.symm, by go_grown⟩
end Go.Proofs.YtkcolbeemmnolaaGreatDoor
