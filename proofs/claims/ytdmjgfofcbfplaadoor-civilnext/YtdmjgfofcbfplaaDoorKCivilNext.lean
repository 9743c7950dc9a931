/-
  The walk of the law CivilNext, out of the contracts.
-/
import Derived.Test.YtdmjgfofcbfplaaDoorW6
namespace Go.Proofs.YtdmjgfofcbfplaaDoor
open Go.RowKit

set_option maxHeartbeats 800000 in
theorem civilNext_walk (n more : Int) (w : World) (hM : Months w) (hn : 0 ≤ n ∧ n ≤ 4294967295) (hm : 0 ≤ more ∧ more ≤ 65535) :
    Calls Tryd.prog 7 #[.int .u32 n, .int .u16 more] w fun e w' => e = .returned (.bool true) ∧ Below w.heap.size w w' := by
  obtain ⟨n1, n2⟩ := hn
  obtain ⟨m1, m2⟩ := hm
  have k1 : 1 ≤ 1 + n % 3586523 := by omega
  have k2 : 1 + n % 3586523 ≤ 3586523 := by omega
  go_enter Tryd.func7, Tryd.ntmps7
  go_wp2_with fail
  refine (awake _ hM).mono ?_
  rintro e wa ⟨rfl, b1⟩
  have hN := hM.grown b1
  go_wp2_with fail
  generalize 1 + n % 3586523 = D at *
  obtain ⟨y, m, d, hi⟩ := Cal.is_ex D k1 (by omega)
  obtain ⟨a, b, c, hj⟩ := Cal.is_ex (D + 1) (by omega) (by omega)
  obtain ⟨y', m', d', hk⟩ := Cal.is_ex (D + more) (by omega) (by omega)
  have nx := Lib.hid (hi.next hj)
  have yb := hi.1
  have yc := hi.2.1
  have mb := hi.2.2.1
  have mc := hi.2.2.2.1
  have dc := hi.2.2.2.2.1
  have dd := hi.2.2.2.2.2.1
  have dl := Cal.dim_le y m
  have LT := Lib.hid (txt_less_more hi hk)
  refine (date_yes _ y m d _ hN hi).mono ?_
  rintro e w' ⟨rfl, rfl⟩
  go_wp2_with fail
  refine (date_yes _ a b c _ hN hj).mono ?_
  rintro e w' ⟨rfl, rfl⟩
  have f1 : (m + 1 == m) = false := by simp; omega
  have f2 : (y + 1 == y) = false := by simp; omega
  have wl : ((D + more - D + (D - 1)) % 7 == (D + more - 1) % 7) = true := by
    rw [beq_iff_eq]; congr 1; omega
  have wk : ((D + 7 - 1) % 7 == (D - 1) % 7) = true := by simp; omega
  rcases nx.out with ⟨e1, e2, e3⟩ | ⟨e1, e2, e3, e4⟩ | ⟨e1, e2, e3, e4, e5⟩
  all_goals
    subst e1 e2 e3
    try subst e4
    try subst e5
    go_wp2_with (first | (go_at_call 14; refine (lawLong_any _ _ _ (by omega) (by omega)).mono ?_; rintro e w' ⟨rfl, rfl⟩) | (go_at_call 20; refine (weekday_yes _ _ (by omega) (by omega)).mono ?_; rintro e w' ⟨rfl, rfl⟩))
    refine (text_yes _ _ _ _ _ hN hi).mono ?_
    rintro e wb ⟨rfl, b2⟩
    go_wp2_with fail
    refine (text_yes _ _ _ _ _ (hN.grown b2) hk).mono ?_
    rintro e wc ⟨rfl, b3⟩
    have lt := LT.out
    go_wp2
    go_ret
    exact ⟨rfl, b1.trans ((b2.mono b1.size).trans (b3.mono (Nat.le_trans b1.size b2.size)))⟩
end Go.Proofs.YtdmjgfofcbfplaaDoor
