/-
  The walk of the law CivilOf, out of the contracts.
-/
import Derived.Test.YtdmjgfofcbfplaaDoorW5
namespace Go.Proofs.YtdmjgfofcbfplaaDoor
open Go.RowKit

/-- of no date -/
theorem civilOf_no (y m d : Int) (w : World) (hM : Months w) (hy : -32768 ≤ y ∧ y ≤ 32767) (hm : -32768 ≤ m ∧ m ≤ 32767) (hd : -32768 ≤ d ∧ d ≤ 32767)
    (h : y < 1 ∨ (1 ≤ y ∧ 9999 < y) ∨ (1 ≤ y ∧ y ≤ 9999 ∧ m < 1) ∨ (1 ≤ y ∧ y ≤ 9999 ∧ 1 ≤ m ∧ 12 < m) ∨ (1 ≤ y ∧ y ≤ 9999 ∧ 1 ≤ m ∧ m ≤ 12 ∧ d < 1) ∨ (1 ≤ y ∧ y ≤ 9999 ∧ 1 ≤ m ∧ m ≤ 12 ∧ 1 ≤ d ∧ Cal.dim y m < d)) :
    Calls Tryd.prog 4 #[.int .i16 y, .int .i16 m, .int .i16 d] w fun e w' => e = .returned (.bool true) ∧ Below w.heap.size w w' := by
  have hno : d < 1 ∨ Cal.long y m < d := by
    by_cases u : 1 ≤ y ∧ y ≤ 9999
    · rw [Cal.long_of u.1 u.2]
      have := Cal.dim_cases y m
      omega
    · have e : Cal.long y m = 0 := by simp [Cal.long, u]
      rw [e]; omega
  have NO := Lib.hid hno
  clear hno
  obtain ⟨y1, y2⟩ := hy
  obtain ⟨m1, m2⟩ := hm
  obtain ⟨d1, d2⟩ := hd
  rcases h with h | ⟨a1, h⟩ | ⟨a1, a2, h⟩ | ⟨a1, a2, a3, h⟩ | ⟨a1, a2, a3, a4, h⟩ | ⟨a1, a2, a3, a4, a5, h⟩
  all_goals
    go_enter Tryd.func4, Tryd.ntmps4
    go_wp2_with fail
    refine (awake _ hM).mono ?_
    rintro e wa ⟨rfl, b1⟩
    go_wp2_with fail
    refine (of_no _ _ _ _ (hM.grown b1) NO.out).mono ?_
    rintro e w' ⟨rfl, rfl⟩
    go_wp2_with (go_at_call 14; refine (lawLong_any _ _ _ (by omega) (by omega)).mono ?_; rintro e w' ⟨rfl, rfl⟩)
    go_ret
    exact ⟨rfl, b1⟩

set_option maxHeartbeats 400000 in
/-- of a date -/
theorem civilOf_yes (y m d : Int) (w : World) (hM : Months w) (y1 : 1 ≤ y) (y2 : y ≤ 9999) (m1 : 1 ≤ m) (m2 : m ≤ 12) (d1 : 1 ≤ d) (d2 : d ≤ Cal.dim y m) :
    Calls Tryd.prog 4 #[.int .i16 y, .int .i16 m, .int .i16 d] w fun e w' => e = .returned (.bool true) ∧ Below w.heap.size w w' := by
  have hi := Cal.is_num y1 y2 m1 m2 d1 d2
  obtain ⟨n1, n2⟩ := hi.range
  have EQ := Lib.hid (show (Cal.num y m d == Cal.dby y + d + Cal.cum y m) = true by unfold Cal.num; simp; omega)
  have dl := Cal.dim_le y m
  have db := Cal.dby_bd y y1 (by omega)
  have d3 : ¬ Cal.dim y m < d := by omega
  go_enter Tryd.func4, Tryd.ntmps4
  go_wp2_with fail
  refine (awake _ hM).mono ?_
  rintro e wa ⟨rfl, b1⟩
  have hN := hM.grown b1
  go_wp2_with fail
  refine (of_yes _ _ _ _ hN y1 y2 m1 m2 d1 d2).mono ?_
  rintro e w' ⟨rfl, rfl⟩
  go_wp2_with fail
  refine (lawLong_any _ _ _ (by omega) (by omega)).mono ?_
  rintro e w' ⟨rfl, rfl⟩
  go_wp2_with fail
  refine (ahead_any _ _ (by omega) (by omega)).mono ?_
  rintro e wb ⟨rfl, b2⟩
  have hO := hN.grown b2
  go_wp2_with fail
  go_loop [12, 13] (fun n k => ∃ i : Int, 1 ≤ i ∧ i ≤ m ∧ k = .int .i64 i ∧ n = .int .i64 (Cal.dby y + d + Cal.cum y i)) (fun _ k => (m - intOf k).toNat)
  case atStart => exact ⟨1, by omega, by omega, rfl, by rw [Cal.cum_one]; simp⟩
  case round =>
    obtain ⟨i, i1, i2, rfl, rfl⟩ := hrel
    have cb := Cal.cum_bd y i i1 (by omega)
    by_cases hlt : i < m
    · have ll := Cal.dim_le y i
      have CS := Lib.hid (Cal.cum_succ y i i1 (by omega))
      go_wp2_with (go_at_call 14; refine (lawLong_any _ _ _ (by omega) (by omega)).mono ?_; rintro e w' ⟨rfl, rfl⟩)
      go_round
      case rel => exact ⟨i + 1, by omega, by omega, rfl, by rw [CS.out]; go_num⟩
      case measure => simp [intOf]; omega
    · obtain rfl : i = m := by omega
      go_wp2_with fail
      refine (date_yes _ y i d _ hO hi).mono ?_
      rintro e w' ⟨rfl, rfl⟩
      have eq := EQ.out
      go_wp2_with fail
      refine (valid_yes _ _ (by omega) (by omega)).mono ?_
      rintro e w' ⟨rfl, rfl⟩
      go_wp2
      go_ret
      exact ⟨rfl, b1.trans (b2.mono b1.size)⟩

theorem civilOf_walk (y m d : Int) (w : World) (hM : Months w) (hy : -32768 ≤ y ∧ y ≤ 32767) (hm : -32768 ≤ m ∧ m ≤ 32767) (hd : -32768 ≤ d ∧ d ≤ 32767) :
    Calls Tryd.prog 4 #[.int .i16 y, .int .i16 m, .int .i16 d] w fun e w' => e = .returned (.bool true) ∧ Below w.heap.size w w' := by
  by_cases h : 1 ≤ y ∧ y ≤ 9999 ∧ 1 ≤ m ∧ m ≤ 12 ∧ 1 ≤ d ∧ d ≤ Cal.dim y m
  · obtain ⟨a, b, c, e, f, g⟩ := h
    exact civilOf_yes y m d w hM a b c e f g
  · exact civilOf_no y m d w hM hy hm hd (by omega)
end Go.Proofs.YtdmjgfofcbfplaaDoor
