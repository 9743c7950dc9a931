/-
  The walk of the law CivilLong, out of the contracts.
-/
import Derived.Test.YtdmjgfofcbfplaaDoorW4
namespace Go.Proofs.YtdmjgfofcbfplaaDoor
open Go.RowKit

set_option maxHeartbeats 400000 in
theorem civilLong_walk (y m : Int) (w : World) (hM : Months w) (hy : 0 ≤ y ∧ y ≤ 65535) (_hm : -9223372036854775808 ≤ m ∧ m ≤ 9223372036854775807) :
    Calls Tryd.prog 3 #[.int .u16 y, .int .i64 m] w fun e w' => e = .returned (.bool true) ∧ Below w.heap.size w w' := by
  obtain ⟨y1, y2⟩ := hy
  have k1 : 1 ≤ 1 + y % 9999 := by omega
  have k2 : 1 + y % 9999 ≤ 9999 := by omega
  go_enter Tryd.func3, Tryd.ntmps3
  go_wp2_with fail
  refine (awake _ hM).mono ?_
  rintro e wa ⟨rfl, b1⟩
  have hN := hM.grown b1
  go_wp2_with fail
  refine (leap_year _ _ k1 k2).mono ?_
  rintro e w' ⟨rfl, rfl⟩
  go_wp2_with fail
  refine (lawLeap_any _ _ (by omega) (by omega)).mono ?_
  rintro e w' ⟨rfl, rfl⟩
  go_wp2_with fail
  refine (long_any _ _ _ hN).mono ?_
  rintro e w' ⟨rfl, rfl⟩
  rw [Cal.long_of k1 k2]
  go_wp2_with fail
  refine (lawLong_any _ _ _ (by omega) (by omega)).mono ?_
  rintro e w' ⟨rfl, rfl⟩
  go_wp2_with fail
  refine (long_any _ _ _ hN).mono ?_
  rintro e w' ⟨rfl, rfl⟩
  rw [Cal.long_of k1 k2]
  go_wp2_with fail
  refine (lawLong_any _ _ _ (by omega) (by omega)).mono ?_
  rintro e w' ⟨rfl, rfl⟩
  go_wp2
  go_ret
  exact ⟨rfl, b1⟩
end Go.Proofs.YtdmjgfofcbfplaaDoor
