/-
  Contract of civil.Parse, of a date's text.
-/
import Derived.Test.YtdmjgfofcbfplaaDoorW8
import Derived.Lib.Strings
namespace Go.Proofs.YtdmjgfofcbfplaaDoor
open Go.RowKit

theorem isd_dig (n : Int) : isd (dig n) = true := by
  rw [isd_iff, dig_toNat]; omega
theorem ext_list {s t : ByteArray} (h : s.data.toList = t.data.toList) : s = t := by
  cases s; cases t; simp at h; exact congrArg _ (by simpa using h)
theorem txt_0 (y m d : Int) : (txt y m d).extract 0 4 = pad4 y := ext_list (by rw [Lib.extract_data]; rfl)
theorem txt_5 (y m d : Int) : (txt y m d).extract 5 7 = pad2 m := ext_list (by rw [Lib.extract_data]; rfl)
theorem txt_8 (y m d : Int) : (txt y m d).extract 8 (txt y m d).size = pad2 d := ext_list (by rw [Lib.extract_data]; rfl)
theorem ds_pad4 (n : Int) : ds (pad4 n) = true := by
  show ([dig (n / 1000), dig (n / 100), dig (n / 10), dig n].all isd) = true
  simp [isd_dig]
theorem ds_pad2 (n : Int) : ds (pad2 n) = true := by
  show ([dig (n / 10), dig n].all isd) = true
  simp [isd_dig]
theorem dv_pad4 (n : Int) (h0 : 0 ≤ n) (h1 : n ≤ 9999) : dv (pad4 n) = n := by
  unfold dv
  rw [if_pos (ds_pad4 n)]
  show val [dig (n / 1000), dig (n / 100), dig (n / 10), dig n] = n
  simp only [val, List.foldl, dig_toNat]
  omega
theorem dv_pad2 (n : Int) (h0 : 0 ≤ n) (h1 : n ≤ 99) : dv (pad2 n) = n := by
  unfold dv
  rw [if_pos (ds_pad2 n)]
  show val [dig (n / 10), dig n] = n
  simp only [val, List.foldl, dig_toNat]
  omega
theorem parse_txt (n y m d : Int) (w : World) (hM : Months w) (h : Cal.Is n y m d) : Calls Tryd.prog 23 #[.string (txt y m d)] w fun e w' => e = .returned (.tuple #[.int .i64 n, .bool true]) ∧ w = w' := by
  obtain ⟨y1, y2, m1, m2, d1, d2, hn⟩ := h
  have dl := Cal.dim_le y m
  refine parse_ten (txt y m d) w n true rfl (show 4 < 10 by decide) (show 7 < 10 by decide) rfl rfl ?_ ?_
  · rw [txt_0, txt_5, txt_8, ds_pad4, ds_pad2, ds_pad2]; intro h; cases h
  · intro _
    rw [txt_0, txt_5, txt_8, dv_pad4 y (by omega) y2, dv_pad2 m (by omega) (by omega), dv_pad2 d (by omega) (by omega), hn]
    exact of_yes y m d w hM y1 y2 m1 m2 d1 d2
end Go.Proofs.YtdmjgfofcbfplaaDoor
