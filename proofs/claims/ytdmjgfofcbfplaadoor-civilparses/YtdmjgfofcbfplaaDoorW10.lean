/-
  civil.Parse of any ten bytes: a date's text, or none.
-/
import Derived.Test.YtdmjgfofcbfplaaDoorW9
namespace Go.Proofs.YtdmjgfofcbfplaaDoor
open Go.RowKit

/-- is it a date's text? -/
def Good (s : ByteArray) : Prop := ∃ n y m d, Cal.Is n y m d ∧ s = txt y m d

theorem ten_bytes (s : ByteArray) (h : s.size = 10) : ∃ b0 b1 b2 b3 b4 b5 b6 b7 b8 b9 : UInt8, s = ⟨#[b0, b1, b2, b3, b4, b5, b6, b7, b8, b9]⟩ := by
  obtain ⟨⟨l⟩⟩ := s
  have hl : l.length = 10 := h
  match l, hl with
  | [b0, b1, b2, b3, b4, b5, b6, b7, b8, b9], _ => exact ⟨b0, b1, b2, b3, b4, b5, b6, b7, b8, b9, rfl⟩

theorem dig_of (c : UInt8) (h : isd c = true) (n : Int) (e : n % 10 = (c.toNat : Int) - 48) : dig n = c := by
  have hc := (isd_iff c).1 h
  apply UInt8.toNat_inj.1
  have := dig_toNat n
  omega
theorem good_of (s : ByteArray) (h : s.size = 10) (h4 : 4 < s.size) (h7 : 7 < s.size) (d4 : s[4].toNat = 45) (d7 : s[7].toNat = 45)
    (hd : (ds (s.extract 0 4) && ds (s.extract 5 7) && ds (s.extract 8 s.size)) = true) : s = txt (dv (s.extract 0 4)) (dv (s.extract 5 7)) (dv (s.extract 8 s.size)) := by
  obtain ⟨b0, b1, b2, b3, b4, b5, b6, b7, b8, b9, rfl⟩ := ten_bytes s h
  have e4 : b4.toNat = 45 := d4
  have e7 : b7.toNat = 45 := d7
  have f4 : b4 = 45 := UInt8.toNat_inj.1 e4
  have f7 : b7 = 45 := UInt8.toNat_inj.1 e7
  subst f4 f7
  have p0 : (ByteArray.mk #[b0, b1, b2, b3, 45, b5, b6, 45, b8, b9]).extract 0 4 = ⟨#[b0, b1, b2, b3]⟩ := ext_list (by rw [Lib.extract_data]; rfl)
  have p1 : (ByteArray.mk #[b0, b1, b2, b3, 45, b5, b6, 45, b8, b9]).extract 5 7 = ⟨#[b5, b6]⟩ := ext_list (by rw [Lib.extract_data]; rfl)
  have p2 : (ByteArray.mk #[b0, b1, b2, b3, 45, b5, b6, 45, b8, b9]).extract 8 (ByteArray.mk #[b0, b1, b2, b3, 45, b5, b6, 45, b8, b9]).size = ⟨#[b8, b9]⟩ := ext_list (by rw [Lib.extract_data]; rfl)
  rw [p0, p1, p2] at hd ⊢
  simp only [Bool.and_eq_true] at hd
  obtain ⟨⟨q0, q1⟩, q2⟩ := hd
  have v0 : dv ⟨#[b0, b1, b2, b3]⟩ = (((0 * 10 + ((b0.toNat : Int) - 48)) * 10 + ((b1.toNat : Int) - 48)) * 10 + ((b2.toNat : Int) - 48)) * 10 + ((b3.toNat : Int) - 48) := by
    unfold dv; rw [if_pos q0]; rfl
  have v1 : dv ⟨#[b5, b6]⟩ = (0 * 10 + ((b5.toNat : Int) - 48)) * 10 + ((b6.toNat : Int) - 48) := by
    unfold dv; rw [if_pos q1]; rfl
  have v2 : dv ⟨#[b8, b9]⟩ = (0 * 10 + ((b8.toNat : Int) - 48)) * 10 + ((b9.toNat : Int) - 48) := by
    unfold dv; rw [if_pos q2]; rfl
  have a0 : ([b0, b1, b2, b3].all isd) = true := q0
  have a1 : ([b5, b6].all isd) = true := q1
  have a2 : ([b8, b9].all isd) = true := q2
  simp only [List.all_cons, List.all_nil, Bool.and_true, Bool.and_eq_true] at a0 a1 a2
  obtain ⟨i0, i1, i2, i3⟩ := a0
  obtain ⟨i5, i6⟩ := a1
  obtain ⟨i8, i9⟩ := a2
  have j0 := (isd_iff _).1 i0
  have j1 := (isd_iff _).1 i1
  have j2 := (isd_iff _).1 i2
  have j3 := (isd_iff _).1 i3
  have j5 := (isd_iff _).1 i5
  have j6 := (isd_iff _).1 i6
  have j8 := (isd_iff _).1 i8
  have j9 := (isd_iff _).1 i9
  rw [v0, v1, v2]
  unfold txt
  rw [dig_of b0 i0 _ (by omega), dig_of b1 i1 _ (by omega), dig_of b2 i2 _ (by omega), dig_of b3 i3 _ (by omega), dig_of b5 i5 _ (by omega), dig_of b6 i6 _ (by omega), dig_of b8 i8 _ (by omega), dig_of b9 i9 _ (by omega)]

/-- ten bytes of digits and hyphens that are no date's text: the date isn't one -/
theorem bad_date (s : ByteArray) (hg : ¬ Good s) (h : s.size = 10) (h4 : 4 < s.size) (h7 : 7 < s.size) (d4 : s[4].toNat = 45) (d7 : s[7].toNat = 45)
    (hd : (ds (s.extract 0 4) && ds (s.extract 5 7) && ds (s.extract 8 s.size)) = true) :
    dv (s.extract 0 4) < 1 ∨ dv (s.extract 5 7) < 1 ∨ 12 < dv (s.extract 5 7) ∨ dv (s.extract 8 s.size) < 1 ∨ Cal.dim (dv (s.extract 0 4)) (dv (s.extract 5 7)) < dv (s.extract 8 s.size) := by
  have e := good_of s h h4 h7 d4 d7 hd
  have b0 := dv_bd (s.extract 0 4) 4 (by rw [piece_size s 0 4 (by omega)]; decide)
  have p : (10 : Int) ^ 4 = 10000 := by decide
  rw [p] at b0
  generalize dv (s.extract 0 4) = y at *
  generalize dv (s.extract 5 7) = m at *
  generalize dv (s.extract 8 s.size) = d at *
  by_cases c : 1 ≤ y ∧ 1 ≤ m ∧ m ≤ 12 ∧ 1 ≤ d ∧ d ≤ Cal.dim y m
  · exact absurd ⟨_, y, m, d, Cal.is_num c.1 (by omega) c.2.1 c.2.2.1 c.2.2.2.1 c.2.2.2.2, e⟩ hg
  · omega
theorem parse_bad (s : ByteArray) (w : World) (hM : Months w) (hg : ¬ Good s) (h : s.size = 10) : Calls Tryd.prog 23 #[.string s] w fun e w' => e = .returned (.tuple #[.int .i64 0, .bool false]) ∧ w = w' := by
  have h4 : 4 < s.size := by omega
  have h7 : 7 < s.size := by omega
  by_cases d4 : s[4].toNat = 45
  · by_cases d7 : s[7].toNat = 45
    · refine parse_ten s w 0 false h h4 h7 d4 d7 (fun _ => ⟨rfl, rfl⟩) (fun hd => ?_)
      have hb := bad_date s hg h h4 h7 d4 d7 hd
      refine of_no _ _ _ w hM ?_
      by_cases c : 1 ≤ dv (s.extract 0 4) ∧ dv (s.extract 0 4) ≤ 9999
      · rw [Cal.long_of c.1 c.2]
        have := Cal.dim_cases (dv (s.extract 0 4)) (dv (s.extract 5 7))
        omega
      · have e : Cal.long (dv (s.extract 0 4)) (dv (s.extract 5 7)) = 0 := by simp [Cal.long, c]
        rw [e]; omega
    · exact parse_dash7 s w h h4 h7 d4 d7
  · exact parse_dash4 s w h h4 d4
end Go.Proofs.YtdmjgfofcbfplaaDoor
