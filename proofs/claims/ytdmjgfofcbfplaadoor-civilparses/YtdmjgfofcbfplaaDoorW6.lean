/-
  Plain facts on texts of dates: their order is the days' order.
-/
import Derived.Test.YtdmjgfofcbfplaaDoorW4
namespace Go.Proofs.YtdmjgfofcbfplaaDoor
open Go.RowKit

theorem dig_toNat (n : Int) : ((dig n).toNat : Int) = 48 + n % 10 := by
  unfold dig
  have h1 : 0 ≤ n % 10 := by omega
  have h2 : n % 10 < 10 := by omega
  rw [UInt8.toNat_ofNat']
  omega
theorem dig_lt (a b : Int) : (dig a < dig b) ↔ a % 10 < b % 10 := by
  rw [UInt8.lt_iff_toNat_lt]
  have := dig_toNat a
  have := dig_toNat b
  omega
theorem dig_eq (a b : Int) : (dig a = dig b) ↔ a % 10 = b % 10 := by
  constructor
  · intro h
    have := dig_toNat a
    have := dig_toNat b
    rw [h] at *
    omega
  · intro h; unfold dig; rw [h]
theorem less_cons (a b : UInt8) (x y : List UInt8) : Op.bytesLess (a :: x) (b :: y) = true ↔ a < b ∨ (a = b ∧ Op.bytesLess x y = true) := by
  simp [Op.bytesLess]
theorem less_dig (a b : Int) (x y : List UInt8) : Op.bytesLess (dig a :: x) (dig b :: y) = true ↔ a % 10 < b % 10 ∨ (a % 10 = b % 10 ∧ Op.bytesLess x y = true) := by
  rw [less_cons, dig_lt, dig_eq]
theorem less_same (c : UInt8) (x y : List UInt8) : Op.bytesLess (c :: x) (c :: y) = true ↔ Op.bytesLess x y = true := by
  rw [less_cons]
  constructor
  · rintro (h | h)
    · exact absurd h (UInt8.lt_irrefl c)
    · exact h.2
  · intro h; exact .inr ⟨rfl, h⟩
theorem less_pad2 (a b : Int) (x y : List UInt8) (h0 : 0 ≤ a) (h1 : a ≤ 99) (k0 : 0 ≤ b) (k1 : b ≤ 99) :
    Op.bytesLess (dig (a / 10) :: dig a :: x) (dig (b / 10) :: dig b :: y) = true ↔ a < b ∨ (a = b ∧ Op.bytesLess x y = true) := by
  rw [less_dig, less_dig]
  generalize (Op.bytesLess x y = true) = p
  by_cases hp : p <;> simp only [hp, and_true, and_false, or_false] <;> omega
theorem less_pad4 (a b : Int) (x y : List UInt8) (h0 : 0 ≤ a) (h1 : a ≤ 9999) (k0 : 0 ≤ b) (k1 : b ≤ 9999) :
    Op.bytesLess (dig (a / 1000) :: dig (a / 100) :: dig (a / 10) :: dig a :: x) (dig (b / 1000) :: dig (b / 100) :: dig (b / 10) :: dig b :: y) = true ↔ a < b ∨ (a = b ∧ Op.bytesLess x y = true) := by
  have ea : a / 100 / 10 = a / 1000 := by omega
  have eb : b / 100 / 10 = b / 1000 := by omega
  rw [← ea, ← eb, less_pad2 (a / 100) (b / 100) _ _ (by omega) (by omega) (by omega) (by omega), less_dig, less_dig]
  generalize (Op.bytesLess x y = true) = p
  by_cases hp : p <;> simp only [hp, and_true, and_false, or_false] <;> omega

theorem txt_list (y m d : Int) : (txt y m d).toList = [dig (y / 1000), dig (y / 100), dig (y / 10), dig y, 45, dig (m / 10), dig m, 45, dig (d / 10), dig d] := by
  unfold txt; rw [ByteArray.toList_eq]
/-- a date's text is less than another one's just if its day is -/
theorem txt_less {n y m d n' y' m' d' : Int} (h : Cal.Is n y m d) (k : Cal.Is n' y' m' d') : Op.bytesLess (txt y m d).toList (txt y' m' d').toList = decide (n < n') := by
  obtain ⟨a1, a2, a3, a4, a5, a6, an⟩ := id h
  obtain ⟨b1, b2, b3, b4, b5, b6, bn⟩ := id k
  have da := Cal.dim_le y m
  have db := Cal.dim_le y' m'
  have hl : Op.bytesLess (txt y m d).toList (txt y' m' d').toList = true ↔ y < y' ∨ (y = y' ∧ (m < m' ∨ (m = m' ∧ d < d'))) := by
    rw [txt_list, txt_list, less_pad4 _ _ _ _ (by omega) (by omega) (by omega) (by omega), less_same, less_pad2 _ _ _ _ (by omega) (by omega) (by omega) (by omega), less_same, less_pad2 _ _ _ _ (by omega) (by omega) (by omega) (by omega)]
    simp [Op.bytesLess]
  have hlt : ∀ {n y m d n' y' m' d' : Int}, Cal.Is n y m d → Cal.Is n' y' m' d' → (y < y' ∨ (y = y' ∧ (m < m' ∨ (m = m' ∧ d < d')))) → n < n' := by
    intro n y m d n' y' m' d' h k o
    rcases o with o | ⟨rfl, o | ⟨rfl, o⟩⟩
    · have u := h.inYear; have v := k.inYear; have := Cal.dby_mono (y + 1) y' (by omega); omega
    · obtain ⟨a1, a2, a3, a4, a5, a6, an⟩ := h
      obtain ⟨b1, b2, b3, b4, b5, b6, bn⟩ := k
      have := Cal.cum_mono y m m' a3 o (by omega)
      unfold Cal.num at *; omega
    · obtain ⟨a1, a2, a3, a4, a5, a6, an⟩ := h
      obtain ⟨b1, b2, b3, b4, b5, b6, bn⟩ := k
      unfold Cal.num at *; omega
  rw [Bool.eq_iff_iff, hl, decide_eq_true_iff]
  constructor
  · exact hlt h k
  · intro hn
    by_cases g : (y' < y ∨ (y' = y ∧ (m' < m ∨ (m' = m ∧ d' < d))))
    · have := hlt k h g; omega
    · by_cases e : y = y' ∧ m = m' ∧ d = d'
      · obtain ⟨rfl, rfl, rfl⟩ := e; omega
      · omega
theorem txt_less_more {n r y m d y' m' d' : Int} (h : Cal.Is n y m d) (k : Cal.Is (n + r) y' m' d') : Op.bytesLess (txt y m d).toList (txt y' m' d').toList = decide (0 < r) := by
  rw [txt_less h k, decide_eq_decide]; omega
end Go.Proofs.YtdmjgfofcbfplaaDoor
