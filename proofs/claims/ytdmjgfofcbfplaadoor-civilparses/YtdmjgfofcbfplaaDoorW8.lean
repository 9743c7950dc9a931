/-
  Contract of civil.Parse: of any text of ten bytes, of any other one.
-/
import Derived.Test.YtdmjgfofcbfplaaDoorW7
namespace Go.Proofs.YtdmjgfofcbfplaaDoor
open Go.RowKit

/-- are all bytes digits? -/
def ds (s : ByteArray) : Bool := s.data.toList.all isd
/-- their number; 0 if they aren't digits all -/
def dv (s : ByteArray) : Int := if ds s = true then val s.data.toList else 0
theorem ds_at {s : ByteArray} (h : ds s = true) (i : Nat) (hi : i < s.size) : isd s[i] = true := by
  have := List.all_eq_true.1 h s[i] (by
    have e : s[i] = s.data.toList[i]'(by simpa using hi) := rfl
    rw [e]; exact List.getElem_mem _)
  exact this
theorem ds_of {s : ByteArray} (h : ∀ i (hi : i < s.size), isd s[i] = true) : ds s = true := by
  refine List.all_eq_true.2 fun c hc => ?_
  obtain ⟨i, hi, rfl⟩ := List.mem_iff_getElem.1 hc
  exact h i (by simpa using hi)
theorem least (p : Nat → Prop) : ∀ n, p n → ∃ j, j ≤ n ∧ p j ∧ ∀ i, i < j → ¬ p i := by
  intro n
  induction n using Nat.strongRecOn with
  | ind n ih =>
    intro hp
    by_cases h : ∃ i, i < n ∧ p i
    · obtain ⟨i, hi, hpi⟩ := h
      obtain ⟨j, hj, a, b⟩ := ih i hi hpi
      exact ⟨j, by omega, a, b⟩
    · exact ⟨n, Nat.le_refl _, hp, fun i hi hpi => h ⟨i, hi, hpi⟩⟩
theorem digits_any (s : ByteArray) (w : World) (hs : s.size ≤ 4) : Calls Tryd.prog 28 #[.string s] w fun e w' => e = .returned (.tuple #[.int .i64 (dv s), .bool (ds s)]) ∧ w = w' := by
  by_cases h : ds s = true
  · rw [show dv s = val s.data.toList by simp [dv, h], h]
    exact digits_yes s w hs fun i hi => ds_at h i hi
  · have h0 : ds s = false := by simpa using h
    rw [show dv s = 0 by simp [dv, h], h0]
    have hex : ∃ i, ∃ hi : i < s.size, isd s[i] = false := by
      by_cases g : ∃ i, ∃ hi : i < s.size, isd s[i] = false
      · exact g
      · exact absurd (ds_of fun i hi => by
          cases e : isd s[i]
          · exact absurd ⟨i, hi, e⟩ g
          · rfl) h
    obtain ⟨n, hn⟩ := hex
    obtain ⟨j, _, ⟨hj, e⟩, hb⟩ := least (fun i => ∃ hi : i < s.size, isd s[i] = false) n hn
    refine digits_no s w hs j hj (fun i hi hij => ?_) e
    cases e' : isd s[i]
    · exact absurd ⟨hi, e'⟩ (hb i hij)
    · rfl
theorem dv_bd (s : ByteArray) (n : Nat) (hs : s.size ≤ n) : 0 ≤ dv s ∧ dv s < 10 ^ n := by
  have hp : (0 : Int) < 10 ^ n := Int.pow_pos (by decide)
  unfold dv
  split
  · rename_i h
    have b := val_bd s.data.toList (fun c hc => List.all_eq_true.1 h c hc)
    have e : s.data.toList.length = s.size := by simp
    rw [e] at b
    have hm : (10 : Int) ^ s.size ≤ 10 ^ n := by
      have := Nat.pow_le_pow_right (n := 10) (by decide) hs
      exact_mod_cast this
    omega
  · omega

theorem piece_size (s : ByteArray) (a b : Nat) (h : b ≤ s.size) : (s.extract a b).size = b - a := by simp; omega

theorem parse_short (s : ByteArray) (w : World) (h : s.size ≠ 10) : Calls Tryd.prog 23 #[.string s] w fun e w' => e = .returned (.tuple #[.int .i64 0, .bool false]) ∧ w = w' := by
  have h' : ((s.size : Int) != 10) = true := by simp; omega
  clear h
  go_enter Tryd.func23, Tryd.ntmps23
  go_wp2
  go_ret2
  exact ⟨rfl, rfl⟩
theorem parse_dash4 (s : ByteArray) (w : World) (h : s.size = 10) (h4 : 4 < s.size) (d4 : s[4].toNat ≠ 45) : Calls Tryd.prog 23 #[.string s] w fun e w' => e = .returned (.tuple #[.int .i64 0, .bool false]) ∧ w = w' := by
  have h' : ((s.size : Int) != 10) = false := by simp; omega
  have d' : ((s[4].toNat : Int) != 45) = true := by simp; omega
  clear h d4
  go_enter Tryd.func23, Tryd.ntmps23
  go_wp2
  go_ret2
  exact ⟨rfl, rfl⟩
theorem parse_dash7 (s : ByteArray) (w : World) (h : s.size = 10) (h4 : 4 < s.size) (h7 : 7 < s.size) (d4 : s[4].toNat = 45) (d7 : s[7].toNat ≠ 45) : Calls Tryd.prog 23 #[.string s] w fun e w' => e = .returned (.tuple #[.int .i64 0, .bool false]) ∧ w = w' := by
  have h' : ((s.size : Int) != 10) = false := by simp; omega
  have d' : ((s[4].toNat : Int) != 45) = false := by simp; omega
  have e' : ((s[7].toNat : Int) != 45) = true := by simp; omega
  clear h d4 d7
  go_enter Tryd.func23, Tryd.ntmps23
  go_wp2
  go_ret2
  exact ⟨rfl, rfl⟩

set_option maxHeartbeats 400000 in
/-- of ten bytes with both hyphens: by the digits -/
theorem parse_ten (s : ByteArray) (w : World) (n : Int) (b : Bool) (h : s.size = 10) (h4 : 4 < s.size) (h7 : 7 < s.size) (d4 : s[4].toNat = 45) (d7 : s[7].toNat = 45)
    (hno : (ds (s.extract 0 4) && ds (s.extract 5 7) && ds (s.extract 8 s.size)) = false → n = 0 ∧ b = false)
    (hyes : (ds (s.extract 0 4) && ds (s.extract 5 7) && ds (s.extract 8 s.size)) = true → Calls Tryd.prog 15 #[.int .i64 (dv (s.extract 0 4)), .int .i64 (dv (s.extract 5 7)), .int .i64 (dv (s.extract 8 s.size))] w fun e w' => e = .returned (.tuple #[.int .i64 n, .bool b]) ∧ w = w') :
    Calls Tryd.prog 23 #[.string s] w fun e w' => e = .returned (.tuple #[.int .i64 n, .bool b]) ∧ w = w' := by
  have h' : ((s.size : Int) != 10) = false := by simp; omega
  have d' : ((s[4].toNat : Int) != 45) = false := by simp; omega
  have e' : ((s[7].toNat : Int) != 45) = false := by simp; omega
  have z1 := piece_size s 0 4 (by omega)
  have z2 := piece_size s 5 7 (by omega)
  have z3 := piece_size s 8 s.size (by omega)
  have Z1 := Lib.hid z1
  have Z2 := Lib.hid z2
  have Z3 := Lib.hid z3
  have H := Lib.hid h
  have HY := Lib.hid hyes
  have HN := Lib.hid hno
  clear d4 d7 z1 z2 z3 hno hyes
  have s4 : 4 ≤ s.size := by omega
  have s7 : 7 ≤ s.size := by omega
  have s8 : 8 ≤ s.size := by omega
  have sl : ∀ wx, (Instr.slice 9 (.string s) (some (.int .i64 5)) (some (.int .i64 7)) none).run Tryd.prog wx = .ok (.string (s.extract 5 7)) wx := fun wx => run_slice_string wx 9 s .i64 .i64 5 7 Tryd.underlying9 (by decide) (by decide) (by omega)
  clear h s7
  by_cases hall : (ds (s.extract 0 4) && ds (s.extract 5 7) && ds (s.extract 8 s.size)) = true
  · have hy := Lib.hid (HY.out hall)
    have P1 := Lib.hid (show ds (s.extract 0 4) = true by simp at hall; exact hall.1.1)
    have P2 := Lib.hid (show ds (s.extract 5 7) = true by simp at hall; exact hall.1.2)
    have P3 := Lib.hid (show ds (s.extract 8 s.size) = true by simp at hall; exact hall.2)
    clear hall HY HN
    go_enter Tryd.func23, Tryd.ntmps23
    go_wp2_with fail
    refine (digits_any _ _ (by rw [Z1.out]; decide)).mono ?_
    rintro e w' ⟨rfl, rfl⟩
    rw [P1.out]
    go_wp2_with fail
    refine (digits_any _ _ (by rw [Z2.out]; decide)).mono ?_
    rintro e w' ⟨rfl, rfl⟩
    rw [P2.out]
    go_wp2_with fail
    refine (digits_any _ _ (by rw [Z3.out, H.out]; decide)).mono ?_
    rintro e w' ⟨rfl, rfl⟩
    rw [P3.out]
    go_wp2_with fail
    refine hy.out.mono ?_
    rintro e w' ⟨rfl, rfl⟩
    go_wp2
    go_ret2
    exact ⟨rfl, rfl⟩
  · obtain ⟨rfl, rfl⟩ := HN.out (by simpa using hall)
    have hc : ds (s.extract 0 4) = false ∨ (ds (s.extract 0 4) = true ∧ ds (s.extract 5 7) = false) ∨ (ds (s.extract 0 4) = true ∧ ds (s.extract 5 7) = true ∧ ds (s.extract 8 s.size) = false) := by
      cases e1 : ds (s.extract 0 4) <;> cases e2 : ds (s.extract 5 7) <;> cases e3 : ds (s.extract 8 s.size) <;> simp_all
    clear hall HY HN
    rcases hc with p1 | ⟨p1, p2⟩ | ⟨p1, p2, p3⟩
    all_goals
      have P1 := Lib.hid p1
      first | have P2 := Lib.hid p2 | skip
      first | have P3 := Lib.hid p3 | skip
      clear p1
      first | clear p2 | skip
      first | clear p3 | skip
      go_enter Tryd.func23, Tryd.ntmps23
      go_wp2_with fail
      refine (digits_any _ _ (by rw [Z1.out]; decide)).mono ?_
      rintro e w' ⟨rfl, rfl⟩
      rw [P1.out]
      go_wp2_with fail
      refine (digits_any _ _ (by rw [Z2.out]; decide)).mono ?_
      rintro e w' ⟨rfl, rfl⟩
      first | rw [P2.out] | skip
      go_wp2_with fail
      refine (digits_any _ _ (by rw [Z3.out, H.out]; decide)).mono ?_
      rintro e w' ⟨rfl, rfl⟩
      first | rw [P3.out] | skip
      go_wp2
      go_ret2
      exact ⟨rfl, rfl⟩
end Go.Proofs.YtdmjgfofcbfplaaDoor
