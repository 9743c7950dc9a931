/-
  Contracts of rule.checkList at numbers.
-/
import Derived.Test.YtkcolbeemmnolaaGreatDoorR2
namespace Go.Proofs.YtkcolbeemmnolaaGreatDoor
open Go.RowKit

set_option maxHeartbeats 1000000 in
theorem checkM_any (A : Option Addr) (l : List Int) (cap : Nat) (w : World) (h : IntsIn w A l) (hl : l.length ≤ maxLen) :
    Calls Tryz.prog 148 #[.slice A l.length cap, .func (.func 149) #[] #[], .func (.func 91) #[] #[]] w fun e w' => e = .returned (.int .i64 (Rul.chkL Rul.inM Rul.cmpI l)) ∧ w = w' := by
  unfold maxLen at hl
  by_cases h64 : 64 < l.length
  · have E := Lib.hid (Rul.chkL_long (p := Rul.inM) (c := Rul.cmpI) h64)
    go_enter Tryz.func148, Tryz.ntmps148
    go_wp2
    go_ret
    exact ⟨ret_int E.out.symm, rfl⟩
  · have E := Lib.hid (Rul.chkL_short (p := Rul.inM) (c := Rul.cmpI) (l := l) (by omega))
    go_enter Tryz.func148, Tryz.ntmps148
    go_wp2
    go_loop [14] (fun i => ∃ k : Nat, k ≤ l.length ∧ i = .int .i64 k ∧ Hid (Rul.step Rul.inM Rul.cmpI l 0 = Rul.step Rul.inM Rul.cmpI l k)) (fun i => l.length - (intOf i).toNat)
    case atStart => exact ⟨0, Nat.zero_le _, rfl, Lib.hid rfl⟩
    case round =>
      obtain ⟨k, hk, rfl, HS⟩ := hrel
      by_cases hlt : k < l.length
      · obtain ⟨ad, rfl, hb, hc⟩ := h k hlt
        cases hp : Rul.inM l[k]
        · have R := Lib.hid (Rul.step_range (c := Rul.cmpI) hlt hp)
          have HP := Lib.hid hp
          clear hp
          go_wp2_with fail
          refine (isMonth_any _ _).mono ?_
          rintro e w' ⟨rfl, rfl⟩
          rw [HP.out]
          go_wp2
          go_ret
          exact ⟨ret_int (by rw [E.out, HS.out, R.out]), rfl⟩
        · by_cases h0 : 0 < k
          · obtain ⟨ad', ha, _, hc'⟩ := h (k - 1) (by omega)
            obtain rfl : ad = ad' := by injection ha
            clear ha
            have HP := Lib.hid hp
            by_cases ho : Rul.cmpI (l[k - 1]'(by omega)) l[k] < 0
            · have R := Lib.hid (Rul.step_next (c := Rul.cmpI) hlt hp h0 ho)
              clear hp
              go_wp2_with fail
              refine (isMonth_any _ _).mono ?_
              rintro e w' ⟨rfl, rfl⟩
              rw [HP.out]
              go_wp2_with fail
              refine (compare_int _ _ _).mono ?_
              rintro e w' ⟨rfl, rfl⟩
              go_wp2
              go_round
              case rel => exact ⟨k + 1, by omega, by go_num, Lib.hid (by rw [HS.out, R.out])⟩
              case measure => simp [intOf]; omega
            · have ho2 : 0 ≤ Rul.cmpI (l[k - 1]'(by omega)) l[k] := by omega
              have R := Lib.hid (Rul.step_order (c := Rul.cmpI) hlt hp h0 ho2)
              clear hp ho
              go_wp2_with fail
              refine (isMonth_any _ _).mono ?_
              rintro e w' ⟨rfl, rfl⟩
              rw [HP.out]
              go_wp2_with fail
              refine (compare_int _ _ _).mono ?_
              rintro e w' ⟨rfl, rfl⟩
              go_wp2
              go_ret
              exact ⟨ret_int (by rw [E.out, HS.out, R.out]), rfl⟩
          · obtain rfl : k = 0 := by omega
            have R := Lib.hid (Rul.step_first (c := Rul.cmpI) hlt hp)
            have HP := Lib.hid hp
            have hc0 : w.cell? ad = some (.int .i64 l[0]) := by simpa [Addr.add] using hc
            clear hp hc h0
            go_wp2_with fail
            refine (isMonth_any _ _).mono ?_
            rintro e w' ⟨rfl, rfl⟩
            rw [HP.out]
            go_wp2
            go_round
            case rel => exact ⟨1, by omega, by go_num, Lib.hid (by rw [R.out])⟩
            case measure => simp [intOf]; omega
      · have R := Lib.hid (Rul.step_end (p := Rul.inM) (c := Rul.cmpI) hlt)
        go_wp2
        go_ret
        exact ⟨ret_int (by rw [E.out, HS.out, R.out]), rfl⟩

set_option maxHeartbeats 1000000 in
theorem checkD_any (A : Option Addr) (l : List Int) (cap : Nat) (w : World) (h : IntsIn w A l) (hl : l.length ≤ maxLen) :
    Calls Tryz.prog 148 #[.slice A l.length cap, .func (.func 150) #[] #[], .func (.func 91) #[] #[]] w fun e w' => e = .returned (.int .i64 (Rul.chkL Rul.inD Rul.cmpI l)) ∧ w = w' := by
  unfold maxLen at hl
  by_cases h64 : 64 < l.length
  · have E := Lib.hid (Rul.chkL_long (p := Rul.inD) (c := Rul.cmpI) h64)
    go_enter Tryz.func148, Tryz.ntmps148
    go_wp2
    go_ret
    exact ⟨ret_int E.out.symm, rfl⟩
  · have E := Lib.hid (Rul.chkL_short (p := Rul.inD) (c := Rul.cmpI) (l := l) (by omega))
    go_enter Tryz.func148, Tryz.ntmps148
    go_wp2
    go_loop [14] (fun i => ∃ k : Nat, k ≤ l.length ∧ i = .int .i64 k ∧ Hid (Rul.step Rul.inD Rul.cmpI l 0 = Rul.step Rul.inD Rul.cmpI l k)) (fun i => l.length - (intOf i).toNat)
    case atStart => exact ⟨0, Nat.zero_le _, rfl, Lib.hid rfl⟩
    case round =>
      obtain ⟨k, hk, rfl, HS⟩ := hrel
      by_cases hlt : k < l.length
      · obtain ⟨ad, rfl, hb, hc⟩ := h k hlt
        cases hp : Rul.inD l[k]
        · have R := Lib.hid (Rul.step_range (c := Rul.cmpI) hlt hp)
          have HP := Lib.hid hp
          clear hp
          go_wp2_with fail
          refine (isMonthDay_any _ _).mono ?_
          rintro e w' ⟨rfl, rfl⟩
          rw [HP.out]
          go_wp2
          go_ret
          exact ⟨ret_int (by rw [E.out, HS.out, R.out]), rfl⟩
        · by_cases h0 : 0 < k
          · obtain ⟨ad', ha, _, hc'⟩ := h (k - 1) (by omega)
            obtain rfl : ad = ad' := by injection ha
            clear ha
            have HP := Lib.hid hp
            by_cases ho : Rul.cmpI (l[k - 1]'(by omega)) l[k] < 0
            · have R := Lib.hid (Rul.step_next (c := Rul.cmpI) hlt hp h0 ho)
              clear hp
              go_wp2_with fail
              refine (isMonthDay_any _ _).mono ?_
              rintro e w' ⟨rfl, rfl⟩
              rw [HP.out]
              go_wp2_with fail
              refine (compare_int _ _ _).mono ?_
              rintro e w' ⟨rfl, rfl⟩
              go_wp2
              go_round
              case rel => exact ⟨k + 1, by omega, by go_num, Lib.hid (by rw [HS.out, R.out])⟩
              case measure => simp [intOf]; omega
            · have ho2 : 0 ≤ Rul.cmpI (l[k - 1]'(by omega)) l[k] := by omega
              have R := Lib.hid (Rul.step_order (c := Rul.cmpI) hlt hp h0 ho2)
              clear hp ho
              go_wp2_with fail
              refine (isMonthDay_any _ _).mono ?_
              rintro e w' ⟨rfl, rfl⟩
              rw [HP.out]
              go_wp2_with fail
              refine (compare_int _ _ _).mono ?_
              rintro e w' ⟨rfl, rfl⟩
              go_wp2
              go_ret
              exact ⟨ret_int (by rw [E.out, HS.out, R.out]), rfl⟩
          · obtain rfl : k = 0 := by omega
            have R := Lib.hid (Rul.step_first (c := Rul.cmpI) hlt hp)
            have HP := Lib.hid hp
            have hc0 : w.cell? ad = some (.int .i64 l[0]) := by simpa [Addr.add] using hc
            clear hp hc h0
            go_wp2_with fail
            refine (isMonthDay_any _ _).mono ?_
            rintro e w' ⟨rfl, rfl⟩
            rw [HP.out]
            go_wp2
            go_round
            case rel => exact ⟨1, by omega, by go_num, Lib.hid (by rw [R.out])⟩
            case measure => simp [intOf]; omega
      · have R := Lib.hid (Rul.step_end (p := Rul.inD) (c := Rul.cmpI) hlt)
        go_wp2
        go_ret
        exact ⟨ret_int (by rw [E.out, HS.out, R.out]), rfl⟩

set_option maxHeartbeats 1000000 in
theorem checkP_any (A : Option Addr) (l : List Int) (cap : Nat) (w : World) (h : IntsIn w A l) (hl : l.length ≤ maxLen) :
    Calls Tryz.prog 148 #[.slice A l.length cap, .func (.func 154) #[] #[], .func (.func 91) #[] #[]] w fun e w' => e = .returned (.int .i64 (Rul.chkL Rul.inP Rul.cmpI l)) ∧ w = w' := by
  unfold maxLen at hl
  by_cases h64 : 64 < l.length
  · have E := Lib.hid (Rul.chkL_long (p := Rul.inP) (c := Rul.cmpI) h64)
    go_enter Tryz.func148, Tryz.ntmps148
    go_wp2
    go_ret
    exact ⟨ret_int E.out.symm, rfl⟩
  · have E := Lib.hid (Rul.chkL_short (p := Rul.inP) (c := Rul.cmpI) (l := l) (by omega))
    go_enter Tryz.func148, Tryz.ntmps148
    go_wp2
    go_loop [14] (fun i => ∃ k : Nat, k ≤ l.length ∧ i = .int .i64 k ∧ Hid (Rul.step Rul.inP Rul.cmpI l 0 = Rul.step Rul.inP Rul.cmpI l k)) (fun i => l.length - (intOf i).toNat)
    case atStart => exact ⟨0, Nat.zero_le _, rfl, Lib.hid rfl⟩
    case round =>
      obtain ⟨k, hk, rfl, HS⟩ := hrel
      by_cases hlt : k < l.length
      · obtain ⟨ad, rfl, hb, hc⟩ := h k hlt
        cases hp : Rul.inP l[k]
        · have R := Lib.hid (Rul.step_range (c := Rul.cmpI) hlt hp)
          have HP := Lib.hid hp
          clear hp
          go_wp2_with fail
          refine (isPos_any _ _).mono ?_
          rintro e w' ⟨rfl, rfl⟩
          rw [HP.out]
          go_wp2
          go_ret
          exact ⟨ret_int (by rw [E.out, HS.out, R.out]), rfl⟩
        · by_cases h0 : 0 < k
          · obtain ⟨ad', ha, _, hc'⟩ := h (k - 1) (by omega)
            obtain rfl : ad = ad' := by injection ha
            clear ha
            have HP := Lib.hid hp
            by_cases ho : Rul.cmpI (l[k - 1]'(by omega)) l[k] < 0
            · have R := Lib.hid (Rul.step_next (c := Rul.cmpI) hlt hp h0 ho)
              clear hp
              go_wp2_with fail
              refine (isPos_any _ _).mono ?_
              rintro e w' ⟨rfl, rfl⟩
              rw [HP.out]
              go_wp2_with fail
              refine (compare_int _ _ _).mono ?_
              rintro e w' ⟨rfl, rfl⟩
              go_wp2
              go_round
              case rel => exact ⟨k + 1, by omega, by go_num, Lib.hid (by rw [HS.out, R.out])⟩
              case measure => simp [intOf]; omega
            · have ho2 : 0 ≤ Rul.cmpI (l[k - 1]'(by omega)) l[k] := by omega
              have R := Lib.hid (Rul.step_order (c := Rul.cmpI) hlt hp h0 ho2)
              clear hp ho
              go_wp2_with fail
              refine (isPos_any _ _).mono ?_
              rintro e w' ⟨rfl, rfl⟩
              rw [HP.out]
              go_wp2_with fail
              refine (compare_int _ _ _).mono ?_
              rintro e w' ⟨rfl, rfl⟩
              go_wp2
              go_ret
              exact ⟨ret_int (by rw [E.out, HS.out, R.out]), rfl⟩
          · obtain rfl : k = 0 := by omega
            have R := Lib.hid (Rul.step_first (c := Rul.cmpI) hlt hp)
            have HP := Lib.hid hp
            have hc0 : w.cell? ad = some (.int .i64 l[0]) := by simpa [Addr.add] using hc
            clear hp hc h0
            go_wp2_with fail
            refine (isPos_any _ _).mono ?_
            rintro e w' ⟨rfl, rfl⟩
            rw [HP.out]
            go_wp2
            go_round
            case rel => exact ⟨1, by omega, by go_num, Lib.hid (by rw [R.out])⟩
            case measure => simp [intOf]; omega
      · have R := Lib.hid (Rul.step_end (p := Rul.inP) (c := Rul.cmpI) hlt)
        go_wp2
        go_ret
        exact ⟨ret_int (by rw [E.out, HS.out, R.out]), rfl⟩
end Go.Proofs.YtkcolbeemmnolaaGreatDoor
