/-
  Plain facts on texts of dates: their order is the days' order.
-/
import Derived.Test.YtocpmljkmdpfkaaGreatDoorW5
import Derived.Lib.Strings
namespace Go.Proofs.YtocpmljkmdpfkaaGreatDoor
open Go.RowKit

theorem dig_toNat (n : Int) : ((dig n).toNat : Int) = 48 + n % 10 := by
  unfold dig
  have h1 : 0 ≤ n % 10 := by omega
  have h2 : n % 10 < 10 := by omega
  rw [UInt8.toNat_ofNat']
  omega
theorem dig_eq (a b : Int) : (dig a = dig b) ↔ a % 10 = b % 10 := by
  constructor
  · intro h
    have := dig_toNat a
    have := dig_toNat b
    rw [h] at *
    omega
  · intro h; unfold dig; rw [h]
end Go.Proofs.YtocpmljkmdpfkaaGreatDoor
/-
  Contracts of civil.digits and civil.Parse: texts as numbers, texts as days.
-/
namespace Go.Proofs.YtocpmljkmdpfkaaGreatDoor
open Go.RowKit

/-- is a byte a digit? -/
def isd (c : UInt8) : Bool := decide (48 ≤ (c.toNat : Int)) && decide ((c.toNat : Int) ≤ 57)
/-- digits as a number -/
def val (l : List UInt8) : Int := l.foldl (fun n c => n * 10 + ((c.toNat : Int) - 48)) 0
theorem isd_iff (c : UInt8) : isd c = true ↔ 48 ≤ (c.toNat : Int) ∧ (c.toNat : Int) ≤ 57 := by simp [isd]
theorem isd_no (c : UInt8) : isd c = false ↔ (c.toNat : Int) < 48 ∨ 57 < (c.toNat : Int) := by
  rw [Bool.eq_false_iff, Ne, isd_iff]; omega
theorem val_snoc (l : List UInt8) (c : UInt8) : val (l ++ [c]) = val l * 10 + ((c.toNat : Int) - 48) := by
  simp [val, List.foldl_append]
theorem val_bd (l : List UInt8) (h : ∀ c ∈ l, isd c = true) : 0 ≤ val l ∧ val l < 10 ^ l.length := by
  have go : ∀ (r : List UInt8), (∀ c ∈ r, isd c = true) → 0 ≤ val r.reverse ∧ val r.reverse < 10 ^ r.length := by
    intro r
    induction r with
    | nil => intro _; simp [val]
    | cons c r ih =>
      intro hr
      obtain ⟨i1, i2⟩ := ih (fun x hx => hr x (List.mem_cons_of_mem _ hx))
      have hc := (isd_iff c).1 (hr c (List.mem_cons_self ..))
      rw [List.reverse_cons, val_snoc, List.length_cons, Int.pow_succ]
      omega
  have := go l.reverse (fun c hc => h c (by simpa using hc))
  simpa using this
theorem take_snoc (s : ByteArray) (k : Nat) (h : k < s.size) : s.data.toList.take (k + 1) = s.data.toList.take k ++ [s[k]] := by
  rw [List.take_succ_eq_append_getElem (by simpa using h)]; rfl

theorem mem_take (s : ByteArray) (k : Nat) (h : k ≤ s.size) (p : UInt8 → Prop) (hp : ∀ i (hi : i < s.size), i < k → p s[i]) : ∀ c ∈ s.data.toList.take k, p c := by
  intro c hc
  obtain ⟨i, hi, rfl⟩ := List.mem_iff_getElem.1 hc
  have hi' : i < k := by simp at hi; omega
  have e : (s.data.toList.take k)[i] = s[i] := by rw [List.getElem_take]; rfl
  rw [e]
  exact hp i (by omega) hi'
theorem pow_le (n : Nat) (h : n ≤ 3) : (10 : Int) ^ n ≤ 1000 := by
  have : n = 0 ∨ n = 1 ∨ n = 2 ∨ n = 3 := by omega
  rcases this with rfl | rfl | rfl | rfl <;> decide

set_option maxHeartbeats 400000 in
theorem digits_yes (s : ByteArray) (w : World) (hs : s.size ≤ 4) (hd : ∀ i (h : i < s.size), isd s[i] = true) :
    Calls Tryz.prog 148 #[.string s] w fun e w' => e = .returned (.tuple #[.int .i64 (val s.data.toList), .bool true]) ∧ w = w' := by
  have HD := Lib.hid hd
  clear hd
  go_enter Tryz.func148, Tryz.ntmps148
  go_wp2
  go_loop [4, 8] (fun n i => ∃ k : Nat, k ≤ s.size ∧ i = .int .i64 k ∧ n = .int .i64 (val (s.data.toList.take k))) (fun _ i => s.size - (intOf i).toNat)
  case atStart => exact ⟨0, Nat.zero_le _, rfl, rfl⟩
  case round =>
    obtain ⟨k, hk, rfl, rfl⟩ := hrel
    by_cases hlt : k < s.size
    · have hb := val_bd (s.data.toList.take k) (mem_take s k hk _ fun i hi _ => HD.out i hi)
      have hl : (s.data.toList.take k).length ≤ 3 := by simp; omega
      have hp := pow_le _ hl
      have v1 : 0 ≤ val (s.data.toList.take k) := hb.1
      have v2 : val (s.data.toList.take k) ≤ 999 := by omega
      have hc := (isd_iff _).1 (HD.out k hlt)
      obtain ⟨c1, c2⟩ := hc
      have VS := Lib.hid (show val (s.data.toList.take (k + 1)) = val (s.data.toList.take k) * 10 + ((s[k].toNat : Int) - 48) by rw [take_snoc s k hlt, val_snoc])
      clear hb hl hp
      go_wp2
      go_round
      case rel => exact ⟨k + 1, by omega, by go_num, by rw [VS.out]⟩
      case measure => simp [intOf]; omega
    · go_wp2
      go_ret2
      exact ⟨ret_of (by rw [List.take_of_length_le (by simp; omega)]), rfl⟩

set_option maxHeartbeats 400000 in
theorem digits_no (s : ByteArray) (w : World) (hs : s.size ≤ 4) (j : Nat) (hj : j < s.size) (hd : ∀ i (h : i < s.size), i < j → isd s[i] = true) (hn : isd s[j] = false) :
    Calls Tryz.prog 148 #[.string s] w fun e w' => e = .returned (.tuple #[.int .i64 0, .bool false]) ∧ w = w' := by
  have HD := Lib.hid hd
  have HN := Lib.hid hn
  clear hd hn
  go_enter Tryz.func148, Tryz.ntmps148
  go_wp2
  go_loop [4, 8] (fun n i => ∃ k : Nat, k ≤ j ∧ i = .int .i64 k ∧ n = .int .i64 (val (s.data.toList.take k))) (fun _ i => s.size - (intOf i).toNat)
  case atStart => exact ⟨0, Nat.zero_le _, rfl, rfl⟩
  case round =>
    obtain ⟨k, hk, rfl, rfl⟩ := hrel
    have hlt : k < s.size := by omega
    by_cases hkj : k < j
    · have hb := val_bd (s.data.toList.take k) (mem_take s k (by omega) _ fun i hi h => HD.out i hi (by omega))
      have hl : (s.data.toList.take k).length ≤ 3 := by simp; omega
      have hp := pow_le _ hl
      have v1 : 0 ≤ val (s.data.toList.take k) := hb.1
      have v2 : val (s.data.toList.take k) ≤ 999 := by omega
      have hc := (isd_iff _).1 (HD.out k hlt hkj)
      obtain ⟨c1, c2⟩ := hc
      have VS := Lib.hid (show val (s.data.toList.take (k + 1)) = val (s.data.toList.take k) * 10 + ((s[k].toNat : Int) - 48) by rw [take_snoc s k hlt, val_snoc])
      clear hb hl hp
      go_wp2
      go_round
      case rel => exact ⟨k + 1, by omega, by go_num, by rw [VS.out]⟩
      case measure => simp [intOf]; omega
    · obtain rfl : k = j := by omega
      have hc := (isd_no _).1 HN.out
      by_cases h48 : (s[k].toNat : Int) < 48
      · clear hc
        go_wp2
        go_ret2
        exact ⟨rfl, rfl⟩
      · have h57 : 57 < (s[k].toNat : Int) := by omega
        clear hc
        go_wp2
        go_ret2
        exact ⟨rfl, rfl⟩
end Go.Proofs.YtocpmljkmdpfkaaGreatDoor
/-
  Contract of civil.Parse: of any text of ten bytes, of any other one.
-/
namespace Go.Proofs.YtocpmljkmdpfkaaGreatDoor
open Go.RowKit

/-- are all bytes digits? -/
def ds (s : ByteArray) : Bool := s.data.toList.all isd
/-- their number; 0 if they aren't digits all -/
def dv (s : ByteArray) : Int := if ds s = true then val s.data.toList else 0
theorem ds_at {s : ByteArray} (h : ds s = true) (i : Nat) (hi : i < s.size) : isd s[i] = true := by
  have := List.all_eq_true.1 h s[i] (by
    have e : s[i] = s.data.toList[i]'(by simpa using hi) := rfl
    rw [e]; exact List.getElem_mem _)
  exact this
theorem ds_of {s : ByteArray} (h : ∀ i (hi : i < s.size), isd s[i] = true) : ds s = true := by
  refine List.all_eq_true.2 fun c hc => ?_
  obtain ⟨i, hi, rfl⟩ := List.mem_iff_getElem.1 hc
  exact h i (by simpa using hi)
theorem least (p : Nat → Prop) : ∀ n, p n → ∃ j, j ≤ n ∧ p j ∧ ∀ i, i < j → ¬ p i := by
  intro n
  induction n using Nat.strongRecOn with
  | ind n ih =>
    intro hp
    by_cases h : ∃ i, i < n ∧ p i
    · obtain ⟨i, hi, hpi⟩ := h
      obtain ⟨j, hj, a, b⟩ := ih i hi hpi
      exact ⟨j, by omega, a, b⟩
    · exact ⟨n, Nat.le_refl _, hp, fun i hi hpi => h ⟨i, hi, hpi⟩⟩
theorem digits_any (s : ByteArray) (w : World) (hs : s.size ≤ 4) : Calls Tryz.prog 148 #[.string s] w fun e w' => e = .returned (.tuple #[.int .i64 (dv s), .bool (ds s)]) ∧ w = w' := by
  by_cases h : ds s = true
  · rw [show dv s = val s.data.toList by simp [dv, h], h]
    exact digits_yes s w hs fun i hi => ds_at h i hi
  · have h0 : ds s = false := by simpa using h
    rw [show dv s = 0 by simp [dv, h], h0]
    have hex : ∃ i, ∃ hi : i < s.size, isd s[i] = false := by
      by_cases g : ∃ i, ∃ hi : i < s.size, isd s[i] = false
      · exact g
      · exact absurd (ds_of fun i hi => by
          cases e : isd s[i]
          · exact absurd ⟨i, hi, e⟩ g
          · rfl) h
    obtain ⟨n, hn⟩ := hex
    obtain ⟨j, _, ⟨hj, e⟩, hb⟩ := least (fun i => ∃ hi : i < s.size, isd s[i] = false) n hn
    refine digits_no s w hs j hj (fun i hi hij => ?_) e
    cases e' : isd s[i]
    · exact absurd ⟨hi, e'⟩ (hb i hij)
    · rfl
theorem dv_bd (s : ByteArray) (n : Nat) (hs : s.size ≤ n) : 0 ≤ dv s ∧ dv s < 10 ^ n := by
  have hp : (0 : Int) < 10 ^ n := Int.pow_pos (by decide)
  unfold dv
  split
  · rename_i h
    have b := val_bd s.data.toList (fun c hc => List.all_eq_true.1 h c hc)
    have e : s.data.toList.length = s.size := by simp
    rw [e] at b
    have hm : (10 : Int) ^ s.size ≤ 10 ^ n := by
      have := Nat.pow_le_pow_right (n := 10) (by decide) hs
      exact_mod_cast this
    omega
  · omega

theorem piece_size (s : ByteArray) (a b : Nat) (h : b ≤ s.size) : (s.extract a b).size = b - a := by simp; omega

theorem parse_dash4 (s : ByteArray) (w : World) (h : s.size = 10) (h4 : 4 < s.size) (d4 : s[4].toNat ≠ 45) : Calls Tryz.prog 120 #[.string s] w fun e w' => e = .returned (.tuple #[.int .i64 0, .bool false]) ∧ w = w' := by
  have h' : ((s.size : Int) != 10) = false := by simp; omega
  have d' : ((s[4].toNat : Int) != 45) = true := by simp; omega
  clear h d4
  go_enter Tryz.func120, Tryz.ntmps120
  go_wp2
  go_ret2
  exact ⟨rfl, rfl⟩
theorem parse_dash7 (s : ByteArray) (w : World) (h : s.size = 10) (h4 : 4 < s.size) (h7 : 7 < s.size) (d4 : s[4].toNat = 45) (d7 : s[7].toNat ≠ 45) : Calls Tryz.prog 120 #[.string s] w fun e w' => e = .returned (.tuple #[.int .i64 0, .bool false]) ∧ w = w' := by
  have h' : ((s.size : Int) != 10) = false := by simp; omega
  have d' : ((s[4].toNat : Int) != 45) = false := by simp; omega
  have e' : ((s[7].toNat : Int) != 45) = true := by simp; omega
  clear h d4 d7
  go_enter Tryz.func120, Tryz.ntmps120
  go_wp2
  go_ret2
  exact ⟨rfl, rfl⟩

set_option maxHeartbeats 400000 in
/-- of ten bytes with both hyphens: by the digits -/
theorem parse_ten (s : ByteArray) (w : World) (n : Int) (b : Bool) (h : s.size = 10) (h4 : 4 < s.size) (h7 : 7 < s.size) (d4 : s[4].toNat = 45) (d7 : s[7].toNat = 45)
    (hno : (ds (s.extract 0 4) && ds (s.extract 5 7) && ds (s.extract 8 s.size)) = false → n = 0 ∧ b = false)
    (hyes : (ds (s.extract 0 4) && ds (s.extract 5 7) && ds (s.extract 8 s.size)) = true → Calls Tryz.prog 84 #[.int .i64 (dv (s.extract 0 4)), .int .i64 (dv (s.extract 5 7)), .int .i64 (dv (s.extract 8 s.size))] w fun e w' => e = .returned (.tuple #[.int .i64 n, .bool b]) ∧ w = w') :
    Calls Tryz.prog 120 #[.string s] w fun e w' => e = .returned (.tuple #[.int .i64 n, .bool b]) ∧ w = w' := by
  have h' : ((s.size : Int) != 10) = false := by simp; omega
  have d' : ((s[4].toNat : Int) != 45) = false := by simp; omega
  have e' : ((s[7].toNat : Int) != 45) = false := by simp; omega
  have z1 := piece_size s 0 4 (by omega)
  have z2 := piece_size s 5 7 (by omega)
  have z3 := piece_size s 8 s.size (by omega)
  have Z1 := Lib.hid z1
  have Z2 := Lib.hid z2
  have Z3 := Lib.hid z3
  have H := Lib.hid h
  have HY := Lib.hid hyes
  have HN := Lib.hid hno
  clear d4 d7 z1 z2 z3 hno hyes
  have s4 : 4 ≤ s.size := by omega
  have s7 : 7 ≤ s.size := by omega
  have s8 : 8 ≤ s.size := by omega
  have sl : ∀ wx, (Instr.slice 9 (.string s) (some (.int .i64 5)) (some (.int .i64 7)) none).run Tryz.prog wx = .ok (.string (s.extract 5 7)) wx := fun wx => run_slice_string wx 9 s .i64 .i64 5 7 Tryz.underlying9 (by decide) (by decide) (by omega)
  clear h s7
  by_cases hall : (ds (s.extract 0 4) && ds (s.extract 5 7) && ds (s.extract 8 s.size)) = true
  · have hy := Lib.hid (HY.out hall)
    have P1 := Lib.hid (show ds (s.extract 0 4) = true by simp at hall; exact hall.1.1)
    have P2 := Lib.hid (show ds (s.extract 5 7) = true by simp at hall; exact hall.1.2)
    have P3 := Lib.hid (show ds (s.extract 8 s.size) = true by simp at hall; exact hall.2)
    clear hall HY HN
    go_enter Tryz.func120, Tryz.ntmps120
    go_wp2_with fail
    refine (digits_any _ _ (by rw [Z1.out]; decide)).mono ?_
    rintro e w' ⟨rfl, rfl⟩
    rw [P1.out]
    go_wp2_with fail
    refine (digits_any _ _ (by rw [Z2.out]; decide)).mono ?_
    rintro e w' ⟨rfl, rfl⟩
    rw [P2.out]
    go_wp2_with fail
    refine (digits_any _ _ (by rw [Z3.out, H.out]; decide)).mono ?_
    rintro e w' ⟨rfl, rfl⟩
    rw [P3.out]
    go_wp2_with fail
    refine hy.out.mono ?_
    rintro e w' ⟨rfl, rfl⟩
    go_wp2
    go_ret2
    exact ⟨rfl, rfl⟩
  · obtain ⟨rfl, rfl⟩ := HN.out (by simpa using hall)
    have hc : ds (s.extract 0 4) = false ∨ (ds (s.extract 0 4) = true ∧ ds (s.extract 5 7) = false) ∨ (ds (s.extract 0 4) = true ∧ ds (s.extract 5 7) = true ∧ ds (s.extract 8 s.size) = false) := by
      cases e1 : ds (s.extract 0 4) <;> cases e2 : ds (s.extract 5 7) <;> cases e3 : ds (s.extract 8 s.size) <;> simp_all
    clear hall HY HN
    rcases hc with p1 | ⟨p1, p2⟩ | ⟨p1, p2, p3⟩
    all_goals
      have P1 := Lib.hid p1
      first | have P2 := Lib.hid p2 | skip
      first | have P3 := Lib.hid p3 | skip
      clear p1
      first | clear p2 | skip
      first | clear p3 | skip
      go_enter Tryz.func120, Tryz.ntmps120
      go_wp2_with fail
      refine (digits_any _ _ (by rw [Z1.out]; decide)).mono ?_
      rintro e w' ⟨rfl, rfl⟩
      rw [P1.out]
      go_wp2_with fail
      refine (digits_any _ _ (by rw [Z2.out]; decide)).mono ?_
      rintro e w' ⟨rfl, rfl⟩
      first | rw [P2.out] | skip
      go_wp2_with fail
      refine (digits_any _ _ (by rw [Z3.out, H.out]; decide)).mono ?_
      rintro e w' ⟨rfl, rfl⟩
      first | rw [P3.out] | skip
      go_wp2
      go_ret2
      exact ⟨rfl, rfl⟩
end Go.Proofs.YtocpmljkmdpfkaaGreatDoor
/-
  Contract of civil.Parse, of a date's text.
-/
namespace Go.Proofs.YtocpmljkmdpfkaaGreatDoor
open Go.RowKit

theorem isd_dig (n : Int) : isd (dig n) = true := by
  rw [isd_iff, dig_toNat]; omega
theorem ext_list {s t : ByteArray} (h : s.data.toList = t.data.toList) : s = t := by
  cases s; cases t; simp at h; exact congrArg _ (by simpa using h)
theorem txt_0 (y m d : Int) : (txt y m d).extract 0 4 = pad4 y := ext_list (by rw [Lib.extract_data]; rfl)
theorem txt_5 (y m d : Int) : (txt y m d).extract 5 7 = pad2 m := ext_list (by rw [Lib.extract_data]; rfl)
theorem txt_8 (y m d : Int) : (txt y m d).extract 8 (txt y m d).size = pad2 d := ext_list (by rw [Lib.extract_data]; rfl)
theorem ds_pad4 (n : Int) : ds (pad4 n) = true := by
  show ([dig (n / 1000), dig (n / 100), dig (n / 10), dig n].all isd) = true
  simp [isd_dig]
theorem ds_pad2 (n : Int) : ds (pad2 n) = true := by
  show ([dig (n / 10), dig n].all isd) = true
  simp [isd_dig]
theorem dv_pad4 (n : Int) (h0 : 0 ≤ n) (h1 : n ≤ 9999) : dv (pad4 n) = n := by
  unfold dv
  rw [if_pos (ds_pad4 n)]
  show val [dig (n / 1000), dig (n / 100), dig (n / 10), dig n] = n
  simp only [val, List.foldl, dig_toNat]
  omega
theorem dv_pad2 (n : Int) (h0 : 0 ≤ n) (h1 : n ≤ 99) : dv (pad2 n) = n := by
  unfold dv
  rw [if_pos (ds_pad2 n)]
  show val [dig (n / 10), dig n] = n
  simp only [val, List.foldl, dig_toNat]
  omega
theorem parse_txt (n y m d : Int) (w : World) (hM : Months w) (h : Cal.Is n y m d) : Calls Tryz.prog 120 #[.string (txt y m d)] w fun e w' => e = .returned (.tuple #[.int .i64 n, .bool true]) ∧ w = w' := by
  obtain ⟨y1, y2, m1, m2, d1, d2, hn⟩ := h
  have dl := Cal.dim_le y m
  refine parse_ten (txt y m d) w n true rfl (show 4 < 10 by decide) (show 7 < 10 by decide) rfl rfl ?_ ?_
  · rw [txt_0, txt_5, txt_8, ds_pad4, ds_pad2, ds_pad2]; intro h; cases h
  · intro _
    rw [txt_0, txt_5, txt_8, dv_pad4 y (by omega) y2, dv_pad2 m (by omega) (by omega), dv_pad2 d (by omega) (by omega), hn]
    exact of_yes y m d w hM y1 y2 m1 m2 d1 d2
end Go.Proofs.YtocpmljkmdpfkaaGreatDoor
/-
  civil.Parse of any ten bytes: a date's text, or none.
-/
namespace Go.Proofs.YtocpmljkmdpfkaaGreatDoor
open Go.RowKit

/-- is it a date's text? -/
def Good (s : ByteArray) : Prop := ∃ n y m d, Cal.Is n y m d ∧ s = txt y m d

theorem ten_bytes (s : ByteArray) (h : s.size = 10) : ∃ b0 b1 b2 b3 b4 b5 b6 b7 b8 b9 : UInt8, s = ⟨#[b0, b1, b2, b3, b4, b5, b6, b7, b8, b9]⟩ := by
  obtain ⟨⟨l⟩⟩ := s
  have hl : l.length = 10 := h
  match l, hl with
  | [b0, b1, b2, b3, b4, b5, b6, b7, b8, b9], _ => exact ⟨b0, b1, b2, b3, b4, b5, b6, b7, b8, b9, rfl⟩

theorem dig_of (c : UInt8) (h : isd c = true) (n : Int) (e : n % 10 = (c.toNat : Int) - 48) : dig n = c := by
  have hc := (isd_iff c).1 h
  apply UInt8.toNat_inj.1
  have := dig_toNat n
  omega
theorem good_of (s : ByteArray) (h : s.size = 10) (h4 : 4 < s.size) (h7 : 7 < s.size) (d4 : s[4].toNat = 45) (d7 : s[7].toNat = 45)
    (hd : (ds (s.extract 0 4) && ds (s.extract 5 7) && ds (s.extract 8 s.size)) = true) : s = txt (dv (s.extract 0 4)) (dv (s.extract 5 7)) (dv (s.extract 8 s.size)) := by
  obtain ⟨b0, b1, b2, b3, b4, b5, b6, b7, b8, b9, rfl⟩ := ten_bytes s h
  have e4 : b4.toNat = 45 := d4
  have e7 : b7.toNat = 45 := d7
  have f4 : b4 = 45 := UInt8.toNat_inj.1 e4
  have f7 : b7 = 45 := UInt8.toNat_inj.1 e7
  subst f4 f7
  have p0 : (ByteArray.mk #[b0, b1, b2, b3, 45, b5, b6, 45, b8, b9]).extract 0 4 = ⟨#[b0, b1, b2, b3]⟩ := ext_list (by rw [Lib.extract_data]; rfl)
  have p1 : (ByteArray.mk #[b0, b1, b2, b3, 45, b5, b6, 45, b8, b9]).extract 5 7 = ⟨#[b5, b6]⟩ := ext_list (by rw [Lib.extract_data]; rfl)
  have p2 : (ByteArray.mk #[b0, b1, b2, b3, 45, b5, b6, 45, b8, b9]).extract 8 (ByteArray.mk #[b0, b1, b2, b3, 45, b5, b6, 45, b8, b9]).size = ⟨#[b8, b9]⟩ := ext_list (by rw [Lib.extract_data]; rfl)
  rw [p0, p1, p2] at hd ⊢
  simp only [Bool.and_eq_true] at hd
  obtain ⟨⟨q0, q1⟩, q2⟩ := hd
  have v0 : dv ⟨#[b0, b1, b2, b3]⟩ = (((0 * 10 + ((b0.toNat : Int) - 48)) * 10 + ((b1.toNat : Int) - 48)) * 10 + ((b2.toNat : Int) - 48)) * 10 + ((b3.toNat : Int) - 48) := by
    unfold dv; rw [if_pos q0]; rfl
  have v1 : dv ⟨#[b5, b6]⟩ = (0 * 10 + ((b5.toNat : Int) - 48)) * 10 + ((b6.toNat : Int) - 48) := by
    unfold dv; rw [if_pos q1]; rfl
  have v2 : dv ⟨#[b8, b9]⟩ = (0 * 10 + ((b8.toNat : Int) - 48)) * 10 + ((b9.toNat : Int) - 48) := by
    unfold dv; rw [if_pos q2]; rfl
  have a0 : ([b0, b1, b2, b3].all isd) = true := q0
  have a1 : ([b5, b6].all isd) = true := q1
  have a2 : ([b8, b9].all isd) = true := q2
  simp only [List.all_cons, List.all_nil, Bool.and_true, Bool.and_eq_true] at a0 a1 a2
  obtain ⟨i0, i1, i2, i3⟩ := a0
  obtain ⟨i5, i6⟩ := a1
  obtain ⟨i8, i9⟩ := a2
  have j0 := (isd_iff _).1 i0
  have j1 := (isd_iff _).1 i1
  have j2 := (isd_iff _).1 i2
  have j3 := (isd_iff _).1 i3
  have j5 := (isd_iff _).1 i5
  have j6 := (isd_iff _).1 i6
  have j8 := (isd_iff _).1 i8
  have j9 := (isd_iff _).1 i9
  rw [v0, v1, v2]
  unfold txt
  rw [dig_of b0 i0 _ (by omega), dig_of b1 i1 _ (by omega), dig_of b2 i2 _ (by omega), dig_of b3 i3 _ (by omega), dig_of b5 i5 _ (by omega), dig_of b6 i6 _ (by omega), dig_of b8 i8 _ (by omega), dig_of b9 i9 _ (by omega)]

/-- ten bytes of digits and hyphens that are no date's text: the date isn't one -/
theorem bad_date (s : ByteArray) (hg : ¬ Good s) (h : s.size = 10) (h4 : 4 < s.size) (h7 : 7 < s.size) (d4 : s[4].toNat = 45) (d7 : s[7].toNat = 45)
    (hd : (ds (s.extract 0 4) && ds (s.extract 5 7) && ds (s.extract 8 s.size)) = true) :
    dv (s.extract 0 4) < 1 ∨ dv (s.extract 5 7) < 1 ∨ 12 < dv (s.extract 5 7) ∨ dv (s.extract 8 s.size) < 1 ∨ Cal.dim (dv (s.extract 0 4)) (dv (s.extract 5 7)) < dv (s.extract 8 s.size) := by
  have e := good_of s h h4 h7 d4 d7 hd
  have b0 := dv_bd (s.extract 0 4) 4 (by rw [piece_size s 0 4 (by omega)]; decide)
  have p : (10 : Int) ^ 4 = 10000 := by decide
  rw [p] at b0
  generalize dv (s.extract 0 4) = y at *
  generalize dv (s.extract 5 7) = m at *
  generalize dv (s.extract 8 s.size) = d at *
  by_cases c : 1 ≤ y ∧ 1 ≤ m ∧ m ≤ 12 ∧ 1 ≤ d ∧ d ≤ Cal.dim y m
  · exact absurd ⟨_, y, m, d, Cal.is_num c.1 (by omega) c.2.1 c.2.2.1 c.2.2.2.1 c.2.2.2.2, e⟩ hg
  · omega
theorem parse_bad (s : ByteArray) (w : World) (hM : Months w) (hg : ¬ Good s) (h : s.size = 10) : Calls Tryz.prog 120 #[.string s] w fun e w' => e = .returned (.tuple #[.int .i64 0, .bool false]) ∧ w = w' := by
  have h4 : 4 < s.size := by omega
  have h7 : 7 < s.size := by omega
  by_cases d4 : s[4].toNat = 45
  · by_cases d7 : s[7].toNat = 45
    · refine parse_ten s w 0 false h h4 h7 d4 d7 (fun _ => ⟨rfl, rfl⟩) (fun hd => ?_)
      have hb := bad_date s hg h h4 h7 d4 d7 hd
      refine of_no _ _ _ w hM ?_
      by_cases c : 1 ≤ dv (s.extract 0 4) ∧ dv (s.extract 0 4) ≤ 9999
      · rw [Cal.long_of c.1 c.2]
        have := Cal.dim_cases (dv (s.extract 0 4)) (dv (s.extract 5 7))
        omega
      · have e : Cal.long (dv (s.extract 0 4)) (dv (s.extract 5 7)) = 0 := by simp [Cal.long, c]
        rw [e]; omega
    · exact parse_dash7 s w h h4 h7 d4 d7
  · exact parse_dash4 s w h h4 d4
end Go.Proofs.YtocpmljkmdpfkaaGreatDoor
