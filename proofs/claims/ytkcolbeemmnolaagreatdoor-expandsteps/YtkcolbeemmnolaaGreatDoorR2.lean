/-
  Plain: what chapter 2 asks of a rule's fields, as functions of numbers and lists.
-/
import Derived.Lib.Hide
import Derived.Test.YtkcolbeemmnolaaGreatDoorW4
import Derived.Handy
namespace Go.Proofs.YtkcolbeemmnolaaGreatDoor.Rul

def btw (n lo hi : Int) : Bool := decide (lo ≤ n ∧ n ≤ hi)
theorem btw_yes {n lo hi : Int} (a : lo ≤ n) (b : n ≤ hi) : btw n lo hi = true := by simp [btw, a, b]
theorem btw_no {n lo hi : Int} (a : n < lo ∨ hi < n) : btw n lo hi = false := by simp [btw]; omega
theorem btw_iff {n lo hi : Int} : btw n lo hi = true ↔ lo ≤ n ∧ n ≤ hi := by simp [btw]
theorem btw_false {n lo hi : Int} : btw n lo hi = false ↔ n < lo ∨ hi < n := by simp [btw]; omega
def inM (m : Int) : Bool := btw m 1 12
def inD (d : Int) : Bool := d != 0 && btw d (-31) 31
def inP (p : Int) : Bool := p != 0 && btw p (-366) 366
/-- the greatest N of a weekday -/
def most (f : Int) : Int := if f = 2 then 5 else if f = 3 then 53 else 0
theorem most_bd (f : Int) : 0 ≤ most f ∧ most f ≤ 53 := by unfold most; split <;> (try split) <;> omega
def inW (f : Int) (x : Int × Int) : Bool := btw x.2 0 6 && btw x.1 (-(most f)) (most f)
def cmpI (a b : Int) : Int := if a < b then -1 else if b < a then 1 else 0
theorem cmpI_lt {a b : Int} (h : a < b) : cmpI a b = -1 := by simp [cmpI, h]
theorem cmpI_gt {a b : Int} (h : b < a) : cmpI a b = 1 := by simp [cmpI, h]; omega
theorem cmpI_eq (a : Int) : cmpI a a = 0 := by simp [cmpI]
theorem cmpI_zero {a b : Int} : cmpI a b = 0 ↔ a = b := by unfold cmpI; split <;> (try split) <;> omega
theorem cmpI_neg {a b : Int} : cmpI a b < 0 ↔ a < b := by unfold cmpI; split <;> (try split) <;> omega
theorem cmpI_bd (a b : Int) : -1 ≤ cmpI a b ∧ cmpI a b ≤ 1 := by unfold cmpI; split <;> (try split) <;> omega
def cmpN (a b : Int × Int) : Int := if cmpI a.1 b.1 = 0 then cmpI a.2 b.2 else cmpI a.1 b.1
theorem cmpN_bd (a b : Int × Int) : -1 ≤ cmpN a b ∧ cmpN a b ≤ 1 := by
  have := cmpI_bd a.1 b.1; have := cmpI_bd a.2 b.2; unfold cmpN; split <;> omega
theorem cmpN_neg {a b : Int × Int} : cmpN a b < 0 ↔ a.1 < b.1 ∨ a.1 = b.1 ∧ a.2 < b.2 := by
  unfold cmpN; have h1 := @cmpI_zero a.1 b.1; have h2 := @cmpI_neg a.1 b.1; have h3 := @cmpI_neg a.2 b.2
  split <;> omega

/-- from the element at k on: the first fault of a list: 3 out of range, 4 out of order; 0: none -/
def step {α : Type} (p : α → Bool) (c : α → α → Int) (l : List α) (k : Nat) : Int :=
  if h : k < l.length then
    if p l[k] = false then 3
    else if 0 < k ∧ 0 ≤ c (l[k - 1]'(by omega)) l[k] then 4
    else step p c l (k + 1)
  else 0
termination_by l.length - k

section
variable {α : Type} {p : α → Bool} {c : α → α → Int} {l : List α} {k : Nat}
theorem step_end (h : ¬ k < l.length) : step p c l k = 0 := by rw [step, dif_neg h]
theorem step_range (h : k < l.length) (hp : p l[k] = false) : step p c l k = 3 := by rw [step, dif_pos h, if_pos hp]
theorem step_order (h : k < l.length) (hp : p l[k] = true) (h0 : 0 < k) (hc : 0 ≤ c (l[k - 1]'(by omega)) l[k]) : step p c l k = 4 := by
  rw [step, dif_pos h, if_neg (by simp [hp]), if_pos ⟨h0, hc⟩]
theorem step_next (h : k < l.length) (hp : p l[k] = true) (h0 : 0 < k) (hc : c (l[k - 1]'(by omega)) l[k] < 0) : step p c l k = step p c l (k + 1) := by
  conv => lhs; rw [step]
  rw [dif_pos h, if_neg (by simp [hp]), if_neg (by omega)]
theorem step_first (h : 0 < l.length) (hp : p l[0] = true) : step p c l 0 = step p c l 1 := by
  conv => lhs; rw [step]
  rw [dif_pos h, if_neg (by simp [hp]), if_neg (by omega)]
theorem step_cases (p : α → Bool) (c : α → α → Int) (l : List α) (k : Nat) : step p c l k = 0 ∨ step p c l k = 3 ∨ step p c l k = 4 := by
  by_cases h : k < l.length
  · cases hp : p l[k]
    · exact .inr (.inl (step_range h hp))
    · by_cases h0 : 0 < k ∧ 0 ≤ c (l[k - 1]'(by omega)) l[k]
      · exact .inr (.inr (step_order h hp h0.1 h0.2))
      · have e : step p c l k = step p c l (k + 1) := by
          conv => lhs; rw [step]
          rw [dif_pos h, if_neg (by simp [hp]), if_neg h0]
        rw [e]; exact step_cases p c l (k + 1)
  · exact .inl (step_end h)
termination_by l.length - k
end

/-- a list's fault: 2 too long; then its first element's -/
def chkL {α : Type} (p : α → Bool) (c : α → α → Int) (l : List α) : Int := if 64 < l.length then 2 else step p c l 0
theorem chkL_long {α : Type} {p : α → Bool} {c : α → α → Int} {l : List α} (h : 64 < l.length) : chkL p c l = 2 := by simp [chkL, h]
theorem chkL_short {α : Type} {p : α → Bool} {c : α → α → Int} {l : List α} (h : l.length ≤ 64) : chkL p c l = step p c l 0 := by simp [chkL]; omega
theorem chkL_cases {α : Type} (p : α → Bool) (c : α → α → Int) (l : List α) : chkL p c l = 0 ∨ chkL p c l = 2 ∨ chkL p c l = 3 ∨ chkL p c l = 4 := by
  unfold chkL; split
  · exact .inr (.inl rfl)
  · rcases step_cases p c l 0 with h | h | h <;> simp [h]

/-- no such period -/
def noFreq (f : Int) : Bool := decide (f < 0 ∨ 4 ≤ f)
/-- a number out of its range -/
def badNum (iv c u : Int) : Bool := !(btw iv 1 999) || !(btw c 0 9999) || (u != 0 && !(btw u 1 3652059))
def nums (iv c u : Int) : Int := if badNum iv c u then 3 else if c != 0 && u != 0 then 7 else 0
def lists (f : Int) (M D : List Int) (W : List (Int × Int)) (P : List Int) : Int :=
  if chkL inM cmpI M != 0 then chkL inM cmpI M else if chkL inD cmpI D != 0 then chkL inD cmpI D
  else if chkL (inW f) cmpN W != 0 then chkL (inW f) cmpN W else chkL inP cmpI P
/-- what is left of 'lists' from the list at j on -/
def after (f : Int) (M D : List Int) (W : List (Int × Int)) (P : List Int) : Nat → Int
  | 0 => lists f M D W P
  | 1 => if chkL inD cmpI D != 0 then chkL inD cmpI D else if chkL (inW f) cmpN W != 0 then chkL (inW f) cmpN W else chkL inP cmpI P
  | 2 => if chkL (inW f) cmpN W != 0 then chkL (inW f) cmpN W else chkL inP cmpI P
  | 3 => chkL inP cmpI P
  | _ => 0
theorem after_bad0 {f : Int} {M D : List Int} {W : List (Int × Int)} {P : List Int} {x : Int} (h : chkL inM cmpI M = x) (hx : x ≠ 0) : after f M D W P 0 = x := by simp [after, lists, h, hx]
theorem after_bad1 {f : Int} {M D : List Int} {W : List (Int × Int)} {P : List Int} {x : Int} (h : chkL inD cmpI D = x) (hx : x ≠ 0) : after f M D W P 1 = x := by simp [after, h, hx]
theorem after_bad2 {f : Int} {M D : List Int} {W : List (Int × Int)} {P : List Int} {x : Int} (h : chkL (inW f) cmpN W = x) (hx : x ≠ 0) : after f M D W P 2 = x := by simp [after, h, hx]
theorem after_bad3 {f : Int} {M D : List Int} {W : List (Int × Int)} {P : List Int} {x : Int} (h : chkL inP cmpI P = x) (_ : x ≠ 0) : after f M D W P 3 = x := by simp [after, h]
theorem after_ok0 {f : Int} {M D : List Int} {W : List (Int × Int)} {P : List Int} (h : chkL inM cmpI M = 0) : after f M D W P 0 = after f M D W P 1 := by simp [after, lists, h]
theorem after_ok1 {f : Int} {M D : List Int} {W : List (Int × Int)} {P : List Int} (h : chkL inD cmpI D = 0) : after f M D W P 1 = after f M D W P 2 := by simp [after, h]
theorem after_ok2 {f : Int} {M D : List Int} {W : List (Int × Int)} {P : List Int} (h : chkL (inW f) cmpN W = 0) : after f M D W P 2 = after f M D W P 3 := by simp [after, h]
theorem after_ok3 {f : Int} {M D : List Int} {W : List (Int × Int)} {P : List Int} (h : chkL inP cmpI P = 0) : after f M D W P 3 = after f M D W P 4 := by simp [after, h]
/-- days by weeks; positions alone -/
def odd (f : Int) (M D : List Int) (W : List (Int × Int)) (P : List Int) : Bool :=
  f == 1 && decide (0 < D.length) || decide (0 < P.length) && !(decide (0 < M.length) || decide (0 < D.length) || decide (0 < W.length))
/-- what Check answers behind the numbers -/
def tail (f : Int) (M D : List Int) (W : List (Int × Int)) (P : List Int) : Int :=
  if lists f M D W P != 0 then lists f M D W P else if odd f M D W P then 6 else 0
theorem tail_bad {f : Int} {M D : List Int} {W : List (Int × Int)} {P : List Int} {x : Int} (h : lists f M D W P = x) (hx : x ≠ 0) : tail f M D W P = x := by simp [tail, h, hx]
theorem tail_ok {f : Int} {M D : List Int} {W : List (Int × Int)} {P : List Int} (h : lists f M D W P = 0) : tail f M D W P = if odd f M D W P then 6 else 0 := by simp [tail, h]
/-- chapter 2's Check -/
def check (f iv c u : Int) (M D : List Int) (W : List (Int × Int)) (P : List Int) : Int :=
  if noFreq f then 6 else if nums iv c u != 0 then nums iv c u else if lists f M D W P != 0 then lists f M D W P
  else if odd f M D W P then 6 else 0
end Go.Proofs.YtkcolbeemmnolaaGreatDoor.Rul
/-
  Contracts of rule's and the law's leaf functions.
-/
namespace Go.Proofs.YtkcolbeemmnolaaGreatDoor
open Go.RowKit

theorem between_any (n lo hi : Int) (w : World) : Calls Tryz.prog 147 #[.int .i64 n, .int .i64 lo, .int .i64 hi] w fun e w' => e = .returned (.bool (Rul.btw n lo hi)) ∧ w = w' := by
  by_cases a : lo ≤ n
  · by_cases b : n ≤ hi
    · have E := Lib.hid (Rul.btw_yes a b)
      go_enter Tryz.func147, Tryz.ntmps147
      go_wp2
      go_ret
      exact ⟨ret_bool E.out.symm, rfl⟩
    · have E := Lib.hid (Rul.btw_no (n := n) (lo := lo) (hi := hi) (by omega))
      go_enter Tryz.func147, Tryz.ntmps147
      go_wp2
      go_ret
      exact ⟨ret_bool E.out.symm, rfl⟩
  · have E := Lib.hid (Rul.btw_no (n := n) (lo := lo) (hi := hi) (by omega))
    go_enter Tryz.func147, Tryz.ntmps147
    go_wp2
    go_ret
    exact ⟨ret_bool E.out.symm, rfl⟩

theorem isMonth_any (n : Int) (w : World) : Calls Tryz.prog 149 #[.int .i64 n] w fun e w' => e = .returned (.bool (Rul.inM n)) ∧ w = w' := by
  go_enter Tryz.func149, Tryz.ntmps149
  go_wp2_with fail
  refine (between_any _ _ _ _).mono ?_
  rintro e w' ⟨rfl, rfl⟩
  go_wp2
  go_ret
  exact ⟨rfl, rfl⟩

theorem isMonthDay_any (n : Int) (w : World) : Calls Tryz.prog 150 #[.int .i64 n] w fun e w' => e = .returned (.bool (Rul.inD n)) ∧ w = w' := by
  by_cases h : n = 0
  · subst h
    go_enter Tryz.func150, Tryz.ntmps150
    go_wp2
    go_ret
    exact ⟨rfl, rfl⟩
  · have h' : (n != 0) = true := by simpa using h
    have E := Lib.hid (show Rul.inD n = Rul.btw n (-31) 31 by simp [Rul.inD, h])
    clear h
    go_enter Tryz.func150, Tryz.ntmps150
    go_wp2_with fail
    refine (between_any _ _ _ _).mono ?_
    rintro e w' ⟨rfl, rfl⟩
    go_wp2
    go_ret
    exact ⟨ret_bool E.out.symm, rfl⟩
theorem isPos_any (n : Int) (w : World) : Calls Tryz.prog 154 #[.int .i64 n] w fun e w' => e = .returned (.bool (Rul.inP n)) ∧ w = w' := by
  by_cases h : n = 0
  · subst h
    go_enter Tryz.func154, Tryz.ntmps154
    go_wp2
    go_ret
    exact ⟨rfl, rfl⟩
  · have h' : (n != 0) = true := by simpa using h
    have E := Lib.hid (show Rul.inP n = Rul.btw n (-366) 366 by simp [Rul.inP, h])
    clear h
    go_enter Tryz.func154, Tryz.ntmps154
    go_wp2_with fail
    refine (between_any _ _ _ _).mono ?_
    rintro e w' ⟨rfl, rfl⟩
    go_wp2
    go_ret
    exact ⟨ret_bool E.out.symm, rfl⟩

theorem maxNth_any (f : Int) (w : World) : Calls Tryz.prog 151 #[.int .i64 f] w fun e w' => e = .returned (.int .i64 (Rul.most f)) ∧ w = w' := by
  by_cases h2 : f = 2
  · subst h2
    go_enter Tryz.func151, Tryz.ntmps151
    go_wp2
    go_ret
    exact ⟨rfl, rfl⟩
  · by_cases h3 : f = 3
    · subst h3
      go_enter Tryz.func151, Tryz.ntmps151
      go_wp2
      go_ret
      exact ⟨rfl, rfl⟩
    · have E := Lib.hid (show Rul.most f = 0 by simp [Rul.most, h2, h3])
      have h2' : (f == 2) = false := by simpa using h2
      have h3' : (f == 3) = false := by simpa using h3
      clear h2 h3
      go_enter Tryz.func151, Tryz.ntmps151
      go_wp2
      go_ret
      exact ⟨ret_int E.out.symm, rfl⟩

theorem isNaN_int (n : Int) (w : World) : Calls Tryz.prog 109 #[.int .i64 n] w fun e w' => e = .returned (.bool false) ∧ w = w' := by
  go_enter Tryz.func109, Tryz.ntmps109
  go_wp2
  go_ret
  exact ⟨by simp, rfl⟩
theorem compare_int (a b : Int) (w : World) : Calls Tryz.prog 91 #[.int .i64 a, .int .i64 b] w fun e w' => e = .returned (.int .i64 (Rul.cmpI a b)) ∧ w = w' := by
  rcases Int.lt_trichotomy a b with h | h | h
  · have E := Lib.hid (Rul.cmpI_lt h)
    go_enter Tryz.func91, Tryz.ntmps91
    go_wp2_with (go_at_call 109; refine (isNaN_int _ _).mono ?_; rintro e w' ⟨rfl, rfl⟩)
    go_ret
    exact ⟨ret_int E.out.symm, rfl⟩
  · subst h
    have E := Lib.hid (Rul.cmpI_eq a)
    go_enter Tryz.func91, Tryz.ntmps91
    go_wp2_with (go_at_call 109; refine (isNaN_int _ _).mono ?_; rintro e w' ⟨rfl, rfl⟩)
    go_ret
    exact ⟨ret_int E.out.symm, rfl⟩
  · have E := Lib.hid (Rul.cmpI_gt h)
    have h' : ¬ a < b := by omega
    go_enter Tryz.func91, Tryz.ntmps91
    go_wp2_with (go_at_call 109; refine (isNaN_int _ _).mono ?_; rintro e w' ⟨rfl, rfl⟩)
    go_ret
    exact ⟨ret_int E.out.symm, rfl⟩
end Go.Proofs.YtkcolbeemmnolaaGreatDoor
/-
  Contracts of rule.Order, the closure over weekdays, the law's outside, and rule.checkList at numbers.
-/
namespace Go.Proofs.YtkcolbeemmnolaaGreatDoor
open Go.RowKit

/-- a slice's numbers lie in memory -/
def IntsIn (w : World) (A : Option Addr) (l : List Int) : Prop :=
  ∀ k (h : k < l.length), ∃ ad : Addr, A = some ad ∧ ad.block < w.heap.size ∧ w.cell? (ad.add k) = some (.int .i64 l[k])
theorem block_add (a : Addr) (n : Nat) : (a.add n).block = a.block := by unfold Addr.add; split <;> rfl
theorem IntsIn.below {w w' : World} {A : Option Addr} {l : List Int} (h : IntsIn w A l) (hb : Below w.heap.size w w') : IntsIn w' A l := fun k hk => by
  obtain ⟨ad, rfl, hlt, hc⟩ := h k hk
  exact ⟨ad, rfl, Nat.lt_of_lt_of_le hlt hb.size, (hb.cell (p := ad.add k) (by rw [block_add]; exact hlt)).trans hc⟩

theorem order_any (a b c d : Int) (w : World) : Calls Tryz.prog 93 #[.agg #[.int .i64 a, .int .i64 b], .agg #[.int .i64 c, .int .i64 d]] w fun e w' => e = .returned (.int .i64 (Rul.cmpN (a, b) (c, d))) ∧ Below w.heap.size w w' := by
  by_cases h : Rul.cmpI a c = 0
  · have E := Lib.hid (show Rul.cmpN (a, b) (c, d) = Rul.cmpI b d by simp [Rul.cmpN, h])
    have Z := Lib.hid h
    clear h
    go_enter Tryz.func93, Tryz.ntmps93
    go_wp2_with fail
    refine (compare_int _ _ _).mono ?_
    rintro e w' ⟨rfl, rfl⟩
    rw [Z.out]
    go_wp2_with fail
    refine (compare_int _ _ _).mono ?_
    rintro e w' ⟨rfl, rfl⟩
    go_wp2
    go_ret
    exact ⟨ret_int E.out.symm, by go_grown⟩
  · have E := Lib.hid (show Rul.cmpN (a, b) (c, d) = Rul.cmpI a c by simp [Rul.cmpN, h])
    have h' : (Rul.cmpI a c != 0) = true := by simpa using h
    clear h
    go_enter Tryz.func93, Tryz.ntmps93
    go_wp2_with fail
    refine (compare_int _ _ _).mono ?_
    rintro e w' ⟨rfl, rfl⟩
    go_wp2
    go_ret
    exact ⟨ret_int E.out.symm, by go_grown⟩

theorem inW_any (f n d : Int) (p : Addr) (w : World) (hc : w.cell? p = some (.int .i64 (Rul.most f))) (hp : p.block < w.heap.size) :
    Calls Tryz.prog 152 #[.agg #[.int .i64 n, .int .i64 d], .pointer (some p)] w fun e w' => e = .returned (.bool (Rul.inW f (n, d))) ∧ Below w.heap.size w w' := by
  have hm := Rul.most_bd f
  have hc' : ∀ o, (w.alloc o).cell? p = some (.int .i64 (Rul.most f)) := fun o => (World.cell?_alloc_lt w o p hp).trans hc
  cases hb : Rul.btw d 0 6
  · have E := Lib.hid (show Rul.inW f (n, d) = false by simp [Rul.inW, hb])
    have B := Lib.hid hb
    clear hb
    go_enter Tryz.func152, Tryz.ntmps152
    go_wp2_with fail
    refine (between_any _ _ _ _).mono ?_
    rintro e w' ⟨rfl, rfl⟩
    rw [B.out]
    go_wp2
    go_ret
    exact ⟨ret_bool E.out.symm, by go_grown⟩
  · have E := Lib.hid (show Rul.inW f (n, d) = Rul.btw n (-(Rul.most f)) (Rul.most f) by simp [Rul.inW, hb])
    have B := Lib.hid hb
    clear hb
    go_enter Tryz.func152, Tryz.ntmps152
    go_wp2_with fail
    refine (between_any _ _ _ _).mono ?_
    rintro e w' ⟨rfl, rfl⟩
    rw [B.out]
    go_wp2_with fail
    refine (between_any _ _ _ _).mono ?_
    rintro e w' ⟨rfl, rfl⟩
    go_wp2
    go_ret
    exact ⟨ret_bool E.out.symm, by go_grown⟩

end Go.Proofs.YtkcolbeemmnolaaGreatDoor
