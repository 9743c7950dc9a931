/-
  Plain: what chapter 2 asks of a rule's fields, as functions of numbers and lists.
-/
import Derived.Lib.Hide
import Derived.Test.YtnggajehngemmaaGreatDoorW4
import Derived.Handy
import Derived.StillTailTactics
import Derived.BigQuiet
import Derived.IntWalk
import Derived.Test.YtnggajehngemmaaGreatDoorBase
import Derived.ChangeSlices
import Derived.Deep.Slices
import Derived.Deep.Fields
import Derived.WideKeyArgs
import Derived.Below
namespace Go.Proofs.YtnggajehngemmaaGreatDoor.Rul

def btw (n lo hi : Int) : Bool := decide (lo ≤ n ∧ n ≤ hi)
theorem btw_yes {n lo hi : Int} (a : lo ≤ n) (b : n ≤ hi) : btw n lo hi = true := by simp [btw, a, b]
theorem btw_no {n lo hi : Int} (a : n < lo ∨ hi < n) : btw n lo hi = false := by simp [btw]; omega
theorem btw_iff {n lo hi : Int} : btw n lo hi = true ↔ lo ≤ n ∧ n ≤ hi := by simp [btw]
theorem btw_false {n lo hi : Int} : btw n lo hi = false ↔ n < lo ∨ hi < n := by simp [btw]; omega
def inM (m : Int) : Bool := btw m 1 12
def inD (d : Int) : Bool := d != 0 && btw d (-31) 31
def inP (p : Int) : Bool := p != 0 && btw p (-366) 366
/-- the greatest N of a weekday -/
def most (f : Int) : Int := if f = 2 then 5 else if f = 3 then 53 else 0
theorem most_bd (f : Int) : 0 ≤ most f ∧ most f ≤ 53 := by unfold most; split <;> (try split) <;> omega
def inW (f : Int) (x : Int × Int) : Bool := btw x.2 0 6 && btw x.1 (-(most f)) (most f)
def cmpI (a b : Int) : Int := if a < b then -1 else if b < a then 1 else 0
theorem cmpI_lt {a b : Int} (h : a < b) : cmpI a b = -1 := by simp [cmpI, h]
theorem cmpI_gt {a b : Int} (h : b < a) : cmpI a b = 1 := by simp [cmpI, h]; omega
theorem cmpI_eq (a : Int) : cmpI a a = 0 := by simp [cmpI]
theorem cmpI_zero {a b : Int} : cmpI a b = 0 ↔ a = b := by unfold cmpI; split <;> (try split) <;> omega
theorem cmpI_neg {a b : Int} : cmpI a b < 0 ↔ a < b := by unfold cmpI; split <;> (try split) <;> omega
theorem cmpI_bd (a b : Int) : -1 ≤ cmpI a b ∧ cmpI a b ≤ 1 := by unfold cmpI; split <;> (try split) <;> omega
def cmpN (a b : Int × Int) : Int := if cmpI a.1 b.1 = 0 then cmpI a.2 b.2 else cmpI a.1 b.1
theorem cmpN_bd (a b : Int × Int) : -1 ≤ cmpN a b ∧ cmpN a b ≤ 1 := by
  have := cmpI_bd a.1 b.1; have := cmpI_bd a.2 b.2; unfold cmpN; split <;> omega
theorem cmpN_neg {a b : Int × Int} : cmpN a b < 0 ↔ a.1 < b.1 ∨ a.1 = b.1 ∧ a.2 < b.2 := by
  unfold cmpN; have h1 := @cmpI_zero a.1 b.1; have h2 := @cmpI_neg a.1 b.1; have h3 := @cmpI_neg a.2 b.2
  split <;> omega

/-- from the element at k on: the first fault of a list: 3 out of range, 4 out of order; 0: none -/
def step {α : Type} (p : α → Bool) (c : α → α → Int) (l : List α) (k : Nat) : Int :=
  if h : k < l.length then
    if p l[k] = false then 3
    else if 0 < k ∧ 0 ≤ c (l[k - 1]'(by omega)) l[k] then 4
    else step p c l (k + 1)
  else 0
termination_by l.length - k

section
variable {α : Type} {p : α → Bool} {c : α → α → Int} {l : List α} {k : Nat}
theorem step_end (h : ¬ k < l.length) : step p c l k = 0 := by rw [step, dif_neg h]
theorem step_range (h : k < l.length) (hp : p l[k] = false) : step p c l k = 3 := by rw [step, dif_pos h, if_pos hp]
theorem step_order (h : k < l.length) (hp : p l[k] = true) (h0 : 0 < k) (hc : 0 ≤ c (l[k - 1]'(by omega)) l[k]) : step p c l k = 4 := by
  rw [step, dif_pos h, if_neg (by simp [hp]), if_pos ⟨h0, hc⟩]
theorem step_next (h : k < l.length) (hp : p l[k] = true) (h0 : 0 < k) (hc : c (l[k - 1]'(by omega)) l[k] < 0) : step p c l k = step p c l (k + 1) := by
  conv => lhs; rw [step]
  rw [dif_pos h, if_neg (by simp [hp]), if_neg (by omega)]
theorem step_first (h : 0 < l.length) (hp : p l[0] = true) : step p c l 0 = step p c l 1 := by
  conv => lhs; rw [step]
  rw [dif_pos h, if_neg (by simp [hp]), if_neg (by omega)]
theorem step_cases (p : α → Bool) (c : α → α → Int) (l : List α) (k : Nat) : step p c l k = 0 ∨ step p c l k = 3 ∨ step p c l k = 4 := by
  by_cases h : k < l.length
  · cases hp : p l[k]
    · exact .inr (.inl (step_range h hp))
    · by_cases h0 : 0 < k ∧ 0 ≤ c (l[k - 1]'(by omega)) l[k]
      · exact .inr (.inr (step_order h hp h0.1 h0.2))
      · have e : step p c l k = step p c l (k + 1) := by
          conv => lhs; rw [step]
          rw [dif_pos h, if_neg (by simp [hp]), if_neg h0]
        rw [e]; exact step_cases p c l (k + 1)
  · exact .inl (step_end h)
termination_by l.length - k
end

/-- a list's fault: 2 too long; then its first element's -/
def chkL {α : Type} (p : α → Bool) (c : α → α → Int) (l : List α) : Int := if 64 < l.length then 2 else step p c l 0
theorem chkL_long {α : Type} {p : α → Bool} {c : α → α → Int} {l : List α} (h : 64 < l.length) : chkL p c l = 2 := by simp [chkL, h]
theorem chkL_short {α : Type} {p : α → Bool} {c : α → α → Int} {l : List α} (h : l.length ≤ 64) : chkL p c l = step p c l 0 := by simp [chkL]; omega
theorem chkL_cases {α : Type} (p : α → Bool) (c : α → α → Int) (l : List α) : chkL p c l = 0 ∨ chkL p c l = 2 ∨ chkL p c l = 3 ∨ chkL p c l = 4 := by
  unfold chkL; split
  · exact .inr (.inl rfl)
  · rcases step_cases p c l 0 with h | h | h <;> simp [h]

/-- no such period -/
def noFreq (f : Int) : Bool := decide (f < 0 ∨ 4 ≤ f)
/-- a number out of its range -/
def badNum (iv c u : Int) : Bool := !(btw iv 1 999) || !(btw c 0 9999) || (u != 0 && !(btw u 1 3652059))
def nums (iv c u : Int) : Int := if badNum iv c u then 3 else if c != 0 && u != 0 then 7 else 0
def lists (f : Int) (M D : List Int) (W : List (Int × Int)) (P : List Int) : Int :=
  if chkL inM cmpI M != 0 then chkL inM cmpI M else if chkL inD cmpI D != 0 then chkL inD cmpI D
  else if chkL (inW f) cmpN W != 0 then chkL (inW f) cmpN W else chkL inP cmpI P
/-- what is left of 'lists' from the list at j on -/
def after (f : Int) (M D : List Int) (W : List (Int × Int)) (P : List Int) : Nat → Int
  | 0 => lists f M D W P
  | 1 => if chkL inD cmpI D != 0 then chkL inD cmpI D else if chkL (inW f) cmpN W != 0 then chkL (inW f) cmpN W else chkL inP cmpI P
  | 2 => if chkL (inW f) cmpN W != 0 then chkL (inW f) cmpN W else chkL inP cmpI P
  | 3 => chkL inP cmpI P
  | _ => 0
theorem after_bad0 {f : Int} {M D : List Int} {W : List (Int × Int)} {P : List Int} {x : Int} (h : chkL inM cmpI M = x) (hx : x ≠ 0) : after f M D W P 0 = x := by simp [after, lists, h, hx]
theorem after_bad1 {f : Int} {M D : List Int} {W : List (Int × Int)} {P : List Int} {x : Int} (h : chkL inD cmpI D = x) (hx : x ≠ 0) : after f M D W P 1 = x := by simp [after, h, hx]
theorem after_bad2 {f : Int} {M D : List Int} {W : List (Int × Int)} {P : List Int} {x : Int} (h : chkL (inW f) cmpN W = x) (hx : x ≠ 0) : after f M D W P 2 = x := by simp [after, h, hx]
theorem after_bad3 {f : Int} {M D : List Int} {W : List (Int × Int)} {P : List Int} {x : Int} (h : chkL inP cmpI P = x) (_ : x ≠ 0) : after f M D W P 3 = x := by simp [after, h]
theorem after_ok0 {f : Int} {M D : List Int} {W : List (Int × Int)} {P : List Int} (h : chkL inM cmpI M = 0) : after f M D W P 0 = after f M D W P 1 := by simp [after, lists, h]
theorem after_ok1 {f : Int} {M D : List Int} {W : List (Int × Int)} {P : List Int} (h : chkL inD cmpI D = 0) : after f M D W P 1 = after f M D W P 2 := by simp [after, h]
theorem after_ok2 {f : Int} {M D : List Int} {W : List (Int × Int)} {P : List Int} (h : chkL (inW f) cmpN W = 0) : after f M D W P 2 = after f M D W P 3 := by simp [after, h]
theorem after_ok3 {f : Int} {M D : List Int} {W : List (Int × Int)} {P : List Int} (h : chkL inP cmpI P = 0) : after f M D W P 3 = after f M D W P 4 := by simp [after, h]
/-- days by weeks; positions alone -/
def odd (f : Int) (M D : List Int) (W : List (Int × Int)) (P : List Int) : Bool :=
  f == 1 && decide (0 < D.length) || decide (0 < P.length) && !(decide (0 < M.length) || decide (0 < D.length) || decide (0 < W.length))
/-- what Check answers behind the numbers -/
def tail (f : Int) (M D : List Int) (W : List (Int × Int)) (P : List Int) : Int :=
  if lists f M D W P != 0 then lists f M D W P else if odd f M D W P then 6 else 0
theorem tail_bad {f : Int} {M D : List Int} {W : List (Int × Int)} {P : List Int} {x : Int} (h : lists f M D W P = x) (hx : x ≠ 0) : tail f M D W P = x := by simp [tail, h, hx]
theorem tail_ok {f : Int} {M D : List Int} {W : List (Int × Int)} {P : List Int} (h : lists f M D W P = 0) : tail f M D W P = if odd f M D W P then 6 else 0 := by simp [tail, h]
/-- chapter 2's Check -/
def check (f iv c u : Int) (M D : List Int) (W : List (Int × Int)) (P : List Int) : Int :=
  if noFreq f then 6 else if nums iv c u != 0 then nums iv c u else if lists f M D W P != 0 then lists f M D W P
  else if odd f M D W P then 6 else 0
end Go.Proofs.YtnggajehngemmaaGreatDoor.Rul
/-
  Contracts of rule's and the law's leaf functions.
-/
namespace Go.Proofs.YtnggajehngemmaaGreatDoor
open Go.RowKit

theorem between_any (n lo hi : Int) (w : World) : Calls Tryz.prog 60 #[.int .i64 n, .int .i64 lo, .int .i64 hi] w fun e w' => e = .returned (.bool (Rul.btw n lo hi)) ∧ w = w' := by
  by_cases a : lo ≤ n
  · by_cases b : n ≤ hi
    · have E := Lib.hid (Rul.btw_yes a b)
      go_enter Tryz.func60, Tryz.ntmps60
      go_wp2
      go_ret
      exact ⟨ret_bool E.out.symm, rfl⟩
    · have E := Lib.hid (Rul.btw_no (n := n) (lo := lo) (hi := hi) (by omega))
      go_enter Tryz.func60, Tryz.ntmps60
      go_wp2
      go_ret
      exact ⟨ret_bool E.out.symm, rfl⟩
  · have E := Lib.hid (Rul.btw_no (n := n) (lo := lo) (hi := hi) (by omega))
    go_enter Tryz.func60, Tryz.ntmps60
    go_wp2
    go_ret
    exact ⟨ret_bool E.out.symm, rfl⟩

theorem isMonth_any (n : Int) (w : World) : Calls Tryz.prog 63 #[.int .i64 n] w fun e w' => e = .returned (.bool (Rul.inM n)) ∧ w = w' := by
  go_enter Tryz.func63, Tryz.ntmps63
  go_wp2_with fail
  refine (between_any _ _ _ _).mono ?_
  rintro e w' ⟨rfl, rfl⟩
  go_wp2
  go_ret
  exact ⟨rfl, rfl⟩

theorem isMonthDay_any (n : Int) (w : World) : Calls Tryz.prog 64 #[.int .i64 n] w fun e w' => e = .returned (.bool (Rul.inD n)) ∧ w = w' := by
  by_cases h : n = 0
  · subst h
    go_enter Tryz.func64, Tryz.ntmps64
    go_wp2
    go_ret
    exact ⟨rfl, rfl⟩
  · have h' : (n != 0) = true := by simpa using h
    have E := Lib.hid (show Rul.inD n = Rul.btw n (-31) 31 by simp [Rul.inD, h])
    clear h
    go_enter Tryz.func64, Tryz.ntmps64
    go_wp2_with fail
    refine (between_any _ _ _ _).mono ?_
    rintro e w' ⟨rfl, rfl⟩
    go_wp2
    go_ret
    exact ⟨ret_bool E.out.symm, rfl⟩
theorem isPos_any (n : Int) (w : World) : Calls Tryz.prog 68 #[.int .i64 n] w fun e w' => e = .returned (.bool (Rul.inP n)) ∧ w = w' := by
  by_cases h : n = 0
  · subst h
    go_enter Tryz.func68, Tryz.ntmps68
    go_wp2
    go_ret
    exact ⟨rfl, rfl⟩
  · have h' : (n != 0) = true := by simpa using h
    have E := Lib.hid (show Rul.inP n = Rul.btw n (-366) 366 by simp [Rul.inP, h])
    clear h
    go_enter Tryz.func68, Tryz.ntmps68
    go_wp2_with fail
    refine (between_any _ _ _ _).mono ?_
    rintro e w' ⟨rfl, rfl⟩
    go_wp2
    go_ret
    exact ⟨ret_bool E.out.symm, rfl⟩

theorem maxNth_any (f : Int) (w : World) : Calls Tryz.prog 65 #[.int .i64 f] w fun e w' => e = .returned (.int .i64 (Rul.most f)) ∧ w = w' := by
  by_cases h2 : f = 2
  · subst h2
    go_enter Tryz.func65, Tryz.ntmps65
    go_wp2
    go_ret
    exact ⟨rfl, rfl⟩
  · by_cases h3 : f = 3
    · subst h3
      go_enter Tryz.func65, Tryz.ntmps65
      go_wp2
      go_ret
      exact ⟨rfl, rfl⟩
    · have E := Lib.hid (show Rul.most f = 0 by simp [Rul.most, h2, h3])
      have h2' : (f == 2) = false := by simpa using h2
      have h3' : (f == 3) = false := by simpa using h3
      clear h2 h3
      go_enter Tryz.func65, Tryz.ntmps65
      go_wp2
      go_ret
      exact ⟨ret_int E.out.symm, rfl⟩

theorem isNaN_int (n : Int) (w : World) : Calls Tryz.prog 56 #[.int .i64 n] w fun e w' => e = .returned (.bool false) ∧ w = w' := by
  go_enter Tryz.func56, Tryz.ntmps56
  go_wp2
  go_ret
  exact ⟨by simp, rfl⟩
theorem compare_int (a b : Int) (w : World) : Calls Tryz.prog 32 #[.int .i64 a, .int .i64 b] w fun e w' => e = .returned (.int .i64 (Rul.cmpI a b)) ∧ w = w' := by
  rcases Int.lt_trichotomy a b with h | h | h
  · have E := Lib.hid (Rul.cmpI_lt h)
    go_enter Tryz.func32, Tryz.ntmps32
    go_wp2_with (go_at_call 56; refine (isNaN_int _ _).mono ?_; rintro e w' ⟨rfl, rfl⟩)
    go_ret
    exact ⟨ret_int E.out.symm, rfl⟩
  · subst h
    have E := Lib.hid (Rul.cmpI_eq a)
    go_enter Tryz.func32, Tryz.ntmps32
    go_wp2_with (go_at_call 56; refine (isNaN_int _ _).mono ?_; rintro e w' ⟨rfl, rfl⟩)
    go_ret
    exact ⟨ret_int E.out.symm, rfl⟩
  · have E := Lib.hid (Rul.cmpI_gt h)
    have h' : ¬ a < b := by omega
    go_enter Tryz.func32, Tryz.ntmps32
    go_wp2_with (go_at_call 56; refine (isNaN_int _ _).mono ?_; rintro e w' ⟨rfl, rfl⟩)
    go_ret
    exact ⟨ret_int E.out.symm, rfl⟩
end Go.Proofs.YtnggajehngemmaaGreatDoor
/-
  Contracts of rule.Order, the closure over weekdays, the law's outside, and rule.checkList at numbers.
-/
namespace Go.Proofs.YtnggajehngemmaaGreatDoor
open Go.RowKit

/-- a slice's numbers lie in memory -/
def IntsIn (w : World) (A : Option Addr) (l : List Int) : Prop :=
  ∀ k (h : k < l.length), ∃ ad : Addr, A = some ad ∧ ad.block < w.heap.size ∧ w.cell? (ad.add k) = some (.int .i64 l[k])
theorem block_add (a : Addr) (n : Nat) : (a.add n).block = a.block := by unfold Addr.add; split <;> rfl
theorem IntsIn.below {w w' : World} {A : Option Addr} {l : List Int} (h : IntsIn w A l) (hb : Below w.heap.size w w') : IntsIn w' A l := fun k hk => by
  obtain ⟨ad, rfl, hlt, hc⟩ := h k hk
  exact ⟨ad, rfl, Nat.lt_of_lt_of_le hlt hb.size, (hb.cell (p := ad.add k) (by rw [block_add]; exact hlt)).trans hc⟩

theorem order_any (a b c d : Int) (w : World) : Calls Tryz.prog 34 #[.agg #[.int .i64 a, .int .i64 b], .agg #[.int .i64 c, .int .i64 d]] w fun e w' => e = .returned (.int .i64 (Rul.cmpN (a, b) (c, d))) ∧ Below w.heap.size w w' := by
  by_cases h : Rul.cmpI a c = 0
  · have E := Lib.hid (show Rul.cmpN (a, b) (c, d) = Rul.cmpI b d by simp [Rul.cmpN, h])
    have Z := Lib.hid h
    clear h
    go_enter Tryz.func34, Tryz.ntmps34
    go_wp2_with fail
    refine (compare_int _ _ _).mono ?_
    rintro e w' ⟨rfl, rfl⟩
    rw [Z.out]
    go_wp2_with fail
    refine (compare_int _ _ _).mono ?_
    rintro e w' ⟨rfl, rfl⟩
    go_wp2
    go_ret
    exact ⟨ret_int E.out.symm, by go_grown⟩
  · have E := Lib.hid (show Rul.cmpN (a, b) (c, d) = Rul.cmpI a c by simp [Rul.cmpN, h])
    have h' : (Rul.cmpI a c != 0) = true := by simpa using h
    clear h
    go_enter Tryz.func34, Tryz.ntmps34
    go_wp2_with fail
    refine (compare_int _ _ _).mono ?_
    rintro e w' ⟨rfl, rfl⟩
    go_wp2
    go_ret
    exact ⟨ret_int E.out.symm, by go_grown⟩

theorem inW_any (f n d : Int) (p : Addr) (w : World) (hc : w.cell? p = some (.int .i64 (Rul.most f))) (hp : p.block < w.heap.size) :
    Calls Tryz.prog 66 #[.agg #[.int .i64 n, .int .i64 d], .pointer (some p)] w fun e w' => e = .returned (.bool (Rul.inW f (n, d))) ∧ Below w.heap.size w w' := by
  have hm := Rul.most_bd f
  have hc' : ∀ o, (w.alloc o).cell? p = some (.int .i64 (Rul.most f)) := fun o => (World.cell?_alloc_lt w o p hp).trans hc
  cases hb : Rul.btw d 0 6
  · have E := Lib.hid (show Rul.inW f (n, d) = false by simp [Rul.inW, hb])
    have B := Lib.hid hb
    clear hb
    go_enter Tryz.func66, Tryz.ntmps66
    go_wp2_with fail
    refine (between_any _ _ _ _).mono ?_
    rintro e w' ⟨rfl, rfl⟩
    rw [B.out]
    go_wp2
    go_ret
    exact ⟨ret_bool E.out.symm, by go_grown⟩
  · have E := Lib.hid (show Rul.inW f (n, d) = Rul.btw n (-(Rul.most f)) (Rul.most f) by simp [Rul.inW, hb])
    have B := Lib.hid hb
    clear hb
    go_enter Tryz.func66, Tryz.ntmps66
    go_wp2_with fail
    refine (between_any _ _ _ _).mono ?_
    rintro e w' ⟨rfl, rfl⟩
    rw [B.out]
    go_wp2_with fail
    refine (between_any _ _ _ _).mono ?_
    rintro e w' ⟨rfl, rfl⟩
    go_wp2
    go_ret
    exact ⟨ret_bool E.out.symm, by go_grown⟩

end Go.Proofs.YtnggajehngemmaaGreatDoor
/-
  Contracts of rule.checkList at numbers.
-/
namespace Go.Proofs.YtnggajehngemmaaGreatDoor
open Go.RowKit

set_option maxHeartbeats 1000000 in
theorem checkM_any (A : Option Addr) (l : List Int) (cap : Nat) (w : World) (h : IntsIn w A l) (hl : l.length ≤ maxLen) :
    Calls Tryz.prog 62 #[.slice A l.length cap, .func (.func 63) #[] #[], .func (.func 32) #[] #[]] w fun e w' => e = .returned (.int .i64 (Rul.chkL Rul.inM Rul.cmpI l)) ∧ w = w' := by
  unfold maxLen at hl
  by_cases h64 : 64 < l.length
  · have E := Lib.hid (Rul.chkL_long (p := Rul.inM) (c := Rul.cmpI) h64)
    go_enter Tryz.func62, Tryz.ntmps62
    go_wp2
    go_ret
    exact ⟨ret_int E.out.symm, rfl⟩
  · have E := Lib.hid (Rul.chkL_short (p := Rul.inM) (c := Rul.cmpI) (l := l) (by omega))
    go_enter Tryz.func62, Tryz.ntmps62
    go_wp2
    go_loop [14] (fun i => ∃ k : Nat, k ≤ l.length ∧ i = .int .i64 k ∧ Hid (Rul.step Rul.inM Rul.cmpI l 0 = Rul.step Rul.inM Rul.cmpI l k)) (fun i => l.length - (intOf i).toNat)
    case atStart => exact ⟨0, Nat.zero_le _, rfl, Lib.hid rfl⟩
    case round =>
      obtain ⟨k, hk, rfl, HS⟩ := hrel
      by_cases hlt : k < l.length
      · obtain ⟨ad, rfl, hb, hc⟩ := h k hlt
        cases hp : Rul.inM l[k]
        · have R := Lib.hid (Rul.step_range (c := Rul.cmpI) hlt hp)
          have HP := Lib.hid hp
          clear hp
          go_wp2_with fail
          refine (isMonth_any _ _).mono ?_
          rintro e w' ⟨rfl, rfl⟩
          rw [HP.out]
          go_wp2
          go_ret
          exact ⟨ret_int (by rw [E.out, HS.out, R.out]), rfl⟩
        · by_cases h0 : 0 < k
          · obtain ⟨ad', ha, _, hc'⟩ := h (k - 1) (by omega)
            obtain rfl : ad = ad' := by injection ha
            clear ha
            have HP := Lib.hid hp
            by_cases ho : Rul.cmpI (l[k - 1]'(by omega)) l[k] < 0
            · have R := Lib.hid (Rul.step_next (c := Rul.cmpI) hlt hp h0 ho)
              clear hp
              go_wp2_with fail
              refine (isMonth_any _ _).mono ?_
              rintro e w' ⟨rfl, rfl⟩
              rw [HP.out]
              go_wp2_with fail
              refine (compare_int _ _ _).mono ?_
              rintro e w' ⟨rfl, rfl⟩
              go_wp2
              go_round
              case rel => exact ⟨k + 1, by omega, by go_num, Lib.hid (by rw [HS.out, R.out])⟩
              case measure => simp [intOf]; omega
            · have ho2 : 0 ≤ Rul.cmpI (l[k - 1]'(by omega)) l[k] := by omega
              have R := Lib.hid (Rul.step_order (c := Rul.cmpI) hlt hp h0 ho2)
              clear hp ho
              go_wp2_with fail
              refine (isMonth_any _ _).mono ?_
              rintro e w' ⟨rfl, rfl⟩
              rw [HP.out]
              go_wp2_with fail
              refine (compare_int _ _ _).mono ?_
              rintro e w' ⟨rfl, rfl⟩
              go_wp2
              go_ret
              exact ⟨ret_int (by rw [E.out, HS.out, R.out]), rfl⟩
          · obtain rfl : k = 0 := by omega
            have R := Lib.hid (Rul.step_first (c := Rul.cmpI) hlt hp)
            have HP := Lib.hid hp
            have hc0 : w.cell? ad = some (.int .i64 l[0]) := by simpa [Addr.add] using hc
            clear hp hc h0
            go_wp2_with fail
            refine (isMonth_any _ _).mono ?_
            rintro e w' ⟨rfl, rfl⟩
            rw [HP.out]
            go_wp2
            go_round
            case rel => exact ⟨1, by omega, by go_num, Lib.hid (by rw [R.out])⟩
            case measure => simp [intOf]; omega
      · have R := Lib.hid (Rul.step_end (p := Rul.inM) (c := Rul.cmpI) hlt)
        go_wp2
        go_ret
        exact ⟨ret_int (by rw [E.out, HS.out, R.out]), rfl⟩

set_option maxHeartbeats 1000000 in
theorem checkD_any (A : Option Addr) (l : List Int) (cap : Nat) (w : World) (h : IntsIn w A l) (hl : l.length ≤ maxLen) :
    Calls Tryz.prog 62 #[.slice A l.length cap, .func (.func 64) #[] #[], .func (.func 32) #[] #[]] w fun e w' => e = .returned (.int .i64 (Rul.chkL Rul.inD Rul.cmpI l)) ∧ w = w' := by
  unfold maxLen at hl
  by_cases h64 : 64 < l.length
  · have E := Lib.hid (Rul.chkL_long (p := Rul.inD) (c := Rul.cmpI) h64)
    go_enter Tryz.func62, Tryz.ntmps62
    go_wp2
    go_ret
    exact ⟨ret_int E.out.symm, rfl⟩
  · have E := Lib.hid (Rul.chkL_short (p := Rul.inD) (c := Rul.cmpI) (l := l) (by omega))
    go_enter Tryz.func62, Tryz.ntmps62
    go_wp2
    go_loop [14] (fun i => ∃ k : Nat, k ≤ l.length ∧ i = .int .i64 k ∧ Hid (Rul.step Rul.inD Rul.cmpI l 0 = Rul.step Rul.inD Rul.cmpI l k)) (fun i => l.length - (intOf i).toNat)
    case atStart => exact ⟨0, Nat.zero_le _, rfl, Lib.hid rfl⟩
    case round =>
      obtain ⟨k, hk, rfl, HS⟩ := hrel
      by_cases hlt : k < l.length
      · obtain ⟨ad, rfl, hb, hc⟩ := h k hlt
        cases hp : Rul.inD l[k]
        · have R := Lib.hid (Rul.step_range (c := Rul.cmpI) hlt hp)
          have HP := Lib.hid hp
          clear hp
          go_wp2_with fail
          refine (isMonthDay_any _ _).mono ?_
          rintro e w' ⟨rfl, rfl⟩
          rw [HP.out]
          go_wp2
          go_ret
          exact ⟨ret_int (by rw [E.out, HS.out, R.out]), rfl⟩
        · by_cases h0 : 0 < k
          · obtain ⟨ad', ha, _, hc'⟩ := h (k - 1) (by omega)
            obtain rfl : ad = ad' := by injection ha
            clear ha
            have HP := Lib.hid hp
            by_cases ho : Rul.cmpI (l[k - 1]'(by omega)) l[k] < 0
            · have R := Lib.hid (Rul.step_next (c := Rul.cmpI) hlt hp h0 ho)
              clear hp
              go_wp2_with fail
              refine (isMonthDay_any _ _).mono ?_
              rintro e w' ⟨rfl, rfl⟩
              rw [HP.out]
              go_wp2_with fail
              refine (compare_int _ _ _).mono ?_
              rintro e w' ⟨rfl, rfl⟩
              go_wp2
              go_round
              case rel => exact ⟨k + 1, by omega, by go_num, Lib.hid (by rw [HS.out, R.out])⟩
              case measure => simp [intOf]; omega
            · have ho2 : 0 ≤ Rul.cmpI (l[k - 1]'(by omega)) l[k] := by omega
              have R := Lib.hid (Rul.step_order (c := Rul.cmpI) hlt hp h0 ho2)
              clear hp ho
              go_wp2_with fail
              refine (isMonthDay_any _ _).mono ?_
              rintro e w' ⟨rfl, rfl⟩
              rw [HP.out]
              go_wp2_with fail
              refine (compare_int _ _ _).mono ?_
              rintro e w' ⟨rfl, rfl⟩
              go_wp2
              go_ret
              exact ⟨ret_int (by rw [E.out, HS.out, R.out]), rfl⟩
          · obtain rfl : k = 0 := by omega
            have R := Lib.hid (Rul.step_first (c := Rul.cmpI) hlt hp)
            have HP := Lib.hid hp
            have hc0 : w.cell? ad = some (.int .i64 l[0]) := by simpa [Addr.add] using hc
            clear hp hc h0
            go_wp2_with fail
            refine (isMonthDay_any _ _).mono ?_
            rintro e w' ⟨rfl, rfl⟩
            rw [HP.out]
            go_wp2
            go_round
            case rel => exact ⟨1, by omega, by go_num, Lib.hid (by rw [R.out])⟩
            case measure => simp [intOf]; omega
      · have R := Lib.hid (Rul.step_end (p := Rul.inD) (c := Rul.cmpI) hlt)
        go_wp2
        go_ret
        exact ⟨ret_int (by rw [E.out, HS.out, R.out]), rfl⟩

set_option maxHeartbeats 1000000 in
theorem checkP_any (A : Option Addr) (l : List Int) (cap : Nat) (w : World) (h : IntsIn w A l) (hl : l.length ≤ maxLen) :
    Calls Tryz.prog 62 #[.slice A l.length cap, .func (.func 68) #[] #[], .func (.func 32) #[] #[]] w fun e w' => e = .returned (.int .i64 (Rul.chkL Rul.inP Rul.cmpI l)) ∧ w = w' := by
  unfold maxLen at hl
  by_cases h64 : 64 < l.length
  · have E := Lib.hid (Rul.chkL_long (p := Rul.inP) (c := Rul.cmpI) h64)
    go_enter Tryz.func62, Tryz.ntmps62
    go_wp2
    go_ret
    exact ⟨ret_int E.out.symm, rfl⟩
  · have E := Lib.hid (Rul.chkL_short (p := Rul.inP) (c := Rul.cmpI) (l := l) (by omega))
    go_enter Tryz.func62, Tryz.ntmps62
    go_wp2
    go_loop [14] (fun i => ∃ k : Nat, k ≤ l.length ∧ i = .int .i64 k ∧ Hid (Rul.step Rul.inP Rul.cmpI l 0 = Rul.step Rul.inP Rul.cmpI l k)) (fun i => l.length - (intOf i).toNat)
    case atStart => exact ⟨0, Nat.zero_le _, rfl, Lib.hid rfl⟩
    case round =>
      obtain ⟨k, hk, rfl, HS⟩ := hrel
      by_cases hlt : k < l.length
      · obtain ⟨ad, rfl, hb, hc⟩ := h k hlt
        cases hp : Rul.inP l[k]
        · have R := Lib.hid (Rul.step_range (c := Rul.cmpI) hlt hp)
          have HP := Lib.hid hp
          clear hp
          go_wp2_with fail
          refine (isPos_any _ _).mono ?_
          rintro e w' ⟨rfl, rfl⟩
          rw [HP.out]
          go_wp2
          go_ret
          exact ⟨ret_int (by rw [E.out, HS.out, R.out]), rfl⟩
        · by_cases h0 : 0 < k
          · obtain ⟨ad', ha, _, hc'⟩ := h (k - 1) (by omega)
            obtain rfl : ad = ad' := by injection ha
            clear ha
            have HP := Lib.hid hp
            by_cases ho : Rul.cmpI (l[k - 1]'(by omega)) l[k] < 0
            · have R := Lib.hid (Rul.step_next (c := Rul.cmpI) hlt hp h0 ho)
              clear hp
              go_wp2_with fail
              refine (isPos_any _ _).mono ?_
              rintro e w' ⟨rfl, rfl⟩
              rw [HP.out]
              go_wp2_with fail
              refine (compare_int _ _ _).mono ?_
              rintro e w' ⟨rfl, rfl⟩
              go_wp2
              go_round
              case rel => exact ⟨k + 1, by omega, by go_num, Lib.hid (by rw [HS.out, R.out])⟩
              case measure => simp [intOf]; omega
            · have ho2 : 0 ≤ Rul.cmpI (l[k - 1]'(by omega)) l[k] := by omega
              have R := Lib.hid (Rul.step_order (c := Rul.cmpI) hlt hp h0 ho2)
              clear hp ho
              go_wp2_with fail
              refine (isPos_any _ _).mono ?_
              rintro e w' ⟨rfl, rfl⟩
              rw [HP.out]
              go_wp2_with fail
              refine (compare_int _ _ _).mono ?_
              rintro e w' ⟨rfl, rfl⟩
              go_wp2
              go_ret
              exact ⟨ret_int (by rw [E.out, HS.out, R.out]), rfl⟩
          · obtain rfl : k = 0 := by omega
            have R := Lib.hid (Rul.step_first (c := Rul.cmpI) hlt hp)
            have HP := Lib.hid hp
            have hc0 : w.cell? ad = some (.int .i64 l[0]) := by simpa [Addr.add] using hc
            clear hp hc h0
            go_wp2_with fail
            refine (isPos_any _ _).mono ?_
            rintro e w' ⟨rfl, rfl⟩
            rw [HP.out]
            go_wp2
            go_round
            case rel => exact ⟨1, by omega, by go_num, Lib.hid (by rw [R.out])⟩
            case measure => simp [intOf]; omega
      · have R := Lib.hid (Rul.step_end (p := Rul.inP) (c := Rul.cmpI) hlt)
        go_wp2
        go_ret
        exact ⟨ret_int (by rw [E.out, HS.out, R.out]), rfl⟩
end Go.Proofs.YtnggajehngemmaaGreatDoor
/-
  Contract of rule.checkList at weekdays.
-/
namespace Go.Proofs.YtnggajehngemmaaGreatDoor
open Go.RowKit

theorem below_drew {B : Nat} {a w : World} (h : Below B a w) : Below B a w.drew := ⟨h.os, h.tape, h.output, h.size, h.block⟩
theorem below_drewN {B : Nat} {a w : World} (h : Below B a w) (n : Nat) : Below B a (w.drewN n) := ⟨h.os, h.tape, h.output, h.size, h.block⟩

/-- a slice's weekdays lie in memory -/
def NthsIn (w : World) (A : Option Addr) (l : List (Int × Int)) : Prop :=
  ∀ k (h : k < l.length), ∃ ad : Addr, A = some ad ∧ ad.block < w.heap.size ∧ w.cell? (ad.add (k * 2)) = some (.int .i64 l[k].1) ∧ w.cell? ((ad.add (k * 2)).add 1) = some (.int .i64 l[k].2)
theorem NthsIn.below {w w' : World} {A : Option Addr} {l : List (Int × Int)} (h : NthsIn w A l) (hb : Below w.heap.size w w') : NthsIn w' A l := fun k hk => by
  obtain ⟨ad, rfl, hlt, hc, hd⟩ := h k hk
  exact ⟨ad, rfl, Nat.lt_of_lt_of_le hlt hb.size, (hb.cell (p := ad.add (k * 2)) (by rw [block_add]; exact hlt)).trans hc, (hb.cell (p := (ad.add (k * 2)).add 1) (by rw [block_add, block_add]; exact hlt)).trans hd⟩

set_option maxHeartbeats 1000000 in
set_option maxRecDepth 100000 in
theorem checkW_any (f : Int) (p : Addr) (A : Option Addr) (l : List (Int × Int)) (cap : Nat) (w : World) (h : NthsIn w A l) (hl : l.length ≤ maxLen) (hc : w.cell? p = some (.int .i64 (Rul.most f))) (hp : p.block < w.heap.size) :
    Calls Tryz.prog 67 #[.slice A l.length cap, .func (.func 66) #[] #[.pointer (some p)], .func (.func 34) #[] #[]] w fun e w' => e = .returned (.int .i64 (Rul.chkL (Rul.inW f) Rul.cmpN l)) ∧ Below w.heap.size w w' := by
  unfold maxLen at hl
  by_cases h64 : 64 < l.length
  · have E := Lib.hid (Rul.chkL_long (p := Rul.inW f) (c := Rul.cmpN) h64)
    go_enter Tryz.func67, Tryz.ntmps67
    go_wp2
    go_ret
    exact ⟨ret_int E.out.symm, Below.refl _ _⟩
  · have E := Lib.hid (Rul.chkL_short (p := Rul.inW f) (c := Rul.cmpN) (l := l) (by omega))
    go_enter Tryz.func67, Tryz.ntmps67
    go_wp2
    go_loopw [14] (fun i wx => ∃ k : Nat, k ≤ l.length ∧ i = .int .i64 k ∧ Hid (Rul.step (Rul.inW f) Rul.cmpN l 0 = Rul.step (Rul.inW f) Rul.cmpN l k) ∧ Below w.heap.size w wx) (fun i _ => l.length - (intOf i).toNat)
    case atStart => exact ⟨0, Nat.zero_le _, rfl, Lib.hid rfl, Below.refl _ _⟩
    case round =>
      obtain ⟨k, hk, rfl, HS, hb⟩ := hrel
      by_cases hlt : k < l.length
      · obtain ⟨ad, rfl, hlb, hc1, hc20⟩ := (h.below hb) k hlt
        have hc2 : wr.cell? ⟨(ad.add (k * 2)).block, (ad.add (k * 2)).off + 1, none⟩ = some (.int .i64 l[k].2) := hc20
        have hcp : wr.cell? p = some (.int .i64 (Rul.most f)) := (hb.cell (p := p) hp).trans hc
        have hpp : p.block < wr.heap.size := Nat.lt_of_lt_of_le hp hb.size
        have hcx : ∀ o, (wr.alloc o).cell? p = some (.int .i64 (Rul.most f)) := fun o => (World.cell?_alloc_lt wr o p hpp).trans hcp
        clear hc20
        cases hq : Rul.inW f l[k]
        · have R := Lib.hid (Rul.step_range (c := Rul.cmpN) hlt hq)
          have HP := Lib.hid hq
          clear hq hcp
          go_wp2_with fail
          refine (inW_any f _ _ _ _ (hcx _) (by simp; omega)).mono ?_
          rintro e w1 ⟨rfl, b1⟩
          rw [HP.out]
          go_wp2
          go_ret
          exact ⟨ret_int (by rw [E.out, HS.out, R.out]), (hb.alloc (hb.size) _).trans (b1.mono (by simp; have := hb.size; omega))⟩
        · by_cases h0 : 0 < k
          · obtain ⟨ad', ha, _, hd10, hd20⟩ := (h.below hb) (k - 1) (by omega)
            obtain rfl : ad = ad' := by injection ha
            clear ha
            have HP := Lib.hid hq
            clear hcp
            by_cases ho : Rul.cmpN (l[k - 1]'(by omega)) l[k] < 0
            · have R := Lib.hid (Rul.step_next (c := Rul.cmpN) hlt hq h0 ho)
              have ho3 : Rul.cmpN ((l[k - 1]'(by omega)).1, (l[k - 1]'(by omega)).2) (l[k].1, l[k].2) < 0 := ho
              clear hq ho
              go_wp2_with fail
              refine (inW_any f _ _ _ _ (hcx _) (by simp; omega)).mono ?_
              rintro e w1 ⟨rfl, b1⟩
              rw [HP.out]
              have B1 : Below w.heap.size w w1 := (hb.alloc (hb.size) _).trans (b1.mono (by simp; have := hb.size; omega))
              have hx1 : w1.cell? ⟨wr.heap.size, 0, none⟩ = some (.int .i64 l[k].1) := (b1.cell (p := ⟨wr.heap.size, 0, none⟩) (by simp)).trans (by simp)
              have hx2 : w1.cell? ⟨wr.heap.size, 1, none⟩ = some (.int .i64 l[k].2) := (b1.cell (p := ⟨wr.heap.size, 1, none⟩) (by simp)).trans (by simp)
              have hd1 : w1.cell? (ad.add ((k - 1) * 2)) = some (.int .i64 (l[k - 1]'(by omega)).1) := (b1.cell (p := ad.add ((k - 1) * 2)) (by simp [block_add]; omega)).trans ((World.cell?_alloc_lt wr _ _ (by rw [block_add]; exact hlb)).trans hd10)
              have hd2 : w1.cell? ⟨(ad.add ((k - 1) * 2)).block, (ad.add ((k - 1) * 2)).off + 1, none⟩ = some (.int .i64 (l[k - 1]'(by omega)).2) := (b1.cell (p := (ad.add ((k - 1) * 2)).add 1) (by simp [block_add]; omega)).trans ((World.cell?_alloc_lt wr _ _ (by rw [block_add, block_add]; exact hlb)).trans hd20)
              clear b1 hcx hc1 hc2 hd10 hd20
              go_wp2_with fail
              have q2 : (0 : Int) ≤ (k : Int) - 1 := by omega
              have q3 : (1 : Int) ≤ (k : Int) := by omega
              have q4 : (k : Int) - 1 < (l.length : Int) := by omega
              have q5 : ((k : Int) - 1).toNat = k - 1 := by omega
              have q1 : IntKind.i64.wrap ((k : Int) - 1) = (k : Int) - 1 := IntWalk.i64_in _ (by omega)
              go_still_tail 10, (by kernel_rfl)
              clear q1 q5
              change wpList _ _ _ _ _ w1.drew
              have B2 := below_drew B1
              generalize w1.drew = w2 at B2
              clear B1 hx1 hx2 hd1 hd2
              go_wp2_with fail
              refine (order_any _ _ _ _ _).mono ?_
              rintro e w3 ⟨rfl, b3⟩
              have B3 : Below w.heap.size w w3 := B2.trans (b3.mono B2.size)
              go_wp2
              go_roundw
              case rel => exact ⟨k + 1, by omega, by go_num, Lib.hid (by rw [HS.out, R.out]), B3⟩
              case measure => simp [intOf]; omega
            · have ho2 : 0 ≤ Rul.cmpN (l[k - 1]'(by omega)) l[k] := by omega
              have R := Lib.hid (Rul.step_order (c := Rul.cmpN) hlt hq h0 ho2)
              have ho3 : 0 ≤ Rul.cmpN ((l[k - 1]'(by omega)).1, (l[k - 1]'(by omega)).2) (l[k].1, l[k].2) := ho2
              clear hq ho ho2
              go_wp2_with fail
              refine (inW_any f _ _ _ _ (hcx _) (by simp; omega)).mono ?_
              rintro e w1 ⟨rfl, b1⟩
              rw [HP.out]
              have B1 : Below w.heap.size w w1 := (hb.alloc (hb.size) _).trans (b1.mono (by simp; have := hb.size; omega))
              have hx1 : w1.cell? ⟨wr.heap.size, 0, none⟩ = some (.int .i64 l[k].1) := (b1.cell (p := ⟨wr.heap.size, 0, none⟩) (by simp)).trans (by simp)
              have hx2 : w1.cell? ⟨wr.heap.size, 1, none⟩ = some (.int .i64 l[k].2) := (b1.cell (p := ⟨wr.heap.size, 1, none⟩) (by simp)).trans (by simp)
              have hd1 : w1.cell? (ad.add ((k - 1) * 2)) = some (.int .i64 (l[k - 1]'(by omega)).1) := (b1.cell (p := ad.add ((k - 1) * 2)) (by simp [block_add]; omega)).trans ((World.cell?_alloc_lt wr _ _ (by rw [block_add]; exact hlb)).trans hd10)
              have hd2 : w1.cell? ⟨(ad.add ((k - 1) * 2)).block, (ad.add ((k - 1) * 2)).off + 1, none⟩ = some (.int .i64 (l[k - 1]'(by omega)).2) := (b1.cell (p := (ad.add ((k - 1) * 2)).add 1) (by simp [block_add]; omega)).trans ((World.cell?_alloc_lt wr _ _ (by rw [block_add, block_add]; exact hlb)).trans hd20)
              clear b1 hcx hc1 hc2 hd10 hd20
              go_wp2_with fail
              have q2 : (0 : Int) ≤ (k : Int) - 1 := by omega
              have q3 : (1 : Int) ≤ (k : Int) := by omega
              have q4 : (k : Int) - 1 < (l.length : Int) := by omega
              have q5 : ((k : Int) - 1).toNat = k - 1 := by omega
              have q1 : IntKind.i64.wrap ((k : Int) - 1) = (k : Int) - 1 := IntWalk.i64_in _ (by omega)
              go_still_tail 10, (by kernel_rfl)
              clear q1 q5
              change wpList _ _ _ _ _ w1.drew
              have B2 := below_drew B1
              generalize w1.drew = w2 at B2
              clear B1 hx1 hx2 hd1 hd2
              go_wp2_with fail
              refine (order_any _ _ _ _ _).mono ?_
              rintro e w3 ⟨rfl, b3⟩
              have B3 : Below w.heap.size w w3 := B2.trans (b3.mono B2.size)
              go_wp2
              go_ret
              exact ⟨ret_int (by rw [E.out, HS.out, R.out]), B3⟩
          · obtain rfl : k = 0 := by omega
            have R := Lib.hid (Rul.step_first (c := Rul.cmpN) hlt hq)
            have HP := Lib.hid hq
            have hc3 : wr.cell? ad = some (.int .i64 l[0].1) := by simpa [Addr.add] using hc1
            have hc4 : wr.cell? ⟨ad.block, ad.off + 1, none⟩ = some (.int .i64 l[0].2) := by simpa [Addr.add] using hc2
            clear hq hc1 hc2 h0 hcp
            go_wp2_with fail
            refine (inW_any f _ _ _ _ (hcx _) (by simp; omega)).mono ?_
            rintro e w1 ⟨rfl, b1⟩
            rw [HP.out]
            have B1 : Below w.heap.size w w1 := (hb.alloc (hb.size) _).trans (b1.mono (by simp; have := hb.size; omega))
            clear b1 hcx hc3 hc4
            go_wp2_with fail
            go_quiet (fail)
            go_wp2
            go_roundw
            case rel => exact ⟨1, by omega, by go_num, Lib.hid (by rw [R.out]), below_drewN B1 _⟩
            case measure => simp [intOf]; omega
      · have R := Lib.hid (Rul.step_end (p := Rul.inW f) (c := Rul.cmpN) hlt)
        go_wp2
        go_ret
        exact ⟨ret_int (by rw [E.out, HS.out, R.out]), hb⟩
end Go.Proofs.YtnggajehngemmaaGreatDoor
/-
  Contracts of rule's checkNumbers, checkLists, Lists and Check: each returns chapter 2's answer, and writes new memory alone.
-/
namespace Go.Proofs.YtnggajehngemmaaGreatDoor
open Go.RowKit

theorem valid_any (n : Int) (w : World) : Calls Tryz.prog 61 #[.int .i64 n] w fun e w' => e = .returned (.bool (Rul.btw n 1 3652059)) ∧ w = w' := by
  by_cases h : 1 ≤ n ∧ n ≤ 3652059
  · refine (valid_yes n w h.1 h.2).mono ?_
    rintro e w' ⟨rfl, rfl⟩
    exact ⟨ret_bool (Rul.btw_yes h.1 h.2).symm, rfl⟩
  · refine (valid_no n w (by omega)).mono ?_
    rintro e w' ⟨rfl, rfl⟩
    exact ⟨ret_bool (Rul.btw_no (by omega)).symm, rfl⟩

/-- what the four lists of a rule hold lies in memory -/
structure ListsIn (w : World) (AM AD AW AP : Option Addr) (M D : List Int) (W : List (Int × Int)) (P : List Int) : Prop where
  m : IntsIn w AM M
  d : IntsIn w AD D
  k : NthsIn w AW W
  p : IntsIn w AP P
  lm : M.length ≤ maxLen
  ld : D.length ≤ maxLen
  lk : W.length ≤ maxLen
  lp : P.length ≤ maxLen
theorem ListsIn.below {w w' : World} {AM AD AW AP : Option Addr} {M D : List Int} {W : List (Int × Int)} {P : List Int} (h : ListsIn w AM AD AW AP M D W P) (hb : Below w.heap.size w w') : ListsIn w' AM AD AW AP M D W P :=
  ⟨h.m.below hb, h.d.below hb, h.k.below hb, h.p.below hb, h.lm, h.ld, h.lk, h.lp⟩

set_option maxHeartbeats 400000 in
theorem checkNumbers_any (f iv c u : Int) (AM AD AW AP : Option Addr) (cM cD cW cP : Nat) (M D : List Int) (W : List (Int × Int)) (P : List Int) (w : World) :
    Calls Tryz.prog 42 #[.agg #[.int .i64 f, .int .i64 iv, .int .i64 c, .int .i64 u, .slice AM M.length cM, .slice AD D.length cD, .slice AW W.length cW, .slice AP P.length cP]] w fun e w' => e = .returned (.int .i64 (Rul.nums iv c u)) ∧ Below w.heap.size w w' := by
  cases h1 : Rul.btw iv 1 999
  · have E := Lib.hid (show Rul.nums iv c u = 3 by simp [Rul.nums, Rul.badNum, h1])
    have H1 := Lib.hid h1
    clear h1
    go_enter Tryz.func42, Tryz.ntmps42
    go_wp2_with fail
    refine (between_any _ _ _ _).mono ?_
    rintro e w' ⟨rfl, rfl⟩
    rw [H1.out]
    go_wp2
    go_ret
    exact ⟨ret_int E.out.symm, by go_grown⟩
  cases h2 : Rul.btw c 0 9999
  · have E := Lib.hid (show Rul.nums iv c u = 3 by simp [Rul.nums, Rul.badNum, h2])
    have H1 := Lib.hid h1
    have H2 := Lib.hid h2
    clear h1 h2
    go_enter Tryz.func42, Tryz.ntmps42
    go_wp2_with fail
    refine (between_any _ _ _ _).mono ?_
    rintro e w' ⟨rfl, rfl⟩
    rw [H1.out]
    go_wp2_with fail
    refine (between_any _ _ _ _).mono ?_
    rintro e w' ⟨rfl, rfl⟩
    rw [H2.out]
    go_wp2
    go_ret
    exact ⟨ret_int E.out.symm, by go_grown⟩
  by_cases hu : u = 0
  · subst hu
    have E := Lib.hid (show Rul.nums iv c 0 = 0 by simp [Rul.nums, Rul.badNum, h1, h2])
    have H1 := Lib.hid h1
    have H2 := Lib.hid h2
    clear h1 h2
    cases hc : (c != 0)
    all_goals
      go_enter Tryz.func42, Tryz.ntmps42
      go_wp2_with fail
      refine (between_any _ _ _ _).mono ?_
      rintro e w' ⟨rfl, rfl⟩
      rw [H1.out]
      go_wp2_with fail
      refine (between_any _ _ _ _).mono ?_
      rintro e w' ⟨rfl, rfl⟩
      rw [H2.out]
      go_wp2
      go_ret
      exact ⟨ret_int E.out.symm, by go_grown⟩
  have hu' : (u != 0) = true := by simpa using hu
  cases h3 : Rul.btw u 1 3652059
  · have E := Lib.hid (show Rul.nums iv c u = 3 by simp [Rul.nums, Rul.badNum, h3, hu])
    have H1 := Lib.hid h1
    have H2 := Lib.hid h2
    have H3 := Lib.hid h3
    clear h1 h2 h3 hu
    go_enter Tryz.func42, Tryz.ntmps42
    go_wp2_with fail
    refine (between_any _ _ _ _).mono ?_
    rintro e w' ⟨rfl, rfl⟩
    rw [H1.out]
    go_wp2_with fail
    refine (between_any _ _ _ _).mono ?_
    rintro e w' ⟨rfl, rfl⟩
    rw [H2.out]
    go_wp2_with fail
    refine (valid_any _ _).mono ?_
    rintro e w' ⟨rfl, rfl⟩
    rw [H3.out]
    go_wp2
    go_ret
    exact ⟨ret_int E.out.symm, by go_grown⟩
  cases hc : (c != 0)
  all_goals
    have E := Lib.hid (show Rul.nums iv c u = if (c != 0) then 7 else 0 by simp [Rul.nums, Rul.badNum, h1, h2, h3, hu])
    rw [hc] at E
    have H1 := Lib.hid h1
    have H2 := Lib.hid h2
    have H3 := Lib.hid h3
    clear h1 h2 h3 hu
    go_enter Tryz.func42, Tryz.ntmps42
    go_wp2_with fail
    refine (between_any _ _ _ _).mono ?_
    rintro e w' ⟨rfl, rfl⟩
    rw [H1.out]
    go_wp2_with fail
    refine (between_any _ _ _ _).mono ?_
    rintro e w' ⟨rfl, rfl⟩
    rw [H2.out]
    go_wp2_with fail
    refine (valid_any _ _).mono ?_
    rintro e w' ⟨rfl, rfl⟩
    rw [H3.out]
    go_wp2
    go_ret
    exact ⟨ret_int E.out.symm, by go_grown⟩

/-- one of months, days, weekdays -/
def some3 (M D : List Int) (W : List (Int × Int)) : Bool := decide (0 < M.length) || decide (0 < D.length) || decide (0 < W.length)
set_option maxHeartbeats 400000 in
theorem lists_any (f iv c u : Int) (AM AD AW AP : Option Addr) (cM cD cW cP : Nat) (M D : List Int) (W : List (Int × Int)) (P : List Int) (w : World) :
    Calls Tryz.prog 44 #[.agg #[.int .i64 f, .int .i64 iv, .int .i64 c, .int .i64 u, .slice AM M.length cM, .slice AD D.length cD, .slice AW W.length cW, .slice AP P.length cP]] w fun e w' => e = .returned (.bool (some3 M D W)) ∧ Below w.heap.size w w' := by
  by_cases a : 0 < M.length
  · have E := Lib.hid (show some3 M D W = true by simp [some3, a])
    go_enter Tryz.func44, Tryz.ntmps44
    go_wp2
    go_ret
    exact ⟨ret_bool E.out.symm, by go_grown⟩
  · by_cases b : 0 < D.length
    · have E := Lib.hid (show some3 M D W = true by simp [some3, b])
      go_enter Tryz.func44, Tryz.ntmps44
      go_wp2
      go_ret
      exact ⟨ret_bool E.out.symm, by go_grown⟩
    · by_cases c' : 0 < W.length
      · have E := Lib.hid (show some3 M D W = true by simp [some3, c'])
        go_enter Tryz.func44, Tryz.ntmps44
        go_wp2
        go_ret
        exact ⟨ret_bool E.out.symm, by go_grown⟩
      · have E := Lib.hid (show some3 M D W = false by unfold some3; rw [decide_eq_false a, decide_eq_false b, decide_eq_false c']; rfl)
        go_enter Tryz.func44, Tryz.ntmps44
        go_wp2
        go_ret
        exact ⟨ret_bool E.out.symm, by go_grown⟩
end Go.Proofs.YtnggajehngemmaaGreatDoor
/-
  Arguments opened: structs of one-cell fields, slices of numbers, slices of weekdays, a rule; and the last step of every law: what the arguments read as stays, where only new memory is written.
-/
namespace Go.Proofs.YtnggajehngemmaaGreatDoor
open Go.ChangeShapes Go.WideShapes Go.ChangeAt Go.RowKit Go.Deep

theorem laidOut : laidOutB Tryz.prog = true := by kernel_rfl
section
variable {H : Type} {enc : TypeId × Value → H}
theorem trodAll_stays {W W' : World} {sp : Nat → Bool} : ∀ (ts : List TypeId) (vs : List Value) (ds : List (DataW H)) (ps : List MemPlace), (∀ t ∈ ts, Tryz.prog.readableRec t = true ∧ t < Tryz.prog.types.size) →
    DataW.TrodAll enc Tryz.prog W 0 (fun _ => true) true ts vs ds ps → (∀ p ∈ ps, W.sameAt W' p) → (∀ p ∈ ps, sp p.block = true) → DataW.TrodAll enc Tryz.prog W' 0 sp true ts vs ds ps
  | [], _, _, _, _, h, _, _ => by
    obtain ⟨rfl, rfl, rfl⟩ := trodAll_nil h
    exact trodAll_mk0
  | t :: ts, _, _, _, ht, h, hs, hp => by
    obtain ⟨v, vs', d, ds', p, q, rfl, rfl, rfl, h1, h2⟩ := trodAll_cons h
    have hr := ht t (List.mem_cons_self)
    exact trodAll_cons_mk (WideElems.Trod_stays laidOut hr.1 hr.2 h1 (fun p hp' => hs p (List.mem_append_left _ hp')) (fun x hx => hp x (List.mem_append_left _ hx)))
      (trodAll_stays ts vs' ds' q (fun u hu => ht u (List.mem_cons_of_mem _ hu)) h2 (fun x hx => hs x (List.mem_append_right _ hx)) (fun x hx => hp x (List.mem_append_right _ hx)))

/-- THE LAST STEP of every law: true; new memory alone. -/
theorem law_all {f : Func} {s : ChangeSpec} {W W' : World} {args : Array Value} {v : Value} {ds : List (DataW H)} {before : List MemPlace}
    (hW : DataW.Whole enc Tryz.prog f.params.toList s.vars false W args.toList ds [] before) (hv : s.vars = [])
    (hr0 : (f.params.toList.all fun t => Tryz.prog.readableRec t && decide (t < Tryz.prog.types.size)) = true)
    (hres : DataW.TrodAll enc Tryz.prog W' W.heap.size (fun _ => false) false f.resultTypes.toList (v.resultList f.resultTypes.size) (s.fn H (ds ++ [])).results [])
    (ha : (s.fn H (ds ++ [])).args = ds) (hg : (s.fn H (ds ++ [])).vars = []) (hb : Below W.heap.size W W') :
    s.post enc Tryz.prog f false true false false W args v W' := by
  have hr : ∀ t ∈ f.params.toList, Tryz.prog.readableRec t = true ∧ t < Tryz.prog.types.size := fun t ht => by
    have := List.all_eq_true.1 hr0 t ht
    simpa using this
  have hW' := hW
  have hlt := hW.lt
  obtain ⟨p, q, hA, hV, rfl, -, -⟩ := hW
  refine ⟨ds, [], p ++ q, [], p, [], hW', hres, ?_, ?_, hb.frame _, fun h => by cases h⟩
  · rw [ha]
    exact trodAll_stays _ _ _ _ hr hA (fun x hx => hb.same (hlt x (List.mem_append_left _ hx))) (fun x hx => by simpa using hlt x (List.mem_append_left _ hx))
  · rw [hv, hg]
    rfl

/-- a struct of one-cell fields, by value -/
theorem fields_of {P : Program} {w : World} {base : Nat} {spare : Nat → Bool} {held : Bool} {r : Reach} {b0 : Nat} {t : TypeId} {fs : Array Field} {v : Value} {d : DataW H} {p : List MemPlace} (hs : P.underlying t = some (.struct fs)) (hone : oneCellFields P fs = true) (hC : P.cellsOf t = fs.size)
    (hv : Value.okWide P w r b0 t v) (h : DataW.Trod enc P w base spare held t v d p) :
    ∃ (cs : Array Value) (n : Nat), v = .agg cs ∧ cs.size = fs.size ∧ ∀ (i : Nat) (f : Field), fs[i]? = some f → ∃ (c : Value) (y : DataW H × List MemPlace), cs[i]? = some c ∧ DataW.trod enc P w base spare held n f.type [c] = some y := by
  obtain ⟨cs, rfl, hsz⟩ := okWide_struct hs hv
  obtain ⟨fuel, hf⟩ := h
  obtain ⟨xs, n, -, -, -, hlen, hg⟩ := DataW.trod_struct hs hf
  refine ⟨cs, n, rfl, hsz.trans hC, fun i f hi => ?_⟩
  obtain ⟨ho, hk⟩ := hone_of hone i f hi
  have hil : i < fs.size := (Array.getElem?_eq_some_iff.1 hi).1
  have hic : i < cs.size := by omega
  have hx : xs[i]? = some (xs[i]'(by omega)) := List.getElem?_eq_getElem (by omega)
  have h1 := hg i f hi
  rw [ho, hk, hx] at h1
  have e : (((Value.agg cs).cells.toList).drop i).take 1 = [cs[i]] := by
    show (cs.toList.drop i).take 1 = [cs[i]]
    rw [List.drop_eq_getElem_cons (by simpa using hic)]
    simp
  rw [e] at h1
  exact ⟨cs[i], _, Array.getElem?_eq_getElem hic, h1⟩

/-- numbers of one kind lie at an address -/
def NumsIn (k : IntKind) (w : World) (A : Option Addr) (l : List Int) : Prop :=
  ∀ i (h : i < l.length), ∃ ad : Addr, A = some ad ∧ ad.block < w.heap.size ∧ w.cell? (ad.add i) = some (.int k l[i])
theorem NumsIn.below {k : IntKind} {w w' : World} {A : Option Addr} {l : List Int} (h : NumsIn k w A l) (hb : Below w.heap.size w w') : NumsIn k w' A l := fun i hi => by
  obtain ⟨ad, rfl, hlt, hc⟩ := h i hi
  exact ⟨ad, rfl, Nat.lt_of_lt_of_le hlt hb.size, (hb.cell (p := ad.add i) (by rw [block_add]; exact hlt)).trans hc⟩
theorem nums_of {W : World} {k : IntKind} {t e : TypeId} {n : Nat} {v : Value} {y : DataW H × List MemPlace} (ht : Tryz.prog.underlying t = some (.slice e)) (he : Tryz.prog.underlying e = some (.int k)) (hc : Tryz.prog.cellsOf e = 1)
    (h : DataW.trod enc Tryz.prog W 0 (fun _ => true) true n t [v] = some y) :
    ∃ (A : Option Addr) (L : List Int) (cap : Nat), v = .slice A L.length cap ∧ L.length ≤ maxLen ∧ (∀ x ∈ L, (Lit.int k x).wf = true) ∧ NumsIn k W A L := by
  rcases open_ints ht he hc h with ⟨h0, -⟩ | ⟨a, len, cap, zs, h0, -, hl, hm, hz, -, hcell, hwf⟩
  · obtain rfl : v = _ := (List.cons.inj h0).1
    exact ⟨none, [], 0, rfl, Nat.zero_le _, fun x hx => (by cases hx), fun i hi => absurd hi (Nat.not_lt_zero i)⟩
  · obtain rfl : v = _ := (List.cons.inj h0).1
    simp only [if_true] at hz
    have hlen : (zs.take len).length = len := by rw [List.length_take]; omega
    refine ⟨some a, zs.take len, cap, by rw [hlen], by omega, fun x hx => hwf x (List.mem_of_mem_take hx), fun i hi => ?_⟩
    have hi' : i < zs.length := by omega
    have hce := hcell i hi'
    have hg : zs.getD i 0 = (zs.take len)[i] := by simp [List.getD, hi']
    rw [hg] at hce
    have hb := World.block_lt_of_cell? _ _ hce
    rw [block_add] at hb
    exact ⟨a, rfl, hb, hce⟩
theorem addr_zero (a : Addr) : a.add 0 = a := by
  unfold Addr.add
  cases a
  split <;> simp_all
theorem list_of {α : Type} {p : Nat → α → Prop} : ∀ n : Nat, (∀ i, i < n → ∃ x, p i x) → ∃ L : List α, L.length = n ∧ ∀ i (h : i < L.length), p i L[i]
  | 0, _ => ⟨[], rfl, fun i h => absurd h (Nat.not_lt_zero i)⟩
  | n + 1, h => by
    obtain ⟨L, hl, hp⟩ := list_of n (fun i hi => h i (by omega))
    obtain ⟨x, hx⟩ := h n (by omega)
    refine ⟨L ++ [x], by simp [hl], fun i hi => ?_⟩
    by_cases e : i < L.length
    · rw [List.getElem_append_left e]
      exact hp i e
    · obtain rfl : i = L.length := by simp at hi; omega
      simpa [hl] using hx
set_option maxRecDepth 100000 in
theorem nths_of {W : World} {n : Nat} {v : Value} {y : DataW H × List MemPlace}
    (h : DataW.trod enc Tryz.prog W 0 (fun _ => true) true n 34 [v] = some y) :
    ∃ (A : Option Addr) (L : List (Int × Int)) (cap : Nat), v = .slice A L.length cap ∧ L.length ≤ maxLen ∧ (∀ x ∈ L, (Lit.int .i64 x.1).wf = true ∧ (Lit.int .i64 x.2).wf = true) ∧ NthsIn W A L := by
  rcases open_slice Tryz.underlying34 h with ⟨h0, -⟩ | ⟨a, len, cap, m, n', D, Pl, h0, -, hl, hm, hz, -, hi⟩
  · obtain rfl : v = _ := (List.cons.inj h0).1
    exact ⟨none, [], 0, rfl, Nat.zero_le _, fun x hx => (by cases hx), fun i hi => absurd hi (Nat.not_lt_zero i)⟩
  · obtain rfl : v = _ := (List.cons.inj h0).1
    simp only [if_true] at hz
    have hc2 : Tryz.prog.cellsOf 51 = 2 := by kernel_rfl
    have each : ∀ i, i < len → ∃ x : Int × Int, (Lit.int .i64 x.1).wf = true ∧ (Lit.int .i64 x.2).wf = true ∧ W.cell? (a.add (i * 2)) = some (.int .i64 x.1) ∧ W.cell? ((a.add (i * 2)).add 1) = some (.int .i64 x.2) := by
      intro i hi'
      obtain ⟨cs', hc, htr⟩ := hi i (by omega)
      rw [hc2] at hc
      obtain ⟨-, hcl, hat⟩ := World.cells?_some hc
      obtain ⟨xs, n2, -, -, -, hxl, hg⟩ := DataW.trod_struct Tryz.underlying51 htr
      match cs', hcl with
      | [c0, c1], _ =>
        have g0 := hg 0 _ rfl
        have g1 := hg 1 _ rfl
        have hx0 : xs[0]? = some (xs[0]'(by rw [hxl]; decide)) := List.getElem?_eq_getElem _
        have hx1 : xs[1]? = some (xs[1]'(by rw [hxl]; decide)) := List.getElem?_eq_getElem _
        rw [hx0] at g0
        rw [hx1] at g1
        obtain ⟨n0, e0, -, w0⟩ := DataW.trod_int Tryz.underlying3 g0
        obtain ⟨m0, e1, -, w1⟩ := DataW.trod_int Tryz.underlying3 g1
        have k1 : Tryz.prog.cellsOf 3 = 1 := cellsInt
        simp [k1] at e0 e1
        have z0 := hat 0 (by omega)
        have z1 := hat 1 (by omega)
        refine ⟨(n0, m0), w0, w1, ?_, ?_⟩
        · rw [addr_zero] at z0
          simpa [e0] using z0
        · simpa [e1] using z1
    obtain ⟨L, hL, hp⟩ := list_of len each
    refine ⟨some a, L, cap, by rw [hL], by omega, fun x hx => ?_, fun i hi' => ?_⟩
    · obtain ⟨i, hi', rfl⟩ := List.getElem_of_mem hx
      exact ⟨(hp i hi').1, (hp i hi').2.1⟩
    · obtain ⟨-, -, q1, q2⟩ := hp i hi'
      have hb := World.block_lt_of_cell? _ _ q1
      rw [block_add] at hb
      exact ⟨a, rfl, hb, q1, q2⟩
end
end Go.Proofs.YtnggajehngemmaaGreatDoor
/-
  Contracts of rule's checkLists and Check: each returns chapter 2's answer, and writes new memory alone.
-/
namespace Go.Proofs.YtnggajehngemmaaGreatDoor
open Go.RowKit

set_option maxHeartbeats 1000000 in
theorem checkLists_any (f iv c u : Int) (AM AD AW AP : Option Addr) (cM cD cW cP : Nat) (M D : List Int) (W : List (Int × Int)) (P : List Int) (w : World) (hL : ListsIn w AM AD AW AP M D W P) :
    Calls Tryz.prog 43 #[.agg #[.int .i64 f, .int .i64 iv, .int .i64 c, .int .i64 u, .slice AM M.length cM, .slice AD D.length cD, .slice AW W.length cW, .slice AP P.length cP]] w fun e w' => e = .returned (.int .i64 (Rul.lists f M D W P)) ∧ Below w.heap.size w w' := by
  have LM := hL.lm; have LD := hL.ld; have LK := hL.lk; have LP := hL.lp
  have hB : ∀ o, Below w.heap.size w (w.alloc o) := fun o => (Below.refl _ _).alloc (Nat.le_refl _) _
  cases h1 : (Rul.chkL Rul.inM Rul.cmpI M != 0)
  case true =>
    have E := Lib.hid (show Rul.lists f M D W P = Rul.chkL Rul.inM Rul.cmpI M by simp only [Rul.lists, h1, if_true])
    go_enter Tryz.func43, Tryz.ntmps43
    go_wp2_with fail
    refine (checkM_any _ _ _ _ (hL.m.below (hB _)) LM).mono ?_
    rintro e w' ⟨rfl, rfl⟩
    go_wp2
    go_ret
    exact ⟨ret_int E.out.symm, by go_grown⟩
  case false =>
  cases h2 : (Rul.chkL Rul.inD Rul.cmpI D != 0)
  case true =>
    have E := Lib.hid (show Rul.lists f M D W P = Rul.chkL Rul.inD Rul.cmpI D by simp only [Rul.lists, h1, h2, if_true]; rfl)
    go_enter Tryz.func43, Tryz.ntmps43
    go_wp2_with fail
    refine (checkM_any _ _ _ _ (hL.m.below (hB _)) LM).mono ?_
    rintro e w' ⟨rfl, rfl⟩
    go_wp2_with fail
    refine (checkD_any _ _ _ _ (hL.d.below (hB _)) LD).mono ?_
    rintro e w' ⟨rfl, rfl⟩
    go_wp2
    go_ret
    exact ⟨ret_int E.out.symm, by go_grown⟩
  case false =>
  have hB2 : ∀ o o', Below w.heap.size w ((w.alloc o).alloc o') := fun o o' => (hB o).alloc (by simp) _
  cases h3 : (Rul.chkL (Rul.inW f) Rul.cmpN W != 0)
  case true =>
    have E := Lib.hid (show Rul.lists f M D W P = Rul.chkL (Rul.inW f) Rul.cmpN W by simp only [Rul.lists, h1, h2, h3, if_true]; rfl)
    go_enter Tryz.func43, Tryz.ntmps43
    go_wp2_with fail
    refine (checkM_any _ _ _ _ (hL.m.below (hB _)) LM).mono ?_
    rintro e w' ⟨rfl, rfl⟩
    go_wp2_with fail
    refine (checkD_any _ _ _ _ (hL.d.below (hB _)) LD).mono ?_
    rintro e w' ⟨rfl, rfl⟩
    go_wp2_with fail
    refine (maxNth_any _ _).mono ?_
    rintro e w' ⟨rfl, rfl⟩
    go_wp2_with fail
    refine (checkW_any f _ _ _ _ _ (hL.k.below (hB2 _ _)) LK (by simp) (by simp)).mono ?_
    rintro e w3 ⟨rfl, b3⟩
    have B3 : Below w.heap.size w w3 := (hB2 _ _).trans (b3.mono (by simp; omega))
    go_wp2
    go_ret
    exact ⟨ret_int E.out.symm, B3⟩
  case false =>
    have E := Lib.hid (show Rul.lists f M D W P = Rul.chkL Rul.inP Rul.cmpI P by simp only [Rul.lists, h1, h2, h3]; rfl)
    go_enter Tryz.func43, Tryz.ntmps43
    go_wp2_with fail
    refine (checkM_any _ _ _ _ (hL.m.below (hB _)) LM).mono ?_
    rintro e w' ⟨rfl, rfl⟩
    go_wp2_with fail
    refine (checkD_any _ _ _ _ (hL.d.below (hB _)) LD).mono ?_
    rintro e w' ⟨rfl, rfl⟩
    go_wp2_with fail
    refine (maxNth_any _ _).mono ?_
    rintro e w' ⟨rfl, rfl⟩
    go_wp2_with fail
    refine (checkW_any f _ _ _ _ _ (hL.k.below (hB2 _ _)) LK (by simp) (by simp)).mono ?_
    rintro e w3 ⟨rfl, b3⟩
    have B3 : Below w.heap.size w w3 := (hB2 _ _).trans (b3.mono (by simp; omega))
    have c7 : w3.cell? ⟨w.heap.size, 7, none⟩ = some (.slice AP P.length cP) := (b3.cell (p := ⟨w.heap.size, 7, none⟩) (by simp; omega)).trans (by simp)
    clear b3
    go_wp2_with fail
    refine (checkP_any _ _ _ _ (hL.p.below B3) LP).mono ?_
    rintro e w' ⟨rfl, rfl⟩
    go_wp2
    go_ret
    exact ⟨ret_int E.out.symm, B3⟩

theorem odd_eq (f : Int) (M D : List Int) (W : List (Int × Int)) (P : List Int) : Rul.odd f M D W P = (f == 1 && decide (0 < D.length) || decide (0 < P.length) && !(some3 M D W)) := rfl

set_option maxHeartbeats 1000000 in
/-- rule.Check: chapter 2's answer -/
theorem check_any (f iv c u : Int) (AM AD AW AP : Option Addr) (cM cD cW cP : Nat) (M D : List Int) (W : List (Int × Int)) (P : List Int) (w : World) (hL : ListsIn w AM AD AW AP M D W P) :
    Calls Tryz.prog 16 #[.agg #[.int .i64 f, .int .i64 iv, .int .i64 c, .int .i64 u, .slice AM M.length cM, .slice AD D.length cD, .slice AW W.length cW, .slice AP P.length cP]] w fun e w' => e = .returned (.int .i64 (Rul.check f iv c u M D W P)) ∧ Below w.heap.size w w' := by
  have hB : ∀ o, Below w.heap.size w (w.alloc o) := fun o => (Below.refl _ _).alloc (Nat.le_refl _) _
  by_cases f0 : f < 0
  · have E := Lib.hid (show Rul.check f iv c u M D W P = 6 by simp [Rul.check, Rul.noFreq, f0])
    go_enter Tryz.func16, Tryz.ntmps16
    go_wp2
    go_ret
    exact ⟨ret_int E.out.symm, by go_grown⟩
  by_cases f4 : 4 ≤ f
  · have E := Lib.hid (show Rul.check f iv c u M D W P = 6 by simp [Rul.check, Rul.noFreq, f4])
    go_enter Tryz.func16, Tryz.ntmps16
    go_wp2
    go_ret
    exact ⟨ret_int E.out.symm, by go_grown⟩
  have hf : Rul.noFreq f = false := by simp [Rul.noFreq]; omega
  cases h1 : (Rul.nums iv c u != 0)
  case true =>
    have E := Lib.hid (show Rul.check f iv c u M D W P = Rul.nums iv c u by simp only [Rul.check, hf, h1, if_true]; rfl)
    clear hf
    go_enter Tryz.func16, Tryz.ntmps16
    go_wp2_with fail
    refine (checkNumbers_any _ _ _ _ _ _ _ _ _ _ _ _ _ _ _ _ _).mono ?_
    rintro e w1 ⟨rfl, b1⟩
    have B1 : Below w.heap.size w w1 := (hB _).trans (b1.mono (by simp))
    go_wp2
    go_ret
    exact ⟨ret_int E.out.symm, B1⟩
  case false =>
  cases h2 : (Rul.lists f M D W P != 0)
  case true =>
    have E := Lib.hid (show Rul.check f iv c u M D W P = Rul.lists f M D W P by simp only [Rul.check, hf, h1, h2, if_true]; rfl)
    clear hf
    go_enter Tryz.func16, Tryz.ntmps16
    go_wp2_with fail
    refine (checkNumbers_any _ _ _ _ _ _ _ _ _ _ _ _ _ _ _ _ _).mono ?_
    rintro e w1 ⟨rfl, b1⟩
    have B1 : Below w.heap.size w w1 := (hB _).trans (b1.mono (by simp))
    have cs : ∀ i, w1.cell? ⟨w.heap.size, i, none⟩ = (w.alloc (.cells #[.int .i64 f, .int .i64 iv, .int .i64 c, .int .i64 u, .slice AM M.length cM, .slice AD D.length cD, .slice AW W.length cW, .slice AP P.length cP] 36)).cell? ⟨w.heap.size, i, none⟩ := fun i => b1.cell (p := ⟨w.heap.size, i, none⟩) (by simp)
    have hL1 := hL.below B1
    clear b1
    go_wp2_with fail
    refine (checkLists_any _ _ _ _ _ _ _ _ _ _ _ _ _ _ _ _ _ hL1).mono ?_
    rintro e w2 ⟨rfl, b2⟩
    have B2 : Below w.heap.size w w2 := B1.trans (b2.mono B1.size)
    go_wp2
    go_ret
    exact ⟨ret_int E.out.symm, B2⟩
  case false =>
  have E : Hid (Rul.check f iv c u M D W P = if Rul.odd f M D W P then 6 else 0) := Lib.hid (by simp only [Rul.check, hf, h1, h2]; rfl)
  rw [odd_eq] at E
  clear hf
  have LM := hL.lm; have LD := hL.ld; have LK := hL.lk; have LP := hL.lp
  unfold maxLen at LM LD LK LP
  have go : ∀ (Z : Int), Hid (Rul.check f iv c u M D W P = Z) → Hid (Z = if (f == 1 && decide (0 < D.length) || decide (0 < P.length) && !(some3 M D W)) then 6 else 0) → True := fun _ _ _ => trivial
  clear go
  by_cases hD : f = 1 ∧ 0 < D.length
  · obtain ⟨rfl, hD⟩ := hD
    have E' := Lib.hid (show Rul.check 1 iv c u M D W P = 6 by rw [E.out]; simp [hD])
    clear E
    go_enter Tryz.func16, Tryz.ntmps16
    go_wp2_with fail
    refine (checkNumbers_any _ _ _ _ _ _ _ _ _ _ _ _ _ _ _ _ _).mono ?_
    rintro e w1 ⟨rfl, b1⟩
    have B1 : Below w.heap.size w w1 := (hB _).trans (b1.mono (by simp))
    have cs : ∀ i, w1.cell? ⟨w.heap.size, i, none⟩ = (w.alloc (.cells #[.int .i64 1, .int .i64 iv, .int .i64 c, .int .i64 u, .slice AM M.length cM, .slice AD D.length cD, .slice AW W.length cW, .slice AP P.length cP] 36)).cell? ⟨w.heap.size, i, none⟩ := fun i => b1.cell (p := ⟨w.heap.size, i, none⟩) (by simp)
    have hz : w.heap.size < w1.heap.size := by have := b1.size; simp at this; omega
    have hL1 := hL.below B1
    clear b1
    go_wp2_with fail
    refine (checkLists_any _ _ _ _ _ _ _ _ _ _ _ _ _ _ _ _ _ hL1).mono ?_
    rintro e w2 ⟨rfl, b2⟩
    have B2 : Below w.heap.size w w2 := B1.trans (b2.mono B1.size)
    have ds : ∀ i, w2.cell? ⟨w.heap.size, i, none⟩ = (w.alloc (.cells #[.int .i64 1, .int .i64 iv, .int .i64 c, .int .i64 u, .slice AM M.length cM, .slice AD D.length cD, .slice AW W.length cW, .slice AP P.length cP] 36)).cell? ⟨w.heap.size, i, none⟩ := fun i => (b2.cell (p := ⟨w.heap.size, i, none⟩) hz).trans (cs i)
    clear b2 cs
    go_wp2
    go_ret
    exact ⟨ret_int E'.out.symm, B2⟩
  have hQ : ((f == 1) = false) ∨ ((f == 1) = true ∧ ¬ 0 < D.length) := by
    by_cases h : f = 1
    · exact .inr ⟨by simpa using h, fun h' => hD ⟨h, h'⟩⟩
    · exact .inl (by simpa using h)
  by_cases hP : 0 < P.length
  · cases h3 : some3 M D W
    all_goals
      rcases hQ with hq | ⟨hq, hd0⟩
      all_goals
        have E' := Lib.hid (show Rul.check f iv c u M D W P = if (!(some3 M D W)) then 6 else 0 by
          rw [E.out]; simp [hq, hP]; try simp [hd0])
        rw [h3] at E'
        have H3 := Lib.hid h3
        clear E hD h3
        go_enter Tryz.func16, Tryz.ntmps16
        go_wp2_with fail
        refine (checkNumbers_any _ _ _ _ _ _ _ _ _ _ _ _ _ _ _ _ _).mono ?_
        rintro e w1 ⟨rfl, b1⟩
        have B1 : Below w.heap.size w w1 := (hB _).trans (b1.mono (by simp))
        have cs : ∀ i, w1.cell? ⟨w.heap.size, i, none⟩ = (w.alloc (.cells #[.int .i64 f, .int .i64 iv, .int .i64 c, .int .i64 u, .slice AM M.length cM, .slice AD D.length cD, .slice AW W.length cW, .slice AP P.length cP] 36)).cell? ⟨w.heap.size, i, none⟩ := fun i => b1.cell (p := ⟨w.heap.size, i, none⟩) (by simp)
        have hz : w.heap.size < w1.heap.size := by have := b1.size; simp at this; omega
        have hL1 := hL.below B1
        clear b1
        go_wp2_with fail
        refine (checkLists_any _ _ _ _ _ _ _ _ _ _ _ _ _ _ _ _ _ hL1).mono ?_
        rintro e w2 ⟨rfl, b2⟩
        have B2 : Below w.heap.size w w2 := B1.trans (b2.mono B1.size)
        have ds : ∀ i, w2.cell? ⟨w.heap.size, i, none⟩ = (w.alloc (.cells #[.int .i64 f, .int .i64 iv, .int .i64 c, .int .i64 u, .slice AM M.length cM, .slice AD D.length cD, .slice AW W.length cW, .slice AP P.length cP] 36)).cell? ⟨w.heap.size, i, none⟩ := fun i => (b2.cell (p := ⟨w.heap.size, i, none⟩) hz).trans (cs i)
        clear b2 cs
        go_wp2_with fail
        refine (lists_any _ _ _ _ _ _ _ _ _ _ _ _ _ _ _ _ _).mono ?_
        rintro e w3 ⟨rfl, b3⟩
        have B3 : Below w.heap.size w w3 := B2.trans (b3.mono B2.size)
        rw [H3.out]
        go_wp2
        go_ret
        exact ⟨ret_int E'.out.symm, B3⟩
  · rcases hQ with hq | ⟨hq, hd0⟩
    all_goals
      have E' := Lib.hid (show Rul.check f iv c u M D W P = 0 by
        rw [E.out]; simp [hq, hP]; try exact List.eq_nil_of_length_eq_zero (by omega))
      clear E hD
      go_enter Tryz.func16, Tryz.ntmps16
      go_wp2_with fail
      refine (checkNumbers_any _ _ _ _ _ _ _ _ _ _ _ _ _ _ _ _ _).mono ?_
      rintro e w1 ⟨rfl, b1⟩
      have B1 : Below w.heap.size w w1 := (hB _).trans (b1.mono (by simp))
      have cs : ∀ i, w1.cell? ⟨w.heap.size, i, none⟩ = (w.alloc (.cells #[.int .i64 f, .int .i64 iv, .int .i64 c, .int .i64 u, .slice AM M.length cM, .slice AD D.length cD, .slice AW W.length cW, .slice AP P.length cP] 36)).cell? ⟨w.heap.size, i, none⟩ := fun i => b1.cell (p := ⟨w.heap.size, i, none⟩) (by simp)
      have hz : w.heap.size < w1.heap.size := by have := b1.size; simp at this; omega
      have hL1 := hL.below B1
      clear b1
      go_wp2_with fail
      refine (checkLists_any _ _ _ _ _ _ _ _ _ _ _ _ _ _ _ _ _ hL1).mono ?_
      rintro e w2 ⟨rfl, b2⟩
      have B2 : Below w.heap.size w w2 := B1.trans (b2.mono B1.size)
      have ds : ∀ i, w2.cell? ⟨w.heap.size, i, none⟩ = (w.alloc (.cells #[.int .i64 f, .int .i64 iv, .int .i64 c, .int .i64 u, .slice AM M.length cM, .slice AD D.length cD, .slice AW W.length cW, .slice AP P.length cP] 36)).cell? ⟨w.heap.size, i, none⟩ := fun i => (b2.cell (p := ⟨w.heap.size, i, none⟩) hz).trans (cs i)
      clear b2 cs
      go_wp2
      go_ret
      exact ⟨ret_int E'.out.symm, B2⟩
end Go.Proofs.YtnggajehngemmaaGreatDoor
