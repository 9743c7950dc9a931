/-
  Plain: what chapter 2 asks of a rule's fields, as functions of numbers and lists.
-/
import Derived.Lib.Hide
namespace Go.Proofs.YtfhhlebadmkckaaDoor.Rul

def btw (n lo hi : Int) : Bool := decide (lo ≤ n ∧ n ≤ hi)
theorem btw_yes {n lo hi : Int} (a : lo ≤ n) (b : n ≤ hi) : btw n lo hi = true := by simp [btw, a, b]
theorem btw_no {n lo hi : Int} (a : n < lo ∨ hi < n) : btw n lo hi = false := by simp [btw]; omega
theorem btw_iff {n lo hi : Int} : btw n lo hi = true ↔ lo ≤ n ∧ n ≤ hi := by simp [btw]
theorem btw_false {n lo hi : Int} : btw n lo hi = false ↔ n < lo ∨ hi < n := by simp [btw]; omega
def inM (m : Int) : Bool := btw m 1 12
def inD (d : Int) : Bool := d != 0 && btw d (-31) 31
def inP (p : Int) : Bool := p != 0 && btw p (-366) 366
/-- the greatest N of a weekday -/
def most (f : Int) : Int := if f = 2 then 5 else if f = 3 then 53 else 0
theorem most_bd (f : Int) : 0 ≤ most f ∧ most f ≤ 53 := by unfold most; split <;> (try split) <;> omega
def inW (f : Int) (x : Int × Int) : Bool := btw x.2 0 6 && btw x.1 (-(most f)) (most f)
def cmpI (a b : Int) : Int := if a < b then -1 else if b < a then 1 else 0
theorem cmpI_lt {a b : Int} (h : a < b) : cmpI a b = -1 := by simp [cmpI, h]
theorem cmpI_gt {a b : Int} (h : b < a) : cmpI a b = 1 := by simp [cmpI, h]; omega
theorem cmpI_eq (a : Int) : cmpI a a = 0 := by simp [cmpI]
theorem cmpI_zero {a b : Int} : cmpI a b = 0 ↔ a = b := by unfold cmpI; split <;> (try split) <;> omega
theorem cmpI_neg {a b : Int} : cmpI a b < 0 ↔ a < b := by unfold cmpI; split <;> (try split) <;> omega
theorem cmpI_bd (a b : Int) : -1 ≤ cmpI a b ∧ cmpI a b ≤ 1 := by unfold cmpI; split <;> (try split) <;> omega
def cmpN (a b : Int × Int) : Int := if cmpI a.1 b.1 = 0 then cmpI a.2 b.2 else cmpI a.1 b.1
theorem cmpN_bd (a b : Int × Int) : -1 ≤ cmpN a b ∧ cmpN a b ≤ 1 := by
  have := cmpI_bd a.1 b.1; have := cmpI_bd a.2 b.2; unfold cmpN; split <;> omega
theorem cmpN_neg {a b : Int × Int} : cmpN a b < 0 ↔ a.1 < b.1 ∨ a.1 = b.1 ∧ a.2 < b.2 := by
  unfold cmpN; have h1 := @cmpI_zero a.1 b.1; have h2 := @cmpI_neg a.1 b.1; have h3 := @cmpI_neg a.2 b.2
  split <;> omega

/-- from the element at k on: the first fault of a list: 3 out of range, 4 out of order; 0: none -/
def step {α : Type} (p : α → Bool) (c : α → α → Int) (l : List α) (k : Nat) : Int :=
  if h : k < l.length then
    if p l[k] = false then 3
    else if 0 < k ∧ 0 ≤ c (l[k - 1]'(by omega)) l[k] then 4
    else step p c l (k + 1)
  else 0
termination_by l.length - k

section
variable {α : Type} {p : α → Bool} {c : α → α → Int} {l : List α} {k : Nat}
theorem step_end (h : ¬ k < l.length) : step p c l k = 0 := by rw [step, dif_neg h]
theorem step_range (h : k < l.length) (hp : p l[k] = false) : step p c l k = 3 := by rw [step, dif_pos h, if_pos hp]
theorem step_order (h : k < l.length) (hp : p l[k] = true) (h0 : 0 < k) (hc : 0 ≤ c (l[k - 1]'(by omega)) l[k]) : step p c l k = 4 := by
  rw [step, dif_pos h, if_neg (by simp [hp]), if_pos ⟨h0, hc⟩]
theorem step_next (h : k < l.length) (hp : p l[k] = true) (h0 : 0 < k) (hc : c (l[k - 1]'(by omega)) l[k] < 0) : step p c l k = step p c l (k + 1) := by
  conv => lhs; rw [step]
  rw [dif_pos h, if_neg (by simp [hp]), if_neg (by omega)]
theorem step_first (h : 0 < l.length) (hp : p l[0] = true) : step p c l 0 = step p c l 1 := by
  conv => lhs; rw [step]
  rw [dif_pos h, if_neg (by simp [hp]), if_neg (by omega)]
theorem step_cases (p : α → Bool) (c : α → α → Int) (l : List α) (k : Nat) : step p c l k = 0 ∨ step p c l k = 3 ∨ step p c l k = 4 := by
  by_cases h : k < l.length
  · cases hp : p l[k]
    · exact .inr (.inl (step_range h hp))
    · by_cases h0 : 0 < k ∧ 0 ≤ c (l[k - 1]'(by omega)) l[k]
      · exact .inr (.inr (step_order h hp h0.1 h0.2))
      · have e : step p c l k = step p c l (k + 1) := by
          conv => lhs; rw [step]
          rw [dif_pos h, if_neg (by simp [hp]), if_neg h0]
        rw [e]; exact step_cases p c l (k + 1)
  · exact .inl (step_end h)
termination_by l.length - k
end

/-- a list's fault: 2 too long; then its first element's -/
def chkL {α : Type} (p : α → Bool) (c : α → α → Int) (l : List α) : Int := if 64 < l.length then 2 else step p c l 0
theorem chkL_long {α : Type} {p : α → Bool} {c : α → α → Int} {l : List α} (h : 64 < l.length) : chkL p c l = 2 := by simp [chkL, h]
theorem chkL_short {α : Type} {p : α → Bool} {c : α → α → Int} {l : List α} (h : l.length ≤ 64) : chkL p c l = step p c l 0 := by simp [chkL]; omega
theorem chkL_cases {α : Type} (p : α → Bool) (c : α → α → Int) (l : List α) : chkL p c l = 0 ∨ chkL p c l = 2 ∨ chkL p c l = 3 ∨ chkL p c l = 4 := by
  unfold chkL; split
  · exact .inr (.inl rfl)
  · rcases step_cases p c l 0 with h | h | h <;> simp [h]

/-- no such period -/
def noFreq (f : Int) : Bool := decide (f < 0 ∨ 4 ≤ f)
/-- a number out of its range -/
def badNum (iv c u : Int) : Bool := !(btw iv 1 999) || !(btw c 0 9999) || (u != 0 && !(btw u 1 3652059))
def nums (iv c u : Int) : Int := if badNum iv c u then 3 else if c != 0 && u != 0 then 7 else 0
def lists (f : Int) (M D : List Int) (W : List (Int × Int)) (P : List Int) : Int :=
  if chkL inM cmpI M != 0 then chkL inM cmpI M else if chkL inD cmpI D != 0 then chkL inD cmpI D
  else if chkL (inW f) cmpN W != 0 then chkL (inW f) cmpN W else chkL inP cmpI P
/-- what is left of 'lists' from the list at j on -/
def after (f : Int) (M D : List Int) (W : List (Int × Int)) (P : List Int) : Nat → Int
  | 0 => lists f M D W P
  | 1 => if chkL inD cmpI D != 0 then chkL inD cmpI D else if chkL (inW f) cmpN W != 0 then chkL (inW f) cmpN W else chkL inP cmpI P
  | 2 => if chkL (inW f) cmpN W != 0 then chkL (inW f) cmpN W else chkL inP cmpI P
  | 3 => chkL inP cmpI P
  | _ => 0
theorem after_bad0 {f : Int} {M D : List Int} {W : List (Int × Int)} {P : List Int} {x : Int} (h : chkL inM cmpI M = x) (hx : x ≠ 0) : after f M D W P 0 = x := by simp [after, lists, h, hx]
theorem after_bad1 {f : Int} {M D : List Int} {W : List (Int × Int)} {P : List Int} {x : Int} (h : chkL inD cmpI D = x) (hx : x ≠ 0) : after f M D W P 1 = x := by simp [after, h, hx]
theorem after_bad2 {f : Int} {M D : List Int} {W : List (Int × Int)} {P : List Int} {x : Int} (h : chkL (inW f) cmpN W = x) (hx : x ≠ 0) : after f M D W P 2 = x := by simp [after, h, hx]
theorem after_bad3 {f : Int} {M D : List Int} {W : List (Int × Int)} {P : List Int} {x : Int} (h : chkL inP cmpI P = x) (_ : x ≠ 0) : after f M D W P 3 = x := by simp [after, h]
theorem after_ok0 {f : Int} {M D : List Int} {W : List (Int × Int)} {P : List Int} (h : chkL inM cmpI M = 0) : after f M D W P 0 = after f M D W P 1 := by simp [after, lists, h]
theorem after_ok1 {f : Int} {M D : List Int} {W : List (Int × Int)} {P : List Int} (h : chkL inD cmpI D = 0) : after f M D W P 1 = after f M D W P 2 := by simp [after, h]
theorem after_ok2 {f : Int} {M D : List Int} {W : List (Int × Int)} {P : List Int} (h : chkL (inW f) cmpN W = 0) : after f M D W P 2 = after f M D W P 3 := by simp [after, h]
theorem after_ok3 {f : Int} {M D : List Int} {W : List (Int × Int)} {P : List Int} (h : chkL inP cmpI P = 0) : after f M D W P 3 = after f M D W P 4 := by simp [after, h]
/-- days by weeks; positions alone -/
def odd (f : Int) (M D : List Int) (W : List (Int × Int)) (P : List Int) : Bool :=
  f == 1 && decide (0 < D.length) || decide (0 < P.length) && !(decide (0 < M.length) || decide (0 < D.length) || decide (0 < W.length))
/-- what Check answers behind the numbers -/
def tail (f : Int) (M D : List Int) (W : List (Int × Int)) (P : List Int) : Int :=
  if lists f M D W P != 0 then lists f M D W P else if odd f M D W P then 6 else 0
theorem tail_bad {f : Int} {M D : List Int} {W : List (Int × Int)} {P : List Int} {x : Int} (h : lists f M D W P = x) (hx : x ≠ 0) : tail f M D W P = x := by simp [tail, h, hx]
theorem tail_ok {f : Int} {M D : List Int} {W : List (Int × Int)} {P : List Int} (h : lists f M D W P = 0) : tail f M D W P = if odd f M D W P then 6 else 0 := by simp [tail, h]
/-- chapter 2's Check -/
def check (f iv c u : Int) (M D : List Int) (W : List (Int × Int)) (P : List Int) : Int :=
  if noFreq f then 6 else if nums iv c u != 0 then nums iv c u else if lists f M D W P != 0 then lists f M D W P
  else if odd f M D W P then 6 else 0
end Go.Proofs.YtfhhlebadmkckaaDoor.Rul
