/-
  Plain: what chapter 2 asks of a rule's fields, as functions of numbers and lists.
-/
import Derived.Lib.Hide
import Derived.Test.YtocpmljkmdpfkaaGreatDoorW5
import Derived.Handy
namespace Go.Proofs.YtocpmljkmdpfkaaGreatDoor.Rul

def btw (n lo hi : Int) : Bool := decide (lo ≤ n ∧ n ≤ hi)
theorem btw_yes {n lo hi : Int} (a : lo ≤ n) (b : n ≤ hi) : btw n lo hi = true := by simp [btw, a, b]
theorem btw_no {n lo hi : Int} (a : n < lo ∨ hi < n) : btw n lo hi = false := by simp [btw]; omega
def inM (m : Int) : Bool := btw m 1 12
def inD (d : Int) : Bool := d != 0 && btw d (-31) 31
def inP (p : Int) : Bool := p != 0 && btw p (-366) 366
/-- the greatest N of a weekday -/
def most (f : Int) : Int := if f = 2 then 5 else if f = 3 then 53 else 0
theorem most_bd (f : Int) : 0 ≤ most f ∧ most f ≤ 53 := by unfold most; split <;> (try split) <;> omega
def inW (f : Int) (x : Int × Int) : Bool := btw x.2 0 6 && btw x.1 (-(most f)) (most f)
def cmpI (a b : Int) : Int := if a < b then -1 else if b < a then 1 else 0
theorem cmpI_lt {a b : Int} (h : a < b) : cmpI a b = -1 := by simp [cmpI, h]
theorem cmpI_gt {a b : Int} (h : b < a) : cmpI a b = 1 := by simp [cmpI, h]; omega
theorem cmpI_eq (a : Int) : cmpI a a = 0 := by simp [cmpI]
theorem cmpI_zero {a b : Int} : cmpI a b = 0 ↔ a = b := by unfold cmpI; split <;> (try split) <;> omega
theorem cmpI_neg {a b : Int} : cmpI a b < 0 ↔ a < b := by unfold cmpI; split <;> (try split) <;> omega
def cmpN (a b : Int × Int) : Int := if cmpI a.1 b.1 = 0 then cmpI a.2 b.2 else cmpI a.1 b.1
theorem cmpN_neg {a b : Int × Int} : cmpN a b < 0 ↔ a.1 < b.1 ∨ a.1 = b.1 ∧ a.2 < b.2 := by
  unfold cmpN; have h1 := @cmpI_zero a.1 b.1; have h2 := @cmpI_neg a.1 b.1; have h3 := @cmpI_neg a.2 b.2
  split <;> omega

/-- from the element at k on: the first fault of a list: 3 out of range, 4 out of order; 0: none -/
def step {α : Type} (p : α → Bool) (c : α → α → Int) (l : List α) (k : Nat) : Int :=
  if h : k < l.length then
    if p l[k] = false then 3
    else if 0 < k ∧ 0 ≤ c (l[k - 1]'(by omega)) l[k] then 4
    else step p c l (k + 1)
  else 0
termination_by l.length - k

section
variable {α : Type} {p : α → Bool} {c : α → α → Int} {l : List α} {k : Nat}
theorem step_end (h : ¬ k < l.length) : step p c l k = 0 := by rw [step, dif_neg h]
theorem step_range (h : k < l.length) (hp : p l[k] = false) : step p c l k = 3 := by rw [step, dif_pos h, if_pos hp]
theorem step_order (h : k < l.length) (hp : p l[k] = true) (h0 : 0 < k) (hc : 0 ≤ c (l[k - 1]'(by omega)) l[k]) : step p c l k = 4 := by
  rw [step, dif_pos h, if_neg (by simp [hp]), if_pos ⟨h0, hc⟩]
theorem step_next (h : k < l.length) (hp : p l[k] = true) (h0 : 0 < k) (hc : c (l[k - 1]'(by omega)) l[k] < 0) : step p c l k = step p c l (k + 1) := by
  conv => lhs; rw [step]
  rw [dif_pos h, if_neg (by simp [hp]), if_neg (by omega)]
theorem step_first (h : 0 < l.length) (hp : p l[0] = true) : step p c l 0 = step p c l 1 := by
  conv => lhs; rw [step]
  rw [dif_pos h, if_neg (by simp [hp]), if_neg (by omega)]
end

/-- a list's fault: 2 too long; then its first element's -/
def chkL {α : Type} (p : α → Bool) (c : α → α → Int) (l : List α) : Int := if 64 < l.length then 2 else step p c l 0
theorem chkL_long {α : Type} {p : α → Bool} {c : α → α → Int} {l : List α} (h : 64 < l.length) : chkL p c l = 2 := by simp [chkL, h]
theorem chkL_short {α : Type} {p : α → Bool} {c : α → α → Int} {l : List α} (h : l.length ≤ 64) : chkL p c l = step p c l 0 := by simp [chkL]; omega
/-- no such period -/
def noFreq (f : Int) : Bool := decide (f < 0 ∨ 4 ≤ f)
/-- a number out of its range -/
def badNum (iv c u : Int) : Bool := !(btw iv 1 999) || !(btw c 0 9999) || (u != 0 && !(btw u 1 3652059))
def nums (iv c u : Int) : Int := if badNum iv c u then 3 else if c != 0 && u != 0 then 7 else 0
def lists (f : Int) (M D : List Int) (W : List (Int × Int)) (P : List Int) : Int :=
  if chkL inM cmpI M != 0 then chkL inM cmpI M else if chkL inD cmpI D != 0 then chkL inD cmpI D
  else if chkL (inW f) cmpN W != 0 then chkL (inW f) cmpN W else chkL inP cmpI P
/-- days by weeks; positions alone -/
def odd (f : Int) (M D : List Int) (W : List (Int × Int)) (P : List Int) : Bool :=
  f == 1 && decide (0 < D.length) || decide (0 < P.length) && !(decide (0 < M.length) || decide (0 < D.length) || decide (0 < W.length))
/-- chapter 2's Check -/
def check (f iv c u : Int) (M D : List Int) (W : List (Int × Int)) (P : List Int) : Int :=
  if noFreq f then 6 else if nums iv c u != 0 then nums iv c u else if lists f M D W P != 0 then lists f M D W P
  else if odd f M D W P then 6 else 0
end Go.Proofs.YtocpmljkmdpfkaaGreatDoor.Rul
/-
  Contracts of rule's and the law's leaf functions.
-/
namespace Go.Proofs.YtocpmljkmdpfkaaGreatDoor
open Go.RowKit

theorem between_any (n lo hi : Int) (w : World) : Calls Tryz.prog 106 #[.int .i64 n, .int .i64 lo, .int .i64 hi] w fun e w' => e = .returned (.bool (Rul.btw n lo hi)) ∧ w = w' := by
  by_cases a : lo ≤ n
  · by_cases b : n ≤ hi
    · have E := Lib.hid (Rul.btw_yes a b)
      go_enter Tryz.func106, Tryz.ntmps106
      go_wp2
      go_ret
      exact ⟨ret_bool E.out.symm, rfl⟩
    · have E := Lib.hid (Rul.btw_no (n := n) (lo := lo) (hi := hi) (by omega))
      go_enter Tryz.func106, Tryz.ntmps106
      go_wp2
      go_ret
      exact ⟨ret_bool E.out.symm, rfl⟩
  · have E := Lib.hid (Rul.btw_no (n := n) (lo := lo) (hi := hi) (by omega))
    go_enter Tryz.func106, Tryz.ntmps106
    go_wp2
    go_ret
    exact ⟨ret_bool E.out.symm, rfl⟩

theorem isMonth_any (n : Int) (w : World) : Calls Tryz.prog 109 #[.int .i64 n] w fun e w' => e = .returned (.bool (Rul.inM n)) ∧ w = w' := by
  go_enter Tryz.func109, Tryz.ntmps109
  go_wp2_with fail
  refine (between_any _ _ _ _).mono ?_
  rintro e w' ⟨rfl, rfl⟩
  go_wp2
  go_ret
  exact ⟨rfl, rfl⟩

theorem isMonthDay_any (n : Int) (w : World) : Calls Tryz.prog 111 #[.int .i64 n] w fun e w' => e = .returned (.bool (Rul.inD n)) ∧ w = w' := by
  by_cases h : n = 0
  · subst h
    go_enter Tryz.func111, Tryz.ntmps111
    go_wp2
    go_ret
    exact ⟨rfl, rfl⟩
  · have h' : (n != 0) = true := by simpa using h
    have E := Lib.hid (show Rul.inD n = Rul.btw n (-31) 31 by simp [Rul.inD, h])
    clear h
    go_enter Tryz.func111, Tryz.ntmps111
    go_wp2_with fail
    refine (between_any _ _ _ _).mono ?_
    rintro e w' ⟨rfl, rfl⟩
    go_wp2
    go_ret
    exact ⟨ret_bool E.out.symm, rfl⟩
theorem isPos_any (n : Int) (w : World) : Calls Tryz.prog 116 #[.int .i64 n] w fun e w' => e = .returned (.bool (Rul.inP n)) ∧ w = w' := by
  by_cases h : n = 0
  · subst h
    go_enter Tryz.func116, Tryz.ntmps116
    go_wp2
    go_ret
    exact ⟨rfl, rfl⟩
  · have h' : (n != 0) = true := by simpa using h
    have E := Lib.hid (show Rul.inP n = Rul.btw n (-366) 366 by simp [Rul.inP, h])
    clear h
    go_enter Tryz.func116, Tryz.ntmps116
    go_wp2_with fail
    refine (between_any _ _ _ _).mono ?_
    rintro e w' ⟨rfl, rfl⟩
    go_wp2
    go_ret
    exact ⟨ret_bool E.out.symm, rfl⟩

theorem maxNth_any (f : Int) (w : World) : Calls Tryz.prog 112 #[.int .i64 f] w fun e w' => e = .returned (.int .i64 (Rul.most f)) ∧ w = w' := by
  by_cases h2 : f = 2
  · subst h2
    go_enter Tryz.func112, Tryz.ntmps112
    go_wp2
    go_ret
    exact ⟨rfl, rfl⟩
  · by_cases h3 : f = 3
    · subst h3
      go_enter Tryz.func112, Tryz.ntmps112
      go_wp2
      go_ret
      exact ⟨rfl, rfl⟩
    · have E := Lib.hid (show Rul.most f = 0 by simp [Rul.most, h2, h3])
      have h2' : (f == 2) = false := by simpa using h2
      have h3' : (f == 3) = false := by simpa using h3
      clear h2 h3
      go_enter Tryz.func112, Tryz.ntmps112
      go_wp2
      go_ret
      exact ⟨ret_int E.out.symm, rfl⟩

theorem isNaN_int (n : Int) (w : World) : Calls Tryz.prog 143 #[.int .i64 n] w fun e w' => e = .returned (.bool false) ∧ w = w' := by
  go_enter Tryz.func143, Tryz.ntmps143
  go_wp2
  go_ret
  exact ⟨by simp, rfl⟩
theorem compare_int (a b : Int) (w : World) : Calls Tryz.prog 110 #[.int .i64 a, .int .i64 b] w fun e w' => e = .returned (.int .i64 (Rul.cmpI a b)) ∧ w = w' := by
  rcases Int.lt_trichotomy a b with h | h | h
  · have E := Lib.hid (Rul.cmpI_lt h)
    go_enter Tryz.func110, Tryz.ntmps110
    go_wp2_with (go_at_call 143; refine (isNaN_int _ _).mono ?_; rintro e w' ⟨rfl, rfl⟩)
    go_ret
    exact ⟨ret_int E.out.symm, rfl⟩
  · subst h
    have E := Lib.hid (Rul.cmpI_eq a)
    go_enter Tryz.func110, Tryz.ntmps110
    go_wp2_with (go_at_call 143; refine (isNaN_int _ _).mono ?_; rintro e w' ⟨rfl, rfl⟩)
    go_ret
    exact ⟨ret_int E.out.symm, rfl⟩
  · have E := Lib.hid (Rul.cmpI_gt h)
    have h' : ¬ a < b := by omega
    go_enter Tryz.func110, Tryz.ntmps110
    go_wp2_with (go_at_call 143; refine (isNaN_int _ _).mono ?_; rintro e w' ⟨rfl, rfl⟩)
    go_ret
    exact ⟨ret_int E.out.symm, rfl⟩
end Go.Proofs.YtocpmljkmdpfkaaGreatDoor
/-
  Contracts of rule.Order, the closure over weekdays, the law's outside, and rule.checkList at numbers.
-/
namespace Go.Proofs.YtocpmljkmdpfkaaGreatDoor
open Go.RowKit

/-- a slice's numbers lie in memory -/
def IntsIn (w : World) (A : Option Addr) (l : List Int) : Prop :=
  ∀ k (h : k < l.length), ∃ ad : Addr, A = some ad ∧ ad.block < w.heap.size ∧ w.cell? (ad.add k) = some (.int .i64 l[k])
theorem block_add (a : Addr) (n : Nat) : (a.add n).block = a.block := by unfold Addr.add; split <;> rfl
theorem IntsIn.below {w w' : World} {A : Option Addr} {l : List Int} (h : IntsIn w A l) (hb : Below w.heap.size w w') : IntsIn w' A l := fun k hk => by
  obtain ⟨ad, rfl, hlt, hc⟩ := h k hk
  exact ⟨ad, rfl, Nat.lt_of_lt_of_le hlt hb.size, (hb.cell (p := ad.add k) (by rw [block_add]; exact hlt)).trans hc⟩

theorem order_any (a b c d : Int) (w : World) : Calls Tryz.prog 115 #[.agg #[.int .i64 a, .int .i64 b], .agg #[.int .i64 c, .int .i64 d]] w fun e w' => e = .returned (.int .i64 (Rul.cmpN (a, b) (c, d))) ∧ Below w.heap.size w w' := by
  by_cases h : Rul.cmpI a c = 0
  · have E := Lib.hid (show Rul.cmpN (a, b) (c, d) = Rul.cmpI b d by simp [Rul.cmpN, h])
    have Z := Lib.hid h
    clear h
    go_enter Tryz.func115, Tryz.ntmps115
    go_wp2_with fail
    refine (compare_int _ _ _).mono ?_
    rintro e w' ⟨rfl, rfl⟩
    rw [Z.out]
    go_wp2_with fail
    refine (compare_int _ _ _).mono ?_
    rintro e w' ⟨rfl, rfl⟩
    go_wp2
    go_ret
    exact ⟨ret_int E.out.symm, by go_grown⟩
  · have E := Lib.hid (show Rul.cmpN (a, b) (c, d) = Rul.cmpI a c by simp [Rul.cmpN, h])
    have h' : (Rul.cmpI a c != 0) = true := by simpa using h
    clear h
    go_enter Tryz.func115, Tryz.ntmps115
    go_wp2_with fail
    refine (compare_int _ _ _).mono ?_
    rintro e w' ⟨rfl, rfl⟩
    go_wp2
    go_ret
    exact ⟨ret_int E.out.symm, by go_grown⟩

theorem inW_any (f n d : Int) (p : Addr) (w : World) (hc : w.cell? p = some (.int .i64 (Rul.most f))) (hp : p.block < w.heap.size) :
    Calls Tryz.prog 113 #[.agg #[.int .i64 n, .int .i64 d], .pointer (some p)] w fun e w' => e = .returned (.bool (Rul.inW f (n, d))) ∧ Below w.heap.size w w' := by
  have hm := Rul.most_bd f
  have hc' : ∀ o, (w.alloc o).cell? p = some (.int .i64 (Rul.most f)) := fun o => (World.cell?_alloc_lt w o p hp).trans hc
  cases hb : Rul.btw d 0 6
  · have E := Lib.hid (show Rul.inW f (n, d) = false by simp [Rul.inW, hb])
    have B := Lib.hid hb
    clear hb
    go_enter Tryz.func113, Tryz.ntmps113
    go_wp2_with fail
    refine (between_any _ _ _ _).mono ?_
    rintro e w' ⟨rfl, rfl⟩
    rw [B.out]
    go_wp2
    go_ret
    exact ⟨ret_bool E.out.symm, by go_grown⟩
  · have E := Lib.hid (show Rul.inW f (n, d) = Rul.btw n (-(Rul.most f)) (Rul.most f) by simp [Rul.inW, hb])
    have B := Lib.hid hb
    clear hb
    go_enter Tryz.func113, Tryz.ntmps113
    go_wp2_with fail
    refine (between_any _ _ _ _).mono ?_
    rintro e w' ⟨rfl, rfl⟩
    rw [B.out]
    go_wp2_with fail
    refine (between_any _ _ _ _).mono ?_
    rintro e w' ⟨rfl, rfl⟩
    go_wp2
    go_ret
    exact ⟨ret_bool E.out.symm, by go_grown⟩

/-- the law's outside -/
def out (n m : Int) : Bool := decide (n = 0 ∨ n < -m ∨ m < n)
end Go.Proofs.YtocpmljkmdpfkaaGreatDoor
/-
  Contracts of rule.checkList at numbers.
-/
namespace Go.Proofs.YtocpmljkmdpfkaaGreatDoor
open Go.RowKit

set_option maxHeartbeats 1000000 in
theorem checkM_any (A : Option Addr) (l : List Int) (cap : Nat) (w : World) (h : IntsIn w A l) (hl : l.length ≤ maxLen) :
    Calls Tryz.prog 108 #[.slice A l.length cap, .func (.func 109) #[] #[], .func (.func 110) #[] #[]] w fun e w' => e = .returned (.int .i64 (Rul.chkL Rul.inM Rul.cmpI l)) ∧ w = w' := by
  unfold maxLen at hl
  by_cases h64 : 64 < l.length
  · have E := Lib.hid (Rul.chkL_long (p := Rul.inM) (c := Rul.cmpI) h64)
    go_enter Tryz.func108, Tryz.ntmps108
    go_wp2
    go_ret
    exact ⟨ret_int E.out.symm, rfl⟩
  · have E := Lib.hid (Rul.chkL_short (p := Rul.inM) (c := Rul.cmpI) (l := l) (by omega))
    go_enter Tryz.func108, Tryz.ntmps108
    go_wp2
    go_loop [14] (fun i => ∃ k : Nat, k ≤ l.length ∧ i = .int .i64 k ∧ Hid (Rul.step Rul.inM Rul.cmpI l 0 = Rul.step Rul.inM Rul.cmpI l k)) (fun i => l.length - (intOf i).toNat)
    case atStart => exact ⟨0, Nat.zero_le _, rfl, Lib.hid rfl⟩
    case round =>
      obtain ⟨k, hk, rfl, HS⟩ := hrel
      by_cases hlt : k < l.length
      · obtain ⟨ad, rfl, hb, hc⟩ := h k hlt
        cases hp : Rul.inM l[k]
        · have R := Lib.hid (Rul.step_range (c := Rul.cmpI) hlt hp)
          have HP := Lib.hid hp
          clear hp
          go_wp2_with fail
          refine (isMonth_any _ _).mono ?_
          rintro e w' ⟨rfl, rfl⟩
          rw [HP.out]
          go_wp2
          go_ret
          exact ⟨ret_int (by rw [E.out, HS.out, R.out]), rfl⟩
        · by_cases h0 : 0 < k
          · obtain ⟨ad', ha, _, hc'⟩ := h (k - 1) (by omega)
            obtain rfl : ad = ad' := by injection ha
            clear ha
            have HP := Lib.hid hp
            by_cases ho : Rul.cmpI (l[k - 1]'(by omega)) l[k] < 0
            · have R := Lib.hid (Rul.step_next (c := Rul.cmpI) hlt hp h0 ho)
              clear hp
              go_wp2_with fail
              refine (isMonth_any _ _).mono ?_
              rintro e w' ⟨rfl, rfl⟩
              rw [HP.out]
              go_wp2_with fail
              refine (compare_int _ _ _).mono ?_
              rintro e w' ⟨rfl, rfl⟩
              go_wp2
              go_round
              case rel => exact ⟨k + 1, by omega, by go_num, Lib.hid (by rw [HS.out, R.out])⟩
              case measure => simp [intOf]; omega
            · have ho2 : 0 ≤ Rul.cmpI (l[k - 1]'(by omega)) l[k] := by omega
              have R := Lib.hid (Rul.step_order (c := Rul.cmpI) hlt hp h0 ho2)
              clear hp ho
              go_wp2_with fail
              refine (isMonth_any _ _).mono ?_
              rintro e w' ⟨rfl, rfl⟩
              rw [HP.out]
              go_wp2_with fail
              refine (compare_int _ _ _).mono ?_
              rintro e w' ⟨rfl, rfl⟩
              go_wp2
              go_ret
              exact ⟨ret_int (by rw [E.out, HS.out, R.out]), rfl⟩
          · obtain rfl : k = 0 := by omega
            have R := Lib.hid (Rul.step_first (c := Rul.cmpI) hlt hp)
            have HP := Lib.hid hp
            have hc0 : w.cell? ad = some (.int .i64 l[0]) := by simpa [Addr.add] using hc
            clear hp hc h0
            go_wp2_with fail
            refine (isMonth_any _ _).mono ?_
            rintro e w' ⟨rfl, rfl⟩
            rw [HP.out]
            go_wp2
            go_round
            case rel => exact ⟨1, by omega, by go_num, Lib.hid (by rw [R.out])⟩
            case measure => simp [intOf]; omega
      · have R := Lib.hid (Rul.step_end (p := Rul.inM) (c := Rul.cmpI) hlt)
        go_wp2
        go_ret
        exact ⟨ret_int (by rw [E.out, HS.out, R.out]), rfl⟩

set_option maxHeartbeats 1000000 in
theorem checkD_any (A : Option Addr) (l : List Int) (cap : Nat) (w : World) (h : IntsIn w A l) (hl : l.length ≤ maxLen) :
    Calls Tryz.prog 108 #[.slice A l.length cap, .func (.func 111) #[] #[], .func (.func 110) #[] #[]] w fun e w' => e = .returned (.int .i64 (Rul.chkL Rul.inD Rul.cmpI l)) ∧ w = w' := by
  unfold maxLen at hl
  by_cases h64 : 64 < l.length
  · have E := Lib.hid (Rul.chkL_long (p := Rul.inD) (c := Rul.cmpI) h64)
    go_enter Tryz.func108, Tryz.ntmps108
    go_wp2
    go_ret
    exact ⟨ret_int E.out.symm, rfl⟩
  · have E := Lib.hid (Rul.chkL_short (p := Rul.inD) (c := Rul.cmpI) (l := l) (by omega))
    go_enter Tryz.func108, Tryz.ntmps108
    go_wp2
    go_loop [14] (fun i => ∃ k : Nat, k ≤ l.length ∧ i = .int .i64 k ∧ Hid (Rul.step Rul.inD Rul.cmpI l 0 = Rul.step Rul.inD Rul.cmpI l k)) (fun i => l.length - (intOf i).toNat)
    case atStart => exact ⟨0, Nat.zero_le _, rfl, Lib.hid rfl⟩
    case round =>
      obtain ⟨k, hk, rfl, HS⟩ := hrel
      by_cases hlt : k < l.length
      · obtain ⟨ad, rfl, hb, hc⟩ := h k hlt
        cases hp : Rul.inD l[k]
        · have R := Lib.hid (Rul.step_range (c := Rul.cmpI) hlt hp)
          have HP := Lib.hid hp
          clear hp
          go_wp2_with fail
          refine (isMonthDay_any _ _).mono ?_
          rintro e w' ⟨rfl, rfl⟩
          rw [HP.out]
          go_wp2
          go_ret
          exact ⟨ret_int (by rw [E.out, HS.out, R.out]), rfl⟩
        · by_cases h0 : 0 < k
          · obtain ⟨ad', ha, _, hc'⟩ := h (k - 1) (by omega)
            obtain rfl : ad = ad' := by injection ha
            clear ha
            have HP := Lib.hid hp
            by_cases ho : Rul.cmpI (l[k - 1]'(by omega)) l[k] < 0
            · have R := Lib.hid (Rul.step_next (c := Rul.cmpI) hlt hp h0 ho)
              clear hp
              go_wp2_with fail
              refine (isMonthDay_any _ _).mono ?_
              rintro e w' ⟨rfl, rfl⟩
              rw [HP.out]
              go_wp2_with fail
              refine (compare_int _ _ _).mono ?_
              rintro e w' ⟨rfl, rfl⟩
              go_wp2
              go_round
              case rel => exact ⟨k + 1, by omega, by go_num, Lib.hid (by rw [HS.out, R.out])⟩
              case measure => simp [intOf]; omega
            · have ho2 : 0 ≤ Rul.cmpI (l[k - 1]'(by omega)) l[k] := by omega
              have R := Lib.hid (Rul.step_order (c := Rul.cmpI) hlt hp h0 ho2)
              clear hp ho
              go_wp2_with fail
              refine (isMonthDay_any _ _).mono ?_
              rintro e w' ⟨rfl, rfl⟩
              rw [HP.out]
              go_wp2_with fail
              refine (compare_int _ _ _).mono ?_
              rintro e w' ⟨rfl, rfl⟩
              go_wp2
              go_ret
              exact ⟨ret_int (by rw [E.out, HS.out, R.out]), rfl⟩
          · obtain rfl : k = 0 := by omega
            have R := Lib.hid (Rul.step_first (c := Rul.cmpI) hlt hp)
            have HP := Lib.hid hp
            have hc0 : w.cell? ad = some (.int .i64 l[0]) := by simpa [Addr.add] using hc
            clear hp hc h0
            go_wp2_with fail
            refine (isMonthDay_any _ _).mono ?_
            rintro e w' ⟨rfl, rfl⟩
            rw [HP.out]
            go_wp2
            go_round
            case rel => exact ⟨1, by omega, by go_num, Lib.hid (by rw [R.out])⟩
            case measure => simp [intOf]; omega
      · have R := Lib.hid (Rul.step_end (p := Rul.inD) (c := Rul.cmpI) hlt)
        go_wp2
        go_ret
        exact ⟨ret_int (by rw [E.out, HS.out, R.out]), rfl⟩

set_option maxHeartbeats 1000000 in
theorem checkP_any (A : Option Addr) (l : List Int) (cap : Nat) (w : World) (h : IntsIn w A l) (hl : l.length ≤ maxLen) :
    Calls Tryz.prog 108 #[.slice A l.length cap, .func (.func 116) #[] #[], .func (.func 110) #[] #[]] w fun e w' => e = .returned (.int .i64 (Rul.chkL Rul.inP Rul.cmpI l)) ∧ w = w' := by
  unfold maxLen at hl
  by_cases h64 : 64 < l.length
  · have E := Lib.hid (Rul.chkL_long (p := Rul.inP) (c := Rul.cmpI) h64)
    go_enter Tryz.func108, Tryz.ntmps108
    go_wp2
    go_ret
    exact ⟨ret_int E.out.symm, rfl⟩
  · have E := Lib.hid (Rul.chkL_short (p := Rul.inP) (c := Rul.cmpI) (l := l) (by omega))
    go_enter Tryz.func108, Tryz.ntmps108
    go_wp2
    go_loop [14] (fun i => ∃ k : Nat, k ≤ l.length ∧ i = .int .i64 k ∧ Hid (Rul.step Rul.inP Rul.cmpI l 0 = Rul.step Rul.inP Rul.cmpI l k)) (fun i => l.length - (intOf i).toNat)
    case atStart => exact ⟨0, Nat.zero_le _, rfl, Lib.hid rfl⟩
    case round =>
      obtain ⟨k, hk, rfl, HS⟩ := hrel
      by_cases hlt : k < l.length
      · obtain ⟨ad, rfl, hb, hc⟩ := h k hlt
        cases hp : Rul.inP l[k]
        · have R := Lib.hid (Rul.step_range (c := Rul.cmpI) hlt hp)
          have HP := Lib.hid hp
          clear hp
          go_wp2_with fail
          refine (isPos_any _ _).mono ?_
          rintro e w' ⟨rfl, rfl⟩
          rw [HP.out]
          go_wp2
          go_ret
          exact ⟨ret_int (by rw [E.out, HS.out, R.out]), rfl⟩
        · by_cases h0 : 0 < k
          · obtain ⟨ad', ha, _, hc'⟩ := h (k - 1) (by omega)
            obtain rfl : ad = ad' := by injection ha
            clear ha
            have HP := Lib.hid hp
            by_cases ho : Rul.cmpI (l[k - 1]'(by omega)) l[k] < 0
            · have R := Lib.hid (Rul.step_next (c := Rul.cmpI) hlt hp h0 ho)
              clear hp
              go_wp2_with fail
              refine (isPos_any _ _).mono ?_
              rintro e w' ⟨rfl, rfl⟩
              rw [HP.out]
              go_wp2_with fail
              refine (compare_int _ _ _).mono ?_
              rintro e w' ⟨rfl, rfl⟩
              go_wp2
              go_round
              case rel => exact ⟨k + 1, by omega, by go_num, Lib.hid (by rw [HS.out, R.out])⟩
              case measure => simp [intOf]; omega
            · have ho2 : 0 ≤ Rul.cmpI (l[k - 1]'(by omega)) l[k] := by omega
              have R := Lib.hid (Rul.step_order (c := Rul.cmpI) hlt hp h0 ho2)
              clear hp ho
              go_wp2_with fail
              refine (isPos_any _ _).mono ?_
              rintro e w' ⟨rfl, rfl⟩
              rw [HP.out]
              go_wp2_with fail
              refine (compare_int _ _ _).mono ?_
              rintro e w' ⟨rfl, rfl⟩
              go_wp2
              go_ret
              exact ⟨ret_int (by rw [E.out, HS.out, R.out]), rfl⟩
          · obtain rfl : k = 0 := by omega
            have R := Lib.hid (Rul.step_first (c := Rul.cmpI) hlt hp)
            have HP := Lib.hid hp
            have hc0 : w.cell? ad = some (.int .i64 l[0]) := by simpa [Addr.add] using hc
            clear hp hc h0
            go_wp2_with fail
            refine (isPos_any _ _).mono ?_
            rintro e w' ⟨rfl, rfl⟩
            rw [HP.out]
            go_wp2
            go_round
            case rel => exact ⟨1, by omega, by go_num, Lib.hid (by rw [R.out])⟩
            case measure => simp [intOf]; omega
      · have R := Lib.hid (Rul.step_end (p := Rul.inP) (c := Rul.cmpI) hlt)
        go_wp2
        go_ret
        exact ⟨ret_int (by rw [E.out, HS.out, R.out]), rfl⟩
end Go.Proofs.YtocpmljkmdpfkaaGreatDoor
