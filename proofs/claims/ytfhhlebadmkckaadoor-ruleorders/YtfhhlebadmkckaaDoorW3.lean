/-
  Contracts of civil.padded, Day.Text and the law's digits: numbers and days as texts.
-/
import Derived.Test.YtfhhlebadmkckaaDoorW2
import Derived.Handy
import Derived.Laws.BytesArg
namespace Go.Proofs.YtfhhlebadmkckaaDoor
open Go.RowKit

theorem ret_str {a b : ByteArray} (h : a = b) : Ending.returned (.string a) = .returned (.string b) := by rw [h]

/-- a number's last digit, as a byte -/
def dig (n : Int) : UInt8 := UInt8.ofNat (48 + n % 10).toNat
def pad2 (n : Int) : ByteArray := ⟨#[dig (n / 10), dig n]⟩
def pad4 (n : Int) : ByteArray := ⟨#[dig (n / 1000), dig (n / 100), dig (n / 10), dig n]⟩
/-- a date's text -/
def txt (y m d : Int) : ByteArray := ⟨#[dig (y / 1000), dig (y / 100), dig (y / 10), dig y, 45, dig (m / 10), dig m, 45, dig (d / 10), dig d]⟩

theorem encode_dig (n : Int) : Utf8.encode (48 + n % 10) = ⟨#[dig n]⟩ := by
  unfold dig
  have h1 : 0 ≤ n % 10 := by omega
  have h2 : n % 10 < 10 := by omega
  generalize n % 10 = r at *
  have : r = 0 ∨ r = 1 ∨ r = 2 ∨ r = 3 ∨ r = 4 ∨ r = 5 ∨ r = 6 ∨ r = 7 ∨ r = 8 ∨ r = 9 := by omega
  rcases this with rfl | rfl | rfl | rfl | rfl | rfl | rfl | rfl | rfl | rfl <;> decide
theorem dig_nn (n : Int) (k : Int) (h : n / 10 / 10 = k) : dig (n / 10 / 10) = dig k := by rw [h]
theorem pad4_of (n : Int) : strOfNums [48 + n / 10 / 10 / 10 % 10, 48 + n / 10 / 10 % 10, 48 + n / 10 % 10, 48 + n % 10] = pad4 n := by
  have e1 : n / 10 / 10 = n / 100 := by omega
  have e2 : n / 100 / 10 = n / 1000 := by omega
  rw [e1, e2]; rfl
theorem pad2_of (n : Int) : strOfNums [48 + n / 10 % 10, 48 + n % 10] = pad2 n := rfl

theorem convert4 (w : World) (a b c d : Int) : (convert 26 9 (.slice (some ⟨w.heap.size, 0, none⟩) 4 4)).run Tryd.prog (w.alloc (.cells #[.int .u8 a, .int .u8 b, .int .u8 c, .int .u8 d] 5)) = .ok (.string (strOfNums [a, b, c, d])) (w.alloc (.cells #[.int .u8 a, .int .u8 b, .int .u8 c, .int .u8 d] 5)) := by
  refine run_convert_bytes_arg _ 26 5 Tryd.underlying26 Tryd.underlying5 _ 0 4 4 [a, b, c, d] rfl (fun i hi => ?_) 9 Tryd.underlying9
  match i, hi with
  | 0, _ => simp
  | 1, _ => simp
  | 2, _ => simp
  | 3, _ => simp
theorem convert2 (w : World) (a b : Int) : (convert 26 9 (.slice (some ⟨w.heap.size, 0, none⟩) 2 2)).run Tryd.prog (w.alloc (.cells #[.int .u8 a, .int .u8 b] 5)) = .ok (.string (strOfNums [a, b])) (w.alloc (.cells #[.int .u8 a, .int .u8 b] 5)) := by
  refine run_convert_bytes_arg _ 26 5 Tryd.underlying26 Tryd.underlying5 _ 0 2 2 [a, b] rfl (fun i hi => ?_) 9 Tryd.underlying9
  match i, hi with
  | 0, _ => simp
  | 1, _ => simp

set_option maxHeartbeats 400000 in
theorem padded4 (n : Int) (w : World) (h0 : 0 ≤ n) (h1 : n ≤ 9999) : Calls Tryd.prog 45 #[.int .i64 n, .int .i64 4] w fun e w' => e = .returned (.string (pad4 n)) ∧ Below w.heap.size w w' := by
  have hmk : ∀ w, (Instr.makeSlice 26 (.int .i64 4) (.int .i64 4)).run Tryd.prog w = .ok (.slice (some ⟨w.heap.size, 0, none⟩) 4 4) (w.alloc (.cells #[.int .u8 0, .int .u8 0, .int .u8 0, .int .u8 0] 5)) := fun _ => by kernel_rfl
  have hcv := convert4 w
  go_enter Tryd.func45, Tryd.ntmps45
  go_wp2
  refine wp_loop_rounds 5 ?_
  rw [rounds_succ]; go_wp2
  rw [rounds_succ]; go_wp2
  rw [rounds_succ]; go_wp2
  rw [rounds_succ]; go_wp2
  rw [rounds_succ]; go_wp2
  go_ret
  exact ⟨ret_str (pad4_of n), by go_grown⟩
set_option maxHeartbeats 400000 in
theorem padded2 (n : Int) (w : World) (h0 : 0 ≤ n) (h1 : n ≤ 99) : Calls Tryd.prog 45 #[.int .i64 n, .int .i64 2] w fun e w' => e = .returned (.string (pad2 n)) ∧ Below w.heap.size w w' := by
  have hmk : ∀ w, (Instr.makeSlice 26 (.int .i64 2) (.int .i64 2)).run Tryd.prog w = .ok (.slice (some ⟨w.heap.size, 0, none⟩) 2 2) (w.alloc (.cells #[.int .u8 0, .int .u8 0] 5)) := fun _ => by kernel_rfl
  have hcv := convert2 w
  go_enter Tryd.func45, Tryd.ntmps45
  go_wp2
  refine wp_loop_rounds 3 ?_
  rw [rounds_succ]; go_wp2
  rw [rounds_succ]; go_wp2
  rw [rounds_succ]; go_wp2
  go_ret
  exact ⟨ret_str (pad2_of n), by go_grown⟩

theorem text_no (n : Int) (w : World) (h : n < 1 ∨ 3652059 < n) : Calls Tryd.prog 25 #[.int .i64 n] w fun e w' => e = .returned (.string ⟨#[]⟩) ∧ w = w' := by
  go_enter Tryd.func25, Tryd.ntmps25
  go_wp2_with (go_at_call 34; refine (valid_no _ _ h).mono ?_; rintro e w' ⟨rfl, rfl⟩)
  go_ret
  exact ⟨rfl, rfl⟩

theorem pad4_size (n : Int) : (pad4 n).size = 4 := rfl
theorem pad2_size (n : Int) : (pad2 n).size = 2 := rfl
theorem txt_of (y m d : Int) : pad4 y ++ ⟨#[45]⟩ ++ pad2 m ++ ⟨#[45]⟩ ++ pad2 d = txt y m d := rfl

set_option maxHeartbeats 400000 in
theorem text_yes (n y m d : Int) (w : World) (hM : Months w) (h : Cal.Is n y m d) : Calls Tryd.prog 25 #[.int .i64 n] w fun e w' => e = .returned (.string (txt y m d)) ∧ Below w.heap.size w w' := by
  obtain ⟨n1, n2⟩ := h.range
  obtain ⟨y1, y2, m1, m2, d1, d2, hn⟩ := id h
  clear hn
  have dl := Cal.dim_le y m
  have z4 : (pad4 y).size ≤ 4 := Nat.le_of_eq (pad4_size y)
  have z2 : (pad2 m).size ≤ 2 := Nat.le_of_eq (pad2_size m)
  have z3 : (pad2 d).size ≤ 2 := Nat.le_of_eq (pad2_size d)
  go_enter Tryd.func25, Tryd.ntmps25
  go_wp2_with fail
  refine (valid_yes _ _ (by omega) (by omega)).mono ?_
  rintro e w' ⟨rfl, rfl⟩
  go_wp2_with fail
  refine (date_yes _ y m d _ hM h).mono ?_
  rintro e w' ⟨rfl, rfl⟩
  go_wp2_with fail
  refine (padded4 _ _ (by omega) (by omega)).mono ?_
  rintro e wa ⟨rfl, b1⟩
  go_wp2_with fail
  refine (padded2 _ _ (by omega) (by omega)).mono ?_
  rintro e wb ⟨rfl, b2⟩
  go_wp2_with fail
  refine (padded2 _ _ (by omega) (by omega)).mono ?_
  rintro e wc ⟨rfl, b3⟩
  go_wp2
  go_ret
  exact ⟨ret_str (txt_of y m d), b1.trans ((b2.mono b1.size).trans (b3.mono (Nat.le_trans b1.size b2.size)))⟩
end Go.Proofs.YtfhhlebadmkckaaDoor
