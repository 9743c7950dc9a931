/-
  Contracts of civil.digits and civil.Parse: texts as numbers, texts as days.
-/
import Derived.Test.YtdmjgfofcbfplaaDoorW6
namespace Go.Proofs.YtdmjgfofcbfplaaDoor
open Go.RowKit

/-- is a byte a digit? -/
def isd (c : UInt8) : Bool := decide (48 ≤ (c.toNat : Int)) && decide ((c.toNat : Int) ≤ 57)
/-- digits as a number -/
def val (l : List UInt8) : Int := l.foldl (fun n c => n * 10 + ((c.toNat : Int) - 48)) 0
theorem isd_iff (c : UInt8) : isd c = true ↔ 48 ≤ (c.toNat : Int) ∧ (c.toNat : Int) ≤ 57 := by simp [isd]
theorem isd_no (c : UInt8) : isd c = false ↔ (c.toNat : Int) < 48 ∨ 57 < (c.toNat : Int) := by
  rw [Bool.eq_false_iff, Ne, isd_iff]; omega
theorem val_snoc (l : List UInt8) (c : UInt8) : val (l ++ [c]) = val l * 10 + ((c.toNat : Int) - 48) := by
  simp [val, List.foldl_append]
theorem val_bd (l : List UInt8) (h : ∀ c ∈ l, isd c = true) : 0 ≤ val l ∧ val l < 10 ^ l.length := by
  have go : ∀ (r : List UInt8), (∀ c ∈ r, isd c = true) → 0 ≤ val r.reverse ∧ val r.reverse < 10 ^ r.length := by
    intro r
    induction r with
    | nil => intro _; simp [val]
    | cons c r ih =>
      intro hr
      obtain ⟨i1, i2⟩ := ih (fun x hx => hr x (List.mem_cons_of_mem _ hx))
      have hc := (isd_iff c).1 (hr c (List.mem_cons_self ..))
      rw [List.reverse_cons, val_snoc, List.length_cons, Int.pow_succ]
      omega
  have := go l.reverse (fun c hc => h c (by simpa using hc))
  simpa using this
theorem take_snoc (s : ByteArray) (k : Nat) (h : k < s.size) : s.data.toList.take (k + 1) = s.data.toList.take k ++ [s[k]] := by
  rw [List.take_succ_eq_append_getElem (by simpa using h)]; rfl

theorem mem_take (s : ByteArray) (k : Nat) (h : k ≤ s.size) (p : UInt8 → Prop) (hp : ∀ i (hi : i < s.size), i < k → p s[i]) : ∀ c ∈ s.data.toList.take k, p c := by
  intro c hc
  obtain ⟨i, hi, rfl⟩ := List.mem_iff_getElem.1 hc
  have hi' : i < k := by simp at hi; omega
  have e : (s.data.toList.take k)[i] = s[i] := by rw [List.getElem_take]; rfl
  rw [e]
  exact hp i (by omega) hi'
theorem pow_le (n : Nat) (h : n ≤ 3) : (10 : Int) ^ n ≤ 1000 := by
  have : n = 0 ∨ n = 1 ∨ n = 2 ∨ n = 3 := by omega
  rcases this with rfl | rfl | rfl | rfl <;> decide

set_option maxHeartbeats 400000 in
theorem digits_yes (s : ByteArray) (w : World) (hs : s.size ≤ 4) (hd : ∀ i (h : i < s.size), isd s[i] = true) :
    Calls Tryd.prog 28 #[.string s] w fun e w' => e = .returned (.tuple #[.int .i64 (val s.data.toList), .bool true]) ∧ w = w' := by
  have HD := Lib.hid hd
  clear hd
  go_enter Tryd.func28, Tryd.ntmps28
  go_wp2
  go_loop [4, 8] (fun n i => ∃ k : Nat, k ≤ s.size ∧ i = .int .i64 k ∧ n = .int .i64 (val (s.data.toList.take k))) (fun _ i => s.size - (intOf i).toNat)
  case atStart => exact ⟨0, Nat.zero_le _, rfl, rfl⟩
  case round =>
    obtain ⟨k, hk, rfl, rfl⟩ := hrel
    by_cases hlt : k < s.size
    · have hb := val_bd (s.data.toList.take k) (mem_take s k hk _ fun i hi _ => HD.out i hi)
      have hl : (s.data.toList.take k).length ≤ 3 := by simp; omega
      have hp := pow_le _ hl
      have v1 : 0 ≤ val (s.data.toList.take k) := hb.1
      have v2 : val (s.data.toList.take k) ≤ 999 := by omega
      have hc := (isd_iff _).1 (HD.out k hlt)
      obtain ⟨c1, c2⟩ := hc
      have VS := Lib.hid (show val (s.data.toList.take (k + 1)) = val (s.data.toList.take k) * 10 + ((s[k].toNat : Int) - 48) by rw [take_snoc s k hlt, val_snoc])
      clear hb hl hp
      go_wp2
      go_round
      case rel => exact ⟨k + 1, by omega, by go_num, by rw [VS.out]⟩
      case measure => simp [intOf]; omega
    · go_wp2
      go_ret2
      exact ⟨ret_of (by rw [List.take_of_length_le (by simp; omega)]), rfl⟩

set_option maxHeartbeats 400000 in
theorem digits_no (s : ByteArray) (w : World) (hs : s.size ≤ 4) (j : Nat) (hj : j < s.size) (hd : ∀ i (h : i < s.size), i < j → isd s[i] = true) (hn : isd s[j] = false) :
    Calls Tryd.prog 28 #[.string s] w fun e w' => e = .returned (.tuple #[.int .i64 0, .bool false]) ∧ w = w' := by
  have HD := Lib.hid hd
  have HN := Lib.hid hn
  clear hd hn
  go_enter Tryd.func28, Tryd.ntmps28
  go_wp2
  go_loop [4, 8] (fun n i => ∃ k : Nat, k ≤ j ∧ i = .int .i64 k ∧ n = .int .i64 (val (s.data.toList.take k))) (fun _ i => s.size - (intOf i).toNat)
  case atStart => exact ⟨0, Nat.zero_le _, rfl, rfl⟩
  case round =>
    obtain ⟨k, hk, rfl, rfl⟩ := hrel
    have hlt : k < s.size := by omega
    by_cases hkj : k < j
    · have hb := val_bd (s.data.toList.take k) (mem_take s k (by omega) _ fun i hi h => HD.out i hi (by omega))
      have hl : (s.data.toList.take k).length ≤ 3 := by simp; omega
      have hp := pow_le _ hl
      have v1 : 0 ≤ val (s.data.toList.take k) := hb.1
      have v2 : val (s.data.toList.take k) ≤ 999 := by omega
      have hc := (isd_iff _).1 (HD.out k hlt hkj)
      obtain ⟨c1, c2⟩ := hc
      have VS := Lib.hid (show val (s.data.toList.take (k + 1)) = val (s.data.toList.take k) * 10 + ((s[k].toNat : Int) - 48) by rw [take_snoc s k hlt, val_snoc])
      clear hb hl hp
      go_wp2
      go_round
      case rel => exact ⟨k + 1, by omega, by go_num, by rw [VS.out]⟩
      case measure => simp [intOf]; omega
    · obtain rfl : k = j := by omega
      have hc := (isd_no _).1 HN.out
      by_cases h48 : (s[k].toNat : Int) < 48
      · clear hc
        go_wp2
        go_ret2
        exact ⟨rfl, rfl⟩
      · have h57 : 57 < (s[k].toNat : Int) := by omega
        clear hc
        go_wp2
        go_ret2
        exact ⟨rfl, rfl⟩
end Go.Proofs.YtdmjgfofcbfplaaDoor
