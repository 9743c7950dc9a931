/-
  Plain: a number's last digits, by its decimal text and by division.
-/
import Derived.Lib.ItoaNum
import Derived.Lib.Strings
import Derived.Lib.AtoiAllCases
namespace Go.Proofs.YtcplkbflpopoaaaGreatDoor.Plu
open Go.Lib
theorem u8_eq {a b : Nat} (ha : a < 10) (hb : b < 10) : (UInt8.ofNat (48 + a) == UInt8.ofNat (48 + b)) = decide (a = b) := by
  by_cases h : a = b
  · subst h; simp
  · have : UInt8.ofNat (48 + a) ≠ UInt8.ofNat (48 + b) := by
      intro e
      have e2 := congrArg UInt8.toNat e
      simp [UInt8.toNat_ofNat'] at e2
      omega
    rw [decide_eq_false h]
    exact beq_false_of_ne this
theorem suf_one {l : List UInt8} {x d : UInt8} : hasSuffix (l ++ [x]) [d] = (d == x) := by
  simp [hasSuffix, List.isSuffixOf, List.isPrefixOf]
theorem suf_two {l : List UInt8} {x y c d : UInt8} : hasSuffix (l ++ [x, y]) [c, d] = (d == y && c == x) := by
  simp [hasSuffix, List.isSuffixOf, List.isPrefixOf]
theorem dd_last (n : Nat) : ∃ l, decDigits n = l ++ [UInt8.ofNat (48 + n % 10)] := by
  rw [decDigits]
  split
  · exact ⟨[], by rw [Nat.mod_eq_of_lt (by assumption)]; rfl⟩
  · exact ⟨_, rfl⟩
theorem dd_two {n : Nat} (h : ¬ n < 10) : ∃ l, decDigits n = l ++ [UInt8.ofNat (48 + n / 10 % 10), UInt8.ofNat (48 + n % 10)] := by
  rw [decDigits, dif_neg h]
  obtain ⟨l, e⟩ := dd_last (n / 10)
  exact ⟨l, by rw [e]; simp⟩
theorem suf_digit (n d : Nat) (hd : d < 10) : hasSuffix (decDigits n) [UInt8.ofNat (48 + d)] = decide (n % 10 = d) := by
  obtain ⟨l, e⟩ := dd_last n
  rw [e, suf_one, u8_eq hd (Nat.mod_lt _ (by omega))]
  simp [eq_comm]
theorem suf_teen (n d : Nat) (hd : d < 10) : hasSuffix (decDigits n) [49, UInt8.ofNat (48 + d)] = (decide (n % 10 = d) && decide (n / 10 % 10 = 1)) := by
  by_cases h : n < 10
  · rw [decDigits, dif_pos h]
    have : n / 10 % 10 ≠ 1 := by omega
    simp [hasSuffix, List.isSuffixOf, List.isPrefixOf, this]
  · obtain ⟨l, e⟩ := dd_two h
    rw [e, suf_two, u8_eq hd (Nat.mod_lt _ (by omega)), show (49 : UInt8) = UInt8.ofNat (48 + 1) from rfl, u8_eq (by omega) (Nat.mod_lt _ (by omega))]
    simp [eq_comm]
theorem dd_is (n d : Nat) (hd : d < 10) : (decDigits n = [UInt8.ofNat (48 + d)]) ↔ n = d := by
  constructor
  · intro e
    by_cases h : n < 10
    · rw [decDigits, dif_pos h] at e
      have e1 := (List.cons.inj e).1
      have := u8_eq h hd
      rw [e1] at this
      simpa using this.symm
    · obtain ⟨l, e2⟩ := dd_two h
      rw [e2] at e
      have := congrArg List.length e
      simp at this
  · rintro rfl
    rw [decDigits, dif_pos hd]
end Go.Proofs.YtcplkbflpopoaaaGreatDoor.Plu
/-
  Plain: ordinals.
-/
namespace Go.Proofs.YtcplkbflpopoaaaGreatDoor.Plu
open Go.Lib
/-- the English ending -/
def eng (n : Nat) : List UInt8 := if n / 10 % 10 = 1 then [116, 104] else if n % 10 = 1 then [115, 116] else if n % 10 = 2 then [110, 100] else if n % 10 = 3 then [114, 100] else [116, 104]
/-- a number's ending: styles 0, 1, 2 -/
def endg (s n : Nat) : List UInt8 := if s = 0 then eng n else if s = 2 then [46] else if n = 1 then [101, 114] else [101]
def ord (s n : Nat) : List UInt8 := decDigits n ++ endg s n
theorem eng_len (n : Nat) : (eng n).length = 2 := by
  unfold eng
  split
  · rfl
  · split
    · rfl
    · split
      · rfl
      · split <;> rfl
theorem endg_len (s n : Nat) : (endg s n).length ≤ 2 := by
  unfold endg
  split
  · rw [eng_len]; omega
  · split
    · simp
    · split <;> simp
/-- the last digit, if it is 1, 2, 3 -/
def dgo (n : Nat) : Nat := if n % 10 = 1 then 1 else if n % 10 = 2 then 2 else if n % 10 = 3 then 3 else 0
theorem dgo_lt (n : Nat) : dgo n < 4 := by unfold dgo; split <;> (try split) <;> (try split) <;> omega
theorem dgo_1 (n : Nat) : decide (n % 10 = 1) = Nat.beq (dgo n) 1 := by unfold dgo; split <;> (try split) <;> (try split) <;> simp_all [Nat.beq]
theorem dgo_2 (n : Nat) : decide (n % 10 = 2) = Nat.beq (dgo n) 2 := by unfold dgo; split <;> (try split) <;> (try split) <;> simp_all [Nat.beq]
theorem dgo_3 (n : Nat) : decide (n % 10 = 3) = Nat.beq (dgo n) 3 := by unfold dgo; split <;> (try split) <;> (try split) <;> simp_all [Nat.beq]
/-- which ending goes with the last digit and the last but one -/
def eno (d : Nat) (t : Bool) : Nat := bif t then 3 else bif Nat.beq d 1 then 0 else bif Nat.beq d 2 then 1 else bif Nat.beq d 3 then 2 else 3
def ens : Nat → List UInt8
  | 0 => [115, 116]
  | 1 => [110, 100]
  | 2 => [114, 100]
  | _ => [116, 104]
theorem eng_eno (n : Nat) : eng n = ens (eno (dgo n) (decide (n / 10 % 10 = 1))) := by
  unfold eng eno
  rw [← dgo_1, ← dgo_2, ← dgo_3]
  by_cases h0 : n / 10 % 10 = 1
  · simp [h0, ens]
  · by_cases h1 : n % 10 = 1
    · simp [h0, h1, ens]
    · by_cases h2 : n % 10 = 2
      · simp [h0, h2, ens]
      · by_cases h3 : n % 10 = 3
        · simp [h0, h3, ens]
        · simp [h0, h1, h2, h3, ens]
end Go.Proofs.YtcplkbflpopoaaaGreatDoor.Plu
/-
  Plain: a numeral read again; the digits that a text begins with.
-/
namespace Go.Proofs.YtcplkbflpopoaaaGreatDoor.Plu
theorem puint_snoc {c : UInt8} (hc : 48 ≤ c.toNat ∧ c.toNat ≤ 57) : ∀ (l : List UInt8) (acc v : Nat), Lib.parseUint10 acc l = .ok v → v * 10 + (c.toNat - 48) < 18446744073709551616 → Lib.parseUint10 acc (l ++ [c]) = .ok (v * 10 + (c.toNat - 48))
  | [], acc, v, h, hv => by
    simp only [Lib.parseUint10] at h
    injection h with h
    subst h
    show Lib.parseUint10 acc [c] = _
    simp only [Lib.parseUint10]
    rw [if_pos hc, if_neg (by omega), if_neg (by omega)]
  | x :: l, acc, v, h, hv => by
    show Lib.parseUint10 acc (x :: (l ++ [c])) = _
    simp only [Lib.parseUint10] at h ⊢
    split at h
    · split at h
      · cases h
      · split at h
        · cases h
        · rename_i h1 h2 h3
          rw [if_pos h1, if_neg h2, if_neg h3]
          exact puint_snoc hc l _ v h hv
    · cases h
def isd (c : UInt8) : Bool := decide (48 ≤ c.toNat) && decide (c.toNat ≤ 57)
/-- how many digits a text begins with -/
def lead (l : List UInt8) : Nat := (l.takeWhile isd).length
theorem lead_le (l : List UInt8) : lead l ≤ l.length := (List.takeWhile_prefix isd).length_le
theorem lead_at {l : List UInt8} : ∀ {i : Nat} (_h : i < lead l) (h' : i < l.length), isd l[i] = true := by
  induction l with
  | nil => intro i h; simp [lead] at h
  | cons c l ih =>
    intro i h h'
    unfold lead at h
    cases hc : isd c with
    | false => rw [List.takeWhile_cons, hc] at h; simp at h
    | true =>
      rw [List.takeWhile_cons, hc] at h
      cases i with
      | zero => exact hc
      | succ i => exact ih (by simpa [lead] using h) (by simpa using h')
theorem lead_end {l : List UInt8} : ∀ (_h : lead l < l.length), isd l[lead l] = false := by
  induction l with
  | nil => intro h; simp at h
  | cons c l ih =>
    intro h
    cases hc : isd c with
    | false =>
      have e : lead (c :: l) = 0 := by unfold lead; rw [List.takeWhile_cons, hc]; rfl
      simp only [e]
      exact hc
    | true =>
      have e : lead (c :: l) = lead l + 1 := by unfold lead; rw [List.takeWhile_cons, hc]; simp
      simp only [e, List.getElem_cons_succ]
      exact ih (by rw [e] at h; simpa using h)
end Go.Proofs.YtcplkbflpopoaaaGreatDoor.Plu
/-
  Plain: some digits as a number.
-/
namespace Go.Proofs.YtcplkbflpopoaaaGreatDoor.Plu
theorem pu_dig : ∀ (n : Nat) (l : List UInt8), l.length = n → n ≤ 18 → (∀ c ∈ l, isd c = true) → ∃ v, v < 10 ^ n ∧ Lib.parseUint10 0 l = .ok v
  | 0, l, h, _, _ => ⟨0, by simp, by rw [List.eq_nil_of_length_eq_zero h]; rfl⟩
  | n + 1, l, h, hn, hd => by
    have hne : l ≠ [] := fun e => by rw [e] at h; cases h
    have e := List.dropLast_concat_getLast hne
    have hm : l.dropLast.length = n := by rw [List.length_dropLast, h]; rfl
    obtain ⟨v, hv, hp⟩ := pu_dig n l.dropLast hm (by omega) fun c hc => hd c (List.dropLast_subset l hc)
    have hc := hd _ (List.getLast_mem hne)
    simp only [isd, Bool.and_eq_true, decide_eq_true_eq] at hc
    have h18 : (10 : Nat) ^ n ≤ 10 ^ 17 := Nat.pow_le_pow_right (by omega) (by omega)
    refine ⟨v * 10 + ((l.getLast hne).toNat - 48), by rw [Nat.pow_succ]; omega, ?_⟩
    have := puint_snoc hc l.dropLast 0 v hp (by omega)
    rwa [e] at this
theorem atoi_digs {s : List UInt8} (h0 : s ≠ []) (hl : s.length ≤ 18) (hd : ∀ c ∈ s, isd c = true) : ∃ v : Nat, Lib.atoiAll s = .ok (v : Int) := by
  cases s with
  | nil => exact absurd rfl h0
  | cons c r =>
    obtain ⟨v, hv, hp⟩ := pu_dig _ (c :: r) rfl hl hd
    have hc := hd c (by simp)
    simp only [isd, Bool.and_eq_true, decide_eq_true_eq] at hc
    have h18 : (10 : Nat) ^ (c :: r).length ≤ 10 ^ 18 := Nat.pow_le_pow_right (by omega) hl
    refine ⟨v, ?_⟩
    rw [Lib.atoiAll_plain c r (by omega) (by omega)]
    unfold Lib.parseMag
    rw [if_neg (by simp), hp]
    simp only [Lib.signless]
    rw [if_neg (by omega)]
theorem atoi_nat {s : List UInt8} (hd : ∀ c ∈ s, isd c = true) {v : Int} (h : Lib.atoiAll s = .ok v) : ∃ n : Nat, v = n := by
  cases s with
  | nil => cases h
  | cons c r =>
    have hc := hd c (by simp)
    simp only [isd, Bool.and_eq_true, decide_eq_true_eq] at hc
    rw [Lib.atoiAll_plain c r (by omega) (by omega)] at h
    cases hp : Lib.parseMag (c :: r) with
    | ok u =>
      rw [hp] at h
      simp only [Lib.signless] at h
      split at h
      · cases h
      · injection h with h
        exact ⟨u, h.symm⟩
    | _ => rw [hp] at h; cases h
theorem take_lead (t : List UInt8) : t.take (lead t) = t.takeWhile isd := (List.prefix_iff_eq_take.1 (List.takeWhile_prefix isd)).symm
theorem lead_isd (t : List UInt8) : ∀ c ∈ t.take (lead t), isd c = true := by
  rw [take_lead]
  intro c hc
  have := List.all_takeWhile (l := t) (p := isd)
  exact List.all_eq_true.1 this c hc
theorem take_len (t : List UInt8) : (t.take (lead t)).length = lead t := by rw [List.length_take]; have := lead_le t; omega
end Go.Proofs.YtcplkbflpopoaaaGreatDoor.Plu
