/-
  Plain: a numeral read again; the digits that a text begins with.
-/
import Derived.Test.YtcplkbflpopoaaaGreatDoorPl2
import Derived.Lib.AtoiAllCases
namespace Go.Proofs.YtcplkbflpopoaaaGreatDoor.Plu
theorem digits_ne (u : Nat) : Lib.decDigits u ≠ [] := by
  rw [Lib.decDigits]
  split <;> simp
theorem ofNat_inj {a b : Nat} (ha : a < 10) (hb : b < 10) (h : UInt8.ofNat (48 + a) = UInt8.ofNat (48 + b)) : a = b := by
  have := congrArg UInt8.toNat h
  rw [UInt8.toNat_ofNat', UInt8.toNat_ofNat'] at this
  omega
theorem digits_inj (u v : Nat) (h : Lib.decDigits u = Lib.decDigits v) : u = v := by
  have hu := Lib.decDigits.eq_1 u
  have hv := Lib.decDigits.eq_1 v
  rw [hu, hv] at h
  split at h
  · split at h
    · exact ofNat_inj ‹_› ‹_› (List.cons.inj h).1
    · have := congrArg List.length h
      simp only [List.length_singleton, List.length_append] at this
      have := List.length_pos_iff.2 (digits_ne (v / 10))
      omega
  · split at h
    · have := congrArg List.length h
      simp only [List.length_singleton, List.length_append] at this
      have := List.length_pos_iff.2 (digits_ne (u / 10))
      omega
    · have h1 := List.append_inj' h rfl
      have e1 := digits_inj (u / 10) (v / 10) h1.1
      have e2 := ofNat_inj (Nat.mod_lt _ (by omega)) (Nat.mod_lt _ (by omega)) (List.cons.inj h1.2).1
      omega
termination_by u
decreasing_by omega
theorem digits_mem (u : Nat) : ∀ c ∈ Lib.decDigits u, 48 ≤ c.toNat ∧ c.toNat ≤ 57 := by
  intro c hc
  rw [Lib.decDigits] at hc
  have one : ∀ k, k < 10 → 48 ≤ (UInt8.ofNat (48 + k)).toNat ∧ (UInt8.ofNat (48 + k)).toNat ≤ 57 := fun k hk => by
    rw [UInt8.toNat_ofNat']
    omega
  split at hc
  · rename_i h
    simp only [List.mem_singleton] at hc
    subst hc
    exact one u h
  · rcases List.mem_append.1 hc with h | h
    · exact digits_mem (u / 10) c h
    · simp only [List.mem_singleton] at h
      subst h
      exact one _ (Nat.mod_lt _ (by omega))
termination_by u
decreasing_by omega
theorem puint_snoc {c : UInt8} (hc : 48 ≤ c.toNat ∧ c.toNat ≤ 57) : ∀ (l : List UInt8) (acc v : Nat), Lib.parseUint10 acc l = .ok v → v * 10 + (c.toNat - 48) < 18446744073709551616 → Lib.parseUint10 acc (l ++ [c]) = .ok (v * 10 + (c.toNat - 48))
  | [], acc, v, h, hv => by
    simp only [Lib.parseUint10] at h
    injection h with h
    subst h
    show Lib.parseUint10 acc [c] = _
    simp only [Lib.parseUint10]
    rw [if_pos hc, if_neg (by omega), if_neg (by omega)]
  | x :: l, acc, v, h, hv => by
    show Lib.parseUint10 acc (x :: (l ++ [c])) = _
    simp only [Lib.parseUint10] at h ⊢
    split at h
    · split at h
      · cases h
      · split at h
        · cases h
        · rename_i h1 h2 h3
          rw [if_pos h1, if_neg h2, if_neg h3]
          exact puint_snoc hc l _ v h hv
    · cases h
theorem puint_digits (u : Nat) (hu : u < 18446744073709551616) : Lib.parseUint10 0 (Lib.decDigits u) = .ok u := by
  rw [Lib.decDigits]
  have one : ∀ k, k < 10 → (UInt8.ofNat (48 + k)).toNat = 48 + k := fun k hk => by rw [UInt8.toNat_ofNat']; omega
  split
  · rename_i h
    have e := one u h
    simp only [Lib.parseUint10]
    rw [e, if_pos (by omega), if_neg (by omega), if_neg (by omega)]
    congr 1
    omega
  · have ih := puint_digits (u / 10) (by omega)
    have e := one (u % 10) (Nat.mod_lt _ (by omega))
    have := puint_snoc (c := UInt8.ofNat (48 + u % 10)) (by rw [e]; omega) _ 0 _ ih (by rw [e]; omega)
    rw [this, e]
    congr 1
    omega
termination_by u
decreasing_by omega
theorem pmag_digits (u : Nat) (hu : u < 18446744073709551616) : Lib.parseMag (Lib.decDigits u) = .ok u := by
  unfold Lib.parseMag
  rw [if_neg (digits_ne u), puint_digits u hu]
theorem atoi_itoa (n : Int) (h : -9223372036854775808 ≤ n ∧ n ≤ 9223372036854775807) : Lib.atoiAll (Lib.itoa n) = .ok n := by
  unfold Lib.itoa
  split
  · rw [Lib.atoiAll_minus, pmag_digits _ (by omega)]
    simp only [Lib.signed]
    rw [if_neg (by omega)]
    congr 1
    omega
  · have hm := pmag_digits n.toNat (by omega)
    cases hd : Lib.decDigits n.toNat with
    | nil => exact (digits_ne _ hd).elim
    | cons c r =>
      have hc := digits_mem n.toNat c (by rw [hd]; simp)
      rw [Lib.atoiAll_plain c r (by omega) (by omega), ← hd, hm]
      simp only [Lib.signless]
      rw [if_neg (by omega)]
      congr 1
      omega
theorem atoi_dd (n : Nat) (h : n ≤ 9223372036854775807) : Lib.atoiAll (Lib.decDigits n) = .ok (n : Int) := by
  have := atoi_itoa (n : Int) (by omega)
  rwa [show Lib.itoa (n : Int) = Lib.decDigits n by unfold Lib.itoa; rw [if_neg (by omega)]; simp] at this
def isd (c : UInt8) : Bool := decide (48 ≤ c.toNat) && decide (c.toNat ≤ 57)
/-- how many digits a text begins with -/
def lead (l : List UInt8) : Nat := (l.takeWhile isd).length
theorem lead_le (l : List UInt8) : lead l ≤ l.length := (List.takeWhile_prefix isd).length_le
theorem lead_at {l : List UInt8} : ∀ {i : Nat} (_h : i < lead l) (h' : i < l.length), isd l[i] = true := by
  induction l with
  | nil => intro i h; simp [lead] at h
  | cons c l ih =>
    intro i h h'
    unfold lead at h
    cases hc : isd c with
    | false => rw [List.takeWhile_cons, hc] at h; simp at h
    | true =>
      rw [List.takeWhile_cons, hc] at h
      cases i with
      | zero => exact hc
      | succ i => exact ih (by simpa [lead] using h) (by simpa using h')
theorem lead_end {l : List UInt8} : ∀ (_h : lead l < l.length), isd l[lead l] = false := by
  induction l with
  | nil => intro h; simp at h
  | cons c l ih =>
    intro h
    cases hc : isd c with
    | false =>
      have e : lead (c :: l) = 0 := by unfold lead; rw [List.takeWhile_cons, hc]; rfl
      simp only [e]
      exact hc
    | true =>
      have e : lead (c :: l) = lead l + 1 := by unfold lead; rw [List.takeWhile_cons, hc]; simp
      simp only [e, List.getElem_cons_succ]
      exact ih (by rw [e] at h; simpa using h)
theorem dd_isd (n : Nat) : ∀ c ∈ Lib.decDigits n, isd c = true := by
  induction n using Nat.strongRecOn with
  | ind n ih =>
    intro c hc
    have one : ∀ d : Nat, d < 10 → isd (UInt8.ofNat (48 + d)) = true := by
      intro d hd
      have : (UInt8.ofNat (48 + d)).toNat = 48 + d := by rw [UInt8.toNat_ofNat']; omega
      simp [isd]
      omega
    rw [Lib.decDigits] at hc
    split at hc
    · rw [List.mem_singleton.1 hc]; exact one n (by assumption)
    · rcases List.mem_append.1 hc with h | h
      · exact ih (n / 10) (by omega) c h
      · rw [List.mem_singleton.1 h]; exact one _ (Nat.mod_lt _ (by omega))
theorem endg_head (s n : Nat) : ∃ c r, endg s n = c :: r ∧ isd c = false := by
  unfold endg
  split
  · unfold eng
    split
    · exact ⟨_, _, rfl, rfl⟩
    · split
      · exact ⟨_, _, rfl, rfl⟩
      · split
        · exact ⟨_, _, rfl, rfl⟩
        · split <;> exact ⟨_, _, rfl, rfl⟩
  · split
    · exact ⟨_, _, rfl, rfl⟩
    · split <;> exact ⟨_, _, rfl, rfl⟩
theorem lead_ord (s n : Nat) : lead (ord s n) = (Lib.decDigits n).length := by
  obtain ⟨c, r, e, hc⟩ := endg_head s n
  unfold lead ord
  rw [e, List.takeWhile_append_of_pos (dd_isd n), List.takeWhile_cons, hc]
  simp
theorem take_ord (s n : Nat) : (ord s n).take (lead (ord s n)) = Lib.decDigits n := by
  rw [lead_ord]
  unfold ord
  rw [List.take_left']
  rfl
theorem ord_inj {s t n m : Nat} (h : ord s n = ord t m) : n = m := by
  have h1 := take_ord s n
  rw [h, take_ord] at h1
  exact (digits_inj _ _ h1).symm
end Go.Proofs.YtcplkbflpopoaaaGreatDoor.Plu
