/-
  Plain: some digits as a number.
-/
import Derived.Test.YtcplkbflpopoaaaGreatDoorPl3
namespace Go.Proofs.YtcplkbflpopoaaaGreatDoor.Plu
theorem pu_dig : ∀ (n : Nat) (l : List UInt8), l.length = n → n ≤ 18 → (∀ c ∈ l, isd c = true) → ∃ v, v < 10 ^ n ∧ Lib.parseUint10 0 l = .ok v
  | 0, l, h, _, _ => ⟨0, by simp, by rw [List.eq_nil_of_length_eq_zero h]; rfl⟩
  | n + 1, l, h, hn, hd => by
    have hne : l ≠ [] := fun e => by rw [e] at h; cases h
    have e := List.dropLast_concat_getLast hne
    have hm : l.dropLast.length = n := by rw [List.length_dropLast, h]; rfl
    obtain ⟨v, hv, hp⟩ := pu_dig n l.dropLast hm (by omega) fun c hc => hd c (List.dropLast_subset l hc)
    have hc := hd _ (List.getLast_mem hne)
    simp only [isd, Bool.and_eq_true, decide_eq_true_eq] at hc
    have h18 : (10 : Nat) ^ n ≤ 10 ^ 17 := Nat.pow_le_pow_right (by omega) (by omega)
    refine ⟨v * 10 + ((l.getLast hne).toNat - 48), by rw [Nat.pow_succ]; omega, ?_⟩
    have := puint_snoc hc l.dropLast 0 v hp (by omega)
    rwa [e] at this
theorem atoi_digs {s : List UInt8} (h0 : s ≠ []) (hl : s.length ≤ 18) (hd : ∀ c ∈ s, isd c = true) : ∃ v : Nat, Lib.atoiAll s = .ok (v : Int) := by
  cases s with
  | nil => exact absurd rfl h0
  | cons c r =>
    obtain ⟨v, hv, hp⟩ := pu_dig _ (c :: r) rfl hl hd
    have hc := hd c (by simp)
    simp only [isd, Bool.and_eq_true, decide_eq_true_eq] at hc
    have h18 : (10 : Nat) ^ (c :: r).length ≤ 10 ^ 18 := Nat.pow_le_pow_right (by omega) hl
    refine ⟨v, ?_⟩
    rw [Lib.atoiAll_plain c r (by omega) (by omega)]
    unfold Lib.parseMag
    rw [if_neg (by simp), hp]
    simp only [Lib.signless]
    rw [if_neg (by omega)]
theorem atoi_nat {s : List UInt8} (hd : ∀ c ∈ s, isd c = true) {v : Int} (h : Lib.atoiAll s = .ok v) : ∃ n : Nat, v = n := by
  cases s with
  | nil => cases h
  | cons c r =>
    have hc := hd c (by simp)
    simp only [isd, Bool.and_eq_true, decide_eq_true_eq] at hc
    rw [Lib.atoiAll_plain c r (by omega) (by omega)] at h
    cases hp : Lib.parseMag (c :: r) with
    | ok u =>
      rw [hp] at h
      simp only [Lib.signless] at h
      split at h
      · cases h
      · injection h with h
        exact ⟨u, h.symm⟩
    | _ => rw [hp] at h; cases h
theorem take_lead (t : List UInt8) : t.take (lead t) = t.takeWhile isd := (List.prefix_iff_eq_take.1 (List.takeWhile_prefix isd)).symm
theorem lead_isd (t : List UInt8) : ∀ c ∈ t.take (lead t), isd c = true := by
  rw [take_lead]
  intro c hc
  have := List.all_takeWhile (l := t) (p := isd)
  exact List.all_eq_true.1 this c hc
theorem take_len (t : List UInt8) : (t.take (lead t)).length = lead t := by rw [List.length_take]; have := lead_le t; omega
end Go.Proofs.YtcplkbflpopoaaaGreatDoor.Plu
