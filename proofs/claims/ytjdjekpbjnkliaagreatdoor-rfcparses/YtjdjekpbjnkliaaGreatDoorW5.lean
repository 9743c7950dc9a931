/-
  Plain: a rule's text, its parts in any order, read again is the rule; a part that comes again is an error, and so is one that is none.
-/
import Derived.Test.YtjdjekpbjnkliaaGreatDoorRg6
import Derived.Lib.AtoiAllCases
import Derived.Test.YtjdjekpbjnkliaaGreatDoorRf2
import Derived.Test.YtjdjekpbjnkliaaGreatDoorShelf
import Derived.Test.YtjdjekpbjnkliaaGreatDoorW4
import Derived.Handy
import Derived.BigQuiet
namespace Go.Proofs.YtjdjekpbjnkliaaGreatDoor
namespace Rfc
theorem puint_snoc {c : UInt8} (hc : 48 ≤ c.toNat ∧ c.toNat ≤ 57) : ∀ (l : List UInt8) (acc v : Nat), Lib.parseUint10 acc l = .ok v → v * 10 + (c.toNat - 48) < 18446744073709551616 → Lib.parseUint10 acc (l ++ [c]) = .ok (v * 10 + (c.toNat - 48))
  | [], acc, v, h, hv => by
    simp only [Lib.parseUint10] at h
    injection h with h
    subst h
    show Lib.parseUint10 acc [c] = _
    simp only [Lib.parseUint10]
    rw [if_pos hc, if_neg (by omega), if_neg (by omega)]
  | x :: l, acc, v, h, hv => by
    show Lib.parseUint10 acc (x :: (l ++ [c])) = _
    simp only [Lib.parseUint10] at h ⊢
    split at h
    · split at h
      · cases h
      · split at h
        · cases h
        · rename_i h1 h2 h3
          rw [if_pos h1, if_neg h2, if_neg h3]
          exact puint_snoc hc l _ v h hv
    · cases h
theorem puint_digits (u : Nat) (hu : u < 18446744073709551616) : Lib.parseUint10 0 (Lib.decDigits u) = .ok u := by
  rw [Lib.decDigits]
  have one : ∀ k, k < 10 → (UInt8.ofNat (48 + k)).toNat = 48 + k := fun k hk => by rw [UInt8.toNat_ofNat']; omega
  split
  · rename_i h
    have e := one u h
    simp only [Lib.parseUint10]
    rw [e, if_pos (by omega), if_neg (by omega), if_neg (by omega)]
    congr 1
    omega
  · have ih := puint_digits (u / 10) (by omega)
    have e := one (u % 10) (Nat.mod_lt _ (by omega))
    have := puint_snoc (c := UInt8.ofNat (48 + u % 10)) (by rw [e]; omega) _ 0 _ ih (by rw [e]; omega)
    rw [this, e]
    congr 1
    omega
termination_by u
decreasing_by omega
theorem pmag_digits (u : Nat) (hu : u < 18446744073709551616) : Lib.parseMag (Lib.decDigits u) = .ok u := by
  unfold Lib.parseMag
  rw [if_neg (digits_ne u), puint_digits u hu]
theorem atoi_itoa (n : Int) (h : -9223372036854775808 ≤ n ∧ n ≤ 9223372036854775807) : Lib.atoiAll (Lib.itoa n) = .ok n := by
  unfold Lib.itoa
  split
  · rw [Lib.atoiAll_minus, pmag_digits _ (by omega)]
    simp only [Lib.signed]
    rw [if_neg (by omega)]
    congr 1
    omega
  · have hm := pmag_digits n.toNat (by omega)
    cases hd : Lib.decDigits n.toNat with
    | nil => exact (digits_ne _ hd).elim
    | cons c r =>
      have hc := digits_mem n.toNat c (by rw [hd]; simp)
      rw [Lib.atoiAll_plain c r (by omega) (by omega), ← hd, hm]
      simp only [Lib.signless]
      rw [if_neg (by omega)]
      congr 1
      omega
theorem pnum_itoa (n : Int) (h : -9223372036854775808 ≤ n ∧ n ≤ 9223372036854775807) : pnum (Lib.itoa n) = some n := by
  rw [pnum_ok (atoi_itoa n h), if_pos rfl]
theorem pfreq_fq (k : Nat) (hk : k < 4) : pfreq (fq k) = some k := by
  have : ∀ k < 4, pfreq (fq k) = some k := by decide +kernel
  exact this k hk
theorem suf_wd (p : List UInt8) {d i : Nat} (hd : d ≤ 6) (hi : i ≤ 6) : Lib.hasSuffix (p ++ wd d) (wd i) = (i == d) := by
  unfold Lib.hasSuffix
  rw [Bool.eq_iff_iff, List.isSuffixOf_iff_suffix, beq_iff_eq]
  constructor
  · rintro ⟨t, e⟩
    exact wd_inj hi hd (List.append_inj' e (by rw [wd_len, wd_len])).2
  · rintro rfl
    exact ⟨p, rfl⟩
theorem trim_wd (p : List UInt8) {d : Nat} (hd : d ≤ 6) : Lib.trimSuffix (p ++ wd d) (wd d) = p := by
  unfold Lib.trimSuffix
  rw [if_pos (by rw [suf_wd p hd hd]; simp), List.length_append, Nat.add_sub_cancel, List.take_left]
theorem pwd_to (p : List UInt8) (d : Nat) (hd : d ≤ 6) : ∀ (k i : Nat), i + k = d → pwdF (p ++ wd d) i (7 - i) = pwdF (p ++ wd d) d (7 - d)
  | 0, i, h => by rw [show i = d by omega]
  | k + 1, i, h => by
    rw [pwd_next (by omega) (by rw [suf_wd p hd (by omega), beq_eq_false_iff_ne]; omega)]
    exact pwd_to p d hd k (i + 1) (by omega)
def put (S : Nat → Bool) (r : Ru) : Ru := ⟨bif S 0 then r.f else 0, bif S 1 then r.iv else 1, bif S 2 then r.c else 0, bif S 3 then r.u else 0, bif S 4 then r.M else [], bif S 5 then r.D else [], bif S 6 then r.K else [], bif S 7 then r.P else []⟩
end Rfc
end Go.Proofs.YtjdjekpbjnkliaaGreatDoor
namespace Go.Proofs.YtjdjekpbjnkliaaGreatDoor
open Go.RowKit
namespace Rfc
end Rfc
section
variable {w : World} {ρ : Operand → Value} {o : Oper} {x y : Operand} {k c : Nat} {A : Option Addr} {v : Value}
theorem k_lenSS (ho : o.op = .call ⟨.builtin .len, #[x], #[42]⟩) (hx : ρ x = .slice A k c) : (execOp ρ o).run Tryz.prog w = .ok (.value (.int .i64 k)) w := by
  simp only [execOp, ho]
  go_simp
end
theorem ba_len (l : List UInt8) : (⟨l.toArray⟩ : ByteArray).size = l.length := by show l.toArray.size = _; simp
theorem list_of_ba (l : List UInt8) : (⟨l.toArray⟩ : ByteArray).toList = l := by rw [ByteArray.toList_eq]

set_option maxHeartbeats 400000 in
theorem ahead_any (y : Int) (w : World) (h0 : 1 ≤ y) (h1 : y ≤ 10000) : Calls Tryz.prog 59 #[.int .i64 y] w fun e w' => e = .returned (.int .i64 (Cal.dby y)) ∧ Below w.heap.size w w' := by
  go_enter Tryz.func59, Tryz.ntmps59
  go_wp2
  refine wp_loop_rounds 4 ?_
  rw [rounds_succ]; go_wp2
  go_quiet (fail)
  go_wp2
  rw [rounds_succ]; go_wp2
  go_quiet (fail)
  go_wp2
  rw [rounds_succ]; go_wp2
  go_quiet (fail)
  go_wp2
  rw [rounds_succ]; go_wp2
  go_ret
  refine ⟨ret_int (by unfold Cal.dby; omega), ?_⟩
  repeat (first | exact Below.refl _ _ | refine below_drewN ?_ _ | refine Below.alloc ?_ (by simp <;> omega) _)

end Go.Proofs.YtjdjekpbjnkliaaGreatDoor
