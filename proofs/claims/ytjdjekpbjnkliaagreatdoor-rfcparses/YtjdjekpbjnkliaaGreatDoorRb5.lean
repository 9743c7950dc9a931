/-
  What a row of stage 3 lists of the law's own tables gives the walks' Tabs3.
-/
import Derived.Test.YtjdjekpbjnkliaaGreatDoorRf2
import Derived.Test.YtjdjekpbjnkliaaGreatDoorRb3
import Derived.Deep.Slices
import Derived.Test.YtjdjekpbjnkliaaGreatDoorW5
namespace Go.Proofs.YtjdjekpbjnkliaaGreatDoor
open Go.ChangeShapes Go.WideShapes Go.ChangeAt Go.RowKit Go.Deep
theorem strs_slice {P : Program} {W : World} {n : String} {g t e : Nat} {zs : List (List UInt8)} (hr : Lib.VarReads P W n (.slice (zs.map fun z => .lit (.string z)) [])) (hg : P.globalNamed n = some g) (hty : (P.globals[g]?).map (·.type) = some t)
    (ht : P.underlying t = some (.slice e)) (he : P.underlying e = some .string) (hce : P.cellsOf e = 1) :
    ∃ A c, W.cell? ⟨g, 0, none⟩ = some (.slice (some A) zs.length c) ∧ ∀ i (h : i < zs.length), W.cell? (A.add i) = some (.string ⟨(zs[i]).toArray⟩) := by
  obtain ⟨g', t', cs, fuel, p, h1, h2, h3, h4⟩ := hr
  obtain rfl := Option.some.inj (hg.symm.trans h1)
  obtain rfl := Option.some.inj (hty.symm.trans h2)
  rcases open_slice1 ht hce h4 with ⟨-, e0⟩ | ⟨a, len, cap, m, n', V, D, Pl, hcs, -, hl, -, hm, hx, hi⟩
  · cases (Prod.mk.inj e0).1
  · have hx1 := (Prod.mk.inj hx).1
    injection hx1 with hD hrest
    have hlen : len = zs.length := by
      have := congrArg List.length hD
      simpa using this.symm
    subst hlen
    refine ⟨a, cap, ?_, fun i h => ?_⟩
    · rw [World.var?_cell hg h3 0, ← Array.getElem?_toList, hcs]
      rfl
    · simp only [if_true] at hm
      obtain ⟨q1, q2⟩ := hi i (by omega)
      obtain ⟨s, hc, hd, -⟩ := DataW.trod_string he q2
      have hDi := congrArg (·[i]?) hD
      simp [h] at hDi
      have hv : V i = .string s := (List.cons.inj hc).1
      rw [q1, hv]
      have hd' : DataW.lit (H := Unit) (.string s.data.toList) = .lit (.string zs[i]) := by
        rw [hDi]
        exact (Prod.mk.inj hd).1.symm
      injection hd' with hd'
      injection hd' with hd'
      rw [← hd']
theorem tabs3_of {L : List (String × DataW Unit)} {W : World} (h : laidMet Tryz.prog L W) (hT : Tabs W)
    (m4 : ("kalends/kalendslaw03.freqs", Rows.laid_kalends_kalendslaw03_freqs) ∈ L) (m7 : ("kalends/kalendslaw03.weekdays", Rows.laid_kalends_kalendslaw03_weekdays) ∈ L) : Tabs3 W where
  t := hT
  lf := by
    obtain ⟨A, c, h1, h2⟩ := strs_slice (zs := [Rfc.fq 0, Rfc.fq 1, Rfc.fq 2, Rfc.fq 3]) (g := 0) (t := 42) (Lib.laidMet.reads h m4) (by kernel_rfl) (by kernel_rfl) Tryz.underlying42 Tryz.underlying9 (by kernel_rfl)
    refine ⟨A, c, h1, fun i hi => ?_⟩
    rw [h2 i hi]
    have e : i = 0 ∨ i = 1 ∨ i = 2 ∨ i = 3 := by omega
    rcases e with rfl | rfl | rfl | rfl <;> rfl
  lw := by
    obtain ⟨A, c, h1, h2⟩ := strs_slice (zs := [Rfc.wd 0, Rfc.wd 1, Rfc.wd 2, Rfc.wd 3, Rfc.wd 4, Rfc.wd 5, Rfc.wd 6]) (g := 1) (t := 42) (Lib.laidMet.reads h m7) (by kernel_rfl) (by kernel_rfl) Tryz.underlying42 Tryz.underlying9 (by kernel_rfl)
    refine ⟨A, c, h1, fun i hi => ?_⟩
    rw [h2 i hi]
    have e : i = 0 ∨ i = 1 ∨ i = 2 ∨ i = 3 ∨ i = 4 ∨ i = 5 ∨ i = 6 := by omega
    rcases e with rfl | rfl | rfl | rfl | rfl | rfl | rfl <;> rfl
end Go.Proofs.YtjdjekpbjnkliaaGreatDoor
namespace Go.Proofs.YtjdjekpbjnkliaaGreatDoor
namespace Rfc
def dv (l : List UInt8) : Nat := l.foldl (fun n c => 10 * n + (c.toNat - 48)) 0
theorem dv_snoc (l : List UInt8) (c : UInt8) : dv (l ++ [c]) = 10 * dv l + (c.toNat - 48) := by simp [dv]
def Dig (l : List UInt8) : Prop := ∀ c ∈ l, 48 ≤ c.toNat ∧ c.toNat ≤ 57
theorem snoc_cases (l : List UInt8) : l = [] ∨ ∃ m c, l = m ++ [c] := by
  rcases List.eq_nil_or_concat l with h | ⟨m, c, h⟩
  · exact .inl h
  · exact .inr ⟨m, c, by simpa using h⟩
theorem dv_lt : ∀ (n : Nat) (l : List UInt8), l.length = n → Dig l → dv l < 10 ^ n
  | 0, l, h, _ => by rw [List.eq_nil_of_length_eq_zero h]; decide
  | n + 1, l, h, hd => by
    rcases snoc_cases l with rfl | ⟨m, c, rfl⟩
    · cases h
    · have ih := dv_lt n m (by simpa using h) (fun x hx => hd x (List.mem_append_left _ hx))
      have hc := hd c (by simp)
      rw [dv_snoc, Nat.pow_succ]
      omega
theorem dv_pos : ∀ (n : Nat) (l : List UInt8), l.length = n → Dig l → l ≠ [] → l.head? ≠ some 48 → 1 ≤ dv l
  | 0, l, h, _, h0, _ => absurd (List.eq_nil_of_length_eq_zero h) h0
  | n + 1, l, h, hd, _, hh => by
    rcases snoc_cases l with rfl | ⟨m, c, rfl⟩
    · cases h
    · rw [dv_snoc]
      have hc := hd c (by simp)
      by_cases hm : m = []
      · subst hm
        have : c ≠ 48 := fun e => hh (by rw [e]; rfl)
        have : c.toNat ≠ 48 := fun e => this (UInt8.toNat_inj.1 e)
        omega
      · have := dv_pos n m (by simpa using h) (fun x hx => hd x (List.mem_append_left _ hx)) hm (fun e => hh (by rw [List.head?_append, e]; rfl))
        omega
theorem ofNat_dig {c : UInt8} {k : Nat} (h : c.toNat = 48 + k) : UInt8.ofNat (48 + k) = c := by
  apply UInt8.toNat_inj.1
  rw [UInt8.toNat_ofNat', h]
  have := UInt8.toNat_lt c
  omega
theorem digits_dv : ∀ (n : Nat) (l : List UInt8), l.length = n → Dig l → l ≠ [] → (l.head? ≠ some 48 ∨ l.length = 1) → Lib.decDigits (dv l) = l
  | 0, l, h, _, h0, _ => absurd (List.eq_nil_of_length_eq_zero h) h0
  | n + 1, l, h, hd, _, hh => by
    rcases snoc_cases l with rfl | ⟨m, c, rfl⟩
    · cases h
    · have hc := hd c (by simp)
      have hdm : Dig m := fun x hx => hd x (List.mem_append_left _ hx)
      rw [dv_snoc]
      by_cases hm : m = []
      · subst hm
        rw [Lib.decDigits, dif_pos (by show 10 * 0 + (c.toNat - 48) < 10; omega)]
        rw [show 10 * dv [] + (c.toNat - 48) = c.toNat - 48 from by show 10 * 0 + _ = _; omega, ofNat_dig (show c.toNat = 48 + (c.toNat - 48) by omega)]
        rfl
      · have h48 : m.head? ≠ some 48 := by
          rcases hh with hh | hh
          · exact fun e => hh (by rw [List.head?_append, e]; rfl)
          · have := List.length_pos_iff.2 hm
            rw [List.length_append, List.length_singleton] at hh
            omega
        have hp := dv_pos n m (by simpa using h) hdm hm h48
        have ih := digits_dv n m (by simpa using h) hdm hm (.inl h48)
        rw [Lib.decDigits, dif_neg (by omega), show (10 * dv m + (c.toNat - 48)) / 10 = dv m by omega, show (10 * dv m + (c.toNat - 48)) % 10 = c.toNat - 48 by omega, ih, ofNat_dig (show c.toNat = 48 + (c.toNat - 48) by omega)]
theorem digits_len : ∀ (k u : Nat), u < 10 ^ (k + 1) → (Lib.decDigits u).length ≤ k + 1
  | 0, u, h => by
    rw [Lib.decDigits, dif_pos (by simpa using h)]
    simp
  | k + 1, u, h => by
    rw [Lib.decDigits]
    split
    · simp
    · have := digits_len k (u / 10) (by rw [Nat.pow_succ] at h; omega)
      simp only [List.length_append, List.length_singleton]
      omega
theorem digits_head (u : Nat) (h : 1 ≤ u) : (Lib.decDigits u).head? ≠ some 48 := by
  rw [Lib.decDigits]
  split
  · rename_i h'
    intro e
    have e' := Option.some.inj (show some (UInt8.ofNat (48 + u)) = some 48 from e)
    have := congrArg UInt8.toNat e'
    rw [UInt8.toNat_ofNat'] at this
    simp at this
    omega
  · have ih := digits_head (u / 10) (by omega)
    intro e
    rw [List.head?_append] at e
    cases hh : (Lib.decDigits (u / 10)).head? with
    | none => exact digits_ne _ (by simpa using hh)
    | some x => rw [hh] at e; rw [hh] at ih; exact ih e
termination_by u
decreasing_by omega
theorem pnum_some {s : List UInt8} {v : Int} (h : pnum s = some v) : Lib.itoa v = s ∧ (-9223372036854775808 ≤ v ∧ v ≤ 9223372036854775807) := by
  unfold pnum at h
  split at h
  · rename_i n e
    split at h
    · obtain rfl := Option.some.inj h
      exact ⟨‹_›, Lib.atoiAll_bounds e⟩
    · cases h
  · cases h
def tp (s : List UInt8) : List UInt8 := Lib.trimPrefix s [45]
theorem tp_minus (r : List UInt8) : tp (45 :: r) = r := by simp [tp, Lib.trimPrefix, Lib.hasPrefix]
theorem tp_other {s : List UInt8} (h : s.head? ≠ some 45) : tp s = s := by
  unfold tp Lib.trimPrefix
  rw [if_neg]
  intro e
  cases s with
  | nil => simp [Lib.hasPrefix] at e
  | cons c r =>
    simp [Lib.hasPrefix] at e
    exact h (by rw [e]; rfl)
theorem tp_cases (s : List UInt8) : (tp s = s ∧ s.head? ≠ some 45) ∨ s = 45 :: tp s := by
  by_cases h : s.head? = some 45
  · cases s with
    | nil => cases h
    | cons c r =>
      obtain rfl := Option.some.inj (show some c = some 45 from h)
      exact .inr (by rw [tp_minus])
  · exact .inl ⟨tp_other h, h⟩
theorem pnum_form {s : List UInt8} {v : Int} (h : pnum s = some v) : tp s ≠ [] ∧ (tp s).length ≤ 19 ∧ ((tp s).head? = some 48 → (tp s).length = 1 ∧ tp s = s) ∧ Dig (tp s) := by
  obtain ⟨hs, hb⟩ := pnum_some h
  unfold Lib.itoa at hs
  split at hs
  · subst hs
    rw [tp_minus]
    refine ⟨digits_ne _, digits_len 18 _ (by omega), fun e => (digits_head _ (by omega) e).elim, digits_mem _⟩
  · have hm := digits_mem v.toNat
    have hne : tp s = s := tp_other (fun e => by
      rw [← hs] at e
      cases hd : Lib.decDigits v.toNat with
      | nil => rw [hd] at e; cases e
      | cons c r =>
        rw [hd] at e
        have := hm c (by rw [hd]; simp)
        obtain rfl := Option.some.inj (show some c = some 45 from e)
        simp at this)
    rw [hne]
    subst hs
    refine ⟨digits_ne _, digits_len 18 _ (by omega), fun e => ⟨?_, rfl⟩, hm⟩
    have h0 : v.toNat = 0 := by
      rcases Nat.eq_zero_or_pos v.toNat with h0 | h0
      · exact h0
      · exact (digits_head _ h0 e).elim
    rw [h0, Lib.decDigits, dif_pos (by omega)]
    rfl
theorem num_plain {s : List UInt8} (he : tp s = s) (h0 : tp s ≠ []) (hd : Dig (tp s)) (hz : (tp s).head? = some 48 → (tp s).length = 1) :
    (dv (tp s) < 9223372036854775808 → pnum s = some (dv (tp s) : Int)) ∧ (¬ dv (tp s) < 9223372036854775808 → pnum s = none) := by
  have hx : Lib.decDigits (dv (tp s)) = tp s := digits_dv _ _ rfl hd h0 (by
    by_cases h : (tp s).head? = some 48
    · exact .inr (hz h)
    · exact .inl h)
  have hi : Lib.itoa (dv (tp s) : Int) = s := by
    unfold Lib.itoa
    rw [if_neg (by omega), Int.toNat_natCast, hx, he]
  constructor
  · intro h
    have := pnum_itoa (dv (tp s) : Int) (by omega)
    rwa [hi] at this
  · intro h
    cases hp : pnum s with
    | none => rfl
    | some v =>
      obtain ⟨e, hb⟩ := pnum_some hp
      have := itoa_inj (e.trans hi.symm)
      omega
theorem num_minus {s : List UInt8} (he : tp s ≠ s) (h0 : tp s ≠ []) (hd : Dig (tp s)) (hz : (tp s).head? ≠ some 48) :
    (dv (tp s) ≤ 9223372036854775808 → pnum s = some (-(dv (tp s) : Int))) ∧ (¬ dv (tp s) ≤ 9223372036854775808 → pnum s = none) := by
  have hx : Lib.decDigits (dv (tp s)) = tp s := digits_dv _ _ rfl hd h0 (.inl hz)
  have hp := dv_pos _ _ rfl hd h0 hz
  have hs : s = 45 :: tp s := by
    rcases tp_cases s with h | h
    · exact (he h.1).elim
    · exact h
  have hi : Lib.itoa (-(dv (tp s) : Int)) = s := by
    unfold Lib.itoa
    rw [if_pos (by omega), show (-(dv (tp s) : Int)).natAbs = dv (tp s) by omega, hx, ← hs]
  constructor
  · intro h
    have := pnum_itoa (-(dv (tp s) : Int)) (by omega)
    rwa [hi] at this
  · intro h
    cases hp : pnum s with
    | none => rfl
    | some v =>
      obtain ⟨e, hb⟩ := pnum_some hp
      have := itoa_inj (e.trans hi.symm)
      omega
theorem pnum_none {s : List UInt8} (h : ¬ (tp s ≠ [] ∧ (tp s).length ≤ 19 ∧ ((tp s).head? = some 48 → (tp s).length = 1 ∧ tp s = s) ∧ Dig (tp s))) : pnum s = none := by
  cases hp : pnum s with
  | none => rfl
  | some v => exact (h (pnum_form hp)).elim
end Rfc
end Go.Proofs.YtjdjekpbjnkliaaGreatDoor
