/-
  Plain: a rule's text, its parts in any order, read again is the rule; a part that comes again is an error, and so is one that is none.
-/
import Derived.Test.YtocpmljkmdpfkaaGreatDoorRg6
import Derived.Lib.AtoiAllCases
import Derived.Test.YtocpmljkmdpfkaaGreatDoorShelf
import Derived.Test.YtocpmljkmdpfkaaGreatDoorW5
namespace Go.Proofs.YtocpmljkmdpfkaaGreatDoor
namespace Rfc
theorem puint_snoc {c : UInt8} (hc : 48 ≤ c.toNat ∧ c.toNat ≤ 57) : ∀ (l : List UInt8) (acc v : Nat), Lib.parseUint10 acc l = .ok v → v * 10 + (c.toNat - 48) < 18446744073709551616 → Lib.parseUint10 acc (l ++ [c]) = .ok (v * 10 + (c.toNat - 48))
  | [], acc, v, h, hv => by
    simp only [Lib.parseUint10] at h
    injection h with h
    subst h
    show Lib.parseUint10 acc [c] = _
    simp only [Lib.parseUint10]
    rw [if_pos hc, if_neg (by omega), if_neg (by omega)]
  | x :: l, acc, v, h, hv => by
    show Lib.parseUint10 acc (x :: (l ++ [c])) = _
    simp only [Lib.parseUint10] at h ⊢
    split at h
    · split at h
      · cases h
      · split at h
        · cases h
        · rename_i h1 h2 h3
          rw [if_pos h1, if_neg h2, if_neg h3]
          exact puint_snoc hc l _ v h hv
    · cases h
theorem puint_digits (u : Nat) (hu : u < 18446744073709551616) : Lib.parseUint10 0 (Lib.decDigits u) = .ok u := by
  rw [Lib.decDigits]
  have one : ∀ k, k < 10 → (UInt8.ofNat (48 + k)).toNat = 48 + k := fun k hk => by rw [UInt8.toNat_ofNat']; omega
  split
  · rename_i h
    have e := one u h
    simp only [Lib.parseUint10]
    rw [e, if_pos (by omega), if_neg (by omega), if_neg (by omega)]
    congr 1
    omega
  · have ih := puint_digits (u / 10) (by omega)
    have e := one (u % 10) (Nat.mod_lt _ (by omega))
    have := puint_snoc (c := UInt8.ofNat (48 + u % 10)) (by rw [e]; omega) _ 0 _ ih (by rw [e]; omega)
    rw [this, e]
    congr 1
    omega
termination_by u
decreasing_by omega
theorem pmag_digits (u : Nat) (hu : u < 18446744073709551616) : Lib.parseMag (Lib.decDigits u) = .ok u := by
  unfold Lib.parseMag
  rw [if_neg (digits_ne u), puint_digits u hu]
theorem atoi_itoa (n : Int) (h : -9223372036854775808 ≤ n ∧ n ≤ 9223372036854775807) : Lib.atoiAll (Lib.itoa n) = .ok n := by
  unfold Lib.itoa
  split
  · rw [Lib.atoiAll_minus, pmag_digits _ (by omega)]
    simp only [Lib.signed]
    rw [if_neg (by omega)]
    congr 1
    omega
  · have hm := pmag_digits n.toNat (by omega)
    cases hd : Lib.decDigits n.toNat with
    | nil => exact (digits_ne _ hd).elim
    | cons c r =>
      have hc := digits_mem n.toNat c (by rw [hd]; simp)
      rw [Lib.atoiAll_plain c r (by omega) (by omega), ← hd, hm]
      simp only [Lib.signless]
      rw [if_neg (by omega)]
      congr 1
      omega
theorem pnum_itoa (n : Int) (h : -9223372036854775808 ≤ n ∧ n ≤ 9223372036854775807) : pnum (Lib.itoa n) = some n := by
  rw [pnum_ok (atoi_itoa n h), if_pos rfl]
theorem pnz_itoa (n : Int) (h : -9223372036854775808 ≤ n ∧ n ≤ 9223372036854775807) (h0 : n ≠ 0) : pnz (Lib.itoa n) = some n := by
  unfold pnz
  rw [pnum_itoa n h]
  simp [h0]
-- pieces
theorem spl_one {c : UInt8} {x : List UInt8} (h : c ∉ x) : spl x c = [x] := by
  unfold spl
  rw [Lib.count_one, List.count_eq_zero.2 h]
  rfl
theorem spl_cons {c : UInt8} {x s : List UInt8} (h : c ∉ x) : spl (x ++ c :: s) c = x :: spl s c := by
  unfold spl
  have e : Lib.count (x ++ c :: s) [c] = Lib.count s [c] + 1 := by
    rw [Lib.count_one, Lib.count_one, List.count_append, List.count_eq_zero.2 h, List.count_cons_self]
    omega
  rw [e, Lib.splitK, idx_hit h, if_neg (by rw [beq_iff_eq]; omega), Int.toNat_natCast, Nat.add_zero, List.take_left]
  rw [show x ++ c :: s = (x ++ [c]) ++ s by simp, show x.length + ([c] : List UInt8).length = (x ++ [c]).length by simp, List.drop_left]
theorem spl_join {c : UInt8} : ∀ (xs : List (List UInt8)), xs ≠ [] → (∀ x ∈ xs, c ∉ x) → spl (Lib.join xs [c]) c = xs
  | [], h, _ => absurd rfl h
  | [x], _, h => by rw [Lib.join_one]; exact spl_one (h x (by simp))
  | x :: y :: r, _, h => by
    rw [join_more, spl_cons (h x (by simp)), spl_join (y :: r) (by simp) (fun z hz => h z (List.mem_cons_of_mem _ hz))]
theorem cut_hit {c : UInt8} {x v : List UInt8} (h : c ∉ x) : Lib.cut (x ++ c :: v) [c] = (x, v, true) := by
  unfold Lib.cut
  rw [idx_hit h, if_pos (by omega), Int.toNat_natCast, List.take_left]
  rw [show x ++ c :: v = (x ++ [c]) ++ v by simp, show x.length + ([c] : List UInt8).length = (x ++ [c]).length by simp, List.drop_left]
theorem part_nm (k : Nat) (hk : k < 8) : part (nm k) = some k := by
  have : ∀ k < 8, part (nm k) = some k := by decide +kernel
  exact this k hk
theorem part_x (k : Nat) (hk : k < 8) : part (88 :: nm k) = none := by
  have : ∀ k < 8, part (88 :: nm k) = none := by decide +kernel
  exact this k hk
theorem pfreq_fq (k : Nat) (hk : k < 4) : pfreq (fq k) = some k := by
  have : ∀ k < 4, pfreq (fq k) = some k := by decide +kernel
  exact this k hk
-- weekdays
theorem suf_wd (p : List UInt8) {d i : Nat} (hd : d ≤ 6) (hi : i ≤ 6) : Lib.hasSuffix (p ++ wd d) (wd i) = (i == d) := by
  unfold Lib.hasSuffix
  rw [Bool.eq_iff_iff, List.isSuffixOf_iff_suffix, beq_iff_eq]
  constructor
  · rintro ⟨t, e⟩
    exact wd_inj hi hd (List.append_inj' e (by rw [wd_len, wd_len])).2
  · rintro rfl
    exact ⟨p, rfl⟩
theorem trim_wd (p : List UInt8) {d : Nat} (hd : d ≤ 6) : Lib.trimSuffix (p ++ wd d) (wd d) = p := by
  unfold Lib.trimSuffix
  rw [if_pos (by rw [suf_wd p hd hd]; simp), List.length_append, Nat.add_sub_cancel, List.take_left]
theorem pwd_to (p : List UInt8) (d : Nat) (hd : d ≤ 6) : ∀ (k i : Nat), i + k = d → pwdF (p ++ wd d) i (7 - i) = pwdF (p ++ wd d) d (7 - d)
  | 0, i, h => by rw [show i = d by omega]
  | k + 1, i, h => by
    rw [pwd_next (by omega) (by rw [suf_wd p hd (by omega), beq_eq_false_iff_ne]; omega)]
    exact pwd_to p d hd k (i + 1) (by omega)
theorem pw_day (x : Int × Int) (h1 : -9223372036854775808 ≤ x.1 ∧ x.1 ≤ 9223372036854775807) (h2 : 0 ≤ x.2 ∧ x.2 ≤ 6) : pw (day x) = some x := by
  obtain ⟨n, d⟩ := x
  simp only at h1 h2
  have hd : d.toNat ≤ 6 := by omega
  have hs : Lib.hasSuffix (num n 0 ++ wd d.toNat) (wd d.toNat) = true := by rw [suf_wd _ hd hd]; simp
  have e : pwd (num n 0 ++ wd d.toNat) = ((n, d), true) := by
    have h0 := pwd_to (num n 0) d.toNat hd d.toNat 0 (by omega)
    unfold pwd
    rw [Nat.sub_zero] at h0
    rw [h0]
    by_cases hn : n = 0
    · subst hn
      rw [pwd_bare (by omega) hs (by rw [trim_wd _ hd]; simp [num]), Int.toNat_of_nonneg h2.1]
    · rw [pwd_num (by omega) hs (by rw [trim_wd _ hd]; simpa [num, hn] using itoa_ne n), trim_wd _ hd, num, if_neg hn, pnz_itoa n h1 hn, Int.toNat_of_nonneg h2.1]
      rfl
  unfold pw day
  simp only [e]
  rfl
theorem mm_map {α : Type} {g : List UInt8 → Option α} {f : α → List UInt8} : ∀ (l : List α), (∀ x ∈ l, g (f x) = some x) → mm g (l.map f) = some l
  | [], _ => rfl
  | x :: l, h => by
    show mm g (f x :: l.map f) = _
    unfold mm
    rw [h x (by simp), mm_map l (fun z hz => h z (List.mem_cons_of_mem _ hz))]
    rfl
theorem plistI_nums (l : List Int) (h0 : l ≠ []) (h : ∀ x ∈ l, -9223372036854775808 ≤ x ∧ x ≤ 9223372036854775807) : plistI (nums l) = some l := by
  unfold plistI nums
  rw [spl_join _ (by simpa using h0) (fun x hx e => by
    obtain ⟨n, -, rfl⟩ := List.mem_map.1 hx
    have := itoa_mem n 44 e
    simp at this)]
  exact mm_map l (fun x hx => pnum_itoa x (h x hx))
theorem plistN_days (l : List (Int × Int)) (h0 : l ≠ []) (h : ∀ x ∈ l, (-9223372036854775808 ≤ x.1 ∧ x.1 ≤ 9223372036854775807) ∧ (0 ≤ x.2 ∧ x.2 ≤ 6)) : plistN (days l) = some l := by
  unfold plistN days
  rw [spl_join _ (by simpa using h0) (fun x hx e => by
    obtain ⟨n, -, rfl⟩ := List.mem_map.1 hx
    have := day_mem n 44 e
    simp at this)]
  exact mm_map l (fun x hx => pw_day x (h x hx).1 (h x hx).2)
-- the rule so far: the fields whose parts have been
def put (S : Nat → Bool) (r : Ru) : Ru := ⟨bif S 0 then r.f else 0, bif S 1 then r.iv else 1, bif S 2 then r.c else 0, bif S 3 then r.u else 0, bif S 4 then r.M else [], bif S 5 then r.D else [], bif S 6 then r.K else [], bif S 7 then r.P else []⟩
def gl (S : Nat → Bool) : List Bool := [S 0, S 1, S 2, S 3, S 4, S 5, S 6, S 7]
def ins (p : Nat) (S : Nat → Bool) : Nat → Bool := fun j => j == p || S j
theorem gl_get (S : Nat → Bool) {p : Nat} (hp : p < 8) : (gl S).getD p false = S p := by
  match p, hp with
  | 0, _ | 1, _ | 2, _ | 3, _ | 4, _ | 5, _ | 6, _ | 7, _ => rfl
theorem gl_set (S : Nat → Bool) {p : Nat} (hp : p < 8) : (gl S).set p true = gl (ins p S) := by
  match p, hp with
  | 0, _ | 1, _ | 2, _ | 3, _ | 4, _ | 5, _ | 6, _ | 7, _ => rfl
theorem nums_nil {l : List Int} (h : nums l ≠ []) : l ≠ [] := fun e => h (by rw [e]; rfl)
theorem days_nil {l : List (Int × Int)} (h : days l ≠ []) : l ≠ [] := fun e => h (by rw [e]; rfl)
theorem num_some {n z : Int} (h : num n z ≠ []) : n ≠ z ∧ num n z = Lib.itoa n := by
  unfold num at h ⊢
  split
  · rename_i e; rw [if_pos e] at h; exact (h rfl).elim
  · rename_i e; exact ⟨e, rfl⟩
theorem set_put {r : Ru} {t : List UInt8} (hok : Okay r.f r.iv r.c r.u t r.M r.D r.K r.P) (S : Nat → Bool) {p : Nat} (hp : p < 8) (hv : (vals r.f r.iv r.c t r.M r.D r.K r.P).getD p [] ≠ []) :
    setF p ((vals r.f r.iv r.c t r.M r.D r.K r.P).getD p []) (put S r) = some (put (ins p S) r) := by
  match p, hp with
  | 0, _ =>
    show (pfreq (fq r.f.toNat)).map _ = _
    have := hok.f
    rw [pfreq_fq _ (by omega)]
    simp only [Option.map_some, put, ins, Int.toNat_of_nonneg this.1]
    rfl
  | 1, _ =>
    obtain ⟨-, e⟩ := num_some (n := r.iv) (z := 1) hv
    show (pnum (num r.iv 1)).map _ = _
    rw [e, pnum_itoa _ hok.iv]
    rfl
  | 2, _ =>
    obtain ⟨h0, e⟩ := num_some (n := r.c) (z := 0) hv
    show (pnz (num r.c 0)).map _ = _
    rw [e, pnz_itoa _ hok.c h0]
    rfl
  | 3, _ =>
    show (pday t).map _ = _
    rcases hok.u with ⟨-, e⟩ | ⟨y, m, d, h, e⟩
    · exact (hv e).elim
    · rw [e, pday_yes h]
      rfl
  | 4, _ =>
    show (plistI (nums r.M)).map _ = _
    rw [plistI_nums _ (nums_nil hv) hok.m]
    rfl
  | 5, _ =>
    show (plistI (nums r.D)).map _ = _
    rw [plistI_nums _ (nums_nil hv) hok.d]
    rfl
  | 6, _ =>
    show (plistN (days r.K)).map _ = _
    rw [plistN_days _ (days_nil hv) hok.k]
    rfl
  | 7, _ =>
    show (plistI (nums r.P)).map _ = _
    rw [plistI_nums _ (nums_nil hv) hok.p]
    rfl
theorem step_put {r : Ru} {t : List UInt8} (hok : Okay r.f r.iv r.c r.u t r.M r.D r.K r.P) (S : Nat → Bool) {p : Nat} (hp : p < 8) (hv : (vals r.f r.iv r.c t r.M r.D r.K r.P).getD p [] ≠ []) (hS : S p = false) :
    stepP (nm p ++ 61 :: (vals r.f r.iv r.c t r.M r.D r.K r.P).getD p []) (put S r) (gl S) = .go (put (ins p S) r) (gl (ins p S)) := by
  unfold stepP
  rw [cut_hit (nm_no p)]
  simp only [part_nm p hp, gl_get S hp, hS, set_put hok S hp hv, gl_set S hp]
  rfl
/-- parts one behind the other, and what comes then -/
theorem run_put {r : Ru} {t : List UInt8} (hok : Okay r.f r.iv r.c r.u t r.M r.D r.K r.P) (rest : List (List UInt8)) : ∀ (ps : List Nat) (S : Nat → Bool), ps.Nodup → (∀ p ∈ ps, p < 8 ∧ (vals r.f r.iv r.c t r.M r.D r.K r.P).getD p [] ≠ [] ∧ S p = false) →
    runP (ps.map (fun p => nm p ++ 61 :: (vals r.f r.iv r.c t r.M r.D r.K r.P).getD p []) ++ rest) (put S r) (gl S) = runP rest (put (fun j => decide (j ∈ ps) || S j) r) (gl (fun j => decide (j ∈ ps) || S j))
  | [], S, _, _ => by
    have e : (fun j => decide (j ∈ ([] : List Nat)) || S j) = S := by funext j; simp
    rw [e]
    rfl
  | p :: ps, S, hn, h => by
    obtain ⟨h1, h2, h3⟩ := h p (by simp)
    obtain ⟨n1, n2⟩ := List.nodup_cons.1 hn
    have ih := run_put hok rest ps (ins p S) n2 (fun q hq => by
      obtain ⟨q1, q2, q3⟩ := h q (List.mem_cons_of_mem _ hq)
      refine ⟨q1, q2, ?_⟩
      unfold ins
      rw [q3, Bool.or_false, beq_eq_false_iff_ne]
      rintro rfl
      exact n1 hq)
    have e : (fun j => decide (j ∈ p :: ps) || S j) = (fun j => decide (j ∈ ps) || ins p S j) := by
      funext j
      unfold ins
      by_cases hj : j = p
      · subst hj; simp
      · rw [show (j == p) = false from beq_eq_false_iff_ne.2 hj]
        simp [hj]
    rw [e, ← ih]
    show runP ((nm p ++ 61 :: _) :: _) _ _ = _
    rw [runP, step_put hok S h1 h2 h3]
    rfl
theorem put_none (r : Ru) : put (fun _ => false) r = ⟨0, 1, 0, 0, [], [], [], []⟩ := rfl
theorem gl_none : gl (fun _ => false) = List.replicate 8 false := rfl
/-- the parts that a rule has are those that it wants -/
theorem put_all {r : Ru} {t : List UInt8} (hok : Okay r.f r.iv r.c r.u t r.M r.D r.K r.P) (S : Nat → Bool) (hS : ∀ p < 8, (vals r.f r.iv r.c t r.M r.D r.K r.P).getD p [] ≠ [] → S p = true) : put S r = r := by
  have e1 : (bif S 1 then r.iv else 1) = r.iv := by
    by_cases h : num r.iv 1 = []
    · have : r.iv = 1 := by unfold num at h; split at h; · assumption
                            · exact (itoa_ne _ h).elim
      rw [this]; cases S 1 <;> rfl
    · rw [hS 1 (by omega) h]; rfl
  have e2 : (bif S 2 then r.c else 0) = r.c := by
    by_cases h : num r.c 0 = []
    · have : r.c = 0 := by unfold num at h; split at h; · assumption
                           · exact (itoa_ne _ h).elim
      rw [this]; cases S 2 <;> rfl
    · rw [hS 2 (by omega) h]; rfl
  have e3 : (bif S 3 then r.u else 0) = r.u := by
    rcases hok.u with ⟨h0, -⟩ | ⟨y, m, d, h, e⟩
    · rw [h0]; cases S 3 <;> rfl
    · rw [hS 3 (by omega) (show t ≠ [] from fun e' => by rw [e'] at e; cases e)]; rfl
  have el : ∀ (k : Nat) (l : List Int), (nums l ≠ [] → S k = true) → (bif S k then l else []) = l := fun k l h => by
    by_cases h0 : l = []
    · rw [h0]; cases S k <;> rfl
    · rw [h (fun e => h0 (nums_inj (e.trans (show [] = nums [] from rfl))))]; rfl
  have ed : (bif S 6 then r.K else []) = r.K := by
    by_cases h0 : r.K = []
    · rw [h0]; cases S 6 <;> rfl
    · rw [hS 6 (by omega) (show days r.K ≠ [] from fun e => h0 (days_inj (fun x hx => (hok.k x hx).2) (fun x hx => by cases hx) (e.trans (show [] = days [] from rfl))))]; rfl
  unfold put
  rw [hS 0 (by omega) (fq_ne _), e1, e2, e3, el 4 r.M (hS 4 (by omega)), el 5 r.D (hS 5 (by omega)), ed, el 7 r.P (hS 7 (by omega))]
  rfl
/-- the parts' numbers -/
def ixs : Nat → List (List UInt8) → List Nat
  | _, [] => []
  | k, v :: r => if v = [] then ixs (k + 1) r else k :: ixs (k + 1) r
theorem mem_ixs : ∀ (l : List (List UInt8)) (k j : Nat), j ∈ ixs k l ↔ k ≤ j ∧ j < k + l.length ∧ l.getD (j - k) [] ≠ []
  | [], k, j => by simp [ixs]
  | v :: l, k, j => by
    have ih := mem_ixs l (k + 1) j
    have g : k + 1 ≤ j → (v :: l).getD (j - k) [] = l.getD (j - (k + 1)) [] := fun h => by
      rw [show j - k = (j - (k + 1)) + 1 by omega]
      rfl
    unfold ixs
    split
    · rename_i h
      rw [ih]
      constructor
      · rintro ⟨h1, h2, h3⟩
        refine ⟨by omega, by simp; omega, by rw [g h1]; exact h3⟩
      · rintro ⟨h1, h2, h3⟩
        simp only [List.length_cons] at h2
        by_cases hj : j = k
        · subst hj
          rw [Nat.sub_self] at h3
          exact (h3 h).elim
        · exact ⟨by omega, by omega, by rw [← g (by omega)]; exact h3⟩
    · rename_i h
      rw [List.mem_cons, ih]
      constructor
      · rintro (rfl | ⟨h1, h2, h3⟩)
        · refine ⟨Nat.le_refl _, by simp, by rw [Nat.sub_self]; exact h⟩
        · refine ⟨by omega, by simp; omega, by rw [g h1]; exact h3⟩
      · rintro ⟨h1, h2, h3⟩
        simp only [List.length_cons] at h2
        by_cases hj : j = k
        · exact .inl hj
        · exact .inr ⟨by omega, by omega, by rw [← g (by omega)]; exact h3⟩
theorem ixs_nodup : ∀ (l : List (List UInt8)) (k : Nat), (ixs k l).Nodup
  | [], _ => List.nodup_nil
  | v :: l, k => by
    unfold ixs
    split
    · exact ixs_nodup l (k + 1)
    · refine List.nodup_cons.2 ⟨fun h => ?_, ixs_nodup l (k + 1)⟩
      have := (mem_ixs l (k + 1) k).1 h
      omega
theorem parts_ixs (V : List (List UInt8)) : ∀ (l : List (List UInt8)) (k : Nat), (∀ i < l.length, V.getD (k + i) [] = l.getD i []) → parts k l = (ixs k l).map (fun p => nm p ++ 61 :: V.getD p [])
  | [], _, _ => rfl
  | v :: l, k, h => by
    have ih := parts_ixs V l (k + 1) (fun i hi => by
      have := h (i + 1) (by simp; omega)
      rw [show k + 1 + i = k + (i + 1) by omega, this]
      rfl)
    have h0 := h 0 (by simp)
    rw [Nat.add_zero] at h0
    unfold parts ixs
    split
    · exact ih
    · rw [ih, List.map_cons, h0]
      rfl
theorem text_ixs (f iv c : Int) (t : List UInt8) (M D : List Int) (K : List (Int × Int)) (P : List Int) : parts 0 (vals f iv c t M D K P) = (ixs 0 (vals f iv c t M D K P)).map (fun p => nm p ++ 61 :: (vals f iv c t M D K P).getD p []) :=
  parts_ixs _ _ 0 (fun i _ => by rw [Nat.zero_add])
theorem getD_lt {l : List (List UInt8)} {p : Nat} (h : p < l.length) : l.getD p [] = l[p] := by simp [List.getD_eq_getElem?_getD, h]
theorem getD_ge {l : List (List UInt8)} {p : Nat} (h : l.length ≤ p) : l.getD p [] = [] := by simp [List.getD_eq_getElem?_getD, h]
theorem vals_no' {f iv c u : Int} {t : List UInt8} {M D : List Int} {K : List (Int × Int)} {P : List Int} (h : Un u t) (p : Nat) : (59 : UInt8) ∉ nm p ++ 61 :: (vals f iv c t M D K P).getD p [] := by
  intro e
  rcases List.mem_append.1 e with e | e
  · have := nm_mem p 59 e; simp at this
  · rcases List.mem_cons.1 e with e | e
    · cases e
    · by_cases hp : p < 8
      · have hl : p < (vals f iv c t M D K P).length := hp
        rw [getD_lt hl] at e
        exact vals_no h _ (List.getElem_mem hl) e
      · rw [getD_ge (show (vals f iv c t M D K P).length ≤ p by show 8 ≤ p; omega)] at e
        cases e
/-- the parts, in any order, read -/
theorem parse_parts {r : Ru} {t : List UInt8} (hok : Okay r.f r.iv r.c r.u t r.M r.D r.K r.P) (hck : Rul.check r.f r.iv r.c r.u r.M r.D r.K r.P = 0) (ps : List Nat) (hn : ps.Nodup) (hps : ∀ j, j ∈ ps ↔ j < 8 ∧ (vals r.f r.iv r.c t r.M r.D r.K r.P).getD j [] ≠ [])
    (hl : (Lib.join (ps.map (fun p => nm p ++ 61 :: (vals r.f r.iv r.c t r.M r.D r.K r.P).getD p [])) [59]).length ≤ 4096) : ∃ g, parse (Lib.join (ps.map (fun p => nm p ++ 61 :: (vals r.f r.iv r.c t r.M r.D r.K r.P).getD p [])) [59]) = .go r g := by
  have h0 : 0 ∈ ps := (hps 0).2 ⟨by omega, fq_ne _⟩
  have hr := run_put hok [] ps (fun _ => false) hn (fun p hp => ⟨((hps p).1 hp).1, ((hps p).1 hp).2, rfl⟩)
  rw [List.append_nil, put_none, gl_none, put_all hok _ (fun p hp hv => by simp [(hps p).2 ⟨hp, hv⟩])] at hr
  refine ⟨gl (fun j => decide (j ∈ ps) || false), ?_⟩
  unfold parse
  rw [if_neg (by omega), spl_join _ (by intro e; rw [List.map_eq_nil_iff] at e; rw [e] at h0; cases h0) (fun x hx => by
    obtain ⟨p, -, rfl⟩ := List.mem_map.1 hx
    exact vals_no' hok.u p), hr]
  simp only [runP, endP]
  rw [if_neg (by rw [gl_get _ (by omega)]; simp [h0]), if_neg (by rw [hck]; simp)]
theorem mem_text {r : Ru} {t : List UInt8} (j : Nat) : j ∈ ixs 0 (vals r.f r.iv r.c t r.M r.D r.K r.P) ↔ j < 8 ∧ (vals r.f r.iv r.c t r.M r.D r.K r.P).getD j [] ≠ [] := by
  rw [mem_ixs]
  constructor
  · rintro ⟨-, h2, h3⟩
    exact ⟨by simpa [vals] using h2, h3⟩
  · rintro ⟨h2, h3⟩
    exact ⟨Nat.zero_le _, by simpa [vals] using h2, h3⟩
theorem parse_text {r : Ru} {t : List UInt8} (hok : Okay r.f r.iv r.c r.u t r.M r.D r.K r.P) (hck : Rul.check r.f r.iv r.c r.u r.M r.D r.K r.P = 0) (hl : (text r.f r.iv r.c t r.M r.D r.K r.P).length ≤ 4096) : ∃ g, parse (text r.f r.iv r.c t r.M r.D r.K r.P) = .go r g := by
  unfold text at hl ⊢
  rw [text_ixs] at hl ⊢
  exact parse_parts hok hck _ (ixs_nodup _ _) mem_text hl
theorem parse_text' {f iv c u : Int} {t : List UInt8} {M D : List Int} {K : List (Int × Int)} {P : List Int} (hok : Okay f iv c u t M D K P) (hck : Rul.check f iv c u M D K P = 0) (hl : (text f iv c t M D K P).length ≤ 3936) : ∃ g, parse (text f iv c t M D K P) = .go ⟨f, iv, c, u, M, D, K, P⟩ g :=
  parse_text (r := ⟨f, iv, c, u, M, D, K, P⟩) hok hck (Nat.le_trans hl (by decide))
end Rfc
/-- rules of lists of 20 at most have short texts -/
theorem vals_20 {f iv c u : Int} {t : List UInt8} {M D : List Int} {K : List (Int × Int)} {P : List Int} (hok : Okay f iv c u t M D K P) (h1 : M.length ≤ 20) (h2 : D.length ≤ 20) (h3 : K.length ≤ 20) (h4 : P.length ≤ 20) : ∀ v ∈ Rfc.vals f iv c t M D K P, v.length ≤ 480 := by
  have nl : ∀ l : List Int, l.length ≤ 20 → (∀ x ∈ l, -9223372036854775808 ≤ x ∧ x ≤ 9223372036854775807) → (Rfc.nums l).length ≤ 480 := fun l h1 h2 => by
    have := join_len 44 21 (l.map Lib.itoa) (fun x hx => by obtain ⟨y, hy, rfl⟩ := List.mem_map.1 hx; exact Lib.itoa_length_le y (h2 y hy).1 (h2 y hy).2)
    rw [List.length_map] at this
    unfold Rfc.nums
    omega
  have nd : (Rfc.days K).length ≤ 480 := by
    have := join_len 44 23 (K.map Rfc.day) (fun x hx => by obtain ⟨y, hy, rfl⟩ := List.mem_map.1 hx; exact day_len y (hok.k y hy).1)
    rw [List.length_map] at this
    unfold Rfc.days
    omega
  intro v hv
  simp only [Rfc.vals, List.mem_cons, List.not_mem_nil, or_false] at hv
  rcases hv with rfl | rfl | rfl | rfl | rfl | rfl | rfl | rfl
  · unfold Rfc.fq; split <;> decide
  · exact Nat.le_trans (num_len _ _ hok.iv) (by omega)
  · exact Nat.le_trans (num_len _ _ hok.c) (by omega)
  · rcases hok.u with ⟨-, rfl⟩ | ⟨y, m, d, -, rfl⟩
    · simp
    · simp [Rfc.date]
  · exact nl M h1 hok.m
  · exact nl D h2 hok.d
  · exact nd
  · exact nl P h4 hok.p
theorem text_20 {f iv c u : Int} {t : List UInt8} {M D : List Int} {K : List (Int × Int)} {P : List Int} (hok : Okay f iv c u t M D K P) (h1 : M.length ≤ 20) (h2 : D.length ≤ 20) (h3 : K.length ≤ 20) (h4 : P.length ≤ 20) : (Rfc.text f iv c t M D K P).length ≤ 3936 := by
  have ha := join_len 59 491 (Rfc.parts 0 (Rfc.vals f iv c t M D K P)) (fun x hx => Rfc.parts_mem _ 0 (vals_20 hok h1 h2 h3 h4) x hx)
  have hb : (Rfc.parts 0 (Rfc.vals f iv c t M D K P)).length ≤ 8 := Rfc.parts_le _ 0
  unfold Rfc.text
  omega
end Go.Proofs.YtocpmljkmdpfkaaGreatDoor
/-
  The law's own numbers and part: numbers as texts, a part's text.
-/
namespace Go.Proofs.YtocpmljkmdpfkaaGreatDoor
open Go.RowKit
namespace Rfc
/-- a part's text, a semicolon ahead; nothing of none -/
def ptn (n v : List UInt8) : List UInt8 := if v = [] then [] else 59 :: (n ++ 61 :: v)
theorem join_snoc (c : UInt8) (x : List UInt8) : ∀ (l : List (List UInt8)), Lib.join (l ++ [x]) [c] = if l = [] then x else Lib.join l [c] ++ c :: x
  | [] => by rw [if_pos rfl, List.nil_append, Lib.join_one]
  | [y] => by rw [if_neg (by simp)]; show Lib.join [y, x] [c] = _; rw [join_more, Lib.join_one, Lib.join_one]
  | y :: z :: r => by
    have ih := join_snoc c x (z :: r)
    rw [if_neg (by simp)] at ih
    rw [if_neg (by simp)]
    show Lib.join (y :: z :: (r ++ [x])) [c] = _
    rw [join_more, join_more]
    rw [show z :: (r ++ [x]) = (z :: r) ++ [x] from rfl, ih]
    simp
end Rfc
theorem fmt_any (n : Int) (w : World) (hT : Tabs w) (h0 : -9223372036854775808 ≤ n ∧ n ≤ 9223372036854775807) : Calls Tryz.prog 69 #[.int .i64 n, .int .i64 10] w fun e w' => ∃ v, e = .returned v ∧ v = .string ⟨(Lib.itoa n).toArray⟩ ∧ Below w.heap.size w w' :=
  (Tryz.strconv_FormatInt_10 n h0.1 h0.2 w hT.pow).mono fun e w' ⟨he, k, os, hw⟩ => ⟨_, he, rfl, by rw [hw]; exact below_grow⟩
theorem c_Fmt {w : World} {ρ : Operand → Value} {o : Oper} {x y : Operand} {v u : Value} (ho : o.op = .call ⟨.value (.func 69), #[x, y], #[2, 3]⟩) (hf : ρ (.func 69) = .func (.func 69) #[] #[]) (hx : ρ x = v) (hy : ρ y = u) : (execOp ρ o).run Tryz.prog w = .ok (.enter 69 #[v, u]) w := by
  simp only [execOp, ho]
  go_simp
theorem c_lNum {w : World} {ρ : Operand → Value} {o : Oper} {x : Operand} {v : Value} (ho : o.op = .call ⟨.value (.func 32), #[x], #[33]⟩) (hf : ρ (.func 32) = .func (.func 32) #[] #[]) (hx : ρ x = v) : (execOp ρ o).run Tryz.prog w = .ok (.enter 32 #[v]) w := by
  simp only [execOp, ho]
  go_simp
theorem c_lPart {w : World} {ρ : Operand → Value} {o : Oper} {x y : Operand} {v u : Value} (ho : o.op = .call ⟨.value (.func 31), #[x, y], #[9, 45]⟩) (hf : ρ (.func 31) = .func (.func 31) #[] #[]) (hx : ρ x = v) (hy : ρ y = u) : (execOp ρ o).run Tryz.prog w = .ok (.enter 31 #[v, u]) w := by
  simp only [execOp, ho]
  go_simp
section
variable {w : World} {ρ : Operand → Value} {o : Oper} {x y : Operand} {k c : Nat} {A : Option Addr} {v : Value}
theorem k_lenSS (ho : o.op = .call ⟨.builtin .len, #[x], #[45]⟩) (hx : ρ x = .slice A k c) : (execOp ρ o).run Tryz.prog w = .ok (.value (.int .i64 k)) w := by
  simp only [execOp, ho]
  go_simp
end
theorem ba_len (l : List UInt8) : (⟨l.toArray⟩ : ByteArray).size = l.length := by show l.toArray.size = _; simp
theorem list_of_ba (l : List UInt8) : (⟨l.toArray⟩ : ByteArray).toList = l := by rw [ByteArray.toList_eq]

structure LpNum (w0 : World) (A : Option Addr) (c : Nat) (l : List Int) (i : Nat) (A' : Option Addr) (cap : Nat) (a : Act) (w : World) : Prop where
  d : a.defers = []
  z : a.tmps.size = 19
  s3 : a.tmps.getD 3 undef = .slice A' ((l.take i).map Lib.itoa).length cap
  s6 : a.tmps.getD 6 undef = .slice A l.length c
  s7 : a.tmps.getD 7 undef = .int .i64 l.length
  s8 : a.tmps.getD 8 undef = .int .i64 i
  iN : i ≤ l.length
  o : OwnS w w0.heap.size (.slice A' ((l.take i).map Lib.itoa).length cap) ((l.take i).map Lib.itoa)
  b : Below w0.heap.size w0 w
noncomputable def lnBody : Code := Tryz.f32.body.getD .skip
noncomputable def lnRound : Code := (Tryz.f32.body.bind loopOf).getD .skip

set_option maxRecDepth 100000 in
set_option maxHeartbeats 1000000 in
theorem ln_round (w0 : World) (A : Option Addr) (c : Nat) (l : List Int) (hT : Tabs w0) (hL0 : IntsIn w0 A l) (hl : l.length ≤ 1000) (hx : ∀ x ∈ l, -9223372036854775808 ≤ x ∧ x ≤ 9223372036854775807) (i : Nat) (A' : Option Addr) (cap : Nat) (a : Act) (w : World) (Q : Exit → Act → World → Prop) (J : LpNum w0 A c l i A' cap a w) (hlt : i < l.length) :
    lnRound.wp Tryz.prog (Exit.then (fun a' w' => (∃ i A' cap, LpNum w0 A c l i A' cap a' w') ∧ (l.length - intOf (a'.tmps.getD 8 undef)).toNat < (l.length - intOf (a.tmps.getD 8 undef)).toNat) Q) a w := by
  obtain ⟨hd, hs, h3, h6, h7, h8, hi, hO, hb⟩ := J
  have hL := hL0.below hb
  obtain ⟨ad, hA, -, hc⟩ := hL i hlt
  subst hA
  have hxi := hx l[i] (List.getElem_mem hlt)
  have eN : ((l.take (i + 1)).map Lib.itoa) = ((l.take i).map Lib.itoa) ++ [Lib.itoa l[i]] := by rw [List.take_succ_eq_append_getElem hlt, List.map_append]; rfl
  have e8 := h8
  rw [e8]
  clear e8
  unfold lnRound
  conv => arg 2; whnf
  refine wp_seq ?_
  refine wp_region (show wpOps _ _ _ [0] _ _ from ?_)
  refine opL 0 9 (v := .bool true) (w' := w) (by kernel_rfl) (frZ hs) ?_ ?_
  · exact frY rfl (o_ltI rfl (ev_tmp h8) (ev_tmp h7) (decide_eq_true (by omega)))
  refine frN4 hs hd h3 h6 h7 h8 ?_; clear hs hd h3 h6 h7 h8; intro a hs hd h3 h6 h7 h8 h9
  refine wp_seq ?_
  refine wp_cond_true (ev_tmp h9) ?_
  clear h9
  refine wp_skip ?_
  refine wp_seq ?_
  refine wp_block ?_
  refine wp_seq ?_
  refine wp_region (show wpOps _ _ _ [0, 1, 2] _ _ from ?_)
  refine opL 0 10 (v := .pointer (some (ad.add i))) (w' := w) (by kernel_rfl) (frZ hs) ?_ ?_
  · exact frY rfl (k_atI rfl (ev_tmp h6) (ev_tmp h8) hlt)
  revert hs hd h3 h6 h7 h8; refine frM4 ?_; intro a hs hd h3 h6 h7 h8 h10
  refine opL 1 11 (v := .int .i64 l[i]) (w' := w) (by kernel_rfl) (frZ hs) ?_ ?_
  · exact frY rfl (k_loadI rfl (ev_tmp h10) hc)
  clear h10; revert hs hd h3 h6 h7 h8; refine frM4 ?_; intro a hs hd h3 h6 h7 h8 h11
  refine opL 2 5 (v := .int .i64 l[i]) (w' := w) (by kernel_rfl) (frZ hs) ?_ ?_
  · exact frY rfl (k_assign rfl (ev_tmp h11))
  clear h11; revert hs hd h3 h6 h7 h8; refine frM4 ?_; intro a hs hd h3 h6 h7 h8 h5
  refine wp_region (show wpOps _ _ _ [0, 1, 2, 3, 4, 5] _ _ from ?_)
  refine opL 0 12 (v := .slice A' ((l.take i).map Lib.itoa).length cap) (w' := w) (by kernel_rfl) (frZ hs) ?_ ?_
  · exact frY rfl (k_move rfl (ev_tmp h3))
  revert hs hd h3 h6 h7 h8 h5; refine frM5 ?_; intro a hs hd h3 h6 h7 h8 h5 h12
  refine opL 1 13 (v := .int .i64 l[i]) (w' := w) (by kernel_rfl) (frZ hs) ?_ ?_
  · exact frY rfl (k_move rfl (ev_tmp h5))
  revert hs hd h3 h6 h7 h8 h5 h12; refine frM6 ?_; intro a hs hd h3 h6 h7 h8 h5 h12 h13
  have hc := fmt_any l[i] w (hT.below hb) hxi
  have hx := fun ops Q rest d a i h1 h2 h3 => opL_call (P := Tryz.prog) (ops := ops) (Q := Q) (a := a) (w := w) (rest := rest) i d h1 h2 h3 hc
  refine hx _ _ _ 14 _ 2 ?z13a ?z13b ?z13 ?z14
  case z13a => kernel_rfl
  case z13b => (rw [hs]; decide)
  case z13 => exact frY rfl (c_Fmt rfl rfl (ev_tmp h13) rfl)
  case z14 =>
  rintro _ w2 a ⟨rfl, l2⟩ F0
  replace hs := F0.z.trans hs
  replace hd := F0.e.trans hd
  replace h3 := (F0.n 3 (by decide)).trans h3
  replace h6 := (F0.n 6 (by decide)).trans h6
  replace h7 := (F0.n 7 (by decide)).trans h7
  replace h8 := (F0.n 8 (by decide)).trans h8
  replace h5 := (F0.n 5 (by decide)).trans h5
  replace h12 := (F0.n 12 (by decide)).trans h12
  clear h13
  have h14 := F0.s
  clear F0
  clear hx hc
  replace hO := hO.below l2
  replace hb := hb.trans (l2.mono hb.size)
  refine opL 3 15 (v := .slice (some ⟨w2.heap.size, 0, none⟩) 1 1) (w' := (w2.alloc (.cells #[.string ⟨(Lib.itoa l[i]).toArray⟩] 9))) (by kernel_rfl) (frZ hs) ?_ ?_
  · exact frY rfl (k_sliceS rfl (ev_tmp h14))
  refine frN6 hs hd h3 h6 h7 h8 h5 h12 ?_; clear hs hd h3 h6 h7 h8 h5 h12 h14; intro a hs hd h3 h6 h7 h8 h5 h12 h15
  obtain ⟨w3, hw3⟩ : ∃ wn, wn = w2.alloc (.cells #[.string ⟨(Lib.itoa l[i]).toArray⟩] 9) := ⟨_, rfl⟩
  rw [← hw3]
  have q3 : Blk w3 w2.heap.size 9 #[.string ⟨(Lib.itoa l[i]).toArray⟩] := by rw [hw3]; exact Blk.alloc _ _ _
  have l3 : Below w2.heap.size w2 w3 := by rw [hw3]; exact (Below.refl _ _).alloc (Nat.le_refl _) _
  clear hw3
  replace hO := hO.below l3
  replace hb := hb.trans (l3.mono hb.size)
  obtain ⟨v', w4, hr, hO4, b4, z4⟩ := append_str (c := 1) hO (q3.cell 0) (by simp; omega) hb.size
  rw [← eN] at hO4
  obtain ⟨B', cap', rfl⟩ := hO4.form
  refine opL 4 16 (v := .slice B' ((l.take (i + 1)).map Lib.itoa).length cap') (w' := w4) (by kernel_rfl) (frZ hs) ?_ ?_
  · exact frY rfl (k_append rfl rfl (ev_tmp h12) (ev_tmp h15) hr)
  refine frN5 hs hd h3 h6 h7 h8 h5 ?_; clear hs hd h3 h6 h7 h8 h5 h12 h15; intro a hs hd h3 h6 h7 h8 h5 h16
  have hb4 := hb.trans (b4.mono (Nat.le_refl _))
  refine opL 5 3 (v := .slice B' ((l.take (i + 1)).map Lib.itoa).length cap') (w' := w4) (by kernel_rfl) (frZ hs) ?_ ?_
  · exact frY rfl (k_assign rfl (ev_tmp h16))
  refine frN4 hs hd h6 h7 h8 h5 ?_; clear hs hd h6 h7 h8 h5 h3 h16; intro a hs hd h6 h7 h8 h5 h3
  refine wp_region (show wpOps _ _ _ [0, 1] _ _ from ?_)
  refine opL 0 17 (v := .int .i64 (i + 1 : Nat)) (w' := w4) (by kernel_rfl) (frZ hs) ?_ ?_
  · exact frY rfl (o_addI rfl (ev_tmp h8) rfl (wrap_small (n := (i : Int) + 1) (by omega) (by omega)))
  revert hs hd h6 h7 h8 h5 h3; refine frM5 ?_; intro a hs hd h6 h7 h8 h5 h3 h17
  refine opL 1 8 (v := .int .i64 (i + 1 : Nat)) (w' := w4) (by kernel_rfl) (frZ hs) ?_ ?_
  · exact frY rfl (k_move rfl (ev_tmp h17))
  clear h8 h17; revert hs hd h6 h7 h5 h3; refine frM4 ?_; intro a hs hd h6 h7 h5 h3 h8
  refine ⟨⟨i + 1, B', cap', hd, hs, h3, h6, h7, h8, hlt, hO4, hb4⟩, ?_⟩
  rw [h8]
  simp only [intOf]
  omega

set_option maxRecDepth 100000 in
set_option maxHeartbeats 1000000 in
theorem lnums_any (A : Option Addr) (c : Nat) (l : List Int) (w : World) (hT : Tabs w) (hL : IntsIn w A l) (hl : l.length ≤ 1000) (hx : ∀ x ∈ l, -9223372036854775808 ≤ x ∧ x ≤ 9223372036854775807) :
    Calls Tryz.prog 32 #[.slice A l.length c] w fun e w' => ∃ v, e = .returned v ∧ OwnS w' w.heap.size v (l.map Lib.itoa) ∧ Below w.heap.size w w' := by
  refine calls_of_wp Tryz.func32 (show Tryz.f32.body = some lnBody from rfl) ?_
  generalize hAA : (Act.mk (#[.slice A l.length c] ++ Array.replicate (Tryz.f32.ntmps - (#[.slice A l.length c] : Array Value).size) undef) []) = a
  have hs : a.tmps.size = 19 := by rw [← hAA]; simp [Tryz.ntmps32]
  have hd : a.defers = [] := by rw [← hAA]
  have h0 : a.tmps.getD 0 undef = .slice A l.length c := by rw [← hAA]; simp
  clear hAA
  refine Code.wp_mono NoPanic.imp ?_
  have hQ : Blind (NoPanic (bodyPost Tryz.prog Tryz.f32 fun e w' => ∃ v, e = .returned v ∧ OwnS w' w.heap.size v (l.map Lib.itoa) ∧ Below w.heap.size w w')) := fun _ _ _ _ q => q.elim
  have hfin : ∀ (a' : Act) (w' : World) (v : Value), a'.defers = [] → a'.tmps.getD 2 undef = v → (OwnS w' w.heap.size v (l.map Lib.itoa)) → Below w.heap.size w w' → NoPanic (bodyPost Tryz.prog Tryz.f32 fun e w' => ∃ v, e = .returned v ∧ OwnS w' w.heap.size v (l.map Lib.itoa) ∧ Below w.heap.size w w') .ret a' w' := by
    intro a' w' v k1 k2 k3 k4
    exact ⟨k1, _, results_tmp rfl _ _ _, _, rfl, by rw [k2]; exact k3, k4⟩
  generalize NoPanic (bodyPost Tryz.prog Tryz.f32 fun e w' => ∃ v, e = .returned v ∧ OwnS w' w.heap.size v (l.map Lib.itoa) ∧ Below w.heap.size w w') = Q at hQ hfin
  unfold lnBody
  conv => arg 2; whnf
  refine wp_seq ?_
  refine wp_region (show wpOps _ _ _ [0] _ _ from ?_)
  refine opL 0 2 (v := .slice none 0 0) (w' := w) (by kernel_rfl) (frZ hs) ?_ ?_
  · exact frY rfl (k_assign rfl rfl)
  refine frN1 hs hd h0 ?_; clear hs hd h0; intro a hs hd h0 h2
  refine wp_seq ?_
  refine wp_region (show wpOps _ _ _ [0] _ _ from ?_)
  refine opL 0 3 (v := .slice none 0 0) (w' := w) (by kernel_rfl) (frZ hs) ?_ ?_
  · exact frY rfl (k_assign rfl rfl)
  revert hs hd h0 h2; refine frM2 ?_; intro a hs hd h0 h2 h3
  refine wp_seq ?_
  refine wp_seq ?_
  refine wp_region (show wpOps _ _ _ [0, 1, 2] _ _ from ?_)
  refine opL 0 6 (v := .slice A l.length c) (w' := w) (by kernel_rfl) (frZ hs) ?_ ?_
  · exact frY rfl (k_move rfl (ev_tmp h0))
  revert hs hd h0 h2 h3; refine frM3 ?_; intro a hs hd h0 h2 h3 h6
  refine opL 1 7 (v := .int .i64 l.length) (w' := w) (by kernel_rfl) (frZ hs) ?_ ?_
  · exact frY rfl (k_lenL rfl (ev_tmp h6))
  revert hs hd h0 h2 h3 h6; refine frM4 ?_; intro a hs hd h0 h2 h3 h6 h7
  refine opL 2 8 (v := .int .i64 0) (w' := w) (by kernel_rfl) (frZ hs) ?_ ?_
  · exact frY rfl (k_move rfl rfl)
  revert hs hd h0 h2 h3 h6 h7; refine frM5 ?_; intro a hs hd h0 h2 h3 h6 h7 h8
  refine wp_block ?_
  refine wp_loop (fun a wx => ∃ i A' cap, LpNum w A c l i A' cap a wx) (fun a _ => (l.length - intOf (a.tmps.getD 8 undef)).toNat) ⟨0, none, 0, ⟨hd, hs, h3, h6, h7, h8, Nat.zero_le _, OwnS.nil _ _, Below.refl _ _⟩⟩ ?_
  clear hs hd h0 h2 h3 h6 h7 h8 a
  rintro a wx ⟨i, A', cap, J⟩
  by_cases hlt : i < l.length
  · exact ln_round w A c l hT hL hl hx i A' cap a wx _ J hlt
  obtain ⟨hd, hs, h3, h6, h7, h8, hi, hO, hb⟩ := J
  obtain rfl : i = l.length := by omega
  rw [List.take_length] at h3 hO
  clear h6
  refine wp_seq ?_
  refine wp_region (show wpOps _ _ _ [0] _ _ from ?_)
  refine opL 0 9 (v := .bool false) (w' := wx) (by kernel_rfl) (frZ hs) ?_ ?_
  · exact frY rfl (o_ltI rfl (ev_tmp h8) (ev_tmp h7) (decide_eq_false (by omega)))
  refine frN3 hs hd h3 h7 h8 ?_; clear hs hd h3 h7 h8; intro a hs hd h3 h7 h8 h9
  refine wp_seq ?_
  refine wp_cond_false (ev_tmp h9) ?_
  refine wp_exit ?_
  change Code.wp _ _ _ _ _
  refine wp_seq ?_
  refine wp_region (show wpOps _ _ _ [0, 1] _ _ from ?_)
  refine opL 0 18 (v := .slice A' (l.map Lib.itoa).length cap) (w' := wx) (by kernel_rfl) (frZ hs) ?_ ?_
  · exact frY rfl (k_move rfl (ev_tmp h3))
  refine frN3 hs hd h3 h7 h8 ?_; clear hs hd h3 h7 h8 h9; intro a hs hd h3 h7 h8 h18
  refine opL 1 2 (v := .slice A' (l.map Lib.itoa).length cap) (w' := wx) (by kernel_rfl) (frZ hs) ?_ ?_
  · exact frY rfl (k_assign rfl (ev_tmp h18))
  clear h18; revert hs hd h3 h7 h8; refine frM3 ?_; intro a hs hd h3 h7 h8 h2
  refine wp_ret ?_
  exact hfin a _ _ hd h2 hO hb


structure LpPart (n : List UInt8) (A : Option Addr) (c : Nat) (L : List (List UInt8)) (i : Nat) (a : Act) : Prop where
  d : a.defers = []
  z : a.tmps.size = 30
  s0 : a.tmps.getD 0 undef = .string ⟨(n).toArray⟩
  s5 : a.tmps.getD 5 undef = .string ⟨((Lib.join (L.take i) [44])).toArray⟩
  s8 : a.tmps.getD 8 undef = .slice A L.length c
  s9 : a.tmps.getD 9 undef = .int .i64 L.length
  s10 : a.tmps.getD 10 undef = .int .i64 i
  iN : i ≤ L.length
noncomputable def lpBody : Code := Tryz.f31.body.getD .skip
noncomputable def lpRound : Code := (Tryz.f31.body.bind loopOf).getD .skip

set_option maxRecDepth 100000 in
set_option maxHeartbeats 1000000 in
theorem lp_first (n : List UInt8) (g c : Nat) (L : List (List UInt8)) (hl : L.length ≤ 1000) (hx : ∀ x ∈ L, x.length ≤ 40) (i : Nat) (a : Act) (w : World) (hcell : ∀ j (hj : j < L.length), w.cell? ⟨g, j, none⟩ = some (.string ⟨L[j].toArray⟩)) (Q : Exit → Act → World → Prop) (J : LpPart n (some ⟨g, 0, none⟩) c L i a) (hlt : i < L.length) (hi0 : i = 0) :
    lpRound.wp Tryz.prog (Exit.then (fun a' w' => (w = w' ∧ ∃ i, LpPart n (some ⟨g, 0, none⟩) c L i a') ∧ (L.length - intOf (a'.tmps.getD 10 undef)).toNat < (L.length - intOf (a.tmps.getD 10 undef)).toNat) Q) a w := by
  obtain ⟨hd, hs, h0, h5, h8, h9, h10, hi⟩ := J
  have hxi := hx L[i] (List.getElem_mem hlt)
  have hj : (Lib.join (L.take i) [44]).length ≤ 41000 := by
    have h1 := join_len 44 40 (L.take i) (fun x hx' => hx x (List.mem_of_mem_take hx'))
    have h2 : (L.take i).length ≤ 1000 := by rw [List.length_take]; omega
    omega
  have eN : (Lib.join (L.take i) [44]) ++ L[i] = (Lib.join (L.take (i + 1)) [44]) := by
    rw [List.take_succ_eq_append_getElem hlt, Rfc.join_snoc]
    subst hi0
    rw [if_pos (by simp)]
    rfl
  have hs2 : (⟨((Lib.join (L.take i) [44])).toArray⟩ : ByteArray).size + (⟨(L[i]).toArray⟩ : ByteArray).size ≤ 1000000 := by rw [ba_len, ba_len]; omega
  have e10 := h10
  rw [e10]
  clear e10
  unfold lpRound
  conv => arg 2; whnf
  refine wp_seq ?_
  refine wp_region (show wpOps _ _ _ [0] _ _ from ?_)
  refine opL 0 11 (v := .bool true) (w' := w) (by kernel_rfl) (frZ hs) ?_ ?_
  · exact frY rfl (o_ltI rfl (ev_tmp h10) (ev_tmp h9) (decide_eq_true (by omega)))
  refine frN5 hs hd h0 h5 h8 h9 h10 ?_; clear hs hd h0 h5 h8 h9 h10; intro a hs hd h0 h5 h8 h9 h10 h11
  refine wp_seq ?_
  refine wp_cond_true (ev_tmp h11) ?_
  clear h11
  refine wp_skip ?_
  refine wp_seq ?_
  refine wp_block ?_
  refine wp_seq ?_
  refine wp_region (show wpOps _ _ _ [0, 1, 2, 3, 4] _ _ from ?_)
  refine opL 0 12 (v := .int .i64 i) (w' := w) (by kernel_rfl) (frZ hs) ?_ ?_
  · exact frY rfl (k_move rfl (ev_tmp h10))
  revert hs hd h0 h5 h8 h9 h10; refine frM5 ?_; intro a hs hd h0 h5 h8 h9 h10 h12
  refine opL 1 13 (v := .pointer (some ⟨g, i, none⟩)) (w' := w) (by kernel_rfl) (frZ hs) ?_ ?_
  · exact frY rfl (k_atS' rfl (ev_tmp h8) (ev_tmp h10) hlt)
  revert hs hd h0 h5 h8 h9 h10 h12; refine frM6 ?_; intro a hs hd h0 h5 h8 h9 h10 h12 h13
  refine opL 2 14 (v := .string ⟨(L[i]).toArray⟩) (w' := w) (by kernel_rfl) (frZ hs) ?_ ?_
  · exact frY rfl (k_loadStr rfl (ev_tmp h13) (hcell i hlt))
  clear h13; revert hs hd h0 h5 h8 h9 h10 h12; refine frM6 ?_; intro a hs hd h0 h5 h8 h9 h10 h12 h14
  refine opL 3 6 (v := .int .i64 i) (w' := w) (by kernel_rfl) (frZ hs) ?_ ?_
  · exact frY rfl (k_assign rfl (ev_tmp h12))
  clear h12; revert hs hd h0 h5 h8 h9 h10 h14; refine frM6 ?_; intro a hs hd h0 h5 h8 h9 h10 h14 h6
  refine opL 4 7 (v := .string ⟨(L[i]).toArray⟩) (w' := w) (by kernel_rfl) (frZ hs) ?_ ?_
  · exact frY rfl (k_assign rfl (ev_tmp h14))
  clear h14; revert hs hd h0 h5 h8 h9 h10 h6; refine frM6 ?_; intro a hs hd h0 h5 h8 h9 h10 h6 h7
  refine wp_seq ?_
  refine wp_seq ?_
  refine wp_region (show wpOps _ _ _ [0, 1] _ _ from ?_)
  refine opL 0 15 (v := .int .i64 i) (w' := w) (by kernel_rfl) (frZ hs) ?_ ?_
  · exact frY rfl (k_move rfl (ev_tmp h6))
  revert hs hd h0 h5 h8 h9 h10 h6 h7; refine frM7 ?_; intro a hs hd h0 h5 h8 h9 h10 h6 h7 h15
  refine opL 1 16 (v := .bool false) (w' := w) (by kernel_rfl) (frZ hs) ?_ ?_
  · exact frY rfl (o_gtI rfl (ev_tmp h15) rfl (decide_eq_false (by omega)))
  clear h15; revert hs hd h0 h5 h8 h9 h10 h6 h7; refine frM7 ?_; intro a hs hd h0 h5 h8 h9 h10 h6 h7 h16
  refine wp_cond_false (ev_tmp h16) ?_
  clear h16
  refine wp_skip ?_
  refine wp_region (show wpOps _ _ _ [0, 1, 2, 3] _ _ from ?_)
  refine opL 0 19 (v := .string ⟨((Lib.join (L.take i) [44])).toArray⟩) (w' := w) (by kernel_rfl) (frZ hs) ?_ ?_
  · exact frY rfl (k_move rfl (ev_tmp h5))
  revert hs hd h0 h5 h8 h9 h10 h6 h7; refine frM7 ?_; intro a hs hd h0 h5 h8 h9 h10 h6 h7 h19
  refine opL 1 20 (v := .string ⟨(L[i]).toArray⟩) (w' := w) (by kernel_rfl) (frZ hs) ?_ ?_
  · exact frY rfl (k_move rfl (ev_tmp h7))
  revert hs hd h0 h5 h8 h9 h10 h6 h7 h19; refine frM8 ?_; intro a hs hd h0 h5 h8 h9 h10 h6 h7 h19 h20
  refine opL 2 21 (v := .string ⟨((Lib.join (L.take (i + 1)) [44])).toArray⟩) (w' := w) (by kernel_rfl) (frZ hs) ?_ ?_
  · exact frY rfl (o_addStr rfl (ev_tmp h19) (ev_tmp h20) hs2 (by rw [ba_append, eN]))
  clear h19 h20; revert hs hd h0 h5 h8 h9 h10 h6 h7; refine frM7 ?_; intro a hs hd h0 h5 h8 h9 h10 h6 h7 h21
  refine opL 3 5 (v := .string ⟨((Lib.join (L.take (i + 1)) [44])).toArray⟩) (w' := w) (by kernel_rfl) (frZ hs) ?_ ?_
  · exact frY rfl (k_assign rfl (ev_tmp h21))
  clear h5 h21; revert hs hd h0 h8 h9 h10 h6 h7; refine frM6 ?_; intro a hs hd h0 h8 h9 h10 h6 h7 h5
  refine wp_region (show wpOps _ _ _ [0, 1] _ _ from ?_)
  refine opL 0 22 (v := .int .i64 (i + 1 : Nat)) (w' := w) (by kernel_rfl) (frZ hs) ?_ ?_
  · exact frY rfl (o_addI rfl (ev_tmp h10) rfl (wrap_small (n := (i : Int) + 1) (by omega) (by omega)))
  revert hs hd h0 h8 h9 h10 h6 h7 h5; refine frM7 ?_; intro a hs hd h0 h8 h9 h10 h6 h7 h5 h22
  refine opL 1 10 (v := .int .i64 (i + 1 : Nat)) (w' := w) (by kernel_rfl) (frZ hs) ?_ ?_
  · exact frY rfl (k_move rfl (ev_tmp h22))
  clear h10 h22; revert hs hd h0 h8 h9 h6 h7 h5; refine frM6 ?_; intro a hs hd h0 h8 h9 h6 h7 h5 h10
  refine ⟨⟨rfl, i + 1, hd, hs, h0, h5, h8, h9, h10, hlt⟩, ?_⟩
  rw [h10]
  simp only [intOf]
  omega

set_option maxRecDepth 100000 in
set_option maxHeartbeats 1000000 in
theorem lp_next (n : List UInt8) (g c : Nat) (L : List (List UInt8)) (hl : L.length ≤ 1000) (hx : ∀ x ∈ L, x.length ≤ 40) (i : Nat) (a : Act) (w : World) (hcell : ∀ j (hj : j < L.length), w.cell? ⟨g, j, none⟩ = some (.string ⟨L[j].toArray⟩)) (Q : Exit → Act → World → Prop) (J : LpPart n (some ⟨g, 0, none⟩) c L i a) (hlt : i < L.length) (hi0 : 0 < i) :
    lpRound.wp Tryz.prog (Exit.then (fun a' w' => (w = w' ∧ ∃ i, LpPart n (some ⟨g, 0, none⟩) c L i a') ∧ (L.length - intOf (a'.tmps.getD 10 undef)).toNat < (L.length - intOf (a.tmps.getD 10 undef)).toNat) Q) a w := by
  obtain ⟨hd, hs, h0, h5, h8, h9, h10, hi⟩ := J
  have hxi := hx L[i] (List.getElem_mem hlt)
  have hj : (Lib.join (L.take i) [44]).length ≤ 41000 := by
    have h1 := join_len 44 40 (L.take i) (fun x hx' => hx x (List.mem_of_mem_take hx'))
    have h2 : (L.take i).length ≤ 1000 := by rw [List.length_take]; omega
    omega
  have eN : ((Lib.join (L.take i) [44]) ++ [44]) ++ L[i] = (Lib.join (L.take (i + 1)) [44]) := by
    rw [List.take_succ_eq_append_getElem hlt, Rfc.join_snoc]
    rw [if_neg (by intro e; have := congrArg List.length e; rw [List.length_take, List.length_nil] at this; omega)]
    simp
  have hs1 : (⟨(Lib.join (L.take i) [44]).toArray⟩ : ByteArray).size + (⟨#[44]⟩ : ByteArray).size ≤ 1000000 := by rw [ba_len]; show _ + 1 ≤ _; omega
  have hs2 : (⟨(((Lib.join (L.take i) [44]) ++ [44])).toArray⟩ : ByteArray).size + (⟨(L[i]).toArray⟩ : ByteArray).size ≤ 1000000 := by rw [ba_len, ba_len, List.length_append]; show _ + 1 + _ ≤ _; omega
  have e10 := h10
  rw [e10]
  clear e10
  unfold lpRound
  conv => arg 2; whnf
  refine wp_seq ?_
  refine wp_region (show wpOps _ _ _ [0] _ _ from ?_)
  refine opL 0 11 (v := .bool true) (w' := w) (by kernel_rfl) (frZ hs) ?_ ?_
  · exact frY rfl (o_ltI rfl (ev_tmp h10) (ev_tmp h9) (decide_eq_true (by omega)))
  refine frN5 hs hd h0 h5 h8 h9 h10 ?_; clear hs hd h0 h5 h8 h9 h10; intro a hs hd h0 h5 h8 h9 h10 h11
  refine wp_seq ?_
  refine wp_cond_true (ev_tmp h11) ?_
  clear h11
  refine wp_skip ?_
  refine wp_seq ?_
  refine wp_block ?_
  refine wp_seq ?_
  refine wp_region (show wpOps _ _ _ [0, 1, 2, 3, 4] _ _ from ?_)
  refine opL 0 12 (v := .int .i64 i) (w' := w) (by kernel_rfl) (frZ hs) ?_ ?_
  · exact frY rfl (k_move rfl (ev_tmp h10))
  revert hs hd h0 h5 h8 h9 h10; refine frM5 ?_; intro a hs hd h0 h5 h8 h9 h10 h12
  refine opL 1 13 (v := .pointer (some ⟨g, i, none⟩)) (w' := w) (by kernel_rfl) (frZ hs) ?_ ?_
  · exact frY rfl (k_atS' rfl (ev_tmp h8) (ev_tmp h10) hlt)
  revert hs hd h0 h5 h8 h9 h10 h12; refine frM6 ?_; intro a hs hd h0 h5 h8 h9 h10 h12 h13
  refine opL 2 14 (v := .string ⟨(L[i]).toArray⟩) (w' := w) (by kernel_rfl) (frZ hs) ?_ ?_
  · exact frY rfl (k_loadStr rfl (ev_tmp h13) (hcell i hlt))
  clear h13; revert hs hd h0 h5 h8 h9 h10 h12; refine frM6 ?_; intro a hs hd h0 h5 h8 h9 h10 h12 h14
  refine opL 3 6 (v := .int .i64 i) (w' := w) (by kernel_rfl) (frZ hs) ?_ ?_
  · exact frY rfl (k_assign rfl (ev_tmp h12))
  clear h12; revert hs hd h0 h5 h8 h9 h10 h14; refine frM6 ?_; intro a hs hd h0 h5 h8 h9 h10 h14 h6
  refine opL 4 7 (v := .string ⟨(L[i]).toArray⟩) (w' := w) (by kernel_rfl) (frZ hs) ?_ ?_
  · exact frY rfl (k_assign rfl (ev_tmp h14))
  clear h14; revert hs hd h0 h5 h8 h9 h10 h6; refine frM6 ?_; intro a hs hd h0 h5 h8 h9 h10 h6 h7
  refine wp_seq ?_
  refine wp_seq ?_
  refine wp_region (show wpOps _ _ _ [0, 1] _ _ from ?_)
  refine opL 0 15 (v := .int .i64 i) (w' := w) (by kernel_rfl) (frZ hs) ?_ ?_
  · exact frY rfl (k_move rfl (ev_tmp h6))
  revert hs hd h0 h5 h8 h9 h10 h6 h7; refine frM7 ?_; intro a hs hd h0 h5 h8 h9 h10 h6 h7 h15
  refine opL 1 16 (v := .bool true) (w' := w) (by kernel_rfl) (frZ hs) ?_ ?_
  · exact frY rfl (o_gtI rfl (ev_tmp h15) rfl (decide_eq_true (by omega)))
  clear h15; revert hs hd h0 h5 h8 h9 h10 h6 h7; refine frM7 ?_; intro a hs hd h0 h5 h8 h9 h10 h6 h7 h16
  refine wp_cond_true (ev_tmp h16) ?_
  clear h16
  refine wp_region (show wpOps _ _ _ [0, 1, 2] _ _ from ?_)
  refine opL 0 17 (v := .string ⟨((Lib.join (L.take i) [44])).toArray⟩) (w' := w) (by kernel_rfl) (frZ hs) ?_ ?_
  · exact frY rfl (k_move rfl (ev_tmp h5))
  revert hs hd h0 h5 h8 h9 h10 h6 h7; refine frM7 ?_; intro a hs hd h0 h5 h8 h9 h10 h6 h7 h17
  refine opL 1 18 (v := .string ⟨((Lib.join (L.take i) [44]) ++ [44]).toArray⟩) (w' := w) (by kernel_rfl) (frZ hs) ?_ ?_
  · exact frY rfl (o_addStr rfl (ev_tmp h17) rfl hs1 (ba_append _ [44]))
  clear h17; revert hs hd h0 h5 h8 h9 h10 h6 h7; refine frM7 ?_; intro a hs hd h0 h5 h8 h9 h10 h6 h7 h18
  refine opL 2 5 (v := .string ⟨((Lib.join (L.take i) [44]) ++ [44]).toArray⟩) (w' := w) (by kernel_rfl) (frZ hs) ?_ ?_
  · exact frY rfl (k_assign rfl (ev_tmp h18))
  clear h5 h18; revert hs hd h0 h8 h9 h10 h6 h7; refine frM6 ?_; intro a hs hd h0 h8 h9 h10 h6 h7 h5
  refine wp_region (show wpOps _ _ _ [0, 1, 2, 3] _ _ from ?_)
  refine opL 0 19 (v := .string ⟨((Lib.join (L.take i) [44]) ++ [44]).toArray⟩) (w' := w) (by kernel_rfl) (frZ hs) ?_ ?_
  · exact frY rfl (k_move rfl (ev_tmp h5))
  revert hs hd h0 h8 h9 h10 h6 h7 h5; refine frM7 ?_; intro a hs hd h0 h8 h9 h10 h6 h7 h5 h19
  refine opL 1 20 (v := .string ⟨(L[i]).toArray⟩) (w' := w) (by kernel_rfl) (frZ hs) ?_ ?_
  · exact frY rfl (k_move rfl (ev_tmp h7))
  revert hs hd h0 h8 h9 h10 h6 h7 h5 h19; refine frM8 ?_; intro a hs hd h0 h8 h9 h10 h6 h7 h5 h19 h20
  refine opL 2 21 (v := .string ⟨((Lib.join (L.take (i + 1)) [44])).toArray⟩) (w' := w) (by kernel_rfl) (frZ hs) ?_ ?_
  · exact frY rfl (o_addStr rfl (ev_tmp h19) (ev_tmp h20) hs2 (by rw [ba_append, eN]))
  clear h19 h20; revert hs hd h0 h8 h9 h10 h6 h7 h5; refine frM7 ?_; intro a hs hd h0 h8 h9 h10 h6 h7 h5 h21
  refine opL 3 5 (v := .string ⟨((Lib.join (L.take (i + 1)) [44])).toArray⟩) (w' := w) (by kernel_rfl) (frZ hs) ?_ ?_
  · exact frY rfl (k_assign rfl (ev_tmp h21))
  clear h5 h21; revert hs hd h0 h8 h9 h10 h6 h7; refine frM6 ?_; intro a hs hd h0 h8 h9 h10 h6 h7 h5
  refine wp_region (show wpOps _ _ _ [0, 1] _ _ from ?_)
  refine opL 0 22 (v := .int .i64 (i + 1 : Nat)) (w' := w) (by kernel_rfl) (frZ hs) ?_ ?_
  · exact frY rfl (o_addI rfl (ev_tmp h10) rfl (wrap_small (n := (i : Int) + 1) (by omega) (by omega)))
  revert hs hd h0 h8 h9 h10 h6 h7 h5; refine frM7 ?_; intro a hs hd h0 h8 h9 h10 h6 h7 h5 h22
  refine opL 1 10 (v := .int .i64 (i + 1 : Nat)) (w' := w) (by kernel_rfl) (frZ hs) ?_ ?_
  · exact frY rfl (k_move rfl (ev_tmp h22))
  clear h10 h22; revert hs hd h0 h8 h9 h6 h7 h5; refine frM6 ?_; intro a hs hd h0 h8 h9 h6 h7 h5 h10
  refine ⟨⟨rfl, i + 1, hd, hs, h0, h5, h8, h9, h10, hlt⟩, ?_⟩
  rw [h10]
  simp only [intOf]
  omega

set_option maxRecDepth 100000 in
set_option maxHeartbeats 1000000 in
theorem lpart_none (n : List UInt8) (A : Option Addr) (c : Nat) (L : List (List UInt8)) (w : World) (hA : L = []) :
    Calls Tryz.prog 31 #[.string ⟨(n).toArray⟩, .slice A L.length c] w fun e w' => ∃ v, e = .returned v ∧ v = .string ⟨((Rfc.ptn n (Lib.join L [44]))).toArray⟩ ∧ Below w.heap.size w w' := by
  have hje : ((Lib.join L [44]) == (⟨#[]⟩ : ByteArray).toList) = true := by
    rw [show (⟨#[]⟩ : ByteArray).toList = [] from list_of_ba [], hA]
    rfl
  have eR : (Rfc.ptn n (Lib.join L [44])) = [] := by
    rw [hA]
    rfl
  refine calls_of_wp Tryz.func31 (show Tryz.f31.body = some lpBody from rfl) ?_
  generalize hAA : (Act.mk (#[.string ⟨(n).toArray⟩, .slice A L.length c] ++ Array.replicate (Tryz.f31.ntmps - (#[.string ⟨(n).toArray⟩, .slice A L.length c] : Array Value).size) undef) []) = a
  have hs : a.tmps.size = 30 := by rw [← hAA]; simp [Tryz.ntmps31]
  have hd : a.defers = [] := by rw [← hAA]
  have h0 : a.tmps.getD 0 undef = .string ⟨(n).toArray⟩ := by rw [← hAA]; simp
  have h1 : a.tmps.getD 1 undef = .slice A L.length c := by rw [← hAA]; simp
  clear hAA
  refine Code.wp_mono NoPanic.imp ?_
  have hQ : Blind (NoPanic (bodyPost Tryz.prog Tryz.f31 fun e w' => ∃ v, e = .returned v ∧ v = .string ⟨((Rfc.ptn n (Lib.join L [44]))).toArray⟩ ∧ Below w.heap.size w w')) := fun _ _ _ _ q => q.elim
  have hfin : ∀ (a' : Act) (w' : World) (v : Value), a'.defers = [] → a'.tmps.getD 4 undef = v → (v = .string ⟨((Rfc.ptn n (Lib.join L [44]))).toArray⟩) → Below w.heap.size w w' → NoPanic (bodyPost Tryz.prog Tryz.f31 fun e w' => ∃ v, e = .returned v ∧ v = .string ⟨((Rfc.ptn n (Lib.join L [44]))).toArray⟩ ∧ Below w.heap.size w w') .ret a' w' := by
    intro a' w' v k1 k2 k3 k4
    exact ⟨k1, _, results_tmp rfl _ _ _, _, rfl, by rw [k2]; exact k3, k4⟩
  generalize NoPanic (bodyPost Tryz.prog Tryz.f31 fun e w' => ∃ v, e = .returned v ∧ v = .string ⟨((Rfc.ptn n (Lib.join L [44]))).toArray⟩ ∧ Below w.heap.size w w') = Q at hQ hfin
  unfold lpBody
  conv => arg 2; whnf
  refine wp_seq ?_
  refine wp_region (show wpOps _ _ _ [0] _ _ from ?_)
  refine opL 0 4 (v := .string ⟨#[]⟩) (w' := w) (by kernel_rfl) (frZ hs) ?_ ?_
  · exact frY rfl (k_assign rfl rfl)
  refine frN2 hs hd h0 h1 ?_; clear hs hd h0 h1; intro a hs hd h0 h1 h4
  refine wp_seq ?_
  refine wp_region (show wpOps _ _ _ [0] _ _ from ?_)
  refine opL 0 5 (v := .string ⟨#[]⟩) (w' := w) (by kernel_rfl) (frZ hs) ?_ ?_
  · exact frY rfl (k_assign rfl rfl)
  revert hs hd h0 h1 h4; refine frM3 ?_; intro a hs hd h0 h1 h4 h5
  refine wp_seq ?_
  refine wp_seq ?_
  refine wp_region (show wpOps _ _ _ [0, 1, 2] _ _ from ?_)
  refine opL 0 8 (v := .slice A L.length c) (w' := w) (by kernel_rfl) (frZ hs) ?_ ?_
  · exact frY rfl (k_move rfl (ev_tmp h1))
  revert hs hd h0 h1 h4 h5; refine frM4 ?_; intro a hs hd h0 h1 h4 h5 h8
  refine opL 1 9 (v := .int .i64 L.length) (w' := w) (by kernel_rfl) (frZ hs) ?_ ?_
  · exact frY rfl (k_lenSS rfl (ev_tmp h8))
  revert hs hd h0 h1 h4 h5 h8; refine frM5 ?_; intro a hs hd h0 h1 h4 h5 h8 h9
  refine opL 2 10 (v := .int .i64 0) (w' := w) (by kernel_rfl) (frZ hs) ?_ ?_
  · exact frY rfl (k_move rfl rfl)
  revert hs hd h0 h1 h4 h5 h8 h9; refine frM6 ?_; intro a hs hd h0 h1 h4 h5 h8 h9 h10
  refine wp_block ?_
  refine wp_loop (fun a wx => w = wx ∧ ∃ i, LpPart n A c L i a) (fun a _ => (L.length - intOf (a.tmps.getD 10 undef)).toNat) ⟨rfl, 0, ⟨hd, hs, h0, by rw [h5]; rfl, h8, h9, h10, Nat.zero_le _⟩⟩ ?_
  clear hs hd h0 h1 h4 h5 h8 h9 h10 a
  rintro a wx ⟨rfl, i, J⟩
  by_cases hlt : i < L.length
  · rw [hA] at hlt; cases hlt
  obtain ⟨hd, hs, h0, h5, h8, h9, h10, hi⟩ := J
  obtain rfl : i = L.length := by omega
  rw [List.take_length] at h5
  clear h8
  refine wp_seq ?_
  refine wp_region (show wpOps _ _ _ [0] _ _ from ?_)
  refine opL 0 11 (v := .bool false) (w' := w) (by kernel_rfl) (frZ hs) ?_ ?_
  · exact frY rfl (o_ltI rfl (ev_tmp h10) (ev_tmp h9) (decide_eq_false (by omega)))
  refine frN4 hs hd h0 h5 h9 h10 ?_; clear hs hd h0 h5 h9 h10; intro a hs hd h0 h5 h9 h10 h11
  refine wp_seq ?_
  refine wp_cond_false (ev_tmp h11) ?_
  refine wp_exit ?_
  change Code.wp _ _ _ _ _
  refine wp_seq ?_
  refine wp_seq ?_
  refine wp_region (show wpOps _ _ _ [0, 1] _ _ from ?_)
  refine opL 0 23 (v := .string ⟨((Lib.join L [44])).toArray⟩) (w' := w) (by kernel_rfl) (frZ hs) ?_ ?_
  · exact frY rfl (k_move rfl (ev_tmp h5))
  refine frN4 hs hd h0 h5 h9 h10 ?_; clear hs hd h0 h5 h9 h10 h11; intro a hs hd h0 h5 h9 h10 h23
  refine opL 1 24 (v := .bool true) (w' := w) (by kernel_rfl) (frZ hs) ?_ ?_
  · exact frY rfl (o_eqStr rfl (ev_tmp h23) rfl (by rw [list_of_ba]; exact hje))
  clear h23; revert hs hd h0 h5 h9 h10; refine frM4 ?_; intro a hs hd h0 h5 h9 h10 h24
  refine wp_cond_true (ev_tmp h24) ?_
  refine wp_seq ?_
  refine wp_region (show wpOps _ _ _ [0] _ _ from ?_)
  refine opL 0 4 (v := .string ⟨#[]⟩) (w' := w) (by kernel_rfl) (frZ hs) ?_ ?_
  · exact frY rfl (k_assign rfl rfl)
  revert hs hd h0 h5 h9 h10 h24; refine frM5 ?_; intro a hs hd h0 h5 h9 h10 h24 h4
  refine wp_ret ?_
  exact hfin a _ _ hd h4 (by first | rfl | (rw [eR]; rfl) | rw [eR]) (Below.refl _ _)


set_option maxRecDepth 100000 in
set_option maxHeartbeats 1000000 in
theorem lpart_some (n : List UInt8) (A : Option Addr) (c : Nat) (L : List (List UInt8)) (w : World) (hn : n.length ≤ 20) (hl : L.length ≤ 1000) (hx : ∀ x ∈ L, x.length ≤ 40) (hA : ∃ g, A = some ⟨g, 0, none⟩ ∧ ∀ j (hj : j < L.length), w.cell? ⟨g, j, none⟩ = some (.string ⟨L[j].toArray⟩)) (hne : Lib.join L [44] ≠ []) :
    Calls Tryz.prog 31 #[.string ⟨(n).toArray⟩, .slice A L.length c] w fun e w' => ∃ v, e = .returned v ∧ v = .string ⟨((Rfc.ptn n (Lib.join L [44]))).toArray⟩ ∧ Below w.heap.size w w' := by
  have hj : (Lib.join L [44]).length ≤ 41000 := by
    have h1 := join_len 44 40 L hx
    omega
  have hje : ((Lib.join L [44]) == (⟨#[]⟩ : ByteArray).toList) = false := by
    rw [show (⟨#[]⟩ : ByteArray).toList = [] from list_of_ba []]
    simpa using hne
  have eR : (59 :: n ++ [61]) ++ (Lib.join L [44]) = (Rfc.ptn n (Lib.join L [44])) := by
    unfold Rfc.ptn
    rw [if_neg hne]
    simp
  have hz1 : (⟨#[59]⟩ : ByteArray).size + (⟨n.toArray⟩ : ByteArray).size ≤ 1000000 := by show 1 + (⟨n.toArray⟩ : ByteArray).size ≤ _; rw [ba_len]; omega
  have hz2 : (⟨(59 :: n).toArray⟩ : ByteArray).size + (⟨#[61]⟩ : ByteArray).size ≤ 1000000 := by rw [ba_len]; show _ + 1 ≤ _; simp; omega
  have hz3 : (⟨(59 :: n ++ [61]).toArray⟩ : ByteArray).size + (⟨(Lib.join L [44]).toArray⟩ : ByteArray).size ≤ 1000000 := by rw [ba_len, ba_len]; simp; omega
  refine calls_of_wp Tryz.func31 (show Tryz.f31.body = some lpBody from rfl) ?_
  generalize hAA : (Act.mk (#[.string ⟨(n).toArray⟩, .slice A L.length c] ++ Array.replicate (Tryz.f31.ntmps - (#[.string ⟨(n).toArray⟩, .slice A L.length c] : Array Value).size) undef) []) = a
  have hs : a.tmps.size = 30 := by rw [← hAA]; simp [Tryz.ntmps31]
  have hd : a.defers = [] := by rw [← hAA]
  have h0 : a.tmps.getD 0 undef = .string ⟨(n).toArray⟩ := by rw [← hAA]; simp
  have h1 : a.tmps.getD 1 undef = .slice A L.length c := by rw [← hAA]; simp
  clear hAA
  refine Code.wp_mono NoPanic.imp ?_
  have hQ : Blind (NoPanic (bodyPost Tryz.prog Tryz.f31 fun e w' => ∃ v, e = .returned v ∧ v = .string ⟨((Rfc.ptn n (Lib.join L [44]))).toArray⟩ ∧ Below w.heap.size w w')) := fun _ _ _ _ q => q.elim
  have hfin : ∀ (a' : Act) (w' : World) (v : Value), a'.defers = [] → a'.tmps.getD 4 undef = v → (v = .string ⟨((Rfc.ptn n (Lib.join L [44]))).toArray⟩) → Below w.heap.size w w' → NoPanic (bodyPost Tryz.prog Tryz.f31 fun e w' => ∃ v, e = .returned v ∧ v = .string ⟨((Rfc.ptn n (Lib.join L [44]))).toArray⟩ ∧ Below w.heap.size w w') .ret a' w' := by
    intro a' w' v k1 k2 k3 k4
    exact ⟨k1, _, results_tmp rfl _ _ _, _, rfl, by rw [k2]; exact k3, k4⟩
  generalize NoPanic (bodyPost Tryz.prog Tryz.f31 fun e w' => ∃ v, e = .returned v ∧ v = .string ⟨((Rfc.ptn n (Lib.join L [44]))).toArray⟩ ∧ Below w.heap.size w w') = Q at hQ hfin
  unfold lpBody
  conv => arg 2; whnf
  refine wp_seq ?_
  refine wp_region (show wpOps _ _ _ [0] _ _ from ?_)
  refine opL 0 4 (v := .string ⟨#[]⟩) (w' := w) (by kernel_rfl) (frZ hs) ?_ ?_
  · exact frY rfl (k_assign rfl rfl)
  refine frN2 hs hd h0 h1 ?_; clear hs hd h0 h1; intro a hs hd h0 h1 h4
  refine wp_seq ?_
  refine wp_region (show wpOps _ _ _ [0] _ _ from ?_)
  refine opL 0 5 (v := .string ⟨#[]⟩) (w' := w) (by kernel_rfl) (frZ hs) ?_ ?_
  · exact frY rfl (k_assign rfl rfl)
  revert hs hd h0 h1 h4; refine frM3 ?_; intro a hs hd h0 h1 h4 h5
  refine wp_seq ?_
  refine wp_seq ?_
  refine wp_region (show wpOps _ _ _ [0, 1, 2] _ _ from ?_)
  refine opL 0 8 (v := .slice A L.length c) (w' := w) (by kernel_rfl) (frZ hs) ?_ ?_
  · exact frY rfl (k_move rfl (ev_tmp h1))
  revert hs hd h0 h1 h4 h5; refine frM4 ?_; intro a hs hd h0 h1 h4 h5 h8
  refine opL 1 9 (v := .int .i64 L.length) (w' := w) (by kernel_rfl) (frZ hs) ?_ ?_
  · exact frY rfl (k_lenSS rfl (ev_tmp h8))
  revert hs hd h0 h1 h4 h5 h8; refine frM5 ?_; intro a hs hd h0 h1 h4 h5 h8 h9
  refine opL 2 10 (v := .int .i64 0) (w' := w) (by kernel_rfl) (frZ hs) ?_ ?_
  · exact frY rfl (k_move rfl rfl)
  revert hs hd h0 h1 h4 h5 h8 h9; refine frM6 ?_; intro a hs hd h0 h1 h4 h5 h8 h9 h10
  refine wp_block ?_
  refine wp_loop (fun a wx => w = wx ∧ ∃ i, LpPart n A c L i a) (fun a _ => (L.length - intOf (a.tmps.getD 10 undef)).toNat) ⟨rfl, 0, ⟨hd, hs, h0, by rw [h5]; rfl, h8, h9, h10, Nat.zero_le _⟩⟩ ?_
  clear hs hd h0 h1 h4 h5 h8 h9 h10 a
  rintro a wx ⟨rfl, i, J⟩
  by_cases hlt : i < L.length
  · obtain ⟨g, rfl, hcell⟩ := hA
    by_cases hi0 : i = 0
    · exact lp_first n g c L hl hx i a _ hcell _ J hlt hi0
    · exact lp_next n g c L hl hx i a _ hcell _ J hlt (by omega)
  obtain ⟨hd, hs, h0, h5, h8, h9, h10, hi⟩ := J
  obtain rfl : i = L.length := by omega
  rw [List.take_length] at h5
  clear h8
  refine wp_seq ?_
  refine wp_region (show wpOps _ _ _ [0] _ _ from ?_)
  refine opL 0 11 (v := .bool false) (w' := w) (by kernel_rfl) (frZ hs) ?_ ?_
  · exact frY rfl (o_ltI rfl (ev_tmp h10) (ev_tmp h9) (decide_eq_false (by omega)))
  refine frN4 hs hd h0 h5 h9 h10 ?_; clear hs hd h0 h5 h9 h10; intro a hs hd h0 h5 h9 h10 h11
  refine wp_seq ?_
  refine wp_cond_false (ev_tmp h11) ?_
  refine wp_exit ?_
  change Code.wp _ _ _ _ _
  refine wp_seq ?_
  refine wp_seq ?_
  refine wp_region (show wpOps _ _ _ [0, 1] _ _ from ?_)
  refine opL 0 23 (v := .string ⟨((Lib.join L [44])).toArray⟩) (w' := w) (by kernel_rfl) (frZ hs) ?_ ?_
  · exact frY rfl (k_move rfl (ev_tmp h5))
  refine frN4 hs hd h0 h5 h9 h10 ?_; clear hs hd h0 h5 h9 h10 h11; intro a hs hd h0 h5 h9 h10 h23
  refine opL 1 24 (v := .bool false) (w' := w) (by kernel_rfl) (frZ hs) ?_ ?_
  · exact frY rfl (o_eqStr rfl (ev_tmp h23) rfl (by rw [list_of_ba]; exact hje))
  clear h23; revert hs hd h0 h5 h9 h10; refine frM4 ?_; intro a hs hd h0 h5 h9 h10 h24
  refine wp_cond_false (ev_tmp h24) ?_
  refine wp_skip ?_
  refine wp_seq ?_
  refine wp_region (show wpOps _ _ _ [0, 1, 2, 3, 4, 5] _ _ from ?_)
  refine opL 0 25 (v := .string ⟨(n).toArray⟩) (w' := w) (by kernel_rfl) (frZ hs) ?_ ?_
  · exact frY rfl (k_move rfl (ev_tmp h0))
  revert hs hd h0 h5 h9 h10 h24; refine frM5 ?_; intro a hs hd h0 h5 h9 h10 h24 h25
  refine opL 1 26 (v := .string ⟨(59 :: n).toArray⟩) (w' := w) (by kernel_rfl) (frZ hs) ?_ ?_
  · exact frY rfl (o_addStr rfl rfl (ev_tmp h25) hz1 (ba_append [59] _))
  clear h25; revert hs hd h0 h5 h9 h10 h24; refine frM5 ?_; intro a hs hd h0 h5 h9 h10 h24 h26
  refine opL 2 27 (v := .string ⟨(59 :: n ++ [61]).toArray⟩) (w' := w) (by kernel_rfl) (frZ hs) ?_ ?_
  · exact frY rfl (o_addStr rfl (ev_tmp h26) rfl hz2 (ba_append _ [61]))
  clear h26; revert hs hd h0 h5 h9 h10 h24; refine frM5 ?_; intro a hs hd h0 h5 h9 h10 h24 h27
  refine opL 3 28 (v := .string ⟨((Lib.join L [44])).toArray⟩) (w' := w) (by kernel_rfl) (frZ hs) ?_ ?_
  · exact frY rfl (k_move rfl (ev_tmp h5))
  revert hs hd h0 h5 h9 h10 h24 h27; refine frM6 ?_; intro a hs hd h0 h5 h9 h10 h24 h27 h28
  refine opL 4 29 (v := .string ⟨((Rfc.ptn n (Lib.join L [44]))).toArray⟩) (w' := w) (by kernel_rfl) (frZ hs) ?_ ?_
  · exact frY rfl (o_addStr rfl (ev_tmp h27) (ev_tmp h28) hz3 (by rw [ba_append, eR]))
  clear h27 h28; revert hs hd h0 h5 h9 h10 h24; refine frM5 ?_; intro a hs hd h0 h5 h9 h10 h24 h29
  refine opL 5 4 (v := .string ⟨((Rfc.ptn n (Lib.join L [44]))).toArray⟩) (w' := w) (by kernel_rfl) (frZ hs) ?_ ?_
  · exact frY rfl (k_assign rfl (ev_tmp h29))
  clear h29; revert hs hd h0 h5 h9 h10 h24; refine frM5 ?_; intro a hs hd h0 h5 h9 h10 h24 h4
  refine wp_ret ?_
  exact hfin a _ _ hd h4 (by first | rfl | (rw [eR]; rfl) | rw [eR]) (Below.refl _ _)


/-- a part's text -/
theorem lpart_any (n : List UInt8) (base : Nat) (v0 : Value) (L : List (List UInt8)) (w : World) (hn : n.length ≤ 20) (hl : L.length ≤ 1000) (hx : ∀ x ∈ L, x.length ≤ 40 ∧ x ≠ []) (hO : OwnS w base v0 L) :
    Calls Tryz.prog 31 #[.string ⟨(n).toArray⟩, v0] w fun e w' => ∃ v, e = .returned v ∧ v = .string ⟨((Rfc.ptn n (Lib.join L [44]))).toArray⟩ ∧ Below w.heap.size w w' := by
  obtain ⟨A, c, rfl⟩ := hO.form
  by_cases h : L = []
  · exact lpart_none n A c L w h
  · obtain ⟨g, hA, -, -, hc⟩ := hO.some h
    exact lpart_some n A c L w hn hl (fun x hx' => (hx x hx').1) ⟨g, hA, hc⟩ (Rfc.join_ne h (fun x hx' => (hx x hx').2))
end Go.Proofs.YtocpmljkmdpfkaaGreatDoor
/-
  The law's own Print: a rule's text.
-/
namespace Go.Proofs.YtocpmljkmdpfkaaGreatDoor
open Go.RowKit
namespace Rfc
def pts : Nat → List (List UInt8) → List UInt8
  | _, [] => []
  | k, v :: r => ptn (nm k) v ++ pts (k + 1) r
theorem tail_parts : ∀ (l : List (List UInt8)) (k : Nat), Lib.joinTail [59] (parts k l) = pts k l
  | [], _ => rfl
  | v :: l, k => by
    have ih := tail_parts l (k + 1)
    unfold parts pts ptn
    split
    · rw [ih]; rfl
    · rw [← ih]
      simp [Lib.joinTail]
theorem text_ptn (f iv c : Int) (t : List UInt8) (M D : List Int) (K : List (Int × Int)) (P : List Int) : text f iv c t M D K P = ((((((((Rfc.nm 0 ++ 61 :: Rfc.fq f.toNat) ++ Rfc.ptn (Rfc.nm 1) (Rfc.num iv 1)) ++ Rfc.ptn (Rfc.nm 2) (Rfc.num c 0)) ++ Rfc.ptn (Rfc.nm 3) (t)) ++ Rfc.ptn (Rfc.nm 4) (Rfc.nums M)) ++ Rfc.ptn (Rfc.nm 5) (Rfc.nums D)) ++ Rfc.ptn (Rfc.nm 6) (Rfc.days K)) ++ Rfc.ptn (Rfc.nm 7) (Rfc.nums P)) := by
  unfold text vals
  rw [parts, if_neg (fq_ne _), Lib.join_cons, tail_parts]
  simp [pts, List.append_assoc]
theorem ptn_len (n v : List UInt8) : (ptn n v).length ≤ n.length + v.length + 2 := by
  unfold ptn
  split
  · simp
  · simp; omega
theorem nm_len (k : Nat) : (nm k).length ≤ 10 := by unfold nm; split <;> decide
theorem dd_step (u : Nat) (h : 10 ≤ u) : Lib.decDigits u = Lib.decDigits (u / 10) ++ [UInt8.ofNat (48 + u % 10)] := by
  rw [Lib.decDigits, dif_neg (by omega)]
theorem dd_one (u : Nat) (h : u < 10) : Lib.decDigits u = [UInt8.ofNat (48 + u)] := by
  rw [Lib.decDigits, dif_pos h]
theorem dig_nat (k : Nat) (n : Int) (h : (k : Int) % 10 = n % 10) : UInt8.ofNat (48 + k % 10) = dig n := by
  apply UInt8.toNat_inj.1
  have := dig_toNat n
  rw [UInt8.toNat_ofNat']
  omega
/-- a date's eight digits, a one ahead -/
theorem itoa_date (y m d : Int) (hy : 1 ≤ y ∧ y ≤ 9999) (hm : 1 ≤ m ∧ m ≤ 12) (hd : 1 ≤ d ∧ d ≤ 31) : Lib.itoa (100000000 + 10000 * y + 100 * m + d) = 49 :: date y m d := by
  obtain ⟨Y, rfl⟩ := Int.eq_ofNat_of_zero_le (show 0 ≤ y by omega)
  obtain ⟨A, rfl⟩ := Int.eq_ofNat_of_zero_le (show 0 ≤ m by omega)
  obtain ⟨B, rfl⟩ := Int.eq_ofNat_of_zero_le (show 0 ≤ d by omega)
  have hN : ∃ N : Nat, N = 100000000 + 10000 * Y + 100 * A + B := ⟨_, rfl⟩
  obtain ⟨N, hN⟩ := hN
  have e : (100000000 + 10000 * (Y : Int) + 100 * (A : Int) + (B : Int)) = (N : Int) := by omega
  rw [e]
  unfold Lib.itoa
  rw [if_neg (by omega), Int.toNat_natCast]
  have q1 : N / 10 = 10000000 + 1000 * Y + 10 * A + B / 10 := by omega
  have q2 : N / 10 / 10 = 1000000 + 100 * Y + A := by omega
  have q3 : N / 10 / 10 / 10 = 100000 + 10 * Y + A / 10 := by omega
  have q4 : N / 10 / 10 / 10 / 10 = 10000 + Y := by omega
  have q5 : N / 10 / 10 / 10 / 10 / 10 = 1000 + Y / 10 := by omega
  have q6 : N / 10 / 10 / 10 / 10 / 10 / 10 = 100 + Y / 100 := by omega
  have q7 : N / 10 / 10 / 10 / 10 / 10 / 10 / 10 = 10 + Y / 1000 := by omega
  have q8 : N / 10 / 10 / 10 / 10 / 10 / 10 / 10 / 10 = 1 := by omega
  rw [dd_step N (by omega), dd_step (N / 10) (by omega), dd_step (N / 10 / 10) (by omega), dd_step (N / 10 / 10 / 10) (by omega), dd_step (N / 10 / 10 / 10 / 10) (by omega), dd_step (N / 10 / 10 / 10 / 10 / 10) (by omega),
    dd_step (N / 10 / 10 / 10 / 10 / 10 / 10) (by omega), dd_step (N / 10 / 10 / 10 / 10 / 10 / 10 / 10) (by omega), q8, dd_one 1 (by omega)]
  rw [dig_nat (N / 10 / 10 / 10 / 10 / 10 / 10 / 10) ((Y : Int) / 1000) (by omega), dig_nat (N / 10 / 10 / 10 / 10 / 10 / 10) ((Y : Int) / 100) (by omega), dig_nat (N / 10 / 10 / 10 / 10 / 10) ((Y : Int) / 10) (by omega), dig_nat (N / 10 / 10 / 10 / 10) (Y : Int) (by omega),
    dig_nat (N / 10 / 10 / 10) ((A : Int) / 10) (by omega), dig_nat (N / 10 / 10) (A : Int) (by omega), dig_nat (N / 10) ((B : Int) / 10) (by omega), dig_nat N (B : Int) (by omega)]
  rfl
end Rfc
/-- what the package-level variables hold, the law's own among them -/
structure Tabs3 (w : World) : Prop where
  t : Tabs w
  lf : ∃ A c, w.cell? ⟨1, 0, none⟩ = some (.slice (some A) 4 c) ∧ ∀ i, i < 4 → w.cell? (A.add i) = some (.string ⟨(Rfc.fq i).toArray⟩)
  lw : ∃ A c, w.cell? ⟨2, 0, none⟩ = some (.slice (some A) 7 c) ∧ ∀ i, i < 7 → w.cell? (A.add i) = some (.string ⟨(Rfc.wd i).toArray⟩)
theorem Tabs3.below {w w' : World} (h : Tabs3 w) (b : Below w.heap.size w w') : Tabs3 w' where
  t := h.t.below b
  lf := by obtain ⟨A, c, h1, h2⟩ := h.lf; exact ⟨A, c, cell_stays h1 b, fun i hi => cell_stays (h2 i hi) b⟩
  lw := by obtain ⟨A, c, h1, h2⟩ := h.lw; exact ⟨A, c, cell_stays h1 b, fun i hi => cell_stays (h2 i hi) b⟩
section
variable {w : World} {ρ : Operand → Value} {o : Oper} {x y : Operand} {k c i n : Nat} {A : Option Addr} {ad : Addr} {v : Value} {b : ByteArray}
theorem k_loadSS (ho : o.op = .load 45 x) (hx : ρ x = .pointer (some ad)) (hc : w.cell? ad = some (.slice A n c)) : (execOp ρ o).run Tryz.prog w = .ok (.value (.slice A n c)) w := by
  simp only [execOp, ho, hx]
  go_simp
theorem k_atSA (ho : o.op = .indexAddr 45 x y) (hx : ρ x = .slice (some ad) k c) (hy : ρ y = .int .i64 i) (hi : i < k) : (execOp ρ o).run Tryz.prog w = .ok (.value (.pointer (some (ad.add i)))) w := by
  simp only [execOp, ho]
  go_simp
theorem k_sl1 (ho : o.op = .slice 9 x (some (.const (.int .i64 1))) none none) (hx : ρ x = .string b) (hc : ρ (.const (.int .i64 1)) = .int .i64 1) (hb : b.size = 9) : (execOp ρ o).run Tryz.prog w = .ok (.value (.string (b.extract 1 b.size))) w := by
  simp only [execOp, ho, hx]
  go_simp
end
theorem c_lDate {w : World} {ρ : Operand → Value} {o : Oper} {x : Operand} {v : Value} (ho : o.op = .call ⟨.value (.func 33), #[x], #[32]⟩) (hf : ρ (.func 33) = .func (.func 33) #[] #[]) (hx : ρ x = v) : (execOp ρ o).run Tryz.prog w = .ok (.enter 33 #[v]) w := by
  simp only [execOp, ho]
  go_simp
theorem ints_one {w : World} {b : Nat} {n : Int} (h : Blk w b 3 #[.int .i64 n]) : IntsIn w (some ⟨b, 0, none⟩) [n] := fun k hk => by
  obtain rfl : k = 0 := by simpa using hk
  refine ⟨⟨b, 0, none⟩, rfl, h.lt, ?_⟩
  rw [addr_lit]
  exact h.cell 0
theorem lawDate_any' (n y m d : Int) (w : World) (h : Cal.Is n y m d) : Calls Tryz.prog 33 #[.int .i64 n] w fun e w' => ∃ v, e = .returned v ∧ v = .tuple #[.int .i64 y, .int .i64 m, .int .i64 d] ∧ Below w.heap.size w w' :=
  (lawDate_yes n y m d w h).mono fun _ _ h => ⟨_, h.1, rfl, h.2⟩
noncomputable def lprBody : Code := Tryz.f12.body.getD .skip
noncomputable def lprRound : Code := (Tryz.f12.body.bind loopOf).getD .skip
/-- on the way -/
structure PrS (w0 : World) (rb : Nat) (cs : Array Value) (o : List UInt8) (a : Act) (w : World) : Prop where
  hd : a.defers = []
  hs : a.tmps.size = 106
  h1 : a.tmps.getD 1 undef = .pointer (some ⟨rb, 0, none⟩)
  h3 : a.tmps.getD 3 undef = .string ⟨(o).toArray⟩
  Br : Blk w rb 36 cs
  b : Below w0.heap.size w0 w
structure LpDy (w0 : World) (rb base : Nat) (f iv c u : Int) (t : List UInt8) (AM AD AW AP : Option Addr) (cM cD cW cP : Nat) (M D : List Int) (K : List (Int × Int)) (P : List Int) (i : Nat) (A' : Option Addr) (cap : Nat) (a : Act) (w : World) : Prop where
  d : a.defers = []
  z : a.tmps.size = 106
  s1 : a.tmps.getD 1 undef = .pointer (some ⟨rb, 0, none⟩)
  s3 : a.tmps.getD 3 undef = .string ⟨(((((Rfc.nm 0 ++ 61 :: Rfc.fq f.toNat) ++ Rfc.ptn (Rfc.nm 1) (Rfc.num iv 1)) ++ Rfc.ptn (Rfc.nm 2) (Rfc.num c 0)) ++ Rfc.ptn (Rfc.nm 3) (t))).toArray⟩
  s8 : a.tmps.getD 8 undef = .slice A' ((K.take i).map Rfc.day).length cap
  s63 : a.tmps.getD 63 undef = .slice AW K.length cW
  s64 : a.tmps.getD 64 undef = .int .i64 K.length
  s65 : a.tmps.getD 65 undef = .int .i64 i
  iN : i ≤ K.length
  o : OwnS w base (.slice A' ((K.take i).map Rfc.day).length cap) ((K.take i).map Rfc.day)
  Br : Blk w rb 36 #[.int .i64 f, .int .i64 iv, .int .i64 c, .int .i64 u, .slice AM M.length cM, .slice AD D.length cD, .slice AW K.length cW, .slice AP P.length cP]
  bs : rb < base ∧ base ≤ w.heap.size ∧ w0.heap.size ≤ rb
  b : Below w0.heap.size w0 w

set_option maxRecDepth 100000 in
set_option maxHeartbeats 1000000 in
theorem lpr_bare (w0 : World) (rb base : Nat) (f iv c u : Int) (t : List UInt8) (AM AD AW AP : Option Addr) (cM cD cW cP : Nat) (M D : List Int) (K : List (Int × Int)) (P : List Int) (hT : Tabs3 w0) (hL0 : NthsIn w0 AW K) (hl : K.length ≤ 1000) (hx : ∀ x ∈ K, (-9223372036854775808 ≤ x.1 ∧ x.1 ≤ 9223372036854775807) ∧ (0 ≤ x.2 ∧ x.2 ≤ 6)) (i : Nat) (A' : Option Addr) (cap : Nat) (a : Act) (w : World) (Q : Exit → Act → World → Prop) (J : LpDy w0 rb base f iv c u t AM AD AW AP cM cD cW cP M D K P i A' cap a w) (hlt : i < K.length) (hne : (K[i].1 != 0) = false) :
    lprRound.wp Tryz.prog (Exit.then (fun a' w' => (∃ i A' cap, LpDy w0 rb base f iv c u t AM AD AW AP cM cD cW cP M D K P i A' cap a' w') ∧ (K.length - intOf (a'.tmps.getD 65 undef)).toNat < (K.length - intOf (a.tmps.getD 65 undef)).toNat) Q) a w := by
  obtain ⟨hd, hs, h1, h3, h8, h63, h64, h65, hi, hO, Br, bs, hb⟩ := J
  have hL := hL0.below hb
  obtain ⟨ad, hA, -, hc1, hc2⟩ := hL i hlt
  subst hA
  have hxi := hx K[i] (List.getElem_mem hlt)
  have eN : ((K.take (i + 1)).map Rfc.day) = ((K.take i).map Rfc.day) ++ [Rfc.day K[i]] := by rw [List.take_succ_eq_append_getElem hlt, List.map_append]; rfl
  have eD : Rfc.day K[i] = Rfc.wd K[i].2.toNat := by
    have h0 : K[i].1 = 0 := by simpa using hne
    unfold Rfc.day Rfc.num
    rw [if_pos h0]
    rfl
  have e65 := h65
  rw [e65]
  clear e65
  unfold lprRound
  conv => arg 2; whnf
  refine wp_seq ?_
  refine wp_region (show wpOps _ _ _ [0] _ _ from ?_)
  refine opL 0 66 (v := .bool true) (w' := w) (by kernel_rfl) (frZ hs) ?_ ?_
  · exact frY rfl (o_ltI rfl (ev_tmp h65) (ev_tmp h64) (decide_eq_true (by omega)))
  refine frN6 hs hd h1 h3 h8 h63 h64 h65 ?_; clear hs hd h1 h3 h8 h63 h64 h65; intro a hs hd h1 h3 h8 h63 h64 h65 h66
  refine wp_seq ?_
  refine wp_cond_true (ev_tmp h66) ?_
  clear h66
  refine wp_skip ?_
  refine wp_seq ?_
  refine wp_block ?_
  refine wp_seq ?_
  refine wp_region (show wpOps _ _ _ [0, 1, 2, 3] _ _ from ?_)
  refine opL 0 67 (v := .pointer (some (ad.add (i * 2)))) (w' := w) (by kernel_rfl) (frZ hs) ?_ ?_
  · exact frY rfl (k_atN rfl (ev_tmp h63) (ev_tmp h65) hlt)
  revert hs hd h1 h3 h8 h63 h64 h65; refine frM6 ?_; intro a hs hd h1 h3 h8 h63 h64 h65 h67
  refine opL 1 68 (v := .agg #[.int .i64 K[i].1, .int .i64 K[i].2]) (w' := w) (by kernel_rfl) (frZ hs) ?_ ?_
  · exact frY rfl (k_loadN2 rfl (ev_tmp h67) hc1 hc2)
  clear h67; revert hs hd h1 h3 h8 h63 h64 h65; refine frM6 ?_; intro a hs hd h1 h3 h8 h63 h64 h65 h68
  refine opL 2 10 (v := .pointer (some ⟨w.heap.size, 0, none⟩)) (w' := (w.alloc (.cells #[.int .i64 0, .int .i64 0] 55))) (by kernel_rfl) (frZ hs) ?_ ?_
  · exact frY rfl (k_allocN rfl)
  revert hs hd h1 h3 h8 h63 h64 h65 h68; refine frM7 ?_; intro a hs hd h1 h3 h8 h63 h64 h65 h68 h10
  obtain ⟨wa, hwa⟩ : ∃ wn, wn = w.alloc (.cells #[.int .i64 0, .int .i64 0] 55) := ⟨_, rfl⟩
  rw [← hwa]
  have qa : Blk wa w.heap.size 55 #[.int .i64 0, .int .i64 0] := by rw [hwa]; exact Blk.alloc _ _ _
  have la : Below w.heap.size w wa := by rw [hwa]; exact (Below.refl _ _).alloc (Nat.le_refl _) _
  clear hwa
  refine opL_store 3 (w' := (wa.setRow w.heap.size #[.int .i64 K[i].1, .int .i64 K[i].2])) (by kernel_rfl) ?_ ?_
  · exact frY rfl (k_storeS2 rfl (ev_tmp h10) (ev_tmp h68) qa (by kernel_rfl) rfl rfl (by simp [Value.oneCell']))
  clear h68
  obtain ⟨wb, hwb⟩ : ∃ wn, wn = wa.setRow w.heap.size #[.int .i64 K[i].1, .int .i64 K[i].2] := ⟨_, rfl⟩
  rw [← hwb]
  have qb : Blk wb w.heap.size 55 #[.int .i64 K[i].1, .int .i64 K[i].2] := by rw [hwb]; exact qa.setRow
  have lb : Below w.heap.size w wb := by rw [hwb]; exact la.trans ((exc_setRow wa w.heap.size #[.int .i64 K[i].1, .int .i64 K[i].2] w.heap.size).below (Nat.le_refl _))
  clear hwb qa la
  replace hO := hO.below lb
  replace Br := Br.below lb Br.lt
  replace hb := hb.trans (lb.mono hb.size)
  have zb : base ≤ wb.heap.size := Nat.le_trans bs.2.1 lb.size
  obtain ⟨At, ct, hg, htab⟩ := (hT.below hb).lw
  refine wp_seq ?_
  refine wp_region (show wpOps _ _ _ [0, 1, 2, 3, 4, 5] _ _ from ?_)
  refine opL 0 69 (v := .slice (some At) 7 ct) (w' := wb) (by kernel_rfl) (frZ hs) ?_ ?_
  · exact frY rfl (k_loadSS rfl rfl hg)
  refine frN7 hs hd h1 h3 h8 h63 h64 h65 h10 ?_; clear hs hd h1 h3 h8 h63 h64 h65 h10; intro a hs hd h1 h3 h8 h63 h64 h65 h10 h69
  refine opL 1 70 (v := .pointer (some ⟨w.heap.size, 1, none⟩)) (w' := wb) (by kernel_rfl) (frZ hs) ?_ ?_
  · exact frY rfl (k_fieldNth1 rfl (ev_tmp h10))
  revert hs hd h1 h3 h8 h63 h64 h65 h10 h69; refine frM8 ?_; intro a hs hd h1 h3 h8 h63 h64 h65 h10 h69 h70
  refine opL 2 71 (v := .int .i64 K[i].2) (w' := wb) (by kernel_rfl) (frZ hs) ?_ ?_
  · exact frY rfl (k_loadI rfl (ev_tmp h70) (qb.cell 1))
  clear h70; revert hs hd h1 h3 h8 h63 h64 h65 h10 h69; refine frM8 ?_; intro a hs hd h1 h3 h8 h63 h64 h65 h10 h69 h71
  refine opL 3 72 (v := .pointer (some (At.add K[i].2.toNat))) (w' := wb) (by kernel_rfl) (frZ hs) ?_ ?_
  · exact frY rfl (k_atSA rfl (ev_tmp h69) (ev_tmp (h71.trans (by rw [Int.toNat_of_nonneg hxi.2.1]))) (by omega))
  clear h69 h71; revert hs hd h1 h3 h8 h63 h64 h65 h10; refine frM7 ?_; intro a hs hd h1 h3 h8 h63 h64 h65 h10 h72
  refine opL 4 73 (v := .string ⟨(Rfc.wd K[i].2.toNat).toArray⟩) (w' := wb) (by kernel_rfl) (frZ hs) ?_ ?_
  · exact frY rfl (k_loadStr rfl (ev_tmp h72) (htab _ (by omega)))
  clear h72; revert hs hd h1 h3 h8 h63 h64 h65 h10; refine frM7 ?_; intro a hs hd h1 h3 h8 h63 h64 h65 h10 h73
  refine opL 5 11 (v := .string ⟨(Rfc.wd K[i].2.toNat).toArray⟩) (w' := wb) (by kernel_rfl) (frZ hs) ?_ ?_
  · exact frY rfl (k_assign rfl (ev_tmp h73))
  clear h73; revert hs hd h1 h3 h8 h63 h64 h65 h10; refine frM7 ?_; intro a hs hd h1 h3 h8 h63 h64 h65 h10 h11
  refine wp_seq ?_
  refine wp_seq ?_
  refine wp_region (show wpOps _ _ _ [0, 1, 2] _ _ from ?_)
  refine opL 0 74 (v := .pointer (some ⟨w.heap.size, 0, none⟩)) (w' := wb) (by kernel_rfl) (frZ hs) ?_ ?_
  · exact frY rfl (k_fieldNth0 rfl (ev_tmp h10))
  revert hs hd h1 h3 h8 h63 h64 h65 h10 h11; refine frM8 ?_; intro a hs hd h1 h3 h8 h63 h64 h65 h10 h11 h74
  refine opL 1 75 (v := .int .i64 K[i].1) (w' := wb) (by kernel_rfl) (frZ hs) ?_ ?_
  · exact frY rfl (k_loadI rfl (ev_tmp h74) (qb.cell 0))
  clear h74; revert hs hd h1 h3 h8 h63 h64 h65 h10 h11; refine frM8 ?_; intro a hs hd h1 h3 h8 h63 h64 h65 h10 h11 h75
  refine opL 2 76 (v := .bool false) (w' := wb) (by kernel_rfl) (frZ hs) ?_ ?_
  · exact frY rfl (o_neI rfl (ev_tmp h75) rfl hne)
  clear h75; revert hs hd h1 h3 h8 h63 h64 h65 h10 h11; refine frM8 ?_; intro a hs hd h1 h3 h8 h63 h64 h65 h10 h11 h76
  refine wp_cond_false (ev_tmp h76) ?_
  clear h76
  refine wp_skip ?_
  refine wp_region (show wpOps _ _ _ [0, 1, 2, 3, 4] _ _ from ?_)
  refine opL 0 82 (v := .slice A' ((K.take i).map Rfc.day).length cap) (w' := wb) (by kernel_rfl) (frZ hs) ?_ ?_
  · exact frY rfl (k_move rfl (ev_tmp h8))
  revert hs hd h1 h3 h8 h63 h64 h65 h10 h11; refine frM8 ?_; intro a hs hd h1 h3 h8 h63 h64 h65 h10 h11 h82
  refine opL 1 83 (v := .string ⟨(Rfc.wd K[i].2.toNat).toArray⟩) (w' := wb) (by kernel_rfl) (frZ hs) ?_ ?_
  · exact frY rfl (k_move rfl (ev_tmp h11))
  revert hs hd h1 h3 h8 h63 h64 h65 h10 h11 h82; refine frM9 ?_; intro a hs hd h1 h3 h8 h63 h64 h65 h10 h11 h82 h83
  refine opL 2 84 (v := .slice (some ⟨wb.heap.size, 0, none⟩) 1 1) (w' := (wb.alloc (.cells #[.string ⟨(Rfc.day K[i]).toArray⟩] 9))) (by kernel_rfl) (frZ hs) ?_ ?_
  · exact frY rfl (k_sliceS rfl (ev_tmp (h83.trans (by rw [eD]))))
  clear h83; revert hs hd h1 h3 h8 h63 h64 h65 h10 h11 h82; refine frM9 ?_; intro a hs hd h1 h3 h8 h63 h64 h65 h10 h11 h82 h84
  obtain ⟨w3, hw3⟩ : ∃ wn, wn = wb.alloc (.cells #[.string ⟨(Rfc.day K[i]).toArray⟩] 9) := ⟨_, rfl⟩
  rw [← hw3]
  have q3 : Blk w3 wb.heap.size 9 #[.string ⟨(Rfc.day K[i]).toArray⟩] := by rw [hw3]; exact Blk.alloc _ _ _
  have l3 : Below wb.heap.size wb w3 := by rw [hw3]; exact (Below.refl _ _).alloc (Nat.le_refl _) _
  clear hw3
  replace hO := hO.below l3
  replace Br := Br.below l3 Br.lt
  replace hb := hb.trans (l3.mono hb.size)
  have z3 : base ≤ w3.heap.size := Nat.le_trans zb l3.size
  obtain ⟨v', w4, hr, hO4, b4, z4⟩ := append_str (c := 1) hO (q3.cell 0) (by simp; omega) z3
  rw [← eN] at hO4
  obtain ⟨B', cap', rfl⟩ := hO4.form
  refine opL 3 85 (v := .slice B' ((K.take (i + 1)).map Rfc.day).length cap') (w' := w4) (by kernel_rfl) (frZ hs) ?_ ?_
  · exact frY rfl (k_append rfl rfl (ev_tmp h82) (ev_tmp h84) hr)
  refine frN8 hs hd h1 h3 h8 h63 h64 h65 h10 h11 ?_; clear hs hd h1 h3 h8 h63 h64 h65 h10 h11 h82 h84; intro a hs hd h1 h3 h8 h63 h64 h65 h10 h11 h85
  have hb4 := hb.trans (b4.mono (by omega))
  have Br4 := Br.below b4 bs.1
  refine opL 4 8 (v := .slice B' ((K.take (i + 1)).map Rfc.day).length cap') (w' := w4) (by kernel_rfl) (frZ hs) ?_ ?_
  · exact frY rfl (k_assign rfl (ev_tmp h85))
  refine frN7 hs hd h1 h3 h63 h64 h65 h10 h11 ?_; clear hs hd h1 h3 h63 h64 h65 h10 h11 h8 h85; intro a hs hd h1 h3 h63 h64 h65 h10 h11 h8
  refine wp_region (show wpOps _ _ _ [0, 1] _ _ from ?_)
  refine opL 0 86 (v := .int .i64 (i + 1 : Nat)) (w' := w4) (by kernel_rfl) (frZ hs) ?_ ?_
  · exact frY rfl (o_addI rfl (ev_tmp h65) rfl (wrap_small (n := (i : Int) + 1) (by omega) (by omega)))
  revert hs hd h1 h3 h63 h64 h65 h10 h11 h8; refine frM8 ?_; intro a hs hd h1 h3 h63 h64 h65 h10 h11 h8 h86
  refine opL 1 65 (v := .int .i64 (i + 1 : Nat)) (w' := w4) (by kernel_rfl) (frZ hs) ?_ ?_
  · exact frY rfl (k_move rfl (ev_tmp h86))
  clear h65 h86; revert hs hd h1 h3 h63 h64 h10 h11 h8; refine frM7 ?_; intro a hs hd h1 h3 h63 h64 h10 h11 h8 h65
  refine ⟨⟨i + 1, B', cap', hd, hs, h1, h3, h8, h63, h64, h65, hlt, hO4, Br4, ⟨bs.1, by omega, bs.2.2⟩, hb4⟩, ?_⟩
  rw [h65]
  simp only [intOf]
  omega

set_option maxRecDepth 100000 in
set_option maxHeartbeats 1000000 in
theorem lpr_nth (w0 : World) (rb base : Nat) (f iv c u : Int) (t : List UInt8) (AM AD AW AP : Option Addr) (cM cD cW cP : Nat) (M D : List Int) (K : List (Int × Int)) (P : List Int) (hT : Tabs3 w0) (hL0 : NthsIn w0 AW K) (hl : K.length ≤ 1000) (hx : ∀ x ∈ K, (-9223372036854775808 ≤ x.1 ∧ x.1 ≤ 9223372036854775807) ∧ (0 ≤ x.2 ∧ x.2 ≤ 6)) (i : Nat) (A' : Option Addr) (cap : Nat) (a : Act) (w : World) (Q : Exit → Act → World → Prop) (J : LpDy w0 rb base f iv c u t AM AD AW AP cM cD cW cP M D K P i A' cap a w) (hlt : i < K.length) (hne : (K[i].1 != 0) = true) :
    lprRound.wp Tryz.prog (Exit.then (fun a' w' => (∃ i A' cap, LpDy w0 rb base f iv c u t AM AD AW AP cM cD cW cP M D K P i A' cap a' w') ∧ (K.length - intOf (a'.tmps.getD 65 undef)).toNat < (K.length - intOf (a.tmps.getD 65 undef)).toNat) Q) a w := by
  obtain ⟨hd, hs, h1, h3, h8, h63, h64, h65, hi, hO, Br, bs, hb⟩ := J
  have hL := hL0.below hb
  obtain ⟨ad, hA, -, hc1, hc2⟩ := hL i hlt
  subst hA
  have hxi := hx K[i] (List.getElem_mem hlt)
  have eN : ((K.take (i + 1)).map Rfc.day) = ((K.take i).map Rfc.day) ++ [Rfc.day K[i]] := by rw [List.take_succ_eq_append_getElem hlt, List.map_append]; rfl
  have eD : Lib.itoa K[i].1 ++ Rfc.wd K[i].2.toNat = Rfc.day K[i] := by
    have h0 : ¬ K[i].1 = 0 := by simpa using hne
    unfold Rfc.day Rfc.num
    rw [if_neg h0]
  have hsz : (⟨(Lib.itoa K[i].1).toArray⟩ : ByteArray).size + (⟨(Rfc.wd K[i].2.toNat).toArray⟩ : ByteArray).size ≤ 1000000 := by
    have := Lib.itoa_length_le K[i].1 hxi.1.1 hxi.1.2
    rw [ba_len, ba_len, Rfc.wd_len]
    omega
  have e65 := h65
  rw [e65]
  clear e65
  unfold lprRound
  conv => arg 2; whnf
  refine wp_seq ?_
  refine wp_region (show wpOps _ _ _ [0] _ _ from ?_)
  refine opL 0 66 (v := .bool true) (w' := w) (by kernel_rfl) (frZ hs) ?_ ?_
  · exact frY rfl (o_ltI rfl (ev_tmp h65) (ev_tmp h64) (decide_eq_true (by omega)))
  refine frN6 hs hd h1 h3 h8 h63 h64 h65 ?_; clear hs hd h1 h3 h8 h63 h64 h65; intro a hs hd h1 h3 h8 h63 h64 h65 h66
  refine wp_seq ?_
  refine wp_cond_true (ev_tmp h66) ?_
  clear h66
  refine wp_skip ?_
  refine wp_seq ?_
  refine wp_block ?_
  refine wp_seq ?_
  refine wp_region (show wpOps _ _ _ [0, 1, 2, 3] _ _ from ?_)
  refine opL 0 67 (v := .pointer (some (ad.add (i * 2)))) (w' := w) (by kernel_rfl) (frZ hs) ?_ ?_
  · exact frY rfl (k_atN rfl (ev_tmp h63) (ev_tmp h65) hlt)
  revert hs hd h1 h3 h8 h63 h64 h65; refine frM6 ?_; intro a hs hd h1 h3 h8 h63 h64 h65 h67
  refine opL 1 68 (v := .agg #[.int .i64 K[i].1, .int .i64 K[i].2]) (w' := w) (by kernel_rfl) (frZ hs) ?_ ?_
  · exact frY rfl (k_loadN2 rfl (ev_tmp h67) hc1 hc2)
  clear h67; revert hs hd h1 h3 h8 h63 h64 h65; refine frM6 ?_; intro a hs hd h1 h3 h8 h63 h64 h65 h68
  refine opL 2 10 (v := .pointer (some ⟨w.heap.size, 0, none⟩)) (w' := (w.alloc (.cells #[.int .i64 0, .int .i64 0] 55))) (by kernel_rfl) (frZ hs) ?_ ?_
  · exact frY rfl (k_allocN rfl)
  revert hs hd h1 h3 h8 h63 h64 h65 h68; refine frM7 ?_; intro a hs hd h1 h3 h8 h63 h64 h65 h68 h10
  obtain ⟨wa, hwa⟩ : ∃ wn, wn = w.alloc (.cells #[.int .i64 0, .int .i64 0] 55) := ⟨_, rfl⟩
  rw [← hwa]
  have qa : Blk wa w.heap.size 55 #[.int .i64 0, .int .i64 0] := by rw [hwa]; exact Blk.alloc _ _ _
  have la : Below w.heap.size w wa := by rw [hwa]; exact (Below.refl _ _).alloc (Nat.le_refl _) _
  clear hwa
  refine opL_store 3 (w' := (wa.setRow w.heap.size #[.int .i64 K[i].1, .int .i64 K[i].2])) (by kernel_rfl) ?_ ?_
  · exact frY rfl (k_storeS2 rfl (ev_tmp h10) (ev_tmp h68) qa (by kernel_rfl) rfl rfl (by simp [Value.oneCell']))
  clear h68
  obtain ⟨wb, hwb⟩ : ∃ wn, wn = wa.setRow w.heap.size #[.int .i64 K[i].1, .int .i64 K[i].2] := ⟨_, rfl⟩
  rw [← hwb]
  have qb : Blk wb w.heap.size 55 #[.int .i64 K[i].1, .int .i64 K[i].2] := by rw [hwb]; exact qa.setRow
  have lb : Below w.heap.size w wb := by rw [hwb]; exact la.trans ((exc_setRow wa w.heap.size #[.int .i64 K[i].1, .int .i64 K[i].2] w.heap.size).below (Nat.le_refl _))
  clear hwb qa la
  replace hO := hO.below lb
  replace Br := Br.below lb Br.lt
  replace hb := hb.trans (lb.mono hb.size)
  have zb : base ≤ wb.heap.size := Nat.le_trans bs.2.1 lb.size
  obtain ⟨At, ct, hg, htab⟩ := (hT.below hb).lw
  refine wp_seq ?_
  refine wp_region (show wpOps _ _ _ [0, 1, 2, 3, 4, 5] _ _ from ?_)
  refine opL 0 69 (v := .slice (some At) 7 ct) (w' := wb) (by kernel_rfl) (frZ hs) ?_ ?_
  · exact frY rfl (k_loadSS rfl rfl hg)
  refine frN7 hs hd h1 h3 h8 h63 h64 h65 h10 ?_; clear hs hd h1 h3 h8 h63 h64 h65 h10; intro a hs hd h1 h3 h8 h63 h64 h65 h10 h69
  refine opL 1 70 (v := .pointer (some ⟨w.heap.size, 1, none⟩)) (w' := wb) (by kernel_rfl) (frZ hs) ?_ ?_
  · exact frY rfl (k_fieldNth1 rfl (ev_tmp h10))
  revert hs hd h1 h3 h8 h63 h64 h65 h10 h69; refine frM8 ?_; intro a hs hd h1 h3 h8 h63 h64 h65 h10 h69 h70
  refine opL 2 71 (v := .int .i64 K[i].2) (w' := wb) (by kernel_rfl) (frZ hs) ?_ ?_
  · exact frY rfl (k_loadI rfl (ev_tmp h70) (qb.cell 1))
  clear h70; revert hs hd h1 h3 h8 h63 h64 h65 h10 h69; refine frM8 ?_; intro a hs hd h1 h3 h8 h63 h64 h65 h10 h69 h71
  refine opL 3 72 (v := .pointer (some (At.add K[i].2.toNat))) (w' := wb) (by kernel_rfl) (frZ hs) ?_ ?_
  · exact frY rfl (k_atSA rfl (ev_tmp h69) (ev_tmp (h71.trans (by rw [Int.toNat_of_nonneg hxi.2.1]))) (by omega))
  clear h69 h71; revert hs hd h1 h3 h8 h63 h64 h65 h10; refine frM7 ?_; intro a hs hd h1 h3 h8 h63 h64 h65 h10 h72
  refine opL 4 73 (v := .string ⟨(Rfc.wd K[i].2.toNat).toArray⟩) (w' := wb) (by kernel_rfl) (frZ hs) ?_ ?_
  · exact frY rfl (k_loadStr rfl (ev_tmp h72) (htab _ (by omega)))
  clear h72; revert hs hd h1 h3 h8 h63 h64 h65 h10; refine frM7 ?_; intro a hs hd h1 h3 h8 h63 h64 h65 h10 h73
  refine opL 5 11 (v := .string ⟨(Rfc.wd K[i].2.toNat).toArray⟩) (w' := wb) (by kernel_rfl) (frZ hs) ?_ ?_
  · exact frY rfl (k_assign rfl (ev_tmp h73))
  clear h73; revert hs hd h1 h3 h8 h63 h64 h65 h10; refine frM7 ?_; intro a hs hd h1 h3 h8 h63 h64 h65 h10 h11
  refine wp_seq ?_
  refine wp_seq ?_
  refine wp_region (show wpOps _ _ _ [0, 1, 2] _ _ from ?_)
  refine opL 0 74 (v := .pointer (some ⟨w.heap.size, 0, none⟩)) (w' := wb) (by kernel_rfl) (frZ hs) ?_ ?_
  · exact frY rfl (k_fieldNth0 rfl (ev_tmp h10))
  revert hs hd h1 h3 h8 h63 h64 h65 h10 h11; refine frM8 ?_; intro a hs hd h1 h3 h8 h63 h64 h65 h10 h11 h74
  refine opL 1 75 (v := .int .i64 K[i].1) (w' := wb) (by kernel_rfl) (frZ hs) ?_ ?_
  · exact frY rfl (k_loadI rfl (ev_tmp h74) (qb.cell 0))
  clear h74; revert hs hd h1 h3 h8 h63 h64 h65 h10 h11; refine frM8 ?_; intro a hs hd h1 h3 h8 h63 h64 h65 h10 h11 h75
  refine opL 2 76 (v := .bool true) (w' := wb) (by kernel_rfl) (frZ hs) ?_ ?_
  · exact frY rfl (o_neI rfl (ev_tmp h75) rfl hne)
  clear h75; revert hs hd h1 h3 h8 h63 h64 h65 h10 h11; refine frM8 ?_; intro a hs hd h1 h3 h8 h63 h64 h65 h10 h11 h76
  refine wp_cond_true (ev_tmp h76) ?_
  clear h76
  refine wp_region (show wpOps _ _ _ [0, 1, 2, 3, 4, 5] _ _ from ?_)
  refine opL 0 77 (v := .pointer (some ⟨w.heap.size, 0, none⟩)) (w' := wb) (by kernel_rfl) (frZ hs) ?_ ?_
  · exact frY rfl (k_fieldNth0 rfl (ev_tmp h10))
  revert hs hd h1 h3 h8 h63 h64 h65 h10 h11; refine frM8 ?_; intro a hs hd h1 h3 h8 h63 h64 h65 h10 h11 h77
  refine opL 1 78 (v := .int .i64 K[i].1) (w' := wb) (by kernel_rfl) (frZ hs) ?_ ?_
  · exact frY rfl (k_loadI rfl (ev_tmp h77) (qb.cell 0))
  clear h77; revert hs hd h1 h3 h8 h63 h64 h65 h10 h11; refine frM8 ?_; intro a hs hd h1 h3 h8 h63 h64 h65 h10 h11 h78
  have hc := itoa_any K[i].1 wb (hT.below hb).t hxi.1
  have hx := fun ops Q rest d a i h1 h2 h3 => opL_call (P := Tryz.prog) (ops := ops) (Q := Q) (a := a) (w := wb) (rest := rest) i d h1 h2 h3 hc
  refine hx _ _ _ 79 _ 2 ?z75a ?z75b ?z75 ?z76
  case z75a => kernel_rfl
  case z75b => (rw [hs]; decide)
  case z75 => exact frY rfl (c_Itoa rfl rfl (ev_tmp h78))
  case z76 =>
  rintro _ w2 a ⟨rfl, l2⟩ F0
  replace hs := F0.z.trans hs
  replace hd := F0.e.trans hd
  replace h1 := (F0.n 1 (by decide)).trans h1
  replace h3 := (F0.n 3 (by decide)).trans h3
  replace h8 := (F0.n 8 (by decide)).trans h8
  replace h63 := (F0.n 63 (by decide)).trans h63
  replace h64 := (F0.n 64 (by decide)).trans h64
  replace h65 := (F0.n 65 (by decide)).trans h65
  replace h10 := (F0.n 10 (by decide)).trans h10
  replace h11 := (F0.n 11 (by decide)).trans h11
  clear h78
  have h79 := F0.s
  clear F0
  clear hx hc
  replace hO := hO.below l2
  replace Br := Br.below l2 Br.lt
  replace hb := hb.trans (l2.mono hb.size)
  have z2 : base ≤ w2.heap.size := Nat.le_trans zb l2.size
  refine opL 3 80 (v := .string ⟨(Rfc.wd K[i].2.toNat).toArray⟩) (w' := w2) (by kernel_rfl) (frZ hs) ?_ ?_
  · exact frY rfl (k_move rfl (ev_tmp h11))
  refine frN9 hs hd h1 h3 h8 h63 h64 h65 h10 h11 h79 ?_; clear hs hd h1 h3 h8 h63 h64 h65 h10 h11 h79; intro a hs hd h1 h3 h8 h63 h64 h65 h10 h11 h79 h80
  refine opL 4 81 (v := .string ⟨(Rfc.day K[i]).toArray⟩) (w' := w2) (by kernel_rfl) (frZ hs) ?_ ?_
  · exact frY rfl (o_addStr rfl (ev_tmp h79) (ev_tmp h80) hsz (by rw [ba_append, eD]))
  clear h79 h80; revert hs hd h1 h3 h8 h63 h64 h65 h10 h11; refine frM8 ?_; intro a hs hd h1 h3 h8 h63 h64 h65 h10 h11 h81
  refine opL 5 11 (v := .string ⟨(Rfc.day K[i]).toArray⟩) (w' := w2) (by kernel_rfl) (frZ hs) ?_ ?_
  · exact frY rfl (k_assign rfl (ev_tmp h81))
  clear h11 h81; revert hs hd h1 h3 h8 h63 h64 h65 h10; refine frM7 ?_; intro a hs hd h1 h3 h8 h63 h64 h65 h10 h11
  refine wp_region (show wpOps _ _ _ [0, 1, 2, 3, 4] _ _ from ?_)
  refine opL 0 82 (v := .slice A' ((K.take i).map Rfc.day).length cap) (w' := w2) (by kernel_rfl) (frZ hs) ?_ ?_
  · exact frY rfl (k_move rfl (ev_tmp h8))
  revert hs hd h1 h3 h8 h63 h64 h65 h10 h11; refine frM8 ?_; intro a hs hd h1 h3 h8 h63 h64 h65 h10 h11 h82
  refine opL 1 83 (v := .string ⟨(Rfc.day K[i]).toArray⟩) (w' := w2) (by kernel_rfl) (frZ hs) ?_ ?_
  · exact frY rfl (k_move rfl (ev_tmp h11))
  revert hs hd h1 h3 h8 h63 h64 h65 h10 h11 h82; refine frM9 ?_; intro a hs hd h1 h3 h8 h63 h64 h65 h10 h11 h82 h83
  refine opL 2 84 (v := .slice (some ⟨w2.heap.size, 0, none⟩) 1 1) (w' := (w2.alloc (.cells #[.string ⟨(Rfc.day K[i]).toArray⟩] 9))) (by kernel_rfl) (frZ hs) ?_ ?_
  · exact frY rfl (k_sliceS rfl (ev_tmp h83))
  clear h83; revert hs hd h1 h3 h8 h63 h64 h65 h10 h11 h82; refine frM9 ?_; intro a hs hd h1 h3 h8 h63 h64 h65 h10 h11 h82 h84
  obtain ⟨w3, hw3⟩ : ∃ wn, wn = w2.alloc (.cells #[.string ⟨(Rfc.day K[i]).toArray⟩] 9) := ⟨_, rfl⟩
  rw [← hw3]
  have q3 : Blk w3 w2.heap.size 9 #[.string ⟨(Rfc.day K[i]).toArray⟩] := by rw [hw3]; exact Blk.alloc _ _ _
  have l3 : Below w2.heap.size w2 w3 := by rw [hw3]; exact (Below.refl _ _).alloc (Nat.le_refl _) _
  clear hw3
  replace hO := hO.below l3
  replace Br := Br.below l3 Br.lt
  replace hb := hb.trans (l3.mono hb.size)
  have z3 : base ≤ w3.heap.size := Nat.le_trans z2 l3.size
  obtain ⟨v', w4, hr, hO4, b4, z4⟩ := append_str (c := 1) hO (q3.cell 0) (by simp; omega) z3
  rw [← eN] at hO4
  obtain ⟨B', cap', rfl⟩ := hO4.form
  refine opL 3 85 (v := .slice B' ((K.take (i + 1)).map Rfc.day).length cap') (w' := w4) (by kernel_rfl) (frZ hs) ?_ ?_
  · exact frY rfl (k_append rfl rfl (ev_tmp h82) (ev_tmp h84) hr)
  refine frN8 hs hd h1 h3 h8 h63 h64 h65 h10 h11 ?_; clear hs hd h1 h3 h8 h63 h64 h65 h10 h11 h82 h84; intro a hs hd h1 h3 h8 h63 h64 h65 h10 h11 h85
  have hb4 := hb.trans (b4.mono (by omega))
  have Br4 := Br.below b4 bs.1
  refine opL 4 8 (v := .slice B' ((K.take (i + 1)).map Rfc.day).length cap') (w' := w4) (by kernel_rfl) (frZ hs) ?_ ?_
  · exact frY rfl (k_assign rfl (ev_tmp h85))
  refine frN7 hs hd h1 h3 h63 h64 h65 h10 h11 ?_; clear hs hd h1 h3 h63 h64 h65 h10 h11 h8 h85; intro a hs hd h1 h3 h63 h64 h65 h10 h11 h8
  refine wp_region (show wpOps _ _ _ [0, 1] _ _ from ?_)
  refine opL 0 86 (v := .int .i64 (i + 1 : Nat)) (w' := w4) (by kernel_rfl) (frZ hs) ?_ ?_
  · exact frY rfl (o_addI rfl (ev_tmp h65) rfl (wrap_small (n := (i : Int) + 1) (by omega) (by omega)))
  revert hs hd h1 h3 h63 h64 h65 h10 h11 h8; refine frM8 ?_; intro a hs hd h1 h3 h63 h64 h65 h10 h11 h8 h86
  refine opL 1 65 (v := .int .i64 (i + 1 : Nat)) (w' := w4) (by kernel_rfl) (frZ hs) ?_ ?_
  · exact frY rfl (k_move rfl (ev_tmp h86))
  clear h65 h86; revert hs hd h1 h3 h63 h64 h10 h11 h8; refine frM7 ?_; intro a hs hd h1 h3 h63 h64 h10 h11 h8 h65
  refine ⟨⟨i + 1, B', cap', hd, hs, h1, h3, h8, h63, h64, h65, hlt, hO4, Br4, ⟨bs.1, by omega, bs.2.2⟩, hb4⟩, ?_⟩
  rw [h65]
  simp only [intOf]
  omega

theorem lpr_len (f iv c u : Int) (t : List UInt8) (M D : List Int) (K : List (Int × Int)) (P : List Int) (hok : Okay f iv c u t M D K P) : (((((((((Rfc.nm 0 ++ 61 :: Rfc.fq f.toNat) ++ Rfc.ptn (Rfc.nm 1) (Rfc.num iv 1)) ++ Rfc.ptn (Rfc.nm 2) (Rfc.num c 0)) ++ Rfc.ptn (Rfc.nm 3) (t)) ++ Rfc.ptn (Rfc.nm 4) (Rfc.nums M)) ++ Rfc.ptn (Rfc.nm 5) (Rfc.nums D)) ++ Rfc.ptn (Rfc.nm 6) (Rfc.days K)) ++ Rfc.ptn (Rfc.nm 7) (Rfc.nums P))).length ≤ 500000 := by
  have hv := vals_len hok
  have p1 := Rfc.ptn_len (Rfc.nm 1) (Rfc.num iv 1); have p2 := Rfc.ptn_len (Rfc.nm 2) (Rfc.num c 0); have p3 := Rfc.ptn_len (Rfc.nm 3) t; have p4 := Rfc.ptn_len (Rfc.nm 4) (Rfc.nums M); have p5 := Rfc.ptn_len (Rfc.nm 5) (Rfc.nums D); have p6 := Rfc.ptn_len (Rfc.nm 6) (Rfc.days K); have p7 := Rfc.ptn_len (Rfc.nm 7) (Rfc.nums P)
  have n0 := Rfc.nm_len 0; have n1 := Rfc.nm_len 1; have n2 := Rfc.nm_len 2; have n3 := Rfc.nm_len 3; have n4 := Rfc.nm_len 4; have n5 := Rfc.nm_len 5; have n6 := Rfc.nm_len 6; have n7 := Rfc.nm_len 7
  have v0 := hv (Rfc.fq f.toNat) (by simp [Rfc.vals]); have v1 := hv (Rfc.num iv 1) (by simp [Rfc.vals]); have v2 := hv (Rfc.num c 0) (by simp [Rfc.vals]); have v3 := hv t (by simp [Rfc.vals]); have v4 := hv (Rfc.nums M) (by simp [Rfc.vals]); have v5 := hv (Rfc.nums D) (by simp [Rfc.vals]); have v6 := hv (Rfc.days K) (by simp [Rfc.vals]); have v7 := hv (Rfc.nums P) (by simp [Rfc.vals])
  simp only [List.length_append, List.length_cons]
  omega
noncomputable def lpr19 : Array Oper := (Tryz.f12.body.bind (regOf 19)).getD #[]
set_option maxRecDepth 100000 in
set_option maxHeartbeats 2000000 in
theorem regLpr19 (a : Act) (w : World) (Q : Exit → Act → World → Prop) (hQ : Blind Q) (rb base : Nat) (f iv c u : Int) (t : List UInt8) (AM AD AW AP : Option Addr) (cM cD cW cP : Nat) (M D : List Int) (K : List (Int × Int)) (P : List Int) (A' : Option Addr) (cap : Nat) (df : List _) (hd : a.defers = df) (hs : a.tmps.size = 106) (h1 : a.tmps.getD 1 undef = .pointer (some ⟨rb, 0, none⟩)) (h3 : a.tmps.getD 3 undef = .string ⟨(((((Rfc.nm 0 ++ 61 :: Rfc.fq f.toNat) ++ Rfc.ptn (Rfc.nm 1) (Rfc.num iv 1)) ++ Rfc.ptn (Rfc.nm 2) (Rfc.num c 0)) ++ Rfc.ptn (Rfc.nm 3) (t))).toArray⟩) (h8 : a.tmps.getD 8 undef = .slice A' (K.map Rfc.day).length cap)
    (hT : Tabs3 w) (hL : ListsIn w AM AD AW AP M D K P) (hok : Okay f iv c u t M D K P) (Br : Blk w rb 36 #[.int .i64 f, .int .i64 iv, .int .i64 c, .int .i64 u, .slice AM M.length cM, .slice AD D.length cD, .slice AW K.length cW, .slice AP P.length cP]) (hO : OwnS w base (.slice A' (K.map Rfc.day).length cap) (K.map Rfc.day))
    (hR : ∀ (a' : Act) (w' : World), a'.defers = df → a'.tmps.getD 2 undef = .string ⟨(((((((((Rfc.nm 0 ++ 61 :: Rfc.fq f.toNat) ++ Rfc.ptn (Rfc.nm 1) (Rfc.num iv 1)) ++ Rfc.ptn (Rfc.nm 2) (Rfc.num c 0)) ++ Rfc.ptn (Rfc.nm 3) (t)) ++ Rfc.ptn (Rfc.nm 4) (Rfc.nums M)) ++ Rfc.ptn (Rfc.nm 5) (Rfc.nums D)) ++ Rfc.ptn (Rfc.nm 6) (Rfc.days K)) ++ Rfc.ptn (Rfc.nm 7) (Rfc.nums P))).toArray⟩ → Below w.heap.size w w' → Q .normal a' w') :
    (Code.region 19 lpr19 true).wp Tryz.prog Q a w := by
  have hlen := lpr_len f iv c u t M D K P hok
  have z4 : (⟨(((((Rfc.nm 0 ++ 61 :: Rfc.fq f.toNat) ++ Rfc.ptn (Rfc.nm 1) (Rfc.num iv 1)) ++ Rfc.ptn (Rfc.nm 2) (Rfc.num c 0)) ++ Rfc.ptn (Rfc.nm 3) (t))).toArray⟩ : ByteArray).size + (⟨(Rfc.ptn (Rfc.nm 4) (Rfc.nums M)).toArray⟩ : ByteArray).size ≤ 1000000 := by
    rw [ba_len, ba_len]
    simp only [List.length_append, List.length_cons] at hlen ⊢
    omega
  have z5 : (⟨((((((Rfc.nm 0 ++ 61 :: Rfc.fq f.toNat) ++ Rfc.ptn (Rfc.nm 1) (Rfc.num iv 1)) ++ Rfc.ptn (Rfc.nm 2) (Rfc.num c 0)) ++ Rfc.ptn (Rfc.nm 3) (t)) ++ Rfc.ptn (Rfc.nm 4) (Rfc.nums M))).toArray⟩ : ByteArray).size + (⟨(Rfc.ptn (Rfc.nm 5) (Rfc.nums D)).toArray⟩ : ByteArray).size ≤ 1000000 := by
    rw [ba_len, ba_len]
    simp only [List.length_append, List.length_cons] at hlen ⊢
    omega
  have z6 : (⟨(((((((Rfc.nm 0 ++ 61 :: Rfc.fq f.toNat) ++ Rfc.ptn (Rfc.nm 1) (Rfc.num iv 1)) ++ Rfc.ptn (Rfc.nm 2) (Rfc.num c 0)) ++ Rfc.ptn (Rfc.nm 3) (t)) ++ Rfc.ptn (Rfc.nm 4) (Rfc.nums M)) ++ Rfc.ptn (Rfc.nm 5) (Rfc.nums D))).toArray⟩ : ByteArray).size + (⟨(Rfc.ptn (Rfc.nm 6) (Rfc.days K)).toArray⟩ : ByteArray).size ≤ 1000000 := by
    rw [ba_len, ba_len]
    simp only [List.length_append, List.length_cons] at hlen ⊢
    omega
  have z7 : (⟨((((((((Rfc.nm 0 ++ 61 :: Rfc.fq f.toNat) ++ Rfc.ptn (Rfc.nm 1) (Rfc.num iv 1)) ++ Rfc.ptn (Rfc.nm 2) (Rfc.num c 0)) ++ Rfc.ptn (Rfc.nm 3) (t)) ++ Rfc.ptn (Rfc.nm 4) (Rfc.nums M)) ++ Rfc.ptn (Rfc.nm 5) (Rfc.nums D)) ++ Rfc.ptn (Rfc.nm 6) (Rfc.days K))).toArray⟩ : ByteArray).size + (⟨(Rfc.ptn (Rfc.nm 7) (Rfc.nums P)).toArray⟩ : ByteArray).size ≤ 1000000 := by
    rw [ba_len, ba_len]
    simp only [List.length_append, List.length_cons] at hlen ⊢
    omega
  clear hlen
  conv => arg 2; arg 2; whnf
  refine wp_region_held_drew (S := fun w' => Below w.heap.size w w') (by kernel_rfl) (below_drew (Below.refl _ _)) (fun hH => ?_)
  obtain ⟨u0, hu⟩ : ∃ u0, u0 = w.drew := ⟨_, rfl⟩
  rw [← hu] at hH ⊢
  clear hu
  replace hO := hO.below hH
  refine heldL 0 87 (v := .string ⟨(((((Rfc.nm 0 ++ 61 :: Rfc.fq f.toNat) ++ Rfc.ptn (Rfc.nm 1) (Rfc.num iv 1)) ++ Rfc.ptn (Rfc.nm 2) (Rfc.num c 0)) ++ Rfc.ptn (Rfc.nm 3) (t))).toArray⟩) hQ (by kernel_rfl) (frZ hs) (by kernel_rfl) (by kernel_rfl) (by kernel_rfl) hH ?z97 ?z98
  case z97 => (intro o ho; obtain rfl := Option.some.inj ho; exact Or.inl ⟨rfl, fun w1 h1w => k_move rfl (ev_tmp h3)⟩)
  case z98 =>
  refine frN3 hs hd h1 h3 h8 ?_; clear hs hd h1 h3 h8; intro a hs hd h1 h3 h8 h87
  refine heldL 1 88 (v := .pointer (some ⟨rb, 4, none⟩)) hQ (by kernel_rfl) (frZ hs) (by kernel_rfl) (by kernel_rfl) (by kernel_rfl) hH ?z99 ?z100
  case z99 => (intro o ho; obtain rfl := Option.some.inj ho; exact Or.inl ⟨rfl, fun w1 h1w => k_field4 rfl (ev_tmp h1)⟩)
  case z100 =>
  refine frN4 hs hd h1 h3 h8 h87 ?_; clear hs hd h1 h3 h8 h87; intro a hs hd h1 h3 h8 h87 h88
  refine heldL 2 89 (v := .slice AM M.length cM) hQ (by kernel_rfl) (frZ hs) (by kernel_rfl) (by kernel_rfl) (by kernel_rfl) hH ?z101 ?z102
  case z101 => (intro o ho; obtain rfl := Option.some.inj ho; exact Or.inl ⟨rfl, fun w1 h1w => k_loadL rfl (ev_tmp h88) ((Br.below h1w Br.lt).cell 4)⟩)
  case z102 =>
  refine frN5 hs hd h1 h3 h8 h87 h88 ?_; clear hs hd h1 h3 h8 h87 h88; intro a hs hd h1 h3 h8 h87 h88 h89
  refine heldL 6 93 (v := .pointer (some ⟨rb, 5, none⟩)) hQ (by kernel_rfl) (frZ hs) (by kernel_rfl) (by kernel_rfl) (by kernel_rfl) hH ?z103 ?z104
  case z103 => (intro o ho; obtain rfl := Option.some.inj ho; exact Or.inl ⟨rfl, fun w1 h1w => k_field5 rfl (ev_tmp h1)⟩)
  case z104 =>
  refine frN6 hs hd h1 h3 h8 h87 h88 h89 ?_; clear hs hd h1 h3 h8 h87 h88 h89; intro a hs hd h1 h3 h8 h87 h88 h89 h93
  refine heldL 7 94 (v := .slice AD D.length cD) hQ (by kernel_rfl) (frZ hs) (by kernel_rfl) (by kernel_rfl) (by kernel_rfl) hH ?z105 ?z106
  case z105 => (intro o ho; obtain rfl := Option.some.inj ho; exact Or.inl ⟨rfl, fun w1 h1w => k_loadL rfl (ev_tmp h93) ((Br.below h1w Br.lt).cell 5)⟩)
  case z106 =>
  refine frN7 hs hd h1 h3 h8 h87 h88 h89 h93 ?_; clear hs hd h1 h3 h8 h87 h88 h89 h93; intro a hs hd h1 h3 h8 h87 h88 h89 h93 h94
  refine heldL 11 98 (v := .slice A' (K.map Rfc.day).length cap) hQ (by kernel_rfl) (frZ hs) (by kernel_rfl) (by kernel_rfl) (by kernel_rfl) hH ?z107 ?z108
  case z107 => (intro o ho; obtain rfl := Option.some.inj ho; exact Or.inl ⟨rfl, fun w1 h1w => k_move rfl (ev_tmp h8)⟩)
  case z108 =>
  refine frN8 hs hd h1 h3 h8 h87 h88 h89 h93 h94 ?_; clear hs hd h1 h3 h8 h87 h88 h89 h93 h94; intro a hs hd h1 h3 h8 h87 h88 h89 h93 h94 h98
  refine heldL 14 101 (v := .pointer (some ⟨rb, 7, none⟩)) hQ (by kernel_rfl) (frZ hs) (by kernel_rfl) (by kernel_rfl) (by kernel_rfl) hH ?z109 ?z110
  case z109 => (intro o ho; obtain rfl := Option.some.inj ho; exact Or.inl ⟨rfl, fun w1 h1w => k_field7 rfl (ev_tmp h1)⟩)
  case z110 =>
  refine frN9 hs hd h1 h3 h8 h87 h88 h89 h93 h94 h98 ?_; clear hs hd h1 h3 h8 h87 h88 h89 h93 h94 h98; intro a hs hd h1 h3 h8 h87 h88 h89 h93 h94 h98 h101
  refine heldL 15 102 (v := .slice AP P.length cP) hQ (by kernel_rfl) (frZ hs) (by kernel_rfl) (by kernel_rfl) (by kernel_rfl) hH ?z111 ?z112
  case z111 => (intro o ho; obtain rfl := Option.some.inj ho; exact Or.inl ⟨rfl, fun w1 h1w => k_loadL rfl (ev_tmp h101) ((Br.below h1w Br.lt).cell 7)⟩)
  case z112 =>
  refine frN10 hs hd h1 h3 h8 h87 h88 h89 h93 h94 h98 h101 ?_; clear hs hd h1 h3 h8 h87 h88 h89 h93 h94 h98 h101; intro a hs hd h1 h3 h8 h87 h88 h89 h93 h94 h98 h101 h102
  have hc := lnums_any AM cM M u0 (hT.t.below hH) (hL.m.below hH) hok.lm hok.m
  have hx := fun ops Q S fuel listed d a i h0 h1 h2 h3 => heldL_call (P := Tryz.prog) (ops := ops) (Q := Q) (S := S) (fuel := fuel) (listed := listed) (a := a) (w := u0) i d h0 h1 h2 h3 hc
  refine hx _ _ _ _ _ 90 _ 3 ?z113 ?z114 ?z115 ?z116 ?z117 ?z118
  case z113 => kernel_rfl
  case z114 => kernel_rfl
  case z115 => (rw [hs]; decide)
  case z116 => exact frY rfl (c_lNum rfl rfl (ev_tmp h89))
  case z117 => (rintro _ _ ⟨_, l⟩; exact hH.trans (l.mono hH.size))
  case z118 =>
  clear hx hc
  rintro v90 u1 a ⟨hO4, l⟩ F0
  replace hs := F0.z.trans hs
  replace hd := F0.e.trans hd
  replace h1 := (F0.n 1 (by decide)).trans h1
  replace h3 := (F0.n 3 (by decide)).trans h3
  replace h8 := (F0.n 8 (by decide)).trans h8
  replace h87 := (F0.n 87 (by decide)).trans h87
  replace h88 := (F0.n 88 (by decide)).trans h88
  replace h89 := (F0.n 89 (by decide)).trans h89
  replace h93 := (F0.n 93 (by decide)).trans h93
  replace h94 := (F0.n 94 (by decide)).trans h94
  replace h98 := (F0.n 98 (by decide)).trans h98
  replace h101 := (F0.n 101 (by decide)).trans h101
  replace h102 := (F0.n 102 (by decide)).trans h102
  have h90 := F0.s
  clear F0
  replace hH := hH.trans (l.mono hH.size)
  replace hO := hO.below l
  clear l
  have hc := lpart_any (Rfc.nm 4) _ v90 (M.map Lib.itoa) u1 (by decide) (by rw [List.length_map]; exact hok.lm) (fun x hx => by obtain ⟨y, hy, rfl⟩ := List.mem_map.1 hx; exact ⟨Nat.le_trans (Lib.itoa_length_le y (hok.m y hy).1 (hok.m y hy).2) (by omega), Rfc.itoa_ne y⟩) hO4
  have hx := fun ops Q S fuel listed d a i h0 h1 h2 h3 => heldL_call (P := Tryz.prog) (ops := ops) (Q := Q) (S := S) (fuel := fuel) (listed := listed) (a := a) (w := u1) i d h0 h1 h2 h3 hc
  refine hx _ _ _ _ _ 91 _ 4 ?z119 ?z120 ?z121 ?z122 ?z123 ?z124
  case z119 => kernel_rfl
  case z120 => kernel_rfl
  case z121 => (rw [hs]; decide)
  case z122 => exact frY rfl (c_lPart rfl rfl rfl (ev_tmp h90))
  case z123 => (rintro _ _ ⟨_, l⟩; exact hH.trans (l.mono hH.size))
  case z124 =>
  clear hx hc
  rintro _ u2 a ⟨rfl, l⟩ F0
  replace hs := F0.z.trans hs
  replace hd := F0.e.trans hd
  replace h1 := (F0.n 1 (by decide)).trans h1
  replace h3 := (F0.n 3 (by decide)).trans h3
  replace h8 := (F0.n 8 (by decide)).trans h8
  replace h87 := (F0.n 87 (by decide)).trans h87
  replace h88 := (F0.n 88 (by decide)).trans h88
  replace h89 := (F0.n 89 (by decide)).trans h89
  replace h93 := (F0.n 93 (by decide)).trans h93
  replace h94 := (F0.n 94 (by decide)).trans h94
  replace h98 := (F0.n 98 (by decide)).trans h98
  replace h101 := (F0.n 101 (by decide)).trans h101
  replace h102 := (F0.n 102 (by decide)).trans h102
  replace h90 := (F0.n 90 (by decide)).trans h90
  have h91 := F0.s
  clear F0
  replace hH := hH.trans (l.mono hH.size)
  replace hO := hO.below l
  clear l
  refine heldL 5 92 (v := .string ⟨((((((Rfc.nm 0 ++ 61 :: Rfc.fq f.toNat) ++ Rfc.ptn (Rfc.nm 1) (Rfc.num iv 1)) ++ Rfc.ptn (Rfc.nm 2) (Rfc.num c 0)) ++ Rfc.ptn (Rfc.nm 3) (t)) ++ Rfc.ptn (Rfc.nm 4) (Rfc.nums M))).toArray⟩) hQ (by kernel_rfl) (frZ hs) (by kernel_rfl) (by kernel_rfl) (by kernel_rfl) hH ?z125 ?z126
  case z125 => (intro o ho; obtain rfl := Option.some.inj ho; exact Or.inl ⟨rfl, fun w1 h1w => o_addStr rfl (ev_tmp h87) (ev_tmp h91) z4 (ba_append _ _)⟩)
  case z126 =>
  refine frN13 hs hd h1 h3 h8 h87 h88 h89 h93 h94 h98 h101 h102 h90 h91 ?_; clear hs hd h1 h3 h8 h87 h88 h89 h93 h94 h98 h101 h102 h90 h91; intro a hs hd h1 h3 h8 h87 h88 h89 h93 h94 h98 h101 h102 h90 h91 h92
  have hc := lnums_any AD cD D u2 (hT.t.below hH) (hL.d.below hH) hok.ld hok.d
  have hx := fun ops Q S fuel listed d a i h0 h1 h2 h3 => heldL_call (P := Tryz.prog) (ops := ops) (Q := Q) (S := S) (fuel := fuel) (listed := listed) (a := a) (w := u2) i d h0 h1 h2 h3 hc
  refine hx _ _ _ _ _ 95 _ 8 ?z127 ?z128 ?z129 ?z130 ?z131 ?z132
  case z127 => kernel_rfl
  case z128 => kernel_rfl
  case z129 => (rw [hs]; decide)
  case z130 => exact frY rfl (c_lNum rfl rfl (ev_tmp h94))
  case z131 => (rintro _ _ ⟨_, l⟩; exact hH.trans (l.mono hH.size))
  case z132 =>
  clear hx hc
  rintro v95 u3 a ⟨hO5, l⟩ F0
  replace hs := F0.z.trans hs
  replace hd := F0.e.trans hd
  replace h1 := (F0.n 1 (by decide)).trans h1
  replace h3 := (F0.n 3 (by decide)).trans h3
  replace h8 := (F0.n 8 (by decide)).trans h8
  replace h87 := (F0.n 87 (by decide)).trans h87
  replace h88 := (F0.n 88 (by decide)).trans h88
  replace h89 := (F0.n 89 (by decide)).trans h89
  replace h93 := (F0.n 93 (by decide)).trans h93
  replace h94 := (F0.n 94 (by decide)).trans h94
  replace h98 := (F0.n 98 (by decide)).trans h98
  replace h101 := (F0.n 101 (by decide)).trans h101
  replace h102 := (F0.n 102 (by decide)).trans h102
  replace h90 := (F0.n 90 (by decide)).trans h90
  replace h91 := (F0.n 91 (by decide)).trans h91
  replace h92 := (F0.n 92 (by decide)).trans h92
  have h95 := F0.s
  clear F0
  replace hH := hH.trans (l.mono hH.size)
  replace hO := hO.below l
  clear l
  have hc := lpart_any (Rfc.nm 5) _ v95 (D.map Lib.itoa) u3 (by decide) (by rw [List.length_map]; exact hok.ld) (fun x hx => by obtain ⟨y, hy, rfl⟩ := List.mem_map.1 hx; exact ⟨Nat.le_trans (Lib.itoa_length_le y (hok.d y hy).1 (hok.d y hy).2) (by omega), Rfc.itoa_ne y⟩) hO5
  have hx := fun ops Q S fuel listed d a i h0 h1 h2 h3 => heldL_call (P := Tryz.prog) (ops := ops) (Q := Q) (S := S) (fuel := fuel) (listed := listed) (a := a) (w := u3) i d h0 h1 h2 h3 hc
  refine hx _ _ _ _ _ 96 _ 9 ?z133 ?z134 ?z135 ?z136 ?z137 ?z138
  case z133 => kernel_rfl
  case z134 => kernel_rfl
  case z135 => (rw [hs]; decide)
  case z136 => exact frY rfl (c_lPart rfl rfl rfl (ev_tmp h95))
  case z137 => (rintro _ _ ⟨_, l⟩; exact hH.trans (l.mono hH.size))
  case z138 =>
  clear hx hc
  rintro _ u4 a ⟨rfl, l⟩ F0
  replace hs := F0.z.trans hs
  replace hd := F0.e.trans hd
  replace h1 := (F0.n 1 (by decide)).trans h1
  replace h3 := (F0.n 3 (by decide)).trans h3
  replace h8 := (F0.n 8 (by decide)).trans h8
  replace h87 := (F0.n 87 (by decide)).trans h87
  replace h88 := (F0.n 88 (by decide)).trans h88
  replace h89 := (F0.n 89 (by decide)).trans h89
  replace h93 := (F0.n 93 (by decide)).trans h93
  replace h94 := (F0.n 94 (by decide)).trans h94
  replace h98 := (F0.n 98 (by decide)).trans h98
  replace h101 := (F0.n 101 (by decide)).trans h101
  replace h102 := (F0.n 102 (by decide)).trans h102
  replace h90 := (F0.n 90 (by decide)).trans h90
  replace h91 := (F0.n 91 (by decide)).trans h91
  replace h92 := (F0.n 92 (by decide)).trans h92
  replace h95 := (F0.n 95 (by decide)).trans h95
  have h96 := F0.s
  clear F0
  replace hH := hH.trans (l.mono hH.size)
  replace hO := hO.below l
  clear l
  refine heldL 10 97 (v := .string ⟨(((((((Rfc.nm 0 ++ 61 :: Rfc.fq f.toNat) ++ Rfc.ptn (Rfc.nm 1) (Rfc.num iv 1)) ++ Rfc.ptn (Rfc.nm 2) (Rfc.num c 0)) ++ Rfc.ptn (Rfc.nm 3) (t)) ++ Rfc.ptn (Rfc.nm 4) (Rfc.nums M)) ++ Rfc.ptn (Rfc.nm 5) (Rfc.nums D))).toArray⟩) hQ (by kernel_rfl) (frZ hs) (by kernel_rfl) (by kernel_rfl) (by kernel_rfl) hH ?z139 ?z140
  case z139 => (intro o ho; obtain rfl := Option.some.inj ho; exact Or.inl ⟨rfl, fun w1 h1w => o_addStr rfl (ev_tmp h92) (ev_tmp h96) z5 (ba_append _ _)⟩)
  case z140 =>
  refine frN16 hs hd h1 h3 h8 h87 h88 h89 h93 h94 h98 h101 h102 h90 h91 h92 h95 h96 ?_; clear hs hd h1 h3 h8 h87 h88 h89 h93 h94 h98 h101 h102 h90 h91 h92 h95 h96; intro a hs hd h1 h3 h8 h87 h88 h89 h93 h94 h98 h101 h102 h90 h91 h92 h95 h96 h97
  have hc := lpart_any (Rfc.nm 6) _ (.slice A' (K.map Rfc.day).length cap) (K.map Rfc.day) u4 (by decide) (by rw [List.length_map]; exact hok.lk) (fun x hx => by obtain ⟨y, hy, rfl⟩ := List.mem_map.1 hx; exact ⟨Nat.le_trans (day_len y (hok.k y hy).1) (by omega), Rfc.day_ne y⟩) hO
  have hx := fun ops Q S fuel listed d a i h0 h1 h2 h3 => heldL_call (P := Tryz.prog) (ops := ops) (Q := Q) (S := S) (fuel := fuel) (listed := listed) (a := a) (w := u4) i d h0 h1 h2 h3 hc
  refine hx _ _ _ _ _ 99 _ 12 ?z141 ?z142 ?z143 ?z144 ?z145 ?z146
  case z141 => kernel_rfl
  case z142 => kernel_rfl
  case z143 => (rw [hs]; decide)
  case z144 => exact frY rfl (c_lPart rfl rfl rfl (ev_tmp h98))
  case z145 => (rintro _ _ ⟨_, l⟩; exact hH.trans (l.mono hH.size))
  case z146 =>
  clear hx hc
  rintro _ u5 a ⟨rfl, l⟩ F0
  replace hs := F0.z.trans hs
  replace hd := F0.e.trans hd
  replace h1 := (F0.n 1 (by decide)).trans h1
  replace h3 := (F0.n 3 (by decide)).trans h3
  replace h8 := (F0.n 8 (by decide)).trans h8
  replace h87 := (F0.n 87 (by decide)).trans h87
  replace h88 := (F0.n 88 (by decide)).trans h88
  replace h89 := (F0.n 89 (by decide)).trans h89
  replace h93 := (F0.n 93 (by decide)).trans h93
  replace h94 := (F0.n 94 (by decide)).trans h94
  replace h98 := (F0.n 98 (by decide)).trans h98
  replace h101 := (F0.n 101 (by decide)).trans h101
  replace h102 := (F0.n 102 (by decide)).trans h102
  replace h90 := (F0.n 90 (by decide)).trans h90
  replace h91 := (F0.n 91 (by decide)).trans h91
  replace h92 := (F0.n 92 (by decide)).trans h92
  replace h95 := (F0.n 95 (by decide)).trans h95
  replace h96 := (F0.n 96 (by decide)).trans h96
  replace h97 := (F0.n 97 (by decide)).trans h97
  have h99 := F0.s
  clear F0
  replace hH := hH.trans (l.mono hH.size)
  clear hO
  clear l
  refine heldL 13 100 (v := .string ⟨((((((((Rfc.nm 0 ++ 61 :: Rfc.fq f.toNat) ++ Rfc.ptn (Rfc.nm 1) (Rfc.num iv 1)) ++ Rfc.ptn (Rfc.nm 2) (Rfc.num c 0)) ++ Rfc.ptn (Rfc.nm 3) (t)) ++ Rfc.ptn (Rfc.nm 4) (Rfc.nums M)) ++ Rfc.ptn (Rfc.nm 5) (Rfc.nums D)) ++ Rfc.ptn (Rfc.nm 6) (Rfc.days K))).toArray⟩) hQ (by kernel_rfl) (frZ hs) (by kernel_rfl) (by kernel_rfl) (by kernel_rfl) hH ?z147 ?z148
  case z147 => (intro o ho; obtain rfl := Option.some.inj ho; exact Or.inl ⟨rfl, fun w1 h1w => o_addStr rfl (ev_tmp h97) (ev_tmp h99) z6 (ba_append _ _)⟩)
  case z148 =>
  intro a F0
  replace hs := F0.z.trans hs
  replace hd := F0.e.trans hd
  replace h1 := (F0.n 1 (by decide)).trans h1
  replace h3 := (F0.n 3 (by decide)).trans h3
  replace h8 := (F0.n 8 (by decide)).trans h8
  replace h87 := (F0.n 87 (by decide)).trans h87
  replace h88 := (F0.n 88 (by decide)).trans h88
  replace h89 := (F0.n 89 (by decide)).trans h89
  replace h93 := (F0.n 93 (by decide)).trans h93
  replace h94 := (F0.n 94 (by decide)).trans h94
  replace h98 := (F0.n 98 (by decide)).trans h98
  replace h101 := (F0.n 101 (by decide)).trans h101
  replace h102 := (F0.n 102 (by decide)).trans h102
  replace h90 := (F0.n 90 (by decide)).trans h90
  replace h91 := (F0.n 91 (by decide)).trans h91
  replace h92 := (F0.n 92 (by decide)).trans h92
  replace h95 := (F0.n 95 (by decide)).trans h95
  replace h96 := (F0.n 96 (by decide)).trans h96
  replace h97 := (F0.n 97 (by decide)).trans h97
  replace h99 := (F0.n 99 (by decide)).trans h99
  have h100 := F0.s
  clear F0
  have hc := lnums_any AP cP P u5 (hT.t.below hH) (hL.p.below hH) hok.lp hok.p
  have hx := fun ops Q S fuel listed d a i h0 h1 h2 h3 => heldL_call (P := Tryz.prog) (ops := ops) (Q := Q) (S := S) (fuel := fuel) (listed := listed) (a := a) (w := u5) i d h0 h1 h2 h3 hc
  refine hx _ _ _ _ _ 103 _ 16 ?z149 ?z150 ?z151 ?z152 ?z153 ?z154
  case z149 => kernel_rfl
  case z150 => kernel_rfl
  case z151 => (rw [hs]; decide)
  case z152 => exact frY rfl (c_lNum rfl rfl (ev_tmp h102))
  case z153 => (rintro _ _ ⟨_, l⟩; exact hH.trans (l.mono hH.size))
  case z154 =>
  clear hx hc
  rintro v103 u6 a ⟨hO7, l⟩ F0
  replace hs := F0.z.trans hs
  replace hd := F0.e.trans hd
  replace h1 := (F0.n 1 (by decide)).trans h1
  replace h3 := (F0.n 3 (by decide)).trans h3
  replace h8 := (F0.n 8 (by decide)).trans h8
  replace h87 := (F0.n 87 (by decide)).trans h87
  replace h88 := (F0.n 88 (by decide)).trans h88
  replace h89 := (F0.n 89 (by decide)).trans h89
  replace h93 := (F0.n 93 (by decide)).trans h93
  replace h94 := (F0.n 94 (by decide)).trans h94
  replace h98 := (F0.n 98 (by decide)).trans h98
  replace h101 := (F0.n 101 (by decide)).trans h101
  replace h102 := (F0.n 102 (by decide)).trans h102
  replace h90 := (F0.n 90 (by decide)).trans h90
  replace h91 := (F0.n 91 (by decide)).trans h91
  replace h92 := (F0.n 92 (by decide)).trans h92
  replace h95 := (F0.n 95 (by decide)).trans h95
  replace h96 := (F0.n 96 (by decide)).trans h96
  replace h97 := (F0.n 97 (by decide)).trans h97
  replace h99 := (F0.n 99 (by decide)).trans h99
  replace h100 := (F0.n 100 (by decide)).trans h100
  have h103 := F0.s
  clear F0
  replace hH := hH.trans (l.mono hH.size)
  clear l
  have hc := lpart_any (Rfc.nm 7) _ v103 (P.map Lib.itoa) u6 (by decide) (by rw [List.length_map]; exact hok.lp) (fun x hx => by obtain ⟨y, hy, rfl⟩ := List.mem_map.1 hx; exact ⟨Nat.le_trans (Lib.itoa_length_le y (hok.p y hy).1 (hok.p y hy).2) (by omega), Rfc.itoa_ne y⟩) hO7
  have hx := fun ops Q S fuel listed d a i h0 h1 h2 h3 => heldL_call (P := Tryz.prog) (ops := ops) (Q := Q) (S := S) (fuel := fuel) (listed := listed) (a := a) (w := u6) i d h0 h1 h2 h3 hc
  refine hx _ _ _ _ _ 104 _ 17 ?z155 ?z156 ?z157 ?z158 ?z159 ?z160
  case z155 => kernel_rfl
  case z156 => kernel_rfl
  case z157 => (rw [hs]; decide)
  case z158 => exact frY rfl (c_lPart rfl rfl rfl (ev_tmp h103))
  case z159 => (rintro _ _ ⟨_, l⟩; exact hH.trans (l.mono hH.size))
  case z160 =>
  clear hx hc
  rintro _ u7 a ⟨rfl, l⟩ F0
  replace hs := F0.z.trans hs
  replace hd := F0.e.trans hd
  replace h1 := (F0.n 1 (by decide)).trans h1
  replace h3 := (F0.n 3 (by decide)).trans h3
  replace h8 := (F0.n 8 (by decide)).trans h8
  replace h87 := (F0.n 87 (by decide)).trans h87
  replace h88 := (F0.n 88 (by decide)).trans h88
  replace h89 := (F0.n 89 (by decide)).trans h89
  replace h93 := (F0.n 93 (by decide)).trans h93
  replace h94 := (F0.n 94 (by decide)).trans h94
  replace h98 := (F0.n 98 (by decide)).trans h98
  replace h101 := (F0.n 101 (by decide)).trans h101
  replace h102 := (F0.n 102 (by decide)).trans h102
  replace h90 := (F0.n 90 (by decide)).trans h90
  replace h91 := (F0.n 91 (by decide)).trans h91
  replace h92 := (F0.n 92 (by decide)).trans h92
  replace h95 := (F0.n 95 (by decide)).trans h95
  replace h96 := (F0.n 96 (by decide)).trans h96
  replace h97 := (F0.n 97 (by decide)).trans h97
  replace h99 := (F0.n 99 (by decide)).trans h99
  replace h100 := (F0.n 100 (by decide)).trans h100
  replace h103 := (F0.n 103 (by decide)).trans h103
  have h104 := F0.s
  clear F0
  replace hH := hH.trans (l.mono hH.size)
  clear l
  refine heldL 18 105 (v := .string ⟨(((((((((Rfc.nm 0 ++ 61 :: Rfc.fq f.toNat) ++ Rfc.ptn (Rfc.nm 1) (Rfc.num iv 1)) ++ Rfc.ptn (Rfc.nm 2) (Rfc.num c 0)) ++ Rfc.ptn (Rfc.nm 3) (t)) ++ Rfc.ptn (Rfc.nm 4) (Rfc.nums M)) ++ Rfc.ptn (Rfc.nm 5) (Rfc.nums D)) ++ Rfc.ptn (Rfc.nm 6) (Rfc.days K)) ++ Rfc.ptn (Rfc.nm 7) (Rfc.nums P))).toArray⟩) hQ (by kernel_rfl) (frZ hs) (by kernel_rfl) (by kernel_rfl) (by kernel_rfl) hH ?z161 ?z162
  case z161 => (intro o ho; obtain rfl := Option.some.inj ho; exact Or.inl ⟨rfl, fun w1 h1w => o_addStr rfl (ev_tmp h100) (ev_tmp h104) z7 (ba_append _ _)⟩)
  case z162 =>
  intro a F0
  replace hs := F0.z.trans hs
  replace hd := F0.e.trans hd
  replace h1 := (F0.n 1 (by decide)).trans h1
  replace h3 := (F0.n 3 (by decide)).trans h3
  replace h8 := (F0.n 8 (by decide)).trans h8
  replace h87 := (F0.n 87 (by decide)).trans h87
  replace h88 := (F0.n 88 (by decide)).trans h88
  replace h89 := (F0.n 89 (by decide)).trans h89
  replace h93 := (F0.n 93 (by decide)).trans h93
  replace h94 := (F0.n 94 (by decide)).trans h94
  replace h98 := (F0.n 98 (by decide)).trans h98
  replace h101 := (F0.n 101 (by decide)).trans h101
  replace h102 := (F0.n 102 (by decide)).trans h102
  replace h90 := (F0.n 90 (by decide)).trans h90
  replace h91 := (F0.n 91 (by decide)).trans h91
  replace h92 := (F0.n 92 (by decide)).trans h92
  replace h95 := (F0.n 95 (by decide)).trans h95
  replace h96 := (F0.n 96 (by decide)).trans h96
  replace h97 := (F0.n 97 (by decide)).trans h97
  replace h99 := (F0.n 99 (by decide)).trans h99
  replace h100 := (F0.n 100 (by decide)).trans h100
  replace h103 := (F0.n 103 (by decide)).trans h103
  replace h104 := (F0.n 104 (by decide)).trans h104
  have h105 := F0.s
  clear F0
  refine heldL 19 2 (v := .string ⟨(((((((((Rfc.nm 0 ++ 61 :: Rfc.fq f.toNat) ++ Rfc.ptn (Rfc.nm 1) (Rfc.num iv 1)) ++ Rfc.ptn (Rfc.nm 2) (Rfc.num c 0)) ++ Rfc.ptn (Rfc.nm 3) (t)) ++ Rfc.ptn (Rfc.nm 4) (Rfc.nums M)) ++ Rfc.ptn (Rfc.nm 5) (Rfc.nums D)) ++ Rfc.ptn (Rfc.nm 6) (Rfc.days K)) ++ Rfc.ptn (Rfc.nm 7) (Rfc.nums P))).toArray⟩) hQ (by kernel_rfl) (frZ hs) (by kernel_rfl) (by kernel_rfl) (by kernel_rfl) hH ?z163 ?z164
  case z163 => (intro o ho; obtain rfl := Option.some.inj ho; exact Or.inl ⟨rfl, fun w1 h1w => k_assign rfl (ev_tmp h105)⟩)
  case z164 =>
  intro a F0
  replace hs := F0.z.trans hs
  replace hd := F0.e.trans hd
  replace h1 := (F0.n 1 (by decide)).trans h1
  replace h3 := (F0.n 3 (by decide)).trans h3
  replace h8 := (F0.n 8 (by decide)).trans h8
  replace h87 := (F0.n 87 (by decide)).trans h87
  replace h88 := (F0.n 88 (by decide)).trans h88
  replace h89 := (F0.n 89 (by decide)).trans h89
  replace h93 := (F0.n 93 (by decide)).trans h93
  replace h94 := (F0.n 94 (by decide)).trans h94
  replace h98 := (F0.n 98 (by decide)).trans h98
  replace h101 := (F0.n 101 (by decide)).trans h101
  replace h102 := (F0.n 102 (by decide)).trans h102
  replace h90 := (F0.n 90 (by decide)).trans h90
  replace h91 := (F0.n 91 (by decide)).trans h91
  replace h92 := (F0.n 92 (by decide)).trans h92
  replace h95 := (F0.n 95 (by decide)).trans h95
  replace h96 := (F0.n 96 (by decide)).trans h96
  replace h97 := (F0.n 97 (by decide)).trans h97
  replace h99 := (F0.n 99 (by decide)).trans h99
  replace h100 := (F0.n 100 (by decide)).trans h100
  replace h103 := (F0.n 103 (by decide)).trans h103
  replace h104 := (F0.n 104 (by decide)).trans h104
  replace h105 := (F0.n 105 (by decide)).trans h105
  have h2 := F0.s
  clear F0
  refine wpAnyH_done (by kernel_rfl) ?_ _
  exact hR a _ hd h2 hH

theorem sl_date {w : World} {ρ : Operand → Value} {o : Oper} {x : Operand} {y m d : Int} (ho : o.op = .slice 9 x (some (.const (.int .i64 1))) none none) (hx : ρ x = .string ⟨(49 :: Rfc.date y m d).toArray⟩) (hc : ρ (.const (.int .i64 1)) = .int .i64 1) : (execOp ρ o).run Tryz.prog w = .ok (.value (.string ⟨(Rfc.date y m d).toArray⟩)) w := by
  rw [k_sl1 ho hx hc (by rw [ba_len]; rfl)]
  have e : (⟨(49 :: Rfc.date y m d).toArray⟩ : ByteArray).extract 1 (⟨(49 :: Rfc.date y m d).toArray⟩ : ByteArray).size = ⟨(Rfc.date y m d).toArray⟩ := by
    have h := Lib.extract_to_end ⟨(49 :: Rfc.date y m d).toArray⟩ 1
    apply ByteArray.ext
    apply Array.ext'
    rw [h]
    rfl
  rw [e]
set_option maxRecDepth 100000 in
set_option maxHeartbeats 2000000 in
theorem lprint_any (f iv c u : Int) (t : List UInt8) (AM AD AW AP : Option Addr) (cM cD cW cP : Nat) (M D : List Int) (K : List (Int × Int)) (P : List Int) (w : World) (hT : Tabs3 w) (hL : ListsIn w AM AD AW AP M D K P) (hok : Okay f iv c u t M D K P) :
    Calls Tryz.prog 12 #[.agg #[.int .i64 f, .int .i64 iv, .int .i64 c, .int .i64 u, .slice AM M.length cM, .slice AD D.length cD, .slice AW K.length cW, .slice AP P.length cP]] w fun e w' => ∃ v, e = .returned v ∧ v = .string ⟨(Rfc.text f iv c t M D K P).toArray⟩ ∧ Below w.heap.size w w' := by
  have hlen := lpr_len f iv c u t M D K P hok
  have y0 : (⟨#[70, 82, 69, 81, 61]⟩ : ByteArray).size + (⟨(Rfc.fq f.toNat).toArray⟩ : ByteArray).size ≤ 1000000 := by
    show 5 + (⟨(Rfc.fq f.toNat).toArray⟩ : ByteArray).size ≤ _
    rw [ba_len]
    simp only [List.length_append, List.length_cons] at hlen
    omega
  have y1 : (⟨((Rfc.nm 0 ++ 61 :: Rfc.fq f.toNat)).toArray⟩ : ByteArray).size + (⟨(Rfc.ptn (Rfc.nm 1) (Rfc.num iv 1)).toArray⟩ : ByteArray).size ≤ 1000000 := by
    rw [ba_len, ba_len]
    simp only [List.length_append, List.length_cons] at hlen ⊢
    omega
  have y2 : (⟨(((Rfc.nm 0 ++ 61 :: Rfc.fq f.toNat) ++ Rfc.ptn (Rfc.nm 1) (Rfc.num iv 1))).toArray⟩ : ByteArray).size + (⟨(Rfc.ptn (Rfc.nm 2) (Rfc.num c 0)).toArray⟩ : ByteArray).size ≤ 1000000 := by
    rw [ba_len, ba_len]
    simp only [List.length_append, List.length_cons] at hlen ⊢
    omega
  have y3 : (⟨((((Rfc.nm 0 ++ 61 :: Rfc.fq f.toNat) ++ Rfc.ptn (Rfc.nm 1) (Rfc.num iv 1)) ++ Rfc.ptn (Rfc.nm 2) (Rfc.num c 0))).toArray⟩ : ByteArray).size + (⟨(Rfc.ptn (Rfc.nm 3) (t)).toArray⟩ : ByteArray).size ≤ 1000000 := by
    rw [ba_len, ba_len]
    simp only [List.length_append, List.length_cons] at hlen ⊢
    omega
  clear hlen
  have e1 : (iv != 1) = false → (Rfc.nm 0 ++ 61 :: Rfc.fq f.toNat) = ((Rfc.nm 0 ++ 61 :: Rfc.fq f.toNat) ++ Rfc.ptn (Rfc.nm 1) (Rfc.num iv 1)) := fun g => by
    have : iv = 1 := by simpa using g
    rw [this]
    simp [Rfc.num, Rfc.ptn]
  have e2 : (c != 0) = false → ((Rfc.nm 0 ++ 61 :: Rfc.fq f.toNat) ++ Rfc.ptn (Rfc.nm 1) (Rfc.num iv 1)) = (((Rfc.nm 0 ++ 61 :: Rfc.fq f.toNat) ++ Rfc.ptn (Rfc.nm 1) (Rfc.num iv 1)) ++ Rfc.ptn (Rfc.nm 2) (Rfc.num c 0)) := fun g => by
    have : c = 0 := by simpa using g
    rw [this]
    simp [Rfc.num, Rfc.ptn]
  have e3 : (u != 0) = false → (((Rfc.nm 0 ++ 61 :: Rfc.fq f.toNat) ++ Rfc.ptn (Rfc.nm 1) (Rfc.num iv 1)) ++ Rfc.ptn (Rfc.nm 2) (Rfc.num c 0)) = ((((Rfc.nm 0 ++ 61 :: Rfc.fq f.toNat) ++ Rfc.ptn (Rfc.nm 1) (Rfc.num iv 1)) ++ Rfc.ptn (Rfc.nm 2) (Rfc.num c 0)) ++ Rfc.ptn (Rfc.nm 3) (t)) := fun g => by
    have h0 : u = 0 := by simpa using g
    have : t = [] := by
      rcases hok.u with ⟨-, h⟩ | ⟨y, m, d, h, -⟩
      · exact h
      · have := h.range; omega
    rw [this]
    simp [Rfc.ptn]
  have hu3 : (u != 0) = true → ∃ y m d, Cal.Is u y m d ∧ t = Rfc.date y m d := fun g => by
    have h0 : ¬ u = 0 := by simpa using g
    rcases hok.u with ⟨h, -⟩ | h
    · exact (h0 h).elim
    · exact h
  have f1 : (iv != 1) = true → Lib.itoa iv = Rfc.num iv 1 := fun g => by
    have h0 : ¬ iv = 1 := by simpa using g
    rw [Rfc.num, if_neg h0]
  have f2 : (c != 0) = true → Lib.itoa c = Rfc.num c 0 := fun g => by
    have h0 : ¬ c = 0 := by simpa using g
    rw [Rfc.num, if_neg h0]
  refine calls_of_wp Tryz.func12 (show Tryz.f12.body = some lprBody from rfl) ?_
  generalize hAA : (Act.mk (#[.agg #[.int .i64 f, .int .i64 iv, .int .i64 c, .int .i64 u, .slice AM M.length cM, .slice AD D.length cD, .slice AW K.length cW, .slice AP P.length cP]] ++ Array.replicate (Tryz.f12.ntmps - (#[.agg #[.int .i64 f, .int .i64 iv, .int .i64 c, .int .i64 u, .slice AM M.length cM, .slice AD D.length cD, .slice AW K.length cW, .slice AP P.length cP]] : Array Value).size) undef) []) = a
  have hs : a.tmps.size = 106 := by rw [← hAA]; simp [Tryz.ntmps12]
  have hd : a.defers = [] := by rw [← hAA]
  have h0 : a.tmps.getD 0 undef = .agg #[.int .i64 f, .int .i64 iv, .int .i64 c, .int .i64 u, .slice AM M.length cM, .slice AD D.length cD, .slice AW K.length cW, .slice AP P.length cP] := by rw [← hAA]; simp
  clear hAA
  refine Code.wp_mono NoPanic.imp ?_
  have hQ : Blind (NoPanic (bodyPost Tryz.prog Tryz.f12 fun e w' => ∃ v, e = .returned v ∧ v = .string ⟨(Rfc.text f iv c t M D K P).toArray⟩ ∧ Below w.heap.size w w')) := fun _ _ _ _ q => q.elim
  have hfin : ∀ (a' : Act) (w' : World) (v : Value), a'.defers = [] → a'.tmps.getD 2 undef = v → (v = .string ⟨(Rfc.text f iv c t M D K P).toArray⟩) → Below w.heap.size w w' → NoPanic (bodyPost Tryz.prog Tryz.f12 fun e w' => ∃ v, e = .returned v ∧ v = .string ⟨(Rfc.text f iv c t M D K P).toArray⟩ ∧ Below w.heap.size w w') .ret a' w' := by
    intro a' w' v k1 k2 k3 k4
    exact ⟨k1, _, results_tmp rfl _ _ _, _, rfl, by rw [k2]; exact k3, k4⟩
  generalize NoPanic (bodyPost Tryz.prog Tryz.f12 fun e w' => ∃ v, e = .returned v ∧ v = .string ⟨(Rfc.text f iv c t M D K P).toArray⟩ ∧ Below w.heap.size w w') = Q at hQ hfin
  unfold lprBody
  conv => arg 2; whnf
  refine wp_seq ?_
  refine wp_region (show wpOps _ _ _ [0, 1] _ _ from ?_)
  refine opL 0 1 (v := .pointer (some ⟨w.heap.size, 0, none⟩)) (w' := (w.alloc (.cells #[.int .i64 f, .int .i64 iv, .int .i64 c, .int .i64 u, .slice AM M.length cM, .slice AD D.length cD, .slice AW K.length cW, .slice AP P.length cP] 36))) (by kernel_rfl) (frZ hs) ?_ ?_
  · exact frY rfl (k_boxR3 rfl (ev_tmp h0))
  refine frN0 hs hd ?_; clear hs hd h0; intro a hs hd h1
  obtain ⟨w1, hw1⟩ : ∃ wn, wn = w.alloc (.cells #[.int .i64 f, .int .i64 iv, .int .i64 c, .int .i64 u, .slice AM M.length cM, .slice AD D.length cD, .slice AW K.length cW, .slice AP P.length cP] 36) := ⟨_, rfl⟩
  rw [← hw1]
  have q1 : Blk w1 w.heap.size 36 #[.int .i64 f, .int .i64 iv, .int .i64 c, .int .i64 u, .slice AM M.length cM, .slice AD D.length cD, .slice AW K.length cW, .slice AP P.length cP] := by rw [hw1]; exact Blk.alloc _ _ _
  have l1 : Below w.heap.size w w1 := by rw [hw1]; exact (Below.refl _ _).alloc (Nat.le_refl _) _
  clear hw1
  obtain ⟨Af, cf, hgf, htabf⟩ := (hT.below l1).lf
  refine opL 1 2 (v := .string ⟨#[]⟩) (w' := w1) (by kernel_rfl) (frZ hs) ?_ ?_
  · exact frY rfl (k_assign rfl rfl)
  refine frN1 hs hd h1 ?_; clear hs hd h1; intro a hs hd h1 h2
  refine wp_seq ?_
  refine wp_region (show wpOps _ _ _ [0, 1, 2, 3, 4, 5, 6] _ _ from ?_)
  refine opL 0 12 (v := .slice (some Af) 4 cf) (w' := w1) (by kernel_rfl) (frZ hs) ?_ ?_
  · exact frY rfl (k_loadSS rfl rfl hgf)
  revert hs hd h1 h2; refine frM2 ?_; intro a hs hd h1 h2 h12
  refine opL 1 13 (v := .pointer (some ⟨w.heap.size, 0, none⟩)) (w' := w1) (by kernel_rfl) (frZ hs) ?_ ?_
  · exact frY rfl (k_field0 rfl (ev_tmp h1))
  revert hs hd h1 h2 h12; refine frM3 ?_; intro a hs hd h1 h2 h12 h13
  refine opL 2 14 (v := .int .i64 f) (w' := w1) (by kernel_rfl) (frZ hs) ?_ ?_
  · exact frY rfl (k_loadF rfl (ev_tmp h13) (q1.cell 0))
  clear h13; revert hs hd h1 h2 h12; refine frM3 ?_; intro a hs hd h1 h2 h12 h14
  refine opL 3 15 (v := .pointer (some (Af.add f.toNat))) (w' := w1) (by kernel_rfl) (frZ hs) ?_ ?_
  · exact frY rfl (k_atSA rfl (ev_tmp h12) (ev_tmp (h14.trans (by rw [Int.toNat_of_nonneg hok.f.1]))) (by have := hok.f; omega))
  clear h12 h14; revert hs hd h1 h2; refine frM2 ?_; intro a hs hd h1 h2 h15
  refine opL 4 16 (v := .string ⟨(Rfc.fq f.toNat).toArray⟩) (w' := w1) (by kernel_rfl) (frZ hs) ?_ ?_
  · exact frY rfl (k_loadStr rfl (ev_tmp h15) (htabf _ (by have := hok.f; omega)))
  clear h15; revert hs hd h1 h2; refine frM2 ?_; intro a hs hd h1 h2 h16
  refine opL 5 17 (v := .string ⟨((Rfc.nm 0 ++ 61 :: Rfc.fq f.toNat)).toArray⟩) (w' := w1) (by kernel_rfl) (frZ hs) ?_ ?_
  · exact frY rfl (o_addStr rfl rfl (ev_tmp h16) y0 (ba_append [70, 82, 69, 81, 61] _))
  clear h16; revert hs hd h1 h2; refine frM2 ?_; intro a hs hd h1 h2 h17
  refine opL 6 3 (v := .string ⟨((Rfc.nm 0 ++ 61 :: Rfc.fq f.toNat)).toArray⟩) (w' := w1) (by kernel_rfl) (frZ hs) ?_ ?_
  · exact frY rfl (k_assign rfl (ev_tmp h17))
  clear h17; revert hs hd h1 h2; refine frM2 ?_; intro a hs hd h1 h2 h3
  have Br := q1
  have hb := l1
  clear q1 l1 hgf htabf
  clear h2
  refine wp_seq ?_
  refine cut_at (PrS w w.heap.size #[.int .i64 f, .int .i64 iv, .int .i64 c, .int .i64 u, .slice AM M.length cM, .slice AD D.length cD, .slice AW K.length cW, .slice AP P.length cP] ((Rfc.nm 0 ++ 61 :: Rfc.fq f.toNat) ++ Rfc.ptn (Rfc.nm 1) (Rfc.num iv 1))) ?z183 ?z184
  case z183 =>
    refine wp_seq ?_
    refine wp_region (show wpOps _ _ _ [0, 1, 2] _ _ from ?_)
    refine opL 0 18 (v := .pointer (some ⟨w.heap.size, 1, none⟩)) (w' := w1) (by kernel_rfl) (frZ hs) ?_ ?_
    · exact frY rfl (k_field1 rfl (ev_tmp h1))
    refine frN2 hs hd h1 h3 ?_; clear hs hd h1 h3; intro a hs hd h1 h3 h18
    refine opL 1 19 (v := .int .i64 iv) (w' := w1) (by kernel_rfl) (frZ hs) ?_ ?_
    · exact frY rfl (k_loadI rfl (ev_tmp h18) (Br.cell 1))
    clear h18; revert hs hd h1 h3; refine frM2 ?_; intro a hs hd h1 h3 h19
    refine opL 2 20 (v := .bool (iv != 1)) (w' := w1) (by kernel_rfl) (frZ hs) ?_ ?_
    · exact frY rfl (o_neI rfl (ev_tmp h19) rfl rfl)
    clear h19; revert hs hd h1 h3; refine frM2 ?_; intro a hs hd h1 h3 h20
    cases g1 : (iv != 1)
    case false =>
      rw [g1] at h20
      refine wp_cond_false (ev_tmp h20) ?_
      refine wp_skip ?_
      exact ⟨hd, hs, h1, h3.trans (congrArg (fun l : List UInt8 => Value.string ⟨l.toArray⟩) (e1 g1)), Br, hb⟩
    case true =>
      rw [g1] at h20
      refine wp_cond_true (ev_tmp h20) ?_
      clear h20
      refine wp_region (show wpOps _ _ _ [0, 1, 2, 3, 4, 5, 6, 7] _ _ from ?_)
      refine opL 0 21 (v := .string ⟨((Rfc.nm 0 ++ 61 :: Rfc.fq f.toNat)).toArray⟩) (w' := w1) (by kernel_rfl) (frZ hs) ?_ ?_
      · exact frY rfl (k_move rfl (ev_tmp h3))
      refine frN2 hs hd h1 h3 ?_; clear hs hd h1 h3; intro a hs hd h1 h3 h21
      refine opL 1 22 (v := .pointer (some ⟨w.heap.size, 1, none⟩)) (w' := w1) (by kernel_rfl) (frZ hs) ?_ ?_
      · exact frY rfl (k_field1 rfl (ev_tmp h1))
      revert hs hd h1 h3 h21; refine frM3 ?_; intro a hs hd h1 h3 h21 h22
      refine opL 2 23 (v := .int .i64 iv) (w' := w1) (by kernel_rfl) (frZ hs) ?_ ?_
      · exact frY rfl (k_loadI rfl (ev_tmp h22) (Br.cell 1))
      clear h22; revert hs hd h1 h3 h21; refine frM3 ?_; intro a hs hd h1 h3 h21 h23
      refine opL 3 24 (v := .slice (some ⟨w1.heap.size, 0, none⟩) 1 1) (w' := (w1.alloc (.cells #[.int .i64 iv] 3))) (by kernel_rfl) (frZ hs) ?_ ?_
      · exact frY rfl (k_slice1 rfl (ev_tmp h23))
      clear h23; revert hs hd h1 h3 h21; refine frM3 ?_; intro a hs hd h1 h3 h21 h24
      obtain ⟨wp, hwp⟩ : ∃ wn, wn = w1.alloc (.cells #[.int .i64 iv] 3) := ⟨_, rfl⟩
      rw [← hwp]
      have qp : Blk wp w1.heap.size 3 #[.int .i64 iv] := by rw [hwp]; exact Blk.alloc _ _ _
      have lp : Below w1.heap.size w1 wp := by rw [hwp]; exact (Below.refl _ _).alloc (Nat.le_refl _) _
      clear hwp
      replace Br := Br.below lp Br.lt
      replace hb := hb.trans (lp.mono hb.size)
      clear lp
      have hc := lnums_any (some ⟨w1.heap.size, 0, none⟩) 1 [iv] wp (hT.below hb).t (ints_one qp) (by simp) (fun x hx => by obtain rfl := List.mem_singleton.1 hx; exact hok.iv)
      have hx := fun ops Q rest d a i h1 h2 h3 => opL_call (P := Tryz.prog) (ops := ops) (Q := Q) (a := a) (w := wp) (rest := rest) i d h1 h2 h3 hc
      refine hx _ _ _ 25 _ 4 ?z199a ?z199b ?z199 ?z200
      case z199a => kernel_rfl
      case z199b => (rw [hs]; decide)
      case z199 => exact frY rfl (c_lNum rfl rfl (ev_tmp h24))
      case z200 =>
      rintro vn wq a ⟨hOn, lq⟩ F0
      replace hs := F0.z.trans hs
      replace hd := F0.e.trans hd
      replace h1 := (F0.n 1 (by decide)).trans h1
      replace h3 := (F0.n 3 (by decide)).trans h3
      replace h21 := (F0.n 21 (by decide)).trans h21
      clear h24
      have h25 := F0.s
      clear F0
      clear hx hc
      replace Br := Br.below lq Br.lt
      replace hb := hb.trans (lq.mono hb.size)
      clear lq
      have hc := lpart_any (Rfc.nm 1) _ vn [Lib.itoa iv] wq (by decide) (by simp) (fun x hx => by obtain rfl := List.mem_singleton.1 hx; exact ⟨Nat.le_trans (Lib.itoa_length_le _ hok.iv.1 hok.iv.2) (by omega), Rfc.itoa_ne _⟩) hOn
      have hx := fun ops Q rest d a i h1 h2 h3 => opL_call (P := Tryz.prog) (ops := ops) (Q := Q) (a := a) (w := wq) (rest := rest) i d h1 h2 h3 hc
      refine hx _ _ _ 26 _ 5 ?z201a ?z201b ?z201 ?z202
      case z201a => kernel_rfl
      case z201b => (rw [hs]; decide)
      case z201 => exact frY rfl (c_lPart rfl rfl rfl (ev_tmp h25))
      case z202 =>
      rintro _ wr a ⟨rfl, lr⟩ F0
      rw [Lib.join_one, f1 g1] at F0
      replace hs := F0.z.trans hs
      replace hd := F0.e.trans hd
      replace h1 := (F0.n 1 (by decide)).trans h1
      replace h3 := (F0.n 3 (by decide)).trans h3
      replace h21 := (F0.n 21 (by decide)).trans h21
      clear h25
      have h26 := F0.s
      clear F0
      clear hx hc
      replace Br := Br.below lr Br.lt
      replace hb := hb.trans (lr.mono hb.size)
      clear lr
      refine opL 6 27 (v := .string ⟨(((Rfc.nm 0 ++ 61 :: Rfc.fq f.toNat) ++ Rfc.ptn (Rfc.nm 1) (Rfc.num iv 1))).toArray⟩) (w' := wr) (by kernel_rfl) (frZ hs) ?_ ?_
      · exact frY rfl (o_addStr rfl (ev_tmp h21) (ev_tmp h26) y1 (ba_append _ _))
      refine frN2 hs hd h1 h3 ?_; clear hs hd h1 h3 h21 h26; intro a hs hd h1 h3 h27
      refine opL 7 3 (v := .string ⟨(((Rfc.nm 0 ++ 61 :: Rfc.fq f.toNat) ++ Rfc.ptn (Rfc.nm 1) (Rfc.num iv 1))).toArray⟩) (w' := wr) (by kernel_rfl) (frZ hs) ?_ ?_
      · exact frY rfl (k_assign rfl (ev_tmp h27))
      clear h3 h27; revert hs hd h1; refine frM1 ?_; intro a hs hd h1 h3
      exact ⟨hd, hs, h1, h3, Br, hb⟩
  case z184 =>
  clear hs hd Br hb h1 h3 a
  rintro a w2 ⟨hd, hs, h1, h3, Br, hb⟩
  refine wp_seq ?_
  refine cut_at (PrS w w.heap.size #[.int .i64 f, .int .i64 iv, .int .i64 c, .int .i64 u, .slice AM M.length cM, .slice AD D.length cD, .slice AW K.length cW, .slice AP P.length cP] (((Rfc.nm 0 ++ 61 :: Rfc.fq f.toNat) ++ Rfc.ptn (Rfc.nm 1) (Rfc.num iv 1)) ++ Rfc.ptn (Rfc.nm 2) (Rfc.num c 0))) ?z207 ?z208
  case z207 =>
    refine wp_seq ?_
    refine wp_region (show wpOps _ _ _ [0, 1, 2] _ _ from ?_)
    refine opL 0 28 (v := .pointer (some ⟨w.heap.size, 2, none⟩)) (w' := w2) (by kernel_rfl) (frZ hs) ?_ ?_
    · exact frY rfl (k_field2 rfl (ev_tmp h1))
    refine frN2 hs hd h1 h3 ?_; clear hs hd h1 h3; intro a hs hd h1 h3 h28
    refine opL 1 29 (v := .int .i64 c) (w' := w2) (by kernel_rfl) (frZ hs) ?_ ?_
    · exact frY rfl (k_loadI rfl (ev_tmp h28) (Br.cell 2))
    clear h28; revert hs hd h1 h3; refine frM2 ?_; intro a hs hd h1 h3 h29
    refine opL 2 30 (v := .bool (c != 0)) (w' := w2) (by kernel_rfl) (frZ hs) ?_ ?_
    · exact frY rfl (o_neI rfl (ev_tmp h29) rfl rfl)
    clear h29; revert hs hd h1 h3; refine frM2 ?_; intro a hs hd h1 h3 h30
    cases g1 : (c != 0)
    case false =>
      rw [g1] at h30
      refine wp_cond_false (ev_tmp h30) ?_
      refine wp_skip ?_
      exact ⟨hd, hs, h1, h3.trans (congrArg (fun l : List UInt8 => Value.string ⟨l.toArray⟩) (e2 g1)), Br, hb⟩
    case true =>
      rw [g1] at h30
      refine wp_cond_true (ev_tmp h30) ?_
      clear h30
      refine wp_region (show wpOps _ _ _ [0, 1, 2, 3, 4, 5, 6, 7] _ _ from ?_)
      refine opL 0 31 (v := .string ⟨(((Rfc.nm 0 ++ 61 :: Rfc.fq f.toNat) ++ Rfc.ptn (Rfc.nm 1) (Rfc.num iv 1))).toArray⟩) (w' := w2) (by kernel_rfl) (frZ hs) ?_ ?_
      · exact frY rfl (k_move rfl (ev_tmp h3))
      refine frN2 hs hd h1 h3 ?_; clear hs hd h1 h3; intro a hs hd h1 h3 h31
      refine opL 1 32 (v := .pointer (some ⟨w.heap.size, 2, none⟩)) (w' := w2) (by kernel_rfl) (frZ hs) ?_ ?_
      · exact frY rfl (k_field2 rfl (ev_tmp h1))
      revert hs hd h1 h3 h31; refine frM3 ?_; intro a hs hd h1 h3 h31 h32
      refine opL 2 33 (v := .int .i64 c) (w' := w2) (by kernel_rfl) (frZ hs) ?_ ?_
      · exact frY rfl (k_loadI rfl (ev_tmp h32) (Br.cell 2))
      clear h32; revert hs hd h1 h3 h31; refine frM3 ?_; intro a hs hd h1 h3 h31 h33
      refine opL 3 34 (v := .slice (some ⟨w2.heap.size, 0, none⟩) 1 1) (w' := (w2.alloc (.cells #[.int .i64 c] 3))) (by kernel_rfl) (frZ hs) ?_ ?_
      · exact frY rfl (k_slice1 rfl (ev_tmp h33))
      clear h33; revert hs hd h1 h3 h31; refine frM3 ?_; intro a hs hd h1 h3 h31 h34
      obtain ⟨wp, hwp⟩ : ∃ wn, wn = w2.alloc (.cells #[.int .i64 c] 3) := ⟨_, rfl⟩
      rw [← hwp]
      have qp : Blk wp w2.heap.size 3 #[.int .i64 c] := by rw [hwp]; exact Blk.alloc _ _ _
      have lp : Below w2.heap.size w2 wp := by rw [hwp]; exact (Below.refl _ _).alloc (Nat.le_refl _) _
      clear hwp
      replace Br := Br.below lp Br.lt
      replace hb := hb.trans (lp.mono hb.size)
      clear lp
      have hc := lnums_any (some ⟨w2.heap.size, 0, none⟩) 1 [c] wp (hT.below hb).t (ints_one qp) (by simp) (fun x hx => by obtain rfl := List.mem_singleton.1 hx; exact hok.c)
      have hx := fun ops Q rest d a i h1 h2 h3 => opL_call (P := Tryz.prog) (ops := ops) (Q := Q) (a := a) (w := wp) (rest := rest) i d h1 h2 h3 hc
      refine hx _ _ _ 35 _ 4 ?z223a ?z223b ?z223 ?z224
      case z223a => kernel_rfl
      case z223b => (rw [hs]; decide)
      case z223 => exact frY rfl (c_lNum rfl rfl (ev_tmp h34))
      case z224 =>
      rintro vn wq a ⟨hOn, lq⟩ F0
      replace hs := F0.z.trans hs
      replace hd := F0.e.trans hd
      replace h1 := (F0.n 1 (by decide)).trans h1
      replace h3 := (F0.n 3 (by decide)).trans h3
      replace h31 := (F0.n 31 (by decide)).trans h31
      clear h34
      have h35 := F0.s
      clear F0
      clear hx hc
      replace Br := Br.below lq Br.lt
      replace hb := hb.trans (lq.mono hb.size)
      clear lq
      have hc := lpart_any (Rfc.nm 2) _ vn [Lib.itoa c] wq (by decide) (by simp) (fun x hx => by obtain rfl := List.mem_singleton.1 hx; exact ⟨Nat.le_trans (Lib.itoa_length_le _ hok.c.1 hok.c.2) (by omega), Rfc.itoa_ne _⟩) hOn
      have hx := fun ops Q rest d a i h1 h2 h3 => opL_call (P := Tryz.prog) (ops := ops) (Q := Q) (a := a) (w := wq) (rest := rest) i d h1 h2 h3 hc
      refine hx _ _ _ 36 _ 5 ?z225a ?z225b ?z225 ?z226
      case z225a => kernel_rfl
      case z225b => (rw [hs]; decide)
      case z225 => exact frY rfl (c_lPart rfl rfl rfl (ev_tmp h35))
      case z226 =>
      rintro _ wr a ⟨rfl, lr⟩ F0
      rw [Lib.join_one, f2 g1] at F0
      replace hs := F0.z.trans hs
      replace hd := F0.e.trans hd
      replace h1 := (F0.n 1 (by decide)).trans h1
      replace h3 := (F0.n 3 (by decide)).trans h3
      replace h31 := (F0.n 31 (by decide)).trans h31
      clear h35
      have h36 := F0.s
      clear F0
      clear hx hc
      replace Br := Br.below lr Br.lt
      replace hb := hb.trans (lr.mono hb.size)
      clear lr
      refine opL 6 37 (v := .string ⟨((((Rfc.nm 0 ++ 61 :: Rfc.fq f.toNat) ++ Rfc.ptn (Rfc.nm 1) (Rfc.num iv 1)) ++ Rfc.ptn (Rfc.nm 2) (Rfc.num c 0))).toArray⟩) (w' := wr) (by kernel_rfl) (frZ hs) ?_ ?_
      · exact frY rfl (o_addStr rfl (ev_tmp h31) (ev_tmp h36) y2 (ba_append _ _))
      refine frN2 hs hd h1 h3 ?_; clear hs hd h1 h3 h31 h36; intro a hs hd h1 h3 h37
      refine opL 7 3 (v := .string ⟨((((Rfc.nm 0 ++ 61 :: Rfc.fq f.toNat) ++ Rfc.ptn (Rfc.nm 1) (Rfc.num iv 1)) ++ Rfc.ptn (Rfc.nm 2) (Rfc.num c 0))).toArray⟩) (w' := wr) (by kernel_rfl) (frZ hs) ?_ ?_
      · exact frY rfl (k_assign rfl (ev_tmp h37))
      clear h3 h37; revert hs hd h1; refine frM1 ?_; intro a hs hd h1 h3
      exact ⟨hd, hs, h1, h3, Br, hb⟩
  case z208 =>
  clear hs hd Br hb h1 h3 a
  rintro a w3 ⟨hd, hs, h1, h3, Br, hb⟩
  refine wp_seq ?_
  refine cut_at (PrS w w.heap.size #[.int .i64 f, .int .i64 iv, .int .i64 c, .int .i64 u, .slice AM M.length cM, .slice AD D.length cD, .slice AW K.length cW, .slice AP P.length cP] ((((Rfc.nm 0 ++ 61 :: Rfc.fq f.toNat) ++ Rfc.ptn (Rfc.nm 1) (Rfc.num iv 1)) ++ Rfc.ptn (Rfc.nm 2) (Rfc.num c 0)) ++ Rfc.ptn (Rfc.nm 3) (t))) ?z231 ?z232
  case z231 =>
    refine wp_seq ?_
    refine wp_region (show wpOps _ _ _ [0, 1, 2] _ _ from ?_)
    refine opL 0 38 (v := .pointer (some ⟨w.heap.size, 3, none⟩)) (w' := w3) (by kernel_rfl) (frZ hs) ?_ ?_
    · exact frY rfl (k_field3 rfl (ev_tmp h1))
    refine frN2 hs hd h1 h3 ?_; clear hs hd h1 h3; intro a hs hd h1 h3 h38
    refine opL 1 39 (v := .int .i64 u) (w' := w3) (by kernel_rfl) (frZ hs) ?_ ?_
    · exact frY rfl (k_loadU rfl (ev_tmp h38) (Br.cell 3))
    clear h38; revert hs hd h1 h3; refine frM2 ?_; intro a hs hd h1 h3 h39
    refine opL 2 40 (v := .bool (u != 0)) (w' := w3) (by kernel_rfl) (frZ hs) ?_ ?_
    · exact frY rfl (k_neU rfl (ev_tmp h39) rfl rfl)
    clear h39; revert hs hd h1 h3; refine frM2 ?_; intro a hs hd h1 h3 h40
    cases g1 : (u != 0)
    case false =>
      rw [g1] at h40
      refine wp_cond_false (ev_tmp h40) ?_
      refine wp_skip ?_
      exact ⟨hd, hs, h1, h3.trans (congrArg (fun l : List UInt8 => Value.string ⟨l.toArray⟩) (e3 g1)), Br, hb⟩
    case true =>
      rw [g1] at h40
      refine wp_cond_true (ev_tmp h40) ?_
      clear h40
      obtain ⟨y, m, d, hIs, ht⟩ := hu3 g1
      have hyy := hIs.1
      have bnd : (1 ≤ y ∧ y ≤ 9999) ∧ (1 ≤ m ∧ m ≤ 12) ∧ (1 ≤ d ∧ d ≤ 31) := by
        obtain ⟨a1, a2, a3, a4, a5, a6, a7⟩ := hIs
        have := Cal.dim_le y m
        omega
      clear hyy
      obtain ⟨by1, bm1, bd1⟩ := bnd
      refine wp_seq ?_
      refine wp_region (show wpOps _ _ _ [0, 1, 2, 3, 4, 5, 6, 7, 8, 9] _ _ from ?_)
      refine opL 0 42 (v := .pointer (some ⟨w.heap.size, 3, none⟩)) (w' := w3) (by kernel_rfl) (frZ hs) ?_ ?_
      · exact frY rfl (k_field3 rfl (ev_tmp h1))
      refine frN2 hs hd h1 h3 ?_; clear hs hd h1 h3; intro a hs hd h1 h3 h42
      refine opL 1 43 (v := .int .i64 u) (w' := w3) (by kernel_rfl) (frZ hs) ?_ ?_
      · exact frY rfl (k_loadU rfl (ev_tmp h42) (Br.cell 3))
      clear h42; revert hs hd h1 h3; refine frM2 ?_; intro a hs hd h1 h3 h43
      have hc := lawDate_any' u y m d w3 hIs
      have hx := fun ops Q rest d a i h1 h2 h3 => opL_call (P := Tryz.prog) (ops := ops) (Q := Q) (a := a) (w := w3) (rest := rest) i d h1 h2 h3 hc
      refine hx _ _ _ 44 _ 2 ?z243a ?z243b ?z243 ?z244
      case z243a => kernel_rfl
      case z243b => (rw [hs]; decide)
      case z243 => exact frY rfl (c_lDate rfl rfl (ev_tmp h43))
      case z244 =>
      rintro _ wq a ⟨rfl, lq⟩ F0
      replace hs := F0.z.trans hs
      replace hd := F0.e.trans hd
      replace h1 := (F0.n 1 (by decide)).trans h1
      replace h3 := (F0.n 3 (by decide)).trans h3
      clear h43
      have h44 := F0.s
      clear F0
      clear hx hc
      replace Br := Br.below lq Br.lt
      replace hb := hb.trans (lq.mono hb.size)
      clear lq
      refine opL 3 41 (v := .tuple #[.int .i64 y, .int .i64 m, .int .i64 d]) (w' := wq) (by kernel_rfl) (frZ hs) ?_ ?_
      · exact frY rfl (k_move rfl (ev_tmp h44))
      refine frN2 hs hd h1 h3 ?_; clear hs hd h1 h3 h44; intro a hs hd h1 h3 h41
      refine opL 4 45 (v := .int .i64 y) (w' := wq) (by kernel_rfl) (frZ hs) ?_ ?_
      · exact frY rfl (k_extract rfl (ev_tmp h41) rfl)
      revert hs hd h1 h3 h41; refine frM3 ?_; intro a hs hd h1 h3 h41 h45
      refine opL 5 46 (v := .int .i64 m) (w' := wq) (by kernel_rfl) (frZ hs) ?_ ?_
      · exact frY rfl (k_extract rfl (ev_tmp h41) rfl)
      revert hs hd h1 h3 h41 h45; refine frM4 ?_; intro a hs hd h1 h3 h41 h45 h46
      refine opL 6 47 (v := .int .i64 d) (w' := wq) (by kernel_rfl) (frZ hs) ?_ ?_
      · exact frY rfl (k_extract rfl (ev_tmp h41) rfl)
      clear h41; revert hs hd h1 h3 h45 h46; refine frM4 ?_; intro a hs hd h1 h3 h45 h46 h47
      refine opL 7 4 (v := .int .i64 y) (w' := wq) (by kernel_rfl) (frZ hs) ?_ ?_
      · exact frY rfl (k_assign rfl (ev_tmp h45))
      clear h45; revert hs hd h1 h3 h46 h47; refine frM4 ?_; intro a hs hd h1 h3 h46 h47 h4
      refine opL 8 5 (v := .int .i64 m) (w' := wq) (by kernel_rfl) (frZ hs) ?_ ?_
      · exact frY rfl (k_assign rfl (ev_tmp h46))
      clear h46; revert hs hd h1 h3 h47 h4; refine frM4 ?_; intro a hs hd h1 h3 h47 h4 h5
      refine opL 9 6 (v := .int .i64 d) (w' := wq) (by kernel_rfl) (frZ hs) ?_ ?_
      · exact frY rfl (k_assign rfl (ev_tmp h47))
      clear h47; revert hs hd h1 h3 h4 h5; refine frM4 ?_; intro a hs hd h1 h3 h4 h5 h6
      refine wp_seq ?_
      refine wp_region (show wpOps _ _ _ [0, 1, 2, 3, 4, 5, 6, 7, 8, 9] _ _ from ?_)
      refine opL 0 48 (v := .int .i64 y) (w' := wq) (by kernel_rfl) (frZ hs) ?_ ?_
      · exact frY rfl (k_move rfl (ev_tmp h4))
      revert hs hd h1 h3 h4 h5 h6; refine frM5 ?_; intro a hs hd h1 h3 h4 h5 h6 h48
      refine opL 1 49 (v := .int .i64 (10000 * y)) (w' := wq) (by kernel_rfl) (frZ hs) ?_ ?_
      · exact frY rfl (o_mulI rfl rfl (ev_tmp h48) (wrap_small (by omega) (by omega)))
      clear h48; revert hs hd h1 h3 h4 h5 h6; refine frM5 ?_; intro a hs hd h1 h3 h4 h5 h6 h49
      refine opL 2 50 (v := .int .i64 (100000000 + 10000 * y)) (w' := wq) (by kernel_rfl) (frZ hs) ?_ ?_
      · exact frY rfl (o_addI rfl rfl (ev_tmp h49) (wrap_small (by omega) (by omega)))
      clear h49; revert hs hd h1 h3 h4 h5 h6; refine frM5 ?_; intro a hs hd h1 h3 h4 h5 h6 h50
      refine opL 3 51 (v := .int .i64 m) (w' := wq) (by kernel_rfl) (frZ hs) ?_ ?_
      · exact frY rfl (k_move rfl (ev_tmp h5))
      revert hs hd h1 h3 h4 h5 h6 h50; refine frM6 ?_; intro a hs hd h1 h3 h4 h5 h6 h50 h51
      refine opL 4 52 (v := .int .i64 (100 * m)) (w' := wq) (by kernel_rfl) (frZ hs) ?_ ?_
      · exact frY rfl (o_mulI rfl rfl (ev_tmp h51) (wrap_small (by omega) (by omega)))
      clear h51; revert hs hd h1 h3 h4 h5 h6 h50; refine frM6 ?_; intro a hs hd h1 h3 h4 h5 h6 h50 h52
      refine opL 5 53 (v := .int .i64 (100000000 + 10000 * y + 100 * m)) (w' := wq) (by kernel_rfl) (frZ hs) ?_ ?_
      · exact frY rfl (o_addI rfl (ev_tmp h50) (ev_tmp h52) (wrap_small (by omega) (by omega)))
      clear h50 h52; revert hs hd h1 h3 h4 h5 h6; refine frM5 ?_; intro a hs hd h1 h3 h4 h5 h6 h53
      refine opL 6 54 (v := .int .i64 d) (w' := wq) (by kernel_rfl) (frZ hs) ?_ ?_
      · exact frY rfl (k_move rfl (ev_tmp h6))
      revert hs hd h1 h3 h4 h5 h6 h53; refine frM6 ?_; intro a hs hd h1 h3 h4 h5 h6 h53 h54
      refine opL 7 55 (v := .int .i64 (100000000 + 10000 * y + 100 * m + d)) (w' := wq) (by kernel_rfl) (frZ hs) ?_ ?_
      · exact frY rfl (o_addI rfl (ev_tmp h53) (ev_tmp h54) (wrap_small (by omega) (by omega)))
      clear h53 h54; revert hs hd h1 h3 h4 h5 h6; refine frM5 ?_; intro a hs hd h1 h3 h4 h5 h6 h55
      have hc := itoa_any (100000000 + 10000 * y + 100 * m + d) wq (hT.below hb).t (by omega)
      have hx := fun ops Q rest d a i h1 h2 h3 => opL_call (P := Tryz.prog) (ops := ops) (Q := Q) (a := a) (w := wq) (rest := rest) i d h1 h2 h3 hc
      refine hx _ _ _ 56 _ 8 ?z275a ?z275b ?z275 ?z276
      case z275a => kernel_rfl
      case z275b => (rw [hs]; decide)
      case z275 => exact frY rfl (c_Itoa rfl rfl (ev_tmp h55))
      case z276 =>
      rintro _ wr a ⟨rfl, lr⟩ F0
      rw [Rfc.itoa_date y m d by1 bm1 bd1] at F0
      replace hs := F0.z.trans hs
      replace hd := F0.e.trans hd
      replace h1 := (F0.n 1 (by decide)).trans h1
      replace h3 := (F0.n 3 (by decide)).trans h3
      replace h4 := (F0.n 4 (by decide)).trans h4
      replace h5 := (F0.n 5 (by decide)).trans h5
      replace h6 := (F0.n 6 (by decide)).trans h6
      clear h55
      have h56 := F0.s
      clear F0
      clear hx hc
      replace Br := Br.below lr Br.lt
      replace hb := hb.trans (lr.mono hb.size)
      clear lr
      refine opL 9 7 (v := .string ⟨(49 :: Rfc.date y m d).toArray⟩) (w' := wr) (by kernel_rfl) (frZ hs) ?_ ?_
      · exact frY rfl (k_assign rfl (ev_tmp h56))
      refine frN5 hs hd h1 h3 h4 h5 h6 ?_; clear hs hd h1 h3 h4 h5 h6 h56; intro a hs hd h1 h3 h4 h5 h6 h7
      refine wp_region (show wpOps _ _ _ [0, 1, 2, 3, 4, 5] _ _ from ?_)
      refine opL 0 57 (v := .string ⟨((((Rfc.nm 0 ++ 61 :: Rfc.fq f.toNat) ++ Rfc.ptn (Rfc.nm 1) (Rfc.num iv 1)) ++ Rfc.ptn (Rfc.nm 2) (Rfc.num c 0))).toArray⟩) (w' := wr) (by kernel_rfl) (frZ hs) ?_ ?_
      · exact frY rfl (k_move rfl (ev_tmp h3))
      revert hs hd h1 h3 h4 h5 h6 h7; refine frM6 ?_; intro a hs hd h1 h3 h4 h5 h6 h7 h57
      refine opL 1 58 (v := .string ⟨(49 :: Rfc.date y m d).toArray⟩) (w' := wr) (by kernel_rfl) (frZ hs) ?_ ?_
      · exact frY rfl (k_move rfl (ev_tmp h7))
      revert hs hd h1 h3 h4 h5 h6 h7 h57; refine frM7 ?_; intro a hs hd h1 h3 h4 h5 h6 h7 h57 h58
      refine opL 2 59 (v := .string ⟨(Rfc.date y m d).toArray⟩) (w' := wr) (by kernel_rfl) (frZ hs) ?_ ?_
      · exact frY rfl (sl_date rfl (ev_tmp h58) rfl)
      clear h58; revert hs hd h1 h3 h4 h5 h6 h7 h57; refine frM7 ?_; intro a hs hd h1 h3 h4 h5 h6 h7 h57 h59
      refine opL 3 60 (v := .string ⟨(Rfc.ptn (Rfc.nm 3) t).toArray⟩) (w' := wr) (by kernel_rfl) (frZ hs) ?_ ?_
      · exact frY rfl (o_addStr rfl rfl (ev_tmp h59) (by show 7 + (⟨(Rfc.date y m d).toArray⟩ : ByteArray).size ≤ _; rw [ba_len]; show 7 + 8 ≤ _; omega) (by rw [ht]; exact ba_append [59, 85, 78, 84, 73, 76, 61] _))
      clear h59; revert hs hd h1 h3 h4 h5 h6 h7 h57; refine frM7 ?_; intro a hs hd h1 h3 h4 h5 h6 h7 h57 h60
      refine opL 4 61 (v := .string ⟨(((((Rfc.nm 0 ++ 61 :: Rfc.fq f.toNat) ++ Rfc.ptn (Rfc.nm 1) (Rfc.num iv 1)) ++ Rfc.ptn (Rfc.nm 2) (Rfc.num c 0)) ++ Rfc.ptn (Rfc.nm 3) (t))).toArray⟩) (w' := wr) (by kernel_rfl) (frZ hs) ?_ ?_
      · exact frY rfl (o_addStr rfl (ev_tmp h57) (ev_tmp h60) y3 (ba_append _ _))
      clear h57 h60; revert hs hd h1 h3 h4 h5 h6 h7; refine frM6 ?_; intro a hs hd h1 h3 h4 h5 h6 h7 h61
      refine opL 5 3 (v := .string ⟨(((((Rfc.nm 0 ++ 61 :: Rfc.fq f.toNat) ++ Rfc.ptn (Rfc.nm 1) (Rfc.num iv 1)) ++ Rfc.ptn (Rfc.nm 2) (Rfc.num c 0)) ++ Rfc.ptn (Rfc.nm 3) (t))).toArray⟩) (w' := wr) (by kernel_rfl) (frZ hs) ?_ ?_
      · exact frY rfl (k_assign rfl (ev_tmp h61))
      clear h3 h61; revert hs hd h1 h4 h5 h6 h7; refine frM5 ?_; intro a hs hd h1 h4 h5 h6 h7 h3
      exact ⟨hd, hs, h1, h3, Br, hb⟩
  case z232 =>
  clear hs hd Br hb h1 h3 a
  rintro a w4 ⟨hd, hs, h1, h3, Br, hb⟩
  refine wp_seq ?_
  refine wp_region (show wpOps _ _ _ [0] _ _ from ?_)
  refine opL 0 8 (v := .slice none 0 0) (w' := w4) (by kernel_rfl) (frZ hs) ?_ ?_
  · exact frY rfl (k_assign rfl rfl)
  refine frN2 hs hd h1 h3 ?_; clear hs hd h1 h3; intro a hs hd h1 h3 h8
  refine wp_seq ?_
  refine wp_seq ?_
  refine wp_region (show wpOps _ _ _ [0, 1, 2, 3] _ _ from ?_)
  refine opL 0 62 (v := .pointer (some ⟨w.heap.size, 6, none⟩)) (w' := w4) (by kernel_rfl) (frZ hs) ?_ ?_
  · exact frY rfl (k_field6 rfl (ev_tmp h1))
  revert hs hd h1 h3 h8; refine frM3 ?_; intro a hs hd h1 h3 h8 h62
  refine opL 1 63 (v := .slice AW K.length cW) (w' := w4) (by kernel_rfl) (frZ hs) ?_ ?_
  · exact frY rfl (k_loadW rfl (ev_tmp h62) (Br.cell 6))
  clear h62; revert hs hd h1 h3 h8; refine frM3 ?_; intro a hs hd h1 h3 h8 h63
  refine opL 2 64 (v := .int .i64 K.length) (w' := w4) (by kernel_rfl) (frZ hs) ?_ ?_
  · exact frY rfl (k_lenW rfl (ev_tmp h63))
  revert hs hd h1 h3 h8 h63; refine frM4 ?_; intro a hs hd h1 h3 h8 h63 h64
  refine opL 3 65 (v := .int .i64 0) (w' := w4) (by kernel_rfl) (frZ hs) ?_ ?_
  · exact frY rfl (k_move rfl rfl)
  revert hs hd h1 h3 h8 h63 h64; refine frM5 ?_; intro a hs hd h1 h3 h8 h63 h64 h65
  refine wp_block ?_
  refine wp_loop (fun a wx => ∃ i A' cap, LpDy w w.heap.size w4.heap.size f iv c u t AM AD AW AP cM cD cW cP M D K P i A' cap a wx) (fun a _ => (K.length - intOf (a.tmps.getD 65 undef)).toNat) ⟨0, none, 0, ⟨hd, hs, h1, h3, h8, h63, h64, h65, Nat.zero_le _, OwnS.nil _ _, Br, ⟨Br.lt, Nat.le_refl _, Nat.le_refl _⟩, hb⟩⟩ ?_
  clear hs hd Br hb h1 h3 h8 h63 h64 h65 a
  rintro a wx ⟨i, A', cap, J⟩
  by_cases hlt : i < K.length
  · cases hne : (K[i].1 != 0)
    · exact lpr_bare w _ _ f iv c u t AM AD AW AP cM cD cW cP M D K P hT hL.k hok.lk hok.k i A' cap a wx _ J hlt hne
    · exact lpr_nth w _ _ f iv c u t AM AD AW AP cM cD cW cP M D K P hT hL.k hok.lk hok.k i A' cap a wx _ J hlt hne
  obtain ⟨hd, hs, h1, h3, h8, h63, h64, h65, hi, hO, Br, bs, hb⟩ := J
  obtain rfl : i = K.length := by omega
  rw [List.take_length] at h8 hO
  clear h63
  refine wp_seq ?_
  refine wp_region (show wpOps _ _ _ [0] _ _ from ?_)
  refine opL 0 66 (v := .bool false) (w' := wx) (by kernel_rfl) (frZ hs) ?_ ?_
  · exact frY rfl (o_ltI rfl (ev_tmp h65) (ev_tmp h64) (decide_eq_false (by omega)))
  refine frN5 hs hd h1 h3 h8 h64 h65 ?_; clear hs hd h1 h3 h8 h64 h65; intro a hs hd h1 h3 h8 h64 h65 h66
  refine wp_seq ?_
  refine wp_cond_false (ev_tmp h66) ?_
  refine wp_exit ?_
  change Code.wp _ _ _ _ _
  refine wp_seq ?_
  have hx := fun Q hQ => regLpr19 a wx Q hQ _ _ f iv c u t AM AD AW AP cM cD cW cP M D K P A' cap _ hd hs h1 h3 h8 (hT.below hb) (hL.below hb) hok Br hO
  refine hx _ ?z303 ?z304
  case z303 => (repeat (first | exact hQ | refine blind_then ?_ | refine blind_block ?_))
  case z304 =>
  intro a'' wf f1 f2 lf
  refine wp_ret ?_
  exact hfin a'' wf _ f1 f2 (by rw [Rfc.text_ptn]) (hb.trans (lf.mono hb.size))

end Go.Proofs.YtocpmljkmdpfkaaGreatDoor
