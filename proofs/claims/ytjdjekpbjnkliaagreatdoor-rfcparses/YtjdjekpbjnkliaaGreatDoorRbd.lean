/-
  Plain: a day's eight digits as a number; a weekday's text by its last two bytes.
-/
import Derived.Test.YtjdjekpbjnkliaaGreatDoorRb5
import Derived.Test.YtjdjekpbjnkliaaGreatDoorRb3
import Derived.Test.YtjdjekpbjnkliaaGreatDoorRf0
import Derived.Test.YtjdjekpbjnkliaaGreatDoorRb9
namespace Go.Proofs.YtjdjekpbjnkliaaGreatDoor
namespace Rfc
theorem puint_dv : ∀ (n : Nat) (l : List UInt8), l.length = n → n ≤ 18 → Dig l → Lib.parseUint10 0 l = .ok (dv l)
  | 0, l, h, _, _ => by rw [List.eq_nil_of_length_eq_zero h]; rfl
  | n + 1, l, h, hn, hd => by
    rcases snoc_cases l with rfl | ⟨m, c, rfl⟩
    · cases h
    · have hm : m.length = n := by simpa using h
      have hdm : Dig m := fun x hx => hd x (List.mem_append_left _ hx)
      have ih := puint_dv n m hm (by omega) hdm
      have hc := hd c (by simp)
      have hb := dv_lt n m hm hdm
      have hp : (10 : Nat) ^ n ≤ 10 ^ 18 := Nat.pow_le_pow_right (by omega) (by omega)
      rw [puint_snoc hc m 0 _ ih (by omega), dv_snoc]
      congr 1
      omega
theorem atoi_dig {s : List UInt8} (h0 : s ≠ []) (hl : s.length ≤ 18) (hd : Dig s) : Lib.atoiAll s = .ok (dv s : Int) := by
  cases s with
  | nil => exact absurd rfl h0
  | cons c r =>
    have hc := hd c (by simp)
    have hm : Lib.parseMag (c :: r) = .ok (dv (c :: r)) := by
      unfold Lib.parseMag
      rw [if_neg (by simp)]
      exact puint_dv _ _ rfl hl hd
    have hb := dv_lt _ (c :: r) rfl hd
    have hp : (10 : Nat) ^ (c :: r).length ≤ 10 ^ 18 := Nat.pow_le_pow_right (by omega) hl
    rw [Lib.atoiAll_plain c r (by omega) (by omega), hm]
    simp only [Lib.signless]
    rw [if_neg (by omega)]
theorem date_dig (y m d : Int) : Dig (date y m d) := by
  intro c hc
  have one : ∀ n : Int, 48 ≤ (dig n).toNat ∧ (dig n).toNat ≤ 57 := fun n => by have := dig_toNat n; omega
  simp only [date, List.mem_cons, List.not_mem_nil, or_false] at hc
  rcases hc with rfl | rfl | rfl | rfl | rfl | rfl | rfl | rfl <;> exact one _
theorem dv8 (b0 b1 b2 b3 b4 b5 b6 b7 : UInt8) : dv [b0, b1, b2, b3, b4, b5, b6, b7] = 10000000 * (b0.toNat - 48) + 1000000 * (b1.toNat - 48) + 100000 * (b2.toNat - 48) + 10000 * (b3.toNat - 48) + 1000 * (b4.toNat - 48) + 100 * (b5.toNat - 48) + 10 * (b6.toNat - 48) + (b7.toNat - 48) := by
  simp only [dv, List.foldl_cons, List.foldl_nil]
  omega
theorem dv_date {y m d : Int} (hy : 1 ≤ y ∧ y ≤ 9999) (hm : 1 ≤ m ∧ m ≤ 12) (hd : 1 ≤ d ∧ d ≤ 31) : (dv (date y m d) : Int) = 10000 * y + 100 * m + d := by
  have a0 := dig_toNat (y / 1000); have a1 := dig_toNat (y / 100); have a2 := dig_toNat (y / 10); have a3 := dig_toNat y
  have a4 := dig_toNat (m / 10); have a5 := dig_toNat m; have a6 := dig_toNat (d / 10); have a7 := dig_toNat d
  unfold date
  rw [dv8]
  omega
theorem date_of (s : List UInt8) (h8 : s.length = 8) (hd : Dig s) : date ((dv s / 10000 : Nat) : Int) ((dv s / 100 % 100 : Nat) : Int) ((dv s % 100 : Nat) : Int) = s := by
  obtain ⟨b0, b1, b2, b3, b4, b5, b6, b7, rfl⟩ := eight s h8
  have e0 := hd b0 (by simp); have e1 := hd b1 (by simp); have e2 := hd b2 (by simp); have e3 := hd b3 (by simp); have e4 := hd b4 (by simp); have e5 := hd b5 (by simp); have e6 := hd b6 (by simp); have e7 := hd b7 (by simp)
  have hv := dv8 b0 b1 b2 b3 b4 b5 b6 b7
  generalize dv [b0, b1, b2, b3, b4, b5, b6, b7] = N at hv
  have q : ∀ (n : Int) (b : UInt8), n % 10 = (b.toNat : Int) - 48 → dig n = b := fun n b h => by
    apply UInt8.toNat_inj.1
    have := dig_toNat n
    omega
  unfold date
  rw [q _ b0 (by omega), q _ b1 (by omega), q _ b2 (by omega), q _ b3 (by omega), q _ b4 (by omega), q _ b5 (by omega), q _ b6 (by omega), q _ b7 (by omega)]
theorem pday_len {s : List UInt8} (h : s.length ≠ 8) : pday s = none := pday_no (fun ⟨_, _, _, _, _, e⟩ => h (by rw [e]; rfl))
theorem pday_dig {s : List UInt8} (h : ¬ Dig s) : pday s = none := pday_no (fun ⟨_, y, m, d, _, e⟩ => h (by rw [e]; exact date_dig y m d))
theorem pday_good {s : List UInt8} (h8 : s.length = 8) (hd : Dig s) (g1 : 1 ≤ dv s / 10000) (g2 : 1 ≤ dv s / 100 % 100) (g3 : dv s / 100 % 100 ≤ 12) (g4 : 1 ≤ dv s % 100) (g5 : ((dv s % 100 : Nat) : Int) ≤ Cal.dim ((dv s / 10000 : Nat) : Int) ((dv s / 100 % 100 : Nat) : Int)) :
    pday s = some (Cal.num ((dv s / 10000 : Nat) : Int) ((dv s / 100 % 100 : Nat) : Int) ((dv s % 100 : Nat) : Int)) := by
  have hb := dv_lt 8 s h8 hd
  have h := pday_yes (Cal.is_num (y := ((dv s / 10000 : Nat) : Int)) (m := ((dv s / 100 % 100 : Nat) : Int)) (d := ((dv s % 100 : Nat) : Int)) (by omega) (by omega) (by omega) (by omega) (by omega) g5)
  rwa [date_of s h8 hd] at h
theorem pday_bad {s : List UInt8} (g : ¬ (1 ≤ dv s / 10000 ∧ 1 ≤ dv s / 100 % 100 ∧ dv s / 100 % 100 ≤ 12 ∧ 1 ≤ dv s % 100 ∧ ((dv s % 100 : Nat) : Int) ≤ Cal.dim ((dv s / 10000 : Nat) : Int) ((dv s / 100 % 100 : Nat) : Int))) : pday s = none := pday_no (fun ⟨n, y, m, d, hI, e⟩ => g (by
  obtain ⟨i1, i2, i3, i4, i5, i6, -⟩ := hI
  have hdm := Cal.dim_le y m
  have hv := dv_date (y := y) (m := m) (d := d) ⟨i1, i2⟩ ⟨i3, i4⟩ ⟨i5, by omega⟩
  rw [← e] at hv
  have e1 : ((dv s / 10000 : Nat) : Int) = y := by omega
  have e2 : ((dv s / 100 % 100 : Nat) : Int) = m := by omega
  have e3 : ((dv s % 100 : Nat) : Int) = d := by omega
  refine ⟨by omega, by omega, by omega, by omega, ?_⟩
  rw [e1, e2, e3]
  exact i6))
theorem pday_facts {s : List UInt8} (h8 : s.length = 8) (hd : Dig s) : ∃ Y M D : Int, IntKind.i64.wrap ((dv s : Int).tdiv 10000) = Y ∧ (∃ H : Int, IntKind.i64.wrap ((dv s : Int).tdiv 100) = H ∧ H.tmod 100 = M) ∧ (dv s : Int).tmod 100 = D ∧ (0 ≤ Y ∧ Y ≤ 9999) ∧ (0 ≤ M ∧ M ≤ 99) ∧ (0 ≤ D ∧ D ≤ 99) ∧
    (1 ≤ Y → 1 ≤ M → M ≤ 12 → 1 ≤ D → D ≤ Cal.dim Y M → pday s = some (Cal.num Y M D)) ∧ (¬ (1 ≤ Y ∧ 1 ≤ M ∧ M ≤ 12 ∧ 1 ≤ D ∧ D ≤ Cal.dim Y M) → pday s = none) := by
  have hb := dv_lt 8 s h8 hd
  have q1 : (dv s : Int).tdiv 10000 = ((dv s / 10000 : Nat) : Int) := by rw [Int.tdiv_eq_ediv_of_nonneg (by omega)]; omega
  have q2 : (dv s : Int).tdiv 100 = ((dv s / 100 : Nat) : Int) := by rw [Int.tdiv_eq_ediv_of_nonneg (by omega)]; omega
  have q3 : (dv s : Int).tmod 100 = ((dv s % 100 : Nat) : Int) := by rw [Int.tmod_eq_emod_of_nonneg (by omega)]; omega
  have q4 : ((dv s / 100 : Nat) : Int).tmod 100 = ((dv s / 100 % 100 : Nat) : Int) := by rw [Int.tmod_eq_emod_of_nonneg (by omega)]; omega
  refine ⟨((dv s / 10000 : Nat) : Int), ((dv s / 100 % 100 : Nat) : Int), ((dv s % 100 : Nat) : Int), ?_, ⟨((dv s / 100 : Nat) : Int), ?_, q4⟩, q3, ⟨by omega, by omega⟩, ⟨by omega, by omega⟩, ⟨by omega, by omega⟩, fun g1 g2 g3 g4 g5 => ?_, fun g => ?_⟩
  · rw [q1]; exact wrap_small (by omega) (by omega)
  · rw [q2]; exact wrap_small (by omega) (by omega)
  · exact pday_good h8 hd (by omega) (by omega) (by omega) (by omega) g5
  · exact pday_bad (fun h => g ⟨by omega, by omega, by omega, by omega, h.2.2.2.2⟩)
theorem suf_two (p q : List UInt8) (hq : q.length = 2) (i : Nat) : Lib.hasSuffix (p ++ q) (wd i) = (wd i == q) := by
  unfold Lib.hasSuffix
  rw [Bool.eq_iff_iff, List.isSuffixOf_iff_suffix, beq_iff_eq]
  constructor
  · rintro ⟨t, e⟩
    exact (List.append_inj' e (by rw [wd_len, hq])).2
  · intro e
    exact ⟨p, by rw [e]⟩
theorem pwd_hit (p : List UInt8) (d : Nat) (hd : d ≤ 6) : pwd (p ++ wd d) = if p = [] then ((0, (d : Int)), true) else (((pnz p).getD 0, (d : Int)), (pnz p).isSome) := by
  have h0 := pwd_to p d hd d 0 (by omega)
  have hs : Lib.hasSuffix (p ++ wd d) (wd d) = true := by rw [suf_wd _ hd hd]; simp
  unfold pwd
  rw [Nat.sub_zero] at h0
  rw [h0]
  split
  · rename_i h
    rw [pwd_bare (by omega) hs (by rw [trim_wd _ hd]; exact h)]
  · rename_i h
    rw [pwd_num (by omega) hs (by rw [trim_wd _ hd]; exact h), trim_wd _ hd]
theorem pwd_miss {s : List UInt8} (h : ∀ i ≤ 6, Lib.hasSuffix s (wd i) = false) : ∀ (k i : Nat), i + k = 7 → pwdF s i k = ((0, 0), false)
  | 0, _, _ => rfl
  | k + 1, i, e => by
    rw [pwdF, if_neg (by rw [h i (by omega)]; decide)]
    exact pwd_miss h k (i + 1) (by omega)
theorem pw_short {s : List UInt8} (h : s.length < 2) : pw s = none := by
  have hm := pwd_miss (s := s) (fun i _ => by
    rw [Bool.eq_false_iff]
    intro e
    obtain ⟨t, rfl⟩ := List.isSuffixOf_iff_suffix.1 (show (wd i).isSuffixOf s = true from e)
    rw [List.length_append, wd_len] at h
    omega) 7 0 rfl
  unfold pw pwd
  rw [hm]
  rfl
theorem pw_none {p q : List UInt8} (hq : q.length = 2) (h : ∀ i ≤ 6, wd i ≠ q) : pw (p ++ q) = none := by
  have hm := pwd_miss (s := p ++ q) (fun i hi => by rw [suf_two p q hq i, beq_eq_false_iff_ne]; exact h i hi) 7 0 rfl
  unfold pw pwd
  rw [hm]
  rfl
theorem pw_hit (p : List UInt8) (d : Nat) (hd : d ≤ 6) : pw (p ++ wd d) = if p = [] then some (0, (d : Int)) else (pnz p).map (fun n => (n, (d : Int))) := by
  unfold pw
  rw [pwd_hit p d hd]
  split
  · rfl
  · cases pnz p <;> rfl
end Rfc
end Go.Proofs.YtjdjekpbjnkliaaGreatDoor
namespace Go.Proofs.YtjdjekpbjnkliaaGreatDoor
open Go.RowKit
theorem not_late {x : Bool} {p : Prop} (h : x = true) : x = false → p := fun e => by rw [h] at e; cases e
section
variable {P : Program} {ops : Array Oper} {Q : Exit → Act → World → Prop} {z : Nat} {C : World → Prop}
def wpAnyZ (P : Program) (ops : Array Oper) (Q : Exit → Act → World → Prop) (z : Nat) (C : World → Prop) : Nat → Array Bool → Act → World → Prop
  | 0, listed, a, w => Region.ready .any ops listed = [] ∧ Q .normal a w
  | fuel + 1, listed, a, w => (Region.ready .any ops listed = [] → Q .normal a w) ∧
    ∀ i ∈ Region.ready .any ops listed, wpOp P ops Q i (fun a' w' => ((listed.setIfInBounds i true).getD z true = false → C w') ∧ wpAnyZ P ops Q z C fuel (listed.setIfInBounds i true) a' w') a w
theorem any_of_late : ∀ (fuel : Nat) (listed : Array Bool) (a : Act) (w : World), wpAnyZ P ops Q z C fuel listed a w → wpAny P .any ops Q fuel listed a w
  | 0, _, _, _, h => h
  | fuel + 1, _, _, _, h => ⟨h.1, fun i hi => wpOp_mono (fun a' w' h' => any_of_late fuel _ a' w' h'.2) (h.2 i hi)⟩
theorem late_first {i : Nat} {oi oz : Oper} {v : Value} (hi : ops[i]? = some oi) (hz : ops[z]? = some oz) (hzi : ∃ e ∈ oz.after, Region.binds .any e = true ∧ e.on = i) (hsel : ∀ (j : Nat) (o : Oper) cs b, ops[j]? = some o → o.op ≠ .select cs b)
    (hQ : ∀ c a w, Q (.panic c) (a.put oi.dst v) w → Q (.panic c) a w) :
    ∀ (fuel : Nat) (listed : Array Bool) (a : Act) (w : World),
      (∀ j oj, ops[j]? = some oj → j ≠ i → listed.getD j true = false → (∀ e ∈ oj.after, Region.binds .any e = true → e.on ≠ i) → oi.apart ops oj = true) →
      i ∈ Region.ready .any ops listed → YieldsIf P ops C oi v a → C w → listed.getD z true = false →
      wpAnyZ P ops Q z C fuel (listed.setIfInBounds i true) (a.put oi.dst v) w → wpAnyZ P ops Q z C (fuel + 1) listed a w := by
  intro fuel
  have notz : ∀ (listed : Array Bool) (j : Nat), i ∈ Region.ready .any ops listed → j ∈ Region.ready .any ops listed → j ≠ z := by
    intro listed j hr hj e
    subst e
    obtain ⟨_, o, ho, hall⟩ := mem_ready.1 hj
    rw [hz] at ho
    obtain rfl := Option.some.inj ho
    obtain ⟨e, he, hb, hon⟩ := hzi
    have h1 := hall e he hb
    have h0 := (mem_ready.1 hr).1
    rw [hon] at h1
    rcases Nat.lt_or_ge i listed.size with h' | h'
    · simp [h'] at h0 h1
      rw [h0] at h1
      cases h1
    · simp [Array.getElem?_eq_none h'] at h1
  induction fuel with
  | zero =>
    intro listed a w _ hr hy hC hl H
    refine ⟨fun h => (by rw [h] at hr; cases hr), fun j hj => ?_⟩
    by_cases hji : j = i
    · subst hji; exact hy.wpOp hi hC ⟨fun _ => hC, H⟩
    · have := ready_mono hj hji
      rw [H.1] at this
      cases this
  | succ fuel ih =>
    intro listed a w hfree hr hy hC hl H
    refine ⟨fun h => (by rw [h] at hr; cases hr), fun j hj => ?_⟩
    by_cases hji : j = i
    · subst hji; exact hy.wpOp hi hC ⟨fun _ => hC, H⟩
    · have h1 := H.2 j (ready_mono hj hji)
      have hjz := notz listed j hr hj
      obtain ⟨hjun, oj, hoj, hall⟩ := mem_ready.1 hj
      have hnot : ∀ e ∈ oj.after, Region.binds .any e = true → e.on ≠ i := fun e he hb heq => by
        have h1 := hall e he hb
        have h0 := (mem_ready.1 hr).1
        rw [heq] at h1
        rcases Nat.lt_or_ge i listed.size with h' | h'
        · simp [h'] at h0 h1; rw [h0] at h1; cases h1
        · simp [Array.getElem?_eq_none h'] at h1
      have h2 := wpOp_putIf hoj (hfree j oj hoj hji hjun hnot) (fun cs b => hsel i oi cs b hi) (fun cs b => hsel j oj cs b hoj) hQ hy h1
      have hiz : i ≠ z := by
        intro e
        subst e
        exact notz listed i hr hr rfl
      have hl' : (listed.setIfInBounds j true).getD z true = false := by rw [getD_set_ne true hjz]; exact hl
      have hfree' : ∀ k ok, ops[k]? = some ok → k ≠ i → (listed.setIfInBounds j true).getD k true = false →
          (∀ e ∈ ok.after, Region.binds .any e = true → e.on ≠ i) → oi.apart ops ok = true := fun k ok hk hki hun hno => by
        refine hfree k ok hk hki ?_ hno
        by_cases hjk : j = k
        · subst hjk; exact hjun
        · rw [getD_set_ne true hjk] at hun; exact hun
      refine wpOp_mono (fun a' w' h3 => ?_) h2
      have hC' : C w' := h3.2.1 (by rw [getD_set_ne true hjz, getD_set_ne true hiz]; exact hl)
      refine ⟨fun _ => hC', ih (listed.setIfInBounds j true) a' w' hfree' (ready_mono hr (Ne.symm hji)) h3.1 hC' hl' ?_⟩
      rw [Array.setIfInBounds_comm _ _ hji]
      exact h3.2.2
theorem late_free {i : Nat} {oi : Oper} {v : Value} (hi : ops[i]? = some oi) (hiz : i ≠ z) (hsel : ∀ (j : Nat) (o : Oper) cs b, ops[j]? = some o → o.op ≠ .select cs b)
    (hQ : ∀ c a w, Q (.panic c) (a.put oi.dst v) w → Q (.panic c) a w) :
    ∀ (fuel : Nat) (listed : Array Bool) (a : Act) (w : World),
      (∀ j oj, ops[j]? = some oj → j ≠ i → listed.getD j true = false → (∀ e ∈ oj.after, Region.binds .any e = true → e.on ≠ i) → oi.apart ops oj = true) →
      i ∈ Region.ready .any ops listed → YieldsIf P ops (fun _ => True) oi v a → (listed.getD z true = false → C w) →
      wpAnyZ P ops Q z C fuel (listed.setIfInBounds i true) (a.put oi.dst v) w → wpAnyZ P ops Q z C (fuel + 1) listed a w := by
  intro fuel
  induction fuel with
  | zero =>
    intro listed a w _ hr hy hC H
    refine ⟨fun h => (by rw [h] at hr; cases hr), fun j hj => ?_⟩
    by_cases hji : j = i
    · subst hji
      exact hy.wpOp hi trivial ⟨fun h => hC (by rw [getD_set_ne true hiz] at h; exact h), H⟩
    · have := ready_mono hj hji
      rw [H.1] at this
      cases this
  | succ fuel ih =>
    intro listed a w hfree hr hy hC H
    refine ⟨fun h => (by rw [h] at hr; cases hr), fun j hj => ?_⟩
    by_cases hji : j = i
    · subst hji
      exact hy.wpOp hi trivial ⟨fun h => hC (by rw [getD_set_ne true hiz] at h; exact h), H⟩
    · have h1 := H.2 j (ready_mono hj hji)
      obtain ⟨hjun, oj, hoj, hall⟩ := mem_ready.1 hj
      have hnot : ∀ e ∈ oj.after, Region.binds .any e = true → e.on ≠ i := fun e he hb heq => by
        have h1 := hall e he hb
        have h0 := (mem_ready.1 hr).1
        rw [heq] at h1
        rcases Nat.lt_or_ge i listed.size with h' | h'
        · simp [h'] at h0 h1; rw [h0] at h1; cases h1
        · simp [Array.getElem?_eq_none h'] at h1
      have h2 := wpOp_putIf hoj (hfree j oj hoj hji hjun hnot) (fun cs b => hsel i oi cs b hi) (fun cs b => hsel j oj cs b hoj) hQ hy h1
      have hfree' : ∀ k ok, ops[k]? = some ok → k ≠ i → (listed.setIfInBounds j true).getD k true = false →
          (∀ e ∈ ok.after, Region.binds .any e = true → e.on ≠ i) → oi.apart ops ok = true := fun k ok hk hki hun hno => by
        refine hfree k ok hk hki ?_ hno
        by_cases hjk : j = k
        · subst hjk; exact hjun
        · rw [getD_set_ne true hjk] at hun; exact hun
      refine wpOp_mono (fun a' w' h3 => ?_) h2
      have hC' : (listed.setIfInBounds j true).getD z true = false → C w' := fun h => h3.2.1 (by rw [Array.setIfInBounds_comm _ _ (Ne.symm hji), getD_set_ne true hiz]; exact h)
      refine ⟨hC', ih (listed.setIfInBounds j true) a' w' hfree' (ready_mono hr (Ne.symm hji)) h3.1 hC' ?_⟩
      rw [Array.setIfInBounds_comm _ _ hji]
      exact h3.2.2
theorem wp_region_late {id : Nat} {a : Act} {w : World} (hm : P.follows .mixedOrders = true) (h : wpAnyZ P ops Q z C ops.size (Array.replicate ops.size false) a w.drew) : (Code.region id ops true).wp P Q a w :=
  wp_region_any hm (any_of_late _ _ _ _ h)
theorem late_done {fuel : Nat} {listed : Array Bool} {a : Act} {w : World} (hr : Region.ready .any ops listed = []) (h : Q .normal a w) : wpAnyZ P ops Q z C fuel listed a w := by
  cases fuel with
  | zero => exact ⟨hr, h⟩
  | succ n => exact ⟨fun _ => h, fun i hi => by rw [hr] at hi; cases hi⟩
theorem lateL (i d : Nat) {v : Value} {fuel : Nat} {listed : Array Bool} {a : Act} {w : World} (hQ : Blind Q) (hd : (ops[i]?).map (·.dst) = some (some d)) (hz : d < a.tmps.size) (hs : Region.noSelect ops = true) (hf : Region.free .any ops listed i = true)
    (hr : (Region.ready .any ops listed).contains i = true) (hzi : ((ops[z]?).map fun oz => oz.after.any fun e => Region.binds .any e && e.on == i) = some true) (hl : listed.getD z true = false) (hC : C w)
    (hy : ∀ o, ops[i]? = some o → (Region.wanted o (yielded ops a.tmps) = true ∧ ∀ w, C w → (execOp a.eval o).run P w = .ok (.value v) w) ∨ (Region.wanted o (yielded ops a.tmps) = false ∧ v = undef))
    (h : ∀ a' : Act, Fr d v a a' → wpAnyZ P ops Q z C fuel (listed.setIfInBounds i true) a' w) : wpAnyZ P ops Q z C (fuel + 1) listed a w := by
  obtain ⟨o, ho⟩ := some_of hd
  have e := dst_of hd ho
  cases hoz : ops[z]? with
  | none => rw [hoz] at hzi; cases hzi
  | some oz =>
    rw [hoz] at hzi
    have hzi' : ∃ e ∈ oz.after, Region.binds .any e = true ∧ e.on = i := by
      have q : ∃ (k : Nat), ∃ _ : k < oz.after.size, Region.binds .any oz.after[k] = true ∧ oz.after[k].on = i := by simpa using hzi
      obtain ⟨k, hk, q1, q2⟩ := q
      exact ⟨oz.after[k], Array.getElem_mem hk, q1, q2⟩
    exact late_first ho hoz hzi' (Region.noSelect_spec hs) (fun _ _ _ q => hQ _ _ _ _ q) fuel listed a w (Region.free_spec ho hf) (by simpa using hr) (hy o ho) hC hl (by rw [e]; exact h _ (fr_put hz))
theorem lateF (i d : Nat) {v : Value} {fuel : Nat} {listed : Array Bool} {a : Act} {w : World} (hQ : Blind Q) (hd : (ops[i]?).map (·.dst) = some (some d)) (hz : d < a.tmps.size) (hs : Region.noSelect ops = true) (hf : Region.free .any ops listed i = true)
    (hr : (Region.ready .any ops listed).contains i = true) (hiz : i ≠ z) (hC : listed.getD z true = false → C w)
    (hy : ∀ o, ops[i]? = some o → (Region.wanted o (yielded ops a.tmps) = true ∧ ∀ w, True → (execOp a.eval o).run P w = .ok (.value v) w) ∨ (Region.wanted o (yielded ops a.tmps) = false ∧ v = undef))
    (h : ∀ a' : Act, Fr d v a a' → wpAnyZ P ops Q z C fuel (listed.setIfInBounds i true) a' w) : wpAnyZ P ops Q z C (fuel + 1) listed a w := by
  obtain ⟨o, ho⟩ := some_of hd
  have e := dst_of hd ho
  exact late_free ho hiz (Region.noSelect_spec hs) (fun _ _ _ q => hQ _ _ _ _ q) fuel listed a w (Region.free_spec ho hf) (by simpa using hr) (hy o ho) hC (by rw [e]; exact h _ (fr_put hz))
theorem late_store (i : Nat) {fuel : Nat} {listed : Array Bool} {a : Act} {w w' : World} (hr : Region.ready .any ops listed = [i]) (hd : (ops[i]?).map (·.dst) = some none)
    (hy : ∀ o, ops[i]? = some o → Region.wanted o (yielded ops a.tmps) = true ∧ (execOp a.eval o).run P w = .ok .skip w') (hC : (listed.setIfInBounds i true).getD z true = false → C w')
    (h : wpAnyZ P ops Q z C fuel (listed.setIfInBounds i true) a w') : wpAnyZ P ops Q z C (fuel + 1) listed a w := by
  obtain ⟨o, ho⟩ := some_of hd
  obtain ⟨h1, h2⟩ := hy o ho
  refine ⟨fun e => (by rw [hr] at e; cases e), fun j hj => ?_⟩
  rw [hr] at hj
  obtain rfl := List.mem_singleton.1 hj
  simp only [wpOp, ho, h1, if_true]
  left
  unfold Oper.wp
  rw [h2, Oper.upon_skip, dst_of hd ho]
  exact ⟨hC, h⟩
end
section
variable {P : Program} {ops : Array Oper} {Q : Exit → Act → World → Prop} {S : World → Prop} {fuel : Nat} {listed : Array Bool} {a : Act} {w w' : World} {v : Value}
def Cont (P : Program) (ops : Array Oper) (Q : Exit → Act → World → Prop) (S : World → Prop) (fuel : Nat) (listed : Array Bool) (a : Act) (w : World) (i : Nat) : Prop :=
  ∀ o, ops[i]? = some o → ∀ K' : Act → World → Prop, Shut (∀ a w, S w → (S w → wpAnyH P .any ops Q S fuel (listed.setIfInBounds i true) a w) → K' a w) → if Region.wanted o (yielded ops a.tmps) = true then Oper.wp P o a w K' Q else K' (a.put o.dst undef) w
theorem cont_val (i d : Nat) (hd : (ops[i]?).map (·.dst) = some (some d)) (hz : d < a.tmps.size)
    (hy : ∀ o, ops[i]? = some o → Region.wanted o (yielded ops a.tmps) = true ∧ (execOp a.eval o).run P w = .ok (.value v) w') (hS : S w')
    (h : ∀ a' : Act, Fr d v a a' → wpAnyH P .any ops Q S fuel (listed.setIfInBounds i true) a' w') : Cont P ops Q S fuel listed a w i := by
  intro o ho K hK
  obtain ⟨h1, h2⟩ := hy o ho
  rw [if_pos h1]
  unfold Oper.wp
  rw [h2, Oper.upon_value, dst_of hd ho]
  exact hK.out _ _ hS (fun _ => h _ (fr_put hz))
theorem heldL_two (i j : Nat) (hr : Region.ready .any ops listed = [i, j]) (h1 : Cont P ops Q S fuel listed a w i) (h2 : Cont P ops Q S fuel listed a w j) : wpAnyH P .any ops Q S (fuel + 1) listed a w := by
  have hi : i ∈ Region.ready .any ops listed := by rw [hr]; simp
  have hj : j ∈ Region.ready .any ops listed := by rw [hr]; simp
  obtain ⟨_, o, ho, _⟩ := mem_ready.1 hi
  obtain ⟨_, o', ho', _⟩ := mem_ready.1 hj
  exact wpAnyH_ready hr (by simp) (AllReadyH.cons ho (h1 o ho) (AllReadyH.cons ho' (h2 o' ho') AllReadyH.nil))
theorem cont_call (i d : Nat) {f : FuncId} {args : Array Value} {R : Value → World → Prop} (hd : (ops[i]?).map (·.dst) = some (some d)) (hz : d < a.tmps.size)
    (hy : ∀ o, ops[i]? = some o → Region.wanted o (yielded ops a.tmps) = true ∧ (execOp a.eval o).run P w = .ok (.enter f args) w)
    (hc : Calls P f args w fun e w' => ∃ v, e = .returned v ∧ R v w') (hS : ∀ v w', R v w' → S w')
    (h : ∀ (v : Value) (w' : World) (a' : Act), R v w' → Fr d v a a' → wpAnyH P .any ops Q S fuel (listed.setIfInBounds i true) a' w') : Cont P ops Q S fuel listed a w i := by
  intro o ho K hK
  obtain ⟨h1, h2⟩ := hy o ho
  rw [if_pos h1]
  unfold Oper.wp
  rw [h2, Oper.upon_enter]
  refine hc.mono ?_
  rintro e w' ⟨v, rfl, hR⟩
  show K (a.put o.dst v) w'
  rw [dst_of hd ho]
  exact hK.out _ _ (hS v w' hR) (fun _ => h v w' _ hR (fr_put hz))
end
section
variable {w : World} {ρ : Operand → Value} {o : Oper} {x y : Operand} {k : Nat} {l : List UInt8} {n : Int}
theorem k_dropS (ho : o.op = .slice 9 x (some y) none none) (hx : ρ x = .string ⟨(l).toArray⟩) (hy : ρ y = .int .i64 k) (h : k ≤ l.length) : (execOp ρ o).run Tryz.prog w = .ok (.value (.string ⟨(l.drop k).toArray⟩)) w := by
  have e : (⟨l.toArray⟩ : ByteArray).extract k (⟨l.toArray⟩ : ByteArray).size = ⟨(l.drop k).toArray⟩ := by
    have h := Lib.extract_to_end ⟨l.toArray⟩ k
    apply ByteArray.ext
    apply Array.ext'
    rw [h]
  have hz : k ≤ (⟨l.toArray⟩ : ByteArray).size := by rw [ba_len]; exact h
  rw [← e]
  simp only [execOp, ho, hx]
  go_simp
theorem k_takeS (ho : o.op = .slice 9 x none (some y) none) (hx : ρ x = .string ⟨(l).toArray⟩) (hy : ρ y = .int .i64 k) (h : k ≤ l.length) : (execOp ρ o).run Tryz.prog w = .ok (.value (.string ⟨(l.take k).toArray⟩)) w := by
  have e : (⟨l.toArray⟩ : ByteArray).extract 0 k = ⟨(l.take k).toArray⟩ := by
    have h := Lib.extract_from_zero ⟨l.toArray⟩ k
    apply ByteArray.ext
    apply Array.ext'
    rw [h]
  have hz : k ≤ (⟨l.toArray⟩ : ByteArray).size := by rw [ba_len]; exact h
  rw [← e]
  simp only [execOp, ho, hx]
  go_simp
end
section
variable {P : Program} {ops : Array Oper} {Q : Exit → Act → World → Prop} {z : Nat} {C : World → Prop}
theorem late_val (i d : Nat) {v : Value} {fuel : Nat} {listed : Array Bool} {a : Act} {w w' : World} (hr : Region.ready .any ops listed = [i]) (hd : (ops[i]?).map (·.dst) = some (some d)) (hz : d < a.tmps.size)
    (hy : ∀ o, ops[i]? = some o → Region.wanted o (yielded ops a.tmps) = true ∧ (execOp a.eval o).run P w = .ok (.value v) w') (hC : (listed.setIfInBounds i true).getD z true = false → C w')
    (h : ∀ a' : Act, Fr d v a a' → wpAnyZ P ops Q z C fuel (listed.setIfInBounds i true) a' w') : wpAnyZ P ops Q z C (fuel + 1) listed a w := by
  obtain ⟨o, ho⟩ := some_of hd
  obtain ⟨h1, h2⟩ := hy o ho
  refine ⟨fun e => (by rw [hr] at e; cases e), fun j hj => ?_⟩
  rw [hr] at hj
  obtain rfl := List.mem_singleton.1 hj
  simp only [wpOp, ho, h1, if_true]
  left
  unfold Oper.wp
  rw [h2, Oper.upon_value, dst_of hd ho]
  exact ⟨hC, h _ (fr_put hz)⟩
end
theorem strs_wd {w : World} {A : Addr} (h : ∀ i, i < 7 → w.cell? (A.add i) = some (.string ⟨(Rfc.wd i).toArray⟩)) : StrsIn w (some A) [Rfc.wd 0, Rfc.wd 1, Rfc.wd 2, Rfc.wd 3, Rfc.wd 4, Rfc.wd 5, Rfc.wd 6] := fun k hk => by
  refine ⟨A, rfl, ?_⟩
  rw [h k hk]
  have hk' : k = 0 ∨ k = 1 ∨ k = 2 ∨ k = 3 ∨ k = 4 ∨ k = 5 ∨ k = 6 := by simp at hk; omega
  rcases hk' with rfl | rfl | rfl | rfl | rfl | rfl | rfl <;> rfl
theorem ix_wd {q : List UInt8} {v : Value} (h : IxO [Rfc.wd 0, Rfc.wd 1, Rfc.wd 2, Rfc.wd 3, Rfc.wd 4, Rfc.wd 5, Rfc.wd 6] q v) : (∃ k : Nat, v = .int .i64 k ∧ k ≤ 6 ∧ Rfc.wd k = q) ∨ (v = .int .i64 (-1) ∧ ∀ i ≤ 6, Rfc.wd i ≠ q) := by
  obtain ⟨n, rfl, ⟨rfl, hn⟩ | ⟨k, hk, rfl, he⟩⟩ := h
  · refine .inr ⟨rfl, fun i hi e => hn ?_⟩
    rw [← e]
    have hk' : i = 0 ∨ i = 1 ∨ i = 2 ∨ i = 3 ∨ i = 4 ∨ i = 5 ∨ i = 6 := by omega
    rcases hk' with rfl | rfl | rfl | rfl | rfl | rfl | rfl <;> simp
  · refine .inl ⟨k, rfl, by simp at hk; omega, ?_⟩
    rw [← he]
    have hk' : k = 0 ∨ k = 1 ∨ k = 2 ∨ k = 3 ∨ k = 4 ∨ k = 5 ∨ k = 6 := by simp at hk; omega
    rcases hk' with rfl | rfl | rfl | rfl | rfl | rfl | rfl <;> rfl

noncomputable def lv44 : Array Oper := (Tryz.f23.body.bind (regOf 44)).getD #[]
set_option maxRecDepth 100000 in
set_option maxHeartbeats 1000000 in
theorem regV44 (a : Act) (w : World) (Q : Exit → Act → World → Prop) (hQ : Blind Q) (xx : List UInt8) (Aw : Addr) (cw : Nat) (v0 v165 v166 v167 : Value) (df : List _) (hd : a.defers = df) (hs : a.tmps.size = 217) (h19 : a.tmps.getD 19 undef = .string ⟨(xx).toArray⟩) (h0 : a.tmps.getD 0 undef = v0) (h165 : a.tmps.getD 165 undef = v165) (h166 : a.tmps.getD 166 undef = v166) (h167 : a.tmps.getD 167 undef = v167)
    (hl : 2 ≤ xx.length) (hl2 : xx.length ≤ 100000) (hgw : w.cell? ⟨1, 0, none⟩ = some (.slice (some Aw) 7 cw)) (htw : ∀ i, i < 7 → w.cell? (Aw.add i) = some (.string ⟨(Rfc.wd i).toArray⟩))
    (hR : ∀ (a' : Act) (w' : World) (nb : Nat) (n : Int), a'.tmps.size = 217 → a'.defers = df → a'.tmps.getD 20 undef = .pointer (some ⟨nb, 0, none⟩) → a'.tmps.getD 0 undef = v0 → a'.tmps.getD 19 undef = .string ⟨(xx).toArray⟩ → a'.tmps.getD 165 undef = v165 → a'.tmps.getD 166 undef = v166 → a'.tmps.getD 167 undef = v167 → Blk w' nb 50 #[.int .i64 0, .int .i64 n] → ((n = -1 ∧ xx.drop (xx.length - 2) ∉ [Rfc.wd 0, Rfc.wd 1, Rfc.wd 2, Rfc.wd 3, Rfc.wd 4, Rfc.wd 5, Rfc.wd 6]) ∨ ∃ k, ∃ h : k < ([Rfc.wd 0, Rfc.wd 1, Rfc.wd 2, Rfc.wd 3, Rfc.wd 4, Rfc.wd 5, Rfc.wd 6] : List (List UInt8)).length, n = k ∧ ([Rfc.wd 0, Rfc.wd 1, Rfc.wd 2, Rfc.wd 3, Rfc.wd 4, Rfc.wd 5, Rfc.wd 6])[k] = xx.drop (xx.length - 2)) → w.heap.size ≤ nb → Below w.heap.size w w' → Q .normal a' w') :
    (Code.region 44 lv44 true).wp Tryz.prog Q a w := by
  conv => arg 2; arg 2; whnf
  refine wp_region_held_drew (S := fun w' => Below w.heap.size w w') (by kernel_rfl) (below_drew (Below.refl _ _)) (fun hH => ?_)
  obtain ⟨u0, hu⟩ : ∃ u0, u0 = w.drew := ⟨_, rfl⟩
  rw [← hu] at hH ⊢
  clear hu
  refine heldL 0 174 (v := .slice (some Aw) 7 cw) hQ (by kernel_rfl) (frZ hs) (by kernel_rfl) (by kernel_rfl) (by kernel_rfl) hH ?z447 ?z448
  case z447 => (intro o ho; obtain rfl := Option.some.inj ho; exact Or.inl ⟨rfl, fun w1 h1w => k_loadSS rfl rfl (cell_stays hgw h1w)⟩)
  case z448 =>
  refine frN5 hs hd h0 h165 h166 h167 h19 ?_; clear hs hd h0 h165 h166 h167 h19; intro a hs hd h0 h165 h166 h167 h19 h174
  refine heldL 1 175 (v := .string ⟨(xx).toArray⟩) hQ (by kernel_rfl) (frZ hs) (by kernel_rfl) (by kernel_rfl) (by kernel_rfl) hH ?z449 ?z450
  case z449 => (intro o ho; obtain rfl := Option.some.inj ho; exact Or.inl ⟨rfl, fun w1 h1w => k_move rfl (ev_tmp h19)⟩)
  case z450 =>
  refine frN6 hs hd h0 h165 h166 h167 h19 h174 ?_; clear hs hd h0 h165 h166 h167 h19 h174; intro a hs hd h0 h165 h166 h167 h19 h174 h175
  refine heldL 2 176 (v := .string ⟨(xx).toArray⟩) hQ (by kernel_rfl) (frZ hs) (by kernel_rfl) (by kernel_rfl) (by kernel_rfl) hH ?z451 ?z452
  case z451 => (intro o ho; obtain rfl := Option.some.inj ho; exact Or.inl ⟨rfl, fun w1 h1w => k_move rfl (ev_tmp h19)⟩)
  case z452 =>
  refine frN7 hs hd h0 h165 h166 h167 h19 h174 h175 ?_; clear hs hd h0 h165 h166 h167 h19 h174 h175; intro a hs hd h0 h165 h166 h167 h19 h174 h175 h176
  refine heldL 3 177 (v := .int .i64 ((⟨xx.toArray⟩ : ByteArray).size : Nat)) hQ (by kernel_rfl) (frZ hs) (by kernel_rfl) (by kernel_rfl) (by kernel_rfl) hH ?z453 ?z454
  case z453 => (intro o ho; obtain rfl := Option.some.inj ho; exact Or.inl ⟨rfl, fun w1 h1w => k_lenT rfl (ev_tmp h176)⟩)
  case z454 =>
  refine frN8 hs hd h0 h165 h166 h167 h19 h174 h175 h176 ?_; clear hs hd h0 h165 h166 h167 h19 h174 h175 h176; intro a hs hd h0 h165 h166 h167 h19 h174 h175 h176 h177
  refine heldL 4 178 (v := .int .i64 (xx.length - 2 : Nat)) hQ (by kernel_rfl) (frZ hs) (by kernel_rfl) (by kernel_rfl) (by kernel_rfl) hH ?z455 ?z456
  case z455 => (intro o ho; obtain rfl := Option.some.inj ho; exact Or.inl ⟨rfl, fun w1 h1w => o_subI rfl (ev_tmp h177) rfl ((wrap_small (by rw [ba_len]; omega) (by rw [ba_len]; omega)).trans (by rw [ba_len]; omega))⟩)
  case z456 =>
  refine frN9 hs hd h0 h165 h166 h167 h19 h174 h175 h176 h177 ?_; clear hs hd h0 h165 h166 h167 h19 h174 h175 h176 h177; intro a hs hd h0 h165 h166 h167 h19 h174 h175 h176 h177 h178
  refine heldL 5 179 (v := .string ⟨(xx.drop (xx.length - 2)).toArray⟩) hQ (by kernel_rfl) (frZ hs) (by kernel_rfl) (by kernel_rfl) (by kernel_rfl) hH ?z457 ?z458
  case z457 => (intro o ho; obtain rfl := Option.some.inj ho; exact Or.inl ⟨rfl, fun w1 h1w => k_dropS rfl (ev_tmp h175) (ev_tmp h178) (by omega)⟩)
  case z458 =>
  refine frN10 hs hd h0 h165 h166 h167 h19 h174 h175 h176 h177 h178 ?_; clear hs hd h0 h165 h166 h167 h19 h174 h175 h176 h177 h178; intro a hs hd h0 h165 h166 h167 h19 h174 h175 h176 h177 h178 h179
  have z0 := hH.size
  refine heldL_two 6 8 (by kernel_rfl) ?z459 ?z460
  case z459 =>
    have hc := lindex_any (some Aw) cw [Rfc.wd 0, Rfc.wd 1, Rfc.wd 2, Rfc.wd 3, Rfc.wd 4, Rfc.wd 5, Rfc.wd 6] (xx.drop (xx.length - 2)) u0 ((strs_wd htw).below hH) (by simp)
    have hx := fun ops Q S fuel listed d a i h1 h2 h3 => cont_call (P := Tryz.prog) (ops := ops) (Q := Q) (S := S) (fuel := fuel) (listed := listed) (a := a) (w := u0) i d h1 h2 h3 hc
    refine hx _ _ _ _ _ 180 _ 6 ?z462 ?z463 ?z464 ?z465 ?z466
    case z462 => kernel_rfl
    case z463 => (rw [hs]; decide)
    case z464 => exact frY rfl (c_Ix rfl rfl (ev_tmp h174) (ev_tmp h179))
    case z465 => (rintro _ _ ⟨_, rfl⟩; exact hH)
    case z466 =>
    clear hx hc
    rintro v6 w6 a ⟨hv6, hww⟩ F0
    subst hww
    obtain ⟨n, rfl, hn⟩ := hv6
    replace hs := F0.z.trans hs
    replace hd := F0.e.trans hd
    replace h0 := (F0.n 0 (by decide)).trans h0
    replace h165 := (F0.n 165 (by decide)).trans h165
    replace h166 := (F0.n 166 (by decide)).trans h166
    replace h167 := (F0.n 167 (by decide)).trans h167
    replace h19 := (F0.n 19 (by decide)).trans h19
    replace h174 := (F0.n 174 (by decide)).trans h174
    replace h175 := (F0.n 175 (by decide)).trans h175
    replace h176 := (F0.n 176 (by decide)).trans h176
    replace h177 := (F0.n 177 (by decide)).trans h177
    replace h178 := (F0.n 178 (by decide)).trans h178
    replace h179 := (F0.n 179 (by decide)).trans h179
    have h180 := F0.s
    clear F0
    refine heldL 7 181 (v := .agg #[.int .i64 0, .int .i64 n]) hQ (by kernel_rfl) (frZ hs) (by kernel_rfl) (by kernel_rfl) (by kernel_rfl) hH ?z467 ?z468
    case z467 => (intro o ho; obtain rfl := Option.some.inj ho; exact Or.inl ⟨rfl, fun w1 h1w => k_buildN1 rfl (ev_tmp h180)⟩)
    case z468 =>
    refine frN12 hs hd h0 h165 h166 h167 h19 h174 h175 h176 h177 h178 h179 h180 ?_; clear hs hd h0 h165 h166 h167 h19 h174 h175 h176 h177 h178 h179 h180; intro a hs hd h0 h165 h166 h167 h19 h174 h175 h176 h177 h178 h179 h180 h181
    refine heldL_do 8 20 (v := .pointer (some ⟨u0.heap.size, 0, none⟩)) (w' := u0.alloc (.cells #[.int .i64 0, .int .i64 0] 50)) (by kernel_rfl) (by kernel_rfl) (frZ hs) ?z469 (hH.trans (((Below.refl _ _).alloc (Nat.le_refl _) _).mono hH.size)) ?z470
    case z469 => exact frY rfl (k_allocN rfl)
    case z470 =>
    refine frN13 hs hd h0 h165 h166 h167 h19 h174 h175 h176 h177 h178 h179 h180 h181 ?_; clear hs hd h0 h165 h166 h167 h19 h174 h175 h176 h177 h178 h179 h180 h181; intro a hs hd h0 h165 h166 h167 h19 h174 h175 h176 h177 h178 h179 h180 h181 h20
    obtain ⟨u1, hwn⟩ : ∃ wn, wn = u0.alloc (.cells #[.int .i64 0, .int .i64 0] 50) := ⟨_, rfl⟩
    rw [← hwn]
    have qn : Blk u1 u0.heap.size 50 #[.int .i64 0, .int .i64 0] := by rw [hwn]; exact Blk.alloc _ _ _
    have ln : Below u0.heap.size u0 u1 := by rw [hwn]; exact (Below.refl _ _).alloc (Nat.le_refl _) _
    clear hwn
    replace hH := hH.trans (ln.mono hH.size)
    have en := exc_setRow u1 u0.heap.size #[.int .i64 0, .int .i64 n]
    refine heldL_store 9 (w' := u1.setRow u0.heap.size #[.int .i64 0, .int .i64 n]) (by kernel_rfl) (by kernel_rfl) ?z471 (hH.trans ((en w.heap.size).below (by omega))) ?z472
    case z471 => exact frY rfl (k_storeS2 rfl (ev_tmp h20) (ev_tmp h181) qn (by kernel_rfl) rfl rfl (by simp [Value.oneCell']))
    case z472 =>
    refine wpAnyH_done (by kernel_rfl) ?_ _
    exact hR a _ _ n hs hd h20 h0 h19 h165 h166 h167 qn.setRow hn z0 (hH.trans ((en w.heap.size).below (by omega)))
  case z460 =>
    refine cont_val 8 20 (v := .pointer (some ⟨u0.heap.size, 0, none⟩)) (w' := u0.alloc (.cells #[.int .i64 0, .int .i64 0] 50)) (by kernel_rfl) (frZ hs) ?z473 (hH.trans (((Below.refl _ _).alloc (Nat.le_refl _) _).mono hH.size)) ?z474
    case z473 => exact frY rfl (k_allocN rfl)
    case z474 =>
    refine frN11 hs hd h0 h165 h166 h167 h19 h174 h175 h176 h177 h178 h179 ?_; clear hs hd h0 h165 h166 h167 h19 h174 h175 h176 h177 h178 h179; intro a hs hd h0 h165 h166 h167 h19 h174 h175 h176 h177 h178 h179 h20
    obtain ⟨u1, hwn⟩ : ∃ wn, wn = u0.alloc (.cells #[.int .i64 0, .int .i64 0] 50) := ⟨_, rfl⟩
    rw [← hwn]
    have qn : Blk u1 u0.heap.size 50 #[.int .i64 0, .int .i64 0] := by rw [hwn]; exact Blk.alloc _ _ _
    have ln : Below u0.heap.size u0 u1 := by rw [hwn]; exact (Below.refl _ _).alloc (Nat.le_refl _) _
    clear hwn
    replace hH := hH.trans (ln.mono hH.size)
    have hc := lindex_any (some Aw) cw [Rfc.wd 0, Rfc.wd 1, Rfc.wd 2, Rfc.wd 3, Rfc.wd 4, Rfc.wd 5, Rfc.wd 6] (xx.drop (xx.length - 2)) u1 ((strs_wd htw).below hH) (by simp)
    have hx := fun ops Q S fuel listed d a i h0 h1 h2 h3 => heldL_call (P := Tryz.prog) (ops := ops) (Q := Q) (S := S) (fuel := fuel) (listed := listed) (a := a) (w := u1) i d h0 h1 h2 h3 hc
    refine hx _ _ _ _ _ 180 _ 6 ?z475 ?z476 ?z477 ?z478 ?z479 ?z480
    case z475 => kernel_rfl
    case z476 => kernel_rfl
    case z477 => (rw [hs]; decide)
    case z478 => exact frY rfl (c_Ix rfl rfl (ev_tmp h174) (ev_tmp h179))
    case z479 => (rintro _ _ ⟨_, rfl⟩; exact hH)
    case z480 =>
    clear hx hc
    rintro v6 w6 a ⟨hv6, hww⟩ F0
    subst hww
    obtain ⟨n, rfl, hn⟩ := hv6
    replace hs := F0.z.trans hs
    replace hd := F0.e.trans hd
    replace h0 := (F0.n 0 (by decide)).trans h0
    replace h165 := (F0.n 165 (by decide)).trans h165
    replace h166 := (F0.n 166 (by decide)).trans h166
    replace h167 := (F0.n 167 (by decide)).trans h167
    replace h19 := (F0.n 19 (by decide)).trans h19
    replace h174 := (F0.n 174 (by decide)).trans h174
    replace h175 := (F0.n 175 (by decide)).trans h175
    replace h176 := (F0.n 176 (by decide)).trans h176
    replace h177 := (F0.n 177 (by decide)).trans h177
    replace h178 := (F0.n 178 (by decide)).trans h178
    replace h179 := (F0.n 179 (by decide)).trans h179
    replace h20 := (F0.n 20 (by decide)).trans h20
    have h180 := F0.s
    clear F0
    refine heldL 7 181 (v := .agg #[.int .i64 0, .int .i64 n]) hQ (by kernel_rfl) (frZ hs) (by kernel_rfl) (by kernel_rfl) (by kernel_rfl) hH ?z481 ?z482
    case z481 => (intro o ho; obtain rfl := Option.some.inj ho; exact Or.inl ⟨rfl, fun w1 h1w => k_buildN1 rfl (ev_tmp h180)⟩)
    case z482 =>
    refine frN13 hs hd h0 h165 h166 h167 h19 h174 h175 h176 h177 h178 h179 h20 h180 ?_; clear hs hd h0 h165 h166 h167 h19 h174 h175 h176 h177 h178 h179 h20 h180; intro a hs hd h0 h165 h166 h167 h19 h174 h175 h176 h177 h178 h179 h20 h180 h181
    have en := exc_setRow u1 u0.heap.size #[.int .i64 0, .int .i64 n]
    refine heldL_store 9 (w' := u1.setRow u0.heap.size #[.int .i64 0, .int .i64 n]) (by kernel_rfl) (by kernel_rfl) ?z483 (hH.trans ((en w.heap.size).below (by omega))) ?z484
    case z483 => exact frY rfl (k_storeS2 rfl (ev_tmp h20) (ev_tmp h181) qn (by kernel_rfl) rfl rfl (by simp [Value.oneCell']))
    case z484 =>
    refine wpAnyH_done (by kernel_rfl) ?_ _
    exact hR a _ _ n hs hd h20 h0 h19 h165 h166 h167 qn.setRow hn z0 (hH.trans ((en w.heap.size).below (by omega)))
theorem set_same {cs : Array Value} {i : Nat} {v : Value} (h : cs[i]? = some v) : cs.setIfInBounds i v = cs := by
  apply Array.ext_getElem?
  intro j
  rw [Array.getElem?_setIfInBounds]
  split
  · rename_i e
    subst e
    rw [h]
    obtain ⟨hj, -⟩ := Array.getElem?_eq_some_iff.1 h
    simp [hj]
  · rfl
theorem append_nth_c {w : World} {base : Nat} {v : Value} {L : List (Int × Int)} {x y : Int} {g c nb : Nat} (h : OwnN w base v L) (hx : w.cell? ⟨g, 0, none⟩ = some (.int .i64 x)) (hy : w.cell? ⟨g, 1, none⟩ = some (.int .i64 y)) (hl : L.length ≤ 1000000) (hB : base ≤ w.heap.size) (hnb : nb < w.heap.size) (hno : ∀ g', v.ownBlock = some g' → g' ≠ nb) :
    ∃ v' w', (Builtin.append_ #[26, 26] 26 #[v, .slice (some ⟨g, 0, none⟩) 1 c]).run Tryz.prog w = .ok v' w' ∧ OwnN w' base v' (L ++ [(x, y)]) ∧ Below base w w' ∧ w.heap.size ≤ w'.heap.size ∧ w'.heap[nb]? = w.heap[nb]? := by
  obtain ⟨i, hi, hz, hs, hb⟩ := info_of (T := 50) (z := .agg #[.int .i64 0, .int .i64 0]) (n := 2) (b := 16) (by kernel_rfl) (by kernel_rfl) (by kernel_rfl)
  obtain ⟨v', w', hr, ho, hg, -⟩ := run_append_own (P := Tryz.prog) w base 26 26 50 i (.agg #[.int .i64 0, .int .i64 0]) 2 16 Tryz.underlying26 hi hz hs hb rfl (by decide) v L.length _ h ⟨g, 0, none⟩ 1 c [.int .i64 x, .int .i64 y] rfl
    (fun j u hu => by
      match j with
      | 0 => obtain rfl : Value.int .i64 x = u := by simpa using hu
             exact hx
      | 1 => obtain rfl : Value.int .i64 y = u := by simpa using hu
             exact hy
      | j + 2 => simp at hu) (by simp [Value.oneCell']) (by unfold maxLen; omega) (by omega) hB
  refine ⟨v', w', hr, ?_, (exc_grown (b := base) hg (fun g' hg' => (World.ownsRow.lt h g' hg').1) hB).below (Nat.le_refl _), hg.size, hg.block nb hnb (fun e => hno nb e.symm rfl)⟩
  unfold OwnN
  simpa using ho
structure LpD (w : World) (rb base : Nat) (cs : Array Value) (s : List UInt8) (i : Nat) (L : List (Int × Int)) (A : Option Addr) (cap : Nat) (a : Act) (wx : World) : Prop where
  d : a.defers = []
  z : a.tmps.size = 217
  s0 : a.tmps.getD 0 undef = .pointer (some ⟨rb, 0, none⟩)
  s165 : a.tmps.getD 165 undef = .slice (some ⟨w.heap.size, 0, none⟩) (Rfc.spl s 44).length (Rfc.spl s 44).length
  s166 : a.tmps.getD 166 undef = .int .i64 (Rfc.spl s 44).length
  s167 : a.tmps.getD 167 undef = .int .i64 i
  iN : i ≤ (Rfc.spl s 44).length
  m : Rfc.mm Rfc.pw ((Rfc.spl s 44).take i) = some L
  lL : L.length ≤ i
  o : OwnN wx base (.slice A L.length cap) L
  Br : Blk wx rb 28 (cs.setIfInBounds 6 (.slice A L.length cap))
  B : Blk wx w.heap.size 9 ((Rfc.spl s 44).map fun x => Value.string ⟨x.toArray⟩).toArray
  zz : rb < w.heap.size ∧ w.heap.size < base ∧ base ≤ wx.heap.size
  e : Exc w.heap.size rb w wx

noncomputable def lv51 : Array Oper := (Tryz.f23.body.bind (regOf 51)).getD #[]
set_option maxRecDepth 100000 in
set_option maxHeartbeats 1000000 in
theorem regV51 (a : Act) (w : World) (Q : Exit → Act → World → Prop) (hQ : Blind Q) (rb base nb lo : Nat) (cs : Array Value) (h8 : cs.size = 8) (L : List (Int × Int)) (A : Option Addr) (cap : Nat) (y z : Int) (v165 v166 v167 : Value) (df : List _) (hd : a.defers = df) (hs : a.tmps.size = 217) (h0 : a.tmps.getD 0 undef = .pointer (some ⟨rb, 0, none⟩)) (h20 : a.tmps.getD 20 undef = .pointer (some ⟨nb, 0, none⟩)) (h165 : a.tmps.getD 165 undef = v165) (h166 : a.tmps.getD 166 undef = v166) (h167 : a.tmps.getD 167 undef = v167)
    (hl : L.length ≤ 100001) (hO : OwnN w base (.slice A L.length cap) L) (hno : ∀ g', (Value.slice A L.length cap).ownBlock = some g' → g' < nb) (Br : Blk w rb 28 (cs.setIfInBounds 6 (.slice A L.length cap))) (hN : Blk w nb 50 #[.int .i64 y, .int .i64 z]) (zr : rb < lo ∧ lo ≤ base) (zb : base ≤ w.heap.size)
    (hR : ∀ (a' : Act) (w' : World) (A' : Option Addr) (cap' : Nat), a'.tmps.size = 217 → a'.defers = df → a'.tmps.getD 0 undef = .pointer (some ⟨rb, 0, none⟩) → a'.tmps.getD 165 undef = v165 → a'.tmps.getD 166 undef = v166 → a'.tmps.getD 167 undef = v167 → OwnN w' base (.slice A' (L ++ [(y, z)]).length cap') (L ++ [(y, z)]) → Blk w' rb 28 (cs.setIfInBounds 6 (.slice A' (L ++ [(y, z)]).length cap')) → base ≤ w'.heap.size → Exc lo rb w w' → Q .normal a' w') :
    (Code.region 51 lv51 true).wp Tryz.prog Q a w := by
  conv => arg 2; arg 2; whnf
  refine wp_region_late (z := 10) (C := fun w1 => Blk w1 rb 28 (cs.setIfInBounds 6 (.slice A L.length cap)) ∧ Blk w1 nb 50 #[.int .i64 y, .int .i64 z]) (by kernel_rfl) ?_
  have hu0 : Below w.heap.size w w.drew := below_drew (Below.refl _ _)
  obtain ⟨u0, hu⟩ : ∃ u0, u0 = w.drew := ⟨_, rfl⟩
  rw [← hu] at hu0 ⊢
  clear hu
  have hC : Blk u0 rb 28 (cs.setIfInBounds 6 (.slice A L.length cap)) ∧ Blk u0 nb 50 #[.int .i64 y, .int .i64 z] := ⟨Br.below hu0 Br.lt, hN.below hu0 hN.lt⟩
  replace hO := hO.below hu0
  have zb0 := zb
  replace zb := Nat.le_trans zb hu0.size
  refine lateF 0 205 (v := .pointer (some ⟨rb, 0, none⟩)) hQ (by kernel_rfl) (frZ hs) (by kernel_rfl) (by kernel_rfl) (by kernel_rfl) (by decide) (fun _ => hC) ?z485 ?z486
  case z485 => (intro o ho; obtain rfl := Option.some.inj ho; exact Or.inl ⟨rfl, fun w1 h1w => k_move rfl (ev_tmp h0)⟩)
  case z486 =>
  refine frN5 hs hd h0 h20 h165 h166 h167 ?_; clear hs hd h0 h20 h165 h166 h167; intro a hs hd h0 h20 h165 h166 h167 h205
  refine lateF 1 206 (v := .pointer (some ⟨rb, 0, none⟩)) hQ (by kernel_rfl) (frZ hs) (by kernel_rfl) (by kernel_rfl) (by kernel_rfl) (by decide) (fun _ => hC) ?z487 ?z488
  case z487 => (intro o ho; obtain rfl := Option.some.inj ho; exact Or.inl ⟨rfl, fun w1 h1w => k_move rfl (ev_tmp h0)⟩)
  case z488 =>
  refine frN6 hs hd h0 h20 h165 h166 h167 h205 ?_; clear hs hd h0 h20 h165 h166 h167 h205; intro a hs hd h0 h20 h165 h166 h167 h205 h206
  refine lateF 2 207 (v := .pointer (some ⟨rb, 0, none⟩)) hQ (by kernel_rfl) (frZ hs) (by kernel_rfl) (by kernel_rfl) (by kernel_rfl) (by decide) (fun _ => hC) ?z489 ?z490
  case z489 => (intro o ho; obtain rfl := Option.some.inj ho; exact Or.inl ⟨rfl, fun w1 h1w => k_nil rfl (ev_tmp h206)⟩)
  case z490 =>
  refine frN7 hs hd h0 h20 h165 h166 h167 h205 h206 ?_; clear hs hd h0 h20 h165 h166 h167 h205 h206; intro a hs hd h0 h20 h165 h166 h167 h205 h206 h207
  refine lateF 3 208 (v := .pointer (some ⟨rb, 6, none⟩)) hQ (by kernel_rfl) (frZ hs) (by kernel_rfl) (by kernel_rfl) (by kernel_rfl) (by decide) (fun _ => hC) ?z491 ?z492
  case z491 => (intro o ho; obtain rfl := Option.some.inj ho; exact Or.inl ⟨rfl, fun w1 h1w => k_field6 rfl (ev_tmp h207)⟩)
  case z492 =>
  refine frN8 hs hd h0 h20 h165 h166 h167 h205 h206 h207 ?_; clear hs hd h0 h20 h165 h166 h167 h205 h206 h207; intro a hs hd h0 h20 h165 h166 h167 h205 h206 h207 h208
  refine lateL 4 209 (v := .slice A L.length cap) hQ (by kernel_rfl) (frZ hs) (by kernel_rfl) (by kernel_rfl) (by kernel_rfl) (by kernel_rfl) (by kernel_rfl) hC ?z493 ?z494
  case z493 => (intro o ho; obtain rfl := Option.some.inj ho; exact Or.inl ⟨rfl, fun w1 h1w => k_loadW rfl (ev_tmp h208) (by rw [h1w.1.cell 6]; simp [h8])⟩)
  case z494 =>
  refine frN9 hs hd h0 h20 h165 h166 h167 h205 h206 h207 h208 ?_; clear hs hd h0 h20 h165 h166 h167 h205 h206 h207 h208; intro a hs hd h0 h20 h165 h166 h167 h205 h206 h207 h208 h209
  refine lateL 5 210 (v := .agg #[.int .i64 y, .int .i64 z]) hQ (by kernel_rfl) (frZ hs) (by kernel_rfl) (by kernel_rfl) (by kernel_rfl) (by kernel_rfl) (by kernel_rfl) hC ?z495 ?z496
  case z495 => (intro o ho; obtain rfl := Option.some.inj ho; exact Or.inl ⟨rfl, fun w1 h1w => k_loadNs rfl (ev_tmp h20) h1w.2⟩)
  case z496 =>
  refine frN10 hs hd h0 h20 h165 h166 h167 h205 h206 h207 h208 h209 ?_; clear hs hd h0 h20 h165 h166 h167 h205 h206 h207 h208 h209; intro a hs hd h0 h20 h165 h166 h167 h205 h206 h207 h208 h209 h210
  refine late_val 6 211 (v := .slice (some ⟨u0.heap.size, 0, none⟩) 1 1) (w' := u0.alloc (.cells #[.int .i64 y, .int .i64 z] 50)) (by kernel_rfl) (by kernel_rfl) (frZ hs) ?z497 (fun _ => ⟨hC.1.below ((Below.refl _ _).alloc (Nat.le_refl _) _) hC.1.lt, hC.2.below ((Below.refl _ _).alloc (Nat.le_refl _) _) hC.2.lt⟩) ?z498
  case z497 => exact frY rfl (k_sliceN rfl (ev_tmp h210))
  case z498 =>
  refine frN11 hs hd h0 h20 h165 h166 h167 h205 h206 h207 h208 h209 h210 ?_; clear hs hd h0 h20 h165 h166 h167 h205 h206 h207 h208 h209 h210; intro a hs hd h0 h20 h165 h166 h167 h205 h206 h207 h208 h209 h210 h211
  obtain ⟨w3, hw3⟩ : ∃ wn, wn = u0.alloc (.cells #[.int .i64 y, .int .i64 z] 50) := ⟨_, rfl⟩
  rw [← hw3]
  have q3 : Blk w3 u0.heap.size 50 #[.int .i64 y, .int .i64 z] := by rw [hw3]; exact Blk.alloc _ _ _
  have l3 : Below u0.heap.size u0 w3 := by rw [hw3]; exact (Below.refl _ _).alloc (Nat.le_refl _) _
  clear hw3
  have hC3 := hC.1.below l3 hC.1.lt
  have hN3 := hC.2.below l3 hC.2.lt
  replace hO := hO.below l3
  have z3 : base ≤ w3.heap.size := Nat.le_trans zb l3.size
  obtain ⟨v', w4, hr, hO4, b4, z4, hn4⟩ := append_nth_c (c := 1) hO (q3.cell 0) (q3.cell 1) (by omega) z3 hN3.lt (fun g' hg' => by have := hno g' hg'; omega)
  obtain ⟨A', cap', rfl, -, -, -⟩ := hO4.nths
  have hN4 : Blk w4 nb 50 #[.int .i64 y, .int .i64 z] := hn4.trans hN3
  refine late_val 7 212 (v := .slice A' (L ++ [(y, z)]).length cap') (w' := w4) (by kernel_rfl) (by kernel_rfl) (frZ hs) ?z499 (fun _ => ⟨hC3.below b4 (by omega), hN4⟩) ?z500
  case z499 => exact frY rfl (k_append rfl rfl (ev_tmp h209) (ev_tmp h211) hr)
  case z500 =>
  refine frN12 hs hd h0 h20 h165 h166 h167 h205 h206 h207 h208 h209 h210 h211 ?_; clear hs hd h0 h20 h165 h166 h167 h205 h206 h207 h208 h209 h210 h211; intro a hs hd h0 h20 h165 h166 h167 h205 h206 h207 h208 h209 h210 h211 h212
  have hB4 := hC3.below b4 (by omega)
  refine lateF 8 213 (v := .pointer (some ⟨rb, 0, none⟩)) hQ (by kernel_rfl) (frZ hs) (by kernel_rfl) (by kernel_rfl) (by kernel_rfl) (by decide) (fun _ => ⟨hB4, hN4⟩) ?z501 ?z502
  case z501 => (intro o ho; obtain rfl := Option.some.inj ho; exact Or.inl ⟨rfl, fun w1 h1w => k_nil rfl (ev_tmp h205)⟩)
  case z502 =>
  refine frN13 hs hd h0 h20 h165 h166 h167 h205 h206 h207 h208 h209 h210 h211 h212 ?_; clear hs hd h0 h20 h165 h166 h167 h205 h206 h207 h208 h209 h210 h211 h212; intro a hs hd h0 h20 h165 h166 h167 h205 h206 h207 h208 h209 h210 h211 h212 h213
  refine lateF 9 214 (v := .pointer (some ⟨rb, 6, none⟩)) hQ (by kernel_rfl) (frZ hs) (by kernel_rfl) (by kernel_rfl) (by kernel_rfl) (by decide) (fun _ => ⟨hB4, hN4⟩) ?z503 ?z504
  case z503 => (intro o ho; obtain rfl := Option.some.inj ho; exact Or.inl ⟨rfl, fun w1 h1w => k_field6 rfl (ev_tmp h213)⟩)
  case z504 =>
  refine frN14 hs hd h0 h20 h165 h166 h167 h205 h206 h207 h208 h209 h210 h211 h212 h213 ?_; clear hs hd h0 h20 h165 h166 h167 h205 h206 h207 h208 h209 h210 h211 h212 h213; intro a hs hd h0 h20 h165 h166 h167 h205 h206 h207 h208 h209 h210 h211 h212 h213 h214
  refine late_store 10 (w' := (w4.setCell ⟨rb, 6, none⟩ (.slice A' (L ++ [(y, z)]).length cap'))) (by kernel_rfl) (by kernel_rfl) ?z505 (not_late (by kernel_rfl)) ?z506
  case z505 => exact frY rfl (k_storeW rfl (ev_tmp h214) (ev_tmp h212) hB4 (by simp [h8]))
  case z506 =>
  refine late_done (by kernel_rfl) ?_
  have hS6 : Blk (w4.setCell ⟨rb, 6, none⟩ (.slice A' (L ++ [(y, z)]).length cap')) rb 28 (cs.setIfInBounds 6 (.slice A' (L ++ [(y, z)]).length cap')) := by
    have := hB4.set 6 (.slice A' (L ++ [(y, z)]).length cap')
    rwa [Array.setIfInBounds_setIfInBounds] at this
  exact hR a _ A' cap' hs hd h0 h165 h166 h167 (hO4.exc (exc_set w4 rb 6 _ w4.heap.size) (fun g hg => ⟨(hO4.lt g hg).2, by have := (hO4.lt g hg).1; omega⟩)) hS6 (by have := (exc_set w4 rb 6 (.slice A' (L ++ [(y, z)]).length cap') 0).size; omega) (((Exc.of (hu0.mono (by omega))).trans ((Exc.of (l3.mono (by omega))).trans (Exc.of (b4.mono zr.2)))).trans (exc_set w4 rb 6 _ _))
end Go.Proofs.YtjdjekpbjnkliaaGreatDoor
