/-
  Plain: the text of a rule, as chapter 3 writes it, as a function of numbers and lists; two rules have one text just if they are the same.
-/
import Derived.Test.YtocpmljkmdpfkaaGreatDoorR3
import Derived.Test.YtocpmljkmdpfkaaGreatDoorW10
import Derived.Lib.Join
import Derived.Lib.ItoaMem
namespace Go.Proofs.YtocpmljkmdpfkaaGreatDoor.Rfc
/-- the names of the parts -/
def nm : Nat → List UInt8
  | 0 => [70, 82, 69, 81]
  | 1 => [73, 78, 84, 69, 82, 86, 65, 76]
  | 2 => [67, 79, 85, 78, 84]
  | 3 => [85, 78, 84, 73, 76]
  | 4 => [66, 89, 77, 79, 78, 84, 72]
  | 5 => [66, 89, 77, 79, 78, 84, 72, 68, 65, 89]
  | 6 => [66, 89, 68, 65, 89]
  | _ => [66, 89, 83, 69, 84, 80, 79, 83]
def fq : Nat → List UInt8
  | 0 => [68, 65, 73, 76, 89]
  | 1 => [87, 69, 69, 75, 76, 89]
  | 2 => [77, 79, 78, 84, 72, 76, 89]
  | _ => [89, 69, 65, 82, 76, 89]
def wd : Nat → List UInt8
  | 0 => [77, 79]
  | 1 => [84, 85]
  | 2 => [87, 69]
  | 3 => [84, 72]
  | 4 => [70, 82]
  | 5 => [83, 65]
  | _ => [83, 85]
def num (n z : Int) : List UInt8 := if n = z then [] else Lib.itoa n
def nums (l : List Int) : List UInt8 := Lib.join (l.map Lib.itoa) [44]
def day (x : Int × Int) : List UInt8 := num x.1 0 ++ wd x.2.toNat
def days (l : List (Int × Int)) : List UInt8 := Lib.join (l.map day) [44]
def date (y m d : Int) : List UInt8 := [dig (y / 1000), dig (y / 100), dig (y / 10), dig y, dig (m / 10), dig m, dig (d / 10), dig d]
/-- t is the text of the day u; nothing of none -/
def Un (u : Int) (t : List UInt8) : Prop := (u = 0 ∧ t = []) ∨ ∃ y m d, Cal.Is u y m d ∧ t = date y m d
/-- the values of the parts -/
def vals (f iv c : Int) (t : List UInt8) (M D : List Int) (K : List (Int × Int)) (P : List Int) : List (List UInt8) :=
  [fq f.toNat, num iv 1, num c 0, t, nums M, nums D, days K, nums P]
/-- the parts that have a value, from the one at k on -/
def parts : Nat → List (List UInt8) → List (List UInt8)
  | _, [] => []
  | k, v :: r => if v = [] then parts (k + 1) r else (nm k ++ 61 :: v) :: parts (k + 1) r
def text (f iv c : Int) (t : List UInt8) (M D : List Int) (K : List (Int × Int)) (P : List Int) : List UInt8 := Lib.join (parts 0 (vals f iv c t M D K P)) [59]

-- numerals
theorem digits_ne (u : Nat) : Lib.decDigits u ≠ [] := by
  rw [Lib.decDigits]
  split <;> simp
theorem itoa_ne (n : Int) : Lib.itoa n ≠ [] := by
  unfold Lib.itoa
  split
  · simp
  · exact digits_ne _
theorem digits_mem (u : Nat) : ∀ c ∈ Lib.decDigits u, 48 ≤ c.toNat ∧ c.toNat ≤ 57 := by
  intro c hc
  rw [Lib.decDigits] at hc
  have one : ∀ k, k < 10 → 48 ≤ (UInt8.ofNat (48 + k)).toNat ∧ (UInt8.ofNat (48 + k)).toNat ≤ 57 := fun k hk => by
    rw [UInt8.toNat_ofNat']
    omega
  split at hc
  · rename_i h
    simp only [List.mem_singleton] at hc
    subst hc
    exact one u h
  · rcases List.mem_append.1 hc with h | h
    · exact digits_mem (u / 10) c h
    · simp only [List.mem_singleton] at h
      subst h
      exact one _ (Nat.mod_lt _ (by omega))
termination_by u
decreasing_by omega
theorem itoa_mem (n : Int) : ∀ c ∈ Lib.itoa n, c = 45 ∨ (48 ≤ c.toNat ∧ c.toNat ≤ 57) := by
  intro c hc
  unfold Lib.itoa at hc
  split at hc
  · rcases List.mem_cons.1 hc with h | h
    · exact .inl h
    · exact .inr (digits_mem _ c h)
  · exact .inr (digits_mem _ c hc)
theorem ofNat_inj {a b : Nat} (ha : a < 10) (hb : b < 10) (h : UInt8.ofNat (48 + a) = UInt8.ofNat (48 + b)) : a = b := by
  have := congrArg UInt8.toNat h
  rw [UInt8.toNat_ofNat', UInt8.toNat_ofNat'] at this
  omega
theorem digits_inj (u v : Nat) (h : Lib.decDigits u = Lib.decDigits v) : u = v := by
  have hu := Lib.decDigits.eq_1 u
  have hv := Lib.decDigits.eq_1 v
  rw [hu, hv] at h
  split at h
  · split at h
    · exact ofNat_inj ‹_› ‹_› (List.cons.inj h).1
    · have := congrArg List.length h
      simp only [List.length_singleton, List.length_append] at this
      have := List.length_pos_iff.2 (digits_ne (v / 10))
      omega
  · split at h
    · have := congrArg List.length h
      simp only [List.length_singleton, List.length_append] at this
      have := List.length_pos_iff.2 (digits_ne (u / 10))
      omega
    · have h1 := List.append_inj' h rfl
      have e1 := digits_inj (u / 10) (v / 10) h1.1
      have e2 := ofNat_inj (Nat.mod_lt _ (by omega)) (Nat.mod_lt _ (by omega)) (List.cons.inj h1.2).1
      omega
termination_by u
decreasing_by omega
theorem itoa_inj {n m : Int} (h : Lib.itoa n = Lib.itoa m) : n = m := by
  have neg : ∀ (k : Nat) (r : List UInt8), Lib.decDigits k = 45 :: r → False := fun k r e => by
    have := digits_mem k 45 (by rw [e]; simp)
    simp at this
  unfold Lib.itoa at h
  split at h
  · split at h
    · have := digits_inj _ _ (List.cons.inj h).2
      omega
    · exact (neg _ _ h.symm).elim
  · split at h
    · exact (neg _ _ h).elim
    · have := digits_inj _ _ h
      omega
theorem num_inj {n m z : Int} (h : num n z = num m z) : n = m := by
  unfold num at h
  split at h
  · split at h
    · omega
    · exact (itoa_ne _ h.symm).elim
  · split at h
    · exact (itoa_ne _ h).elim
    · exact itoa_inj h
theorem num_mem (n z : Int) : ∀ c ∈ num n z, c = 45 ∨ (48 ≤ c.toNat ∧ c.toNat ≤ 57) := by
  intro c hc
  unfold num at hc
  split at hc
  · cases hc
  · exact itoa_mem n c hc

-- joined lists
theorem cut_inj {c : UInt8} : ∀ {x y s t : List UInt8}, c ∉ x → c ∉ y → x ++ c :: s = y ++ c :: t → x = y ∧ s = t
  | [], [], _, _, _, _, h => ⟨rfl, (List.cons.inj h).2⟩
  | [], b :: y, s, t, _, hy, h => by
    have := (List.cons.inj (show c :: s = b :: (y ++ c :: t) from h)).1
    exact (hy (by rw [this]; simp)).elim
  | a :: x, [], s, t, hx, _, h => by
    have := (List.cons.inj (show a :: (x ++ c :: s) = c :: t from h)).1
    exact (hx (by rw [← this]; simp)).elim
  | a :: x, b :: y, s, t, hx, hy, h => by
    have h' := List.cons.inj (show a :: (x ++ c :: s) = b :: (y ++ c :: t) from h)
    have := cut_inj (fun e => hx (List.mem_cons_of_mem _ e)) (fun e => hy (List.mem_cons_of_mem _ e)) h'.2
    exact ⟨by rw [h'.1, this.1], this.2⟩
theorem join_more (c : UInt8) (x y : List UInt8) (r : List (List UInt8)) : Lib.join (x :: y :: r) [c] = x ++ c :: Lib.join (y :: r) [c] := by
  rw [Lib.join_cons, Lib.join_cons]
  simp [Lib.joinTail]
theorem join_inj {c : UInt8} : ∀ (xs ys : List (List UInt8)), xs ≠ [] → ys ≠ [] → (∀ x ∈ xs, c ∉ x) → (∀ y ∈ ys, c ∉ y) → Lib.join xs [c] = Lib.join ys [c] → xs = ys
  | [], _, h, _, _, _, _ => absurd rfl h
  | _, [], _, h, _, _, _ => absurd rfl h
  | [x], [y], _, _, _, _, h => by rw [Lib.join_one, Lib.join_one] at h; rw [h]
  | [x], y :: y' :: r, _, _, hx, _, h => by
    rw [Lib.join_one, join_more] at h
    exact (hx x (by simp) (by rw [h]; simp)).elim
  | x :: x' :: r, [y], _, _, _, hy, h => by
    rw [Lib.join_one, join_more] at h
    exact (hy y (by simp) (by rw [← h]; simp)).elim
  | x :: x' :: r, y :: y' :: r', _, _, hx, hy, h => by
    rw [join_more, join_more] at h
    obtain ⟨h1, h2⟩ := cut_inj (hx x (by simp)) (hy y (by simp)) h
    have := join_inj (x' :: r) (y' :: r') (by simp) (by simp) (fun z hz => hx z (List.mem_cons_of_mem _ hz)) (fun z hz => hy z (List.mem_cons_of_mem _ hz)) h2
    rw [h1, this]
theorem join_ne {xs : List (List UInt8)} {sep : List UInt8} (h : xs ≠ []) (hx : ∀ x ∈ xs, x ≠ []) : Lib.join xs sep ≠ [] := by
  cases xs with
  | nil => exact absurd rfl h
  | cons x r =>
    rw [Lib.join_cons]
    intro e
    exact hx x (by simp) (List.append_eq_nil_iff.1 e).1
theorem join_inj' {c : UInt8} (xs ys : List (List UInt8)) (nx : ∀ x ∈ xs, x ≠ []) (ny : ∀ y ∈ ys, y ≠ []) (hx : ∀ x ∈ xs, c ∉ x) (hy : ∀ y ∈ ys, c ∉ y) (h : Lib.join xs [c] = Lib.join ys [c]) : xs = ys := by
  by_cases e1 : xs = []
  · by_cases e2 : ys = []
    · rw [e1, e2]
    · rw [e1, Lib.join_nil] at h
      exact (join_ne e2 ny h.symm).elim
  · by_cases e2 : ys = []
    · rw [e2, Lib.join_nil] at h
      exact (join_ne e1 nx h).elim
    · exact join_inj xs ys e1 e2 hx hy h
theorem map_inj {α β : Type} {g : α → β} {p : α → Prop} (hg : ∀ x y, p x → p y → g x = g y → x = y) : ∀ (l k : List α), (∀ x ∈ l, p x) → (∀ x ∈ k, p x) → l.map g = k.map g → l = k
  | [], [], _, _, _ => rfl
  | [], _ :: _, _, _, h => by cases h
  | _ :: _, [], _, _, h => by cases h
  | x :: l, y :: k, hl, hk, h => by
    obtain ⟨h1, h2⟩ := List.cons.inj (show g x :: l.map g = g y :: k.map g from h)
    rw [hg x y (hl x (by simp)) (hk y (by simp)) h1, map_inj hg l k (fun z hz => hl z (List.mem_cons_of_mem _ hz)) (fun z hz => hk z (List.mem_cons_of_mem _ hz)) h2]
theorem nums_inj {l k : List Int} (h : nums l = nums k) : l = k := by
  have no : ∀ (l : List Int), ∀ x ∈ l.map Lib.itoa, (44 : UInt8) ∉ x := fun l x hx e => by
    obtain ⟨n, -, rfl⟩ := List.mem_map.1 hx
    have := itoa_mem n 44 e
    simp at this
  have ne : ∀ (l : List Int), ∀ x ∈ l.map Lib.itoa, x ≠ [] := fun l x hx => by
    obtain ⟨n, -, rfl⟩ := List.mem_map.1 hx
    exact itoa_ne n
  exact map_inj (p := fun _ => True) (fun x y _ _ e => itoa_inj e) l k (fun _ _ => trivial) (fun _ _ => trivial) (join_inj' _ _ (ne l) (ne k) (no l) (no k) h)
theorem wd_len (d : Nat) : (wd d).length = 2 := by unfold wd; split <;> rfl
theorem wd_inj {a b : Nat} (ha : a ≤ 6) (hb : b ≤ 6) (h : wd a = wd b) : a = b := by
  have : ∀ a ≤ 6, ∀ b ≤ 6, wd a = wd b → a = b := by decide
  exact this a ha b hb h
theorem wd_mem (d : Nat) : ∀ c ∈ wd d, 65 ≤ c.toNat ∧ c.toNat ≤ 90 := by unfold wd; split <;> decide
theorem day_inj {x y : Int × Int} (hx : 0 ≤ x.2 ∧ x.2 ≤ 6) (hy : 0 ≤ y.2 ∧ y.2 ≤ 6) (h : day x = day y) : x = y := by
  unfold day at h
  obtain ⟨h1, h2⟩ := List.append_inj' h (by rw [wd_len, wd_len])
  have e1 := num_inj h1
  have e2 := wd_inj (by omega) (by omega) h2
  have e3 : x.2 = y.2 := by omega
  exact Prod.ext e1 e3
theorem day_ne (x : Int × Int) : day x ≠ [] := by
  unfold day
  intro e
  have := wd_len x.2.toNat
  rw [(List.append_eq_nil_iff.1 e).2] at this
  cases this
theorem day_mem (x : Int × Int) : ∀ c ∈ day x, c = 45 ∨ (48 ≤ c.toNat ∧ c.toNat ≤ 57) ∨ (65 ≤ c.toNat ∧ c.toNat ≤ 90) := by
  intro c hc
  rcases List.mem_append.1 hc with h | h
  · rcases num_mem _ _ c h with h | h
    · exact .inl h
    · exact .inr (.inl h)
  · exact .inr (.inr (wd_mem _ c h))
theorem days_inj {l k : List (Int × Int)} (hl : ∀ x ∈ l, 0 ≤ x.2 ∧ x.2 ≤ 6) (hk : ∀ x ∈ k, 0 ≤ x.2 ∧ x.2 ≤ 6) (h : days l = days k) : l = k := by
  have no : ∀ (l : List (Int × Int)), ∀ x ∈ l.map day, (44 : UInt8) ∉ x := fun l x hx e => by
    obtain ⟨n, -, rfl⟩ := List.mem_map.1 hx
    have := day_mem n 44 e
    simp at this
  have ne : ∀ (l : List (Int × Int)), ∀ x ∈ l.map day, x ≠ [] := fun l x hx => by
    obtain ⟨n, -, rfl⟩ := List.mem_map.1 hx
    exact day_ne n
  exact map_inj (p := fun x : Int × Int => 0 ≤ x.2 ∧ x.2 ≤ 6) (fun x y a b e => day_inj a b e) l k hl hk (join_inj' _ _ (ne l) (ne k) (no l) (no k) h)
theorem fq_ne (a : Nat) : fq a ≠ [] := by unfold fq; split <;> simp
theorem un_inj {u v : Int} {t : List UInt8} (h : Un u t) (k : Un v t) : u = v := by
  rcases h with ⟨rfl, rfl⟩ | ⟨y, m, d, h, rfl⟩
  · rcases k with ⟨rfl, -⟩ | ⟨y, m, d, k, e⟩
    · rfl
    · cases e
  · rcases k with ⟨rfl, e⟩ | ⟨y', m', d', k, e⟩
    · cases e
    · obtain ⟨a1, a2, a3, a4, a5, a6, a7⟩ := h
      obtain ⟨b1, b2, b3, b4, b5, b6, b7⟩ := k
      have l1 := Cal.dim_le y m
      have l2 := Cal.dim_le y' m'
      simp only [date, List.cons.injEq, dig_eq] at e
      obtain ⟨e1, e2, e3, e4, e5, e6, e7, e8, -⟩ := e
      have q1 : y = y' := by omega
      have q2 : m = m' := by omega
      have q3 : d = d' := by omega
      subst q1 q2 q3
      rw [a7, b7]

-- parts
theorem nm_mem (k : Nat) : ∀ c ∈ nm k, 65 ≤ c.toNat ∧ c.toNat ≤ 90 := by unfold nm; split <;> decide
theorem nm_no (k : Nat) : (61 : UInt8) ∉ nm k := fun h => by have := nm_mem k 61 h; simp at this
theorem join_mem {c s : UInt8} : ∀ {xs : List (List UInt8)}, c ∈ Lib.join xs [s] → c = s ∨ ∃ x ∈ xs, c ∈ x
  | [], h => by cases h
  | [x], h => by rw [Lib.join_one] at h; exact .inr ⟨x, by simp, h⟩
  | x :: y :: r, h => by
    rw [join_more] at h
    rcases List.mem_append.1 h with h | h
    · exact .inr ⟨x, by simp, h⟩
    · rcases List.mem_cons.1 h with h | h
      · exact .inl h
      · rcases join_mem h with h | ⟨z, hz, h⟩
        · exact .inl h
        · exact .inr ⟨z, List.mem_cons_of_mem _ hz, h⟩
theorem un_mem {u : Int} {t : List UInt8} (h : Un u t) : ∀ c ∈ t, 48 ≤ c.toNat ∧ c.toNat ≤ 57 := by
  rcases h with ⟨-, rfl⟩ | ⟨y, m, d, -, rfl⟩
  · intro c hc; cases hc
  · intro c hc
    have one : ∀ n : Int, 48 ≤ (dig n).toNat ∧ (dig n).toNat ≤ 57 := fun n => by have := dig_toNat n; omega
    simp only [date, List.mem_cons, List.not_mem_nil, or_false] at hc
    rcases hc with rfl | rfl | rfl | rfl | rfl | rfl | rfl | rfl <;> exact one _
theorem vals_no {f iv c u : Int} {t : List UInt8} {M D : List Int} {K : List (Int × Int)} {P : List Int} (h : Un u t) : ∀ v ∈ vals f iv c t M D K P, (59 : UInt8) ∉ v := by
  have nn : ∀ n z, (59 : UInt8) ∉ num n z := fun n z e => by have := num_mem n z 59 e; simp at this
  have nl : ∀ l, (59 : UInt8) ∉ nums l := fun l e => by
    rcases join_mem e with e | ⟨x, hx, e⟩
    · cases e
    · obtain ⟨n, -, rfl⟩ := List.mem_map.1 hx
      have := itoa_mem n 59 e
      simp at this
  have nd : ∀ l, (59 : UInt8) ∉ days l := fun l e => by
    rcases join_mem e with e | ⟨x, hx, e⟩
    · cases e
    · obtain ⟨n, -, rfl⟩ := List.mem_map.1 hx
      have := day_mem n 59 e
      simp at this
  have nf : ∀ k, (59 : UInt8) ∉ fq k := fun k => by unfold fq; split <;> decide
  intro v hv
  simp only [vals, List.mem_cons, List.not_mem_nil, or_false] at hv
  rcases hv with rfl | rfl | rfl | rfl | rfl | rfl | rfl | rfl
  · exact nf _
  · exact nn _ _
  · exact nn _ _
  · exact fun e => by have := un_mem h 59 e; simp at this
  · exact nl _
  · exact nl _
  · exact nd _
  · exact nl _
end Go.Proofs.YtocpmljkmdpfkaaGreatDoor.Rfc
