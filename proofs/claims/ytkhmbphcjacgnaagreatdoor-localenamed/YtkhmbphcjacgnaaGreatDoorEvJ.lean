/-
  A run by reckoning: a region that draws its order, whole.
-/
import Derived.Test.YtkhmbphcjacgnaaGreatDoorEvI
namespace Go.Proofs.YtkhmbphcjacgnaaGreatDoor
open Go Go.RowKit
section
variable {P : Program} {G : Nat} {X : Kep} {base : Nat} {E : Ren}
theorem mem_zip {ops : Array Oper} {i : Nat} {o : Oper} (h : ops[i]? = some o) : (o, i) ∈ ops.toList.zipIdx := by
  rw [List.mem_zipIdx_iff_getElem?]
  simpa using h
theorem static_at [Ltr] [Orc] {ops : Array Oper} {T : List Nat} (hs : static G ops T = true) {i : Nat} {o : Oper} (h : ops[i]? = some o) :
    T.getD i 0 = clos T (bOn o) ∧ (∀ e ∈ bOn o, e < i) ∧ okReads G ops.toList (T.getD i 0) o = true := by
  unfold static at hs
  simp only [Bool.and_eq_true] at hs
  have := List.all_eq_true.1 hs.2 (o, i) (mem_zip h)
  simp only [Bool.and_eq_true] at this
  exact ⟨Nat.eq_of_beq_eq_true this.1.1, fun e he => Nat.le_of_ble_eq_true (List.all_eq_true.1 this.1.2 e he), this.2⟩
/-- what is ahead is done -/
theorem anc_done [Ltr] [Orc] {ops : Array Oper} {T : List Nat} (hs : static G ops T = true) {listed : Array Bool} (dc : ∀ (i : Nat) (o : Oper), ops[i]? = some o → listed.getD i false = true → ∀ e ∈ bOn o, listed.getD e false = true) (hsz : listed.size = ops.size) :
    ∀ (n i : Nat) (o : Oper) (j : Nat), i ≤ n → ops[i]? = some o → (∀ e ∈ bOn o, listed.getD e false = true) → (T.getD i 0).testBit j = true → listed.getD j false = true
  | n, i, o, j, hn, ho, hb, hj => by
    obtain ⟨h1, h2, _⟩ := static_at hs ho
    rw [h1] at hj
    rcases clos_bit (bOn o) 0 hj with h | ⟨e, he, h | h⟩
    · simp at h
    · rw [h]; exact hb e he
    · have hei := h2 e he
      have hi : i < ops.size := (Array.getElem?_eq_some_iff.1 ho).1
      have hel : e < ops.size := by omega
      cases n with
      | zero => omega
      | succ n => exact anc_done hs dc hsz n e ops[e] j (by omega) (by simp [hel]) (dc e ops[e] (by simp [hel]) (hb e he)) h
variable {call : Caller} {ops : Array Oper} {s : St} {f : List Value} {T eff : List Nat} {Ks : List RW} {E0 : Ren} {w0 w : World} {K : RW} {st : Nat} {listed : Array Bool} {a : Act}
theorem dst_mem {L : List Oper} {m t j : Nat} {o : Oper} (h : (L.zipIdx.all fun p => !dstIs t p.1 || m.testBit p.2) = true) (hj : L[j]? = some o) (hd : o.dst = some t) : m.testBit j = true := by
  have := List.all_eq_true.1 h (o, j) (by rw [List.mem_zipIdx_iff_getElem?]; simpa using hj)
  simpa [dstIs, hd] using this
theorem DI.reads [Ltr] [Orc] (D : DI ops s f eff G X base E0 E w0 K st listed a w) (hs : static G ops T = true) (hsame : ∀ t, (∀ (i : Nat) (o : Oper), ops[i]? = some o → o.dst ≠ some t) → slot f t = slot s.f t)
    {i : Nat} {o : Oper} (ho : ops[i]? = some o) (hb : ∀ e ∈ bOn o, listed.getD e false = true) : ∀ x ∈ o.op.operands, Rel E (ev f x) (a.eval x) := by
  intro x hx
  obtain ⟨_, _, hr⟩ := static_at hs ho
  unfold okReads at hr
  simp only [Bool.and_eq_true] at hr
  have hx' := List.all_eq_true.1 hr.1 x (by simpa using hx)
  simp only [Bool.and_eq_true] at hx'
  cases x with
  | const v => exact .same hx'.1
  | global g => obtain ⟨k, e⟩ := D.g g (by simpa [okC, Nat.blt_eq] using hx'.1); exact .ptr e
  | func g => exact .same rfl
  | tmp t =>
    show Rel E (slot f t) (a.tmps.getD t undef)
    by_cases hw : ∃ (j : Nat) (oj : Oper), ops[j]? = some oj ∧ oj.dst = some t
    · obtain ⟨j, oj, hj, hd⟩ := hw
      have hbit := dst_mem hx'.2 (by simpa using hj) hd
      exact D.set t j oj hj (anc_done hs D.dc D.sz i i o j (Nat.le_refl _) ho hb hbit) hd
    · have hno : ∀ (j : Nat) (oj : Oper), ops[j]? = some oj → oj.dst ≠ some t := fun j oj hj hd => hw ⟨j, oj, hj, hd⟩
      rw [hsame t hno]
      exact D.old t fun j oj hj _ => hno j oj hj
theorem DI.want [Ltr] [Orc] (D : DI ops s f eff G X base E0 E w0 K st listed a w) (hs : static G ops T = true) (hlen : f.length = s.f.length) (hgd : ∀ o ∈ ops.toList, gdOk ops o f = true)
    {i : Nat} {o : Oper} (ho : ops[i]? = some o) (hb : ∀ e ∈ bOn o, listed.getD e false = true) : Region.wanted o (yielded ops a.tmps) = Region.wanted o (yielded ops ⟨f⟩) := by
  obtain ⟨_, _, hr⟩ := static_at hs ho
  unfold okReads at hr
  simp only [Bool.and_eq_true] at hr
  unfold Region.wanted
  cases hg : o.guard with
  | none => rfl
  | some g =>
    obtain ⟨j, want⟩ := g
    dsimp only
    have hj := hr.2
    rw [hg] at hj
    simp only [Bool.and_eq_true] at hj
    replace hj := hj.1
    have hjl := anc_done hs D.dc D.sz i i o j (Nat.le_refl _) ho hb hj.1
    have : yielded ops a.tmps j = yielded ops ⟨f⟩ j := by
      unfold yielded
      cases hd : (ops[j]?).bind (·.dst) with
      | none => rfl
      | some t =>
        have hjs : j < ops.size := by
          have : j < ops.toList.length := Nat.le_of_ble_eq_true hj.2
          simpa using this
        have hoj : ops[j]? = some ops[j] := by simp [hjs]
        have hdj : ops[j].dst = some t := by rw [hoj] at hd; simpa using hd
        have hrel := D.set t j ops[j] hoj hjl hdj
        show (match a.tmps[t]? with | some (.bool b) => some b | _ => none) = (match (⟨f⟩ : Array Value)[t]? with | some (.bool b) => some b | _ => none)
        rcases Nat.lt_or_ge t f.length with h | h
        · have h1 : (⟨f⟩ : Array Value)[t]? = some (slot f t) := by simpa using slot_get h
          have h2 : a.tmps[t]? = some (a.tmps.getD t undef) := by
            have : t < a.tmps.size := by rw [D.len, ← hlen]; exact h
            simp [this]
          rw [h1, h2]
          refine (hrel.isBool ?_).symm
          have h3 := hgd o (by simpa using Array.mem_of_getElem? ho)
          unfold gdOk at h3
          rw [hg] at h3
          dsimp only at h3
          rw [hd] at h3
          simpa using h3
        · have h1 : (⟨f⟩ : Array Value)[t]? = none := by simpa using h
          have h2 : a.tmps[t]? = none := by
            rw [Array.getElem?_eq_none_iff, D.len, ← hlen]; exact h
          rw [h1, h2]
    rw [this]
/-- what is ahead comes earlier in the text -/
theorem anc_lt [Ltr] [Orc] (hs : static G ops T = true) : ∀ (n i : Nat) (o : Oper) (j : Nat), i ≤ n → ops[i]? = some o → (T.getD i 0).testBit j = true → j < i
  | n, i, o, j, hn, ho, hj => by
    obtain ⟨h1, h2, _⟩ := static_at hs ho
    rw [h1] at hj
    rcases clos_bit (bOn o) 0 hj with h | ⟨e, he, h | h⟩
    · simp at h
    · rw [h]; exact h2 e he
    · have hei := h2 e he
      have hi : i < ops.size := (Array.getElem?_eq_some_iff.1 ho).1
      have hel : e < ops.size := by omega
      cases n with
      | zero => omega
      | succ n => exact Nat.lt_trans (anc_lt hs n e ops[e] j (by omega) (by simp [hel]) h) hei
/-- nothing behind op i writes what it reads -/
theorem no_later [Ltr] [Orc] {L : List Oper} {m t i : Nat} (h : (L.zipIdx.all fun p => !dstIs t p.1 || m.testBit p.2) = true) (hm : ∀ j, m.testBit j = true → j < i) : ∀ (q : Nat) (p : Oper × Nat), L.zipIdx[q]? = some p → i ≤ q → p.1.dst ≠ some t := by
  intro q p hp hiq hd
  have hq : p.2 = q ∧ L[q]? = some p.1 := by
    rw [List.getElem?_zipIdx] at hp
    cases hl : L[q]? with
    | none => rw [hl] at hp; cases hp
    | some o => rw [hl] at hp; obtain rfl := Option.some.inj hp; exact ⟨by simp, rfl⟩
  have := dst_mem h hq.2 hd
  have := hm q this
  omega
theorem chkAll_at [Orc] {Ks : List RW} : ∀ {l : List (Oper × Nat)} {es : List En}, chkAll P base call T eff f Ks l es = true → ∀ {j : Nat} {o : Oper} {i : Nat}, l[j]? = some (o, i) → ∃ en, es[j]? = some en ∧ ∀ (s : Nat) (K : RW), Ks[s]? = some K → chk1 P base call T eff f i o en s K = true
  | [], [], _, j, o, i, h => by simp at h
  | (o', i') :: l, en :: es, hc, j, o, i, h => by
    simp only [chkAll, Bool.and_eq_true] at hc
    cases j with
    | zero =>
      obtain ⟨rfl, rfl⟩ : o' = o ∧ i' = i := by simpa using h
      exact ⟨en, rfl, fun s K hK => List.all_eq_true.1 hc.1 (K, s) (by rw [List.mem_zipIdx_iff_getElem?]; simpa using hK)⟩
    | succ j => simpa using chkAll_at hc.2 (j := j) (o := o) (i := i) (by simpa using h)
  | [], _ :: _, hc, _, _, _, _ => by cases hc
  | _ :: _, [], hc, _, _, _, _ => by cases hc
end
end Go.Proofs.YtkhmbphcjacgnaaGreatDoor
