/-
  A run by reckoning: a region that draws its order.
-/
import Derived.Test.YtjfchpfbpmediaaGreatDoorEv7
import Derived.Test.YtjfchpfbpmediaaGreatDoorEvP
import Derived.Orders
namespace Go.Proofs.YtjfchpfbpmediaaGreatDoor
open Go Go.RowKit
def all2 (f : Value → Value → Bool) : List Value → List Value → Bool
  | [], [] => true
  | u :: l, v :: m => f u v && all2 f l m
  | _, _ => false
theorem all2_eq {f : Value → Value → Bool} (h : ∀ u v, f u v = true → u = v) : ∀ {l m : List Value}, all2 f l m = true → l = m
  | [], [], _ => rfl
  | u :: l, v :: m, e => by
    simp only [all2, Bool.and_eq_true] at e
    rw [h u v e.1, all2_eq h e.2]
  | [], _ :: _, e => by cases e
  | _ :: _, [], e => by cases e
def veqn : Nat → Value → Value → Bool
  | 0, _, _ => false
  | n + 1, u, v => match u, v with
    | .bool a, .bool b => a == b
    | .int k a, .int k' b => decide (k = k') && decide (a = b)
    | .string a, .string b => decide (a = b)
    | .pointer a, .pointer b => decide (a = b)
    | .slice a l c, .slice a' l' c' => decide (a = a') && Nat.beq l l' && Nat.beq c c'
    | .map a, .map b => decide (a = b)
    | .nilFunc, .nilFunc => true
    | .nilIface, .nilIface => true
    | .iface t a, .iface t' b => Nat.beq t t' && veqn n a b
    | .func (.func f) ⟨x⟩ ⟨y⟩, .func (.func g) ⟨x'⟩ ⟨y'⟩ => Nat.beq f g && all2 (veqn n) x x' && all2 (veqn n) y y'
    | .chan (some i), .chan (some j) => Nat.beq i j
    | .float .f64 i, .float .f64 j => Nat.beq i j
    | .float .f32 i, .float .f32 j => Nat.beq i j
    | .complex .f64 i j, .complex .f64 k l => Nat.beq i k && Nat.beq j l
    | .complex .f32 i j, .complex .f32 k l => Nat.beq i k && Nat.beq j l
    | .agg ⟨x⟩, .agg ⟨y⟩ => all2 (veqn n) x y
    | .tuple ⟨x⟩, .tuple ⟨y⟩ => all2 (veqn n) x y
    | _, _ => false
theorem veqn_eq [Ltr] : ∀ (n : Nat) (u v : Value), veqn n u v = true → u = v
  | 0, _, _, e => by cases e
  | n + 1, u, v, e => by
    unfold veqn at e
    split at e
    · simp at e; rw [e]
    · simp at e; rw [e.1, e.2]
    · simp at e; rw [e]
    · simp at e; rw [e]
    · simp only [Bool.and_eq_true, decide_eq_true_eq] at e
      rw [e.1.1, Nat.eq_of_beq_eq_true e.1.2, Nat.eq_of_beq_eq_true e.2]
    · simp at e; rw [e]
    · rfl
    · rfl
    · simp only [Bool.and_eq_true] at e
      rw [Nat.eq_of_beq_eq_true e.1, veqn_eq n _ _ e.2]
    · simp only [Bool.and_eq_true] at e
      rw [Nat.eq_of_beq_eq_true e.1.1, all2_eq (veqn_eq n) e.1.2, all2_eq (veqn_eq n) e.2]
    · rw [Nat.eq_of_beq_eq_true e]
    · rw [Nat.eq_of_beq_eq_true e]
    · rw [Nat.eq_of_beq_eq_true e]
    · simp only [Bool.and_eq_true] at e
      rw [Nat.eq_of_beq_eq_true e.1, Nat.eq_of_beq_eq_true e.2]
    · simp only [Bool.and_eq_true] at e
      rw [Nat.eq_of_beq_eq_true e.1, Nat.eq_of_beq_eq_true e.2]
    · rw [all2_eq (veqn_eq n) e]
    · rw [all2_eq (veqn_eq n) e]
    · cases e
def eqEs : List MapEntry → List MapEntry → Bool
  | [], [] => true
  | a :: l, b :: m => veqn 4 a.key b.key && veqn 4 a.val b.val && Nat.beq a.born b.born && eqEs l m
  | _, _ => false
theorem eqEs_eq [Ltr] : ∀ {l m : List MapEntry}, eqEs l m = true → l = m
  | [], [], _ => rfl
  | a :: l, b :: m, e => by
    simp only [eqEs, Bool.and_eq_true] at e
    obtain ⟨ka, va, ba⟩ := a
    obtain ⟨kb, vb, bb⟩ := b
    dsimp only at e
    rw [eqEs_eq e.2, veqn_eq 4 _ _ e.1.1.1, veqn_eq 4 _ _ e.1.1.2, Nat.eq_of_beq_eq_true e.1.2]
  | [], _ :: _, e => by cases e
  | _ :: _, [], e => by cases e
def eqOb : Ob → Ob → Bool
  | .gone, .gone => true
  | .ro l, .ro m => all2 (veqn 4) l m
  | .row l t, .row m u => all2 (veqn 4) l m && Nat.beq t u
  | .own l t s, .own m u r => all2 (veqn 4) l m && Nat.beq t u && Nat.beq s r
  | .mp l c, .mp m d => eqEs l m && Nat.beq c d
  | .opq i, .opq j => Nat.beq i j
  | .it s p, .it t q => decide (s = t) && Nat.beq p q
  | _, _ => false
theorem eqOb_eq [Ltr] {a b : Ob} (e : eqOb a b = true) : a = b := by
  unfold eqOb at e
  split at e
  · rfl
  · rw [all2_eq (veqn_eq 4) e]
  · simp only [Bool.and_eq_true] at e
    rw [all2_eq (veqn_eq 4) e.1, Nat.eq_of_beq_eq_true e.2]
  · simp only [Bool.and_eq_true] at e
    rw [all2_eq (veqn_eq 4) e.1.1, Nat.eq_of_beq_eq_true e.1.2, Nat.eq_of_beq_eq_true e.2]
  · simp only [Bool.and_eq_true] at e
    rw [eqEs_eq e.1, Nat.eq_of_beq_eq_true e.2]
  · rw [Nat.eq_of_beq_eq_true e]
  · simp only [Bool.and_eq_true, decide_eq_true_eq] at e
    rw [e.1, Nat.eq_of_beq_eq_true e.2]
  · cases e
def eqH : List (Nat × Ob) → List (Nat × Ob) → Bool
  | [], [] => true
  | (i, a) :: l, (j, b) :: m => Nat.beq i j && eqOb a b && eqH l m
  | _, _ => false
theorem eqH_eq [Ltr] : ∀ {l m : List (Nat × Ob)}, eqH l m = true → l = m
  | [], [], _ => rfl
  | (i, a) :: l, (j, b) :: m, e => by
    simp only [eqH, Bool.and_eq_true] at e
    rw [eqH_eq e.2, eqOb_eq e.1.2, Nat.eq_of_beq_eq_true e.1.1]
  | [], _ :: _, e => by cases e
  | _ :: _, [], e => by cases e
/-- two memories of names are the same -/
def eqW (K L : RW) : Bool := Nat.beq K.n L.n && eqH K.h L.h
theorem eqW_eq [Ltr] {K L : RW} (e : eqW K L = true) : K = L := by
  unfold eqW at e
  simp only [Bool.and_eq_true] at e
  obtain ⟨n, h⟩ := K
  obtain ⟨m, g⟩ := L
  rw [show n = m from Nat.eq_of_beq_eq_true e.1, show h = g from eqH_eq e.2]
def bOn (o : Oper) : List Nat := (o.after.toList.filter fun e => Region.binds .any e).map (·.on)
def clos (T : List Nat) (l : List Nat) : Nat := l.foldl (fun m e => m ||| (1 <<< e ||| T.getD e 0)) 0
def mkT : List Oper → List Nat → List Nat
  | [], T => T
  | o :: os, T => mkT os (T ++ [clos T (bOn o)])
def dstIs (t : Nat) (o : Oper) : Bool :=
  match o.dst with
  | some d => Nat.beq d t
  | none => false
/-- what is behind op i (its mask m): all writers of what it reads, its guard -/
def okReads (G : Nat) (L : List Oper) (m : Nat) (o : Oper) : Bool :=
  o.op.operands.toList.all (fun x => okC G x && match x with
    | .tmp t => L.zipIdx.all fun p => !dstIs t p.1 || m.testBit p.2
    | _ => true) &&
  match o.guard with
  | some (j, _) => m.testBit j && Nat.blt j L.length && (match (L[j]?).bind (·.dst) with
    | some t => L.zipIdx.all fun p => !dstIs t p.1 || m.testBit p.2
    | none => true)
  | none => true
def static (G : Nat) (ops : Array Oper) (T : List Nat) : Bool :=
  Nat.beq T.length ops.size && ops.toList.zipIdx.all fun p => Nat.beq (T.getD p.2 0) (clos T (bOn p.1)) && (bOn p.1).all (fun e => Nat.blt e p.2) && okReads G ops.toList (T.getD p.2 0) p.1
def stepAt [Orc] (P : Program) (base : Nat) (call : Caller) (f : List Value) (o : Oper) (K : RW) : Option (Value × RW) :=
  match Orc.f o.op (ev f) with
  | some v => some (v, K)
  | none => match evM P base (ev f) o K with
  | some (.value v, H1) => some (v, H1)
  | some (.skip, H1) => some (undef, H1)
  | some (.enter g args, H1) => call g args.toList H1
  | _ => none
def dstOk (o : Oper) (v : Value) (f : List Value) : Bool :=
  match o.dst with
  | some d => veqn 4 v (slot f d)
  | none => true
/-- an operation as it went in the text's order: the frame and the memory ahead of it, what it yields, memory behind it, how many have changed memory before it, is it wanted? -/
structure En where
  f : List Value
  K : RW
  v : Value
  K1 : RW
  s : Nat
  w : Bool
  ch : Bool
/-- the operations in the text's order: their entries, those that change memory, memory ahead of each of these and behind the last, the frame behind all -/
def tr [Orc] (P : Program) (base : Nat) (call : Caller) (ops : Array Oper) : List (Oper × Nat) → List Value → RW → Nat → Option (List En × List Nat × List RW × List Value)
  | [], f, K, _ => some ([], [], [K], f)
  | (o, i) :: l, f, K, s => bif Region.wanted o (yielded ops ⟨f⟩) then match stepAt P base call f o K with
      | some (v, K1) => bif quiet P o.op || eqW K1 K then match tr P base call ops l (pt o.dst v f) K s with
          | some (es, eff, Ks, g) => some (⟨f, K, v, K, s, true, false⟩ :: es, eff, Ks, g)
          | none => none
        else match tr P base call ops l (pt o.dst v f) K1 (s + 1) with
          | some (es, eff, Ks, g) => some (⟨f, K, v, K1, s, true, true⟩ :: es, i :: eff, K :: Ks, g)
          | none => none
      | none => none
    else match tr P base call ops l (pt o.dst undef f) K s with
      | some (es, eff, Ks, g) => some (⟨f, K, undef, K, s, false, false⟩ :: es, eff, Ks, g)
      | none => none
def chk1 [Orc] (P : Program) (base : Nat) (call : Caller) (T eff : List Nat) (f : List Value) (i : Nat) (o : Oper) (en : En) (s : Nat) (K : RW) : Bool :=
  (eff.drop s).any (fun p => (T.getD i 0).testBit p) || (eff.take s).any (fun p => Nat.beq p i || (T.getD p 0).testBit i) ||
  (bif en.w then bif Nat.beq en.s s then dstOk o en.v f && (en.ch || !eff.elem i) else bif memfree o.op then dstOk o en.v f && !eff.elem i else match stepAt P base call en.f o K with
      | some (v, K1) => dstOk o v f && !eff.elem i && (quiet P o.op || eqW K1 K)
      | none => false
    else dstOk o undef f && !eff.elem i)
def ndp : List Nat → Bool
  | [] => true
  | a :: l => !l.elem a && ndp l
theorem ndp_nodup : ∀ {l : List Nat}, ndp l = true → l.Nodup
  | [], _ => List.nodup_nil
  | a :: l, h => by
    simp only [ndp, Bool.and_eq_true, Bool.not_eq_true'] at h
    exact List.nodup_cons.2 ⟨fun hm => (by rw [List.elem_eq_true_of_mem hm] at h; cases h.1), ndp_nodup h.2⟩
def chkAll [Orc] (P : Program) (base : Nat) (call : Caller) (T eff : List Nat) (f : List Value) (Ks : List RW) : List (Oper × Nat) → List En → Bool
  | [], [] => true
  | (o, i) :: l, en :: es => (Ks.zipIdx.all fun q => chk1 P base call T eff f i o en q.2 q.1) && chkAll P base call T eff f Ks l es
  | _, _ => false
def lastK : List RW → Option RW
  | [] => none
  | [K] => some K
  | _ :: l => lastK l
def drawEv [Orc] (P : Program) (G base : Nat) (call : Caller) (ops : Array Oper) (s : St) : Option St :=
  match tr P base call ops ops.toList.zipIdx s.f s.H 0 with
  | none => none
  | some (es, eff, Ks, f) => bif static G ops (mkT ops.toList []) && chkAll P base call (mkT ops.toList []) eff f Ks ops.toList.zipIdx es && ndp eff && ops.toList.all (fun o => gdOk ops o f) && eff.all (fun p => Nat.blt p ops.size) then match lastK Ks with
      | some K => some ⟨f, K, s.ds⟩
      | none => none
    else none
end Go.Proofs.YtjfchpfbpmediaaGreatDoor
/-
  A run by reckoning: a region that draws its order comes to the same, whatever the order.
-/
namespace Go.Proofs.YtjfchpfbpmediaaGreatDoor
open Go Go.RowKit
section
variable {P : Program} {G : Nat} {X : Kep} {base : Nat} {E : Ren}
theorem pt_len (d : Option Tmp) (v : Value) (f : List Value) : (pt d v f).length = f.length := by
  cases d <;> simp [pt]
theorem slot_set {t d : Nat} {v : Value} (h : d ≠ t) : ∀ (f : List Value), slot (f.set d v) t = slot f t := by
  intro f
  induction f generalizing t d with
  | nil => rfl
  | cons a l ih =>
    cases d with
    | zero => cases t with
      | zero => exact absurd rfl h
      | succ t => rfl
    | succ d => cases t with
      | zero => rfl
      | succ t => exact ih (fun e => h (by rw [e]))
theorem slot_pt [Ltr] [Orc] {t : Nat} {d : Option Tmp} {v : Value} (h : d ≠ some t) (f : List Value) : slot (pt d v f) t = slot f t := by
  cases d with
  | none => rfl
  | some d => exact slot_set (fun e => h (by rw [e])) f
theorem clos_bit {T : List Nat} {j : Nat} : ∀ (l : List Nat) (m : Nat), (l.foldl (fun m e => m ||| (1 <<< e ||| T.getD e 0)) m).testBit j = true → m.testBit j = true ∨ ∃ e ∈ l, j = e ∨ (T.getD e 0).testBit j = true
  | [], m, h => .inl h
  | e :: l, m, h => by
    rw [List.foldl_cons] at h
    rcases clos_bit l _ h with h | ⟨e', he', h⟩
    · rw [Nat.testBit_or, Nat.testBit_or] at h
      simp only [Bool.or_eq_true] at h
      rcases h with h | h | h
      · exact .inl h
      · have h' := h
        rw [Nat.testBit_shiftLeft] at h'
        simp only [Bool.and_eq_true, decide_eq_true_eq] at h'
        have h2 : j - e = 0 := by
          rcases Nat.eq_zero_or_pos (j - e) with h0 | h0
          · exact h0
          · exfalso
            have h3 := h'.2
            rw [Nat.testBit_lt_two_pow (by have := Nat.lt_two_pow_self (n := j - e); omega)] at h3
            cases h3
        exact .inr ⟨e, by simp, .inl (by omega)⟩
      · exact .inr ⟨e, by simp, .inr h⟩
    · exact .inr ⟨e', by simp [he'], h⟩
/-- what the text's order has come to -/
structure TrOk [Orc] (P : Program) (base : Nat) (call : Caller) (ops : Array Oper) (l : List (Oper × Nat)) (f : List Value) (K : RW) (s : Nat) (es : List En) (eff : List Nat) (Ks : List RW) (g : List Value) : Prop where
  k0 : Ks[0]? = some K
  kl : Ks.length = eff.length + 1
  len : g.length = f.length
  same : ∀ t, (∀ p ∈ l, p.1.dst ≠ some t) → slot g t = slot f t
  en : ∀ (j : Nat) (o : Oper) (i : Nat) (e : En), l[j]? = some (o, i) → es[j]? = some e → s ≤ e.s ∧ Ks[e.s - s]? = some e.K ∧ (∀ t, (∀ (q : Nat) (p : Oper × Nat), l[q]? = some p → j ≤ q → p.1.dst ≠ some t) → slot g t = slot e.f t) ∧
    e.f.length = f.length ∧ e.w = Region.wanted o (yielded ops ⟨e.f⟩) ∧ (e.w = true → ∃ K2, stepAt P base call e.f o e.K = some (e.v, K2) ∧
      ((quiet P o.op = true ∨ K2 = e.K) ∧ e.ch = false ∨ e.ch = true ∧ eff[e.s - s]? = some i ∧ Ks[e.s - s + 1]? = some K2)) ∧ (e.w = false → e.v = undef)
theorem tr_spec [Ltr] [Orc] {call : Caller} {ops : Array Oper} : ∀ {l : List (Oper × Nat)} {f : List Value} {K : RW} {s : Nat} {es : List En} {eff : List Nat} {Ks : List RW} {g : List Value}, tr P base call ops l f K s = some (es, eff, Ks, g) → TrOk P base call ops l f K s es eff Ks g
  | [], f, K, s, es, eff, Ks, g, e => by
    obtain ⟨rfl, rfl, rfl, rfl⟩ : es = [] ∧ eff = [] ∧ Ks = [K] ∧ g = f := by
      have := Option.some.inj e
      simp only [Prod.mk.injEq] at this
      exact ⟨this.1.symm, this.2.1.symm, this.2.2.1.symm, this.2.2.2.symm⟩
    exact ⟨rfl, rfl, rfl, fun _ _ => rfl, fun j o i e h => by simp at h⟩
  | (o, i) :: l, f, K, s, es, eff, Ks, g, e => by
    unfold tr at e
    -- one more in front
    have quietly : ∀ {v : Value} {w : Bool} {es' : List En}, tr P base call ops l (pt o.dst v f) K s = some (es', eff, Ks, g) → es = ⟨f, K, v, K, s, w, false⟩ :: es' → w = Region.wanted o (yielded ops ⟨f⟩) →
        (w = true → ∃ K2, stepAt P base call f o K = some (v, K2) ∧ (quiet P o.op = true ∨ K2 = K)) → (w = false → v = undef) → TrOk P base call ops ((o, i) :: l) f K s es eff Ks g := by
      intro v w es' ht he hw hst hun
      subst he
      have T := tr_spec ht
      refine ⟨T.k0, T.kl, by rw [T.len, pt_len], fun t hn => ?_, fun j o' i' en hj hen => ?_⟩
      · rw [T.same t fun p hp => hn p (by simp [hp]), slot_pt (hn (o, i) (by simp))]
      · cases j with
        | zero =>
          obtain ⟨rfl, rfl⟩ : o = o' ∧ i = i' := by simpa using hj
          obtain rfl : (⟨f, K, v, K, s, w, false⟩ : En) = en := by simpa using hen
          refine ⟨Nat.le_refl _, by simpa using T.k0, fun t hn => ?_, rfl, hw, fun h => ?_, hun⟩
          · rw [T.same t fun p hp => ?_, slot_pt (hn 0 (o, i) rfl (Nat.le_refl _))]
            obtain ⟨q, hq, rfl⟩ := List.getElem_of_mem hp
            exact hn (q + 1) l[q] (by simp [hq]) (by omega)
          · obtain ⟨K2, h1, h2⟩ := hst h
            exact ⟨K2, h1, .inl ⟨h2, rfl⟩⟩
        | succ j =>
          obtain ⟨h1, h2, h3, h4, h5, h6, h7⟩ := T.en j o' i' en (by simpa using hj) (by simpa using hen)
          exact ⟨h1, h2, fun t hn => h3 t fun q p hq hjq => hn (q + 1) p (by simpa using hq) (by omega), by rw [h4, pt_len], h5, h6, h7⟩
    cases hw : Region.wanted o (yielded ops ⟨f⟩) with
    | false =>
      rw [hw] at e
      dsimp only [cond_false] at e
      cases ht : tr P base call ops l (pt o.dst undef f) K s with
      | none => rw [ht] at e; cases e
      | some q =>
        obtain ⟨es', eff', Ks', g'⟩ := q
        rw [ht] at e
        have := Option.some.inj e
        simp only [Prod.mk.injEq] at this
        obtain ⟨h1, rfl, rfl, rfl⟩ := this
        exact quietly ht h1.symm hw.symm (fun h => by cases h) (fun _ => rfl)
    | true =>
      rw [hw] at e
      dsimp only [cond_true] at e
      cases hst : stepAt P base call f o K with
      | none => rw [hst] at e; cases e
      | some q =>
        obtain ⟨v, K1⟩ := q
        rw [hst] at e
        dsimp only at e
        cases hq : (quiet P o.op || eqW K1 K) with
        | true =>
          rw [hq] at e
          dsimp only [cond_true] at e
          cases ht : tr P base call ops l (pt o.dst v f) K s with
          | none => rw [ht] at e; cases e
          | some q =>
            obtain ⟨es', eff', Ks', g'⟩ := q
            rw [ht] at e
            have := Option.some.inj e
            simp only [Prod.mk.injEq] at this
            obtain ⟨h1, rfl, rfl, rfl⟩ := this
            refine quietly ht h1.symm hw.symm (fun _ => ⟨K1, hst, ?_⟩) (fun h => by cases h)
            simp only [Bool.or_eq_true] at hq
            rcases hq with h | h
            · exact .inl h
            · exact .inr (eqW_eq h)
        | false =>
          rw [hq] at e
          dsimp only [cond_false] at e
          cases ht : tr P base call ops l (pt o.dst v f) K1 (s + 1) with
          | none => rw [ht] at e; cases e
          | some q =>
            obtain ⟨es', eff', Ks', g'⟩ := q
            rw [ht] at e
            have := Option.some.inj e
            simp only [Prod.mk.injEq] at this
            obtain ⟨rfl, rfl, rfl, rfl⟩ := this
            have T := tr_spec ht
            refine ⟨rfl, by simp [T.kl], by rw [T.len, pt_len], fun t hn => ?_, fun j o' i' en hj hen => ?_⟩
            · rw [T.same t fun p hp => hn p (by simp [hp]), slot_pt (hn (o, i) (by simp))]
            · cases j with
              | zero =>
                obtain ⟨rfl, rfl⟩ : o = o' ∧ i = i' := by simpa using hj
                obtain rfl : (⟨f, K, v, K1, s, true, true⟩ : En) = en := by simpa using hen
                refine ⟨Nat.le_refl _, by simp, fun t hn => ?_, rfl, hw.symm, fun _ => ⟨K1, hst, .inr ⟨rfl, by simp, by simpa using T.k0⟩⟩, fun h => by cases h⟩
                rw [T.same t fun p hp => ?_, slot_pt (hn 0 (o, i) rfl (Nat.le_refl _))]
                obtain ⟨q, hq, rfl⟩ := List.getElem_of_mem hp
                exact hn (q + 1) l[q] (by simp [hq]) (by omega)
              | succ j =>
                obtain ⟨h1, h2, h3, h4, h5, h6, h7⟩ := T.en j o' i' en (by simpa using hj) (by simpa using hen)
                have hs1 : en.s - s = en.s - (s + 1) + 1 := by omega
                refine ⟨by omega, by rw [hs1]; simpa using h2, fun t hn => h3 t fun q p hq hjq => hn (q + 1) p (by simpa using hq) (by omega), by rw [h4, pt_len], h5, fun hw => ?_, h7⟩
                obtain ⟨K2, a1, a2⟩ := h6 hw
                refine ⟨K2, a1, ?_⟩
                rcases a2 with a2 | ⟨b1, b2, b3⟩
                · exact .inl a2
                · exact .inr ⟨b1, by rw [hs1]; simpa using b2, by rw [hs1]; simpa using b3⟩
theorem lastK_spec : ∀ {Ks : List RW} {K : RW}, lastK Ks = some K → Ks[Ks.length - 1]? = some K
  | [], _, e => by cases e
  | [a], K, e => by obtain rfl := Option.some.inj e; rfl
  | a :: b :: l, K, e => by
    have := lastK_spec (Ks := b :: l) (K := K) e
    simpa using this
structure DI [Ltr] (ops : Array Oper) (s : St) (f : List Value) (eff : List Nat) (G : Nat) (X : Kep) (base : Nat) (E0 E : Ren) (w0 : World) (K : RW) (st : Nat) (listed : Array Bool) (a : Act) (w : World) : Prop where
  x : Ext E0 E
  b : Kp X w0 w
  d : RelD E s.ds a.defers
  len : a.tmps.size = s.f.length
  set : ∀ t i o, ops[i]? = some o → listed.getD i false = true → o.dst = some t → Rel E (slot f t) (a.tmps.getD t undef)
  old : ∀ t, (∀ i o, ops[i]? = some o → listed.getD i false = true → o.dst ≠ some t) → Rel E (slot s.f t) (a.tmps.getD t undef)
  rep : Rep X base E K w
  g : Gl G E
  sz : listed.size = ops.size
  e1 : ∀ p ∈ eff.take st, listed.getD p false = true
  e2 : ∀ p ∈ eff.drop st, listed.getD p false = false
  dc : ∀ i o, ops[i]? = some o → listed.getD i false = true → ∀ e ∈ bOn o, listed.getD e false = true
theorem getD_set {l : Array Bool} {i j : Nat} (hi : i < l.size) : (l.setIfInBounds i true).getD j false = (if j = i then true else l.getD j false) := by
  by_cases h : j = i
  · subst h; simp [hi]
  · have : i ≠ j := fun e => h e.symm
    simp [h, Array.getElem?_setIfInBounds_ne this]
theorem tmps_put {a : Act} {d : Option Tmp} {v : Value} {t : Nat} (h : d ≠ some t) : (a.put d v).tmps.getD t undef = a.tmps.getD t undef := by
  cases d with
  | none => rfl
  | some d =>
    have hne : d ≠ t := fun e => h (by rw [e])
    simp [Act.put, Array.getElem?_setIfInBounds_ne hne]
theorem tmps_put_same {a : Act} {t : Nat} {v : Value} (h : t < a.tmps.size) : (a.put (some t) v).tmps.getD t undef = v := by
  simp [Act.put, h]
theorem slot_out : ∀ {f : List Value} {t : Nat}, f.length ≤ t → slot f t = undef
  | [], _, _ => rfl
  | _ :: l, 0, h => by simp at h
  | _ :: l, t + 1, h => slot_out (f := l) (by simpa using h)
theorem slot_get : ∀ {f : List Value} {t : Nat}, t < f.length → f[t]? = some (slot f t)
  | [], _, h => by simp at h
  | _ :: l, 0, h => rfl
  | _ :: l, t + 1, h => by simpa [slot] using slot_get (f := l) (t := t) (by simpa using h)
/-- one more operation is done -/
theorem DI.step [Ltr] [Orc] {ops : Array Oper} {s : St} {f : List Value} {eff : List Nat} {E0 E F : Ren} {w0 w w' : World} {K K' : RW} {st st' : Nat} {listed : Array Bool} {a : Act} (D : DI ops s f eff G X base E0 E w0 K st listed a w)
    {i : Nat} {o : Oper} (ho : ops[i]? = some o) (hd : ∀ e ∈ bOn o, listed.getD e false = true) {v' : Value} (hlen : f.length = s.f.length) (hv : ∀ d, o.dst = some d → Rel F (slot f d) v') (x : Ext E F) (R : Rep X base F K' w') (b : Kp X w w')
    (e1 : ∀ p ∈ eff.take st', p = i ∨ listed.getD p false = true) (e2 : ∀ p ∈ eff.drop st', p ≠ i ∧ listed.getD p false = false) :
    DI ops s f eff G X base E0 F w0 K' st' (listed.setIfInBounds i true) (a.put o.dst v') w' := by
  have hi : i < listed.size := by rw [D.sz]; exact (Array.getElem?_eq_some_iff.1 ho).1
  have hsz : (a.put o.dst v').tmps.size = a.tmps.size := by cases hdst : o.dst <;> simp [Act.put]
  have at_i : ∀ d, o.dst = some d → Rel F (slot f d) ((a.put o.dst v').tmps.getD d undef) := by
    intro d hdd
    rw [hdd]
    rcases Nat.lt_or_ge d a.tmps.size with h | h
    · rw [tmps_put_same h]; exact hv d hdd
    · have h1 : slot f d = undef := slot_out (by rw [hlen, ← D.len]; exact h)
      have h2 : (a.put (some d) v').tmps.getD d undef = undef := by simp [Act.put, h]
      rw [h1, h2]
      exact .same rfl
  refine ⟨D.x.trans x, D.b.trans b, ?_, by rw [hsz, D.len], ?_, ?_, R, D.g.mono x, by simp [D.sz], ?_, ?_, ?_⟩
  · cases hdst : o.dst <;> exact D.d.mono x
  · intro t j oj hj hl hjd
    by_cases hot : o.dst = some t
    · exact at_i t hot
    · rw [tmps_put hot]
      rw [getD_set hi] at hl
      by_cases hji : j = i
      · subst hji
        rw [ho] at hj
        obtain rfl := Option.some.inj hj
        exact absurd hjd hot
      · rw [if_neg hji] at hl
        exact (D.set t j oj hj hl hjd).mono x
  · intro t ht
    have hot : o.dst ≠ some t := ht i o ho (by rw [getD_set hi, if_pos rfl])
    rw [tmps_put hot]
    refine (D.old t fun j oj hj hl => ht j oj hj ?_).mono x
    rw [getD_set hi]
    split
    · rfl
    · exact hl
  · intro p hp
    rw [getD_set hi]
    rcases e1 p hp with h | h
    · rw [if_pos h]
    · split
      · rfl
      · exact h
  · intro p hp
    obtain ⟨h1, h2⟩ := e2 p hp
    rw [getD_set hi, if_neg h1]
    exact h2
  · intro j oj hj hl e he
    rw [getD_set hi] at hl ⊢
    split
    · rfl
    · by_cases hji : j = i
      · subst hji
        rw [ho] at hj
        obtain rfl := Option.some.inj hj
        exact hd e he
      · rw [if_neg hji] at hl
        exact D.dc j oj hj hl e he
end
end Go.Proofs.YtjfchpfbpmediaaGreatDoor
/-
  A run by reckoning: a region that draws its order, whole.
-/
namespace Go.Proofs.YtjfchpfbpmediaaGreatDoor
open Go Go.RowKit
section
variable {P : Program} {G : Nat} {X : Kep} {base : Nat} {E : Ren}
theorem mem_zip {ops : Array Oper} {i : Nat} {o : Oper} (h : ops[i]? = some o) : (o, i) ∈ ops.toList.zipIdx := by
  rw [List.mem_zipIdx_iff_getElem?]
  simpa using h
theorem static_at [Ltr] [Orc] {ops : Array Oper} {T : List Nat} (hs : static G ops T = true) {i : Nat} {o : Oper} (h : ops[i]? = some o) :
    T.getD i 0 = clos T (bOn o) ∧ (∀ e ∈ bOn o, e < i) ∧ okReads G ops.toList (T.getD i 0) o = true := by
  unfold static at hs
  simp only [Bool.and_eq_true] at hs
  have := List.all_eq_true.1 hs.2 (o, i) (mem_zip h)
  simp only [Bool.and_eq_true] at this
  exact ⟨Nat.eq_of_beq_eq_true this.1.1, fun e he => Nat.le_of_ble_eq_true (List.all_eq_true.1 this.1.2 e he), this.2⟩
/-- what is ahead is done -/
theorem anc_done [Ltr] [Orc] {ops : Array Oper} {T : List Nat} (hs : static G ops T = true) {listed : Array Bool} (dc : ∀ (i : Nat) (o : Oper), ops[i]? = some o → listed.getD i false = true → ∀ e ∈ bOn o, listed.getD e false = true) (hsz : listed.size = ops.size) :
    ∀ (n i : Nat) (o : Oper) (j : Nat), i ≤ n → ops[i]? = some o → (∀ e ∈ bOn o, listed.getD e false = true) → (T.getD i 0).testBit j = true → listed.getD j false = true
  | n, i, o, j, hn, ho, hb, hj => by
    obtain ⟨h1, h2, _⟩ := static_at hs ho
    rw [h1] at hj
    rcases clos_bit (bOn o) 0 hj with h | ⟨e, he, h | h⟩
    · simp at h
    · rw [h]; exact hb e he
    · have hei := h2 e he
      have hi : i < ops.size := (Array.getElem?_eq_some_iff.1 ho).1
      have hel : e < ops.size := by omega
      cases n with
      | zero => omega
      | succ n => exact anc_done hs dc hsz n e ops[e] j (by omega) (by simp [hel]) (dc e ops[e] (by simp [hel]) (hb e he)) h
variable {call : Caller} {ops : Array Oper} {s : St} {f : List Value} {T eff : List Nat} {Ks : List RW} {E0 : Ren} {w0 w : World} {K : RW} {st : Nat} {listed : Array Bool} {a : Act}
theorem dst_mem {L : List Oper} {m t j : Nat} {o : Oper} (h : (L.zipIdx.all fun p => !dstIs t p.1 || m.testBit p.2) = true) (hj : L[j]? = some o) (hd : o.dst = some t) : m.testBit j = true := by
  have := List.all_eq_true.1 h (o, j) (by rw [List.mem_zipIdx_iff_getElem?]; simpa using hj)
  simpa [dstIs, hd] using this
theorem DI.reads [Ltr] [Orc] (D : DI ops s f eff G X base E0 E w0 K st listed a w) (hs : static G ops T = true) (hsame : ∀ t, (∀ (i : Nat) (o : Oper), ops[i]? = some o → o.dst ≠ some t) → slot f t = slot s.f t)
    {i : Nat} {o : Oper} (ho : ops[i]? = some o) (hb : ∀ e ∈ bOn o, listed.getD e false = true) : ∀ x ∈ o.op.operands, Rel E (ev f x) (a.eval x) := by
  intro x hx
  obtain ⟨_, _, hr⟩ := static_at hs ho
  unfold okReads at hr
  simp only [Bool.and_eq_true] at hr
  have hx' := List.all_eq_true.1 hr.1 x (by simpa using hx)
  simp only [Bool.and_eq_true] at hx'
  cases x with
  | const v => exact .same hx'.1
  | global g => obtain ⟨k, e⟩ := D.g g (by simpa [okC, Nat.blt_eq] using hx'.1); exact .ptr e
  | func g => exact .same rfl
  | tmp t =>
    show Rel E (slot f t) (a.tmps.getD t undef)
    by_cases hw : ∃ (j : Nat) (oj : Oper), ops[j]? = some oj ∧ oj.dst = some t
    · obtain ⟨j, oj, hj, hd⟩ := hw
      have hbit := dst_mem hx'.2 (by simpa using hj) hd
      exact D.set t j oj hj (anc_done hs D.dc D.sz i i o j (Nat.le_refl _) ho hb hbit) hd
    · have hno : ∀ (j : Nat) (oj : Oper), ops[j]? = some oj → oj.dst ≠ some t := fun j oj hj hd => hw ⟨j, oj, hj, hd⟩
      rw [hsame t hno]
      exact D.old t fun j oj hj _ => hno j oj hj
theorem DI.want [Ltr] [Orc] (D : DI ops s f eff G X base E0 E w0 K st listed a w) (hs : static G ops T = true) (hlen : f.length = s.f.length) (hgd : ∀ o ∈ ops.toList, gdOk ops o f = true)
    {i : Nat} {o : Oper} (ho : ops[i]? = some o) (hb : ∀ e ∈ bOn o, listed.getD e false = true) : Region.wanted o (yielded ops a.tmps) = Region.wanted o (yielded ops ⟨f⟩) := by
  obtain ⟨_, _, hr⟩ := static_at hs ho
  unfold okReads at hr
  simp only [Bool.and_eq_true] at hr
  unfold Region.wanted
  cases hg : o.guard with
  | none => rfl
  | some g =>
    obtain ⟨j, want⟩ := g
    dsimp only
    have hj := hr.2
    rw [hg] at hj
    simp only [Bool.and_eq_true] at hj
    replace hj := hj.1
    have hjl := anc_done hs D.dc D.sz i i o j (Nat.le_refl _) ho hb hj.1
    have : yielded ops a.tmps j = yielded ops ⟨f⟩ j := by
      unfold yielded
      cases hd : (ops[j]?).bind (·.dst) with
      | none => rfl
      | some t =>
        have hjs : j < ops.size := by
          have : j < ops.toList.length := Nat.le_of_ble_eq_true hj.2
          simpa using this
        have hoj : ops[j]? = some ops[j] := by simp [hjs]
        have hdj : ops[j].dst = some t := by rw [hoj] at hd; simpa using hd
        have hrel := D.set t j ops[j] hoj hjl hdj
        show (match a.tmps[t]? with | some (.bool b) => some b | _ => none) = (match (⟨f⟩ : Array Value)[t]? with | some (.bool b) => some b | _ => none)
        rcases Nat.lt_or_ge t f.length with h | h
        · have h1 : (⟨f⟩ : Array Value)[t]? = some (slot f t) := by simpa using slot_get h
          have h2 : a.tmps[t]? = some (a.tmps.getD t undef) := by
            have : t < a.tmps.size := by rw [D.len, ← hlen]; exact h
            simp [this]
          rw [h1, h2]
          refine (hrel.isBool ?_).symm
          have h3 := hgd o (by simpa using Array.mem_of_getElem? ho)
          unfold gdOk at h3
          rw [hg] at h3
          dsimp only at h3
          rw [hd] at h3
          simpa using h3
        · have h1 : (⟨f⟩ : Array Value)[t]? = none := by simpa using h
          have h2 : a.tmps[t]? = none := by
            rw [Array.getElem?_eq_none_iff, D.len, ← hlen]; exact h
          rw [h1, h2]
    rw [this]
/-- what is ahead comes earlier in the text -/
theorem anc_lt [Ltr] [Orc] (hs : static G ops T = true) : ∀ (n i : Nat) (o : Oper) (j : Nat), i ≤ n → ops[i]? = some o → (T.getD i 0).testBit j = true → j < i
  | n, i, o, j, hn, ho, hj => by
    obtain ⟨h1, h2, _⟩ := static_at hs ho
    rw [h1] at hj
    rcases clos_bit (bOn o) 0 hj with h | ⟨e, he, h | h⟩
    · simp at h
    · rw [h]; exact h2 e he
    · have hei := h2 e he
      have hi : i < ops.size := (Array.getElem?_eq_some_iff.1 ho).1
      have hel : e < ops.size := by omega
      cases n with
      | zero => omega
      | succ n => exact Nat.lt_trans (anc_lt hs n e ops[e] j (by omega) (by simp [hel]) h) hei
/-- nothing behind op i writes what it reads -/
theorem no_later [Ltr] [Orc] {L : List Oper} {m t i : Nat} (h : (L.zipIdx.all fun p => !dstIs t p.1 || m.testBit p.2) = true) (hm : ∀ j, m.testBit j = true → j < i) : ∀ (q : Nat) (p : Oper × Nat), L.zipIdx[q]? = some p → i ≤ q → p.1.dst ≠ some t := by
  intro q p hp hiq hd
  have hq : p.2 = q ∧ L[q]? = some p.1 := by
    rw [List.getElem?_zipIdx] at hp
    cases hl : L[q]? with
    | none => rw [hl] at hp; cases hp
    | some o => rw [hl] at hp; obtain rfl := Option.some.inj hp; exact ⟨by simp, rfl⟩
  have := dst_mem h hq.2 hd
  have := hm q this
  omega
theorem chkAll_at [Orc] {Ks : List RW} : ∀ {l : List (Oper × Nat)} {es : List En}, chkAll P base call T eff f Ks l es = true → ∀ {j : Nat} {o : Oper} {i : Nat}, l[j]? = some (o, i) → ∃ en, es[j]? = some en ∧ ∀ (s : Nat) (K : RW), Ks[s]? = some K → chk1 P base call T eff f i o en s K = true
  | [], [], _, j, o, i, h => by simp at h
  | (o', i') :: l, en :: es, hc, j, o, i, h => by
    simp only [chkAll, Bool.and_eq_true] at hc
    cases j with
    | zero =>
      obtain ⟨rfl, rfl⟩ : o' = o ∧ i' = i := by simpa using h
      exact ⟨en, rfl, fun s K hK => List.all_eq_true.1 hc.1 (K, s) (by rw [List.mem_zipIdx_iff_getElem?]; simpa using hK)⟩
    | succ j => simpa using chkAll_at hc.2 (j := j) (o := o) (i := i) (by simpa using h)
  | [], _ :: _, hc, _, _, _, _ => by cases hc
  | _ :: _, [], hc, _, _, _, _ => by cases hc
end
end Go.Proofs.YtjfchpfbpmediaaGreatDoor
/-
  A run by reckoning: a region that draws its order comes to what it comes to in the text's order.
-/
namespace Go.Proofs.YtjfchpfbpmediaaGreatDoor
open Go Go.RowKit
section
variable {P : Program} {G : Nat} {X : Kep} {base : Nat} {E : Ren}
theorem relL_of [Ltr] : ∀ {f x : List Value}, f.length = x.length → (∀ t, t < f.length → Rel E (slot f t) (x.getD t undef)) → RelL E f x
  | [], [], _, _ => .nil
  | [], _ :: _, h, _ => by simp at h
  | _ :: _, [], h, _ => by simp at h
  | v :: f, u :: x, h, k => .cons (by simpa [slot] using k 0 (by simp)) (relL_of (by simpa using h) fun t ht => by simpa [slot] using k (t + 1) (by simpa using ht))
variable {call : Caller} {ops : Array Oper} {s : St} {f : List Value} {T : List Nat} {eff : List Nat} {es : List En} {Ks : List RW} {E0 : Ren} {w0 : World} {KN : RW}
theorem all_listed [Ltr] [Orc] (hs : static G ops T = true) {listed : Array Bool} (hsz : listed.size = ops.size) (hr : Region.ready .any ops listed = []) : ∀ i, i < ops.size → listed.getD i false = true := by
  intro i
  induction i using Nat.strongRecOn with
  | _ i ih =>
    intro hi
    cases hl : listed.getD i false with
    | true => rfl
    | false =>
      exfalso
      have ho : ops[i]? = some ops[i] := by simp [hi]
      obtain ⟨_, h2, _⟩ := static_at hs ho
      have : i ∈ Region.ready .any ops listed := mem_ready.2 ⟨by
        have : i < listed.size := by rw [hsz]; exact hi
        simp [this] at hl ⊢
        exact hl, ops[i], ho, fun e he hb => by
        have hm : e.on ∈ bOn ops[i] := List.mem_map.2 ⟨e, List.mem_filter.2 ⟨by simpa using he, hb⟩, rfl⟩
        have := h2 e.on hm
        exact ih e.on this (by omega)⟩
      rw [hr] at this
      cases this
theorem stepAt_memfree [Ltr] [Orc] {g : List Value} {o : Oper} {K0 K2 : RW} {v : Value} (hm : memfree o.op = true) (h : stepAt P base call g o K0 = some (v, K2)) (K : RW) : stepAt P base call g o K = some (v, K) := by
  unfold stepAt at h ⊢
  cases hoc : Orc.f o.op (ev g) with
  | some u =>
    rw [hoc] at h
    obtain ⟨rfl, rfl⟩ := Prod.mk.inj (Option.some.inj h)
    rfl
  | none =>
  rw [hoc] at h
  dsimp only at h ⊢
  cases hevm : evM P base (ev g) o K0 with
  | none => rw [hevm] at h; cases h
  | some p =>
    obtain ⟨nx, H1⟩ := p
    have hev := evM_free hm hevm
    have hq : quiet P o.op = true := by cases ho : o.op <;> rw [ho] at hm <;> first | rfl | cases hm
    obtain ⟨_, u, rfl⟩ := quiet_H hq hev
    rw [hevm] at h
    obtain ⟨rfl, rfl⟩ := Prod.mk.inj (Option.some.inj h)
    rw [evM_of (memfree_at hm hev K)]
theorem draw_any [Ltr] [Orc] [OrcOk P G X base] {ro : Option Nat} {n : Nat} (hc : CallOk P G X base call) (hs : static G ops T = true) (ht : TrOk P base call ops ops.toList.zipIdx s.f s.H 0 es eff Ks f) (hchk : chkAll P base call T eff f Ks ops.toList.zipIdx es = true) (hK : lastK Ks = some KN) (hnd : eff.Nodup) (hlt : ∀ p ∈ eff, p < ops.size) (hgd : ∀ o ∈ ops.toList, gdOk ops o f = true) :
    ∀ (fuel : Nat) (listed : Array Bool) (a : Act) (w : World) (E : Ren) (st : Nat) (K : RW) (U : List Nat), DI ops s f eff G X base E0 E w0 K st listed a w → Ks[st]? = some K → U.Nodup →
      (∀ i, i < ops.size → (listed.getD i false = false ↔ i ∈ U)) → U.length = fuel → wpAnyIn (Wd ro) n P .any ops (Post G X base E0 w0 .normal ⟨f, KN, s.ds⟩) fuel listed a w := by
  have hlen : f.length = s.f.length := ht.len
  have hk1 := ht.kl
  have hsame : ∀ t, (∀ (i : Nat) (o : Oper), ops[i]? = some o → o.dst ≠ some t) → slot f t = slot s.f t := fun t hn => ht.same t fun p hp => by
    obtain ⟨o, i⟩ := p
    rw [List.mem_zipIdx_iff_getElem?] at hp
    exact hn i o (by simpa using hp)
  have fin : ∀ (listed : Array Bool) (a : Act) (w : World) (E : Ren) (st : Nat) (K : RW), DI ops s f eff G X base E0 E w0 K st listed a w → Ks[st]? = some K → (∀ i, i < ops.size → listed.getD i false = true) →
      Post G X base E0 w0 .normal ⟨f, KN, s.ds⟩ .normal a w := by
    intro listed a w E st K D hst hall
    have hdrop : eff.drop st = [] := by
      cases hd : eff.drop st with
      | nil => rfl
      | cons p l =>
        exfalso
        have h1 := D.e2 p (by rw [hd]; simp)
        have hp : p ∈ eff := List.mem_of_mem_drop (i := st) (by rw [hd]; simp)
        rw [hall p (hlt p hp)] at h1
        cases h1
    have hge : eff.length ≤ st := List.drop_eq_nil_iff.1 hdrop
    have hlt' : st < Ks.length := by
      rcases Nat.lt_or_ge st Ks.length with h | h
      · exact h
      · rw [List.getElem?_eq_none h] at hst; cases hst
    have hse : st = Ks.length - 1 := by omega
    have := lastK_spec hK
    rw [← hse, hst] at this
    obtain rfl := Option.some.inj this
    refine ⟨rfl, E, D.x, ⟨D.d, relL_of (by simp [D.len, hlen]) fun t _ => ?_, D.rep, D.g⟩, D.b⟩
    rw [← getD_toList]
    by_cases hw : ∃ (j : Nat) (oj : Oper), ops[j]? = some oj ∧ oj.dst = some t
    · obtain ⟨j, oj, hj, hd⟩ := hw
      exact D.set t j oj hj (hall j (Array.getElem?_eq_some_iff.1 hj).1) hd
    · have hno : ∀ (j : Nat) (oj : Oper), ops[j]? = some oj → oj.dst ≠ some t := fun j oj hj hd => hw ⟨j, oj, hj, hd⟩
      rw [hsame t hno]
      exact D.old t fun j oj hj _ => hno j oj hj
  intro fuel
  induction fuel with
  | zero =>
    intro listed a w E st K U D hst hU hUi hUl
    have hall : ∀ i, i < ops.size → listed.getD i false = true := by
      intro i hi
      cases hl : listed.getD i false with
      | true => rfl
      | false =>
        have := (hUi i hi).1 hl
        rw [List.eq_nil_of_length_eq_zero hUl] at this
        cases this
    refine ⟨?_, fin listed a w E st K D hst hall⟩
    cases hr : Region.ready .any ops listed with
    | nil => rfl
    | cons i l =>
      exfalso
      obtain ⟨h1, o, ho, _⟩ := mem_ready.1 (show i ∈ Region.ready .any ops listed by rw [hr]; simp)
      have hi := (Array.getElem?_eq_some_iff.1 ho).1
      have h2 := hall i hi
      have : i < listed.size := by rw [D.sz]; exact hi
      simp [this] at h1 h2
      rw [h1] at h2
      cases h2
  | succ fuel ih =>
    intro listed a w E st K U D hst hU hUi hUl
    refine ⟨fun hr => fin listed a w E st K D hst (all_listed hs D.sz hr), fun i hi => ?_⟩
    obtain ⟨h1, o, ho, hdeps⟩ := mem_ready.1 hi
    have hilt := (Array.getElem?_eq_some_iff.1 ho).1
    have hil : i < listed.size := by rw [D.sz]; exact hilt
    have hun : listed.getD i false = false := by
      simp [hil] at h1 ⊢
      exact h1
    have hb : ∀ e ∈ bOn o, listed.getD e false = true := by
      intro e he
      obtain ⟨ed, hm, rfl⟩ := List.mem_map.1 he
      obtain ⟨m1, m2⟩ := List.mem_filter.1 hm
      exact hdeps ed (by simpa using m1) m2
    have hoi : ops.toList.zipIdx[i]? = some (o, i) := by rw [List.getElem?_zipIdx]; simp [ho]
    obtain ⟨en, hen, hchks⟩ := chkAll_at hchk hoi
    have hchk1 := hchks st K hst
    obtain ⟨_, ht2, ht3, ht4, ht5, ht6, ht7⟩ := ht.en i o i en hoi hen
    rw [Nat.sub_zero] at ht2 ht6
    have hstat := (static_at hs ho).2.2
    unfold okReads at hstat
    simp only [Bool.and_eq_true] at hstat
    have hlate := fun j h => anc_lt hs i i o j (Nat.le_refl _) ho h
    have hen_slot : ∀ t, Operand.tmp t ∈ o.op.operands → slot f t = slot en.f t := fun t hm => by
      have h1 := List.all_eq_true.1 hstat.1 (.tmp t) (by simpa using hm)
      simp only [Bool.and_eq_true] at h1
      exact ht3 t (no_later h1.2 hlate)
    have hwant : en.w = Region.wanted o (yielded ops ⟨f⟩) := by
      rw [ht5]
      unfold Region.wanted
      cases hg : o.guard with
      | none => rfl
      | some gd =>
        obtain ⟨j, want⟩ := gd
        dsimp only
        have h2 := hstat.2
        rw [hg] at h2
        simp only [Bool.and_eq_true] at h2
        have : yielded ops ⟨en.f⟩ j = yielded ops ⟨f⟩ j := by
          unfold yielded
          have e1 : ops.toList[j]? = ops[j]? := by simp
          rw [e1] at h2
          cases hd : (ops[j]?).bind (·.dst) with
          | none => rfl
          | some t =>
            rw [hd] at h2
            have hsl := ht3 t (no_later h2.2 hlate)
            show (match (⟨en.f⟩ : Array Value)[t]? with | some (.bool b) => some b | _ => none) = (match (⟨f⟩ : Array Value)[t]? with | some (.bool b) => some b | _ => none)
            rcases Nat.lt_or_ge t f.length with h | h
            · have h3 : (⟨f⟩ : Array Value)[t]? = some (slot f t) := by simpa using slot_get h
              have h4 : (⟨en.f⟩ : Array Value)[t]? = some (slot en.f t) := by
                have : t < en.f.length := by rw [ht4, ← hlen]; exact h
                simpa using slot_get this
              rw [h3, h4, hsl]
            · have h3 : (⟨f⟩ : Array Value)[t]? = none := by simpa using h
              have h4 : (⟨en.f⟩ : Array Value)[t]? = none := by
                have : en.f.length ≤ t := by rw [ht4, ← hlen]; exact h
                simpa using this
              rw [h3, h4]
        rw [this]
    have hanc := fun j h => anc_done hs D.dc D.sz i i o j (Nat.le_refl _) ho hb h
    have hC : (bif en.w then bif Nat.beq en.s st then dstOk o en.v f && (en.ch || !eff.elem i) else bif memfree o.op then dstOk o en.v f && !eff.elem i else match stepAt P base call en.f o K with
        | some (v, K1) => dstOk o v f && !eff.elem i && (quiet P o.op || eqW K1 K)
        | none => false
      else dstOk o undef f && !eff.elem i) = true := by
      unfold chk1 at hchk1
      simp only [Bool.or_eq_true] at hchk1
      rcases hchk1 with (h | h) | h
      · exfalso
        obtain ⟨p, hp, hbit⟩ := List.any_eq_true.1 h
        have := hanc p hbit
        rw [D.e2 p hp] at this
        cases this
      · exfalso
        obtain ⟨p, hp, hbit⟩ := List.any_eq_true.1 h
        simp only [Bool.or_eq_true] at hbit
        have hpl := D.e1 p hp
        rcases hbit with hbit | hbit
        · rw [Nat.eq_of_beq_eq_true hbit, hun] at hpl
          cases hpl
        · have hpl' := hlt p (List.mem_of_mem_take hp)
          obtain ⟨op, hop⟩ : ∃ op, ops[p]? = some op := ⟨ops[p], by simp [hpl']⟩
          have := anc_done hs D.dc D.sz p p op i (Nat.le_refl _) hop (D.dc p op hop hpl) hbit
          rw [hun] at this
          cases this
      · exact h
    have next : ∀ {F : Ren} {v' : Value} {K' : RW} {st' : Nat} {w' : World}, (∀ d, o.dst = some d → Rel F (slot f d) v') → Ext E F → Rep X base F K' w' → Kp X w w' → Ks[st']? = some K' →
        (∀ p ∈ eff.take st', p = i ∨ listed.getD p false = true) → (∀ p ∈ eff.drop st', p ≠ i ∧ listed.getD p false = false) →
        wpAnyIn (Wd ro) n P .any ops (Post G X base E0 w0 .normal ⟨f, KN, s.ds⟩) fuel (listed.setIfInBounds i true) (a.put o.dst v') w' := by
      intro F v' K' st' w' hv x R b hKs he1 he2
      refine ih _ _ w' F st' K' (U.erase i) (D.step ho hb hlen hv x R b he1 he2) hKs (hU.erase i) ?_ ?_
      · intro j hj
        rw [getD_set hil]
        by_cases hji : j = i
        · subst hji
          rw [if_pos rfl]
          constructor
          · intro h; cases h
          · intro h; exact absurd h (List.Nodup.not_mem_erase hU)
        · rw [if_neg hji, hUi j hj, List.mem_erase_of_ne hji]
      · rw [List.length_erase_of_mem ((hUi i hilt).1 hun), hUl]
        rfl
    have hdst : ∀ {v : Value}, dstOk o v f = true → ∀ d, o.dst = some d → v = slot f d := by
      intro v h d hd
      unfold dstOk at h
      rw [hd] at h
      exact veqn_eq 4 _ _ h
    unfold wpOpIn
    rw [ho]
    dsimp only
    rw [D.want hs hlen hgd ho hb, ← hwant]
    cases hw : en.w with
    | false =>
      rw [hw] at hC
      simp only [Bool.false_eq_true, if_false]
      dsimp only [cond_false] at hC
      simp only [Bool.and_eq_true, Bool.not_eq_true'] at hC
      have hni : i ∉ eff := fun h => by rw [List.elem_eq_true_of_mem h] at hC; cases hC.2
      exact ⟨fun f _ => wd_fn f, next (fun d hd => by rw [← hdst hC.1 d hd]; exact .same rfl) (Ext.refl E) D.rep (Kp.refl _ _) hst (fun p hp => .inr (D.e1 p hp)) (fun p hp => ⟨fun h => hni (h ▸ List.mem_of_mem_drop hp), D.e2 p hp⟩)⟩
    | true =>
      rw [hw] at hC
      simp only [if_true]
      dsimp only [cond_true] at hC
      -- what it comes to, and how memory stands behind it
      have ⟨v, K1, hstep, hdo, hqe⟩ : ∃ v K1, stepAt P base call en.f o K = some (v, K1) ∧ dstOk o v f = true ∧ (i ∉ eff ∧ (quiet P o.op = true ∨ K1 = K) ∨ eff[st]? = some i ∧ Ks[st + 1]? = some K1) := by
        cases hcan : Nat.beq en.s st with
        | true =>
          rw [hcan] at hC
          dsimp only [cond_true] at hC
          simp only [Bool.and_eq_true, Bool.or_eq_true, Bool.not_eq_true'] at hC
          have hes := Nat.eq_of_beq_eq_true hcan
          rw [hes] at ht2 ht6
          rw [hst] at ht2
          obtain rfl := Option.some.inj ht2
          obtain ⟨K2, h1, h2⟩ := ht6 hw
          refine ⟨en.v, K2, h1, hC.1, ?_⟩
          rcases h2 with ⟨h2, h3⟩ | ⟨_, h3, h4⟩
          · rw [h3] at hC
            exact .inl ⟨fun h => (by rw [List.elem_eq_true_of_mem h] at hC; simp at hC), h2⟩
          · exact .inr ⟨h3, h4⟩
        | false =>
          rw [hcan] at hC
          dsimp only [cond_false] at hC
          cases hmf : memfree o.op with
          | true =>
            rw [hmf] at hC
            dsimp only [cond_true] at hC
            simp only [Bool.and_eq_true, Bool.not_eq_true'] at hC
            obtain ⟨K2, h1, _⟩ := ht6 hw
            exact ⟨en.v, K, stepAt_memfree hmf h1 K, hC.1, .inl ⟨fun h => (by rw [List.elem_eq_true_of_mem h] at hC; cases hC.2), .inr rfl⟩⟩
          | false =>
          rw [hmf] at hC
          dsimp only [cond_false] at hC
          cases hstp : stepAt P base call en.f o K with
          | none => rw [hstp] at hC; cases hC
          | some q =>
            obtain ⟨v, K1⟩ := q
            rw [hstp] at hC
            simp only [Bool.and_eq_true, Bool.or_eq_true, Bool.not_eq_true'] at hC
            refine ⟨v, K1, rfl, hC.1.1, .inl ⟨fun h => (by rw [List.elem_eq_true_of_mem h] at hC; cases hC.1.2), ?_⟩⟩
            rcases hC.2 with h | h
            · exact .inl h
            · exact .inr (eqW_eq h)
      have hval := fun d hd => hdst hdo d hd
      have go : ∀ {F : Ren} {v' : Value} {w' : World}, Rel F v v' → Ext E F → Rep X base F K1 w' → Kp X w w' → (quiet P o.op = true → K1 = K) →
          wpAnyIn (Wd ro) n P .any ops (Post G X base E0 w0 .normal ⟨f, KN, s.ds⟩) fuel (listed.setIfInBounds i true) (a.put o.dst v') w' := by
        intro F v' w' rv x R b hq
        rcases hqe with ⟨hni, hqq⟩ | ⟨hes, hKs⟩
        · have hKK : K1 = K := by
            rcases hqq with h | h
            · exact hq h
            · exact h
          rw [hKK] at R
          exact next (fun d hd => by rw [← hval d hd]; exact rv) x R b hst (fun p hp => .inr (D.e1 p hp)) (fun p hp => ⟨fun h => hni (h ▸ List.mem_of_mem_drop hp), D.e2 p hp⟩)
        · have hlt' : st < eff.length := by
            rcases Nat.lt_or_ge st eff.length with h | h
            · exact h
            · rw [List.getElem?_eq_none h] at hes; cases hes
          have hpe : eff[st] = i := by rw [List.getElem?_eq_getElem hlt'] at hes; exact Option.some.inj hes
          refine next (st' := st + 1) (fun d hd => by rw [← hval d hd]; exact rv) x R b hKs ?_ ?_
          · intro q hq
            rw [List.take_succ_eq_append_getElem hlt', List.mem_append] at hq
            rcases hq with hq | hq
            · exact .inr (D.e1 q hq)
            · exact .inl (by rw [← hpe]; simpa using hq)
          · intro q hq
            have hq' : q ∈ eff.drop st := by rw [List.drop_eq_getElem_cons hlt']; exact List.mem_cons_of_mem _ hq
            refine ⟨fun hqp => ?_, D.e2 q hq'⟩
            have hnd' : (eff.drop st).Nodup := List.Nodup.sublist (List.drop_sublist _ _) hnd
            rw [List.drop_eq_getElem_cons hlt', List.nodup_cons, hpe] at hnd'
            exact hnd'.1 (hqp ▸ hq)
      have hreads : ∀ x ∈ o.op.operands, Rel E (ev en.f x) (a.eval x) := fun x hx => by
        have h1 := D.reads hs hsame ho hb x hx
        cases x with
        | tmp t => rw [show ev en.f (.tmp t) = ev f (.tmp t) from (hen_slot t hx).symm]; exact h1
        | _ => exact h1
      unfold stepAt at hstep
      cases hoc : Orc.f o.op (ev en.f) with
      | some u =>
        rw [hoc] at hstep
        obtain ⟨rfl, rfl⟩ := Prod.mk.inj (Option.some.inj hstep)
        obtain ⟨v', hr, rv, hnd⟩ := OrcOk.ok (P := P) (G := G) (X := X) (base := base) o (ev en.f) a.eval E _ hreads hoc w D.rep.fx
        refine upon_of hnd ?_
        rw [hr]
        exact go rv (Ext.refl E) D.rep (Kp.refl _ _) fun _ => rfl
      | none =>
      rw [hoc] at hstep
      dsimp only at hstep
      cases hev : evM P base (ev en.f) o K with
      | none => rw [hev] at hstep; cases hstep
      | some p =>
        obtain ⟨nx, H1⟩ := p
        rw [hev] at hstep
        obtain ⟨F, nx', w', hr, x1, R1, b1, rn⟩ := evM_sound (G := G) (X := X) (E := E) (ρ' := a.eval) (w := w) hreads D.rep hev
        refine upon_of (evM_nodefer (G := G) (X := X) hev) ?_
        rw [hr]
        cases nx with
        | value u =>
          obtain ⟨rfl, rfl⟩ := Prod.mk.inj (Option.some.inj hstep)
          cases nx' with
          | value v' => exact go rn x1 R1 b1 fun hq => (evM_quiet (G := G) (X := X) hq hev).1
          | _ => exact rn.elim
        | skip =>
          obtain ⟨rfl, rfl⟩ := Prod.mk.inj (Option.some.inj hstep)
          cases nx' with
          | skip => exact go (.same rfl) x1 R1 b1 fun hq => (evM_quiet (G := G) (X := X) hq hev).1
          | _ => exact rn.elim
        | enter g args =>
          cases nx' with
          | enter g' args' =>
            obtain ⟨rfl, ra⟩ := rn
            have hcl : call g args.toList H1 = some (v, K1) := hstep
            refine ⟨wd_depth, CallsIn.mono (calls_wd (hc g args.toList H1 v K1 F w' args'.toList R1 (D.g.mono x1) ra hcl)) fun en w2 p => ?_⟩
            obtain ⟨v', F2, rfl, x2, R2, b2, rv⟩ := p
            exact go rv (x1.trans x2) R2 (b1.trans b2) fun hq => by
              obtain ⟨_, u, hu⟩ := evM_quiet (G := G) (X := X) hq hev
              cases hu
          | _ => exact rn.elim
        | _ => cases hstep
theorem drawEv_sound [Ltr] [Orc] [OrcOk P G X base] {ro : Option Nat} {n : Nat} (hm : P.follows .mixedOrders = true) (hc : CallOk P G X base call) {id : Nat} {s1 : St} {a : Act} {w : World} (h : FR G X base E s a w) (e : drawEv P G base call ops s = some s1) : (Code.region id ops true).wpIn (Wd ro) n P (Post G X base E w .normal s1) a w := by
  unfold drawEv at e
  split at e
  · cases e
  · rename_i es eff Ks f htr
    obtain ⟨hck, e⟩ := cond_some e
    simp only [Bool.and_eq_true] at hck
    split at e
    · rename_i KN hK
      obtain rfl := Option.some.inj e
      have T := tr_spec htr
      refine wpIn_region_any hm ?_
      have hrep : Rep X base E s.H { w with drawn := w.drawn + 1 } := ⟨h.r.dom, h.r.ok, h.r.inj, h.r.new, h.r.lt, h.r.bn, h.r.fx⟩
      have hf : ∀ i, (Array.replicate ops.size false).getD i false = false := fun i => by
        rcases Nat.lt_or_ge i ops.size with h | h <;> simp [h]
      refine draw_any hc hck.1.1.1.1 T hck.1.1.1.2 hK (ndp_nodup hck.1.1.2) (fun p hp => Nat.le_of_ble_eq_true (List.all_eq_true.1 hck.2 p hp)) (fun o ho => List.all_eq_true.1 hck.1.2 o ho) ops.size _ a _ E 0 s.H (List.range ops.size) ⟨Ext.refl E, ⟨rfl, rfl, rfl, Nat.le_refl _, fun _ _ => rfl⟩, h.d, ?_, ?_, ?_, hrep, h.g, by simp, ?_, ?_, ?_⟩ T.k0 List.nodup_range ?_ (by simp)
      · have := h.t.length; simpa using this
      · intro t i o _ hi; rw [hf] at hi; cases hi
      · intro t _; rw [getD_toList]; exact slot_rel h.t t
      · intro p hp; simp at hp
      · intro p _; exact hf p
      · intro i o _ hi; rw [hf] at hi; cases hi
      · intro i hi; simp [hi, hf]
    · cases e
end
end Go.Proofs.YtjfchpfbpmediaaGreatDoor
