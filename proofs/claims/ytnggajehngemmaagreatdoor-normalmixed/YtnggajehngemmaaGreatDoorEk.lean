/-
  Plain: what a rune's decoding says of the bytes.
-/
import GoSem.Core.Utf8
import Derived.Test.YtnggajehngemmaaGreatDoorEvZ
namespace Go.Proofs.YtnggajehngemmaaGreatDoor.Ub
open Go
theorem at_get (s : ByteArray) (i : Nat) (h : i < s.size) : (s.get! i).toNat = s.data.toList[i]!.toNat := by
  have h' : i < s.data.toList.length := h
  rw [List.getElem!_eq_getElem?_getD, List.getElem?_eq_getElem h']
  have : s.get! i = s.data[i]! := rfl
  rw [this]
  have h'' : i < s.data.size := h
  rw [getElem!_pos s.data i h'']
  rfl
theorem decode_low (s : ByteArray) (p : Nat) (h : (s.get! p).toNat < 128) : Utf8.decode s p = ((s.get! p).toNat, 1) := by
  unfold Utf8.decode
  simp only [Nat.add_zero]
  rw [if_pos h]
/-- a byte from 128 on: a rune from 128 on, of some bytes from 128 on -/
theorem decode_high (s : ByteArray) (p : Nat) (hp : p < s.size) (h : 128 ≤ (s.get! p).toNat) : 128 ≤ (Utf8.decode s p).1 ∧ 1 ≤ (Utf8.decode s p).2 ∧ p + (Utf8.decode s p).2 ≤ s.size ∧ ∀ j, j < (Utf8.decode s p).2 → 128 ≤ (s.get! (p + j)).toNat := by
  have one : ∀ c : Nat, 128 ≤ c → 128 ≤ (c, 1).1 ∧ 1 ≤ ((c, 1) : Nat × Nat).2 ∧ p + ((c, 1) : Nat × Nat).2 ≤ s.size ∧ ∀ j, j < ((c, 1) : Nat × Nat).2 → 128 ≤ (s.get! (p + j)).toNat := by
    intro c hc
    refine ⟨hc, Nat.le_refl _, by show p + 1 ≤ s.size; omega, fun j hj => ?_⟩
    have : j = 0 := by have : j < 1 := hj; omega
    subst this
    exact h
  have cont : ∀ k, (decide (p + k < s.size) && ((s.get! (p + k)).toNat / 64 == 2)) = true → p + k < s.size ∧ 128 ≤ (s.get! (p + k)).toNat := by
    intro k hk
    simp only [Bool.and_eq_true, decide_eq_true_eq, beq_iff_eq] at hk
    exact ⟨hk.1, by omega⟩
  unfold Utf8.decode
  simp only [Nat.add_zero]
  rw [if_neg (by omega)]
  split
  · rename_i hc
    simp only [Bool.and_eq_true] at hc
    have c1 := cont 1 (by simpa using hc.2)
    split
    · rename_i hv
      refine ⟨by simpa using hv, by show 1 ≤ (2 : Nat); decide, by show p + 2 ≤ s.size; omega, fun j hj => ?_⟩
      have : j = 0 ∨ j = 1 := by have : j < 2 := hj; omega
      rcases this with rfl | rfl
      · exact h
      · exact c1.2
    · exact one _ (by decide)
  · split
    · rename_i hc
      simp only [Bool.and_eq_true] at hc
      have c1 := cont 1 (by simpa using hc.1.2)
      have c2 := cont 2 (by simpa using hc.2)
      split
      · rename_i hv
        simp only [Bool.and_eq_true, decide_eq_true_eq] at hv
        refine ⟨by show 128 ≤ _; omega, by show 1 ≤ (3 : Nat); decide, by show p + 3 ≤ s.size; omega, fun j hj => ?_⟩
        have : j = 0 ∨ j = 1 ∨ j = 2 := by have : j < 3 := hj; omega
        rcases this with rfl | rfl | rfl
        · exact h
        · exact c1.2
        · exact c2.2
      · exact one _ (by decide)
    · split
      · rename_i hc
        simp only [Bool.and_eq_true] at hc
        have c1 := cont 1 (by simpa using hc.1.1.2)
        have c2 := cont 2 (by simpa using hc.1.2)
        have c3 := cont 3 (by simpa using hc.2)
        split
        · rename_i hv
          simp only [Bool.and_eq_true, decide_eq_true_eq] at hv
          refine ⟨by show 128 ≤ _; omega, by show 1 ≤ (4 : Nat); decide, by show p + 4 ≤ s.size; omega, fun j hj => ?_⟩
          have : j = 0 ∨ j = 1 ∨ j = 2 ∨ j = 3 := by have : j < 4 := hj; omega
          rcases this with rfl | rfl | rfl | rfl
          · exact h
          · exact c1.2
          · exact c2.2
          · exact c3.2
        · exact one _ (by decide)
      · exact one _ (by decide)
end Go.Proofs.YtnggajehngemmaaGreatDoor.Ub
/-
  Letters: comparisons of numbers of any kind; a text's iterator; what is known of steps of a round.
-/
namespace Go.Proofs.YtnggajehngemmaaGreatDoor
open Go Go.RowKit
section
variable {k : IntKind} {n m : Nat}
theorem xk_ge {b : Bool} (h : decide (m ≤ n) = b) : binX .geq (.int k n) (.int k m) = some (.bool b) := by
  subst h
  show (bif decide (k = k) then some (Value.bool (decide ((n : Int) ≥ m))) else none) = _
  rw [decide_eq_true rfl, show decide ((n : Int) ≥ m) = decide (m ≤ n) by rw [Bool.eq_iff_iff]; simp]
  rfl
theorem xk_le {b : Bool} (h : decide (n ≤ m) = b) : binX .leq (.int k n) (.int k m) = some (.bool b) := by
  subst h
  show (bif decide (k = k) then some (Value.bool (decide ((n : Int) ≤ m))) else none) = _
  rw [decide_eq_true rfl, show decide ((n : Int) ≤ m) = decide (n ≤ m) by rw [Bool.eq_iff_iff]; simp]
  rfl
theorem xk_lt {b : Bool} (h : decide (n < m) = b) : binX .lss (.int k n) (.int k m) = some (.bool b) := by
  subst h
  show (bif decide (k = k) then some (Value.bool (decide ((n : Int) < m))) else none) = _
  rw [decide_eq_true rfl, show decide ((n : Int) < m) = decide (n < m) by rw [Bool.eq_iff_iff]; simp]
  rfl
theorem xk_gt {b : Bool} (h : decide (m < n) = b) : binX .gtr (.int k n) (.int k m) = some (.bool b) := by
  subst h
  show (bif decide (k = k) then some (Value.bool (decide ((n : Int) > m))) else none) = _
  rw [decide_eq_true rfl, show decide ((n : Int) > m) = decide (m < n) by rw [Bool.eq_iff_iff]; simp]
  rfl
theorem xk_eq {b : Bool} (h : decide (n = m) = b) : binX .eql (.int k n) (.int k m) = some (.bool b) := by
  subst h
  show (bif decide (k = k) then some (Value.bool ((n : Int) == m)) else none) = _
  rw [decide_eq_true rfl, show ((n : Int) == m) = decide (n = m) by rw [Bool.eq_iff_iff]; simp; omega]
  rfl
theorem xk_ne {b : Bool} (h : decide (n ≠ m) = b) : binX .neq (.int k n) (.int k m) = some (.bool b) := by
  subst h
  show (bif decide (k = k) then some (Value.bool ((n : Int) != m)) else none) = _
  rw [decide_eq_true rfl, show ((n : Int) != m) = decide (n ≠ m) by rw [Bool.eq_iff_iff]; simp; omega]
  rfl
end
/-- a number's operation with a letter, a number behind -/
theorem bl [Ltr] {op : BinOp} {i : Nat} {u v q r : Value} (hi : Ltr.v i = some u) (hv : flat v = true) (h : binX op u v = some q) (hr : ∀ E : Ren, Rel E r q) : OEOk Tryz.prog (binE op (Lt i) v r) := binE_num (is_ltr hi) (is_flat hv) h hr
/-- .. of two letters -/
theorem bll [Ltr] {op : BinOp} {i j : Nat} {u v q r : Value} (hi : Ltr.v i = some u) (hj : Ltr.v j = some v) (h : binX op u v = some q) (hr : ∀ E : Ren, Rel E r q) : OEOk Tryz.prog (binE op (Lt i) (Lt j) r) := binE_num (is_ltr hi) (is_ltr hj) h hr
/-- a call of one letter, known by its contract -/
theorem p1 [Ltr] {X : Kep} {base : Nat} {f : FuncId} {i : Nat} {u r : Value} (hi : Ltr.v i = some u) (hr : flat r = true) (h : ∀ w, (∀ b, X b → w.heap[b]? = X.ob b) → Calls Tryz.prog f #[u] w fun e w' => e = .returned r ∧ Below w.heap.size w w') : PEOk Tryz.prog X base (f, patP [([Lt i], r)]) :=
  patP_ok (ac (fun E w args' k ha => by
    cases ha with
    | cons h1 t1 =>
      cases t1
      rw [is_ltr hi E _ h1]
      exact (h w k).mono fun e w' p => ⟨_, p.1, .same hr, p.2⟩) an)
/-- .. of two letters -/
theorem p2 [Ltr] {X : Kep} {base : Nat} {f : FuncId} {i j : Nat} {u v r : Value} (hi : Ltr.v i = some u) (hj : Ltr.v j = some v) (hr : flat r = true) (h : ∀ w, (∀ b, X b → w.heap[b]? = X.ob b) → Calls Tryz.prog f #[u, v] w fun e w' => e = .returned r ∧ Below w.heap.size w w') : PEOk Tryz.prog X base (f, patP [([Lt i, Lt j], r)]) :=
  patP_ok (ac (fun E w args' k ha => by
    cases ha with
    | cons h1 t1 =>
      cases t1 with
      | cons h2 t2 =>
        cases t2
        rw [is_ltr hi E _ h1, is_ltr hj E _ h2]
        exact (h w k).mono fun e w' p => ⟨_, p.1, .same hr, p.2⟩) an)
/-- a call of one letter, answered by a letter -/
theorem p1L [Ltr] {X : Kep} {base : Nat} {f : FuncId} {i j : Nat} {u r : Value} (hi : Ltr.v i = some u) (hj : Ltr.v j = some r) (hr : sgl r = true) (h : ∀ w, (∀ b, X b → w.heap[b]? = X.ob b) → Calls Tryz.prog f #[u] w fun e w' => e = .returned r ∧ Below w.heap.size w w') : PEOk Tryz.prog X base (f, patP [([Lt i], Lt j)]) :=
  patP_ok (ac (fun E w args' k ha => by
    cases ha with
    | cons h1 t1 =>
      cases t1
      rw [is_ltr hi E _ h1]
      exact (h w k).mono fun e w' p => ⟨_, p.1, .ltr hj hr, p.2⟩) an)
theorem xk_rem {k : IntKind} {n m : Nat} (hm : m ≠ 0) : binX .rem (.int k n) (.int k m) = some (.int k (n % m : Nat)) := by
  have h2 : (n : Int).tmod m = ((n % m : Nat) : Int) := by rw [← Int.ofNat_tmod]
  show (bif decide (k = k) then (bif decide ((m : Int) = 0) then none else some (Value.int k ((n : Int).tmod m))) else none) = _
  rw [decide_eq_true rfl, decide_eq_false (show ¬ (m : Int) = 0 by omega), h2]
  rfl
/-- an unknown text is gone over: block a -/
def rngE (t : TypeId) (x : Value) (a : Nat) : ME :=
  ⟨fun op ρ H => match op with
    | .range t' y => bif Nat.beq t' t && pq (ρ y) x then some (.value (.pointer (some ⟨H.n, 0, none⟩)), H.push (.opq a)) else none
    | _ => none⟩
theorem rng_ok [Ltr] {X : Kep} {base a : Nat} {x : Value} {s : ByteArray} (hx : ∀ (E : Ren) z, Rel E x z → z = .string s) (ha : ∀ k, Ltr.o a k (.stringIter s 0)) : MEOk Tryz.prog X base (rngE 9 x a) where
  ok := by
    intro o ρ ρ' E H H1 nx w hρ hR e
    simp only [rngE] at e
    split at e
    · rename_i t' y ho
      obtain ⟨hc, e⟩ := cond_some e
      simp only [Bool.and_eq_true] at hc
      obtain ⟨rfl, rfl⟩ := Prod.mk.inj (Option.some.inj e)
      rw [Nat.eq_of_beq_eq_true hc.1] at ho
      have ra := hρ y (by rw [ho]; simp [Op.operands])
      rw [pq_eq hc.2] at ra
      have e1 := hx E _ ra
      obtain ⟨p1, p2, p3⟩ := hR.push (o := .opq a) (x := .stringIter s 0) (k := 0) (fun F x => ⟨_, rfl, ha 0⟩)
      refine ⟨_, .value (.pointer (some ⟨w.heap.size, 0, none⟩)), _, ?_, p2, p1, p3, .ptr Ren.at⟩
      simp only [execOp, ho, e1]
      refine run_value ?_
      show ((Go.underlying _) >>= _).run Tryz.prog w = _
      rw [Sem.run_bind, run_underlying Tryz.underlying9]
      rfl
    · cases e
  q := by
    intro o ρ H H1 nx e
    simp only [rngE] at e
    split at e
    · exact ⟨fun c h => (by cases h), fun h => (by cases h)⟩
    · cases e
/-- the next rune: r at letter i, of block a, block b behind -/
def nxtE (a b i r : Nat) : ME :=
  ⟨fun op ρ H => match op with
    | .next x true => match ρ x with
      | .pointer (some ⟨j, 0, none⟩) => match look j H.h with
        | some (.opq a') => bif Nat.beq a' a && Nat.ble 64 j then some (.value (.tuple ⟨[.bool true, Lt i, Lt r]⟩), { H with h := upd j (.opq b) H.h }) else none
        | _ => none
      | _ => none
    | _ => none⟩
theorem nxt_ok [Ltr] {X : Kep} {a b i r p : Nat} {s : ByteArray} (ha : ∀ k y, Ltr.o a k y → y = .stringIter s p) (hp : p < s.size) (hi : Ltr.v i = some (.int .i64 p)) (hr : Ltr.v r = some (.int .i32 (Utf8.decode s p).1)) (hb : ∀ k, Ltr.o b k (.stringIter s (p + (Utf8.decode s p).2))) : MEOk Tryz.prog X 64 (nxtE a b i r) where
  ok := by
    intro o ρ ρ' E H H1 nx w hρ hR e
    simp only [nxtE] at e
    split at e
    · rename_i x ho
      split at e
      · rename_i j hx
        split at e
        · rename_i a' hl
          obtain ⟨hc, e⟩ := cond_some e
          simp only [Bool.and_eq_true] at hc
          obtain ⟨rfl, rfl⟩ := Prod.mk.inj (Option.some.inj e)
          have rx := hρ x (by rw [ho]; simp [Op.operands])
          rw [hx] at rx
          generalize hy : ρ' x = y at rx
          cases rx with
          | same hf => cases hf
          | @ptr _ _ bk k hE =>
          obtain ⟨b', k', e', y, hxx, hoo⟩ := hR.ok j _ hl
          rw [hE] at e'; obtain ⟨rfl, rfl⟩ := Prod.mk.inj (Option.some.inj e')
          rw [Nat.eq_of_beq_eq_true hc.1] at hoo
          rw [ha _ _ hoo] at hxx
          have hg : (Go.getObj bk).run Tryz.prog w = .ok (.stringIter s p) w := by simp [Go.getObj, Sem.run, hxx]
          obtain ⟨R1, b1⟩ := hR.setOb (o' := .opq b) (y := .stringIter s (p + (Utf8.decode s p).2)) (Nat.le_of_ble_eq_true hc.2) hl rfl hE ⟨_, rfl, hb k⟩
          refine ⟨E, .value (.tuple #[.bool true, .int .i64 p, .int .i32 (Utf8.decode s p).1]), _, ?_, Ext.refl E, R1, b1, .tuple (.cons (.same rfl) (.cons (.ltr hi rfl) (.cons (.ltr hr rfl) .nil)))⟩
          simp only [execOp, ho, hy]
          refine run_value ?_
          have hso : (Go.setObj bk (.stringIter s (p + (Utf8.decode s p).2))).run Tryz.prog w = .ok () { w with heap := w.heap.setIfInBounds bk (.stringIter s (p + (Utf8.decode s p).2)) } := by simp [Go.setObj, Sem.run, hxx]
          simp only [Instr.next, Sem.run_bind, hg, Result.andThen_ok, hp, if_true, hso, Sem.run_pure]
          rfl
        · cases e
      · cases e
    · cases e
  q := by
    intro o ρ H H1 nx e
    simp only [nxtE] at e
    split at e
    · exact ⟨fun c h => (by cases h), fun h => (by cases h)⟩
    · cases e
/-- no further rune -/
def endE (a : Nat) : ME :=
  ⟨fun op ρ H => match op with
    | .next x true => match ρ x with
      | .pointer (some ⟨j, 0, none⟩) => match look j H.h with
        | some (.opq a') => bif Nat.beq a' a then some (.value (.tuple ⟨[.bool false]⟩), H) else none
        | _ => none
      | _ => none
    | _ => none⟩
theorem end_ok [Ltr] {X : Kep} {a p base : Nat} {s : ByteArray} (ha : ∀ k y, Ltr.o a k y → y = .stringIter s p) (hp : ¬ p < s.size) : MEOk Tryz.prog X base (endE a) where
  ok := by
    intro o ρ ρ' E H H1 nx w hρ hR e
    simp only [endE] at e
    split at e
    · rename_i x ho
      split at e
      · rename_i j hx
        split at e
        · rename_i a' hl
          obtain ⟨hc, e⟩ := cond_some e
          obtain ⟨rfl, rfl⟩ := Prod.mk.inj (Option.some.inj e)
          have rx := hρ x (by rw [ho]; simp [Op.operands])
          rw [hx] at rx
          generalize hy : ρ' x = y at rx
          cases rx with
          | same hf => cases hf
          | @ptr _ _ bk k hE =>
          obtain ⟨b', k', e', y, hxx, hoo⟩ := hR.ok j _ hl
          rw [hE] at e'; obtain ⟨rfl, rfl⟩ := Prod.mk.inj (Option.some.inj e')
          rw [Nat.eq_of_beq_eq_true hc] at hoo
          rw [ha _ _ hoo] at hxx
          have hg : (Go.getObj bk).run Tryz.prog w = .ok (.stringIter s p) w := by simp [Go.getObj, Sem.run, hxx]
          refine ⟨E, .value (.tuple #[.bool false]), w, ?_, Ext.refl E, hR, Kp.refl _ _, .tuple (.cons (.same rfl) .nil)⟩
          simp only [execOp, ho, hy]
          refine run_value ?_
          simp only [Instr.next, Sem.run_bind, hg, Result.andThen_ok, hp, if_false, Sem.run_pure]
        · cases e
      · cases e
    · cases e
  q := by
    intro o ρ H H1 nx e
    simp only [endE] at e
    split at e
    · exact ⟨fun c h => (by cases h), fun h => (by cases h)⟩
    · cases e
end Go.Proofs.YtnggajehngemmaaGreatDoor
