/-
  The fixed calls of the stages return true, from every world that holds the tables.
-/
import Derived.Test.YtanonhannngkmaaGreatDoorAx3
import Derived.Test.YtanonhannngkmaaGreatDoorAx4
import Derived.Test.YtanonhannngkmaaGreatDoorAx5
import Derived.Test.YtanonhannngkmaaGreatDoorAx6
import Derived.Test.YtanonhannngkmaaGreatDoorShelf
import GoSem.Core.Utf8
import Derived.Test.YtanonhannngkmaaGreatDoorEvZ
namespace Go.Proofs.YtanonhannngkmaaGreatDoor
open Go Go.RowKit
theorem known_ok [Ltr] {w : World} (hT : TabsE tabs w) {base : Nat} : ∀ e ∈ known, PEOk Tryz.prog (kep w) base e := by
  have hM : ∀ w' : World, (∀ b, (kep w) b → w'.heap[b]? = (kep w).ob b) → Months w' := fun w' k => tabs_months (hT.keep k)
  intro e he
  simp only [known, List.mem_cons, List.not_mem_nil, or_false] at he
  rcases he with rfl | rfl | rfl | rfl | rfl
  · exact joinP_ok Tryz.strings_Join
  · exact dateP_ok hM
  · exact ofP_ok hM
  · exact longP_ok hM
  · exact weekP_ok
/-- a fixed call: by reckoning, the calls of l known -/
theorem fixed {f : FuncId} {l : List PE} {w : World} (hT : TabsE tabs w) (hl : ∀ e ∈ l, @PEOk noLtr Tryz.prog (kep w) 64 e) (n : Nat) (e : Comes l n f) :
    Calls Tryz.prog f #[] w fun e w' => e = .returned (.bool true) ∧ Below w.heap.size w w' :=
  @run_fixed Tryz.prog noLtr noOrc w tabs 64 (@noOrc_ok noLtr _ _ _ _) (l ++ known) (by kernel_rfl) f (.bool true) hT (by kernel_rfl) (fun x hx => (List.mem_append.1 hx).elim (hl x) (@known_ok noLtr w hT 64 x)) n rfl e
theorem fixed_awk {g f : FuncId} (h : ∀ w, TabsE tabs w → Calls Tryz.prog g #[] w fun e w' => e = .returned (.bool true) ∧ Below w.heap.size w w') {w : World} (hT : TabsE tabs w) (n : Nat) (e : Comes [(g, fixP (.bool true))] n f) :
    Calls Tryz.prog f #[] w fun e w' => e = .returned (.bool true) ∧ Below w.heap.size w w' := by
  refine fixed hT (fun x hx => ?_) n e
  obtain rfl := List.mem_singleton.1 hx
  exact @fixP_ok _ _ _ noLtr _ _ rfl fun w' k => h w' (hT.keep k)
theorem awk3 (w : World) (hT : TabsE tabs w) : Calls Tryz.prog 57 #[] w fun e w' => e = .returned (.bool true) ∧ Below w.heap.size w w' := fixed hT (fun x hx => by cases hx) 400 comes3
theorem awk4 (w : World) (hT : TabsE tabs w) : Calls Tryz.prog 48 #[] w fun e w' => e = .returned (.bool true) ∧ Below w.heap.size w w' := fixed_awk awk3 hT 400 comes4
theorem awk5 (w : World) (hT : TabsE tabs w) : Calls Tryz.prog 41 #[] w fun e w' => e = .returned (.bool true) ∧ Below w.heap.size w w' := fixed_awk awk4 hT 400 comes5
theorem awk6 (w : World) (hT : TabsE tabs w) : Calls Tryz.prog 33 #[] w fun e w' => e = .returned (.bool true) ∧ Below w.heap.size w w' := fixed_awk awk5 hT 400 comes6
theorem awk7 (w : World) (hT : TabsE tabs w) : Calls Tryz.prog 24 #[] w fun e w' => e = .returned (.bool true) ∧ Below w.heap.size w w' := fixed_awk awk6 hT 400 comes7
end Go.Proofs.YtanonhannngkmaaGreatDoor
/-
  Plain: what a rune's decoding says of the bytes.
-/
namespace Go.Proofs.YtanonhannngkmaaGreatDoor.Ub
open Go
theorem at_get (s : ByteArray) (i : Nat) (h : i < s.size) : (s.get! i).toNat = s.data.toList[i]!.toNat := by
  have h' : i < s.data.toList.length := h
  rw [List.getElem!_eq_getElem?_getD, List.getElem?_eq_getElem h']
  have : s.get! i = s.data[i]! := rfl
  rw [this]
  have h'' : i < s.data.size := h
  rw [getElem!_pos s.data i h'']
  rfl
theorem decode_low (s : ByteArray) (p : Nat) (h : (s.get! p).toNat < 128) : Utf8.decode s p = ((s.get! p).toNat, 1) := by
  unfold Utf8.decode
  simp only [Nat.add_zero]
  rw [if_pos h]
/-- a byte from 128 on: a rune from 128 on, of some bytes from 128 on -/
theorem decode_high (s : ByteArray) (p : Nat) (hp : p < s.size) (h : 128 ≤ (s.get! p).toNat) : 128 ≤ (Utf8.decode s p).1 ∧ 1 ≤ (Utf8.decode s p).2 ∧ p + (Utf8.decode s p).2 ≤ s.size ∧ ∀ j, j < (Utf8.decode s p).2 → 128 ≤ (s.get! (p + j)).toNat := by
  have one : ∀ c : Nat, 128 ≤ c → 128 ≤ (c, 1).1 ∧ 1 ≤ ((c, 1) : Nat × Nat).2 ∧ p + ((c, 1) : Nat × Nat).2 ≤ s.size ∧ ∀ j, j < ((c, 1) : Nat × Nat).2 → 128 ≤ (s.get! (p + j)).toNat := by
    intro c hc
    refine ⟨hc, Nat.le_refl _, by show p + 1 ≤ s.size; omega, fun j hj => ?_⟩
    have : j = 0 := by have : j < 1 := hj; omega
    subst this
    exact h
  have cont : ∀ k, (decide (p + k < s.size) && ((s.get! (p + k)).toNat / 64 == 2)) = true → p + k < s.size ∧ 128 ≤ (s.get! (p + k)).toNat := by
    intro k hk
    simp only [Bool.and_eq_true, decide_eq_true_eq, beq_iff_eq] at hk
    exact ⟨hk.1, by omega⟩
  unfold Utf8.decode
  simp only [Nat.add_zero]
  rw [if_neg (by omega)]
  split
  · rename_i hc
    simp only [Bool.and_eq_true] at hc
    have c1 := cont 1 (by simpa using hc.2)
    split
    · rename_i hv
      refine ⟨by simpa using hv, by show 1 ≤ (2 : Nat); decide, by show p + 2 ≤ s.size; omega, fun j hj => ?_⟩
      have : j = 0 ∨ j = 1 := by have : j < 2 := hj; omega
      rcases this with rfl | rfl
      · exact h
      · exact c1.2
    · exact one _ (by decide)
  · split
    · rename_i hc
      simp only [Bool.and_eq_true] at hc
      have c1 := cont 1 (by simpa using hc.1.2)
      have c2 := cont 2 (by simpa using hc.2)
      split
      · rename_i hv
        simp only [Bool.and_eq_true, decide_eq_true_eq] at hv
        refine ⟨by show 128 ≤ _; omega, by show 1 ≤ (3 : Nat); decide, by show p + 3 ≤ s.size; omega, fun j hj => ?_⟩
        have : j = 0 ∨ j = 1 ∨ j = 2 := by have : j < 3 := hj; omega
        rcases this with rfl | rfl | rfl
        · exact h
        · exact c1.2
        · exact c2.2
      · exact one _ (by decide)
    · split
      · rename_i hc
        simp only [Bool.and_eq_true] at hc
        have c1 := cont 1 (by simpa using hc.1.1.2)
        have c2 := cont 2 (by simpa using hc.1.2)
        have c3 := cont 3 (by simpa using hc.2)
        split
        · rename_i hv
          simp only [Bool.and_eq_true, decide_eq_true_eq] at hv
          refine ⟨by show 128 ≤ _; omega, by show 1 ≤ (4 : Nat); decide, by show p + 4 ≤ s.size; omega, fun j hj => ?_⟩
          have : j = 0 ∨ j = 1 ∨ j = 2 ∨ j = 3 := by have : j < 4 := hj; omega
          rcases this with rfl | rfl | rfl | rfl
          · exact h
          · exact c1.2
          · exact c2.2
          · exact c3.2
        · exact one _ (by decide)
      · exact one _ (by decide)
end Go.Proofs.YtanonhannngkmaaGreatDoor.Ub
/-
  Letters: comparisons of numbers of any kind; a text's iterator; what is known of steps of a round.
-/
namespace Go.Proofs.YtanonhannngkmaaGreatDoor
open Go Go.RowKit
section
variable {k : IntKind} {n m : Nat}
theorem xk_ge {b : Bool} (h : decide (m ≤ n) = b) : binX .geq (.int k n) (.int k m) = some (.bool b) := by
  subst h
  show (bif decide (k = k) then some (Value.bool (decide ((n : Int) ≥ m))) else none) = _
  rw [decide_eq_true rfl, show decide ((n : Int) ≥ m) = decide (m ≤ n) by rw [Bool.eq_iff_iff]; simp]
  rfl
theorem xk_le {b : Bool} (h : decide (n ≤ m) = b) : binX .leq (.int k n) (.int k m) = some (.bool b) := by
  subst h
  show (bif decide (k = k) then some (Value.bool (decide ((n : Int) ≤ m))) else none) = _
  rw [decide_eq_true rfl, show decide ((n : Int) ≤ m) = decide (n ≤ m) by rw [Bool.eq_iff_iff]; simp]
  rfl
theorem xk_lt {b : Bool} (h : decide (n < m) = b) : binX .lss (.int k n) (.int k m) = some (.bool b) := by
  subst h
  show (bif decide (k = k) then some (Value.bool (decide ((n : Int) < m))) else none) = _
  rw [decide_eq_true rfl, show decide ((n : Int) < m) = decide (n < m) by rw [Bool.eq_iff_iff]; simp]
  rfl
theorem xk_gt {b : Bool} (h : decide (m < n) = b) : binX .gtr (.int k n) (.int k m) = some (.bool b) := by
  subst h
  show (bif decide (k = k) then some (Value.bool (decide ((n : Int) > m))) else none) = _
  rw [decide_eq_true rfl, show decide ((n : Int) > m) = decide (m < n) by rw [Bool.eq_iff_iff]; simp]
  rfl
theorem xk_eq {b : Bool} (h : decide (n = m) = b) : binX .eql (.int k n) (.int k m) = some (.bool b) := by
  subst h
  show (bif decide (k = k) then some (Value.bool ((n : Int) == m)) else none) = _
  rw [decide_eq_true rfl, show ((n : Int) == m) = decide (n = m) by rw [Bool.eq_iff_iff]; simp; omega]
  rfl
theorem xk_ne {b : Bool} (h : decide (n ≠ m) = b) : binX .neq (.int k n) (.int k m) = some (.bool b) := by
  subst h
  show (bif decide (k = k) then some (Value.bool ((n : Int) != m)) else none) = _
  rw [decide_eq_true rfl, show ((n : Int) != m) = decide (n ≠ m) by rw [Bool.eq_iff_iff]; simp; omega]
  rfl
end
/-- a number's operation with a letter, a number behind -/
theorem bl [Ltr] {op : BinOp} {i : Nat} {u v q r : Value} (hi : Ltr.v i = some u) (hv : flat v = true) (h : binX op u v = some q) (hr : ∀ E : Ren, Rel E r q) : OEOk Tryz.prog (binE op (Lt i) v r) := binE_num (is_ltr hi) (is_flat hv) h hr
/-- .. of two letters -/
theorem bll [Ltr] {op : BinOp} {i j : Nat} {u v q r : Value} (hi : Ltr.v i = some u) (hj : Ltr.v j = some v) (h : binX op u v = some q) (hr : ∀ E : Ren, Rel E r q) : OEOk Tryz.prog (binE op (Lt i) (Lt j) r) := binE_num (is_ltr hi) (is_ltr hj) h hr
/-- a call of one letter, known by its contract -/
theorem p1 [Ltr] {X : Kep} {base : Nat} {f : FuncId} {i : Nat} {u r : Value} (hi : Ltr.v i = some u) (hr : flat r = true) (h : ∀ w, (∀ b, X b → w.heap[b]? = X.ob b) → Calls Tryz.prog f #[u] w fun e w' => e = .returned r ∧ Below w.heap.size w w') : PEOk Tryz.prog X base (f, patP [([Lt i], r)]) :=
  patP_ok (ac (fun E w args' k ha => by
    cases ha with
    | cons h1 t1 =>
      cases t1
      rw [is_ltr hi E _ h1]
      exact (h w k).mono fun e w' p => ⟨_, p.1, .same hr, p.2⟩) an)
/-- .. of two letters -/
theorem p2 [Ltr] {X : Kep} {base : Nat} {f : FuncId} {i j : Nat} {u v r : Value} (hi : Ltr.v i = some u) (hj : Ltr.v j = some v) (hr : flat r = true) (h : ∀ w, (∀ b, X b → w.heap[b]? = X.ob b) → Calls Tryz.prog f #[u, v] w fun e w' => e = .returned r ∧ Below w.heap.size w w') : PEOk Tryz.prog X base (f, patP [([Lt i, Lt j], r)]) :=
  patP_ok (ac (fun E w args' k ha => by
    cases ha with
    | cons h1 t1 =>
      cases t1 with
      | cons h2 t2 =>
        cases t2
        rw [is_ltr hi E _ h1, is_ltr hj E _ h2]
        exact (h w k).mono fun e w' p => ⟨_, p.1, .same hr, p.2⟩) an)
/-- a call of one letter, answered by a letter -/
theorem p1L [Ltr] {X : Kep} {base : Nat} {f : FuncId} {i j : Nat} {u r : Value} (hi : Ltr.v i = some u) (hj : Ltr.v j = some r) (hr : sgl r = true) (h : ∀ w, (∀ b, X b → w.heap[b]? = X.ob b) → Calls Tryz.prog f #[u] w fun e w' => e = .returned r ∧ Below w.heap.size w w') : PEOk Tryz.prog X base (f, patP [([Lt i], Lt j)]) :=
  patP_ok (ac (fun E w args' k ha => by
    cases ha with
    | cons h1 t1 =>
      cases t1
      rw [is_ltr hi E _ h1]
      exact (h w k).mono fun e w' p => ⟨_, p.1, .ltr hj hr, p.2⟩) an)
theorem xk_rem {k : IntKind} {n m : Nat} (hm : m ≠ 0) : binX .rem (.int k n) (.int k m) = some (.int k (n % m : Nat)) := by
  have h2 : (n : Int).tmod m = ((n % m : Nat) : Int) := by rw [← Int.ofNat_tmod]
  show (bif decide (k = k) then (bif decide ((m : Int) = 0) then none else some (Value.int k ((n : Int).tmod m))) else none) = _
  rw [decide_eq_true rfl, decide_eq_false (show ¬ (m : Int) = 0 by omega), h2]
  rfl
/-- an unknown text is gone over: block a -/
def rngE (t : TypeId) (x : Value) (a : Nat) : ME :=
  ⟨fun op ρ H => match op with
    | .range t' y => bif Nat.beq t' t && pq (ρ y) x then some (.value (.pointer (some ⟨H.n, 0, none⟩)), H.push (.opq a)) else none
    | _ => none⟩
theorem rng_ok [Ltr] {X : Kep} {base a : Nat} {x : Value} {s : ByteArray} (hx : ∀ (E : Ren) z, Rel E x z → z = .string s) (ha : ∀ k, Ltr.o a k (.stringIter s 0)) : MEOk Tryz.prog X base (rngE 9 x a) where
  ok := by
    intro o ρ ρ' E H H1 nx w hρ hR e
    simp only [rngE] at e
    split at e
    · rename_i t' y ho
      obtain ⟨hc, e⟩ := cond_some e
      simp only [Bool.and_eq_true] at hc
      obtain ⟨rfl, rfl⟩ := Prod.mk.inj (Option.some.inj e)
      rw [Nat.eq_of_beq_eq_true hc.1] at ho
      have ra := hρ y (by rw [ho]; simp [Op.operands])
      rw [pq_eq hc.2] at ra
      have e1 := hx E _ ra
      obtain ⟨p1, p2, p3⟩ := hR.push (o := .opq a) (x := .stringIter s 0) (k := 0) (fun F x => ⟨_, rfl, ha 0⟩)
      refine ⟨_, .value (.pointer (some ⟨w.heap.size, 0, none⟩)), _, ?_, p2, p1, p3, .ptr Ren.at⟩
      simp only [execOp, ho, e1]
      refine run_value ?_
      show ((Go.underlying _) >>= _).run Tryz.prog w = _
      rw [Sem.run_bind, run_underlying Tryz.underlying9]
      rfl
    · cases e
  q := by
    intro o ρ H H1 nx e
    simp only [rngE] at e
    split at e
    · exact ⟨fun c h => (by cases h), fun h => (by cases h)⟩
    · cases e
/-- the next rune: r at letter i, of block a, block b behind -/
def nxtE (a b i r : Nat) : ME :=
  ⟨fun op ρ H => match op with
    | .next x true => match ρ x with
      | .pointer (some ⟨j, 0, none⟩) => match look j H.h with
        | some (.opq a') => bif Nat.beq a' a && Nat.ble 64 j then some (.value (.tuple ⟨[.bool true, Lt i, Lt r]⟩), { H with h := upd j (.opq b) H.h }) else none
        | _ => none
      | _ => none
    | _ => none⟩
theorem nxt_ok [Ltr] {X : Kep} {a b i r p : Nat} {s : ByteArray} (ha : ∀ k y, Ltr.o a k y → y = .stringIter s p) (hp : p < s.size) (hi : Ltr.v i = some (.int .i64 p)) (hr : Ltr.v r = some (.int .i32 (Utf8.decode s p).1)) (hb : ∀ k, Ltr.o b k (.stringIter s (p + (Utf8.decode s p).2))) : MEOk Tryz.prog X 64 (nxtE a b i r) where
  ok := by
    intro o ρ ρ' E H H1 nx w hρ hR e
    simp only [nxtE] at e
    split at e
    · rename_i x ho
      split at e
      · rename_i j hx
        split at e
        · rename_i a' hl
          obtain ⟨hc, e⟩ := cond_some e
          simp only [Bool.and_eq_true] at hc
          obtain ⟨rfl, rfl⟩ := Prod.mk.inj (Option.some.inj e)
          have rx := hρ x (by rw [ho]; simp [Op.operands])
          rw [hx] at rx
          generalize hy : ρ' x = y at rx
          cases rx with
          | same hf => cases hf
          | @ptr _ _ bk k hE =>
          obtain ⟨b', k', e', y, hxx, hoo⟩ := hR.ok j _ hl
          rw [hE] at e'; obtain ⟨rfl, rfl⟩ := Prod.mk.inj (Option.some.inj e')
          rw [Nat.eq_of_beq_eq_true hc.1] at hoo
          rw [ha _ _ hoo] at hxx
          have hg : (Go.getObj bk).run Tryz.prog w = .ok (.stringIter s p) w := by simp [Go.getObj, Sem.run, hxx]
          obtain ⟨R1, b1⟩ := hR.setOb (o' := .opq b) (y := .stringIter s (p + (Utf8.decode s p).2)) (Nat.le_of_ble_eq_true hc.2) hl rfl hE ⟨_, rfl, hb k⟩
          refine ⟨E, .value (.tuple #[.bool true, .int .i64 p, .int .i32 (Utf8.decode s p).1]), _, ?_, Ext.refl E, R1, b1, .tuple (.cons (.same rfl) (.cons (.ltr hi rfl) (.cons (.ltr hr rfl) .nil)))⟩
          simp only [execOp, ho, hy]
          refine run_value ?_
          have hso : (Go.setObj bk (.stringIter s (p + (Utf8.decode s p).2))).run Tryz.prog w = .ok () { w with heap := w.heap.setIfInBounds bk (.stringIter s (p + (Utf8.decode s p).2)) } := by simp [Go.setObj, Sem.run, hxx]
          simp only [Instr.next, Sem.run_bind, hg, Result.andThen_ok, hp, if_true, hso, Sem.run_pure]
          rfl
        · cases e
      · cases e
    · cases e
  q := by
    intro o ρ H H1 nx e
    simp only [nxtE] at e
    split at e
    · exact ⟨fun c h => (by cases h), fun h => (by cases h)⟩
    · cases e
/-- no further rune -/
def endE (a : Nat) : ME :=
  ⟨fun op ρ H => match op with
    | .next x true => match ρ x with
      | .pointer (some ⟨j, 0, none⟩) => match look j H.h with
        | some (.opq a') => bif Nat.beq a' a then some (.value (.tuple ⟨[.bool false]⟩), H) else none
        | _ => none
      | _ => none
    | _ => none⟩
theorem end_ok [Ltr] {X : Kep} {a p base : Nat} {s : ByteArray} (ha : ∀ k y, Ltr.o a k y → y = .stringIter s p) (hp : ¬ p < s.size) : MEOk Tryz.prog X base (endE a) where
  ok := by
    intro o ρ ρ' E H H1 nx w hρ hR e
    simp only [endE] at e
    split at e
    · rename_i x ho
      split at e
      · rename_i j hx
        split at e
        · rename_i a' hl
          obtain ⟨hc, e⟩ := cond_some e
          obtain ⟨rfl, rfl⟩ := Prod.mk.inj (Option.some.inj e)
          have rx := hρ x (by rw [ho]; simp [Op.operands])
          rw [hx] at rx
          generalize hy : ρ' x = y at rx
          cases rx with
          | same hf => cases hf
          | @ptr _ _ bk k hE =>
          obtain ⟨b', k', e', y, hxx, hoo⟩ := hR.ok j _ hl
          rw [hE] at e'; obtain ⟨rfl, rfl⟩ := Prod.mk.inj (Option.some.inj e')
          rw [Nat.eq_of_beq_eq_true hc] at hoo
          rw [ha _ _ hoo] at hxx
          have hg : (Go.getObj bk).run Tryz.prog w = .ok (.stringIter s p) w := by simp [Go.getObj, Sem.run, hxx]
          refine ⟨E, .value (.tuple #[.bool false]), w, ?_, Ext.refl E, hR, Kp.refl _ _, .tuple (.cons (.same rfl) .nil)⟩
          simp only [execOp, ho, hy]
          refine run_value ?_
          simp only [Instr.next, Sem.run_bind, hg, Result.andThen_ok, hp, if_false, Sem.run_pure]
        · cases e
      · cases e
    · cases e
  q := by
    intro o ρ H H1 nx e
    simp only [endE] at e
    split at e
    · exact ⟨fun c h => (by cases h), fun h => (by cases h)⟩
    · cases e
end Go.Proofs.YtanonhannngkmaaGreatDoor
/-
  table: is a text a word? The program's isLetter, isWord.
-/
namespace Go.Proofs.YtanonhannngkmaaGreatDoor
open Go Go.RowKit
namespace Tbl
/-- may it stand in a sequence? -/
def lb (c : Nat) : Bool := (decide (97 ≤ c) && decide (c ≤ 122)) || decide (c = 39) || decide (128 ≤ c)
/-- the rest of a text, behind a letter or not: none: it is no word -/
def wd : Bool → List UInt8 → Option Bool
  | i, [] => some i
  | i, c :: l => bif lb c.toNat then wd true l else bif decide (c.toNat = 32) && i then wd false l else none
def isW (l : List UInt8) : Bool := (wd false l).getD false
theorem lb_high {c : Nat} (h : 128 ≤ c) : lb c = true := by simp [lb, h]
theorem wd_high : ∀ {n : Nat} {l : List UInt8} {i : Bool}, n + 1 ≤ l.length → (∀ j, j < n + 1 → 128 ≤ (l[j]!).toNat) → wd i l = wd true (l.drop (n + 1))
  | n, [], _, h, _ => by simp at h
  | 0, c :: l, i, _, h => by
    have := h 0 (by omega)
    simp only [List.getElem!_cons_zero] at this
    rw [wd, lb_high this]
    rfl
  | n + 1, c :: l, i, hl, h => by
    have h0 := h 0 (by omega)
    simp only [List.getElem!_cons_zero] at h0
    rw [wd, lb_high h0]
    show wd true l = wd true (l.drop (n + 1))
    exact wd_high (by simpa using hl) fun j hj => by
      have := h (j + 1) (by omega)
      simpa using this
theorem drop_at {s : ByteArray} {p : Nat} (h : p < s.size) : s.data.toList.drop p = s.data.toList[p]! :: s.data.toList.drop (p + 1) := by
  have h' : p < s.data.toList.length := h
  rw [List.drop_eq_getElem_cons h', List.getElem!_eq_getElem?_getD, List.getElem?_eq_getElem h']
  rfl
end Tbl
theorem let_any (r : Nat) (w : World) : Calls Tryz.prog 55 #[.int .i32 r] w fun e w' => e = .returned (.bool (Tbl.lb r)) ∧ Below w.heap.size w w' := by
  have key : ∀ a b c d : Bool, Sym [binE .geq (Lt 0) (.int .i32 (97 : Nat)) (.bool a), binE .leq (Lt 0) (.int .i32 (122 : Nat)) (.bool b), binE .eql (Lt 0) (.int .i32 (39 : Nat)) (.bool c), binE .geq (Lt 0) (.int .i32 (128 : Nat)) (.bool d)] [] 30 55 [Lt 0] (.bool ((a && b) || c || d)) := by
    intro a b c d; cases a <;> cases b <;> cases c <;> cases d <;> (delta Sym; show _ = _; kernel_rfl)
  let _ : Ltr := ltrL [.int .i32 r]
  exact symF [.int .i32 r] 30 (ac (bl rfl rfl (xk_ge rfl) (to_flat rfl)) (ac (bl rfl rfl (xk_le rfl) (to_flat rfl)) (ac (bl rfl rfl (xk_eq rfl) (to_flat rfl)) (ac (bl rfl rfl (xk_ge rfl) (to_flat rfl)) an)))) an (.cons (.ltr rfl rfl) .nil) rfl (key _ _ _ _)
abbrev ltrO (l : List Value) (o : Nat → Nat → Obj → Prop) : Ltr := ⟨fun i => l[i]?, fun _ _ => False, o, fun _ _ _ _ => False, fun _ _ => False, fun _ => 0⟩
/-- nothing goes over but blocks -/
abbrev traO (l : List (Nat × Nat)) : Tra := ⟨[], [], [], [], l, []⟩
theorem traO_ok {L L' : Ltr} {l : List (Nat × Nat)} (h : ∀ p ∈ l, ∀ k y, L.o p.1 k y → L'.o p.2 k y) : TraOk L L' (traO l) where
  v := an
  s := an
  c := an
  p := an
  o := h
  g := an
abbrev wdIt (s : ByteArray) (p : Nat) : Ltr := ltrO [.int .i64 p, .int .i32 (Utf8.decode s p).1] fun i _ y => y = .stringIter s (bif Nat.beq i 0 then p else p + (Utf8.decode s p).2)
def wdS (inn : Bool) : St := ⟨fr 21 [(2, .bool false), (3, .bool inn), (7, .pointer (some ⟨64, 0, none⟩))], ⟨65, [(64, .opq 0)]⟩, []⟩
def wdX (o : Option Bool) : Exit := match o with
  | some _ => .exit 0
  | none => .ret
def wdE (o : Option Bool) : St := ⟨fr 21 ((2, .bool false) :: match o with | some v => [(3, .bool v)] | none => []), ⟨65, []⟩, []⟩
noncomputable def wdB : Code := inLoop (loopOf Tryz.prog 45 0)
noncomputable def wdC (o : Option Bool) : CE := ⟨.loop wdB, traO [(0, 0)], 65, [], wdS false, wdX o, wdE o⟩
theorem wd_run1 (inn : Bool) : ComG [] [nxtE 0 1 0 1] [] [(55, patP [([Lt 1], .bool true)])] 40 wdB (wdS inn) .normal (traO [(1, 0)]) 65 [] (wdS true) := by
  cases inn <;> (show _ = _; kernel_rfl)
theorem wd_run2 : ComG [binE .eql (Lt 1) (.int .i32 (32 : Nat)) (.bool true)] [nxtE 0 1 0 1] [] [(55, patP [([Lt 1], .bool false)])] 40 wdB (wdS true) .normal (traO [(1, 0)]) 65 [] (wdS false) := by
  show _ = _; kernel_rfl
theorem wd_run3 (b inn : Bool) (h : (b && inn) = false) : ComG [binE .eql (Lt 1) (.int .i32 (32 : Nat)) (.bool b)] [nxtE 0 1 0 1] [] [(55, patP [([Lt 1], .bool false)])] 40 wdB (wdS inn) .ret (traO []) 65 [] (wdE none) := by
  cases b <;> cases inn <;> first | (cases h; done) | (show _ = _; kernel_rfl)
theorem wd_run4 (inn : Bool) : ComG [] [endE 0] [] [] 40 wdB (wdS inn) (.exit 0) (traO []) 65 [] (wdE (some inn)) := by
  cases inn <;> (show _ = _; kernel_rfl)
theorem wd_run5 (o : Option Bool) : SymG [] [rngE 9 (Lt 0) 0] [wdC o] [] 40 45 [Lt 0] (.bool (o.getD false)) := by
  cases o with
  | none => delta SymG; show _ = _; kernel_rfl
  | some v => cases v <;> (delta SymG; show _ = _; kernel_rfl)
theorem wd_ce (s : ByteArray) (w : World) (Lo : Ltr) (ho : ∀ k y, Lo.o 0 k y → y = .stringIter s 0) : @CEOk Lo Tryz.prog 64 (kep w) 64 (wdC (Tbl.wd false s.data.toList)) := by
  generalize hgo : Tbl.wd false s.data.toList = o
  refine @ce_of Tryz.prog 64 (kep w) 64 Lo (Nat × Bool) (fun d => wdIt s d.1) (fun d => wdS d.2) (fun d => s.size - d.1) (fun d => Tbl.wd d.2 (s.data.toList.drop d.1) = o ∧ d.1 ≤ s.size) (wdC o) wdB rfl ?_ (0, false) ⟨hgo, Nat.zero_le _⟩ rfl (traO_ok (ac (fun k y h => ho k y h) an)) an
  rintro ⟨p, inn⟩ ⟨hd, hle⟩ ro k E a w' h
  have pe : ∀ r : Bool, Tbl.lb (Utf8.decode s p).1 = r → ∀ e ∈ [((55 : FuncId), patP [([Lt 1], .bool r)])], @PEOk (wdIt s p) Tryz.prog (kep w) 64 e := by
    intro r hr
    let _ : Ltr := wdIt s p
    exact ac (p1 rfl rfl fun w2 _ => (let_any _ w2).mono fun e w3 q => ⟨by rw [q.1, hr], q.2⟩) an
  have ne : ∀ hp : p < s.size, ∀ e ∈ [nxtE 0 1 0 1], @MEOk (wdIt s p) Tryz.prog (kep w) 64 e := by
    intro hp
    let _ : Ltr := wdIt s p
    exact ac (nxt_ok (fun k y h => h) hp rfl rfl fun k => rfl) an
  have be : ∀ b : Bool, decide ((Utf8.decode s p).1 = 32) = b → ∀ e ∈ [binE .eql (Lt 1) (.int .i32 (32 : Nat)) (.bool b)], @OEOkX (wdIt s p) Tryz.prog (kep w) e := by
    intro b hb
    let _ : Ltr := wdIt s p
    exact ac (bl rfl rfl (xk_eq hb) (to_flat rfl)).x an
  have next : ∀ inn', TraOk (wdIt s p) (wdIt s ((p + (Utf8.decode s p).2, inn') : Nat × Bool).1) (traO [(1, 0)]) := fun inn' => traO_ok (ac (fun k y h => (by have h1 : y = .stringIter s (p + (Utf8.decode s p).2) := h; exact h1)) an)
  by_cases hp : p < s.size
  · have hdr := Tbl.drop_at hp
    by_cases h1 : (s.get! p).toNat < 128
    · have hdec := Ub.decode_low s p h1
      have hb := Ub.at_get s p hp
      rw [hdr, Tbl.wd, ← hb] at hd
      have hc1 : (Utf8.decode s p).1 = (s.get! p).toNat := by rw [hdec]
      have hc2 : (Utf8.decode s p).2 = 1 := by rw [hdec]
      cases hl : Tbl.lb (s.get! p).toNat with
      | true =>
        rw [hl] at hd
        exact r_on (p + (Utf8.decode s p).2, true) (toldG (wdIt s p) an (ne hp) an (pe true (by rw [hc1, hl])) (next true) an (wd_run1 inn) h) ⟨by rw [hc2]; exact hd, by show p + _ ≤ _; omega⟩ (by show s.size - (p + _) < s.size - p; omega)
      | false =>
        rw [hl] at hd
        cases hs : (decide ((s.get! p).toNat = 32) && inn) with
        | true =>
          rw [hs] at hd
          simp only [Bool.and_eq_true] at hs
          obtain ⟨hs1, rfl⟩ := hs
          exact r_on (p + (Utf8.decode s p).2, false) (toldG (wdIt s p) (be true (by rw [hc1, hs1])) (ne hp) an (pe false (by rw [hc1, hl])) (next false) an wd_run2 h) ⟨by rw [hc2]; exact hd, by show p + _ ≤ _; omega⟩ (by show s.size - (p + _) < s.size - p; omega)
        | false =>
          rw [hs] at hd
          obtain rfl : none = o := hd
          exact r_out (by intro h; cases h) (toldG (wdIt s p) (be _ (by rw [hc1])) (ne hp) an (pe false (by rw [hc1, hl])) (traO_ok an) an (wd_run3 _ inn hs) h)
    · obtain ⟨g1, g2, g3, g4⟩ := Ub.decode_high s p hp (by omega)
      refine r_on (p + (Utf8.decode s p).2, true) (toldG (wdIt s p) an (ne hp) an (pe true (Tbl.lb_high g1)) (next true) an (wd_run1 inn) h) ⟨?_, g3⟩ (by show s.size - (p + _) < s.size - p; omega)
      rw [← hd]
      obtain ⟨n, hn⟩ : ∃ n, (Utf8.decode s p).2 = n + 1 := ⟨(Utf8.decode s p).2 - 1, by omega⟩
      show Tbl.wd true (s.data.toList.drop (p + (Utf8.decode s p).2)) = _
      rw [hn, Tbl.wd_high (n := n) (l := s.data.toList.drop p), List.drop_drop]
      · have : s.data.toList.length = s.size := rfl
        rw [List.length_drop]
        omega
      · intro j hj
        have hj2 : p + j < s.size := by omega
        have := g4 j (by omega)
        rw [Ub.at_get s _ hj2] at this
        have e : (s.data.toList.drop p)[j]! = s.data.toList[p + j]! := by
          rw [List.getElem!_eq_getElem?_getD, List.getElem!_eq_getElem?_getD, List.getElem?_drop]
        rw [e]
        exact this
  · have hd' : some inn = o := by
      rw [List.drop_eq_nil_of_le (by have : s.data.toList.length = s.size := rfl; omega)] at hd
      exact hd
    subst hd'
    refine r_out (by intro h; cases h) (toldG (wdIt s p) an ?_ an an (traO_ok an) an (wd_run4 inn) h)
    let _ : Ltr := wdIt s p
    exact ac (end_ok (fun k y h => h) hp) an
theorem word_any (s : ByteArray) (w : World) : Calls Tryz.prog 45 #[.string s] w fun e w' => e = .returned (.bool (Tbl.isW s.data.toList)) ∧ Below w.heap.size w w' := by
  let L : Ltr := ltrO [.string s] fun _ _ y => y = .stringIter s 0
  exact symGF L 40 an (ac (rng_ok (is_ltr rfl) fun k => rfl) an) (ac (wd_ce s w L fun k y h => h) an) an (.cons (.ltr rfl rfl) .nil) rfl (wd_run5 _)
end Go.Proofs.YtanonhannngkmaaGreatDoor
