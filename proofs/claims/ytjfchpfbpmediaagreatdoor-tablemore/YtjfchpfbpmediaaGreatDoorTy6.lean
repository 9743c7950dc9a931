/-
  table: which fault a whole table has with words more.
-/
import Derived.Test.YtjfchpfbpmediaaGreatDoorTy4
namespace Go.Proofs.YtjfchpfbpmediaaGreatDoor
open Go Go.RowKit
def actS (y : Value) : ByteArray :=
  match y with
  | .string s => s
  | _ => ⟨#[]⟩
namespace Tbl
def wNew : Value := .string ⟨⟨[110, 101, 119, 32, 119, 111, 114, 100]⟩⟩
def wAut : Value := .string ⟨⟨[108, 39, 97, 117, 116, 114, 101]⟩⟩
/-- words behind a key's -/
def more (c v : Nat) (l : List Value) (T : TV) : TV := T.map fun t => bif Nat.beq t.1.1 c && Nat.beq t.1.2 v then (t.1, t.2 ++ l) else t
def tab1 (c v : Nat) : TV := more c v [wNew, wAut] base
def tab2 (c v o : Nat) : TV := more c o [wNew] (tab1 c v)
end Tbl
theorem more_other {act : Value → ByteArray} {c v c' : Nat} {l : List Value} (h : c' ≠ c) : ∀ (T : TV), tabF act (Tbl.more c v l T) c' = tabF act T c'
  | [] => rfl
  | t :: T => by
    funext x
    show tabF act ((bif Nat.beq t.1.1 c && Nat.beq t.1.2 v then (t.1, t.2 ++ l) else t) :: Tbl.more c v l T) c' x = _
    have ih := congrFun (more_other (act := act) (v := v) (l := l) h T) x
    cases hb : (Nat.beq t.1.1 c && Nat.beq t.1.2 v) with
    | false => rw [cond_false, tabF, tabF, ih]
    | true =>
      simp only [Bool.and_eq_true] at hb
      have hc : t.1.1 = c := Nat.eq_of_beq_eq_true hb.1
      have : (Nat.beq c' t.1.1 && Nat.beq x t.1.2) = false := by
        cases h2 : Nat.beq c' t.1.1 with
        | false => rfl
        | true => exact absurd ((Nat.eq_of_beq_eq_true h2).trans hc) h
      rw [cond_true, tabF, tabF, this, cond_false, cond_false, ih]
theorem chk_one {tab : Nat → Nat → List ByteArray} {c : Nat} {o : Option Nat} (hc : c < 19) (ho : Tbl.catOf tab c = o) (h : ∀ c', c' < 19 → c' ≠ c → Tbl.catOf tab c' = none) : Tbl.chkFrom tab 0 19 = o := by
  have key : ∀ k i, i + k = 19 → Tbl.chkFrom tab i k = if i ≤ c then o else none := by
    intro k
    induction k with
    | zero => intro i hi; rw [if_neg (by omega)]; rfl
    | succ k ih =>
      intro i hi
      rw [Tbl.chkFrom, ih (i + 1) (by omega)]
      by_cases hic : i = c
      · rw [hic, ho, if_neg (by omega), if_pos (Nat.le_refl _)]
        cases o <;> rfl
      · rw [h i (by omega) hic]
        show (if i + 1 ≤ c then o else none) = _
        by_cases h2 : i ≤ c
        · rw [if_pos h2, if_pos (by omega)]
        · rw [if_neg h2, if_neg (by omega)]
  have := key 19 0 rfl
  rw [if_pos (Nat.zero_le _)] at this
  exact this
set_option maxRecDepth 100000 in
theorem base_cat : ((List.range 19).all fun c => (Tbl.catOf (tabF actS Tbl.base) c).isNone) = true := by kernel_rfl
set_option maxRecDepth 100000 in
theorem cat1 : (Tbl.keys.all fun k => (Tbl.catOf (tabF actS (Tbl.tab1 k.1 k.2)) k.1).isNone) = true := by kernel_rfl
def errIs (a : Option Nat) (b : Bool) : Bool :=
  match a with
  | none => b
  | some e => !b && Nat.beq e 5
theorem errIs_eq {a : Option Nat} {b : Bool} (h : errIs a b = true) : a = bif b then none else some 5 := by
  cases a with
  | none => rw [show b = true from h]; rfl
  | some e =>
    simp only [errIs, Bool.and_eq_true, Bool.not_eq_true'] at h
    rw [h.1, Nat.eq_of_beq_eq_true h.2]
    rfl
set_option maxRecDepth 100000 in
theorem cat2 : (Tbl.keys.all fun k => (List.range (Tbl.many k.1)).all fun o => errIs (Tbl.catOf (tabF actS (Tbl.tab2 k.1 k.2 o)) k.1) (Nat.beq o k.2)) = true := by kernel_rfl
end Go.Proofs.YtjfchpfbpmediaaGreatDoor
/-
  table: the law TableMore over letters: what is known, a run.
-/
namespace Go.Proofs.YtjfchpfbpmediaaGreatDoor
open Go Go.RowKit
/-- one table, or the other -/
def chk2 (a b : List Value → RW → Option Value) (args : List Value) (H : RW) : Option Value :=
  match a args H with
  | some v => some v
  | none => b args H
theorem chk2_ok [Ltr] {P : Program} {X : Kep} {base : Nat} {f : FuncId} {a b : List Value → RW → Option Value} (ha : PEOk P X base (f, a)) (hb : PEOk P X base (f, b)) : PEOk P X base (f, chk2 a b) := by
  intro args H v E w args' hR hr e
  unfold chk2 at e
  dsimp only at e
  cases h : a args H with
  | some u => rw [h] at e; obtain rfl := Option.some.inj e; exact ha args H u E w args' hR hr h
  | none => rw [h] at e; exact hb args H v E w args' hR hr e
def tmO (c v o : Nat) : List OE := [binE .rem (Lt 6) (.int .u8 (15 : Nat)) (.int .u8 c), cvE 5 3 (Lt 7) (Lt 9), binE .rem (Lt 9) (.int .i64 (Tbl.many c)) (.int .i64 v), cvE 5 3 (Lt 8) (Lt 10), binE .rem (Lt 10) (.int .i64 (Tbl.many c)) (.int .i64 o)]
noncomputable def tmP (c v o : Nat) : Prim := orP wholeP (prL [(6, fixP (.bool true)),
  (8, chk2 (chkP (Tbl.tab1 c v) (Lt 4) (Lt 5) (.int .i64 0)) (chkP (Tbl.tab2 c v o) (Lt 4) (Lt 5) (.int .i64 (bif Nat.beq o v then (0 : Nat) else (5 : Nat) : Nat))))])
noncomputable def tmRun (c v o : Nat) : Option (Value × RW) := callEv Tryz.prog (tmP c v o) 64 (@codeQ (orcG 64 64 (tmO c v o) [medE Tryz.prog 64, estE 64] []) Tryz.prog (tmP c v o) 64 64 100 false) 5 [Lt 0, Lt 1, Lt 6, Lt 7, Lt 8] ⟨64, []⟩
/-- .. may it be any key, the other one any from a to b? -/
noncomputable def tmAll (a b : Nat) (l : List (Nat × Nat)) : Bool := l.all fun k => (List.range (Tbl.many k.1)).all fun o => bif Nat.ble a o && Nat.blt o b then isV true (tmRun k.1 k.2 o) else true
end Go.Proofs.YtjfchpfbpmediaaGreatDoor
