/-
  The law PluralReads: every call of it returns true, from a world that holds the tables and the errors.
-/
import Derived.Test.YtcplkbflpopoaaaGreatDoorBs7
import Derived.Test.YtcplkbflpopoaaaGreatDoorCv
import Derived.Test.YtcplkbflpopoaaaGreatDoorEr
import Derived.Test.YtcplkbflpopoaaaGreatDoorKPluralApart
namespace Go.Proofs.YtcplkbflpopoaaaGreatDoor
open Go Go.RowKit
/-- calls of letters: two, three -/
theorem pat_LL [Ltr] {X : Kep} {f : FuncId} {i j : Nat} {u v r q : Value} (hi : Ltr.v i = some u) (hj : Ltr.v j = some v) (hr : ∀ E : Ren, Rel E r q) (h : ∀ w : World, (∀ b, X b → w.heap[b]? = X.ob b) → Calls Tryz.prog f #[u, v] w fun e w' => e = .returned q ∧ Below w.heap.size w w') :
    ∀ (E : Ren) (w : World) (args' : List Value), (∀ b, X b → w.heap[b]? = X.ob b) → RelL E [Lt i, Lt j] args' → Calls Tryz.prog f ⟨args'⟩ w fun e w' => ∃ v', e = .returned v' ∧ Rel E r v' ∧ Below w.heap.size w w' := fun E w args' k ha => by
  cases ha with
  | cons r1 t1 =>
    cases t1 with
    | cons r2 t2 =>
      cases t2
      rw [is_ltr hi E _ r1, is_ltr hj E _ r2]
      exact (h w k).mono fun e w' p => ⟨_, p.1, hr E, p.2⟩
theorem pat_LLL [Ltr] {X : Kep} {f : FuncId} {i j k : Nat} {u v x r q : Value} (hi : Ltr.v i = some u) (hj : Ltr.v j = some v) (hk : Ltr.v k = some x) (hr : ∀ E : Ren, Rel E r q) (h : ∀ w : World, (∀ b, X b → w.heap[b]? = X.ob b) → Calls Tryz.prog f #[u, v, x] w fun e w' => e = .returned q ∧ Below w.heap.size w w') :
    ∀ (E : Ren) (w : World) (args' : List Value), (∀ b, X b → w.heap[b]? = X.ob b) → RelL E [Lt i, Lt j, Lt k] args' → Calls Tryz.prog f ⟨args'⟩ w fun e w' => ∃ v', e = .returned v' ∧ Rel E r v' ∧ Below w.heap.size w w' := fun E w args' kk ha => by
  cases ha with
  | cons r1 t1 =>
    cases t1 with
    | cons r2 t2 =>
      cases t2 with
      | cons r3 t3 =>
        cases t3
        rw [is_ltr hi E _ r1, is_ltr hj E _ r2, is_ltr hk E _ r3]
        exact (h w kk).mono fun e w' p => ⟨_, p.1, hr E, p.2⟩
theorem cv_st [Ltr] {i j n : Nat} (hn : n ≤ 255) (hi : Ltr.v i = some (.int .u8 n)) (hj : Ltr.v j = some (.int .i64 n)) : OEOk Tryz.prog (cvE 5 29 (Lt i) (Lt j)) :=
  cvE_ok fun o ρ x E w ho hx => by
    have e1 := is_ltr hi E _ hx
    refine ⟨.int .i64 n, ?_, .ltr hj rfl⟩
    have h : IntKind.i64.wrap (n : Int) = n := IntWalk.i64_in _ (by omega)
    simp only [execOp, ho, e1]
    go_simp
theorem s_takeN [Ltr] {i j d : Nat} {t : List UInt8} (hi : Ltr.v i = some (.string ⟨⟨t⟩⟩)) (hj : Ltr.v j = some (.string ⟨⟨t.take d⟩⟩)) (h : d ≤ t.length) : OEOk Tryz.prog (cutE 9 (Lt i) (.int .i64 d) (Lt j)) :=
  cutE_ok fun o ρ a b E w ho ha hb => by
    have e1 := is_ltr hi E _ ha
    have e2 := is_flat rfl E _ hb
    refine ⟨.string ⟨⟨t.take d⟩⟩, ?_, .ltr hj rfl⟩
    have e : (⟨⟨t⟩⟩ : ByteArray).extract 0 d = ⟨⟨t.take d⟩⟩ := by
      have h := Lib.extract_from_zero ⟨⟨t⟩⟩ d
      apply ByteArray.ext
      apply Array.ext'
      rw [h]
    have hz : d ≤ (⟨⟨t⟩⟩ : ByteArray).size := h
    rw [← e]
    simp only [execOp, ho, e1]
    go_simp
/-- a round of the law's loop that goes on -/
def rnd (i : Nat) : List OE := [binE .lss (.int .i64 i) (Lt 3) (.bool true), idxE 9 (Lt 0) (.int .i64 i) (Lt (10 + i)), binE .geq (Lt (10 + i)) (.int .u8 48) (.bool true), binE .leq (Lt (10 + i)) (.int .u8 57) (.bool true)]
/-- the last one: at the text's end, at a byte below the digits, above them -/
def lst (m : Nat) : Nat → List OE
  | 0 => [binE .lss (.int .i64 m) (Lt 3) (.bool false)]
  | 1 => [binE .lss (.int .i64 m) (Lt 3) (.bool true), idxE 9 (Lt 0) (.int .i64 m) (Lt (10 + m)), binE .geq (Lt (10 + m)) (.int .u8 48) (.bool false)]
  | _ => [binE .lss (.int .i64 m) (Lt 3) (.bool true), idxE 9 (Lt 0) (.int .i64 m) (Lt (10 + m)), binE .geq (Lt (10 + m)) (.int .u8 48) (.bool true), binE .leq (Lt (10 + m)) (.int .u8 57) (.bool false)]
def rnds : Nat → List OE
  | 0 => []
  | m + 1 => rnds m ++ rnd m
def baseO : List OE := [lenE 9 (Lt 0) (Lt 3), binE .gtr (Lt 3) (.int .i64 20) (.bool false), binE .rem (Lt 1) (.int .u8 3) (Lt 8), cvE 5 29 (Lt 8) (Lt 9), cvE 35 3 (Lt 2) (Lt 6)]
def basel (ok : Bool) : List PE := [(9, fixP (.bool true)), (13, patP [([Lt 9, Lt 0, Lt 6], bif ok then .tuple ⟨[Lt 5, .bool true]⟩ else .tuple ⟨[.int .i64 0, .bool false]⟩)]), (14, patP [([Lt 9, Lt 5], Lt 7)])]
def tailO (m : Nat) (a b c : Bool) : List OE := [cutE 9 (Lt 0) (.int .i64 m) (Lt 4), binE .lss (Lt 5) (.int .i64 1) (.bool a), binE .gtr (Lt 5) (Lt 6) (.bool b), binT .neq 9 9 (Lt 7) (Lt 0) (.bool c)]
end Go.Proofs.YtcplkbflpopoaaaGreatDoor
