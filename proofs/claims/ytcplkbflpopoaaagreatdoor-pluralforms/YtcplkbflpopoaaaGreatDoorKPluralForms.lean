/-
  The law PluralForms: every call of it returns true, from a world that holds the tables.
-/
import Derived.Test.YtcplkbflpopoaaaGreatDoorBs7
namespace Go.Proofs.YtcplkbflpopoaaaGreatDoor
open Go Go.RowKit
/-- a number of another kind as an int -/
theorem cv_u32 [Ltr] {i j n : Nat} (hn : n ≤ 4294967295) (hi : Ltr.v i = some (.int .u32 n)) (hj : Ltr.v j = some (.int .i64 n)) : OEOk Tryz.prog (cvE 22 3 (Lt i) (Lt j)) :=
  cvE_ok fun o ρ x E w ho hx => by
    have e1 := is_ltr hi E _ hx
    refine ⟨.int .i64 n, ?_, .ltr hj rfl⟩
    have h : IntKind.i64.wrap (n : Int) = n := IntWalk.i64_in _ (by omega)
    simp only [execOp, ho, e1]
    go_simp
theorem cv_u8 [Ltr] {i j n : Nat} (hn : n ≤ 255) (hi : Ltr.v i = some (.int .u8 n)) (hj : Ltr.v j = some (.int .i64 n)) : OEOk Tryz.prog (cvE 5 3 (Lt i) (Lt j)) :=
  cvE_ok fun o ρ x E w ho hx => by
    have e1 := is_ltr hi E _ hx
    refine ⟨.int .i64 n, ?_, .ltr hj rfl⟩
    have h : IntKind.i64.wrap (n : Int) = n := IntWalk.i64_in _ (by omega)
    simp only [execOp, ho, e1]
    go_simp
/-- calls of a number and a letter -/
theorem pat_two [Ltr] {X : Kep} {f : FuncId} {k i j : Nat} {n : Nat} {u : Value} (hi : Ltr.v i = some (.int .i64 n)) (hj : Ltr.v j = some u) (hu : sgl u = true) (h : ∀ w : World, (∀ b, X b → w.heap[b]? = X.ob b) → Calls Tryz.prog f #[.int .i64 k, .int .i64 n] w fun e w' => e = .returned u ∧ Below w.heap.size w w') :
    ∀ (E : Ren) (w : World) (args' : List Value), (∀ b, X b → w.heap[b]? = X.ob b) → RelL E [.int .i64 k, Lt i] args' → Calls Tryz.prog f ⟨args'⟩ w fun e w' => ∃ v', e = .returned v' ∧ Rel E (Lt j) v' ∧ Below w.heap.size w w' := fun E w args' k ha => by
  cases ha with
  | cons r1 t1 =>
    cases t1 with
    | cons r2 t2 =>
      cases t2
      rw [is_flat rfl E _ r1, is_ltr hi E _ r2]
      exact (h w k).mono fun e w' p => ⟨_, p.1, .ltr hj hu, p.2⟩
theorem n_same [Ltr] {i : Nat} {a : Int} (hi : Ltr.v i = some (.int .i64 a)) : OEOk Tryz.prog (binE .neq (Lt i) (Lt i) (.bool false)) := binE_num (is_ltr hi) (is_ltr hi) x_nee (to_flat rfl)
theorem pluralForms_walk (n k : Nat) (hn : n ≤ 4294967295) (hk : k ≤ 255) (w : World) (hT : Tab7 w) : Calls Tryz.prog 3 #[.int .u32 n, .int .u8 k] w fun e w' => e = .returned (.bool true) ∧ Below w.heap.size w w' := by
  let L : List Value := [.int .u32 n, .int .u8 k, .int .i64 n, .int .i64 k, .int .i64 (Plu.form (0 : Nat) n), .int .i64 (Plu.form (1 : Nat) n), .int .i64 (Plu.form (2 : Nat) n), .int .i64 (Plu.form (0 : Nat) k), .int .i64 (Plu.form (1 : Nat) k), .int .i64 (Plu.form (2 : Nat) k)]
  let _ : Ltr := ltrL L
  refine symF L 60 (args := [Lt 0, Lt 1]) (O := [cvE 22 3 (Lt 0) (Lt 2), cvE 5 3 (Lt 1) (Lt 3), binE .neq (Lt 4) (Lt 4) (.bool false), binE .neq (Lt 5) (Lt 5) (.bool false), binE .neq (Lt 6) (Lt 6) (.bool false), binE .neq (Lt 7) (Lt 7) (.bool false), binE .neq (Lt 8) (Lt 8) (.bool false), binE .neq (Lt 9) (Lt 9) (.bool false)])
    (l := [(9, fixP (.bool true)), (10, patP [([.int .i64 (0 : Nat), Lt 2], Lt 4), ([.int .i64 (1 : Nat), Lt 2], Lt 5), ([.int .i64 (2 : Nat), Lt 2], Lt 6), ([.int .i64 (0 : Nat), Lt 3], Lt 7), ([.int .i64 (1 : Nat), Lt 3], Lt 8), ([.int .i64 (2 : Nat), Lt 3], Lt 9)]),
      (11, patP [([.int .i64 (0 : Nat), Lt 2], Lt 4), ([.int .i64 (1 : Nat), Lt 2], Lt 5), ([.int .i64 (2 : Nat), Lt 2], Lt 6), ([.int .i64 (0 : Nat), Lt 3], Lt 7), ([.int .i64 (1 : Nat), Lt 3], Lt 8), ([.int .i64 (2 : Nat), Lt 3], Lt 9)])])
    (ac (cv_u32 hn rfl rfl) (ac (cv_u8 hk rfl rfl) (ac (n_same rfl) (ac (n_same rfl) (ac (n_same rfl) (ac (n_same rfl) (ac (n_same rfl) (ac (n_same rfl) an))))))))
    (ac (fixP_ok rfl fun w' k => awk7 w' (hT.t.keep k)) (ac (patP_ok ?_) (ac (patP_ok ?_) an))) (.cons (.ltr rfl rfl) (.cons (.ltr rfl rfl) .nil)) rfl (by delta Sym; show _ = _; kernel_rfl)
  · have h : ∀ c x : Nat, c < 3 → x ≤ 4294967295 → ∀ w' : World, (∀ b, (kep w) b → w'.heap[b]? = (kep w).ob b) → Calls Tryz.prog 10 #[.int .i64 c, .int .i64 x] w' fun e w2 => e = .returned (.int .i64 (Plu.form c x)) ∧ Below w'.heap.size w' w2 := fun c x hc hx w' _ => form_any c x hc (by omega) w'
    exact ac (pat_two rfl rfl rfl (h 0 n (by omega) hn)) (ac (pat_two rfl rfl rfl (h 1 n (by omega) hn)) (ac (pat_two rfl rfl rfl (h 2 n (by omega) hn)) (ac (pat_two rfl rfl rfl (h 0 k (by omega) (by omega))) (ac (pat_two rfl rfl rfl (h 1 k (by omega) (by omega))) (ac (pat_two rfl rfl rfl (h 2 k (by omega) (by omega))) an)))))
  · have h : ∀ c x : Nat, c < 3 → x ≤ 4294967295 → ∀ w' : World, (∀ b, (kep w) b → w'.heap[b]? = (kep w).ob b) → Calls Tryz.prog 11 #[.int .i64 c, .int .i64 x] w' fun e w2 => e = .returned (.int .i64 (Plu.form c x)) ∧ Below w'.heap.size w' w2 := fun c x hc hx w' k => lform_any c x hc (by omega) w' (hT.p.keep k)
    exact ac (pat_two rfl rfl rfl (h 0 n (by omega) hn)) (ac (pat_two rfl rfl rfl (h 1 n (by omega) hn)) (ac (pat_two rfl rfl rfl (h 2 n (by omega) hn)) (ac (pat_two rfl rfl rfl (h 0 k (by omega) (by omega))) (ac (pat_two rfl rfl rfl (h 1 k (by omega) (by omega))) (ac (pat_two rfl rfl rfl (h 2 k (by omega) (by omega))) an)))))
end Go.Proofs.YtcplkbflpopoaaaGreatDoor
