/-
  The law PluralApart: every call of it returns true, from a world that holds the tables.
-/
import Derived.Test.YtcplkbflpopoaaaGreatDoorBs7
import Derived.Test.YtcplkbflpopoaaaGreatDoorCv
import Derived.Test.YtcplkbflpopoaaaGreatDoorPu4
namespace Go.Proofs.YtcplkbflpopoaaaGreatDoor
open Go Go.RowKit
theorem x_rem8 {n m : Nat} (hm : m ≠ 0) : binX .rem (.int .u8 n) (.int .u8 m) = some (.int .u8 (n % m : Nat)) := by
  have h2 : (n : Int).tmod m = ((n % m : Nat) : Int) := by rw [← Int.ofNat_tmod]
  show (bif decide ((m : Int) = 0) then none else some (Value.int .u8 ((n : Int).tmod m))) = _
  rw [decide_eq_false (by omega), h2]
  rfl
theorem s_eq2 [Ltr] {i j : Nat} {s t : List UInt8} {b : Bool} (hi : Ltr.v i = some (.string ⟨⟨s⟩⟩)) (hj : Ltr.v j = some (.string ⟨⟨t⟩⟩)) (h : decide (s = t) = b) : OEOk Tryz.prog (binT .eql 9 9 (Lt i) (Lt j) (.bool b)) :=
  binT_ok fun o ρ x y E w ho hx hy => by
    have e1 := is_ltr hi E _ hx
    have e2 := is_ltr hj E _ hy
    refine ⟨.bool b, ?_, .same rfl⟩
    subst h
    simp only [execOp, ho, e1, e2]
    go_simp
    rw [Bool.eq_iff_iff]
    simp
theorem pat_threeN [Ltr] {X : Kep} {f : FuncId} {k i m : Nat} {u r q : Value} (hi : Ltr.v i = some u) (hr : ∀ E : Ren, Rel E r q) (h : ∀ w : World, (∀ b, X b → w.heap[b]? = X.ob b) → Calls Tryz.prog f #[.int .i64 k, u, .int .i64 m] w fun e w' => e = .returned q ∧ Below w.heap.size w w') :
    ∀ (E : Ren) (w : World) (args' : List Value), (∀ b, X b → w.heap[b]? = X.ob b) → RelL E [.int .i64 k, Lt i, .int .i64 m] args' → Calls Tryz.prog f ⟨args'⟩ w fun e w' => ∃ v', e = .returned v' ∧ Rel E r v' ∧ Below w.heap.size w w' := fun E w args' k ha => by
  cases ha with
  | cons r1 t1 =>
    cases t1 with
    | cons r2 t2 =>
      cases t2 with
      | cons r3 t3 =>
        cases t3
        rw [is_flat rfl E _ r1, is_ltr hi E _ r2, is_flat rfl E _ r3]
        exact (h w k).mono fun e w' p => ⟨_, p.1, hr E, p.2⟩
theorem ord_len' (s n : Nat) (h : n ≤ 9223372036854775807) : (Plu.ord s n).length ≤ 1000 := by
  have := dd_len n h
  have := Plu.endg_len s n
  unfold Plu.ord
  rw [List.length_append]
  omega
theorem pluralApart_walk (a b s o : Nat) (ha : a ≤ 65535) (hb : b ≤ 65535) (_hs : s ≤ 255) (_ho : o ≤ 255) (w : World) (hT : Tab7 w) : Calls Tryz.prog 7 #[.int .u16 a, .int .u16 b, .int .u8 s, .int .u8 o] w fun e w' => e = .returned (.bool true) ∧ Below w.heap.size w w' := by
  have key : ∀ k : Nat, k < 3 → ∀ p : Nat, p < 3 → ∀ e r : Bool, (k = p → r = true) → Sym [binE .rem (Lt 2) (.int .u8 3) (.int .u8 k), binE .rem (Lt 3) (.int .u8 3) (.int .u8 p), cvE 35 3 (Lt 0) (Lt 4), binE .add (.int .i64 1) (Lt 4) (Lt 5), cvE 35 3 (Lt 1) (Lt 6), binE .add (.int .i64 1) (Lt 6) (Lt 7),
        binT .eql 9 9 (Lt 8) (Lt 9) (.bool e), binE .eql (Lt 5) (Lt 7) (.bool e), binE .eql (Lt 5) (Lt 5) (.bool true)]
      [(9, fixP (.bool true)), (12, patP [([.int .i64 k, Lt 5], Lt 8), ([.int .i64 k, Lt 7], Lt 9)]), (13, patP [([.int .i64 p, Lt 8, .int .i64 (70000 : Nat)], bif r then .tuple ⟨[Lt 5, .bool true]⟩ else .tuple ⟨[.int .i64 0, .bool false]⟩)])]
      60 7 [Lt 0, Lt 1, Lt 2, Lt 3] (.bool true) := by
    intro k hk p hp e r hr
    have e1 : k = 0 ∨ k = 1 ∨ k = 2 := by omega
    have e2 : p = 0 ∨ p = 1 ∨ p = 2 := by omega
    clear hk hp
    rcases e1 with rfl | rfl | rfl <;> rcases e2 with rfl | rfl | rfl <;> cases r <;> first | exact absurd (hr rfl) (by decide) | (clear hr; cases e <;> (delta Sym; show _ = _; kernel_rfl))
  have hk : s % 3 < 3 := Nat.mod_lt _ (by omega)
  have hp : o % 3 < 3 := Nat.mod_lt _ (by omega)
  let L : List Value := [.int .u16 a, .int .u16 b, .int .u8 s, .int .u8 o, .int .i64 a, .int .i64 (1 + a : Nat), .int .i64 b, .int .i64 (1 + b : Nat), .string ⟨⟨Plu.ord (s % 3) (1 + a)⟩⟩, .string ⟨⟨Plu.ord (s % 3) (1 + b)⟩⟩]
  let _ : Ltr := ltrL L
  have he : decide (Plu.ord (s % 3) (1 + a) = Plu.ord (s % 3) (1 + b)) = decide (1 + a = 1 + b) := decide_eq_decide.2 ⟨Plu.ord_inj, fun h => by rw [h]⟩
  refine symJ 60 (ac (binE_num (is_ltr rfl) (is_flat rfl) (x_rem8 (m := 3) (by omega)) (to_flat rfl)) (ac (binE_num (is_ltr rfl) (is_flat rfl) (x_rem8 (m := 3) (by omega)) (to_flat rfl)) (ac (cv_u16 ha rfl rfl) (ac (binE_num (is_flat rfl) (is_ltr rfl) (x_add (n := 1) (by omega)) (to_ltr rfl rfl)) (ac (cv_u16 hb rfl rfl) (ac (binE_num (is_flat rfl) (is_ltr rfl) (x_add (n := 1) (by omega)) (to_ltr rfl rfl))
      (ac (s_eq2 rfl rfl he) (ac (binE_num (is_ltr rfl) (is_ltr rfl) (x_eq rfl) (to_flat rfl)) (ac (binE_num (is_ltr rfl) (is_ltr rfl) (x_eq (decide_eq_true rfl)) (to_flat rfl)) an)))))))))
    (ac (fixP_ok rfl fun w' k => awk7 w' (hT.t.keep k)) (ac (patP_ok (ac (pat_two rfl rfl rfl fun w' k => ord_any (s % 3) (1 + a) hk (by omega) w' (hT.p.keep k)) (ac (pat_two rfl rfl rfl fun w' k => ord_any (s % 3) (1 + b) hk (by omega) w' (hT.p.keep k)) an))) (ac (patP_ok (ac (pat_threeN rfl (q := rdv (o % 3) (1 + a) 70000 (Plu.ord (s % 3) (1 + a))) ?_ fun w' k => ?_) an)) an)))
    (.cons (.ltr rfl rfl) (.cons (.ltr rfl rfl) (.cons (.ltr rfl rfl) (.cons (.ltr rfl rfl) .nil)))) rfl (key (s % 3) hk (o % 3) hp _ (decide (Plu.ord (o % 3) (1 + a) = Plu.ord (s % 3) (1 + a))) fun h => decide_eq_true (by rw [h]))
  · intro E
    unfold rdv
    have h1 : ¬ 1 + a < 1 := by omega
    have h2 : ¬ 70000 < 1 + a := by omega
    by_cases h : Plu.ord (o % 3) (1 + a) = Plu.ord (s % 3) (1 + a)
    · simp only [h1, h2, h, decide_false, decide_true, Bool.or_self, ne_eq, not_true_eq_false, cond_false, cond_true]
      exact .tuple (.cons (.ltr rfl rfl) (.cons (.same rfl) .nil))
    · simp only [h1, h2, h, decide_false, decide_true, Bool.or_true, Bool.or_self, ne_eq, not_false_eq_true, cond_false, cond_true]
      exact fl3_rel rfl
  · exact read_ok (o % 3) (Plu.ord (s % 3) (1 + a)) (1 + a) 70000 hp (ord_len' _ _ (by omega)) (by rw [Plu.take_ord]; exact Plu.atoi_dd _ (by omega)) (by omega) w' (hT.p.keep k)
end Go.Proofs.YtcplkbflpopoaaaGreatDoor
