/-
  The law PluralOrdinals: every call of it returns true, from a world that holds the tables.
-/
import Derived.Test.YtcplkbflpopoaaaGreatDoorBs7
import Derived.Test.YtcplkbflpopoaaaGreatDoorCv
import Derived.Test.YtcplkbflpopoaaaGreatDoorPu4
namespace Go.Proofs.YtcplkbflpopoaaaGreatDoor
open Go Go.RowKit
theorem rdv_ord (s v most : Nat) (hv : 1 ≤ v) : rdv s v most (Plu.ord s v) = (bif decide (v ≤ most) then .tuple ⟨[.int .i64 v, .bool true]⟩ else .tuple ⟨[.int .i64 0, .bool false]⟩) := by
  unfold rdv
  by_cases h : v ≤ most
  · have h1 : ¬ v < 1 := by omega
    have h2 : ¬ most < v := by omega
    simp [h, h1, h2]
  · have h2 : most < v := by omega
    simp [h, h2]
theorem ord_len (s n : Nat) (h : n ≤ 9223372036854775807) : (Plu.ord s n).length ≤ 1000 := by
  have := dd_len n h
  have := Plu.endg_len s n
  unfold Plu.ord
  rw [List.length_append]
  omega
theorem pluralOrdinals_walk (n q k : Nat) (hn : n ≤ 4294967295) (hq : q ≤ 4294967295) (hk : k ≤ 255) (w : World) (hT : Tab7 w) : Calls Tryz.prog 4 #[.int .u32 n, .int .u32 q, .int .u8 k] w fun e w' => e = .returned (.bool true) ∧ Below w.heap.size w w' := by
  have key : ∀ a b : Bool, Sym [cvE 22 3 (Lt 0) (Lt 3), binE .add (.int .i64 1) (Lt 3) (Lt 4), cvE 5 3 (Lt 2) (Lt 5), binE .add (.int .i64 1) (Lt 5) (Lt 6), cvE 22 3 (Lt 1) (Lt 7), binE .leq (Lt 4) (Lt 7) (.bool a), binE .leq (Lt 6) (Lt 7) (.bool b), binE .neq (Lt 4) (Lt 4) (.bool false), binE .neq (Lt 6) (Lt 6) (.bool false), binT .neq 9 9 (Lt 8) (Lt 8) (.bool false), binT .neq 9 9 (Lt 9) (Lt 9) (.bool false), binT .neq 9 9 (Lt 10) (Lt 10) (.bool false), binT .neq 9 9 (Lt 11) (Lt 11) (.bool false), binT .neq 9 9 (Lt 12) (Lt 12) (.bool false), binT .neq 9 9 (Lt 13) (Lt 13) (.bool false)]
      [(9, fixP (.bool true)), (12, patP [([.int .i64 (0 : Nat), Lt 4], Lt 8), ([.int .i64 (1 : Nat), Lt 4], Lt 9), ([.int .i64 (2 : Nat), Lt 4], Lt 10), ([.int .i64 (0 : Nat), Lt 6], Lt 11), ([.int .i64 (1 : Nat), Lt 6], Lt 12), ([.int .i64 (2 : Nat), Lt 6], Lt 13)]), (14, patP [([.int .i64 (0 : Nat), Lt 4], Lt 8), ([.int .i64 (1 : Nat), Lt 4], Lt 9), ([.int .i64 (2 : Nat), Lt 4], Lt 10), ([.int .i64 (0 : Nat), Lt 6], Lt 11), ([.int .i64 (1 : Nat), Lt 6], Lt 12), ([.int .i64 (2 : Nat), Lt 6], Lt 13)]),
        (13, patP [([.int .i64 (0 : Nat), Lt 8, Lt 7], bif a then .tuple ⟨[Lt 4, .bool true]⟩ else .tuple ⟨[.int .i64 0, .bool false]⟩), ([.int .i64 (1 : Nat), Lt 9, Lt 7], bif a then .tuple ⟨[Lt 4, .bool true]⟩ else .tuple ⟨[.int .i64 0, .bool false]⟩), ([.int .i64 (2 : Nat), Lt 10, Lt 7], bif a then .tuple ⟨[Lt 4, .bool true]⟩ else .tuple ⟨[.int .i64 0, .bool false]⟩), ([.int .i64 (0 : Nat), Lt 11, Lt 7], bif b then .tuple ⟨[Lt 6, .bool true]⟩ else .tuple ⟨[.int .i64 0, .bool false]⟩), ([.int .i64 (1 : Nat), Lt 12, Lt 7], bif b then .tuple ⟨[Lt 6, .bool true]⟩ else .tuple ⟨[.int .i64 0, .bool false]⟩), ([.int .i64 (2 : Nat), Lt 13, Lt 7], bif b then .tuple ⟨[Lt 6, .bool true]⟩ else .tuple ⟨[.int .i64 0, .bool false]⟩)])] 80 4 [Lt 0, Lt 1, Lt 2] (.bool true) := by
    intro a b; cases a <;> cases b <;> (delta Sym; show _ = _; kernel_rfl)
  let L : List Value := [.int .u32 n, .int .u32 q, .int .u8 k, .int .i64 n, .int .i64 (1 + n : Nat), .int .i64 k, .int .i64 (1 + k : Nat), .int .i64 q, .string ⟨⟨Plu.ord 0 (1 + n)⟩⟩, .string ⟨⟨Plu.ord 1 (1 + n)⟩⟩, .string ⟨⟨Plu.ord 2 (1 + n)⟩⟩, .string ⟨⟨Plu.ord 0 (1 + k)⟩⟩, .string ⟨⟨Plu.ord 1 (1 + k)⟩⟩, .string ⟨⟨Plu.ord 2 (1 + k)⟩⟩]
  let _ : Ltr := ltrL L
  refine symJ 80 (ac (cv_u32 hn rfl rfl) (ac (binE_num (is_flat rfl) (is_ltr rfl) (x_add (n := 1) (by omega)) (to_ltr rfl rfl)) (ac (cv_u8 hk rfl rfl) (ac (binE_num (is_flat rfl) (is_ltr rfl) (x_add (n := 1) (by omega)) (to_ltr rfl rfl)) (ac (cv_u32 hq rfl rfl) (ac (binE_num (is_ltr rfl) (is_ltr rfl) (x_le rfl) (to_flat rfl)) (ac (binE_num (is_ltr rfl) (is_ltr rfl) (x_le rfl) (to_flat rfl)) (ac (n_same rfl) (ac (n_same rfl) (ac (s_same rfl) (ac (s_same rfl) (ac (s_same rfl) (ac (s_same rfl) (ac (s_same rfl) (ac (s_same rfl) an)))))))))))))))
    (ac (fixP_ok rfl fun w' k => awk7 w' (hT.t.keep k)) (ac (patP_ok ?_) (ac (patP_ok ?_) (ac (patP_ok ?_) an)))) (.cons (.ltr rfl rfl) (.cons (.ltr rfl rfl) (.cons (.ltr rfl rfl) .nil))) rfl (key (decide (1 + n ≤ q)) (decide (1 + k ≤ q)))
  · have h : ∀ c x : Nat, c < 3 → x ≤ 4294967296 → ∀ w' : World, (∀ b, (kep w) b → w'.heap[b]? = (kep w).ob b) → Calls Tryz.prog 12 #[.int .i64 c, .int .i64 x] w' fun e w2 => e = .returned (.string ⟨⟨Plu.ord c x⟩⟩) ∧ Below w'.heap.size w' w2 := fun c x hc hx w' k => ord_any c x hc (by omega) w' (hT.p.keep k)
    exact ac (pat_two rfl rfl rfl (h 0 (1 + n) (by omega) (by omega))) (ac (pat_two rfl rfl rfl (h 1 (1 + n) (by omega) (by omega))) (ac (pat_two rfl rfl rfl (h 2 (1 + n) (by omega) (by omega))) (ac (pat_two rfl rfl rfl (h 0 (1 + k) (by omega) (by omega))) (ac (pat_two rfl rfl rfl (h 1 (1 + k) (by omega) (by omega))) (ac (pat_two rfl rfl rfl (h 2 (1 + k) (by omega) (by omega))) an)))))
  · have h : ∀ c x : Nat, c < 3 → x ≤ 4294967296 → ∀ w' : World, (∀ b, (kep w) b → w'.heap[b]? = (kep w).ob b) → Calls Tryz.prog 14 #[.int .i64 c, .int .i64 x] w' fun e w2 => e = .returned (.string ⟨⟨Plu.ord c x⟩⟩) ∧ Below w'.heap.size w' w2 := fun c x hc hx w' k => lord_any c x hc (by omega) w' (hT.p.keep k)
    exact ac (pat_two rfl rfl rfl (h 0 (1 + n) (by omega) (by omega))) (ac (pat_two rfl rfl rfl (h 1 (1 + n) (by omega) (by omega))) (ac (pat_two rfl rfl rfl (h 2 (1 + n) (by omega) (by omega))) (ac (pat_two rfl rfl rfl (h 0 (1 + k) (by omega) (by omega))) (ac (pat_two rfl rfl rfl (h 1 (1 + k) (by omega) (by omega))) (ac (pat_two rfl rfl rfl (h 2 (1 + k) (by omega) (by omega))) an)))))
  · have h : ∀ c x : Nat, c < 3 → x ≤ 4294967296 → 1 ≤ x → ∀ w' : World, (∀ b, (kep w) b → w'.heap[b]? = (kep w).ob b) → Calls Tryz.prog 13 #[.int .i64 c, .string ⟨⟨Plu.ord c x⟩⟩, .int .i64 q] w' fun e w2 => e = .returned (bif decide (x ≤ q) then .tuple ⟨[.int .i64 x, .bool true]⟩ else .tuple ⟨[.int .i64 0, .bool false]⟩) ∧ Below w'.heap.size w' w2 := fun c x hc hx h1 w' k => by
      rw [← rdv_ord c x q h1]
      exact read_ok c (Plu.ord c x) x q hc (ord_len c x (by omega)) (by rw [Plu.take_ord]; exact Plu.atoi_dd x (by omega)) (by omega) w' (hT.p.keep k)
    have g : ∀ (i x : Nat), Ltr.v i = some (.int .i64 x) → ∀ E : Ren, Rel E (bif decide (x ≤ q) then .tuple ⟨[Lt i, .bool true]⟩ else .tuple ⟨[.int .i64 0, .bool false]⟩) (bif decide (x ≤ q) then .tuple ⟨[.int .i64 x, .bool true]⟩ else .tuple ⟨[.int .i64 0, .bool false]⟩) := fun i x hi E => by
      cases decide (x ≤ q)
      · exact fl3_rel rfl
      · exact .tuple (.cons (.ltr hi rfl) (.cons (.same rfl) .nil))
    exact ac (pat_three rfl rfl (g 4 (1 + n) rfl) (h 0 (1 + n) (by omega) (by omega) (by omega))) (ac (pat_three rfl rfl (g 4 (1 + n) rfl) (h 1 (1 + n) (by omega) (by omega) (by omega))) (ac (pat_three rfl rfl (g 4 (1 + n) rfl) (h 2 (1 + n) (by omega) (by omega) (by omega))) (ac (pat_three rfl rfl (g 6 (1 + k) rfl) (h 0 (1 + k) (by omega) (by omega) (by omega))) (ac (pat_three rfl rfl (g 6 (1 + k) rfl) (h 1 (1 + k) (by omega) (by omega) (by omega))) (ac (pat_three rfl rfl (g 6 (1 + k) rfl) (h 2 (1 + k) (by omega) (by omega) (by omega))) an)))))
end Go.Proofs.YtcplkbflpopoaaaGreatDoor
