/-
  The law PluralJoins, where the texts together are no longer than 1048576: every call of it returns true, from a world that holds the tables.
-/
import Derived.Test.YtcplkbflpopoaaaGreatDoorBs7
import Derived.Test.YtcplkbflpopoaaaGreatDoorPj1
import Derived.Test.YtcplkbflpopoaaaGreatDoorKPluralApart
namespace Go.Proofs.YtcplkbflpopoaaaGreatDoor
open Go Go.RowKit
/-- texts' lengths together -/
def flen : List (List UInt8) → Nat
  | [] => 0
  | x :: r => x.length + flen r
theorem tail_len (sep : List UInt8) : ∀ r : List (List UInt8), (Lib.joinTail sep r).length = flen r + r.length * sep.length
  | [] => by simp [Lib.joinTail, flen]
  | x :: r => by
    have ih := tail_len sep r
    simp only [Lib.joinTail, List.map_cons, List.flatten_cons, List.length_append, List.length_cons, flen] at ih ⊢
    rw [ih, Nat.add_mul]
    omega
theorem join_le (L : List (List UInt8)) (sep : List UInt8) : (Lib.join L sep).length ≤ flen L + L.length * sep.length := by
  cases L with
  | nil => simp [Lib.join_nil]
  | cons x r =>
    rw [Lib.join_cons, List.length_append, tail_len, List.length_cons, flen, Nat.add_mul]
    omega
theorem flen_le : ∀ (L : List (List UInt8)), flen L ≤ (Lib.join L []).length
  | [] => by simp [flen]
  | x :: r => by rw [Lib.join_cons, List.length_append, tail_len]; simp [flen]
theorem flen_take : ∀ (L : List (List UInt8)) (k : Nat), flen (L.take k) ≤ flen L
  | [], k => by simp [flen]
  | x :: r, 0 => by simp [flen]
  | x :: r, k + 1 => by have := flen_take r k; simp only [List.take_succ_cons, flen]; omega
theorem flen_at : ∀ (L : List (List UInt8)) (k : Nat), (L.getD k []).length ≤ flen L
  | [], k => by simp [flen]
  | x :: r, 0 => by simp [flen]
  | x :: r, k + 1 => by have := flen_at r k; simp only [List.getD_cons_succ, flen]; omega
theorem one_sep {L : List (List UInt8)} (h : L.length < 2) (s t : List UInt8) : Lib.join L s = Lib.join L t := by
  match L, h with
  | [], _ => rfl
  | [x], _ => rw [Lib.join_one, Lib.join_one]
theorem pat_jn [Ltr] {X : Kep} {i j n c : Nat} {A : Option Addr} {L : List (List UInt8)} {s : List UInt8} (hi : Ltr.v i = some (.slice A n c)) (hn : L.length = n) (hj : Ltr.v j = some (.string ⟨⟨Lib.join L s⟩⟩)) (hL : ∀ w : World, (∀ b, X b → w.heap[b]? = X.ob b) → StrsIn w A L) (hc : L.length ≤ c) (hm : L.length ≤ 1048576) (hl : (Lib.join L s).length ≤ 140737488355328) :
    ∀ (E : Ren) (w : World) (args' : List Value), (∀ b, X b → w.heap[b]? = X.ob b) → RelL E [Lt i, .string ⟨⟨s⟩⟩] args' → Calls Tryz.prog 16 ⟨args'⟩ w fun e w' => ∃ v', e = .returned v' ∧ Rel E (Lt j) v' ∧ Below w.heap.size w w' := fun E w args' k ha => by
  subst hn
  cases ha with
  | cons r1 t1 =>
    cases t1 with
    | cons r2 t2 =>
      cases t2
      rw [is_ltr hi E _ r1, is_flat rfl E _ r2]
      exact (join_any A L c s w (hL w k) hc hm hl).mono fun e w' p => ⟨_, p.1, .ltr hj rfl, p.2⟩
theorem pat_2L [Ltr] {X : Kep} {f : FuncId} {i j k : Nat} {u v q : Value} (hi : Ltr.v i = some u) (hj : Ltr.v j = some v) (hk : Ltr.v k = some q) (hq : sgl q = true) (h : ∀ w : World, (∀ b, X b → w.heap[b]? = X.ob b) → Calls Tryz.prog f #[u, v] w fun e w' => e = .returned q ∧ Below w.heap.size w w') :
    ∀ (E : Ren) (w : World) (args' : List Value), (∀ b, X b → w.heap[b]? = X.ob b) → RelL E [Lt i, Lt j] args' → Calls Tryz.prog f ⟨args'⟩ w fun e w' => ∃ v', e = .returned v' ∧ Rel E (Lt k) v' ∧ Below w.heap.size w w' := fun E w args' kk ha => by
  cases ha with
  | cons r1 t1 =>
    cases t1 with
    | cons r2 t2 =>
      cases t2
      rw [is_ltr hi E _ r1, is_ltr hj E _ r2]
      exact (h w kk).mono fun e w' p => ⟨_, p.1, .ltr hk hq, p.2⟩
theorem pluralJoins_walk (A : Option Addr) (L : List (List UInt8)) (c : Nat) (a : List UInt8) (hc : L.length ≤ c) (hm : L.length ≤ 1048576) (hf : flen L ≤ 1048576) (w : World) (hL : StrsIn w A L) (hT : Tab7 w) : Calls Tryz.prog 6 #[.slice A L.length c, .string ⟨⟨a⟩⟩] w fun e w' => e = .returned (.bool true) ∧ Below w.heap.size w w' := by
  have j0 := join_le L []
  have j2 := join_le L [44, 32]
  have jt := join_le (L.take (L.length - 1)) [44, 32]
  have ft := flen_take L (L.length - 1)
  have fz := flen_at L (L.length - 1)
  have lt : (L.take (L.length - 1)).length ≤ L.length := by simp
  simp only [List.length_cons, List.length_nil] at j0 j2 jt
  have aw : ∀ [Ltr], PEOk Tryz.prog (kep w) 64 (9, fixP (.bool true)) := fixP_ok rfl fun w' k => awk7 w' (hT.t.keep k)
  by_cases g1 : 20 < L.length
  · let M : List Value := [.slice A L.length c, .string ⟨⟨a⟩⟩, .int .i64 L.length]
    let _ : Ltr := ltrL M
    exact symJ 60 (O := [lenE 41 (Lt 0) (Lt 2), binE .gtr (Lt 2) (.int .i64 20) (.bool true)]) (l := [(9, fixP (.bool true))]) (args := [Lt 0, Lt 1]) (ac (l_sl rfl rfl) (ac (binE_num (is_ltr rfl) (is_flat rfl) (x_gt (m := 20) (decide_eq_true g1)) (to_flat rfl)) an)) (ac aw an) (.cons (.ltr rfl rfl) (.cons (.ltr rfl rfl) .nil)) rfl (by delta Sym; show _ = _; kernel_rfl)
  by_cases g23 : 500 < (Lib.join L []).length ∨ 50 < a.length
  · let M : List Value := [.slice A L.length c, .string ⟨⟨a⟩⟩, .int .i64 L.length, .string ⟨⟨Lib.join L []⟩⟩, .int .i64 (Lib.join L []).length, .int .i64 a.length]
    let _ : Ltr := ltrL M
    have key : ∀ p q : Bool, (p || q) = true → Sym [lenE 41 (Lt 0) (Lt 2), binE .gtr (Lt 2) (.int .i64 20) (.bool false), lenE 9 (Lt 3) (Lt 4), binE .gtr (Lt 4) (.int .i64 500) (.bool p), lenE 9 (Lt 1) (Lt 5), binE .gtr (Lt 5) (.int .i64 50) (.bool q)] [(9, fixP (.bool true)), (16, patP [([Lt 0, .string ⟨⟨[]⟩⟩], Lt 3)])] 60 6 [Lt 0, Lt 1] (.bool true) := by
      intro p q h
      cases p with
      | true => clear h; delta Sym; show _ = _; kernel_rfl
      | false =>
        cases q with
        | true => clear h; delta Sym; show _ = _; kernel_rfl
        | false => cases h
    exact symJ 60 (ac (l_sl rfl rfl) (ac (binE_num (is_ltr rfl) (is_flat rfl) (x_gt (m := 20) (decide_eq_false g1)) (to_flat rfl)) (ac (l_str rfl rfl) (ac (binE_num (is_ltr rfl) (is_flat rfl) (x_gt (m := 500) rfl) (to_flat rfl)) (ac (l_str rfl rfl) (ac (binE_num (is_ltr rfl) (is_flat rfl) (x_gt (m := 50) rfl) (to_flat rfl)) an))))))
      (ac aw (ac (patP_ok (ac (pat_jn rfl rfl rfl (fun w' k => hL.keep k) hc hm (by omega)) an)) an)) (.cons (.ltr rfl rfl) (.cons (.ltr rfl rfl) .nil)) rfl (key (decide (500 < (Lib.join L []).length)) (decide (50 < a.length)) (by rcases g23 with h | h <;> simp [h]))
  · have g2 : ¬ 500 < (Lib.join L []).length := fun h => g23 (.inl h)
    have g3 : ¬ 50 < a.length := fun h => g23 (.inr h)
    have hfl := flen_le L
    have pj : ∀ w' : World, (∀ b, (kep w) b → w'.heap[b]? = (kep w).ob b) → Calls Tryz.prog 17 #[.slice A L.length c, .string ⟨⟨a⟩⟩] w' fun e w2 => e = .returned (.string ⟨⟨pjoin L a⟩⟩) ∧ Below w'.heap.size w' w2 := fun w' k => pjoin_any A L c a w' (hL.keep k) hc (by omega) (by omega) (by omega) (by omega) (by omega)
    by_cases g4 : 1 < L.length
    · obtain ⟨b, o, rfl, -⟩ := hL 0 (by omega)
      let T := L.take (L.length - 1)
      have hTl : T.length = L.length - 1 := by simp [T]
      let J := Lib.join T [44, 32]
      let z := L.getD (L.length - 1) []
      have hJ : J.length ≤ 100000 := by show (Lib.join (L.take (L.length - 1)) [44, 32]).length ≤ _; omega
      have hz4 : z.length ≤ 100000 := by show (L.getD (L.length - 1) []).length ≤ _; omega
      have hz : L[L.length - 1]'(by omega) = z := by simp [z, List.getElem?_eq_getElem (show L.length - 1 < L.length by omega)]
      let M : List Value := [.slice (some ⟨b, o, none⟩) L.length c, .string ⟨⟨a⟩⟩, .int .i64 L.length, .string ⟨⟨Lib.join L []⟩⟩, .int .i64 (Lib.join L []).length, .int .i64 a.length, .string ⟨⟨Lib.join L [44, 32]⟩⟩, .string ⟨⟨pjoin L a⟩⟩, .int .i64 (L.length - 1 : Nat), .slice (some ⟨b, o, none⟩) (L.length - 1) c, .string ⟨⟨J⟩⟩, .string ⟨⟨J ++ [32]⟩⟩, .string ⟨⟨J ++ [32] ++ a⟩⟩, .string ⟨⟨J ++ [32] ++ a ++ [32]⟩⟩, .pointer (some ((⟨b, o, none⟩ : Addr).add (L.length - 1))), .string ⟨⟨z⟩⟩, .string ⟨⟨J ++ [32] ++ a ++ [32] ++ z⟩⟩]
      let _ : Ltr := ltrL M
      have hTs : ∀ w' : World, (∀ b, (kep w) b → w'.heap[b]? = (kep w).ob b) → StrsIn w' (some ⟨b, o, none⟩) T := fun w' k i hi => by
        obtain ⟨b', o', e', hc'⟩ := hL.keep k i (by omega)
        exact ⟨b', o', e', by rw [hc']; simp [T]⟩
      have cell : ∀ w' : World, (∀ b, (kep w) b → w'.heap[b]? = (kep w).ob b) → w'.cell? ((⟨b, o, none⟩ : Addr).add (L.length - 1)) = some (.string ⟨⟨z⟩⟩) := fun w' k => by
        obtain ⟨b', o', e', hc'⟩ := hL.keep k (L.length - 1) (by omega)
        obtain ⟨rfl, rfl, -⟩ := Addr.mk.inj (Option.some.inj e')
        rw [hz] at hc'
        rw [show ((⟨b, o, none⟩ : Addr).add (L.length - 1)) = ⟨b, o + (L.length - 1), none⟩ from Lib.add_plain b o _]
        exact hc'
      have hpj : pjoin L a = J ++ [32] ++ a ++ [32] ++ z := by unfold pjoin; rw [if_neg (by omega)]
      refine (symX (O := [lenE 41 (Lt 0) (Lt 2), binE .gtr (Lt 2) (.int .i64 20) (.bool false), lenE 9 (Lt 3) (Lt 4), binE .gtr (Lt 4) (.int .i64 500) (.bool false), lenE 9 (Lt 1) (Lt 5), binE .gtr (Lt 5) (.int .i64 50) (.bool false), binE .gtr (Lt 2) (.int .i64 1) (.bool true), binE .sub (Lt 2) (.int .i64 1) (Lt 8), cutE 41 (Lt 0) (Lt 8) (Lt 9), binT .add 9 9 (Lt 10) (.string ⟨⟨[32]⟩⟩) (Lt 11), binT .add 9 9 (Lt 11) (Lt 1) (Lt 12), binT .add 9 9 (Lt 12) (.string ⟨⟨[32]⟩⟩) (Lt 13), iaE 41 (Lt 0) (Lt 8) (Lt 14), ldE 9 (Lt 14) (Lt 15), binT .add 9 9 (Lt 13) (Lt 15) (Lt 16), binT .eql 9 9 (Lt 7) (Lt 16) (.bool true)])
        (l := [(9, fixP (.bool true)), (16, patP [([Lt 0, .string ⟨⟨[]⟩⟩], Lt 3), ([Lt 0, .string ⟨⟨[44, 32]⟩⟩], Lt 6), ([Lt 9, .string ⟨⟨[44, 32]⟩⟩], Lt 10)]), (17, patP [([Lt 0, Lt 1], Lt 7)])]) (args := [Lt 0, Lt 1]) (v := .bool true) (n := 60)
        (ac (l_sl rfl rfl).x (ac (binE_num (is_ltr rfl) (is_flat rfl) (x_gt (m := 20) (decide_eq_false g1)) (to_flat rfl)).x (ac (l_str rfl rfl).x (ac (binE_num (is_ltr rfl) (is_flat rfl) (x_gt (m := 500) (decide_eq_false g2)) (to_flat rfl)).x (ac (l_str rfl rfl).x (ac (binE_num (is_ltr rfl) (is_flat rfl) (x_gt (m := 50) (decide_eq_false g3)) (to_flat rfl)).x (ac (binE_num (is_ltr rfl) (is_flat rfl) (x_gt (m := 1) (decide_eq_true g4)) (to_flat rfl)).x (ac (binE_num (is_ltr rfl) (is_flat rfl) (x_sub (m := 1) (by omega) (by omega)) (to_ltr rfl rfl)).x (ac (s_cut rfl rfl rfl (by omega) (by omega)).x (ac (s_add (is_ltr rfl) (is_flat rfl) rfl rfl (by simp; omega)).x (ac (s_add (is_ltr rfl) (is_ltr rfl) rfl rfl (by simp; omega)).x (ac (s_add (is_ltr rfl) (is_flat rfl) rfl rfl (by simp; omega)).x (ac (a_el rfl rfl rfl (by omega)).x (ac (l_el rfl rfl cell) (ac (s_add (is_ltr rfl) (is_ltr rfl) rfl rfl (by simp; omega)).x (ac (s_eq2 rfl rfl (decide_eq_true hpj)).x an))))))))))))))))
        (ac aw (ac (patP_ok (ac (pat_jn rfl rfl rfl (fun w' k => hL.keep k) hc hm (by omega)) (ac (pat_jn rfl rfl rfl (fun w' k => hL.keep k) hc hm (by omega)) (ac (pat_jn rfl hTl rfl hTs (by omega) (by omega) (Nat.le_trans hJ (by omega))) an)))) (ac (patP_ok (ac (pat_2L rfl rfl rfl rfl pj) an)) an)))
        (.cons (.ltr rfl rfl) (.cons (.ltr rfl rfl) .nil)) (by delta Sym; show _ = _; kernel_rfl)).mono fun e w' p => ?_
      obtain ⟨v', F, rfl, r, bl⟩ := p
      rw [r.bool]
      exact ⟨rfl, bl⟩
    · let M : List Value := [.slice A L.length c, .string ⟨⟨a⟩⟩, .int .i64 L.length, .string ⟨⟨Lib.join L []⟩⟩, .int .i64 (Lib.join L []).length, .int .i64 a.length, .string ⟨⟨Lib.join L [44, 32]⟩⟩, .string ⟨⟨pjoin L a⟩⟩]
      let _ : Ltr := ltrL M
      have hpj : pjoin L a = Lib.join L [44, 32] := by unfold pjoin; rw [if_pos (by omega)]; exact one_sep (by omega) _ _
      exact symJ 60 (O := [lenE 41 (Lt 0) (Lt 2), binE .gtr (Lt 2) (.int .i64 20) (.bool false), lenE 9 (Lt 3) (Lt 4), binE .gtr (Lt 4) (.int .i64 500) (.bool false), lenE 9 (Lt 1) (Lt 5), binE .gtr (Lt 5) (.int .i64 50) (.bool false), binE .gtr (Lt 2) (.int .i64 1) (.bool false), binT .eql 9 9 (Lt 7) (Lt 6) (.bool true)])
        (l := [(9, fixP (.bool true)), (16, patP [([Lt 0, .string ⟨⟨[]⟩⟩], Lt 3), ([Lt 0, .string ⟨⟨[44, 32]⟩⟩], Lt 6)]), (17, patP [([Lt 0, Lt 1], Lt 7)])]) (args := [Lt 0, Lt 1])
        (ac (l_sl rfl rfl) (ac (binE_num (is_ltr rfl) (is_flat rfl) (x_gt (m := 20) (decide_eq_false g1)) (to_flat rfl)) (ac (l_str rfl rfl) (ac (binE_num (is_ltr rfl) (is_flat rfl) (x_gt (m := 500) (decide_eq_false g2)) (to_flat rfl)) (ac (l_str rfl rfl) (ac (binE_num (is_ltr rfl) (is_flat rfl) (x_gt (m := 50) (decide_eq_false g3)) (to_flat rfl)) (ac (binE_num (is_ltr rfl) (is_flat rfl) (x_gt (m := 1) (decide_eq_false g4)) (to_flat rfl)) (ac (s_eq2 rfl rfl (decide_eq_true hpj)) an))))))))
        (ac aw (ac (patP_ok (ac (pat_jn rfl rfl rfl (fun w' k => hL.keep k) hc hm (by omega)) (ac (pat_jn rfl rfl rfl (fun w' k => hL.keep k) hc hm (by omega)) an))) (ac (patP_ok (ac (pat_2L rfl rfl rfl rfl pj) an)) an)))
        (.cons (.ltr rfl rfl) (.cons (.ltr rfl rfl) .nil)) rfl (by delta Sym; show _ = _; kernel_rfl)
end Go.Proofs.YtcplkbflpopoaaaGreatDoor
