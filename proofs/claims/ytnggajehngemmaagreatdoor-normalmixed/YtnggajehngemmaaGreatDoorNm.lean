/-
  Tidy lists: by their members alone.
-/
import Derived.Test.YtnggajehngemmaaGreatDoorTs
import Derived.Test.YtnggajehngemmaaGreatDoorTi
import Derived.Test.YtnggajehngemmaaGreatDoorNc
import Derived.Test.YtnggajehngemmaaGreatDoorMd2
namespace Go.Proofs.YtnggajehngemmaaGreatDoor
open Go Go.RowKit
/-- two lists that rise, with the same members, are one -/
theorem up_eq {α : Type} {r : α → α → Prop} (irr : ∀ x, ¬ r x x) (asy : ∀ x y, r x y → ¬ r y x) : ∀ {A B : List α}, A.Pairwise r → B.Pairwise r → (∀ x, x ∈ A ↔ x ∈ B) → A = B
  | [], [], _, _, _ => rfl
  | [], b :: B, _, _, h => absurd ((h b).2 List.mem_cons_self) List.not_mem_nil
  | a :: A, [], _, _, h => absurd ((h a).1 List.mem_cons_self) List.not_mem_nil
  | a :: A, b :: B, ha, hb, h => by
    rw [List.pairwise_cons] at ha hb
    have e : a = b := by
      rcases List.mem_cons.1 ((h a).1 List.mem_cons_self) with e | h1
      · exact e
      · rcases List.mem_cons.1 ((h b).2 List.mem_cons_self) with e | h2
        · exact e.symm
        · exact absurd (hb.1 a h1) (asy _ _ (ha.1 b h2))
    subst e
    rw [up_eq irr asy ha.2 hb.2 fun x => ⟨fun hx => ?_, fun hx => ?_⟩]
    · rcases List.mem_cons.1 ((h x).1 (List.mem_cons_of_mem _ hx)) with e | h1
      · subst e; exact absurd (ha.1 x hx) (irr x)
      · exact h1
    · rcases List.mem_cons.1 ((h x).2 (List.mem_cons_of_mem _ hx)) with e | h1
      · subst e; exact absurd (hb.1 x hx) (irr x)
      · exact h1
theorem compact_has (d : Array Int) (m : Nat) : ∀ j, j < m → d[j]! ∈ Lib.compactUpTo d m
  | 0, h => List.mem_map.2 ⟨0, List.mem_filter.2 ⟨List.mem_range.2 h, by simp [Lib.keeps]⟩, rfl⟩
  | j + 1, h => by
    by_cases e : d[j + 1]! = d[j]!
    · rw [e]
      exact compact_has d m j (by omega)
    · exact List.mem_map.2 ⟨j + 1, List.mem_filter.2 ⟨List.mem_range.2 h, by simp [Lib.keeps, e]⟩, rfl⟩
theorem tidI_has {L : List Int} {x : Int} (h : x ∈ L) : x ∈ tidI L := by
  unfold tidI
  have h := (List.mergeSort_perm L fun x y => decide (x ≤ y)).mem_iff.2 h
  generalize L.mergeSort (fun x y => decide (x ≤ y)) = S at h ⊢
  obtain ⟨j, hj, rfl⟩ := List.mem_iff_getElem.1 h
  have := compact_has S.toArray S.length j hj
  rwa [getElem!_pos _ _ (by simpa using hj), List.getElem_toArray] at this
theorem tidI_up (L : List Int) : (tidI L).Pairwise fun x y => x < y := by
  unfold tidI
  refine (Mk.compact_up (L.mergeSort fun x y => decide (x ≤ y)).toArray ?_ _ (by simp)).1
  have := List.pairwise_mergeSort (le := fun x y : Int => decide (x ≤ y)) (by intro a b c h1 h2; simp at h1 h2 ⊢; omega) (by intro a b; simp; omega) L
  exact this.imp fun {a b} h => by simpa using h
theorem tidI_set {X L : List Int} (h : L.Pairwise fun x y => x < y) (hs : ∀ x, x ∈ X ↔ x ∈ L) : tidI X = L :=
  up_eq (fun x => by omega) (fun x y h => by omega) (tidI_up X) h fun x => ⟨fun hx => (hs x).1 (tidI_mem hx), fun hx => tidI_has ((hs x).2 hx)⟩
theorem cpt_mem {V : List (Int × Int)} : ∀ {n : Nat}, n ≤ V.length → ∀ x, x ∈ cpt V n ↔ ∃ j, j < n ∧ V.getD j (0, 0) = x
  | 0, _, x => ⟨fun h => (by cases h), fun ⟨j, hj, _⟩ => absurd hj (Nat.not_lt_zero j)⟩
  | n + 1, hn, x => by
    rw [cpt]
    split
    · rename_i hd
      rw [cpt_mem (by omega)]
      refine ⟨fun ⟨j, hj, e⟩ => ⟨j, by omega, e⟩, fun ⟨j, hj, e⟩ => ?_⟩
      by_cases hjn : j = n
      · subst hjn
        exact ⟨j - 1, by omega, by rw [← hd.2]; exact e⟩
      · exact ⟨j, by omega, e⟩
    · rw [List.mem_append, cpt_mem (by omega), List.mem_singleton]
      refine ⟨fun h => h.elim (fun ⟨j, hj, e⟩ => ⟨j, by omega, e⟩) fun e => ⟨n, by omega, e.symm⟩, fun ⟨j, hj, e⟩ => ?_⟩
      by_cases hjn : j = n
      · subst hjn; exact .inr e.symm
      · exact .inl ⟨j, by omega, e⟩
abbrev ltN (x y : Int × Int) : Prop := x.1 < y.1 ∨ (x.1 = y.1 ∧ x.2 < y.2)
theorem cpt_up {V : List (Int × Int)} (hV : V.Pairwise fun x y => ¬ ltN y x) : ∀ {n : Nat}, n ≤ V.length → (cpt V n).Pairwise ltN
  | 0, _ => List.Pairwise.nil
  | n + 1, hn => by
    rw [cpt]
    split
    · exact cpt_up hV (by omega)
    · rename_i hd
      rw [List.pairwise_append]
      refine ⟨cpt_up hV (by omega), List.pairwise_singleton _ _, fun a ha b hb => ?_⟩
      rw [List.mem_singleton.1 hb]
      obtain ⟨j, hj, rfl⟩ := (cpt_mem (by omega) a).1 ha
      have at' : ∀ i (hi : i < V.length), V.getD i (0, 0) = V[i] := fun i hi => by simp [hi]
      have hp := List.pairwise_iff_getElem.1 hV
      have h1 : ¬ ltN V[n] (V[n - 1]'(by omega)) := by
        by_cases h0 : n - 1 < n
        · exact hp (n - 1) n (by omega) (by omega) h0
        · omega
      have hne : V[n] ≠ V[n - 1]'(by omega) := fun e => hd ⟨by omega, by rw [at' n (by omega), at' (n - 1) (by omega)]; exact e⟩
      have h2 : ltN (V[n - 1]'(by omega)) V[n] := by
        unfold ltN at *
        have : ¬ (V[n].1 = (V[n - 1]'(by omega)).1 ∧ V[n].2 = (V[n - 1]'(by omega)).2) := fun e => hne (Prod.ext e.1 e.2)
        omega
      rw [at' j (by omega), at' n (by omega)]
      by_cases hjn : j = n - 1
      · subst hjn; exact h2
      · have h3 := hp j (n - 1) (by omega) (by omega) (by omega)
        unfold ltN at *
        omega
theorem srt_up (W : List (Int × Int)) : (W.mergeSort fun x y => !decide (Rul.cmpN y x < 0)).Pairwise fun x y => ¬ ltN y x := by
  have := List.pairwise_mergeSort (le := fun x y : Int × Int => !decide (Rul.cmpN y x < 0)) (by
    intro a b c h1 h2
    simp only [Bool.not_eq_true', decide_eq_false_iff_not, Rul.cmpN_neg] at h1 h2 ⊢
    omega) (by
    intro a b
    simp only [Bool.or_eq_true, Bool.not_eq_true', decide_eq_false_iff_not, Rul.cmpN_neg]
    omega) W
  refine this.imp fun {a b} h => ?_
  simpa only [Bool.not_eq_true', decide_eq_false_iff_not, Rul.cmpN_neg] using h
theorem tidN_set {X W : List (Int × Int)} (h : W.Pairwise ltN) (hs : ∀ x, x ∈ X ↔ x ∈ W) : tidN X = W := by
  have hm : ∀ x, x ∈ tidN X ↔ x ∈ X := fun x => by
    unfold tidN cptF
    rw [cpt_mem (Nat.le_refl _), ← (List.mergeSort_perm X fun x y => !decide (Rul.cmpN y x < 0)).mem_iff]
    generalize X.mergeSort (fun x y => !decide (Rul.cmpN y x < 0)) = S
    refine ⟨fun ⟨j, hj, e⟩ => ?_, fun hx => ?_⟩
    · rw [← e, show S.getD j (0, 0) = S[j] by simp [hj]]
      exact List.getElem_mem _
    · obtain ⟨j, hj, rfl⟩ := List.mem_iff_getElem.1 hx
      exact ⟨j, hj, by simp [hj]⟩
  exact up_eq (fun x => by unfold ltN; omega) (fun x y h => by unfold ltN at *; omega) (cpt_up (srt_up X) (Nat.le_refl _)) h fun x => (hm x).trans (hs x)
theorem tidN_id {W : List (Int × Int)} (h : W.Pairwise ltN) : tidN W = W := tidN_set h fun _ => Iff.rfl
end Go.Proofs.YtnggajehngemmaaGreatDoor
/-
  Weekdays as they lie in memory, at plain addresses; the library's Equal at them; rules' lists.
-/
namespace Go.Proofs.YtnggajehngemmaaGreatDoor
open Go.RowKit Go.Shelf Go.Lib
theorem neN : NeqAt Tryz.prog 51 (fun x => .agg (encN x).toArray) (fun x y => x.1 == y.1 && x.2 == y.2) := by
  refine ⟨fun x y w => ?_, GuardAt.agg _ (by kernel_rfl)⟩
  have u3 := Tryz.underlying3
  have a3 := Tryz.isAgg3
  have z3 := Tryz.sizeOf3
  have hS : Tryz.prog.underlying 51 = some (.struct (Tryz.prog.fieldsOf 51)) := by kernel_rfl
  have hp : Tryz.prog.stoodInHeld 51 = false := by kernel_rfl
  simp only [encN]
  rw [run_neq_struct, show (10000 : Nat) = 9999 + 1 from rfl, run_equalIn_agg w 9999 51 _ _ hS hp]
  simp only [Program.fieldsOf, Tryz.underlying51]
  go_simp
  by_cases h1 : x.fst = y.fst <;> by_cases h2 : x.snd = y.snd <;> simp [h1, h2]
theorem equalN_lens (A B : Option Addr) (n c m d : Nat) (w : World) (h : n ≠ m) : Calls Tryz.prog 30 #[.slice A n c, .slice B m d] w fun e w' => e = .returned (.bool false) ∧ w = w' := by
  have h' : ((n : Int) != (m : Int)) = true := by simp; omega
  go_enter Tryz.func30, Tryz.ntmps30
  go_wp2
  go_ret
  exact ⟨rfl, rfl⟩
theorem equalN_empty (A B : Option Addr) (c d : Nat) (w : World) : Calls Tryz.prog 30 #[.slice A 0 c, .slice B 0 d] w fun e w' => e = .returned (.bool true) ∧ w = w' := by
  go_enter Tryz.func30, Tryz.ntmps30
  go_wp2_with fail
  go_loop [13] (fun k => k = .int .i64 0) (fun _ => 0)
  case atStart => rfl
  case round =>
    subst hrel
    go_wp2
    go_ret
    exact ⟨rfl, rfl⟩
theorem allEq_beq : ∀ (L K : List (Int × Int)), Lib.allEq (fun x y => x.1 == y.1 && x.2 == y.2) L K = (L == K)
  | [], [] => rfl
  | [], _ :: _ => rfl
  | _ :: _, [] => rfl
  | x :: L, y :: K => by
    have := allEq_beq L K
    simp only [Lib.allEq, this]
    rfl
theorem eqN_any (A B : Option Addr) (c d : Nat) (L K : List (Int × Int)) (w : World) (hA : PlainN w A L) (hB : PlainN w B K) (lL : L.length ≤ maxLen) (lK : K.length ≤ maxLen) :
    Calls Tryz.prog 30 #[.slice A L.length c, .slice B K.length d] w fun e w' => ∃ v, e = .returned v ∧ v = .bool (L == K) ∧ Below w.heap.size w w' := by
  unfold maxLen at lL lK
  by_cases hn : L.length = K.length
  · by_cases h0 : L.length = 0
    · obtain rfl : L = [] := List.eq_nil_of_length_eq_zero h0
      obtain rfl : K = [] := List.eq_nil_of_length_eq_zero hn.symm
      refine (equalN_empty A B c d w).mono ?_
      rintro e w' ⟨rfl, rfl⟩
      exact ⟨_, rfl, rfl, Below.refl _ _⟩
    · rcases hA with ⟨-, rfl⟩ | ⟨b1, o1, rfl, -, hc1⟩
      · exact absurd rfl h0
      · rcases hB with ⟨-, rfl⟩ | ⟨b2, o2, rfl, -, hc2⟩
        · exact absurd hn h0
        · have cellN : ∀ (b o : Nat) (X : List (Int × Int)), (∀ j (h : j < X.length), w.cell? ⟨b, o + j * 2, none⟩ = some (.int .i64 X[j].1) ∧ w.cell? ⟨b, o + j * 2 + 1, none⟩ = some (.int .i64 X[j].2)) → ∀ j, j < X.length → ∀ i v, (encN X[j]!)[i]? = some v → w.cell? ⟨b, o + j * 2 + i, none⟩ = some v := by
            intro b o X hX j hj i v hv
            have ej : X[j]! = X[j] := getElem!_pos X j hj
            rw [ej] at hv
            match i with
            | 0 => obtain rfl : Value.int .i64 X[j].1 = v := by simpa [encN] using hv
                   exact (hX j hj).1
            | 1 => obtain rfl : Value.int .i64 X[j].2 = v := by simpa [encN] using hv
                   exact (hX j hj).2
            | i + 2 => simp [encN] at hv
          have hc := AnyQ.slices_Equal Tryz.equalN 2 Tryz.isAgg51 Tryz.sizeOf51 encN (fun _ => rfl) (fun x y => x.1 == y.1 && x.2 == y.2) neN b1 o1 L.length c b2 o2 K.length d L K w (Nat.le_refl _) (Nat.le_refl _) (by omega) (by omega) (cellN b1 o1 L hc1) (cellN b2 o2 K hc2)
          change Calls Tryz.prog 30 _ _ _ at hc
          rw [List.take_length, List.take_length, allEq_beq] at hc
          refine hc.mono ?_
          rintro e w' ⟨rfl, q, rfl⟩
          exact ⟨_, rfl, rfl, below_drewN' q⟩
  · refine (equalN_lens A B L.length c K.length d w hn).mono ?_
    rintro e w' ⟨rfl, rfl⟩
    refine ⟨_, rfl, ?_, Below.refl _ _⟩
    have : (L == K) = false := by
      rw [beq_eq_false_iff_ne]
      intro e
      exact hn (by rw [e])
    rw [this]
/-- a rule's lists, at plain addresses -/
structure PlainR (w : World) (A1 A2 A3 A4 : Option Addr) (M D : List Int) (K : List (Int × Int)) (P : List Int) : Prop where
  m : PlainI w A1 M
  d : PlainI w A2 D
  k : PlainN w A3 K
  p : PlainI w A4 P
  lm : M.length ≤ maxLen
  ld : D.length ≤ maxLen
  lk : K.length ≤ maxLen
  lp : P.length ≤ maxLen
theorem PlainR.below {w w' : World} {A1 A2 A3 A4 : Option Addr} {M D : List Int} {K : List (Int × Int)} {P : List Int} (h : PlainR w A1 A2 A3 A4 M D K P) (b : Below w.heap.size w w') : PlainR w' A1 A2 A3 A4 M D K P :=
  ⟨h.m.below b, h.d.below b, h.k.below b, h.p.below b, h.lm, h.ld, h.lk, h.lp⟩
theorem PlainR.lists {w : World} {A1 A2 A3 A4 : Option Addr} {M D : List Int} {K : List (Int × Int)} {P : List Int} (h : PlainR w A1 A2 A3 A4 M D K P) : ListsIn w A1 A2 A3 A4 M D K P :=
  ⟨h.m.ints, h.d.ints, h.k.nths, h.p.ints, h.lm, h.ld, h.lk, h.lp⟩
/-- the same fields -/
def sameB (f iv c u : Int) (M D : List Int) (K : List (Int × Int)) (P : List Int) (f' iv' c' u' : Int) (M' D' : List Int) (K' : List (Int × Int)) (P' : List Int) : Bool :=
  f == f' && iv == iv' && c == c' && u == u' && M == M' && D == D' && K == K' && P == P'
theorem sameB_self (f iv c u : Int) (M D : List Int) (K : List (Int × Int)) (P : List Int) : sameB f iv c u M D K P f iv c u M D K P = true := by simp [sameB]
section
variable {w : World} {ρ : Operand → Value} {o : Oper} {x y : Operand} {v u : Value}
theorem c_EqualI (ho : o.op = .call ⟨.value (.func 21), #[x, y], #[33, 33]⟩) (hf : ρ (.func 21) = .func (.func 21) #[] #[]) (hx : ρ x = v) (hy : ρ y = u) : (execOp ρ o).run Tryz.prog w = .ok (.enter 21 #[v, u]) w := by
  simp only [execOp, ho]
  go_simp
theorem c_EqualN (ho : o.op = .call ⟨.value (.func 30), #[x, y], #[34, 34]⟩) (hf : ρ (.func 30) = .func (.func 30) #[] #[]) (hx : ρ x = v) (hy : ρ y = u) : (execOp ρ o).run Tryz.prog w = .ok (.enter 30 #[v, u]) w := by
  simp only [execOp, ho]
  go_simp
theorem c_Same (ho : o.op = .call ⟨.value (.func 11), #[x, y], #[36, 36]⟩) (hf : ρ (.func 11) = .func (.func 11) #[] #[]) (hx : ρ x = v) (hy : ρ y = u) : (execOp ρ o).run Tryz.prog w = .ok (.enter 11 #[v, u]) w := by
  simp only [execOp, ho]
  go_simp
theorem k_boxR {cs : Array Value} (ho : o.op = .box 36 x) (hx : ρ x = .agg cs) : (execOp ρ o).run Tryz.prog w = .ok (.value (.pointer (some ⟨w.heap.size, 0, none⟩))) (w.alloc (.cells cs 36)) := by
  simp only [execOp, ho, hx]
  go_simp
theorem o_eqU {n m : Int} {q : Bool} (ho : o.op = .binOp .eql 32 x y 32) (hx : ρ x = .int .i64 n) (hy : ρ y = .int .i64 m) (hr : (n == m) = q) : (execOp ρ o).run Tryz.prog w = .ok (.value (.bool q)) w := by
  subst hr
  simp only [execOp, ho, hx, hy]
  go_simp
end
section
variable {P : Program} {ops : Array Oper} {Q : Exit → Act → World → Prop} {a : Act} {w : World}
theorem wanted_is {o : Oper} {t : Array Value} {j d : Nat} {b : Bool} (hg : o.guard = some (j, true)) (hj : (ops[j]?).bind (·.dst) = some d) (hv : t.getD d undef = .bool b) : Region.wanted o (yielded ops t) = b :=
  (wanted_at hg hj hv).trans (by cases b <;> rfl)
theorem bif_at {b : Bool} {x v u : Value} (h : x = (bif b then v else u)) (hb : b = true) : x = v := by rw [h, hb]; rfl
/-- plain region: an operation under a guard that is a letter -/
theorem opG (i d : Nat) (b : Bool) {v : Value} {rest : List Nat} (hd : (ops[i]?).map (·.dst) = some (some d)) (hz : d < a.tmps.size)
    (hy : ∀ o, ops[i]? = some o → Region.wanted o (yielded ops a.tmps) = b ∧ (b = true → (execOp a.eval o).run P w = .ok (.value v) w))
    (h : ∀ a' : Act, Fr d (bif b then v else undef) a a' → wpOps P ops Q rest a' w) : wpOps P ops Q (i :: rest) a w := by
  cases b
  · exact opL_not i d hd hz (fun o ho => (hy o ho).1) h
  · exact opL i d hd hz (fun o ho => ⟨(hy o ho).1, (hy o ho).2 rfl⟩) h
theorem opG_call (i d : Nat) (b : Bool) {f : FuncId} {args : Array Value} {r : Value} {rest : List Nat} (hd : (ops[i]?).map (·.dst) = some (some d)) (hz : d < a.tmps.size)
    (hy : ∀ o, ops[i]? = some o → Region.wanted o (yielded ops a.tmps) = b ∧ (b = true → (execOp a.eval o).run P w = .ok (.enter f args) w))
    (hc : Calls P f args w fun e w' => ∃ v, e = .returned v ∧ v = r ∧ Below w.heap.size w w')
    (h : ∀ (w' : World) (a' : Act), Below w.heap.size w w' → Fr d (bif b then r else undef) a a' → wpOps P ops Q rest a' w') : wpOps P ops Q (i :: rest) a w := by
  cases b
  · exact opL_not i d hd hz (fun o ho => (hy o ho).1) (h w · (Below.refl _ _))
  · refine opL_call i d hd hz (fun o ho => ⟨(hy o ho).1, (hy o ho).2 rfl⟩) hc ?_
    rintro _ w' a' ⟨rfl, hb⟩ hF
    exact h w' a' hb hF
theorem k_pick_and {ρ : Operand → Value} {o : Oper} {c x : Operand} {p t : Bool} (ho : o.op = .pick c x (.const (.bool false))) (hc : ρ c = .bool p) (hx : ρ x = (bif p then .bool t else undef)) (hf : ρ (.const (.bool false)) = .bool false) : (execOp ρ o).run P w = .ok (.value (.bool (p && t))) w := by
  cases p
  · exact k_pick_no ho hc hf
  · exact k_pick_yes ho hc hx
end
end Go.Proofs.YtnggajehngemmaaGreatDoor
/-
  rule.Same answers whether the fields are the same.
-/
namespace Go.Proofs.YtnggajehngemmaaGreatDoor
open Go.RowKit
noncomputable def sameBody : Code := Tryz.f11.body.getD .skip
set_option maxRecDepth 100000 in
set_option maxHeartbeats 1000000 in
theorem same_any (f iv c u f' iv' c' u' : Int) (A1 A2 A3 A4 B1 B2 B3 B4 : Option Addr) (c1 c2 c3 c4 d1 d2 d3 d4 : Nat) (M D M' D' : List Int) (K K' : List (Int × Int)) (P P' : List Int) (w : World) (hA : PlainR w A1 A2 A3 A4 M D K P) (hB : PlainR w B1 B2 B3 B4 M' D' K' P') :
    Calls Tryz.prog 11 #[.agg #[.int .i64 f, .int .i64 iv, .int .i64 c, .int .i64 u, .slice A1 M.length c1, .slice A2 D.length c2, .slice A3 K.length c3, .slice A4 P.length c4], .agg #[.int .i64 f', .int .i64 iv', .int .i64 c', .int .i64 u', .slice B1 M'.length d1, .slice B2 D'.length d2, .slice B3 K'.length d3, .slice B4 P'.length d4]] w fun e w' => ∃ v, e = .returned v ∧ v = .bool (sameB f iv c u M D K P f' iv' c' u' M' D' K' P') ∧ Below w.heap.size w w' := by
  refine calls_of_wp Tryz.func11 (show Tryz.f11.body = some sameBody from rfl) ?_
  generalize hAA : (Act.mk (#[.agg #[.int .i64 f, .int .i64 iv, .int .i64 c, .int .i64 u, .slice A1 M.length c1, .slice A2 D.length c2, .slice A3 K.length c3, .slice A4 P.length c4], .agg #[.int .i64 f', .int .i64 iv', .int .i64 c', .int .i64 u', .slice B1 M'.length d1, .slice B2 D'.length d2, .slice B3 K'.length d3, .slice B4 P'.length d4]] ++ Array.replicate (Tryz.f11.ntmps - (#[.agg #[.int .i64 f, .int .i64 iv, .int .i64 c, .int .i64 u, .slice A1 M.length c1, .slice A2 D.length c2, .slice A3 K.length c3, .slice A4 P.length c4], .agg #[.int .i64 f', .int .i64 iv', .int .i64 c', .int .i64 u', .slice B1 M'.length d1, .slice B2 D'.length d2, .slice B3 K'.length d3, .slice B4 P'.length d4]] : Array Value).size) undef) []) = a
  have hs : a.tmps.size = 59 := by rw [← hAA]; simp [Tryz.ntmps11]
  have hd : a.defers = [] := by rw [← hAA]
  have h0 : a.tmps.getD 0 undef = .agg #[.int .i64 f, .int .i64 iv, .int .i64 c, .int .i64 u, .slice A1 M.length c1, .slice A2 D.length c2, .slice A3 K.length c3, .slice A4 P.length c4] := by rw [← hAA]; simp
  have h1 : a.tmps.getD 1 undef = .agg #[.int .i64 f', .int .i64 iv', .int .i64 c', .int .i64 u', .slice B1 M'.length d1, .slice B2 D'.length d2, .slice B3 K'.length d3, .slice B4 P'.length d4] := by rw [← hAA]; simp
  clear hAA
  have hfin : ∀ (a' : Act) (w' : World), a'.defers = [] → a'.tmps.getD 4 undef = .bool (sameB f iv c u M D K P f' iv' c' u' M' D' K' P') → Below w.heap.size w w' → (bodyPost Tryz.prog Tryz.f11 fun e w' => ∃ v, e = .returned v ∧ v = .bool (sameB f iv c u M D K P f' iv' c' u' M' D' K' P') ∧ Below w.heap.size w w') .ret a' w' := by
    intro a' w' k1 k2 k3
    exact ⟨k1, _, results_tmp rfl _ _ _, _, rfl, k2, k3⟩
  generalize (bodyPost Tryz.prog Tryz.f11 fun e w' => ∃ v, e = .returned v ∧ v = .bool (sameB f iv c u M D K P f' iv' c' u' M' D' K' P') ∧ Below w.heap.size w w') = Q at hfin
  unfold sameBody
  conv => arg 2; whnf
  refine wp_seq ?_
  refine wp_region (show wpOps _ _ _ [0, 1, 2] _ _ from ?_)
  refine opL 0 2 (v := .pointer (some ⟨w.heap.size, 0, none⟩)) (w' := (w.alloc (.cells #[.int .i64 f, .int .i64 iv, .int .i64 c, .int .i64 u, .slice A1 M.length c1, .slice A2 D.length c2, .slice A3 K.length c3, .slice A4 P.length c4] 36))) (by kernel_rfl) (frZ hs) ?_ ?_
  · exact frY rfl (k_boxR rfl (ev_tmp h0))
  refine frN1 hs hd h1 ?_; clear hs hd h1 h0; intro a hs hd h1 h2
  obtain ⟨w1, hw1⟩ : ∃ wn, wn = w.alloc (.cells #[.int .i64 f, .int .i64 iv, .int .i64 c, .int .i64 u, .slice A1 M.length c1, .slice A2 D.length c2, .slice A3 K.length c3, .slice A4 P.length c4] 36) := ⟨_, rfl⟩
  rw [← hw1]
  have q1 : Blk w1 w.heap.size 36 #[.int .i64 f, .int .i64 iv, .int .i64 c, .int .i64 u, .slice A1 M.length c1, .slice A2 D.length c2, .slice A3 K.length c3, .slice A4 P.length c4] := by rw [hw1]; exact Blk.alloc _ _ _
  have l1 : Below w.heap.size w w1 := by rw [hw1]; exact (Below.refl _ _).alloc (Nat.le_refl _) _
  clear hw1
  refine opL 1 3 (v := .pointer (some ⟨w1.heap.size, 0, none⟩)) (w' := (w1.alloc (.cells #[.int .i64 f', .int .i64 iv', .int .i64 c', .int .i64 u', .slice B1 M'.length d1, .slice B2 D'.length d2, .slice B3 K'.length d3, .slice B4 P'.length d4] 36))) (by kernel_rfl) (frZ hs) ?_ ?_
  · exact frY rfl (k_boxR rfl (ev_tmp h1))
  refine frN1 hs hd h2 ?_; clear hs hd h2 h1; intro a hs hd h2 h3
  obtain ⟨w2, hw2⟩ : ∃ wn, wn = w1.alloc (.cells #[.int .i64 f', .int .i64 iv', .int .i64 c', .int .i64 u', .slice B1 M'.length d1, .slice B2 D'.length d2, .slice B3 K'.length d3, .slice B4 P'.length d4] 36) := ⟨_, rfl⟩
  rw [← hw2]
  have q2 : Blk w2 w1.heap.size 36 #[.int .i64 f', .int .i64 iv', .int .i64 c', .int .i64 u', .slice B1 M'.length d1, .slice B2 D'.length d2, .slice B3 K'.length d3, .slice B4 P'.length d4] := by rw [hw2]; exact Blk.alloc _ _ _
  have l2 : Below w1.heap.size w1 w2 := by rw [hw2]; exact (Below.refl _ _).alloc (Nat.le_refl _) _
  clear hw2
  have Bp := q1.below l2 q1.lt
  have Bq := q2
  have lz := l1.trans (l2.mono l1.size)
  replace hA := (hA.below l1).below l2
  replace hB := (hB.below l1).below l2
  clear q1 q2 l1 l2
  refine opL 2 4 (v := .bool false) (w' := w2) (by kernel_rfl) (frZ hs) ?_ ?_
  · exact frY rfl (k_assign rfl rfl)
  refine frN2 hs hd h2 h3 ?_; clear hs hd h2 h3; intro a hs hd h2 h3 h4
  refine wp_seq ?_
  refine wp_region (show wpOps _ _ _ [0, 1, 2, 3, 4, 5, 6, 7, 8, 9, 10, 11, 12, 13, 14, 15, 16, 17, 18, 19, 20, 21, 22, 23, 24, 25, 26, 27, 28, 29, 30, 31, 32, 33, 34, 35, 36, 37, 38, 39, 40, 41, 42, 43, 44, 45, 46, 47, 48, 49, 50, 51, 52, 53, 54] _ _ from ?_)
  refine opL 0 5 (v := .pointer (some ⟨w.heap.size, 0, none⟩)) (w' := w2) (by kernel_rfl) (frZ hs) ?_ ?_
  · exact frY rfl (k_field0 rfl (ev_tmp h2))
  revert hs hd h2 h3 h4; refine frM3 ?_; intro a hs hd h2 h3 h4 h5
  refine opL 1 6 (v := .int .i64 f) (w' := w2) (by kernel_rfl) (frZ hs) ?_ ?_
  · exact frY rfl (k_loadF rfl (ev_tmp h5) (Bp.cell 0))
  clear h5; revert hs hd h2 h3 h4; refine frM3 ?_; intro a hs hd h2 h3 h4 h6
  refine opL 2 7 (v := .pointer (some ⟨w1.heap.size, 0, none⟩)) (w' := w2) (by kernel_rfl) (frZ hs) ?_ ?_
  · exact frY rfl (k_field0 rfl (ev_tmp h3))
  revert hs hd h2 h3 h4 h6; refine frM4 ?_; intro a hs hd h2 h3 h4 h6 h7
  refine opL 3 8 (v := .int .i64 f') (w' := w2) (by kernel_rfl) (frZ hs) ?_ ?_
  · exact frY rfl (k_loadF rfl (ev_tmp h7) (Bq.cell 0))
  clear h7; revert hs hd h2 h3 h4 h6; refine frM4 ?_; intro a hs hd h2 h3 h4 h6 h8
  refine opL 4 9 (v := .bool (f == f')) (w' := w2) (by kernel_rfl) (frZ hs) ?_ ?_
  · exact frY rfl (o_eqF rfl (ev_tmp h6) (ev_tmp h8) rfl)
  clear h6 h8; revert hs hd h2 h3 h4; refine frM3 ?_; intro a hs hd h2 h3 h4 h9
  refine opL 5 10 (v := .bool (f == f')) (w' := w2) (by kernel_rfl) (frZ hs) ?_ ?_
  · exact frY rfl (k_move rfl (ev_tmp h9))
  clear h9; revert hs hd h2 h3 h4; refine frM3 ?_; intro a hs hd h2 h3 h4 h10
  refine opG 6 11 (f == f') (v := .pointer (some ⟨w.heap.size, 1, none⟩)) (by kernel_rfl) (frZ hs) ?z19 ?z20
  case z19 => (intro o ho; obtain rfl := Option.some.inj ho; exact ⟨wanted_is rfl (by kernel_rfl) h10, fun hb => k_field1 rfl (ev_tmp h2)⟩)
  case z20 =>
  refine frN4 hs hd h2 h3 h4 h10 ?_; clear hs hd h2 h3 h4 h10; intro a hs hd h2 h3 h4 h10 h11
  refine opG 7 12 (f == f') (v := .int .i64 iv) (by kernel_rfl) (frZ hs) ?z21 ?z22
  case z21 => (intro o ho; obtain rfl := Option.some.inj ho; exact ⟨wanted_is rfl (by kernel_rfl) h10, fun hb => k_loadI rfl (ev_tmp (bif_at h11 hb)) (Bp.cell 1)⟩)
  case z22 =>
  refine frN4 hs hd h2 h3 h4 h10 ?_; clear hs hd h2 h3 h4 h10 h11; intro a hs hd h2 h3 h4 h10 h12
  refine opG 8 13 (f == f') (v := .pointer (some ⟨w1.heap.size, 1, none⟩)) (by kernel_rfl) (frZ hs) ?z23 ?z24
  case z23 => (intro o ho; obtain rfl := Option.some.inj ho; exact ⟨wanted_is rfl (by kernel_rfl) h10, fun hb => k_field1 rfl (ev_tmp h3)⟩)
  case z24 =>
  refine frN5 hs hd h2 h3 h4 h10 h12 ?_; clear hs hd h2 h3 h4 h10 h12; intro a hs hd h2 h3 h4 h10 h12 h13
  refine opG 9 14 (f == f') (v := .int .i64 iv') (by kernel_rfl) (frZ hs) ?z25 ?z26
  case z25 => (intro o ho; obtain rfl := Option.some.inj ho; exact ⟨wanted_is rfl (by kernel_rfl) h10, fun hb => k_loadI rfl (ev_tmp (bif_at h13 hb)) (Bq.cell 1)⟩)
  case z26 =>
  refine frN5 hs hd h2 h3 h4 h10 h12 ?_; clear hs hd h2 h3 h4 h10 h12 h13; intro a hs hd h2 h3 h4 h10 h12 h14
  refine opG 10 15 (f == f') (v := .bool (iv == iv')) (by kernel_rfl) (frZ hs) ?z27 ?z28
  case z27 => (intro o ho; obtain rfl := Option.some.inj ho; exact ⟨wanted_is rfl (by kernel_rfl) h10, fun hb => o_eqI rfl (ev_tmp (bif_at h12 hb)) (ev_tmp (bif_at h14 hb)) rfl⟩)
  case z28 =>
  refine frN4 hs hd h2 h3 h4 h10 ?_; clear hs hd h2 h3 h4 h10 h12 h14; intro a hs hd h2 h3 h4 h10 h15
  refine opL 11 16 (v := .bool (f == f' && iv == iv')) (w' := w2) (by kernel_rfl) (frZ hs) ?_ ?_
  · exact frY rfl (k_pick_and rfl (ev_tmp h10) (ev_tmp h15) rfl)
  clear h10 h15; revert hs hd h2 h3 h4; refine frM3 ?_; intro a hs hd h2 h3 h4 h16
  refine opL 12 17 (v := .bool (f == f' && iv == iv')) (w' := w2) (by kernel_rfl) (frZ hs) ?_ ?_
  · exact frY rfl (k_move rfl (ev_tmp h16))
  clear h16; revert hs hd h2 h3 h4; refine frM3 ?_; intro a hs hd h2 h3 h4 h17
  refine opG 13 18 (f == f' && iv == iv') (v := .pointer (some ⟨w.heap.size, 2, none⟩)) (by kernel_rfl) (frZ hs) ?z33 ?z34
  case z33 => (intro o ho; obtain rfl := Option.some.inj ho; exact ⟨wanted_is rfl (by kernel_rfl) h17, fun hb => k_field2 rfl (ev_tmp h2)⟩)
  case z34 =>
  refine frN4 hs hd h2 h3 h4 h17 ?_; clear hs hd h2 h3 h4 h17; intro a hs hd h2 h3 h4 h17 h18
  refine opG 14 19 (f == f' && iv == iv') (v := .int .i64 c) (by kernel_rfl) (frZ hs) ?z35 ?z36
  case z35 => (intro o ho; obtain rfl := Option.some.inj ho; exact ⟨wanted_is rfl (by kernel_rfl) h17, fun hb => k_loadI rfl (ev_tmp (bif_at h18 hb)) (Bp.cell 2)⟩)
  case z36 =>
  refine frN4 hs hd h2 h3 h4 h17 ?_; clear hs hd h2 h3 h4 h17 h18; intro a hs hd h2 h3 h4 h17 h19
  refine opG 15 20 (f == f' && iv == iv') (v := .pointer (some ⟨w1.heap.size, 2, none⟩)) (by kernel_rfl) (frZ hs) ?z37 ?z38
  case z37 => (intro o ho; obtain rfl := Option.some.inj ho; exact ⟨wanted_is rfl (by kernel_rfl) h17, fun hb => k_field2 rfl (ev_tmp h3)⟩)
  case z38 =>
  refine frN5 hs hd h2 h3 h4 h17 h19 ?_; clear hs hd h2 h3 h4 h17 h19; intro a hs hd h2 h3 h4 h17 h19 h20
  refine opG 16 21 (f == f' && iv == iv') (v := .int .i64 c') (by kernel_rfl) (frZ hs) ?z39 ?z40
  case z39 => (intro o ho; obtain rfl := Option.some.inj ho; exact ⟨wanted_is rfl (by kernel_rfl) h17, fun hb => k_loadI rfl (ev_tmp (bif_at h20 hb)) (Bq.cell 2)⟩)
  case z40 =>
  refine frN5 hs hd h2 h3 h4 h17 h19 ?_; clear hs hd h2 h3 h4 h17 h19 h20; intro a hs hd h2 h3 h4 h17 h19 h21
  refine opG 17 22 (f == f' && iv == iv') (v := .bool (c == c')) (by kernel_rfl) (frZ hs) ?z41 ?z42
  case z41 => (intro o ho; obtain rfl := Option.some.inj ho; exact ⟨wanted_is rfl (by kernel_rfl) h17, fun hb => o_eqI rfl (ev_tmp (bif_at h19 hb)) (ev_tmp (bif_at h21 hb)) rfl⟩)
  case z42 =>
  refine frN4 hs hd h2 h3 h4 h17 ?_; clear hs hd h2 h3 h4 h17 h19 h21; intro a hs hd h2 h3 h4 h17 h22
  refine opL 18 23 (v := .bool (f == f' && iv == iv' && c == c')) (w' := w2) (by kernel_rfl) (frZ hs) ?_ ?_
  · exact frY rfl (k_pick_and rfl (ev_tmp h17) (ev_tmp h22) rfl)
  clear h17 h22; revert hs hd h2 h3 h4; refine frM3 ?_; intro a hs hd h2 h3 h4 h23
  refine opL 19 24 (v := .bool (f == f' && iv == iv' && c == c')) (w' := w2) (by kernel_rfl) (frZ hs) ?_ ?_
  · exact frY rfl (k_move rfl (ev_tmp h23))
  clear h23; revert hs hd h2 h3 h4; refine frM3 ?_; intro a hs hd h2 h3 h4 h24
  refine opG 20 25 (f == f' && iv == iv' && c == c') (v := .pointer (some ⟨w.heap.size, 3, none⟩)) (by kernel_rfl) (frZ hs) ?z47 ?z48
  case z47 => (intro o ho; obtain rfl := Option.some.inj ho; exact ⟨wanted_is rfl (by kernel_rfl) h24, fun hb => k_field3 rfl (ev_tmp h2)⟩)
  case z48 =>
  refine frN4 hs hd h2 h3 h4 h24 ?_; clear hs hd h2 h3 h4 h24; intro a hs hd h2 h3 h4 h24 h25
  refine opG 21 26 (f == f' && iv == iv' && c == c') (v := .int .i64 u) (by kernel_rfl) (frZ hs) ?z49 ?z50
  case z49 => (intro o ho; obtain rfl := Option.some.inj ho; exact ⟨wanted_is rfl (by kernel_rfl) h24, fun hb => k_loadU rfl (ev_tmp (bif_at h25 hb)) (Bp.cell 3)⟩)
  case z50 =>
  refine frN4 hs hd h2 h3 h4 h24 ?_; clear hs hd h2 h3 h4 h24 h25; intro a hs hd h2 h3 h4 h24 h26
  refine opG 22 27 (f == f' && iv == iv' && c == c') (v := .pointer (some ⟨w1.heap.size, 3, none⟩)) (by kernel_rfl) (frZ hs) ?z51 ?z52
  case z51 => (intro o ho; obtain rfl := Option.some.inj ho; exact ⟨wanted_is rfl (by kernel_rfl) h24, fun hb => k_field3 rfl (ev_tmp h3)⟩)
  case z52 =>
  refine frN5 hs hd h2 h3 h4 h24 h26 ?_; clear hs hd h2 h3 h4 h24 h26; intro a hs hd h2 h3 h4 h24 h26 h27
  refine opG 23 28 (f == f' && iv == iv' && c == c') (v := .int .i64 u') (by kernel_rfl) (frZ hs) ?z53 ?z54
  case z53 => (intro o ho; obtain rfl := Option.some.inj ho; exact ⟨wanted_is rfl (by kernel_rfl) h24, fun hb => k_loadU rfl (ev_tmp (bif_at h27 hb)) (Bq.cell 3)⟩)
  case z54 =>
  refine frN5 hs hd h2 h3 h4 h24 h26 ?_; clear hs hd h2 h3 h4 h24 h26 h27; intro a hs hd h2 h3 h4 h24 h26 h28
  refine opG 24 29 (f == f' && iv == iv' && c == c') (v := .bool (u == u')) (by kernel_rfl) (frZ hs) ?z55 ?z56
  case z55 => (intro o ho; obtain rfl := Option.some.inj ho; exact ⟨wanted_is rfl (by kernel_rfl) h24, fun hb => o_eqU rfl (ev_tmp (bif_at h26 hb)) (ev_tmp (bif_at h28 hb)) rfl⟩)
  case z56 =>
  refine frN4 hs hd h2 h3 h4 h24 ?_; clear hs hd h2 h3 h4 h24 h26 h28; intro a hs hd h2 h3 h4 h24 h29
  refine opL 25 30 (v := .bool (f == f' && iv == iv' && c == c' && u == u')) (w' := w2) (by kernel_rfl) (frZ hs) ?_ ?_
  · exact frY rfl (k_pick_and rfl (ev_tmp h24) (ev_tmp h29) rfl)
  clear h24 h29; revert hs hd h2 h3 h4; refine frM3 ?_; intro a hs hd h2 h3 h4 h30
  refine opL 26 31 (v := .bool (f == f' && iv == iv' && c == c' && u == u')) (w' := w2) (by kernel_rfl) (frZ hs) ?_ ?_
  · exact frY rfl (k_move rfl (ev_tmp h30))
  clear h30; revert hs hd h2 h3 h4; refine frM3 ?_; intro a hs hd h2 h3 h4 h31
  refine opG 27 32 (f == f' && iv == iv' && c == c' && u == u') (v := .pointer (some ⟨w.heap.size, 4, none⟩)) (by kernel_rfl) (frZ hs) ?z61 ?z62
  case z61 => (intro o ho; obtain rfl := Option.some.inj ho; exact ⟨wanted_is rfl (by kernel_rfl) h31, fun hb => k_field4 rfl (ev_tmp h2)⟩)
  case z62 =>
  refine frN4 hs hd h2 h3 h4 h31 ?_; clear hs hd h2 h3 h4 h31; intro a hs hd h2 h3 h4 h31 h32
  refine opG 28 33 (f == f' && iv == iv' && c == c' && u == u') (v := .slice A1 M.length c1) (by kernel_rfl) (frZ hs) ?z63 ?z64
  case z63 => (intro o ho; obtain rfl := Option.some.inj ho; exact ⟨wanted_is rfl (by kernel_rfl) h31, fun hb => k_loadL rfl (ev_tmp (bif_at h32 hb)) (Bp.cell 4)⟩)
  case z64 =>
  refine frN4 hs hd h2 h3 h4 h31 ?_; clear hs hd h2 h3 h4 h31 h32; intro a hs hd h2 h3 h4 h31 h33
  refine opG 29 34 (f == f' && iv == iv' && c == c' && u == u') (v := .pointer (some ⟨w1.heap.size, 4, none⟩)) (by kernel_rfl) (frZ hs) ?z65 ?z66
  case z65 => (intro o ho; obtain rfl := Option.some.inj ho; exact ⟨wanted_is rfl (by kernel_rfl) h31, fun hb => k_field4 rfl (ev_tmp h3)⟩)
  case z66 =>
  refine frN5 hs hd h2 h3 h4 h31 h33 ?_; clear hs hd h2 h3 h4 h31 h33; intro a hs hd h2 h3 h4 h31 h33 h34
  refine opG 30 35 (f == f' && iv == iv' && c == c' && u == u') (v := .slice B1 M'.length d1) (by kernel_rfl) (frZ hs) ?z67 ?z68
  case z67 => (intro o ho; obtain rfl := Option.some.inj ho; exact ⟨wanted_is rfl (by kernel_rfl) h31, fun hb => k_loadL rfl (ev_tmp (bif_at h34 hb)) (Bq.cell 4)⟩)
  case z68 =>
  refine frN5 hs hd h2 h3 h4 h31 h33 ?_; clear hs hd h2 h3 h4 h31 h33 h34; intro a hs hd h2 h3 h4 h31 h33 h35
  have hc := eqI_any A1 B1 c1 d1 M M' w2 hA.m hB.m hA.lm hB.lm
  refine opG_call 31 36 (f == f' && iv == iv' && c == c' && u == u') (by kernel_rfl) (frZ hs) ?z69 hc ?z70
  case z69 => (intro o ho; obtain rfl := Option.some.inj ho; exact ⟨wanted_is rfl (by kernel_rfl) h31, fun hb => c_EqualI rfl rfl (ev_tmp (bif_at h33 hb)) (ev_tmp (bif_at h35 hb))⟩)
  case z70 =>
  clear hc
  intro v4 a l4 F0
  replace hs := F0.z.trans hs
  replace hd := F0.e.trans hd
  replace h2 := (F0.n 2 (by decide)).trans h2
  replace h3 := (F0.n 3 (by decide)).trans h3
  replace h4 := (F0.n 4 (by decide)).trans h4
  replace h31 := (F0.n 31 (by decide)).trans h31
  clear h33
  clear h35
  have h36 := F0.s
  clear F0
  replace Bp := Bp.below l4 Bp.lt
  replace Bq := Bq.below l4 Bq.lt
  replace hA := hA.below l4
  replace hB := hB.below l4
  replace lz := lz.trans (l4.mono lz.size)
  clear l4
  refine opL 32 37 (v := .bool (f == f' && iv == iv' && c == c' && u == u' && M == M')) (w' := v4) (by kernel_rfl) (frZ hs) ?_ ?_
  · exact frY rfl (k_pick_and rfl (ev_tmp h31) (ev_tmp h36) rfl)
  refine frN3 hs hd h2 h3 h4 ?_; clear hs hd h2 h3 h4 h31 h36; intro a hs hd h2 h3 h4 h37
  refine opL 33 38 (v := .bool (f == f' && iv == iv' && c == c' && u == u' && M == M')) (w' := v4) (by kernel_rfl) (frZ hs) ?_ ?_
  · exact frY rfl (k_move rfl (ev_tmp h37))
  clear h37; revert hs hd h2 h3 h4; refine frM3 ?_; intro a hs hd h2 h3 h4 h38
  refine opG 34 39 (f == f' && iv == iv' && c == c' && u == u' && M == M') (v := .pointer (some ⟨w.heap.size, 5, none⟩)) (by kernel_rfl) (frZ hs) ?z75 ?z76
  case z75 => (intro o ho; obtain rfl := Option.some.inj ho; exact ⟨wanted_is rfl (by kernel_rfl) h38, fun hb => k_field5 rfl (ev_tmp h2)⟩)
  case z76 =>
  refine frN4 hs hd h2 h3 h4 h38 ?_; clear hs hd h2 h3 h4 h38; intro a hs hd h2 h3 h4 h38 h39
  refine opG 35 40 (f == f' && iv == iv' && c == c' && u == u' && M == M') (v := .slice A2 D.length c2) (by kernel_rfl) (frZ hs) ?z77 ?z78
  case z77 => (intro o ho; obtain rfl := Option.some.inj ho; exact ⟨wanted_is rfl (by kernel_rfl) h38, fun hb => k_loadL rfl (ev_tmp (bif_at h39 hb)) (Bp.cell 5)⟩)
  case z78 =>
  refine frN4 hs hd h2 h3 h4 h38 ?_; clear hs hd h2 h3 h4 h38 h39; intro a hs hd h2 h3 h4 h38 h40
  refine opG 36 41 (f == f' && iv == iv' && c == c' && u == u' && M == M') (v := .pointer (some ⟨w1.heap.size, 5, none⟩)) (by kernel_rfl) (frZ hs) ?z79 ?z80
  case z79 => (intro o ho; obtain rfl := Option.some.inj ho; exact ⟨wanted_is rfl (by kernel_rfl) h38, fun hb => k_field5 rfl (ev_tmp h3)⟩)
  case z80 =>
  refine frN5 hs hd h2 h3 h4 h38 h40 ?_; clear hs hd h2 h3 h4 h38 h40; intro a hs hd h2 h3 h4 h38 h40 h41
  refine opG 37 42 (f == f' && iv == iv' && c == c' && u == u' && M == M') (v := .slice B2 D'.length d2) (by kernel_rfl) (frZ hs) ?z81 ?z82
  case z81 => (intro o ho; obtain rfl := Option.some.inj ho; exact ⟨wanted_is rfl (by kernel_rfl) h38, fun hb => k_loadL rfl (ev_tmp (bif_at h41 hb)) (Bq.cell 5)⟩)
  case z82 =>
  refine frN5 hs hd h2 h3 h4 h38 h40 ?_; clear hs hd h2 h3 h4 h38 h40 h41; intro a hs hd h2 h3 h4 h38 h40 h42
  have hc := eqI_any A2 B2 c2 d2 D D' v4 hA.d hB.d hA.ld hB.ld
  refine opG_call 38 43 (f == f' && iv == iv' && c == c' && u == u' && M == M') (by kernel_rfl) (frZ hs) ?z83 hc ?z84
  case z83 => (intro o ho; obtain rfl := Option.some.inj ho; exact ⟨wanted_is rfl (by kernel_rfl) h38, fun hb => c_EqualI rfl rfl (ev_tmp (bif_at h40 hb)) (ev_tmp (bif_at h42 hb))⟩)
  case z84 =>
  clear hc
  intro v5 a l5 F0
  replace hs := F0.z.trans hs
  replace hd := F0.e.trans hd
  replace h2 := (F0.n 2 (by decide)).trans h2
  replace h3 := (F0.n 3 (by decide)).trans h3
  replace h4 := (F0.n 4 (by decide)).trans h4
  replace h38 := (F0.n 38 (by decide)).trans h38
  clear h40
  clear h42
  have h43 := F0.s
  clear F0
  replace Bp := Bp.below l5 Bp.lt
  replace Bq := Bq.below l5 Bq.lt
  replace hA := hA.below l5
  replace hB := hB.below l5
  replace lz := lz.trans (l5.mono lz.size)
  clear l5
  refine opL 39 44 (v := .bool (f == f' && iv == iv' && c == c' && u == u' && M == M' && D == D')) (w' := v5) (by kernel_rfl) (frZ hs) ?_ ?_
  · exact frY rfl (k_pick_and rfl (ev_tmp h38) (ev_tmp h43) rfl)
  refine frN3 hs hd h2 h3 h4 ?_; clear hs hd h2 h3 h4 h38 h43; intro a hs hd h2 h3 h4 h44
  refine opL 40 45 (v := .bool (f == f' && iv == iv' && c == c' && u == u' && M == M' && D == D')) (w' := v5) (by kernel_rfl) (frZ hs) ?_ ?_
  · exact frY rfl (k_move rfl (ev_tmp h44))
  clear h44; revert hs hd h2 h3 h4; refine frM3 ?_; intro a hs hd h2 h3 h4 h45
  refine opG 41 46 (f == f' && iv == iv' && c == c' && u == u' && M == M' && D == D') (v := .pointer (some ⟨w.heap.size, 6, none⟩)) (by kernel_rfl) (frZ hs) ?z89 ?z90
  case z89 => (intro o ho; obtain rfl := Option.some.inj ho; exact ⟨wanted_is rfl (by kernel_rfl) h45, fun hb => k_field6 rfl (ev_tmp h2)⟩)
  case z90 =>
  refine frN4 hs hd h2 h3 h4 h45 ?_; clear hs hd h2 h3 h4 h45; intro a hs hd h2 h3 h4 h45 h46
  refine opG 42 47 (f == f' && iv == iv' && c == c' && u == u' && M == M' && D == D') (v := .slice A3 K.length c3) (by kernel_rfl) (frZ hs) ?z91 ?z92
  case z91 => (intro o ho; obtain rfl := Option.some.inj ho; exact ⟨wanted_is rfl (by kernel_rfl) h45, fun hb => k_loadW rfl (ev_tmp (bif_at h46 hb)) (Bp.cell 6)⟩)
  case z92 =>
  refine frN4 hs hd h2 h3 h4 h45 ?_; clear hs hd h2 h3 h4 h45 h46; intro a hs hd h2 h3 h4 h45 h47
  refine opG 43 48 (f == f' && iv == iv' && c == c' && u == u' && M == M' && D == D') (v := .pointer (some ⟨w1.heap.size, 6, none⟩)) (by kernel_rfl) (frZ hs) ?z93 ?z94
  case z93 => (intro o ho; obtain rfl := Option.some.inj ho; exact ⟨wanted_is rfl (by kernel_rfl) h45, fun hb => k_field6 rfl (ev_tmp h3)⟩)
  case z94 =>
  refine frN5 hs hd h2 h3 h4 h45 h47 ?_; clear hs hd h2 h3 h4 h45 h47; intro a hs hd h2 h3 h4 h45 h47 h48
  refine opG 44 49 (f == f' && iv == iv' && c == c' && u == u' && M == M' && D == D') (v := .slice B3 K'.length d3) (by kernel_rfl) (frZ hs) ?z95 ?z96
  case z95 => (intro o ho; obtain rfl := Option.some.inj ho; exact ⟨wanted_is rfl (by kernel_rfl) h45, fun hb => k_loadW rfl (ev_tmp (bif_at h48 hb)) (Bq.cell 6)⟩)
  case z96 =>
  refine frN5 hs hd h2 h3 h4 h45 h47 ?_; clear hs hd h2 h3 h4 h45 h47 h48; intro a hs hd h2 h3 h4 h45 h47 h49
  have hc := eqN_any A3 B3 c3 d3 K K' v5 hA.k hB.k hA.lk hB.lk
  refine opG_call 45 50 (f == f' && iv == iv' && c == c' && u == u' && M == M' && D == D') (by kernel_rfl) (frZ hs) ?z97 hc ?z98
  case z97 => (intro o ho; obtain rfl := Option.some.inj ho; exact ⟨wanted_is rfl (by kernel_rfl) h45, fun hb => c_EqualN rfl rfl (ev_tmp (bif_at h47 hb)) (ev_tmp (bif_at h49 hb))⟩)
  case z98 =>
  clear hc
  intro v6 a l6 F0
  replace hs := F0.z.trans hs
  replace hd := F0.e.trans hd
  replace h2 := (F0.n 2 (by decide)).trans h2
  replace h3 := (F0.n 3 (by decide)).trans h3
  replace h4 := (F0.n 4 (by decide)).trans h4
  replace h45 := (F0.n 45 (by decide)).trans h45
  clear h47
  clear h49
  have h50 := F0.s
  clear F0
  replace Bp := Bp.below l6 Bp.lt
  replace Bq := Bq.below l6 Bq.lt
  replace hA := hA.below l6
  replace hB := hB.below l6
  replace lz := lz.trans (l6.mono lz.size)
  clear l6
  refine opL 46 51 (v := .bool (f == f' && iv == iv' && c == c' && u == u' && M == M' && D == D' && K == K')) (w' := v6) (by kernel_rfl) (frZ hs) ?_ ?_
  · exact frY rfl (k_pick_and rfl (ev_tmp h45) (ev_tmp h50) rfl)
  refine frN3 hs hd h2 h3 h4 ?_; clear hs hd h2 h3 h4 h45 h50; intro a hs hd h2 h3 h4 h51
  refine opL 47 52 (v := .bool (f == f' && iv == iv' && c == c' && u == u' && M == M' && D == D' && K == K')) (w' := v6) (by kernel_rfl) (frZ hs) ?_ ?_
  · exact frY rfl (k_move rfl (ev_tmp h51))
  clear h51; revert hs hd h2 h3 h4; refine frM3 ?_; intro a hs hd h2 h3 h4 h52
  refine opG 48 53 (f == f' && iv == iv' && c == c' && u == u' && M == M' && D == D' && K == K') (v := .pointer (some ⟨w.heap.size, 7, none⟩)) (by kernel_rfl) (frZ hs) ?z103 ?z104
  case z103 => (intro o ho; obtain rfl := Option.some.inj ho; exact ⟨wanted_is rfl (by kernel_rfl) h52, fun hb => k_field7 rfl (ev_tmp h2)⟩)
  case z104 =>
  refine frN4 hs hd h2 h3 h4 h52 ?_; clear hs hd h2 h3 h4 h52; intro a hs hd h2 h3 h4 h52 h53
  refine opG 49 54 (f == f' && iv == iv' && c == c' && u == u' && M == M' && D == D' && K == K') (v := .slice A4 P.length c4) (by kernel_rfl) (frZ hs) ?z105 ?z106
  case z105 => (intro o ho; obtain rfl := Option.some.inj ho; exact ⟨wanted_is rfl (by kernel_rfl) h52, fun hb => k_loadL rfl (ev_tmp (bif_at h53 hb)) (Bp.cell 7)⟩)
  case z106 =>
  refine frN4 hs hd h2 h3 h4 h52 ?_; clear hs hd h2 h3 h4 h52 h53; intro a hs hd h2 h3 h4 h52 h54
  refine opG 50 55 (f == f' && iv == iv' && c == c' && u == u' && M == M' && D == D' && K == K') (v := .pointer (some ⟨w1.heap.size, 7, none⟩)) (by kernel_rfl) (frZ hs) ?z107 ?z108
  case z107 => (intro o ho; obtain rfl := Option.some.inj ho; exact ⟨wanted_is rfl (by kernel_rfl) h52, fun hb => k_field7 rfl (ev_tmp h3)⟩)
  case z108 =>
  refine frN5 hs hd h2 h3 h4 h52 h54 ?_; clear hs hd h2 h3 h4 h52 h54; intro a hs hd h2 h3 h4 h52 h54 h55
  refine opG 51 56 (f == f' && iv == iv' && c == c' && u == u' && M == M' && D == D' && K == K') (v := .slice B4 P'.length d4) (by kernel_rfl) (frZ hs) ?z109 ?z110
  case z109 => (intro o ho; obtain rfl := Option.some.inj ho; exact ⟨wanted_is rfl (by kernel_rfl) h52, fun hb => k_loadL rfl (ev_tmp (bif_at h55 hb)) (Bq.cell 7)⟩)
  case z110 =>
  refine frN5 hs hd h2 h3 h4 h52 h54 ?_; clear hs hd h2 h3 h4 h52 h54 h55; intro a hs hd h2 h3 h4 h52 h54 h56
  have hc := eqI_any A4 B4 c4 d4 P P' v6 hA.p hB.p hA.lp hB.lp
  refine opG_call 52 57 (f == f' && iv == iv' && c == c' && u == u' && M == M' && D == D' && K == K') (by kernel_rfl) (frZ hs) ?z111 hc ?z112
  case z111 => (intro o ho; obtain rfl := Option.some.inj ho; exact ⟨wanted_is rfl (by kernel_rfl) h52, fun hb => c_EqualI rfl rfl (ev_tmp (bif_at h54 hb)) (ev_tmp (bif_at h56 hb))⟩)
  case z112 =>
  clear hc
  intro v7 a l7 F0
  replace hs := F0.z.trans hs
  replace hd := F0.e.trans hd
  replace h2 := (F0.n 2 (by decide)).trans h2
  replace h3 := (F0.n 3 (by decide)).trans h3
  replace h4 := (F0.n 4 (by decide)).trans h4
  replace h52 := (F0.n 52 (by decide)).trans h52
  clear h54
  clear h56
  have h57 := F0.s
  clear F0
  replace Bp := Bp.below l7 Bp.lt
  replace Bq := Bq.below l7 Bq.lt
  replace hA := hA.below l7
  replace hB := hB.below l7
  replace lz := lz.trans (l7.mono lz.size)
  clear l7
  refine opL 53 58 (v := .bool (f == f' && iv == iv' && c == c' && u == u' && M == M' && D == D' && K == K' && P == P')) (w' := v7) (by kernel_rfl) (frZ hs) ?_ ?_
  · exact frY rfl (k_pick_and rfl (ev_tmp h52) (ev_tmp h57) rfl)
  refine frN3 hs hd h2 h3 h4 ?_; clear hs hd h2 h3 h4 h52 h57; intro a hs hd h2 h3 h4 h58
  refine opL 54 4 (v := .bool (f == f' && iv == iv' && c == c' && u == u' && M == M' && D == D' && K == K' && P == P')) (w' := v7) (by kernel_rfl) (frZ hs) ?_ ?_
  · exact frY rfl (k_assign rfl (ev_tmp h58))
  clear h4 h58; revert hs hd h2 h3; refine frM2 ?_; intro a hs hd h2 h3 h4
  refine wp_ret ?_
  exact hfin a _ hd h4 lz
end Go.Proofs.YtnggajehngemmaaGreatDoor
/-
  NormalMixed: its run over letters.
-/
namespace Go.Proofs.YtnggajehngemmaaGreatDoor
open Go Go.RowKit
abbrev nmF : FuncId := 5
abbrev smF : FuncId := 11
def nmP : List Prim := [flT ksW [] (.bool true), flT ksL [fuX] (.bool true), tokP fuF [fuX, Lt 9] (ksR 1 2 3 4), tokP mdF [ksR 1 2 3 4, Lt 14] (ksR 5 6 7 8), tokP mdF [ksR 1 2 3 4, Lt 15] (ksR 9 10 11 12), tokP ofF [ksR 5 6 7 8] (ksR 13 2 14 4), tokP ofF [ksR 9 10 11 12] (ksR 13 2 14 4), tokP ofF [ksR 1 2 3 4] (ksR 13 2 14 4), tokP tdF [ksR 9 10 11 12] (ksR 1 2 3 4), flT smF [ksR 13 2 14 4, ksR 13 2 14 4] (.bool true), flT smF [ksR 1 2 3 4, ksR 1 2 3 4] (.bool true)]
theorem nm_run : SymK [] [] [] (anyP nmP) 60 nmF ⟨64, []⟩ [fuX, Lt 9, Lt 14, Lt 15] isT := by delta SymK; show _ = _; kernel_rfl
theorem nm_heavy : SymK [] [] [] (anyP [flT ksW [] (.bool true), flT ksL [fuX] (.bool false)]) 60 nmF ⟨64, []⟩ [fuX, Lt 9, Lt 14, Lt 15] isT := by delta SymK; show _ = _; kernel_rfl
end Go.Proofs.YtnggajehngemmaaGreatDoor
