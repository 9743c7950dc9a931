/-
  Lists as they lie in memory, at plain addresses; the library's Equal.
-/
import Derived.Test.YtocpmljkmdpfkaaGreatDoorWk
import Derived.Test.YtocpmljkmdpfkaaGreatDoorKmk
import Derived.Test.YtocpmljkmdpfkaaGreatDoorKop
namespace Go.Proofs.YtocpmljkmdpfkaaGreatDoor
open Go.RowKit Go.Shelf Go.Lib
/-- numbers lie at a plain address -/
def PlainI (w : World) (A : Option Addr) (L : List Int) : Prop := (A = none ∧ L = []) ∨ ∃ b o, A = some ⟨b, o, none⟩ ∧ b < w.heap.size ∧ ∀ j (h : j < L.length), w.cell? ⟨b, o + j, none⟩ = some (.int .i64 L[j])
/-- weekdays lie at a plain address -/
def PlainN (w : World) (A : Option Addr) (L : List (Int × Int)) : Prop := (A = none ∧ L = []) ∨ ∃ b o, A = some ⟨b, o, none⟩ ∧ b < w.heap.size ∧ ∀ j (h : j < L.length), w.cell? ⟨b, o + j * 2, none⟩ = some (.int .i64 L[j].1) ∧ w.cell? ⟨b, o + j * 2 + 1, none⟩ = some (.int .i64 L[j].2)
theorem addr_lit (g o k : Nat) : (⟨g, o, none⟩ : Addr).add k = ⟨g, o + k, none⟩ := by simp [Addr.add]
theorem PlainI.below {w w' : World} {A : Option Addr} {L : List Int} (h : PlainI w A L) (b : Below w.heap.size w w') : PlainI w' A L := by
  rcases h with h | ⟨g, o, rfl, h1, h2⟩
  · exact .inl h
  · exact .inr ⟨g, o, rfl, Nat.lt_of_lt_of_le h1 b.size, fun j hj => (b.cell (p := ⟨g, o + j, none⟩) h1).trans (h2 j hj)⟩
theorem PlainN.below {w w' : World} {A : Option Addr} {L : List (Int × Int)} (h : PlainN w A L) (b : Below w.heap.size w w') : PlainN w' A L := by
  rcases h with h | ⟨g, o, rfl, h1, h2⟩
  · exact .inl h
  · exact .inr ⟨g, o, rfl, Nat.lt_of_lt_of_le h1 b.size, fun j hj => ⟨(b.cell (p := ⟨g, o + j * 2, none⟩) h1).trans (h2 j hj).1, (b.cell (p := ⟨g, o + j * 2 + 1, none⟩) h1).trans (h2 j hj).2⟩⟩
theorem PlainI.ints {w : World} {A : Option Addr} {L : List Int} (h : PlainI w A L) : IntsIn w A L := fun k hk => by
  rcases h with ⟨-, rfl⟩ | ⟨g, o, rfl, h1, h2⟩
  · exact absurd hk (Nat.not_lt_zero k)
  · exact ⟨_, rfl, h1, by rw [addr_lit]; exact h2 k hk⟩
theorem PlainN.nths {w : World} {A : Option Addr} {L : List (Int × Int)} (h : PlainN w A L) : NthsIn w A L := fun k hk => by
  rcases h with ⟨-, rfl⟩ | ⟨g, o, rfl, h1, h2⟩
  · exact absurd hk (Nat.not_lt_zero k)
  · exact ⟨_, rfl, h1, by rw [addr_lit]; exact (h2 k hk).1, by rw [addr_lit, addr_lit]; exact (h2 k hk).2⟩
theorem OwnI.plain {w : World} {base c : Nat} {A : Option Addr} {L : List Int} (h : OwnI w base (.slice A L.length c) L) : PlainI w A L := by
  rcases h.2 with ⟨e, hn⟩ | ⟨g, cap, cur, e, hb, hg, h1, h2, h3, h4⟩
  · obtain ⟨rfl, -, -⟩ := Value.slice.inj e
    exact .inl ⟨rfl, List.eq_nil_of_length_eq_zero hn⟩
  · obtain ⟨rfl, -, -⟩ := Value.slice.inj e
    obtain ⟨A', cap', e', -, -, hi⟩ := h.ints
    obtain ⟨rfl, -, -⟩ := Value.slice.inj e'
    refine .inr ⟨g, 0, rfl, (Array.getElem?_eq_some_iff.1 hg).1, fun j hj => ?_⟩
    obtain ⟨ad, e, -, hc⟩ := hi j hj
    obtain rfl := Option.some.inj e
    rw [addr_lit] at hc
    exact hc
theorem OwnN.plain {w : World} {base c : Nat} {A : Option Addr} {L : List (Int × Int)} (h : OwnN w base (.slice A L.length c) L) : PlainN w A L := by
  rcases h.2 with ⟨e, hn⟩ | ⟨g, cap, cur, e, hb, hg, h1, h2, h3, h4⟩
  · obtain ⟨rfl, -, -⟩ := Value.slice.inj e
    exact .inl ⟨rfl, List.eq_nil_of_length_eq_zero hn⟩
  · obtain ⟨rfl, -, -⟩ := Value.slice.inj e
    obtain ⟨A', cap', e', -, -, hi⟩ := h.nths
    obtain ⟨rfl, -, -⟩ := Value.slice.inj e'
    refine .inr ⟨g, 0, rfl, (Array.getElem?_eq_some_iff.1 hg).1, fun j hj => ?_⟩
    obtain ⟨ad, e, -, hc, hd⟩ := hi j hj
    obtain rfl := Option.some.inj e
    rw [addr_lit] at hc
    rw [addr_lit, addr_lit] at hd
    exact ⟨hc, hd⟩
theorem below_drewN' {w : World} (n : Nat) : Below w.heap.size w (w.drewN n) := below_drewN (Below.refl _ _) n
theorem eqI_any (A B : Option Addr) (c d : Nat) (L K : List Int) (w : World) (hA : PlainI w A L) (hB : PlainI w B K) (lL : L.length ≤ maxLen) (lK : K.length ≤ maxLen) :
    Calls Tryz.prog 35 #[.slice A L.length c, .slice B K.length d] w fun e w' => ∃ v, e = .returned v ∧ v = .bool (L == K) ∧ Below w.heap.size w w' := by
  unfold maxLen at lL lK
  by_cases h0 : L.length = 0
  · obtain rfl : L = [] := List.eq_nil_of_length_eq_zero h0
    refine (Tryz.slices_Equal_int_empty A B c K.length d w (by omega)).mono ?_
    rintro e w' ⟨rfl, rfl⟩
    refine ⟨_, rfl, ?_, Below.refl _ _⟩
    cases K <;> simp
  · by_cases hn : L.length = K.length
    · rcases hA with ⟨-, rfl⟩ | ⟨b1, o1, rfl, -, hc1⟩
      · exact absurd rfl h0
      · rcases hB with ⟨-, rfl⟩ | ⟨b2, o2, rfl, -, hc2⟩
        · exact absurd hn h0
        · refine (Tryz.slices_Equal_int b1 o1 L.length c b2 o2 K.length d L K w (Nat.le_refl _) (Nat.le_refl _) (by omega) (by omega) (fun j hj => by rw [hc1 j hj]; simp [hj]) (fun j hj => by rw [hc2 j hj]; simp [hj])).mono ?_
          rintro e w' ⟨rfl, q, rfl⟩
          refine ⟨_, rfl, ?_, below_drewN' q⟩
          rw [List.take_length, List.take_length]
    · refine (Tryz.slices_Equal_int_lens A B L.length c K.length d w hn).mono ?_
      rintro e w' ⟨rfl, rfl⟩
      refine ⟨_, rfl, ?_, Below.refl _ _⟩
      have : (L == K) = false := by
        rw [beq_eq_false_iff_ne]
        intro e
        exact hn (by rw [e])
      rw [this]
theorem neN : NeqAt Tryz.prog 55 (fun x => .agg (encN x).toArray) (fun x y => x.1 == y.1 && x.2 == y.2) := by
  refine ⟨fun x y w => ?_, GuardAt.agg _ (by kernel_rfl)⟩
  have u3 := Tryz.underlying3
  have a3 := Tryz.isAgg3
  have z3 := Tryz.sizeOf3
  have hS : Tryz.prog.underlying 55 = some (.struct (Tryz.prog.fieldsOf 55)) := by kernel_rfl
  have hp : Tryz.prog.stoodInHeld 55 = false := by kernel_rfl
  simp only [encN]
  rw [run_neq_struct, show (10000 : Nat) = 9999 + 1 from rfl, run_equalIn_agg w 9999 55 _ _ hS hp]
  simp only [Program.fieldsOf, Tryz.underlying55]
  go_simp
  by_cases h1 : x.fst = y.fst <;> by_cases h2 : x.snd = y.snd <;> simp [h1, h2]
theorem equalN_lens (A B : Option Addr) (n c m d : Nat) (w : World) (h : n ≠ m) : Calls Tryz.prog 36 #[.slice A n c, .slice B m d] w fun e w' => e = .returned (.bool false) ∧ w = w' := by
  have h' : ((n : Int) != (m : Int)) = true := by simp; omega
  go_enter Tryz.func36, Tryz.ntmps36
  go_wp2
  go_ret
  exact ⟨rfl, rfl⟩
theorem equalN_empty (A B : Option Addr) (c d : Nat) (w : World) : Calls Tryz.prog 36 #[.slice A 0 c, .slice B 0 d] w fun e w' => e = .returned (.bool true) ∧ w = w' := by
  go_enter Tryz.func36, Tryz.ntmps36
  go_wp2_with fail
  go_loop [13] (fun k => k = .int .i64 0) (fun _ => 0)
  case atStart => rfl
  case round =>
    subst hrel
    go_wp2
    go_ret
    exact ⟨rfl, rfl⟩
theorem allEq_beq : ∀ (L K : List (Int × Int)), Lib.allEq (fun x y => x.1 == y.1 && x.2 == y.2) L K = (L == K)
  | [], [] => rfl
  | [], _ :: _ => rfl
  | _ :: _, [] => rfl
  | x :: L, y :: K => by
    have := allEq_beq L K
    simp only [Lib.allEq, this]
    rfl
theorem eqN_any (A B : Option Addr) (c d : Nat) (L K : List (Int × Int)) (w : World) (hA : PlainN w A L) (hB : PlainN w B K) (lL : L.length ≤ maxLen) (lK : K.length ≤ maxLen) :
    Calls Tryz.prog 36 #[.slice A L.length c, .slice B K.length d] w fun e w' => ∃ v, e = .returned v ∧ v = .bool (L == K) ∧ Below w.heap.size w w' := by
  unfold maxLen at lL lK
  by_cases hn : L.length = K.length
  · by_cases h0 : L.length = 0
    · obtain rfl : L = [] := List.eq_nil_of_length_eq_zero h0
      obtain rfl : K = [] := List.eq_nil_of_length_eq_zero hn.symm
      refine (equalN_empty A B c d w).mono ?_
      rintro e w' ⟨rfl, rfl⟩
      exact ⟨_, rfl, rfl, Below.refl _ _⟩
    · rcases hA with ⟨-, rfl⟩ | ⟨b1, o1, rfl, -, hc1⟩
      · exact absurd rfl h0
      · rcases hB with ⟨-, rfl⟩ | ⟨b2, o2, rfl, -, hc2⟩
        · exact absurd hn h0
        · have cellN : ∀ (b o : Nat) (X : List (Int × Int)), (∀ j (h : j < X.length), w.cell? ⟨b, o + j * 2, none⟩ = some (.int .i64 X[j].1) ∧ w.cell? ⟨b, o + j * 2 + 1, none⟩ = some (.int .i64 X[j].2)) → ∀ j, j < X.length → ∀ i v, (encN X[j]!)[i]? = some v → w.cell? ⟨b, o + j * 2 + i, none⟩ = some v := by
            intro b o X hX j hj i v hv
            have ej : X[j]! = X[j] := getElem!_pos X j hj
            rw [ej] at hv
            match i with
            | 0 => obtain rfl : Value.int .i64 X[j].1 = v := by simpa [encN] using hv
                   exact (hX j hj).1
            | 1 => obtain rfl : Value.int .i64 X[j].2 = v := by simpa [encN] using hv
                   exact (hX j hj).2
            | i + 2 => simp [encN] at hv
          have hc := AnyQ.slices_Equal Tryz.equalN 2 Tryz.isAgg55 Tryz.sizeOf55 encN (fun _ => rfl) (fun x y => x.1 == y.1 && x.2 == y.2) neN b1 o1 L.length c b2 o2 K.length d L K w (Nat.le_refl _) (Nat.le_refl _) (by omega) (by omega) (cellN b1 o1 L hc1) (cellN b2 o2 K hc2)
          change Calls Tryz.prog 36 _ _ _ at hc
          rw [List.take_length, List.take_length, allEq_beq] at hc
          refine hc.mono ?_
          rintro e w' ⟨rfl, q, rfl⟩
          exact ⟨_, rfl, rfl, below_drewN' q⟩
  · refine (equalN_lens A B L.length c K.length d w hn).mono ?_
    rintro e w' ⟨rfl, rfl⟩
    refine ⟨_, rfl, ?_, Below.refl _ _⟩
    have : (L == K) = false := by
      rw [beq_eq_false_iff_ne]
      intro e
      exact hn (by rw [e])
    rw [this]
/-- a rule's lists, at plain addresses -/
structure PlainR (w : World) (A1 A2 A3 A4 : Option Addr) (M D : List Int) (K : List (Int × Int)) (P : List Int) : Prop where
  m : PlainI w A1 M
  d : PlainI w A2 D
  k : PlainN w A3 K
  p : PlainI w A4 P
  lm : M.length ≤ maxLen
  ld : D.length ≤ maxLen
  lk : K.length ≤ maxLen
  lp : P.length ≤ maxLen
theorem PlainR.below {w w' : World} {A1 A2 A3 A4 : Option Addr} {M D : List Int} {K : List (Int × Int)} {P : List Int} (h : PlainR w A1 A2 A3 A4 M D K P) (b : Below w.heap.size w w') : PlainR w' A1 A2 A3 A4 M D K P :=
  ⟨h.m.below b, h.d.below b, h.k.below b, h.p.below b, h.lm, h.ld, h.lk, h.lp⟩
theorem PlainR.lists {w : World} {A1 A2 A3 A4 : Option Addr} {M D : List Int} {K : List (Int × Int)} {P : List Int} (h : PlainR w A1 A2 A3 A4 M D K P) : ListsIn w A1 A2 A3 A4 M D K P :=
  ⟨h.m.ints, h.d.ints, h.k.nths, h.p.ints, h.lm, h.ld, h.lk, h.lp⟩
/-- the same fields -/
def sameB (f iv c u : Int) (M D : List Int) (K : List (Int × Int)) (P : List Int) (f' iv' c' u' : Int) (M' D' : List Int) (K' : List (Int × Int)) (P' : List Int) : Bool :=
  f == f' && iv == iv' && c == c' && u == u' && M == M' && D == D' && K == K' && P == P'
theorem sameB_self (f iv c u : Int) (M D : List Int) (K : List (Int × Int)) (P : List Int) : sameB f iv c u M D K P f iv c u M D K P = true := by simp [sameB]
section
variable {w : World} {ρ : Operand → Value} {o : Oper} {x y : Operand} {v u : Value}
theorem c_EqualI (ho : o.op = .call ⟨.value (.func 35), #[x, y], #[33, 33]⟩) (hf : ρ (.func 35) = .func (.func 35) #[] #[]) (hx : ρ x = v) (hy : ρ y = u) : (execOp ρ o).run Tryz.prog w = .ok (.enter 35 #[v, u]) w := by
  simp only [execOp, ho]
  go_simp
theorem c_EqualN (ho : o.op = .call ⟨.value (.func 36), #[x, y], #[34, 34]⟩) (hf : ρ (.func 36) = .func (.func 36) #[] #[]) (hx : ρ x = v) (hy : ρ y = u) : (execOp ρ o).run Tryz.prog w = .ok (.enter 36 #[v, u]) w := by
  simp only [execOp, ho]
  go_simp
theorem c_Same (ho : o.op = .call ⟨.value (.func 13), #[x, y], #[36, 36]⟩) (hf : ρ (.func 13) = .func (.func 13) #[] #[]) (hx : ρ x = v) (hy : ρ y = u) : (execOp ρ o).run Tryz.prog w = .ok (.enter 13 #[v, u]) w := by
  simp only [execOp, ho]
  go_simp
theorem k_boxR {cs : Array Value} (ho : o.op = .box 36 x) (hx : ρ x = .agg cs) : (execOp ρ o).run Tryz.prog w = .ok (.value (.pointer (some ⟨w.heap.size, 0, none⟩))) (w.alloc (.cells cs 36)) := by
  simp only [execOp, ho, hx]
  go_simp
theorem o_eqU {n m : Int} {q : Bool} (ho : o.op = .binOp .eql 32 x y 32) (hx : ρ x = .int .i64 n) (hy : ρ y = .int .i64 m) (hr : (n == m) = q) : (execOp ρ o).run Tryz.prog w = .ok (.value (.bool q)) w := by
  subst hr
  simp only [execOp, ho, hx, hy]
  go_simp
end
section
variable {P : Program} {ops : Array Oper} {Q : Exit → Act → World → Prop} {a : Act} {w : World}
theorem wanted_is {o : Oper} {t : Array Value} {j d : Nat} {b : Bool} (hg : o.guard = some (j, true)) (hj : (ops[j]?).bind (·.dst) = some d) (hv : t.getD d undef = .bool b) : Region.wanted o (yielded ops t) = b :=
  (wanted_at hg hj hv).trans (by cases b <;> rfl)
theorem bif_at {b : Bool} {x v u : Value} (h : x = (bif b then v else u)) (hb : b = true) : x = v := by rw [h, hb]; rfl
/-- plain region: an operation under a guard that is a letter -/
theorem opG (i d : Nat) (b : Bool) {v : Value} {rest : List Nat} (hd : (ops[i]?).map (·.dst) = some (some d)) (hz : d < a.tmps.size)
    (hy : ∀ o, ops[i]? = some o → Region.wanted o (yielded ops a.tmps) = b ∧ (b = true → (execOp a.eval o).run P w = .ok (.value v) w))
    (h : ∀ a' : Act, Fr d (bif b then v else undef) a a' → wpOps P ops Q rest a' w) : wpOps P ops Q (i :: rest) a w := by
  cases b
  · exact opL_not i d hd hz (fun o ho => (hy o ho).1) h
  · exact opL i d hd hz (fun o ho => ⟨(hy o ho).1, (hy o ho).2 rfl⟩) h
theorem opG_call (i d : Nat) (b : Bool) {f : FuncId} {args : Array Value} {r : Value} {rest : List Nat} (hd : (ops[i]?).map (·.dst) = some (some d)) (hz : d < a.tmps.size)
    (hy : ∀ o, ops[i]? = some o → Region.wanted o (yielded ops a.tmps) = b ∧ (b = true → (execOp a.eval o).run P w = .ok (.enter f args) w))
    (hc : Calls P f args w fun e w' => ∃ v, e = .returned v ∧ v = r ∧ Below w.heap.size w w')
    (h : ∀ (w' : World) (a' : Act), Below w.heap.size w w' → Fr d (bif b then r else undef) a a' → wpOps P ops Q rest a' w') : wpOps P ops Q (i :: rest) a w := by
  cases b
  · exact opL_not i d hd hz (fun o ho => (hy o ho).1) (h w · (Below.refl _ _))
  · refine opL_call i d hd hz (fun o ho => ⟨(hy o ho).1, (hy o ho).2 rfl⟩) hc ?_
    rintro _ w' a' ⟨rfl, hb⟩ hF
    exact h w' a' hb hF
theorem k_pick_and {ρ : Operand → Value} {o : Oper} {c x : Operand} {p t : Bool} (ho : o.op = .pick c x (.const (.bool false))) (hc : ρ c = .bool p) (hx : ρ x = (bif p then .bool t else undef)) (hf : ρ (.const (.bool false)) = .bool false) : (execOp ρ o).run P w = .ok (.value (.bool (p && t))) w := by
  cases p
  · exact k_pick_no ho hc hf
  · exact k_pick_yes ho hc hx
end
end Go.Proofs.YtocpmljkmdpfkaaGreatDoor
