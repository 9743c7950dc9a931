/-
  A run by reckoning: a region that draws its order comes to what it comes to in the text's order.
-/
import Derived.Test.YtkhmbphcjacgnaaGreatDoorEvJ
namespace Go.Proofs.YtkhmbphcjacgnaaGreatDoor
open Go Go.RowKit
section
variable {P : Program} {G : Nat} {X : Kep} {base : Nat} {E : Ren}
theorem relL_of [Ltr] : ∀ {f x : List Value}, f.length = x.length → (∀ t, t < f.length → Rel E (slot f t) (x.getD t undef)) → RelL E f x
  | [], [], _, _ => .nil
  | [], _ :: _, h, _ => by simp at h
  | _ :: _, [], h, _ => by simp at h
  | v :: f, u :: x, h, k => .cons (by simpa [slot] using k 0 (by simp)) (relL_of (by simpa using h) fun t ht => by simpa [slot] using k (t + 1) (by simpa using ht))
variable {call : Caller} {ops : Array Oper} {s : St} {f : List Value} {T : List Nat} {eff : List Nat} {es : List En} {Ks : List RW} {E0 : Ren} {w0 : World} {KN : RW}
theorem all_listed [Ltr] [Orc] (hs : static G ops T = true) {listed : Array Bool} (hsz : listed.size = ops.size) (hr : Region.ready .any ops listed = []) : ∀ i, i < ops.size → listed.getD i false = true := by
  intro i
  induction i using Nat.strongRecOn with
  | _ i ih =>
    intro hi
    cases hl : listed.getD i false with
    | true => rfl
    | false =>
      exfalso
      have ho : ops[i]? = some ops[i] := by simp [hi]
      obtain ⟨_, h2, _⟩ := static_at hs ho
      have : i ∈ Region.ready .any ops listed := mem_ready.2 ⟨by
        have : i < listed.size := by rw [hsz]; exact hi
        simp [this] at hl ⊢
        exact hl, ops[i], ho, fun e he hb => by
        have hm : e.on ∈ bOn ops[i] := List.mem_map.2 ⟨e, List.mem_filter.2 ⟨by simpa using he, hb⟩, rfl⟩
        have := h2 e.on hm
        exact ih e.on this (by omega)⟩
      rw [hr] at this
      cases this
theorem stepAt_memfree [Ltr] [Orc] {g : List Value} {o : Oper} {K0 K2 : RW} {v : Value} (hm : memfree o.op = true) (h : stepAt P base call g o K0 = some (v, K2)) (K : RW) : stepAt P base call g o K = some (v, K) := by
  unfold stepAt at h ⊢
  cases hoc : Orc.f o.op (ev g) with
  | some u =>
    rw [hoc] at h
    obtain ⟨rfl, rfl⟩ := Prod.mk.inj (Option.some.inj h)
    rfl
  | none =>
  rw [hoc] at h
  dsimp only at h ⊢
  cases hevm : evM P base (ev g) o K0 with
  | none => rw [hevm] at h; cases h
  | some p =>
    obtain ⟨nx, H1⟩ := p
    have hev := evM_free hm hevm
    have hq : quiet P o.op = true := by cases ho : o.op <;> rw [ho] at hm <;> first | rfl | cases hm
    obtain ⟨_, u, rfl⟩ := quiet_H hq hev
    rw [hevm] at h
    obtain ⟨rfl, rfl⟩ := Prod.mk.inj (Option.some.inj h)
    rw [evM_of (memfree_at hm hev K)]
theorem draw_any [Ltr] [Orc] [OrcOk P G X base] {ro : Option Nat} {n : Nat} (hc : CallOk P G X base call) (hs : static G ops T = true) (ht : TrOk P base call ops ops.toList.zipIdx s.f s.H 0 es eff Ks f) (hchk : chkAll P base call T eff f Ks ops.toList.zipIdx es = true) (hK : lastK Ks = some KN) (hnd : eff.Nodup) (hlt : ∀ p ∈ eff, p < ops.size) (hgd : ∀ o ∈ ops.toList, gdOk ops o f = true) :
    ∀ (fuel : Nat) (listed : Array Bool) (a : Act) (w : World) (E : Ren) (st : Nat) (K : RW) (U : List Nat), DI ops s f eff G X base E0 E w0 K st listed a w → Ks[st]? = some K → U.Nodup →
      (∀ i, i < ops.size → (listed.getD i false = false ↔ i ∈ U)) → U.length = fuel → wpAnyIn (Wd ro) n P .any ops (Post G X base E0 w0 .normal ⟨f, KN, s.ds⟩) fuel listed a w := by
  have hlen : f.length = s.f.length := ht.len
  have hk1 := ht.kl
  have hsame : ∀ t, (∀ (i : Nat) (o : Oper), ops[i]? = some o → o.dst ≠ some t) → slot f t = slot s.f t := fun t hn => ht.same t fun p hp => by
    obtain ⟨o, i⟩ := p
    rw [List.mem_zipIdx_iff_getElem?] at hp
    exact hn i o (by simpa using hp)
  have fin : ∀ (listed : Array Bool) (a : Act) (w : World) (E : Ren) (st : Nat) (K : RW), DI ops s f eff G X base E0 E w0 K st listed a w → Ks[st]? = some K → (∀ i, i < ops.size → listed.getD i false = true) →
      Post G X base E0 w0 .normal ⟨f, KN, s.ds⟩ .normal a w := by
    intro listed a w E st K D hst hall
    have hdrop : eff.drop st = [] := by
      cases hd : eff.drop st with
      | nil => rfl
      | cons p l =>
        exfalso
        have h1 := D.e2 p (by rw [hd]; simp)
        have hp : p ∈ eff := List.mem_of_mem_drop (i := st) (by rw [hd]; simp)
        rw [hall p (hlt p hp)] at h1
        cases h1
    have hge : eff.length ≤ st := List.drop_eq_nil_iff.1 hdrop
    have hlt' : st < Ks.length := by
      rcases Nat.lt_or_ge st Ks.length with h | h
      · exact h
      · rw [List.getElem?_eq_none h] at hst; cases hst
    have hse : st = Ks.length - 1 := by omega
    have := lastK_spec hK
    rw [← hse, hst] at this
    obtain rfl := Option.some.inj this
    refine ⟨rfl, E, D.x, ⟨D.d, relL_of (by simp [D.len, hlen]) fun t _ => ?_, D.rep, D.g⟩, D.b⟩
    rw [← getD_toList]
    by_cases hw : ∃ (j : Nat) (oj : Oper), ops[j]? = some oj ∧ oj.dst = some t
    · obtain ⟨j, oj, hj, hd⟩ := hw
      exact D.set t j oj hj (hall j (Array.getElem?_eq_some_iff.1 hj).1) hd
    · have hno : ∀ (j : Nat) (oj : Oper), ops[j]? = some oj → oj.dst ≠ some t := fun j oj hj hd => hw ⟨j, oj, hj, hd⟩
      rw [hsame t hno]
      exact D.old t fun j oj hj _ => hno j oj hj
  intro fuel
  induction fuel with
  | zero =>
    intro listed a w E st K U D hst hU hUi hUl
    have hall : ∀ i, i < ops.size → listed.getD i false = true := by
      intro i hi
      cases hl : listed.getD i false with
      | true => rfl
      | false =>
        have := (hUi i hi).1 hl
        rw [List.eq_nil_of_length_eq_zero hUl] at this
        cases this
    refine ⟨?_, fin listed a w E st K D hst hall⟩
    cases hr : Region.ready .any ops listed with
    | nil => rfl
    | cons i l =>
      exfalso
      obtain ⟨h1, o, ho, _⟩ := mem_ready.1 (show i ∈ Region.ready .any ops listed by rw [hr]; simp)
      have hi := (Array.getElem?_eq_some_iff.1 ho).1
      have h2 := hall i hi
      have : i < listed.size := by rw [D.sz]; exact hi
      simp [this] at h1 h2
      rw [h1] at h2
      cases h2
  | succ fuel ih =>
    intro listed a w E st K U D hst hU hUi hUl
    refine ⟨fun hr => fin listed a w E st K D hst (all_listed hs D.sz hr), fun i hi => ?_⟩
    obtain ⟨h1, o, ho, hdeps⟩ := mem_ready.1 hi
    have hilt := (Array.getElem?_eq_some_iff.1 ho).1
    have hil : i < listed.size := by rw [D.sz]; exact hilt
    have hun : listed.getD i false = false := by
      simp [hil] at h1 ⊢
      exact h1
    have hb : ∀ e ∈ bOn o, listed.getD e false = true := by
      intro e he
      obtain ⟨ed, hm, rfl⟩ := List.mem_map.1 he
      obtain ⟨m1, m2⟩ := List.mem_filter.1 hm
      exact hdeps ed (by simpa using m1) m2
    have hoi : ops.toList.zipIdx[i]? = some (o, i) := by rw [List.getElem?_zipIdx]; simp [ho]
    obtain ⟨en, hen, hchks⟩ := chkAll_at hchk hoi
    have hchk1 := hchks st K hst
    obtain ⟨_, ht2, ht3, ht4, ht5, ht6, ht7⟩ := ht.en i o i en hoi hen
    rw [Nat.sub_zero] at ht2 ht6
    have hstat := (static_at hs ho).2.2
    unfold okReads at hstat
    simp only [Bool.and_eq_true] at hstat
    have hlate := fun j h => anc_lt hs i i o j (Nat.le_refl _) ho h
    have hen_slot : ∀ t, Operand.tmp t ∈ o.op.operands → slot f t = slot en.f t := fun t hm => by
      have h1 := List.all_eq_true.1 hstat.1 (.tmp t) (by simpa using hm)
      simp only [Bool.and_eq_true] at h1
      exact ht3 t (no_later h1.2 hlate)
    have hwant : en.w = Region.wanted o (yielded ops ⟨f⟩) := by
      rw [ht5]
      unfold Region.wanted
      cases hg : o.guard with
      | none => rfl
      | some gd =>
        obtain ⟨j, want⟩ := gd
        dsimp only
        have h2 := hstat.2
        rw [hg] at h2
        simp only [Bool.and_eq_true] at h2
        have : yielded ops ⟨en.f⟩ j = yielded ops ⟨f⟩ j := by
          unfold yielded
          have e1 : ops.toList[j]? = ops[j]? := by simp
          rw [e1] at h2
          cases hd : (ops[j]?).bind (·.dst) with
          | none => rfl
          | some t =>
            rw [hd] at h2
            have hsl := ht3 t (no_later h2.2 hlate)
            show (match (⟨en.f⟩ : Array Value)[t]? with | some (.bool b) => some b | _ => none) = (match (⟨f⟩ : Array Value)[t]? with | some (.bool b) => some b | _ => none)
            rcases Nat.lt_or_ge t f.length with h | h
            · have h3 : (⟨f⟩ : Array Value)[t]? = some (slot f t) := by simpa using slot_get h
              have h4 : (⟨en.f⟩ : Array Value)[t]? = some (slot en.f t) := by
                have : t < en.f.length := by rw [ht4, ← hlen]; exact h
                simpa using slot_get this
              rw [h3, h4, hsl]
            · have h3 : (⟨f⟩ : Array Value)[t]? = none := by simpa using h
              have h4 : (⟨en.f⟩ : Array Value)[t]? = none := by
                have : en.f.length ≤ t := by rw [ht4, ← hlen]; exact h
                simpa using this
              rw [h3, h4]
        rw [this]
    have hanc := fun j h => anc_done hs D.dc D.sz i i o j (Nat.le_refl _) ho hb h
    have hC : (bif en.w then bif Nat.beq en.s st then dstOk o en.v f && (en.ch || !eff.elem i) else bif memfree o.op then dstOk o en.v f && !eff.elem i else match stepAt P base call en.f o K with
        | some (v, K1) => dstOk o v f && !eff.elem i && (quiet P o.op || eqW K1 K)
        | none => false
      else dstOk o undef f && !eff.elem i) = true := by
      unfold chk1 at hchk1
      simp only [Bool.or_eq_true] at hchk1
      rcases hchk1 with (h | h) | h
      · exfalso
        obtain ⟨p, hp, hbit⟩ := List.any_eq_true.1 h
        have := hanc p hbit
        rw [D.e2 p hp] at this
        cases this
      · exfalso
        obtain ⟨p, hp, hbit⟩ := List.any_eq_true.1 h
        simp only [Bool.or_eq_true] at hbit
        have hpl := D.e1 p hp
        rcases hbit with hbit | hbit
        · rw [Nat.eq_of_beq_eq_true hbit, hun] at hpl
          cases hpl
        · have hpl' := hlt p (List.mem_of_mem_take hp)
          obtain ⟨op, hop⟩ : ∃ op, ops[p]? = some op := ⟨ops[p], by simp [hpl']⟩
          have := anc_done hs D.dc D.sz p p op i (Nat.le_refl _) hop (D.dc p op hop hpl) hbit
          rw [hun] at this
          cases this
      · exact h
    have next : ∀ {F : Ren} {v' : Value} {K' : RW} {st' : Nat} {w' : World}, (∀ d, o.dst = some d → Rel F (slot f d) v') → Ext E F → Rep X base F K' w' → Kp X w w' → Ks[st']? = some K' →
        (∀ p ∈ eff.take st', p = i ∨ listed.getD p false = true) → (∀ p ∈ eff.drop st', p ≠ i ∧ listed.getD p false = false) →
        wpAnyIn (Wd ro) n P .any ops (Post G X base E0 w0 .normal ⟨f, KN, s.ds⟩) fuel (listed.setIfInBounds i true) (a.put o.dst v') w' := by
      intro F v' K' st' w' hv x R b hKs he1 he2
      refine ih _ _ w' F st' K' (U.erase i) (D.step ho hb hlen hv x R b he1 he2) hKs (hU.erase i) ?_ ?_
      · intro j hj
        rw [getD_set hil]
        by_cases hji : j = i
        · subst hji
          rw [if_pos rfl]
          constructor
          · intro h; cases h
          · intro h; exact absurd h (List.Nodup.not_mem_erase hU)
        · rw [if_neg hji, hUi j hj, List.mem_erase_of_ne hji]
      · rw [List.length_erase_of_mem ((hUi i hilt).1 hun), hUl]
        rfl
    have hdst : ∀ {v : Value}, dstOk o v f = true → ∀ d, o.dst = some d → v = slot f d := by
      intro v h d hd
      unfold dstOk at h
      rw [hd] at h
      exact veqn_eq 4 _ _ h
    unfold wpOpIn
    rw [ho]
    dsimp only
    rw [D.want hs hlen hgd ho hb, ← hwant]
    cases hw : en.w with
    | false =>
      rw [hw] at hC
      simp only [Bool.false_eq_true, if_false]
      dsimp only [cond_false] at hC
      simp only [Bool.and_eq_true, Bool.not_eq_true'] at hC
      have hni : i ∉ eff := fun h => by rw [List.elem_eq_true_of_mem h] at hC; cases hC.2
      exact ⟨fun f _ => wd_fn f, next (fun d hd => by rw [← hdst hC.1 d hd]; exact .same rfl) (Ext.refl E) D.rep (Kp.refl _ _) hst (fun p hp => .inr (D.e1 p hp)) (fun p hp => ⟨fun h => hni (h ▸ List.mem_of_mem_drop hp), D.e2 p hp⟩)⟩
    | true =>
      rw [hw] at hC
      simp only [if_true]
      dsimp only [cond_true] at hC
      -- what it comes to, and how memory stands behind it
      have ⟨v, K1, hstep, hdo, hqe⟩ : ∃ v K1, stepAt P base call en.f o K = some (v, K1) ∧ dstOk o v f = true ∧ (i ∉ eff ∧ (quiet P o.op = true ∨ K1 = K) ∨ eff[st]? = some i ∧ Ks[st + 1]? = some K1) := by
        cases hcan : Nat.beq en.s st with
        | true =>
          rw [hcan] at hC
          dsimp only [cond_true] at hC
          simp only [Bool.and_eq_true, Bool.or_eq_true, Bool.not_eq_true'] at hC
          have hes := Nat.eq_of_beq_eq_true hcan
          rw [hes] at ht2 ht6
          rw [hst] at ht2
          obtain rfl := Option.some.inj ht2
          obtain ⟨K2, h1, h2⟩ := ht6 hw
          refine ⟨en.v, K2, h1, hC.1, ?_⟩
          rcases h2 with ⟨h2, h3⟩ | ⟨_, h3, h4⟩
          · rw [h3] at hC
            exact .inl ⟨fun h => (by rw [List.elem_eq_true_of_mem h] at hC; simp at hC), h2⟩
          · exact .inr ⟨h3, h4⟩
        | false =>
          rw [hcan] at hC
          dsimp only [cond_false] at hC
          cases hmf : memfree o.op with
          | true =>
            rw [hmf] at hC
            dsimp only [cond_true] at hC
            simp only [Bool.and_eq_true, Bool.not_eq_true'] at hC
            obtain ⟨K2, h1, _⟩ := ht6 hw
            exact ⟨en.v, K, stepAt_memfree hmf h1 K, hC.1, .inl ⟨fun h => (by rw [List.elem_eq_true_of_mem h] at hC; cases hC.2), .inr rfl⟩⟩
          | false =>
          rw [hmf] at hC
          dsimp only [cond_false] at hC
          cases hstp : stepAt P base call en.f o K with
          | none => rw [hstp] at hC; cases hC
          | some q =>
            obtain ⟨v, K1⟩ := q
            rw [hstp] at hC
            simp only [Bool.and_eq_true, Bool.or_eq_true, Bool.not_eq_true'] at hC
            refine ⟨v, K1, rfl, hC.1.1, .inl ⟨fun h => (by rw [List.elem_eq_true_of_mem h] at hC; cases hC.1.2), ?_⟩⟩
            rcases hC.2 with h | h
            · exact .inl h
            · exact .inr (eqW_eq h)
      have hval := fun d hd => hdst hdo d hd
      have go : ∀ {F : Ren} {v' : Value} {w' : World}, Rel F v v' → Ext E F → Rep X base F K1 w' → Kp X w w' → (quiet P o.op = true → K1 = K) →
          wpAnyIn (Wd ro) n P .any ops (Post G X base E0 w0 .normal ⟨f, KN, s.ds⟩) fuel (listed.setIfInBounds i true) (a.put o.dst v') w' := by
        intro F v' w' rv x R b hq
        rcases hqe with ⟨hni, hqq⟩ | ⟨hes, hKs⟩
        · have hKK : K1 = K := by
            rcases hqq with h | h
            · exact hq h
            · exact h
          rw [hKK] at R
          exact next (fun d hd => by rw [← hval d hd]; exact rv) x R b hst (fun p hp => .inr (D.e1 p hp)) (fun p hp => ⟨fun h => hni (h ▸ List.mem_of_mem_drop hp), D.e2 p hp⟩)
        · have hlt' : st < eff.length := by
            rcases Nat.lt_or_ge st eff.length with h | h
            · exact h
            · rw [List.getElem?_eq_none h] at hes; cases hes
          have hpe : eff[st] = i := by rw [List.getElem?_eq_getElem hlt'] at hes; exact Option.some.inj hes
          refine next (st' := st + 1) (fun d hd => by rw [← hval d hd]; exact rv) x R b hKs ?_ ?_
          · intro q hq
            rw [List.take_succ_eq_append_getElem hlt', List.mem_append] at hq
            rcases hq with hq | hq
            · exact .inr (D.e1 q hq)
            · exact .inl (by rw [← hpe]; simpa using hq)
          · intro q hq
            have hq' : q ∈ eff.drop st := by rw [List.drop_eq_getElem_cons hlt']; exact List.mem_cons_of_mem _ hq
            refine ⟨fun hqp => ?_, D.e2 q hq'⟩
            have hnd' : (eff.drop st).Nodup := List.Nodup.sublist (List.drop_sublist _ _) hnd
            rw [List.drop_eq_getElem_cons hlt', List.nodup_cons, hpe] at hnd'
            exact hnd'.1 (hqp ▸ hq)
      have hreads : ∀ x ∈ o.op.operands, Rel E (ev en.f x) (a.eval x) := fun x hx => by
        have h1 := D.reads hs hsame ho hb x hx
        cases x with
        | tmp t => rw [show ev en.f (.tmp t) = ev f (.tmp t) from (hen_slot t hx).symm]; exact h1
        | _ => exact h1
      unfold stepAt at hstep
      cases hoc : Orc.f o.op (ev en.f) with
      | some u =>
        rw [hoc] at hstep
        obtain ⟨rfl, rfl⟩ := Prod.mk.inj (Option.some.inj hstep)
        obtain ⟨v', hr, rv, hnd⟩ := OrcOk.ok (P := P) (G := G) (X := X) (base := base) o (ev en.f) a.eval E _ hreads hoc w D.rep.fx
        refine upon_of hnd ?_
        rw [hr]
        exact go rv (Ext.refl E) D.rep (Kp.refl _ _) fun _ => rfl
      | none =>
      rw [hoc] at hstep
      dsimp only at hstep
      cases hev : evM P base (ev en.f) o K with
      | none => rw [hev] at hstep; cases hstep
      | some p =>
        obtain ⟨nx, H1⟩ := p
        rw [hev] at hstep
        obtain ⟨F, nx', w', hr, x1, R1, b1, rn⟩ := evM_sound (G := G) (X := X) (E := E) (ρ' := a.eval) (w := w) hreads D.rep hev
        refine upon_of (evM_nodefer (G := G) (X := X) hev) ?_
        rw [hr]
        cases nx with
        | value u =>
          obtain ⟨rfl, rfl⟩ := Prod.mk.inj (Option.some.inj hstep)
          cases nx' with
          | value v' => exact go rn x1 R1 b1 fun hq => (evM_quiet (G := G) (X := X) hq hev).1
          | _ => exact rn.elim
        | skip =>
          obtain ⟨rfl, rfl⟩ := Prod.mk.inj (Option.some.inj hstep)
          cases nx' with
          | skip => exact go (.same rfl) x1 R1 b1 fun hq => (evM_quiet (G := G) (X := X) hq hev).1
          | _ => exact rn.elim
        | enter g args =>
          cases nx' with
          | enter g' args' =>
            obtain ⟨rfl, ra⟩ := rn
            have hcl : call g args.toList H1 = some (v, K1) := hstep
            refine ⟨wd_depth, CallsIn.mono (calls_wd (hc g args.toList H1 v K1 F w' args'.toList R1 (D.g.mono x1) ra hcl)) fun en w2 p => ?_⟩
            obtain ⟨v', F2, rfl, x2, R2, b2, rv⟩ := p
            exact go rv (x1.trans x2) R2 (b1.trans b2) fun hq => by
              obtain ⟨_, u, hu⟩ := evM_quiet (G := G) (X := X) hq hev
              cases hu
          | _ => exact rn.elim
        | _ => cases hstep
theorem drawEv_sound [Ltr] [Orc] [OrcOk P G X base] {ro : Option Nat} {n : Nat} (hm : P.follows .mixedOrders = true) (hc : CallOk P G X base call) {id : Nat} {s1 : St} {a : Act} {w : World} (h : FR G X base E s a w) (e : drawEv P G base call ops s = some s1) : (Code.region id ops true).wpIn (Wd ro) n P (Post G X base E w .normal s1) a w := by
  unfold drawEv at e
  split at e
  · cases e
  · rename_i es eff Ks f htr
    obtain ⟨hck, e⟩ := cond_some e
    simp only [Bool.and_eq_true] at hck
    split at e
    · rename_i KN hK
      obtain rfl := Option.some.inj e
      have T := tr_spec htr
      refine wpIn_region_any hm ?_
      have hrep : Rep X base E s.H { w with drawn := w.drawn + 1 } := ⟨h.r.dom, h.r.ok, h.r.inj, h.r.new, h.r.lt, h.r.bn, h.r.fx⟩
      have hf : ∀ i, (Array.replicate ops.size false).getD i false = false := fun i => by
        rcases Nat.lt_or_ge i ops.size with h | h <;> simp [h]
      refine draw_any hc hck.1.1.1.1 T hck.1.1.1.2 hK (ndp_nodup hck.1.1.2) (fun p hp => Nat.le_of_ble_eq_true (List.all_eq_true.1 hck.2 p hp)) (fun o ho => List.all_eq_true.1 hck.1.2 o ho) ops.size _ a _ E 0 s.H (List.range ops.size) ⟨Ext.refl E, ⟨rfl, rfl, rfl, Nat.le_refl _, fun _ _ => rfl⟩, h.d, ?_, ?_, ?_, hrep, h.g, by simp, ?_, ?_, ?_⟩ T.k0 List.nodup_range ?_ (by simp)
      · have := h.t.length; simpa using this
      · intro t i o _ hi; rw [hf] at hi; cases hi
      · intro t _; rw [getD_toList]; exact slot_rel h.t t
      · intro p hp; simp at hp
      · intro p _; exact hf p
      · intro i o _ hi; rw [hf] at hi; cases hi
      · intro i hi; simp [hi, hf]
    · cases e
end
end Go.Proofs.YtkhmbphcjacgnaaGreatDoor
