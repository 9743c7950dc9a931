/-
  A run by reckoning: loops whose rounds are told by letters; loops, and operations over memory, as entries.
-/
import Derived.Test.YtkhmbphcjacgnaaGreatDoorEvX
namespace Go.Proofs.YtkhmbphcjacgnaaGreatDoor
open Go Go.RowKit
def exq : Exit → Exit → Bool
  | .normal, .normal => true
  | .ret, .ret => true
  | .exit i, .exit j => Nat.beq i j
  | _, _ => false
theorem exq_eq {a b : Exit} (h : exq a b = true) : a = b := by
  unfold exq at h
  split at h
  · rfl
  · rfl
  · rw [Nat.eq_of_beq_eq_true h]
  · cases h
/-- the code b comes from s to y and s', told anew -/
def comes [Orc] (P : Program) (pr : Prim) (G base n : Nat) (b : Code) (s : St) (y : Exit) (T : Tra) (n0 : Nat) (tl : List (Nat × Nat)) (s' : St) : Bool :=
  match codeQ P pr G base n true b s with
  | some p => exq p.1 y && rst T n0 tl G base p.2 s'
  | none => false
/-- what E0 names stays, below n0 -/
def Stays (n0 : Nat) (E F : Ren) : Prop := ∀ E0 : Ren, Ext E0 E → (∀ i, n0 ≤ i → E0 i = none) → Ext E0 F
section
variable {P : Program} {pr : Prim} {G : Nat} {X : Kep} {base : Nat}
theorem told (L : Ltr) [Orc] [@OrcOk L P G X base _] (hm : P.follows .mixedOrders = true) (hpr : @PrimOk L P pr G X base) {L' : Ltr} {T : Tra} (hT : TraOk L L' T) (hg : ∀ p ∈ T.g, p.1.live = true) {n n0 : Nat} {tl : List (Nat × Nat)} {b : Code} {s s' : St} {y : Exit}
    (e : comes P pr G base n b s y T n0 tl s' = true) {ro : Option Nat} {k : Nat} {E : Ren} {a : Act} {w : World} (h : @FR L G X base E s a w) :
    b.wpIn (Wd ro) k P (fun e a' w' => e = y ∧ ∃ F, Stays n0 E F ∧ Kp X w w' ∧ @FR L' G X base F s' a' w') a w := by
  unfold comes at e
  cases hc : codeQ P pr G base n true b s with
  | none => rw [hc] at e; cases e
  | some p =>
    obtain ⟨x, s1⟩ := p
    rw [hc] at e
    simp only [Bool.and_eq_true] at e
    rw [codeQ_eq] at hc
    refine wpIn_mono (@codeEv_sound P pr G X base L _ _ hm hpr n true ro k (.inl rfl) b s x s1 E a w h hc) ?_
    rintro e2 a2 w2 ⟨rfl, F, x1, R, b1⟩
    obtain ⟨r1, r2⟩ := retell hT hg R e.2
    exact ⟨exq_eq e.1, _, fun E0 h0 hd => r2 E0 (h0.trans x1) hd, b1, r1⟩
/-- behind a round: on, or out -/
def RPost (G : Nat) (X : Kep) (base : Nat) {D : Type} (L : D → Ltr) (s : D → St) (mu : D → Nat) (good : D → Prop) (Lo : Ltr) (x : Exit) (s1 : St) (n0 : Nat) (d : D) (E : Ren) (w : World) : Exit → Act → World → Prop :=
  fun e a' w' => ∃ F, Stays n0 E F ∧ Kp X w w' ∧ ((e = .normal ∧ ∃ d', good d' ∧ mu d' < mu d ∧ @FR (L d') G X base F (s d') a' w') ∨ (e ≠ .normal ∧ e = x ∧ @FR Lo G X base F s1 a' w'))
/-- what a round of a loop may come to -/
def Rnd (P : Program) (G : Nat) (X : Kep) (base : Nat) {D : Type} (L : D → Ltr) (s : D → St) (mu : D → Nat) (good : D → Prop) (Lo : Ltr) (x : Exit) (s1 : St) (n0 : Nat) (b : Code) : Prop :=
  ∀ d, good d → ∀ (ro : Option Nat) (k : Nat) (E : Ren) (a : Act) (w : World), @FR (L d) G X base E (s d) a w → b.wpIn (Wd ro) k P (RPost G X base L s mu good Lo x s1 n0 d E w) a w
section
variable {D : Type} {L : D → Ltr} {s : D → St} {mu : D → Nat} {good : D → Prop} {Lo : Ltr} {x : Exit} {s1 : St} {n0 : Nat} {b : Code} {d : D} {E : Ren} {a : Act} {w : World} {ro : Option Nat} {k : Nat}
theorem r_on (d' : D) (h : b.wpIn (Wd ro) k P (fun e a' w' => e = .normal ∧ ∃ F, Stays n0 E F ∧ Kp X w w' ∧ @FR (L d') G X base F (s d') a' w') a w) (hg : good d') (hm : mu d' < mu d) : b.wpIn (Wd ro) k P (RPost G X base L s mu good Lo x s1 n0 d E w) a w :=
  wpIn_mono h fun _ _ _ ⟨e, F, h1, h2, h3⟩ => ⟨F, h1, h2, .inl ⟨e, d', hg, hm, h3⟩⟩
theorem r_out (hx : x ≠ .normal) (h : b.wpIn (Wd ro) k P (fun e a' w' => e = x ∧ ∃ F, Stays n0 E F ∧ Kp X w w' ∧ @FR Lo G X base F s1 a' w') a w) : b.wpIn (Wd ro) k P (RPost G X base L s mu good Lo x s1 n0 d E w) a w :=
  wpIn_mono h fun _ _ _ ⟨e, F, h1, h2, h3⟩ => ⟨F, h1, h2, .inr ⟨e ▸ hx, e, h3⟩⟩
end
theorem rounds {D : Type} {L : D → Ltr} {s : D → St} {mu : D → Nat} {good : D → Prop} {Lo : Ltr} {x : Exit} {s1 : St} {n0 : Nat} {b : Code} (hr : Rnd P G X base L s mu good Lo x s1 n0 b)
    {d : D} (hd : good d) {ro : Option Nat} {k : Nat} {E E0 : Ren} {a : Act} {w : World} (hx : Ext E0 E) (h0 : ∀ i, n0 ≤ i → E0 i = none) (h : @FR (L d) G X base E (s d) a w) :
    (Code.loop b).wpIn (Wd ro) k P (@Post Lo G X base E0 w x s1) a w := by
  refine wp_loop_ind (m := mu d + 1) (fun m a' w' => ∃ d F, good d ∧ mu d < m ∧ Ext E0 F ∧ Kp X w w' ∧ @FR (L d) G X base F (s d) a' w') ?_ ?_ ⟨d, E, hd, Nat.lt_succ_self _, hx, Kp.refl _ _, h⟩
  · rintro a w ⟨d, F, _, h, _⟩
    omega
  · rintro m a' w' ⟨d, F, hd, hlt, hx, b0, h⟩
    refine wpIn_mono (hr d hd ro k F a' w' h) ?_
    rintro e2 a2 w2 ⟨K, hs, b1, h2⟩
    rcases h2 with ⟨rfl, d', hd', hmu, h2⟩ | ⟨hne, rfl, h2⟩
    · exact ⟨d', K, hd', by omega, hs E0 hx h0, b0.trans b1, h2⟩
    · have post : @Post Lo G X base E0 w e2 s1 e2 a2 w2 := ⟨rfl, K, hs E0 hx h0, h2, b0.trans b1⟩
      cases e2 with
      | normal => exact absurd rfl hne
      | _ => exact post
/-- a loop as an entry: its code; how the state ahead is told; what it comes to -/
structure CE where
  code : Code
  T : Tra
  n0 : Nat
  tl : List (Nat × Nat)
  s0 : St
  x : Exit
  s1 : St
def orcC (G base : Nat) : List CE → Code → St → Option (Exit × St)
  | [], _, _ => none
  | c :: l, b, s => bif ceq b c.code && Nat.ble s.H.n c.n0 && rst c.T c.n0 c.tl G base s c.s0 then some (c.x, c.s1) else orcC G base l b s
def CEOk [L : Ltr] (P : Program) (G : Nat) (X : Kep) (base : Nat) (c : CE) : Prop :=
  ∃ L0 : Ltr, TraOk L L0 c.T ∧ (∀ p ∈ c.T.g, p.1.live = true) ∧ ∀ (ro : Option Nat) (k : Nat) (E E0 : Ren) (a : Act) (w : World), Ext E0 E → (∀ i, c.n0 ≤ i → E0 i = none) → @FR L0 G X base E c.s0 a w → c.code.wpIn (Wd ro) k P (@Post L G X base E0 w c.x c.s1) a w
theorem orcC_ok [Ltr] : ∀ {l : List CE}, (∀ c ∈ l, CEOk P G X base c) → ∀ (ro : Option Nat) (n : Nat) (c : Code) (s : St) (x : Exit) (s1 : St) (E : Ren) (a : Act) (w : World), FR G X base E s a w → orcC G base l c s = some (x, s1) → c.wpIn (Wd ro) n P (Post G X base E w x s1) a w
  | [], _, _, _, _, _, _, _, _, _, _, _, e => by cases e
  | q :: l, h, ro, n, c, s, x, s1, E, a, w, hf, e => by
    unfold orcC at e
    cases hb : (ceq c q.code && Nat.ble s.H.n q.n0 && rst q.T q.n0 q.tl G base s q.s0) with
    | true =>
      rw [hb] at e
      obtain ⟨rfl, rfl⟩ := Prod.mk.inj (Option.some.inj e)
      simp only [Bool.and_eq_true] at hb
      have hn := Nat.le_of_ble_eq_true hb.1.2
      have hdom : ∀ i, q.n0 ≤ i → E i = none := fun i hi => hf.r.dom i (Nat.le_trans hn hi)
      obtain ⟨L0, hT, hg, hw⟩ := h q List.mem_cons_self
      obtain ⟨r1, r2⟩ := retell hT hg hf hb.2
      rw [ceq_eq hb.1.1]
      exact hw ro n _ E a w (r2 E (Ext.refl E) hdom) hdom r1
    | false =>
      rw [hb] at e
      exact orcC_ok (fun y hy => h y (List.mem_cons_of_mem _ hy)) ro n c s x s1 E a w hf e
/-- an operation over letters and memory as an entry -/
structure ME where
  f : Op → (Operand → Value) → RW → Option (Next × RW)
def orcM : List ME → Op → (Operand → Value) → RW → Option (Next × RW)
  | [], _, _, _ => none
  | e :: l, op, ρ, H => match e.f op ρ H with
    | some r => some r
    | none => orcM l op ρ H
structure MEOk [Ltr] (P : Program) (X : Kep) (base : Nat) (e : ME) : Prop where
  ok : ∀ (o : Oper) (ρ ρ' : Operand → Value) (E : Ren) (H H1 : RW) (nx : Next) (w : World), (∀ x ∈ o.op.operands, Rel E (ρ x) (ρ' x)) → Rep X base E H w → e.f o.op ρ H = some (nx, H1) → Does P X base E w nx H1 (execOp ρ' o)
  q : ∀ (o : Op) (ρ : Operand → Value) (H H1 : RW) (nx : Next), e.f o ρ H = some (nx, H1) → (∀ c, o ≠ .defer c) ∧ (quiet P o = true → H1 = H ∧ ∃ u, nx = .value u)
theorem orcM_at {op : Op} {ρ : Operand → Value} {H : RW} {r : Next × RW} : ∀ {l : List ME}, orcM l op ρ H = some r → ∃ e ∈ l, e.f op ρ H = some r
  | [], h => by cases h
  | e :: l, h => by
    unfold orcM at h
    cases he : e.f op ρ H with
    | some q => rw [he] at h; exact ⟨e, List.mem_cons_self, by rw [he]; exact h⟩
    | none =>
      rw [he] at h
      obtain ⟨x, hx, h⟩ := orcM_at h
      exact ⟨x, List.mem_cons_of_mem _ hx, h⟩
abbrev orcG (G base : Nat) (O : List OE) (M : List ME) (C : List CE) : Orc := ⟨orcF O, orcM M, orcC G base C⟩
theorem orcG_ok [Ltr] {O : List OE} {M : List ME} {C : List CE} (hO : ∀ e ∈ O, OEOkX P X e) (hM : ∀ e ∈ M, MEOk P X base e) (hC : ∀ c ∈ C, CEOk P G X base c) : @OrcOk _ P G X base (orcG G base O M C) :=
  @OrcOk.mk _ P G X base (orcG G base O M C) (orcF_ok hO)
    (fun o ρ ρ' E H H1 nx w hρ hR e => by
      obtain ⟨x, hx, h⟩ := orcM_at e
      exact (hM x hx).ok o ρ ρ' E H H1 nx w hρ hR h)
    (fun o ρ H H1 nx e => by
      obtain ⟨x, hx, h⟩ := orcM_at e
      exact (hM x hx).q o ρ H H1 nx h)
    (orcC_ok hC)
/-- a frame of n slots: those that matter, the others whatever -/
def fr (n : Nat) (l : List (Nat × Value)) : List Value := l.foldl (fun f p => f.set p.1 p.2) (List.replicate n TOP)
/-- a function's code -/
def bodyOf (P : Program) (f : FuncId) : Code :=
  match P.funcs[f]? with
  | some fn => fn.body.getD .skip
  | none => .skip
/-- the n-th loop in a code, in the text's order -/
def loopsOf : Code → List Code
  | .seq a b => loopsOf a ++ loopsOf b
  | .cond _ a b => loopsOf a ++ loopsOf b
  | .block _ a => loopsOf a
  | .loop a => .loop a :: loopsOf a
  | .scope a => loopsOf a
  | _ => []
def loopOf (P : Program) (f : FuncId) (i : Nat) : Code := (loopsOf (bodyOf P f)).getD i .skip
def inLoop : Code → Code
  | .loop b => b
  | c => c
/-- a loop as an entry, by its rounds -/
theorem ce_of [Lo : Ltr] {D : Type} {L : D → Ltr} {s : D → St} {mu : D → Nat} {good : D → Prop} {q : CE} {b : Code} (hb : q.code = .loop b) (hr : Rnd P G X base L s mu good Lo q.x q.s1 q.n0 b) (d : D) (hd : good d) (hs : q.s0 = s d) (hT : TraOk Lo (L d) q.T) (hg : ∀ p ∈ q.T.g, p.1.live = true) : CEOk P G X base q :=
  ⟨L d, hT, hg, fun ro k E E0 a w hx h0 h => by
    rw [hb]
    exact rounds hr hd hx h0 (by rw [← hs]; exact h)⟩
end
end Go.Proofs.YtkhmbphcjacgnaaGreatDoor
