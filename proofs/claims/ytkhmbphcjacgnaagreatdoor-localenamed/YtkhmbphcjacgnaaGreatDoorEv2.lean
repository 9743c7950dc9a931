/-
  A run by reckoning, part 2: trees of steps over a memory of names; each kind of operation.
-/
import Derived.Test.YtkhmbphcjacgnaaGreatDoorEv1
import Derived.Laws.Sem
namespace Go.Proofs.YtkhmbphcjacgnaaGreatDoor
open Go Go.RowKit
/-- a tree of steps, over the memory of names -/
def sv (P : Program) (base : Nat) {α : Type} : Sem α → RW → Option (α × RW)
  | .pure a, H => some (a, H)
  | .load _ a k, H => match H.cell a with
    | some v => sv P base (k v) H
    | none => none
  | .store _ a v k, H => match H.put base a v with
    | some H' => sv P base k H'
    | none => none
  | .new (.cells c t (0, 0)) k, H => sv P base (k H.n) (H.push (.row c.toList t))
  | .program k, H => sv P base (k P) H
  | .mark _ k, H => sv P base k H
  | _, _ => none
/-- one that reads nothing but the program -/
def svp (P : Program) {α : Type} : Sem α → Option α
  | .pure a => some a
  | .program k => svp P (k P)
  | .mark _ k => svp P k
  | _ => none
theorem svp_run {P : Program} {α : Type} {a : α} (w : World) : ∀ {s : Sem α}, svp P s = some a → s.run P w = .ok a w
  | .pure b, h => by obtain rfl := Option.some.inj h; rfl
  | .program k, h => by simp only [Sem.run]; exact svp_run w (s := k P) h
  | .mark m k, h => by simp only [Sem.run]; exact svp_run w (s := k) h
  | .load .., h => by cases h
  | .store .., h => by cases h
  | .new .., h => by cases h
  | .shape .., h => by cases h
  | .freeze .., h => by cases h
  | .frozen .., h => by cases h
  | .getObj .., h => by cases h
  | .setObj .., h => by cases h
  | .choose .., h => by cases h
  | .sys .., h => by cases h
  | .halt .., h => by cases h
def RelAd (E : Ren) (a a' : Addr) : Prop := ∃ i o b k, a = ⟨i, o, none⟩ ∧ a' = ⟨b, o, none⟩ ∧ E i = some (b, k)
def RelN [Ltr] (E : Ren) : Next → Next → Prop
  | .value v, .value v' => Rel E v v'
  | .skip, .skip => True
  | .enter f x, .enter f' x' => f = f' ∧ RelL E x.toList x'.toList
  | _, _ => False
def RelAr [Ltr] (E : Ren) (x x' : Array Value) : Prop := RelL E x.toList x'.toList
def EqR {α : Type} (_ : Ren) (a a' : α) : Prop := a = a'
/-- what the tree s does over names, s' does over memory -/
def Snd [Ltr] (P : Program) (X : Kep) (base : Nat) {α β : Type} (R : Ren → α → β → Prop) (E : Ren) (s : Sem α) (s' : Sem β) : Prop :=
  ∀ (H H1 : RW) (r : α) (w : World), Rep X base E H w → sv P base s H = some (r, H1) →
    ∃ F r' w', s'.run P w = .ok r' w' ∧ Ext E F ∧ Rep X base F H1 w' ∧ Kp X w w' ∧ R F r r'
section
variable {P : Program} {X : Kep} {base : Nat} {E : Ren} {α β γ δ : Type}
theorem sv_bind (s : Sem α) (f : α → Sem γ) : ∀ H : RW, sv P base (s.bind f) H = (sv P base s H).bind fun x => sv P base (f x.1) x.2 := by
  induction s with
  | pure a => intro H; rfl
  | load m a k ih => intro H; simp only [Sem.bind, sv]; cases H.cell a <;> simp [ih]
  | store m a v k ih => intro H; simp only [Sem.bind, sv]; cases H.put base a v <;> simp [ih]
  | new o k ih =>
    intro H
    cases o with
    | cells c t fz =>
      obtain ⟨lo, hi⟩ := fz
      cases lo with
      | zero => cases hi with
        | zero => simp only [Sem.bind, sv]; exact ih _ _
        | succ n => rfl
      | succ n => rfl
    | _ => rfl
  | program k ih => intro H; simp only [Sem.bind, sv]; exact ih _ _
  | mark m k ih => intro H; simp only [Sem.bind, sv]; exact ih _
  | _ => intro H; rfl
theorem Snd.pure [Ltr] {R : Ren → α → β → Prop} {a : α} {b : β} (h : R E a b) : Snd P X base R E (Pure.pure a) (Pure.pure b) := by
  intro H H1 r w hR e
  obtain ⟨rfl, rfl⟩ := Prod.mk.inj (Option.some.inj e)
  exact ⟨E, b, w, rfl, Ext.refl E, hR, Kp.refl _ _, h⟩
theorem Snd.bind [Ltr] {R : Ren → α → β → Prop} {R' : Ren → γ → δ → Prop} {s : Sem α} {s' : Sem β} {f : α → Sem γ} {f' : β → Sem δ} (h : Snd P X base R E s s')
    (k : ∀ F a b, Ext E F → R F a b → Snd P X base R' F (f a) (f' b)) : Snd P X base R' E (s >>= f) (s' >>= f') := by
  intro H H1 r w hR e
  have e' := sv_bind (P := P) (base := base) s f H
  have e2 : sv P base (s.bind f) H = some (r, H1) := e
  rw [e'] at e2
  cases hs : sv P base s H with
  | none => rw [hs] at e2; cases e2
  | some x =>
    obtain ⟨a, H2⟩ := x
    rw [hs] at e2
    obtain ⟨F, b, w2, hr, x1, R2, b1, ra⟩ := h H H2 a w hR hs
    obtain ⟨G, c, w3, hr3, x2, R3, b2, rc⟩ := k F a b x1 ra H2 H1 r w2 R2 e2
    refine ⟨G, c, w3, ?_, x1.trans x2, R3, b1.trans b2, rc⟩
    rw [Sem.run_bind, hr]
    exact hr3
theorem Snd.halt [Ltr] {R : Ren → α → β → Prop} {h : Halt} {s' : Sem β} : Snd P X base R E (.halt h) s' := by
  intro H H1 r w _ e
  cases e
theorem Snd.stuck [Ltr] {R : Ren → α → β → Prop} {m : String} {s' : Sem β} : Snd P X base R E (Go.stuck m) s' := Snd.halt
theorem Snd.unsupported [Ltr] {R : Ren → α → β → Prop} {u : Unsupported} {s' : Sem β} : Snd P X base R E (Go.unsupported u) s' := Snd.halt
theorem Snd.post [Ltr] {R R' : Ren → α → β → Prop} {s : Sem α} {s' : Sem β} (h : Snd P X base R E s s') (k : ∀ F a b, Ext E F → R F a b → R' F a b) : Snd P X base R' E s s' := by
  intro H H1 r w hR e
  obtain ⟨F, b, w2, hr, x1, R2, b1, ra⟩ := h H H1 r w hR e
  exact ⟨F, b, w2, hr, x1, R2, b1, k F r b x1 ra⟩
theorem Snd.program [Ltr] : Snd P X base EqR E Go.program Go.program := by
  intro H H1 r w hR e
  obtain ⟨rfl, rfl⟩ := Prod.mk.inj (Option.some.inj e)
  exact ⟨E, P, w, rfl, Ext.refl E, hR, Kp.refl _ _, rfl⟩
theorem Snd.typeInfo [Ltr] (t : TypeId) : Snd P X base EqR E (Go.typeInfo t) (Go.typeInfo t) := by
  refine Snd.bind Snd.program fun _ p p' _ e => ?_
  obtain rfl : p = p' := e
  cases p.info? t with
  | none => exact Snd.stuck
  | some i => exact Snd.pure rfl
theorem Snd.underlying [Ltr] (t : TypeId) : Snd P X base EqR E (Go.underlying t) (Go.underlying t) := by
  refine Snd.bind Snd.program fun _ p p' _ e => ?_
  obtain rfl : p = p' := e
  cases p.underlying t with
  | none => exact Snd.stuck
  | some i => exact Snd.pure rfl
theorem Snd.sizeOf [Ltr] (t : TypeId) : Snd P X base EqR E (Go.sizeOf t) (Go.sizeOf t) :=
  Snd.bind (Snd.typeInfo t) fun _ i i' _ e => by obtain rfl : i = i' := e; exact Snd.pure rfl
theorem Snd.zeroValue [Ltr] (t : TypeId) : Snd P X base EqR E (Go.zeroValue t) (Go.zeroValue t) :=
  Snd.bind (Snd.typeInfo t) fun _ i i' _ e => by
    obtain rfl : i = i' := e
    cases i.zero with
    | none => exact Snd.unsupported
    | some z => exact Snd.pure rfl
theorem Snd.isAgg [Ltr] (t : TypeId) : Snd P X base EqR E (Go.isAgg t) (Go.isAgg t) :=
  Snd.bind (Snd.underlying t) fun _ d d' _ e => by
    obtain rfl : d = d' := e
    cases d <;> exact Snd.pure rfl
theorem RelAd.mono {F : Ren} {a a' : Addr} (x : Ext E F) (h : RelAd E a a') : RelAd F a a' := by
  obtain ⟨i, o, b, k, h1, h2, h3⟩ := h
  exact ⟨i, o, b, k, h1, h2, x _ _ h3⟩
theorem RelAd.add {a a' : Addr} (h : RelAd E a a') (n : Nat) : RelAd E (a.add n) (a'.add n) := by
  obtain ⟨i, o, b, k, rfl, rfl, h3⟩ := h
  unfold Addr.add
  split
  · exact ⟨i, o, b, k, rfl, rfl, h3⟩
  · exact ⟨i, o + n, b, k, rfl, rfl, h3⟩
theorem RelAd.ptr [Ltr] {a a' : Addr} (h : RelAd E a a') : Rel E (.pointer (some a)) (.pointer (some a')) := by
  obtain ⟨i, o, b, k, rfl, rfl, h3⟩ := h
  exact .ptr h3
theorem Snd.load [Ltr] {a a' : Addr} {m : Mode} (h : RelAd E a a') : Snd P X base Rel E (Go.load a m) (Go.load a' m) := by
  obtain ⟨i, o, b, k, rfl, rfl, h3⟩ := h
  intro H H1 r w hR e
  simp only [Go.load, sv] at e
  cases hc : H.cell ⟨i, o, none⟩ with
  | none => rw [hc] at e; cases e
  | some v =>
    rw [hc] at e
    obtain ⟨rfl, rfl⟩ := Prod.mk.inj (Option.some.inj e)
    obtain ⟨v', hv, rv⟩ := hR.cell h3 hc
    exact ⟨E, v', w, by simp [Go.load, Sem.run, hv], Ext.refl E, hR, Kp.refl _ _, rv⟩
theorem single_not [Ltr] {v v' : Value} (h : Rel E v v') (hs : single v = true) : (∀ c, v' ≠ .agg c) ∧ (∀ c, v' ≠ .tuple c) := by
  cases h with
  | same hf => exact ⟨fun c e => (by rw [e] at hs; cases hs), fun c e => (by rw [e] at hs; cases hs)⟩
  | agg h => cases hs
  | tuple h => cases hs
  | ltr h h2 => exact ⟨fun c e => (by rw [e] at h2; cases h2), fun c e => (by rw [e] at h2; cases h2)⟩
  | prd h h2 => exact ⟨fun c e => (by rw [e] at h2; cases h2), fun c e => (by rw [e] at h2; cases h2)⟩
  | any => cases hs
  | _ => exact ⟨fun c e => (by cases e), fun c e => (by cases e)⟩
theorem run_store {P : Program} {m : Mode} {a : Addr} {v u : Value} {w : World} (h1 : ∀ c, v ≠ .agg c) (h2 : ∀ c, v ≠ .tuple c) (hc : w.cell? a = some u) (hf : w.frozen? a = false) :
    (Go.store a v m).run P w = .ok () (w.setCell a v) := by
  cases v with
  | agg c => exact absurd rfl (h1 c)
  | tuple c => exact absurd rfl (h2 c)
  | _ => simp [Go.store, Sem.run, hc, hf]
theorem Snd.store [Ltr] {a a' : Addr} {v v' : Value} {m : Mode} (h : RelAd E a a') (hv : Rel E v v') : Snd P X base EqR E (Go.store a v m) (Go.store a' v' m) := by
  obtain ⟨i, o, b, k, rfl, rfl, h3⟩ := h
  intro H H1 r w hR e
  simp only [Go.store, sv] at e
  cases hc : H.put base ⟨i, o, none⟩ v with
  | none => rw [hc] at e; cases e
  | some H' =>
    rw [hc] at e
    obtain ⟨rfl, rfl⟩ := Prod.mk.inj (Option.some.inj e)
    obtain ⟨⟨u, hu⟩, hf, hR', hb, hs⟩ := hR.put h3 hv hc
    obtain ⟨n1, n2⟩ := single_not hv hs
    exact ⟨E, (), _, run_store n1 n2 hu hf, Ext.refl E, hR', hb, rfl⟩
theorem Snd.newRow [Ltr] {t : TypeId} {c c' : Array Value} (h : RelAr E c c') : Snd P X base RelAd E (Go.newRow t c) (Go.newRow t c') := by
  intro H H1 r w hR e
  have e' : some ((⟨H.n, 0, none⟩ : Addr), H.push (.row c.toList t)) = some (r, H1) := e
  obtain ⟨rfl, rfl⟩ := Prod.mk.inj (Option.some.inj e')
  obtain ⟨p1, p2, p3⟩ := hR.push (o := .row c.toList t) (x := .cells c' t) (k := 0) (fun F x => ⟨c'.toList, rfl, RelL.mono x h⟩)
  exact ⟨_, ⟨w.heap.size, 0, none⟩, _, rfl, p2, p1, p3, ⟨H.n, 0, w.heap.size, 0, rfl, rfl, Ren.at⟩⟩
theorem RelAr.push [Ltr] {x x' : Array Value} {v v' : Value} (h : RelAr E x x') (hv : Rel E v v') : RelAr E (x.push v) (x'.push v') := by
  unfold RelAr
  rw [Array.toList_push, Array.toList_push]
  exact RelL.append h (.cons hv .nil)
theorem Snd.loadCellsFrom [Ltr] {a a' : Addr} : ∀ (n : Nat) {E : Ren} (i : Nat) {x x' : Array Value}, RelAd E a a' → RelAr E x x' → Snd P X base RelAr E (Go.loadCellsFrom a i n x) (Go.loadCellsFrom a' i n x')
  | 0, _, _, _, _, _, hx => Snd.pure hx
  | n + 1, _, i, _, _, ha, hx => Snd.bind (Snd.load (ha.add i)) fun _ _ _ xt hv => Snd.loadCellsFrom n (i + 1) (ha.mono xt) (RelAr.push (RelL.mono xt hx) hv)
theorem Snd.loadCells [Ltr] {a a' : Addr} (h : RelAd E a a') (n : Nat) : Snd P X base RelAr E (Go.loadCells a n) (Go.loadCells a' n) := Snd.loadCellsFrom n 0 h .nil
theorem Snd.storeCells [Ltr] {a a' : Addr} : ∀ {l l' : List Value} {E : Ren} (i : Nat), RelAd E a a' → RelL E l l' → Snd P X base EqR E (Go.storeCells a l i) (Go.storeCells a' l' i)
  | [], _, _, _, _, .nil => by unfold Go.storeCells; exact Snd.pure rfl
  | _ :: _, _, _, i, ha, .cons hv t => by
    unfold Go.storeCells
    exact Snd.bind (Snd.store (ha.add i) hv) fun _ _ _ xt _ => Snd.storeCells (i + 1) (ha.mono xt) (t.mono xt)
theorem Snd.loadVar [Ltr] {a a' : Addr} (h : RelAd E a a') (t : TypeId) : Snd P X base Rel E (Go.loadVar t a) (Go.loadVar t a') := by
  refine Snd.bind (Snd.isAgg t) fun _ b b' x e => ?_
  obtain rfl : b = b' := e
  cases b with
  | true =>
    refine Snd.bind (Snd.sizeOf t) fun _ n n' x2 e => ?_
    obtain rfl : n = n' := e
    exact Snd.bind (Snd.loadCells ((h.mono x).mono x2) n) fun _ _ _ _ hc => Snd.pure (.agg hc)
  | false => exact Snd.load (h.mono x)
theorem Rel.cells [Ltr] {v v' : Value} (h : Rel E v v') (ht : isTop v = false) : RelAr E v.cells v'.cells := by
  cases h with
  | same hf => cases v <;> first | (cases hf; done) | exact .cons (.same hf) .nil
  | agg h => exact h
  | ptr h => exact .cons (.ptr h) .nil
  | sl h => exact .cons (.sl h) .nil
  | map h => exact .cons (.map h) .nil
  | yld h => exact .cons (.yld h) .nil
  | iface h => exact .cons (.iface h) .nil
  | func h h' => exact .cons (.func h h') .nil
  | tuple h => exact .cons (.tuple h) .nil
  | ltr h hs => cases v' <;> first | (cases hs; done) | exact .cons (.ltr h hs) .nil
  | prd h hs => cases v' <;> first | (cases hs; done) | exact .cons (.prd h hs) .nil
  | any => cases ht
  | sll h hs => exact .cons (.sll h hs) .nil
  | ptl h hs => exact .cons (.ptl h hs) .nil
theorem RelAr.size [Ltr] {x x' : Array Value} (h : RelAr E x x') : x'.size = x.size := by simpa using RelL.length h
theorem Snd.storeVar [Ltr] {a a' : Addr} {v v' : Value} (h : RelAd E a a') (hv : Rel E v v') (ht : isTop v = false) (t : TypeId) : Snd P X base EqR E (Go.storeVar t a v) (Go.storeVar t a' v') := by
  refine Snd.bind (Snd.sizeOf t) fun _ n n' x e => ?_
  obtain rfl : n = n' := e
  rw [(hv.cells ht).size]
  split
  · exact Snd.halt (h := .stuck _)
  · exact Snd.storeCells 0 (h.mono x) (RelL.mono x (hv.cells ht))
theorem Snd.newVar [Ltr] {t : TypeId} {v v' : Value} (h : Rel E v v') (ht : isTop v = false) : Snd P X base RelAd E (Go.newVar t v) (Go.newVar t v') := Snd.newRow (h.cells ht)
theorem Snd.sureAddr [Ltr] {v v' : Value} (h : Rel E v v') : Snd P X base RelAd E (Instr.sureAddr v) (Instr.sureAddr v') := by
  cases h with
  | ptr h => exact Snd.pure ⟨_, _, _, _, rfl, rfl, h⟩
  | same hf =>
    cases v with
    | pointer a => cases a with
      | none => exact Snd.stuck
      | some a => cases hf
    | _ => exact Snd.stuck
  | _ => exact Snd.stuck
end
end Go.Proofs.YtkhmbphcjacgnaaGreatDoor
