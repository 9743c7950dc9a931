/-
  A run by reckoning, part 3: the operations.
-/
import Derived.Test.YtkhmbphcjacgnaaGreatDoorEv2
namespace Go.Proofs.YtkhmbphcjacgnaaGreatDoor
open Go Go.RowKit
section
variable {P : Program} {X : Kep} {base : Nat} {E : Ren} {α β γ δ : Type}
theorem svp_sv : ∀ {s : Sem α} {a : α} (H : RW), svp P s = some a → sv P base s H = some (a, H)
  | .pure b, a, H, h => by obtain rfl := Option.some.inj h; rfl
  | .program k, a, H, h => by simp only [sv]; exact svp_sv (s := k P) H h
  | .mark m k, a, H, h => by simp only [sv]; exact svp_sv (s := k) H h
  | .load .., _, _, h => by cases h
  | .store .., _, _, h => by cases h
  | .new .., _, _, h => by cases h
  | .shape .., _, _, h => by cases h
  | .freeze .., _, _, h => by cases h
  | .frozen .., _, _, h => by cases h
  | .getObj .., _, _, h => by cases h
  | .setObj .., _, _, h => by cases h
  | .choose .., _, _, h => by cases h
  | .sys .., _, _, h => by cases h
  | .halt .., _, _, h => by cases h
/-- a tree that reads the program alone -/
theorem Snd.ofP [Ltr] {s : Sem α} {a : α} (h : svp P s = some a) : Snd P X base (fun _ x y => x = a ∧ y = a) E s s := by
  intro H H1 r w hR e
  rw [svp_sv H h] at e
  obtain ⟨rfl, rfl⟩ := Prod.mk.inj (Option.some.inj e)
  exact ⟨E, a, w, svp_run w h, Ext.refl E, hR, Kp.refl _ _, rfl, rfl⟩
theorem Snd.never [Ltr] {R : Ren → α → β → Prop} {s : Sem α} {s' : Sem β} (h : ∀ H, sv P base s H = none) : Snd P X base R E s s' := by
  intro H H1 r w _ e
  rw [h] at e
  cases e
theorem Snd.value [Ltr] {s s' : Sem Value} (h : Snd P X base Rel E s s') : Snd P X base RelN E (do Pure.pure (Next.value (← s))) (do Pure.pure (Next.value (← s'))) :=
  Snd.bind h fun _ _ _ _ r => Snd.pure r
theorem Snd.unit [Ltr] {s s' : Sem Unit} (h : Snd P X base EqR E s s') : Snd P X base RelN E (do s; Pure.pure Next.skip) (do s'; Pure.pure Next.skip) :=
  Snd.bind h fun _ _ _ _ _ => Snd.pure trivial
/-- zero values of leaves -/
def zfl (P : Program) (t : TypeId) : Bool :=
  match svp P (zeroValue t) with
  | some z => z.cells.toList.all flat && (match z with | .agg _ => true | z => flat z)
  | none => false
theorem zfl_rel [Ltr] {t : TypeId} (h : zfl P t = true) : ∃ z, svp P (zeroValue t) = some z ∧ ∀ E : Ren, Rel E z z := by
  unfold zfl at h
  cases hz : svp P (zeroValue t) with
  | none => rw [hz] at h; cases h
  | some z =>
    rw [hz] at h
    simp only [Bool.and_eq_true] at h
    refine ⟨z, rfl, fun E => ?_⟩
    cases z with
    | agg cs => exact .agg (RelL.flats h.1)
    | _ => exact .same h.2
theorem zfl_top {t : TypeId} (h : zfl P t = true) : (match svp P (zeroValue t) with | some z => isTop z | none => false) = false := by
  unfold zfl at h
  cases hz : svp P (zeroValue t) with
  | none => rfl
  | some z =>
    rw [hz] at h
    simp only [Bool.and_eq_true] at h
    cases z with
    | float k b => cases h.2
    | _ => rfl
theorem Snd.alloc [Ltr] {t : TypeId} (h : zfl P t = true) : Snd P X base Rel E (Instr.alloc t true (.tuple #[])) (Instr.alloc t true (.tuple #[])) := by
  obtain ⟨z, hz, hr⟩ := zfl_rel h
  refine Snd.bind (Snd.ofP hz) fun F a b x e => ?_
  obtain ⟨rfl, rfl⟩ := e
  exact Snd.bind (Snd.newVar (hr F) (by have h2 := zfl_top h; rw [hz] at h2; exact h2)) fun G a b x e => Snd.pure e.ptr
theorem Snd.box [Ltr] {t : TypeId} {v v' : Value} (h : Rel E v v') (ht : isTop v = false) : Snd P X base Rel E (Instr.box t v) (Instr.box t v') :=
  Snd.bind (Snd.newVar h ht) fun _ _ _ _ e => Snd.pure e.ptr
theorem Snd.loadAt [Ltr] {t : TypeId} {v v' : Value} (h : Rel E v v') : Snd P X base Rel E (Instr.loadAt t v) (Instr.loadAt t v') :=
  Snd.bind (Snd.sureAddr h) fun _ _ _ _ e => Snd.loadVar e t
theorem Snd.storeAt [Ltr] {t : TypeId} {v v' u u' : Value} (h : Rel E v v') (hu : Rel E u u') (ht : isTop u = false) : Snd P X base EqR E (Instr.storeAt t v u) (Instr.storeAt t v' u') :=
  Snd.bind (Snd.sureAddr h) fun _ _ _ x e => Snd.storeVar e (hu.mono x) ht t
theorem Snd.asAgg [Ltr] {v v' : Value} (h : Rel E v v') : Snd P X base RelAr E (Go.asAgg v) (Go.asAgg v') := by
  cases h with
  | agg h => exact Snd.pure h
  | same hf => cases v <;> first | exact Snd.stuck | cases hf
  | _ => exact Snd.stuck
theorem Snd.part [Ltr] {t : TypeId} {c c' : Array Value} (h : RelAr E c c') (o : Nat) : Snd P X base Rel E (Go.part t c o) (Go.part t c' o) := by
  refine Snd.bind (Snd.isAgg t) fun F b b' x e => ?_
  obtain rfl : b = b' := e
  cases b with
  | true =>
    refine Snd.bind (Snd.sizeOf t) fun G n n' x2 e => ?_
    obtain rfl : n = n' := e
    refine Snd.pure ?_
    have : RelL G ((c.extract o (o + n)).toList) ((c'.extract o (o + n)).toList) := by
      rw [Array.toList_extract, Array.toList_extract, List.extract_eq_take_drop, List.extract_eq_take_drop]
      exact ((RelL.mono (x.trans x2) h).drop o).take _
    exact .agg this
  | false =>
    show Snd P X base Rel _ (match c[o]? with | some v => Pure.pure v | none => Go.stuck _) (match c'[o]? with | some v => Pure.pure v | none => Go.stuck _)
    cases hc : c[o]? with
    | none => exact Snd.stuck
    | some v =>
      obtain ⟨v', hv', r⟩ := RelL.get h (i := o) (v := v) (by simpa using hc)
      have : c'[o]? = some v' := by simpa using hv'
      rw [this]
      exact Snd.pure (r.mono x)
theorem Snd.field [Ltr] {t : TypeId} {v v' : Value} (h : Rel E v v') (f : Nat) : Snd P X base Rel E (Instr.field t v f) (Instr.field t v' f) := by
  refine Snd.bind (Snd.underlying t) fun F d d' x e => ?_
  obtain rfl : d = d' := e
  cases d with
  | struct fs =>
    dsimp only
    cases hf : fs[f]? with
    | none => exact Snd.stuck
    | some fd => exact Snd.bind (Snd.asAgg (h.mono x)) fun G a b x2 e => Snd.part e _
  | _ => exact Snd.stuck
theorem Snd.extract [Ltr] {v v' : Value} (h : Rel E v v') (i : Nat) : Snd P X base Rel E (Instr.extract v i) (Instr.extract v' i) := by
  cases h with
  | @tuple x x' h =>
    unfold Instr.extract
    dsimp only
    cases hc : (⟨x⟩ : Array Value)[i]? with
    | none => exact Snd.stuck
    | some u =>
      obtain ⟨u', hu', r⟩ := RelL.get h (i := i) (v := u) (by simpa using hc)
      have : (⟨x'⟩ : Array Value)[i]? = some u' := by simpa using hu'
      rw [this]
      exact Snd.pure r
  | same hf =>
    cases v with
    | tuple vs =>
      obtain ⟨l⟩ := vs
      cases l with
      | nil => exact Snd.stuck
      | cons a l => cases hf
    | _ => exact Snd.stuck
  | _ => exact Snd.stuck
theorem Snd.asIntOf [Ltr] {v v' : Value} (h : Rel E v v') : Snd P X base EqR E (Go.asIntOf v) (Go.asIntOf v') := by
  cases h with
  | same hf => cases v <;> first | exact Snd.pure rfl | exact Snd.stuck | (rename_i a; cases a <;> first | exact Snd.stuck | cases hf)
  | ptr h => exact Snd.unsupported
  | _ => exact Snd.stuck
theorem sv_boundsPanic {k : IntKind} {x y : Int} {c : BoundsCode} (H : RW) : sv P base (boundsPanic (α := α) k x y c) H = none := by
  unfold boundsPanic
  dsimp only
  split
  · rfl
  · rfl
theorem Snd.fieldPlace [Ltr] {a a' : Addr} (h : RelAd E a a') {f : Field} (hz : (svp P (Go.sizeOf f.type)).any (· != 0) = true) : Snd P X base RelAd E (Go.fieldPlace a f) (Go.fieldPlace a' f) := by
  cases hs : svp P (Go.sizeOf f.type) with
  | none => rw [hs] at hz; cases hz
  | some n =>
    rw [hs] at hz
    have hn : n ≠ 0 := by simpa using hz
    refine Snd.bind (Snd.ofP hs) fun F x y xt e => ?_
    obtain ⟨rfl, rfl⟩ := e
    simp only [hn, if_false]
    exact Snd.pure ((h.add _).mono xt)
def fokAt (P : Program) (t : TypeId) (f : Nat) : Bool :=
  match svp P (Go.underlying t) with
  | some (.struct fs) => (fs[f]?).any fun x => (svp P (Go.sizeOf x.type)).any (· != 0)
  | _ => false
theorem Snd.fieldAt [Ltr] {t : TypeId} {v v' : Value} {f : Nat} (hk : fokAt P t f = true) (h : Rel E v v') : Snd P X base Rel E (Instr.fieldAt t v f) (Instr.fieldAt t v' f) := by
  unfold fokAt at hk
  cases hu : svp P (Go.underlying t) with
  | none => rw [hu] at hk; cases hk
  | some d =>
    rw [hu] at hk
    refine Snd.bind (Snd.ofP hu) fun F x y xt e => ?_
    obtain ⟨rfl, e2⟩ := e
    subst e2
    cases y with
    | struct fs =>
      dsimp only at hk ⊢
      cases hf : fs[f]? with
      | none => rw [hf] at hk; cases hk
      | some fd =>
        rw [hf] at hk
        exact Snd.bind (Snd.sureAddr (h.mono xt)) fun G a b x2 e => Snd.bind (Snd.fieldPlace e hk) fun _ a b _ e => Snd.pure e.ptr
    | _ => exact Snd.stuck
theorem Snd.orPanic [Ltr] {R : Ren → α → β → Prop} {c : Prop} [Decidable c] {u : Unsupported} {k : IntKind} {x y : Int} {code : BoundsCode} {s' : Sem β} : Snd P X base R E (if c then Go.unsupported u else boundsPanic k x y code) s' := by
  split
  · exact Snd.unsupported
  · exact Snd.never sv_boundsPanic
theorem Snd.indexAt [Ltr] {t : TypeId} {v v' i i' : Value} (h : Rel E v v') (hi : Rel E i i') : Snd P X base Rel E (Instr.indexAt t v i) (Instr.indexAt t v' i') := by
  refine Snd.bind (Snd.asIntOf hi) fun F x y xt e => ?_
  obtain rfl : x = y := e
  obtain ⟨k, n⟩ := x
  refine Snd.bind (Snd.underlying t) fun G d d' x2 e => ?_
  obtain rfl : d = d' := e
  have h2 := h.mono (xt.trans x2)
  cases d with
  | array len el =>
    refine Snd.bind (Snd.sureAddr h2) fun K a a' x3 ha => ?_
    refine Snd.bind (R := fun _ x y => x = (some a, len, el) ∧ y = (some a', len, el)) (Snd.pure ⟨rfl, rfl⟩) ?_
    rintro L _ _ x4 ⟨rfl, rfl⟩
    refine Snd.bind (Snd.underlying t) fun M d d' x5 e => ?_
    obtain rfl : d = d' := e
    by_cases hn : 0 ≤ n ∧ n < (len : Int)
    · simp only [hn, and_self, if_true]
      refine Snd.bind (Snd.sizeOf el) fun _ s s' x6 e => ?_
      obtain rfl : s = s' := e
      exact Snd.pure ((((ha.mono x4).mono x5).mono x6).add _).ptr
    · simp only [hn, if_false]
      exact Snd.orPanic
  | slice el =>
    cases h2 with
    | @sl i o b k' len c hE =>
      refine Snd.bind (R := fun _ x y => x = (some ⟨i, o, none⟩, len, el) ∧ y = (some ⟨b, o, none⟩, len, el)) (Snd.pure ⟨rfl, rfl⟩) ?_
      rintro L _ _ x4 ⟨rfl, rfl⟩
      refine Snd.bind (Snd.underlying t) fun M d d' x5 e => ?_
      obtain rfl : d = d' := e
      by_cases hn : 0 ≤ n ∧ n < (len : Int)
      · simp only [hn, and_self, if_true]
        refine Snd.bind (Snd.sizeOf el) fun K s s' x6 e => ?_
        obtain rfl : s = s' := e
        have ha : RelAd K ⟨i, o, none⟩ ⟨b, o, none⟩ := ⟨_, _, _, _, rfl, rfl, x6 _ _ (x5 _ _ (x4 _ _ hE))⟩
        exact Snd.pure (ha.add _).ptr
      · simp only [hn, if_false]
        exact Snd.orPanic
    | same hf =>
      cases v with
      | slice a len c =>
        cases a with
        | some a => cases hf
        | none =>
          refine Snd.bind (R := fun _ x y => x = (none, len, el) ∧ y = (none, len, el)) (Snd.pure ⟨rfl, rfl⟩) ?_
          rintro L _ _ x4 ⟨rfl, rfl⟩
          refine Snd.bind (Snd.underlying t) fun M d d' x5 e => ?_
          exact Snd.never sv_boundsPanic
      | _ => exact Snd.never fun _ => rfl
    | _ => exact Snd.never fun _ => rfl
  | _ => exact Snd.never fun _ => rfl
end
end Go.Proofs.YtkhmbphcjacgnaaGreatDoor
