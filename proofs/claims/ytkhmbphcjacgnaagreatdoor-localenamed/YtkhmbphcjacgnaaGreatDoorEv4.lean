/-
  A run by reckoning, part 4: more operations; every operation.
-/
import Derived.Test.YtkhmbphcjacgnaaGreatDoorEv3
namespace Go.Proofs.YtkhmbphcjacgnaaGreatDoor
open Go Go.RowKit
section
variable {P : Program} {X : Kep} {base : Nat} {E : Ren} {α β γ δ : Type}
/-- one that touches no memory -/
def Mless (P : Program) (base : Nat) (s : Sem α) : Prop := ∀ H r H1, sv P base s H = some (r, H1) → svp P s = some r ∧ H1 = H
theorem Mless.pure (a : α) : Mless P base (Pure.pure a : Sem α) := by
  intro H r H1 e
  obtain ⟨rfl, rfl⟩ := Prod.mk.inj (Option.some.inj e)
  exact ⟨rfl, rfl⟩
theorem svp_bind {s : Sem α} {f : α → Sem γ} : ∀ {a : α}, svp P s = some a → svp P (s.bind f) = svp P (f a) := by
  induction s with
  | pure b => intro a h; obtain rfl := Option.some.inj h; rfl
  | program k ih => intro a h; simp only [Sem.bind, svp]; exact ih _ h
  | mark m k ih => intro a h; simp only [Sem.bind, svp]; exact ih h
  | _ => intro a h; cases h
theorem Mless.bind [Ltr] {s : Sem α} {f : α → Sem γ} (h : Mless P base s) (k : ∀ a, Mless P base (f a)) : Mless P base (s >>= f) := by
  intro H r H1 e
  have e2 : sv P base (s.bind f) H = some (r, H1) := e
  rw [sv_bind] at e2
  cases hs : sv P base s H with
  | none => rw [hs] at e2; cases e2
  | some x =>
    obtain ⟨a, H2⟩ := x
    rw [hs] at e2
    obtain ⟨p1, rfl⟩ := h H a H2 hs
    obtain ⟨p2, rfl⟩ := k a H2 r H1 e2
    exact ⟨(svp_bind p1).trans p2, rfl⟩
theorem Mless.never {s : Sem α} (h : ∀ H, sv P base s H = none) : Mless P base s := by
  intro H r H1 e
  rw [h] at e
  cases e
theorem Mless.run [Ltr] {s : Sem α} (h : Mless P base s) {H H1 : RW} {r : α} (e : sv P base s H = some (r, H1)) (w : World) : s.run P w = .ok r w ∧ H1 = H :=
  ⟨svp_run w (h H r H1 e).1, (h H r H1 e).2⟩
theorem Snd.self [Ltr] {s : Sem α} (h : Mless P base s) : Snd P X base EqR E s s := by
  intro H H1 r w hR e
  obtain ⟨p1, rfl⟩ := h H r H1 e
  exact ⟨E, r, w, svp_run w p1, Ext.refl E, hR, Kp.refl _ _, rfl⟩
theorem Mless.asIntOf [Ltr] (v : Value) : Mless P base (Go.asIntOf v) := by
  cases v with
  | int k n => exact Mless.pure _
  | pointer a => cases a <;> exact Mless.never fun _ => rfl
  | _ => exact Mless.never fun _ => rfl
theorem Mless.sliceBound [Ltr] (v : Value) (y : Nat) (c : BoundsCode) : Mless P base (Instr.sliceBound v y c) := by
  refine Mless.bind (Mless.asIntOf v) fun x => ?_
  obtain ⟨k, i⟩ := x
  dsimp only
  split
  · exact Mless.pure _
  · exact Mless.never sv_boundsPanic
theorem Mless.sliceBounds [Ltr] (b : Bool) (n c : Nat) (lo hi mx : Option Value) : Mless P base (Instr.sliceBounds b n c lo hi mx) := by
  have l1 : ∀ (h m : Nat) (c : BoundsCode), Mless P base (match lo with
      | some v => (Instr.sliceBound v h c >>= fun l => Pure.pure (l, h, m))
      | none => ((Pure.pure 0 : Sem Nat) >>= fun l => Pure.pure (l, h, m))) := by
    intro h m c
    cases lo with
    | none => exact Mless.bind (Mless.pure _) fun _ => Mless.pure _
    | some v => exact Mless.bind (Mless.sliceBound _ _ _) fun _ => Mless.pure _
  cases mx with
  | none =>
    refine Mless.bind (Mless.pure _) fun m => ?_
    cases hi with
    | none => exact Mless.bind (Mless.pure _) fun h => l1 h m _
    | some v => exact Mless.bind (Mless.sliceBound _ _ _) fun h => l1 h m _
  | some u =>
    refine Mless.bind (Mless.sliceBound _ _ _) fun m => ?_
    cases hi with
    | none => exact Mless.bind (Mless.never fun _ => rfl) fun h => l1 h m _
    | some v => exact Mless.bind (Mless.sliceBound _ _ _) fun h => l1 h m _
theorem room_known {c k : Nat} (h : Nat.blt c big = true) : room c k = c := by unfold room; rw [h]; rfl
/-- a slice whose room is known -/
def okSl : Value → Bool
  | .slice (some _) _ c => Nat.blt c big
  | _ => false
theorem relSl [Ltr] {a a' : Addr} {n c : Nat} (ha : RelAd E a a') (hc : Nat.blt c big = true) : Rel E (.slice (some a) n c) (.slice (some a') n c) := by
  obtain ⟨i, o, b, k, rfl, rfl, h3⟩ := ha
  have := Rel.sl (n := n) (c := c) (o := o) h3
  rwa [room_known hc] at this
def RelQ [Ltr] (E : Ren) (v v' : Value) : Prop := okSl v = true → Rel E v v'
theorem Snd.cutArr [Ltr] {a a' : Addr} {el : TypeId} {n c : Nat} {b : Bool} {lo hi mx : Option Value} (ha : RelAd E a a') :
    Snd P X base RelQ E (do let x ← Instr.sliceBounds b n c lo hi mx; match x with | (l, h, m) => do let size ← Go.sizeOf el; Pure.pure (Value.slice (some (if m = l then a else a.add (l * size))) (h - l) (m - l)))
      (do let x ← Instr.sliceBounds b n c lo hi mx; match x with | (l, h, m) => do let size ← Go.sizeOf el; Pure.pure (Value.slice (some (if m = l then a' else a'.add (l * size))) (h - l) (m - l))) := by
  refine Snd.bind (Snd.self (Mless.sliceBounds b n c lo hi mx)) fun G r r' x2 e => ?_
  obtain rfl : r = r' := e
  obtain ⟨l, h, m⟩ := r
  refine Snd.bind (Snd.sizeOf el) fun K s s' x3 e => ?_
  obtain rfl : s = s' := e
  have h3 := (ha.mono x2).mono x3
  refine Snd.pure fun hc => ?_
  by_cases hm : m = l
  · simp only [hm, if_true] at hc ⊢
    exact relSl h3 hc
  · simp only [hm, if_false] at hc ⊢
    exact relSl (h3.add _) hc
theorem map_some_if {a : Addr} {m l s : Nat} : (if m = l then some a else Option.map (fun x => x.add (l * s)) (some a)) = some (if m = l then a else a.add (l * s)) := by split <;> rfl
theorem Snd.slice [Ltr] {t : TypeId} {v v' : Value} (hk : (match v with | .slice _ _ c => Nat.blt c big | _ => true) = true) (hf : flat v = false) (h : Rel E v v') (lo hi mx : Option Value) :
    Snd P X base RelQ E (Instr.slice t v lo hi mx) (Instr.slice t v' lo hi mx) := by
  refine Snd.bind (Snd.underlying t) fun F d d' x e => ?_
  obtain rfl : d = d' := e
  have h2 := h.mono x
  cases h2 with
  | @sl i o b k n c hE =>
    rw [room_known hk]
    cases d with
    | slice el =>
      have := Snd.cutArr (P := P) (X := X) (base := base) (el := el) (n := n) (c := c) (b := true) (lo := lo) (hi := hi) (mx := mx) (E := F) ⟨i, o, b, k, rfl, rfl, hE⟩
      simp only [map_some_if]
      exact this
    | _ => exact Snd.never fun _ => rfl
  | @ptr i o b k hE =>
    cases d with
    | pointer arr =>
      refine Snd.bind (R := RelAd) (Snd.pure ⟨i, o, b, k, rfl, rfl, hE⟩) fun G a a' x2 ha => ?_
      refine Snd.bind (Snd.underlying arr) fun K d d' x3 e => ?_
      obtain rfl : d = d' := e
      cases d with
      | array n el => exact Snd.cutArr (ha.mono x3)
      | _ => exact Snd.never fun _ => rfl
    | _ => exact Snd.never fun _ => rfl
  | same hf' => rw [hf] at hf'; cases hf'
  | _ => cases d <;> exact Snd.never fun _ => rfl
theorem Snd.sliceAt [Ltr] {t : TypeId} {v v' : Value} (hk : (match v with | .slice _ _ c => Nat.blt c big | _ => true) = true) (hf : flat v = false) (h : Rel E v v') (lo hi mx : Option Value) :
    Snd P X base RelQ E (Instr.sliceAt t v lo hi mx) (Instr.sliceAt t v' lo hi mx) := by
  refine Snd.bind (Snd.underlying t) fun F d d' x e => ?_
  obtain rfl : d = d' := e
  cases d with
  | array n el => exact Snd.bind (Snd.sureAddr (h.mono x)) fun K a a' x3 ha => Snd.cutArr ha
  | _ => exact Snd.slice hk hf (h.mono x) lo hi mx
/-- parts put into cells -/
inductive RelP [Ltr] (E : Ren) : List (Nat × Value) → List (Nat × Value) → Prop
  | nil : RelP E [] []
  | cons {i : Nat} {v v' : Value} {l l' : List (Nat × Value)} (h : Rel E v v') (ht : isTop v = false) (t : RelP E l l') : RelP E ((i, v) :: l) ((i, v') :: l')
theorem RelP.mono [Ltr] {F : Ren} (x : Ext E F) {l l' : List (Nat × Value)} : RelP E l l' → RelP F l l'
  | .nil => .nil
  | .cons h ht t => .cons (h.mono x) ht (t.mono x)
theorem RelL.sets [Ltr] {off : Nat} : ∀ {l l' : List Value} (j : Nat) {c c' : Array Value}, RelL E l l' → RelAr E c c' →
    RelAr E ((l.zipIdx j).foldl (fun cs (x : Value × Nat) => cs.setIfInBounds (off + x.2) x.1) c) ((l'.zipIdx j).foldl (fun cs (x : Value × Nat) => cs.setIfInBounds (off + x.2) x.1) c')
  | _, _, _, _, _, .nil, h => h
  | _, _, j, c, c', .cons hv t, h => by
    simp only [List.zipIdx_cons, List.foldl_cons]
    refine RelL.sets (j + 1) t ?_
    unfold RelAr
    rw [Array.toList_setIfInBounds, Array.toList_setIfInBounds]
    exact RelL.set hv h _
theorem fill_rel [Ltr] {place : Nat → Option (Nat × Nat)} : ∀ {l l' : List (Nat × Value)} {c c' r : Array Value}, RelP E l l' → RelAr E c c' → Instr.fill place c l = some r → ∃ r', Instr.fill place c' l' = some r' ∧ RelAr E r r'
  | _, _, c, c', r, .nil, h, e => by
    obtain rfl := Option.some.inj e
    exact ⟨c', rfl, h⟩
  | _, _, c, c', r, .cons (i := i) (v := v) (v' := v') hv ht t, h, e => by
    unfold Instr.fill at e ⊢
    cases hp : place i with
    | none => rw [hp] at e; cases e
    | some x =>
      obtain ⟨off, size⟩ := x
      rw [hp] at e
      dsimp only at e ⊢
      have hz := (hv.cells ht).size
      rw [hz, h.size]
      split at e
      · cases e
      · rename_i hc
        rw [if_neg hc]
        refine fill_rel t ?_ e
        have := RelL.sets (off := off) 0 (hv.cells ht) h
        rw [← Array.foldl_toList, ← Array.foldl_toList]
        simpa [Array.toList_zipIdx] using this
theorem Snd.index [Ltr] {t : TypeId} {v v' i i' : Value} (hf : flat v = false) (h : Rel E v v') (hi : Rel E i i') : Snd P X base Rel E (Instr.index t v i) (Instr.index t v' i') := by
  refine Snd.bind (Snd.asIntOf hi) fun F x y xt e => ?_
  obtain rfl : x = y := e
  obtain ⟨k, n⟩ := x
  refine Snd.bind (Snd.underlying t) fun G d d' x2 e => ?_
  obtain rfl : d = d' := e
  have h2 := h.mono (xt.trans x2)
  cases h2 with
  | agg hc =>
    cases d with
    | array len el =>
      dsimp only
      split
      · refine Snd.bind (Snd.sizeOf el) fun K s s' x3 e => ?_
        obtain rfl : s = s' := e
        exact Snd.part (RelL.mono x3 hc) _
      · exact Snd.never sv_boundsPanic
    | _ => exact Snd.never fun _ => rfl
  | same hf' => rw [hf] at hf'; cases hf'
  | _ => cases d <;> exact Snd.never fun _ => rfl
end
end Go.Proofs.YtkhmbphcjacgnaaGreatDoor
