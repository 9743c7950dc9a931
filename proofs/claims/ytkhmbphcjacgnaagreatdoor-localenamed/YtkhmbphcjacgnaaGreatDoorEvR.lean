/-
  A run by reckoning: calls that are known, one by one.
-/
import Derived.Test.YtkhmbphcjacgnaaGreatDoorEvQ
import Derived.Lib.Join
namespace Go.Proofs.YtkhmbphcjacgnaaGreatDoor
open Go Go.RowKit
abbrev PE := FuncId × (List Value → RW → Option Value)
def prL : List PE → Prim
  | [], _, _, _ => none
  | (g, p) :: l, f, args, H => bif Nat.beq f g then match p args H with
      | some v => some (v, H)
      | none => none
    else prL l f args H
section
variable {P : Program} {X : Kep} {base : Nat}
def PEOk [Ltr] (P : Program) (X : Kep) (base : Nat) (e : PE) : Prop :=
  ∀ args H v E w args', Rep X base E H w → RelL E args args' → e.2 args H = some v → Calls P e.1 ⟨args'⟩ w fun e w' => ∃ v', e = .returned v' ∧ Rel E v v' ∧ Below w.heap.size w w'
theorem prL_ok [Ltr] {G : Nat} : ∀ {l : List PE}, (∀ e ∈ l, PEOk P X base e) → PrimOk P (prL l) G X base
  | [], _, f, args, H, v, H1, E, w, args', _, _, _, e => by cases e
  | (g, p) :: l, h, f, args, H, v, H1, E, w, args', hR, hG, ha, e => by
    unfold prL at e
    cases hb : Nat.beq f g with
    | true =>
      rw [hb] at e
      rw [Nat.eq_of_beq_eq_true hb]
      dsimp only [cond_true] at e
      cases hp : p args H with
      | none => rw [hp] at e; cases e
      | some u =>
        rw [hp] at e
        obtain ⟨rfl, rfl⟩ := Prod.mk.inj (Option.some.inj e)
        refine Calls.mono (h (g, p) (List.mem_cons_self) args H u E w args' hR ha hp) fun en w' q => ?_
        obtain ⟨v', rfl, rv, b⟩ := q
        exact ⟨v', E, rfl, Ext.refl E, hR.below b, ⟨b.os, b.tape, b.output, b.size, fun k hk => b.block k (hR.lt k hk)⟩, rv⟩
    | false =>
      rw [hb] at e
      exact prL_ok (fun x hx => h x (List.mem_cons_of_mem _ hx)) f args H v H1 E w args' hR hG ha e
/-- a call without arguments, of a fixed answer -/
def fixP (v : Value) (args : List Value) (_ : RW) : Option Value :=
  match args with
  | [] => some v
  | _ => none
theorem fixP_ok [Ltr] {f : FuncId} {v : Value} (hv : flat v = true) (h : ∀ w, (∀ b, X b → w.heap[b]? = X.ob b) → Calls P f #[] w fun e w' => e = .returned v ∧ Below w.heap.size w w') : PEOk P X base (f, fixP v) := by
  intro args H u E w args' hR ha e
  dsimp only [fixP] at e
  split at e
  · obtain rfl := Option.some.inj e
    cases ha
    exact (h w hR.fx).mono fun e w' p => ⟨_, p.1, .same hv, p.2⟩
  · cases e
def strL : List Value → Option (List ByteArray)
  | [] => some []
  | .string s :: l => match strL l with
    | some r => some (s :: r)
    | none => none
  | _ => none
theorem strL_eq : ∀ {l : List Value} {xs : List ByteArray}, strL l = some xs → l = xs.map Value.string
  | [], xs, e => by obtain rfl := Option.some.inj e; rfl
  | v :: l, xs, e => by
    unfold strL at e
    split at e
    · rename_i h; cases h
    · rename_i s l' h
      obtain ⟨rfl, rfl⟩ := List.cons.inj h
      cases hr : strL l with
      | none => rw [hr] at e; cases e
      | some r =>
        rw [hr] at e
        obtain rfl := Option.some.inj e
        rw [strL_eq hr]; rfl
    · cases e
/-- is there room for n behind the slice's beginning? -/
def roomOk (H : RW) (i n c : Nat) : Bool :=
  match look i H.h with
  | some (.own vs _ sz) => Nat.beq sz 1 && (bif Nat.blt c big then Nat.ble n c else Nat.ble (c - big + n) vs.length)
  | some _ => Nat.blt c big && Nat.ble n c
  | none => false
theorem roomOk_le [Ltr] {E : Ren} {H : RW} {w : World} (R : Rep X base E H w) {i n c b k : Nat} (hE : E i = some (b, k)) (h : roomOk H i n c = true) : n ≤ room c k := by
  unfold roomOk at h
  unfold room
  generalize big = B at h ⊢
  have small : (Nat.blt c B && Nat.ble n c) = true → n ≤ (bif Nat.blt c B then c else k - (c - B)) := by
    intro h
    simp only [Bool.and_eq_true] at h
    rw [h.1, cond_true]
    exact Nat.le_of_ble_eq_true h.2
  split at h
  · rename_i vs t sz hl
    simp only [Bool.and_eq_true] at h
    have hsz := Nat.eq_of_beq_eq_true h.1
    cases hc : Nat.blt c B with
    | true =>
      have h2 := h.2
      rw [hc, cond_true] at h2
      rw [cond_true]
      exact Nat.le_of_ble_eq_true h2
    | false =>
      have h2 := h.2
      rw [hc, cond_false] at h2
      obtain ⟨b', k', e', ho⟩ := R.ok i _ hl
      rw [hE] at e'; obtain ⟨rfl, rfl⟩ := Prod.mk.inj (Option.some.inj e')
      obtain ⟨xs, ys, -, r, hlen, -⟩ := ho
      have h4 := Nat.le_of_ble_eq_true h2
      have h3 := r.length
      rw [cond_false]
      subst hsz
      omega
  · exact small h
  · cases h
def joinP (args : List Value) (H : RW) : Option Value :=
  match args with
  | [.slice (some ⟨i, o, none⟩) n c, .string sep] => match cellsOf H i o n with
    | some l => match strL l with
      | some xs => bif roomOk H i n c && Nat.ble n 140737488355328 && Nat.ble (Lib.join (xs.map (·.data.toList)) sep.data.toList).length 140737488355328 && Nat.blt 0 n then some (.string ⟨⟨Lib.join (xs.map (·.data.toList)) sep.data.toList⟩⟩) else none
      | none => none
    | none => none
  | _ => none
theorem joinP_ok [Ltr] {f : FuncId} (h : ∀ (bk o c : Nat) (xs : List ByteArray) (sep : ByteArray) (w : World) (_ : ∀ (j : Nat) x, xs[j]? = some x → w.cell? ⟨bk, o + j, none⟩ = some (.string x)) (_ : bk < w.heap.size) (_ : xs.length ≤ 140737488355328) (_ : xs.length ≤ c) (_ : (Lib.join (xs.map (·.data.toList)) sep.data.toList).length ≤ 140737488355328),
    Calls P f #[.slice (some ⟨bk, o, none⟩) xs.length c, .string sep] w fun e w' => e = .returned (.string ⟨(Lib.join (xs.map (·.data.toList)) sep.data.toList).toArray⟩) ∧ Below w.heap.size w w') : PEOk P X base (f, joinP) := by
  intro args H u E w args' hR ha e
  dsimp only [joinP] at e
  split at e
  · rename_i i o n c sep
    cases hl : cellsOf H i o n with
    | none => rw [hl] at e; cases e
    | some l =>
      rw [hl] at e
      dsimp only at e
      cases hs : strL l with
      | none => rw [hs] at e; cases e
      | some xs =>
        rw [hs] at e
        dsimp only at e
        obtain ⟨hb, e⟩ := cond_some e
        obtain rfl := Option.some.inj e
        simp only [Bool.and_eq_true] at hb
        obtain ⟨⟨⟨b1, b2⟩, b3⟩, b4⟩ := hb
        cases ha with
        | cons h1 t1 =>
          cases t1 with
          | cons h2 t2 =>
            cases t2
            rw [h2.flat_eq rfl]
            cases h1 with
            | same hf => cases hf
            | @sl _ _ b k _ _ hE =>
              obtain ⟨vs', r, hlen, hcell⟩ := cellsOf_rel hR hE n o hl
              have hxs := strL_eq hs
              subst hxs
              have hflat : ∀ {zs : List ByteArray} {l' : List Value}, RelL E (zs.map Value.string) l' → l' = zs.map Value.string := by
                intro zs
                induction zs with
                | nil => intro l' r; cases r; rfl
                | cons z zs ih => intro l' r; cases r with | cons p q => rw [p.flat_eq rfl, ih q]; rfl
              have hv := hflat r
              subst hv
              have hn : xs.length = n := by simpa using hlen
              subst hn
              have hc : ∀ (j : Nat) x, xs[j]? = some x → w.cell? ⟨b, o + j, none⟩ = some (.string x) := fun j x hj => hcell j _ (by simp [hj])
              have hbk : b < w.heap.size := by
                have h0 : 0 < xs.length := by simpa [Nat.blt_eq] using b4
                have := hc 0 xs[0] (by simp [h0])
                exact World.block_lt_of_cell? _ _ this
              exact (h b o (room c k) xs sep w hc hbk (Nat.le_of_ble_eq_true b2) (roomOk_le hR hE b1) (Nat.le_of_ble_eq_true b3)).mono fun e w' p => ⟨_, p.1, .same rfl, p.2⟩
  · cases e
/-- a table: what lies in a package-level variable -/
def TabAt (w : World) (g : Nat) (l : List Value) : Prop := ∀ (j : Nat) (v : Value), l[j]? = some v → w.cell? ⟨g, j, none⟩ = some v
def TabsE (T : List (Nat × List Value)) (w : World) : Prop := ∀ p ∈ T, TabAt w p.1 p.2
theorem TabAt.keep {w w' : World} {g : Nat} {l : List Value} (h : TabAt w g l) (k : ∀ b, (kep w) b → w'.heap[b]? = (kep w).ob b) : TabAt w' g l := by
  intro j v hj
  have h1 := h j v hj
  have hb : g < w.heap.size := World.block_lt_of_cell? _ _ h1
  have h2 : w'.heap[g]? = w.heap[g]? := k g hb
  rw [← h1]
  simp only [World.cell?, h2]
theorem TabsE.keep {T : List (Nat × List Value)} {w w' : World} (h : TabsE T w) (k : ∀ b, (kep w) b → w'.heap[b]? = (kep w).ob b) : TabsE T w' := fun p hp => (h p hp).keep k
theorem TabsE.below {T : List (Nat × List Value)} {w w' : World} (h : TabsE T w) (b : Below w.heap.size w w') : TabsE T w' := h.keep fun k hk => b.block k hk
theorem cell_row {w : World} {b o : Nat} {v : Value} (h : w.cell? ⟨b, o, none⟩ = some v) : ∃ c t fz, w.heap[b]? = some (.cells c t fz) ∧ c[o]? = some v := by
  unfold World.cell? at h
  split at h <;> first | exact ⟨_, _, _, by assumption, h⟩ | simp at h
def roRows (T : List (Nat × List Value)) : List (Nat × Ob) := T.map fun p => (p.1, .ro p.2)
def startE (G : Nat) : Ren := fun i => bif Nat.blt i G then some (i, 0) else none
theorem look_ro {i : Nat} {o : Ob} : ∀ {T : List (Nat × List Value)}, look i (roRows T) = some o → ∃ l, (i, l) ∈ T ∧ o = .ro l
  | [], e => by cases e
  | (g, l) :: T, e => by
    simp only [roRows, List.map_cons, look] at e
    cases hb : Nat.beq i g with
    | true =>
      rw [hb] at e
      exact ⟨l, by rw [Nat.eq_of_beq_eq_true hb]; exact List.mem_cons_self, (Option.some.inj e).symm⟩
    | false =>
      rw [hb] at e
      obtain ⟨l', h1, h2⟩ := look_ro (T := T) e
      exact ⟨l', List.mem_cons_of_mem _ h1, h2⟩
theorem rep_start [Ltr] {G : Nat} {T : List (Nat × List Value)} {w : World} (h : TabsE T w) (hf : (T.all fun p => p.2.all flat && !p.2.isEmpty && Nat.blt p.1 G) = true) : Rep (kep w) G (startE G) ⟨G, roRows T⟩ w := by
  have dom : ∀ i, G ≤ i → startE G i = none := by
    intro i hi
    unfold startE
    have : Nat.blt i G = false := by
      cases hb : Nat.blt i G with
      | true => have : i < G := by simpa [Nat.blt_eq] using hb
                omega
      | false => rfl
    rw [this]; rfl
  have at' : ∀ {i b k : Nat}, startE G i = some (b, k) → b = i := by
    intro i b k e
    unfold startE at e
    cases hb : Nat.blt i G with
    | true => rw [hb] at e; exact (Prod.mk.inj (Option.some.inj e)).1.symm
    | false => rw [hb] at e; cases e
  refine ⟨dom, ?_, ?_, ?_, fun b hb => hb, Nat.le_refl _, fun b hb => rfl⟩
  · intro i o hi
    obtain ⟨l, hm, rfl⟩ := look_ro hi
    have hx := List.all_eq_true.1 hf _ hm
    simp only [Bool.and_eq_true, Bool.not_eq_true'] at hx
    obtain ⟨⟨h1, h2⟩, h3⟩ := hx
    refine ⟨i, 0, by unfold startE; rw [h3]; rfl, ?_⟩
    have ht := h _ hm
    cases l with
    | nil => cases h2
    | cons a l =>
      obtain ⟨c, t, fz, e, -⟩ := cell_row (ht 0 a rfl)
      refine ⟨c, t, fz, e, fun j v hj => ⟨v, ?_, .same (List.all_eq_true.1 h1 v (List.mem_of_getElem? hj))⟩⟩
      obtain ⟨c', t', fz', e', hc⟩ := cell_row (ht j v hj)
      rw [e] at e'
      injection e' with e'
      injection e' with e1 e2 e3
      rw [e1]; exact hc
  · intro i j o o' b k k' _ _ _ _ e1 e2
    rw [← at' e1, ← at' e2]
  · intro i b k hi e
    rw [dom i hi] at e; cases e
/-- a call, by reckoning from the tables -/
theorem run_sym [Ltr] [Orc] {w : World} {T : List (Nat × List Value)} {G : Nat} [OrcOk P G (kep w) G] {l : List PE} (hm : P.follows .mixedOrders = true) {f : FuncId} {v : Value} {args args' : List Value} (hT : TabsE T w) (hf : (T.all fun p => p.2.all flat && !p.2.isEmpty && Nat.blt p.1 G) = true) (hp : ∀ e ∈ l, PEOk P (kep w) G e) (n : Nat) (ha : RelL (startE G) args args')
    (e : (callEv P (prL l) G (codeQ P (prL l) G G n false) f args ⟨G, roRows T⟩).map (·.1) = some v) : Calls P f ⟨args'⟩ w fun e w' => ∃ v' F, e = .returned v' ∧ Ext (startE G) F ∧ Rel F v v' ∧ Below w.heap.size w w' :=
  run_callQ hm (prL_ok hp) n (rep_start hT hf) (fun g hg => ⟨0, by unfold startE; rw [show Nat.blt g G = true by simpa [Nat.blt_eq] using hg]; rfl⟩) ha e
/-- a call without arguments, of a flat answer -/
theorem run_fixed [Ltr] [Orc] {w : World} {T : List (Nat × List Value)} {G : Nat} [OrcOk P G (kep w) G] {l : List PE} (hm : P.follows .mixedOrders = true) {f : FuncId} {v : Value} (hT : TabsE T w) (hf : (T.all fun p => p.2.all flat && !p.2.isEmpty && Nat.blt p.1 G) = true) (hp : ∀ e ∈ l, PEOk P (kep w) G e) (n : Nat) (hv : flat v = true)
    (e : (callEv P (prL l) G (codeQ P (prL l) G G n false) f [] ⟨G, roRows T⟩).map (·.1) = some v) : Calls P f #[] w fun e w' => e = .returned v ∧ Below w.heap.size w w' :=
  (run_sym hm hT hf hp n .nil e).mono fun _ _ p => by
    obtain ⟨v', F, rfl, _, r, b⟩ := p
    rw [r.flat_eq hv]
    exact ⟨rfl, b⟩
end
end Go.Proofs.YtkhmbphcjacgnaaGreatDoor
