/-
  A run by reckoning, part 1: values whose addresses are names, a memory of names, and what the primitive steps do to both.
-/
import Derived.Below
import Derived.Calls
namespace Go.Proofs.YtkhmbphcjacgnaaGreatDoor
open Go Go.RowKit
/-- of a name: its block, its room -/
abbrev Ren := Nat → Option (Nat × Nat)
def Ext (E F : Ren) : Prop := ∀ i x, E i = some x → F i = some x
theorem Ext.refl (E : Ren) : Ext E E := fun _ _ h => h
theorem Ext.trans {E F G : Ren} (h : Ext E F) (k : Ext F G) : Ext E G := fun i x e => k i x (h i x e)
def flat : Value → Bool
  | .bool _ | .int _ _ | .string _ | .pointer none | .slice none _ _ | .map none | .nilFunc | .nilIface => true
  | .func (.func _) ⟨[]⟩ ⟨[]⟩ => true
  | .tuple ⟨[]⟩ => true
  | _ => false
def big : Nat := 4611686018427387904
def room (c k : Nat) : Nat := bif Nat.blt c big then c else k - (c - big)
/-- letters: what the values .chan (some i) stand for; what is known of those that .float .f64 i stand for -/
class Ltr where
  v : Nat → Option Value
  q : Nat → Value → Prop
  /-- of a block of which something alone is known: by its room and what lies there -/
  o : Nat → Nat → Obj → Prop
  /-- of a slice from such a block's beginning: by its room, its length, its own room -/
  s : Nat → Nat → Nat → Nat → Prop
  /-- of an address in such a block: how far in -/
  p : Nat → Nat → Prop
/-- it stands for anything: nobody looks -/
def isTop : Value → Bool
  | .float .f32 _ => true
  | _ => false
/-- what a letter may stand for -/
def sgl : Value → Bool
  | .int _ _ | .string _ | .slice _ _ _ | .iface _ _ | .pointer _ | .map _ => true
  | _ => false
mutual
inductive Rel [Ltr] (E : Ren) : Value → Value → Prop
  | same {v : Value} (h : flat v = true) : Rel E v v
  | ptr {i o b k : Nat} (h : E i = some (b, k)) : Rel E (.pointer (some ⟨i, o, none⟩)) (.pointer (some ⟨b, o, none⟩))
  | sl {i o b k n c : Nat} (h : E i = some (b, k)) : Rel E (.slice (some ⟨i, o, none⟩) n c) (.slice (some ⟨b, o, none⟩) n (room c k))
  | map {i b k : Nat} (h : E i = some (b, k)) : Rel E (.map (some i)) (.map (some b))
  | iface {t : TypeId} {v v' : Value} (h : Rel E v v') : Rel E (.iface t v) (.iface t v')
  | func {f : FuncId} {x x' y y' : List Value} (h : RelL E x x') (h' : RelL E y y') : Rel E (.func (.func f) ⟨x⟩ ⟨y⟩) (.func (.func f) ⟨x'⟩ ⟨y'⟩)
  | yld {i b k : Nat} (h : E i = some (b, k)) : Rel E (.func (.yield i) ⟨[]⟩ ⟨[]⟩) (.func (.yield b) ⟨[]⟩ ⟨[]⟩)
  | agg {x x' : List Value} (h : RelL E x x') : Rel E (.agg ⟨x⟩) (.agg ⟨x'⟩)
  | tuple {x x' : List Value} (h : RelL E x x') : Rel E (.tuple ⟨x⟩) (.tuple ⟨x'⟩)
  | ltr {i : Nat} {u : Value} (h : Ltr.v i = some u) (hs : sgl u = true) : Rel E (.chan (some i)) u
  | prd {i : Nat} {u : Value} (h : Ltr.q i u) (hs : sgl u = true) : Rel E (.float .f64 i) u
  | any {i : Nat} {u : Value} : Rel E (.float .f32 i) u
  | sll {i j b k n c : Nat} (h : E i = some (b, k)) (hs : Ltr.s j k n c) : Rel E (.complex .f64 i j) (.slice (some ⟨b, 0, none⟩) n c)
  | ptl {i j b k o : Nat} (h : E i = some (b, k)) (hs : Ltr.p j o) : Rel E (.complex .f32 i j) (.pointer (some ⟨b, o, none⟩))
inductive RelL [Ltr] (E : Ren) : List Value → List Value → Prop
  | nil : RelL E [] []
  | cons {v v' : Value} {l l' : List Value} (h : Rel E v v') (t : RelL E l l') : RelL E (v :: l) (v' :: l')
end
mutual
theorem Rel.mono [Ltr] {E F : Ren} (x : Ext E F) {v v' : Value} : Rel E v v' → Rel F v v'
  | .same h => .same h
  | .ptr h => .ptr (x _ _ h)
  | .sl h => .sl (x _ _ h)
  | .map h => .map (x _ _ h)
  | .iface h => .iface (h.mono x)
  | .func h h' => .func (h.mono x) (h'.mono x)
  | .yld h => .yld (x _ _ h)
  | .agg h => .agg (h.mono x)
  | .tuple h => .tuple (h.mono x)
  | .ltr h hs => .ltr h hs
  | .prd h hs => .prd h hs
  | .any => .any
  | .sll h hs => .sll (x _ _ h) hs
  | .ptl h hs => .ptl (x _ _ h) hs
theorem RelL.mono [Ltr] {E F : Ren} (x : Ext E F) {v v' : List Value} : RelL E v v' → RelL F v v'
  | .nil => .nil
  | .cons h t => .cons (h.mono x) (t.mono x)
end
section
variable {E : Ren}
theorem RelL.length [Ltr] {l l' : List Value} : RelL E l l' → l'.length = l.length
  | .nil => rfl
  | .cons _ t => by simp [t.length]
theorem RelL.get [Ltr] {l l' : List Value} : RelL E l l' → ∀ {i : Nat} {v : Value}, l[i]? = some v → ∃ v', l'[i]? = some v' ∧ Rel E v v'
  | .nil, i, v, e => by simp at e
  | .cons h t, 0, v, e => by obtain rfl := Option.some.inj e; exact ⟨_, rfl, h⟩
  | .cons h t, i + 1, v, e => by
    obtain ⟨v', e', h'⟩ := t.get (i := i) (v := v) (by simpa using e)
    exact ⟨v', by simpa using e', h'⟩
theorem RelL.set [Ltr] {l l' : List Value} {v v' : Value} (hv : Rel E v v') : RelL E l l' → ∀ i, RelL E (l.set i v) (l'.set i v')
  | .nil, _ => .nil
  | .cons h t, 0 => .cons hv t
  | .cons h t, i + 1 => .cons h (t.set hv i)
theorem RelL.append [Ltr] {l l' m m' : List Value} : RelL E l l' → RelL E m m' → RelL E (l ++ m) (l' ++ m')
  | .nil, h => h
  | .cons h t, k => .cons h (t.append k)
theorem RelL.drop [Ltr] {l l' : List Value} : RelL E l l' → ∀ n, RelL E (l.drop n) (l'.drop n)
  | h, 0 => by simpa using h
  | .nil, n + 1 => by simpa using RelL.nil
  | .cons _ t, n + 1 => by simpa using t.drop n
theorem RelL.take [Ltr] {l l' : List Value} : RelL E l l' → ∀ n, RelL E (l.take n) (l'.take n)
  | h, 0 => by simpa using RelL.nil
  | .nil, n + 1 => by simpa using RelL.nil
  | .cons h t, n + 1 => by simpa using RelL.cons h (t.take n)
theorem RelL.flats [Ltr] : ∀ {l : List Value}, l.all flat = true → RelL E l l
  | [], _ => .nil
  | v :: l, h => by
    simp only [List.all_cons, Bool.and_eq_true] at h
    exact .cons (.same h.1) (RelL.flats h.2)
theorem RelL.undefs [Ltr] : ∀ n, RelL E (List.replicate n undef) (List.replicate n undef)
  | 0 => .nil
  | n + 1 => .cons (.same rfl) (RelL.undefs n)
/-- what is flat is itself -/
theorem Rel.flat_eq [Ltr] {v v' : Value} (hf : flat v = true) : Rel E v v' → v' = v
  | .same _ => rfl
  | .ptr _ => by cases hf
  | .sl _ => by cases hf
  | .map _ => by cases hf
  | .iface _ => by cases hf
  | .func .nil .nil => rfl
  | .func (.cons _ _) _ => by simp [flat] at hf
  | .func .nil (.cons _ _) => by simp [flat] at hf
  | .yld _ => by cases hf
  | .agg _ => by cases hf
  | .tuple .nil => rfl
  | .tuple (.cons _ _) => by simp [flat] at hf
  | .ltr _ _ => by cases hf
  | .prd _ _ => by cases hf
  | .any => by cases hf
  | .sll _ _ => by cases hf
  | .ptl _ _ => by cases hf
theorem Rel.bool [Ltr] {b : Bool} {v' : Value} (h : Rel E (.bool b) v') : v' = .bool b := h.flat_eq rfl
theorem Rel.int [Ltr] {k : IntKind} {n : Int} {v' : Value} (h : Rel E (.int k n) v') : v' = .int k n := h.flat_eq rfl
end
/-- entries of maps: the same keys -/
inductive RelM [Ltr] (E : Ren) : List MapEntry → List MapEntry → Prop
  | nil : RelM E [] []
  | cons {k v v' : Value} {n : Nat} {l l' : List MapEntry} (h : Rel E v v') (t : RelM E l l') : RelM E ({ key := k, val := v, born := n } :: l) ({ key := k, val := v', born := n } :: l')
theorem RelM.mono [Ltr] {E F : Ren} (x : Ext E F) : ∀ {l l' : List MapEntry}, RelM E l l' → RelM F l l'
  | _, _, .nil => .nil
  | _, _, .cons h t => .cons (h.mono x) (t.mono x)
theorem RelM.append [Ltr] {E : Ren} : ∀ {l l' m m' : List MapEntry}, RelM E l l' → RelM E m m' → RelM E (l ++ m) (l' ++ m')
  | _, _, _, _, .nil, h => h
  | _, _, _, _, .cons h t, k => .cons h (t.append k)
theorem RelM.set [Ltr] {E : Ren} {k v v' : Value} (hv : Rel E v v') : ∀ {l l' : List MapEntry}, RelM E l l' → ∀ j, RelM E (l.modify j fun e => { e with key := k, val := v }) (l'.modify j fun e => { e with key := k, val := v' })
  | _, _, .nil, j => by cases j <;> exact .nil
  | _, _, .cons h t, 0 => .cons hv t
  | _, _, .cons h t, j + 1 => .cons h (t.set hv j)
theorem RelM.key [Ltr] {E : Ren} : ∀ {l l' : List MapEntry}, RelM E l l' → ∀ j : Nat, l'[j]?.map (·.key) = l[j]?.map (·.key)
  | _, _, .nil, _ => rfl
  | _, _, .cons _ _, 0 => rfl
  | _, _, .cons _ t, j + 1 => by simpa using t.key j
/-- what lies behind a name -/
inductive Ob where
  | gone
  | ro (vs : List Value)
  | row (vs : List Value) (t : TypeId)
  | own (vs : List Value) (t : TypeId) (sz : Nat)
  | mp (es : List MapEntry) (clock : Nat)
  | lp (st : LoopState) (pd : Option Code) (ts : List Value) (ps : Array Tmp) (as bd : Code)
  | df
  | it (s : ByteArray) (pos : Nat)
  | opq (i : Nat)
def Ob.live : Ob → Bool
  | .gone => false
  | _ => true
structure RW where
  n : Nat
  h : List (Nat × Ob)
def look (i : Nat) : List (Nat × Ob) → Option Ob
  | [] => none
  | (j, o) :: h => bif Nat.beq i j then some o else look i h
def upd (i : Nat) (o : Ob) : List (Nat × Ob) → List (Nat × Ob)
  | [] => []
  | (j, p) :: h => bif Nat.beq i j then (j, o) :: h else (j, p) :: upd i o h
theorem look_upd {i : Nat} {o p : Ob} : ∀ {h : List (Nat × Ob)}, look i h = some p → look i (upd i o h) = some o
  | [], e => by cases e
  | (j, q) :: h, e => by
    unfold look at e; unfold upd
    cases hb : Nat.beq i j with
    | true => simp [look, hb]
    | false => rw [hb] at e; simp only [cond_false, look, hb]; exact look_upd e
theorem look_upd_ne {i j : Nat} {o : Ob} (hn : j ≠ i) : ∀ {h : List (Nat × Ob)}, look j (upd i o h) = look j h
  | [] => rfl
  | (k, q) :: h => by
    unfold upd
    cases hb : Nat.beq i k with
    | true =>
      have := Nat.eq_of_beq_eq_true hb; subst this
      have hb' : Nat.beq j i = false := by
        cases hb' : Nat.beq j i with
        | true => exact absurd (Nat.eq_of_beq_eq_true hb') hn
        | false => rfl
      simp [look, hb']
    | false => simp only [cond_false, look]; rw [look_upd_ne hn]
def Ok [Ltr] (E : Ren) (k : Nat) : Ob → Option Obj → Prop
  | .gone, _ => True
  | .ro vs, x => ∃ (c : Array Value) (t : TypeId) (fz : Nat × Nat), x = some (.cells c t fz) ∧ ∀ (j : Nat) (v : Value), vs[j]? = some v → ∃ v' : Value, c[j]? = some v' ∧ Rel E v v'
  | .row vs t, x => ∃ xs, x = some (.cells ⟨xs⟩ t (0, 0)) ∧ RelL E vs xs
  | .mp es c, x => ∃ es', x = some (.map ⟨es'⟩ c) ∧ RelM E es es'
  | .lp st pd ts ps as bd, x => ∃ fn xs db, x = some (.loop { state := st, pending := pd, fn := fn, tmps := ⟨xs⟩, params := ps, assign := as, body := bd, defers := db }) ∧ RelL E ts xs
  | .df, x => x = some (.deferred (some []))
  | .it s p, x => x = some (.stringIter s p)
  | .opq i, x => ∃ y, x = some y ∧ Ltr.o i k y
  | .own vs t sz, x => ∃ xs ys, x = some (.cells ⟨xs ++ ys⟩ t (0, 0)) ∧ RelL E vs xs ∧ xs.length + ys.length = k * sz ∧ k ≤ maxLen
theorem Ok.mono [Ltr] {E F : Ren} (x : Ext E F) {k : Nat} {o : Ob} {b : Option Obj} (h : Ok E k o b) : Ok F k o b := by
  cases o with
  | gone => trivial
  | ro vs => obtain ⟨c, t, fz, e, r⟩ := h; exact ⟨c, t, fz, e, fun j v hj => let ⟨v', h1, h2⟩ := r j v hj; ⟨v', h1, h2.mono x⟩⟩
  | row vs t => obtain ⟨xs, e, r⟩ := h; exact ⟨xs, e, r.mono x⟩
  | own vs t sz => obtain ⟨xs, ys, e, r, l⟩ := h; exact ⟨xs, ys, e, r.mono x, l⟩
  | mp es c => obtain ⟨es', e, r⟩ := h; exact ⟨es', e, r.mono x⟩
  | lp st pd ts ps as bd => obtain ⟨fn, xs, db, e, r⟩ := h; exact ⟨fn, xs, db, e, r.mono x⟩
  | df => exact h
  | it s p => exact h
  | opq i => exact h
/-- blocks that stay, and what lies there -/
structure Kep where
  p : Nat → Prop
  ob : Nat → Option Obj
instance : CoeFun Kep (fun _ => Nat → Prop) := ⟨Kep.p⟩
/-- all that there is -/
def kep (w : World) : Kep := ⟨fun b => b < w.heap.size, fun b => w.heap[b]?⟩
/-- what X names stays as it is -/
structure Kp (X : Kep) (w w' : World) : Prop where
  os : w'.os = w.os
  tape : w'.tape = w.tape
  output : w'.output = w.output
  size : w.heap.size ≤ w'.heap.size
  block : ∀ k, X k → w'.heap[k]? = w.heap[k]?
theorem Kp.refl (X : Kep) (w : World) : Kp X w w := ⟨rfl, rfl, rfl, Nat.le_refl _, fun _ _ => rfl⟩
theorem Kp.trans {X : Kep} {a b c : World} (h : Kp X a b) (k : Kp X b c) : Kp X a c :=
  ⟨k.os.trans h.os, k.tape.trans h.tape, k.output.trans h.output, Nat.le_trans h.size k.size, fun i hi => (k.block i hi).trans (h.block i hi)⟩
/-- the memory w holds what the memory of names says -/
structure Rep [Ltr] (X : Kep) (base : Nat) (E : Ren) (H : RW) (w : World) : Prop where
  dom : ∀ i, H.n ≤ i → E i = none
  ok : ∀ i o, look i H.h = some o → ∃ b k, E i = some (b, k) ∧ Ok E k o w.heap[b]?
  inj : ∀ i j o o' b k k', look i H.h = some o → o.live = true → look j H.h = some o' → o'.live = true → E i = some (b, k) → E j = some (b, k') → i = j
  new : ∀ i b k, base ≤ i → E i = some (b, k) → ¬ X b
  lt : ∀ b, X b → b < w.heap.size
  bn : base ≤ H.n
  fx : ∀ b, X b → w.heap[b]? = X.ob b
def RW.cell (H : RW) (a : Addr) : Option Value :=
  match a.spot, look a.block H.h with
  | none, some (.ro vs) => vs[a.off]?
  | none, some (.row vs _) => vs[a.off]?
  | none, some (.own vs _ _) => vs[a.off]?
  | _, _ => none
def single : Value → Bool
  | .agg _ | .tuple _ | .float .f32 _ => false
  | _ => true
def RW.put (H : RW) (base : Nat) (a : Addr) (v : Value) : Option RW :=
  match a.spot, look a.block H.h with
  | none, some (.row vs t) => bif Nat.ble base a.block && Nat.blt a.off vs.length && single v then some { H with h := upd a.block (.row (vs.set a.off v) t) H.h } else none
  | none, some (.own vs t sz) => bif Nat.ble base a.block && Nat.blt a.off vs.length && single v then some { H with h := upd a.block (.own (vs.set a.off v) t sz) H.h } else none
  | _, _ => none
def RW.push (H : RW) (o : Ob) : RW := ⟨H.n + 1, (H.n, o) :: H.h⟩
section
variable {X : Kep} {base : Nat} {E : Ren} {H : RW} {w : World}
theorem heap_get_of {w : World} {b : Nat} {c : Array Value} {t : TypeId} (h : w.heap[b]? = some (.cells c t (0, 0))) (o : Nat) : w.cell? ⟨b, o, none⟩ = c[o]? := by
  simp [World.cell?, h]
theorem Rep.cell [Ltr] (R : Rep X base E H w) {i o b k : Nat} {v : Value} (e : E i = some (b, k)) (h : H.cell ⟨i, o, none⟩ = some v) :
    ∃ v', w.cell? ⟨b, o, none⟩ = some v' ∧ Rel E v v' := by
  unfold RW.cell at h
  cases hl : look i H.h with
  | none => simp [hl] at h
  | some ob =>
    obtain ⟨b', k', e', ho⟩ := R.ok i ob hl
    rw [e] at e'; obtain ⟨rfl, rfl⟩ := Prod.mk.inj (Option.some.inj e')
    cases ob with
    | gone => simp [hl] at h
    | mp es c => simp [hl] at h
    | lp st pd ts ps as bd => simp [hl] at h
    | df => simp [hl] at h
    | it s p => simp [hl] at h
    | opq i => simp [hl] at h
    | ro vs =>
      obtain ⟨c, t, fz, hx, r⟩ := ho
      obtain ⟨v', hv, hr⟩ := r o v (by simpa [hl] using h)
      exact ⟨v', by simp [World.cell?, hx, hv], hr⟩
    | row vs t =>
      obtain ⟨xs, hx, r⟩ := ho
      obtain ⟨v', hv, hr⟩ := r.get (i := o) (v := v) (by simpa [hl] using h)
      exact ⟨v', by rw [heap_get_of hx]; simpa using hv, hr⟩
    | own vs t sz =>
      obtain ⟨xs, ys, hx, r, _⟩ := ho
      obtain ⟨v', hv, hr⟩ := r.get (i := o) (v := v) (by simpa [hl] using h)
      refine ⟨v', ?_, hr⟩
      rw [heap_get_of hx]
      have hlt : o < xs.length := by
        rcases Nat.lt_or_ge o xs.length with h | h
        · exact h
        · rw [List.getElem?_eq_none h] at hv; cases hv
      simp [List.getElem?_append_left hlt, hv]
theorem heap_set_of {w : World} {b : Nat} {c : Array Value} {t : TypeId} (h : w.heap[b]? = some (.cells c t (0, 0))) (o : Nat) (v : Value) :
    (w.setCell ⟨b, o, none⟩ v).heap[b]? = some (.cells (c.setIfInBounds o v) t (0, 0)) := by
  have hb : b < w.heap.size := (Array.getElem?_eq_some_iff.1 h).1
  simp [World.setCell, Array.getElem?_modify, h]
theorem Rep.put [Ltr] (R : Rep X base E H w) {H' : RW} {i o b k : Nat} {v v' : Value} (e : E i = some (b, k)) (hv : Rel E v v') (h : H.put base ⟨i, o, none⟩ v = some H') :
    (∃ u, w.cell? ⟨b, o, none⟩ = some u) ∧ w.frozen? ⟨b, o, none⟩ = false ∧ Rep X base E H' (w.setCell ⟨b, o, none⟩ v') ∧ Kp X w (w.setCell ⟨b, o, none⟩ v') ∧ single v = true := by
  unfold RW.put at h
  cases hl : look i H.h with
  | none => simp [hl] at h
  | some ob =>
    obtain ⟨b', k', e', ho⟩ := R.ok i ob hl
    rw [e] at e'; obtain ⟨rfl, rfl⟩ := Prod.mk.inj (Option.some.inj e')
    have main : ∀ (ob' : Ob) (c : Array Value) (t : TypeId), w.heap[b]? = some (.cells c t (0, 0)) → o < c.size → base ≤ i → ob.live = true → ob'.live = true → H' = { H with h := upd i ob' H.h } →
        Ok E k ob' (some (.cells (c.setIfInBounds o v') t (0, 0))) →
        (∃ u, w.cell? ⟨b, o, none⟩ = some u) ∧ w.frozen? ⟨b, o, none⟩ = false ∧ Rep X base E H' (w.setCell ⟨b, o, none⟩ v') ∧ Kp X w (w.setCell ⟨b, o, none⟩ v') := by
      intro ob' c t hx hoc hbi l1 l2 hH hok
      subst hH
      have hB : ¬ X b := R.new i b k hbi e
      refine ⟨⟨c[o], by rw [heap_get_of hx]; simp [hoc]⟩, by simp [World.frozen?, hx], ⟨R.dom, ?_, ?_, R.new, fun j hj => by simpa [World.setCell] using R.lt j hj, R.bn, fun j hj => (Below.heap_setCell w _ v' j fun h => hB (by rw [show b = j from h.symm]; exact hj)).trans (R.fx j hj)⟩, ⟨rfl, rfl, rfl, by simp [World.setCell], fun j hj => Below.heap_setCell w _ v' j fun h => hB (by rw [show b = j from h.symm]; exact hj)⟩⟩
      · intro j oj hj
        by_cases hji : j = i
        · subst hji
          rw [look_upd hl] at hj
          obtain rfl := Option.some.inj hj
          exact ⟨b, k, e, by rw [heap_set_of hx]; exact hok⟩
        · rw [look_upd_ne hji] at hj
          obtain ⟨b2, k2, e2, h2⟩ := R.ok j oj hj
          refine ⟨b2, k2, e2, ?_⟩
          cases hlv : oj.live with
          | false => cases oj <;> first | trivial | cases hlv
          | true =>
            have hbb : b2 ≠ b := fun hbb => hji (R.inj j i oj ob b k2 k hj hlv hl l1 (hbb ▸ e2) e)
            rw [Below.heap_setCell w _ v' b2 hbb]
            exact h2
      · intro j j' oj oj' b2 k2 k2' hj lj hj' lj' e2 e2'
        have hh : ∀ {x : Nat} {ox : Ob}, look x (upd i ob' H.h) = some ox → ox.live = true → ∃ ox', look x H.h = some ox' ∧ ox'.live = true := by
          intro x ox hx' lx
          by_cases hxi : x = i
          · subst hxi; exact ⟨ob, hl, l1⟩
          · rw [look_upd_ne hxi] at hx'; exact ⟨ox, hx', lx⟩
        obtain ⟨p, hp, lp⟩ := hh hj lj
        obtain ⟨q, hq, lq⟩ := hh hj' lj'
        exact R.inj j j' p q b2 k2 k2' hp lp hq lq e2 e2'
    cases ob with
    | gone => simp [hl] at h
    | mp es c => simp [hl] at h
    | lp st pd ts ps as bd => simp [hl] at h
    | df => simp [hl] at h
    | it s p => simp [hl] at h
    | opq i => simp [hl] at h
    | ro vs => simp [hl] at h
    | row vs t =>
      obtain ⟨xs, hx, r⟩ := ho
      simp only [hl] at h
      cases hc : (Nat.ble base i && Nat.blt o vs.length && single v) with
      | false => rw [hc] at h; cases h
      | true =>
        rw [hc] at h
        simp only [Bool.and_eq_true] at hc
        have hol : o < vs.length := by simpa [Nat.blt_eq] using hc.1.2
        obtain ⟨p1, p2, p3, p4⟩ := main (.row (vs.set o v) t) ⟨xs⟩ t hx (by simpa [r.length] using hol) (Nat.le_of_ble_eq_true hc.1.1) rfl rfl (Option.some.inj h).symm ⟨xs.set o v', by simp, r.set hv o⟩
        exact ⟨p1, p2, p3, p4, hc.2⟩
    | own vs t sz =>
      obtain ⟨xs, ys, hx, r, hlen, hmx⟩ := ho
      simp only [hl] at h
      cases hc : (Nat.ble base i && Nat.blt o vs.length && single v) with
      | false => rw [hc] at h; cases h
      | true =>
        rw [hc] at h
        simp only [Bool.and_eq_true] at hc
        have hol : o < vs.length := by simpa [Nat.blt_eq] using hc.1.2
        have hox : o < xs.length := by rw [r.length]; exact hol
        obtain ⟨p1, p2, p3, p4⟩ := main (.own (vs.set o v) t sz) ⟨xs ++ ys⟩ t hx (by simp; omega) (Nat.le_of_ble_eq_true hc.1.1) rfl rfl (Option.some.inj h).symm
          ⟨xs.set o v', ys, by simp [List.set_append_left _ _ hox], r.set hv o, by simpa using hlen, hmx⟩
        exact ⟨p1, p2, p3, p4, hc.2⟩
/-- a new name -/
def Ren.new (E : Ren) (n b k : Nat) : Ren := fun j => bif Nat.beq j n then some (b, k) else E j
theorem Ren.ext {E : Ren} {n b k : Nat} (h : E n = none) : Ext E (E.new n b k) := by
  intro i x e
  unfold Ren.new
  cases hb : Nat.beq i n with
  | true => rw [Nat.eq_of_beq_eq_true hb, h] at e; cases e
  | false => exact e
theorem Ren.at {E : Ren} {n b k : Nat} : (E.new n b k) n = some (b, k) := by unfold Ren.new; rw [Nat.beq_refl]; rfl
theorem Rep.push [Ltr] (R : Rep X base E H w) {o : Ob} {x : Obj} {k : Nat} (ho : ∀ F, Ext E F → Ok F k o (some x)) :
    Rep X base (E.new H.n w.heap.size k) (H.push o) { w with heap := w.heap.push x } ∧ Ext E (E.new H.n w.heap.size k) ∧ Kp X w { w with heap := w.heap.push x } := by
  have hx := Ren.ext (b := w.heap.size) (k := k) (R.dom H.n (Nat.le_refl _))
  have hlt : ∀ i b k, E i = some (b, k) → True := fun _ _ _ _ => trivial
  refine ⟨⟨?_, ?_, ?_, ?_, ?_, ?_, ?_⟩, hx, ⟨rfl, rfl, rfl, by simp, ?_⟩⟩
  · intro i hi
    have : H.n + 1 ≤ i := hi
    unfold Ren.new
    have hb : Nat.beq i H.n = false := by
      cases hb : Nat.beq i H.n with
      | true => have := Nat.eq_of_beq_eq_true hb; omega
      | false => rfl
    rw [hb]
    exact R.dom i (by omega)
  · intro i o' hi
    unfold RW.push look at hi
    cases hb : Nat.beq i H.n with
    | true =>
      have := Nat.eq_of_beq_eq_true hb
      subst this
      rw [hb] at hi
      obtain rfl := Option.some.inj hi
      exact ⟨_, _, Ren.at, by simpa using ho _ hx⟩
    | false =>
      rw [hb] at hi
      obtain ⟨b, k', e, h'⟩ := R.ok i o' hi
      refine ⟨b, k', hx _ _ e, ?_⟩
      cases o' with
      | gone => trivial
      | mp es c =>
        obtain ⟨es', ex, r⟩ := h'
        have hb' : b < w.heap.size := (Array.getElem?_eq_some_iff.1 ex).1
        exact ⟨es', by rw [Array.getElem?_push_lt hb']; simpa [Array.getElem?_eq_getElem hb'] using ex, r.mono hx⟩
      | lp st pd ts ps as bd =>
        obtain ⟨fn, xs, db, ex, r⟩ := h'
        have hb' : b < w.heap.size := (Array.getElem?_eq_some_iff.1 ex).1
        exact ⟨fn, xs, db, by rw [Array.getElem?_push_lt hb']; simpa [Array.getElem?_eq_getElem hb'] using ex, r.mono hx⟩
      | df =>
        have ex : w.heap[b]? = some (.deferred (some [])) := h'
        have hb' : b < w.heap.size := (Array.getElem?_eq_some_iff.1 ex).1
        show _ = _
        rw [Array.getElem?_push_lt hb']
        simpa [Array.getElem?_eq_getElem hb'] using ex
      | it s p =>
        have ex : w.heap[b]? = some (.stringIter s p) := h'
        have hb' : b < w.heap.size := (Array.getElem?_eq_some_iff.1 ex).1
        show _ = _
        rw [Array.getElem?_push_lt hb']
        simpa [Array.getElem?_eq_getElem hb'] using ex
      | opq i =>
        obtain ⟨y, ex, r⟩ := h'
        have hb' : b < w.heap.size := (Array.getElem?_eq_some_iff.1 ex).1
        exact ⟨y, by rw [Array.getElem?_push_lt hb']; simpa [Array.getElem?_eq_getElem hb'] using ex, r⟩
      | ro vs =>
        obtain ⟨c, t, fz, ex, r⟩ := h'
        have hb' : b < w.heap.size := (Array.getElem?_eq_some_iff.1 ex).1
        exact ⟨c, t, fz, by rw [Array.getElem?_push_lt hb']; simpa [Array.getElem?_eq_getElem hb'] using ex, fun j v hj => let ⟨v', h1, h2⟩ := r j v hj; ⟨v', h1, h2.mono hx⟩⟩
      | row vs t =>
        obtain ⟨xs, ex, r⟩ := h'
        have hb' : b < w.heap.size := (Array.getElem?_eq_some_iff.1 ex).1
        exact ⟨xs, by rw [Array.getElem?_push_lt hb']; simpa [Array.getElem?_eq_getElem hb'] using ex, r.mono hx⟩
      | own vs t sz =>
        obtain ⟨xs, ys, ex, r, l⟩ := h'
        have hb' : b < w.heap.size := (Array.getElem?_eq_some_iff.1 ex).1
        exact ⟨xs, ys, by rw [Array.getElem?_push_lt hb']; simpa [Array.getElem?_eq_getElem hb'] using ex, r.mono hx, l⟩
  · have blk : ∀ {i : Nat} {o' : Ob} {b k' : Nat}, i ≠ H.n → look i H.h = some o' → o'.live = true → E i = some (b, k') → b < w.heap.size := by
      intro i o' b k' _ hi hl e
      obtain ⟨b2, k2, e2, h2⟩ := R.ok i o' hi
      rw [e] at e2; obtain ⟨rfl, rfl⟩ := Prod.mk.inj (Option.some.inj e2)
      cases o' with
      | gone => cases hl
      | mp es c => obtain ⟨es', ex, _⟩ := h2; exact (Array.getElem?_eq_some_iff.1 ex).1
      | lp st pd ts ps as bd => obtain ⟨fn, xs, db, ex, _⟩ := h2; exact (Array.getElem?_eq_some_iff.1 ex).1
      | df => have ex : w.heap[b]? = some (.deferred (some [])) := h2; exact (Array.getElem?_eq_some_iff.1 ex).1
      | it s p => have ex : w.heap[b]? = some (.stringIter s p) := h2; exact (Array.getElem?_eq_some_iff.1 ex).1
      | opq i => obtain ⟨y, ex, _⟩ := h2; exact (Array.getElem?_eq_some_iff.1 ex).1
      | ro vs => obtain ⟨c, t, fz, ex, _⟩ := h2; exact (Array.getElem?_eq_some_iff.1 ex).1
      | row vs t => obtain ⟨xs, ex, _⟩ := h2; exact (Array.getElem?_eq_some_iff.1 ex).1
      | own vs t sz => obtain ⟨xs, ys, ex, _⟩ := h2; exact (Array.getElem?_eq_some_iff.1 ex).1
    have part : ∀ {i : Nat} {o' : Ob} {b k' : Nat}, look i (H.push o).h = some o' → (E.new H.n w.heap.size k) i = some (b, k') →
        (i = H.n ∧ b = w.heap.size) ∨ (i ≠ H.n ∧ look i H.h = some o' ∧ E i = some (b, k')) := by
      intro i o' b k' hi e
      unfold RW.push look at hi
      unfold Ren.new at e
      cases hb : Nat.beq i H.n with
      | true =>
        rw [hb] at e
        exact .inl ⟨Nat.eq_of_beq_eq_true hb, (Prod.mk.inj (Option.some.inj e)).1.symm⟩
      | false =>
        rw [hb] at hi e
        exact .inr ⟨fun h => (by rw [h, Nat.beq_refl] at hb; cases hb), hi, e⟩
    intro i j o1 o2 b k1 k2 hi l1 hj l2 e1 e2
    rcases part hi e1 with ⟨p, q⟩ | ⟨p, q, r⟩ <;> rcases part hj e2 with ⟨p', q'⟩ | ⟨p', q', r'⟩
    · rw [p, p']
    · have := blk p' q' l2 r'; omega
    · have := blk p q l1 r; omega
    · exact R.inj i j o1 o2 b k1 k2 q l1 q' l2 r r'
  · intro i b k' hi e
    unfold Ren.new at e
    cases hb : Nat.beq i H.n with
    | true => rw [hb] at e; rw [← (Prod.mk.inj (Option.some.inj e)).1]; exact fun h => Nat.lt_irrefl _ (R.lt _ h)
    | false => rw [hb] at e; exact R.new i b k' hi e
  · intro b hb; have := R.lt b hb; simp; omega
  · have := R.bn; simp [RW.push]; omega
  · intro j hj
    have : j < w.heap.size := R.lt j hj
    rw [← R.fx j hj]
    simp [Array.getElem?_push_lt this, Array.getElem?_eq_getElem this]
  · intro j hj
    have : j < w.heap.size := R.lt j hj
    simp [Array.getElem?_push_lt this, Array.getElem?_eq_getElem this]
end
end Go.Proofs.YtkhmbphcjacgnaaGreatDoor
