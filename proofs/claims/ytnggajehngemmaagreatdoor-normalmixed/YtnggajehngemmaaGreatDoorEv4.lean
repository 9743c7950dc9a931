/-
  A run by reckoning, part 1: values whose addresses are names, a memory of names, and what the primitive steps do to both.
-/
import Derived.Below
import Derived.Calls
import Derived.Laws.Sem
namespace Go.Proofs.YtnggajehngemmaaGreatDoor
open Go Go.RowKit
/-- of a name: its block, its room -/
abbrev Ren := Nat → Option (Nat × Nat)
def Ext (E F : Ren) : Prop := ∀ i x, E i = some x → F i = some x
theorem Ext.refl (E : Ren) : Ext E E := fun _ _ h => h
theorem Ext.trans {E F G : Ren} (h : Ext E F) (k : Ext F G) : Ext E G := fun i x e => k i x (h i x e)
def flat : Value → Bool
  | .bool _ | .int _ _ | .string _ | .pointer none | .slice none _ _ | .map none | .nilFunc | .nilIface => true
  | .func (.func _) ⟨[]⟩ ⟨[]⟩ => true
  | .tuple ⟨[]⟩ => true
  | _ => false
def big : Nat := 4611686018427387904
def room (c k : Nat) : Nat := bif Nat.blt c big then c else k - (c - big)
/-- letters: what the values .chan (some i) stand for; what is known of those that .float .f64 i stand for -/
class Ltr where
  v : Nat → Option Value
  q : Nat → Value → Prop
  /-- of a block of which something alone is known: by its room and what lies there -/
  o : Nat → Nat → Obj → Prop
  /-- of a slice from such a block's beginning: by its room, its length, its own room -/
  s : Nat → Nat → Nat → Nat → Prop
  /-- of an address in such a block: how far in -/
  p : Nat → Nat → Prop
  /-- where such a slice begins -/
  z : Nat → Nat
/-- it stands for anything: nobody looks -/
def isTop : Value → Bool
  | .float .f32 _ => true
  | _ => false
/-- what a letter may stand for -/
def sgl : Value → Bool
  | .int _ _ | .string _ | .slice _ _ _ | .iface _ _ | .pointer _ | .map _ => true
  | _ => false
/-- a list that may be nil (what name i + 1 stands for says whether it is): in the block that name i stands for; of its length letter j says something -/
abbrev TOK (i j : Nat) : Value := .func (.via i ⟨[]⟩ j false) ⟨[]⟩ ⟨[]⟩
mutual
inductive Rel [Ltr] (E : Ren) : Value → Value → Prop
  | same {v : Value} (h : flat v = true) : Rel E v v
  | ptr {i o b k : Nat} (h : E i = some (b, k)) : Rel E (.pointer (some ⟨i, o, none⟩)) (.pointer (some ⟨b, o, none⟩))
  | sl {i o b k n c : Nat} (h : E i = some (b, k)) : Rel E (.slice (some ⟨i, o, none⟩) n c) (.slice (some ⟨b, o, none⟩) n (room c k))
  | map {i b k : Nat} (h : E i = some (b, k)) : Rel E (.map (some i)) (.map (some b))
  | iface {t : TypeId} {v v' : Value} (h : Rel E v v') : Rel E (.iface t v) (.iface t v')
  | func {f : FuncId} {x x' y y' : List Value} (h : RelL E x x') (h' : RelL E y y') : Rel E (.func (.func f) ⟨x⟩ ⟨y⟩) (.func (.func f) ⟨x'⟩ ⟨y'⟩)
  | yld {i b k : Nat} (h : E i = some (b, k)) : Rel E (.func (.yield i) ⟨[]⟩ ⟨[]⟩) (.func (.yield b) ⟨[]⟩ ⟨[]⟩)
  | agg {x x' : List Value} (h : RelL E x x') : Rel E (.agg ⟨x⟩) (.agg ⟨x'⟩)
  | tuple {x x' : List Value} (h : RelL E x x') : Rel E (.tuple ⟨x⟩) (.tuple ⟨x'⟩)
  | ltr {i : Nat} {u : Value} (h : Ltr.v i = some u) (hs : sgl u = true) : Rel E (.chan (some i)) u
  | prd {i : Nat} {u : Value} (h : Ltr.q i u) (hs : sgl u = true) : Rel E (.float .f64 i) u
  | any {i : Nat} {u : Value} : Rel E (.float .f32 i) u
  | sll {i j b k n c : Nat} (h : E i = some (b, k)) (hs : Ltr.s j k n c) : Rel E (.complex .f64 i j) (.slice (some ⟨b, Ltr.z j, none⟩) n c)
  | ptl {i j b k o : Nat} (h : E i = some (b, k)) (hs : Ltr.p j o) : Rel E (.complex .f32 i j) (.pointer (some ⟨b, o, none⟩))
  | tk {i j b k n c f : Nat} (h : E i = some (b, k)) (hf : E (i + 1) = some (f, 0)) (hs : Ltr.s j k n c) : Rel E (TOK i j) (.slice (some ⟨b, 0, none⟩) n c)
  | tkn {i j f : Nat} (hf : E (i + 1) = some (f, 1)) (hs : Ltr.s j 0 0 0) : Rel E (TOK i j) (.slice none 0 0)
inductive RelL [Ltr] (E : Ren) : List Value → List Value → Prop
  | nil : RelL E [] []
  | cons {v v' : Value} {l l' : List Value} (h : Rel E v v') (t : RelL E l l') : RelL E (v :: l) (v' :: l')
end
mutual
theorem Rel.mono [Ltr] {E F : Ren} (x : Ext E F) {v v' : Value} : Rel E v v' → Rel F v v'
  | .same h => .same h
  | .ptr h => .ptr (x _ _ h)
  | .sl h => .sl (x _ _ h)
  | .map h => .map (x _ _ h)
  | .iface h => .iface (h.mono x)
  | .func h h' => .func (h.mono x) (h'.mono x)
  | .yld h => .yld (x _ _ h)
  | .agg h => .agg (h.mono x)
  | .tuple h => .tuple (h.mono x)
  | .ltr h hs => .ltr h hs
  | .prd h hs => .prd h hs
  | .any => .any
  | .sll h hs => .sll (x _ _ h) hs
  | .ptl h hs => .ptl (x _ _ h) hs
  | .tk h hf hs => .tk (x _ _ h) (x _ _ hf) hs
  | .tkn hf hs => .tkn (x _ _ hf) hs
theorem RelL.mono [Ltr] {E F : Ren} (x : Ext E F) {v v' : List Value} : RelL E v v' → RelL F v v'
  | .nil => .nil
  | .cons h t => .cons (h.mono x) (t.mono x)
end
section
variable {E : Ren}
theorem RelL.length [Ltr] {l l' : List Value} : RelL E l l' → l'.length = l.length
  | .nil => rfl
  | .cons _ t => by simp [t.length]
theorem RelL.get [Ltr] {l l' : List Value} : RelL E l l' → ∀ {i : Nat} {v : Value}, l[i]? = some v → ∃ v', l'[i]? = some v' ∧ Rel E v v'
  | .nil, i, v, e => by simp at e
  | .cons h t, 0, v, e => by obtain rfl := Option.some.inj e; exact ⟨_, rfl, h⟩
  | .cons h t, i + 1, v, e => by
    obtain ⟨v', e', h'⟩ := t.get (i := i) (v := v) (by simpa using e)
    exact ⟨v', by simpa using e', h'⟩
theorem RelL.set [Ltr] {l l' : List Value} {v v' : Value} (hv : Rel E v v') : RelL E l l' → ∀ i, RelL E (l.set i v) (l'.set i v')
  | .nil, _ => .nil
  | .cons h t, 0 => .cons hv t
  | .cons h t, i + 1 => .cons h (t.set hv i)
theorem RelL.append [Ltr] {l l' m m' : List Value} : RelL E l l' → RelL E m m' → RelL E (l ++ m) (l' ++ m')
  | .nil, h => h
  | .cons h t, k => .cons h (t.append k)
theorem RelL.drop [Ltr] {l l' : List Value} : RelL E l l' → ∀ n, RelL E (l.drop n) (l'.drop n)
  | h, 0 => by simpa using h
  | .nil, n + 1 => by simpa using RelL.nil
  | .cons _ t, n + 1 => by simpa using t.drop n
theorem RelL.take [Ltr] {l l' : List Value} : RelL E l l' → ∀ n, RelL E (l.take n) (l'.take n)
  | h, 0 => by simpa using RelL.nil
  | .nil, n + 1 => by simpa using RelL.nil
  | .cons h t, n + 1 => by simpa using RelL.cons h (t.take n)
theorem RelL.flats [Ltr] : ∀ {l : List Value}, l.all flat = true → RelL E l l
  | [], _ => .nil
  | v :: l, h => by
    simp only [List.all_cons, Bool.and_eq_true] at h
    exact .cons (.same h.1) (RelL.flats h.2)
theorem RelL.undefs [Ltr] : ∀ n, RelL E (List.replicate n undef) (List.replicate n undef)
  | 0 => .nil
  | n + 1 => .cons (.same rfl) (RelL.undefs n)
/-- what is flat is itself -/
theorem Rel.flat_eq [Ltr] {v v' : Value} (hf : flat v = true) : Rel E v v' → v' = v
  | .same _ => rfl
  | .ptr _ => by cases hf
  | .sl _ => by cases hf
  | .map _ => by cases hf
  | .iface _ => by cases hf
  | .func .nil .nil => rfl
  | .func (.cons _ _) _ => by simp [flat] at hf
  | .func .nil (.cons _ _) => by simp [flat] at hf
  | .yld _ => by cases hf
  | .agg _ => by cases hf
  | .tuple .nil => rfl
  | .tuple (.cons _ _) => by simp [flat] at hf
  | .ltr _ _ => by cases hf
  | .prd _ _ => by cases hf
  | .any => by cases hf
  | .sll _ _ => by cases hf
  | .ptl _ _ => by cases hf
  | .tk _ _ _ => by cases hf
  | .tkn _ _ => by cases hf
theorem Rel.bool [Ltr] {b : Bool} {v' : Value} (h : Rel E (.bool b) v') : v' = .bool b := h.flat_eq rfl
theorem Rel.int [Ltr] {k : IntKind} {n : Int} {v' : Value} (h : Rel E (.int k n) v') : v' = .int k n := h.flat_eq rfl
end
theorem Rel.sll0 [Ltr] {E : Ren} {i j b k n c : Nat} (h : E i = some (b, k)) (hz : Ltr.z j = 0) (hs : Ltr.s j k n c) : Rel E (.complex .f64 i j) (.slice (some ⟨b, 0, none⟩) n c) := by
  have := Rel.sll h hs
  rw [hz] at this
  exact this
/-- entries of maps: the same keys -/
inductive RelM [Ltr] (E : Ren) : List MapEntry → List MapEntry → Prop
  | nil : RelM E [] []
  | cons {k v v' : Value} {n : Nat} {l l' : List MapEntry} (h : Rel E v v') (t : RelM E l l') : RelM E ({ key := k, val := v, born := n } :: l) ({ key := k, val := v', born := n } :: l')
theorem RelM.mono [Ltr] {E F : Ren} (x : Ext E F) : ∀ {l l' : List MapEntry}, RelM E l l' → RelM F l l'
  | _, _, .nil => .nil
  | _, _, .cons h t => .cons (h.mono x) (t.mono x)
theorem RelM.append [Ltr] {E : Ren} : ∀ {l l' m m' : List MapEntry}, RelM E l l' → RelM E m m' → RelM E (l ++ m) (l' ++ m')
  | _, _, _, _, .nil, h => h
  | _, _, _, _, .cons h t, k => .cons h (t.append k)
theorem RelM.set [Ltr] {E : Ren} {k v v' : Value} (hv : Rel E v v') : ∀ {l l' : List MapEntry}, RelM E l l' → ∀ j, RelM E (l.modify j fun e => { e with key := k, val := v }) (l'.modify j fun e => { e with key := k, val := v' })
  | _, _, .nil, j => by cases j <;> exact .nil
  | _, _, .cons h t, 0 => .cons hv t
  | _, _, .cons h t, j + 1 => .cons h (t.set hv j)
theorem RelM.key [Ltr] {E : Ren} : ∀ {l l' : List MapEntry}, RelM E l l' → ∀ j : Nat, l'[j]?.map (·.key) = l[j]?.map (·.key)
  | _, _, .nil, _ => rfl
  | _, _, .cons _ _, 0 => rfl
  | _, _, .cons _ t, j + 1 => by simpa using t.key j
theorem RelM.emp [Ltr] {E : Ren} : ∀ {l l' : List MapEntry}, RelM E l l' → l'.isEmpty = l.isEmpty
  | _, _, .nil => rfl
  | _, _, .cons _ _ => rfl
/-- what lies behind a name -/
inductive Ob where
  | gone
  | ro (vs : List Value)
  | row (vs : List Value) (t : TypeId)
  | own (vs : List Value) (t : TypeId) (sz : Nat)
  | mp (es : List MapEntry) (clock : Nat)
  | lp (st : LoopState) (pd : Option Code) (ts : List Value) (ps : Array Tmp) (as bd : Code)
  | df
  | it (s : ByteArray) (pos : Nat)
  | opq (i : Nat)
  | tok (i : Nat)
/-- it may be that there is no such block -/
def Ob.hole : Ob → Bool
  | .tok _ => true
  | .gone => true
  | _ => false
def Ob.live : Ob → Bool
  | .gone => false
  | _ => true
structure RW where
  n : Nat
  h : List (Nat × Ob)
def look (i : Nat) : List (Nat × Ob) → Option Ob
  | [] => none
  | (j, o) :: h => bif Nat.beq i j then some o else look i h
def upd (i : Nat) (o : Ob) : List (Nat × Ob) → List (Nat × Ob)
  | [] => []
  | (j, p) :: h => bif Nat.beq i j then (j, o) :: h else (j, p) :: upd i o h
theorem look_upd {i : Nat} {o p : Ob} : ∀ {h : List (Nat × Ob)}, look i h = some p → look i (upd i o h) = some o
  | [], e => by cases e
  | (j, q) :: h, e => by
    unfold look at e; unfold upd
    cases hb : Nat.beq i j with
    | true => simp [look, hb]
    | false => rw [hb] at e; simp only [cond_false, look, hb]; exact look_upd e
theorem look_upd_ne {i j : Nat} {o : Ob} (hn : j ≠ i) : ∀ {h : List (Nat × Ob)}, look j (upd i o h) = look j h
  | [] => rfl
  | (k, q) :: h => by
    unfold upd
    cases hb : Nat.beq i k with
    | true =>
      have := Nat.eq_of_beq_eq_true hb; subst this
      have hb' : Nat.beq j i = false := by
        cases hb' : Nat.beq j i with
        | true => exact absurd (Nat.eq_of_beq_eq_true hb') hn
        | false => rfl
      simp [look, hb']
    | false => simp only [cond_false, look]; rw [look_upd_ne hn]
def Ok [Ltr] (E : Ren) (k : Nat) : Ob → Option Obj → Prop
  | .gone, _ => True
  | .ro vs, x => ∃ (c : Array Value) (t : TypeId) (fz : Nat × Nat), x = some (.cells c t fz) ∧ ∀ (j : Nat) (v : Value), vs[j]? = some v → ∃ v' : Value, c[j]? = some v' ∧ Rel E v v'
  | .row vs t, x => ∃ xs, x = some (.cells ⟨xs⟩ t (0, 0)) ∧ RelL E vs xs
  | .mp es c, x => ∃ es', x = some (.map ⟨es'⟩ c) ∧ RelM E es es'
  | .lp st pd ts ps as bd, x => ∃ fn xs db, x = some (.loop { state := st, pending := pd, fn := fn, tmps := ⟨xs⟩, params := ps, assign := as, body := bd, defers := db }) ∧ RelL E ts xs
  | .df, x => x = some (.deferred (some []))
  | .it s p, x => x = some (.stringIter s p)
  | .opq i, x => ∃ y, x = some y ∧ Ltr.o i k y
  | .tok i, x => ∃ y, x = some y ∧ Ltr.o i k y
  | .own vs t sz, x => ∃ xs ys, x = some (.cells ⟨xs ++ ys⟩ t (0, 0)) ∧ RelL E vs xs ∧ xs.length + ys.length = k * sz ∧ k ≤ maxLen
theorem Ok.mono [Ltr] {E F : Ren} (x : Ext E F) {k : Nat} {o : Ob} {b : Option Obj} (h : Ok E k o b) : Ok F k o b := by
  cases o with
  | gone => trivial
  | ro vs => obtain ⟨c, t, fz, e, r⟩ := h; exact ⟨c, t, fz, e, fun j v hj => let ⟨v', h1, h2⟩ := r j v hj; ⟨v', h1, h2.mono x⟩⟩
  | row vs t => obtain ⟨xs, e, r⟩ := h; exact ⟨xs, e, r.mono x⟩
  | own vs t sz => obtain ⟨xs, ys, e, r, l⟩ := h; exact ⟨xs, ys, e, r.mono x, l⟩
  | mp es c => obtain ⟨es', e, r⟩ := h; exact ⟨es', e, r.mono x⟩
  | lp st pd ts ps as bd => obtain ⟨fn, xs, db, e, r⟩ := h; exact ⟨fn, xs, db, e, r.mono x⟩
  | df => exact h
  | it s p => exact h
  | opq i => exact h
  | tok i => exact h
/-- blocks that stay, and what lies there -/
structure Kep where
  p : Nat → Prop
  ob : Nat → Option Obj
instance : CoeFun Kep (fun _ => Nat → Prop) := ⟨Kep.p⟩
/-- all that there is -/
def kep (w : World) : Kep := ⟨fun b => b < w.heap.size, fun b => w.heap[b]?⟩
/-- what X names stays as it is -/
structure Kp (X : Kep) (w w' : World) : Prop where
  os : w'.os = w.os
  tape : w'.tape = w.tape
  output : w'.output = w.output
  size : w.heap.size ≤ w'.heap.size
  block : ∀ k, X k → w'.heap[k]? = w.heap[k]?
theorem Kp.refl (X : Kep) (w : World) : Kp X w w := ⟨rfl, rfl, rfl, Nat.le_refl _, fun _ _ => rfl⟩
theorem Kp.trans {X : Kep} {a b c : World} (h : Kp X a b) (k : Kp X b c) : Kp X a c :=
  ⟨k.os.trans h.os, k.tape.trans h.tape, k.output.trans h.output, Nat.le_trans h.size k.size, fun i hi => (k.block i hi).trans (h.block i hi)⟩
/-- the memory w holds what the memory of names says -/
structure Rep [Ltr] (X : Kep) (base : Nat) (E : Ren) (H : RW) (w : World) : Prop where
  dom : ∀ i, H.n ≤ i → E i = none
  ok' : ∀ i o, look i H.h = some o → (o.hole = true ∧ E i = none ∧ i < H.n) ∨ ∃ b k, E i = some (b, k) ∧ Ok E k o w.heap[b]?
  inj : ∀ i j o o' b k k', look i H.h = some o → o.live = true → look j H.h = some o' → o'.live = true → E i = some (b, k) → E j = some (b, k') → i = j
  new : ∀ i b k, base ≤ i → E i = some (b, k) → ¬ X b
  lt : ∀ b, X b → b < w.heap.size
  bn : base ≤ H.n
  fx : ∀ b, X b → w.heap[b]? = X.ob b
theorem Rep.ok [Ltr] {X : Kep} {base : Nat} {E : Ren} {H : RW} {w : World} (R : Rep X base E H w) (i : Nat) (o : Ob) (h : look i H.h = some o) (hh : o.hole = false := by rfl) : ∃ b k, E i = some (b, k) ∧ Ok E k o w.heap[b]? := by
  rcases R.ok' i o h with h' | h'
  · rw [h'.1] at hh; cases hh
  · exact h'
theorem Rep.oke [Ltr] {X : Kep} {base : Nat} {E : Ren} {H : RW} {w : World} (R : Rep X base E H w) {i b k : Nat} {o : Ob} (h : look i H.h = some o) (e : E i = some (b, k)) : Ok E k o w.heap[b]? := by
  rcases R.ok' i o h with h' | ⟨b', k', e', h'⟩
  · rw [h'.2.1] at e; cases e
  · rw [e] at e'
    obtain ⟨rfl, rfl⟩ := Prod.mk.inj (Option.some.inj e')
    exact h'
def RW.cell (H : RW) (a : Addr) : Option Value :=
  match a.spot, look a.block H.h with
  | none, some (.ro vs) => vs[a.off]?
  | none, some (.row vs _) => vs[a.off]?
  | none, some (.own vs _ _) => vs[a.off]?
  | _, _ => none
def single : Value → Bool
  | .agg _ | .tuple _ | .float .f32 _ => false
  | _ => true
def RW.put (H : RW) (base : Nat) (a : Addr) (v : Value) : Option RW :=
  match a.spot, look a.block H.h with
  | none, some (.row vs t) => bif Nat.ble base a.block && Nat.blt a.off vs.length && single v then some { H with h := upd a.block (.row (vs.set a.off v) t) H.h } else none
  | none, some (.own vs t sz) => bif Nat.ble base a.block && Nat.blt a.off vs.length && single v then some { H with h := upd a.block (.own (vs.set a.off v) t sz) H.h } else none
  | _, _ => none
def RW.push (H : RW) (o : Ob) : RW := ⟨H.n + 1, (H.n, o) :: H.h⟩
section
variable {X : Kep} {base : Nat} {E : Ren} {H : RW} {w : World}
theorem heap_get_of {w : World} {b : Nat} {c : Array Value} {t : TypeId} (h : w.heap[b]? = some (.cells c t (0, 0))) (o : Nat) : w.cell? ⟨b, o, none⟩ = c[o]? := by
  simp [World.cell?, h]
theorem Rep.cell [Ltr] (R : Rep X base E H w) {i o b k : Nat} {v : Value} (e : E i = some (b, k)) (h : H.cell ⟨i, o, none⟩ = some v) :
    ∃ v', w.cell? ⟨b, o, none⟩ = some v' ∧ Rel E v v' := by
  unfold RW.cell at h
  cases hl : look i H.h with
  | none => simp [hl] at h
  | some ob =>
    have ho := R.oke hl e
    cases ob with
    | gone => simp [hl] at h
    | mp es c => simp [hl] at h
    | lp st pd ts ps as bd => simp [hl] at h
    | df => simp [hl] at h
    | it s p => simp [hl] at h
    | opq i => simp [hl] at h
    | tok i => simp [hl] at h
    | ro vs =>
      obtain ⟨c, t, fz, hx, r⟩ := ho
      obtain ⟨v', hv, hr⟩ := r o v (by simpa [hl] using h)
      exact ⟨v', by simp [World.cell?, hx, hv], hr⟩
    | row vs t =>
      obtain ⟨xs, hx, r⟩ := ho
      obtain ⟨v', hv, hr⟩ := r.get (i := o) (v := v) (by simpa [hl] using h)
      exact ⟨v', by rw [heap_get_of hx]; simpa using hv, hr⟩
    | own vs t sz =>
      obtain ⟨xs, ys, hx, r, _⟩ := ho
      obtain ⟨v', hv, hr⟩ := r.get (i := o) (v := v) (by simpa [hl] using h)
      refine ⟨v', ?_, hr⟩
      rw [heap_get_of hx]
      have hlt : o < xs.length := by
        rcases Nat.lt_or_ge o xs.length with h | h
        · exact h
        · rw [List.getElem?_eq_none h] at hv; cases hv
      simp [List.getElem?_append_left hlt, hv]
theorem heap_set_of {w : World} {b : Nat} {c : Array Value} {t : TypeId} (h : w.heap[b]? = some (.cells c t (0, 0))) (o : Nat) (v : Value) :
    (w.setCell ⟨b, o, none⟩ v).heap[b]? = some (.cells (c.setIfInBounds o v) t (0, 0)) := by
  have hb : b < w.heap.size := (Array.getElem?_eq_some_iff.1 h).1
  simp [World.setCell, Array.getElem?_modify, h]
theorem Rep.put [Ltr] (R : Rep X base E H w) {H' : RW} {i o b k : Nat} {v v' : Value} (e : E i = some (b, k)) (hv : Rel E v v') (h : H.put base ⟨i, o, none⟩ v = some H') :
    (∃ u, w.cell? ⟨b, o, none⟩ = some u) ∧ w.frozen? ⟨b, o, none⟩ = false ∧ Rep X base E H' (w.setCell ⟨b, o, none⟩ v') ∧ Kp X w (w.setCell ⟨b, o, none⟩ v') ∧ single v = true := by
  unfold RW.put at h
  cases hl : look i H.h with
  | none => simp [hl] at h
  | some ob =>
    have ho := R.oke hl e
    have main : ∀ (ob' : Ob) (c : Array Value) (t : TypeId), w.heap[b]? = some (.cells c t (0, 0)) → o < c.size → base ≤ i → ob.live = true → ob'.live = true → H' = { H with h := upd i ob' H.h } →
        Ok E k ob' (some (.cells (c.setIfInBounds o v') t (0, 0))) →
        (∃ u, w.cell? ⟨b, o, none⟩ = some u) ∧ w.frozen? ⟨b, o, none⟩ = false ∧ Rep X base E H' (w.setCell ⟨b, o, none⟩ v') ∧ Kp X w (w.setCell ⟨b, o, none⟩ v') := by
      intro ob' c t hx hoc hbi l1 l2 hH hok
      subst hH
      have hB : ¬ X b := R.new i b k hbi e
      refine ⟨⟨c[o], by rw [heap_get_of hx]; simp [hoc]⟩, by simp [World.frozen?, hx], ⟨R.dom, ?_, ?_, R.new, fun j hj => by simpa [World.setCell] using R.lt j hj, R.bn, fun j hj => (Below.heap_setCell w _ v' j fun h => hB (by rw [show b = j from h.symm]; exact hj)).trans (R.fx j hj)⟩, ⟨rfl, rfl, rfl, by simp [World.setCell], fun j hj => Below.heap_setCell w _ v' j fun h => hB (by rw [show b = j from h.symm]; exact hj)⟩⟩
      · intro j oj hj
        by_cases hji : j = i
        · subst hji
          rw [look_upd hl] at hj
          obtain rfl := Option.some.inj hj
          exact .inr ⟨b, k, e, by rw [heap_set_of hx]; exact hok⟩
        · rw [look_upd_ne hji] at hj
          rcases R.ok' j oj hj with hn | ⟨b2, k2, e2, h2⟩
          · exact .inl hn
          refine .inr ⟨b2, k2, e2, ?_⟩
          cases hlv : oj.live with
          | false => cases oj <;> first | trivial | cases hlv
          | true =>
            have hbb : b2 ≠ b := fun hbb => hji (R.inj j i oj ob b k2 k hj hlv hl l1 (hbb ▸ e2) e)
            rw [Below.heap_setCell w _ v' b2 hbb]
            exact h2
      · intro j j' oj oj' b2 k2 k2' hj lj hj' lj' e2 e2'
        have hh : ∀ {x : Nat} {ox : Ob}, look x (upd i ob' H.h) = some ox → ox.live = true → ∃ ox', look x H.h = some ox' ∧ ox'.live = true := by
          intro x ox hx' lx
          by_cases hxi : x = i
          · subst hxi; exact ⟨ob, hl, l1⟩
          · rw [look_upd_ne hxi] at hx'; exact ⟨ox, hx', lx⟩
        obtain ⟨p, hp, lp⟩ := hh hj lj
        obtain ⟨q, hq, lq⟩ := hh hj' lj'
        exact R.inj j j' p q b2 k2 k2' hp lp hq lq e2 e2'
    cases ob with
    | gone => simp [hl] at h
    | mp es c => simp [hl] at h
    | lp st pd ts ps as bd => simp [hl] at h
    | df => simp [hl] at h
    | it s p => simp [hl] at h
    | opq i => simp [hl] at h
    | tok i => simp [hl] at h
    | ro vs => simp [hl] at h
    | row vs t =>
      obtain ⟨xs, hx, r⟩ := ho
      simp only [hl] at h
      cases hc : (Nat.ble base i && Nat.blt o vs.length && single v) with
      | false => rw [hc] at h; cases h
      | true =>
        rw [hc] at h
        simp only [Bool.and_eq_true] at hc
        have hol : o < vs.length := by simpa [Nat.blt_eq] using hc.1.2
        obtain ⟨p1, p2, p3, p4⟩ := main (.row (vs.set o v) t) ⟨xs⟩ t hx (by simpa [r.length] using hol) (Nat.le_of_ble_eq_true hc.1.1) rfl rfl (Option.some.inj h).symm ⟨xs.set o v', by simp, r.set hv o⟩
        exact ⟨p1, p2, p3, p4, hc.2⟩
    | own vs t sz =>
      obtain ⟨xs, ys, hx, r, hlen, hmx⟩ := ho
      simp only [hl] at h
      cases hc : (Nat.ble base i && Nat.blt o vs.length && single v) with
      | false => rw [hc] at h; cases h
      | true =>
        rw [hc] at h
        simp only [Bool.and_eq_true] at hc
        have hol : o < vs.length := by simpa [Nat.blt_eq] using hc.1.2
        have hox : o < xs.length := by rw [r.length]; exact hol
        obtain ⟨p1, p2, p3, p4⟩ := main (.own (vs.set o v) t sz) ⟨xs ++ ys⟩ t hx (by simp; omega) (Nat.le_of_ble_eq_true hc.1.1) rfl rfl (Option.some.inj h).symm
          ⟨xs.set o v', ys, by simp [List.set_append_left _ _ hox], r.set hv o, by simpa using hlen, hmx⟩
        exact ⟨p1, p2, p3, p4, hc.2⟩
/-- a new name -/
def Ren.new (E : Ren) (n b k : Nat) : Ren := fun j => bif Nat.beq j n then some (b, k) else E j
theorem Ren.ext {E : Ren} {n b k : Nat} (h : E n = none) : Ext E (E.new n b k) := by
  intro i x e
  unfold Ren.new
  cases hb : Nat.beq i n with
  | true => rw [Nat.eq_of_beq_eq_true hb, h] at e; cases e
  | false => exact e
theorem Ren.at {E : Ren} {n b k : Nat} : (E.new n b k) n = some (b, k) := by unfold Ren.new; rw [Nat.beq_refl]; rfl
theorem Rep.push [Ltr] (R : Rep X base E H w) {o : Ob} {x : Obj} {k : Nat} (ho : ∀ F, Ext E F → Ok F k o (some x)) :
    Rep X base (E.new H.n w.heap.size k) (H.push o) { w with heap := w.heap.push x } ∧ Ext E (E.new H.n w.heap.size k) ∧ Kp X w { w with heap := w.heap.push x } := by
  have hx := Ren.ext (b := w.heap.size) (k := k) (R.dom H.n (Nat.le_refl _))
  have hlt : ∀ i b k, E i = some (b, k) → True := fun _ _ _ _ => trivial
  refine ⟨⟨?_, ?_, ?_, ?_, ?_, ?_, ?_⟩, hx, ⟨rfl, rfl, rfl, by simp, ?_⟩⟩
  · intro i hi
    have : H.n + 1 ≤ i := hi
    unfold Ren.new
    have hb : Nat.beq i H.n = false := by
      cases hb : Nat.beq i H.n with
      | true => have := Nat.eq_of_beq_eq_true hb; omega
      | false => rfl
    rw [hb]
    exact R.dom i (by omega)
  · intro i o' hi
    unfold RW.push look at hi
    cases hb : Nat.beq i H.n with
    | true =>
      have := Nat.eq_of_beq_eq_true hb
      subst this
      rw [hb] at hi
      obtain rfl := Option.some.inj hi
      exact .inr ⟨_, _, Ren.at, by simpa using ho _ hx⟩
    | false =>
      rw [hb] at hi
      rcases R.ok' i o' hi with hn | ⟨b, k', e, h'⟩
      · exact .inl ⟨hn.1, by unfold Ren.new; rw [hb]; exact hn.2.1, by have := hn.2.2; show i < H.n + 1; omega⟩
      refine .inr ⟨b, k', hx _ _ e, ?_⟩
      cases o' with
      | gone => trivial
      | mp es c =>
        obtain ⟨es', ex, r⟩ := h'
        have hb' : b < w.heap.size := (Array.getElem?_eq_some_iff.1 ex).1
        exact ⟨es', by rw [Array.getElem?_push_lt hb']; simpa [Array.getElem?_eq_getElem hb'] using ex, r.mono hx⟩
      | lp st pd ts ps as bd =>
        obtain ⟨fn, xs, db, ex, r⟩ := h'
        have hb' : b < w.heap.size := (Array.getElem?_eq_some_iff.1 ex).1
        exact ⟨fn, xs, db, by rw [Array.getElem?_push_lt hb']; simpa [Array.getElem?_eq_getElem hb'] using ex, r.mono hx⟩
      | df =>
        have ex : w.heap[b]? = some (.deferred (some [])) := h'
        have hb' : b < w.heap.size := (Array.getElem?_eq_some_iff.1 ex).1
        show _ = _
        rw [Array.getElem?_push_lt hb']
        simpa [Array.getElem?_eq_getElem hb'] using ex
      | it s p =>
        have ex : w.heap[b]? = some (.stringIter s p) := h'
        have hb' : b < w.heap.size := (Array.getElem?_eq_some_iff.1 ex).1
        show _ = _
        rw [Array.getElem?_push_lt hb']
        simpa [Array.getElem?_eq_getElem hb'] using ex
      | opq i =>
        obtain ⟨y, ex, r⟩ := h'
        have hb' : b < w.heap.size := (Array.getElem?_eq_some_iff.1 ex).1
        exact ⟨y, by rw [Array.getElem?_push_lt hb']; simpa [Array.getElem?_eq_getElem hb'] using ex, r⟩
      | tok i =>
        obtain ⟨y, ex, r⟩ := h'
        have hb' : b < w.heap.size := (Array.getElem?_eq_some_iff.1 ex).1
        exact ⟨y, by rw [Array.getElem?_push_lt hb']; simpa [Array.getElem?_eq_getElem hb'] using ex, r⟩
      | ro vs =>
        obtain ⟨c, t, fz, ex, r⟩ := h'
        have hb' : b < w.heap.size := (Array.getElem?_eq_some_iff.1 ex).1
        exact ⟨c, t, fz, by rw [Array.getElem?_push_lt hb']; simpa [Array.getElem?_eq_getElem hb'] using ex, fun j v hj => let ⟨v', h1, h2⟩ := r j v hj; ⟨v', h1, h2.mono hx⟩⟩
      | row vs t =>
        obtain ⟨xs, ex, r⟩ := h'
        have hb' : b < w.heap.size := (Array.getElem?_eq_some_iff.1 ex).1
        exact ⟨xs, by rw [Array.getElem?_push_lt hb']; simpa [Array.getElem?_eq_getElem hb'] using ex, r.mono hx⟩
      | own vs t sz =>
        obtain ⟨xs, ys, ex, r, l⟩ := h'
        have hb' : b < w.heap.size := (Array.getElem?_eq_some_iff.1 ex).1
        exact ⟨xs, ys, by rw [Array.getElem?_push_lt hb']; simpa [Array.getElem?_eq_getElem hb'] using ex, r.mono hx, l⟩
  · have blk : ∀ {i : Nat} {o' : Ob} {b k' : Nat}, i ≠ H.n → look i H.h = some o' → o'.live = true → E i = some (b, k') → b < w.heap.size := by
      intro i o' b k' _ hi hl e
      have h2 := R.oke hi e
      cases o' with
      | gone => cases hl
      | mp es c => obtain ⟨es', ex, _⟩ := h2; exact (Array.getElem?_eq_some_iff.1 ex).1
      | lp st pd ts ps as bd => obtain ⟨fn, xs, db, ex, _⟩ := h2; exact (Array.getElem?_eq_some_iff.1 ex).1
      | df => have ex : w.heap[b]? = some (.deferred (some [])) := h2; exact (Array.getElem?_eq_some_iff.1 ex).1
      | it s p => have ex : w.heap[b]? = some (.stringIter s p) := h2; exact (Array.getElem?_eq_some_iff.1 ex).1
      | opq i => obtain ⟨y, ex, _⟩ := h2; exact (Array.getElem?_eq_some_iff.1 ex).1
      | tok i => obtain ⟨y, ex, _⟩ := h2; exact (Array.getElem?_eq_some_iff.1 ex).1
      | ro vs => obtain ⟨c, t, fz, ex, _⟩ := h2; exact (Array.getElem?_eq_some_iff.1 ex).1
      | row vs t => obtain ⟨xs, ex, _⟩ := h2; exact (Array.getElem?_eq_some_iff.1 ex).1
      | own vs t sz => obtain ⟨xs, ys, ex, _⟩ := h2; exact (Array.getElem?_eq_some_iff.1 ex).1
    have part : ∀ {i : Nat} {o' : Ob} {b k' : Nat}, look i (H.push o).h = some o' → (E.new H.n w.heap.size k) i = some (b, k') →
        (i = H.n ∧ b = w.heap.size) ∨ (i ≠ H.n ∧ look i H.h = some o' ∧ E i = some (b, k')) := by
      intro i o' b k' hi e
      unfold RW.push look at hi
      unfold Ren.new at e
      cases hb : Nat.beq i H.n with
      | true =>
        rw [hb] at e
        exact .inl ⟨Nat.eq_of_beq_eq_true hb, (Prod.mk.inj (Option.some.inj e)).1.symm⟩
      | false =>
        rw [hb] at hi e
        exact .inr ⟨fun h => (by rw [h, Nat.beq_refl] at hb; cases hb), hi, e⟩
    intro i j o1 o2 b k1 k2 hi l1 hj l2 e1 e2
    rcases part hi e1 with ⟨p, q⟩ | ⟨p, q, r⟩ <;> rcases part hj e2 with ⟨p', q'⟩ | ⟨p', q', r'⟩
    · rw [p, p']
    · have := blk p' q' l2 r'; omega
    · have := blk p q l1 r; omega
    · exact R.inj i j o1 o2 b k1 k2 q l1 q' l2 r r'
  · intro i b k' hi e
    unfold Ren.new at e
    cases hb : Nat.beq i H.n with
    | true => rw [hb] at e; rw [← (Prod.mk.inj (Option.some.inj e)).1]; exact fun h => Nat.lt_irrefl _ (R.lt _ h)
    | false => rw [hb] at e; exact R.new i b k' hi e
  · intro b hb; have := R.lt b hb; simp; omega
  · have := R.bn; simp [RW.push]; omega
  · intro j hj
    have : j < w.heap.size := R.lt j hj
    rw [← R.fx j hj]
    simp [Array.getElem?_push_lt this, Array.getElem?_eq_getElem this]
  · intro j hj
    have : j < w.heap.size := R.lt j hj
    simp [Array.getElem?_push_lt this, Array.getElem?_eq_getElem this]
end
end Go.Proofs.YtnggajehngemmaaGreatDoor
/-
  A run by reckoning, part 2: trees of steps over a memory of names; each kind of operation.
-/
namespace Go.Proofs.YtnggajehngemmaaGreatDoor
open Go Go.RowKit
/-- a tree of steps, over the memory of names -/
def sv (P : Program) (base : Nat) {α : Type} : Sem α → RW → Option (α × RW)
  | .pure a, H => some (a, H)
  | .load _ a k, H => match H.cell a with
    | some v => sv P base (k v) H
    | none => none
  | .store _ a v k, H => match H.put base a v with
    | some H' => sv P base k H'
    | none => none
  | .new (.cells c t (0, 0)) k, H => sv P base (k H.n) (H.push (.row c.toList t))
  | .program k, H => sv P base (k P) H
  | .mark _ k, H => sv P base k H
  | _, _ => none
/-- one that reads nothing but the program -/
def svp (P : Program) {α : Type} : Sem α → Option α
  | .pure a => some a
  | .program k => svp P (k P)
  | .mark _ k => svp P k
  | _ => none
theorem svp_run {P : Program} {α : Type} {a : α} (w : World) : ∀ {s : Sem α}, svp P s = some a → s.run P w = .ok a w
  | .pure b, h => by obtain rfl := Option.some.inj h; rfl
  | .program k, h => by simp only [Sem.run]; exact svp_run w (s := k P) h
  | .mark m k, h => by simp only [Sem.run]; exact svp_run w (s := k) h
  | .load .., h => by cases h
  | .store .., h => by cases h
  | .new .., h => by cases h
  | .shape .., h => by cases h
  | .freeze .., h => by cases h
  | .frozen .., h => by cases h
  | .getObj .., h => by cases h
  | .setObj .., h => by cases h
  | .choose .., h => by cases h
  | .sys .., h => by cases h
  | .halt .., h => by cases h
def RelAd (E : Ren) (a a' : Addr) : Prop := ∃ i o b k, a = ⟨i, o, none⟩ ∧ a' = ⟨b, o, none⟩ ∧ E i = some (b, k)
def RelN [Ltr] (E : Ren) : Next → Next → Prop
  | .value v, .value v' => Rel E v v'
  | .skip, .skip => True
  | .enter f x, .enter f' x' => f = f' ∧ RelL E x.toList x'.toList
  | _, _ => False
def RelAr [Ltr] (E : Ren) (x x' : Array Value) : Prop := RelL E x.toList x'.toList
def EqR {α : Type} (_ : Ren) (a a' : α) : Prop := a = a'
/-- what the tree s does over names, s' does over memory -/
def Snd [Ltr] (P : Program) (X : Kep) (base : Nat) {α β : Type} (R : Ren → α → β → Prop) (E : Ren) (s : Sem α) (s' : Sem β) : Prop :=
  ∀ (H H1 : RW) (r : α) (w : World), Rep X base E H w → sv P base s H = some (r, H1) →
    ∃ F r' w', s'.run P w = .ok r' w' ∧ Ext E F ∧ Rep X base F H1 w' ∧ Kp X w w' ∧ R F r r'
section
variable {P : Program} {X : Kep} {base : Nat} {E : Ren} {α β γ δ : Type}
theorem sv_bind (s : Sem α) (f : α → Sem γ) : ∀ H : RW, sv P base (s.bind f) H = (sv P base s H).bind fun x => sv P base (f x.1) x.2 := by
  induction s with
  | pure a => intro H; rfl
  | load m a k ih => intro H; simp only [Sem.bind, sv]; cases H.cell a <;> simp [ih]
  | store m a v k ih => intro H; simp only [Sem.bind, sv]; cases H.put base a v <;> simp [ih]
  | new o k ih =>
    intro H
    cases o with
    | cells c t fz =>
      obtain ⟨lo, hi⟩ := fz
      cases lo with
      | zero => cases hi with
        | zero => simp only [Sem.bind, sv]; exact ih _ _
        | succ n => rfl
      | succ n => rfl
    | _ => rfl
  | program k ih => intro H; simp only [Sem.bind, sv]; exact ih _ _
  | mark m k ih => intro H; simp only [Sem.bind, sv]; exact ih _
  | _ => intro H; rfl
theorem Snd.pure [Ltr] {R : Ren → α → β → Prop} {a : α} {b : β} (h : R E a b) : Snd P X base R E (Pure.pure a) (Pure.pure b) := by
  intro H H1 r w hR e
  obtain ⟨rfl, rfl⟩ := Prod.mk.inj (Option.some.inj e)
  exact ⟨E, b, w, rfl, Ext.refl E, hR, Kp.refl _ _, h⟩
theorem Snd.bind [Ltr] {R : Ren → α → β → Prop} {R' : Ren → γ → δ → Prop} {s : Sem α} {s' : Sem β} {f : α → Sem γ} {f' : β → Sem δ} (h : Snd P X base R E s s')
    (k : ∀ F a b, Ext E F → R F a b → Snd P X base R' F (f a) (f' b)) : Snd P X base R' E (s >>= f) (s' >>= f') := by
  intro H H1 r w hR e
  have e' := sv_bind (P := P) (base := base) s f H
  have e2 : sv P base (s.bind f) H = some (r, H1) := e
  rw [e'] at e2
  cases hs : sv P base s H with
  | none => rw [hs] at e2; cases e2
  | some x =>
    obtain ⟨a, H2⟩ := x
    rw [hs] at e2
    obtain ⟨F, b, w2, hr, x1, R2, b1, ra⟩ := h H H2 a w hR hs
    obtain ⟨G, c, w3, hr3, x2, R3, b2, rc⟩ := k F a b x1 ra H2 H1 r w2 R2 e2
    refine ⟨G, c, w3, ?_, x1.trans x2, R3, b1.trans b2, rc⟩
    rw [Sem.run_bind, hr]
    exact hr3
theorem Snd.halt [Ltr] {R : Ren → α → β → Prop} {h : Halt} {s' : Sem β} : Snd P X base R E (.halt h) s' := by
  intro H H1 r w _ e
  cases e
theorem Snd.stuck [Ltr] {R : Ren → α → β → Prop} {m : String} {s' : Sem β} : Snd P X base R E (Go.stuck m) s' := Snd.halt
theorem Snd.unsupported [Ltr] {R : Ren → α → β → Prop} {u : Unsupported} {s' : Sem β} : Snd P X base R E (Go.unsupported u) s' := Snd.halt
theorem Snd.post [Ltr] {R R' : Ren → α → β → Prop} {s : Sem α} {s' : Sem β} (h : Snd P X base R E s s') (k : ∀ F a b, Ext E F → R F a b → R' F a b) : Snd P X base R' E s s' := by
  intro H H1 r w hR e
  obtain ⟨F, b, w2, hr, x1, R2, b1, ra⟩ := h H H1 r w hR e
  exact ⟨F, b, w2, hr, x1, R2, b1, k F r b x1 ra⟩
theorem Snd.program [Ltr] : Snd P X base EqR E Go.program Go.program := by
  intro H H1 r w hR e
  obtain ⟨rfl, rfl⟩ := Prod.mk.inj (Option.some.inj e)
  exact ⟨E, P, w, rfl, Ext.refl E, hR, Kp.refl _ _, rfl⟩
theorem Snd.typeInfo [Ltr] (t : TypeId) : Snd P X base EqR E (Go.typeInfo t) (Go.typeInfo t) := by
  refine Snd.bind Snd.program fun _ p p' _ e => ?_
  obtain rfl : p = p' := e
  cases p.info? t with
  | none => exact Snd.stuck
  | some i => exact Snd.pure rfl
theorem Snd.underlying [Ltr] (t : TypeId) : Snd P X base EqR E (Go.underlying t) (Go.underlying t) := by
  refine Snd.bind Snd.program fun _ p p' _ e => ?_
  obtain rfl : p = p' := e
  cases p.underlying t with
  | none => exact Snd.stuck
  | some i => exact Snd.pure rfl
theorem Snd.sizeOf [Ltr] (t : TypeId) : Snd P X base EqR E (Go.sizeOf t) (Go.sizeOf t) :=
  Snd.bind (Snd.typeInfo t) fun _ i i' _ e => by obtain rfl : i = i' := e; exact Snd.pure rfl
theorem Snd.zeroValue [Ltr] (t : TypeId) : Snd P X base EqR E (Go.zeroValue t) (Go.zeroValue t) :=
  Snd.bind (Snd.typeInfo t) fun _ i i' _ e => by
    obtain rfl : i = i' := e
    cases i.zero with
    | none => exact Snd.unsupported
    | some z => exact Snd.pure rfl
theorem Snd.isAgg [Ltr] (t : TypeId) : Snd P X base EqR E (Go.isAgg t) (Go.isAgg t) :=
  Snd.bind (Snd.underlying t) fun _ d d' _ e => by
    obtain rfl : d = d' := e
    cases d <;> exact Snd.pure rfl
theorem RelAd.mono {F : Ren} {a a' : Addr} (x : Ext E F) (h : RelAd E a a') : RelAd F a a' := by
  obtain ⟨i, o, b, k, h1, h2, h3⟩ := h
  exact ⟨i, o, b, k, h1, h2, x _ _ h3⟩
theorem RelAd.add {a a' : Addr} (h : RelAd E a a') (n : Nat) : RelAd E (a.add n) (a'.add n) := by
  obtain ⟨i, o, b, k, rfl, rfl, h3⟩ := h
  unfold Addr.add
  split
  · exact ⟨i, o, b, k, rfl, rfl, h3⟩
  · exact ⟨i, o + n, b, k, rfl, rfl, h3⟩
theorem RelAd.ptr [Ltr] {a a' : Addr} (h : RelAd E a a') : Rel E (.pointer (some a)) (.pointer (some a')) := by
  obtain ⟨i, o, b, k, rfl, rfl, h3⟩ := h
  exact .ptr h3
theorem Snd.load [Ltr] {a a' : Addr} {m : Mode} (h : RelAd E a a') : Snd P X base Rel E (Go.load a m) (Go.load a' m) := by
  obtain ⟨i, o, b, k, rfl, rfl, h3⟩ := h
  intro H H1 r w hR e
  simp only [Go.load, sv] at e
  cases hc : H.cell ⟨i, o, none⟩ with
  | none => rw [hc] at e; cases e
  | some v =>
    rw [hc] at e
    obtain ⟨rfl, rfl⟩ := Prod.mk.inj (Option.some.inj e)
    obtain ⟨v', hv, rv⟩ := hR.cell h3 hc
    exact ⟨E, v', w, by simp [Go.load, Sem.run, hv], Ext.refl E, hR, Kp.refl _ _, rv⟩
theorem single_not [Ltr] {v v' : Value} (h : Rel E v v') (hs : single v = true) : (∀ c, v' ≠ .agg c) ∧ (∀ c, v' ≠ .tuple c) := by
  cases h with
  | same hf => exact ⟨fun c e => (by rw [e] at hs; cases hs), fun c e => (by rw [e] at hs; cases hs)⟩
  | agg h => cases hs
  | tuple h => cases hs
  | ltr h h2 => exact ⟨fun c e => (by rw [e] at h2; cases h2), fun c e => (by rw [e] at h2; cases h2)⟩
  | prd h h2 => exact ⟨fun c e => (by rw [e] at h2; cases h2), fun c e => (by rw [e] at h2; cases h2)⟩
  | any => cases hs
  | _ => exact ⟨fun c e => (by cases e), fun c e => (by cases e)⟩
theorem run_store {P : Program} {m : Mode} {a : Addr} {v u : Value} {w : World} (h1 : ∀ c, v ≠ .agg c) (h2 : ∀ c, v ≠ .tuple c) (hc : w.cell? a = some u) (hf : w.frozen? a = false) :
    (Go.store a v m).run P w = .ok () (w.setCell a v) := by
  cases v with
  | agg c => exact absurd rfl (h1 c)
  | tuple c => exact absurd rfl (h2 c)
  | _ => simp [Go.store, Sem.run, hc, hf]
theorem Snd.store [Ltr] {a a' : Addr} {v v' : Value} {m : Mode} (h : RelAd E a a') (hv : Rel E v v') : Snd P X base EqR E (Go.store a v m) (Go.store a' v' m) := by
  obtain ⟨i, o, b, k, rfl, rfl, h3⟩ := h
  intro H H1 r w hR e
  simp only [Go.store, sv] at e
  cases hc : H.put base ⟨i, o, none⟩ v with
  | none => rw [hc] at e; cases e
  | some H' =>
    rw [hc] at e
    obtain ⟨rfl, rfl⟩ := Prod.mk.inj (Option.some.inj e)
    obtain ⟨⟨u, hu⟩, hf, hR', hb, hs⟩ := hR.put h3 hv hc
    obtain ⟨n1, n2⟩ := single_not hv hs
    exact ⟨E, (), _, run_store n1 n2 hu hf, Ext.refl E, hR', hb, rfl⟩
theorem Snd.newRow [Ltr] {t : TypeId} {c c' : Array Value} (h : RelAr E c c') : Snd P X base RelAd E (Go.newRow t c) (Go.newRow t c') := by
  intro H H1 r w hR e
  have e' : some ((⟨H.n, 0, none⟩ : Addr), H.push (.row c.toList t)) = some (r, H1) := e
  obtain ⟨rfl, rfl⟩ := Prod.mk.inj (Option.some.inj e')
  obtain ⟨p1, p2, p3⟩ := hR.push (o := .row c.toList t) (x := .cells c' t) (k := 0) (fun F x => ⟨c'.toList, rfl, RelL.mono x h⟩)
  exact ⟨_, ⟨w.heap.size, 0, none⟩, _, rfl, p2, p1, p3, ⟨H.n, 0, w.heap.size, 0, rfl, rfl, Ren.at⟩⟩
theorem RelAr.push [Ltr] {x x' : Array Value} {v v' : Value} (h : RelAr E x x') (hv : Rel E v v') : RelAr E (x.push v) (x'.push v') := by
  unfold RelAr
  rw [Array.toList_push, Array.toList_push]
  exact RelL.append h (.cons hv .nil)
theorem Snd.loadCellsFrom [Ltr] {a a' : Addr} : ∀ (n : Nat) {E : Ren} (i : Nat) {x x' : Array Value}, RelAd E a a' → RelAr E x x' → Snd P X base RelAr E (Go.loadCellsFrom a i n x) (Go.loadCellsFrom a' i n x')
  | 0, _, _, _, _, _, hx => Snd.pure hx
  | n + 1, _, i, _, _, ha, hx => Snd.bind (Snd.load (ha.add i)) fun _ _ _ xt hv => Snd.loadCellsFrom n (i + 1) (ha.mono xt) (RelAr.push (RelL.mono xt hx) hv)
theorem Snd.loadCells [Ltr] {a a' : Addr} (h : RelAd E a a') (n : Nat) : Snd P X base RelAr E (Go.loadCells a n) (Go.loadCells a' n) := Snd.loadCellsFrom n 0 h .nil
theorem Snd.storeCells [Ltr] {a a' : Addr} : ∀ {l l' : List Value} {E : Ren} (i : Nat), RelAd E a a' → RelL E l l' → Snd P X base EqR E (Go.storeCells a l i) (Go.storeCells a' l' i)
  | [], _, _, _, _, .nil => by unfold Go.storeCells; exact Snd.pure rfl
  | _ :: _, _, _, i, ha, .cons hv t => by
    unfold Go.storeCells
    exact Snd.bind (Snd.store (ha.add i) hv) fun _ _ _ xt _ => Snd.storeCells (i + 1) (ha.mono xt) (t.mono xt)
theorem Snd.loadVar [Ltr] {a a' : Addr} (h : RelAd E a a') (t : TypeId) : Snd P X base Rel E (Go.loadVar t a) (Go.loadVar t a') := by
  refine Snd.bind (Snd.isAgg t) fun _ b b' x e => ?_
  obtain rfl : b = b' := e
  cases b with
  | true =>
    refine Snd.bind (Snd.sizeOf t) fun _ n n' x2 e => ?_
    obtain rfl : n = n' := e
    exact Snd.bind (Snd.loadCells ((h.mono x).mono x2) n) fun _ _ _ _ hc => Snd.pure (.agg hc)
  | false => exact Snd.load (h.mono x)
theorem Rel.cells [Ltr] {v v' : Value} (h : Rel E v v') (ht : isTop v = false) : RelAr E v.cells v'.cells := by
  cases h with
  | same hf => cases v <;> first | (cases hf; done) | exact .cons (.same hf) .nil
  | agg h => exact h
  | ptr h => exact .cons (.ptr h) .nil
  | sl h => exact .cons (.sl h) .nil
  | map h => exact .cons (.map h) .nil
  | yld h => exact .cons (.yld h) .nil
  | iface h => exact .cons (.iface h) .nil
  | func h h' => exact .cons (.func h h') .nil
  | tuple h => exact .cons (.tuple h) .nil
  | ltr h hs => cases v' <;> first | (cases hs; done) | exact .cons (.ltr h hs) .nil
  | prd h hs => cases v' <;> first | (cases hs; done) | exact .cons (.prd h hs) .nil
  | any => cases ht
  | sll h hs => exact .cons (.sll h hs) .nil
  | ptl h hs => exact .cons (.ptl h hs) .nil
  | tk h hf hs => exact .cons (.tk h hf hs) .nil
  | tkn hf hs => exact .cons (.tkn hf hs) .nil
theorem RelAr.size [Ltr] {x x' : Array Value} (h : RelAr E x x') : x'.size = x.size := by simpa using RelL.length h
theorem Snd.storeVar [Ltr] {a a' : Addr} {v v' : Value} (h : RelAd E a a') (hv : Rel E v v') (ht : isTop v = false) (t : TypeId) : Snd P X base EqR E (Go.storeVar t a v) (Go.storeVar t a' v') := by
  refine Snd.bind (Snd.sizeOf t) fun _ n n' x e => ?_
  obtain rfl : n = n' := e
  rw [(hv.cells ht).size]
  split
  · exact Snd.halt (h := .stuck _)
  · exact Snd.storeCells 0 (h.mono x) (RelL.mono x (hv.cells ht))
theorem Snd.newVar [Ltr] {t : TypeId} {v v' : Value} (h : Rel E v v') (ht : isTop v = false) : Snd P X base RelAd E (Go.newVar t v) (Go.newVar t v') := Snd.newRow (h.cells ht)
theorem Snd.sureAddr [Ltr] {v v' : Value} (h : Rel E v v') : Snd P X base RelAd E (Instr.sureAddr v) (Instr.sureAddr v') := by
  cases h with
  | ptr h => exact Snd.pure ⟨_, _, _, _, rfl, rfl, h⟩
  | same hf =>
    cases v with
    | pointer a => cases a with
      | none => exact Snd.stuck
      | some a => cases hf
    | _ => exact Snd.stuck
  | _ => exact Snd.stuck
end
end Go.Proofs.YtnggajehngemmaaGreatDoor
/-
  A run by reckoning, part 3: the operations.
-/
namespace Go.Proofs.YtnggajehngemmaaGreatDoor
open Go Go.RowKit
section
variable {P : Program} {X : Kep} {base : Nat} {E : Ren} {α β γ δ : Type}
theorem svp_sv : ∀ {s : Sem α} {a : α} (H : RW), svp P s = some a → sv P base s H = some (a, H)
  | .pure b, a, H, h => by obtain rfl := Option.some.inj h; rfl
  | .program k, a, H, h => by simp only [sv]; exact svp_sv (s := k P) H h
  | .mark m k, a, H, h => by simp only [sv]; exact svp_sv (s := k) H h
  | .load .., _, _, h => by cases h
  | .store .., _, _, h => by cases h
  | .new .., _, _, h => by cases h
  | .shape .., _, _, h => by cases h
  | .freeze .., _, _, h => by cases h
  | .frozen .., _, _, h => by cases h
  | .getObj .., _, _, h => by cases h
  | .setObj .., _, _, h => by cases h
  | .choose .., _, _, h => by cases h
  | .sys .., _, _, h => by cases h
  | .halt .., _, _, h => by cases h
/-- a tree that reads the program alone -/
theorem Snd.ofP [Ltr] {s : Sem α} {a : α} (h : svp P s = some a) : Snd P X base (fun _ x y => x = a ∧ y = a) E s s := by
  intro H H1 r w hR e
  rw [svp_sv H h] at e
  obtain ⟨rfl, rfl⟩ := Prod.mk.inj (Option.some.inj e)
  exact ⟨E, a, w, svp_run w h, Ext.refl E, hR, Kp.refl _ _, rfl, rfl⟩
theorem Snd.never [Ltr] {R : Ren → α → β → Prop} {s : Sem α} {s' : Sem β} (h : ∀ H, sv P base s H = none) : Snd P X base R E s s' := by
  intro H H1 r w _ e
  rw [h] at e
  cases e
theorem Snd.value [Ltr] {s s' : Sem Value} (h : Snd P X base Rel E s s') : Snd P X base RelN E (do Pure.pure (Next.value (← s))) (do Pure.pure (Next.value (← s'))) :=
  Snd.bind h fun _ _ _ _ r => Snd.pure r
theorem Snd.unit [Ltr] {s s' : Sem Unit} (h : Snd P X base EqR E s s') : Snd P X base RelN E (do s; Pure.pure Next.skip) (do s'; Pure.pure Next.skip) :=
  Snd.bind h fun _ _ _ _ _ => Snd.pure trivial
/-- zero values of leaves -/
def zfl (P : Program) (t : TypeId) : Bool :=
  match svp P (zeroValue t) with
  | some z => z.cells.toList.all flat && (match z with | .agg _ => true | z => flat z)
  | none => false
theorem zfl_rel [Ltr] {t : TypeId} (h : zfl P t = true) : ∃ z, svp P (zeroValue t) = some z ∧ ∀ E : Ren, Rel E z z := by
  unfold zfl at h
  cases hz : svp P (zeroValue t) with
  | none => rw [hz] at h; cases h
  | some z =>
    rw [hz] at h
    simp only [Bool.and_eq_true] at h
    refine ⟨z, rfl, fun E => ?_⟩
    cases z with
    | agg cs => exact .agg (RelL.flats h.1)
    | _ => exact .same h.2
theorem zfl_top {t : TypeId} (h : zfl P t = true) : (match svp P (zeroValue t) with | some z => isTop z | none => false) = false := by
  unfold zfl at h
  cases hz : svp P (zeroValue t) with
  | none => rfl
  | some z =>
    rw [hz] at h
    simp only [Bool.and_eq_true] at h
    cases z with
    | float k b => cases h.2
    | _ => rfl
theorem Snd.alloc [Ltr] {t : TypeId} (h : zfl P t = true) : Snd P X base Rel E (Instr.alloc t true (.tuple #[])) (Instr.alloc t true (.tuple #[])) := by
  obtain ⟨z, hz, hr⟩ := zfl_rel h
  refine Snd.bind (Snd.ofP hz) fun F a b x e => ?_
  obtain ⟨rfl, rfl⟩ := e
  exact Snd.bind (Snd.newVar (hr F) (by have h2 := zfl_top h; rw [hz] at h2; exact h2)) fun G a b x e => Snd.pure e.ptr
theorem Snd.box [Ltr] {t : TypeId} {v v' : Value} (h : Rel E v v') (ht : isTop v = false) : Snd P X base Rel E (Instr.box t v) (Instr.box t v') :=
  Snd.bind (Snd.newVar h ht) fun _ _ _ _ e => Snd.pure e.ptr
theorem Snd.loadAt [Ltr] {t : TypeId} {v v' : Value} (h : Rel E v v') : Snd P X base Rel E (Instr.loadAt t v) (Instr.loadAt t v') :=
  Snd.bind (Snd.sureAddr h) fun _ _ _ _ e => Snd.loadVar e t
theorem Snd.storeAt [Ltr] {t : TypeId} {v v' u u' : Value} (h : Rel E v v') (hu : Rel E u u') (ht : isTop u = false) : Snd P X base EqR E (Instr.storeAt t v u) (Instr.storeAt t v' u') :=
  Snd.bind (Snd.sureAddr h) fun _ _ _ x e => Snd.storeVar e (hu.mono x) ht t
theorem Snd.asAgg [Ltr] {v v' : Value} (h : Rel E v v') : Snd P X base RelAr E (Go.asAgg v) (Go.asAgg v') := by
  cases h with
  | agg h => exact Snd.pure h
  | same hf => cases v <;> first | exact Snd.stuck | cases hf
  | _ => exact Snd.stuck
theorem Snd.part [Ltr] {t : TypeId} {c c' : Array Value} (h : RelAr E c c') (o : Nat) : Snd P X base Rel E (Go.part t c o) (Go.part t c' o) := by
  refine Snd.bind (Snd.isAgg t) fun F b b' x e => ?_
  obtain rfl : b = b' := e
  cases b with
  | true =>
    refine Snd.bind (Snd.sizeOf t) fun G n n' x2 e => ?_
    obtain rfl : n = n' := e
    refine Snd.pure ?_
    have : RelL G ((c.extract o (o + n)).toList) ((c'.extract o (o + n)).toList) := by
      rw [Array.toList_extract, Array.toList_extract, List.extract_eq_take_drop, List.extract_eq_take_drop]
      exact ((RelL.mono (x.trans x2) h).drop o).take _
    exact .agg this
  | false =>
    show Snd P X base Rel _ (match c[o]? with | some v => Pure.pure v | none => Go.stuck _) (match c'[o]? with | some v => Pure.pure v | none => Go.stuck _)
    cases hc : c[o]? with
    | none => exact Snd.stuck
    | some v =>
      obtain ⟨v', hv', r⟩ := RelL.get h (i := o) (v := v) (by simpa using hc)
      have : c'[o]? = some v' := by simpa using hv'
      rw [this]
      exact Snd.pure (r.mono x)
theorem Snd.field [Ltr] {t : TypeId} {v v' : Value} (h : Rel E v v') (f : Nat) : Snd P X base Rel E (Instr.field t v f) (Instr.field t v' f) := by
  refine Snd.bind (Snd.underlying t) fun F d d' x e => ?_
  obtain rfl : d = d' := e
  cases d with
  | struct fs =>
    dsimp only
    cases hf : fs[f]? with
    | none => exact Snd.stuck
    | some fd => exact Snd.bind (Snd.asAgg (h.mono x)) fun G a b x2 e => Snd.part e _
  | _ => exact Snd.stuck
theorem Snd.extract [Ltr] {v v' : Value} (h : Rel E v v') (i : Nat) : Snd P X base Rel E (Instr.extract v i) (Instr.extract v' i) := by
  cases h with
  | @tuple x x' h =>
    unfold Instr.extract
    dsimp only
    cases hc : (⟨x⟩ : Array Value)[i]? with
    | none => exact Snd.stuck
    | some u =>
      obtain ⟨u', hu', r⟩ := RelL.get h (i := i) (v := u) (by simpa using hc)
      have : (⟨x'⟩ : Array Value)[i]? = some u' := by simpa using hu'
      rw [this]
      exact Snd.pure r
  | same hf =>
    cases v with
    | tuple vs =>
      obtain ⟨l⟩ := vs
      cases l with
      | nil => exact Snd.stuck
      | cons a l => cases hf
    | _ => exact Snd.stuck
  | _ => exact Snd.stuck
def RelI (_ : Ren) (a b : IntKind × Int) : Prop := a = b
theorem Snd.asIntOf [Ltr] {v v' : Value} (h : Rel E v v') : Snd P X base EqR E (Go.asIntOf v) (Go.asIntOf v') := by
  cases h with
  | same hf => cases v <;> first | exact Snd.pure rfl | exact Snd.stuck | (rename_i a; cases a <;> first | exact Snd.stuck | cases hf)
  | ptr h => exact Snd.unsupported
  | _ => exact Snd.stuck
theorem sv_runtimePanic_bounds {x y : Int} {s : Bool} {c : BoundsCode} (H : RW) : sv P base (runtimePanic (α := α) (.bounds x y s c)) H = none := rfl
theorem sv_boundsPanic {k : IntKind} {x y : Int} {c : BoundsCode} (H : RW) : sv P base (boundsPanic (α := α) k x y c) H = none := by
  unfold boundsPanic
  dsimp only
  split
  · rfl
  · rfl
theorem Snd.fieldPlace [Ltr] {a a' : Addr} (h : RelAd E a a') {f : Field} (hz : (svp P (Go.sizeOf f.type)).any (· != 0) = true) : Snd P X base RelAd E (Go.fieldPlace a f) (Go.fieldPlace a' f) := by
  cases hs : svp P (Go.sizeOf f.type) with
  | none => rw [hs] at hz; cases hz
  | some n =>
    rw [hs] at hz
    have hn : n ≠ 0 := by simpa using hz
    refine Snd.bind (Snd.ofP hs) fun F x y xt e => ?_
    obtain ⟨rfl, rfl⟩ := e
    simp only [hn, if_false]
    exact Snd.pure ((h.add _).mono xt)
def fokAt (P : Program) (t : TypeId) (f : Nat) : Bool :=
  match svp P (Go.underlying t) with
  | some (.struct fs) => (fs[f]?).any fun x => (svp P (Go.sizeOf x.type)).any (· != 0)
  | _ => false
theorem Snd.fieldAt [Ltr] {t : TypeId} {v v' : Value} {f : Nat} (hk : fokAt P t f = true) (h : Rel E v v') : Snd P X base Rel E (Instr.fieldAt t v f) (Instr.fieldAt t v' f) := by
  unfold fokAt at hk
  cases hu : svp P (Go.underlying t) with
  | none => rw [hu] at hk; cases hk
  | some d =>
    rw [hu] at hk
    refine Snd.bind (Snd.ofP hu) fun F x y xt e => ?_
    obtain ⟨rfl, e2⟩ := e
    subst e2
    cases y with
    | struct fs =>
      dsimp only at hk ⊢
      cases hf : fs[f]? with
      | none => rw [hf] at hk; cases hk
      | some fd =>
        rw [hf] at hk
        exact Snd.bind (Snd.sureAddr (h.mono xt)) fun G a b x2 e => Snd.bind (Snd.fieldPlace e hk) fun _ a b _ e => Snd.pure e.ptr
    | _ => exact Snd.stuck
theorem Snd.orPanic [Ltr] {R : Ren → α → β → Prop} {c : Prop} [Decidable c] {u : Unsupported} {k : IntKind} {x y : Int} {code : BoundsCode} {s' : Sem β} : Snd P X base R E (if c then Go.unsupported u else boundsPanic k x y code) s' := by
  split
  · exact Snd.unsupported
  · exact Snd.never sv_boundsPanic
theorem Snd.indexAt [Ltr] {t : TypeId} {v v' i i' : Value} (h : Rel E v v') (hi : Rel E i i') : Snd P X base Rel E (Instr.indexAt t v i) (Instr.indexAt t v' i') := by
  refine Snd.bind (Snd.asIntOf hi) fun F x y xt e => ?_
  obtain rfl : x = y := e
  obtain ⟨k, n⟩ := x
  refine Snd.bind (Snd.underlying t) fun G d d' x2 e => ?_
  obtain rfl : d = d' := e
  have h2 := h.mono (xt.trans x2)
  cases d with
  | array len el =>
    refine Snd.bind (Snd.sureAddr h2) fun K a a' x3 ha => ?_
    refine Snd.bind (R := fun _ x y => x = (some a, len, el) ∧ y = (some a', len, el)) (Snd.pure ⟨rfl, rfl⟩) ?_
    rintro L _ _ x4 ⟨rfl, rfl⟩
    refine Snd.bind (Snd.underlying t) fun M d d' x5 e => ?_
    obtain rfl : d = d' := e
    by_cases hn : 0 ≤ n ∧ n < (len : Int)
    · simp only [hn, and_self, if_true]
      refine Snd.bind (Snd.sizeOf el) fun _ s s' x6 e => ?_
      obtain rfl : s = s' := e
      exact Snd.pure ((((ha.mono x4).mono x5).mono x6).add _).ptr
    · simp only [hn, if_false]
      exact Snd.orPanic
  | slice el =>
    cases h2 with
    | @sl i o b k' len c hE =>
      refine Snd.bind (R := fun _ x y => x = (some ⟨i, o, none⟩, len, el) ∧ y = (some ⟨b, o, none⟩, len, el)) (Snd.pure ⟨rfl, rfl⟩) ?_
      rintro L _ _ x4 ⟨rfl, rfl⟩
      refine Snd.bind (Snd.underlying t) fun M d d' x5 e => ?_
      obtain rfl : d = d' := e
      by_cases hn : 0 ≤ n ∧ n < (len : Int)
      · simp only [hn, and_self, if_true]
        refine Snd.bind (Snd.sizeOf el) fun K s s' x6 e => ?_
        obtain rfl : s = s' := e
        have ha : RelAd K ⟨i, o, none⟩ ⟨b, o, none⟩ := ⟨_, _, _, _, rfl, rfl, x6 _ _ (x5 _ _ (x4 _ _ hE))⟩
        exact Snd.pure (ha.add _).ptr
      · simp only [hn, if_false]
        exact Snd.orPanic
    | same hf =>
      cases v with
      | slice a len c =>
        cases a with
        | some a => cases hf
        | none =>
          refine Snd.bind (R := fun _ x y => x = (none, len, el) ∧ y = (none, len, el)) (Snd.pure ⟨rfl, rfl⟩) ?_
          rintro L _ _ x4 ⟨rfl, rfl⟩
          refine Snd.bind (Snd.underlying t) fun M d d' x5 e => ?_
          exact Snd.never sv_boundsPanic
      | _ => exact Snd.never fun _ => rfl
    | _ => exact Snd.never fun _ => rfl
  | _ => exact Snd.never fun _ => rfl
end
end Go.Proofs.YtnggajehngemmaaGreatDoor
/-
  A run by reckoning, part 4: more operations; every operation.
-/
namespace Go.Proofs.YtnggajehngemmaaGreatDoor
open Go Go.RowKit
section
variable {P : Program} {X : Kep} {base : Nat} {E : Ren} {α β γ δ : Type}
/-- one that touches no memory -/
def Mless (P : Program) (base : Nat) (s : Sem α) : Prop := ∀ H r H1, sv P base s H = some (r, H1) → svp P s = some r ∧ H1 = H
theorem Mless.pure (a : α) : Mless P base (Pure.pure a : Sem α) := by
  intro H r H1 e
  obtain ⟨rfl, rfl⟩ := Prod.mk.inj (Option.some.inj e)
  exact ⟨rfl, rfl⟩
theorem svp_bind {s : Sem α} {f : α → Sem γ} : ∀ {a : α}, svp P s = some a → svp P (s.bind f) = svp P (f a) := by
  induction s with
  | pure b => intro a h; obtain rfl := Option.some.inj h; rfl
  | program k ih => intro a h; simp only [Sem.bind, svp]; exact ih _ h
  | mark m k ih => intro a h; simp only [Sem.bind, svp]; exact ih h
  | _ => intro a h; cases h
theorem Mless.bind [Ltr] {s : Sem α} {f : α → Sem γ} (h : Mless P base s) (k : ∀ a, Mless P base (f a)) : Mless P base (s >>= f) := by
  intro H r H1 e
  have e2 : sv P base (s.bind f) H = some (r, H1) := e
  rw [sv_bind] at e2
  cases hs : sv P base s H with
  | none => rw [hs] at e2; cases e2
  | some x =>
    obtain ⟨a, H2⟩ := x
    rw [hs] at e2
    obtain ⟨p1, rfl⟩ := h H a H2 hs
    obtain ⟨p2, rfl⟩ := k a H2 r H1 e2
    exact ⟨(svp_bind p1).trans p2, rfl⟩
theorem Mless.never {s : Sem α} (h : ∀ H, sv P base s H = none) : Mless P base s := by
  intro H r H1 e
  rw [h] at e
  cases e
theorem Mless.run [Ltr] {s : Sem α} (h : Mless P base s) {H H1 : RW} {r : α} (e : sv P base s H = some (r, H1)) (w : World) : s.run P w = .ok r w ∧ H1 = H :=
  ⟨svp_run w (h H r H1 e).1, (h H r H1 e).2⟩
theorem Snd.self [Ltr] {s : Sem α} (h : Mless P base s) : Snd P X base EqR E s s := by
  intro H H1 r w hR e
  obtain ⟨p1, rfl⟩ := h H r H1 e
  exact ⟨E, r, w, svp_run w p1, Ext.refl E, hR, Kp.refl _ _, rfl⟩
theorem Mless.asIntOf [Ltr] (v : Value) : Mless P base (Go.asIntOf v) := by
  cases v with
  | int k n => exact Mless.pure _
  | pointer a => cases a <;> exact Mless.never fun _ => rfl
  | _ => exact Mless.never fun _ => rfl
theorem Mless.sliceBound [Ltr] (v : Value) (y : Nat) (c : BoundsCode) : Mless P base (Instr.sliceBound v y c) := by
  refine Mless.bind (Mless.asIntOf v) fun x => ?_
  obtain ⟨k, i⟩ := x
  dsimp only
  split
  · exact Mless.pure _
  · exact Mless.never sv_boundsPanic
theorem Mless.sliceBounds [Ltr] (b : Bool) (n c : Nat) (lo hi mx : Option Value) : Mless P base (Instr.sliceBounds b n c lo hi mx) := by
  have l1 : ∀ (h m : Nat) (c : BoundsCode), Mless P base (match lo with
      | some v => (Instr.sliceBound v h c >>= fun l => Pure.pure (l, h, m))
      | none => ((Pure.pure 0 : Sem Nat) >>= fun l => Pure.pure (l, h, m))) := by
    intro h m c
    cases lo with
    | none => exact Mless.bind (Mless.pure _) fun _ => Mless.pure _
    | some v => exact Mless.bind (Mless.sliceBound _ _ _) fun _ => Mless.pure _
  cases mx with
  | none =>
    refine Mless.bind (Mless.pure _) fun m => ?_
    cases hi with
    | none => exact Mless.bind (Mless.pure _) fun h => l1 h m _
    | some v => exact Mless.bind (Mless.sliceBound _ _ _) fun h => l1 h m _
  | some u =>
    refine Mless.bind (Mless.sliceBound _ _ _) fun m => ?_
    cases hi with
    | none => exact Mless.bind (Mless.never fun _ => rfl) fun h => l1 h m _
    | some v => exact Mless.bind (Mless.sliceBound _ _ _) fun h => l1 h m _
theorem room_known {c k : Nat} (h : Nat.blt c big = true) : room c k = c := by unfold room; rw [h]; rfl
/-- a slice whose room is known -/
def okSl : Value → Bool
  | .slice (some _) _ c => Nat.blt c big
  | _ => false
theorem relSl [Ltr] {a a' : Addr} {n c : Nat} (ha : RelAd E a a') (hc : Nat.blt c big = true) : Rel E (.slice (some a) n c) (.slice (some a') n c) := by
  obtain ⟨i, o, b, k, rfl, rfl, h3⟩ := ha
  have := Rel.sl (n := n) (c := c) (o := o) h3
  rwa [room_known hc] at this
def RelQ [Ltr] (E : Ren) (v v' : Value) : Prop := okSl v = true → Rel E v v'
theorem Snd.cutArr [Ltr] {a a' : Addr} {el : TypeId} {n c : Nat} {b : Bool} {lo hi mx : Option Value} (ha : RelAd E a a') :
    Snd P X base RelQ E (do let x ← Instr.sliceBounds b n c lo hi mx; match x with | (l, h, m) => do let size ← Go.sizeOf el; Pure.pure (Value.slice (some (if m = l then a else a.add (l * size))) (h - l) (m - l)))
      (do let x ← Instr.sliceBounds b n c lo hi mx; match x with | (l, h, m) => do let size ← Go.sizeOf el; Pure.pure (Value.slice (some (if m = l then a' else a'.add (l * size))) (h - l) (m - l))) := by
  refine Snd.bind (Snd.self (Mless.sliceBounds b n c lo hi mx)) fun G r r' x2 e => ?_
  obtain rfl : r = r' := e
  obtain ⟨l, h, m⟩ := r
  refine Snd.bind (Snd.sizeOf el) fun K s s' x3 e => ?_
  obtain rfl : s = s' := e
  have h3 := (ha.mono x2).mono x3
  refine Snd.pure fun hc => ?_
  by_cases hm : m = l
  · simp only [hm, if_true] at hc ⊢
    exact relSl h3 hc
  · simp only [hm, if_false] at hc ⊢
    exact relSl (h3.add _) hc
theorem map_some_if {a : Addr} {m l s : Nat} : (if m = l then some a else Option.map (fun x => x.add (l * s)) (some a)) = some (if m = l then a else a.add (l * s)) := by split <;> rfl
theorem Snd.slice [Ltr] {t : TypeId} {v v' : Value} (hk : (match v with | .slice _ _ c => Nat.blt c big | _ => true) = true) (hf : flat v = false) (h : Rel E v v') (lo hi mx : Option Value) :
    Snd P X base RelQ E (Instr.slice t v lo hi mx) (Instr.slice t v' lo hi mx) := by
  refine Snd.bind (Snd.underlying t) fun F d d' x e => ?_
  obtain rfl : d = d' := e
  have h2 := h.mono x
  cases h2 with
  | @sl i o b k n c hE =>
    rw [room_known hk]
    cases d with
    | slice el =>
      have := Snd.cutArr (P := P) (X := X) (base := base) (el := el) (n := n) (c := c) (b := true) (lo := lo) (hi := hi) (mx := mx) (E := F) ⟨i, o, b, k, rfl, rfl, hE⟩
      simp only [map_some_if]
      exact this
    | _ => exact Snd.never fun _ => rfl
  | @ptr i o b k hE =>
    cases d with
    | pointer arr =>
      refine Snd.bind (R := RelAd) (Snd.pure ⟨i, o, b, k, rfl, rfl, hE⟩) fun G a a' x2 ha => ?_
      refine Snd.bind (Snd.underlying arr) fun K d d' x3 e => ?_
      obtain rfl : d = d' := e
      cases d with
      | array n el => exact Snd.cutArr (ha.mono x3)
      | _ => exact Snd.never fun _ => rfl
    | _ => exact Snd.never fun _ => rfl
  | same hf' => rw [hf] at hf'; cases hf'
  | _ => cases d <;> exact Snd.never fun _ => rfl
theorem Snd.sliceAt [Ltr] {t : TypeId} {v v' : Value} (hk : (match v with | .slice _ _ c => Nat.blt c big | _ => true) = true) (hf : flat v = false) (h : Rel E v v') (lo hi mx : Option Value) :
    Snd P X base RelQ E (Instr.sliceAt t v lo hi mx) (Instr.sliceAt t v' lo hi mx) := by
  refine Snd.bind (Snd.underlying t) fun F d d' x e => ?_
  obtain rfl : d = d' := e
  cases d with
  | array n el => exact Snd.bind (Snd.sureAddr (h.mono x)) fun K a a' x3 ha => Snd.cutArr ha
  | _ => exact Snd.slice hk hf (h.mono x) lo hi mx
/-- parts put into cells -/
inductive RelP [Ltr] (E : Ren) : List (Nat × Value) → List (Nat × Value) → Prop
  | nil : RelP E [] []
  | cons {i : Nat} {v v' : Value} {l l' : List (Nat × Value)} (h : Rel E v v') (ht : isTop v = false) (t : RelP E l l') : RelP E ((i, v) :: l) ((i, v') :: l')
theorem RelP.mono [Ltr] {F : Ren} (x : Ext E F) {l l' : List (Nat × Value)} : RelP E l l' → RelP F l l'
  | .nil => .nil
  | .cons h ht t => .cons (h.mono x) ht (t.mono x)
theorem RelL.sets [Ltr] {off : Nat} : ∀ {l l' : List Value} (j : Nat) {c c' : Array Value}, RelL E l l' → RelAr E c c' →
    RelAr E ((l.zipIdx j).foldl (fun cs (x : Value × Nat) => cs.setIfInBounds (off + x.2) x.1) c) ((l'.zipIdx j).foldl (fun cs (x : Value × Nat) => cs.setIfInBounds (off + x.2) x.1) c')
  | _, _, _, _, _, .nil, h => h
  | _, _, j, c, c', .cons hv t, h => by
    simp only [List.zipIdx_cons, List.foldl_cons]
    refine RelL.sets (j + 1) t ?_
    unfold RelAr
    rw [Array.toList_setIfInBounds, Array.toList_setIfInBounds]
    exact RelL.set hv h _
theorem fill_rel [Ltr] {place : Nat → Option (Nat × Nat)} : ∀ {l l' : List (Nat × Value)} {c c' r : Array Value}, RelP E l l' → RelAr E c c' → Instr.fill place c l = some r → ∃ r', Instr.fill place c' l' = some r' ∧ RelAr E r r'
  | _, _, c, c', r, .nil, h, e => by
    obtain rfl := Option.some.inj e
    exact ⟨c', rfl, h⟩
  | _, _, c, c', r, .cons (i := i) (v := v) (v' := v') hv ht t, h, e => by
    unfold Instr.fill at e ⊢
    cases hp : place i with
    | none => rw [hp] at e; cases e
    | some x =>
      obtain ⟨off, size⟩ := x
      rw [hp] at e
      dsimp only at e ⊢
      have hz := (hv.cells ht).size
      rw [hz, h.size]
      split at e
      · cases e
      · rename_i hc
        rw [if_neg hc]
        refine fill_rel t ?_ e
        have := RelL.sets (off := off) 0 (hv.cells ht) h
        rw [← Array.foldl_toList, ← Array.foldl_toList]
        simpa [Array.toList_zipIdx] using this
theorem Snd.index [Ltr] {t : TypeId} {v v' i i' : Value} (hf : flat v = false) (h : Rel E v v') (hi : Rel E i i') : Snd P X base Rel E (Instr.index t v i) (Instr.index t v' i') := by
  refine Snd.bind (Snd.asIntOf hi) fun F x y xt e => ?_
  obtain rfl : x = y := e
  obtain ⟨k, n⟩ := x
  refine Snd.bind (Snd.underlying t) fun G d d' x2 e => ?_
  obtain rfl : d = d' := e
  have h2 := h.mono (xt.trans x2)
  cases h2 with
  | agg hc =>
    cases d with
    | array len el =>
      dsimp only
      split
      · refine Snd.bind (Snd.sizeOf el) fun K s s' x3 e => ?_
        obtain rfl : s = s' := e
        exact Snd.part (RelL.mono x3 hc) _
      · exact Snd.never sv_boundsPanic
    | _ => exact Snd.never fun _ => rfl
  | same hf' => rw [hf] at hf'; cases hf'
  | _ => cases d <;> exact Snd.never fun _ => rfl
end
end Go.Proofs.YtnggajehngemmaaGreatDoor
