/-
  Letters: lists that may be nil: what a call is given, what it leaves.
-/
import Derived.Test.YtnggajehngemmaaGreatDoorEg
import Derived.Test.YtnggajehngemmaaGreatDoorEvZ
namespace Go.Proofs.YtnggajehngemmaaGreatDoor
open Go Go.RowKit
/-- a block that holds vs, and room behind: k elements in all -/
def RowL (vs : List Value) (t : TypeId) (z k : Nat) (y : Obj) : Prop := ∃ ys, y = .cells ⟨vs ++ ys⟩ t (0, 0) ∧ vs.length + ys.length = k * z ∧ k ≤ maxLen
/-- list letter m: N elements of z cells, vs in all -/
structure IsList [Ltr] (m : Nat) (t : TypeId) (z N : Nat) (vs : List Value) : Prop where
  o : ∀ k y, Ltr.o m k y ↔ RowL vs t z k y
  s : ∀ k n c, Ltr.s m k n c ↔ n = N ∧ c = k
  len : vs.length = N * z
  z : 0 < z
/-- list m, as a value in w -/
def TokAt [Ltr] (w : World) (m : Nat) (v : Value) : Prop :=
  (v = .slice none 0 0 ∧ Ltr.s m 0 0 0) ∨ ∃ b k n c y, v = .slice (some ⟨b, 0, none⟩) n c ∧ Ltr.s m k n c ∧ w.heap[b]? = some y ∧ Ltr.o m k y
theorem RowL.row {vs : List Value} {t : TypeId} {z k N : Nat} {y : Obj} (h : RowL vs t z k y) (hl : vs.length = N * z) (hz : 0 < z) : ∃ cur : Array Value, y = .cells cur t (0, 0) ∧ N ≤ k ∧ k ≤ maxLen ∧ cur.size = k * z ∧ cur.toList.take (N * z) = vs := by
  obtain ⟨ys, rfl, h1, h2⟩ := h
  refine ⟨_, rfl, ?_, h2, by simp; omega, by simp [← hl]⟩
  have : N * z ≤ k * z := by omega
  exact Nat.le_of_mul_le_mul_right this hz
theorem RowL.of {cur : Array Value} {vs : List Value} {t : TypeId} {z k N : Nat} (h1 : cur.size = k * z) (h2 : cur.toList.take (N * z) = vs) (h3 : N ≤ k) (h4 : k ≤ maxLen) : RowL vs t z k (.cells cur t (0, 0)) := by
  have hN : N * z ≤ k * z := Nat.mul_le_mul_right z h3
  refine ⟨cur.toList.drop (N * z), ?_, ?_, h4⟩
  · rw [← h2, List.take_append_drop]
  · rw [← h2, ← h1]
    simp
    omega
theorem TokAt.own [Ltr] {w : World} {m t z N : Nat} {vs : List Value} {v : Value} (h : TokAt w m v) (hL : IsList m t z N vs) : w.ownsRow 0 t z v N vs := by
  rcases h with ⟨rfl, hs⟩ | ⟨b, k, n, c, y, rfl, hs, hy, ho⟩
  · obtain ⟨rfl, -⟩ := (hL.s _ _ _).1 hs
    exact ⟨hL.len, .inl ⟨rfl, rfl⟩⟩
  · obtain ⟨rfl, rfl⟩ := (hL.s _ _ _).1 hs
    obtain ⟨cur, rfl, h1, h2, h3, h4⟩ := ((hL.o _ _).1 ho).row hL.len hL.z
    exact ⟨hL.len, .inr ⟨b, c, cur, rfl, Nat.zero_le _, hy, h1, h2, h3, h4⟩⟩
/-- is it list m? -/
def isTok (H : RW) (m : Nat) (v : Value) : Bool :=
  match v with
  | .func (.via i ⟨[]⟩ j false) ⟨[]⟩ ⟨[]⟩ => Nat.beq j m && (match look i H.h with
    | some (.tok a) => Nat.beq a m
    | _ => false)
  | _ => false
section
variable {X : Kep} {base : Nat} {E : Ren} {H : RW} {w : World}
theorem isTok_at [Ltr] (R : Rep X base E H w) {m : Nat} {v v' : Value} (h : isTok H m v = true) (r : Rel E v v') : TokAt w m v' := by
  unfold isTok at h
  split at h
  · rename_i i j
    simp only [Bool.and_eq_true] at h
    obtain ⟨h1, h2⟩ := h
    obtain rfl := Nat.eq_of_beq_eq_true h1
    split at h2
    · rename_i a hl
      obtain rfl := Nat.eq_of_beq_eq_true h2
      cases r with
      | same hf => cases hf
      | tk hE hf hs =>
        obtain ⟨y, hy, ho⟩ := R.oke hl hE
        exact .inr ⟨_, _, _, _, y, rfl, hs, hy, ho⟩
      | tkn hf hs => exact .inl ⟨rfl, hs⟩
    · cases h2
  · cases h
end
/-- what a call is given: letters, numbers, lists, structures of these, functions; .map (some m): a map of which letter m says something; .tuple: the address of a row; .iface n (.tuple ..): a slice of n elements that is a row -/
def tq (H : RW) : Nat → Value → Value → Bool
  | 0, _, _ => false
  | n + 1, p, v => match p with
    | .func (.via _ ⟨[]⟩ m false) ⟨[]⟩ ⟨[]⟩ => isTok H m v
    | .agg ⟨x⟩ => match v with
      | .agg ⟨y⟩ => all2 (tq H n) x y
      | _ => false
    | .func (.func f) ⟨x⟩ ⟨y⟩ => match v with
      | .func (.func g) ⟨x'⟩ ⟨y'⟩ => Nat.beq g f && all2 (tq H n) x x' && all2 (tq H n) y y'
      | _ => false
    | .map (some m) => match v with
      | .map (some i) => match look i H.h with
        | some (.opq a) => Nat.beq a m
        | _ => false
      | _ => false
    | .tuple ⟨x⟩ => match v with
      | .pointer (some ⟨i, 0, none⟩) => match look i H.h with
        | some (.row y _) => all2 (tq H n) x y
        | _ => false
      | _ => false
    | .iface l (.tuple ⟨x⟩) => match v with
      | .slice (some ⟨i, 0, none⟩) k _ => match look i H.h with
        | some (.row y _) => Nat.beq k l && all2 (tq H n) x y
        | _ => false
      | _ => false
    | p => pq v p
def AllR (f : Value → Value → Prop) : List Value → List Value → Prop
  | [], l => l = []
  | p :: x, l => ∃ v l', l = v :: l' ∧ f p v ∧ AllR f x l'
def TRel [Ltr] (w : World) : Nat → Value → Value → Prop
  | 0, _, _ => False
  | n + 1, p, v => match p with
    | .func (.via _ ⟨[]⟩ m false) ⟨[]⟩ ⟨[]⟩ => TokAt w m v
    | .agg ⟨x⟩ => ∃ y, v = .agg ⟨y⟩ ∧ AllR (TRel w n) x y
    | .func (.func f) ⟨x⟩ ⟨y⟩ => ∃ x' y', v = .func (.func f) ⟨x'⟩ ⟨y'⟩ ∧ AllR (TRel w n) x x' ∧ AllR (TRel w n) y y'
    | .map (some m) => ∃ b k y, v = .map (some b) ∧ w.heap[b]? = some y ∧ Ltr.o m k y
    | .tuple ⟨x⟩ => ∃ b y t, v = .pointer (some ⟨b, 0, none⟩) ∧ w.heap[b]? = some (.cells ⟨y⟩ t (0, 0)) ∧ AllR (TRel w n) x y
    | .iface l (.tuple ⟨x⟩) => ∃ b c y t, v = .slice (some ⟨b, 0, none⟩) l c ∧ w.heap[b]? = some (.cells ⟨y⟩ t (0, 0)) ∧ AllR (TRel w n) x y
    | p => ∃ E, Rel E p v
section
variable {X : Kep} {base : Nat} {E : Ren} {H : RW} {w : World}
theorem allR_of [Ltr] {f : Value → Value → Bool} {g : Value → Value → Prop} (h : ∀ p v v', f p v = true → Rel E v v' → g p v') : ∀ {x y y' : List Value}, all2 f x y = true → RelL E y y' → AllR g x y'
  | [], [], _, _, r => by cases r; rfl
  | p :: x, v :: y, _, e, r => by
    simp only [all2, Bool.and_eq_true] at e
    cases r with
    | cons h1 t1 => exact ⟨_, _, rfl, h _ _ _ e.1 h1, allR_of h e.2 t1⟩
  | [], _ :: _, _, e, _ => by cases e
  | _ :: _, [], _, e, _ => by cases e
theorem tq_rel [Ltr] (R : Rep X base E H w) : ∀ (n : Nat) (p v v' : Value), tq H n p v = true → Rel E v v' → TRel w n p v'
  | 0, _, _, _, e, _ => by cases e
  | n + 1, p, v, v', e, r => by
    unfold tq at e
    unfold TRel
    split at e
    · exact isTok_at R e r
    · split at e
      · cases r with
        | same hf => cases hf
        | agg h => exact ⟨_, rfl, allR_of (tq_rel R n) e h⟩
      · cases e
    · split at e
      · simp only [Bool.and_eq_true] at e
        obtain ⟨⟨e1, e2⟩, e3⟩ := e
        rw [← Nat.eq_of_beq_eq_true e1]
        cases r with
        | same hf =>
          rename_i x y _ g x' y'
          have hx : x' = [] ∧ y' = [] := by
            cases x' with
            | cons a l => cases hf
            | nil => cases y' with
              | cons a l => cases hf
              | nil => exact ⟨rfl, rfl⟩
          obtain ⟨rfl, rfl⟩ := hx
          exact ⟨[], [], rfl, allR_of (tq_rel R n) e2 RelL.nil, allR_of (tq_rel R n) e3 RelL.nil⟩
        | func h h' => exact ⟨_, _, rfl, allR_of (tq_rel R n) e2 h, allR_of (tq_rel R n) e3 h'⟩
      · cases e
    · split at e
      · split at e
        · rename_i a hl
          rw [← Nat.eq_of_beq_eq_true e]
          cases r with
          | same hf => cases hf
          | map hE =>
            obtain ⟨y, hy, ho⟩ := R.oke hl hE
            exact ⟨_, _, y, rfl, hy, ho⟩
        · cases e
      · cases e
    · split at e
      · split at e
        · rename_i y t hl
          cases r with
          | same hf => cases hf
          | ptr hE =>
            obtain ⟨xs, hx, h⟩ := R.oke hl hE
            exact ⟨_, xs, t, rfl, hx, allR_of (tq_rel R n) e h⟩
        · cases e
      · cases e
    · split at e
      · split at e
        · rename_i y t hl
          simp only [Bool.and_eq_true] at e
          rw [← Nat.eq_of_beq_eq_true e.1]
          cases r with
          | same hf => cases hf
          | sl hE =>
            obtain ⟨xs, hx, h⟩ := R.oke hl hE
            exact ⟨_, _, xs, t, rfl, hx, allR_of (tq_rel R n) e.2 h⟩
        · cases e
      · cases e
    · rw [← pq_eq e]
      exact ⟨E, r⟩
end
end Go.Proofs.YtnggajehngemmaaGreatDoor
/-
  Letters: calls that leave lists which may be nil.
-/
namespace Go.Proofs.YtnggajehngemmaaGreatDoor
open Go Go.RowKit
/-- lists that a call leaves: names for them -/
def layL : List Value → RW → List Value × RW
  | [], H => ([], H)
  | p :: ps, H => match p with
    | .func (.via _ ⟨[]⟩ m false) ⟨[]⟩ ⟨[]⟩ => (TOK H.n m :: (layL ps ⟨H.n + 2, (H.n, .tok m) :: H.h⟩).1, (layL ps ⟨H.n + 2, (H.n, .tok m) :: H.h⟩).2)
    | p => (p :: (layL ps H).1, (layL ps H).2)
def lay (p : Value) (H : RW) : Value × RW :=
  match p with
  | .agg ⟨l⟩ => (.agg ⟨(layL l H).1⟩, (layL l H).2)
  | .func (.via _ ⟨[]⟩ m false) ⟨[]⟩ ⟨[]⟩ => (TOK H.n m, ⟨H.n + 2, (H.n, .tok m) :: H.h⟩)
  | p => (p, H)
/-- u is what p says, its block of the call's own -/
def RNew [Ltr] (B : Nat) (w' : World) (p u : Value) (bs : List Nat) : Prop :=
  match p with
  | .func (.via _ ⟨[]⟩ m false) ⟨[]⟩ ⟨[]⟩ => (u = .slice none 0 0 ∧ Ltr.s m 0 0 0 ∧ bs = []) ∨ ∃ b k n c y, u = .slice (some ⟨b, 0, none⟩) n c ∧ bs = [b] ∧ B ≤ b ∧ Ltr.s m k n c ∧ w'.heap[b]? = some y ∧ Ltr.o m k y
  | p => bs = [] ∧ ∀ E : Ren, Rel E p u
def RNewL [Ltr] (B : Nat) (w' : World) : List Value → List Value → List Nat → Prop
  | [], us, bs => us = [] ∧ bs = []
  | p :: ps, us, bs => ∃ u us' b1 b2, us = u :: us' ∧ bs = b1 ++ b2 ∧ RNew B w' p u b1 ∧ RNewL B w' ps us' b2
def RNew1 [Ltr] (B : Nat) (w' : World) (r u : Value) (bs : List Nat) : Prop :=
  match r with
  | .agg ⟨l⟩ => ∃ us, u = .agg ⟨us⟩ ∧ RNewL B w' l us bs
  | r => RNew B w' r u bs
section
variable {X : Kep} {base : Nat} {E : Ren} {H : RW} {w : World}
/-- no name that lives stands for b -/
def Free (E : Ren) (H : RW) (b : Nat) : Prop := ∀ i o b' k', look i H.h = some o → o.live = true → E i = some (b', k') → b' ≠ b
theorem beq_ne {i j : Nat} (h : i ≠ j) : Nat.beq i j = false := by
  cases hb : Nat.beq i j with
  | true => exact absurd (Nat.eq_of_beq_eq_true hb) h
  | false => rfl
theorem new_ne {n b k i : Nat} (h : i ≠ n) : (E.new n b k) i = E i := by unfold Ren.new; rw [beq_ne h]; rfl
theorem look_ne {i j : Nat} {o : Ob} {h : List (Nat × Ob)} (hn : i ≠ j) : look i ((j, o) :: h) = look i h := by rw [look, beq_ne hn]; rfl
theorem look_at {j : Nat} {o : Ob} {h : List (Nat × Ob)} : look j ((j, o) :: h) = some o := by rw [look, Nat.beq_refl]; rfl
theorem Rep.lo [Ltr] (R : Rep X base E H w) {i : Nat} {o : Ob} (hl : look i H.h = some o) : i < H.n := by
  rcases R.ok' _ o hl with h | ⟨b, k, e, -⟩
  · exact h.2.2
  · exact Nat.lt_of_not_le fun h => by rw [R.dom _ h] at e; cases e
/-- a new list's two names -/
theorem Rep.two [Ltr] (R : Rep X base E H w) {F : Ren} {m f : Nat} {q : Nat} (hF : F (H.n + 1) = some (f, q)) (hfX : ¬ X f) (hlow : ∀ i < H.n, F i = E i) (hhi : ∀ i, H.n + 2 ≤ i → F i = none)
    (hnew : (F H.n = none) ∨ ∃ b k y, F H.n = some (b, k) ∧ Free E H b ∧ ¬ X b ∧ w.heap[b]? = some y ∧ Ltr.o m k y) :
    Rep X base F ⟨H.n + 2, (H.n, .tok m) :: H.h⟩ w ∧ Ext E F := by
  have x : Ext E F := fun i y e => by
    rw [hlow i (Nat.lt_of_not_le fun h => by rw [R.dom _ h] at e; cases e)]
    exact e
  have part : ∀ {i : Nat} {o : Ob}, look i ((H.n, Ob.tok m) :: H.h) = some o → (i = H.n ∧ o = .tok m) ∨ (i < H.n ∧ look i H.h = some o) := by
    intro i o hi
    by_cases h0 : i = H.n
    · subst h0
      rw [look_at] at hi
      exact .inl ⟨rfl, (Option.some.inj hi).symm⟩
    · rw [look_ne h0] at hi
      exact .inr ⟨R.lo hi, hi⟩
  refine ⟨⟨fun i hi => hhi i hi, ?_, ?_, ?_, R.lt, by have := R.bn; show base ≤ H.n + 2; omega, R.fx⟩, x⟩
  · intro i o hi
    rcases part hi with ⟨rfl, rfl⟩ | ⟨hlt, hi⟩
    · rcases hnew with h | ⟨b, k, y, h1, h2, h3, h4, h5⟩
      · exact .inl ⟨rfl, h, by show H.n < H.n + 2; omega⟩
      · exact .inr ⟨b, k, h1, y, h4, h5⟩
    · rcases R.ok' i o hi with ⟨h1, h2, h3⟩ | ⟨b, k, h1, h2⟩
      · exact .inl ⟨h1, by rw [hlow i hlt]; exact h2, by show i < H.n + 2; omega⟩
      · exact .inr ⟨b, k, x _ _ h1, h2.mono x⟩
  · intro i j o o' b k k' hi lo hj lo' e e'
    rcases part hi with ⟨rfl, rfl⟩ | ⟨hlt, hi⟩ <;> rcases part hj with ⟨rfl, rfl⟩ | ⟨hlt', hj⟩
    · rfl
    · exfalso
      rcases hnew with h | ⟨b2, k2, y, h1, h2, -⟩
      · rw [h] at e; cases e
      · rw [h1] at e
        obtain ⟨rfl, rfl⟩ := Prod.mk.inj (Option.some.inj e)
        rw [hlow j hlt'] at e'
        exact h2 j o' _ _ hj lo' e' rfl
    · exfalso
      rcases hnew with h | ⟨b2, k2, y, h1, h2, -⟩
      · rw [h] at e'; cases e'
      · rw [h1] at e'
        obtain ⟨rfl, rfl⟩ := Prod.mk.inj (Option.some.inj e')
        rw [hlow i hlt] at e
        exact h2 i o _ _ hi lo e rfl
    · rw [hlow i hlt] at e
      rw [hlow j hlt'] at e'
      exact R.inj i j o o' b k k' hi lo hj lo' e e'
  · intro i b k hi e
    rcases Nat.lt_or_ge i H.n with h | h
    · rw [hlow i h] at e
      exact R.new i b k hi e
    · by_cases h0 : i = H.n
      · subst h0
        rcases hnew with h | ⟨b2, k2, y, h1, h2, h3, -⟩
        · rw [h] at e; cases e
        · rw [h1] at e
          obtain ⟨rfl, rfl⟩ := Prod.mk.inj (Option.some.inj e)
          exact h3
      · by_cases h1 : i = H.n + 1
        · subst h1
          rw [hF] at e
          obtain ⟨rfl, rfl⟩ := Prod.mk.inj (Option.some.inj e)
          exact hfX
        · rw [hhi i (by omega)] at e; cases e
/-- names for what a call has left -/
theorem layL_ok [Ltr] {B : Nat} : ∀ (ps : List Value) {H : RW} {E : Ren} {us : List Value} {bs : List Nat}, Rep X base E H w → (∀ b ∈ bs, Free E H b ∧ ¬ X b) → bs.Nodup → RNewL B w ps us bs →
    ∃ F, Ext E F ∧ Rep X base F (layL ps H).2 w ∧ RelL F (layL ps H).1 us
  | [], H, E, us, bs, R, _, _, h => by
    obtain ⟨rfl, rfl⟩ := h
    exact ⟨E, Ext.refl E, R, .nil⟩
  | p :: ps, H, E, us, bs, R, hb, hd, h => by
    obtain ⟨u, us', b1, b2, rfl, rfl, hp, ht⟩ := h
    rw [List.nodup_append] at hd
    obtain ⟨hd1, hd2, hd3⟩ := hd
    have hX : ¬ X w.heap.size := fun h => Nat.lt_irrefl _ (R.lt _ h)
    unfold layL
    unfold RNew at hp
    split
    · rename_i i m
      dsimp only at hp
      have go : ∀ {F : Ren}, Rep X base F ⟨H.n + 2, (H.n, .tok m) :: H.h⟩ w → Ext E F → Rel F (TOK H.n m) u → (∀ b ∈ b2, Free F ⟨H.n + 2, (H.n, .tok m) :: H.h⟩ b) →
          ∃ F, Ext E F ∧ Rep X base F (layL ps ⟨H.n + 2, (H.n, .tok m) :: H.h⟩).2 w ∧ RelL F (TOK H.n m :: (layL ps ⟨H.n + 2, (H.n, .tok m) :: H.h⟩).1) (u :: us') := by
        intro F R1 x1 r hfree
        obtain ⟨K, x2, R2, r2⟩ := layL_ok ps R1 (fun b hm => ⟨hfree b hm, (hb b (List.mem_append_right _ hm)).2⟩) hd2 ht
        exact ⟨K, x1.trans x2, R2, .cons (r.mono x2) r2⟩
      rcases hp with ⟨rfl, hs, rfl⟩ | ⟨b, k, n, c, y, rfl, rfl, hB, hs, hy, ho⟩
      · have hF : ∀ i < H.n, (E.new (H.n + 1) w.heap.size 1) i = E i := fun i hi => new_ne (by omega)
        have h0 : (E.new (H.n + 1) w.heap.size 1) H.n = none := by rw [new_ne (by omega)]; exact R.dom _ (Nat.le_refl _)
        obtain ⟨R1, x1⟩ := R.two (m := m) (F := E.new (H.n + 1) w.heap.size 1) Ren.at hX hF (fun i hi => by rw [new_ne (by omega)]; exact R.dom _ (by omega)) (.inl h0)
        refine go R1 x1 (.tkn Ren.at hs) fun b hm i o b' k' hl hv e => ?_
        by_cases hi : i = H.n
        · rw [hi, h0] at e; cases e
        · have hl : look i ((H.n, Ob.tok m) :: H.h) = some o := hl
          rw [look_ne hi] at hl
          rw [hF i (R.lo hl)] at e
          exact (hb b (by simpa using hm)).1 i o b' k' hl hv e
      · have hF : ∀ i < H.n, ((E.new H.n b k).new (H.n + 1) w.heap.size 0) i = E i := fun i hi => by rw [new_ne (by omega), new_ne (by omega)]
        have h0 : ((E.new H.n b k).new (H.n + 1) w.heap.size 0) H.n = some (b, k) := by rw [new_ne (by omega)]; exact Ren.at
        obtain ⟨f1, f2⟩ := hb b (by simp)
        obtain ⟨R1, x1⟩ := R.two (m := m) (F := (E.new H.n b k).new (H.n + 1) w.heap.size 0) Ren.at hX hF (fun i hi => by rw [new_ne (by omega), new_ne (by omega)]; exact R.dom _ (by omega)) (.inr ⟨b, k, y, h0, f1, f2, hy, ho⟩)
        refine go R1 x1 (.tk h0 Ren.at hs) fun b3 hm i o b' k' hl hv e => ?_
        by_cases hi : i = H.n
        · rw [hi, h0] at e
          obtain ⟨rfl, rfl⟩ := Prod.mk.inj (Option.some.inj e)
          exact hd3 _ (by simp) _ hm
        · have hl : look i ((H.n, Ob.tok m) :: H.h) = some o := hl
          rw [look_ne hi] at hl
          rw [hF i (R.lo hl)] at e
          exact (hb b3 (List.mem_append_right _ hm)).1 i o b' k' hl hv e
    · split at hp
      · rename_i h1
        exact absurd rfl (h1 _ _)
      · obtain ⟨rfl, hr⟩ := hp
        obtain ⟨K, x2, R2, r2⟩ := layL_ok ps R (fun b hm => hb b (List.mem_append_right _ hm)) hd2 ht
        exact ⟨K, x2, R2, .cons (hr K) r2⟩
theorem lay_ok [Ltr] {B : Nat} {r u : Value} {bs : List Nat} (R : Rep X base E H w) (hb : ∀ b ∈ bs, Free E H b ∧ ¬ X b) (hd : bs.Nodup) (h : RNew1 B w r u bs) : ∃ F, Ext E F ∧ Rep X base F (lay r H).2 w ∧ Rel F (lay r H).1 u := by
  unfold RNew1 at h
  unfold lay
  split at h
  · obtain ⟨us, rfl, h⟩ := h
    obtain ⟨F, x, R1, r1⟩ := layL_ok _ R hb hd h
    exact ⟨F, x, R1, .agg r1⟩
  · rename_i hn
    split
    · exact absurd rfl (hn _)
    · rename_i i m
      have h2 : RNewL B w [TOK i m] [u] bs := ⟨u, [], bs, [], rfl, by simp, h, rfl, rfl⟩
      obtain ⟨F, x, R1, r1⟩ := layL_ok [TOK i m] R hb hd h2
      refine ⟨F, x, R1, ?_⟩
      cases r1 with
      | cons h1 _ => exact h1
    · unfold RNew at h
      split at h
      · rename_i h1
        exact absurd rfl (h1 _ _)
      · exact ⟨E, Ext.refl E, R, h.2 E⟩
end
/-- a call of letters, numbers, lists that leaves such things -/
def tokP (g : FuncId) (ps : List Value) (r : Value) : Prim := fun f args H => bif Nat.beq f g && all2 (tq H 3) ps args then some (lay r H) else none
theorem tokP_ok [Ltr] {P : Program} {G base : Nat} {X : Kep} {g : FuncId} {ps : List Value} {r : Value}
    (h : ∀ (w : World) (args' : List Value), (∀ b, X b → w.heap[b]? = X.ob b) → AllR (TRel w 3) ps args' → Calls P g ⟨args'⟩ w fun e w' => ∃ u bs, e = .returned u ∧ Below w.heap.size w w' ∧ RNew1 w.heap.size w' r u bs ∧ bs.Nodup ∧ ∀ b ∈ bs, w.heap.size ≤ b) : PrimOk P (tokP g ps r) G X base := by
  intro f args H v H1 E w args' hR hG hr e
  unfold tokP at e
  obtain ⟨hc, e⟩ := cond_some e
  simp only [Bool.and_eq_true] at hc
  have e := Option.some.inj e
  rw [Nat.eq_of_beq_eq_true hc.1]
  refine (h w args' hR.fx (allR_of (fun p v v' => tq_rel hR 3 p v v') hc.2 hr)).mono ?_
  rintro e w' ⟨u, bs, rfl, hb, hu, hd, hge⟩
  have hfree : ∀ b ∈ bs, Free E H b ∧ ¬ X b := fun b hm => by
    refine ⟨fun i o b' k' hl hv he heq => ?_, fun hx => ?_⟩
    · have h1 := (hR.oke hl he).lt hv
      have := hge b hm
      omega
    · have h1 := hR.lt b hx
      have := hge b hm
      omega
  obtain ⟨F, x, R1, r1⟩ := lay_ok (hR.below hb) hfree hd hu
  rw [e] at R1 r1
  exact ⟨u, F, rfl, x, R1, ⟨hb.os, hb.tape, hb.output, hb.size, fun j hj => hb.block j (hR.lt j hj)⟩, r1⟩
/-- the names of lists -/
def tnames : List Value → List Nat
  | [] => []
  | v :: l => match v with
    | .func (.via i ⟨[]⟩ _ false) ⟨[]⟩ ⟨[]⟩ => i :: tnames l
    | _ => tnames l
/-- a list, or what is no list -/
def to1 (H : RW) (p v : Value) : Bool :=
  match p with
  | .func (.via _ ⟨[]⟩ m false) ⟨[]⟩ ⟨[]⟩ => isTok H m v
  | p => pq v p
/-- what a function leaves, by a run -/
def SymT (O : List OE) (M : List ME) (C : List CE) (pr : Prim) (n : Nat) (f : FuncId) (args : List Value) (r : List Value) : Prop :=
  (callEv Tryz.prog pr 64 (@codeQ (orcG 64 64 O M C) Tryz.prog pr 64 64 n false) f args ⟨64, []⟩).map (fun p => match p.1 with
    | .agg ⟨l⟩ => all2 (to1 p.2) r l && ndp (tnames l) && (tnames l).all (Nat.ble 64)
    | _ => false) = some true
theorem pq_all [Ltr] {F : Ren} {v p u : Value} (h : pq v p = true) (r : Rel F v u) : ∀ E : Ren, Rel E p u := by
  intro E
  rw [← pq_eq h]
  unfold pq at h
  split at h <;> first
    | (cases r with
       | same hf => exact .same hf
       | ltr a b => exact .ltr a b)
    | (cases r with
       | same hf => exact .same hf
       | prd a b => exact .prd a b)
    | (cases r with
       | same hf => exact .same hf)
    | cases h
section
variable {E : Ren} {H : RW} {w w0 : World}
theorem out_ok [Ltr] (R : Rep (kep w0) 64 E H w) : ∀ (r l us : List Value), all2 (to1 H) r l = true → (tnames l).all (Nat.ble 64) = true → (tnames l).Nodup → RelL E l us →
    ∃ bs, RNewL w0.heap.size w r us bs ∧ bs.Nodup ∧ ∀ b ∈ bs, ∃ i ∈ tnames l, ∃ m k, look i H.h = some (.tok m) ∧ E i = some (b, k)
  | [], [], _, _, _, _, r => by cases r; exact ⟨[], ⟨rfl, rfl⟩, List.nodup_nil, fun b hb => by cases hb⟩
  | [], _ :: _, _, e, _, _, _ => by cases e
  | _ :: _, [], _, e, _, _, _ => by cases e
  | p :: ps, v :: l, us, e, hg, hd, r => by
    simp only [all2, Bool.and_eq_true] at e
    cases r with
    | @cons _ u _ us' r1 rt =>
      have e1 := e.1
      unfold to1 at e1
      split at e1
      · rename_i i0 m
        unfold isTok at e1
        split at e1
        · rename_i i j
          simp only [Bool.and_eq_true] at e1
          obtain ⟨h1, h2⟩ := e1
          obtain rfl := Nat.eq_of_beq_eq_true h1
          split at h2
          · rename_i a hl
            obtain rfl := Nat.eq_of_beq_eq_true h2
            have hg' : (Nat.ble 64 i && (tnames l).all (Nat.ble 64)) = true := hg
            have hd' : (i :: tnames l).Nodup := hd
            simp only [Bool.and_eq_true] at hg'
            rw [List.nodup_cons] at hd'
            obtain ⟨bs, q1, q2, q3⟩ := out_ok R ps l us' e.2 hg'.2 hd'.2 rt
            have q3' : ∀ b ∈ bs, ∃ i' ∈ i :: tnames l, ∃ m k, look i' H.h = some (.tok m) ∧ E i' = some (b, k) := fun b hb => by
              obtain ⟨i', h3, h4⟩ := q3 b hb
              exact ⟨i', List.mem_cons_of_mem _ h3, h4⟩
            cases r1 with
            | same hf => cases hf
            | @tk _ _ b k n c f hE hf hs =>
              obtain ⟨y, hy, ho⟩ := R.oke hl hE
              refine ⟨b :: bs, ⟨_, us', [b], bs, rfl, rfl, .inr ⟨b, k, n, c, y, rfl, rfl, ?_, hs, hy, ho⟩, q1⟩, ?_, ?_⟩
              · exact Nat.le_of_not_lt fun h => R.new i b k (Nat.le_of_ble_eq_true hg'.1) hE h
              · refine List.nodup_cons.2 ⟨fun hb => ?_, q2⟩
                obtain ⟨i', h3, m', k', h4, h5⟩ := q3 b hb
                have := R.inj i i' _ _ b k k' hl rfl h4 rfl hE h5
                exact hd'.1 (this ▸ h3)
              · intro b' hb'
                rcases List.mem_cons.1 hb' with rfl | hb'
                · exact ⟨i, List.mem_cons_self, _, k, hl, hE⟩
                · exact q3' b' hb'
            | tkn hf hs => exact ⟨bs, ⟨_, us', [], bs, rfl, rfl, .inl ⟨rfl, hs, rfl⟩, q1⟩, q2, q3'⟩
          · cases h2
        · cases e1
      · rename_i hn1
        have htn : (tnames l).all (Nat.ble 64) = true ∧ (tnames l).Nodup ∧ tnames (v :: l) = tnames l := by
          rw [pq_eq e1] at hg hd ⊢
          have : tnames (p :: l) = tnames l := by
            conv => lhs; unfold tnames
            split
            · exact absurd rfl (hn1 _ _)
            · rfl
          rw [this] at hg hd
          exact ⟨hg, hd, this⟩
        obtain ⟨bs, q1, q2, q3⟩ := out_ok R ps l us' e.2 htn.1 htn.2.1 rt
        rw [htn.2.2]
        refine ⟨bs, ⟨u, us', [], bs, rfl, rfl, ?_, q1⟩, q2, q3⟩
        unfold RNew
        split
        · exact absurd rfl (hn1 _ _)
        · exact ⟨rfl, pq_all e1 r1⟩
end
theorem symT0 [Ltr] [Orc] {pr : Prim} {n : Nat} {f : FuncId} {args args' : List Value} {r : List Value} {w : World} [OrcOk Tryz.prog 64 (kep w) 64] (hp : PrimOk Tryz.prog pr 64 (kep w) 64) (ha : RelL (startE 64) args args')
    (e : (callEv Tryz.prog pr 64 (codeQ Tryz.prog pr 64 64 n false) f args ⟨64, []⟩).map (fun p => match p.1 with
    | .agg ⟨l⟩ => all2 (to1 p.2) r l && ndp (tnames l) && (tnames l).all (Nat.ble 64)
    | _ => false) = some true) :
    Calls Tryz.prog f ⟨args'⟩ w fun e w' => ∃ us bs, e = .returned (.agg ⟨us⟩) ∧ Below w.heap.size w w' ∧ RNewL w.heap.size w' r us bs ∧ bs.Nodup ∧ ∀ b ∈ bs, w.heap.size ≤ b := by
  cases hc : callEv Tryz.prog pr 64 (codeQ Tryz.prog pr 64 64 n false) f args ⟨64, []⟩ with
  | none => rw [hc] at e; cases e
  | some p =>
    obtain ⟨u, K1⟩ := p
    rw [hc] at e
    have e := Option.some.inj e
    dsimp only at e
    split at e
    · rename_i l e0
      simp only [Bool.and_eq_true] at e
      rw [codeQ_eq] at hc
      refine Calls.mono (callEv_sound hp (codeEv_sound mixed hp n false) f args ⟨64, []⟩ _ K1 (startE 64) w args' (rep_start (T := []) an rfl) (fun g hg => ⟨0, by unfold startE; rw [show Nat.blt g 64 = true by simpa [Nat.blt_eq] using hg]; rfl⟩) ha hc) ?_
      rintro e2 w' ⟨v', F, rfl, -, R1, k1, rv⟩
      cases rv with
      | same hf => cases hf
      | @agg _ us rl =>
        obtain ⟨bs, q1, q2, q3⟩ := out_ok R1 r l us e.1.1 e.2 (ndp_nodup e.1.2) rl
        refine ⟨us, bs, rfl, ⟨k1.os, k1.tape, k1.output, k1.size, fun j hj => k1.block j hj⟩, q1, q2, fun b hb => ?_⟩
        obtain ⟨i, hi, m, k, -, hE⟩ := q3 b hb
        exact Nat.le_of_not_lt fun h => R1.new i b k (Nat.le_of_ble_eq_true (List.all_eq_true.1 e.2 i hi)) hE h
    · cases e
theorem symT (L : Ltr) {O : List OE} {M : List ME} {C : List CE} {pr : Prim} (n : Nat) {f : FuncId} {args args' : List Value} {r : List Value} {w : World} (hO : ∀ e ∈ O, @OEOkX L Tryz.prog (kep w) e) (hM : ∀ e ∈ M, @MEOk L Tryz.prog (kep w) 64 e) (hC : ∀ c ∈ C, @CEOk L Tryz.prog 64 (kep w) 64 c) (hp : @PrimOk L Tryz.prog pr 64 (kep w) 64) (ha : @RelL L (startE 64) args args') (e : SymT O M C pr n f args r) :
    Calls Tryz.prog f ⟨args'⟩ w fun e w' => ∃ us bs, e = .returned (.agg ⟨us⟩) ∧ Below w.heap.size w w' ∧ @RNewL L w.heap.size w' r us bs ∧ bs.Nodup ∧ ∀ b ∈ bs, w.heap.size ≤ b :=
  @symT0 L (orcG 64 64 O M C) pr n f args args' r w (@orcG_ok _ _ _ _ L _ _ _ hO hM hC) hp ha e
end Go.Proofs.YtnggajehngemmaaGreatDoor
/-
  Letters: lists that may be nil: their lengths, their elements.
-/
namespace Go.Proofs.YtnggajehngemmaaGreatDoor
open Go Go.RowKit
/-- the length of list m -/
def lenT (t m : Nat) (r : Value) : OE :=
  ⟨fun o ρ => match o with
    | .call ⟨.builtin .len, ⟨[a]⟩, ⟨[t']⟩⟩ => Nat.beq t' t && (match ρ a with
      | .func (.via _ ⟨[]⟩ j false) ⟨[]⟩ ⟨[]⟩ => Nat.beq j m
      | _ => false)
    | _ => false, r⟩
theorem lenT_ok [Ltr] {t e m N : Nat} {r : Value} (hu : Tryz.prog.underlying t = some (.slice e)) (hj : ∀ k n c, Ltr.s m k n c → n = N) (hr : ∀ E : Ren, Rel E r (.int .i64 N)) : OEOk Tryz.prog (lenT t m r) := by
  intro o ρ ρ' E hρ hf w
  simp only [lenT] at hf
  split at hf
  · rename_i a t' ho
    simp only [Bool.and_eq_true] at hf
    obtain ⟨h2, h4⟩ := hf
    rw [ho] at hρ
    have ra := hρ a (by simp [Op.operands, Call.operands])
    split at h4
    · rename_i i0 jj hx
      rw [hx] at ra
      generalize hy : ρ' a = y at ra
      have hlen : ∃ A c, y = .slice A N c := by
        cases ra with
        | same hf => cases hf
        | tk hE hq hs =>
          rw [Nat.eq_of_beq_eq_true h4] at hs
          obtain rfl := hj _ _ _ hs
          exact ⟨_, _, rfl⟩
        | tkn hq hs =>
          rw [Nat.eq_of_beq_eq_true h4] at hs
          obtain rfl := hj _ _ _ hs
          exact ⟨_, _, rfl⟩
      obtain ⟨A, c, rfl⟩ := hlen
      rw [Nat.eq_of_beq_eq_true h2] at ho
      refine ⟨.int .i64 N, ?_, hr E, fun c e => by rw [ho] at e; cases e⟩
      simp only [execOp, ho, resolve, invoke, pure_bind, Go.builtin]
      refine run_value ?_
      simp [hy, Builtin.len_, Sem.run_bind, run_underlying hu]
      rfl
    · cases h4
  · cases hf
/-- the address of an element of list m at name i -/
def iaT (t i m : Nat) (y : Value) (p : Nat) : OE :=
  ⟨fun op ρ => match op with
    | .indexAddr t' a b => Nat.beq t' t && pq (ρ b) y && (match ρ a with
      | .func (.via ii ⟨[]⟩ j false) ⟨[]⟩ ⟨[]⟩ => Nat.beq ii i && Nat.beq j m
      | _ => false)
    | _ => false, .complex .f32 i p⟩
theorem add_mul {b d sz : Nat} : (⟨b, 0, none⟩ : Addr).add ((d : Int).toNat * sz) = ⟨b, d * sz, none⟩ := by
  rw [Int.toNat_natCast]
  unfold Addr.add
  split
  · rename_i h0
    rw [h0]
  · rw [Nat.zero_add]
theorem iaT_ok [Ltr] {t e i m p N d sz : Nat} {y : Value} (hu : Tryz.prog.underlying t = some (.slice e)) (hz : svp Tryz.prog (Go.sizeOf e) = some sz) (hj : ∀ k n c, Ltr.s m k n c → n = N) (hk : ∀ (E : Ren) z, Rel E y z → z = .int .i64 d) (hd : d < N) (hp : Ltr.p p (d * sz)) : OEOk Tryz.prog (iaT t i m y p) := by
  intro o ρ ρ' E hr hf w
  simp only [iaT] at hf
  split at hf
  · rename_i t' a b ho
    simp only [Bool.and_eq_true] at hf
    obtain ⟨⟨h1, h2⟩, h3⟩ := hf
    rw [ho] at hr
    have ra := hr a (by simp [Op.operands])
    have rb := hr b (by simp [Op.operands])
    rw [pq_eq h2] at rb
    have e2 := hk E _ rb
    split at h3
    · rename_i ii jj hx
      rw [hx] at ra
      simp only [Bool.and_eq_true] at h3
      rw [Nat.eq_of_beq_eq_true h3.1, Nat.eq_of_beq_eq_true h3.2] at ra
      generalize hy : ρ' a = v at ra
      rw [Nat.eq_of_beq_eq_true h1] at ho
      cases ra with
      | same hf => cases hf
      | tkn hq hs => have := hj _ _ _ hs; omega
      | @tk _ _ bk k n c f hE hq hs =>
      obtain rfl := hj _ _ _ hs
      refine ⟨.pointer (some ⟨bk, d * sz, none⟩), ?_, .ptl hE hp, fun c e => by rw [ho] at e; cases e⟩
      simp only [execOp, ho, hy, e2]
      refine run_value ?_
      show ((Go.asIntOf (.int .i64 (d : Int))) >>= _).run Tryz.prog w = _
      rw [Sem.run_bind]
      show (Result.ok (IntKind.i64, (d : Int)) w).andThen _ = _
      rw [Result.andThen_ok]
      dsimp only
      rw [Sem.run_bind, run_underlying hu, Result.andThen_ok]
      simp only [pure_bind]
      rw [Sem.run_bind, run_underlying hu, Result.andThen_ok]
      rw [if_pos (by omega), Sem.run_bind, svp_run w hz, Result.andThen_ok, add_mul]
      rfl
    · cases h3
  · cases hf
/-- a number that lies at the place p of list m -/
def ldT (t m p : Nat) (r : Value) : ME :=
  ⟨fun op ρ H => match op with
    | .load t' x => match ρ x with
      | .complex .f32 i pp => match look i H.h with
        | some (.tok aa) => bif Nat.beq t' t && Nat.beq pp p && Nat.beq aa m then some (.value r, H) else none
        | _ => none
      | _ => none
    | _ => none⟩
theorem ldT_ok [Ltr] {t m p off : Nat} {X : Kep} {base : Nat} {r u : Value} (ht : svp Tryz.prog (Go.isAgg t) = some false) (ha : ∀ k y, Ltr.o m k y → ∃ cs tt, y = .cells cs tt (0, 0) ∧ cs[off]? = some u) (hp : ∀ o, Ltr.p p o → o = off) (hr : ∀ E : Ren, Rel E r u) : MEOk Tryz.prog X base (ldT t m p r) where
  ok := by
    intro o ρ ρ' E H H1 nx w hρ R e
    simp only [ldT] at e
    split at e
    · rename_i t' x ho
      split at e
      · rename_i i pp hx
        split at e
        · rename_i aa hl
          obtain ⟨hc, e⟩ := cond_some' e
          simp only [Bool.and_eq_true] at hc
          obtain ⟨rfl, rfl⟩ := Prod.mk.inj (Option.some.inj e)
          have rx := hρ x (by rw [ho]; simp [Op.operands])
          rw [hx] at rx
          generalize hy : ρ' x = y at rx
          cases rx with
          | same hf => cases hf
          | @ptl _ _ b k oo hE hs =>
          rw [Nat.eq_of_beq_eq_true hc.1.2] at hs
          obtain rfl := hp _ hs
          rw [Nat.eq_of_beq_eq_true hc.2] at hl
          rw [Nat.eq_of_beq_eq_true hc.1.1] at ho
          obtain ⟨yo, hyo, hlo⟩ := R.oke hl hE
          obtain ⟨cs, tt, rfl, hcs⟩ := ha _ _ hlo
          have hcell : w.cell? ⟨b, oo, none⟩ = some u := by rw [heap_get_of hyo]; exact hcs
          refine Does.pure R (hr E) ?_
          simp only [execOp, ho, hy]
          refine run_value ?_
          show ((Instr.sureAddr _) >>= _).run Tryz.prog w = _
          show ((Go.isAgg t) >>= _).run Tryz.prog w = _
          rw [Sem.run_bind, svp_run w ht, Result.andThen_ok]
          show (Go.load _).run Tryz.prog w = _
          simp [Go.load, Sem.run, hcell]
        · cases e
      · cases e
    · cases e
  q := by
    intro o ρ H H1 nx e
    simp only [ldT] at e
    split at e
    · split at e
      · split at e
        · obtain ⟨hc, e⟩ := cond_some' e
          obtain ⟨rfl, rfl⟩ := Prod.mk.inj (Option.some.inj e)
          exact ⟨fun c h => (by cases h), fun _ => ⟨rfl, _, rfl⟩⟩
        · cases e
      · cases e
    · cases e
/-- a structure that lies there -/
def ldA (t m p : Nat) (rs : List Value) : ME :=
  ⟨fun op ρ H => match op with
    | .load t' x => match ρ x with
      | .complex .f32 i pp => match look i H.h with
        | some (.tok aa) => bif Nat.beq t' t && Nat.beq pp p && Nat.beq aa m then some (.value (.agg ⟨rs⟩), H) else none
        | _ => none
      | _ => none
    | _ => none⟩
theorem ldA_ok [Ltr] {t m p off sz : Nat} {X : Kep} {base : Nat} {rs us : List Value} (ht : svp Tryz.prog (Go.isAgg t) = some true) (hz : svp Tryz.prog (Go.sizeOf t) = some sz) (hsz : us.length = sz) (ha : ∀ k y, Ltr.o m k y → ∃ cs tt, y = .cells cs tt (0, 0) ∧ ∀ (j : Nat) u, us[j]? = some u → cs[off + j]? = some u) (hp : ∀ o, Ltr.p p o → o = off) (hr : ∀ E : Ren, RelL E rs us) : MEOk Tryz.prog X base (ldA t m p rs) where
  ok := by
    intro o ρ ρ' E H H1 nx w hρ R e
    simp only [ldA] at e
    split at e
    · rename_i t' x ho
      split at e
      · rename_i i pp hx
        split at e
        · rename_i aa hl
          obtain ⟨hc, e⟩ := cond_some' e
          simp only [Bool.and_eq_true] at hc
          obtain ⟨rfl, rfl⟩ := Prod.mk.inj (Option.some.inj e)
          have rx := hρ x (by rw [ho]; simp [Op.operands])
          rw [hx] at rx
          generalize hy : ρ' x = y at rx
          cases rx with
          | same hf => cases hf
          | @ptl _ _ b k oo hE hs =>
          rw [Nat.eq_of_beq_eq_true hc.1.2] at hs
          obtain rfl := hp _ hs
          rw [Nat.eq_of_beq_eq_true hc.2] at hl
          rw [Nat.eq_of_beq_eq_true hc.1.1] at ho
          obtain ⟨yo, hyo, hlo⟩ := R.oke hl hE
          obtain ⟨cs, tt, rfl, hcs⟩ := ha _ _ hlo
          refine Does.pure (v' := .agg ⟨us⟩) R (.agg (hr E)) ?_
          simp only [execOp, ho, hy]
          refine run_value ?_
          have hload := run_loadCellsFrom (P := Tryz.prog) (w := w) (a := ⟨b, oo, none⟩) us 0 #[] (fun j u hu => by rw [Addr.add_lit, Nat.zero_add, heap_get_of hyo]; exact hcs j u hu)
          rw [hsz] at hload
          show ((Instr.sureAddr _) >>= _).run Tryz.prog w = _
          show ((Go.isAgg t) >>= _).run Tryz.prog w = _
          rw [Sem.run_bind, svp_run w ht, Result.andThen_ok]
          show ((Go.sizeOf t) >>= _).run Tryz.prog w = _
          rw [Sem.run_bind, svp_run w hz, Result.andThen_ok]
          show ((Go.loadCellsFrom _ 0 sz #[]) >>= _).run Tryz.prog w = _
          rw [Sem.run_bind, hload]
          show Result.ok (Value.agg (#[] ++ us.toArray)) w = _
          simp
        · cases e
      · cases e
    · cases e
  q := by
    intro o ρ H H1 nx e
    simp only [ldA] at e
    split at e
    · split at e
      · split at e
        · obtain ⟨hc, e⟩ := cond_some' e
          obtain ⟨rfl, rfl⟩ := Prod.mk.inj (Option.some.inj e)
          exact ⟨fun c h => (by cases h), fun _ => ⟨rfl, _, rfl⟩⟩
        · cases e
      · cases e
    · cases e
end Go.Proofs.YtnggajehngemmaaGreatDoor
/-
  Letters: a run over a list that it may write: one block of what there is does not stay.
-/
namespace Go.Proofs.YtnggajehngemmaaGreatDoor
open Go Go.RowKit
/-- all that there is but block b -/
def kepB (w : World) (b : Nat) : Kep := ⟨fun x => x < w.heap.size ∧ x ≠ b, fun x => w.heap[x]?⟩
/-- name 64 stands for block b -/
def startB (w : World) (b k : Nat) : Ren := ((startE 64).new 64 b k).new 65 w.heap.size 0
theorem startE_none {i : Nat} (h : 64 ≤ i) : startE 64 i = none := by
  unfold startE
  have : Nat.blt i 64 = false := by
    cases hb : Nat.blt i 64 with
    | true => have : i < 64 := by simpa [Nat.blt_eq] using hb
              omega
    | false => rfl
  rw [this]; rfl
theorem startB_64 {w : World} {b k : Nat} : startB w b k 64 = some (b, k) := by unfold startB; rw [new_ne (by omega)]; exact Ren.at
theorem startB_65 {w : World} {b k : Nat} : startB w b k 65 = some (w.heap.size, 0) := by unfold startB; exact Ren.at
theorem rep_startB [Ltr] {w : World} {b k m : Nat} {y : Obj} (hy : w.heap[b]? = some y) (ho : Ltr.o m k y) : Rep (kepB w b) 64 (startB w b k) ⟨66, [(64, .tok m)]⟩ w := by
  have look' : ∀ {i : Nat} {o : Ob}, look i [(64, Ob.tok m)] = some o → i = 64 ∧ o = .tok m := by
    intro i o h
    by_cases h0 : i = 64
    · subst h0
      rw [look_at] at h
      exact ⟨rfl, (Option.some.inj h).symm⟩
    · rw [look_ne h0] at h; cases h
  refine ⟨fun i hi => ?_, fun i o h => ?_, fun i j o o' b1 k1 k2 h _ h' _ _ _ => ?_, fun i b1 k1 hi e => ?_, fun x hx => hx.1, by show 64 ≤ 66; omega, fun x _ => rfl⟩
  · have hi : 66 ≤ i := hi
    unfold startB
    rw [new_ne (by omega), new_ne (by omega)]
    exact startE_none (by omega)
  · obtain ⟨rfl, rfl⟩ := look' h
    exact .inr ⟨b, k, startB_64, y, hy, ho⟩
  · obtain ⟨rfl, -⟩ := look' h
    obtain ⟨rfl, -⟩ := look' h'
    rfl
  · by_cases h0 : i = 64
    · subst h0
      rw [startB_64] at e
      obtain ⟨rfl, rfl⟩ := Prod.mk.inj (Option.some.inj e)
      exact fun h => h.2 rfl
    · by_cases h1 : i = 65
      · subst h1
        rw [startB_65] at e
        obtain ⟨rfl, rfl⟩ := Prod.mk.inj (Option.some.inj e)
        exact fun h => Nat.lt_irrefl _ h.1
      · unfold startB at e
        rw [new_ne h1, new_ne h0, startE_none hi] at e
        cases e
theorem startB_G {w : World} {b k : Nat} : ∀ g, g < 64 → ∃ kk, startB w b k g = some (g, kk) := fun g hg => ⟨0, by
  unfold startB
  rw [new_ne (by omega), new_ne (by omega)]
  unfold startE
  rw [show Nat.blt g 64 = true by simpa [Nat.blt_eq] using hg]
  rfl⟩
/-- a run that writes the list m at name 64: what it answers, which list lies there behind it -/
def SymW (O : List OE) (M : List ME) (C : List CE) (pr : Prim) (n : Nat) (f : FuncId) (m : Nat) (args : List Value) (v : Value) (m' : Nat) : Prop :=
  (callEv Tryz.prog pr 64 (@codeQ (orcG 64 64 O M C) Tryz.prog pr 64 64 n false) f args ⟨66, [(64, .tok m)]⟩).map (fun p => veqn 4 p.1 v && (match look 64 p.2.h with
    | some (.tok a) => Nat.beq a m'
    | _ => false)) = some true
theorem symW0 [Ltr] [Orc] {pr : Prim} {n : Nat} {f : FuncId} {m m' : Nat} {args args' : List Value} {v : Value} {w : World} {b k : Nat} {y : Obj} [OrcOk Tryz.prog 64 (kepB w b) 64] (hp : PrimOk Tryz.prog pr 64 (kepB w b) 64) (hy : w.heap[b]? = some y) (ho : Ltr.o m k y) (ha : RelL (startB w b k) args args')
    (e : (callEv Tryz.prog pr 64 (codeQ Tryz.prog pr 64 64 n false) f args ⟨66, [(64, .tok m)]⟩).map (fun p => veqn 4 p.1 v && (match look 64 p.2.h with
    | some (.tok a) => Nat.beq a m'
    | _ => false)) = some true) :
    Calls Tryz.prog f ⟨args'⟩ w fun e w' => ∃ u F y', e = .returned u ∧ Ext (startB w b k) F ∧ Rel F v u ∧ w'.heap[b]? = some y' ∧ Ltr.o m' k y' ∧ Kp (kepB w b) w w' := by
  cases hc : callEv Tryz.prog pr 64 (codeQ Tryz.prog pr 64 64 n false) f args ⟨66, [(64, .tok m)]⟩ with
  | none => rw [hc] at e; cases e
  | some p =>
    obtain ⟨u, K1⟩ := p
    rw [hc] at e
    have e := Option.some.inj e
    simp only [Bool.and_eq_true] at e
    obtain ⟨e1, e2⟩ := e
    split at e2
    · rename_i a hl
      obtain rfl := Nat.eq_of_beq_eq_true e2
      obtain rfl := @veqn_eq noLtr 4 _ _ e1
      rw [codeQ_eq] at hc
      refine Calls.mono (callEv_sound hp (codeEv_sound mixed hp n false) f args ⟨66, [(64, .tok m)]⟩ u K1 (startB w b k) w args' (rep_startB hy ho) startB_G ha hc) ?_
      rintro e w' ⟨v', F, rfl, x, R1, k1, rv⟩
      obtain ⟨y', hy', ho'⟩ := R1.oke hl (x _ _ startB_64)
      exact ⟨v', F, y', rfl, x, rv, hy', ho', k1⟩
    · cases e2
theorem symW (L : Ltr) {O : List OE} {M : List ME} {C : List CE} {pr : Prim} (n : Nat) {f : FuncId} {m m' : Nat} {args args' : List Value} {v : Value} {w : World} {b k : Nat} {y : Obj} (hO : ∀ e ∈ O, @OEOkX L Tryz.prog (kepB w b) e) (hM : ∀ e ∈ M, @MEOk L Tryz.prog (kepB w b) 64 e) (hC : ∀ c ∈ C, @CEOk L Tryz.prog 64 (kepB w b) 64 c) (hp : @PrimOk L Tryz.prog pr 64 (kepB w b) 64) (hy : w.heap[b]? = some y) (ho : L.o m k y) (ha : @RelL L (startB w b k) args args') (e : SymW O M C pr n f m args v m') :
    Calls Tryz.prog f ⟨args'⟩ w fun e w' => ∃ u F y', e = .returned u ∧ Ext (startB w b k) F ∧ @Rel L F v u ∧ w'.heap[b]? = some y' ∧ L.o m' k y' ∧ Kp (kepB w b) w w' :=
  @symW0 L (orcG 64 64 O M C) pr n f m m' args args' v w b k y (@orcG_ok _ _ _ _ L _ _ _ hO hM hC) hp hy ho ha e
/-- the code of a round, run over letters, whatever stays -/
theorem toldW (L : Ltr) {X : Kep} {O : List OE} {M : List ME} {C : List CE} {pr : Prim} (hO : ∀ e ∈ O, @OEOkX L Tryz.prog X e) (hM : ∀ e ∈ M, @MEOk L Tryz.prog X 64 e) (hC : ∀ c ∈ C, @CEOk L Tryz.prog 64 X 64 c) (hp : @PrimOk L Tryz.prog pr 64 X 64)
    {L' : Ltr} {T : Tra} (hT : TraOk L L' T) (hg : ∀ p ∈ T.g, p.1.live = true) {n n0 : Nat} {tl : List (Nat × Nat)} {b : Code} {s s' : St} {y : Exit} (e : @comes (orcG 64 64 O M C) Tryz.prog pr 64 64 n b s y T n0 tl s' = true) {ro : Option Nat} {k : Nat} {E : Ren} {a : Act} {w' : World} (h : @FR L 64 X 64 E s a w') :
    b.wpIn (Wd ro) k Tryz.prog (fun e a' w'' => e = y ∧ ∃ F, Stays n0 E F ∧ Kp X w' w'' ∧ @FR L' 64 X 64 F s' a' w'') a w' :=
  @told Tryz.prog pr 64 X 64 L (orcG 64 64 O M C) (@orcG_ok _ _ _ _ L _ _ _ hO hM hC) mixed hp L' T hT hg n n0 tl b s s' y e ro k E a w' h
end Go.Proofs.YtnggajehngemmaaGreatDoor
