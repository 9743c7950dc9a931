/-
  A run by reckoning: a region that draws its order.
-/
import Derived.Test.YtkhmbphcjacgnaaGreatDoorEv7
import Derived.Test.YtkhmbphcjacgnaaGreatDoorEvP
import Derived.Orders
namespace Go.Proofs.YtkhmbphcjacgnaaGreatDoor
open Go Go.RowKit
def all2 (f : Value → Value → Bool) : List Value → List Value → Bool
  | [], [] => true
  | u :: l, v :: m => f u v && all2 f l m
  | _, _ => false
theorem all2_eq {f : Value → Value → Bool} (h : ∀ u v, f u v = true → u = v) : ∀ {l m : List Value}, all2 f l m = true → l = m
  | [], [], _ => rfl
  | u :: l, v :: m, e => by
    simp only [all2, Bool.and_eq_true] at e
    rw [h u v e.1, all2_eq h e.2]
  | [], _ :: _, e => by cases e
  | _ :: _, [], e => by cases e
def veqn : Nat → Value → Value → Bool
  | 0, _, _ => false
  | n + 1, u, v => match u, v with
    | .bool a, .bool b => a == b
    | .int k a, .int k' b => decide (k = k') && decide (a = b)
    | .string a, .string b => decide (a = b)
    | .pointer a, .pointer b => decide (a = b)
    | .slice a l c, .slice a' l' c' => decide (a = a') && Nat.beq l l' && Nat.beq c c'
    | .map a, .map b => decide (a = b)
    | .nilFunc, .nilFunc => true
    | .nilIface, .nilIface => true
    | .iface t a, .iface t' b => Nat.beq t t' && veqn n a b
    | .func (.func f) ⟨x⟩ ⟨y⟩, .func (.func g) ⟨x'⟩ ⟨y'⟩ => Nat.beq f g && all2 (veqn n) x x' && all2 (veqn n) y y'
    | .chan (some i), .chan (some j) => Nat.beq i j
    | .float .f64 i, .float .f64 j => Nat.beq i j
    | .float .f32 i, .float .f32 j => Nat.beq i j
    | .complex .f64 i j, .complex .f64 k l => Nat.beq i k && Nat.beq j l
    | .complex .f32 i j, .complex .f32 k l => Nat.beq i k && Nat.beq j l
    | .agg ⟨x⟩, .agg ⟨y⟩ => all2 (veqn n) x y
    | .tuple ⟨x⟩, .tuple ⟨y⟩ => all2 (veqn n) x y
    | _, _ => false
theorem veqn_eq [Ltr] : ∀ (n : Nat) (u v : Value), veqn n u v = true → u = v
  | 0, _, _, e => by cases e
  | n + 1, u, v, e => by
    unfold veqn at e
    split at e
    · simp at e; rw [e]
    · simp at e; rw [e.1, e.2]
    · simp at e; rw [e]
    · simp at e; rw [e]
    · simp only [Bool.and_eq_true, decide_eq_true_eq] at e
      rw [e.1.1, Nat.eq_of_beq_eq_true e.1.2, Nat.eq_of_beq_eq_true e.2]
    · simp at e; rw [e]
    · rfl
    · rfl
    · simp only [Bool.and_eq_true] at e
      rw [Nat.eq_of_beq_eq_true e.1, veqn_eq n _ _ e.2]
    · simp only [Bool.and_eq_true] at e
      rw [Nat.eq_of_beq_eq_true e.1.1, all2_eq (veqn_eq n) e.1.2, all2_eq (veqn_eq n) e.2]
    · rw [Nat.eq_of_beq_eq_true e]
    · rw [Nat.eq_of_beq_eq_true e]
    · rw [Nat.eq_of_beq_eq_true e]
    · simp only [Bool.and_eq_true] at e
      rw [Nat.eq_of_beq_eq_true e.1, Nat.eq_of_beq_eq_true e.2]
    · simp only [Bool.and_eq_true] at e
      rw [Nat.eq_of_beq_eq_true e.1, Nat.eq_of_beq_eq_true e.2]
    · rw [all2_eq (veqn_eq n) e]
    · rw [all2_eq (veqn_eq n) e]
    · cases e
def eqEs : List MapEntry → List MapEntry → Bool
  | [], [] => true
  | a :: l, b :: m => veqn 4 a.key b.key && veqn 4 a.val b.val && Nat.beq a.born b.born && eqEs l m
  | _, _ => false
theorem eqEs_eq [Ltr] : ∀ {l m : List MapEntry}, eqEs l m = true → l = m
  | [], [], _ => rfl
  | a :: l, b :: m, e => by
    simp only [eqEs, Bool.and_eq_true] at e
    obtain ⟨ka, va, ba⟩ := a
    obtain ⟨kb, vb, bb⟩ := b
    dsimp only at e
    rw [eqEs_eq e.2, veqn_eq 4 _ _ e.1.1.1, veqn_eq 4 _ _ e.1.1.2, Nat.eq_of_beq_eq_true e.1.2]
  | [], _ :: _, e => by cases e
  | _ :: _, [], e => by cases e
def eqOb : Ob → Ob → Bool
  | .gone, .gone => true
  | .ro l, .ro m => all2 (veqn 4) l m
  | .row l t, .row m u => all2 (veqn 4) l m && Nat.beq t u
  | .own l t s, .own m u r => all2 (veqn 4) l m && Nat.beq t u && Nat.beq s r
  | .mp l c, .mp m d => eqEs l m && Nat.beq c d
  | .opq i, .opq j => Nat.beq i j
  | .it s p, .it t q => decide (s = t) && Nat.beq p q
  | _, _ => false
theorem eqOb_eq [Ltr] {a b : Ob} (e : eqOb a b = true) : a = b := by
  unfold eqOb at e
  split at e
  · rfl
  · rw [all2_eq (veqn_eq 4) e]
  · simp only [Bool.and_eq_true] at e
    rw [all2_eq (veqn_eq 4) e.1, Nat.eq_of_beq_eq_true e.2]
  · simp only [Bool.and_eq_true] at e
    rw [all2_eq (veqn_eq 4) e.1.1, Nat.eq_of_beq_eq_true e.1.2, Nat.eq_of_beq_eq_true e.2]
  · simp only [Bool.and_eq_true] at e
    rw [eqEs_eq e.1, Nat.eq_of_beq_eq_true e.2]
  · rw [Nat.eq_of_beq_eq_true e]
  · simp only [Bool.and_eq_true, decide_eq_true_eq] at e
    rw [e.1, Nat.eq_of_beq_eq_true e.2]
  · cases e
def eqH : List (Nat × Ob) → List (Nat × Ob) → Bool
  | [], [] => true
  | (i, a) :: l, (j, b) :: m => Nat.beq i j && eqOb a b && eqH l m
  | _, _ => false
theorem eqH_eq [Ltr] : ∀ {l m : List (Nat × Ob)}, eqH l m = true → l = m
  | [], [], _ => rfl
  | (i, a) :: l, (j, b) :: m, e => by
    simp only [eqH, Bool.and_eq_true] at e
    rw [eqH_eq e.2, eqOb_eq e.1.2, Nat.eq_of_beq_eq_true e.1.1]
  | [], _ :: _, e => by cases e
  | _ :: _, [], e => by cases e
/-- two memories of names are the same -/
def eqW (K L : RW) : Bool := Nat.beq K.n L.n && eqH K.h L.h
theorem eqW_eq [Ltr] {K L : RW} (e : eqW K L = true) : K = L := by
  unfold eqW at e
  simp only [Bool.and_eq_true] at e
  obtain ⟨n, h⟩ := K
  obtain ⟨m, g⟩ := L
  rw [show n = m from Nat.eq_of_beq_eq_true e.1, show h = g from eqH_eq e.2]
def bOn (o : Oper) : List Nat := (o.after.toList.filter fun e => Region.binds .any e).map (·.on)
def clos (T : List Nat) (l : List Nat) : Nat := l.foldl (fun m e => m ||| (1 <<< e ||| T.getD e 0)) 0
def mkT : List Oper → List Nat → List Nat
  | [], T => T
  | o :: os, T => mkT os (T ++ [clos T (bOn o)])
def dstIs (t : Nat) (o : Oper) : Bool :=
  match o.dst with
  | some d => Nat.beq d t
  | none => false
/-- what is behind op i (its mask m): all writers of what it reads, its guard -/
def okReads (G : Nat) (L : List Oper) (m : Nat) (o : Oper) : Bool :=
  o.op.operands.toList.all (fun x => okC G x && match x with
    | .tmp t => L.zipIdx.all fun p => !dstIs t p.1 || m.testBit p.2
    | _ => true) &&
  match o.guard with
  | some (j, _) => m.testBit j && Nat.blt j L.length && (match (L[j]?).bind (·.dst) with
    | some t => L.zipIdx.all fun p => !dstIs t p.1 || m.testBit p.2
    | none => true)
  | none => true
def static (G : Nat) (ops : Array Oper) (T : List Nat) : Bool :=
  Nat.beq T.length ops.size && ops.toList.zipIdx.all fun p => Nat.beq (T.getD p.2 0) (clos T (bOn p.1)) && (bOn p.1).all (fun e => Nat.blt e p.2) && okReads G ops.toList (T.getD p.2 0) p.1
def stepAt [Orc] (P : Program) (base : Nat) (call : Caller) (f : List Value) (o : Oper) (K : RW) : Option (Value × RW) :=
  match Orc.f o.op (ev f) with
  | some v => some (v, K)
  | none => match evM P base (ev f) o K with
  | some (.value v, H1) => some (v, H1)
  | some (.skip, H1) => some (undef, H1)
  | some (.enter g args, H1) => call g args.toList H1
  | _ => none
def dstOk (o : Oper) (v : Value) (f : List Value) : Bool :=
  match o.dst with
  | some d => veqn 4 v (slot f d)
  | none => true
/-- an operation as it went in the text's order: the frame and the memory ahead of it, what it yields, memory behind it, how many have changed memory before it, is it wanted? -/
structure En where
  f : List Value
  K : RW
  v : Value
  K1 : RW
  s : Nat
  w : Bool
  ch : Bool
/-- the operations in the text's order: their entries, those that change memory, memory ahead of each of these and behind the last, the frame behind all -/
def tr [Orc] (P : Program) (base : Nat) (call : Caller) (ops : Array Oper) : List (Oper × Nat) → List Value → RW → Nat → Option (List En × List Nat × List RW × List Value)
  | [], f, K, _ => some ([], [], [K], f)
  | (o, i) :: l, f, K, s => bif Region.wanted o (yielded ops ⟨f⟩) then match stepAt P base call f o K with
      | some (v, K1) => bif quiet P o.op || eqW K1 K then match tr P base call ops l (pt o.dst v f) K s with
          | some (es, eff, Ks, g) => some (⟨f, K, v, K, s, true, false⟩ :: es, eff, Ks, g)
          | none => none
        else match tr P base call ops l (pt o.dst v f) K1 (s + 1) with
          | some (es, eff, Ks, g) => some (⟨f, K, v, K1, s, true, true⟩ :: es, i :: eff, K :: Ks, g)
          | none => none
      | none => none
    else match tr P base call ops l (pt o.dst undef f) K s with
      | some (es, eff, Ks, g) => some (⟨f, K, undef, K, s, false, false⟩ :: es, eff, Ks, g)
      | none => none
def chk1 [Orc] (P : Program) (base : Nat) (call : Caller) (T eff : List Nat) (f : List Value) (i : Nat) (o : Oper) (en : En) (s : Nat) (K : RW) : Bool :=
  (eff.drop s).any (fun p => (T.getD i 0).testBit p) || (eff.take s).any (fun p => Nat.beq p i || (T.getD p 0).testBit i) ||
  (bif en.w then bif Nat.beq en.s s then dstOk o en.v f && (en.ch || !eff.elem i) else bif memfree o.op then dstOk o en.v f && !eff.elem i else match stepAt P base call en.f o K with
      | some (v, K1) => dstOk o v f && !eff.elem i && (quiet P o.op || eqW K1 K)
      | none => false
    else dstOk o undef f && !eff.elem i)
def ndp : List Nat → Bool
  | [] => true
  | a :: l => !l.elem a && ndp l
theorem ndp_nodup : ∀ {l : List Nat}, ndp l = true → l.Nodup
  | [], _ => List.nodup_nil
  | a :: l, h => by
    simp only [ndp, Bool.and_eq_true, Bool.not_eq_true'] at h
    exact List.nodup_cons.2 ⟨fun hm => (by rw [List.elem_eq_true_of_mem hm] at h; cases h.1), ndp_nodup h.2⟩
def chkAll [Orc] (P : Program) (base : Nat) (call : Caller) (T eff : List Nat) (f : List Value) (Ks : List RW) : List (Oper × Nat) → List En → Bool
  | [], [] => true
  | (o, i) :: l, en :: es => (Ks.zipIdx.all fun q => chk1 P base call T eff f i o en q.2 q.1) && chkAll P base call T eff f Ks l es
  | _, _ => false
def lastK : List RW → Option RW
  | [] => none
  | [K] => some K
  | _ :: l => lastK l
def drawEv [Orc] (P : Program) (G base : Nat) (call : Caller) (ops : Array Oper) (s : St) : Option St :=
  match tr P base call ops ops.toList.zipIdx s.f s.H 0 with
  | none => none
  | some (es, eff, Ks, f) => bif static G ops (mkT ops.toList []) && chkAll P base call (mkT ops.toList []) eff f Ks ops.toList.zipIdx es && ndp eff && ops.toList.all (fun o => gdOk ops o f) && eff.all (fun p => Nat.blt p ops.size) then match lastK Ks with
      | some K => some ⟨f, K, s.ds⟩
      | none => none
    else none
end Go.Proofs.YtkhmbphcjacgnaaGreatDoor
