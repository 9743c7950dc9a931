/-
  Stored runs: a call that has been run once from a beginning serves at every memory; of what it made, the listed blocks are kept.
-/
import Derived.Test.YtanonhannngkmaaGreatDoorEvS
import Derived.Lib.Split
namespace Go.Proofs.YtanonhannngkmaaGreatDoor
open Go Go.RowKit
def atK (ks : List Nat) (r i : Nat) : Bool :=
  match ks[r]? with
  | some j => Nat.beq i j
  | none => false
/-- what has no names in it (and no letters, unless b) -/
def nameless (b : Bool) : Value → Bool
  | .chan (some _) => b
  | v => flat v
/-- a value over the run's names, one over the kept blocks' places -/
def mV (b : Bool) : Nat → List Nat → Value → Value → Bool
  | 0, _, _, _ => false
  | n + 1, ks, v, u => match v, u with
    | .pointer (some ⟨i, o, none⟩), .pointer (some ⟨r, o', none⟩) => atK ks r i && Nat.beq o o'
    | .slice (some ⟨i, o, none⟩) l c, .slice (some ⟨r, o', none⟩) l' c' => atK ks r i && Nat.beq o o' && Nat.beq l l' && Nat.beq c c'
    | .map (some i), .map (some r) => atK ks r i
    | .iface t v, .iface t' u => Nat.beq t t' && mV b n ks v u
    | .agg ⟨l⟩, .agg ⟨m⟩ => all2 (mV b n ks) l m
    | .tuple ⟨a :: l⟩, .tuple ⟨m⟩ => all2 (mV b n ks) (a :: l) m
    | v, u => nameless b u && veqn 1 v u
def shV : Nat → Nat → Value → Value
  | 0, _, v => v
  | n + 1, d, v => match v with
    | .pointer (some ⟨r, o, none⟩) => .pointer (some ⟨d + r, o, none⟩)
    | .slice (some ⟨r, o, none⟩) l c => .slice (some ⟨d + r, o, none⟩) l c
    | .map (some r) => .map (some (d + r))
    | .iface t u => .iface t (shV n d u)
    | .agg ⟨l⟩ => .agg ⟨l.map (shV n d)⟩
    | .tuple ⟨a :: l⟩ => .tuple ⟨(a :: l).map (shV n d)⟩
    | v => v
theorem atK_eq {ks : List Nat} {r i : Nat} (h : atK ks r i = true) : ks[r]? = some i := by
  unfold atK at h
  split at h
  · rename_i j e; rw [Nat.eq_of_beq_eq_true h]; exact e
  · cases h
section
variable {F K : Ren} {ks : List Nat} {d : Nat}
variable {L L' : Ltr} {b : Bool}
theorem nameless_rel (hb : b = true → L' = L) {v x : Value} (h : nameless b v = true) (r : @Rel L' F v x) : @Rel L K v x := by
  unfold nameless at h
  split at h
  · obtain rfl := hb h
    cases r with
    | same hf => cases hf
    | ltr h hs => exact @Rel.ltr L' _ _ _ h hs
  · rw [@Rel.flat_eq F L' _ _ h r]; exact @Rel.same L _ _ h
theorem mL_rel {g : Value → Value → Bool} {s : Value → Value} : ∀ {l m xs : List Value}, all2 g l m = true → @RelL L' F l xs → (∀ v u x, g v u = true → @Rel L' F v x → @Rel L K (s u) x) → @RelL L K (m.map s) xs
  | [], [], _, _, .nil, _ => @RelL.nil L K
  | _ :: _, _ :: _, _, h, .cons r t, k => by
    simp only [all2, Bool.and_eq_true] at h
    exact @RelL.cons L K _ _ _ _ (k _ _ _ h.1 r) (mL_rel h.2 t k)
  | [], _ :: _, _, h, _, _ => by cases h
  | _ :: _, [], _, h, _, _ => by cases h
theorem shV_nameless {n : Nat} {u : Value} (h : nameless b u = true) : shV n d u = u := by
  cases n with
  | zero => rfl
  | succ n =>
    cases u with
    | pointer a => cases a with
      | none => rfl
      | some a => cases h
    | slice a l c => cases a with
      | none => rfl
      | some a => cases h
    | map a => cases a with
      | none => rfl
      | some a => cases h
    | iface t v => cases h
    | agg l => cases h
    | tuple l =>
      obtain ⟨l⟩ := l
      cases l with
      | nil => rfl
      | cons a l => cases h
    | _ => rfl
theorem mV_rel (hb : b = true → L' = L) (hk : ∀ (r i : Nat) (y : Nat × Nat), ks[r]? = some i → F i = some y → K (d + r) = some y) : ∀ (n : Nat) {v u x : Value}, mV b n ks v u = true → @Rel L' F v x → @Rel L K (shV n d u) x
  | 0, _, _, _, h, _ => by cases h
  | n + 1, v, u, x, h, r => by
    unfold mV at h
    split at h
    · simp only [Bool.and_eq_true] at h
      obtain rfl := Nat.eq_of_beq_eq_true h.2
      cases r with
      | same hf => cases hf
      | ptr e => exact @Rel.ptr L _ _ _ _ _ (hk _ _ _ (atK_eq h.1) e)
    · simp only [Bool.and_eq_true] at h
      obtain rfl := Nat.eq_of_beq_eq_true h.2
      obtain rfl := Nat.eq_of_beq_eq_true h.1.2
      obtain rfl := Nat.eq_of_beq_eq_true h.1.1.2
      cases r with
      | same hf => cases hf
      | sl e => exact @Rel.sl L _ _ _ _ _ _ _ (hk _ _ _ (atK_eq h.1.1.1) e)
    · cases r with
      | same hf => cases hf
      | map e => exact @Rel.map L _ _ _ _ (hk _ _ _ (atK_eq h) e)
    · simp only [Bool.and_eq_true] at h
      obtain rfl := Nat.eq_of_beq_eq_true h.1
      cases r with
      | same hf => cases hf
      | iface e => exact @Rel.iface L _ _ _ _ (mV_rel hb hk n h.2 e)
    · cases r with
      | same hf => cases hf
      | agg e => exact @Rel.agg L _ _ _ (mL_rel h e fun v u x h r => mV_rel hb hk n h r)
    · rename_i m
      cases r with
      | same hf => cases hf
      | tuple e =>
        cases m with
        | nil => cases h
        | cons b m => exact @Rel.tuple L _ _ _ (mL_rel h e fun v u x h r => mV_rel hb hk n h r)
    · rename_i v' u' _ _ _ _ _ _
      simp only [Bool.and_eq_true] at h
      obtain rfl := @veqn_eq noLtr _ _ _ h.2
      rw [shV_nameless h.1]
      exact nameless_rel hb h.1 r
end
def allM (g : Value → Value → Bool) : List MapEntry → List MapEntry → Bool
  | [], [] => true
  | a :: l, b :: m => veqn 4 a.key b.key && g a.val b.val && Nat.beq a.born b.born && allM g l m
  | _, _ => false
def mO (b : Bool) (ks : List Nat) : Ob → Ob → Bool
  | .row vs t, .row us t' => all2 (mV b 6 ks) vs us && Nat.beq t t'
  | .own vs t z, .own us t' z' => all2 (mV b 6 ks) vs us && Nat.beq t t' && Nat.beq z z'
  | .mp es c, .mp es' c' => allM (mV b 6 ks) es es' && Nat.beq c c'
  | _, _ => false
def shO (d : Nat) : Ob → Ob
  | .row vs t => .row (vs.map (shV 6 d)) t
  | .own vs t z => .own (vs.map (shV 6 d)) t z
  | .mp es c => .mp (es.map fun e => { key := e.key, val := shV 6 d e.val, born := e.born }) c
  | o => o
section
variable {F K : Ren} {ks : List Nat} {d : Nat}
variable {L L' : Ltr} {b : Bool}
theorem mM_rel {g : Value → Value → Bool} {s : Value → Value} : ∀ {l m xs : List MapEntry}, allM g l m = true → @RelM L' F l xs → (∀ v u x, g v u = true → @Rel L' F v x → @Rel L K (s u) x) → @RelM L K (m.map fun e => { key := e.key, val := s e.val, born := e.born }) xs
  | [], [], _, _, .nil, _ => @RelM.nil L K
  | _ :: _, ⟨k', v', n'⟩ :: _, _, h, .cons r t, k => by
    simp only [allM, Bool.and_eq_true] at h
    obtain rfl := @veqn_eq noLtr _ _ _ h.1.1.1
    obtain rfl := Nat.eq_of_beq_eq_true h.1.2
    exact @RelM.cons L K _ _ _ _ _ _ (k _ _ _ h.1.1.2 r) (mM_rel h.2 t k)
  | [], _ :: _, _, h, _, _ => by cases h
  | _ :: _, [], _, h, _, _ => by cases h
theorem mO_ok (hb : b = true → L' = L) (hk : ∀ r i y, ks[r]? = some i → F i = some y → K (d + r) = some y) {o p : Ob} {k : Nat} {x : Option Obj} (h : mO b ks o p = true) (r : @Ok L' F k o x) : @Ok L K k (shO d p) x ∧ o.live = true := by
  unfold mO at h
  split at h
  · simp only [Bool.and_eq_true] at h
    obtain rfl := Nat.eq_of_beq_eq_true h.2
    obtain ⟨xs, e, q⟩ := r
    exact ⟨⟨xs, e, mL_rel h.1 q fun v u x h r => mV_rel hb hk 6 h r⟩, rfl⟩
  · simp only [Bool.and_eq_true] at h
    obtain rfl := Nat.eq_of_beq_eq_true h.2
    obtain rfl := Nat.eq_of_beq_eq_true h.1.2
    obtain ⟨xs, ys, e, q, l⟩ := r
    exact ⟨⟨xs, ys, e, mL_rel h.1.1 q fun v u x h r => mV_rel hb hk 6 h r, l⟩, rfl⟩
  · simp only [Bool.and_eq_true] at h
    obtain rfl := Nat.eq_of_beq_eq_true h.2
    obtain ⟨es', e, q⟩ := r
    exact ⟨⟨es', e, mM_rel h.1 q fun v u x h r => mV_rel hb hk 6 h r⟩, rfl⟩
  · cases h
end
theorem nlL_rel {L L' : Ltr} {b : Bool} (hb : b = true → L' = L) {F K : Ren} : ∀ {l l' : List Value}, l.all (nameless b) = true → @RelL L' F l l' → @RelL L K l l'
  | [], _, _, .nil => @RelL.nil L K
  | _ :: _, _, h, .cons r t => by
    simp only [List.all_cons, Bool.and_eq_true] at h
    exact @RelL.cons L K _ _ _ _ (nameless_rel hb h.1 r) (nlL_rel hb h.2 t)
/-- an argument: nameless, or a struct of such -/
def argOk (b : Bool) : Value → Bool
  | .agg ⟨l⟩ => l.all (nameless b)
  | v => nameless b v
theorem argL_rel {L L' : Ltr} {b : Bool} (hb : b = true → L' = L) {F K : Ren} : ∀ {l l' : List Value}, l.all (argOk b) = true → @RelL L' F l l' → @RelL L K l l'
  | [], _, _, .nil => @RelL.nil L K
  | v :: _, _, h, .cons r t => by
    simp only [List.all_cons, Bool.and_eq_true] at h
    refine @RelL.cons L K _ _ _ _ ?_ (argL_rel hb h.2 t)
    have h1 := h.1
    unfold argOk at h1
    split at h1
    · cases r with
      | same hf => cases hf
      | agg e => exact @Rel.agg L _ _ _ (nlL_rel hb h1 e)
    · exact nameless_rel hb h1 r
/-- the kept blocks, at the names from d on -/
def numb (d : Nat) : List Ob → Nat → List (Nat × Ob) → List (Nat × Ob)
  | [], _, h => h
  | o :: C, r, h => (d + r, shO d o) :: numb d C (r + 1) h
theorem look_numb {d i : Nat} {h : List (Nat × Ob)} {o : Ob} : ∀ {C : List Ob} {r : Nat}, look i (numb d C r h) = some o → (∃ j p, C[j]? = some p ∧ i = d + (r + j) ∧ o = shO d p) ∨ look i h = some o
  | [], r, e => .inr e
  | p :: C, r, e => by
    unfold numb look at e
    cases hb : Nat.beq i (d + r) with
    | true =>
      rw [hb] at e
      exact .inl ⟨0, p, rfl, Nat.eq_of_beq_eq_true hb, (Option.some.inj e).symm⟩
    | false =>
      rw [hb] at e
      rcases look_numb (C := C) (r := r + 1) e with ⟨j, q, h1, h2, h3⟩ | h
      · exact .inl ⟨j + 1, q, by simpa using h1, by omega, h3⟩
      · exact .inr h
def ksNo (i : Nat) : List Nat → Bool
  | [] => true
  | j :: l => !Nat.beq i j && ksNo i l
def ksOnce : List Nat → Bool
  | [] => true
  | i :: l => ksNo i l && ksOnce l
theorem ks_ne {i : Nat} : ∀ {l : List Nat}, ksNo i l = true → ∀ r : Nat, l[r]? ≠ some i
  | [], _, r, e => by simp at e
  | j :: l, h, r, e => by
    simp only [ksNo, Bool.and_eq_true, Bool.not_eq_true'] at h
    cases r with
    | zero =>
      obtain rfl : j = i := by simpa using e
      rw [Nat.beq_refl] at h; cases h.1
    | succ r => exact ks_ne h.2 r (by simpa using e)
theorem ks_inj : ∀ {l : List Nat}, ksOnce l = true → ∀ (r s i : Nat), l[r]? = some i → l[s]? = some i → r = s
  | [], _, r, s, i, e, _ => by simp at e
  | j :: l, h, r, s, i, e, f => by
    simp only [ksOnce, Bool.and_eq_true] at h
    cases r with
    | zero =>
      obtain rfl : j = i := by simpa using e
      cases s with
      | zero => rfl
      | succ s => exact absurd (by simpa using f) (ks_ne h.1 s)
    | succ r =>
      cases s with
      | zero =>
        obtain rfl : j = i := by simpa using f
        exact absurd (by simpa using e) (ks_ne h.1 r)
      | succ s => rw [ks_inj h.2 r s i (by simpa using e) (by simpa using f)]
def fitsFrom (b : Bool) (ks : List Nat) (K : RW) (B : Nat) : List Nat → List Ob → Bool
  | [], [] => true
  | j :: js, p :: C => Nat.ble B j && (match look j K.h with
    | some o => mO b ks o p
    | none => false) && fitsFrom b ks K B js C
  | _, _ => false
theorem ksFit_at {b : Bool} {ks : List Nat} {K : RW} {B : Nat} : ∀ {js : List Nat} {C : List Ob}, fitsFrom b ks K B js C = true → ∀ (r : Nat) (p : Ob), C[r]? = some p → ∃ j o, js[r]? = some j ∧ B ≤ j ∧ look j K.h = some o ∧ mO b ks o p = true
  | [], [], _, r, p, e => by simp at e
  | j :: js, q :: C, h, r, p, e => by
    simp only [fitsFrom, Bool.and_eq_true] at h
    obtain ⟨⟨h1, h2⟩, h3⟩ := h
    cases r with
    | zero =>
      obtain rfl : q = p := by simpa using e
      split at h2
      · rename_i o hl
        exact ⟨j, o, rfl, Nat.le_of_ble_eq_true h1, hl, h2⟩
      · cases h2
    | succ r =>
      obtain ⟨j', o, g⟩ := ksFit_at h3 r p (by simpa using e)
      exact ⟨j', o, by simpa using g.1, g.2⟩
  | [], _ :: _, h, _, _, _ => by cases h
  | _ :: _, [], h, _, _, _ => by cases h
/-- the run has come to v, and to the blocks C, which bear the names ks .. -/
def keepsAt (b : Bool) (B : Nat) (u : Value) (K : RW) (v : Value) (C : List Ob) (ks : List Nat) : Bool := mV b 6 ks u v && fitsFrom b ks K B ks C && ksOnce ks
def keeps (b : Bool) (B : Nat) (x : Option (Value × RW)) (kf : Value → RW → List Nat) (v : Value) (C : List Ob) : Bool :=
  match x with
  | some (u, K) => keepsAt b B u K v C (kf u K)
  | none => false
theorem ksFit_len {b : Bool} {ks : List Nat} {K : RW} {B : Nat} : ∀ {js : List Nat} {C : List Ob}, fitsFrom b ks K B js C = true → js.length = C.length
  | [], [], _ => rfl
  | _ :: _, _ :: _, h => by
    simp only [fitsFrom, Bool.and_eq_true] at h
    rw [List.length_cons, List.length_cons, ksFit_len h.2]
  | [], _ :: _, h => by cases h
  | _ :: _, [], h => by cases h
def stP (g : FuncId) (xs : List Value) (v : Value) (C : List Ob) : Prim := fun f args H => bif Nat.beq f g && all2 (veqn 3) args xs then some (shV 6 H.n v, ⟨H.n + C.length, numb H.n C 0 H.h⟩) else none
theorem stP_ok {L' L : Ltr} [Orc] {fl : Bool} (hfl : fl = true → L' = L) {P : Program} {pr : Prim} {G B base : Nat} {X : Kep} (hm : P.follows .mixedOrders = true) (horc : ∀ w : World, (∀ b, X b → w.heap[b]? = X.ob b) → @OrcOk L' P G (kep w) B _) {n : Nat} {g : FuncId} {xs : List Value} {K0 : RW} {kf : Value → RW → List Nat} {v : Value} {C : List Ob}
    (hst : ∀ w : World, (∀ b, X b → w.heap[b]? = X.ob b) → (∃ E0, @Rep L' (kep w) B E0 K0 w ∧ Gl G E0) ∧ @PrimOk L' P pr G (kep w) B) (hx : xs.all (argOk fl) = true) 
    (e : keeps fl B (callEv P pr B (codeQ P pr G B n false) g xs K0) kf v C = true) : @PrimOk L P (stP g xs v C) G X base := by
  intro f args H u H1 E w args' hR hG hr h
  unfold stP at h
  obtain ⟨hc, h⟩ := cond_some h
  simp only [Bool.and_eq_true] at hc
  obtain ⟨rfl, rfl⟩ := Prod.mk.inj (Option.some.inj h)
  obtain rfl := Nat.eq_of_beq_eq_true hc.1
  obtain rfl := all2_eq (fun u v => @veqn_eq noLtr 3 u v) hc.2
  unfold keeps at e
  split at e
  · rename_i u K he
    generalize kf u K = ks at e
    simp only [keepsAt, Bool.and_eq_true] at e
    obtain ⟨⟨e1, e2⟩, e3⟩ := e
    have hlen := ksFit_len e2
    obtain ⟨⟨E0, R0, G0⟩, hp⟩ := hst w hR.fx
    have hr0 : @RelL L' E0 args args' := argL_rel (fun h => (hfl h).symm) hx hr
    rw [codeQ_eq] at he
    have ho := horc w hR.fx
    refine Calls.mono (@callEv_sound P pr G (kep w) B L' _ hp _ (@codeEv_sound P pr G (kep w) B L' _ ho hm hp n false) f args K0 u K E0 w args' R0 G0 hr0 he) fun en w' p => ?_
    obtain ⟨v', F, rfl, -, R1, k1, rv⟩ := p
    have R1ok := @Rep.ok L' _ _ _ _ _ R1
    have R1inj := @Rep.inj L' _ _ _ _ _ R1
    have R1new := @Rep.new L' _ _ _ _ _ R1
    let E1 : Ren := fun i => bif Nat.blt i H.n then E i else (ks[i - H.n]?).bind F
    have lo : ∀ i, i < H.n → E1 i = E i := fun i hi => by
      show (bif Nat.blt i H.n then E i else (ks[i - H.n]?).bind F) = _
      rw [show Nat.blt i H.n = true by simpa [Nat.blt_eq] using hi]; rfl
    have hi : ∀ r, E1 (H.n + r) = (ks[r]?).bind F := fun r => by
      show (bif Nat.blt (H.n + r) H.n then E (H.n + r) else (ks[H.n + r - H.n]?).bind F) = _
      have hb : Nat.blt (H.n + r) H.n = false := by
        cases hb : Nat.blt (H.n + r) H.n with
        | true => have := Nat.lt_of_lt_of_le (show H.n + r < H.n by simpa [Nat.blt_eq] using hb) (Nat.le_add_right H.n r); omega
        | false => rfl
      rw [hb, Nat.add_sub_cancel_left]; rfl
    have hext : Ext E E1 := fun i x hx => by
      have hn : i < H.n := Nat.lt_of_not_le fun h => by rw [hR.dom i h] at hx; cases hx
      rw [lo i hn]; exact hx
    have hk : ∀ r i y, ks[r]? = some i → F i = some y → E1 (H.n + r) = some y := fun r i y h1 h2 => by rw [hi, h1]; exact h2
    have old : ∀ {i b k}, i < H.n → E1 i = some (b, k) → E i = some (b, k) := fun h h' => by rw [← lo _ h]; exact h'
    have lt : ∀ {i o}, look i H.h = some o → i < H.n := fun {i o} h => Nat.lt_of_not_le fun h' => by
      obtain ⟨b, k, e, -⟩ := hR.ok i o h
      rw [hR.dom i h'] at e; cases e
    have part : ∀ {i o}, look i (numb H.n C 0 H.h) = some o → (∃ r j p o', i = H.n + r ∧ ks[r]? = some j ∧ B ≤ j ∧ look j K.h = some o' ∧ mO fl ks o' p = true ∧ o = shO H.n p) ∨ (i < H.n ∧ look i H.h = some o) := fun {i o} h => by
      rcases look_numb h with ⟨r, p, h1, h2, h3⟩ | h
      · obtain ⟨j, o', g1, g2, g3, g4⟩ := ksFit_at e2 r p h1
        exact .inl ⟨r, j, p, o', by omega, g1, g2, g3, g4, h3⟩
      · exact .inr ⟨lt h, h⟩
    have kp : Kp X w w' := ⟨k1.os, k1.tape, k1.output, k1.size, fun b hb => k1.block b (hR.lt b hb)⟩
    refine ⟨v', E1, rfl, hext, ⟨?_, ?_, ?_, ?_, ?_, ?_, ?_⟩, kp, mV_rel hfl hk 6 e1 rv⟩
    · intro i h
      obtain ⟨r, rfl⟩ : ∃ r, i = H.n + r := ⟨i - H.n, by have : H.n + C.length ≤ i := h; omega⟩
      rw [hi]
      have : H.n + C.length ≤ H.n + r := h
      rw [List.getElem?_eq_none (by omega)]
      rfl
    · intro i o h
      rcases part h with ⟨r, j, p, o', rfl, h1, -, h3, h4, rfl⟩ | ⟨h1, h2⟩
      · obtain ⟨b, k, e, ho⟩ := R1ok j o' h3
        exact ⟨b, k, hk r j _ h1 e, (mO_ok hfl hk h4 ho).1⟩
      · obtain ⟨b, k, e, ho⟩ := hR.ok i o h2
        exact ⟨b, k, hext _ _ e, (ho.mono hext).at fun l => k1.block b (ho.lt l)⟩
    · intro i j o o' b k k' h1 l1 h2 l2 e1 e2
      rcases part h1 with ⟨r, a, p, q, rfl, g1, gB, g2, g3, rfl⟩ | ⟨g1, g2⟩ <;> rcases part h2 with ⟨r', a', p', q', rfl, g1', gB', g2', g3', rfl⟩ | ⟨g1', g2'⟩
      · obtain ⟨b1, k1, f1, ho⟩ := R1ok a q g2
        obtain ⟨b2, k2, f2, ho'⟩ := R1ok a' q' g2'
        have z1 := hk r a _ g1 f1
        have z2 := hk r' a' _ g1' f2
        rw [z1] at e1; rw [z2] at e2
        obtain ⟨rfl, rfl⟩ := Prod.mk.inj (Option.some.inj e1)
        obtain ⟨rfl, rfl⟩ := Prod.mk.inj (Option.some.inj e2)
        obtain rfl := R1inj a a' q q' _ _ _ g2 (mO_ok hfl hk g3 ho).2 g2' (mO_ok hfl hk g3' ho').2 f1 f2
        rw [ks_inj e3 r r' a g1 g1']
      · obtain ⟨b1, k1, f1, ho⟩ := R1ok a q g2
        have z1 := hk r a _ g1 f1
        rw [z1] at e1
        obtain ⟨rfl, rfl⟩ := Prod.mk.inj (Option.some.inj e1)
        have e2' := old g1' e2
        obtain ⟨b2, k2, f2, ho'⟩ := hR.ok j o' g2'
        rw [e2'] at f2
        obtain ⟨rfl, rfl⟩ := Prod.mk.inj (Option.some.inj f2)
        exact absurd (ho'.lt l2) (R1new a b1 _ gB f1)
      · obtain ⟨b1, k1, f1, ho⟩ := R1ok a' q' g2'
        have z1 := hk r' a' _ g1' f1
        rw [z1] at e2
        obtain ⟨rfl, rfl⟩ := Prod.mk.inj (Option.some.inj e2)
        have e1' := old g1 e1
        obtain ⟨b2, k2, f2, ho'⟩ := hR.ok i o g2
        rw [e1'] at f2
        obtain ⟨rfl, rfl⟩ := Prod.mk.inj (Option.some.inj f2)
        exact absurd (ho'.lt l1) (R1new a' b1 _ gB' f1)
      · exact hR.inj i j o o' b k k' g2 l1 g2' l2 (old g1 e1) (old g1' e2)
    · intro i b k hb e
      rcases Nat.lt_or_ge i H.n with h1 | h1
      · exact hR.new i b k hb (old h1 e)
      · obtain ⟨r, rfl⟩ : ∃ r, i = H.n + r := ⟨i - H.n, by omega⟩
        rw [hi] at e
        cases hr' : ks[r]? with
        | none => rw [hr'] at e; cases e
        | some a =>
          rw [hr'] at e
          have hB : B ≤ a := by
            have : ∀ {js : List Nat} {C : List Ob}, fitsFrom fl ks K B js C = true → ∀ (r a : Nat), js[r]? = some a → B ≤ a := by
              intro js
              induction js with
              | nil => intro C _ r a h; simp at h
              | cons j js ih =>
                intro C h r a h'
                cases C with
                | nil => cases h
                | cons p C =>
                  simp only [fitsFrom, Bool.and_eq_true] at h
                  cases r with
                  | zero =>
                    obtain rfl : j = a := by simpa using h'
                    exact Nat.le_of_ble_eq_true h.1.1
                  | succ r => exact ih h.2 r a (by simpa using h')
            exact this e2 r a hr'
          exact fun hX => R1new a b k hB e (hR.lt b hX)
    · exact fun b hb => Nat.lt_of_lt_of_le (hR.lt b hb) k1.size
    · have := hR.bn
      show base ≤ H.n + C.length
      omega
    · exact fun b hb => (k1.block b (hR.lt b hb)).trans (hR.fx b hb)
  · cases e
end Go.Proofs.YtanonhannngkmaaGreatDoor
/-
  A text cut at one byte, plainly; it is the library's cut.
-/
namespace Go.Proofs.YtanonhannngkmaaGreatDoor
/-- the pieces between one byte and the next -/
def spl1 (c : Nat) : List UInt8 → List (List UInt8)
  | [] => [[]]
  | b :: l => bif Nat.beq b.toNat c then [] :: spl1 c l else match spl1 c l with
    | x :: r => (b :: x) :: r
    | [] => [[b]]
theorem index_hit (c : UInt8) (l : List UInt8) : Lib.index (c :: l) [c] = 0 := by
  unfold Lib.index
  rw [if_pos (by simp)]
theorem index_on {b c : UInt8} (h : b ≠ c) (l : List UInt8) : Lib.index (b :: l) [c] = if Lib.index l [c] == -1 then -1 else Lib.index l [c] + 1 := by
  rw [Lib.index, if_neg (by simp; exact fun e => h e.symm)]
theorem spl1_from (c : UInt8) : ∀ (s : List UInt8) (f : Nat), s.length + 1 ≤ f → Lib.splitK [c] 0 (Lib.countFrom [c] f s) s = spl1 c.toNat s
  | [], 0, h => by simp at h
  | [], f + 1, _ => rfl
  | b :: l, 0, h => by simp at h
  | b :: l, f + 1, h => by
    have hf : l.length + 1 ≤ f := by simpa using h
    by_cases hb : b = c
    · subst hb
      have h1 : Lib.countFrom [b] (f + 1) (b :: l) = Lib.countFrom [b] f l + 1 := by
        rw [Lib.countFrom, index_hit, if_neg (by decide), Nat.add_comm]; rfl
      rw [h1, Lib.splitK, index_hit, if_neg (by decide), spl1, Nat.beq_refl, cond_true, ← spl1_from b l f hf]
      rfl
    · have hbn : Nat.beq b.toNat c.toNat = false := by
        cases hq : Nat.beq b.toNat c.toNat with
        | false => rfl
        | true => exact absurd (UInt8.toNat_inj.1 (Nat.eq_of_beq_eq_true hq)) hb
      rw [spl1, hbn, cond_false]
      have hi := index_on hb l
      by_cases hm : Lib.index l [c] = -1
      · rw [hm, if_pos (by decide)] at hi
        have h1 : Lib.countFrom [c] (f + 1) (b :: l) = 0 := by rw [Lib.countFrom, hi, if_pos (by decide)]
        have ih := spl1_from c l f hf
        have h2 : Lib.countFrom [c] f l = 0 := by
          cases f with
          | zero => omega
          | succ f => rw [Lib.countFrom, hm, if_pos (by decide)]
        rw [h2] at ih
        rw [h1, ← ih]
        rfl
      · have hn : ¬ (Lib.index l [c] == -1) = true := fun e => hm (eq_of_beq e)
        rw [if_neg hn] at hi
        have hge := Lib.index_ge l [c]
        have hn2 : ¬ (Lib.index l [c] + 1 == -1) = true := fun e => by have := eq_of_beq e; omega
        have ht : (Lib.index l [c] + 1).toNat = (Lib.index l [c]).toNat + 1 := by omega
        have h1 : Lib.countFrom [c] (f + 1) (b :: l) = Lib.countFrom [c] f (l.drop ((Lib.index l [c]).toNat + 1)) + 1 := by
          rw [Lib.countFrom, hi, if_neg hn2, ht, Nat.add_comm]
          rfl
        have h2 : Lib.countFrom [c] (f + 1) l = Lib.countFrom [c] f (l.drop ((Lib.index l [c]).toNat + 1)) + 1 := by
          rw [Lib.countFrom, if_neg hn, Nat.add_comm]
          rfl
        have ih := spl1_from c l (f + 1) (by omega)
        rw [h2, Lib.splitK, if_neg hn] at ih
        rw [h1, Lib.splitK, hi, if_neg hn2, ht, ← ih]
        rfl
theorem spl1_eq (c : UInt8) (s : List UInt8) : Lib.splitK [c] 0 (Lib.count s [c]) s = spl1 c.toNat s := spl1_from c s _ (Nat.le_refl _)
end Go.Proofs.YtanonhannngkmaaGreatDoor
