/-
  Letters: numbers of either sign.
-/
import Derived.Test.YtnggajehngemmaaGreatDoorEvT
import Derived.Test.YtnggajehngemmaaGreatDoorTk4
import Derived.Test.YtnggajehngemmaaGreatDoorEt
import Derived.Test.YtnggajehngemmaaGreatDoorApp
namespace Go.Proofs.YtnggajehngemmaaGreatDoor
open Go Go.RowKit
section
variable {a b : Int}
theorem xi_add {c : Int} (e : a + b = c) (h : -9223372036854775808 ≤ c ∧ c ≤ 9223372036854775807) : binX .add (.int .i64 a) (.int .i64 b) = some (.int .i64 c) := by
  subst e
  show some (Value.int .i64 (IntKind.i64.wrap (a + b))) = _
  rw [IntWalk.i64_in _ h]
theorem xi_sub {c : Int} (e : a - b = c) (h : -9223372036854775808 ≤ c ∧ c ≤ 9223372036854775807) : binX .sub (.int .i64 a) (.int .i64 b) = some (.int .i64 c) := by
  subst e
  show some (Value.int .i64 (IntKind.i64.wrap (a - b))) = _
  rw [IntWalk.i64_in _ h]
theorem xi_rem {c : Int} (e : a % b = c) (ha : 0 ≤ a) (hb : 0 < b) : binX .rem (.int .i64 a) (.int .i64 b) = some (.int .i64 c) := by
  subst e
  show (bif decide (b = 0) then none else some (Value.int .i64 (a.tmod b))) = _
  rw [decide_eq_false (by omega), Int.tmod_eq_emod_of_nonneg ha]
  rfl
theorem xi_ne {t : Bool} (h : decide (a ≠ b) = t) : binX .neq (.int .i64 a) (.int .i64 b) = some (.bool t) := by
  subst h
  show some (Value.bool (a != b)) = _
  rw [show (a != b) = decide (a ≠ b) by rw [Bool.eq_iff_iff]; simp]
theorem xi_lt {t : Bool} (h : decide (a < b) = t) : binX .lss (.int .i64 a) (.int .i64 b) = some (.bool t) := by
  subst h
  rfl
theorem xi_le {t : Bool} (h : decide (a ≤ b) = t) : binX .leq (.int .i64 a) (.int .i64 b) = some (.bool t) := by
  subst h
  rfl
theorem xi_gt {t : Bool} (h : decide (a > b) = t) : binX .gtr (.int .i64 a) (.int .i64 b) = some (.bool t) := by
  subst h
  rfl
theorem xi_ge {t : Bool} (h : decide (a ≥ b) = t) : binX .geq (.int .i64 a) (.int .i64 b) = some (.bool t) := by
  subst h
  rfl
theorem xi_eq {t : Bool} (h : decide (a = b) = t) : binX .eql (.int .i64 a) (.int .i64 b) = some (.bool t) := by
  subst h
  show some (Value.bool (a == b)) = _
  rw [show (a == b) = decide (a = b) by rw [Bool.eq_iff_iff]; simp]
end
theorem xi_remk {k : IntKind} {n m : Nat} (hm : m ≠ 0) : binX .rem (.int k n) (.int k m) = some (.int k (n % m : Nat)) := by
  have h2 : (n : Int).tmod m = ((n % m : Nat) : Int) := by rw [← Int.ofNat_tmod]
  show (bif decide (k = k) then (bif decide ((m : Int) = 0) then none else some (Value.int k ((n : Int).tmod m))) else none) = _
  rw [decide_eq_true rfl, decide_eq_false (show ¬ (m : Int) = 0 by omega), h2]
  rfl
theorem xi_eqk {k : IntKind} {n m : Nat} {b : Bool} (h : decide (n = m) = b) : binX .eql (.int k n) (.int k m) = some (.bool b) := by
  subst h
  show (bif decide (k = k) then some (Value.bool ((n : Int) == m)) else none) = _
  rw [decide_eq_true rfl, show ((n : Int) == m) = decide (n = m) by rw [Bool.eq_iff_iff]; simp; omega]
  rfl
/-- a letter and a number, a letter behind -/
theorem li [Ltr] {op : BinOp} {i : Nat} {u v q r : Value} (hi : Ltr.v i = some u) (hv : flat v = true) (h : binX op u v = some q) (hr : ∀ E : Ren, Rel E r q) : OEOk Tryz.prog (binE op (Lt i) v r) := binE_num (is_ltr hi) (is_flat hv) h hr
theorem il [Ltr] {op : BinOp} {i : Nat} {u v q r : Value} (hi : Ltr.v i = some u) (hv : flat v = true) (h : binX op v u = some q) (hr : ∀ E : Ren, Rel E r q) : OEOk Tryz.prog (binE op v (Lt i) r) := binE_num (is_flat hv) (is_ltr hi) h hr
theorem ll [Ltr] {op : BinOp} {i j : Nat} {u v q r : Value} (hi : Ltr.v i = some u) (hj : Ltr.v j = some v) (h : binX op u v = some q) (hr : ∀ E : Ren, Rel E r q) : OEOk Tryz.prog (binE op (Lt i) (Lt j) r) := binE_num (is_ltr hi) (is_ltr hj) h hr
theorem cv_day [Ltr] {i j n : Nat} (hn : n ≤ 4294967295) (hi : Ltr.v i = some (.int .u32 n)) (hj : Ltr.v j = some (.int .i64 n)) : OEOk Tryz.prog (cvE 23 32 (Lt i) (Lt j)) :=
  cvE_ok fun o ρ x E w ho hx => by
    have e1 := is_ltr hi E _ hx
    refine ⟨.int .i64 n, ?_, .ltr hj rfl⟩
    have h : IntKind.i64.wrap (n : Int) = n := IntWalk.i64_in _ (by omega)
    simp only [execOp, ho, e1]
    go_simp
end Go.Proofs.YtnggajehngemmaaGreatDoor
/-
  Letters: two structures of two numbers compared; what goes over from round to round where lists are.
-/
namespace Go.Proofs.YtnggajehngemmaaGreatDoor
open Go Go.RowKit
/-- letters, lists, blocks go over -/
abbrev traS (v : List (Value × Value)) (s : List (Nat × Nat)) (o : List (Nat × Nat)) : Tra := ⟨v, s, [], [], o, []⟩
theorem traS_ok {L L' : Ltr} {v : List (Value × Value)} {s o : List (Nat × Nat)} (hv : ∀ p ∈ v, ∀ (E E' : Ren) (x : Value), @Rel L E p.1 x → @Rel L' E' p.2 x) (hs : ∀ p ∈ s, L.z p.1 = L'.z p.2 ∧ ∀ k n c, L.s p.1 k n c → L'.s p.2 k n c) (ho : ∀ p ∈ o, ∀ k y, L.o p.1 k y → L'.o p.2 k y) : TraOk L L' (traS v s o) where
  v := hv
  s := hs
  c := an
  p := an
  o := ho
  g := an
/-- weekdays as cells -/
def flatN (V : List (Int × Int)) : List Value := V.flatMap fun x => [.int .i64 x.1, .int .i64 x.2]
theorem flatN_len (V : List (Int × Int)) : (flatN V).length = V.length * 2 := by
  unfold flatN
  induction V with
  | nil => rfl
  | cons x V ih => rw [List.flatMap_cons, List.length_append, ih]; simp; omega
theorem flatN_at {V : List (Int × Int)} : ∀ {i : Nat} (h : i < V.length), (flatN V)[i * 2]? = some (.int .i64 V[i].1) ∧ (flatN V)[i * 2 + 1]? = some (.int .i64 V[i].2) := by
  unfold flatN
  induction V with
  | nil => intro i h; exact absurd h (Nat.not_lt_zero i)
  | cons x V ih =>
    intro i h
    cases i with
    | zero => simp
    | succ i =>
      have := ih (i := i) (by simpa using h)
      rw [show (i + 1) * 2 = i * 2 + 2 by omega, show i * 2 + 2 + 1 = i * 2 + 1 + 2 by omega]
      simpa using this
/-- two structures of two numbers -/
def eqA (op : BinOp) (t : TypeId) (xs ys : List Value) (r : Bool) : OE :=
  ⟨fun o ρ => match o with
    | .binOp op' t' a b t'' => match ρ a, ρ b with
      | .agg ⟨l⟩, .agg ⟨m⟩ => decide (op' = op) && Nat.beq t' t && Nat.beq t'' t && pqs l xs && pqs m ys
      | _, _ => false
    | _ => false, .bool r⟩
theorem eqA_ok [Ltr] {xs ys : List Value} {u1 u2 v1 v2 : Int} {r : Bool} (hx : ∀ (E : Ren) a, RelL E xs a → a = [.int .i64 u1, .int .i64 u2]) (hy : ∀ (E : Ren) a, RelL E ys a → a = [.int .i64 v1, .int .i64 v2]) (hr : (u1 == v1 && u2 == v2) = r) : OEOk Tryz.prog (eqA .eql 51 xs ys r) := by
  intro o ρ ρ' E hρ hf w
  simp only [eqA] at hf
  split at hf
  · rename_i op' t' a b t'' ho
    split at hf
    · rename_i l m h1 h2
      simp only [Bool.and_eq_true, decide_eq_true_eq] at hf
      obtain ⟨⟨⟨⟨rfl, k1⟩, k2⟩, k3⟩, k4⟩ := hf
      rw [ho] at hρ
      have ra := hρ a (by simp [Op.operands])
      have rb := hρ b (by simp [Op.operands])
      rw [h1, pqs_eq k3] at ra
      rw [h2, pqs_eq k4] at rb
      generalize ha : ρ' a = va at ra
      generalize hb : ρ' b = vb at rb
      cases ra with
      | same hf => cases hf
      | agg ra =>
      cases rb with
      | same hf => cases hf
      | agg rb =>
      rw [hx E _ ra] at ha
      rw [hy E _ rb] at hb
      rw [Nat.eq_of_beq_eq_true k1, Nat.eq_of_beq_eq_true k2] at ho
      subst hr
      refine ⟨.bool (u1 == v1 && u2 == v2), ?_, .same rfl, fun c e => by rw [ho] at e; cases e⟩
      simp only [execOp, ho, ha, hb]
      go_simp
      all_goals (by_cases e1 : u1 = v1 <;> by_cases e2 : u2 = v2 <;> simp [e1, e2])
    · cases hf
  · cases hf
theorem neA_ok [Ltr] {xs ys : List Value} {u1 u2 v1 v2 : Int} {r : Bool} (hx : ∀ (E : Ren) a, RelL E xs a → a = [.int .i64 u1, .int .i64 u2]) (hy : ∀ (E : Ren) a, RelL E ys a → a = [.int .i64 v1, .int .i64 v2]) (hr : (!(u1 == v1 && u2 == v2)) = r) : OEOk Tryz.prog (eqA .neq 51 xs ys r) := by
  intro o ρ ρ' E hρ hf w
  simp only [eqA] at hf
  split at hf
  · rename_i op' t' a b t'' ho
    split at hf
    · rename_i l m h1 h2
      simp only [Bool.and_eq_true, decide_eq_true_eq] at hf
      obtain ⟨⟨⟨⟨rfl, k1⟩, k2⟩, k3⟩, k4⟩ := hf
      rw [ho] at hρ
      have ra := hρ a (by simp [Op.operands])
      have rb := hρ b (by simp [Op.operands])
      rw [h1, pqs_eq k3] at ra
      rw [h2, pqs_eq k4] at rb
      generalize ha : ρ' a = va at ra
      generalize hb : ρ' b = vb at rb
      cases ra with
      | same hf => cases hf
      | agg ra =>
      cases rb with
      | same hf => cases hf
      | agg rb =>
      rw [hx E _ ra] at ha
      rw [hy E _ rb] at hb
      rw [Nat.eq_of_beq_eq_true k1, Nat.eq_of_beq_eq_true k2] at ho
      subst hr
      refine ⟨.bool (!(u1 == v1 && u2 == v2)), ?_, .same rfl, fun c e => by rw [ho] at e; cases e⟩
      simp only [execOp, ho, ha, hb]
      go_simp
      all_goals (by_cases e1 : u1 = v1 <;> by_cases e2 : u2 = v2 <;> simp [e1, e2])
    · cases hf
  · cases hf
end Go.Proofs.YtnggajehngemmaaGreatDoor
/-
  Letters: a map from numbers to numbers.
-/
namespace Go.Proofs.YtnggajehngemmaaGreatDoor
open Go Go.RowKit
/-- entries from texts to numbers -/
abbrev IM := List (Int × Int × Nat)
def imE (x : Int × Int × Nat) : MapEntry := { key := .int .i64 x.1, val := .int .i64 x.2.1, born := x.2.2 }
def imIdx (s : Int) : IM → Nat → Option Nat
  | [], _ => none
  | x :: l, i => if s = x.1 then some i else imIdx s l (i + 1)
def imGet (s : Int) : IM → Option Int
  | [] => none
  | x :: l => if s = x.1 then some x.2.1 else imGet s l
/-- one put -/
def imPut (M : IM × Nat) (s : Int) (v : Int) : IM × Nat :=
  match imIdx s M.1 0 with
  | some j => (M.1.modify j fun x => (s, v, x.2.2), M.2)
  | none => (M.1 ++ [(s, v, M.2)], M.2 + 1)
theorem in_beq (a b : Int) : (a == b) = decide (a = b) := by rw [Bool.eq_iff_iff]; simp
theorem im_fk {s : Int} : ∀ {l : IM} {i : Nat}, fkN (.int .i64) (.int .i64 s) (l.map imE) i = some (match imIdx s l i with | some j => some (j, .int .i64 ((imGet s l).getD 0)) | none => none)
  | [], i => rfl
  | x :: l, i => by
    simp only [List.map_cons, fkN, imIdx, imGet]
    by_cases h : s = x.1
    · have : Instr.sameNow (.int .i64) (.int .i64 s) (imE x).key = some true := by simp [Instr.sameNow, imE, h]
      rw [this, if_pos h, if_pos h]
      rfl
    · have : Instr.sameNow (.int .i64) (.int .i64 s) (imE x).key = some false := by simp [Instr.sameNow, imE, h, in_beq]
      rw [this, if_neg h, if_neg h]
      exact im_fk
theorem imIdx_get {s : Int} : ∀ {l : IM} {i : Nat}, imIdx s l i = none ↔ imGet s l = none
  | [], i => by simp [imIdx, imGet]
  | x :: l, i => by
    unfold imIdx imGet
    split
    · simp
    · exact imIdx_get
theorem imIdx_at {s : Int} : ∀ {l : IM} {i j : Nat}, imIdx s l i = some j → i ≤ j ∧ ∃ x, l[j - i]? = some x ∧ x.1 = s
  | [], i, j, h => by cases h
  | x :: l, i, j, h => by
    unfold imIdx at h
    split at h
    · rename_i e
      obtain rfl := Option.some.inj h
      exact ⟨Nat.le_refl _, x, by simp, e.symm⟩
    · obtain ⟨h1, y, h2, h3⟩ := imIdx_at h
      refine ⟨by omega, y, ?_, h3⟩
      rw [show j - i = (j - (i + 1)) + 1 by omega]
      simpa using h2
theorem imGet_app {s t : Int} {v : Int} {b : Nat} : ∀ {l : IM}, imGet s l = none → imGet t (l ++ [(s, v, b)]) = if t = s then some v else imGet t l
  | [], _ => by simp [imGet]
  | x :: l, h => by
    unfold imGet at h
    split at h
    · cases h
    · rename_i hn
      simp only [List.cons_append, imGet]
      by_cases ht : t = x.1
      · rw [if_pos ht, if_pos ht]
        have : ¬ t = s := fun e => hn (e ▸ ht)
        rw [if_neg this]
      · rw [if_neg ht, if_neg ht]
        exact imGet_app h
theorem imGet_mod {s t : Int} {v : Int} : ∀ {l : IM} {i j : Nat}, imIdx s l i = some j → imGet t (l.modify (j - i) fun x => (s, v, x.2.2)) = if t = s then some v else imGet t l
  | [], i, j, h => by cases h
  | x :: l, i, j, h => by
    have h0 := h
    unfold imIdx at h
    split at h
    · rename_i e
      obtain rfl := Option.some.inj h
      rw [Nat.sub_self]
      simp only [List.modify_zero_cons, imGet]
      by_cases ht : t = s
      · rw [if_pos ht, if_pos ht]
      · rw [if_neg ht, if_neg ht, if_neg (fun h => ht (h.trans e.symm))]
    · rename_i hn
      obtain ⟨h1, -⟩ := imIdx_at h
      rw [show j - i = (j - (i + 1)) + 1 by omega]
      simp only [List.modify_succ_cons, imGet]
      by_cases ht : t = x.1
      · rw [if_pos ht, if_pos ht, if_neg (fun h => hn (h.symm.trans ht))]
      · rw [if_neg ht, if_neg ht]
        exact imGet_mod h
theorem imGet_put {M : IM × Nat} {s t : Int} {v : Int} : imGet t (imPut M s v).1 = if t = s then some v else imGet t M.1 := by
  unfold imPut
  cases h : imIdx s M.1 0 with
  | none => exact imGet_app (imIdx_get.1 h)
  | some j => have := imGet_mod (t := t) (v := v) h; simpa using this
theorem upd_updI {i : Nat} {o p : Ob} : ∀ {h : List (Nat × Ob)}, upd i o (upd i p h) = upd i o h
  | [] => rfl
  | (j, q) :: h => by
    unfold upd
    cases hb : Nat.beq i j with
    | true => simp [upd, hb]
    | false => simp [upd, hb, upd_updI]
/-- the same block, told otherwise -/
theorem Rep.swapI [Ltr] {X : Kep} {base : Nat} {E : Ren} {H : RW} {w : World} (R : Rep X base E H w) {i b k : Nat} {o o' : Ob} (hl : look i H.h = some o) (hlv : o.live = true) (e : E i = some (b, k)) (hok : Ok E k o' w.heap[b]?) : Rep X base E { H with h := upd i o' H.h } w := by
  refine ⟨R.dom, ?_, ?_, R.new, R.lt, R.bn, R.fx⟩
  · intro j oj hj
    by_cases hji : j = i
    · subst hji
      rw [look_upd hl] at hj
      obtain rfl := Option.some.inj hj
      exact .inr ⟨b, k, e, hok⟩
    · rw [look_upd_ne hji] at hj
      exact R.ok' j oj hj
  · intro j j' oj oj' b2 k2 k2' hj lj hj' lj' e2 e2'
    have hh : ∀ {x : Nat} {ox : Ob}, look x (upd i o' H.h) = some ox → ox.live = true → ∃ ox', look x H.h = some ox' ∧ ox'.live = true := by
      intro x ox hx' lx
      by_cases hxi : x = i
      · subst hxi; exact ⟨_, hl, hlv⟩
      · rw [look_upd_ne hxi] at hx'; exact ⟨ox, hx', lx⟩
    obtain ⟨p, hp, lp⟩ := hh hj lj
    obtain ⟨q, hq, lq⟩ := hh hj' lj'
    exact R.inj j j' p q b2 k2 k2' hp lp hq lq e2 e2'
theorem im_rel [Ltr] {E : Ren} : ∀ {l : IM}, RelM E (l.map imE) (l.map imE)
  | [] => .nil
  | _ :: _ => .cons (.same rfl) im_rel
theorem im_put_map {M : IM × Nat} {s : Int} {v : Int} {j : Nat} : (M.1.map imE).modify j (fun e => { e with key := .int .i64 s, val := .int .i64 v }) = (M.1.modify j fun x => (s, v, x.2.2)).map imE := by
  generalize M.1 = l
  induction l generalizing j with
  | nil => simp
  | cons x l ih =>
    cases j with
    | zero => simp [imE]
    | succ j => simp [ih]
/-- the map from texts to numbers at block a answers at letter i: letter r, or 0 -/
def imLk (t : TypeId) (a i : Nat) (r : Value) (_b : Bool) : ME :=
  ⟨fun op ρ H => match op with
    | .lookup t' m k false => match ρ m with
      | .map (some j) => match look j H.h with
        | some (.opq a') => bif Nat.beq t' t && Nat.beq a' a && pq (ρ k) (Lt i) then some (.value r, H) else none
        | _ => none
      | _ => none
    | _ => none⟩
theorem imLk_ok [Ltr] {X : Kep} {base a i : Nat} {t kt el : TypeId} {s : Int} {M : IM × Nat} {r : Value} {b : Bool} (hu : Tryz.prog.underlying t = some (.map kt el)) (hk : Tryz.prog.underlying kt = some (.int .i64)) (hz : svp Tryz.prog (Go.zeroValue el) = some (.int .i64 0)) (ha : ∀ k y, Ltr.o a k y → y = .map ⟨M.1.map imE⟩ M.2) (hi : Ltr.v i = some (.int .i64 s)) (_hb : (imGet s M.1).isSome = b)
    (hr : ∀ E : Ren, Rel E r (.int .i64 ((imGet s M.1).getD 0))) : MEOk Tryz.prog X base (imLk t a i r b) where
  ok := by
    intro o ρ ρ' E H H1 nx w hρ hR e
    simp only [imLk] at e
    split at e
    · rename_i t' m k ho
      split at e
      · rename_i j hm
        split at e
        · rename_i a' hl
          obtain ⟨hc, e⟩ := cond_some e
          simp only [Bool.and_eq_true] at hc
          obtain ⟨rfl, rfl⟩ := Prod.mk.inj (Option.some.inj e)
          have rm := hρ m (by rw [ho]; simp [Op.operands])
          have rk := hρ k (by rw [ho]; simp [Op.operands])
          rw [pq_eq hc.2] at rk
          have e2 := is_ltr hi E _ rk
          rw [Nat.eq_of_beq_eq_true hc.1.1] at ho
          rw [Nat.eq_of_beq_eq_true hc.1.2] at hl
          have rm' := rm
          rw [hm] at rm'
          generalize hy : ρ' m = y at rm'
          cases rm' with
          | same hf => cases hf
          | @map _ bk kk hE =>
          obtain ⟨b', k', e', y, hxx, hoo⟩ := hR.ok j _ hl
          rw [hE] at e'; obtain ⟨rfl, rfl⟩ := Prod.mk.inj (Option.some.inj e')
          rw [ha _ _ hoo] at hxx
          have R2 := hR.swapI (o' := .mp (M.1.map imE) M.2) hl rfl hE ⟨_, hxx, im_rel⟩
          have hl2 : look j (upd j (.mp (M.1.map imE) M.2) H.h) = some (.mp (M.1.map imE) M.2) := look_upd hl
          have hml : mlk Tryz.prog { H with h := upd j (.mp (M.1.map imE) M.2) H.h } t (ρ m) (.int .i64 s) false = some (.int .i64 ((imGet s M.1).getD 0)) := by
            unfold mlk
            rw [hu]
            have hck : ck Tryz.prog kt (.int .i64 s) = true := by unfold ck; rw [hk]
            dsimp only
            rw [hck, cond_true, hm]
            unfold mfd
            dsimp only
            rw [hl2]
            dsimp only
            have : fk Tryz.prog kt (.int .i64 s) (M.1.map imE) = some (match imIdx s M.1 0 with | some j => some (j, .int .i64 ((imGet s M.1).getD 0)) | none => none) := by
              unfold fk
              dsimp only
              rw [hk]
              exact im_fk
            rw [this]
            cases hix : imIdx s M.1 0 with
            | none =>
              have hg := imIdx_get.1 hix
              rw [hg]
              unfold mans
              dsimp only
              rw [hz]
              rfl
            | some j =>
              have hg : (imGet s M.1).isSome = true := by
                cases hg : imGet s M.1 with
                | none => rw [imIdx_get.2 hg] at hix; cases hix
                | some v => rfl
              rfl
          obtain ⟨v', h1, h2⟩ := mlk_sound R2 rm hml
          have hv' : v' = .int .i64 ((imGet s M.1).getD 0) := fl3_eq rfl h2
          refine ⟨E, .value v', w, ?_, Ext.refl E, hR, Kp.refl _ _, ?_⟩
          · simp only [execOp, ho, e2]
            exact run_value h1
          · rw [hv']
            exact hr E
        · cases e
      · cases e
    · cases e
  q := by
    intro o ρ H H1 nx e
    simp only [imLk] at e
    split at e
    · refine ⟨fun c h => (by cases h), fun _ => ?_⟩
      split at e
      · split at e
        · obtain ⟨_, e⟩ := cond_some e
          obtain ⟨rfl, rfl⟩ := Prod.mk.inj (Option.some.inj e)
          exact ⟨rfl, _, rfl⟩
        · cases e
      · cases e
    · cases e
/-- a put into the map at block a, which becomes block b -/
def imUp (t : TypeId) (a b i : Nat) (x : Value) : ME :=
  ⟨fun op ρ H => match op with
    | .mapUpdate t' m k v => match ρ m with
      | .map (some j) => match look j H.h with
        | some (.opq a') => bif Nat.beq t' t && Nat.beq a' a && pq (ρ k) (Lt i) && pq (ρ v) x && Nat.ble 64 j then some (.skip, { H with h := upd j (.opq b) H.h }) else none
        | _ => none
      | _ => none
    | _ => none⟩
theorem imUp_ok [Ltr] {X : Kep} {a b i : Nat} {t kt el : TypeId} {s : Int} {v : Int} {M : IM × Nat} {x : Value} (hu : Tryz.prog.underlying t = some (.map kt el)) (hk : Tryz.prog.underlying kt = some (.int .i64)) (ha : ∀ k y, Ltr.o a k y → y = .map ⟨M.1.map imE⟩ M.2) (hi : Ltr.v i = some (.int .i64 s)) (hx : ∀ (E : Ren) u, Rel E x u → u = .int .i64 v)
    (hb : ∀ k, Ltr.o b k (.map ⟨(imPut M s v).1.map imE⟩ (imPut M s v).2)) : MEOk Tryz.prog X 64 (imUp t a b i x) where
  ok := by
    intro o ρ ρ' E H H1 nx w hρ hR e
    simp only [imUp] at e
    split at e
    · rename_i t' m k v' ho
      split at e
      · rename_i j hm
        split at e
        · rename_i a' hl
          obtain ⟨hc, e⟩ := cond_some e
          simp only [Bool.and_eq_true] at hc
          obtain ⟨⟨⟨⟨c1, c2⟩, c3⟩, c4⟩, c5⟩ := hc
          obtain ⟨rfl, rfl⟩ := Prod.mk.inj (Option.some.inj e)
          have rm := hρ m (by rw [ho]; simp [Op.operands])
          have rk := hρ k (by rw [ho]; simp [Op.operands])
          have rv := hρ v' (by rw [ho]; simp [Op.operands])
          rw [pq_eq c3] at rk
          rw [pq_eq c4] at rv
          have e2 := is_ltr hi E _ rk
          have e3 := hx E _ rv
          rw [Nat.eq_of_beq_eq_true c1] at ho
          rw [Nat.eq_of_beq_eq_true c2] at hl
          have rm' := rm
          rw [hm] at rm'
          generalize hy : ρ' m = y at rm'
          cases rm' with
          | same hf => cases hf
          | @map _ bk kk hE =>
          obtain ⟨b', k', e', y, hxx, hoo⟩ := hR.ok j _ hl
          rw [hE] at e'; obtain ⟨rfl, rfl⟩ := Prod.mk.inj (Option.some.inj e')
          rw [ha _ _ hoo] at hxx
          have R2 := hR.swapI (o' := .mp (M.1.map imE) M.2) hl rfl hE ⟨_, hxx, im_rel⟩
          have hl2 : look j (upd j (.mp (M.1.map imE) M.2) H.h) = some (.mp (M.1.map imE) M.2) := look_upd hl
          have hmu : mup Tryz.prog 64 { H with h := upd j (.mp (M.1.map imE) M.2) H.h } t (ρ m) (.int .i64 s) (.int .i64 v) = some { H with h := upd j (.mp ((imPut M s v).1.map imE) (imPut M s v).2) H.h } := by
            have hck : ck Tryz.prog kt (.int .i64 s) = true := by unfold ck; rw [hk]
            have hfk : fk Tryz.prog kt (.int .i64 s) (M.1.map imE) = some (match imIdx s M.1 0 with | some j => some (j, .int .i64 ((imGet s M.1).getD 0)) | none => none) := by
              unfold fk
              dsimp only
              rw [hk]
              exact im_fk
            unfold mup
            rw [hu, hm]
            dsimp only
            rw [hl2]
            dsimp only
            rw [c5, hck, hfk]
            cases hix : imIdx s M.1 0 with
            | none =>
              show some _ = some _
              unfold imPut
              rw [hix]
              simp [upd_updI, imE]
            | some q =>
              obtain ⟨_, z, hz1, hz2⟩ := imIdx_at hix
              have hs : same1 (((M.1.map imE)[q]?.map (·.key)).getD (.int .i64 s)) (.int .i64 s) = true := by
                rw [List.getElem?_map, show M.1[q]? = some z by simpa using hz1]
                simp [imE, same1, hz2, ← ibeq_eq]
              show (bif same1 (((M.1.map imE)[q]?.map (·.key)).getD (.int .i64 s)) (.int .i64 s) then _ else _) = _
              rw [hs, cond_true, im_put_map]
              unfold imPut
              rw [hix]
              simp [upd_updI]
          obtain ⟨w', h1, R3, b3⟩ := mup_sound R2 rm (.same rfl) hmu
          obtain ⟨b2, k2, e4, h4⟩ := R3.ok j _ (look_upd hl)
          rw [hE] at e4; obtain ⟨rfl, rfl⟩ := Prod.mk.inj (Option.some.inj e4)
          obtain ⟨es', h5, h6⟩ := h4
          have h7 : es' = (imPut M s v).1.map imE := by
            have : ∀ {l : IM} {es : List MapEntry}, RelM E (l.map imE) es → es = l.map imE := by
              intro l
              induction l with
              | nil => intro es r; cases r; rfl
              | cons x l ih =>
                intro es r
                cases r with
                | cons r1 r2 =>
                  rw [ih r2, r1.flat_eq rfl]
                  rfl
            exact this h6
          rw [h7] at h5
          have R4 := R3.swapI (o' := .opq b) (look_upd hl) rfl hE ⟨_, h5, hb _⟩
          refine ⟨E, .skip, w', ?_, Ext.refl E, ?_, b3, trivial⟩
          · simp only [execOp, ho, e2, e3]
            show (Instr.mapUpdate t (ρ' m) _ _ >>= _).run _ w = _
            rw [Sem.run_bind, h1]
            rfl
          · simpa [upd_updI] using R4
        · cases e
      · cases e
    · cases e
  q := by
    intro o ρ H H1 nx e
    simp only [imUp] at e
    split at e
    · exact ⟨fun c h => (by cases h), fun h => (by cases h)⟩
    · cases e
end Go.Proofs.YtnggajehngemmaaGreatDoor
/-
  Letters: a run from any memory that is told; a list that may be nil at name 64, as it is; a call that leaves a block of its own.
-/
namespace Go.Proofs.YtnggajehngemmaaGreatDoor
open Go Go.RowKit
/-- what a run from H0 comes to has the mark chk -/
def SymK (O : List OE) (M : List ME) (C : List CE) (pr : Prim) (n : Nat) (f : FuncId) (H0 : RW) (args : List Value) (chk : Value → RW → Bool) : Prop :=
  (callEv Tryz.prog pr 64 (@codeQ (orcG 64 64 O M C) Tryz.prog pr 64 64 n false) f args H0).map (fun p => chk p.1 p.2) = some true
theorem symK0 [Ltr] [Orc] {pr : Prim} {n : Nat} {f : FuncId} {X : Kep} {E0 : Ren} {H0 : RW} {args args' : List Value} {chk : Value → RW → Bool} {w : World} [OrcOk Tryz.prog 64 X 64] (hp : PrimOk Tryz.prog pr 64 X 64) (hR : Rep X 64 E0 H0 w) (hG : Gl 64 E0) (ha : RelL E0 args args')
    (e : (callEv Tryz.prog pr 64 (codeQ Tryz.prog pr 64 64 n false) f args H0).map (fun p => chk p.1 p.2) = some true) :
    Calls Tryz.prog f ⟨args'⟩ w fun e w' => ∃ u F v K1, e = .returned u ∧ chk v K1 = true ∧ Ext E0 F ∧ Rep X 64 F K1 w' ∧ Rel F v u ∧ Kp X w w' := by
  cases hc : callEv Tryz.prog pr 64 (codeQ Tryz.prog pr 64 64 n false) f args H0 with
  | none => rw [hc] at e; cases e
  | some p =>
    obtain ⟨v, K1⟩ := p
    rw [hc] at e
    have e := Option.some.inj e
    rw [codeQ_eq] at hc
    refine Calls.mono (callEv_sound hp (codeEv_sound mixed hp n false) f args H0 v K1 E0 w args' hR hG ha hc) ?_
    rintro e w' ⟨v', F, rfl, x, R1, k1, rv⟩
    exact ⟨v', F, v, K1, rfl, e, x, R1, rv, k1⟩
theorem symK (L : Ltr) {X : Kep} {E0 : Ren} {H0 : RW} {O : List OE} {M : List ME} {C : List CE} {pr : Prim} (n : Nat) {f : FuncId} {args args' : List Value} {chk : Value → RW → Bool} {w : World} (hO : ∀ e ∈ O, @OEOkX L Tryz.prog X e) (hM : ∀ e ∈ M, @MEOk L Tryz.prog X 64 e) (hC : ∀ c ∈ C, @CEOk L Tryz.prog 64 X 64 c) (hp : @PrimOk L Tryz.prog pr 64 X 64) (hR : @Rep L X 64 E0 H0 w) (hG : Gl 64 E0) (ha : @RelL L E0 args args') (e : SymK O M C pr n f H0 args chk) :
    Calls Tryz.prog f ⟨args'⟩ w fun e w' => ∃ u F v K1, e = .returned u ∧ chk v K1 = true ∧ Ext E0 F ∧ @Rep L X 64 F K1 w' ∧ @Rel L F v u ∧ Kp X w w' :=
  @symK0 L (orcG 64 64 O M C) pr n f X E0 H0 args args' chk w (@orcG_ok _ _ _ _ L _ _ _ hO hM hC) hp hR hG ha e
/-- all that there is but what v's block holds -/
def kepV (w : World) (v : Value) : Kep :=
  match v with
  | .slice (some a) _ _ => kepB w a.block
  | _ => kep w
/-- name 64 stands for v's block, name 65 says whether there is one -/
def startV (w : World) (v : Value) : Ren :=
  match v with
  | .slice (some a) _ c => startB w a.block c
  | _ => (startE 64).new 65 w.heap.size 1
theorem startV_G {w : World} {v : Value} : Gl 64 (startV w v) := by
  unfold startV
  split
  · exact startB_G
  · intro g hg
    refine ⟨0, ?_⟩
    rw [new_ne (by omega)]
    unfold startE
    rw [show Nat.blt g 64 = true by simpa [Nat.blt_eq] using hg]
    rfl
/-- no list at name 64 -/
theorem rep_startN [Ltr] {w : World} {m : Nat} (hs : Ltr.s m 0 0 0) : Rep (kepV w (.slice none 0 0)) 64 (startV w (.slice none 0 0)) ⟨66, [(64, .tok m)]⟩ w ∧ Rel (startV w (.slice none 0 0)) (TOK 64 m) (.slice none 0 0) := by
  have e64 : ((startE 64).new 65 w.heap.size 1) 64 = none := by rw [new_ne (by omega)]; exact startE_none (by omega)
  have look' : ∀ {i : Nat} {o : Ob}, look i [(64, Ob.tok m)] = some o → i = 64 ∧ o = .tok m := by
    intro i o h
    by_cases h0 : i = 64
    · subst h0
      rw [look_at] at h
      exact ⟨rfl, (Option.some.inj h).symm⟩
    · rw [look_ne h0] at h; cases h
  refine ⟨⟨fun i hi => ?_, fun i o hh => ?_, fun i j o o' b1 k1 k2 h1 _ h2 _ _ _ => ?_, fun i b1 k1 hi e => ?_, fun x hx => hx, by show 64 ≤ 66; omega, fun x _ => rfl⟩, .tkn Ren.at hs⟩
  · have hi : 66 ≤ i := hi
    show ((startE 64).new 65 w.heap.size 1) i = none
    rw [new_ne (by omega)]
    exact startE_none (by omega)
  · obtain ⟨rfl, rfl⟩ := look' hh
    exact .inl ⟨rfl, e64, by show 64 < 66; omega⟩
  · obtain ⟨rfl, -⟩ := look' h1
    obtain ⟨rfl, -⟩ := look' h2
    rfl
  · have e : ((startE 64).new 65 w.heap.size 1) i = some (b1, k1) := e
    by_cases h1 : i = 65
    · subst h1
      rw [Ren.at] at e
      obtain ⟨rfl, rfl⟩ := Prod.mk.inj (Option.some.inj e)
      exact fun h => Nat.lt_irrefl _ h
    · rw [new_ne h1, startE_none hi] at e
      cases e
/-- list letter m is v as it is in w -/
structure LisV [Ltr] (m : Nat) (w : World) (v : Value) (N : Nat) : Prop where
  c : v = .slice none 0 0 ∧ N = 0 ∨ ∃ b k y, v = .slice (some ⟨b, 0, none⟩) N k ∧ w.heap[b]? = some y ∧ Ltr.o m k y
  s : ∀ k n c, Ltr.s m k n c ↔ n = N ∧ c = k
theorem rep_startV [Ltr] {w : World} {v : Value} {m N : Nat} (h : LisV m w v N) : Rep (kepV w v) 64 (startV w v) ⟨66, [(64, .tok m)]⟩ w ∧ Rel (startV w v) (TOK 64 m) v := by
  rcases h.c with ⟨rfl, rfl⟩ | ⟨b, k, y, rfl, hy, ho⟩
  · exact rep_startN ((h.s _ _ _).2 ⟨rfl, rfl⟩)
  · exact ⟨rep_startB hy ho, .tk startB_64 startB_65 ((h.s _ _ _).2 ⟨rfl, rfl⟩)⟩
/-- behind a run that leaves the list as it was nothing has turned -/
theorem below_V [Ltr] {w w' : World} {v : Value} {m m' N : Nat} {F : Ren} {K1 : RW} (h : LisV m w v N) (x : Ext (startV w v) F) (hR : Rep (kepV w v) 64 F K1 w') (hl : look 64 K1.h = some (.tok m')) (hm : ∀ b k y, v = .slice (some ⟨b, 0, none⟩) N k → Ltr.o m' k y → w.heap[b]? = some y) (k : Kp (kepV w v) w w') : Below w.heap.size w w' := by
  rcases h.c with ⟨rfl, rfl⟩ | ⟨b, kk, y, rfl, hy, ho⟩
  · exact ⟨k.os, k.tape, k.output, k.size, fun j hj => k.block j hj⟩
  · refine ⟨k.os, k.tape, k.output, k.size, fun j hj => ?_⟩
    by_cases hjb : j = b
    · subst hjb
      obtain ⟨y', hy', ho'⟩ := hR.oke hl (x _ _ startB_64)
      rw [hy', hm _ _ _ rfl ho']
    · exact k.block j ⟨hj, hjb⟩
/-- a call that leaves one block, of which letter o says something; its arguments letters, numbers, lists -/
def newT (g : FuncId) (ps : List Value) (v : Nat → Value) (o : Nat) : Prim := fun f args H => bif Nat.beq f g && all2 (tq H 3) ps args then some (v H.n, H.push (.opq o)) else none
theorem newT_ok [Ltr] {P : Program} {G base : Nat} {X : Kep} {g : FuncId} {ps : List Value} {v : Nat → Value} {o : Nat}
    (h : ∀ (w : World) (args' : List Value), (∀ b, X b → w.heap[b]? = X.ob b) → AllR (TRel w 3) ps args' → Calls P g ⟨args'⟩ w fun e w' => ∃ b k y u, e = .returned u ∧ Below w.heap.size w w' ∧ w.heap.size ≤ b ∧ w'.heap[b]? = some y ∧ Ltr.o o k y ∧ ∀ (F : Ren) n, F n = some (b, k) → Rel F (v n) u) : PrimOk P (newT g ps v o) G X base := by
  intro f args H u H1 E w args' hR hG hr e
  unfold newT at e
  obtain ⟨hc, e⟩ := cond_some e
  simp only [Bool.and_eq_true] at hc
  obtain ⟨rfl, rfl⟩ := Prod.mk.inj (Option.some.inj e)
  rw [Nat.eq_of_beq_eq_true hc.1]
  refine (h w args' hR.fx (allR_of (fun p v v' => tq_rel hR 3 p v v') hc.2 hr)).mono ?_
  rintro e w' ⟨b, k, y, u, rfl, hb, hlb, hy, ho, hv⟩
  have hg : w.grownBy w' none := ⟨hb.os, hb.tape, hb.output, hb.size, fun j hj _ => hb.block j hj⟩
  obtain ⟨p1, p2, p3⟩ := hR.grown (g := b) (k := k) (o := .opq o) hg (fun k h => by cases h) (.inl hlb) (fun F x => ⟨y, hy, ho⟩)
  exact ⟨u, _, rfl, p2, p1, p3, hv _ _ Ren.at⟩
/-- a call with such arguments and a flat answer -/
def flT (g : FuncId) (ps : List Value) (r : Value) : Prim := fun f args H => bif Nat.beq f g && all2 (tq H 3) ps args then some (r, H) else none
theorem flT_ok [Ltr] {P : Program} {G base : Nat} {X : Kep} {g : FuncId} {ps : List Value} {r : Value} (hf : fl3 r = true)
    (h : ∀ (w : World) (args' : List Value), (∀ b, X b → w.heap[b]? = X.ob b) → AllR (TRel w 3) ps args' → Calls P g ⟨args'⟩ w fun e w' => e = .returned r ∧ Below w.heap.size w w') : PrimOk P (flT g ps r) G X base := by
  intro f args H u H1 E w args' hR hG hr e
  unfold flT at e
  obtain ⟨hc, e⟩ := cond_some e
  simp only [Bool.and_eq_true] at hc
  obtain ⟨rfl, rfl⟩ := Prod.mk.inj (Option.some.inj e)
  rw [Nat.eq_of_beq_eq_true hc.1]
  refine (h w args' hR.fx (allR_of (fun p v v' => tq_rel hR 3 p v v') hc.2 hr)).mono ?_
  rintro e w' ⟨rfl, hb⟩
  exact ⟨r, E, rfl, Ext.refl E, hR.below hb, ⟨hb.os, hb.tape, hb.output, hb.size, fun j hj => hb.block j (hR.lt j hj)⟩, fl3_rel hf⟩
/-- known calls, one list -/
def anyP : List Prim → Prim
  | [], _, _, _ => none
  | p :: l, f, args, H => match p f args H with
    | some r => some r
    | none => anyP l f args H
theorem anyP_ok [Ltr] {P : Program} {G base : Nat} {X : Kep} : ∀ {l : List Prim}, (∀ p ∈ l, PrimOk P p G X base) → PrimOk P (anyP l) G X base
  | [], _ => fun f args H v H1 E w args' hR hG hr e => by cases e
  | p :: l, h => fun f args H v H1 E w args' hR hG hr e => by
    unfold anyP at e
    cases hp : p f args H with
    | some r => rw [hp] at e; obtain rfl := Option.some.inj e; exact h p List.mem_cons_self f args H v H1 E w args' hR hG hr hp
    | none => rw [hp] at e; exact anyP_ok (fun q hq => h q (List.mem_cons_of_mem _ hq)) f args H v H1 E w args' hR hG hr e
end Go.Proofs.YtnggajehngemmaaGreatDoor
/-
  Letters: lists written in place: a structure stored, a rest cleared, slices of a list.
-/
namespace Go.Proofs.YtnggajehngemmaaGreatDoor
open Go Go.RowKit
/-- cells stored one behind the other -/
def storeL (cs : Array Value) (o : Nat) : List Value → Array Value
  | [] => cs
  | u :: us => storeL (cs.setIfInBounds o u) (o + 1) us
theorem storeL_size : ∀ {us : List Value} {cs : Array Value} {o : Nat}, (storeL cs o us).size = cs.size
  | [], _, _ => rfl
  | _ :: us, cs, o => by unfold storeL; rw [storeL_size]; simp
theorem storeL_app : ∀ {us b : List Value} (a c : List Value), us.length = b.length → storeL ⟨a ++ (b ++ c)⟩ a.length us = ⟨a ++ (us ++ c)⟩
  | [], [], a, c, _ => rfl
  | [], _ :: _, _, _, h => by cases h
  | _ :: _, [], _, _, h => by cases h
  | u :: us, x :: b, a, c, h => by
    unfold storeL
    have e : (⟨a ++ (x :: b ++ c)⟩ : Array Value).setIfInBounds a.length u = ⟨(a ++ [u]) ++ (b ++ c)⟩ := by
      apply Array.ext'
      simp
    rw [e]
    have ih := storeL_app (us := us) (b := b) (a ++ [u]) c (by simpa using h)
    rw [List.length_append] at ih
    simp only [List.length_singleton] at ih
    rw [ih]
    simp
theorem addO {b o n : Nat} : (⟨b, o, none⟩ : Addr).add n = ⟨b, o + n, none⟩ := by
  unfold Addr.add
  split
  · rename_i h0
    rw [h0, Nat.add_zero]
  · rfl
theorem setCellO {w : World} {b o : Nat} {u : Value} {cs : Array Value} {t : TypeId} {f : Nat × Nat} (h : w.heap[b]? = some (.cells cs t f)) : w.setCell ⟨b, o, none⟩ u = { w with heap := w.heap.setIfInBounds b (.cells (cs.setIfInBounds o u) t f) } := by
  have hb : b < w.heap.size := (Array.getElem?_eq_some_iff.1 h).1
  unfold World.setCell
  congr 1
  apply Array.ext_getElem?
  intro i
  rw [Array.getElem?_modify, Array.getElem?_setIfInBounds]
  by_cases hi : b = i
  · subst hi
    rw [if_pos rfl, if_pos rfl, h]
    simp [hb]
  · rw [if_neg hi, if_neg hi]
theorem run_storeL {P : Program} {b o : Nat} {t : TypeId} : ∀ (us : List Value) (i : Nat) {w : World} {cs : Array Value}, w.heap[b]? = some (.cells cs t (0, 0)) → us.all single = true → o + i + us.length ≤ cs.size → (∀ u ∈ us, ∀ c, u ≠ .tuple c) →
    (Go.storeCells ⟨b, o, none⟩ us i).run P w = .ok () { w with heap := w.heap.setIfInBounds b (.cells (storeL cs (o + i) us) t (0, 0)) }
  | [], i, w, cs, h, _, _, _ => by
    unfold Go.storeCells storeL
    have e : w.heap.setIfInBounds b (.cells cs t (0, 0)) = w.heap := by
      apply Array.ext_getElem?
      intro j
      rw [Array.getElem?_setIfInBounds]
      by_cases hj : b = j
      · subst hj
        rw [if_pos rfl, h]
        simp [(Array.getElem?_eq_some_iff.1 h).1]
      · rw [if_neg hj]
    rw [e]
    rfl
  | u :: us, i, w, cs, h, hs, hl, ht => by
    simp only [List.all_cons, Bool.and_eq_true] at hs
    simp only [List.length_cons] at hl
    have hlt : o + i < cs.size := by omega
    have hcell : w.cell? ⟨b, o + i, none⟩ = some (cs[o + i]'hlt) := by simp [World.cell?, h, hlt]
    have hfz : w.frozen? ⟨b, o + i, none⟩ = false := by simp [World.frozen?, h]
    have hb : b < w.heap.size := (Array.getElem?_eq_some_iff.1 h).1
    unfold Go.storeCells
    rw [addO, Sem.run_bind, run_store (fun c e => (by rw [e] at hs; cases hs.1)) (ht u List.mem_cons_self) hcell hfz, Result.andThen_ok, setCellO h]
    have h2 : ({ w with heap := w.heap.setIfInBounds b (.cells (cs.setIfInBounds (o + i) u) t (0, 0)) } : World).heap[b]? = some (.cells (cs.setIfInBounds (o + i) u) t (0, 0)) := by simp [hb]
    rw [run_storeL us (i + 1) h2 hs.2 (by simp; omega) fun x hx => ht x (List.mem_cons_of_mem _ hx)]
    show Result.ok () _ = Result.ok () _
    congr 1
    simp only [World.mk.injEq, and_true]
    rw [show storeL cs (o + i) (u :: us) = storeL (cs.setIfInBounds (o + i) u) (o + (i + 1)) us from rfl]
    apply Array.ext_getElem?
    intro j
    simp only [Array.getElem?_setIfInBounds, Array.size_setIfInBounds]
    by_cases hj : b = j
    · simp [hj]
    · simp [hj]
/-- a structure is stored at the place p of list m, which becomes list m' -/
def stA (t p m m' : Nat) (xs : List Value) : ME :=
  ⟨fun op ρ H => match op with
    | .store t' y z => match ρ y, ρ z with
      | .complex .f32 i pp, .agg ⟨zs⟩ => match look i H.h with
        | some (.tok aa) => bif Nat.beq t' t && Nat.beq pp p && Nat.beq aa m && pqs zs xs && Nat.ble 64 i then some (.skip, { H with h := upd i (.tok m') H.h }) else none
        | _ => none
      | _, _ => none
    | _ => none⟩
theorem stA_ok [Ltr] {t p m m' off sz : Nat} {X : Kep} {xs us : List Value} (hz : svp Tryz.prog (Go.sizeOf t) = some sz) (hl : us.length = sz) (hp : ∀ o, Ltr.p p o → o = off) (hx : ∀ (E : Ren) a, RelL E xs a → a = us) (hu : us.all single = true) (hut : ∀ u ∈ us, ∀ c, u ≠ .tuple c)
    (ha : ∀ k y, Ltr.o m k y → ∃ cs tt, y = .cells cs tt (0, 0) ∧ off + sz ≤ cs.size ∧ Ltr.o m' k (.cells (storeL cs off us) tt (0, 0))) : MEOk Tryz.prog X 64 (stA t p m m' xs) where
  ok := by
    intro o ρ ρ' E H H1 nx w hρ R e
    simp only [stA] at e
    split at e
    · rename_i t' y z ho
      split at e
      · rename_i i pp zs hy hzz
        split at e
        · rename_i aa hlk
          obtain ⟨hc, e⟩ := cond_some e
          simp only [Bool.and_eq_true] at hc
          obtain ⟨⟨⟨⟨c1, c2⟩, c3⟩, c4⟩, c5⟩ := hc
          obtain ⟨rfl, rfl⟩ := Prod.mk.inj (Option.some.inj e)
          have ry := hρ y (by rw [ho]; simp [Op.operands])
          have rz := hρ z (by rw [ho]; simp [Op.operands])
          rw [hy] at ry
          rw [hzz, pqs_eq c4] at rz
          generalize hv : ρ' y = v at ry
          generalize hq : ρ' z = q at rz
          cases rz with
          | same hf => cases hf
          | agg rz =>
          rw [hx E _ rz] at hq
          cases ry with
          | same hf => cases hf
          | @ptl _ _ bk k oo hE hs =>
          rw [Nat.eq_of_beq_eq_true c2] at hs
          obtain rfl := hp _ hs
          rw [Nat.eq_of_beq_eq_true c3] at hlk
          rw [Nat.eq_of_beq_eq_true c1] at ho
          obtain ⟨yo, hyo, hlo⟩ := R.oke hlk hE
          obtain ⟨cs, tt, rfl, h1, h3⟩ := ha _ _ hlo
          obtain ⟨R1, b1⟩ := R.setOb (o' := .tok m') (Nat.le_of_ble_eq_true c5) hlk rfl hE ⟨_, rfl, h3⟩
          refine ⟨E, .skip, _, ?_, Ext.refl E, R1, b1, trivial⟩
          simp only [execOp, ho, hv, hq]
          show (Instr.storeAt t _ _ >>= _).run Tryz.prog w = _
          have hst : (Go.storeVar t ⟨bk, oo, none⟩ (.agg ⟨us⟩)).run Tryz.prog w = .ok () { w with heap := w.heap.setIfInBounds bk (.cells (storeL cs oo us) tt (0, 0)) } := by
            unfold Go.storeVar
            rw [Sem.run_bind, svp_run w hz, Result.andThen_ok]
            show (if us.length ≠ sz then _ else Go.storeCells ⟨bk, oo, none⟩ us 0 : Sem Unit).run Tryz.prog w = _
            rw [if_neg (by simp [hl])]
            have := run_storeL (P := Tryz.prog) (o := oo) us 0 hyo hu (by omega) hut
            rw [Nat.add_zero] at this
            exact this
          rw [Sem.run_bind]
          show ((Go.storeVar t ⟨bk, oo, none⟩ (.agg ⟨us⟩)).run Tryz.prog w).andThen _ = _
          rw [hst]
          rfl
        · cases e
      · cases e
    · cases e
  q := by
    intro o ρ H H1 nx e
    simp only [stA] at e
    split at e
    · exact ⟨fun c h => (by cases h), fun h => (by cases h)⟩
    · cases e
/-- list m's rest from a place on -/
def slS (t i m : Nat) (lo : Value) (j : Nat) : OE :=
  ⟨fun o ρ => match o with
    | .slice t' a (some b) none none => Nat.beq t' t && pq (ρ b) lo && (match ρ a with
      | .func (.via ii ⟨[]⟩ jj false) ⟨[]⟩ ⟨[]⟩ => Nat.beq ii i && Nat.beq jj m
      | _ => false)
    | _ => false, .complex .f64 i j⟩
theorem slS_ok [Ltr] {t e i m j N d sz : Nat} {lo : Value} (hu : Tryz.prog.underlying t = some (.slice e)) (hz : svp Tryz.prog (Go.sizeOf e) = some sz) (hm : ∀ k n c, Ltr.s m k n c → n = N ∧ N ≤ c) (hlo : ∀ (E : Ren) z, Rel E lo z → z = .int .i64 d) (hd : d < N) (hzj : Ltr.z j = d * sz) (hj : ∀ k n c, Ltr.s m k n c → Ltr.s j k (N - d) (c - d)) : OEOk Tryz.prog (slS t i m lo j) := by
  intro o ρ ρ' E hρ hf w
  simp only [slS] at hf
  split at hf
  · rename_i t' a b ho
    simp only [Bool.and_eq_true] at hf
    obtain ⟨⟨h1, h2⟩, h3⟩ := hf
    rw [ho] at hρ
    have ra := hρ a (by simp [Op.operands])
    have rb := hρ b (by simp [Op.operands])
    rw [pq_eq h2] at rb
    have e2 := hlo E _ rb
    split at h3
    · rename_i ii jj hx
      rw [hx] at ra
      simp only [Bool.and_eq_true] at h3
      rw [Nat.eq_of_beq_eq_true h3.1, Nat.eq_of_beq_eq_true h3.2] at ra
      generalize hy : ρ' a = v at ra
      rw [Nat.eq_of_beq_eq_true h1] at ho
      cases ra with
      | same hf => cases hf
      | tkn hq hs => have := (hm _ _ _ hs).1; omega
      | @tk _ _ bk k n c f hE hq hs =>
      obtain ⟨rfl, hnc⟩ := hm _ _ _ hs
      have hr2 := Rel.sll (E := E) hE (hj _ _ _ hs)
      rw [hzj] at hr2
      refine ⟨_, ?_, hr2, fun c e => by rw [ho] at e; cases e⟩
      simp only [execOp, ho, hy, e2, Option.map_some, Option.map_none]
      refine run_value ?_
      have hb := run_bounds (P := Tryz.prog) (w := w) (n := n) (m := c) (l := d) (h := n) (lo := some (.int .i64 (d : Int))) (hi := none) rfl rfl (by omega) hnc
      show ((Go.underlying t) >>= _).run Tryz.prog w = _
      rw [Sem.run_bind, run_underlying hu, Result.andThen_ok]
      show ((Go.underlying t) >>= _).run Tryz.prog w = _
      rw [Sem.run_bind, run_underlying hu, Result.andThen_ok]
      dsimp only
      rw [Sem.run_bind, hb, Result.andThen_ok]
      dsimp only
      rw [Sem.run_bind, svp_run w hz, Result.andThen_ok, if_neg (by omega), Option.map_some, addO, Nat.zero_add]
      rfl
    · cases h3
  · cases hf
/-- list m's beginning: list m' -/
def slP (t i m : Nat) (hi : Value) (m' : Nat) : OE :=
  ⟨fun o ρ => match o with
    | .slice t' a none (some b) none => Nat.beq t' t && pq (ρ b) hi && (match ρ a with
      | .func (.via ii ⟨[]⟩ jj false) ⟨[]⟩ ⟨[]⟩ => Nat.beq ii i && Nat.beq jj m
      | _ => false)
    | _ => false, TOK i m'⟩
theorem slP_ok [Ltr] {t e i m m' N d sz : Nat} {hi : Value} (hu : Tryz.prog.underlying t = some (.slice e)) (hz : svp Tryz.prog (Go.sizeOf e) = some sz) (hm : ∀ k n c, Ltr.s m k n c → n = N ∧ N ≤ c) (hhi : ∀ (E : Ren) z, Rel E hi z → z = .int .i64 d) (hd : d ≤ N) (hN : 0 < N) (hj : ∀ k n c, Ltr.s m k n c → Ltr.s m' k d c) : OEOk Tryz.prog (slP t i m hi m') := by
  intro o ρ ρ' E hρ hf w
  simp only [slP] at hf
  split at hf
  · rename_i t' a b ho
    simp only [Bool.and_eq_true] at hf
    obtain ⟨⟨h1, h2⟩, h3⟩ := hf
    rw [ho] at hρ
    have ra := hρ a (by simp [Op.operands])
    have rb := hρ b (by simp [Op.operands])
    rw [pq_eq h2] at rb
    have e2 := hhi E _ rb
    split at h3
    · rename_i ii jj hx
      rw [hx] at ra
      simp only [Bool.and_eq_true] at h3
      rw [Nat.eq_of_beq_eq_true h3.1, Nat.eq_of_beq_eq_true h3.2] at ra
      generalize hy : ρ' a = v at ra
      rw [Nat.eq_of_beq_eq_true h1] at ho
      cases ra with
      | same hf => cases hf
      | tkn hq hs => have := (hm _ _ _ hs).1; omega
      | @tk _ _ bk k n c f hE hq hs =>
      obtain ⟨rfl, hnc⟩ := hm _ _ _ hs
      refine ⟨.slice (some ⟨bk, 0, none⟩) d c, ?_, ?_, fun c e => by rw [ho] at e; cases e⟩
      rotate_left
      · show Rel E (TOK i m') _
        exact .tk hE hq (hj _ _ _ hs)
      simp only [execOp, ho, hy, e2, Option.map_some, Option.map_none]
      refine run_value ?_
      have hb := run_bounds (P := Tryz.prog) (w := w) (n := n) (m := c) (l := 0) (h := d) (lo := none) (hi := some (.int .i64 (d : Int))) rfl rfl (by omega) (by omega)
      show ((Go.underlying t) >>= _).run Tryz.prog w = _
      rw [Sem.run_bind, run_underlying hu, Result.andThen_ok]
      show ((Go.underlying t) >>= _).run Tryz.prog w = _
      rw [Sem.run_bind, run_underlying hu, Result.andThen_ok]
      dsimp only
      rw [Sem.run_bind, hb, Result.andThen_ok]
      dsimp only
      rw [Sem.run_bind, svp_run w hz, Result.andThen_ok, if_neg (by omega), Option.map_some, Nat.zero_mul, addO]
      rfl
    · cases h3
  · cases hf
/-- the rest letter j of list m is cleared: list m' -/
def clT (t j m m' : Nat) : ME :=
  ⟨fun op ρ H => match op with
    | .call c => match c.callee, c.args.toList, c.argTypes.toList with
      | .builtin .clear, [x], [t'] => match ρ x with
        | .complex .f64 i jj => match look i H.h with
          | some (.tok aa) => bif Nat.beq t' t && Nat.beq jj j && Nat.beq aa m && Nat.ble 64 i then some (.value (.tuple ⟨[]⟩), { H with h := upd i (.tok m') H.h }) else none
          | _ => none
        | _ => none
      | _, _, _ => none
    | _ => none⟩
theorem clT_ok [Ltr] {t e j m m' off n : Nat} {X : Kep} {z : Value} {us : List Value} (hu : Tryz.prog.underlying t = some (.slice e)) (hz : svp Tryz.prog (Go.zeroValue e) = some z) (hus : (Go.Builtin.zeroCells z.cells n).toList = us) (hn : 0 < n) (hzj : Ltr.z j = off) (hj : ∀ k n' c, Ltr.s j k n' c → n' = n) (h1 : us.all single = true) (hut : ∀ u ∈ us, ∀ c, u ≠ .tuple c)
    (ha : ∀ k y, Ltr.o m k y → ∃ cs tt, y = .cells cs tt (0, 0) ∧ off + us.length ≤ cs.size ∧ Ltr.o m' k (.cells (storeL cs off us) tt (0, 0))) : MEOk Tryz.prog X 64 (clT t j m m') where
  ok := by
    intro o ρ ρ' E H H1 nx w hρ R e0
    simp only [clT] at e0
    split at e0
    · rename_i c ho
      split at e0
      · rename_i x t' hcal hargs hty
        split at e0
        · rename_i i jj hx
          split at e0
          · rename_i aa hl
            obtain ⟨hc, e0⟩ := cond_some e0
            simp only [Bool.and_eq_true] at hc
            obtain ⟨⟨⟨c1, c2⟩, c3⟩, c4⟩ := hc
            obtain ⟨rfl, rfl⟩ := Prod.mk.inj (Option.some.inj e0)
            obtain ⟨cal, ⟨cargs⟩, ⟨ctys⟩⟩ := c
            simp only at hcal hargs hty
            subst hcal hargs hty
            have rx := hρ x (by rw [ho]; simp [Op.operands, Call.operands])
            rw [hx] at rx
            generalize hv : ρ' x = v at rx
            cases rx with
            | same hf => cases hf
            | @sll _ _ bk k n' cc hE hs =>
            rw [Nat.eq_of_beq_eq_true c2] at hs hv
            obtain rfl := hj _ _ _ hs
            rw [hzj] at hv
            rw [Nat.eq_of_beq_eq_true c3] at hl
            rw [Nat.eq_of_beq_eq_true c1] at ho
            obtain ⟨yo, hyo, hlo⟩ := R.oke hl hE
            obtain ⟨cs, tt, rfl, h2, h3⟩ := ha _ _ hlo
            obtain ⟨R1, b1⟩ := R.setOb (o' := .tok m') (Nat.le_of_ble_eq_true c4) hl rfl hE ⟨_, rfl, h3⟩
            refine ⟨E, .value (.tuple ⟨[]⟩), _, ?_, Ext.refl E, R1, b1, .same rfl⟩
            simp only [execOp, ho, resolve, invoke, pure_bind, Go.builtin]
            have hst := run_storeL (P := Tryz.prog) (o := off) us 0 hyo h1 (by omega) hut
            rw [Nat.add_zero] at hst
            obtain ⟨q, rfl⟩ : ∃ q, n' = q + 1 := ⟨n' - 1, by omega⟩
            refine run_value ?_
            have em : (Array.map ρ' (⟨[x]⟩ : Array Operand)) = #[.slice (some ⟨bk, off, none⟩) (q + 1) cc] := by rw [← hv]; simp
            rw [em]
            unfold Builtin.clear_
            have g1 : (⟨[t]⟩ : Array TypeId)[0]? = some t := rfl
            have g2 : (#[Value.slice (some ⟨bk, off, none⟩) (q + 1) cc] : Array Value)[0]? = some (Value.slice (some ⟨bk, off, none⟩) (q + 1) cc) := rfl
            rw [g1, g2]
            dsimp only
            rw [Sem.run_bind, run_underlying hu, Result.andThen_ok]
            show Sem.run Tryz.prog ((Go.zeroValue e) >>= fun z => (Go.storeCells ⟨bk, off, none⟩ (Go.Builtin.zeroCells z.cells (q + 1)).toList 0) >>= fun _ => Pure.pure (Value.tuple #[])) w = _
            rw [Sem.run_bind, svp_run w hz, Result.andThen_ok, Sem.run_bind, hus, hst]
            rfl
          · cases e0
        · cases e0
      · cases e0
    · cases e0
  q := by
    intro o ρ H H1 nx e
    simp only [clT] at e
    split at e
    · split at e
      · rename_i x t' hcal hargs hty
        refine ⟨fun c h => (by cases h), fun h => ?_⟩
        simp [quiet, hcal] at h
      · cases e
    · cases e
/-- the address of an element of the rest letter j of the list at name i -/
def iaS (t i j : Nat) (y : Value) (p : Nat) : OE :=
  ⟨fun o ρ => match o with
    | .indexAddr t' a b => Nat.beq t' t && pq (ρ b) y && (match ρ a with
      | .complex .f64 ii jj => Nat.beq ii i && Nat.beq jj j
      | _ => false)
    | _ => false, .complex .f32 i p⟩
theorem iaS_ok [Ltr] {t e i j p N d sz off : Nat} {y : Value} (hu : Tryz.prog.underlying t = some (.slice e)) (hz : svp Tryz.prog (Go.sizeOf e) = some sz) (hj : ∀ k n c, Ltr.s j k n c → n = N) (hk : ∀ (E : Ren) z, Rel E y z → z = .int .i64 d) (hd : d < N) (hzj : Ltr.z j = off) (hp : Ltr.p p (off + d * sz)) : OEOk Tryz.prog (iaS t i j y p) := by
  intro o ρ ρ' E hr hf w
  simp only [iaS] at hf
  split at hf
  · rename_i t' a b ho
    simp only [Bool.and_eq_true] at hf
    obtain ⟨⟨h1, h2⟩, h3⟩ := hf
    rw [ho] at hr
    have ra := hr a (by simp [Op.operands])
    have rb := hr b (by simp [Op.operands])
    rw [pq_eq h2] at rb
    have e2 := hk E _ rb
    split at h3
    · rename_i ii jj hx
      rw [hx] at ra
      simp only [Bool.and_eq_true] at h3
      generalize hy : ρ' a = v at ra
      cases ra with
      | same hf => cases hf
      | @sll _ _ bk k n c hE hs =>
      rw [Nat.eq_of_beq_eq_true h3.2] at hs hy
      rw [Nat.eq_of_beq_eq_true h3.1] at hE
      obtain rfl := hj _ _ _ hs
      rw [hzj] at hy
      rw [Nat.eq_of_beq_eq_true h1] at ho
      refine ⟨.pointer (some ⟨bk, off + d * sz, none⟩), ?_, .ptl hE hp, fun c e => by rw [ho] at e; cases e⟩
      simp only [execOp, ho, hy, e2]
      refine run_value ?_
      show ((Go.asIntOf (.int .i64 (d : Int))) >>= _).run Tryz.prog w = _
      rw [Sem.run_bind]
      show (Result.ok (IntKind.i64, (d : Int)) w).andThen _ = _
      rw [Result.andThen_ok]
      dsimp only
      rw [Sem.run_bind, run_underlying hu, Result.andThen_ok]
      simp only [pure_bind]
      rw [Sem.run_bind, run_underlying hu, Result.andThen_ok]
      rw [if_pos (by omega), Sem.run_bind, svp_run w hz, Result.andThen_ok, Int.toNat_natCast, addO]
      rfl
    · cases h3
  · cases hf
end Go.Proofs.YtnggajehngemmaaGreatDoor
/-
  slices.Compact at weekdays no two of which, one behind the other, are the same: nothing changes.
-/
namespace Go.Proofs.YtnggajehngemmaaGreatDoor
open Go Go.RowKit
theorem rowN_at {V : List (Int × Int)} {t kk k : Nat} {y : Obj} (h : RowL (flatN V) t 2 kk y) (hk : k < V.length) : ∃ cs tt, y = .cells cs tt (0, 0) ∧ ∀ (j : Nat) (u : Value), [Value.int .i64 (V.getD k (0, 0)).1, .int .i64 (V.getD k (0, 0)).2][j]? = some u → cs[k * 2 + j]? = some u := by
  obtain ⟨ys, rfl, -, -⟩ := h
  refine ⟨_, _, rfl, fun j u hu => ?_⟩
  obtain ⟨h1, h2⟩ := flatN_at hk
  have e : V.getD k (0, 0) = V[k] := by simp [hk]
  rw [e] at hu
  have hl := flatN_len V
  show (flatN V ++ ys).toArray[k * 2 + j]? = some u
  rw [List.getElem?_toArray]
  match j with
  | 0 =>
    obtain rfl : Value.int .i64 V[k].1 = u := by simpa using hu
    rw [Nat.add_zero, List.getElem?_append_left (by omega)]
    exact h1
  | 1 =>
    obtain rfl : Value.int .i64 V[k].2 = u := by simpa using hu
    rw [List.getElem?_append_left (by omega)]
    exact h2
  | j + 2 => simp at hu
abbrev cnF : FuncId := 57
abbrev cnL (V : List (Int × Int)) (k : Nat) : Ltr := ⟨fun i => [Value.int .i64 k, .int .i64 V.length, .int .i64 (k - 1 : Nat), .int .i64 (V.getD k (0, 0)).1, .int .i64 (V.getD k (0, 0)).2, .int .i64 (V.getD (k - 1) (0, 0)).1, .int .i64 (V.getD (k - 1) (0, 0)).2, .int .i64 (k + 1 : Nat)][i]?, fun _ _ => False, fun a kk y => a = 1 ∧ RowL (flatN V) 51 2 kk y, fun j kk n c => j = 1 ∧ n = V.length ∧ c = kk, fun p o => (p = 0 ∧ o = k * 2) ∨ (p = 1 ∧ o = (k - 1) * 2), fun _ => 0⟩
noncomputable def cnB : Code := inLoop (loopOf Tryz.prog cnF 0)
noncomputable def cnS : St := ⟨fr 61 [(0, TOK 64 1), (3, Lt 0)], ⟨66, [(64, .tok 1)]⟩, []⟩
noncomputable def cnX : St := ⟨fr 61 [(0, TOK 64 1)], ⟨66, [(64, .tok 1)]⟩, []⟩
def cnT0 : Tra := traS [(.int .i64 1, Lt 0), (Lt 1, Lt 1)] [(1, 1)] [(1, 1)]
noncomputable def cnC : CE := ⟨.loop cnB, cnT0, 66, [], cnS, .exit 0, cnX⟩
def cnO : List OE := [lenT 34 1 (Lt 1), binE .lss (Lt 0) (Lt 1) (.bool true), binE .sub (Lt 0) (.int .i64 1) (Lt 2), eqA .eql 51 [Lt 3, Lt 4] [Lt 5, Lt 6] false, binE .add (Lt 0) (.int .i64 1) (Lt 7), iaT 34 64 1 (Lt 0) 0, iaT 34 64 1 (Lt 2) 1]
def cnM : List ME := [ldA 51 1 0 [Lt 3, Lt 4], ldA 51 1 1 [Lt 5, Lt 6]]
def cnT : Tra := traS [(Lt 7, Lt 0), (Lt 1, Lt 1)] [(1, 1)] [(1, 1)]
def cnTx : Tra := traS [(Lt 1, Lt 1)] [(1, 1)] [(1, 1)]
theorem cn_on : ComG cnO cnM [] [] 60 cnB cnS .normal cnT 66 [] cnS := by show _ = _; kernel_rfl
theorem cn_out : ComG [lenT 34 1 (Lt 1), binE .lss (Lt 0) (Lt 1) (.bool false)] [] [] [] 60 cnB cnS (.exit 0) cnTx 66 [] cnX := by show _ = _; kernel_rfl
theorem cn_run : SymW [lenT 34 1 (Lt 1), binE .lss (Lt 1) (.int .i64 2) (.bool false)] [] [cnC] (prL []) 60 cnF 1 [TOK 64 1] (TOK 64 1) 1 := by delta SymW; show _ = _; kernel_rfl
theorem cn_small : SymW [lenT 34 1 (Lt 1), binE .lss (Lt 1) (.int .i64 2) (.bool true)] [] [] (prL []) 60 cnF 1 [TOK 64 1] (TOK 64 1) 1 := by delta SymW; show _ = _; kernel_rfl
theorem cn_nil : SymG [] [] [] [] 60 cnF [.slice none 0 0] (.slice none 0 0) := by delta SymG; show _ = _; kernel_rfl
theorem cn_go (V : List (Int × Int)) (k k' : Nat) {v : List (Value × Value)} (hv : ∀ p ∈ v, ∀ (E E' : Ren) (x : Value), @Rel (cnL V k) E p.1 x → @Rel (cnL V k') E' p.2 x) : TraOk (cnL V k) (cnL V k') (traS v [(1, 1)] [(1, 1)]) :=
  traS_ok hv (ac ⟨rfl, fun _ _ _ h => h⟩ an) (ac (fun _ _ h => h) an)
theorem cn_ce {V : List (Int × Int)} {X : Kep} (hl : 2 ≤ V.length) (hl2 : V.length ≤ 1000000) (hd : ∀ i, i + 1 < V.length → V.getD i (0, 0) ≠ V.getD (i + 1) (0, 0)) : @CEOk (cnL V 1) Tryz.prog 64 X 64 cnC := by
  refine @ce_of Tryz.prog 64 X 64 (cnL V 1) Nat (fun k => cnL V k) (fun _ => cnS) (fun k => V.length - k) (fun k => 1 ≤ k ∧ k ≤ V.length) cnC cnB rfl ?_ 1 ⟨by omega, by omega⟩ rfl
    (cn_go V 1 1 (v := [(.int .i64 1, Lt 0), (Lt 1, Lt 1)]) (ac (fl_go rfl rfl rfl) (ac (lt_go rfl) an))) an
  rintro k ⟨h1, h2⟩ ro kk E a w' h
  let L : Ltr := cnL V k
  have hlen : @OEOkX L Tryz.prog X (lenT 34 1 (Lt 1)) := (@lenT_ok L 34 _ 1 V.length (Lt 1) Tryz.underlying34 (fun _ _ _ h => h.2.1) (@to_ltr L 1 _ rfl rfl)).x
  have hs : ∀ k n c, L.s 1 k n c → n = V.length := fun _ _ _ h => h.2.1
  rcases Nat.lt_or_ge k V.length with hlt | hge
  · refine r_on (k + 1) (toldW L (O := cnO) (M := cnM) (C := []) ?_ ?_ an (@prL_ok _ _ _ L 64 [] an) (cn_go V k (k + 1) (v := [(Lt 7, Lt 0), (Lt 1, Lt 1)]) ?_) an cn_on h) ⟨by omega, by omega⟩ (by omega)
    · refine ac hlen (ac (@ll L _ _ _ _ _ _ _ rfl rfl (xi_lt (decide_eq_true (by omega))) (@to_flat L _ rfl)).x (ac (@li L _ _ _ _ _ _ rfl rfl (xi_sub (c := (k - 1 : Nat)) (by omega) (by omega)) (@to_ltr L 2 _ rfl rfl)).x (ac (@eqA_ok L _ _ _ _ _ _ _ (@rl_l L _ _ _ _ rfl (@rl_l L _ _ _ _ rfl (@rl_nil L))) (@rl_l L _ _ _ _ rfl (@rl_l L _ _ _ _ rfl (@rl_nil L))) ?_).x (ac (@li L _ _ _ _ _ _ rfl rfl (xi_add (c := (k + 1 : Nat)) (by omega) (by omega)) (@to_ltr L 7 _ rfl rfl)).x (ac (@iaT_ok L _ _ 64 1 0 V.length k 2 (Lt 0) Tryz.underlying34 (by kernel_rfl) hs (@is_ltr L 0 _ rfl) hlt (.inl ⟨rfl, rfl⟩)).x (ac (@iaT_ok L _ _ 64 1 1 V.length (k - 1) 2 (Lt 2) Tryz.underlying34 (by kernel_rfl) hs (@is_ltr L 2 _ rfl) (by omega) (.inr ⟨rfl, rfl⟩)).x an))))))
      have := hd (k - 1) (by omega)
      rw [show k - 1 + 1 = k by omega] at this
      cases hb : ((V.getD k (0, 0)).1 == (V.getD (k - 1) (0, 0)).1 && (V.getD k (0, 0)).2 == (V.getD (k - 1) (0, 0)).2) with
      | false => rfl
      | true =>
        simp only [Bool.and_eq_true, beq_iff_eq] at hb
        exact absurd (Prod.ext hb.1.symm hb.2.symm) this
    · refine ac ?_ (ac ?_ an)
      · exact @ldA_ok L 51 1 0 (k * 2) 2 X 64 [Lt 3, Lt 4] [.int .i64 (V.getD k (0, 0)).1, .int .i64 (V.getD k (0, 0)).2] (by kernel_rfl) (by kernel_rfl) rfl (fun kk y h => rowN_at h.2 hlt) (fun o h => by rcases h with ⟨_, h⟩ | ⟨h, _⟩; exact h; cases h) (fun E => @RelL.cons L E _ _ _ _ (@to_ltr L 3 _ rfl rfl E) (@RelL.cons L E _ _ _ _ (@to_ltr L 4 _ rfl rfl E) (@RelL.nil L E)))
      · exact @ldA_ok L 51 1 1 ((k - 1) * 2) 2 X 64 [Lt 5, Lt 6] [.int .i64 (V.getD (k - 1) (0, 0)).1, .int .i64 (V.getD (k - 1) (0, 0)).2] (by kernel_rfl) (by kernel_rfl) rfl (fun kk y h => rowN_at h.2 (by omega)) (fun o h => by rcases h with ⟨h, _⟩ | ⟨_, h⟩; cases h; exact h) (fun E => @RelL.cons L E _ _ _ _ (@to_ltr L 5 _ rfl rfl E) (@RelL.cons L E _ _ _ _ (@to_ltr L 6 _ rfl rfl E) (@RelL.nil L E)))
    · exact ac (lt_go rfl) (ac (lt_go rfl) an)
  · refine r_out (by intro h; cases h) (toldW L ?_ an an (@prL_ok _ _ _ L 64 [] an) (cn_go V k 1 (v := [(Lt 1, Lt 1)]) (ac (lt_go rfl) an)) an cn_out h)
    exact ac hlen (ac (@ll L _ _ _ _ _ _ _ rfl rfl (xi_lt (decide_eq_false (by omega))) (@to_flat L _ rfl)).x an)
theorem own_row {w : World} {base : Nat} {v : Value} {V : List (Int × Int)} {g cap : Nat} {y : Obj} (hv : v = .slice (some ⟨g, 0, none⟩) V.length cap) (hb : base ≤ g) (hy : w.heap[g]? = some y) (h : RowL (flatN V) 51 2 cap y) : OwnN w base v V := by
  obtain ⟨cur, rfl, h1, h2, h3, h4⟩ := h.row (flatN_len V) (by omega)
  exact ⟨flatN_len V, .inr ⟨g, cap, cur, hv, hb, hy, h1, h2, h3, h4⟩⟩
theorem compactN_id {w : World} {base : Nat} {v : Value} {V : List (Int × Int)} (h : OwnN w base v V) (hl : V.length ≤ 1000000) (hd : ∀ i, i + 1 < V.length → V.getD i (0, 0) ≠ V.getD (i + 1) (0, 0)) :
    Calls Tryz.prog cnF #[v] w fun e w' => e = .returned v ∧ OwnN w' base v V ∧ ∀ B b, B ≤ base → B ≤ w.heap.size → Exc B b w w' := by
  rcases h.2 with ⟨rfl, hn⟩ | ⟨g, cap, cur, rfl, hb, hg, h1, h2, h3, h4⟩
  · obtain rfl : V = [] := List.eq_nil_of_length_eq_zero hn
    refine (symGF noLtr 60 an an an an (@RelL.cons noLtr _ _ _ _ _ (@to_flat noLtr _ rfl _) (@RelL.nil noLtr _)) rfl cn_nil).mono ?_
    rintro e w' ⟨rfl, hb⟩
    exact ⟨rfl, OwnN.nil _ _, fun B b _ h2 => Exc.of (hb.mono h2)⟩
  · have hrow : RowL (flatN V) 51 2 cap (.cells cur 51 (0, 0)) := RowL.of h3 h4 h1 h2
    let L : Ltr := cnL V 1
    have go : ∀ {O : List OE} {C : List CE}, (∀ e ∈ O, @OEOkX L Tryz.prog (kepB w g) e) → (∀ c ∈ C, @CEOk L Tryz.prog 64 (kepB w g) 64 c) → SymW O [] C (prL []) 60 cnF 1 [TOK 64 1] (TOK 64 1) 1 →
        Calls Tryz.prog cnF #[.slice (some ⟨g, 0, none⟩) V.length cap] w fun e w' => e = .returned (.slice (some ⟨g, 0, none⟩) V.length cap) ∧ OwnN w' base (.slice (some ⟨g, 0, none⟩) V.length cap) V ∧ ∀ B b, B ≤ base → B ≤ w.heap.size → Exc B b w w' := by
      intro O C hO hC e
      refine (symW L 60 hO an hC (@prL_ok _ _ _ L 64 [] an) hg ⟨rfl, hrow⟩ (@RelL.cons L _ _ _ _ _ (@Rel.tk L _ _ _ _ _ _ _ _ startB_64 startB_65 ⟨rfl, rfl, rfl⟩) (@RelL.nil L _)) e).mono ?_
      rintro e w' ⟨u, F, y', rfl, x, ru, hy, hrow', hk⟩
      cases ru with
      | same hf => cases hf
      | tkn hf hs => rw [x _ _ startB_65] at hf; cases hf
      | tk hE hf hs =>
        rw [x _ _ startB_64] at hE
        obtain ⟨rfl, rfl⟩ := Prod.mk.inj (Option.some.inj hE)
        obtain ⟨-, rfl, rfl⟩ := hs
        exact ⟨rfl, own_row rfl hb hy hrow'.2, fun B b hB h2 => ⟨hk.os, hk.tape, hk.output, hk.size, fun j hj _ => hk.block j ⟨by omega, by omega⟩⟩⟩
    have hlen : @OEOkX L Tryz.prog (kepB w g) (lenT 34 1 (Lt 1)) := (@lenT_ok L 34 _ 1 V.length (Lt 1) Tryz.underlying34 (fun _ _ _ h => h.2.1) (@to_ltr L 1 _ rfl rfl)).x
    rcases Nat.lt_or_ge V.length 2 with hlt | hge
    · exact go (ac hlen (ac (@li L _ _ _ _ _ _ rfl rfl (xi_lt (decide_eq_true (by omega))) (@to_flat L _ rfl)).x an)) an cn_small
    · exact go (ac hlen (ac (@li L _ _ _ _ _ _ rfl rfl (xi_lt (decide_eq_false (by omega))) (@to_flat L _ rfl)).x an)) (ac (cn_ce hge hl hd) an) cn_run
end Go.Proofs.YtnggajehngemmaaGreatDoor
