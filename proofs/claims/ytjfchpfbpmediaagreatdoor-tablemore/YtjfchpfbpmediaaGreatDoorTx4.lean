/-
  Letters: addresses, fields, what lies in memory that stays, a kept map's answer; a map from texts to numbers.
-/
import Derived.Test.YtjfchpfbpmediaaGreatDoorTw4
import Derived.Test.YtjfchpfbpmediaaGreatDoorEvV
namespace Go.Proofs.YtjfchpfbpmediaaGreatDoor
open Go Go.RowKit
/-- an address that is not nil -/
def nilE (x : Value) : OE := ⟨fun o ρ => match o with | .nilCheck a => pq (ρ a) x | _ => false, x⟩
theorem nil_ok [Ltr] {i : Nat} {A : Addr} (hi : Ltr.v i = some (.pointer (some A))) : OEOk Tryz.prog (nilE (Lt i)) := by
  intro o ρ ρ' E hr hf w
  simp only [nilE] at hf
  split at hf
  · rename_i a ho
    rw [ho] at hr
    have ra := hr a (by simp [Op.operands])
    rw [pq_eq hf] at ra
    have e1 := is_ltr hi E _ ra
    exact ⟨_, by simp [execOp, ho, e1], .ltr hi rfl, fun c e => (by rw [ho] at e; cases e)⟩
  · cases hf
/-- a field's address -/
def faE (t f : Nat) (x r : Value) : OE := ⟨fun o ρ => match o with | .fieldAddr t' a g => Nat.beq t' t && Nat.beq g f && pq (ρ a) x | _ => false, r⟩
theorem fa_of [Ltr] {i j b t f off : Nat} (h : ∀ w, (Instr.fieldAt t (.pointer (some ⟨b, 0, none⟩)) f).run Tryz.prog w = .ok (.pointer (some ⟨b, off, none⟩)) w) (hi : Ltr.v i = some (.pointer (some ⟨b, 0, none⟩))) (hj : Ltr.v j = some (.pointer (some ⟨b, off, none⟩))) : OEOk Tryz.prog (faE t f (Lt i) (Lt j)) := by
  intro o ρ ρ' E hr hf w
  simp only [faE] at hf
  split at hf
  · rename_i t' a g hop
    simp only [Bool.and_eq_true] at hf
    obtain ⟨⟨h1, h2⟩, h3⟩ := hf
    rw [hop] at hr
    have ra := hr a (by simp [Op.operands])
    rw [pq_eq h3] at ra
    have e1 := is_ltr hi E _ ra
    have h1 := Nat.eq_of_beq_eq_true h1
    have h2 := Nat.eq_of_beq_eq_true h2
    subst h1 h2
    refine ⟨.pointer (some ⟨b, off, none⟩), ?_, .ltr hj rfl, fun c e => (by rw [hop] at e; cases e)⟩
    simp only [execOp, hop, e1]
    exact run_value (h w)
  · cases hf
theorem fa_tab1 (b : Nat) (w : World) : (Instr.fieldAt 42 (.pointer (some ⟨b, 0, none⟩)) 1).run Tryz.prog w = .ok (.pointer (some ⟨b, 1, none⟩)) w := by go_simp
theorem fa_tab2 (b : Nat) (w : World) : (Instr.fieldAt 42 (.pointer (some ⟨b, 0, none⟩)) 2).run Tryz.prog w = .ok (.pointer (some ⟨b, 2, none⟩)) w := by go_simp
theorem fa_tab3 (b : Nat) (w : World) : (Instr.fieldAt 42 (.pointer (some ⟨b, 0, none⟩)) 3).run Tryz.prog w = .ok (.pointer (some ⟨b, 3, none⟩)) w := by go_simp
/-- what lies at an address that stays -/
theorem ld_ok [Ltr] {X : Kep} {t i : Nat} {A : Addr} {u r : Value} (ht : svp Tryz.prog (Go.isAgg t) = some false) (hi : Ltr.v i = some (.pointer (some A))) (hr : ∀ E : Ren, Rel E r u) (h : ∀ w : World, (∀ b, X b → w.heap[b]? = X.ob b) → w.cell? A = some u) : OEOkX Tryz.prog X (ldE t (Lt i) r) := by
  intro o ρ ρ' E hrr hf w hx
  simp only [ldE] at hf
  split at hf
  · rename_i t' a ho
    simp only [Bool.and_eq_true] at hf
    obtain ⟨h2, h4⟩ := hf
    rw [ho] at hrr
    have ra := hrr a (by simp [Op.operands])
    rw [pq_eq h4] at ra
    rw [Nat.eq_of_beq_eq_true h2] at ho
    have e1 := is_ltr hi E _ ra
    have hc := h w hx
    refine ⟨u, ?_, hr E, fun c e => (by rw [ho] at e; cases e)⟩
    simp only [execOp, ho, e1]
    refine run_value ?_
    show ((Instr.sureAddr _) >>= _).run Tryz.prog w = _
    show ((Go.isAgg t) >>= _).run Tryz.prog w = _
    rw [Sem.run_bind, svp_run w ht, Result.andThen_ok]
    show (Go.load _).run Tryz.prog w = _
    simp [Go.load, Sem.run, hc]
  · cases hf
theorem fk2_self {P : Program} {kt : TypeId} (h : twoK P kt = true) (a b : Int) (w : World) : ∀ {es : List MapEntry} (i : Nat) {r : Option (Nat × Value)}, fk2 a b es i = some r → (Instr.findAsking kt (.agg #[.int .i64 a, .int .i64 b]) es i).run P w = .ok r w
  | [], i, r, e => by obtain rfl := Option.some.inj e; rfl
  | x :: es, i, r, e => by
    obtain ⟨k, v, n⟩ := x
    unfold fk2 at e
    dsimp only at e
    split at e
    · rename_i c d
      have hq := eq2_run h a b c d w
      cases hb : (ibeq a c && ibeq b d) with
      | true =>
        rw [hb] at e hq
        obtain rfl := Option.some.inj e
        simp only [Instr.findAsking]
        rw [Sem.run_bind, hq]
        rfl
      | false =>
        rw [hb] at e hq
        simp only [Instr.findAsking]
        rw [Sem.run_bind, hq]
        exact fk2_self h a b w (i + 1) e
    · cases e
def valOr (z : Value) : Option (Nat × Value) → Value
  | some p => p.2
  | none => z
theorem lookup_run {P : Program} {t kt el : TypeId} {mb c : Nat} {es : List MapEntry} {a b : Int} {q : Option (Nat × Value)} {z : Value} {w : World} (hu : P.underlying t = some (.map kt el)) (h2 : twoK P kt = true) (h3 : svp P (Go.zeroValue el) = some z) (hx : w.heap[mb]? = some (.map ⟨es⟩ c)) (hf : fk2 a b es 0 = some q) :
    (Instr.lookup t (.map (some mb)) (.agg ⟨[.int .i64 a, .int .i64 b]⟩) false).run P w = .ok (valOr z q) w := by
  obtain ⟨f, g, k1, k2, hku, -⟩ := twoK_of h2
  have h1 : (Instr.findKey kt (.agg ⟨[.int .i64 a, .int .i64 b]⟩) es).run P w = .ok q w := by
    unfold Instr.findKey
    rw [Sem.run_bind, run_underlying hku, Result.andThen_ok]
    rcases findNow_agg (kind := .struct #[f, g]) (l := #[.int .i64 a, .int .i64 b]) (es := es) (i := 0) with hn | hn
    · rw [hn]; exact fk2_self h2 a b w 0 hf
    · subst hn
      obtain rfl := Option.some.inj hf
      rfl
  have hc : ck P kt (.agg ⟨[.int .i64 a, .int .i64 b]⟩) = true := h2
  show ((Go.underlying t) >>= _).run P w = _
  rw [Sem.run_bind, run_underlying hu, Result.andThen_ok]
  dsimp only
  rw [Sem.run_bind, run_getObj hx, Result.andThen_ok]
  dsimp only
  rw [pure_bind, Sem.run_bind, ck_run hc _ w, Result.andThen_ok, Sem.run_bind, h1, Result.andThen_ok]
  cases q with
  | none => dsimp only; rw [Sem.run_bind, svp_run w h3]; rfl
  | some p => rfl
/-- a kept map's answer -/
def lkE (t : TypeId) (m x y r : Value) : OE :=
  ⟨fun o ρ => match o with
    | .lookup t' q k false => match ρ k with
      | .agg ⟨[a, b]⟩ => Nat.beq t' t && pq (ρ q) m && pq a x && pq b y
      | _ => false
    | _ => false, r⟩
theorem lk_ok [Ltr] {X : Kep} {i r mb c : Nat} {x y : Value} {t kt el : TypeId} {es : List MapEntry} {a b : Int} {q : Option (Nat × Value)} {z : Value} (hu : Tryz.prog.underlying t = some (.map kt el)) (h2 : twoK Tryz.prog kt = true) (h3 : svp Tryz.prog (Go.zeroValue el) = some z)
    (hi : Ltr.v i = some (.map (some mb))) (hx : ∀ (E : Ren) u, Rel E x u → u = .int .i64 a) (hy : ∀ (E : Ren) u, Rel E y u → u = .int .i64 b) (hf : fk2 a b es 0 = some q) (hr : Ltr.v r = some (valOr z q)) (hs : sgl (valOr z q) = true) (h : ∀ w : World, (∀ b, X b → w.heap[b]? = X.ob b) → w.heap[mb]? = some (.map ⟨es⟩ c)) :
    OEOkX Tryz.prog X (lkE t (Lt i) x y (Lt r)) := by
  intro o ρ ρ' E hrr hf' w hxx
  simp only [lkE] at hf'
  split at hf'
  · rename_i t' q' k ho
    split at hf'
    · rename_i a' b' hk
      simp only [Bool.and_eq_true] at hf'
      obtain ⟨⟨⟨g1, g2⟩, g3⟩, g4⟩ := hf'
      rw [ho] at hrr
      have rm := hrr q' (by simp [Op.operands])
      have rk := hrr k (by simp [Op.operands])
      rw [pq_eq g2] at rm
      rw [hk, pq_eq g3, pq_eq g4] at rk
      have e1 := is_ltr hi E _ rm
      have e2 : ρ' k = .agg ⟨[.int .i64 a, .int .i64 b]⟩ := by
        generalize ρ' k = z at rk
        cases rk with
        | same hf => simp [flat] at hf
        | agg r0 =>
          cases r0 with
          | cons r1 t1 =>
            cases t1 with
            | cons r2 t2 =>
              cases t2
              rw [hx E _ r1, hy E _ r2]
      rw [Nat.eq_of_beq_eq_true g1] at ho
      refine ⟨_, ?_, .ltr hr hs, fun c e => (by rw [ho] at e; cases e)⟩
      simp only [execOp, ho, e1, e2]
      exact run_value (lookup_run hu h2 h3 (h w hxx) hf)
    · cases hf'
  · cases hf'
/-- entries from texts to numbers -/
abbrev TN := List (ByteArray × Int × Nat)
def tnE (x : ByteArray × Int × Nat) : MapEntry := { key := .string x.1, val := .int .i64 x.2.1, born := x.2.2 }
def tnIdx (s : ByteArray) : TN → Nat → Option Nat
  | [], _ => none
  | x :: l, i => if s = x.1 then some i else tnIdx s l (i + 1)
def tnGet (s : ByteArray) : TN → Option Int
  | [] => none
  | x :: l => if s = x.1 then some x.2.1 else tnGet s l
/-- one put -/
def tnPut (M : TN × Nat) (s : ByteArray) (v : Int) : TN × Nat :=
  match tnIdx s M.1 0 with
  | some j => (M.1.modify j fun x => (s, v, x.2.2), M.2)
  | none => (M.1 ++ [(s, v, M.2)], M.2 + 1)
theorem ba_beq (a b : ByteArray) : (a == b) = decide (a = b) := by
  have key : (a == b) = true ↔ a = b := by
    obtain ⟨x⟩ := a
    obtain ⟨y⟩ := b
    constructor
    · intro h
      have e : x = y := by simpa using (show (x == y) = true from h)
      rw [e]
    · intro h
      have e : x = y := ByteArray.mk.inj h
      subst e
      show (x == x) = true
      simp
  rw [Bool.eq_iff_iff, key]
  simp
theorem tn_fk {s : ByteArray} : ∀ {l : TN} {i : Nat}, fkN .string (.string s) (l.map tnE) i = some (match tnIdx s l i with | some j => some (j, .int .i64 ((tnGet s l).getD 0)) | none => none)
  | [], i => rfl
  | x :: l, i => by
    simp only [List.map_cons, fkN, tnIdx, tnGet]
    by_cases h : s = x.1
    · have : Instr.sameNow .string (.string s) (tnE x).key = some true := by simp [Instr.sameNow, tnE, h, ba_beq]
      rw [this, if_pos h, if_pos h]
      rfl
    · have : Instr.sameNow .string (.string s) (tnE x).key = some false := by simp [Instr.sameNow, tnE, h, ba_beq]
      rw [this, if_neg h, if_neg h]
      exact tn_fk
theorem tnIdx_get {s : ByteArray} : ∀ {l : TN} {i : Nat}, tnIdx s l i = none ↔ tnGet s l = none
  | [], i => by simp [tnIdx, tnGet]
  | x :: l, i => by
    unfold tnIdx tnGet
    split
    · simp
    · exact tnIdx_get
theorem tnIdx_at {s : ByteArray} : ∀ {l : TN} {i j : Nat}, tnIdx s l i = some j → i ≤ j ∧ ∃ x, l[j - i]? = some x ∧ x.1 = s
  | [], i, j, h => by cases h
  | x :: l, i, j, h => by
    unfold tnIdx at h
    split at h
    · rename_i e
      obtain rfl := Option.some.inj h
      exact ⟨Nat.le_refl _, x, by simp, e.symm⟩
    · obtain ⟨h1, y, h2, h3⟩ := tnIdx_at h
      refine ⟨by omega, y, ?_, h3⟩
      rw [show j - i = (j - (i + 1)) + 1 by omega]
      simpa using h2
theorem tnGet_app {s t : ByteArray} {v : Int} {b : Nat} : ∀ {l : TN}, tnGet s l = none → tnGet t (l ++ [(s, v, b)]) = if t = s then some v else tnGet t l
  | [], _ => by simp [tnGet]
  | x :: l, h => by
    unfold tnGet at h
    split at h
    · cases h
    · rename_i hn
      simp only [List.cons_append, tnGet]
      by_cases ht : t = x.1
      · rw [if_pos ht, if_pos ht]
        have : ¬ t = s := fun e => hn (e ▸ ht)
        rw [if_neg this]
      · rw [if_neg ht, if_neg ht]
        exact tnGet_app h
theorem tnGet_mod {s t : ByteArray} {v : Int} : ∀ {l : TN} {i j : Nat}, tnIdx s l i = some j → tnGet t (l.modify (j - i) fun x => (s, v, x.2.2)) = if t = s then some v else tnGet t l
  | [], i, j, h => by cases h
  | x :: l, i, j, h => by
    have h0 := h
    unfold tnIdx at h
    split at h
    · rename_i e
      obtain rfl := Option.some.inj h
      rw [Nat.sub_self]
      simp only [List.modify_zero_cons, tnGet]
      by_cases ht : t = s
      · rw [if_pos ht, if_pos ht]
      · rw [if_neg ht, if_neg ht, if_neg (fun h => ht (h.trans e.symm))]
    · rename_i hn
      obtain ⟨h1, -⟩ := tnIdx_at h
      rw [show j - i = (j - (i + 1)) + 1 by omega]
      simp only [List.modify_succ_cons, tnGet]
      by_cases ht : t = x.1
      · rw [if_pos ht, if_pos ht, if_neg (fun h => hn (h.symm.trans ht))]
      · rw [if_neg ht, if_neg ht]
        exact tnGet_mod h
theorem tnGet_put {M : TN × Nat} {s t : ByteArray} {v : Int} : tnGet t (tnPut M s v).1 = if t = s then some v else tnGet t M.1 := by
  unfold tnPut
  cases h : tnIdx s M.1 0 with
  | none => exact tnGet_app (tnIdx_get.1 h)
  | some j => have := tnGet_mod (t := t) (v := v) h; simpa using this
theorem upd_upd {i : Nat} {o p : Ob} : ∀ {h : List (Nat × Ob)}, upd i o (upd i p h) = upd i o h
  | [] => rfl
  | (j, q) :: h => by
    unfold upd
    cases hb : Nat.beq i j with
    | true => simp [upd, hb]
    | false => simp [upd, hb, upd_upd]
/-- the same block, told otherwise -/
theorem Rep.swap [Ltr] {X : Kep} {base : Nat} {E : Ren} {H : RW} {w : World} (R : Rep X base E H w) {i b k : Nat} {o o' : Ob} (hl : look i H.h = some o) (hlv : o.live = true) (e : E i = some (b, k)) (hok : Ok E k o' w.heap[b]?) : Rep X base E { H with h := upd i o' H.h } w := by
  refine ⟨R.dom, ?_, ?_, R.new, R.lt, R.bn, R.fx⟩
  · intro j oj hj
    by_cases hji : j = i
    · subst hji
      rw [look_upd hl] at hj
      obtain rfl := Option.some.inj hj
      exact ⟨b, k, e, hok⟩
    · rw [look_upd_ne hji] at hj
      exact R.ok j oj hj
  · intro j j' oj oj' b2 k2 k2' hj lj hj' lj' e2 e2'
    have hh : ∀ {x : Nat} {ox : Ob}, look x (upd i o' H.h) = some ox → ox.live = true → ∃ ox', look x H.h = some ox' ∧ ox'.live = true := by
      intro x ox hx' lx
      by_cases hxi : x = i
      · subst hxi; exact ⟨_, hl, hlv⟩
      · rw [look_upd_ne hxi] at hx'; exact ⟨ox, hx', lx⟩
    obtain ⟨p, hp, lp⟩ := hh hj lj
    obtain ⟨q, hq, lq⟩ := hh hj' lj'
    exact R.inj j j' p q b2 k2 k2' hp lp hq lq e2 e2'
theorem tn_rel [Ltr] {E : Ren} : ∀ {l : TN}, RelM E (l.map tnE) (l.map tnE)
  | [] => .nil
  | _ :: _ => .cons (.same rfl) tn_rel
theorem tn_put_map {M : TN × Nat} {s : ByteArray} {v : Int} {j : Nat} : (M.1.map tnE).modify j (fun e => { e with key := .string s, val := .int .i64 v }) = (M.1.modify j fun x => (s, v, x.2.2)).map tnE := by
  generalize M.1 = l
  induction l generalizing j with
  | nil => simp
  | cons x l ih =>
    cases j with
    | zero => simp [tnE]
    | succ j => simp [ih]
/-- the map from texts to numbers at block a answers at letter i: letter r, or 0 -/
def tnLk (t : TypeId) (a i : Nat) (r : Value) (b : Bool) : ME :=
  ⟨fun op ρ H => match op with
    | .lookup t' m k true => match ρ m with
      | .map (some j) => match look j H.h with
        | some (.opq a') => bif Nat.beq t' t && Nat.beq a' a && pq (ρ k) (Lt i) then some (.value (.tuple ⟨[r, .bool b]⟩), H) else none
        | _ => none
      | _ => none
    | _ => none⟩
theorem tnLk_ok [Ltr] {X : Kep} {base a i : Nat} {t kt el : TypeId} {s : ByteArray} {M : TN × Nat} {r : Value} {b : Bool} (hu : Tryz.prog.underlying t = some (.map kt el)) (hk : Tryz.prog.underlying kt = some .string) (hz : svp Tryz.prog (Go.zeroValue el) = some (.int .i64 0)) (ha : ∀ k y, Ltr.o a k y → y = .map ⟨M.1.map tnE⟩ M.2) (hi : Ltr.v i = some (.string s)) (hb : (tnGet s M.1).isSome = b)
    (hr : ∀ E : Ren, Rel E r (.int .i64 ((tnGet s M.1).getD 0))) : MEOk Tryz.prog X base (tnLk t a i r b) where
  ok := by
    intro o ρ ρ' E H H1 nx w hρ hR e
    simp only [tnLk] at e
    split at e
    · rename_i t' m k ho
      split at e
      · rename_i j hm
        split at e
        · rename_i a' hl
          obtain ⟨hc, e⟩ := cond_some e
          simp only [Bool.and_eq_true] at hc
          obtain ⟨rfl, rfl⟩ := Prod.mk.inj (Option.some.inj e)
          have rm := hρ m (by rw [ho]; simp [Op.operands])
          have rk := hρ k (by rw [ho]; simp [Op.operands])
          rw [pq_eq hc.2] at rk
          have e2 := is_ltr hi E _ rk
          rw [Nat.eq_of_beq_eq_true hc.1.1] at ho
          rw [Nat.eq_of_beq_eq_true hc.1.2] at hl
          have rm' := rm
          rw [hm] at rm'
          generalize hy : ρ' m = y at rm'
          cases rm' with
          | same hf => cases hf
          | @map _ bk kk hE =>
          obtain ⟨b', k', e', y, hxx, hoo⟩ := hR.ok j _ hl
          rw [hE] at e'; obtain ⟨rfl, rfl⟩ := Prod.mk.inj (Option.some.inj e')
          rw [ha _ _ hoo] at hxx
          have R2 := hR.swap (o' := .mp (M.1.map tnE) M.2) hl rfl hE ⟨_, hxx, tn_rel⟩
          have hl2 : look j (upd j (.mp (M.1.map tnE) M.2) H.h) = some (.mp (M.1.map tnE) M.2) := look_upd hl
          have hml : mlk Tryz.prog { H with h := upd j (.mp (M.1.map tnE) M.2) H.h } t (ρ m) (.string s) true = some (.tuple ⟨[.int .i64 ((tnGet s M.1).getD 0), .bool b]⟩) := by
            unfold mlk
            rw [hu]
            have hck : ck Tryz.prog kt (.string s) = true := by unfold ck; rw [hk]
            dsimp only
            rw [hck, cond_true, hm]
            unfold mfd
            dsimp only
            rw [hl2]
            dsimp only
            have : fk Tryz.prog kt (.string s) (M.1.map tnE) = some (match tnIdx s M.1 0 with | some j => some (j, .int .i64 ((tnGet s M.1).getD 0)) | none => none) := by
              unfold fk
              dsimp only
              rw [hk]
              exact tn_fk
            rw [this]
            cases hix : tnIdx s M.1 0 with
            | none =>
              have hg := tnIdx_get.1 hix
              rw [hg] at hb ⊢
              subst hb
              unfold mans
              dsimp only
              rw [hz]
              rfl
            | some j =>
              have hg : (tnGet s M.1).isSome = true := by
                cases hg : tnGet s M.1 with
                | none => rw [tnIdx_get.2 hg] at hix; cases hix
                | some v => rfl
              rw [hg] at hb
              subst hb
              rfl
          obtain ⟨v', h1, h2⟩ := mlk_sound R2 rm hml
          have hv' : v' = .tuple ⟨[.int .i64 ((tnGet s M.1).getD 0), .bool b]⟩ := fl3_eq rfl h2
          refine ⟨E, .value v', w, ?_, Ext.refl E, hR, Kp.refl _ _, ?_⟩
          · simp only [execOp, ho, e2]
            exact run_value h1
          · rw [hv']
            exact .tuple (.cons (hr E) (.cons (.same rfl) .nil))
        · cases e
      · cases e
    · cases e
  q := by
    intro o ρ H H1 nx e
    simp only [tnLk] at e
    split at e
    · refine ⟨fun c h => (by cases h), fun _ => ?_⟩
      split at e
      · split at e
        · obtain ⟨_, e⟩ := cond_some e
          obtain ⟨rfl, rfl⟩ := Prod.mk.inj (Option.some.inj e)
          exact ⟨rfl, _, rfl⟩
        · cases e
      · cases e
    · cases e
/-- a put into the map at block a, which becomes block b -/
def tnUp (t : TypeId) (a b i : Nat) (x : Value) : ME :=
  ⟨fun op ρ H => match op with
    | .mapUpdate t' m k v => match ρ m with
      | .map (some j) => match look j H.h with
        | some (.opq a') => bif Nat.beq t' t && Nat.beq a' a && pq (ρ k) (Lt i) && pq (ρ v) x && Nat.ble 64 j then some (.skip, { H with h := upd j (.opq b) H.h }) else none
        | _ => none
      | _ => none
    | _ => none⟩
theorem tnUp_ok [Ltr] {X : Kep} {a b i : Nat} {t kt el : TypeId} {s : ByteArray} {v : Int} {M : TN × Nat} {x : Value} (hu : Tryz.prog.underlying t = some (.map kt el)) (hk : Tryz.prog.underlying kt = some .string) (ha : ∀ k y, Ltr.o a k y → y = .map ⟨M.1.map tnE⟩ M.2) (hi : Ltr.v i = some (.string s)) (hx : ∀ (E : Ren) u, Rel E x u → u = .int .i64 v)
    (hb : ∀ k, Ltr.o b k (.map ⟨(tnPut M s v).1.map tnE⟩ (tnPut M s v).2)) : MEOk Tryz.prog X 64 (tnUp t a b i x) where
  ok := by
    intro o ρ ρ' E H H1 nx w hρ hR e
    simp only [tnUp] at e
    split at e
    · rename_i t' m k v' ho
      split at e
      · rename_i j hm
        split at e
        · rename_i a' hl
          obtain ⟨hc, e⟩ := cond_some e
          simp only [Bool.and_eq_true] at hc
          obtain ⟨⟨⟨⟨c1, c2⟩, c3⟩, c4⟩, c5⟩ := hc
          obtain ⟨rfl, rfl⟩ := Prod.mk.inj (Option.some.inj e)
          have rm := hρ m (by rw [ho]; simp [Op.operands])
          have rk := hρ k (by rw [ho]; simp [Op.operands])
          have rv := hρ v' (by rw [ho]; simp [Op.operands])
          rw [pq_eq c3] at rk
          rw [pq_eq c4] at rv
          have e2 := is_ltr hi E _ rk
          have e3 := hx E _ rv
          rw [Nat.eq_of_beq_eq_true c1] at ho
          rw [Nat.eq_of_beq_eq_true c2] at hl
          have rm' := rm
          rw [hm] at rm'
          generalize hy : ρ' m = y at rm'
          cases rm' with
          | same hf => cases hf
          | @map _ bk kk hE =>
          obtain ⟨b', k', e', y, hxx, hoo⟩ := hR.ok j _ hl
          rw [hE] at e'; obtain ⟨rfl, rfl⟩ := Prod.mk.inj (Option.some.inj e')
          rw [ha _ _ hoo] at hxx
          have R2 := hR.swap (o' := .mp (M.1.map tnE) M.2) hl rfl hE ⟨_, hxx, tn_rel⟩
          have hl2 : look j (upd j (.mp (M.1.map tnE) M.2) H.h) = some (.mp (M.1.map tnE) M.2) := look_upd hl
          have hmu : mup Tryz.prog 64 { H with h := upd j (.mp (M.1.map tnE) M.2) H.h } t (ρ m) (.string s) (.int .i64 v) = some { H with h := upd j (.mp ((tnPut M s v).1.map tnE) (tnPut M s v).2) H.h } := by
            have hck : ck Tryz.prog kt (.string s) = true := by unfold ck; rw [hk]
            have hfk : fk Tryz.prog kt (.string s) (M.1.map tnE) = some (match tnIdx s M.1 0 with | some j => some (j, .int .i64 ((tnGet s M.1).getD 0)) | none => none) := by
              unfold fk
              dsimp only
              rw [hk]
              exact tn_fk
            unfold mup
            rw [hu, hm]
            dsimp only
            rw [hl2]
            dsimp only
            rw [c5, hck, hfk]
            cases hix : tnIdx s M.1 0 with
            | none =>
              show some _ = some _
              unfold tnPut
              rw [hix]
              simp [upd_upd, tnE]
            | some q =>
              obtain ⟨_, z, hz1, hz2⟩ := tnIdx_at hix
              have hs : same1 (((M.1.map tnE)[q]?.map (·.key)).getD (.string s)) (.string s) = true := by
                rw [List.getElem?_map, show M.1[q]? = some z by simpa using hz1]
                simp [tnE, same1, hz2, ba_beq]
              show (bif same1 (((M.1.map tnE)[q]?.map (·.key)).getD (.string s)) (.string s) then _ else _) = _
              rw [hs, cond_true, tn_put_map]
              unfold tnPut
              rw [hix]
              simp [upd_upd]
          obtain ⟨w', h1, R3, b3⟩ := mup_sound R2 rm (.same rfl) hmu
          obtain ⟨b2, k2, e4, h4⟩ := R3.ok j _ (look_upd hl)
          rw [hE] at e4; obtain ⟨rfl, rfl⟩ := Prod.mk.inj (Option.some.inj e4)
          obtain ⟨es', h5, h6⟩ := h4
          have h7 : es' = (tnPut M s v).1.map tnE := by
            have : ∀ {l : TN} {es : List MapEntry}, RelM E (l.map tnE) es → es = l.map tnE := by
              intro l
              induction l with
              | nil => intro es r; cases r; rfl
              | cons x l ih =>
                intro es r
                cases r with
                | cons r1 r2 =>
                  rw [ih r2, r1.flat_eq rfl]
                  rfl
            exact this h6
          rw [h7] at h5
          have R4 := R3.swap (o' := .opq b) (look_upd hl) rfl hE ⟨_, h5, hb _⟩
          refine ⟨E, .skip, w', ?_, Ext.refl E, ?_, b3, trivial⟩
          · simp only [execOp, ho, e2, e3]
            show (Instr.mapUpdate t (ρ' m) _ _ >>= _).run _ w = _
            rw [Sem.run_bind, h1]
            rfl
          · simpa [upd_upd] using R4
        · cases e
      · cases e
    · cases e
  q := by
    intro o ρ H H1 nx e
    simp only [tnUp] at e
    split at e
    · exact ⟨fun c h => (by cases h), fun h => (by cases h)⟩
    · cases e
end Go.Proofs.YtjfchpfbpmediaaGreatDoor
/-
  table: which fault a category has first; the program's checkNumber, checkCat.
-/
namespace Go.Proofs.YtjfchpfbpmediaaGreatDoor
open Go Go.RowKit
namespace Tbl
/-- has an earlier value the word? -/
def dup (tab : Nat → List ByteArray) (v : Nat) (s : ByteArray) : Bool := (List.range v).any fun u => (tab u).any fun t => decide (t = s)
/-- the first fault of a value's words -/
def wordsE (tab : Nat → List ByteArray) (v : Nat) : List ByteArray → Option Nat
  | [] => none
  | s :: l => bif isW s.data.toList then bif dup tab v s then some 5 else wordsE tab v l else some 10
def numE (cnt : Bool) (n : Nat) : Option Nat := bif decide (n = 0) then some 13 else bif cnt && decide (n < 3) then some 2 else none
/-- .. of the values from v on, k of them -/
def catE (tab : Nat → List ByteArray) (cnt : Bool) : Nat → Nat → Option Nat
  | _, 0 => none
  | v, k + 1 => match numE cnt (tab v).length with
    | some e => some e
    | none => match wordsE tab v (tab v) with
      | some e => some e
      | none => catE tab cnt (v + 1) k
def cnt (c : Nat) : Bool := decide (c = 2) || decide (c = 12)
/-- the words so far, each at its value -/
def putAll (M : TN × Nat) (v : Nat) (l : List ByteArray) : TN × Nat := l.foldl (fun M s => tnPut M s v) M
def putTo (tab : Nat → List ByteArray) : Nat → TN × Nat
  | 0 => ([], 0)
  | v + 1 => putAll (putTo tab v) v (tab v)
structure Inv (tab : Nat → List ByteArray) (v : Nat) (l : List ByteArray) (M : TN × Nat) : Prop where
  a : ∀ u < v, ∀ s ∈ tab u, ∃ n : Nat, n < v ∧ tnGet s M.1 = some (n : Int)
  b : ∀ s n, tnGet s M.1 = some n → ∃ m : Nat, n = (m : Int) ∧ ((m < v ∧ s ∈ tab m) ∨ (m = v ∧ s ∈ l))
  d : ∀ s ∈ l, ∃ n : Nat, n ≤ v ∧ tnGet s M.1 = some (n : Int)
theorem dup_iff {tab : Nat → List ByteArray} {v : Nat} {s : ByteArray} : dup tab v s = true ↔ ∃ u < v, s ∈ tab u := by
  unfold dup
  rw [List.any_eq_true]
  constructor
  · rintro ⟨u, hu, h⟩
    obtain ⟨t, ht, h⟩ := List.any_eq_true.1 h
    exact ⟨u, List.mem_range.1 hu, by rw [← of_decide_eq_true h]; exact ht⟩
  · rintro ⟨u, hu, h⟩
    exact ⟨u, List.mem_range.2 hu, List.any_eq_true.2 ⟨s, h, decide_eq_true rfl⟩⟩
theorem Inv.dup {tab : Nat → List ByteArray} {v : Nat} {l : List ByteArray} {M : TN × Nat} (I : Inv tab v l M) (s : ByteArray) : ((tnGet s M.1).isSome && decide ((tnGet s M.1).getD 0 < v)) = Tbl.dup tab v s := by
  cases hd : Tbl.dup tab v s with
  | true =>
    obtain ⟨u, hu, hs⟩ := dup_iff.1 hd
    obtain ⟨n, hn, hg⟩ := I.a u hu s hs
    rw [hg]
    simpa using hn
  | false =>
    cases hg : tnGet s M.1 with
    | none => rfl
    | some n =>
      obtain ⟨m, rfl, h⟩ := I.b s n hg
      rcases h with ⟨h1, h2⟩ | ⟨h1, _⟩
      · exact absurd (dup_iff.2 ⟨m, h1, h2⟩) (by rw [hd]; simp)
      · subst h1; simp
theorem Inv.put {tab : Nat → List ByteArray} {v : Nat} {l : List ByteArray} {M : TN × Nat} (I : Inv tab v l M) {s : ByteArray} (hd : Tbl.dup tab v s = false) : Inv tab v (l ++ [s]) (tnPut M s v) where
  a := by
    intro u hu t ht
    have hts : ¬ t = s := fun e => by
      have := dup_iff.2 ⟨u, hu, e ▸ ht⟩
      rw [hd] at this
      cases this
    rw [tnGet_put, if_neg hts]
    exact I.a u hu t ht
  b := by
    intro t n h
    rw [tnGet_put] at h
    split at h
    · rename_i e
      obtain rfl := Option.some.inj h
      exact ⟨v, rfl, .inr ⟨rfl, by rw [e]; simp⟩⟩
    · obtain ⟨m, h1, h2⟩ := I.b t n h
      exact ⟨m, h1, h2.imp id fun h => ⟨h.1, List.mem_append_left _ h.2⟩⟩
  d := by
    intro t ht
    rw [tnGet_put]
    split
    · exact ⟨v, Nat.le_refl _, rfl⟩
    · rename_i hn
      rcases List.mem_append.1 ht with h | h
      · exact I.d t h
      · exact absurd (List.mem_singleton.1 h) hn
theorem Inv.next {tab : Nat → List ByteArray} {v : Nat} {M : TN × Nat} (I : Inv tab v (tab v) M) : Inv tab (v + 1) [] M where
  a := by
    intro u hu s hs
    rcases Nat.lt_succ_iff_lt_or_eq.1 hu with h | rfl
    · obtain ⟨n, h1, h2⟩ := I.a u h s hs
      exact ⟨n, by omega, h2⟩
    · obtain ⟨n, h1, h2⟩ := I.d s hs
      exact ⟨n, by omega, h2⟩
  b := by
    intro s n h
    obtain ⟨m, h1, h2⟩ := I.b s n h
    refine ⟨m, h1, .inl ?_⟩
    rcases h2 with h | ⟨rfl, h⟩
    · exact ⟨by omega, h.2⟩
    · exact ⟨by omega, h⟩
  d := fun s hs => by cases hs
theorem inv_zero (tab : Nat → List ByteArray) : Inv tab 0 [] ([], 0) where
  a := fun u hu => absurd hu (Nat.not_lt_zero u)
  b := fun s n h => by cases h
  d := fun s hs => by cases hs
theorem putAll_snoc {M : TN × Nat} {v : Nat} {l : List ByteArray} {s : ByteArray} : putAll M v (l ++ [s]) = tnPut (putAll M v l) s v := by
  unfold putAll
  rw [List.foldl_append]
  rfl
end Tbl
theorem lt_go {L L' : Ltr} {i j : Nat} (h : L.v i = L'.v j) (E E' : Ren) (x : Value) (r : @Rel L E (Lt i) x) : @Rel L' E' (Lt j) x := by
  cases r with
  | same hf => cases hf
  | ltr h1 h2 => exact .ltr (h.symm.trans h1) h2
theorem fl_go {L L' : Ltr} {u : Value} {j : Nat} (hf : flat u = true) (hs : sgl u = true) (h : L'.v j = some u) (E E' : Ren) (x : Value) (r : @Rel L E u x) : @Rel L' E' (Lt j) x := by
  rw [@Rel.flat_eq E L _ _ hf r]
  exact .ltr h hs
/-- letters and blocks go over -/
abbrev traL (v : List (Value × Value)) (o : List (Nat × Nat)) (g : List (Ob × Nat)) : Tra := ⟨v, [], [], [], o, g⟩
theorem traL_ok {L L' : Ltr} {v : List (Value × Value)} {o : List (Nat × Nat)} {g : List (Ob × Nat)} (hv : ∀ p ∈ v, ∀ (E E' : Ren) (x : Value), @Rel L E p.1 x → @Rel L' E' p.2 x) (ho : ∀ p ∈ o, ∀ k y, L.o p.1 k y → L'.o p.2 k y) (hg : ∀ p ∈ g, ∀ (E : Ren) k x, @Ok L E k p.1 x → ∃ y, x = some y ∧ L'.o p.2 k y) : TraOk L L' (traL v o g) where
  v := hv
  s := an
  c := an
  p := an
  o := ho
  g := hg
/-- a table in memory -/
structure TabIn (w : World) (b : Nat) (kind style : Int) (mb clk : Nat) (es : List MapEntry) (tab : Nat → Nat → List ByteArray) : Prop where
  k : w.cell? ⟨b, 1, none⟩ = some (.int .i64 kind)
  s : w.cell? ⟨b, 2, none⟩ = some (.int .i64 style)
  m : w.cell? ⟨b, 3, none⟩ = some (.map (some mb))
  o : w.heap[mb]? = some (.map ⟨es⟩ clk)
  f : ∀ c v : Nat, ∃ q A cp, fk2 c v es 0 = some q ∧ valOr (.slice none 0 0) q = .slice A (tab c v).length cp ∧ (tab c v).length ≤ 1000000 ∧ ∀ (j : Nat) x, (tab c v)[j]? = some x → ∃ a : Addr, A = some a ∧ w.cell? (a.add j) = some (.string x)
  z : ∀ c v : Nat, ∀ x ∈ tab c v, x.size ≤ 1000000
theorem cell_keep {w w' : World} {A : Addr} {v : Value} (h : w.cell? A = some v) (k : ∀ b, (kep w) b → w'.heap[b]? = (kep w).ob b) : w'.cell? A = some v := by
  have hb : A.block < w.heap.size := World.block_lt_of_cell? _ _ h
  have h2 : w'.heap[A.block]? = w.heap[A.block]? := k A.block hb
  rw [← h]
  simp only [World.cell?, h2]
theorem TabIn.keep {w w' : World} {b mb clk : Nat} {kind style : Int} {es : List MapEntry} {tab : Nat → Nat → List ByteArray} (h : TabIn w b kind style mb clk es tab) (k : ∀ b, (kep w) b → w'.heap[b]? = (kep w).ob b) : TabIn w' b kind style mb clk es tab where
  k := cell_keep h.k k
  s := cell_keep h.s k
  m := cell_keep h.m k
  o := (k mb (Array.getElem?_eq_some_iff.1 h.o).1).trans h.o
  f := fun c v => by
    obtain ⟨q, A, cp, h1, h2, h3, h4⟩ := h.f c v
    refine ⟨q, A, cp, h1, h2, h3, fun j x hj => ?_⟩
    obtain ⟨a, h5, h6⟩ := h4 j x hj
    exact ⟨a, h5, cell_keep h6 k⟩
  z := h.z
theorem cnt_any (c : Nat) (w : World) : Calls Tryz.prog 21 #[.int .i64 c] w fun e w' => e = .returned (.bool (Tbl.cnt c)) ∧ Below w.heap.size w w' := by
  have key : ∀ a b : Bool, Sym [binE .eql (Lt 0) (.int .i64 (2 : Nat)) (.bool a), binE .eql (Lt 0) (.int .i64 (12 : Nat)) (.bool b)] [] 30 21 [Lt 0] (.bool (a || b)) := by
    intro a b; cases a <;> cases b <;> (delta Sym; show _ = _; kernel_rfl)
  let _ : Ltr := ltrL [.int .i64 c]
  exact symF [.int .i64 c] 30 (ac (bl rfl rfl (xk_eq rfl) (to_flat rfl)) (ac (bl rfl rfl (xk_eq rfl) (to_flat rfl)) an)) an (.cons (.ltr rfl rfl) .nil) rfl (key _ _)
def errN (o : Option Nat) : Nat := o.getD 0
theorem num_any (c n : Nat) (w : World) : Calls Tryz.prog 24 #[.int .i64 c, .int .i64 n] w fun e w' => e = .returned (.int .i64 (errN (Tbl.numE (Tbl.cnt c) n))) ∧ Below w.heap.size w w' := by
  have key : ∀ a b d : Bool, Sym [binE .eql (Lt 1) (.int .i64 (0 : Nat)) (.bool a), binE .lss (Lt 1) (.int .i64 (3 : Nat)) (.bool b)] [(21, patP [([Lt 0], .bool d)])] 30 24 [Lt 0, Lt 1] (.int .i64 (bif a then (13 : Nat) else bif d && b then (2 : Nat) else (0 : Nat))) := by
    intro a b d; cases a <;> cases b <;> cases d <;> (delta Sym; show _ = _; kernel_rfl)
  let _ : Ltr := ltrL [.int .i64 c, .int .i64 n]
  refine (symF [.int .i64 c, .int .i64 n] 30 (ac (bl rfl rfl (xk_eq rfl) (to_flat rfl)) (ac (bl rfl rfl (xk_lt rfl) (to_flat rfl)) an)) (ac (p1 rfl rfl fun w' _ => cnt_any c w') an) (.cons (.ltr rfl rfl) (.cons (.ltr rfl rfl) .nil)) rfl (key _ _ _)).mono fun e w' p => ⟨p.1.trans ?_, p.2⟩
  unfold Tbl.numE
  cases decide (n = 0) <;> cases Tbl.cnt c <;> cases decide (n < 3) <;> rfl
end Go.Proofs.YtjfchpfbpmediaaGreatDoor
/-
  table: the program's checkCat: its loops, its contract.
-/
namespace Go.Proofs.YtjfchpfbpmediaaGreatDoor
open Go Go.RowKit
/-- the loop over a value's words -/
noncomputable def cwB : Code := inLoop (loopOf Tryz.prog 16 1)
/-- the loop over a category's values -/
noncomputable def cuB : Code := inLoop (loopOf Tryz.prog 16 0)
def cwS : St := ⟨fr 60 [(0, Lt 0), (1, Lt 1), (4, .int .i64 0), (5, .map (some 64)), (6, Lt 4), (15, Lt 12), (16, Lt 4), (34, Lt 5), (35, Lt 6), (36, Lt 8)], ⟨65, [(64, .opq 0)]⟩, []⟩
def cwX (o : Option Nat) : Exit := match o with
  | none => .exit 2
  | some _ => .ret
def cwE (o : Option Nat) : St := match o with
  | none => ⟨fr 60 [(0, Lt 0), (1, Lt 1), (4, .int .i64 0), (5, .map (some 64)), (15, Lt 12), (16, Lt 4)], ⟨65, [(64, .opq 1)]⟩, []⟩
  | some e => ⟨fr 60 [(4, .int .i64 e)], ⟨65, []⟩, []⟩
def cwT : Tra := traL [(.int .i64 0, Lt 8), (Lt 0, Lt 0), (Lt 1, Lt 1), (Lt 4, Lt 4), (Lt 12, Lt 12), (Lt 5, Lt 5), (Lt 6, Lt 6)] [(0, 0)] []
noncomputable def cwC (o : Option Nat) : CE := ⟨.loop cwB, cwT, 65, [], cwS, cwX o, cwE o⟩
/-- from a round to the next one: j + 1 is letter 13 -/
def cwN : Tra := traL [(Lt 13, Lt 8), (Lt 0, Lt 0), (Lt 1, Lt 1), (Lt 4, Lt 4), (Lt 12, Lt 12), (Lt 5, Lt 5), (Lt 6, Lt 6)] [(1, 0)] []
def cwL0 : List OE := [binE .lss (Lt 8) (Lt 6) (.bool true), iaE 37 (Lt 5) (Lt 8) (Lt 9), ldE 9 (Lt 9) (Lt 10)]
def cwW (b : Bool) : List PE := [(25, patP [([Lt 10], .bool b)])]
def cwM (b : Bool) : List ME := [tnLk 55 0 10 (Lt 11) b, tnUp 55 0 1 10 (Lt 4)]
theorem cw_run1 : ComG cwL0 [] [] (cwW false) 60 cwB cwS .ret (traL [] [] []) 65 [] (cwE (some 10)) := by show _ = _; kernel_rfl
theorem cw_run2 : ComG (binE .lss (Lt 11) (Lt 4) (.bool true) :: cwL0) (cwM true) [] (cwW true) 60 cwB cwS .ret (traL [] [] []) 65 [] (cwE (some 5)) := by show _ = _; kernel_rfl
theorem cw_run3 (b d : Bool) (h : (b && d) = false) : ComG (binE .lss (Lt 11) (Lt 4) (.bool d) :: binE .add (Lt 8) (.int .i64 (1 : Nat)) (Lt 13) :: cwL0) (cwM b) [] (cwW true) 60 cwB cwS .normal cwN 65 [] cwS := by
  cases b <;> cases d <;> first | (cases h; done) | (show _ = _; kernel_rfl)
theorem cw_run4 : ComG [binE .lss (Lt 8) (Lt 6) (.bool false)] [] [] [] 60 cwB cwS (.exit 2) (traL [(Lt 0, Lt 0), (Lt 1, Lt 1), (Lt 4, Lt 4), (Lt 12, Lt 12)] [(0, 1)] []) 65 [] (cwE none) := by show _ = _; kernel_rfl
def cuS : St := ⟨fr 60 [(0, Lt 0), (1, Lt 1), (4, .int .i64 0), (5, .map (some 64)), (15, Lt 12), (16, Lt 4)], ⟨65, [(64, .opq 0)]⟩, []⟩
def cuX (o : Option Nat) : Exit := match o with
  | none => .exit 0
  | some _ => .ret
def cuE (o : Option Nat) : St := match o with
  | none => ⟨fr 60 [], ⟨65, []⟩, []⟩
  | some e => ⟨fr 60 [(4, .int .i64 e)], ⟨65, []⟩, []⟩
def cuT : Tra := traL [(.int .i64 0, Lt 4), (Lt 0, Lt 0), (Lt 1, Lt 1), (Lt 12, Lt 12)] [] [(.mp [] 0, 0)]
noncomputable def cuC (o : Option Nat) : CE := ⟨.loop cuB, cuT, 65, [], cuS, cuX o, cuE o⟩
def cuN : Tra := traL [(Lt 7, Lt 4), (Lt 0, Lt 0), (Lt 1, Lt 1), (Lt 12, Lt 12)] [(1, 0)] []
def cuL0 : List OE := [binE .lss (Lt 4) (Lt 12) (.bool true), nilE (Lt 0), faE 42 3 (Lt 0) (Lt 2), ldE 40 (Lt 2) (Lt 3), lkE 40 (Lt 3) (Lt 1) (Lt 4) (Lt 5), lenE 37 (Lt 5) (Lt 6)]
def cuW (e : Nat) : List PE := [(24, patP [([Lt 1, Lt 6], .int .i64 e)])]
theorem cu_run1 (e : Nat) (h : e = 13 ∨ e = 2) : ComG cuL0 [] [] (cuW e) 60 cuB cuS .ret (traL [] [] []) 65 [] (cuE (some e)) := by
  rcases h with rfl | rfl <;> (show _ = _; kernel_rfl)
theorem cu_run2 (e : Nat) (h : e = 10 ∨ e = 5) : ComG cuL0 [] [cwC (some e)] (cuW 0) 60 cuB cuS .ret (traL [] [] []) 65 [] (cuE (some e)) := by
  rcases h with rfl | rfl <;> (show _ = _; kernel_rfl)
theorem cu_run3 : ComG (binE .add (Lt 4) (.int .i64 (1 : Nat)) (Lt 7) :: cuL0) [] [cwC none] (cuW 0) 60 cuB cuS .normal cuN 65 [] cuS := by show _ = _; kernel_rfl
theorem cu_run4 : ComG [binE .lss (Lt 4) (Lt 12) (.bool false)] [] [] [] 60 cuB cuS (.exit 0) (traL [] [] []) 65 [] (cuE none) := by show _ = _; kernel_rfl
theorem cu_run5 (o : Option Nat) (h : o = none ∨ o = some 13 ∨ o = some 2 ∨ o = some 10 ∨ o = some 5) : SymG [] [] [cuC o] [(13, patP [([Lt 1], Lt 12)])] 60 16 [Lt 0, Lt 1] (.int .i64 (errN o : Nat)) := by
  rcases h with rfl | rfl | rfl | rfl | rfl <;> (delta SymG; show _ = _; kernel_rfl)
end Go.Proofs.YtjfchpfbpmediaaGreatDoor
/-
  table: the program's checkCat: its contract.
-/
namespace Go.Proofs.YtjfchpfbpmediaaGreatDoor
open Go Go.RowKit
abbrev mapOb (M : TN × Nat) : Obj := .map ⟨M.1.map tnE⟩ M.2
abbrev ltrM (l : List Value) (M0 M1 : TN × Nat) : Ltr := ltrO l fun i _ y => y = bif Nat.beq i 0 then mapOb M0 else mapOb M1
section
variable {l l' : List Value} {M0 M1 N0 N1 : TN × Nat}
theorem m_at0 (k : Nat) (y : Obj) (h : (ltrM l M0 M1).o 0 k y) : y = mapOb M0 := h
theorem m_at1 (k : Nat) (y : Obj) (h : (ltrM l M0 M1).o 1 k y) : y = mapOb M1 := h
theorem m_to0 {k : Nat} {y : Obj} (h : y = mapOb M0) : (ltrM l M0 M1).o 0 k y := h
theorem m_to1 {k : Nat} {y : Obj} (h : y = mapOb M1) : (ltrM l M0 M1).o 1 k y := h
end
/-- the words of a key, as they lie in memory -/
def slOf (es : List MapEntry) (c v : Nat) : Value := valOr (.slice none 0 0) ((fk2 c v es 0).getD none)
def elOf (s : Value) (j : Nat) : Addr := match s with
  | .slice (some a) _ _ => a.add j
  | _ => ⟨0, 0, none⟩
section
variable {w : World} {b mb clk : Nat} {kind style : Int} {es : List MapEntry} {tab : Nat → Nat → List ByteArray}
theorem TabIn.sl (h : TabIn w b kind style mb clk es tab) (c v : Nat) : ∃ q A cp, fk2 c v es 0 = some q ∧ valOr (.slice none 0 0) q = slOf es c v ∧ slOf es c v = .slice A (tab c v).length cp ∧ (tab c v).length ≤ 1000000 ∧ ∀ (j : Nat) x, (tab c v)[j]? = some x → ∃ a : Addr, A = some a ∧ elOf (slOf es c v) j = a.add j ∧ w.cell? (a.add j) = some (.string x) := by
  obtain ⟨q, A, cp, h1, h2, h3, h4⟩ := h.f c v
  have h5 : valOr (.slice none 0 0) q = slOf es c v := by unfold slOf; rw [h1]; rfl
  refine ⟨q, A, cp, h1, h5, h5 ▸ h2, h3, fun j x hj => ?_⟩
  obtain ⟨a, h6, h7⟩ := h4 j x hj
  refine ⟨a, h6, ?_, h7⟩
  rw [← h5, h2, h6]
  rfl
/-- the letters of a round over a value's words -/
abbrev cwLt (b c mb : Nat) (es : List MapEntry) (tab : Nat → Nat → List ByteArray) (many v j : Nat) : Ltr :=
  ltrM [.pointer (some ⟨b, 0, none⟩), .int .i64 c, .pointer (some ⟨b, 3, none⟩), .map (some mb), .int .i64 v, slOf es c v, .int .i64 (tab c v).length, .int .i64 (v + 1 : Nat), .int .i64 j, .pointer (some (elOf (slOf es c v) j)), .string ((tab c v).getD j ⟨#[]⟩), .int .i64 ((tnGet ((tab c v).getD j ⟨#[]⟩) (Tbl.putAll (Tbl.putTo (tab c) v) v ((tab c v).take j)).1).getD 0), .int .i64 many, .int .i64 (j + 1 : Nat)]
    (Tbl.putAll (Tbl.putTo (tab c) v) v ((tab c v).take j)) (tnPut (Tbl.putAll (Tbl.putTo (tab c) v) v ((tab c v).take j)) ((tab c v).getD j ⟨#[]⟩) v)
/-- .. over a category's values -/
abbrev cuLt (b c mb : Nat) (es : List MapEntry) (tab : Nat → Nat → List ByteArray) (many v : Nat) : Ltr :=
  ltrM [.pointer (some ⟨b, 0, none⟩), .int .i64 c, .pointer (some ⟨b, 3, none⟩), .map (some mb), .int .i64 v, slOf es c v, .int .i64 (tab c v).length, .int .i64 (v + 1 : Nat), .int .i64 0, .int .i64 0, .int .i64 0, .int .i64 0, .int .i64 many]
    (Tbl.putTo (tab c) v) (Tbl.putTo (tab c) (v + 1))
theorem cw_ce (hT : TabIn w b kind style mb clk es tab) (c v many : Nat) {o : Option Nat} (ho : Tbl.wordsE (tab c) v (tab c v) = o) (hI : Tbl.Inv (tab c) v [] (Tbl.putTo (tab c) v)) : @CEOk (cuLt b c mb es tab many v) Tryz.prog 64 (kep w) 64 (cwC o) := by
  obtain ⟨q, A, cp, hq1, hq2, hS, hlen, hel⟩ := hT.sl c v
  refine @ce_of Tryz.prog 64 (kep w) 64 (cuLt b c mb es tab many v) Nat (fun j => cwLt b c mb es tab many v j) (fun _ => cwS) (fun j => (tab c v).length - j) (fun j => j ≤ (tab c v).length ∧ Tbl.wordsE (tab c) v ((tab c v).drop j) = o ∧ Tbl.Inv (tab c) v ((tab c v).take j) (Tbl.putAll (Tbl.putTo (tab c) v) v ((tab c v).take j))) (cwC o) cwB rfl ?_ 0 ⟨Nat.zero_le _, by simpa using ho, by simpa [Tbl.putAll] using hI⟩ rfl ?_ an
  · rintro j ⟨hj, hd, hI⟩ ro k E a w' h
    by_cases hlt : j < (tab c v).length
    · have hgd : (tab c v).getD j ⟨#[]⟩ = (tab c v)[j] := by simp [hlt]
      have hget : (tab c v)[j]? = some (tab c v)[j] := by simp [hlt]
      have hdr : (tab c v).drop j = (tab c v)[j] :: (tab c v).drop (j + 1) := List.drop_eq_getElem_cons hlt
      have htk : (tab c v).take (j + 1) = (tab c v).take j ++ [(tab c v)[j]] := (List.take_append_getElem hlt).symm
      obtain ⟨ad, hA, he, hcell⟩ := hel j (tab c v)[j] hget
      rw [hdr, Tbl.wordsE] at hd
      let L : Ltr := cwLt b c mb es tab many v j
      have h5 : L.v 5 = some (.slice (some ad) (tab c v).length cp) := by show some (slOf es c v) = _; rw [hS, hA]
      have h9 : L.v 9 = some (.pointer (some (ad.add j))) := by show some (Value.pointer (some (elOf (slOf es c v) j))) = _; rw [he]
      have h10 : L.v 10 = some (.string (tab c v)[j]) := by show some (Value.string ((tab c v).getD j ⟨#[]⟩)) = _; rw [hgd]
      have hO0 : ∀ e ∈ cwL0, @OEOkX L Tryz.prog (kep w) e :=
        ac (@bll L _ _ _ _ _ _ _ rfl rfl (xk_lt (decide_eq_true hlt)) (@to_flat L _ rfl)).x (ac (@a_el L 5 9 8 _ _ _ _ h5 rfl h9 hlt).x (ac (@l_el L (kep w) 9 10 _ _ h9 h10 fun w2 k => cell_keep hcell k) an))
      have hW : ∀ r, Tbl.isW (tab c v)[j].data.toList = r → ∀ e ∈ cwW r, @PEOk L Tryz.prog (kep w) 64 e := fun r hr =>
        ac (@p1 L _ _ _ _ _ _ h10 rfl fun w2 _ => (word_any (tab c v)[j] w2).mono fun e w3 p => ⟨by rw [p.1, hr], p.2⟩) an
      cases hw : Tbl.isW (tab c v)[j].data.toList with
      | false =>
        rw [hw] at hd
        obtain rfl : some 10 = o := hd
        exact r_out (by intro h; cases h) (toldG L hO0 an an (hW false hw) (traL_ok an an an) an cw_run1 h)
      | true =>
        rw [hw] at hd
        have hdup := hI.dup (tab c v)[j]
        have hM2 : ∀ r, (tnGet (tab c v)[j] (Tbl.putAll (Tbl.putTo (tab c) v) v ((tab c v).take j)).1).isSome = r → ∀ e ∈ cwM r, @MEOk L Tryz.prog (kep w) 64 e := fun r hr =>
          ac (@tnLk_ok L _ _ 0 10 _ _ _ (tab c v)[j] (Tbl.putAll (Tbl.putTo (tab c) v) v ((tab c v).take j)) _ _ Tryz.underlying55 Tryz.underlying9 (by kernel_rfl) (fun k y h => m_at0 k y h) h10 hr (@to_ltr L 11 _ (by show some (Value.int .i64 ((tnGet ((tab c v).getD j ⟨#[]⟩) _).getD 0)) = _; rw [hgd]) rfl))
            (ac (@tnUp_ok L _ 0 1 10 _ _ _ (tab c v)[j] v (Tbl.putAll (Tbl.putTo (tab c) v) v ((tab c v).take j)) _ Tryz.underlying55 Tryz.underlying9 (fun k y h => m_at0 k y h) h10 (@is_ltr L 4 _ rfl) fun k => m_to1 (by rw [hgd])) an)
        have hlss : ∀ r, decide ((tnGet (tab c v)[j] (Tbl.putAll (Tbl.putTo (tab c) v) v ((tab c v).take j)).1).getD 0 < (v : Int)) = r → @OEOkX L Tryz.prog (kep w) (binE .lss (Lt 11) (Lt 4) (.bool r)) := fun r hr =>
          (@bll L _ _ _ _ _ _ _ rfl rfl (show binX .lss (.int .i64 ((tnGet ((tab c v).getD j ⟨#[]⟩) _).getD 0)) (.int .i64 v) = some (.bool r) by rw [hgd, ← hr]; rfl) (@to_flat L _ rfl)).x
        cases hdd : Tbl.dup (tab c) v (tab c v)[j] with
        | true =>
          rw [hdd] at hd hdup
          obtain rfl : some 5 = o := hd
          simp only [Bool.and_eq_true] at hdup
          exact r_out (by intro h; cases h) (toldG L (ac (hlss true hdup.2) hO0) (hM2 true hdup.1) an (hW true hw) (traL_ok an an an) an cw_run2 h)
        | false =>
          rw [hdd] at hd hdup
          refine r_on (j + 1) (toldG L (ac (hlss _ rfl) (ac (@bl L _ _ _ _ _ _ rfl rfl (x_add (n := j) (m := 1) (by omega)) (@to_ltr L 13 _ rfl rfl)).x hO0)) (hM2 _ rfl) an (hW true hw) (traL_ok ?_ ?_ an) an (cw_run3 _ _ hdup) h) ⟨hlt, hd, ?_⟩ (by show (tab c v).length - (j + 1) < (tab c v).length - j; omega)
          · exact ac (lt_go rfl) (ac (lt_go rfl) (ac (lt_go rfl) (ac (lt_go rfl) (ac (lt_go rfl) (ac (lt_go rfl) (ac (lt_go rfl) an))))))
          · exact ac (fun k y h => m_to0 (by rw [m_at1 k y h, htk, Tbl.putAll_snoc, hgd])) an
          · rw [htk, Tbl.putAll_snoc]
            exact hI.put hdd
    · have hje : j = (tab c v).length := by omega
      have hd' : none = o := by
        rw [List.drop_eq_nil_of_le (by omega)] at hd
        exact hd
      subst hd'
      let L : Ltr := cwLt b c mb es tab many v j
      refine r_out (by intro h; cases h) (toldG L (ac (@bll L _ _ _ _ _ _ _ rfl rfl (xk_lt (decide_eq_false hlt)) (@to_flat L _ rfl)).x an) an an an (traL_ok ?_ ?_ an) an cw_run4 h)
      · exact ac (lt_go rfl) (ac (lt_go rfl) (ac (lt_go rfl) (ac (lt_go rfl) an)))
      · refine ac (fun k y h => m_to1 ?_) an
        rw [m_at0 k y h, hje, List.take_length]
        rfl
  · refine traL_ok ?_ ?_ an
    · exact ac (fl_go rfl rfl rfl) (ac (lt_go rfl) (ac (lt_go rfl) (ac (lt_go rfl) (ac (lt_go rfl) (ac (lt_go rfl) (ac (lt_go rfl) an))))))
    · refine ac (fun k y h => m_to0 ?_) an
      rw [m_at0 k y h]
      rfl
theorem numE_is {b : Bool} {n e : Nat} (h : Tbl.numE b n = some e) : e = 13 ∨ e = 2 := by
  unfold Tbl.numE at h
  cases h1 : decide (n = 0) with
  | true => rw [h1] at h; exact .inl (Option.some.inj h).symm
  | false =>
    rw [h1] at h
    cases h2 : (b && decide (n < 3)) with
    | true => rw [h2] at h; exact .inr (Option.some.inj h).symm
    | false => rw [h2] at h; cases h
theorem wordsE_is {f : Nat → List ByteArray} {v e : Nat} : ∀ {l : List ByteArray}, Tbl.wordsE f v l = some e → e = 10 ∨ e = 5
  | [], h => by cases h
  | s :: l, h => by
    unfold Tbl.wordsE at h
    cases h1 : Tbl.isW s.data.toList with
    | false => rw [h1] at h; exact .inl (Option.some.inj h).symm
    | true =>
      rw [h1] at h
      cases h2 : Tbl.dup f v s with
      | true => rw [h2] at h; exact .inr (Option.some.inj h).symm
      | false => rw [h2] at h; exact wordsE_is h
theorem catE_is {f : Nat → List ByteArray} {b : Bool} {e : Nat} : ∀ {k v : Nat}, Tbl.catE f b v k = some e → e = 13 ∨ e = 2 ∨ e = 10 ∨ e = 5
  | 0, v, h => by cases h
  | k + 1, v, h => by
    unfold Tbl.catE at h
    cases h1 : Tbl.numE b (f v).length with
    | some x => rw [h1] at h; obtain rfl := Option.some.inj h; exact (numE_is h1).imp id .inl
    | none =>
      rw [h1] at h
      dsimp only at h
      cases h2 : Tbl.wordsE f v (f v) with
      | some x => rw [h2] at h; obtain rfl := Option.some.inj h; exact .inr (.inr (wordsE_is h2))
      | none => rw [h2] at h; exact catE_is h
theorem words_none {f : Nat → List ByteArray} {v : Nat} : ∀ {l pre : List ByteArray} {M : TN × Nat}, Tbl.wordsE f v l = none → Tbl.Inv f v pre M → Tbl.Inv f v (pre ++ l) (Tbl.putAll M v l)
  | [], pre, M, _, I => by simpa [Tbl.putAll] using I
  | s :: l, pre, M, h, I => by
    unfold Tbl.wordsE at h
    cases h1 : Tbl.isW s.data.toList with
    | false => rw [h1] at h; cases h
    | true =>
      rw [h1] at h
      cases h2 : Tbl.dup f v s with
      | true => rw [h2] at h; cases h
      | false =>
        rw [h2] at h
        have := words_none (pre := pre ++ [s]) h (I.put h2)
        simpa [Tbl.putAll] using this
theorem cu_ce (hT : TabIn w b kind style mb clk es tab) (c many : Nat) (hmany : many ≤ 1000) {o : Option Nat} (ho : Tbl.catE (tab c) (Tbl.cnt c) 0 many = o) (Lo : Ltr) (l0 : Lo.v 0 = some (.pointer (some ⟨b, 0, none⟩))) (l1 : Lo.v 1 = some (.int .i64 c)) (l12 : Lo.v 12 = some (.int .i64 many)) : @CEOk Lo Tryz.prog 64 (kep w) 64 (cuC o) := by
  refine @ce_of Tryz.prog 64 (kep w) 64 Lo Nat (fun v => cuLt b c mb es tab many v) (fun _ => cuS) (fun v => many - v) (fun v => v ≤ many ∧ Tbl.catE (tab c) (Tbl.cnt c) v (many - v) = o ∧ Tbl.Inv (tab c) v [] (Tbl.putTo (tab c) v)) (cuC o) cuB rfl ?_ 0 ⟨Nat.zero_le _, ho, Tbl.inv_zero _⟩ rfl ?_ (ac rfl an)
  · rintro v ⟨hv, hd, hI⟩ ro k E a w' h
    let L : Ltr := cuLt b c mb es tab many v
    by_cases hlt : v < many
    · obtain ⟨q, A, cp, hq1, hq2, hS, hlen, hel⟩ := hT.sl c v
      obtain ⟨r, hr⟩ : ∃ r, many - v = r + 1 := ⟨many - v - 1, by omega⟩
      rw [hr, Tbl.catE] at hd
      have h5 : L.v 5 = some (.slice A (tab c v).length cp) := by show some (slOf es c v) = _; rw [hS]
      have hO : ∀ e ∈ cuL0, @OEOkX L Tryz.prog (kep w) e :=
        ac (@bll L _ _ _ _ _ _ _ rfl rfl (xk_lt (decide_eq_true hlt)) (@to_flat L _ rfl)).x (ac (@nil_ok L 0 _ rfl).x (ac (@fa_of L 0 2 b _ 3 3 (fa_tab3 b) rfl rfl).x
          (ac (@ld_ok L (kep w) _ 2 _ _ _ (by kernel_rfl) rfl (@to_ltr L 3 _ rfl rfl) fun w2 k => cell_keep hT.m k)
            (ac (@lk_ok L (kep w) 3 5 mb clk _ _ _ _ _ es c v q (.slice none 0 0) Tryz.underlying40 (by kernel_rfl) (by kernel_rfl) rfl (@is_ltr L 1 _ rfl) (@is_ltr L 4 _ rfl) hq1 (by show some (slOf es c v) = _; rw [hq2]) (by rw [hq2, hS]; rfl) fun w2 k => (k mb (Array.getElem?_eq_some_iff.1 hT.o).1).trans hT.o)
              (ac (@l_sl L 5 6 _ _ _ h5 rfl).x an)))))
      have hP : ∀ x, errN (Tbl.numE (Tbl.cnt c) (tab c v).length) = x → ∀ e ∈ cuW x, @PEOk L Tryz.prog (kep w) 64 e := fun x hx =>
        ac (@p2 L _ _ _ 1 6 _ _ _ rfl rfl rfl fun w2 _ => by rw [← hx]; exact num_any c (tab c v).length w2) an
      cases hn : Tbl.numE (Tbl.cnt c) (tab c v).length with
      | some e =>
        rw [hn] at hd
        obtain rfl : some e = o := hd
        exact r_out (by intro h; cases h) (toldG L hO an an (hP e (by rw [hn]; rfl)) (traL_ok an an an) an (cu_run1 e (numE_is hn)) h)
      | none =>
        rw [hn] at hd
        dsimp only at hd
        have hP0 := hP 0 (by rw [hn]; rfl)
        cases hw : Tbl.wordsE (tab c) v (tab c v) with
        | some e =>
          rw [hw] at hd
          obtain rfl : some e = o := hd
          exact r_out (by intro h; cases h) (toldG L hO an (ac (cw_ce hT c v many hw hI) an) hP0 (traL_ok an an an) an (cu_run2 e (wordsE_is hw)) h)
        | none =>
          rw [hw] at hd
          have hI2 : Tbl.Inv (tab c) (v + 1) [] (Tbl.putTo (tab c) (v + 1)) := by
            have := words_none hw hI
            rw [List.nil_append] at this
            exact this.next
          refine r_on (v + 1) (toldG L (ac (@bl L _ _ _ _ _ _ rfl rfl (x_add (n := v) (m := 1) (by omega)) (@to_ltr L 7 _ rfl rfl)).x hO) an (ac (cw_ce hT c v many hw hI) an) hP0 (traL_ok ?_ ?_ an) an cu_run3 h) ⟨hlt, ?_, hI2⟩ (by show many - (v + 1) < many - v; omega)
          · exact ac (lt_go rfl) (ac (lt_go rfl) (ac (lt_go rfl) (ac (lt_go rfl) an)))
          · exact ac (fun k y h => m_to0 (m_at1 k y h)) an
          · rw [show many - (v + 1) = r by omega]
            exact hd
    · have he : many - v = 0 := by omega
      rw [he] at hd
      obtain rfl : none = o := hd
      exact r_out (by intro h; cases h) (toldG L (ac (@bll L _ _ _ _ _ _ _ rfl rfl (xk_lt (decide_eq_false hlt)) (@to_flat L _ rfl)).x an) an an an (traL_ok an an an) an cu_run4 h)
  · refine traL_ok ?_ an ?_
    · exact ac (fl_go rfl rfl rfl) (ac (lt_go l0) (ac (lt_go l1) (ac (lt_go l12) an)))
    · refine ac ?_ an
      intro E k x h
      obtain ⟨es', e1, r⟩ := h
      cases r
      exact ⟨_, e1, m_to0 rfl⟩
theorem ccat_any (hT : TabIn w b kind style mb clk es tab) (c : Nat) : Calls Tryz.prog 16 #[.pointer (some ⟨b, 0, none⟩), .int .i64 c] w fun e w' => e = .returned (.int .i64 (errN (Tbl.catE (tab c) (Tbl.cnt c) 0 (manyI c)) : Nat)) ∧ Below w.heap.size w w' := by
  let L : Ltr := ltrL [.pointer (some ⟨b, 0, none⟩), .int .i64 c, .int .i64 0, .int .i64 0, .int .i64 0, .int .i64 0, .int .i64 0, .int .i64 0, .int .i64 0, .int .i64 0, .int .i64 0, .int .i64 0, .int .i64 (manyI c)]
  have hm : manyI c ≤ 1000 := by
    unfold manyI
    split
    · unfold Tbl.many
      split
      · omega
      · split
        · omega
        · split
          · omega
          · split <;> omega
    · omega
  generalize ho : Tbl.catE (tab c) (Tbl.cnt c) 0 (manyI c) = o
  refine symGF L 60 an an (ac (cu_ce hT c (manyI c) hm ho L rfl rfl rfl) an) (ac (@p1L L _ _ _ _ _ _ _ rfl rfl rfl fun w' _ => many_any c w') an) (.cons (.ltr rfl rfl) (.cons (.ltr rfl rfl) .nil)) rfl (cu_run5 o ?_)
  cases o with
  | none => exact .inl rfl
  | some e =>
    rcases catE_is ho with rfl | rfl | rfl | rfl
    · exact .inr (.inl rfl)
    · exact .inr (.inr (.inl rfl))
    · exact .inr (.inr (.inr (.inl rfl)))
    · exact .inr (.inr (.inr (.inr rfl)))
end
end Go.Proofs.YtjfchpfbpmediaaGreatDoor
