/-
  A run by reckoning: maps.
-/
import Derived.Test.YtkhmbphcjacgnaaGreatDoorEvC
import Derived.Laws.StructEq
namespace Go.Proofs.YtkhmbphcjacgnaaGreatDoor
open Go Go.RowKit
/-- what may be a key: flat, or a row of flat things -/
def kfl : Value → Bool
  | .agg ⟨l⟩ => l.all flat
  | v => flat v
theorem Rel.kfl_eq [Ltr] {E : Ren} {v v' : Value} (hf : kfl v = true) (h : Rel E v v') : v' = v := by
  unfold kfl at hf
  split at hf
  · rename_i l
    cases h with
    | same hf' => rfl
    | agg r' =>
      have : ∀ {l l' : List Value}, l.all flat = true → RelL E l l' → l' = l := by
        intro l
        induction l with
        | nil => intro l' _ r; cases r; rfl
        | cons a l ih =>
          intro l' h r
          simp only [List.all_cons, Bool.and_eq_true] at h
          cases r with
          | cons h1 t1 => rw [h1.flat_eq h.1, ih h.2 t1]
      rw [this hf r']
  · exact h.flat_eq hf
def ibeq : Int → Int → Bool
  | .ofNat a, .ofNat b => Nat.beq a b
  | .negSucc a, .negSucc b => Nat.beq a b
  | _, _ => false
theorem ibeq_eq (a b : Int) : (a == b) = ibeq a b := by
  have hn : ∀ x y : Nat, Nat.beq x y = true ↔ x = y := fun x y => ⟨Nat.eq_of_beq_eq_true, fun h => by rw [h]; exact Nat.beq_refl y⟩
  have key : ibeq a b = true ↔ a = b := by
    cases a with
    | ofNat x => cases b with
      | ofNat y => rw [ibeq, hn]; exact ⟨fun h => by rw [h], fun h => Int.ofNat.inj h⟩
      | negSucc y => exact ⟨fun h => (by cases h), fun h => (by cases h)⟩
    | negSucc x => cases b with
      | ofNat y => exact ⟨fun h => (by cases h), fun h => (by cases h)⟩
      | negSucc y => rw [ibeq, hn]; exact ⟨fun h => by rw [h], fun h => Int.negSucc.inj h⟩
  cases h : ibeq a b with
  | true => rw [key.1 h]; simp
  | false =>
    have : a ≠ b := fun e => by rw [key.2 e] at h; cases h
    simpa using this
/-- the keys are two numbers -/
def twoK (P : Program) (kt : TypeId) : Bool :=
  match P.underlying kt with
  | some (.struct fs) => !P.stoodInHeld kt && match fs.toList with
    | [f, g] => f.name != "_" && g.name != "_" && Nat.beq f.offset 0 && Nat.beq g.offset 1 && (match P.underlying f.type, P.underlying g.type with | some (.int _), some (.int _) => true | _, _ => false)
    | _ => false
  | _ => false
def fk2 (a b : Int) : List MapEntry → Nat → Option (Option (Nat × Value))
  | [], _ => some none
  | e :: es, i => match e.key with
    | .agg ⟨[.int .i64 c, .int .i64 d]⟩ => bif ibeq a c && ibeq b d then some (some (i, e.val)) else fk2 a b es (i + 1)
    | _ => none
def fkN (kind : TypeDesc) (k : Value) : List MapEntry → Nat → Option (Option (Nat × Value))
  | [], _ => some none
  | e :: es, i => match Instr.sameNow kind k e.key with
    | some true => some (some (i, e.val))
    | some false => fkN kind k es (i + 1)
    | none => none
/-- where a key is -/
def fk (P : Program) (kt : TypeId) (k : Value) (es : List MapEntry) : Option (Option (Nat × Value)) :=
  match k with
  | .agg ⟨[.int .i64 a, .int .i64 b]⟩ => bif twoK P kt then fk2 a b es 0 else none
  | _ => match P.underlying kt with
    | some kind => fkN kind k es 0
    | none => none
/-- may it be a key? -/
def ck (P : Program) (kt : TypeId) (k : Value) : Bool :=
  match k with
  | .agg ⟨[.int .i64 _, .int .i64 _]⟩ => twoK P kt
  | .int _ _ | .string _ | .bool _ => match P.underlying kt with
    | some (.int _) | some .string | some .bool => true
    | _ => false
  | _ => false
def same1 (x y : Value) : Bool :=
  match x, y with
  | .bool a, .bool b => a == b
  | .int j a, .int k b => decide (j = k) && ibeq a b
  | .string a, .string b => a == b
  | .agg ⟨[.int .i64 a, .int .i64 b]⟩, .agg ⟨[.int .i64 c, .int .i64 d]⟩ => ibeq a c && ibeq b d
  | _, _ => false
/-- a map is put -/
def mup (P : Program) (base : Nat) (H : RW) (t : TypeId) (m k v : Value) : Option RW :=
  match P.underlying t, m with
  | some (.map kt _), .map (some i) => match look i H.h with
    | some (.mp es c) => bif Nat.ble base i && kfl k && ck P kt k then match fk P kt k es with
        | some (some (j, _)) => bif same1 ((es[j]?.map (·.key)).getD k) k then some { H with h := upd i (.mp (es.modify j fun e => { e with key := k, val := v }) c) H.h } else none
        | some none => some { H with h := upd i (.mp (es ++ [{ key := k, val := v, born := c }]) (c + 1)) H.h }
        | _ => none
      else none
    | _ => none
  | _, _ => none
def mfd (P : Program) (H : RW) (kt : TypeId) (m k : Value) : Option (Option (Nat × Value)) :=
  match m with
  | .map none => some none
  | .map (some i) => match look i H.h with
    | some (.mp es _) => fk P kt k es
    | _ => none
  | _ => none
def mans (P : Program) (el : TypeId) (ok : Bool) (r : Option (Nat × Value)) : Option Value :=
  match r with
  | some (_, v) => some (bif ok then .tuple ⟨[v, .bool true]⟩ else v)
  | none => match svp P (Go.zeroValue el) with
    | some v => bif flat v then some (bif ok then .tuple ⟨[v, .bool false]⟩ else v) else none
    | none => none
def mlk (P : Program) (H : RW) (t : TypeId) (m k : Value) (ok : Bool) : Option Value :=
  match P.underlying t with
  | some (.map kt el) => bif ck P kt k then match mfd P H kt m k with
      | some r => mans P el ok r
      | none => none
    else none
  | _ => none
theorem cond_some' {α : Type} {b : Bool} {x : Option α} {y : α} (h : (bif b then x else none) = some y) : b = true ∧ x = some y := by
  cases b with
  | true => exact ⟨rfl, h⟩
  | false => cases h
section
variable {P : Program} {X : Kep} {base : Nat} {E : Ren} {H : RW} {w w' : World}
/-- the same place, a value that goes with it -/
def RelR [Ltr] (E : Ren) : Option (Nat × Value) → Option (Nat × Value) → Prop
  | none, none => True
  | some (i, v), some (j, u) => i = j ∧ Rel E v u
  | _, _ => False
theorem twoK_of {kt : TypeId} (h : twoK P kt = true) : ∃ f g k k', P.underlying kt = some (.struct #[f, g]) ∧ P.stoodInHeld kt = false ∧ f.name ≠ "_" ∧ g.name ≠ "_" ∧ f.offset = 0 ∧ g.offset = 1 ∧ P.underlying f.type = some (.int k) ∧ P.underlying g.type = some (.int k') := by
  unfold twoK at h
  split at h
  · rename_i fs hu
    simp only [Bool.and_eq_true] at h
    obtain ⟨h0, h⟩ := h
    split at h
    · rename_i f g hl
      simp only [Bool.and_eq_true] at h
      obtain ⟨⟨⟨⟨h1, h2⟩, h3⟩, h4⟩, h5⟩ := h
      split at h5
      · rename_i k k' u1 u2
        have hfs : fs = #[f, g] := by apply Array.ext'; simpa using hl
        subst hfs
        exact ⟨f, g, k, k', hu, by simpa using h0, by simpa using h1, by simpa using h2, Nat.eq_of_beq_eq_true h3, Nat.eq_of_beq_eq_true h4, u1, u2⟩
      · cases h5
    · cases h
  · cases h
theorem part_at {t : TypeId} {k : IntKind} {cs : Array Value} {o : Nat} {v : Value} (hu : P.underlying t = some (.int k)) (hc : cs[o]? = some v) : (part t cs o).run P w = .ok v w := by
  have : (isAgg t).run P w = .ok false w := by
    simp [isAgg, run_underlying hu]
  simp [part, this, hc]
theorem eq2_run {kt : TypeId} (h : twoK P kt = true) (a b c d : Int) (w : World) : (Op.equal kt (.agg #[.int .i64 a, .int .i64 b]) (.agg #[.int .i64 c, .int .i64 d])).run P w = .ok (ibeq a c && ibeq b d) w := by
  obtain ⟨f, g, k, k', hu, hs, n1, n2, o1, o2, u1, u2⟩ := twoK_of h
  have hfo : P.fieldsOf kt = #[f, g] := by simp [Program.fieldsOf, hu]
  show (Op.equalIn (9999 + 1) kt _ _).run P w = _
  rw [run_equalIn_struct w 9999 kt _ _ (by rw [hfo]; exact hu) hs, hfo]
  have p1 : ∀ x y : Value, (part f.type #[x, y] f.offset).run P w = .ok x w := fun x y => part_at u1 (by rw [o1]; rfl)
  have p2 : ∀ x y : Value, (part g.type #[x, y] g.offset).run P w = .ok y w := fun x y => part_at u2 (by rw [o2]; rfl)
  have q1 := run_equalIn_int (P := P) w 9998 f.type .i64 k a c u1
  have q2 := run_equalIn_int (P := P) w 9998 g.type .i64 k' b d u2
  rw [← ibeq_eq, ← ibeq_eq]
  simp only [Op.eqFields, Sem.run_bind, Sem.run_ite, n1, n2, ne_eq, not_false_eq_true, if_true, p1, p2, Result.andThen_ok, q1, q2]
  cases h1 : (a == c) <;> cases h2 : (b == d) <;> simp
theorem fk2_run [Ltr] {kt : TypeId} (h : twoK P kt = true) (a b : Int) : ∀ {es es' : List MapEntry}, RelM E es es' → ∀ (i : Nat) {r : Option (Nat × Value)}, fk2 a b es i = some r →
    ∃ r', (Instr.findAsking kt (.agg #[.int .i64 a, .int .i64 b]) es' i).run P w = .ok r' w ∧ RelR E r r'
  | _, _, .nil, i, r, e => by
    obtain rfl := Option.some.inj e
    exact ⟨none, rfl, trivial⟩
  | _, _, @RelM.cons _ _ k v v' n l l' hv t, i, r, e => by
    unfold fk2 at e
    dsimp only at e
    split at e
    · rename_i c d
      have hq := eq2_run h a b c d w
      cases hb : (ibeq a c && ibeq b d) with
      | true =>
        rw [hb] at e hq
        obtain rfl := Option.some.inj e
        refine ⟨some (i, v'), ?_, rfl, hv⟩
        simp only [Instr.findAsking]
        rw [Sem.run_bind, hq]
        rfl
      | false =>
        rw [hb] at e hq
        obtain ⟨r', h1, h2⟩ := fk2_run h a b t (i + 1) e
        refine ⟨r', ?_, h2⟩
        simp only [Instr.findAsking]
        rw [Sem.run_bind, hq]
        exact h1
    · cases e
theorem findNow_agg {kind : TypeDesc} {l : Array Value} : ∀ {es : List MapEntry} {i : Nat}, Instr.findNow kind (.agg l) es i = none ∨ es = []
  | [], _ => .inr rfl
  | e :: es, i => .inl (by
      have : Instr.sameNow kind (.agg l) e.key = none := by unfold Instr.sameNow; split <;> first | rfl | (rename_i h; cases h) | (rename_i h _; cases h)
      simp [Instr.findNow, this])
theorem fkN_run [Ltr] {kind : TypeDesc} {k : Value} : ∀ {es es' : List MapEntry}, RelM E es es' → ∀ (i : Nat) {r : Option (Nat × Value)}, fkN kind k es i = some r → ∃ r', Instr.findNow kind k es' i = some r' ∧ RelR E r r'
  | _, _, .nil, i, r, e => by
    obtain rfl := Option.some.inj e
    exact ⟨none, rfl, trivial⟩
  | _, _, @RelM.cons _ _ k0 v v' n l l' hv t, i, r, e => by
    unfold fkN at e
    dsimp only at e
    unfold Instr.findNow
    dsimp only
    split at e
    · rename_i hs
      obtain rfl := Option.some.inj e
      exact ⟨some (i, v'), by rw [hs], rfl, hv⟩
    · rename_i hs
      obtain ⟨r', h1, h2⟩ := fkN_run t (i + 1) e
      exact ⟨r', by rw [hs]; exact h1, h2⟩
    · cases e
theorem fk_run [Ltr] {kt : TypeId} {k : Value} {es es' : List MapEntry} (hr : RelM E es es') {r : Option (Nat × Value)} (e : fk P kt k es = some r) (w : World) :
    ∃ r', (Instr.findKey kt k es').run P w = .ok r' w ∧ RelR E r r' := by
  unfold fk at e
  split at e
  · rename_i a b
    obtain ⟨h, e⟩ := cond_some' e
    obtain ⟨f, g, k1, k2, hu, -⟩ := twoK_of h
    obtain ⟨r', h1, h2⟩ := fk2_run (w := w) h a b hr 0 e
    refine ⟨r', ?_, h2⟩
    unfold Instr.findKey
    rw [Sem.run_bind, run_underlying hu, Result.andThen_ok]
    rcases findNow_agg (kind := .struct #[f, g]) (l := #[.int .i64 a, .int .i64 b]) (es := es') (i := 0) with hn | hn
    · rw [hn]; exact h1
    · subst hn
      cases hr
      exact h1
  · split at e
    · rename_i kind hu
      obtain ⟨r', h1, h2⟩ := fkN_run hr 0 e
      refine ⟨r', ?_, h2⟩
      unfold Instr.findKey
      rw [Sem.run_bind, run_underlying hu, Result.andThen_ok, h1]
      rfl
    · cases e
theorem ck_run {kt : TypeId} {k : Value} (h : ck P kt k = true) (b : Bool) (w : World) : (Instr.checkKey b 10000 kt k).run P w = .ok () w := by
  unfold ck at h
  have basic : ∀ {d : TypeDesc}, P.underlying kt = some d → (match d with | .int _ | .string | .bool => true | _ => false) = true → (Instr.checkKey b (9999 + 1) kt k).run P w = .ok () w := by
    intro d hu hd
    unfold Instr.checkKey
    rw [Sem.run_bind, run_underlying hu, Result.andThen_ok]
    cases d <;> first | rfl | cases hd
  split at h
  · rename_i x y
    obtain ⟨f, g, k1, k2, hu, hs, n1, n2, o1, o2, u1, u2⟩ := twoK_of h
    have p1 : ∀ x y : Value, (part f.type #[x, y] f.offset).run P w = .ok x w := fun x y => part_at u1 (by rw [o1]; rfl)
    have p2 : ∀ x y : Value, (part g.type #[x, y] g.offset).run P w = .ok y w := fun x y => part_at u2 (by rw [o2]; rfl)
    have c1 : ∀ {t : TypeId} {k : IntKind} {v : Value}, P.underlying t = some (.int k) → (Instr.checkKey b (9998 + 1) t v).run P w = .ok () w := by
      intro t k v hu
      unfold Instr.checkKey
      rw [Sem.run_bind, run_underlying hu, Result.andThen_ok]
      rfl
    show (Instr.checkKey b (9999 + 1) kt _).run P w = _
    unfold Instr.checkKey
    rw [Sem.run_bind, run_underlying hu, Result.andThen_ok]
    dsimp only
    rw [← Array.forIn_toList]
    simp only [List.forIn_cons, List.forIn_nil, n1, n2, ne_eq, not_false_eq_true, if_true, Sem.run_bind, p1, p2, Result.andThen_ok, Sem.run_pure, c1 u1, c1 u2]
  all_goals
    first
      | cases h
      | (split at h <;> first | (rename_i hu; exact basic hu rfl) | cases h)
theorem ck_und {kt : TypeId} {k : Value} (h : ck P kt k = true) : ∃ d, P.underlying kt = some d := by
  unfold ck at h
  split at h
  · obtain ⟨f, g, k1, k2, hu, -⟩ := twoK_of h
    exact ⟨_, hu⟩
  all_goals
    first
      | cases h
      | (split at h <;> first | (rename_i hu; exact ⟨_, hu⟩) | cases h)
theorem same1_run {x y : Value} (h : same1 x y = true) (w : World) : (Instr.keyThatStays x y).run P w = .ok y w := by
  have : Instr.sameBits 10000 x y = true := by
    unfold same1 at h
    split at h
    · simpa [Instr.sameBits] using h
    · simp only [Bool.and_eq_true, decide_eq_true_eq] at h
      obtain ⟨rfl, h⟩ := h
      rw [← ibeq_eq] at h
      simpa [Instr.sameBits] using h
    · simpa [Instr.sameBits] using h
    · simp only [Bool.and_eq_true] at h
      rw [← ibeq_eq, ← ibeq_eq] at h
      show Instr.sameBits (9999 + 1) _ _ = true
      simp only [Instr.sameBits]
      simpa [Instr.sameBits] using h
    · cases h
  simp [Instr.keyThatStays, this]
theorem Rep.setOb [Ltr] (R : Rep X base E H w) {i b k : Nat} {o o' : Ob} {y : Obj} (hbi : base ≤ i) (hl : look i H.h = some o) (ho : o.live = true) (e : E i = some (b, k)) (hok : Ok E k o' (some y)) :
    Rep X base E { H with h := upd i o' H.h } { w with heap := w.heap.setIfInBounds b y } ∧ Kp X w { w with heap := w.heap.setIfInBounds b y } := by
  obtain ⟨b', k', e', h'⟩ := R.ok i _ hl
  rw [e] at e'; obtain ⟨rfl, rfl⟩ := Prod.mk.inj (Option.some.inj e')
  have hb : b < w.heap.size := h'.lt ho
  have hB : ¬ X b := R.new i b k hbi e
  refine ⟨⟨R.dom, ?_, ?_, R.new, fun j hj => by simpa using R.lt j hj, R.bn, fun j hj => by have : b ≠ j := fun h => hB (h ▸ hj); rw [← R.fx j hj]; simp [Array.getElem?_setIfInBounds_ne this]⟩, ⟨rfl, rfl, rfl, by simp, fun j hj => ?_⟩⟩
  · intro j oj hj
    by_cases hji : j = i
    · subst hji
      rw [look_upd hl] at hj
      obtain rfl := Option.some.inj hj
      exact ⟨b, k, e, by simpa [hb] using hok⟩
    · rw [look_upd_ne hji] at hj
      obtain ⟨b2, k2, e2, h2⟩ := R.ok j oj hj
      refine ⟨b2, k2, e2, h2.at fun lv => ?_⟩
      have hbb : b ≠ b2 := fun hbb => hji (R.inj j i oj _ b2 k2 k hj lv hl ho e2 (hbb ▸ e))
      exact Array.getElem?_setIfInBounds_ne hbb
  · intro j j' oj oj' b2 k2 k2' hj lj hj' lj' e2 e2'
    have hh : ∀ {x : Nat} {ox : Ob}, look x (upd i o' H.h) = some ox → ox.live = true → ∃ ox', look x H.h = some ox' ∧ ox'.live = true := by
      intro x ox hx' lx
      by_cases hxi : x = i
      · subst hxi; exact ⟨_, hl, ho⟩
      · rw [look_upd_ne hxi] at hx'; exact ⟨ox, hx', lx⟩
    obtain ⟨p, hp, lp⟩ := hh hj lj
    obtain ⟨q, hq, lq⟩ := hh hj' lj'
    exact R.inj j j' p q b2 k2 k2' hp lp hq lq e2 e2'
  · have : b ≠ j := fun h => hB (h ▸ hj)
    simp [Array.getElem?_setIfInBounds_ne this]
theorem Rep.setMap [Ltr] (R : Rep X base E H w) {i b k : Nat} {es es' xs' : List MapEntry} {c c' : Nat} (hbi : base ≤ i) (hl : look i H.h = some (.mp es c)) (e : E i = some (b, k)) (hr : RelM E es' xs') :
    Rep X base E { H with h := upd i (.mp es' c') H.h } { w with heap := w.heap.setIfInBounds b (.map ⟨xs'⟩ c') } ∧ Kp X w { w with heap := w.heap.setIfInBounds b (.map ⟨xs'⟩ c') } :=
  R.setOb hbi hl rfl e ⟨xs', rfl, hr⟩
theorem run_getObj {b : Nat} {es : List MapEntry} {c : Nat} (h : w.heap[b]? = some (.map ⟨es⟩ c)) : (Go.getObj b).run P w = .ok (.map ⟨es⟩ c) w := by
  simp [Go.getObj, Sem.run, h]
theorem run_setObj {b : Nat} {es : List MapEntry} {c : Nat} {o : Obj} (h : w.heap[b]? = some (.map ⟨es⟩ c)) : (Go.setObj b o).run P w = .ok () { w with heap := w.heap.setIfInBounds b o } := by
  simp [Go.setObj, Sem.run, h]
theorem mup_sound [Ltr] {t : TypeId} {m m' k v v' : Value} {H1 : RW} (R : Rep X base E H w) (hm : Rel E m m') (hv : Rel E v v') (e : mup P base H t m k v = some H1) :
    ∃ w', (Instr.mapUpdate t m' k v').run P w = .ok () w' ∧ Rep X base E H1 w' ∧ Kp X w w' := by
  unfold mup at e
  split at e
  · rename_i kt el i hu
    split at e
    · rename_i es c hl
      obtain ⟨hc, e⟩ := cond_some' e
      simp only [Bool.and_eq_true] at hc
      have hbi := Nat.le_of_ble_eq_true hc.1.1
      have hck := ck_run hc.2 false w
      cases hm with
      | same hf => cases hf
      | @map _ b kk hE =>
        obtain ⟨b', k', e', ho⟩ := R.ok i _ hl
        rw [hE] at e'; obtain ⟨rfl, rfl⟩ := Prod.mk.inj (Option.some.inj e')
        obtain ⟨xs, hx, hr⟩ := ho
        split at e
        · rename_i j x hfk
          obtain ⟨hs, e⟩ := cond_some' e
          obtain rfl := Option.some.inj e
          obtain ⟨r', h1, h2⟩ := fk_run hr hfk w
          cases r' with
          | none => cases h2
          | some p =>
            obtain ⟨j', u⟩ := p
            obtain ⟨rfl, -⟩ := h2
            obtain ⟨R1, b1⟩ := R.setMap (c' := c) hbi hl hE (hr.set (k := k) hv j)
            refine ⟨_, ?_, R1, b1⟩
            show ((Go.underlying t) >>= _).run P w = _
            rw [Sem.run_bind, run_underlying hu, Result.andThen_ok]
            dsimp only
            rw [Sem.run_bind, run_getObj hx, Result.andThen_ok]
            dsimp only
            rw [Sem.run_bind, hck, Result.andThen_ok, Sem.run_bind, h1, Result.andThen_ok]
            dsimp only
            have hkk := same1_run (P := P) hs w
            have ek : ((⟨xs⟩ : Array MapEntry)[j]?.map (·.key)) = es[j]?.map (·.key) := by simpa using hr.key j
            rw [Sem.run_bind, ek, hkk, Result.andThen_ok, run_setObj hx]
            congr 3
            congr 1
            apply Array.ext'
            simp
        · rename_i hfk
          obtain rfl := Option.some.inj e
          obtain ⟨r', h1, h2⟩ := fk_run hr hfk w
          cases r' with
          | some p => cases h2
          | none =>
            obtain ⟨R1, b1⟩ := R.setMap (c' := c + 1) hbi hl hE (hr.append (.cons (k := k) (n := c) hv .nil))
            refine ⟨_, ?_, R1, b1⟩
            show ((Go.underlying t) >>= _).run P w = _
            rw [Sem.run_bind, run_underlying hu, Result.andThen_ok]
            dsimp only
            rw [Sem.run_bind, run_getObj hx, Result.andThen_ok]
            dsimp only
            rw [Sem.run_bind, hck, Result.andThen_ok, Sem.run_bind, h1, Result.andThen_ok]
            dsimp only
            rw [run_setObj hx]
            simp
        · cases e
    · cases e
  · cases e
theorem mlk_sound [Ltr] {t : TypeId} {m m' k v : Value} {ok : Bool} (R : Rep X base E H w) (hm : Rel E m m') (e : mlk P H t m k ok = some v) : ∃ v', (Instr.lookup t m' k ok).run P w = .ok v' w ∧ Rel E v v' := by
  unfold mlk at e
  split at e
  · rename_i kt el hu
    have hh := cond_some' e
    clear e
    obtain ⟨hc, e⟩ := hh
    have main : ∀ {r : Option (Nat × Value)} {es' : List MapEntry} {m' : Value},
        (∀ {r' : Option (Nat × Value)}, (Instr.findKey kt k es').run P w = .ok r' w → (Instr.lookup t m' k ok).run P w = ((match r' with | some (_, v) => Pure.pure (v, true) | none => (do Pure.pure (← Go.zeroValue el, false)) : Sem (Value × Bool)) >>= fun x => Pure.pure (if ok = true then Value.tuple #[x.1, .bool x.2] else x.1)).run P w) →
        (∃ r', (Instr.findKey kt k es').run P w = .ok r' w ∧ RelR E r r') → mans P el ok r = some v → ∃ v', (Instr.lookup t m' k ok).run P w = .ok v' w ∧ Rel E v v' := by
      rintro r es' m' start ⟨r', h1, h2⟩ e
      replace start := start h1
      cases r with
      | some p =>
        obtain ⟨j, u⟩ := p
        cases r' with
        | none => cases h2
        | some q =>
          obtain ⟨j', u'⟩ := q
          obtain ⟨rfl, hu'⟩ := h2
          obtain rfl := Option.some.inj e
          rw [start]
          cases ok with
          | true => exact ⟨_, rfl, .tuple (.cons hu' (.cons (.same rfl) .nil))⟩
          | false => exact ⟨_, rfl, hu'⟩
      | none =>
        cases r' with
        | some q => cases h2
        | none =>
          unfold mans at e
          dsimp only at e
          split at e
          · rename_i z hz
            obtain ⟨hf, e⟩ := cond_some' e
            obtain rfl := Option.some.inj e
            rw [start]
            dsimp only
            rw [Sem.run_bind, Sem.run_bind, svp_run w hz]
            cases ok with
            | true => exact ⟨_, rfl, .tuple (.cons (.same hf) (.cons (.same rfl) .nil))⟩
            | false => exact ⟨_, rfl, .same hf⟩
          · cases e
    cases hq : mfd P H kt m k with
    | none => rw [hq] at e; cases e
    | some r =>
      rw [hq] at e
      dsimp only at e
      unfold mfd at hq
      split at hq
      · obtain rfl := Option.some.inj hq
        obtain rfl := hm.flat_eq rfl
        refine main (r := none) (es' := []) (fun {r'} h1 => ?_) ⟨none, by
          obtain ⟨d, hd⟩ := ck_und hc
          unfold Instr.findKey
          rw [Sem.run_bind, run_underlying hd]
          rfl, trivial⟩ e
        show ((Go.underlying t) >>= _).run P w = _
        rw [Sem.run_bind, run_underlying hu, Result.andThen_ok]
        dsimp only
        rw [pure_bind, Sem.run_bind, ck_run hc _ w, Result.andThen_ok, Sem.run_bind, h1, Result.andThen_ok]
        cases r' with
        | none => dsimp only; rw [bind_assoc]
        | some p => rfl
      · rename_i i
        split at hq
        · rename_i es c hl
          cases hm with
          | same hf => cases hf
          | @map _ b kk hE =>
            obtain ⟨b', k', e', ho⟩ := R.ok i _ hl
            rw [hE] at e'; obtain ⟨rfl, rfl⟩ := Prod.mk.inj (Option.some.inj e')
            obtain ⟨xs, hx, hr⟩ := ho
            refine main (r := r) (es' := xs) (fun {r'} h1 => ?_) (fk_run hr hq w) e
            show ((Go.underlying t) >>= _).run P w = _
            rw [Sem.run_bind, run_underlying hu, Result.andThen_ok]
            dsimp only
            rw [Sem.run_bind, run_getObj hx, Result.andThen_ok]
            dsimp only
            rw [pure_bind, Sem.run_bind, ck_run hc _ w, Result.andThen_ok, Sem.run_bind, h1, Result.andThen_ok]
            cases r' with
            | none => dsimp only; rw [bind_assoc]
            | some p => rfl
        · cases hq
      · cases hq
  · cases e
end
end Go.Proofs.YtkhmbphcjacgnaaGreatDoor
